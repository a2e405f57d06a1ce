import Derived.Test.YtflhfimgeladaaaQp
import Derived.Test.YtflhfimgeladaaaTc
/-! Copies that are owned. -/
namespace Go.Proofs.Ytflhfimgeladaaa
open Go.RowKit Go.Deep
set_option linter.unusedVariables false
set_option maxRecDepth 100000
set_option linter.unusedSimpArgs false

set_option maxHeartbeats 800000 in
theorem toAcsO_any {S : Nat → Prop} (l : List (Int × Int)) (v : Value) (w : World) (h : Acs w S l v) (hlen : l.length ≤ 1048576) :
    Calls Try.prog 80 #[v] w fun e w' => e = .returned (.slice (some ⟨w.heap.size, 0, none⟩) l.length l.length) ∧ Below w.heap.size w w' ∧ w'.ownsRow w.heap.size 71 2 (.slice (some ⟨w.heap.size, 0, none⟩) l.length l.length) l.length (encA l) := by
  obtain ⟨a, cap, b, off, rfl, hc, hm, ha, hcell⟩ := h
  have HC := (show Hid _ from hcell); clear hcell
  have HA := (show Hid _ from ha); clear ha
  unfold maxLen at hm
  have hmk := run_makeAcs l.length hlen
  go_enter Try.func80, Try.ntmps80
  go_wp2_with fail
  go_loopw [4] (fun i wr => ∃ j : Nat, j ≤ l.length ∧ i = .int .i64 j ∧ Below w.heap.size w wr ∧ Hid (∃ f, wr.rowIs w.heap.size 71 (l.length * 2) f ∧ ∀ i (_ : i < j) (hi : i < l.length), f (i * 2) = .int .i64 l[i].1 ∧ f (i * 2 + 1) = .int .i64 l[i].2)) (fun i _ => l.length - (intOf i).toNat)
  case atStart =>
    obtain ⟨f, hf⟩ := row_made w #[.int .i64 0, .int .i64 0] (l.length * 2) 71
    exact ⟨0, Nat.zero_le _, rfl, bel_alloc _ _, f, hf, fun i hi => absurd hi (Nat.not_lt_zero _)⟩
  case round =>
    obtain ⟨j, hj, rfl, hbel, HM⟩ := hrel
    by_cases hlt : j < l.length
    · obtain ⟨rfl, _⟩ := HA.out (by omega)
      obtain ⟨c0, c1⟩ := HC.out j hlt
      rw [← hbel.cell (lt_of_cell c0)] at c0
      rw [← hbel.cell (lt_of_cell c1)] at c1
      have HCL := (show Hid _ from toAct_any l[j] wr)
      go_wp2_with fail
      refine Calls.mono HCL.out ?_
      rintro e w1 ⟨rfl, hb1⟩
      obtain ⟨f, hrow, hf⟩ := HM.out
      have hrow1 := World.rowIs.of_block hrow (hb1.block _ (World.rowIs.lt hrow))
      have hbw := bel_trans hbel hb1
      have e0 := hrow1.cell (i := j * 2) (by omega)
      have e1 := hrow1.cell (i := j * 2 + 1) (by omega)
      have z0 := hrow1.frozen (j * 2)
      have z1 := hrow1.frozen (j * 2 + 1)
      have HN := (show Hid _ from (⟨hrow1, hf⟩ : _ ∧ _)); clear hrow hf hrow1 HM c0 c1
      go_wp2_with fail
      refine ⟨⟨j + 1, by omega, by go_num, (hbw.setCell (Nat.le_refl _) _).setCell (Nat.le_refl _) _, _, World.rowIs.set (World.rowIs.set HN.out.1 (j * 2) _) (j * 2 + 1) _, fun i hi hl => ?_⟩, by simp [intOf]; omega⟩
      by_cases e : i = j
      · subst e; simp
      · obtain ⟨g0, g1⟩ := HN.out.2 i (by omega) hl
        refine ⟨?_, ?_⟩
        · rw [if_neg (by omega), if_neg (by omega)]; exact g0
        · rw [if_neg (by omega), if_neg (by omega)]; exact g1
    · go_wp2_with fail
      go_ret
      obtain ⟨f, hrow, hf⟩ := HM.out
      refine ⟨rfl, hbel, row_own (k := 2) hrow (Nat.le_refl _) (Nat.le_refl _) (by unfold maxLen; omega) (encA_len l) (fun i hi => ?_)⟩
      have hd : i / 2 < l.length := by omega
      obtain ⟨g0, g1⟩ := hf (i / 2) (by omega) hd
      obtain ⟨x0, x1⟩ := encA_get l (i / 2) hd
      by_cases hp : i % 2 = 0
      · have e5 : i / 2 * 2 = i := by omega
        rw [e5] at g0 x0
        rw [x0, g0]
      · have e5 : i / 2 * 2 + 1 = i := by omega
        rw [e5] at g1 x1
        rw [x1, g1]
theorem irow_own {w : World} {B b : Nat} {l : List Int} (h : IRow w b l) (hl : l.length ≤ maxLen) (hB : B ≤ b) : w.ownsRow B 3 1 (.slice (some ⟨b, 0, none⟩) l.length l.length) l.length (encI l) := by
  have h' : w.rowIs b 3 (l.length * 1) (fun i => .int .i64 (l.getD i 0)) := by rw [Nat.mul_one]; exact h
  exact row_own h' hB (Nat.le_refl _) hl (encI_len l) (fun i hi => by
    have hi' : i < l.length := by omega
    simp [encI, List.getD_eq_getElem?_getD, hi'])
theorem toIntsO_any {S : Nat → Prop} (l : List Int) (v : Value) (w : World) (h : Ints w S l v) (hlen : l.length ≤ 1048576) :
    Calls Try.prog 66 #[v] w fun e w' => e = .returned (.slice (some ⟨w.heap.size, 0, none⟩) l.length l.length) ∧ Below w.heap.size w w' ∧ w'.ownsRow w.heap.size 3 1 (.slice (some ⟨w.heap.size, 0, none⟩) l.length l.length) l.length (encI l) :=
  Calls.mono (toInts_any l v w h hlen) (fun e w' ⟨h1, h2, h3⟩ => ⟨h1, h2, irow_own h3 (by unfold maxLen; omega) (Nat.le_refl _)⟩)
set_option maxHeartbeats 1600000 in
theorem toRAO_any {S : Nat → Prop} (ls : List (List (Int × Int))) (v : Value) (w : World) (h : ARows w S ls v) (hlen : ls.length ≤ 1048576) (hls : ∀ i (hi : i < ls.length), ls[i].length ≤ 1048576) :
    Calls Try.prog 35 #[v] w fun e w' => ∃ rv : List (Value × List (Int × Int)), e = .returned (.slice (some ⟨w.heap.size, 0, none⟩) ls.length ls.length) ∧ Below w.heap.size w w' ∧ rv.map (·.2) = ls ∧ (∀ p ∈ rv, ∃ ad c, p.1 = .slice (some ad) p.2.length c) ∧ Own w' w.heap.size (hdA (.slice (some ⟨w.heap.size, 0, none⟩) ls.length ls.length) rv :: rv.map entA) := by
  obtain ⟨a, cap, b, off, sv, rfl, hc, hm, ha, hcell, hr⟩ := h
  have HC := (show Hid _ from hcell); clear hcell
  have HA := (show Hid _ from ha); clear ha
  have HR := (show Hid _ from hr); clear hr
  have HS := (show Hid _ from hls); clear hls
  unfold maxLen at hm
  have hmk := run_makeARows ls.length hlen
  go_enter Try.func35, Try.ntmps35
  go_wp2_with fail
  go_loopw [4] (fun i wr => ∃ j : Nat, j ≤ ls.length ∧ i = .int .i64 j ∧ Hid (∃ rv : List (Value × List (Int × Int)), Below w.heap.size w wr ∧ rv.map (·.2) = ls.take j ∧ (∀ p ∈ rv, ∃ ad c, p.1 = .slice (some ad) p.2.length c) ∧ Own wr (w.heap.size + 1) (rv.map entA) ∧ w.heap.size + 1 ≤ wr.heap.size ∧ ∃ f, wr.rowIs w.heap.size 69 ls.length f ∧ ∀ i, i < j → (rv.map (·.1))[i]? = some (f i))) (fun i _ => ls.length - (intOf i).toNat)
  case atStart =>
    obtain ⟨f, hf⟩ := row_made w #[.slice none 0 0] ls.length 69
    exact ⟨0, Nat.zero_le _, rfl, [], bel_alloc _ _, by simp, fun p hp => absurd hp (by simp), Own.nil _ _, by simp, f, hf, fun i hi => absurd hi (Nat.not_lt_zero _)⟩
  case round =>
    obtain ⟨j, hj, rfl, HM⟩ := hrel
    obtain ⟨rv, hbel, hdat, hnn, hown, hsz, f, hrow, hf⟩ := HM.out
    by_cases hlt : j < ls.length
    · have hlt' := hlt
      obtain ⟨rfl, _⟩ := HA.out (by omega)
      have c0 := HC.out j hlt
      rw [← hbel.cell (lt_of_cell c0)] at c0
      have hcl := toAcsO_any _ _ wr ((HR.out j hlt).still hbel) (HS.out j hlt)
      have HCL := (show Hid _ from hcl); clear hcl
      obtain ⟨a2, cap2, e2, _⟩ := (HR.out j hlt).form
      rw [e2] at c0 HCL
      have HX := (show Hid _ from (⟨hbel, hdat, hnn, hown, hsz, hrow, hf⟩ : _ ∧ _ ∧ _ ∧ _ ∧ _ ∧ _ ∧ _))
      clear e2 hbel hdat hnn hown hsz hrow hf HM
      go_wp2_with fail
      refine Calls.mono HCL.out ?_
      rintro e w1 ⟨rfl, hb1, ho1⟩
      obtain ⟨hbel, hdat, hnn, hown, hsz, hrow, hf⟩ := HX.out
      have hrow1 := World.rowIs.of_block hrow (hb1.block _ (World.rowIs.lt hrow))
      have e0 := hrow1.cell (i := j) (by omega)
      have z0 := hrow1.frozen j
      have hadd : Own w1 (w.heap.size + 1) (entA (.slice (some ⟨wr.heap.size, 0, none⟩) ls[j].length ls[j].length, ls[j]) :: rv.map entA) := hown.add hb1 (by
        show w1.ownsRow _ _ _ _ _ _
        refine ⟨ho1.1, ?_⟩
        rcases ho1.2 with h0 | ⟨g, cp, cur, r1, r2, r3⟩
        · exact .inl h0
        · exact .inr ⟨g, cp, cur, r1, by omega, r3⟩) (fun b hb => (World.ownsRow.lt ho1 b hb).1)
      have hrl : rv.length = j := by
        have := congrArg List.length hdat
        simp at this
        omega
      have hfin : ∃ rv' : List (Value × List (Int × Int)), Below w.heap.size w (w1.setCell ⟨w.heap.size, j, none⟩ (.slice (some ⟨wr.heap.size, 0, none⟩) ls[j].length ls[j].length)) ∧ rv'.map (·.2) = ls.take (j + 1) ∧ (∀ p ∈ rv', ∃ ad c, p.1 = .slice (some ad) p.2.length c) ∧ Own (w1.setCell ⟨w.heap.size, j, none⟩ (.slice (some ⟨wr.heap.size, 0, none⟩) ls[j].length ls[j].length)) (w.heap.size + 1) (rv'.map entA) ∧ w.heap.size + 1 ≤ (w1.setCell ⟨w.heap.size, j, none⟩ (.slice (some ⟨wr.heap.size, 0, none⟩) ls[j].length ls[j].length)).heap.size ∧ ∃ f, (w1.setCell ⟨w.heap.size, j, none⟩ (.slice (some ⟨wr.heap.size, 0, none⟩) ls[j].length ls[j].length)).rowIs w.heap.size 69 ls.length f ∧ ∀ i, i < j + 1 → (rv'.map (·.1))[i]? = some (f i) := by
        refine ⟨rv ++ [(.slice (some ⟨wr.heap.size, 0, none⟩) ls[j].length ls[j].length, ls[j])], (bel_trans hbel hb1).setCell (p := ⟨w.heap.size, j, none⟩) (Nat.le_refl _) _, ?_, ?_, ?_, ?_, _, hrow1.set j _, fun i hi => ?_⟩
        · rw [List.map_append, hdat, List.take_add_one, List.getElem?_eq_getElem hlt']
          rfl
        · intro p hp
          rcases List.mem_append.1 hp with hp | hp
          · exact hnn p hp
          · rw [List.mem_singleton.1 hp]
            exact ⟨_, _, rfl⟩
        · refine (hadd.set (o := j) (u := .slice (some ⟨wr.heap.size, 0, none⟩) ls[j].length ls[j].length) (Nat.lt_succ_self _)).perm ?_
          rw [List.map_append]
          exact List.perm_append_comm (l₁ := [_])
        · have := hb1.size
          simp [World.setCell]
          omega
        · by_cases e : i = j
          · subst e
            rw [if_pos rfl, List.map_append, List.getElem?_append_right (by simp; omega)]
            simp [hrl]
          · rw [if_neg e, List.map_append, List.getElem?_append_left (by simp; omega)]
            exact hf i (by omega)
      have HF := (show Hid _ from hfin)
      clear hfin hadd hrl hrow1 hbel hdat hnn hown hsz hrow hf hb1 ho1 HX HCL
      go_wp2_with fail
      exact ⟨⟨j + 1, by omega, by go_num, HF⟩, by simp [intOf]; omega⟩
    · obtain rfl : j = ls.length := by omega
      rw [List.take_length] at hdat
      have hrl : rv.length = ls.length := by rw [← hdat]; simp
      have hh : wr.ownsRow w.heap.size 69 1 (.slice (some ⟨w.heap.size, 0, none⟩) ls.length ls.length) rv.length (rv.map (·.1)) := by
        have h1 : wr.rowIs w.heap.size 69 (ls.length * 1) f := by rw [Nat.mul_one]; exact hrow
        have h2 := row_own (B := w.heap.size) (n := ls.length) (cs := rv.map (·.1)) h1 (Nat.le_refl _) (Nat.le_refl _) (by unfold maxLen; omega) (by simp [hrl]) (fun i hi => hf i (by omega))
        rw [hrl]
        exact h2
      have hfo : Own wr w.heap.size (hdA (.slice (some ⟨w.heap.size, 0, none⟩) ls.length ls.length) rv :: rv.map entA) := by
        have hb := hown.base (B' := w.heap.size) (by omega)
        refine ⟨fun e he => ?_, List.pairwise_cons.2 ⟨fun x hx k hk hk' => ?_, hb.ne⟩⟩
        · rcases List.mem_cons.1 he with rfl | he
          · exact hh
          · exact hb.ok e he
        · have q1 : w.heap.size = k := by simpa [Value.ownBlock] using hk
          have q2 := (World.ownsRow.lt (hown.ok x hx) k hk').1
          omega
      have HF := (show Hid _ from (⟨hbel, hdat, hnn, hfo⟩ : _ ∧ _ ∧ _ ∧ _))
      clear HM hbel hdat hnn hown hsz hrow hf hh hfo
      go_wp2_with fail
      go_ret
      exact ⟨rv, rfl, HF.out⟩
set_option maxHeartbeats 1600000 in
theorem toRIO_any {S : Nat → Prop} (ls : List (List Int)) (v : Value) (w : World) (h : IRows w S ls v) (hlen : ls.length ≤ 1048576) (hls : ∀ i (hi : i < ls.length), ls[i].length ≤ 1048576) :
    Calls Try.prog 36 #[v] w fun e w' => ∃ rv : List (Value × List Int), e = .returned (.slice (some ⟨w.heap.size, 0, none⟩) ls.length ls.length) ∧ Below w.heap.size w w' ∧ rv.map (·.2) = ls ∧ (∀ p ∈ rv, ∃ ad c, p.1 = .slice (some ad) p.2.length c) ∧ Own w' w.heap.size (hdG (.slice (some ⟨w.heap.size, 0, none⟩) ls.length ls.length) rv :: rv.map entI) := by
  obtain ⟨a, cap, b, off, sv, rfl, hc, hm, ha, hcell, hr⟩ := h
  have HC := (show Hid _ from hcell); clear hcell
  have HA := (show Hid _ from ha); clear ha
  have HR := (show Hid _ from hr); clear hr
  have HS := (show Hid _ from hls); clear hls
  unfold maxLen at hm
  have hmk := run_makeIRows ls.length hlen
  go_enter Try.func36, Try.ntmps36
  go_wp2_with fail
  go_loopw [4] (fun i wr => ∃ j : Nat, j ≤ ls.length ∧ i = .int .i64 j ∧ Hid (∃ rv : List (Value × List Int), Below w.heap.size w wr ∧ rv.map (·.2) = ls.take j ∧ (∀ p ∈ rv, ∃ ad c, p.1 = .slice (some ad) p.2.length c) ∧ Own wr (w.heap.size + 1) (rv.map entI) ∧ w.heap.size + 1 ≤ wr.heap.size ∧ ∃ f, wr.rowIs w.heap.size 46 ls.length f ∧ ∀ i, i < j → (rv.map (·.1))[i]? = some (f i))) (fun i _ => ls.length - (intOf i).toNat)
  case atStart =>
    obtain ⟨f, hf⟩ := row_made w #[.slice none 0 0] ls.length 46
    exact ⟨0, Nat.zero_le _, rfl, [], bel_alloc _ _, by simp, fun p hp => absurd hp (by simp), Own.nil _ _, by simp, f, hf, fun i hi => absurd hi (Nat.not_lt_zero _)⟩
  case round =>
    obtain ⟨j, hj, rfl, HM⟩ := hrel
    obtain ⟨rv, hbel, hdat, hnn, hown, hsz, f, hrow, hf⟩ := HM.out
    by_cases hlt : j < ls.length
    · have hlt' := hlt
      obtain ⟨rfl, _⟩ := HA.out (by omega)
      have c0 := HC.out j hlt
      rw [← hbel.cell (lt_of_cell c0)] at c0
      have hcl := toIntsO_any _ _ wr ((HR.out j hlt).still hbel) (HS.out j hlt)
      have HCL := (show Hid _ from hcl); clear hcl
      obtain ⟨a2, cap2, e2, _⟩ := (HR.out j hlt).form
      rw [e2] at c0 HCL
      have HX := (show Hid _ from (⟨hbel, hdat, hnn, hown, hsz, hrow, hf⟩ : _ ∧ _ ∧ _ ∧ _ ∧ _ ∧ _ ∧ _))
      clear e2 hbel hdat hnn hown hsz hrow hf HM
      go_wp2_with fail
      refine Calls.mono HCL.out ?_
      rintro e w1 ⟨rfl, hb1, ho1⟩
      obtain ⟨hbel, hdat, hnn, hown, hsz, hrow, hf⟩ := HX.out
      have hrow1 := World.rowIs.of_block hrow (hb1.block _ (World.rowIs.lt hrow))
      have e0 := hrow1.cell (i := j) (by omega)
      have z0 := hrow1.frozen j
      have hadd : Own w1 (w.heap.size + 1) (entI (.slice (some ⟨wr.heap.size, 0, none⟩) ls[j].length ls[j].length, ls[j]) :: rv.map entI) := hown.add hb1 (by
        show w1.ownsRow _ _ _ _ _ _
        refine ⟨ho1.1, ?_⟩
        rcases ho1.2 with h0 | ⟨g, cp, cur, r1, r2, r3⟩
        · exact .inl h0
        · exact .inr ⟨g, cp, cur, r1, by omega, r3⟩) (fun b hb => (World.ownsRow.lt ho1 b hb).1)
      have hrl : rv.length = j := by
        have := congrArg List.length hdat
        simp at this
        omega
      have hfin : ∃ rv' : List (Value × List Int), Below w.heap.size w (w1.setCell ⟨w.heap.size, j, none⟩ (.slice (some ⟨wr.heap.size, 0, none⟩) ls[j].length ls[j].length)) ∧ rv'.map (·.2) = ls.take (j + 1) ∧ (∀ p ∈ rv', ∃ ad c, p.1 = .slice (some ad) p.2.length c) ∧ Own (w1.setCell ⟨w.heap.size, j, none⟩ (.slice (some ⟨wr.heap.size, 0, none⟩) ls[j].length ls[j].length)) (w.heap.size + 1) (rv'.map entI) ∧ w.heap.size + 1 ≤ (w1.setCell ⟨w.heap.size, j, none⟩ (.slice (some ⟨wr.heap.size, 0, none⟩) ls[j].length ls[j].length)).heap.size ∧ ∃ f, (w1.setCell ⟨w.heap.size, j, none⟩ (.slice (some ⟨wr.heap.size, 0, none⟩) ls[j].length ls[j].length)).rowIs w.heap.size 46 ls.length f ∧ ∀ i, i < j + 1 → (rv'.map (·.1))[i]? = some (f i) := by
        refine ⟨rv ++ [(.slice (some ⟨wr.heap.size, 0, none⟩) ls[j].length ls[j].length, ls[j])], (bel_trans hbel hb1).setCell (p := ⟨w.heap.size, j, none⟩) (Nat.le_refl _) _, ?_, ?_, ?_, ?_, _, hrow1.set j _, fun i hi => ?_⟩
        · rw [List.map_append, hdat, List.take_add_one, List.getElem?_eq_getElem hlt']
          rfl
        · intro p hp
          rcases List.mem_append.1 hp with hp | hp
          · exact hnn p hp
          · rw [List.mem_singleton.1 hp]
            exact ⟨_, _, rfl⟩
        · refine (hadd.set (o := j) (u := .slice (some ⟨wr.heap.size, 0, none⟩) ls[j].length ls[j].length) (Nat.lt_succ_self _)).perm ?_
          rw [List.map_append]
          exact List.perm_append_comm (l₁ := [_])
        · have := hb1.size
          simp [World.setCell]
          omega
        · by_cases e : i = j
          · subst e
            rw [if_pos rfl, List.map_append, List.getElem?_append_right (by simp; omega)]
            simp [hrl]
          · rw [if_neg e, List.map_append, List.getElem?_append_left (by simp; omega)]
            exact hf i (by omega)
      have HF := (show Hid _ from hfin)
      clear hfin hadd hrl hrow1 hbel hdat hnn hown hsz hrow hf hb1 ho1 HX HCL
      go_wp2_with fail
      exact ⟨⟨j + 1, by omega, by go_num, HF⟩, by simp [intOf]; omega⟩
    · obtain rfl : j = ls.length := by omega
      rw [List.take_length] at hdat
      have hrl : rv.length = ls.length := by rw [← hdat]; simp
      have hh : wr.ownsRow w.heap.size 46 1 (.slice (some ⟨w.heap.size, 0, none⟩) ls.length ls.length) rv.length (rv.map (·.1)) := by
        have h1 : wr.rowIs w.heap.size 46 (ls.length * 1) f := by rw [Nat.mul_one]; exact hrow
        have h2 := row_own (B := w.heap.size) (n := ls.length) (cs := rv.map (·.1)) h1 (Nat.le_refl _) (Nat.le_refl _) (by unfold maxLen; omega) (by simp [hrl]) (fun i hi => hf i (by omega))
        rw [hrl]
        exact h2
      have hfo : Own wr w.heap.size (hdG (.slice (some ⟨w.heap.size, 0, none⟩) ls.length ls.length) rv :: rv.map entI) := by
        have hb := hown.base (B' := w.heap.size) (by omega)
        refine ⟨fun e he => ?_, List.pairwise_cons.2 ⟨fun x hx k hk hk' => ?_, hb.ne⟩⟩
        · rcases List.mem_cons.1 he with rfl | he
          · exact hh
          · exact hb.ok e he
        · have q1 : w.heap.size = k := by simpa [Value.ownBlock] using hk
          have q2 := (World.ownsRow.lt (hown.ok x hx) k hk').1
          omega
      have HF := (show Hid _ from (⟨hbel, hdat, hnn, hfo⟩ : _ ∧ _ ∧ _ ∧ _))
      clear HM hbel hdat hnn hown hsz hrow hf hh hfo
      go_wp2_with fail
      go_ret
      exact ⟨rv, rfl, HF.out⟩
end Go.Proofs.Ytflhfimgeladaaa
