import Derived.Test.YtflhfimgeladaaaQb
import Derived.Test.YtflhfimgeladaaaTc
import Derived.Lib.BufferMore
/-! The program: where a row stands, copies. -/
namespace Go.Proofs.Ytflhfimgeladaaa
open Go.RowKit Go.Deep
set_option linter.unusedVariables false
set_option maxRecDepth 100000
set_option linter.unusedSimpArgs false

set_option maxHeartbeats 800000 in
theorem eqCloA {S S' : Nat → Prop} (l m : List (Int × Int)) (v u : Value) (g : Nat) (w : World) (h : Acs w S l v) (h' : Acs w S' m u) (hg : w.cell? ⟨g, 0, none⟩ = some u) :
    Calls Try.prog 93 #[v, .pointer (some ⟨g, 0, none⟩)] w fun e w' => e = .returned (.bool (decide (l = m))) ∧ Below w.heap.size w w' := by
  have HC := (show Hid _ from sameA_i l m v u w h h')
  obtain ⟨a, cap, rfl, _⟩ := h.form
  obtain ⟨a', cap', rfl, _⟩ := h'.form
  clear h h'
  generalize decide (l = m) = R at *
  go_enter Try.func93, Try.ntmps93
  go_wp2_with fail
  refine Calls.mono HC.out ?_
  rintro e w1 ⟨rfl, hb⟩
  have HB := (show Hid _ from hb); clear hb hg
  go_wp2_with fail
  go_ret
  exact ⟨rfl, HB.out⟩
set_option maxHeartbeats 1600000 in
theorem indexA_any {S S' : Nat → Prop} (ls : List (List (Int × Int))) (m : List (Int × Int)) (v u : Value) (g : Nat) (w : World) (h : ARows w S ls v) (h' : Acs w S' m u) (hg : w.cell? ⟨g, 0, none⟩ = some u) :
    Calls Try.prog 92 #[v, .func (.func 93) #[] #[.pointer (some ⟨g, 0, none⟩)]] w fun e w' => e = .returned (.int .i64 (if ixO m ls < ls.length then (ixO m ls : Int) else -1)) ∧ Below w.heap.size w w' := by
  have HD := (show Hid _ from fun (j : Nat) (hj : j < ls.length) (sv : Value) (hs : Acs w S ls[j] sv) (w' : World) (hb : Below w.heap.size w w') => eqCloA ls[j] m sv u g w' (hs.still hb) (h'.still hb) ((hb.cell (lt_of_cell hg)).trans hg))
  obtain ⟨a, cap, b, off, sv, rfl, hc, hm, ha, hcell, hr⟩ := h
  have HC := (show Hid _ from hcell); clear hcell
  have HA := (show Hid _ from ha); clear ha
  have HR := (show Hid _ from hr); clear hr
  unfold maxLen at hm
  clear h' hg
  generalize hRes : (if ixO m ls < ls.length then (ixO m ls : Int) else -1) = R
  have HRes := (show Hid _ from hRes); clear hRes
  go_enter Try.func92, Try.ntmps92
  go_wp2_with fail
  go_loopw [8] (fun i wr => ∃ j : Nat, i = .int .i64 j ∧ j ≤ ls.length ∧ Hid (∀ i (hi : i < ls.length), i < j → ls[i] ≠ m) ∧ Below w.heap.size w wr) (fun i _ => ls.length - (intOf i).toNat)
  case atStart => exact ⟨0, rfl, Nat.zero_le _, fun i hi h0 => absurd h0 (Nat.not_lt_zero _), Below.refl _ _⟩
  case round =>
    obtain ⟨j, rfl, hj, HJ, hbel⟩ := hrel
    by_cases hjl : j < ls.length
    · have hjl' := hjl
      obtain ⟨rfl, _⟩ := HA.out (by omega)
      have k0 := HC.out j hjl'
      rw [← hbel.cell (lt_of_cell k0)] at k0
      have hcl := HD.out j hjl' (sv j) (HR.out j hjl') wr hbel
      obtain ⟨a2, cap2, e2, _⟩ := (HR.out j hjl').form
      rw [e2] at k0 hcl
      have HCL := (show Hid _ from hcl); clear hcl e2
      by_cases he : ls[j] = m
      · rw [decide_eq_true he] at HCL
        have HF : Hid (R = (j : Int)) := by
          show R = (j : Int)
          rw [← HRes.out, ixO_at m ls j hjl' he HJ.out, if_pos hjl']
        clear he
        go_wp2_with fail
        go_at_call 93
        refine Calls.mono HCL.out ?_
        rintro e w1 ⟨rfl, hb1⟩
        have HE := (show Hid _ from bel_trans hbel hb1); clear hb1 k0 hbel
        go_wp2_with fail
        go_ret
        exact ⟨by rw [HF.out]; rfl, HE.out⟩
      · rw [decide_eq_false he] at HCL
        have HN : Hid (∀ i (hi : i < ls.length), i < j + 1 → ls[i] ≠ m) := fun i hi hij => by
          by_cases e : i = j
          · subst e; exact he
          · exact HJ.out i hi (by omega)
        clear he
        go_wp2_with fail
        go_at_call 93
        refine Calls.mono HCL.out ?_
        rintro e w1 ⟨rfl, hb1⟩
        have HE := (show Hid _ from bel_trans hbel hb1); clear hb1 k0 hbel
        go_wp2_with fail
        exact ⟨⟨j + 1, by go_num, by omega, HN, HE.out⟩, by simp [intOf]; omega⟩
    · have HF : Hid (R = -1) := by
        show R = -1
        rw [← HRes.out, ixO_no m ls (fun i hi => HJ.out i hi (by omega)), if_neg (Nat.lt_irrefl _)]
      go_wp2_with fail
      go_ret
      exact ⟨by rw [HF.out]; rfl, hbel⟩
/-- What is to be appended. -/
theorem newsA {S : Nat → Prop} {w : World} {l : List (Int × Int)} {ad : Addr} {c : Nat} (h : Acs w S l (.slice (some ad) l.length c)) : ∀ j u, (encA l)[j]? = some u → w.cell? (ad.add j) = some u := by
  obtain ⟨a, cap, b, off, e, hc, hm, ha, hcell⟩ := h
  injection e with e1 e2 e3
  intro j u hu
  have hj : j < (encA l).length := by
    rcases Nat.lt_or_ge j (encA l).length with h | h
    · exact h
    · rw [List.getElem?_eq_none h] at hu; cases hu
  rw [encA_len] at hj
  obtain ⟨e4, _⟩ := ha (by omega)
  rw [e4] at e1
  injection e1 with e1
  subst e1
  have hadd : (⟨b, off, none⟩ : Addr).add j = ⟨b, off + j, none⟩ := by unfold Addr.add; split <;> simp_all
  rw [hadd]
  have hd := hcell (j / 2) (by omega)
  have hg := encA_get l (j / 2) (by omega)
  by_cases hp : j % 2 = 0
  · have e5 : j / 2 * 2 = j := by omega
    rw [e5] at hd hg
    rw [hg.1] at hu
    rw [hd.1]
    exact hu
  · have e5 : j / 2 * 2 + 1 = j := by omega
    have e6 : off + j / 2 * 2 + 1 = off + j := by omega
    rw [e5] at hg
    rw [e6] at hd
    rw [hg.2] at hu
    rw [hd.2]
    exact hu
set_option maxHeartbeats 1600000 in
theorem cloneA_any {S : Nat → Prop} (l : List (Int × Int)) (ad : Addr) (c : Nat) (w : World) (h : Acs w S l (.slice (some ad) l.length c)) (hl : l.length ≤ 1048576) :
    Calls Try.prog 95 #[.slice (some ad) l.length c] w fun e w' => ∃ v', e = .returned v' ∧ Below w.heap.size w w' ∧ w'.ownsRow w.heap.size 71 2 v' l.length (encA l) := by
  obtain ⟨ie, hie, hzz⟩ := Option.map_eq_some_iff.1 info71i
  simp only [Prod.mk.injEq] at hzz
  obtain ⟨hz0, hz1, hz2⟩ := hzz
  have hb0 := bel_alloc w (.cells #[] 71)
  have ho0 : (w.alloc (.cells #[] 71)).ownsRow w.heap.size 71 2 (.slice (some ⟨w.heap.size, 0, none⟩) 0 0) 0 [] := World.ownsRow_lit (base := w.heap.size) (e := 71) (size := 2) w #[] 0 (Nat.le_refl _) (Nat.zero_le _) rfl
  have HO := (show Hid _ from ho0); clear ho0
  have HNW := (show Hid _ from newsA (h.still hb0))
  have HB0 := (show Hid _ from hb0)
  have hnil : ∀ W, (binOp .eql 69 (.slice (some ad) l.length c) (.slice none 0 0)).run Try.prog W = .ok (.bool false) W := fun W => Lib.run_eql_slice_some_nil W _ _ _ Try.underlying69
  clear h hb0
  go_enter Try.func95, Try.ntmps95
  go_wp2_with (at_builtin; refine wpList_append_own_at _ rfl (.tmp 5) (.tmp 6) 69 rfl w.heap.size 71 ie _ 2 16 Try.underlying69 hie hz0 hz1 hz2 rfl (by decide) _ 0 [] rfl HO.out ad l.length c (encA l) rfl (encA_len l) HNW.out (encA_one l) ?c3 (by omega) ?c4 ?nx)
  case c3 => unfold maxLen; omega
  case nx =>
    intro v' w1 hown hgr hnil hat
    have hb1 := grown_bel HB0.out hgr (fun k hk => Nat.le_of_eq (by simpa [Value.ownBlock] using hk)) (by simp)
    have HY := (show Hid _ from (⟨hown, hb1⟩ : _ ∧ _))
    clear hown hb1 hgr hnil hat
    go_wp2_with fail
    go_ret
    exact ⟨_, rfl, HY.out.2, HY.out.1⟩
set_option maxHeartbeats 800000 in
theorem eqCloI {S S' : Nat → Prop} (l m : List Int) (v u : Value) (g : Nat) (w : World) (h : Ints w S l v) (h' : Ints w S' m u) (hg : w.cell? ⟨g, 0, none⟩ = some u) :
    Calls Try.prog 97 #[v, .pointer (some ⟨g, 0, none⟩)] w fun e w' => e = .returned (.bool (decide (l = m))) ∧ Below w.heap.size w w' := by
  have HC := (show Hid _ from sameI_i l m v u w h h')
  obtain ⟨a, cap, rfl, _⟩ := h.form
  obtain ⟨a', cap', rfl, _⟩ := h'.form
  clear h h'
  generalize decide (l = m) = R at *
  go_enter Try.func97, Try.ntmps97
  go_wp2_with fail
  refine Calls.mono HC.out ?_
  rintro e w1 ⟨rfl, hb⟩
  have HB := (show Hid _ from hb); clear hb hg
  go_wp2_with fail
  go_ret
  exact ⟨rfl, HB.out⟩
set_option maxHeartbeats 1600000 in
theorem indexI_any {S S' : Nat → Prop} (ls : List (List Int)) (m : List Int) (v u : Value) (g : Nat) (w : World) (h : IRows w S ls v) (h' : Ints w S' m u) (hg : w.cell? ⟨g, 0, none⟩ = some u) :
    Calls Try.prog 96 #[v, .func (.func 97) #[] #[.pointer (some ⟨g, 0, none⟩)]] w fun e w' => e = .returned (.int .i64 (if ixO m ls < ls.length then (ixO m ls : Int) else -1)) ∧ Below w.heap.size w w' := by
  have HD := (show Hid _ from fun (j : Nat) (hj : j < ls.length) (sv : Value) (hs : Ints w S ls[j] sv) (w' : World) (hb : Below w.heap.size w w') => eqCloI ls[j] m sv u g w' (hs.still hb) (h'.still hb) ((hb.cell (lt_of_cell hg)).trans hg))
  obtain ⟨a, cap, b, off, sv, rfl, hc, hm, ha, hcell, hr⟩ := h
  have HC := (show Hid _ from hcell); clear hcell
  have HA := (show Hid _ from ha); clear ha
  have HR := (show Hid _ from hr); clear hr
  unfold maxLen at hm
  clear h' hg
  generalize hRes : (if ixO m ls < ls.length then (ixO m ls : Int) else -1) = R
  have HRes := (show Hid _ from hRes); clear hRes
  go_enter Try.func96, Try.ntmps96
  go_wp2_with fail
  go_loopw [8] (fun i wr => ∃ j : Nat, i = .int .i64 j ∧ j ≤ ls.length ∧ Hid (∀ i (hi : i < ls.length), i < j → ls[i] ≠ m) ∧ Below w.heap.size w wr) (fun i _ => ls.length - (intOf i).toNat)
  case atStart => exact ⟨0, rfl, Nat.zero_le _, fun i hi h0 => absurd h0 (Nat.not_lt_zero _), Below.refl _ _⟩
  case round =>
    obtain ⟨j, rfl, hj, HJ, hbel⟩ := hrel
    by_cases hjl : j < ls.length
    · have hjl' := hjl
      obtain ⟨rfl, _⟩ := HA.out (by omega)
      have k0 := HC.out j hjl'
      rw [← hbel.cell (lt_of_cell k0)] at k0
      have hcl := HD.out j hjl' (sv j) (HR.out j hjl') wr hbel
      obtain ⟨a2, cap2, e2, _⟩ := (HR.out j hjl').form
      rw [e2] at k0 hcl
      have HCL := (show Hid _ from hcl); clear hcl e2
      by_cases he : ls[j] = m
      · rw [decide_eq_true he] at HCL
        have HF : Hid (R = (j : Int)) := by
          show R = (j : Int)
          rw [← HRes.out, ixO_at m ls j hjl' he HJ.out, if_pos hjl']
        clear he
        go_wp2_with fail
        go_at_call 97
        refine Calls.mono HCL.out ?_
        rintro e w1 ⟨rfl, hb1⟩
        have HE := (show Hid _ from bel_trans hbel hb1); clear hb1 k0 hbel
        go_wp2_with fail
        go_ret
        exact ⟨by rw [HF.out]; rfl, HE.out⟩
      · rw [decide_eq_false he] at HCL
        have HN : Hid (∀ i (hi : i < ls.length), i < j + 1 → ls[i] ≠ m) := fun i hi hij => by
          by_cases e : i = j
          · subst e; exact he
          · exact HJ.out i hi (by omega)
        clear he
        go_wp2_with fail
        go_at_call 97
        refine Calls.mono HCL.out ?_
        rintro e w1 ⟨rfl, hb1⟩
        have HE := (show Hid _ from bel_trans hbel hb1); clear hb1 k0 hbel
        go_wp2_with fail
        exact ⟨⟨j + 1, by go_num, by omega, HN, HE.out⟩, by simp [intOf]; omega⟩
    · have HF : Hid (R = -1) := by
        show R = -1
        rw [← HRes.out, ixO_no m ls (fun i hi => HJ.out i hi (by omega)), if_neg (Nat.lt_irrefl _)]
      go_wp2_with fail
      go_ret
      exact ⟨by rw [HF.out]; rfl, hbel⟩
/-- What is to be appended. -/
theorem newsI {S : Nat → Prop} {w : World} {l : List Int} {ad : Addr} {c : Nat} (h : Ints w S l (.slice (some ad) l.length c)) : ∀ j u, (encI l)[j]? = some u → w.cell? (ad.add j) = some u := by
  obtain ⟨a, cap, b, off, e, hc, hm, ha, hcell⟩ := h
  injection e with e1 e2 e3
  intro j u hu
  have hj : j < (encI l).length := by
    rcases Nat.lt_or_ge j (encI l).length with h | h
    · exact h
    · rw [List.getElem?_eq_none h] at hu; cases hu
  rw [encI_len] at hj
  obtain ⟨e4, _⟩ := ha (by omega)
  rw [e4] at e1
  injection e1 with e1
  subst e1
  have hadd : (⟨b, off, none⟩ : Addr).add j = ⟨b, off + j, none⟩ := by unfold Addr.add; split <;> simp_all
  rw [hadd]
  rw [hcell j (by omega)]
  rw [← hu]
  have hj' : j < l.length := by omega
  simp [encI, hj']
set_option maxHeartbeats 1600000 in
theorem cloneI_any {S : Nat → Prop} (l : List Int) (ad : Addr) (c : Nat) (w : World) (h : Ints w S l (.slice (some ad) l.length c)) (hl : l.length ≤ 1048576) :
    Calls Try.prog 99 #[.slice (some ad) l.length c] w fun e w' => ∃ v', e = .returned v' ∧ Below w.heap.size w w' ∧ w'.ownsRow w.heap.size 3 1 v' l.length (encI l) := by
  obtain ⟨ie, hie, hzz⟩ := Option.map_eq_some_iff.1 info3i
  simp only [Prod.mk.injEq] at hzz
  obtain ⟨hz0, hz1, hz2⟩ := hzz
  have hb0 := bel_alloc w (.cells #[] 3)
  have ho0 : (w.alloc (.cells #[] 3)).ownsRow w.heap.size 3 1 (.slice (some ⟨w.heap.size, 0, none⟩) 0 0) 0 [] := World.ownsRow_lit (base := w.heap.size) (e := 3) (size := 1) w #[] 0 (Nat.le_refl _) (Nat.zero_le _) rfl
  have HO := (show Hid _ from ho0); clear ho0
  have HNW := (show Hid _ from newsI (h.still hb0))
  have HB0 := (show Hid _ from hb0)
  have hnil : ∀ W, (binOp .eql 46 (.slice (some ad) l.length c) (.slice none 0 0)).run Try.prog W = .ok (.bool false) W := fun W => Lib.run_eql_slice_some_nil W _ _ _ Try.underlying46
  clear h hb0
  go_enter Try.func99, Try.ntmps99
  go_wp2_with (at_builtin; refine wpList_append_own_at _ rfl (.tmp 5) (.tmp 6) 46 rfl w.heap.size 3 ie _ 1 8 Try.underlying46 hie hz0 hz1 hz2 rfl (by decide) _ 0 [] rfl HO.out ad l.length c (encI l) rfl (encI_len l) HNW.out (encI_one l) ?c3 (by omega) ?c4 ?nx)
  case c3 => unfold maxLen; omega
  case nx =>
    intro v' w1 hown hgr hnil hat
    have hb1 := grown_bel HB0.out hgr (fun k hk => Nat.le_of_eq (by simpa [Value.ownBlock] using hk)) (by simp)
    have HY := (show Hid _ from (⟨hown, hb1⟩ : _ ∧ _))
    clear hown hb1 hgr hnil hat
    go_wp2_with fail
    go_ret
    exact ⟨_, rfl, HY.out.2, HY.out.1⟩
end Go.Proofs.Ytflhfimgeladaaa
