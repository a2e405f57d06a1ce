import Derived.Test.YtflhfimgeladaaaTb
import Derived.Test.YtflhfimgeladaaaTo3
/-! Copies of rows. -/
namespace Go.Proofs.Ytflhfimgeladaaa
open Go.RowKit Go.Deep
set_option linter.unusedVariables false
set_option maxRecDepth 100000
set_option linter.unusedSimpArgs false

theorem info46i : (Try.prog.info? 46).map (fun i => (i.zero, i.size, i.bytes)) = some (some (.slice none 0 0), 1, 24) := by kernel_rfl
theorem run_makeIRows (n : Nat) (hn : n ≤ 1048576) (w : World) :
    (Instr.makeSlice 28 (.int .i64 (n : Int)) (.int .i64 (n : Int))).run Try.prog w = .ok (.slice (some ⟨w.heap.size, 0, none⟩) n n) (w.alloc (.cells (madeCells #[.slice none 0 0] n) 46)) := by
  obtain ⟨i, hi, hz, hs, hb⟩ := info_parts info46i
  have hr := run_make (P := Try.prog) w 28 46 i _ Try.underlying28 hi hz .i64 .i64 n n (by omega) (Int.le_refl _) (by rw [hb]; omega) (by omega)
  simp only [Int.toNat_natCast, hs, Nat.mul_one] at hr
  exact hr
theorem info69i : (Try.prog.info? 69).map (fun i => (i.zero, i.size, i.bytes)) = some (some (.slice none 0 0), 1, 24) := by kernel_rfl
theorem run_makeARows (n : Nat) (hn : n ≤ 1048576) (w : World) :
    (Instr.makeSlice 39 (.int .i64 (n : Int)) (.int .i64 (n : Int))).run Try.prog w = .ok (.slice (some ⟨w.heap.size, 0, none⟩) n n) (w.alloc (.cells (madeCells #[.slice none 0 0] n) 69)) := by
  obtain ⟨i, hi, hz, hs, hb⟩ := info_parts info69i
  have hr := run_make (P := Try.prog) w 39 69 i _ Try.underlying39 hi hz .i64 .i64 n n (by omega) (Int.le_refl _) (by rw [hb]; omega) (by omega)
  simp only [Int.toNat_natCast, hs, Nat.mul_one] at hr
  exact hr
theorem info71i : (Try.prog.info? 71).map (fun i => (i.zero, i.size, i.bytes)) = some (some (.agg #[.int .i64 0, .int .i64 0]), 2, 16) := by kernel_rfl
theorem run_makeAcs (n : Nat) (hn : n ≤ 1048576) (w : World) :
    (Instr.makeSlice 69 (.int .i64 (n : Int)) (.int .i64 (n : Int))).run Try.prog w = .ok (.slice (some ⟨w.heap.size, 0, none⟩) n n) (w.alloc (.cells (madeCells #[.int .i64 0, .int .i64 0] (n * 2)) 71)) := by
  obtain ⟨i, hi, hzz⟩ := Option.map_eq_some_iff.1 info71i
  simp only [Prod.mk.injEq] at hzz
  obtain ⟨hz, hs, hb⟩ := hzz
  have hr := run_make (P := Try.prog) w 69 71 i _ Try.underlying69 hi hz .i64 .i64 n n (by omega) (Int.le_refl _) (by rw [hb]; omega) (by omega)
  simp only [Int.toNat_natCast, hs] at hr
  exact hr
set_option maxHeartbeats 400000 in
theorem toAct_any (t : Int × Int) (w : World) :
    Calls Try.prog 108 #[.agg #[.int .i64 t.1, .int .i64 t.2]] w fun e w' => e = .returned (.agg #[.int .i64 t.1, .int .i64 t.2]) ∧ Below w.heap.size w w' := by
  go_enter Try.func108, Try.ntmps108
  go_wp2_with fail
  exact bodyPost_ret (v := .agg #[.int .i64 t.1, .int .i64 t.2]) (by simp [results, Try.results108, go_sem]) rfl ⟨rfl, ((bel_alloc _ _).alloc (by simp) _).alloc (by simp; omega) _⟩
set_option maxHeartbeats 800000 in
theorem toAcs_any {S : Nat → Prop} (l : List (Int × Int)) (v : Value) (w : World) (h : Acs w S l v) (hlen : l.length ≤ 1048576) :
    Calls Try.prog 80 #[v] w fun e w' => e = .returned (.slice (some ⟨w.heap.size, 0, none⟩) l.length l.length) ∧ Below w.heap.size w w' ∧ Acs w' (fun b => w.heap.size ≤ b) l (.slice (some ⟨w.heap.size, 0, none⟩) l.length l.length) := by
  obtain ⟨a, cap, b, off, rfl, hc, hm, ha, hcell⟩ := h
  have HC := (show Hid _ from hcell); clear hcell
  have HA := (show Hid _ from ha); clear ha
  unfold maxLen at hm
  have hmk := run_makeAcs l.length hlen
  go_enter Try.func80, Try.ntmps80
  go_wp2_with fail
  go_loopw [4] (fun i wr => ∃ j : Nat, j ≤ l.length ∧ i = .int .i64 j ∧ Below w.heap.size w wr ∧ Hid (∃ f, wr.rowIs w.heap.size 71 (l.length * 2) f ∧ ∀ i (_ : i < j) (hi : i < l.length), f (i * 2) = .int .i64 l[i].1 ∧ f (i * 2 + 1) = .int .i64 l[i].2)) (fun i _ => l.length - (intOf i).toNat)
  case atStart =>
    obtain ⟨f, hf⟩ := row_made w #[.int .i64 0, .int .i64 0] (l.length * 2) 71
    exact ⟨0, Nat.zero_le _, rfl, bel_alloc _ _, f, hf, fun i hi => absurd hi (Nat.not_lt_zero _)⟩
  case round =>
    obtain ⟨j, hj, rfl, hbel, HM⟩ := hrel
    by_cases hlt : j < l.length
    · obtain ⟨rfl, _⟩ := HA.out (by omega)
      obtain ⟨c0, c1⟩ := HC.out j hlt
      rw [← hbel.cell (lt_of_cell c0)] at c0
      rw [← hbel.cell (lt_of_cell c1)] at c1
      have HCL := (show Hid _ from toAct_any l[j] wr)
      go_wp2_with fail
      refine Calls.mono HCL.out ?_
      rintro e w1 ⟨rfl, hb1⟩
      obtain ⟨f, hrow, hf⟩ := HM.out
      have hrow1 := World.rowIs.of_block hrow (hb1.block _ (World.rowIs.lt hrow))
      have hbw := bel_trans hbel hb1
      have e0 := hrow1.cell (i := j * 2) (by omega)
      have e1 := hrow1.cell (i := j * 2 + 1) (by omega)
      have z0 := hrow1.frozen (j * 2)
      have z1 := hrow1.frozen (j * 2 + 1)
      have HN := (show Hid _ from (⟨hrow1, hf⟩ : _ ∧ _)); clear hrow hf hrow1 HM c0 c1
      go_wp2_with fail
      refine ⟨⟨j + 1, by omega, by go_num, (hbw.setCell (Nat.le_refl _) _).setCell (Nat.le_refl _) _, _, World.rowIs.set (World.rowIs.set HN.out.1 (j * 2) _) (j * 2 + 1) _, fun i hi hl => ?_⟩, by simp [intOf]; omega⟩
      by_cases e : i = j
      · subst e; simp
      · obtain ⟨g0, g1⟩ := HN.out.2 i (by omega) hl
        refine ⟨?_, ?_⟩
        · rw [if_neg (by omega), if_neg (by omega)]; exact g0
        · rw [if_neg (by omega), if_neg (by omega)]; exact g1
    · go_wp2_with fail
      go_ret
      obtain ⟨f, hrow, hf⟩ := HM.out
      refine ⟨rfl, hbel, _, _, w.heap.size, 0, rfl, Nat.le_refl _, by unfold maxLen; omega, fun _ => ⟨rfl, Nat.le_refl _⟩, fun i hi => ?_⟩
      obtain ⟨g0, g1⟩ := hf i (by omega) hi
      exact ⟨by rw [Nat.zero_add, hrow.cell (by omega), g0], by rw [Nat.zero_add, hrow.cell (by omega), g1]⟩
set_option maxHeartbeats 400000 in
theorem toRows_any {S : Nat → Prop} (ls : List (List Int)) (v : Value) (w : World) (h : IRows w S ls v) (hlen : ls.length ≤ 1048576) (hls : ∀ i (hi : i < ls.length), ls[i].length ≤ 1048576) :
    Calls Try.prog 36 #[v] w fun e w' => ∃ v', e = .returned v' ∧ Below w.heap.size w w' ∧ IRows w' (fun b => w.heap.size ≤ b) ls v' := by
  obtain ⟨a, cap, b, off, sv, rfl, hc, hm, ha, hcell, hr⟩ := h
  have HC := (show Hid _ from hcell); clear hcell
  have HA := (show Hid _ from ha); clear ha
  have HR := (show Hid _ from hr); clear hr
  have HS := (show Hid _ from hls); clear hls
  unfold maxLen at hm
  have hmk := run_makeIRows ls.length hlen
  go_enter Try.func36, Try.ntmps36
  go_wp2_with fail
  go_loopw [4] (fun i wr => ∃ j : Nat, j ≤ ls.length ∧ i = .int .i64 j ∧ Below w.heap.size w wr ∧ Hid (∃ f, wr.rowIs w.heap.size 46 ls.length f ∧ ∀ i (_ : i < j) (hi : i < ls.length), Ints wr (fun b => w.heap.size < b) ls[i] (f i))) (fun i _ => ls.length - (intOf i).toNat)
  case atStart =>
    obtain ⟨f, hf⟩ := row_made w #[.slice none 0 0] ls.length 46
    exact ⟨0, Nat.zero_le _, rfl, bel_alloc _ _, f, hf, fun i hi => absurd hi (Nat.not_lt_zero _)⟩
  case round =>
    obtain ⟨j, hj, rfl, hbel, HM⟩ := hrel
    by_cases hlt : j < ls.length
    · obtain ⟨rfl, _⟩ := HA.out (by omega)
      have c0 := HC.out j hlt
      rw [← hbel.cell (lt_of_cell c0)] at c0
      have hcl := toInts_any _ _ wr ((HR.out j hlt).still hbel) (HS.out j hlt)
      have HCL := (show Hid _ from hcl); clear hcl
      obtain ⟨a2, cap2, e2, _⟩ := (HR.out j hlt).form
      rw [e2] at c0 HCL
      clear e2
      go_wp2_with fail
      refine Calls.mono HCL.out ?_
      rintro e w1 ⟨rfl, hb1, hi1⟩
      obtain ⟨f, hrow, hf⟩ := HM.out
      have hg := World.rowIs.lt hrow
      have hrow1 := World.rowIs.of_block hrow (hb1.block _ hg)
      have hf1 : ∀ i (_ : i < j) (hi : i < ls.length), Ints w1 (fun b => w.heap.size < b) ls[i] (f i) := fun i h1 h2 => (hf i h1 h2).still hb1
      have hnew : Ints w1 (fun b => w.heap.size < b) ls[j] (.slice (some ⟨wr.heap.size, 0, none⟩) ls[j].length ls[j].length) := (hi1.ints (by have := HS.out j hlt; unfold maxLen; omega)).mono (fun b hb => by subst hb; exact hg)
      have hbw := bel_trans hbel hb1
      have e0 := hrow1.cell (i := j) (by omega)
      have z0 := hrow1.frozen j
      have HN := (show Hid _ from (⟨hrow1, hf1, hnew⟩ : _ ∧ _ ∧ _)); clear hrow hf hrow1 hf1 hnew hi1 hg HM
      go_wp2_with fail
      refine ⟨⟨j + 1, by omega, by go_num, hbw.setCell (Nat.le_refl _) _, _, World.rowIs.set HN.out.1 j (.slice (some ⟨wr.heap.size, 0, none⟩) ls[j].length ls[j].length), fun i hi hl => ?_⟩, by simp [intOf]; omega⟩
      by_cases e : i = j
      · subst e; simp; exact HN.out.2.2.keep (fun b hb _ => blk_setCell_other _ _ _ _ (by show b ≠ w.heap.size; omega))
      · rw [if_neg e]; exact (HN.out.2.1 i (by omega) hl).keep (fun b hb _ => blk_setCell_other _ _ _ _ (by show b ≠ w.heap.size; omega))
    · go_wp2_with fail
      go_ret
      obtain ⟨f, hrow, hf⟩ := HM.out
      exact ⟨_, rfl, hbel, _, _, w.heap.size, 0, f, rfl, Nat.le_refl _, by unfold maxLen; omega, fun _ => ⟨rfl, Nat.le_refl _⟩, fun i hi => by rw [Nat.zero_add]; exact hrow.cell hi, fun i hi => (hf i (by omega) hi).mono (fun _ hb => Nat.le_of_lt hb)⟩

set_option maxHeartbeats 400000 in
theorem toARows_any {S : Nat → Prop} (ls : List (List (Int × Int))) (v : Value) (w : World) (h : ARows w S ls v) (hlen : ls.length ≤ 1048576) (hls : ∀ i (hi : i < ls.length), ls[i].length ≤ 1048576) :
    Calls Try.prog 35 #[v] w fun e w' => ∃ v', e = .returned v' ∧ Below w.heap.size w w' ∧ ARows w' (fun b => w.heap.size ≤ b) ls v' := by
  obtain ⟨a, cap, b, off, sv, rfl, hc, hm, ha, hcell, hr⟩ := h
  have HC := (show Hid _ from hcell); clear hcell
  have HA := (show Hid _ from ha); clear ha
  have HR := (show Hid _ from hr); clear hr
  have HS := (show Hid _ from hls); clear hls
  unfold maxLen at hm
  have hmk := run_makeARows ls.length hlen
  go_enter Try.func35, Try.ntmps35
  go_wp2_with fail
  go_loopw [4] (fun i wr => ∃ j : Nat, j ≤ ls.length ∧ i = .int .i64 j ∧ Below w.heap.size w wr ∧ Hid (∃ f, wr.rowIs w.heap.size 69 ls.length f ∧ ∀ i (_ : i < j) (hi : i < ls.length), Acs wr (fun b => w.heap.size < b) ls[i] (f i))) (fun i _ => ls.length - (intOf i).toNat)
  case atStart =>
    obtain ⟨f, hf⟩ := row_made w #[.slice none 0 0] ls.length 69
    exact ⟨0, Nat.zero_le _, rfl, bel_alloc _ _, f, hf, fun i hi => absurd hi (Nat.not_lt_zero _)⟩
  case round =>
    obtain ⟨j, hj, rfl, hbel, HM⟩ := hrel
    by_cases hlt : j < ls.length
    · obtain ⟨rfl, _⟩ := HA.out (by omega)
      have c0 := HC.out j hlt
      rw [← hbel.cell (lt_of_cell c0)] at c0
      have hcl := toAcs_any _ _ wr ((HR.out j hlt).still hbel) (HS.out j hlt)
      have HCL := (show Hid _ from hcl); clear hcl
      obtain ⟨a2, cap2, e2, _⟩ := (HR.out j hlt).form
      rw [e2] at c0 HCL
      clear e2
      go_wp2_with fail
      refine Calls.mono HCL.out ?_
      rintro e w1 ⟨rfl, hb1, hi1⟩
      obtain ⟨f, hrow, hf⟩ := HM.out
      have hg := World.rowIs.lt hrow
      have hrow1 := World.rowIs.of_block hrow (hb1.block _ hg)
      have hf1 : ∀ i (_ : i < j) (hi : i < ls.length), Acs w1 (fun b => w.heap.size < b) ls[i] (f i) := fun i h1 h2 => (hf i h1 h2).still hb1
      have hnew : Acs w1 (fun b => w.heap.size < b) ls[j] (.slice (some ⟨wr.heap.size, 0, none⟩) ls[j].length ls[j].length) := hi1.mono (fun b hb => Nat.lt_of_lt_of_le hg hb)
      have hbw := bel_trans hbel hb1
      have e0 := hrow1.cell (i := j) (by omega)
      have z0 := hrow1.frozen j
      have HN := (show Hid _ from (⟨hrow1, hf1, hnew⟩ : _ ∧ _ ∧ _)); clear hrow hf hrow1 hf1 hnew hi1 hg HM
      go_wp2_with fail
      refine ⟨⟨j + 1, by omega, by go_num, hbw.setCell (Nat.le_refl _) _, _, World.rowIs.set HN.out.1 j (.slice (some ⟨wr.heap.size, 0, none⟩) ls[j].length ls[j].length), fun i hi hl => ?_⟩, by simp [intOf]; omega⟩
      by_cases e : i = j
      · subst e; simp; exact HN.out.2.2.keep (fun b hb _ => blk_setCell_other _ _ _ _ (by show b ≠ w.heap.size; omega))
      · rw [if_neg e]; exact (HN.out.2.1 i (by omega) hl).keep (fun b hb _ => blk_setCell_other _ _ _ _ (by show b ≠ w.heap.size; omega))
    · go_wp2_with fail
      go_ret
      obtain ⟨f, hrow, hf⟩ := HM.out
      exact ⟨_, rfl, hbel, _, _, w.heap.size, 0, f, rfl, Nat.le_refl _, by unfold maxLen; omega, fun _ => ⟨rfl, Nat.le_refl _⟩, fun i hi => by rw [Nat.zero_add]; exact hrow.cell hi, fun i hi => (hf i (by omega) hi).mono (fun _ hb => Nat.le_of_lt hb)⟩

end Go.Proofs.Ytflhfimgeladaaa
