import Derived.Test.YtaimlmjgicmbeaaSz
namespace Go.Proofs.Ytaimlmjgicmbeaa
open Go.RowKit Go.Deep
set_option linter.unusedVariables false
set_option maxRecDepth 100000
set_option linter.unusedSimpArgs false

set_option maxHeartbeats 400000 in
theorem toTerm_any (t : Tm) (w : World) :
    Calls Try.prog 44 #[.agg #[.string t.name, .int .i64 t.lev, .int .i64 t.asc]] w fun e w' => e = .returned (.agg #[.string t.name, .int .i64 t.lev, .int .i64 t.asc]) ∧ Below w.heap.size w w' := by
  go_enter Try.func44, Try.ntmps44
  go_wp2_with fail
  exact bodyPost_ret (v := .agg #[.string t.name, .int .i64 t.lev, .int .i64 t.asc]) (by simp [results, Try.results44, go_sem]) rfl ⟨rfl, ((bel_alloc _ _).alloc (by simp) _).alloc (by simp; omega) _⟩
theorem info3i : (Try.prog.info? 3).map (fun i => (i.zero, i.size, i.bytes)) = some (some (.int .i64 0), 1, 8) := by kernel_rfl
theorem run_makeInts (n : Nat) (hn : n ≤ 1048576) (w : World) :
    (Instr.makeSlice 27 (.int .i64 (n : Int)) (.int .i64 (n : Int))).run Try.prog w = .ok (.slice (some ⟨w.heap.size, 0, none⟩) n n) (w.alloc (.cells (madeCells #[.int .i64 0] n) 3)) := by
  obtain ⟨i, hi, hz, hs, hb⟩ := info_parts info3i
  have hr := run_make (P := Try.prog) w 27 3 i _ Try.underlying27 hi hz .i64 .i64 n n (by omega) (Int.le_refl _) (by rw [hb]; omega) (by omega)
  simp only [Int.toNat_natCast, hs, Nat.mul_one] at hr
  exact hr
theorem info9i : (Try.prog.info? 9).map (fun i => (i.zero, i.size, i.bytes)) = some (some (.string ByteArray.empty), 1, 16) := by kernel_rfl
theorem run_makeStrs (n : Nat) (hn : n ≤ 1048576) (w : World) :
    (Instr.makeSlice 23 (.int .i64 (n : Int)) (.int .i64 (n : Int))).run Try.prog w = .ok (.slice (some ⟨w.heap.size, 0, none⟩) n n) (w.alloc (.cells (madeCells #[.string ByteArray.empty] n) 9)) := by
  obtain ⟨i, hi, hz, hs, hb⟩ := info_parts info9i
  have hr := run_make (P := Try.prog) w 23 9 i _ Try.underlying23 hi hz .i64 .i64 n n (by omega) (Int.le_refl _) (by rw [hb]; omega) (by omega)
  simp only [Int.toNat_natCast, hs, Nat.mul_one] at hr
  exact hr
theorem info79 : (Try.prog.info? 79).map (fun i => (i.zero, i.size, i.bytes)) = some (some (.agg #[.string ByteArray.empty, .int .i64 0, .int .i64 0]), 3, 32) := by kernel_rfl
theorem run_makeTms (n : Nat) (hn : n ≤ 1048576) (w : World) :
    (Instr.makeSlice 31 (.int .i64 (n : Int)) (.int .i64 (n : Int))).run Try.prog w = .ok (.slice (some ⟨w.heap.size, 0, none⟩) n n) (w.alloc (.cells (madeCells #[.string ByteArray.empty, .int .i64 0, .int .i64 0] (n * 3)) 79)) := by
  obtain ⟨i, hi, hzz⟩ := Option.map_eq_some_iff.1 info79
  simp only [Prod.mk.injEq] at hzz
  obtain ⟨hz, hs, hb⟩ := hzz
  have hr := run_make (P := Try.prog) w 31 79 i _ Try.underlying31 hi hz .i64 .i64 n n (by omega) (Int.le_refl _) (by rw [hb]; omega) (by omega)
  simp only [Int.toNat_natCast, hs] at hr
  exact hr
theorem info66 : (Try.prog.info? 66).map (fun i => (i.zero, i.size, i.bytes)) = some (some (.agg #[.int .i64 0, .slice none 0 0, .string ByteArray.empty, .int .i64 0, .int .i64 0]), 5, 64) := by kernel_rfl
theorem run_makePds (n : Nat) (hn : n ≤ 1048576) (w : World) :
    (Instr.makeSlice 32 (.int .i64 (n : Int)) (.int .i64 (n : Int))).run Try.prog w = .ok (.slice (some ⟨w.heap.size, 0, none⟩) n n) (w.alloc (.cells (madeCells #[.int .i64 0, .slice none 0 0, .string ByteArray.empty, .int .i64 0, .int .i64 0] (n * 5)) 66)) := by
  obtain ⟨i, hi, hzz⟩ := Option.map_eq_some_iff.1 info66
  simp only [Prod.mk.injEq] at hzz
  obtain ⟨hz, hs, hb⟩ := hzz
  have hr := run_make (P := Try.prog) w 32 66 i _ Try.underlying32 hi hz .i64 .i64 n n (by omega) (Int.le_refl _) (by rw [hb]; omega) (by omega)
  simp only [Int.toNat_natCast, hs] at hr
  exact hr

set_option maxHeartbeats 400000 in
theorem toInts_any {S : Nat → Prop} (l : List Int) (v : Value) (w : World) (h : Ints w S l v) (hlen : l.length ≤ 1048576) :
    Calls Try.prog 8 #[v] w fun e w' => e = .returned (.slice (some ⟨w.heap.size, 0, none⟩) l.length l.length) ∧ Below w.heap.size w w' ∧ IRow w' w.heap.size l := by
  obtain ⟨a, cap, b, off, rfl, hc, hm, ha, hcell⟩ := h
  have HC := (show Hid _ from hcell); clear hcell
  have HA := (show Hid _ from ha); clear ha
  unfold maxLen at hm
  have hmk := run_makeInts l.length hlen
  go_enter Try.func8, Try.ntmps8
  go_wp2_with fail
  go_loopw [4] (fun i wr => ∃ j : Nat, j ≤ l.length ∧ i = .int .i64 j ∧ Below w.heap.size w wr ∧ Hid (∃ f, wr.rowIs w.heap.size 3 l.length f ∧ ∀ i (_ : i < j) (hi : i < l.length), f i = .int .i64 l[i])) (fun i _ => l.length - (intOf i).toNat)
  case atStart =>
    obtain ⟨f, hf⟩ := row_made w #[.int .i64 0] l.length 3
    exact ⟨0, Nat.zero_le _, rfl, bel_alloc _ _, f, hf, fun i hi => absurd hi (Nat.not_lt_zero _)⟩
  case round =>
    obtain ⟨j, hj, rfl, hbel, HM⟩ := hrel
    obtain ⟨f, hrow, hf⟩ := HM.out
    by_cases hlt : j < l.length
    · obtain ⟨rfl, _⟩ := HA.out (by omega)
      have c0 := HC.out j hlt
      rw [← hbel.cell (lt_of_cell c0)] at c0
      have e0 := hrow.cell (i := j) (by omega)
      have z0 := hrow.frozen j
      have HR := (show Hid _ from (⟨hrow, hf⟩ : _ ∧ _)); clear hrow hf
      go_wp2_with fail
      refine ⟨⟨j + 1, by omega, by go_num, hbel.setCell (Nat.le_refl _) _, _, World.rowIs.set HR.out.1 j (.int .i64 l[j]), fun i hi hl => ?_⟩, by simp [intOf]; omega⟩
      by_cases e : i = j
      · subst e; simp
      · rw [if_neg e]; exact HR.out.2 i (by omega) hl
    · go_wp2_with fail
      go_ret
      refine ⟨rfl, hbel, ?_⟩
      obtain ⟨cs, h1, h2, h3⟩ := hrow
      refine ⟨cs, h1, h2, fun i hi => ?_⟩
      rw [h3 i hi, hf i (by omega) hi]
      simp [List.getD_eq_getElem?_getD, hi]
set_option maxHeartbeats 400000 in
theorem toStrs_any {S : Nat → Prop} (l : List ByteArray) (v : Value) (w : World) (h : Strs w S l v) (hlen : l.length ≤ 1048576) :
    Calls Try.prog 24 #[v] w fun e w' => ∃ v', e = .returned v' ∧ Below w.heap.size w w' ∧ Strs w' (fun b => w.heap.size ≤ b) l v' := by
  obtain ⟨a, cap, b, off, rfl, hc, hm, ha, hcell⟩ := h
  have HC := (show Hid _ from hcell); clear hcell
  have HA := (show Hid _ from ha); clear ha
  unfold maxLen at hm
  have hmk := run_makeStrs l.length hlen
  go_enter Try.func24, Try.ntmps24
  go_wp2_with fail
  go_loopw [4] (fun i wr => ∃ j : Nat, j ≤ l.length ∧ i = .int .i64 j ∧ Below w.heap.size w wr ∧ Hid (∃ f, wr.rowIs w.heap.size 9 l.length f ∧ ∀ i (_ : i < j) (hi : i < l.length), f i = .string l[i])) (fun i _ => l.length - (intOf i).toNat)
  case atStart =>
    obtain ⟨f, hf⟩ := row_made w #[.string ByteArray.empty] l.length 9
    exact ⟨0, Nat.zero_le _, rfl, bel_alloc _ _, f, hf, fun i hi => absurd hi (Nat.not_lt_zero _)⟩
  case round =>
    obtain ⟨j, hj, rfl, hbel, HM⟩ := hrel
    obtain ⟨f, hrow, hf⟩ := HM.out
    by_cases hlt : j < l.length
    · obtain ⟨rfl, _⟩ := HA.out (by omega)
      have c0 := (HC.out j hlt).1
      rw [← hbel.cell (lt_of_cell c0)] at c0
      have e0 := hrow.cell (i := j) (by omega)
      have z0 := hrow.frozen j
      have HR := (show Hid _ from (⟨hrow, hf⟩ : _ ∧ _)); clear hrow hf
      go_wp2_with fail
      refine ⟨⟨j + 1, by omega, by go_num, hbel.setCell (Nat.le_refl _) _, _, World.rowIs.set HR.out.1 j (.string l[j]), fun i hi hl => ?_⟩, by simp [intOf]; omega⟩
      by_cases e : i = j
      · subst e; simp
      · rw [if_neg e]; exact HR.out.2 i (by omega) hl
    · go_wp2_with fail
      go_ret
      exact ⟨_, rfl, hbel, _, _, w.heap.size, 0, rfl, Nat.le_refl _, by unfold maxLen; omega, fun _ => ⟨rfl, Nat.le_refl _⟩, fun i hi => ⟨by rw [Nat.zero_add, hrow.cell hi, hf i (by omega) hi], (HC.out i hi).2⟩⟩
set_option maxHeartbeats 800000 in
theorem toTerms_any {S : Nat → Prop} (l : List Tm) (v : Value) (w : World) (h : Tms w S l v) (hlen : l.length ≤ 1048576) :
    Calls Try.prog 23 #[v] w fun e w' => ∃ v', e = .returned v' ∧ Below w.heap.size w w' ∧ Tms w' (fun b => w.heap.size ≤ b) l v' := by
  obtain ⟨a, cap, b, off, rfl, hc, hm, ha, hcell⟩ := h
  have HC := (show Hid _ from hcell); clear hcell
  have HA := (show Hid _ from ha); clear ha
  unfold maxLen at hm
  have hmk := run_makeTms l.length hlen
  go_enter Try.func23, Try.ntmps23
  go_wp2_with fail
  go_loopw [4] (fun i wr => ∃ j : Nat, j ≤ l.length ∧ i = .int .i64 j ∧ Below w.heap.size w wr ∧ Hid (∃ f, wr.rowIs w.heap.size 79 (l.length * 3) f ∧ ∀ i (_ : i < j) (hi : i < l.length), f (i * 3) = .string l[i].name ∧ f (i * 3 + 1) = .int .i64 l[i].lev ∧ f (i * 3 + 2) = .int .i64 l[i].asc)) (fun i _ => l.length - (intOf i).toNat)
  case atStart =>
    obtain ⟨f, hf⟩ := row_made w #[.string ByteArray.empty, .int .i64 0, .int .i64 0] (l.length * 3) 79
    exact ⟨0, Nat.zero_le _, rfl, bel_alloc _ _, f, hf, fun i hi => absurd hi (Nat.not_lt_zero _)⟩
  case round =>
    obtain ⟨j, hj, rfl, hbel, HM⟩ := hrel
    by_cases hlt : j < l.length
    · obtain ⟨rfl, _⟩ := HA.out (by omega)
      obtain ⟨c0, c1, c2, _⟩ := HC.out j hlt
      rw [← hbel.cell (lt_of_cell c0)] at c0
      rw [← hbel.cell (lt_of_cell c1)] at c1
      rw [← hbel.cell (lt_of_cell c2)] at c2
      have HCL := (show Hid _ from toTerm_any l[j] wr)
      go_wp2_with fail
      refine Calls.mono HCL.out ?_
      rintro e w1 ⟨rfl, hb1⟩
      obtain ⟨f, hrow, hf⟩ := HM.out
      have hrow1 := World.rowIs.of_block hrow (hb1.block _ (World.rowIs.lt hrow))
      have hbw := bel_trans hbel hb1
      have e0 := hrow1.cell (i := j * 3) (by omega)
      have e1 := hrow1.cell (i := j * 3 + 1) (by omega)
      have e2 := hrow1.cell (i := j * 3 + 2) (by omega)
      have z0 := hrow1.frozen (j * 3)
      have z1 := hrow1.frozen (j * 3 + 1)
      have z2 := hrow1.frozen (j * 3 + 2)
      have HN := (show Hid _ from (⟨hrow1, hf⟩ : _ ∧ _)); clear hrow hf hrow1 HM c0 c1 c2
      go_wp2_with fail
      refine ⟨⟨j + 1, by omega, by go_num, ((hbw.setCell (Nat.le_refl _) _).setCell (Nat.le_refl _) _).setCell (Nat.le_refl _) _, _, World.rowIs.set (World.rowIs.set (World.rowIs.set HN.out.1 (j * 3) _) (j * 3 + 1) _) (j * 3 + 2) _, fun i hi hl => ?_⟩, by simp [intOf]; omega⟩
      by_cases e : i = j
      · subst e; simp
      · obtain ⟨g0, g1, g2⟩ := HN.out.2 i (by omega) hl
        refine ⟨?_, ?_, ?_⟩
        · rw [if_neg (by omega), if_neg (by omega), if_neg (by omega)]; exact g0
        · rw [if_neg (by omega), if_neg (by omega), if_neg (by omega)]; exact g1
        · rw [if_neg (by omega), if_neg (by omega), if_neg (by omega)]; exact g2
    · go_wp2_with fail
      go_ret
      obtain ⟨f, hrow, hf⟩ := HM.out
      refine ⟨_, rfl, hbel, _, _, w.heap.size, 0, rfl, Nat.le_refl _, by unfold maxLen; omega, fun _ => ⟨rfl, Nat.le_refl _⟩, fun i hi => ?_⟩
      obtain ⟨g0, g1, g2⟩ := hf i (by omega) hi
      exact ⟨by rw [Nat.zero_add, hrow.cell (by omega), g0], by rw [Nat.zero_add, hrow.cell (by omega), g1], by rw [Nat.zero_add, hrow.cell (by omega), g2], (HC.out i hi).2.2.2⟩
end Go.Proofs.Ytaimlmjgicmbeaa
