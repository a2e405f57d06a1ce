import Derived.Test.YthmdoplickpmaajChecked
import Derived.Test.YthmdoplickpmaajBase
import Derived.KernelRfl
import Derived.Outline
import Derived.BigQuiet
/-! The laws' own helpers: how much, copies, the same. -/
namespace Go.Proofs.Ythmdoplickpmaaj
open Go.RowKit Go.Deep
set_option linter.unusedVariables false
set_option linter.unusedSimpArgs false

theorem info3i : (Try.prog.info? 3).map (fun i => (i.zero, i.size, i.bytes)) = some (some (.int .i64 0), 1, 8) := by kernel_rfl
theorem run_makeInts (n : Nat) (hn : n ≤ 1048576) (w : World) :
    (Instr.makeSlice 22 (.int .i64 (n : Int)) (.int .i64 (n : Int))).run Try.prog w = .ok (.slice (some ⟨w.heap.size, 0, none⟩) n n) (w.alloc (.cells (madeCells #[.int .i64 0] n) 3)) := by
  obtain ⟨i, hi, hz, hs, hb⟩ := info_parts info3i
  have hr := run_make (P := Try.prog) w 22 3 i _ Try.underlying22 hi hz .i64 .i64 n n (by omega) (Int.le_refl _) (by rw [hb]; omega) (by omega)
  simp only [Int.toNat_natCast, hs, Nat.mul_one] at hr
  exact hr
theorem info22i : (Try.prog.info? 22).map (fun i => (i.zero, i.size, i.bytes)) = some (some (.slice none 0 0), 1, 24) := by kernel_rfl
theorem run_makeRows (n : Nat) (hn : n ≤ 1048576) (w : World) :
    (Instr.makeSlice 23 (.int .i64 (n : Int)) (.int .i64 (n : Int))).run Try.prog w = .ok (.slice (some ⟨w.heap.size, 0, none⟩) n n) (w.alloc (.cells (madeCells #[.slice none 0 0] n) 22)) := by
  obtain ⟨i, hi, hz, hs, hb⟩ := info_parts info22i
  have hr := run_make (P := Try.prog) w 23 22 i _ Try.underlying23 hi hz .i64 .i64 n n (by omega) (Int.le_refl _) (by rw [hb]; omega) (by omega)
  simp only [Int.toNat_natCast, hs, Nat.mul_one] at hr
  exact hr

/-- How much is left. -/
theorem szInts_any {S : Nat → Prop} (l : List Int) (v : Value) (w : World) (n : Nat) (h : Ints w S l v) (hn : n ≤ 1048576) :
    Calls Try.prog 15 #[v, .int .i64 n] w fun e w' => (e = .returned (.int .i64 (-1)) ∨ ∃ m : Nat, e = .returned (.int .i64 m) ∧ m ≤ n ∧ l.length ≤ 1048576) ∧ Below w.heap.size w w' := by
  obtain ⟨a, cap, rfl, hm⟩ := h.form
  unfold maxLen at hm
  clear h
  generalize l.length = len at *
  by_cases hlt : (n : Int) - len < 0
  · go_enter Try.func15, Try.ntmps15
    go_wp2_with fail
    go_ret
    exact ⟨.inl rfl, Below.refl _ _⟩
  · go_enter Try.func15, Try.ntmps15
    go_wp2_with fail
    go_ret
    exact ⟨.inr ⟨n - len, by rw [show ((n - len : Nat) : Int) = (n : Int) - len by omega]; rfl, by omega, by omega⟩, Below.refl _ _⟩

set_option maxHeartbeats 400000 in
theorem szRows_any {S : Nat → Prop} (ls : List (List Int)) (v : Value) (w : World) (n : Nat) (h : IRows w S ls v) (hn : n ≤ 1048576) :
    Calls Try.prog 16 #[v, .int .i64 n] w fun e w' => (e = .returned (.int .i64 (-1)) ∨ ∃ m : Nat, e = .returned (.int .i64 m) ∧ m ≤ n ∧ ls.length ≤ 1048576 ∧ ∀ i (hi : i < ls.length), ls[i].length ≤ 1048576) ∧ Below w.heap.size w w' := by
  obtain ⟨a, cap, b, off, sv, rfl, hc, hm, ha, hcell, hr⟩ := h
  have HC := (show Hid _ from hcell); clear hcell
  have HA := (show Hid _ from ha); clear ha
  have HR := (show Hid _ from hr); clear hr
  unfold maxLen at hm
  by_cases hlt : (n : Int) - ls.length < 0
  · go_enter Try.func16, Try.ntmps16
    go_wp2_with fail
    go_ret
    exact ⟨.inl rfl, Below.refl _ _⟩
  · go_enter Try.func16, Try.ntmps16
    go_wp2_with fail
    go_loopw [1, 5] (fun u i wr => ∃ (j m : Nat), j ≤ ls.length ∧ i = .int .i64 j ∧ u = .int .i64 m ∧ m ≤ n ∧ Below w.heap.size w wr ∧ Hid (∀ i (hi : i < ls.length), i < j → ls[i].length ≤ 1048576)) (fun _ i _ => ls.length - (intOf i).toNat)
    case atStart => exact ⟨0, n - ls.length, Nat.zero_le _, rfl, by go_num, by omega, Below.refl _ _, fun i hi h0 => absurd h0 (Nat.not_lt_zero _)⟩
    case round =>
      obtain ⟨j, m, hj, rfl, rfl, hmn, hbel, HX⟩ := hrel
      by_cases hjl : j < ls.length
      · obtain ⟨rfl, _⟩ := HA.out (by omega)
        have c0 := HC.out j (by omega)
        rw [← hbel.cell (lt_of_cell c0)] at c0
        have hcl := szInts_any _ _ wr m ((HR.out j (by omega)).still hbel) (by omega)
        have HCL := (show Hid _ from hcl); clear hcl
        obtain ⟨a2, cap2, e2, _⟩ := (HR.out j (by omega)).form
        rw [e2] at c0 HCL
        clear e2
        go_wp2_with fail
        refine Calls.mono HCL.out ?_
        rintro e w1 ⟨rfl | ⟨m1, rfl, hm1, hl1⟩, hb1⟩
        · have hbw := bel_trans hbel hb1
          go_wp2_with fail
          go_ret
          exact ⟨.inl rfl, hbw⟩
        · have hbw := bel_trans hbel hb1
          have HN := (show Hid (∀ i (hi : i < ls.length), i < j + 1 → ls[i].length ≤ 1048576) from fun i hi hij => by
            by_cases e : i = j
            · subst e; exact hl1
            · exact HX.out i hi (by omega))
          clear hl1
          go_wp2_with fail
          exact ⟨⟨j + 1, m1, by omega, by go_num, rfl, by omega, hbw, HN⟩, by simp [intOf]; omega⟩
      · obtain rfl : j = ls.length := by omega
        go_wp2_with fail
        go_ret
        exact ⟨.inr ⟨m, rfl, hmn, by omega, fun i hi => HX.out i hi hi⟩, hbel⟩

set_option maxHeartbeats 400000 in
theorem toInts_any {S : Nat → Prop} (l : List Int) (v : Value) (w : World) (h : Ints w S l v) (hlen : l.length ≤ 1048576) :
    Calls Try.prog 19 #[v] w fun e w' => e = .returned (.slice (some ⟨w.heap.size, 0, none⟩) l.length l.length) ∧ Below w.heap.size w w' ∧ IRow w' w.heap.size l := by
  obtain ⟨a, cap, b, off, rfl, hc, hm, ha, hcell⟩ := h
  have HC := (show Hid _ from hcell); clear hcell
  have HA := (show Hid _ from ha); clear ha
  unfold maxLen at hm
  have hmk := run_makeInts l.length hlen
  go_enter Try.func19, Try.ntmps19
  go_wp2_with fail
  go_loopw [4] (fun i wr => ∃ j : Nat, j ≤ l.length ∧ i = .int .i64 j ∧ Below w.heap.size w wr ∧ Hid (∃ f, wr.rowIs w.heap.size 3 l.length f ∧ ∀ i (_ : i < j) (hi : i < l.length), f i = .int .i64 l[i])) (fun i _ => l.length - (intOf i).toNat)
  case atStart =>
    obtain ⟨f, hf⟩ := row_made w #[.int .i64 0] l.length 3
    exact ⟨0, Nat.zero_le _, rfl, bel_alloc _ _, f, hf, fun i hi => absurd hi (Nat.not_lt_zero _)⟩
  case round =>
    obtain ⟨j, hj, rfl, hbel, HM⟩ := hrel
    obtain ⟨f, hrow, hf⟩ := HM.out
    by_cases hlt : j < l.length
    · obtain ⟨rfl, _⟩ := HA.out (by omega)
      have c0 := HC.out j hlt
      rw [← hbel.cell (lt_of_cell c0)] at c0
      have e0 := hrow.cell (i := j) (by omega)
      have z0 := hrow.frozen j
      have HR := (show Hid _ from (⟨hrow, hf⟩ : _ ∧ _)); clear hrow hf
      go_wp2_with fail
      refine ⟨⟨j + 1, by omega, by go_num, hbel.setCell (Nat.le_refl _) _, _, World.rowIs.set HR.out.1 j (.int .i64 l[j]), fun i hi hl => ?_⟩, by simp [intOf]; omega⟩
      by_cases e : i = j
      · subst e; simp
      · rw [if_neg e]; exact HR.out.2 i (by omega) hl
    · go_wp2_with fail
      go_ret
      refine ⟨rfl, hbel, ?_⟩
      obtain ⟨cs, h1, h2, h3⟩ := hrow
      refine ⟨cs, h1, h2, fun i hi => ?_⟩
      rw [h3 i hi, hf i (by omega) hi]
      simp [List.getD_eq_getElem?_getD, hi]

set_option maxHeartbeats 400000 in
theorem toRows_any {S : Nat → Prop} (ls : List (List Int)) (v : Value) (w : World) (h : IRows w S ls v) (hlen : ls.length ≤ 1048576) (hls : ∀ i (hi : i < ls.length), ls[i].length ≤ 1048576) :
    Calls Try.prog 20 #[v] w fun e w' => ∃ v', e = .returned v' ∧ Below w.heap.size w w' ∧ IRows w' (fun b => w.heap.size ≤ b) ls v' := by
  obtain ⟨a, cap, b, off, sv, rfl, hc, hm, ha, hcell, hr⟩ := h
  have HC := (show Hid _ from hcell); clear hcell
  have HA := (show Hid _ from ha); clear ha
  have HR := (show Hid _ from hr); clear hr
  have HS := (show Hid _ from hls); clear hls
  unfold maxLen at hm
  have hmk := run_makeRows ls.length hlen
  go_enter Try.func20, Try.ntmps20
  go_wp2_with fail
  go_loopw [4] (fun i wr => ∃ j : Nat, j ≤ ls.length ∧ i = .int .i64 j ∧ Below w.heap.size w wr ∧ Hid (∃ f, wr.rowIs w.heap.size 22 ls.length f ∧ ∀ i (_ : i < j) (hi : i < ls.length), Ints wr (fun b => w.heap.size < b) ls[i] (f i))) (fun i _ => ls.length - (intOf i).toNat)
  case atStart =>
    obtain ⟨f, hf⟩ := row_made w #[.slice none 0 0] ls.length 22
    exact ⟨0, Nat.zero_le _, rfl, bel_alloc _ _, f, hf, fun i hi => absurd hi (Nat.not_lt_zero _)⟩
  case round =>
    obtain ⟨j, hj, rfl, hbel, HM⟩ := hrel
    by_cases hlt : j < ls.length
    · obtain ⟨rfl, _⟩ := HA.out (by omega)
      have c0 := HC.out j hlt
      rw [← hbel.cell (lt_of_cell c0)] at c0
      have hcl := toInts_any _ _ wr ((HR.out j hlt).still hbel) (HS.out j hlt)
      have HCL := (show Hid _ from hcl); clear hcl
      obtain ⟨a2, cap2, e2, _⟩ := (HR.out j hlt).form
      rw [e2] at c0 HCL
      clear e2
      go_wp2_with fail
      refine Calls.mono HCL.out ?_
      rintro e w1 ⟨rfl, hb1, hi1⟩
      obtain ⟨f, hrow, hf⟩ := HM.out
      have hg := World.rowIs.lt hrow
      have hrow1 := World.rowIs.of_block hrow (hb1.block _ hg)
      have hf1 : ∀ i (_ : i < j) (hi : i < ls.length), Ints w1 (fun b => w.heap.size < b) ls[i] (f i) := fun i h1 h2 => (hf i h1 h2).still hb1
      have hnew : Ints w1 (fun b => w.heap.size < b) ls[j] (.slice (some ⟨wr.heap.size, 0, none⟩) ls[j].length ls[j].length) := (hi1.ints (by have := HS.out j hlt; unfold maxLen; omega)).mono (fun b hb => by subst hb; exact hg)
      have hbw := bel_trans hbel hb1
      have e0 := hrow1.cell (i := j) (by omega)
      have z0 := hrow1.frozen j
      have HN := (show Hid _ from (⟨hrow1, hf1, hnew⟩ : _ ∧ _ ∧ _)); clear hrow hf hrow1 hf1 hnew hi1 hg HM
      go_wp2_with fail
      refine ⟨⟨j + 1, by omega, by go_num, hbw.setCell (Nat.le_refl _) _, _, World.rowIs.set HN.out.1 j (.slice (some ⟨wr.heap.size, 0, none⟩) ls[j].length ls[j].length), fun i hi hl => ?_⟩, by simp [intOf]; omega⟩
      by_cases e : i = j
      · subst e; simp; exact HN.out.2.2.keep (fun b hb _ => blk_setCell_other _ _ _ _ (by show b ≠ w.heap.size; omega))
      · rw [if_neg e]; exact (HN.out.2.1 i (by omega) hl).keep (fun b hb _ => blk_setCell_other _ _ _ _ (by show b ≠ w.heap.size; omega))
    · go_wp2_with fail
      go_ret
      obtain ⟨f, hrow, hf⟩ := HM.out
      exact ⟨_, rfl, hbel, _, _, w.heap.size, 0, f, rfl, Nat.le_refl _, by unfold maxLen; omega, fun _ => ⟨rfl, Nat.le_refl _⟩, fun i hi => by rw [Nat.zero_add]; exact hrow.cell hi, fun i hi => (hf i (by omega) hi).mono (fun _ hb => Nat.le_of_lt hb)⟩

set_option maxHeartbeats 400000 in
theorem eqInts_any {S S' : Nat → Prop} (l : List Int) (v v' : Value) (w : World) (h : Ints w S l v) (h' : Ints w S' l v') :
    Calls Try.prog 23 #[v, v'] w fun e w' => e = .returned (.bool true) ∧ Below w.heap.size w w' := by
  obtain ⟨a, cap, b, off, rfl, hc, hm, ha, hcell⟩ := h
  obtain ⟨a', cap', b', off', rfl, hc', hm', ha', hcell'⟩ := h'
  have HC := (show Hid _ from hcell); clear hcell
  have HA := (show Hid _ from ha); clear ha
  have HC' := (show Hid _ from hcell'); clear hcell'
  have HA' := (show Hid _ from ha'); clear ha'
  unfold maxLen at hm hm'
  go_enter Try.func23, Try.ntmps23
  go_wp2_with fail
  go_loopw [5] (fun i wr => ∃ j : Nat, j ≤ l.length ∧ i = .int .i64 j ∧ Below w.heap.size w wr) (fun i _ => l.length - (intOf i).toNat)
  case atStart => exact ⟨0, Nat.zero_le _, rfl, Below.refl _ _⟩
  case round =>
    obtain ⟨j, hj, rfl, hbel⟩ := hrel
    by_cases hlt : j < l.length
    · obtain ⟨rfl, _⟩ := HA.out (by omega)
      obtain ⟨rfl, _⟩ := HA'.out (by omega)
      have c0 := HC.out j hlt
      rw [← hbel.cell (lt_of_cell c0)] at c0
      have c1 := HC'.out j hlt
      rw [← hbel.cell (lt_of_cell c1)] at c1
      have hbd := hbel.drew
      go_wp2_with fail
      go_region
      all_goals
        go_wp2_with fail
        exact ⟨⟨j + 1, by omega, by go_num, hbd⟩, by simp [intOf]; omega⟩
    · go_wp2_with fail
      go_ret
      exact ⟨rfl, hbel⟩
end Go.Proofs.Ythmdoplickpmaaj
