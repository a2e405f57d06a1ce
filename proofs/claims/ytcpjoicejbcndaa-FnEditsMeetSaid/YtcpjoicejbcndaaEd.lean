import Derived.Test.YtcpjoicejbcndaaChecked
import Derived.WalkKit
import Derived.Deep.Slices
import Derived.Deep.OwnRows
import Derived.BigQuiet
import Derived.Laws.Concat
/-! Edited: the program and the specification. -/
namespace Go.Proofs.Ytcpjoicejbcndaa
set_option linter.unusedVariables false
set_option maxRecDepth 100000
set_option linter.unusedSimpArgs false
open Go.RowKit Go.Deep

theorem bel_box' {w w1 : World} {o : Obj} (h : Below (w.alloc o).heap.size (w.alloc o) w1) : Below w.heap.size w w1 :=
  ((Below.refl _ _).alloc (Nat.le_refl _) o).trans (h.mono (by simp))
/-- An edit as a value. -/
def edV (a d : Int) (s : ByteArray) : Value := .agg #[.int .i64 a, .int .i64 d, .string s]
/-- What Edited answers. -/
def edR (t : ByteArray) (a d : Int) (s : ByteArray) : ByteArray × Int :=
  if 4000 < t.size ∨ a < 0 ∨ (t.size : Int) < a ∨ d < 0 ∨ (t.size : Int) - a < d then (ByteArray.empty, 1)
  else if 4000 < (t.size : Int) - d + s.size then (ByteArray.empty, 3)
  else (t.extract 0 a.toNat ++ s ++ t.extract (a + d).toNat t.size, 0)
def EdPost (w : World) (R : ByteArray × Int) (e : Ending) (w' : World) : Prop := e = .returned (.tuple #[.string R.1, .int .i64 R.2]) ∧ Below w.heap.size w w'

theorem betw_any (x a b : Int) (w : World) : Calls Try.prog 17 #[.int .i64 x, .int .i64 a, .int .i64 b] w fun e w' => e = .returned (.bool (decide (a ≤ x ∧ x ≤ b))) ∧ w' = w := by
  by_cases h1 : a ≤ x <;> by_cases h2 : x ≤ b
  all_goals
    go_enter Try.func17, Try.ntmps17
    go_wp2_with fail
    go_ret
    exact ⟨by simp [h1, h2], rfl⟩

theorem more_any (a d : Int) (s : ByteArray) (hs : s.size ≤ 1048576) (hd : 0 ≤ d) (hd2 : d ≤ 4000) (w : World) :
    Calls Try.prog 16 #[edV a d s] w fun e w' => e = .returned (.int .i64 ((s.size : Int) - d)) ∧ Below w.heap.size w w' := by
  unfold edV
  go_enter Try.func16, Try.ntmps16
  go_wp2_with fail
  go_ret
  exact ⟨by simp, (Below.refl _ _).alloc (Nat.le_refl _) _⟩

set_option maxHeartbeats 3200000 in
theorem iEd (t : ByteArray) (a d : Int) (s : ByteArray) (w : World) (ht : t.size ≤ 1048576) (hs : s.size ≤ 1048576) (ha : -9223372036854775808 ≤ a ∧ a ≤ 9223372036854775807) (hd : -9223372036854775808 ≤ d ∧ d ≤ 9223372036854775807) :
    Calls Try.prog 8 #[.string t, edV a d s] w (EdPost w (edR t a d s)) := by
  have HM := (show Hid _ from more_any a d s hs)
  have h0 : (w.alloc (.cells #[.int .i64 a, .int .i64 d, .string s] 25)).cell? ⟨w.heap.size, 0, none⟩ = some (.int .i64 a) := by simp [go_sem]
  have h1 : (w.alloc (.cells #[.int .i64 a, .int .i64 d, .string s] 25)).cell? ⟨w.heap.size, 1, none⟩ = some (.int .i64 d) := by simp [go_sem]
  have h2 : (w.alloc (.cells #[.int .i64 a, .int .i64 d, .string s] 25)).cell? ⟨w.heap.size, 2, none⟩ = some (.string s) := by simp [go_sem]
  have HB := (show Hid _ from ((Below.refl w.heap.size w).alloc (Nat.le_refl _) (.cells #[.int .i64 a, .int .i64 d, .string s] 25)))
  unfold EdPost
  by_cases hbad : 4000 < t.size ∨ a < 0 ∨ (t.size : Int) < a ∨ d < 0 ∨ (t.size : Int) - a < d
  · have HR := (show Hid (edR t a d s = (ByteArray.empty, 1)) from if_pos hbad)
    generalize edR t a d s = R at *
    unfold edV
    by_cases b1 : 4000 < t.size
    · go_enter Try.func8, Try.ntmps8
      go_wp2_with fail
      go_ret2
      rw [HR.out]
      exact ⟨rfl, HB.out⟩
    by_cases b2 : a < 0
    · go_enter Try.func8, Try.ntmps8
      go_wp2_with fail
      go_ret2
      rw [HR.out]
      exact ⟨rfl, HB.out⟩
    by_cases b3 : (t.size : Int) < a
    · go_enter Try.func8, Try.ntmps8
      go_wp2_with fail
      go_ret2
      rw [HR.out]
      exact ⟨rfl, HB.out⟩
    by_cases b4 : d < 0
    · go_enter Try.func8, Try.ntmps8
      go_wp2_with fail
      go_ret2
      rw [HR.out]
      exact ⟨rfl, HB.out⟩
    have b5 : (t.size : Int) - a < d := by omega
    go_enter Try.func8, Try.ntmps8
    go_wp2_with fail
    go_ret2
    rw [HR.out]
    exact ⟨rfl, HB.out⟩
  have b1 : ¬ 4000 < t.size := by omega
  have b2 : ¬ a < 0 := by omega
  have b3 : ¬ (t.size : Int) < a := by omega
  have b4 : ¬ d < 0 := by omega
  have b5 : ¬ (t.size : Int) - a < d := by omega
  by_cases hfull : 4000 < (t.size : Int) - d + s.size
  · have HR := (show Hid (edR t a d s = (ByteArray.empty, 3)) from (if_neg hbad).trans (if_pos hfull))
    generalize edR t a d s = R at *
    unfold edV at *
    have hq : 4000 < (t.size : Int) + ((s.size : Int) - d) := by omega
    go_enter Try.func8, Try.ntmps8
    go_wp2_with fail
    refine Calls.mono (HM.out (by omega) (by omega) _) ?_
    rintro e w1 ⟨rfl, hb1⟩
    have HB1 := (show Hid _ from bel_box' hb1); clear hb1
    go_wp2_with fail
    go_ret2
    rw [HR.out]
    exact ⟨rfl, HB1.out⟩
  have HR := (show Hid (edR t a d s = (t.extract 0 a.toNat ++ s ++ t.extract (a + d).toNat t.size, 0)) from (if_neg hbad).trans (if_neg hfull))
  generalize edR t a d s = R at *
  unfold edV at *
  have hq : ¬ 4000 < (t.size : Int) + ((s.size : Int) - d) := by omega
  have hw1 : IntKind.i64.wrap (a + d) = a + d := by rw [IntKind.wrap_i64]; omega
  have hsl1 : (t.extract 0 a.toNat).size + s.size ≤ 9223372036854775807 := by rw [ByteArray.size_extract]; omega
  have hsl2 : (t.extract 0 a.toNat ++ s).size + (t.extract (a + d).toNat t.size).size ≤ 9223372036854775807 := by rw [ByteArray.size_append, ByteArray.size_extract, ByteArray.size_extract]; omega
  have had1 := fun w => run_string_add_sum (P := Try.prog) (w := w) _ _ hsl1
  have had2 := fun w => run_string_add_sum (P := Try.prog) (w := w) _ _ hsl2
  clear hsl1 hsl2
  go_enter Try.func8, Try.ntmps8
  go_wp2_with fail
  refine Calls.mono (HM.out (by omega) (by omega) _) ?_
  rintro e w1 ⟨rfl, hb1⟩
  have HB1 := (show Hid _ from bel_box' hb1)
  have k0 := (hb1.cell (by simp)).trans h0
  have k1 := (hb1.cell (by simp)).trans h1
  have k2 := (hb1.cell (by simp)).trans h2
  clear hb1 h0 h1 h2 HB
  go_wp2_with fail
  have z1 : 0 ≤ a := by omega
  have z2 : a ≤ (t.size : Int) := by omega
  have z3 : 0 ≤ a + d := by omega
  have z4 : a + d ≤ (t.size : Int) := by omega
  go_quiet (fail)
  go_wp2_with fail
  go_ret2
  rw [HR.out]
  exact ⟨rfl, ⟨HB1.out.os, HB1.out.tape, HB1.out.output, HB1.out.size, HB1.out.block⟩⟩
end Go.Proofs.Ytcpjoicejbcndaa
