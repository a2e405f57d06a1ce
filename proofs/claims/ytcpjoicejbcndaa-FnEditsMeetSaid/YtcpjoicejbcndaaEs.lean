import Derived.Test.YtcpjoicejbcndaaEd
/-! Edited: the specification, and what the law does beside. -/
namespace Go.Proofs.Ytcpjoicejbcndaa
set_option linter.unusedVariables false
set_option maxRecDepth 100000
set_option linter.unusedSimpArgs false
open Go.RowKit Go.Deep

set_option maxHeartbeats 3200000 in
theorem sEd (t : ByteArray) (a d : Int) (s : ByteArray) (w : World) (ht : t.size ≤ 1048576) (hs : s.size ≤ 1048576) (ha : -9223372036854775808 ≤ a ∧ a ≤ 9223372036854775807) (hd : -9223372036854775808 ≤ d ∧ d ≤ 9223372036854775807) :
    Calls Try.prog 9 #[.string t, edV a d s] w (EdPost w (edR t a d s)) := by
  have HW := (show Hid _ from fun (x a b : Int) (w : World) => betw_any x a b w)
  have h0 : (w.alloc (.cells #[.int .i64 a, .int .i64 d, .string s] 25)).cell? ⟨w.heap.size, 0, none⟩ = some (.int .i64 a) := by simp [go_sem]
  have h1 : (w.alloc (.cells #[.int .i64 a, .int .i64 d, .string s] 25)).cell? ⟨w.heap.size, 1, none⟩ = some (.int .i64 d) := by simp [go_sem]
  have h2 : (w.alloc (.cells #[.int .i64 a, .int .i64 d, .string s] 25)).cell? ⟨w.heap.size, 2, none⟩ = some (.string s) := by simp [go_sem]
  have HB := (show Hid _ from ((Below.refl w.heap.size w).alloc (Nat.le_refl _) (.cells #[.int .i64 a, .int .i64 d, .string s] 25)))
  unfold EdPost
  by_cases hbad : 4000 < t.size ∨ a < 0 ∨ (t.size : Int) < a ∨ d < 0 ∨ (t.size : Int) - a < d
  · have HR := (show Hid (edR t a d s = (ByteArray.empty, 1)) from if_pos hbad)
    generalize edR t a d s = R at *
    unfold edV
    by_cases b1 : 4000 < t.size
    · go_enter Try.func9, Try.ntmps9
      go_wp2_with fail
      go_ret2
      rw [HR.out]
      exact ⟨rfl, HB.out⟩
    by_cases b2 : 0 ≤ a ∧ a ≤ (t.size : Int)
    · have b3 : ¬ (0 ≤ d ∧ d ≤ (t.size : Int) - a) := by omega
      have e2 : decide (0 ≤ a ∧ a ≤ (t.size : Int)) = true := by simp [b2]
      have e3 : decide (0 ≤ d ∧ d ≤ (t.size : Int) - a) = false := by simp only [decide_eq_false_iff_not]; exact b3
      have hwx : IntKind.i64.wrap ((t.size : Int) - a) = (t.size : Int) - a := by rw [IntKind.wrap_i64]; omega
      have HE := (show Hid _ from (⟨e2, e3⟩ : _ ∧ _))
      clear e2 e3 b3 hbad
      go_enter Try.func9, Try.ntmps9
      go_wp2_with fail
      refine Calls.mono (HW.out _ _ _ _) ?_
      rintro e w1 ⟨rfl, rfl⟩
      rw [HE.out.1]
      go_wp2_with fail
      refine Calls.mono (HW.out _ _ _ _) ?_
      rintro e w1 ⟨rfl, rfl⟩
      rw [HE.out.2]
      go_wp2_with fail
      go_ret2
      rw [HR.out]
      exact ⟨rfl, HB.out⟩
    · have e2 : decide (0 ≤ a ∧ a ≤ (t.size : Int)) = false := by simp only [decide_eq_false_iff_not]; exact b2
      have HE := (show Hid _ from e2)
      clear e2 b2 hbad
      go_enter Try.func9, Try.ntmps9
      go_wp2_with fail
      refine Calls.mono (HW.out _ _ _ _) ?_
      rintro e w1 ⟨rfl, rfl⟩
      rw [HE.out]
      go_wp2_with fail
      go_ret2
      rw [HR.out]
      exact ⟨rfl, HB.out⟩
  have b1 : ¬ 4000 < t.size := by omega
  have e2 : decide (0 ≤ a ∧ a ≤ (t.size : Int)) = true := by simp; omega
  have e3 : decide (0 ≤ d ∧ d ≤ (t.size : Int) - a) = true := by simp; omega
  have hwx : IntKind.i64.wrap ((t.size : Int) - a) = (t.size : Int) - a := by rw [IntKind.wrap_i64]; omega
  have HE := (show Hid _ from (⟨e2, e3⟩ : _ ∧ _))
  clear e2 e3
  have z1 : 0 ≤ a := by omega
  have z2 : a ≤ (t.size : Int) := by omega
  have z3 : 0 ≤ a + d := by omega
  have z4 : a + d ≤ (t.size : Int) := by omega
  have z5 : 0 ≤ d := by omega
  have z6 : d ≤ 4000 := by omega
  by_cases hfull : 4000 < (t.size : Int) - d + s.size
  · have HR := (show Hid (edR t a d s = (ByteArray.empty, 3)) from (if_neg hbad).trans (if_pos hfull))
    generalize edR t a d s = R at *
    unfold edV at *
    clear hbad
    go_enter Try.func9, Try.ntmps9
    go_wp2_with fail
    refine Calls.mono (HW.out _ _ _ _) ?_
    rintro e w1 ⟨rfl, rfl⟩
    rw [HE.out.1]
    go_wp2_with fail
    refine Calls.mono (HW.out _ _ _ _) ?_
    rintro e w1 ⟨rfl, rfl⟩
    rw [HE.out.2]
    go_wp2_with fail
    go_ret2
    rw [HR.out]
    exact ⟨rfl, HB.out⟩
  have HR := (show Hid (edR t a d s = (t.extract 0 a.toNat ++ s ++ t.extract (a + d).toNat t.size, 0)) from (if_neg hbad).trans (if_neg hfull))
  generalize edR t a d s = R at *
  unfold edV at *
  have hw1 : IntKind.i64.wrap (a + d) = a + d := by rw [IntKind.wrap_i64]; omega
  have hsl1 : (t.extract 0 a.toNat).size + s.size ≤ 9223372036854775807 := by rw [ByteArray.size_extract]; omega
  have hsl2 : (t.extract 0 a.toNat ++ s).size + (t.extract (a + d).toNat t.size).size ≤ 9223372036854775807 := by rw [ByteArray.size_append, ByteArray.size_extract, ByteArray.size_extract]; omega
  have had1 := fun w => run_string_add_sum (P := Try.prog) (w := w) _ _ hsl1
  have had2 := fun w => run_string_add_sum (P := Try.prog) (w := w) _ _ hsl2
  clear hsl1 hsl2 hbad
  go_enter Try.func9, Try.ntmps9
  go_wp2_with fail
  refine Calls.mono (HW.out _ _ _ _) ?_
  rintro e w1 ⟨rfl, rfl⟩
  rw [HE.out.1]
  go_wp2_with fail
  refine Calls.mono (HW.out _ _ _ _) ?_
  rintro e w1 ⟨rfl, rfl⟩
  rw [HE.out.2]
  go_wp2_with fail
  go_quiet (fail)
  go_wp2_with fail
  go_ret2
  rw [HR.out]
  exact ⟨rfl, ⟨HB.out.os, HB.out.tape, HB.out.output, HB.out.size, HB.out.block⟩⟩

end Go.Proofs.Ytcpjoicejbcndaa
