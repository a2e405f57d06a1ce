import Derived.Test.YthmdoplickpmaaiRxOk
import Derived.Test.YthmdoplickpmaaiRxS11
/-! The law FnExactRxOK, walked. -/
namespace Go.Proofs.Ythmdoplickpmaai
open Go.RowKit Go.Deep Go.Lib
set_option linter.unusedVariables false
set_option maxRecDepth 100000
set_option linter.unusedSimpArgs false

set_option maxHeartbeats 1600000 in
theorem lawRx (s : ByteArray) (w : World) (hs : s.size ≤ maxLen) :
    Calls Try.prog 6 #[.string s] w fun e w' => e = .returned (.bool true) ∧ Below w.heap.size w w' := by
  unfold maxLen at hs
  by_cases hbig : 1048576 < s.size
  · go_enter Try.func6, Try.ntmps6
    go_wp2_with fail
    go_ret
    exact ⟨rfl, Below.refl _ _⟩
  have HS := (show Hid _ from fun w1 => sRx_any s w1 (by omega))
  have HI := (show Hid _ from fun w1 => iRx_any s w1 (by omega))
  generalize rxR s = r at *
  obtain ⟨C, A⟩ := r
  have hC : (C != C) = false := by simp
  have hA : (A != A) = false := by simp
  go_enter Try.func6, Try.ntmps6
  go_wp2_with fail
  refine Calls.mono (HS.out w) ?_
  rintro e w1 ⟨rfl, hb1⟩
  have HB1 := (show Hid _ from hb1); clear hb1
  go_wp2_with fail
  refine Calls.mono (HI.out w1) ?_
  rintro e w2 ⟨rfl, hb2⟩
  have HB2 := (show Hid _ from bel_trans HB1.out hb2); clear hb2
  go_wp2_with fail
  go_ret
  exact ⟨rfl, HB2.out⟩
end Go.Proofs.Ythmdoplickpmaai
