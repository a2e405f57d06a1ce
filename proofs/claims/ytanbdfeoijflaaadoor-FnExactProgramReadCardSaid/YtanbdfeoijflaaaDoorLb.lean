import Derived.Test.YtanbdfeoijflaaaDoorLa
/-! A program as text: the words. -/
namespace Go.Proofs.YtanbdfeoijflaaaDoor
open Go.RowKit Go.Deep Go.Lib
set_option linter.unusedVariables false
set_option maxRecDepth 100000
set_option linter.unusedSimpArgs false

theorem rws_len (k : Nat) : (rwS k).data.toList.length ≤ 6 := by
  unfold rwS
  repeat' split
  all_goals decide
set_option maxHeartbeats 3200000 in
/-- The specification's words. -/
theorem word29 (k : Nat) (h1 : 1 ≤ k) (h2 : k ≤ 10) (w : World) : Calls Tryd.prog 29 #[.int .i64 (k : Nat)] w fun e w' => e = .returned (.string (rwS k)) ∧ Below w.heap.size w w' := by
  have hk : k = 1 ∨ k = 2 ∨ k = 3 ∨ k = 4 ∨ k = 5 ∨ k = 6 ∨ k = 7 ∨ k = 8 ∨ k = 9 ∨ k = 10 := by omega
  rcases hk with rfl | rfl | rfl | rfl | rfl | rfl | rfl | rfl | rfl | rfl
  all_goals
    go_enter Tryd.func29, Tryd.ntmps29
    go_wp2_with fail
    go_ret
    exact ⟨rfl, bel_alloc _ _⟩
end Go.Proofs.YtanbdfeoijflaaaDoor
