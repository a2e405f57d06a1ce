import Derived.Test.YtanbdfeoijflaaaDoorDat
namespace Go.Proofs.YtanbdfeoijflaaaDoor
open Go.RowKit Go.Deep
set_option linter.unusedVariables false
set_option maxRecDepth 100000
set_option linter.unusedSimpArgs false

theorem szInsR_any {S : Nat → Prop} (l : List DIns) (v : Value) (w : World) (n : Nat) (h : InsR w S l v) (hn : n ≤ 1048576) :
    Calls Tryd.prog 5 #[v, .int .i64 n] w fun e w' => Left n (InsR.Sm l) e ∧ Below w.heap.size w w' := by
  obtain ⟨a, cap, rfl, hm⟩ := h.form
  unfold maxLen at hm
  clear h
  have hS : l.length ≤ 1048576 → InsR.Sm l := fun h => ⟨h, fun i hi => ⟨⟩⟩
  generalize InsR.Sm l = P at *
  generalize l.length = len at *
  by_cases hlt : (n : Int) - len < 0
  · go_enter Tryd.func5, Tryd.ntmps5
    go_wp2_with fail
    go_ret
    exact ⟨.inl rfl, Below.refl _ _⟩
  · go_enter Tryd.func5, Tryd.ntmps5
    go_wp2_with fail
    go_ret
    exact ⟨.inr ⟨n - len, by rw [show ((n - len : Nat) : Int) = (n : Int) - len by omega]; rfl, by omega, hS (by omega)⟩, Below.refl _ _⟩
end Go.Proofs.YtanbdfeoijflaaaDoor
