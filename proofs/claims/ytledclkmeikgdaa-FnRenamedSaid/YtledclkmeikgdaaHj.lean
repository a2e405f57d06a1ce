import Derived.Test.YtledclkmeikgdaaGMk2
import Derived.Deep.CutRange
import Derived.Deep.RegionHeld3
import Derived.Test.YtledclkmeikgdaaGa
/-! Marks of a Sg that was answered, and whether they are still there. -/
namespace Go.Proofs.Ytledclkmeikgdaa
open Go.RowKit Go.Deep
set_option linter.unusedVariables false
set_option maxRecDepth 100000
set_option linter.unusedSimpArgs false

/-- A row of so many cells that may be marked. -/
structure Rk (w : World) (b T l k : Nat) (v : Value) : Prop where
  ex : ∃ (a : Option Addr) (cap m : Nat), v = .slice a l cap ∧ l ≤ 1048576 ∧ (0 < l → a = some ⟨b, 0, none⟩ ∧ l * k ≤ m ∧ ∃ f, w.rowIs b T m f)
end Go.Proofs.Ytledclkmeikgdaa

/-! Marks of spots that were answered; of a whole Sg. -/
namespace Go.Proofs.Ytledclkmeikgdaa
open Go.RowKit Go.Deep
set_option linter.unusedVariables false
set_option maxRecDepth 100000
set_option linter.unusedSimpArgs false

end Go.Proofs.Ytledclkmeikgdaa

/-! Marks of a whole Sg that was answered: markSg, heldSg. -/
namespace Go.Proofs.Ytledclkmeikgdaa
open Go.RowKit Go.Deep
set_option linter.unusedVariables false
set_option maxRecDepth 100000
set_option linter.unusedSimpArgs false

def hi' (l b : Nat) : Nat := if 0 < l then b + 1 else 0
/-- The three rows of a Sg that owns them. -/
structure Rg3 (w : World) (lo hi b1 b2 b3 l1 l2 l3 : Nat) (u1 u2 u3 : Value) : Prop where
  r1 : Rk w b1 74 l1 3 u1
  r2 : Rk w b2 33 l2 2 u2
  r3 : Rk w b3 33 l3 2 u3
  d : (0 < l1 → 0 < l2 → b2 ≠ b1) ∧ (0 < l1 → 0 < l3 → b3 ≠ b1) ∧ (0 < l2 → 0 < l3 → b3 ≠ b2)
  o : (0 < l1 → lo ≤ b1 ∧ b1 < hi) ∧ (0 < l2 → lo ≤ b2 ∧ b2 < hi) ∧ (0 < l3 → lo ≤ b3 ∧ b3 < hi)
end Go.Proofs.Ytledclkmeikgdaa
