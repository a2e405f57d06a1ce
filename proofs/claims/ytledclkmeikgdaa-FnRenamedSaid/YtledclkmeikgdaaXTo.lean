import Derived.Test.YtledclkmeikgdaaChecked
import Derived.Test.YtledclkmeikgdaaXBase
import Derived.Deep.OwnRows
import Derived.KernelRfl
import Derived.Outline
namespace Go.Proofs.Ytledclkmeikgdaa.T
open Go.RowKit Go.Deep
set_option linter.unusedVariables false
set_option linter.unusedSimpArgs false

/-- What the loop of toTreeS has made: of the first j Kids the copies stand in the row g, and lie behind it. -/
def Made (k : List Tr) (g : Nat) (j : Nat) (wr : World) : Prop :=
  ∃ (f : Nat → Value) (sv : Nat → Value), wr.rowIs g 40 (k.length * 4) f ∧
    (∀ i (_ : i < j) (hi : i < k.length), f (i * 4) = .string k[i].name ∧ f (i * 4 + 1) = .string k[i].text ∧ f (i * 4 + 2) = .bool k[i].leaf ∧ f (i * 4 + 3) = sv i) ∧
    ∀ i (_ : i < j) (hi : i < k.length), Lies wr (fun b => g < b) k[i] (sv i)

end Go.Proofs.Ytledclkmeikgdaa.T
