import Derived.Test.YtaimlmjgicmbeaaYb
import Derived.Test.YtaimlmjgicmbeaaYd
import Derived.Test.YtaimlmjgicmbeaaDi
/-! The specification: the word of a derivation. -/
namespace Go.Proofs.Ytaimlmjgicmbeaa
open Go.RowKit Go.Deep
set_option linter.unusedVariables false
set_option maxRecDepth 100000
set_option linter.unusedSimpArgs false

theorem cn_take_leY (T : Nat) (ss : List Int) (i : Nat) : cn T (ss.take i) ≤ cn T ss := (List.take_sublist i ss).countP_le
end Go.Proofs.Ytaimlmjgicmbeaa

/-! The specification: Yield. -/
namespace Go.Proofs.Ytaimlmjgicmbeaa
open Go.RowKit Go.Deep
set_option linter.unusedVariables false
set_option maxRecDepth 100000
set_option linter.unusedSimpArgs false

end Go.Proofs.Ytaimlmjgicmbeaa
