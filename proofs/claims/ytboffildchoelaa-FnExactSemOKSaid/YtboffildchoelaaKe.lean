import Derived.Test.YtboffildchoelaaKa
import Derived.Test.YtboffildchoelaaPt
/-! Pure: which rules are right. -/
namespace Go.Proofs.Ytboffildchoelaa
open Go.RowKit Go.Deep Go.Lib Go.ChangeShapes Go.WideShapes
set_option linter.unusedVariables false
set_option maxRecDepth 100000
set_option linter.unusedSimpArgs false

/-- The words of plans. -/
def idN : ByteArray := ⟨#[105, 100]⟩
def failN : ByteArray := ⟨#[102, 97, 105, 108]⟩
def pw7 : List ByteArray := [⟨#[97, 108, 108]⟩, ⟨#[111, 110, 101]⟩, ⟨#[116, 114, 121]⟩, ⟨#[114, 101, 112, 101, 97, 116]⟩, ⟨#[100, 111, 119, 110]⟩, ⟨#[117, 112]⟩, ⟨#[105, 110, 110, 101, 114]⟩]
def pwB (s : ByteArray) : Bool := hasS (idN :: failN :: pw7) s
/-- The rules' names. -/
def nms (rl : List Rw) : List ByteArray := rl.map fun r => r.name
/-- The first j rules are right, and each is the first of its name. -/
def onJ (rl : List Rw) : Nat → Bool
  | 0 => true
  | j + 1 => onJ rl j && !hasS (nms (rl.take j)) ((rl[j]?.map fun r => r.name).getD ByteArray.empty)
theorem onJ_succ {rl : List Rw} {j : Nat} (h : j < rl.length) : onJ rl (j + 1) = (onJ rl j && !hasS (nms (rl.take j)) rl[j].name) := by
  rw [onJ, List.getElem?_eq_getElem h]
  rfl
theorem onJ_false (rl : List Rw) {i : Nat} : ∀ j, i ≤ j → onJ rl i = false → onJ rl j = false
  | 0, h, e => by rw [Nat.le_zero.1 h] at e; exact e
  | j + 1, h, e => by
    by_cases q : i = j + 1
    · rw [← q]; exact e
    · rw [onJ, onJ_false rl j (by omega) e]; rfl
end Go.Proofs.Ytboffildchoelaa
