import Derived.Test.YtledclkmeikgdaaXGrow
/-! Pure: a pattern that a tree matches, filled, is the tree; what stands at the places. -/
namespace Go.Proofs.Ytledclkmeikgdaa.T
open Go.RowKit
set_option linter.unusedVariables false
set_option maxRecDepth 100000
set_option linter.unusedSimpArgs false

/-- The Kid at a place. -/
def kidAt (t : Tr) (i : Int) : Option Tr := if 0 ≤ i ∧ i < t.kids.length then some (nth t.kids i.toNat) else none
/-- The tree at a path. -/
def walkAt : List Int → Tr → Option Tr
  | [], t => some t
  | i :: r, t => (kidAt t i).bind (walkAt r)
theorem kidAt_yes {t : Tr} {i : Nat} (h : i < t.kids.length) : kidAt t i = some t.kids[i] := by
  unfold kidAt
  rw [if_pos (by omega), Int.toNat_natCast, nth_eq h]
theorem ok_right {t : Tr} (h : t.ok = true) : t.right = true := by
  unfold Tr.ok at h
  simp only [Bool.and_eq_true, decide_eq_true_eq] at h
  simp [h]
end Go.Proofs.Ytledclkmeikgdaa.T
