import Derived.Test.YtledclkmeikgdaaXOutw
import Derived.Test.YtledclkmeikgdaaXYa
import Derived.Test.YtledclkmeikgdaaXRight
import Derived.Test.YtledclkmeikgdaaXSize
import Derived.Deep.RegionWith
import Derived.Deep.QuietTactic
import Derived.BigQuiet
namespace Go.Proofs.Ytledclkmeikgdaa.T
open Go.RowKit Go.Deep Go.Lib
set_option linter.unusedVariables false
set_option maxRecDepth 100000
set_option linter.unusedSimpArgs false

theorem walkAt_append : ∀ (a b : List Int) (t : Tr), walkAt (a ++ b) t = (walkAt a t).bind (walkAt b)
  | [], b, t => rfl
  | i :: r, b, t => by
    show (kidAt t i).bind (walkAt (r ++ b)) = ((kidAt t i).bind (walkAt r)).bind (walkAt b)
    cases kidAt t i with
    | none => rfl
    | some s => exact walkAt_append r b s
theorem walkAt_succ {l : List Int} {j : Nat} (h : j < l.length) {t s : Tr} (hs : walkAt (l.take j) t = some s) : walkAt (l.take (j + 1)) t = kidAt s l[j] := by
  rw [List.take_succ_eq_append_getElem h, walkAt_append, hs]
  show (kidAt s l[j]).bind (walkAt []) = _
  cases kidAt s l[j] <;> rfl
theorem walkAt_none {l : List Int} {j : Nat} {t : Tr} (hs : walkAt (l.take j) t = none) : walkAt l t = none := by
  have := walkAt_append (l.take j) (l.drop j) t
  rw [List.take_append_drop, hs] at this
  exact this
theorem kidAt_no {t : Tr} {i : Int} (h : i < 0 ∨ (t.kids.length : Int) ≤ i) : kidAt t i = none := by
  unfold kidAt
  rw [if_neg (by omega)]

theorem Box4.set4 {w : World} {b : Nat} {c0 c1 c2 c3 : Value} (h : Box4 w b c0 c1 c2 c3) (u0 u1 u2 u3 : Value) : Box4 ((((w.setCell ⟨b, 0, none⟩ u0).setCell ⟨b, 1, none⟩ u1).setCell ⟨b, 2, none⟩ u2).setCell ⟨b, 3, none⟩ u3) b u0 u1 u2 u3 := by
  obtain ⟨f, h, rfl, rfl, rfl, rfl⟩ := h
  exact ⟨_, (((h.set 0 u0).set 1 u1).set 2 u2).set 3 u3, rfl, rfl, rfl, rfl⟩

end Go.Proofs.Ytledclkmeikgdaa.T
