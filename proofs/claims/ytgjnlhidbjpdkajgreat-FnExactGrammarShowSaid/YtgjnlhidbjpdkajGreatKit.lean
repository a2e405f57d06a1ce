import Derived.Test.YtgjnlhidbjpdkajGreatChecked
import Derived.Test.YtgjnlhidbjpdkajGreatBase
import Derived.KernelRfl
import Derived.Outline
import Derived.BigQuiet
import Derived.Deep.RegionWith
import Derived.Deep.CutRange
namespace Go.Proofs.YtgjnlhidbjpdkajGreat
open Go.RowKit Go.Deep
set_option linter.unusedVariables false
set_option maxRecDepth 100000
set_option linter.unusedSimpArgs false

/-- A box whose cells may be written. -/
structure Box (w : World) (g T : Nat) (cs : List Value) : Prop where
  ex : w.rowIs g T cs.length (fun i => cs.getD i .nilFunc)
theorem Box.new (w : World) (T : Nat) (cs : List Value) : Box (w.alloc (.cells cs.toArray T)) w.heap.size T cs :=
  ⟨cs.toArray, blk_alloc_new _ _, by simp, fun i hi => by simp [List.getD_eq_getElem?_getD, hi]⟩
theorem Box.lt {w : World} {g T : Nat} {cs : List Value} (h : Box w g T cs) : g < w.heap.size := World.rowIs.lt h.ex
theorem Box.keep {w w' : World} {g T : Nat} {cs : List Value} (h : Box w g T cs) (hb : w'.heap[g]? = w.heap[g]?) : Box w' g T cs := ⟨World.rowIs.of_block h.ex hb⟩
theorem Box.still {w w' : World} {g T : Nat} {cs : List Value} (h : Box w g T cs) (hb : Below w.heap.size w w') : Box w' g T cs := h.keep (hb.block g h.lt)
theorem Box.cell {w : World} {g T : Nat} {cs : List Value} (h : Box w g T cs) (i : Nat) (hi : i < cs.length) : w.cell? ⟨g, i, none⟩ = some (cs.getD i .nilFunc) := h.ex.cell hi
theorem Box.frozen {w : World} {g T : Nat} {cs : List Value} (h : Box w g T cs) (i : Nat) : w.frozen? ⟨g, i, none⟩ = false := h.ex.frozen i
theorem Box.set {w : World} {g T : Nat} {cs : List Value} (h : Box w g T cs) (i : Nat) (u : Value) : Box (w.setCell ⟨g, i, none⟩ u) g T (cs.set i u) := by
  obtain ⟨c, h1, h2, h3⟩ := World.rowIs.set h.ex i u
  refine ⟨c, h1, by simpa using h2, fun j hj => ?_⟩
  rw [List.length_set] at hj
  rw [h3 j hj]
  by_cases e : j = i
  · subst e; simp [List.getD_eq_getElem?_getD, hj]
  · have e2 : (cs.set i u)[j]? = cs[j]? := List.getElem?_set_ne (fun h : i = j => e h.symm)
    simp [List.getD_eq_getElem?_getD, e, e2]
theorem Box.past {w : World} {g T q o : Nat} {cs : List Value} {u : Value} (h : Box w g T cs) (hq : g ≠ q) : Box (w.setCell ⟨q, o, none⟩ u) g T cs := h.keep (blk_setCell_other _ _ _ _ (by exact hq))
/-- How much is left. -/
def Left (n : Nat) (P : Prop) (e : Ending) : Prop := e = .returned (.int .i64 (-1)) ∨ ∃ m : Nat, e = .returned (.int .i64 m) ∧ m ≤ n ∧ P
theorem bel2 (w : World) (o o' : Obj) : Below w.heap.size w ((w.alloc o).alloc o') := (bel_alloc _ _).alloc (by simp) _
theorem bel3 (w : World) (o o' o'' : Obj) : Below w.heap.size w (((w.alloc o).alloc o').alloc o'') := ((bel_alloc _ _).alloc (by simp) _).alloc (by simp; omega) _
theorem bel_drewN {B : Nat} {a w : World} (h : Below B a w) (n : Nat) : Below B a (w.drewN n) := h.trans ⟨rfl, rfl, rfl, Nat.le_refl _, fun _ _ => rfl⟩
end Go.Proofs.YtgjnlhidbjpdkajGreat
