import Derived.WalkKit
import Derived.Deep.Slices
import Derived.Deep.OwnRows
/-! Rows of numbers, as data and in memory; a machine, and what it reads. Nothing here hangs on the program. -/
namespace Go.Proofs.Ytledclkmeikgdaa
set_option linter.unusedVariables false
set_option linter.unusedSimpArgs false
open Go.RowKit Go.Deep

theorem ret_bool {a b : Bool} (h : a = b) : Ending.returned (.bool a) = .returned (.bool b) := by rw [h]
theorem lt_of_cell {w : World} {a : Addr} {v : Value} (h : w.cell? a = some v) : a.block < w.heap.size := by
  apply Decidable.byContradiction
  intro hn
  have : w.heap[a.block]? = none := by simp; omega
  simp [World.cell?, this] at h
/-- A call behind a new block. -/
theorem bel_box {w w1 : World} {o : Obj} (h : Below (w.alloc o).heap.size (w.alloc o) w1) : Below w.heap.size w w1 :=
  ((Below.refl _ _).alloc (Nat.le_refl _) o).trans (h.mono (by simp))
theorem bel_alloc (w : World) (o : Obj) : Below w.heap.size w (w.alloc o) := (Below.refl _ _).alloc (Nat.le_refl _) o
/-- Two steps, each below its own beginning. -/
theorem bel_trans {a b c : World} (h : Below a.heap.size a b) (k : Below b.heap.size b c) : Below a.heap.size a c := h.trans (k.mono h.size)
/-- A box of three cells. -/
def Three (w : World) (g : Nat) (c0 c1 c2 : Value) : Prop := w.cell? ⟨g, 0, none⟩ = some c0 ∧ w.cell? ⟨g, 1, none⟩ = some c1 ∧ w.cell? ⟨g, 2, none⟩ = some c2
/-- Numbers that lie behind a slice, in a block of S. -/
def Ints (w : World) (S : Nat → Prop) (l : List Int) (v : Value) : Prop :=
  ∃ (a : Option Addr) (cap b off : Nat), v = .slice a l.length cap ∧ l.length ≤ cap ∧ cap ≤ maxLen ∧ (0 < l.length → a = some ⟨b, off, none⟩ ∧ S b) ∧ ∀ i (hi : i < l.length), w.cell? ⟨b, off + i, none⟩ = some (.int .i64 l[i])
theorem Ints.still {w w' : World} {S : Nat → Prop} {l : List Int} {v : Value} (h : Ints w S l v) (hb : Below w.heap.size w w') : Ints w' S l v := by
  obtain ⟨a, cap, b, off, hv, hc, hm, ha, hcell⟩ := h
  exact ⟨a, cap, b, off, hv, hc, hm, ha, fun i hi => (hb.cell (lt_of_cell (hcell i hi))).trans (hcell i hi)⟩
theorem Ints.form {w : World} {S : Nat → Prop} {l : List Int} {v : Value} (h : Ints w S l v) : ∃ a cap, v = .slice a l.length cap ∧ l.length ≤ maxLen := by
  obtain ⟨a, cap, b, off, hv, hc, hm, _⟩ := h
  exact ⟨_, _, hv, by omega⟩
/-- A box of three cells that may be written. -/
def Box3 (w : World) (g T : Nat) (c0 c1 c2 : Value) : Prop := ∃ f, w.rowIs g T 3 f ∧ f 0 = c0 ∧ f 1 = c1 ∧ f 2 = c2
theorem Box3.lt {w : World} {g T : Nat} {c0 c1 c2 : Value} (h : Box3 w g T c0 c1 c2) : g < w.heap.size := by
  obtain ⟨f, h, _⟩ := h
  exact World.rowIs.lt h
theorem Box3.keep {w w' : World} {g T : Nat} {c0 c1 c2 : Value} (h : Box3 w g T c0 c1 c2) (hb : w'.heap[g]? = w.heap[g]?) : Box3 w' g T c0 c1 c2 := by
  obtain ⟨f, h, e⟩ := h
  exact ⟨f, World.rowIs.of_block h hb, e⟩
theorem Box3.cells {w : World} {g T : Nat} {c0 c1 c2 : Value} (h : Box3 w g T c0 c1 c2) : Three w g c0 c1 c2 ∧ w.frozen? ⟨g, 0, none⟩ = false ∧ w.frozen? ⟨g, 1, none⟩ = false ∧ w.frozen? ⟨g, 2, none⟩ = false := by
  obtain ⟨f, h, rfl, rfl, rfl⟩ := h
  exact ⟨⟨h.cell (by omega), h.cell (by omega), h.cell (by omega)⟩, h.frozen 0, h.frozen 1, h.frozen 2⟩
theorem Box3.set1 {w : World} {g T : Nat} {c0 c1 c2 : Value} (h : Box3 w g T c0 c1 c2) (u : Value) : Box3 (w.setCell ⟨g, 1, none⟩ u) g T c0 u c2 := by
  obtain ⟨f, h, e0, e1, e2⟩ := h
  exact ⟨_, h.set 1 u, by rw [if_neg (by omega)]; exact e0, if_pos rfl, by rw [if_neg (by omega)]; exact e2⟩
theorem Box3.set2 {w : World} {g T : Nat} {c0 c1 c2 : Value} (h : Box3 w g T c0 c1 c2) (u : Value) : Box3 (w.setCell ⟨g, 2, none⟩ u) g T c0 c1 u := by
  obtain ⟨f, h, e0, e1, e2⟩ := h
  exact ⟨_, h.set 2 u, by rw [if_neg (by omega)]; exact e0, by rw [if_neg (by omega)]; exact e1, if_pos rfl⟩
theorem getD_lt {α : Type} (l : List α) (d : α) {i : Nat} (h : i < l.length) : l.getD i d = l[i] := by simp [List.getD_eq_getElem?_getD, h]
end Go.Proofs.Ytledclkmeikgdaa
