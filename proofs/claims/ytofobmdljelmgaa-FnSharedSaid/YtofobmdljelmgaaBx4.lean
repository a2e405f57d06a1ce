import Derived.Test.YtofobmdljelmgaaTw
/-! A Tree in a block of its own. -/
namespace Go.Proofs.Ytofobmdljelmgaa
open Go.RowKit Go.Deep Go.Lib
set_option linter.unusedVariables false
set_option maxRecDepth 100000
set_option linter.unusedSimpArgs false

def Box4 (w : World) (b : Nat) (c0 c1 c2 c3 : Value) : Prop := ∃ f, w.rowIs b 39 4 f ∧ f 0 = c0 ∧ f 1 = c1 ∧ f 2 = c2 ∧ f 3 = c3
theorem Box4.lt {w : World} {b : Nat} {c0 c1 c2 c3 : Value} (h : Box4 w b c0 c1 c2 c3) : b < w.heap.size := by
  obtain ⟨f, h, _⟩ := h; exact h.lt
theorem Box4.new (w : World) (c0 c1 c2 c3 : Value) : Box4 (w.alloc (.cells #[c0, c1, c2, c3] 39)) w.heap.size c0 c1 c2 c3 :=
  ⟨fun i => (#[c0, c1, c2, c3][i]?).getD (.bool false), ⟨#[c0, c1, c2, c3], blk_alloc_new _ _, rfl, fun i hi => by simp [hi]⟩, rfl, rfl, rfl, rfl⟩
theorem Box4.keep {w w' : World} {b : Nat} {c0 c1 c2 c3 : Value} (h : Box4 w b c0 c1 c2 c3) (hb : w'.heap[b]? = w.heap[b]?) : Box4 w' b c0 c1 c2 c3 := by
  obtain ⟨f, h, r⟩ := h; exact ⟨f, h.of_block hb, r⟩
theorem Box4.still {w w' : World} {b : Nat} {c0 c1 c2 c3 : Value} (h : Box4 w b c0 c1 c2 c3) (hb : Below w.heap.size w w') : Box4 w' b c0 c1 c2 c3 := h.keep (hb.block b h.lt)
theorem Box4.cells {w : World} {b : Nat} {c0 c1 c2 c3 : Value} (h : Box4 w b c0 c1 c2 c3) : Four w b c0 c1 c2 c3 := by
  obtain ⟨f, h, rfl, rfl, rfl, rfl⟩ := h
  exact ⟨h.cell (by decide), h.cell (by decide), h.cell (by decide), h.cell (by decide)⟩
theorem Box4.frozen {w : World} {b : Nat} {c0 c1 c2 c3 : Value} (h : Box4 w b c0 c1 c2 c3) (i : Nat) : w.frozen? ⟨b, i, none⟩ = false := by
  obtain ⟨f, h, _⟩ := h; exact h.frozen i
theorem Box4.set3 {w : World} {b : Nat} {c0 c1 c2 c3 : Value} (h : Box4 w b c0 c1 c2 c3) (u : Value) : Box4 (w.setCell ⟨b, 3, none⟩ u) b c0 c1 c2 u := by
  obtain ⟨f, h, rfl, rfl, rfl, rfl⟩ := h
  exact ⟨_, h.set 3 u, rfl, rfl, rfl, rfl⟩
theorem Box4.set4 {w : World} {b : Nat} {c0 c1 c2 c3 : Value} (h : Box4 w b c0 c1 c2 c3) (u0 u1 u2 u3 : Value) : Box4 ((((w.setCell ⟨b, 0, none⟩ u0).setCell ⟨b, 1, none⟩ u1).setCell ⟨b, 2, none⟩ u2).setCell ⟨b, 3, none⟩ u3) b u0 u1 u2 u3 := by
  obtain ⟨f, h, rfl, rfl, rfl, rfl⟩ := h
  exact ⟨_, (((h.set 0 u0).set 1 u1).set 2 u2).set 3 u3, rfl, rfl, rfl, rfl⟩

end Go.Proofs.Ytofobmdljelmgaa
