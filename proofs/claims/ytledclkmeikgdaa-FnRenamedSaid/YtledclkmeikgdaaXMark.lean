import Derived.Test.YtledclkmeikgdaaXSize
import Derived.Test.YtledclkmeikgdaaXRight
import Derived.Test.YtledclkmeikgdaaXTo
import Derived.Lib.AppendStr
/-! Bytes that are written, and what they are as a text; rows that are owned. -/
namespace Go.Proofs.Ytledclkmeikgdaa.T
open Go.RowKit Go.Deep Go.Lib
set_option linter.unusedVariables false
set_option maxRecDepth 100000
set_option linter.unusedSimpArgs false

end Go.Proofs.Ytledclkmeikgdaa.T

namespace Go.Proofs.Ytledclkmeikgdaa.T
open Go.RowKit Go.Deep Go.Lib
set_option linter.unusedVariables false
set_option linter.unusedSimpArgs false

/-- All blocks that were there, but those of the range, are as they were. -/
def Out (lo hi : Nat) (w w' : World) : Prop := w'.os = w.os ∧ w'.tape = w.tape ∧ w'.output = w.output ∧ w.heap.size ≤ w'.heap.size ∧ ∀ k, k < w.heap.size → (k < lo ∨ hi ≤ k) → w'.heap[k]? = w.heap[k]?
theorem Out.refl (lo hi : Nat) (w : World) : Out lo hi w w := ⟨rfl, rfl, rfl, Nat.le_refl _, fun _ _ _ => rfl⟩
theorem Out.trans {lo hi : Nat} {a b c : World} (h : Out lo hi a b) (g : Out lo hi b c) : Out lo hi a c :=
  ⟨g.1.trans h.1, g.2.1.trans h.2.1, g.2.2.1.trans h.2.2.1, Nat.le_trans h.2.2.2.1 g.2.2.2.1, fun k hk hr => (g.2.2.2.2 k (Nat.lt_of_lt_of_le hk h.2.2.2.1) hr).trans (h.2.2.2.2 k hk hr)⟩
theorem Out.of_below {lo hi : Nat} {a b : World} (h : Below a.heap.size a b) : Out lo hi a b := ⟨h.os, h.tape, h.output, h.size, fun k hk _ => h.block k hk⟩
theorem Out.set {lo hi p o : Nat} (w : World) (u : Value) (h1 : lo ≤ p) (h2 : p < hi) : Out lo hi w (w.setCell ⟨p, o, none⟩ u) :=
  ⟨rfl, rfl, rfl, by simp [World.setCell], fun k _ hr => blk_setCell_other _ _ _ _ (by show k ≠ p; omega)⟩
/-- A tree that owns what it lies in: its row of Kids in one block, their own trees in ranges of blocks, no two of which meet. -/
def OwnBy (L : Nat → Nat → Tr → Value → Prop) (w : World) (lo hi : Nat) (t : Tr) (v : Value) : Prop :=
  ∃ (a : Option Addr) (cap b : Nat) (f : Nat → Value) (l h : Nat → Nat), v = .slice a t.kids.length cap ∧ t.name.size ≤ maxLen ∧ t.text.size ≤ maxLen ∧ t.kids.length ≤ cap ∧ cap ≤ maxLen ∧
    (0 < t.kids.length → a = some ⟨b, 0, none⟩ ∧ lo ≤ b ∧ b < hi ∧ w.rowIs b 40 (cap * 4) f) ∧
    (∀ i (hi : i < t.kids.length), f (i * 4) = .string t.kids[i].name ∧ f (i * 4 + 1) = .string t.kids[i].text ∧ f (i * 4 + 2) = .bool t.kids[i].leaf) ∧
    (∀ i (hi : i < t.kids.length), L (l i) (h i) t.kids[i] (f (i * 4 + 3))) ∧
    (∀ i, i < t.kids.length → lo ≤ l i ∧ h i ≤ hi ∧ (b < l i ∨ h i ≤ b)) ∧
    ∀ i j, i < j → j < t.kids.length → h i ≤ l j ∨ h j ≤ l i
def OwnN (w : World) : Nat → Nat → Nat → Tr → Value → Prop
  | 0 => fun _ _ _ _ => False
  | d + 1 => fun lo hi t v => OwnBy (OwnN w d) w lo hi t v
def Own (w : World) (lo hi : Nat) (t : Tr) (v : Value) : Prop := ∃ d, OwnN w d lo hi t v

end Go.Proofs.Ytledclkmeikgdaa.T
