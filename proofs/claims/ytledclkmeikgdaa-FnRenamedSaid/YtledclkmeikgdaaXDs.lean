import Derived.Test.YtledclkmeikgdaaXDraw
/-! A box of four cells; what a drawing call comes to. -/
namespace Go.Proofs.Ytledclkmeikgdaa.T
open Go.RowKit Go.Deep Go.Lib
set_option linter.unusedVariables false
set_option maxRecDepth 100000
set_option linter.unusedSimpArgs false

theorem own_keep1 {w w' : World} {B e z : Nat} {v : Value} {n : Nat} {xs : List Value} (h : w.ownsRow B e z v n xs) (hb : ∀ k, v.ownBlock = some k → w'.heap[k]? = w.heap[k]?) : w'.ownsRow B e z v n xs := by
  refine ⟨h.1, ?_⟩
  rcases h.2 with h0 | ⟨g, cp, cur, r1, r2, r3, r4⟩
  · exact .inl h0
  · exact .inr ⟨g, cp, cur, r1, r2, by rw [hb g (by rw [r1]; rfl)]; exact r3, r4⟩
/-- A box of four cells that may be written. -/
def Box4 (w : World) (b : Nat) (c0 c1 c2 c3 : Value) : Prop := ∃ f, w.rowIs b 40 4 f ∧ f 0 = c0 ∧ f 1 = c1 ∧ f 2 = c2 ∧ f 3 = c3
theorem Box4.lt {w : World} {b : Nat} {c0 c1 c2 c3 : Value} (h : Box4 w b c0 c1 c2 c3) : b < w.heap.size := by
  obtain ⟨f, h, _⟩ := h; exact h.lt
theorem Box4.new (w : World) (c0 c1 c2 c3 : Value) : Box4 (w.alloc (.cells #[c0, c1, c2, c3] 40)) w.heap.size c0 c1 c2 c3 :=
  ⟨fun i => (#[c0, c1, c2, c3][i]?).getD (.bool false), ⟨#[c0, c1, c2, c3], blk_alloc_new _ _, rfl, fun i hi => by simp [hi]⟩, rfl, rfl, rfl, rfl⟩
theorem Box4.keep {w w' : World} {b : Nat} {c0 c1 c2 c3 : Value} (h : Box4 w b c0 c1 c2 c3) (hb : w'.heap[b]? = w.heap[b]?) : Box4 w' b c0 c1 c2 c3 := by
  obtain ⟨f, h, r⟩ := h; exact ⟨f, h.of_block hb, r⟩
theorem Box4.still {w w' : World} {b : Nat} {c0 c1 c2 c3 : Value} (h : Box4 w b c0 c1 c2 c3) (hb : Below w.heap.size w w') : Box4 w' b c0 c1 c2 c3 := h.keep (hb.block b h.lt)
theorem Box4.cells {w : World} {b : Nat} {c0 c1 c2 c3 : Value} (h : Box4 w b c0 c1 c2 c3) : Four w b c0 c1 c2 c3 := by
  obtain ⟨f, h, rfl, rfl, rfl, rfl⟩ := h
  exact ⟨h.cell (by decide), h.cell (by decide), h.cell (by decide), h.cell (by decide)⟩
theorem Box4.frozen {w : World} {b : Nat} {c0 c1 c2 c3 : Value} (h : Box4 w b c0 c1 c2 c3) (i : Nat) : w.frozen? ⟨b, i, none⟩ = false := by
  obtain ⟨f, h, _⟩ := h; exact h.frozen i
theorem Box4.out {w w' : World} {b c : Nat} {c0 c1 c2 c3 : Value} (h : Box4 w b c0 c1 c2 c3) (ho : Out c (c + 1) w w') (hb : c < b) : Box4 w' b c0 c1 c2 c3 := h.keep (ho.2.2.2.2 b h.lt (by omega))
theorem Out.below {c : Nat} {a b d : World} (h : Out c (c + 1) a b) (g : Below b.heap.size b d) : Out c (c + 1) a d := h.trans (Out.of_below g)
theorem Cur.lt {w : World} {cs : List UInt8} {a : Option Addr} {cap b off c : Nat} {s : Nat × Nat} (h : Cur w cs a cap b off c s) : c < w.heap.size := h.2.2.2.2.2.2.2.2.lt
theorem Cur.set {w : World} {cs : List UInt8} {a : Option Addr} {cap b off c g o : Nat} {s : Nat × Nat} {x : Value} (h : Cur w cs a cap b off c s) (hg : c < g) : Cur (w.setCell ⟨g, o, none⟩ x) cs a cap b off c s :=
  h.keep (fun k hk => blk_setCell_other _ _ _ _ (by show k ≠ g; omega))
theorem Out.put {c g o : Nat} {a b : World} {x : Value} (h : Out c (c + 1) a b) (hg : a.heap.size ≤ g) : Out c (c + 1) a (b.setCell ⟨g, o, none⟩ x) :=
  ⟨h.1, h.2.1, h.2.2.1, by have := h.2.2.2.1; simp [World.setCell]; omega, fun k hk hn => (blk_setCell_other _ _ _ _ (by show k ≠ g; omega)).trans (h.2.2.2.2 k hk hn)⟩

def lf (n x : ByteArray) : Tr := ⟨n, x, true, []⟩
/-- What a drawing call comes to, where the tree is only read. -/
def DrewL (cs : List UInt8) (a : Option Addr) (cap b off c : Nat) (r : Tr × (Nat × Nat)) (w : World) (e : Ending) (w' : World) : Prop :=
  ∃ xa xm xc, e = .returned (r.1.val (.slice xa xm xc)) ∧ Out c (c + 1) w w' ∧ Cur w' cs a cap b off c r.2 ∧ Lies w' (fun q => w.heap.size ≤ q) r.1 (.slice xa xm xc)
theorem lies_nil (w : World) (S : Nat → Prop) (n x : ByteArray) (l : Bool) (hn : n.size ≤ maxLen) (hx : x.size ≤ maxLen) : Lies w S ⟨n, x, l, []⟩ (.slice none 0 0) :=
  Lies.shut ⟨none, 0, 0, 0, fun _ => .bool false, rfl, hn, hx, Nat.le_refl _, Nat.zero_le _, fun h => absurd h (Nat.not_lt_zero _), fun i hi => absurd hi (Nat.not_lt_zero _), fun i hi => absurd hi (Nat.not_lt_zero _)⟩
theorem Box4.past {w : World} {b g o : Nat} {c0 c1 c2 c3 x : Value} (h : Box4 w b c0 c1 c2 c3) (hg : b ≠ g) : Box4 (w.setCell ⟨g, o, none⟩ x) b c0 c1 c2 c3 := h.keep (blk_setCell_other _ _ _ _ (by exact hg))
theorem Lies.set {w : World} {S : Nat → Prop} {t : Tr} {v x : Value} {g o : Nat} (h : Lies w S t v) (hg : ¬ S g) : Lies (w.setCell ⟨g, o, none⟩ x) S t v :=
  h.keep (fun q hq => blk_setCell_other _ _ _ _ (by show q ≠ g; intro e; subst e; exact hg hq))
end Go.Proofs.Ytledclkmeikgdaa.T
