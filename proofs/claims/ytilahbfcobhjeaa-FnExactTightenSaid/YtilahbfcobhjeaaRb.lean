import Derived.Test.YtilahbfcobhjeaaRa
import Derived.Test.YtilahbfcobhjeaaKit
import Derived.Deep.AppendLies
/-! A run of a program: as it lies. -/
namespace Go.Proofs.Ytilahbfcobhjeaa
open Go.RowKit Go.Deep
set_option linter.unusedVariables false
set_option maxRecDepth 100000
set_option linter.unusedSimpArgs false

/-- Numbers as values. -/
abbrev iv (l : List Int) : List Value := l.map (Value.int .i64)
/-- All blocks below A but q are as they were. -/
structure Kp (q A : Nat) (w w' : World) : Prop where
  os : w'.os = w.os
  tape : w'.tape = w.tape
  output : w'.output = w.output
  size : w.heap.size ≤ w'.heap.size
  block : ∀ b, b < A → b ≠ q → w'.heap[b]? = w.heap[b]?
theorem Kp.refl (q A : Nat) (w : World) : Kp q A w w := ⟨rfl, rfl, rfl, Nat.le_refl _, fun _ _ _ => rfl⟩
theorem Kp.trans {q A : Nat} {a b c : World} (h : Kp q A a b) (k : Kp q A b c) : Kp q A a c :=
  ⟨k.os.trans h.os, k.tape.trans h.tape, k.output.trans h.output, Nat.le_trans h.size k.size, fun i hi hq => (k.block i hi hq).trans (h.block i hi hq)⟩
theorem Kp.bel {q A L : Nat} {w w' : World} (h : Kp q A w w') (hq : L ≤ q) (hA : L ≤ A) : Below L w w' :=
  ⟨h.os, h.tape, h.output, h.size, fun b hb => h.block b (by omega) (by omega)⟩
theorem Kp.of_bel {q A B : Nat} {w w' : World} (h : Below B w w') (hA : A ≤ B) : Kp q A w w' := ⟨h.os, h.tape, h.output, h.size, fun b hb _ => h.block b (by omega)⟩
theorem Kp.set {q A : Nat} {a w : World} (h : Kp q A a w) (o : Nat) (u : Value) : Kp q A a (w.setCell ⟨q, o, none⟩ u) :=
  ⟨h.os, h.tape, h.output, by have := h.size; simp; omega, fun b hb hq => (blk_setCell_other _ _ _ _ (by exact hq)).trans (h.block b hb hq)⟩
theorem Kp.alloc {q A : Nat} {a w : World} (h : Kp q A a w) (hA : A ≤ w.heap.size) (o : Obj) : Kp q A a (w.alloc o) := h.trans (Kp.of_bel (bel_alloc w o) hA)
theorem Kp.drew {q A : Nat} {a w : World} (h : Kp q A a w) : Kp q A a w.drew := ⟨h.os, h.tape, h.output, h.size, h.block⟩
theorem Kp.drewN {q A : Nat} {a w : World} (h : Kp q A a w) (n : Nat) : Kp q A a (w.drewN n) := ⟨h.os, h.tape, h.output, h.size, h.block⟩
theorem Kp.grown {q A : Nat} {a w w' : World} {row : Option Nat} (h : Kp q A a w) (hA : A ≤ w.heap.size) (hg : w.grownBy w' row) (hr : ∀ b, row = some b → A ≤ b) : Kp q A a w' :=
  h.trans ⟨hg.os, hg.tape, hg.output, hg.size, fun b hb hq => hg.block b (by omega) (fun e => by have := hr b e.symm; omega)⟩
theorem own_keep {w w' : World} {base e size n : Nat} {v : Value} {xs : List Value} (h : w.ownsRow base e size v n xs) (hb : ∀ b, v.ownBlock = some b → w'.heap[b]? = w.heap[b]?) : w'.ownsRow base e size v n xs := by
  obtain ⟨h1, h2⟩ := h
  refine ⟨h1, ?_⟩
  rcases h2 with h2 | ⟨g, cap, cur, rfl, hg, hh, rest⟩
  · exact .inl h2
  · exact .inr ⟨g, cap, cur, rfl, hg, (hb g rfl).trans hh, rest⟩
theorem own_lt {w : World} {base e size n : Nat} {v : Value} {xs : List Value} (h : w.ownsRow base e size v n xs) {b : Nat} (hb : v.ownBlock = some b) : base ≤ b ∧ b < w.heap.size := World.ownsRow.lt h b hb
/-- .. cut behind its first so many. -/
theorem own_cut {w : World} {base : Nat} {g n cap m : Nat} {l : List Int} (h : w.ownsRow base 3 1 (.slice (some ⟨g, 0, none⟩) n cap) n (iv l)) (hm : m ≤ n) : w.ownsRow base 3 1 (.slice (some ⟨g, 0, none⟩) m cap) m (iv (l.take m)) := by
  obtain ⟨h1, h2⟩ := h
  have hl : l.length = n := by simpa using h1
  refine ⟨by simp; omega, .inr ?_⟩
  rcases h2 with ⟨h2, _⟩ | ⟨g', cap', cur, hv, hg, hh, hc, hcm, hs, ht⟩
  · cases h2
  · obtain ⟨rfl, rfl⟩ : g = g' ∧ cap = cap' := by injection hv with e1 e2 e3; injection e1 with e1; injection e1 with e1; exact ⟨e1, e3⟩
    refine ⟨g, cap, cur, rfl, hg, hh, by omega, hcm, hs, ?_⟩
    have e : cur.toList.take (m * 1) = (cur.toList.take (n * 1)).take m := by rw [List.take_take]; congr 1; omega
    rw [e, ht, ← List.map_take]
theorem own_cell {w : World} {base n : Nat} {v : Value} {l : List Int} (h : w.ownsRow base 3 1 v n (iv l)) {g cap : Nat} {m : Nat} (hv : v = .slice (some ⟨g, 0, none⟩) m cap) {i : Nat} (hi : i < l.length) : w.cell? ⟨g, i, none⟩ = some (.int .i64 l[i]) := by
  obtain ⟨h1, h2⟩ := h
  have hl : l.length = n := by simpa using h1
  rcases h2 with ⟨h2, h3⟩ | ⟨g', cap', cur, hv', hg, hh, hc, hcm, hs, ht⟩
  · omega
  · rw [hv] at hv'
    obtain rfl : g = g' := by injection hv' with e1 e2 e3; injection e1 with e1; injection e1 with e1
    rw [cell_of_row w g i cur 3 (0, 0) hh]
    have e : (cur.toList.take (n * 1))[i]? = some (.int .i64 l[i]) := by rw [ht]; simp [hi]
    rw [List.getElem?_take_of_lt (by omega)] at e
    simpa using e
theorem own_form {w : World} {base n : Nat} {v : Value} {l : List Int} (h : w.ownsRow base 3 1 v n (iv l)) : ∃ a cap, v = .slice a l.length cap ∧ cap ≤ maxLen ∧ l.length ≤ cap ∧ (0 < l.length → ∃ g, a = some ⟨g, 0, none⟩) := by
  obtain ⟨h1, h2⟩ := h
  have hl : l.length = n := by simpa using h1
  rcases h2 with ⟨rfl, h3⟩ | ⟨g, cap, cur, rfl, hg, hh, hc, hcm, hs, ht⟩
  · exact ⟨none, 0, by rw [hl, h3], Nat.zero_le _, by omega, fun h => by omega⟩
  · exact ⟨_, cap, by rw [hl], hcm, by omega, fun _ => ⟨g, rfl⟩⟩
/-- A run as it lies: its box, the pile and what was told in rows of their own. -/
structure RunM (w : World) (q A T : Nat) (cs : List Value) (vp vt : Value) (r : Rn) : Prop where
  box : Box w q T cs
  pile : w.ownsRow A 3 1 vp r.pile.length (iv r.pile)
  told : w.ownsRow A 3 1 vt r.told.length (iv r.told)
  apart : ∀ b, vp.ownBlock = some b → vt.ownBlock ≠ some b
  hq : q < A
  hA : A ≤ w.heap.size
theorem RunM.keep {w w' : World} {q A T : Nat} {cs : List Value} {vp vt : Value} {r : Rn} (h : RunM w q A T cs vp vt r) (hs : w.heap.size ≤ w'.heap.size) (hb : ∀ b, b < w.heap.size → w'.heap[b]? = w.heap[b]?) : RunM w' q A T cs vp vt r :=
  ⟨h.box.keep (hb _ h.box.lt), own_keep h.pile (fun b e => hb b (own_lt h.pile e).2), own_keep h.told (fun b e => hb b (own_lt h.told e).2), h.apart, h.hq, Nat.le_trans h.hA hs⟩
theorem RunM.still {w w' : World} {q A T : Nat} {cs : List Value} {vp vt : Value} {r : Rn} (h : RunM w q A T cs vp vt r) (hb : Below w.heap.size w w') : RunM w' q A T cs vp vt r := h.keep hb.size hb.block
/-- A cell of the box is written. -/
theorem RunM.set {w : World} {q A T : Nat} {cs : List Value} {vp vt : Value} {r : Rn} (h : RunM w q A T cs vp vt r) (i : Nat) (u : Value) : RunM (w.setCell ⟨q, i, none⟩ u) q A T (cs.set i u) vp vt r :=
  ⟨h.box.set i u, own_keep h.pile (fun b e => blk_setCell_other _ _ _ _ (by have := (own_lt h.pile e).1; have := h.hq; show b ≠ q; omega)), own_keep h.told (fun b e => blk_setCell_other _ _ _ _ (by have := (own_lt h.told e).1; have := h.hq; show b ≠ q; omega)), h.apart, h.hq, by have := h.hA; simpa using this⟩
/-- .. what is said of the rows alone. -/
theorem RunM.turn {w : World} {q A T : Nat} {cs : List Value} {vp vt : Value} {r r' : Rn} (h : RunM w q A T cs vp vt r) (hp : r'.pile = r.pile) (ht : r'.told = r.told) : RunM w q A T cs vp vt r' :=
  ⟨h.box, by rw [hp]; exact h.pile, by rw [ht]; exact h.told, h.apart, h.hq, h.hA⟩
/-- The pile has grown, in whatever world. -/
theorem RunM.push {w w' : World} {q A T : Nat} {cs : List Value} {vp vt : Value} {r : Rn} {n : Int} {g cap : Nat} (h : RunM w q A T cs vp vt r) (hg : w.grownBy w' vp.ownBlock)
    (hown : w'.ownsRow A 3 1 (.slice (some ⟨g, 0, none⟩) (r.pile.length + 1) cap) (r.pile.length + 1) (iv r.pile ++ [.int .i64 n])) (hat : vp.ownBlock = some g ∨ g = w.heap.size) :
    RunM w' q A T cs (.slice (some ⟨g, 0, none⟩) (r.pile.length + 1) cap) vt ⟨r.pc, r.place, r.pile ++ [n], r.told⟩ := by
  have hq := h.hq
  refine ⟨h.box.keep (hg.block _ h.box.lt (fun e => by have := (own_lt h.pile e.symm).1; omega)), ?_, own_keep h.told (fun b e => hg.block b (own_lt h.told e).2 (fun e2 => h.apart b e2.symm e)), fun b e e2 => ?_, hq, Nat.le_trans h.hA hg.size⟩
  · simpa [iv] using hown
  · injection e with e
    subst e
    rcases hat with e3 | e3
    · exact h.apart _ e3 e2
    · have hh : g < w.heap.size := (own_lt h.told e2).2
      omega
/-- What was told has grown. -/
theorem RunM.tell {w w' : World} {q A T : Nat} {cs : List Value} {vp vt : Value} {r : Rn} {n : Int} {g cap : Nat} (h : RunM w q A T cs vp vt r) (hg : w.grownBy w' vt.ownBlock)
    (hown : w'.ownsRow A 3 1 (.slice (some ⟨g, 0, none⟩) (r.told.length + 1) cap) (r.told.length + 1) (iv r.told ++ [.int .i64 n])) (hat : vt.ownBlock = some g ∨ g = w.heap.size) :
    RunM w' q A T cs vp (.slice (some ⟨g, 0, none⟩) (r.told.length + 1) cap) ⟨r.pc, r.place, r.pile, r.told ++ [n]⟩ := by
  have hq := h.hq
  refine ⟨h.box.keep (hg.block _ h.box.lt (fun e => by have := (own_lt h.told e.symm).1; omega)), own_keep h.pile (fun b e => hg.block b (own_lt h.pile e).2 (fun e2 => h.apart b e e2.symm)), ?_, fun b e e2 => ?_, hq, Nat.le_trans h.hA hg.size⟩
  · simpa [iv] using hown
  · injection e2 with e2
    subst e2
    rcases hat with e3 | e3
    · exact h.apart _ e e3
    · have hh : g < w.heap.size := (own_lt h.pile e).2
      omega
/-- Numbers leave the pile. -/
theorem RunM.drop {w : World} {q A T : Nat} {cs : List Value} {vt : Value} {r : Rn} {g cap m : Nat} (h : RunM w q A T cs (.slice (some ⟨g, 0, none⟩) r.pile.length cap) vt r) (hm : m ≤ r.pile.length) :
    RunM w q A T cs (.slice (some ⟨g, 0, none⟩) m cap) vt ⟨r.pc, r.place, r.pile.take m, r.told⟩ := by
  refine ⟨h.box, ?_, h.told, h.apart, h.hq, h.hA⟩
  have := own_cut h.pile hm
  have e : (r.pile.take m).length = m := by rw [List.length_take]; omega
  dsimp only
  rw [e]
  exact this
end Go.Proofs.Ytilahbfcobhjeaa
