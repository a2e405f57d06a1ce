import Derived.Test.YtboffildchoelaaMs
import Derived.Deep.AppendLies
import Derived.Test.YtboffildchoelaaWalk
/-! Boxes, rows that grow, and what a step leaves. -/
namespace Go.Proofs.Ytboffildchoelaa
open Go.RowKit Go.Deep Go.Lib
set_option linter.unusedVariables false
set_option maxRecDepth 100000
set_option linter.unusedSimpArgs false

structure Box (w : World) (g T : Nat) (cs : List Value) : Prop where
  ex : w.rowIs g T cs.length (fun i => cs.getD i .nilFunc)
theorem Box.new (w : World) (T : Nat) (cs : List Value) : Box (w.alloc (.cells cs.toArray T)) w.heap.size T cs :=
  ⟨cs.toArray, blk_alloc_new _ _, by simp, fun i hi => by simp [List.getD_eq_getElem?_getD, hi]⟩
theorem Box.lt {w : World} {g T : Nat} {cs : List Value} (h : Box w g T cs) : g < w.heap.size := World.rowIs.lt h.ex
theorem Box.keep {w w' : World} {g T : Nat} {cs : List Value} (h : Box w g T cs) (hb : w'.heap[g]? = w.heap[g]?) : Box w' g T cs := ⟨World.rowIs.of_block h.ex hb⟩
theorem Box.still {w w' : World} {g T : Nat} {cs : List Value} (h : Box w g T cs) (hb : Below w.heap.size w w') : Box w' g T cs := h.keep (hb.block g h.lt)
theorem Box.cell {w : World} {g T : Nat} {cs : List Value} (h : Box w g T cs) (i : Nat) (hi : i < cs.length) : w.cell? ⟨g, i, none⟩ = some (cs.getD i .nilFunc) := h.ex.cell hi
theorem Box.frozen {w : World} {g T : Nat} {cs : List Value} (h : Box w g T cs) (i : Nat) : w.frozen? ⟨g, i, none⟩ = false := h.ex.frozen i
theorem Box.set {w : World} {g T : Nat} {cs : List Value} (h : Box w g T cs) (i : Nat) (u : Value) : Box (w.setCell ⟨g, i, none⟩ u) g T (cs.set i u) := by
  obtain ⟨c, h1, h2, h3⟩ := World.rowIs.set h.ex i u
  refine ⟨c, h1, by simpa using h2, fun j hj => ?_⟩
  rw [List.length_set] at hj
  rw [h3 j hj]
  by_cases e : j = i
  · subst e; simp [List.getD_eq_getElem?_getD, hj]
  · have e2 : (cs.set i u)[j]? = cs[j]? := List.getElem?_set_ne (fun h : i = j => e h.symm)
    simp [List.getD_eq_getElem?_getD, e, e2]
theorem Box.past {w : World} {g T q o : Nat} {cs : List Value} {u : Value} (h : Box w g T cs) (hq : g ≠ q) : Box (w.setCell ⟨q, o, none⟩ u) g T cs := h.keep (blk_setCell_other _ _ _ _ (by exact hq))

/-- A row grows: all but it is as it was, and it is where it was or in a new block. -/
structure GW (w w' : World) (u u' : Value) : Prop where
  g : w.grownBy w' u.ownBlock
  at' : u'.ownBlock = u.ownBlock ∨ ∃ q, u'.ownBlock = some q ∧ w.heap.size ≤ q
theorem GW.of_below {w w' : World} {u : Value} (h : Below w.heap.size w w') : GW w w' u u := ⟨⟨h.os, h.tape, h.output, h.size, fun k hk _ => h.block k hk⟩, .inl rfl⟩
theorem GW.trans {w w1 w2 : World} {u u1 u2 : Value} (h : GW w w1 u u1) (k : GW w1 w2 u1 u2) : GW w w2 u u2 := by
  have s1 := h.g.size
  have s2 := k.g.size
  refine ⟨⟨k.g.os.trans h.g.os, k.g.tape.trans h.g.tape, k.g.output.trans h.g.output, by omega, fun q hq hne => ?_⟩, ?_⟩
  · refine (k.g.block q (by omega) (fun e => ?_)).trans (h.g.block q hq hne)
    rcases h.at' with e1 | ⟨p, e1, hp⟩
    · exact hne (e.trans e1)
    · rw [e1] at e
      injection e with e
      omega
  · rcases k.at' with e1 | ⟨p, e1, hp⟩
    · rcases h.at' with e2 | ⟨p, e2, hp⟩
      · exact .inl (e1.trans e2)
      · exact .inr ⟨p, e1.trans e2, hp⟩
    · exact .inr ⟨p, e1, by omega⟩
/-- What is written into a block that was not there does no harm. -/
theorem GW.over {w w1 w2 : World} {u u1 : Value} (h : GW w w1 u u1) (hb : Below w.heap.size w1 w2) : GW w w2 u u1 :=
  ⟨⟨hb.os.trans h.g.os, hb.tape.trans h.g.tape, hb.output.trans h.g.output, Nat.le_trans h.g.size hb.size, fun q hq hne => (hb.block q hq).trans (h.g.block q hq hne)⟩, h.at'⟩
theorem GW.step {w w' : World} {u : Value} {g n cap H : Nat} (h : w.grownBy w' u.ownBlock) (hat : u.ownBlock = some g ∨ g = H) (hH : w.heap.size ≤ H) : GW w w' u (.slice (some ⟨g, 0, none⟩) n cap) := by
  refine ⟨h, ?_⟩
  rcases hat with e | e
  · exact .inl e.symm
  · exact .inr ⟨g, rfl, by omega⟩
theorem GW.below {w w' : World} {u u' : Value} {B : Nat} (h : GW w w' u u') (hB : B ≤ w.heap.size) (hu : ∀ g, u.ownBlock = some g → B ≤ g) : Below B w w' :=
  ⟨h.g.os, h.g.tape, h.g.output, h.g.size, fun k hk => h.g.block k (by omega) (fun e => by have := hu k e.symm; omega)⟩
theorem own_keep1 {w w' : World} {B e z : Nat} {v : Value} {n : Nat} {xs : List Value} (h : w.ownsRow B e z v n xs) (hb : ∀ k, v.ownBlock = some k → w'.heap[k]? = w.heap[k]?) : w'.ownsRow B e z v n xs := by
  refine ⟨h.1, ?_⟩
  rcases h.2 with h0 | ⟨g, cp, cur, r1, r2, r3, r4⟩
  · exact .inl h0
  · exact .inr ⟨g, cp, cur, r1, r2, by rw [hb g (by rw [r1]; rfl)]; exact r3, r4⟩
theorem own_nil (w : World) (B e z : Nat) : w.ownsRow B e z (.slice none 0 0) 0 [] := ⟨by simp, .inl ⟨rfl, rfl⟩⟩
theorem own_ne {w : World} {B e z n : Nat} {v : Value} {xs : List Value} (h : w.ownsRow B e z v n xs) : ∃ a cap, v = .slice a n cap ∧ (a = none → n = 0) := by
  rcases h.2 with ⟨rfl, h0⟩ | ⟨g, cp, cur, r1, r2⟩
  · exact ⟨none, 0, by rw [h0], fun _ => h0⟩
  · exact ⟨_, _, r1, fun e => by cases e⟩
theorem But.still {p : Nat} {a b c : World} (h : But p a b) (k : Below b.heap.size b c) : But p a c := h.trans (But.of_below k)
theorem But.block {p : Nat} {a b : World} (h : But p a b) {q : Nat} (hq : q < a.heap.size) (hp : q ≠ p) : b.heap[q]? = a.heap[q]? := h.2.2.2.2 q hq hp
theorem But.size {p : Nat} {a b : World} (h : But p a b) : a.heap.size ≤ b.heap.size := h.2.2.2.1
theorem Box.same {w w' : World} {g T : Nat} {cs : List Value} (h : Box w g T cs) (h' : Box w' g T cs) : w'.heap[g]? = w.heap[g]? := by
  obtain ⟨c, h1, h2, h3⟩ := h.ex
  obtain ⟨c', g1, g2, g3⟩ := h'.ex
  have e : c' = c := Array.ext (by omega) (fun i a1 a2 => by
    have e1 := h3 i (by omega)
    have e2 := g3 i (by omega)
    rw [Array.getElem?_eq_getElem a2] at e1
    rw [Array.getElem?_eq_getElem a1] at e2
    injection e1 with e1
    injection e2 with e2
    rw [e1, e2])
  rw [h1, g1, e]
end Go.Proofs.Ytboffildchoelaa
