import Derived.Test.YtblfeifedcddnaaDn
import Derived.Test.YtblfeifedcddnaaGrow
import Derived.Test.YtblfeifedcddnaaWalk
/-! Small things about rows and boxes. -/
namespace Go.Proofs.Ytblfeifedcddnaa
open Go.RowKit Go.Deep Go.Lib
set_option linter.unusedVariables false
set_option maxRecDepth 100000
set_option linter.unusedSimpArgs false

theorem nth_app {k : List Tr} {t : Tr} {i : Nat} (h : i < k.length) : nth (k ++ [t]) i = nth k i := by
  unfold nth
  rw [List.getElem?_append_left h]
theorem nth_last (k : List Tr) (t : Tr) : nth (k ++ [t]) k.length = t := by simp [nth]
theorem kc_app (k : List Tr) (t : Tr) (fs : Nat → Value) : ∀ j, j ≤ k.length → kc (k ++ [t]) fs j = kc k fs j
  | 0, _ => rfl
  | j + 1, h => by rw [kc, kc, kc_app k t fs j (by omega), nth_app (by omega)]
theorem Grw.past {k : List Tr} {B j g o : Nat} {v x : Value} {w : World} (h : Grw k B j v w) (hg : g < B) : Grw k B j v (w.setCell ⟨g, o, none⟩ x) := by
  obtain ⟨fs, l, hh, hown, hls, hr, hd⟩ := h
  refine ⟨fs, l, hh, own_keep1 hown (fun q hq => blk_setCell_other _ _ _ _ (by have := hown.lt q hq; show q ≠ g; omega)), fun i hi => (hls i hi).past (.inl (by have := hr i hi; omega)), fun i hi => ?_, hd⟩
  have := hr i hi
  simp only [World.size_setCell]
  exact this
theorem own_ne {w : World} {B e z n : Nat} {v : Value} {xs : List Value} (h : w.ownsRow B e z v n xs) : ∃ a cap, v = .slice a n cap ∧ (a = none → n = 0) := by
  rcases h.2 with ⟨rfl, h0⟩ | ⟨g, cp, cur, r1, r2⟩
  · exact ⟨none, 0, by rw [h0], fun _ => h0⟩
  · exact ⟨_, _, r1, fun e => by cases e⟩
theorem But.still {p : Nat} {a b c : World} (h : But p a b) (k : Below b.heap.size b c) : But p a c := h.trans (But.of_below k)
theorem But.block {p : Nat} {a b : World} (h : But p a b) {q : Nat} (hq : q < a.heap.size) (hp : q ≠ p) : b.heap[q]? = a.heap[q]? := h.2.2.2.2 q hq hp
theorem But.size {p : Nat} {a b : World} (h : But p a b) : a.heap.size ≤ b.heap.size := h.2.2.2.1
theorem Box.same {w w' : World} {g T : Nat} {cs : List Value} (h : Box w g T cs) (h' : Box w' g T cs) : w'.heap[g]? = w.heap[g]? := by
  obtain ⟨c, h1, h2, h3⟩ := h.ex
  obtain ⟨c', g1, g2, g3⟩ := h'.ex
  have e : c' = c := Array.ext (by omega) (fun i a1 a2 => by
    have e1 := h3 i (by omega)
    have e2 := g3 i (by omega)
    rw [Array.getElem?_eq_getElem a2] at e1
    rw [Array.getElem?_eq_getElem a1] at e2
    injection e1 with e1
    injection e2 with e2
    rw [e1, e2])
  rw [h1, g1, e]
theorem Box.out {lo hi g T : Nat} {w w' : World} {cs : List Value} (h : Box w g T cs) (ho : Out lo hi w w') (hr : g < lo ∨ hi ≤ g) : Box w' g T cs := h.keep (ho.2.2.2.2 g h.lt hr)
end Go.Proofs.Ytblfeifedcddnaa
