import Derived.Test.YtofobmdljelmgaaUq
import Derived.Test.YtofobmdljelmgaaLs
/-! l09Tree: the tree of a node. -/
namespace Go.Proofs.Ytofobmdljelmgaa
open Go.RowKit Go.Deep Go.Lib
set_option linter.unusedVariables false
set_option maxRecDepth 100000
set_option linter.unusedSimpArgs false

theorem nth_app {k : List Tr} {t : Tr} {i : Nat} (h : i < k.length) : nth (k ++ [t]) i = nth k i := by
  unfold nth
  rw [List.getElem?_append_left h]
theorem nth_last (k : List Tr) (t : Tr) : nth (k ++ [t]) k.length = t := by simp [nth]
theorem kc_app (k : List Tr) (t : Tr) (fs : Nat → Value) : ∀ j, j ≤ k.length → kc (k ++ [t]) fs j = kc k fs j
  | 0, _ => rfl
  | j + 1, h => by rw [kc, kc, kc_app k t fs j (by omega), nth_app (by omega)]
theorem Grw.past {k : List Tr} {B j g o : Nat} {v x : Value} {w : World} (h : Grw k B j v w) (hg : g < B) : Grw k B j v (w.setCell ⟨g, o, none⟩ x) := by
  obtain ⟨fs, l, hh, hown, hls, hr, hd⟩ := h
  refine ⟨fs, l, hh, own_keep1 hown (fun q hq => blk_setCell_other _ _ _ _ (by have := hown.lt q hq; show q ≠ g; omega)), fun i hi => (hls i hi).past (.inl (by have := hr i hi; omega)), fun i hi => ?_, hd⟩
  have := hr i hi
  simp only [World.size_setCell]
  exact this
/-- What stands while the tree of a node is made: k' are the Kids so far. -/
structure TwI (w wr : World) (nv rv kv u : Value) (n x : ByteArray) (l : Bool) (k' : List Tr) : Prop where
  b0 : Box wr w.heap.size 27 [nv, rv]
  b1 : Box wr (w.heap.size + 1) 39 [.string ByteArray.empty, .string ByteArray.empty, .bool false, .slice none 0 0]
  b2 : Box wr (w.heap.size + 1 + 1) 34 [.string n, .string x, .bool l, kv]
  b3 : Box wr (w.heap.size + 1 + 1 + 1) 39 [.string n, .string x, .bool l, u]
  bel : Below w.heap.size w wr
  grw : Grw k' (w.heap.size + 4) k'.length u wr
theorem TwI.next {w wr w2 w3 : World} {nv rv kv u q : Value} {n x : ByteArray} {l : Bool} {k' : List Tr} {t : Tr} {a c g cap : Nat} {fs : Nat → Value} {lo hi : Nat → Nat} (h : TwI w wr nv rv kv u n x l k')
    (hown : wr.ownsRow (w.heap.size + 4) 39 4 u k'.length (kc k' fs k'.length)) (hls : ∀ i, i < k'.length → Own wr (lo i) (hi i) (nth k' i) (fs i))
    (hr : ∀ i, i < k'.length → w.heap.size + 4 ≤ lo i ∧ hi i ≤ wr.heap.size ∧ ∀ g, u.ownBlock = some g → g < lo i ∨ hi i ≤ g) (hd : ∀ i i', i < i' → i' < k'.length → hi i ≤ lo i')
    (hb : Below wr.heap.size wr w2) (hu : Own w2 a c t q) (ha : wr.heap.size ≤ a) (hc : c ≤ w2.heap.size)
    (hown3 : w3.ownsRow (w.heap.size + 4) 39 4 (.slice (some ⟨g, 0, none⟩) (k'.length + 1) cap) (k'.length + 1) (kc k' fs k'.length ++ [.string t.name, .string t.text, .bool t.leaf, q]))
    (hgr : w2.grownBy w3 u.ownBlock) (hat : u.ownBlock = some g ∨ g = w2.heap.size) :
    TwI w (w3.setCell ⟨w.heap.size + 1 + 1 + 1, 3, none⟩ (.slice (some ⟨g, 0, none⟩) (k'.length + 1) cap)) nv rv kv (.slice (some ⟨g, 0, none⟩) (k'.length + 1) cap) n x l (k' ++ [t]) := by
  have hz := h.b3.lt
  have hs := hb.size
  have hG : Grw (k' ++ [t]) (w.heap.size + 4) (k'.length + 1) (.slice (some ⟨g, 0, none⟩) (k'.length + 1) cap) w3 := by
    refine Grw.step (k := k' ++ [t]) (fs := fs) (l := lo) (h := hi) (u := q) (wr := wr) (w2 := w2) (a := a) (c := c) (v := u) ?_ (fun i hi => by rw [nth_app hi]; exact hls i hi) hr hd (by omega) hb (by rw [nth_last]; exact hu) ha hc ?_ hgr hat
    · rw [kc_app _ _ _ _ (Nat.le_refl _)]; exact hown
    · rw [kc_app _ _ _ _ (Nat.le_refl _), nth_last]; exact hown3
  have hblk : ∀ p, p < w.heap.size + 4 → w3.heap[p]? = wr.heap[p]? := fun p hp => (hgr.block p (by omega) (fun e => by have := World.ownsRow.lt hown p e.symm; omega)).trans (hb.block p (by omega))
  refine ⟨(h.b0.keep (hblk _ (by omega))).past (by omega), (h.b1.keep (hblk _ (by omega))).past (by omega), (h.b2.keep (hblk _ (by omega))).past (by omega), (h.b3.keep (hblk _ (by omega))).set 3 _, ?_, ?_⟩
  · refine Below.setCell (p := ⟨w.heap.size + 1 + 1 + 1, 3, none⟩) ?_ (by simp; omega) _
    exact (h.bel.trans (hb.mono h.bel.size)).grown hgr (by omega) (fun p hp => by have := World.ownsRow.lt hown p hp; omega)
  · rw [List.length_append]
    exact hG.past (by omega)
/-- What the call answers. -/
def TwR (t : Tr) (room : Int) (t' : Tr) (r' : Int) : Prop := -1 ≤ r' ∧ r' < room ∧ ((t.cnt : Int) ≤ room → r' = room - t.cnt) ∧ (room < t.cnt → r' < 0) ∧ (0 ≤ r' → t' = t)
end Go.Proofs.Ytofobmdljelmgaa
