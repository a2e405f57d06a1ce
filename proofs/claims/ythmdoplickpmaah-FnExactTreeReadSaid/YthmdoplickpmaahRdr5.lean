import Derived.Test.YthmdoplickpmaahRdr4
import Derived.Test.YthmdoplickpmaahOutf
namespace Go.Proofs.Ythmdoplickpmaah
open Go.RowKit Go.Deep Go.Lib
set_option linter.unusedVariables false
set_option maxRecDepth 100000
set_option linter.unusedSimpArgs false

theorem Grw.carry {k : List Tr} {B j : Nat} {v : Value} {w w' : World} (h : Grw k B j v w) (hs : w.heap.size ≤ w'.heap.size) (hk : ∀ q, B ≤ q → q < w.heap.size → w'.heap[q]? = w.heap[q]?) : Grw k B j v w' := by
  obtain ⟨fs, l, h, hown, hls, hr, hd⟩ := h
  refine ⟨fs, l, h, ⟨hown.1, ?_⟩, fun i hi => ?_, fun i hi => ?_, hd⟩
  · rcases hown.2 with e | ⟨g, cap, cur, e, hB, hg, rest⟩
    · exact .inl e
    · exact .inr ⟨g, cap, cur, e, hB, (hk g hB (Array.getElem?_eq_some_iff.1 hg).1).trans hg, rest⟩
  · exact (hls i hi).keep (Nat.le_refl _) (Nat.le_refl _) (fun q h1 h2 h3 => hk q (Nat.le_trans (hr i hi).1 h1) h3)
  · exact ⟨(hr i hi).1, Nat.le_trans (hr i hi).2.1 hs, (hr i hi).2.2⟩
theorem Grw.still {k : List Tr} {B j : Nat} {v : Value} {w w' : World} (h : Grw k B j v w) (hb : Below w.heap.size w w') : Grw k B j v w' := h.carry hb.size (fun q _ hq => hb.block q hq)
theorem Grw.out {k : List Tr} {B j c : Nat} {v : Value} {w w' : World} (h : Grw k B j v w) (ho : Out c (c + 1) w w') (hc : c < B) : Grw k B j v w' := h.carry ho.2.2.2.1 (fun q hq hl => ho.2.2.2.2 q hl (by omega))
theorem Grw.low {k : List Tr} {B B' j : Nat} {v : Value} {w : World} (h : Grw k B j v w) (hB : B' ≤ B) : Grw k B' j v w := by
  obtain ⟨fs, l, h, hown, hls, hr, hd⟩ := h
  refine ⟨fs, l, h, ⟨hown.1, ?_⟩, hls, fun i hi => ⟨Nat.le_trans hB (hr i hi).1, (hr i hi).2⟩, hd⟩
  rcases hown.2 with e | ⟨g, cap, cur, e, hB1, rest⟩
  · exact .inl e
  · exact .inr ⟨g, cap, cur, e, Nat.le_trans hB hB1, rest⟩
theorem Grw.form {k : List Tr} {B j : Nat} {v : Value} {w : World} (h : Grw k B j v w) : ∃ a m c, v = .slice a m c := by
  obtain ⟨fs, l, h, hown, _⟩ := h
  obtain ⟨a, cap, e⟩ := own_slice hown
  exact ⟨a, j, cap, e⟩
theorem Grw.nil (w : World) (B : Nat) (k : List Tr) : Grw k B 0 (.slice none 0 0) w :=
  ⟨fun _ => .bool false, fun _ => 0, fun _ => 0, World.ownsRow_nil _ _ _ _, fun i hi => absurd hi (Nat.not_lt_zero _), fun i hi => absurd hi (Nat.not_lt_zero _), fun i i' _ hi => absurd hi (Nat.not_lt_zero _)⟩
theorem Grw.made (w : World) (B : Nat) (k : List Tr) (hB : B ≤ w.heap.size) : Grw k B 0 (.slice (some ⟨w.heap.size, 0, none⟩) 0 0) (w.alloc (.cells #[] 29)) :=
  ⟨fun _ => .bool false, fun _ => 0, fun _ => 0, World.ownsRow_made (size := 4) w #[] 0 hB (Nat.zero_le _) rfl, fun i hi => absurd hi (Nat.not_lt_zero _), fun i hi => absurd hi (Nat.not_lt_zero _), fun i i' _ hi => absurd hi (Nat.not_lt_zero _)⟩
/-- One more Kid, made by a call that may write below B. -/
theorem Grw.stepO {k : List Tr} {B j g cap a c : Nat} {v u : Value} {wr w2 w3 : World} {fs : Nat → Value} {l h : Nat → Nat} (hown : wr.ownsRow B 29 4 v j (kc k fs j)) (hls : ∀ i, i < j → Own w2 (l i) (h i) (nth k i) (fs i))
    (hr : ∀ i, i < j → B ≤ l i ∧ h i ≤ wr.heap.size ∧ ∀ g, v.ownBlock = some g → g < l i ∨ h i ≤ g) (hd : ∀ i i', i < i' → i' < j → h i ≤ l i') (hB : B ≤ wr.heap.size)
    (hs : wr.heap.size ≤ w2.heap.size) (hu : Own w2 a c (nth k j) u) (ha : wr.heap.size ≤ a) (hc : c ≤ w2.heap.size)
    (hown3 : w3.ownsRow B 29 4 (.slice (some ⟨g, 0, none⟩) (j + 1) cap) (j + 1) (kc k fs j ++ [.string (nth k j).name, .string (nth k j).text, .bool (nth k j).leaf, u]))
    (hgr : w2.grownBy w3 v.ownBlock) (hat : v.ownBlock = some g ∨ g = w2.heap.size) : Grw k B (j + 1) (.slice (some ⟨g, 0, none⟩) (j + 1) cap) w3 := by
  have hs3 := hgr.size
  have hvl := hown.lt
  refine ⟨fun i => if i = j then u else fs i, fun i => if i = j then a else l i, fun i => if i = j then c else h i, ?_, fun i hi => ?_, fun i hi => ?_, fun i i' hii hi' => ?_⟩
  · rw [kc, kc_congr k (fs := fun i => if i = j then u else fs i) (gs := fs) j (fun i hi => if_neg (by omega))]
    simp only [if_true]
    exact hown3
  · by_cases e : i = j
    · subst e
      simp only [if_true]
      exact hu.keep (Nat.le_refl _) (Nat.le_refl _) (fun q h1 h2 h3 => hgr.block q h3 (fun e => by have := hvl q e.symm; omega))
    · simp only [if_neg e]
      have hri := hr i (by omega)
      exact (hls i (by omega)).keep (Nat.le_refl _) (Nat.le_refl _) (fun q h1 h2 h3 => hgr.block q h3 (fun e => by have := hri.2.2 q e.symm; omega))
  · refine ⟨?_, ?_, fun q hq => ?_⟩
    · dsimp only
      split
      · omega
      · exact (hr i (by omega)).1
    · dsimp only
      split
      · omega
      · have := (hr i (by omega)).2.1; omega
    · simp [Value.ownBlock] at hq
      subst hq
      dsimp only
      split
      · rcases hat with e | e
        · have := hvl g e; omega
        · omega
      · have hri := hr i (by omega)
        rcases hat with e | e
        · exact hri.2.2 g e
        · omega
  · dsimp only
    by_cases e : i' = j
    · subst e
      rw [if_pos rfl, if_neg (by omega)]
      have := (hr i (by omega)).2.1
      omega
    · rw [if_neg e, if_neg (by omega)]; exact hd i i' hii (by omega)
theorem Box4.out {w w' : World} {b c : Nat} {c0 c1 c2 c3 : Value} (h : Box4 w b c0 c1 c2 c3) (ho : Out c (c + 1) w w') (hb : c < b) : Box4 w' b c0 c1 c2 c3 := h.keep (ho.2.2.2.2 b h.lt (by omega))
theorem Out.below {c : Nat} {a b d : World} (h : Out c (c + 1) a b) (g : Below b.heap.size b d) : Out c (c + 1) a d := h.trans (Out.of_below g)
theorem Grw.set {k : List Tr} {B j g o : Nat} {v x : Value} {w : World} (h : Grw k B j v w) (hg : g < B) : Grw k B j v (w.setCell ⟨g, o, none⟩ x) :=
  h.carry (by simp [World.setCell]) (fun q hq _ => blk_setCell_other _ _ _ _ (by show q ≠ g; omega))
theorem Out.put {c g o : Nat} {a b : World} {x : Value} (h : Out c (c + 1) a b) (hg : a.heap.size ≤ g) : Out c (c + 1) a (b.setCell ⟨g, o, none⟩ x) :=
  ⟨h.1, h.2.1, h.2.2.1, by have := h.2.2.2.1; simp [World.setCell]; omega, fun k hk hn => (blk_setCell_other _ _ _ _ (by show k ≠ g; omega)).trans (h.2.2.2.2 k hk hn)⟩


theorem nth_ext (l r : List Tr) {i : Nat} (h : i < l.length) : nth (l ++ r) i = nth l i := by unfold nth; rw [List.getElem?_append_left h]
theorem kc_ext (l r : List Tr) (fs : Nat → Value) : ∀ j, j ≤ l.length → kc (l ++ r) fs j = kc l fs j
  | 0, _ => rfl
  | j + 1, h => by rw [kc, kc, kc_ext l r fs j (by omega), nth_ext l r (by omega)]
theorem Grw.ext {l : List Tr} {B : Nat} {v : Value} {w : World} (h : Grw l B l.length v w) (r : List Tr) : Grw (l ++ r) B l.length v w := by
  obtain ⟨fs, a, b, hown, hls, hr, hd⟩ := h
  exact ⟨fs, a, b, by rw [kc_ext l r fs _ (Nat.le_refl _)]; exact hown, fun i hi => by rw [nth_ext l r hi]; exact hls i hi, hr, hd⟩
theorem Box4.set0 {w : World} {b : Nat} {c0 c1 c2 c3 : Value} (h : Box4 w b c0 c1 c2 c3) (u : Value) : Box4 (w.setCell ⟨b, 0, none⟩ u) b u c1 c2 c3 := by
  obtain ⟨f, h, rfl, rfl, rfl, rfl⟩ := h
  exact ⟨_, h.set 0 u, rfl, rfl, rfl, rfl⟩
theorem Box4.set1 {w : World} {b : Nat} {c0 c1 c2 c3 : Value} (h : Box4 w b c0 c1 c2 c3) (u : Value) : Box4 (w.setCell ⟨b, 1, none⟩ u) b c0 u c2 c3 := by
  obtain ⟨f, h, rfl, rfl, rfl, rfl⟩ := h
  exact ⟨_, h.set 1 u, rfl, rfl, rfl, rfl⟩
theorem Box4.set2 {w : World} {b : Nat} {c0 c1 c2 c3 : Value} (h : Box4 w b c0 c1 c2 c3) (u : Value) : Box4 (w.setCell ⟨b, 2, none⟩ u) b c0 c1 u c3 := by
  obtain ⟨f, h, rfl, rfl, rfl, rfl⟩ := h
  exact ⟨_, h.set 2 u, rfl, rfl, rfl, rfl⟩
theorem Rdr.lt {w : World} {p k : Nat} {s : ByteArray} (h : Rdr w p s k) : p < w.heap.size := h.2.2.lt
theorem Rdr.still {w w' : World} {p k : Nat} {s : ByteArray} (h : Rdr w p s k) (hb : Below w.heap.size w w') : Rdr w' p s k := h.keep (hb.block p h.lt)
theorem Rdr.past {w : World} {p k g o : Nat} {s : ByteArray} {u : Value} (h : Rdr w p s k) (hg : p < g) : Rdr (w.setCell ⟨g, o, none⟩ u) p s k := h.keep (blk_setCell_other _ _ _ _ (by show p ≠ g; omega))
theorem BadT.past {w : World} {p j g o : Nat} {s : ByteArray} {u : Value} (h : BadT w p s j) (hg : p < g) : BadT (w.setCell ⟨g, o, none⟩ u) p s j := h.keep (blk_setCell_other _ _ _ _ (by show p ≠ g; omega))
theorem Bad.next {w : World} {p j : Nat} {s : ByteArray} (h : Bad w p s j) : ∃ a, a ≤ s.size ∧ RdB w p s a j ∧ BadT (w.setCell ⟨p, 1, none⟩ (.int .i64 ((a : Int) + 1))) p s j := by
  obtain ⟨h1, a, h2, h3⟩ := h
  exact ⟨a, h2, h3, h1, a + 1, by omega, h3.next⟩

/-- A name that is too long: what stands behind it is a fault, in a leaf and in a node. -/
theorem long_sees {s : ByteArray} {k k1 : Nat} (h : tooLong s k k1 = true) (b : UInt8) (hb : nbB b.toNat = false) : seesB s k1 b = false := by
  unfold tooLong at h
  simp at h
  unfold seesB
  simp only [h.2.1, decide_true, Bool.true_and]
  cases he : (s.get! k1 == b)
  · rfl
  · have e := eq_of_beq he
    rw [e, hb] at h
    exact absurd h.2.2 (by simp)
theorem long_leaf {s : ByteArray} {k : Nat} {a : ByteArray × Nat} (hn : pName s k = .ok a) (h : tooLong s k a.2 = true) : pLeaf s k = .error a.2 := by
  unfold pLeaf
  rw [hn]
  dsimp only
  rw [if_neg (by rw [long_sees h 34 (by decide)]; simp)]
theorem long_kids {pT : Nat → Except Nat (Tr × Nat)} {s : ByteArray} {k k1 f : Nat} (h : tooLong s k k1 = true) : pKids pT s (f + 1) k1 [] = .error k1 := by
  have e : skip s k1 = k1 := skip_stop (by rw [long_sees h 32 (by decide), long_sees h 10 (by decide)]; rfl)
  rw [pKids, e, if_neg (by rw [long_sees h 41 (by decide)]; simp), if_pos ⟨rfl, by rw [long_sees h 40 (by decide)]; simp⟩]

/-- What the specification's tree answers, in four cells. -/
def STG (r : Except Nat (Tr × Nat)) (B p : Nat) (s : ByteArray) (n x : ByteArray) (le : Bool) (v : Value) (w' : World) : Prop := match r with
  | .ok a => a.1.name = n ∧ a.1.text = x ∧ a.1.leaf = le ∧ Own w' B w'.heap.size a.1 v ∧ Rdr w' p s a.2
  | .error j => BadT w' p s j
/-- .. as the call's answer. -/
def SAns (r : Except Nat (Tr × Nat)) (w : World) (p : Nat) (s : ByteArray) (e : Ending) (w' : World) : Prop :=
  ∃ n x le a m c, e = .returned (.agg #[.string n, .string x, .bool le, .slice a m c]) ∧ Out p (p + 1) w w' ∧ STG r w.heap.size p s n x le (.slice a m c) w'

/-- Its result's cell, and its variable's. -/
structure TPre (w V : World) (p : Nat) (c0 c1 c2 c3 : Value) : Prop where
  out : Out p (p + 1) w V
  size : w.heap.size + 2 ≤ V.heap.size
  b0 : Box4 V w.heap.size (.string ByteArray.empty) (.string ByteArray.empty) (.bool false) (.slice none 0 0)
  b1 : Box4 V (w.heap.size + 1) c0 c1 c2 c3
theorem TPre.step {w V V' : World} {p : Nat} {c0 c1 c2 c3 : Value} (h : TPre w V p c0 c1 c2 c3) (ho : Out p (p + 1) V V') (hp : p < w.heap.size) : TPre w V' p c0 c1 c2 c3 :=
  ⟨h.out.trans ho, Nat.le_trans h.size ho.2.2.2.1, h.b0.keep (ho.2.2.2.2 _ h.b0.lt (by omega)), h.b1.keep (ho.2.2.2.2 _ h.b1.lt (by omega))⟩
theorem TPre.put {w V : World} {p : Nat} {c0 c1 c2 c3 d0 d1 d2 d3 u : Value} {o : Nat} (h : TPre w V p c0 c1 c2 c3) (hb : Box4 (V.setCell ⟨w.heap.size + 1, o, none⟩ u) (w.heap.size + 1) d0 d1 d2 d3) : TPre w (V.setCell ⟨w.heap.size + 1, o, none⟩ u) p d0 d1 d2 d3 :=
  ⟨h.out.put (by omega), by have := h.size; simp [World.setCell]; omega, h.b0.keep (blk_setCell_other _ _ _ _ (by show w.heap.size ≠ w.heap.size + 1; omega)), hb⟩
theorem TPre.new (w : World) (p : Nat) : TPre w ((w.alloc (.cells #[.string ByteArray.empty, .string ByteArray.empty, .bool false, .slice none 0 0] 29)).alloc (.cells #[.string ByteArray.empty, .string ByteArray.empty, .bool false, .slice none 0 0] 29)) p (.string ByteArray.empty) (.string ByteArray.empty) (.bool false) (.slice none 0 0) := by
  refine ⟨Out.of_below ((bel_alloc _ _).alloc (by simp) _), by simp, (Box4.new w _ _ _ _).still (bel_alloc _ _), ?_⟩
  have h := Box4.new (w.alloc (.cells #[.string ByteArray.empty, .string ByteArray.empty, .bool false, .slice none 0 0] 29)) (.string ByteArray.empty) (.string ByteArray.empty) (.bool false) (.slice none 0 0)
  simp only [World.size_alloc] at h
  exact h
theorem STG.low {r : Except Nat (Tr × Nat)} {B B' p : Nat} {s n x : ByteArray} {le : Bool} {v : Value} {w w' : World} (h : STG r B p s n x le v w) (hB : B' ≤ B) (hs : w.heap.size ≤ w'.heap.size) (hk : ∀ q, B ≤ q → q < w.heap.size → w'.heap[q]? = w.heap[q]?) (hp : w'.heap[p]? = w.heap[p]?) : STG r B' p s n x le v w' := by
  cases r with
  | error j => exact BadT.keep h hp
  | ok a => exact ⟨h.1, h.2.1, h.2.2.1, h.2.2.2.1.keep hB hs (fun q h1 h2 h3 => hk q h1 h3), h.2.2.2.2.keep hp⟩
theorem TPre.done {w V : World} {p : Nat} {s n x : ByteArray} {le : Bool} {a : Option Addr} {m c : Nat} {r : Except Nat (Tr × Nat)} (h : TPre w V p (.string n) (.string x) (.bool le) (.slice a m c)) (hp : p < w.heap.size) (hg : STG r (w.heap.size + 1) p s n x le (.slice a m c) V) :
    SAns r w p s (.returned (.agg #[.string n, .string x, .bool le, .slice a m c])) ((((V.setCell ⟨w.heap.size, 0, none⟩ (.string n)).setCell ⟨w.heap.size, 1, none⟩ (.string x)).setCell ⟨w.heap.size, 2, none⟩ (.bool le)).setCell ⟨w.heap.size, 3, none⟩ (.slice a m c)) := by
  have hblk : ∀ q, q ≠ w.heap.size → ((((V.setCell ⟨w.heap.size, 0, none⟩ (.string n)).setCell ⟨w.heap.size, 1, none⟩ (.string x)).setCell ⟨w.heap.size, 2, none⟩ (.bool le)).setCell ⟨w.heap.size, 3, none⟩ (.slice a m c)).heap[q]? = V.heap[q]? := fun q hq => by
    rw [blk_setCell_other _ _ _ _ hq, blk_setCell_other _ _ _ _ hq, blk_setCell_other _ _ _ _ hq, blk_setCell_other _ _ _ _ hq]
  exact ⟨n, x, le, a, m, c, rfl, (((h.out.put (Nat.le_refl _)).put (Nat.le_refl _)).put (Nat.le_refl _)).put (Nat.le_refl _), hg.low (by omega) (by simp [World.setCell]) (fun q h1 _ => hblk q (by omega)) (hblk p (by omega))⟩
end Go.Proofs.Ythmdoplickpmaah
