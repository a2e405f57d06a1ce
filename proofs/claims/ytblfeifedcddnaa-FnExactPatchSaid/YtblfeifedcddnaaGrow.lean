import Derived.Test.YtblfeifedcddnaaToOwn
import Derived.Deep.AppendLies
namespace Go.Proofs.Ytblfeifedcddnaa
open Go.RowKit Go.Deep Go.Lib
set_option linter.unusedVariables false
set_option maxRecDepth 100000
set_option linter.unusedSimpArgs false

def nth (k : List Tr) (i : Nat) : Tr := (k[i]?).getD ⟨ByteArray.empty, ByteArray.empty, false, []⟩
theorem nth_eq {k : List Tr} {i : Nat} (h : i < k.length) : nth k i = k[i] := by simp [nth, h]
/-- The cells of the first j Kids. -/
def kc (k : List Tr) (fs : Nat → Value) : Nat → List Value
  | 0 => []
  | j + 1 => kc k fs j ++ [.string (nth k j).name, .string (nth k j).text, .bool (nth k j).leaf, fs j]
theorem kc_len (k : List Tr) (fs : Nat → Value) : ∀ j, (kc k fs j).length = j * 4
  | 0 => rfl
  | j + 1 => by rw [kc, List.length_append, kc_len k fs j]; simp; omega
theorem kc_congr (k : List Tr) {fs gs : Nat → Value} : ∀ j, (∀ i, i < j → fs i = gs i) → kc k fs j = kc k gs j
  | 0, _ => rfl
  | j + 1, h => by rw [kc, kc, kc_congr k j (fun i hi => h i (by omega)), h j (by omega)]
theorem kc_get (k : List Tr) (fs : Nat → Value) : ∀ j i, i < j → (kc k fs j)[i * 4]? = some (.string (nth k i).name) ∧ (kc k fs j)[i * 4 + 1]? = some (.string (nth k i).text) ∧ (kc k fs j)[i * 4 + 2]? = some (.bool (nth k i).leaf) ∧ (kc k fs j)[i * 4 + 3]? = some (fs i)
  | 0, _, h => absurd h (Nat.not_lt_zero _)
  | j + 1, i, h => by
    have hl := kc_len k fs j
    by_cases e : i = j
    · subst e
      rw [kc]
      refine ⟨?_, ?_, ?_, ?_⟩ <;> (rw [List.getElem?_append_right (by omega), hl]; simp)
    · obtain ⟨h0, h1, h2, h3⟩ := kc_get k fs j i (by omega)
      rw [kc]
      refine ⟨?_, ?_, ?_, ?_⟩ <;> (rw [List.getElem?_append_left (by omega)]; assumption)

/-- A row of Kids that grows by append: the first j of k stand in it, each in a range of its own. -/
def Grw (k : List Tr) (B j : Nat) (v : Value) (wr : World) : Prop :=
  ∃ (fs : Nat → Value) (l h : Nat → Nat), wr.ownsRow B 51 4 v j (kc k fs j) ∧ (∀ i, i < j → Own wr (l i) (h i) (nth k i) (fs i)) ∧
    (∀ i, i < j → B ≤ l i ∧ h i ≤ wr.heap.size ∧ ∀ g, v.ownBlock = some g → g < l i ∨ h i ≤ g) ∧ ∀ i i', i < i' → i' < j → h i ≤ l i'

theorem Grw.step {k : List Tr} {B j g cap a c : Nat} {v u : Value} {wr w2 w3 : World} {fs : Nat → Value} {l h : Nat → Nat} (hown : wr.ownsRow B 51 4 v j (kc k fs j)) (hls : ∀ i, i < j → Own wr (l i) (h i) (nth k i) (fs i))
    (hr : ∀ i, i < j → B ≤ l i ∧ h i ≤ wr.heap.size ∧ ∀ g, v.ownBlock = some g → g < l i ∨ h i ≤ g) (hd : ∀ i i', i < i' → i' < j → h i ≤ l i') (hB : B ≤ wr.heap.size)
    (hb : Below wr.heap.size wr w2) (hu : Own w2 a c (nth k j) u) (ha : wr.heap.size ≤ a) (hc : c ≤ w2.heap.size)
    (hown3 : w3.ownsRow B 51 4 (.slice (some ⟨g, 0, none⟩) (j + 1) cap) (j + 1) (kc k fs j ++ [.string (nth k j).name, .string (nth k j).text, .bool (nth k j).leaf, u]))
    (hgr : w2.grownBy w3 v.ownBlock) (hat : v.ownBlock = some g ∨ g = w2.heap.size) : Grw k B (j + 1) (.slice (some ⟨g, 0, none⟩) (j + 1) cap) w3 := by
  have hs := hb.size
  have hs3 := hgr.size
  have hvl := hown.lt
  refine ⟨fun i => if i = j then u else fs i, fun i => if i = j then a else l i, fun i => if i = j then c else h i, ?_, fun i hi => ?_, fun i hi => ?_, fun i i' hii hi' => ?_⟩
  · rw [kc, kc_congr k (fs := fun i => if i = j then u else fs i) (gs := fs) j (fun i hi => if_neg (by omega))]
    simp only [if_true]
    exact hown3
  · by_cases e : i = j
    · subst e
      simp only [if_true]
      exact hu.keep (Nat.le_refl _) (Nat.le_refl _) (fun q h1 h2 h3 => hgr.block q h3 (fun e => by have := hvl q e.symm; omega))
    · simp only [if_neg e]
      have hri := hr i (by omega)
      exact ((hls i (by omega)).still hb).keep (Nat.le_refl _) (Nat.le_refl _) (fun q h1 h2 h3 => hgr.block q h3 (fun e => by have := hri.2.2 q e.symm; omega))
  · refine ⟨?_, ?_, fun q hq => ?_⟩
    · dsimp only
      split
      · omega
      · exact (hr i (by omega)).1
    · dsimp only
      split
      · omega
      · have := (hr i (by omega)).2.1; omega
    · simp [Value.ownBlock] at hq
      subst hq
      dsimp only
      split
      · rcases hat with e | e
        · have := hvl g e; omega
        · omega
      · have hri := hr i (by omega)
        rcases hat with e | e
        · exact hri.2.2 g e
        · omega
  · dsimp only
    by_cases e : i' = j
    · subst e
      rw [if_pos rfl, if_neg (by omega)]
      have := (hr i (by omega)).2.1
      omega
    · rw [if_neg e, if_neg (by omega)]; exact hd i i' hii (by omega)

theorem Grw.done {k : List Tr} {B : Nat} {v : Value} {w : World} {n x : ByteArray} {le : Bool} (h : Grw k B k.length v w) (hn : n.size ≤ maxLen) (hx : x.size ≤ maxLen) : Own w B w.heap.size ⟨n, x, le, k⟩ v := by
  obtain ⟨fs, l, h, hown, hls, hr, hd⟩ := h
  rcases hown.2 with ⟨rfl, h0⟩ | ⟨g, cap, cur, rfl, hBg, hg, hnc, hcm, hcs, htake⟩
  · obtain rfl : k = [] := List.eq_nil_of_length_eq_zero h0
    exact Own.shut ⟨none, 0, B, fs, l, h, rfl, hn, hx, Nat.le_refl _, Nat.zero_le _, fun h => absurd h (Nat.not_lt_zero _), fun i hi => absurd hi (Nat.not_lt_zero _), fun i hi => absurd hi (Nat.not_lt_zero _), fun i hi => absurd hi (Nat.not_lt_zero _), fun i j hi hj => absurd hj (Nat.not_lt_zero _)⟩
  · have hlt : g < w.heap.size := (Array.getElem?_eq_some_iff.1 hg).1
    refine Own.shut ⟨some ⟨g, 0, none⟩, cap, g, fun i => (cur[i]?).getD (.bool false), l, h, rfl, hn, hx, hnc, hcm, fun _ => ⟨rfl, hBg, hlt, cur, hg, hcs, fun i hi => by simp [hcs, hi]⟩, fun i hi => ?_, fun i hi => ?_, fun i hi => ?_, fun i j hij hj => .inl (hd i j hij hj)⟩
    · dsimp only at hi ⊢
      obtain ⟨h0, h1, h2, h3⟩ := kc_get k fs k.length i hi
      rw [← htake, List.getElem?_take, if_pos (by omega)] at h0 h1 h2
      simp only [Array.getElem?_toList] at h0 h1 h2
      rw [h0, h1, h2, nth_eq hi]
      exact ⟨rfl, rfl, rfl⟩
    · dsimp only at hi ⊢
      obtain ⟨h0, h1, h2, h3⟩ := kc_get k fs k.length i hi
      rw [← htake, List.getElem?_take, if_pos (by omega)] at h3
      simp only [Array.getElem?_toList] at h3
      rw [h3, ← nth_eq hi]
      exact hls i hi
    · have := hr i hi
      exact ⟨this.1, this.2.1, this.2.2 g rfl⟩

theorem cell_four_box (w : World) (c0 c1 c2 c3 : Value) (T : TypeId) : ∀ j x, [c0, c1, c2, c3][j]? = some x → (w.alloc (.cells #[c0, c1, c2, c3] T)).cell? ((⟨w.heap.size, 0, none⟩ : Addr).add j) = some x :=
  World.news_of_block (cs := #[c0, c1, c2, c3]) (blk_alloc_new _ _)
end Go.Proofs.Ytblfeifedcddnaa
