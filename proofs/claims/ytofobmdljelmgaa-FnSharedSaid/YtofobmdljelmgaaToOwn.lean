import Derived.Test.YtofobmdljelmgaaInts
namespace Go.Proofs.Ytofobmdljelmgaa
open Go.RowKit Go.Deep Go.Lib
set_option linter.unusedVariables false
set_option maxRecDepth 100000
set_option linter.unusedSimpArgs false

/-- What the loop of toTreeS has made of the first j Kids: each owns a range behind the row g. -/
def MadeO (k : List Tr) (g : Nat) (j : Nat) (wr : World) : Prop :=
  ∃ (f : Nat → Value) (l h : Nat → Nat), wr.rowIs g 39 (k.length * 4) f ∧
    (∀ i (_ : i < j) (hi : i < k.length), f (i * 4) = .string k[i].name ∧ f (i * 4 + 1) = .string k[i].text ∧ f (i * 4 + 2) = .bool k[i].leaf) ∧
    (∀ i (_ : i < j) (hi : i < k.length), Own wr (l i) (h i) k[i] (f (i * 4 + 3))) ∧ (∀ i, i < j → g < l i ∧ h i ≤ wr.heap.size) ∧ ∀ i i', i < i' → i' < j → h i ≤ l i'

theorem Own.past {w : World} {t : Tr} {v u : Value} {lo hi g o : Nat} (h : Own w lo hi t v) (hg : g < lo ∨ hi ≤ g) : Own (w.setCell ⟨g, o, none⟩ u) lo hi t v :=
  h.keep (Nat.le_refl _) (Nat.le_refl _) (fun k h1 h2 _ => blk_setCell_other _ _ _ _ (by show k ≠ g; omega))
theorem Own.still {w w' : World} {t : Tr} {v : Value} {lo hi : Nat} (h : Own w lo hi t v) (hb : Below w.heap.size w w') : Own w' lo hi t v :=
  h.keep (Nat.le_refl _) (Nat.le_refl _) (fun k _ _ hk => hb.block k hk)

theorem madeO_step {k : List Tr} {g j : Nat} {wr w1 : World} (hj : j < k.length) (hM : MadeO k g j wr) (hg : g < wr.heap.size) (hb1 : Below wr.heap.size wr w1) {v : Value} (hl : Own w1 wr.heap.size w1.heap.size k[j] v) :
    MadeO k g (j + 1) ((((w1.setCell ⟨g, j * 4, none⟩ (.string k[j].name)).setCell ⟨g, j * 4 + 1, none⟩ (.string k[j].text)).setCell ⟨g, j * 4 + 2, none⟩ (.bool k[j].leaf)).setCell ⟨g, j * 4 + 3, none⟩ v) := by
  obtain ⟨f, l, h, hrow, hcs, hls, hr, hd⟩ := hM
  have hrow1 := hrow.of_block (hb1.block _ hrow.lt)
  have hs := hb1.size
  refine ⟨_, fun i => if i = j then wr.heap.size else l i, fun i => if i = j then w1.heap.size else h i, (((hrow1.set _ _).set _ _).set _ _).set _ _, fun i hi hk => ?_, fun i hi hk => ?_, fun i hi => ?_, fun i i' hii hi' => ?_⟩
  · by_cases e : i = j
    · subst e; simp
    · obtain ⟨q0, q1, q2⟩ := hcs i (by omega) hk
      refine ⟨?_, ?_, ?_⟩
      · rw [if_neg (by omega), if_neg (by omega), if_neg (by omega), if_neg (by omega)]; exact q0
      · rw [if_neg (by omega), if_neg (by omega), if_neg (by omega), if_neg (by omega)]; exact q1
      · rw [if_neg (by omega), if_neg (by omega), if_neg (by omega), if_neg (by omega)]; exact q2
  · by_cases e : i = j
    · subst e
      simp only [if_true]
      exact (((hl.past (.inl hg)).past (.inl hg)).past (.inl hg)).past (.inl hg)
    · rw [if_neg (by omega), if_neg (by omega), if_neg (by omega), if_neg (by omega)]
      simp only [if_neg e]
      have hlt := (hr i (by omega)).1
      exact (((((hls i (by omega) hk).still hb1).past (.inl hlt)).past (.inl hlt)).past (.inl hlt)).past (.inl hlt)
  · by_cases e : i = j
    · subst e; simp; exact hg
    · simp only [if_neg e]; have := hr i (by omega); simp; omega
  · by_cases e : i' = j
    · subst e
      simp only [if_true]
      rw [if_neg (by omega)]
      exact (hr i (by omega)).2
    · dsimp only; rw [if_neg e, if_neg (by omega)]; exact hd i i' hii (by omega)

theorem madeO_own {k : List Tr} {g : Nat} {w : World} (h : MadeO k g k.length w) {n x : ByteArray} {l : Bool} (hn : n.size ≤ maxLen) (hx : x.size ≤ maxLen) (hk : k.length ≤ maxLen) :
    Own w g w.heap.size (.mk n x l k) (.slice (some ⟨g, 0, none⟩) k.length k.length) := by
  obtain ⟨f, l, h, hrow, hcs, hls, hr, hd⟩ := h
  exact Own.shut ⟨_, _, g, f, l, h, rfl, hn, hx, Nat.le_refl _, hk, fun _ => ⟨rfl, Nat.le_refl _, hrow.lt, hrow⟩, fun i hi => hcs i hi hi, fun i hi => hls i hi hi, fun i hi => ⟨Nat.le_of_lt (hr i hi).1, (hr i hi).2, .inl (hr i hi).1⟩, fun i j hij hj => .inl (hd i j hij hj)⟩

end Go.Proofs.Ytofobmdljelmgaa
