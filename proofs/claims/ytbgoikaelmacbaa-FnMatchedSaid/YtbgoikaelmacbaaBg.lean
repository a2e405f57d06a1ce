import Derived.Test.YtbgoikaelmacbaaPr
import Derived.Test.YtbgoikaelmacbaaCopy
/-! A row of binds that grows, each tree in a range of its own. -/
namespace Go.Proofs.Ytbgoikaelmacbaa
open Go.RowKit Go.Deep Go.Lib
set_option linter.unusedVariables false
set_option maxRecDepth 100000
set_option linter.unusedSimpArgs false

/-- A row of binds that grows by append: the first j of bl stand in it, each tree in a range of its own. -/
def BGr (bl : List (ByteArray × Tr)) (B j : Nat) (v : Value) (wr : World) : Prop :=
  ∃ (fs : Nat → Value) (l h : Nat → Nat), wr.ownsRow B 47 5 v j (bcs bl fs j) ∧ (∀ i, i < j → Own wr (l i) (h i) (nb bl i).2 (fs i)) ∧
    (∀ i, i < j → B ≤ l i ∧ h i ≤ wr.heap.size ∧ ∀ g, v.ownBlock = some g → g < l i ∨ h i ≤ g) ∧ ∀ i i', i < i' → i' < j → h i ≤ l i'
theorem BGr.step {bl : List (ByteArray × Tr)} {B j g cap a c : Nat} {v u : Value} {wr w2 w3 : World} {fs : Nat → Value} {l h : Nat → Nat} (hown : wr.ownsRow B 47 5 v j (bcs bl fs j)) (hls : ∀ i, i < j → Own wr (l i) (h i) (nb bl i).2 (fs i))
    (hr : ∀ i, i < j → B ≤ l i ∧ h i ≤ wr.heap.size ∧ ∀ g, v.ownBlock = some g → g < l i ∨ h i ≤ g) (hd : ∀ i i', i < i' → i' < j → h i ≤ l i') (hB : B ≤ wr.heap.size)
    (hb : Below wr.heap.size wr w2) (hu : Own w2 a c (nb bl j).2 u) (ha : wr.heap.size ≤ a) (hc : c ≤ w2.heap.size)
    (hown3 : w3.ownsRow B 47 5 (.slice (some ⟨g, 0, none⟩) (j + 1) cap) (j + 1) (bcs bl fs j ++ [.string (nb bl j).1, .string (nb bl j).2.name, .string (nb bl j).2.text, .bool (nb bl j).2.leaf, u]))
    (hgr : w2.grownBy w3 v.ownBlock) (hat : v.ownBlock = some g ∨ g = w2.heap.size) : BGr bl B (j + 1) (.slice (some ⟨g, 0, none⟩) (j + 1) cap) w3 := by
  have hs := hb.size
  have hs3 := hgr.size
  have hvl := hown.lt
  refine ⟨fun i => if i = j then u else fs i, fun i => if i = j then a else l i, fun i => if i = j then c else h i, ?_, fun i hi => ?_, fun i hi => ?_, fun i i' hii hi' => ?_⟩
  · rw [bcs, bcs_congr (bl := bl) (cl := bl) (sv := fun i => if i = j then u else fs i) (tv := fs) j (fun i hi => ⟨rfl, if_neg (by omega)⟩)]
    simp only [if_true]
    exact hown3
  · by_cases e : i = j
    · subst e
      simp only [if_true]
      exact hu.keep (Nat.le_refl _) (Nat.le_refl _) (fun q h1 h2 h3 => hgr.block q h3 (fun e => by have := hvl q e.symm; omega))
    · simp only [if_neg e]
      have hri := hr i (by omega)
      exact ((hls i (by omega)).still hb).keep (Nat.le_refl _) (Nat.le_refl _) (fun q h1 h2 h3 => hgr.block q h3 (fun e => by have := hri.2.2 q e.symm; omega))
  · refine ⟨?_, ?_, fun q hq => ?_⟩
    · dsimp only
      split
      · omega
      · exact (hr i (by omega)).1
    · dsimp only
      split
      · omega
      · have := (hr i (by omega)).2.1; omega
    · simp [Value.ownBlock] at hq
      subst hq
      dsimp only
      split
      · rcases hat with e | e
        · have := hvl g e; omega
        · omega
      · have hri := hr i (by omega)
        rcases hat with e | e
        · exact hri.2.2 g e
        · omega
  · dsimp only
    by_cases e : i' = j
    · subst e
      rw [if_pos rfl, if_neg (by omega)]
      have := (hr i (by omega)).2.1
      omega
    · rw [if_neg e, if_neg (by omega)]; exact hd i i' hii (by omega)
theorem BGr.nil (bl : List (ByteArray × Tr)) {B : Nat} {v : Value} {w : World} (h : w.ownsRow B 47 5 v 0 []) : BGr bl B 0 v w :=
  ⟨fun _ => .bool false, fun _ => 0, fun _ => 0, h, fun i hi => absurd hi (Nat.not_lt_zero _), fun i hi => absurd hi (Nat.not_lt_zero _), fun i i' _ hi => absurd hi (Nat.not_lt_zero _)⟩
theorem BGr.still {bl : List (ByteArray × Tr)} {B j : Nat} {v : Value} {w w' : World} (h : BGr bl B j v w) (hb : Below w.heap.size w w') : BGr bl B j v w' := by
  obtain ⟨fs, l, hh, h1, h2, h3, h4⟩ := h
  refine ⟨fs, l, hh, own_still h1 hb, fun i hi => (h2 i hi).still hb, fun i hi => ⟨(h3 i hi).1, Nat.le_trans (h3 i hi).2.1 hb.size, (h3 i hi).2.2⟩, h4⟩
theorem BGr.bli {bl : List (ByteArray × Tr)} {B b cap : Nat} {w : World} (h : BGr bl B bl.length (.slice (some ⟨b, 0, none⟩) bl.length cap) w) : BLi w bl (.slice (some ⟨b, 0, none⟩) bl.length cap) := by
  obtain ⟨fs, l, hh, h1, h2, h3, h4⟩ := h
  refine ⟨b, cap, fun i => if i < bl.length then fs i else .slice none 0 0, rfl, ?_, fun i => ?_, fun i hi => ?_⟩
  · rw [bcs_congr (bl := bl) (cl := bl) (sv := fun i => if i < bl.length then fs i else .slice none 0 0) (tv := fs) bl.length (fun i hi => ⟨rfl, if_pos hi⟩)]
    exact ⟨h1.1, by
      rcases h1.2 with e | ⟨g', cap', cur, e1, e2, e3⟩
      · exact .inl e
      · exact .inr ⟨g', cap', cur, e1, Nat.zero_le _, e3⟩⟩
  · dsimp only
    split
    · rename_i hi
      exact (h2 i hi).form
    · exact ⟨_, _, _, rfl⟩
  · dsimp only
    rw [if_pos hi, ← nb_eq hi]
    exact (h2 i hi).lies.mono (fun _ _ => trivial)
theorem mtK_wt : ∀ (k ts : List Tr) (bl : List (ByteArray × Tr)), (∀ i (hi : i < k.length) t bl b, b ∈ (mtT k[i] t bl).1 → b ∈ bl ∨ b.2.wt ≤ t.wt) → ∀ b, b ∈ (mtK (k.map mtT) ts bl).1 → b ∈ bl ∨ b.2.wt ≤ Tr.wtL ts
  | [], ts, bl, _, b, hb => .inl (by simpa [mtK] using hb)
  | _ :: _, [], bl, _, b, hb => .inl (by simpa [mtK] using hb)
  | p :: r, t :: ts, bl, h, b, hb => by
    have h0 := h 0 (by simp) t bl b
    simp only [List.getElem_cons_zero] at h0
    have e : Tr.wtL (t :: ts) = t.wt + Tr.wtL ts := by simp [Tr.wtL]
    rw [List.map_cons, mtK] at hb
    split at hb
    · rcases mtK_wt r ts (mtT p t bl).1 (fun i hi u m => by have := h (i + 1) (by simp; omega) u m; simpa using this) b hb with g | g
      · rcases h0 g with g | g
        · exact .inl g
        · exact .inr (by omega)
      · exact .inr (by omega)
    · rcases h0 hb with g | g
      · exact .inl g
      · exact .inr (by omega)
/-- What is bound is within the tree. -/
theorem mtT_wt (p : Tr) : ∀ t bl b, b ∈ (mtT p t bl).1 → b ∈ bl ∨ b.2.wt ≤ t.wt := by
  refine Tr.ind (P := fun p => ∀ t bl b, b ∈ (mtT p t bl).1 → b ∈ bl ∨ b.2.wt ≤ t.wt) ?_ p
  intro n x lf k ih t bl b hb
  rw [mtT_mk] at hb
  split at hb
  · unfold mtV at hb
    split at hb
    · exact .inl hb
    · rcases List.mem_append.1 hb with g | g
      · exact .inl g
      · simp at g
        subst g
        exact .inr (Nat.le_refl _)
  · split at hb
    · obtain ⟨n', x', l', k'⟩ := t
      rcases mtK_wt k k' bl (fun i hi u m c hc => ih i hi u m c hc) b hb with g | g
      · exact .inl g
      · rw [Tr.wt_mk]; exact .inr (by omega)
    · exact .inl hb
end Go.Proofs.Ytbgoikaelmacbaa
