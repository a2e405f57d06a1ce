import Derived.Test.YtkkcdkfmlamgcaaFa
/-! Rows of trees that are only read, to which more may be appended. -/
namespace Go.Proofs.Ytkkcdkfmlamgcaa
open Go.RowKit Go.Deep Go.Lib
set_option linter.unusedVariables false
set_option maxRecDepth 100000
set_option linter.unusedSimpArgs false

def Rwl (k : List Tr) (B : Nat) (v : Value) (w : World) : Prop :=
  ∃ fs : Nat → Value, w.ownsRow B 39 4 v k.length (kc k fs k.length) ∧ ∀ i, i < k.length → Lies w (fun q => B ≤ q ∧ v.ownBlock ≠ some q) (nth k i) (fs i)
theorem Rwl.made (w : World) : Rwl [] w.heap.size (.slice (some ⟨w.heap.size, 0, none⟩) 0 0) (w.alloc (.cells #[] 39)) :=
  ⟨fun _ => .bool false, World.ownsRow_made w #[] 0 (Nat.le_refl _) (Nat.zero_le _) rfl, fun i hi => absurd hi (Nat.not_lt_zero _)⟩
theorem Rwl.carry {k : List Tr} {B : Nat} {v : Value} {w w' : World} (h : Rwl k B v w) (hk : ∀ q, B ≤ q → q < w.heap.size → w'.heap[q]? = w.heap[q]?) : Rwl k B v w' := by
  obtain ⟨fs, hown, hls⟩ := h
  refine ⟨fs, own_keep1 hown (fun q hq => hk q (World.ownsRow.lt hown q hq).1 (World.ownsRow.lt hown q hq).2), fun i hi => ?_⟩
  exact (hls i hi).carry (fun _ hb _ => hb) (fun b _ hb hl => World.cell?_of_block (w := w) (hk b hb.1 hl)) (fun _ _ _ h => lt_of_cell h)
theorem Rwl.still {k : List Tr} {B : Nat} {v : Value} {w w' : World} (h : Rwl k B v w) (hb : Below w.heap.size w w') : Rwl k B v w' := h.carry (fun q _ hq => hb.block q hq)
theorem Rwl.out {k : List Tr} {B c : Nat} {v : Value} {w w' : World} (h : Rwl k B v w) (ho : Out c (c + 1) w w') (hc : c < B) : Rwl k B v w' := h.carry (fun q hq hl => ho.2.2.2.2 q hl (by omega))
theorem Rwl.form {k : List Tr} {B : Nat} {v : Value} {w : World} (h : Rwl k B v w) : ∃ a cap, v = .slice a k.length cap := by
  obtain ⟨fs, hown, _⟩ := h
  obtain ⟨a, cap, e, _⟩ := own_ne hown
  exact ⟨a, cap, e⟩
theorem Rwl.push {k : List Tr} {t : Tr} {B g cap : Nat} {v u : Value} {w2 w3 : World} {fs : Nat → Value} (hown : w2.ownsRow B 39 4 v k.length (kc k fs k.length)) (hls : ∀ i, i < k.length → Lies w2 (fun q => B ≤ q ∧ v.ownBlock ≠ some q) (nth k i) (fs i))
    (hx : Lies w2 (fun q => B ≤ q ∧ v.ownBlock ≠ some q) t u) (hown3 : w3.ownsRow B 39 4 (.slice (some ⟨g, 0, none⟩) (k.length + 1) cap) (k.length + 1) (kc k fs k.length ++ [.string t.name, .string t.text, .bool t.leaf, u]))
    (hgr : w2.grownBy w3 v.ownBlock) (hat : v.ownBlock = some g ∨ g = w2.heap.size) : Rwl (k ++ [t]) B (.slice (some ⟨g, 0, none⟩) (k.length + 1) cap) w3 ∧ Lies w3 (fun q => B ≤ q ∧ (Value.slice (some ⟨g, 0, none⟩) (k.length + 1) cap).ownBlock ≠ some q) t u := by
  have hcar : ∀ {t : Tr} {u : Value}, Lies w2 (fun q => B ≤ q ∧ v.ownBlock ≠ some q) t u → Lies w3 (fun q => B ≤ q ∧ (Value.slice (some ⟨g, 0, none⟩) (k.length + 1) cap).ownBlock ≠ some q) t u := fun h =>
    h.carry (fun q hq hl => ⟨hq.1, fun e => by
      have e' : g = q := by simpa [Value.ownBlock] using e
      subst e'
      rcases hat with e | e
      · exact hq.2 e
      · omega⟩) (fun q _ hq hl => World.cell?_of_block (w := w2) (hgr.block q hl (fun e => hq.2 e.symm))) (fun _ _ _ h => lt_of_cell h)
  refine ⟨⟨fun i => if i = k.length then u else fs i, ?_, fun i hi => ?_⟩, hcar hx⟩
  · rw [List.length_append, List.length_singleton, kc, kc_congr (k ++ [t]) (fs := fun i => if i = k.length then u else fs i) (gs := fs) k.length (fun i hi => if_neg (by omega)), kc_app k t fs _ (Nat.le_refl _), nth_last]
    simp only [if_true]
    exact hown3
  · rw [List.length_append, List.length_singleton] at hi
    by_cases e : i = k.length
    · subst e
      rw [nth_last]
      simp only [if_true]
      exact hcar hx
    · have hi2 : i < k.length := by omega
      rw [nth_app hi2]
      dsimp only
      rw [if_neg e]
      exact hcar (hls i hi2)
theorem Rwl.trs {k : List Tr} {B : Nat} {v : Value} {w : World} (h : Rwl k B v w) : Trs w (fun q => q < w.heap.size) k v := by
  obtain ⟨fs, hown, hls⟩ := h
  rcases hown.2 with ⟨rfl, h0⟩ | ⟨g, cap, cur, rfl, hBg, hg, hnc, hcm, hcs, htk⟩
  · exact ⟨none, 0, 0, 0, fs, by rw [h0], by omega, Nat.zero_le _, fun h => by omega, fun i hi => by omega, fun i hi => by omega⟩
  · have hlt : g < w.heap.size := (Array.getElem?_eq_some_iff.1 hg).1
    refine ⟨some ⟨g, 0, none⟩, cap, g, 0, fs, rfl, hnc, hcm, fun _ => ⟨rfl, hlt⟩, fun i hi => ?_, fun i hi => ?_⟩
    · obtain ⟨q0, q1, q2, q3⟩ := kc_get k fs k.length i hi
      rw [nth_eq hi] at q0 q1 q2
      simp only [Nat.zero_add]
      exact ⟨by rw [World.ownsRow.cellAt hown _ (by omega)]; exact q0, by rw [World.ownsRow.cellAt hown _ (by omega)]; exact q1, by rw [World.ownsRow.cellAt hown _ (by omega)]; exact q2, by rw [World.ownsRow.cellAt hown _ (by omega)]; exact q3⟩
    · rw [← nth_eq hi]
      exact ((hls i hi).lt).mono (fun q hq => hq.2)
/-- (Add t u), its Kids in a new block. -/
theorem lies_add {w : World} {S : Nat → Prop} {t x : Tr} {u y : Value} (ht : Lies w S t u) (hx : Lies w S x y) (hS : S w.heap.size) :
    Lies (w.alloc (.cells #[.string t.name, .string t.text, .bool t.leaf, u, .string x.name, .string x.text, .bool x.leaf, y] 39)) S (addT t x) (.slice (some ⟨w.heap.size, 0, none⟩) 2 2) := by
  have hbx := Box.new w 39 [.string t.name, .string t.text, .bool t.leaf, u, .string x.name, .string x.text, .bool x.leaf, y]
  have hba := bel_alloc w (.cells #[.string t.name, .string t.text, .bool t.leaf, u, .string x.name, .string x.text, .bool x.leaf, y] 39)
  refine Lies.shut ⟨some ⟨w.heap.size, 0, none⟩, 2, w.heap.size, 0, fun i => if i = 0 then u else y, rfl, by show (3 : Nat) ≤ _; decide, by show (0 : Nat) ≤ _; exact Nat.zero_le _, by show (2 : Nat) ≤ 2; exact Nat.le_refl _, by decide, fun _ => ⟨rfl, hS⟩, fun i hi => ?_, fun i hi => ?_⟩
  · match i, hi with
    | 0, _ => exact ⟨hbx.cell 0 (by simp), hbx.cell 1 (by simp), hbx.cell 2 (by simp), hbx.cell 3 (by simp)⟩
    | 1, _ => exact ⟨hbx.cell 4 (by simp), hbx.cell 5 (by simp), hbx.cell 6 (by simp), hbx.cell 7 (by simp)⟩
  · match i, hi with
    | 0, _ => exact ht.still hba
    | 1, _ => exact hx.still hba
end Go.Proofs.Ytkkcdkfmlamgcaa
