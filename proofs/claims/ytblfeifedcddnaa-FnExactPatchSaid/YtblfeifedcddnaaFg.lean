import Derived.Test.YtblfeifedcddnaaFa
import Derived.Test.YtblfeifedcddnaaCopy
/-! A row of Kids that lead into trees which lie elsewhere, while it grows. -/
namespace Go.Proofs.Ytblfeifedcddnaa
open Go.RowKit Go.Deep Go.Lib
set_option linter.unusedVariables false
set_option maxRecDepth 100000
set_option linter.unusedSimpArgs false

/-- The first j of k stand in a row that grows; what they lead to lies below C, or at or behind B, and not in the row itself. -/
def FGr (k : List Tr) (C B j : Nat) (v : Value) (wr : World) : Prop :=
  ∃ fs : Nat → Value, wr.ownsRow B 51 4 v j (kc k fs j) ∧ ∀ i, i < j → Lies wr (fun q => v.ownBlock ≠ some q ∧ (q < C ∨ B ≤ q)) (nth k i) (fs i)
theorem FGr.step {k : List Tr} {C B j g cap : Nat} {v u : Value} {wr w2 w3 : World} {fs : Nat → Value} (hown : wr.ownsRow B 51 4 v j (kc k fs j)) (hls : ∀ i, i < j → Lies wr (fun q => v.ownBlock ≠ some q ∧ (q < C ∨ B ≤ q)) (nth k i) (fs i))
    (hC : C ≤ B) (hB : B ≤ wr.heap.size) (hb : Below wr.heap.size wr w2) (hu : Lies w2 (fun q => q < C ∨ wr.heap.size ≤ q) (nth k j) u)
    (hown3 : w3.ownsRow B 51 4 (.slice (some ⟨g, 0, none⟩) (j + 1) cap) (j + 1) (kc k fs j ++ [.string (nth k j).name, .string (nth k j).text, .bool (nth k j).leaf, u]))
    (hgr : w2.grownBy w3 v.ownBlock) (hat : v.ownBlock = some g ∨ g = w2.heap.size) : FGr k C B (j + 1) (.slice (some ⟨g, 0, none⟩) (j + 1) cap) w3 := by
  have hs := hb.size
  have hs3 := hgr.size
  have hvl := hown.lt
  have key : ∀ q, q < w2.heap.size → v.ownBlock ≠ some q → (Value.slice (some ⟨g, 0, none⟩) (j + 1) cap).ownBlock ≠ some q := by
    intro q hq hne e
    simp [Value.ownBlock] at e
    subst e
    rcases hat with h | h
    · exact hne h
    · omega
  refine ⟨fun i => if i = j then u else fs i, ?_, fun i hi => ?_⟩
  · rw [kc, kc_congr k (fs := fun i => if i = j then u else fs i) (gs := fs) j (fun i hi => if_neg (by omega))]
    simp only [if_true]
    exact hown3
  · by_cases e : i = j
    · subst e
      simp only [if_true]
      refine Lies.carry (w := w2) (S := fun q => q < C ∨ wr.heap.size ≤ q) (fun q h1 h2 => ?_) (fun q o h1 h2 => ?_) (fun _ _ _ h => lt_of_cell h) hu
      · refine ⟨key q h2 (fun e => ?_), ?_⟩
        · have := hvl q e; omega
        · omega
      · refine World.cell?_of_block (w := w2) (hgr.block q h2 (fun e => ?_))
        have := hvl q e.symm; omega
    · simp only [if_neg e]
      have h1 := ((hls i (by omega)).still hb).lt
      have h0 := (hls i (by omega)).lt
      refine Lies.carry (w := w2) (S := fun q => v.ownBlock ≠ some q ∧ (q < C ∨ B ≤ q)) (fun q h1 h2 => ⟨key q h2 h1.1, h1.2⟩) (fun q o h1 h2 => World.cell?_of_block (w := w2) (hgr.block q h2 (fun e => h1.1 e.symm))) (fun _ _ _ h => lt_of_cell h) ((hls i (by omega)).still hb)
theorem FGr.still {k : List Tr} {C B j : Nat} {v : Value} {w w' : World} (h : FGr k C B j v w) (hb : Below w.heap.size w w') : FGr k C B j v w' := by
  obtain ⟨fs, h1, h2⟩ := h
  exact ⟨fs, own_still h1 hb, fun i hi => (h2 i hi).still hb⟩
theorem FGr.done {k : List Tr} {C B : Nat} {v : Value} {w : World} {n x : ByteArray} {le : Bool} (h : FGr k C B k.length v w) (hn : n.size ≤ maxLen) (hx : x.size ≤ maxLen) : Lies w (fun q => q < C ∨ B ≤ q) ⟨n, x, le, k⟩ v := by
  obtain ⟨fs, hown, hls⟩ := h
  rcases hown.2 with ⟨rfl, h0⟩ | ⟨g, cap, cur, rfl, hBg, hg, hnc, hcm, hcs, htake⟩
  · obtain rfl : k = [] := List.eq_nil_of_length_eq_zero h0
    exact Lies.shut ⟨none, 0, 0, 0, fs, rfl, hn, hx, Nat.le_refl _, Nat.zero_le _, fun h => absurd h (Nat.not_lt_zero _), fun i hi => absurd hi (Nat.not_lt_zero _), fun i hi => absurd hi (Nat.not_lt_zero _)⟩
  · refine Lies.shut ⟨some ⟨g, 0, none⟩, cap, g, 0, fs, rfl, hn, hx, hnc, hcm, fun _ => ⟨rfl, .inr hBg⟩, fun i hi => ?_, fun i hi => ?_⟩
    · dsimp only at hi ⊢
      obtain ⟨h0, h1, h2, h3⟩ := kc_get k fs k.length i hi
      rw [nth_eq hi] at h0 h1 h2
      rw [Nat.zero_add]
      exact ⟨by rw [World.ownsRow.cellAt hown _ (by omega), h0], by rw [World.ownsRow.cellAt hown _ (by omega), h1], by rw [World.ownsRow.cellAt hown _ (by omega), h2], by rw [World.ownsRow.cellAt hown _ (by omega), h3]⟩
    · dsimp only at hi ⊢
      rw [← nth_eq hi]
      exact (hls i hi).mono (fun q h => h.2)
theorem FGr.nil (k : List Tr) (C : Nat) {B : Nat} {v : Value} {w : World} (h : w.ownsRow B 51 4 v 0 []) : FGr k C B 0 v w :=
  ⟨fun _ => .bool false, h, fun i hi => absurd hi (Nat.not_lt_zero _)⟩
end Go.Proofs.Ytblfeifedcddnaa
