import Derived.Test.YtkkhdkfmaopmfaaFa
import Derived.Test.YtkkhdkfmaopmfaaCopy
/-! A row of Kids that lead into trees which lie elsewhere, while it grows. -/
namespace Go.Proofs.Ytkkhdkfmaopmfaa
open Go.RowKit Go.Deep Go.Lib
set_option linter.unusedVariables false
set_option maxRecDepth 100000
set_option linter.unusedSimpArgs false

/-- The first j of k stand in a row that grows; what they lead to lies below C, or at or behind B, and not in the row itself. -/
def FGr (k : List Tr) (C B j : Nat) (v : Value) (wr : World) : Prop :=
  ∃ fs : Nat → Value, wr.ownsRow B 31 4 v j (kc k fs j) ∧ ∀ i, i < j → Lies wr (fun q => v.ownBlock ≠ some q ∧ (q < C ∨ B ≤ q)) (nth k i) (fs i)
theorem FGr.step {k : List Tr} {C B j g cap : Nat} {v u : Value} {wr w2 w3 : World} {fs : Nat → Value} (hown : wr.ownsRow B 31 4 v j (kc k fs j)) (hls : ∀ i, i < j → Lies wr (fun q => v.ownBlock ≠ some q ∧ (q < C ∨ B ≤ q)) (nth k i) (fs i))
    (hC : C ≤ B) (hB : B ≤ wr.heap.size) (hb : Below wr.heap.size wr w2) (hu : Lies w2 (fun q => q < C ∨ wr.heap.size ≤ q) (nth k j) u)
    (hown3 : w3.ownsRow B 31 4 (.slice (some ⟨g, 0, none⟩) (j + 1) cap) (j + 1) (kc k fs j ++ [.string (nth k j).name, .string (nth k j).text, .bool (nth k j).leaf, u]))
    (hgr : w2.grownBy w3 v.ownBlock) (hat : v.ownBlock = some g ∨ g = w2.heap.size) : FGr k C B (j + 1) (.slice (some ⟨g, 0, none⟩) (j + 1) cap) w3 := by
  have hs := hb.size
  have hs3 := hgr.size
  have hvl := hown.lt
  have key : ∀ q, q < w2.heap.size → v.ownBlock ≠ some q → (Value.slice (some ⟨g, 0, none⟩) (j + 1) cap).ownBlock ≠ some q := by
    intro q hq hne e
    simp [Value.ownBlock] at e
    subst e
    rcases hat with h | h
    · exact hne h
    · omega
  refine ⟨fun i => if i = j then u else fs i, ?_, fun i hi => ?_⟩
  · rw [kc, kc_congr k (fs := fun i => if i = j then u else fs i) (gs := fs) j (fun i hi => if_neg (by omega))]
    simp only [if_true]
    exact hown3
  · by_cases e : i = j
    · subst e
      simp only [if_true]
      refine Lies.carry (w := w2) (S := fun q => q < C ∨ wr.heap.size ≤ q) (fun q h1 h2 => ?_) (fun q o h1 h2 => ?_) (fun _ _ _ h => lt_of_cell h) hu
      · refine ⟨key q h2 (fun e => ?_), ?_⟩
        · have := hvl q e; omega
        · omega
      · refine World.cell?_of_block (w := w2) (hgr.block q h2 (fun e => ?_))
        have := hvl q e.symm; omega
    · simp only [if_neg e]
      have h1 := ((hls i (by omega)).still hb).lt
      have h0 := (hls i (by omega)).lt
      refine Lies.carry (w := w2) (S := fun q => v.ownBlock ≠ some q ∧ (q < C ∨ B ≤ q)) (fun q h1 h2 => ⟨key q h2 h1.1, h1.2⟩) (fun q o h1 h2 => World.cell?_of_block (w := w2) (hgr.block q h2 (fun e => h1.1 e.symm))) (fun _ _ _ h => lt_of_cell h) ((hls i (by omega)).still hb)
theorem FGr.still {k : List Tr} {C B j : Nat} {v : Value} {w w' : World} (h : FGr k C B j v w) (hb : Below w.heap.size w w') : FGr k C B j v w' := by
  obtain ⟨fs, h1, h2⟩ := h
  exact ⟨fs, own_still h1 hb, fun i hi => (h2 i hi).still hb⟩
theorem FGr.done {k : List Tr} {C B : Nat} {v : Value} {w : World} {n x : ByteArray} {le : Bool} (h : FGr k C B k.length v w) (hn : n.size ≤ maxLen) (hx : x.size ≤ maxLen) : Lies w (fun q => q < C ∨ B ≤ q) ⟨n, x, le, k⟩ v := by
  obtain ⟨fs, hown, hls⟩ := h
  rcases hown.2 with ⟨rfl, h0⟩ | ⟨g, cap, cur, rfl, hBg, hg, hnc, hcm, hcs, htake⟩
  · obtain rfl : k = [] := List.eq_nil_of_length_eq_zero h0
    exact Lies.shut ⟨none, 0, 0, 0, fs, rfl, hn, hx, Nat.le_refl _, Nat.zero_le _, fun h => absurd h (Nat.not_lt_zero _), fun i hi => absurd hi (Nat.not_lt_zero _), fun i hi => absurd hi (Nat.not_lt_zero _)⟩
  · refine Lies.shut ⟨some ⟨g, 0, none⟩, cap, g, 0, fs, rfl, hn, hx, hnc, hcm, fun _ => ⟨rfl, .inr hBg⟩, fun i hi => ?_, fun i hi => ?_⟩
    · dsimp only at hi ⊢
      obtain ⟨h0, h1, h2, h3⟩ := kc_get k fs k.length i hi
      rw [nth_eq hi] at h0 h1 h2
      rw [Nat.zero_add]
      exact ⟨by rw [World.ownsRow.cellAt hown _ (by omega), h0], by rw [World.ownsRow.cellAt hown _ (by omega), h1], by rw [World.ownsRow.cellAt hown _ (by omega), h2], by rw [World.ownsRow.cellAt hown _ (by omega), h3]⟩
    · dsimp only at hi ⊢
      rw [← nth_eq hi]
      exact (hls i hi).mono (fun q h => h.2)
theorem FGr.nil (k : List Tr) (C : Nat) {B : Nat} {v : Value} {w : World} (h : w.ownsRow B 31 4 v 0 []) : FGr k C B 0 v w :=
  ⟨fun _ => .bool false, h, fun i hi => absurd hi (Nat.not_lt_zero _)⟩
/-- What l11Find answers: the first of the name. -/
def FdI (bl : List (ByteArray × Tr)) (s : ByteArray) (i : Int) : Prop := (i = -1 ∧ ∀ k (hk : k < bl.length), ¬ bl[k].1 = s) ∨ ∃ (k : Nat) (hk : k < bl.length), i = k ∧ bl[k].1 = s ∧ ∀ j (hj : j < bl.length), j < k → ¬ bl[j].1 = s
set_option maxHeartbeats 800000 in
theorem first48 (bl : List (ByteArray × Tr)) (s : ByteArray) (v : Value) (w : World) (h : BLi w bl v) :
    Calls Try.prog 48 #[v, .string s] w fun e w' => ∃ i : Int, e = .returned (.int .i64 i) ∧ FdI bl s i ∧ w' = w := by
  obtain ⟨b, cap, sv, rfl, ho, hs, hl⟩ := h
  have hm : bl.length ≤ 2 ^ 63 - 1 := by
    rcases ho.2 with ⟨e, e0⟩ | ⟨g, cp, cur, r1, r2, r3, r4, r5, r6⟩
    · rw [e0]; exact Nat.zero_le _
    · unfold maxLen at r5; omega
  have HC := (show Hid (∀ i (hi : i < bl.length), w.cell? ⟨b, i * 5, none⟩ = some (.string bl[i].1)) from fun i hi => by
    rw [World.ownsRow.cellAt ho _ (by omega), (bcs_get bl sv bl.length i hi).1, nb_eq hi])
  clear ho hs hl
  go_enter Try.func48, Try.ntmps48
  go_wp2_with fail
  go_loop [5] (fun i => ∃ j : Nat, i = .int .i64 j ∧ j ≤ bl.length ∧ Hid (∀ i (hi : i < bl.length), i < j → ¬ bl[i].1 = s)) (fun i => bl.length - (intOf i).toNat)
  case atStart => exact ⟨0, rfl, Nat.zero_le _, fun i _ h0 => absurd h0 (Nat.not_lt_zero _)⟩
  case round =>
    obtain ⟨j, rfl, hj, HJ⟩ := hrel
    by_cases hlt : j < bl.length
    · have c1 := HC.out j hlt
      have q1 : (j : Int) < (bl.length : Int) := by omega
      by_cases he : bl[j].1 = s
      · have HH := (show Hid (FdI bl s (j : Int)) from .inr ⟨j, hlt, rfl, he, HJ.out⟩)
        rw [he] at c1
        clear he HJ
        go_wp2_with fail
        go_ret
        exact ⟨(j : Int), rfl, HH.out, rfl⟩
      · have hd := ne_bytes he
        have HN := (show Hid (∀ i (hi : i < bl.length), i < j + 1 → ¬ bl[i].1 = s) from fun i hi hij => by
          by_cases e : i = j
          · subst e; exact he
          · exact HJ.out i hi (by omega))
        generalize bl[j].1 = y at *
        clear he HJ
        go_wp2_with fail
        go_round
        case rel => exact ⟨j + 1, by go_num, by omega, HN⟩
        case measure => simp [intOf]; omega
    · have HH := (show Hid (FdI bl s (-1)) from .inl ⟨rfl, fun i hi => HJ.out i hi (by omega)⟩)
      clear HJ
      go_wp2_with fail
      go_ret
      exact ⟨-1, rfl, HH.out, rfl⟩
theorem FdI.look {bl : List (ByteArray × Tr)} {s : ByteArray} {i : Int} (h : FdI bl s i) : (i = -1 ∧ look bl s = none) ∨ ∃ (k : Nat) (hk : k < bl.length), i = k ∧ look bl s = some bl[k].2 := by
  rcases h with ⟨h1, h2⟩ | ⟨k, hk, h1, h2, h3⟩
  · exact .inl ⟨h1, look_none h2⟩
  · exact .inr ⟨k, hk, h1, look_at hk h3 h2⟩
end Go.Proofs.Ytkkhdkfmaopmfaa
