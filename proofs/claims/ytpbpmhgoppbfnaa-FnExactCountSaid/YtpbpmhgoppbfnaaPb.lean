import Derived.Test.YtpbpmhgoppbfnaaBi
/-! What words of bits say: who leads where. -/
namespace Go.Proofs.Ytpbpmhgoppbfnaa
open Go.RowKit Go.Deep
set_option linter.unusedVariables false
set_option maxRecDepth 100000
set_option linter.unusedSimpArgs false

theorem set_getD (W : List Nat) (k v i : Nat) : (W.set k v).getD i 0 = if i = k ∧ k < W.length then v else W.getD i 0 := by
  simp only [List.getD_eq_getElem?_getD, List.getElem?_set]
  by_cases e : k = i
  · subst e
    by_cases h : k < W.length
    · simp [h]
    · simp [h]
  · have e' : ¬ (i = k ∧ k < W.length) := fun h => e h.1.symm
    rw [if_neg e, if_neg e']
theorem orW_get (W : List Nat) (o : Nat) (u : Nat → Nat) (ho : o + 3 ≤ W.length) (i : Nat) : (orW W o u 3).getD i 0 = if o ≤ i ∧ i < o + 3 then W.getD i 0 ||| u (i - o) else W.getD i 0 := by
  have key : ∀ j, j ≤ 3 → ∀ i, (orW W o u j).getD i 0 = if o ≤ i ∧ i < o + j then W.getD i 0 ||| u (i - o) else W.getD i 0 := by
    intro j
    induction j with
    | zero => intro _ i; rw [if_neg (by omega)]; rfl
    | succ j ih =>
      intro hj i
      rw [orW, set_getD, orW_len]
      by_cases e : i = o + j
      · subst e
        rw [if_pos ⟨rfl, by omega⟩, ih (by omega), if_neg (by omega), if_pos (by omega)]
        congr 2
        omega
      · rw [if_neg (fun h => e h.1), ih (by omega)]
        by_cases h : o ≤ i ∧ i < o + j
        · rw [if_pos h, if_pos (by omega)]
        · rw [if_neg h, if_neg (by omega)]
  exact key 3 (Nat.le_refl _) i
/-- y is in the set of l. -/
def mem (W : List Nat) (l y : Nat) : Bool := (W.getD (l * 3 + y / 64) 0).testBit (y % 64)
def add1 (W : List Nat) (l x : Nat) : List Nat := W.set (l * 3 + x / 64) (W.getD (l * 3 + x / 64) 0 ||| 2 ^ (x % 64))
def addS (W : List Nat) (l x : Nat) : List Nat := orW (add1 W l x) (l * 3) (fun i => (add1 W l x).getD (x * 3 + i) 0) 3
theorem add1_len (W : List Nat) (l x : Nat) : (add1 W l x).length = W.length := by simp [add1]
theorem addS_len (W : List Nat) (l x : Nat) : (addS W l x).length = W.length := by rw [addS, orW_len, add1_len]
theorem add1_ge (W : List Nat) (l x i : Nat) : W.getD i 0 ≤ (add1 W l x).getD i 0 := by
  rw [add1, set_getD]
  split
  · rename_i h; rw [h.1]; exact Nat.left_le_or
  · exact Nat.le_refl _
theorem addS_get (W : List Nat) (l x : Nat) (hl : l * 3 + 3 ≤ W.length) (i : Nat) : (addS W l x).getD i 0 = if l * 3 ≤ i ∧ i < l * 3 + 3 then (add1 W l x).getD i 0 ||| (add1 W l x).getD (x * 3 + (i - l * 3)) 0 else (add1 W l x).getD i 0 := by
  rw [addS, orW_get _ _ _ (by rw [add1_len]; exact hl)]
theorem addS_ge (W : List Nat) (l x : Nat) (hl : l * 3 + 3 ≤ W.length) (i : Nat) : W.getD i 0 ≤ (addS W l x).getD i 0 := by
  rw [addS_get W l x hl]
  split
  · exact Nat.le_trans (add1_ge W l x i) Nat.left_le_or
  · exact add1_ge W l x i
theorem add1_other (W : List Nat) (l x i : Nat) (hx : x < 192) (hi : ¬ (l * 3 ≤ i ∧ i < l * 3 + 3)) : (add1 W l x).getD i 0 = W.getD i 0 := by
  rw [add1, set_getD, if_neg (fun h => hi (by omega))]
theorem addS_other (W : List Nat) (l x : Nat) (hl : l * 3 + 3 ≤ W.length) (hx : x < 192) (i : Nat) (hi : ¬ (l * 3 ≤ i ∧ i < l * 3 + 3)) : (addS W l x).getD i 0 = W.getD i 0 := by
  rw [addS_get W l x hl, if_neg hi, add1_other W l x i hx hi]
theorem add1_lt (W : List Nat) (hW : ∀ i, W.getD i 0 < 2 ^ 64) (l x : Nat) : ∀ i, (add1 W l x).getD i 0 < 2 ^ 64 := by
  intro i
  rw [add1, set_getD]
  split
  · exact Nat.or_lt_two_pow (hW _) (Nat.pow_lt_pow_right (by omega) (Nat.mod_lt _ (by omega)))
  · exact hW i
theorem addS_lt (W : List Nat) (hW : ∀ i, W.getD i 0 < 2 ^ 64) (l x : Nat) : ∀ i, (addS W l x).getD i 0 < 2 ^ 64 :=
  orW_lt _ _ _ (add1_lt W hW l x) (fun i => add1_lt W hW l x _) 3
theorem ext_getD {V W : List Nat} (hl : V.length = W.length) (h : ∀ i, V.getD i 0 = W.getD i 0) : V = W := by
  apply List.ext_getElem hl
  intro i h1 h2
  have := h i
  rw [getD_lt _ _ h1, getD_lt _ _ h2] at this
  exact this
theorem mem_add1 (W : List Nat) (l x : Nat) (hl : l * 3 + 3 ≤ W.length) (hx : x < 192) (l' y : Nat) (hy : y < 192) : mem (add1 W l x) l' y = (mem W l' y || decide (l' = l ∧ y = x)) := by
  unfold mem
  rw [add1, set_getD]
  by_cases e : l' * 3 + y / 64 = l * 3 + x / 64
  · have el : l' = l := by omega
    have ey : y / 64 = x / 64 := by omega
    rw [if_pos ⟨e, by omega⟩, Nat.testBit_or, Nat.testBit_two_pow, e]
    congr 1
    by_cases h : x % 64 = y % 64
    · rw [decide_eq_true h, decide_eq_true]; exact ⟨el, by omega⟩
    · rw [decide_eq_false h, decide_eq_false]; intro k; exact h (by rw [k.2])
  · rw [if_neg (fun h => e h.1)]
    have : ¬ (l' = l ∧ y = x) := fun h => e (by rw [h.1, h.2])
    rw [decide_eq_false this, Bool.or_false]
theorem mem_addS (W : List Nat) (l x : Nat) (hl : l * 3 + 3 ≤ W.length) (hx : x < 192) (l' y : Nat) (hy : y < 192) : mem (addS W l x) l' y = (mem (add1 W l x) l' y || (decide (l' = l) && mem (add1 W l x) x y)) := by
  show ((addS W l x).getD (l' * 3 + y / 64) 0).testBit (y % 64) = _
  rw [addS_get W l x hl]
  by_cases e : l' = l
  · subst e
    rw [if_pos (by omega), Nat.testBit_or, decide_eq_true rfl, Bool.true_and]
    unfold mem
    congr 3
    omega
  · rw [if_neg (by omega), decide_eq_false e, Bool.false_and, Bool.or_false]
    rfl
/-- One after the other. -/
def stepW (W : List Nat) (l : Nat) (q : List Nat) : List Nat := q.foldl (fun W x => addS W l x) W
theorem stepW_len (l : Nat) (q : List Nat) : ∀ W, (stepW W l q).length = W.length := by
  induction q with
  | nil => intro W; rfl
  | cons x q ih => intro W; show (stepW (addS W l x) l q).length = _; rw [ih, addS_len]
theorem stepW_ge (l : Nat) (q : List Nat) : ∀ W, l * 3 + 3 ≤ W.length → ∀ i, W.getD i 0 ≤ (stepW W l q).getD i 0 := by
  induction q with
  | nil => intro W _ i; exact Nat.le_refl _
  | cons x q ih =>
    intro W hl i
    exact Nat.le_trans (addS_ge W l x hl i) (ih (addS W l x) (by rw [addS_len]; exact hl) i)
theorem stepW_other (l : Nat) (q : List Nat) (hq : ∀ x ∈ q, x < 192) : ∀ W, l * 3 + 3 ≤ W.length → ∀ i, ¬ (l * 3 ≤ i ∧ i < l * 3 + 3) → (stepW W l q).getD i 0 = W.getD i 0 := by
  induction q with
  | nil => intro W _ i _; rfl
  | cons x q ih =>
    intro W hl i hi
    show (stepW (addS W l x) l q).getD i 0 = _
    rw [ih (fun y hy => hq y (by simp [hy])) _ (by rw [addS_len]; exact hl) i hi, addS_other W l x hl (hq x (by simp)) i hi]
theorem stepW_lt (l : Nat) (q : List Nat) : ∀ W, (∀ i, W.getD i 0 < 2 ^ 64) → ∀ i, (stepW W l q).getD i 0 < 2 ^ 64 := by
  induction q with
  | nil => intro W h; exact h
  | cons x q ih => intro W h; exact ih _ (addS_lt W h l x)
/-- Where nothing is new, nothing was done. -/
theorem stepW_fix (l : Nat) (q : List Nat) (hq : ∀ x ∈ q, x < 192) : ∀ W, l * 3 + 3 ≤ W.length → stepW W l q = W → ∀ x ∈ q, mem W l x = true ∧ ∀ y, y < 192 → mem W x y = true → mem W l y = true := by
  induction q with
  | nil => intro W _ _ x hx; simp at hx
  | cons z q ih =>
    intro W hl he x hx
    have h1 : addS W l z = W := by
      refine ext_getD (addS_len W l z) fun i => ?_
      have g1 := addS_ge W l z hl i
      have g2 := stepW_ge l q (addS W l z) (by rw [addS_len]; exact hl) i
      have e : (stepW (addS W l z) l q).getD i 0 = W.getD i 0 := by
        have : stepW (addS W l z) l q = W := he
        rw [this]
      omega
    have h2 : stepW W l q = W := by
      have : stepW (addS W l z) l q = W := he
      rw [h1] at this
      exact this
    rcases List.mem_cons.1 hx with rfl | hx'
    · have hz : x < 192 := hq x (by simp)
      have m1 : ∀ y, y < 192 → mem W l y = (mem (add1 W l x) l y || mem (add1 W l x) x y) := by
        intro y hy
        have := mem_addS W l x hl hz l y hy
        rw [h1, decide_eq_true rfl, Bool.true_and] at this
        exact this
      constructor
      · rw [m1 x hz, mem_add1 W l x hl hz l x hz]
        simp
      · intro y hy hm
        rw [m1 y hy, mem_add1 W l x hl hz x y hy, hm]
        simp
    · exact ih (fun y hy => hq y (by simp [hy])) W hl h2 x hx'
/-- What comes in was led to. -/
theorem stepW_sound (E : Nat → Nat → Prop) (l : Nat) (q : List Nat) (hq : ∀ x ∈ q, x < 192 ∧ E l x) : ∀ W, l * 3 + 3 ≤ W.length → (∀ a y, y < 192 → mem W a y = true → Tc E a y) → ∀ a y, y < 192 → mem (stepW W l q) a y = true → Tc E a y := by
  induction q with
  | nil => intro W _ h; exact h
  | cons z q ih =>
    intro W hl h
    obtain ⟨hz, hE⟩ := hq z (by simp)
    refine ih (fun y hy => hq y (by simp [hy])) (addS W l z) (by rw [addS_len]; exact hl) ?_
    have s1 : ∀ a y, y < 192 → mem (add1 W l z) a y = true → Tc E a y := by
      intro a y hy hm
      rw [mem_add1 W l z hl hz a y hy, Bool.or_eq_true] at hm
      rcases hm with hm | hm
      · exact h a y hy hm
      · have := of_decide_eq_true hm
        rw [this.1, this.2]
        exact Tc.one hE
    intro a y hy hm
    rw [mem_addS W l z hl hz a y hy, Bool.or_eq_true, Bool.and_eq_true] at hm
    rcases hm with hm | ⟨hm1, hm2⟩
    · exact s1 a y hy hm
    · rw [of_decide_eq_true hm1]
      exact Tc.step hE (s1 z y hy hm2)
/-- How much is not yet there. -/
def room (W : List Nat) : Nat := (W.map fun v => 2 ^ 64 - v).sum
theorem room_le : ∀ (V W : List Nat), V.length = W.length → (∀ i, W.getD i 0 ≤ V.getD i 0) → room V ≤ room W := by
  intro V
  induction V with
  | nil => intro W hl _; have : W = [] := List.length_eq_zero_iff.1 hl.symm; subst this; exact Nat.le_refl _
  | cons v V ih =>
    intro W hl h
    cases W with
    | nil => simp at hl
    | cons x W =>
      have h0 := h 0
      have h1 := ih W (by simpa using hl) fun i => by have := h (i + 1); simpa using this
      simp at h0
      unfold room at h1 ⊢
      simp only [List.map_cons, List.sum_cons]
      omega
theorem room_lt : ∀ (V W : List Nat), V.length = W.length → (∀ i, W.getD i 0 ≤ V.getD i 0) → (∀ i, V.getD i 0 < 2 ^ 64) → V ≠ W → room V < room W := by
  intro V
  induction V with
  | nil => intro W hl _ _ hn; have : W = [] := List.length_eq_zero_iff.1 hl.symm; exact absurd this.symm hn
  | cons v V ih =>
    intro W hl h ht hn
    cases W with
    | nil => simp at hl
    | cons x W =>
      have h0 := h 0
      have t0 := ht 0
      have hr : ∀ i, W.getD i 0 ≤ V.getD i 0 := fun i => by have := h (i + 1); simpa using this
      have hl' : V.length = W.length := by simpa using hl
      simp at h0 t0
      by_cases e : V = W
      · have : v ≠ x := fun e2 => hn (by rw [e, e2])
        subst e
        unfold room
        simp only [List.map_cons, List.sum_cons]
        omega
      · have h1 := ih W hl' hr (fun i => by have := ht (i + 1); simpa using this) e
        unfold room at h1 ⊢
        simp only [List.map_cons, List.sum_cons]
        omega
end Go.Proofs.Ytpbpmhgoppbfnaa
