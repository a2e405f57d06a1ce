import Derived.Test.YtilahbfcobhjeaaTl
/-! Programs that are made tighter: where jumps end; so many steps suffice. -/
namespace Go.Proofs.Ytilahbfcobhjeaa
open Go.RowKit Go.Deep
set_option linter.unusedVariables false
set_option maxRecDepth 100000
set_option linter.unusedSimpArgs false

/-- Where one is behind so many jumps. -/
def jt (l : List DIns) (k : Nat) : Nat → Nat
  | 0 => k
  | i + 1 => (insAt l (jt l k i)).to_.toNat
theorem jt_add (l : List DIns) (k i : Nat) : ∀ d, jt l k (i + d) = jt l (jt l k i) d := by
  intro d
  induction d with
  | zero => rfl
  | succ d ih => rw [← Nat.add_assoc, jt, jt, ih]
theorem jt_one (l : List DIns) (k i : Nat) : jt l k (i + 1) = jt l (insAt l k).to_.toNat i := by
  rw [Nat.add_comm i 1, jt_add]
  rfl
theorem ldk_jt {l : List DIns} : ∀ (f k m : Nat), ldk l f k = some m → ∃ s, s < f ∧ jt l k s = m ∧ ¬ (insAt l m).op = 5 ∧ ∀ i, i < s → (insAt l (jt l k i)).op = 5 := by
  intro f
  induction f with
  | zero => intro k m h; cases h
  | succ f ih =>
    intro k m h
    by_cases h5 : (insAt l k).op = 5
    · rw [ldk_on h5] at h
      obtain ⟨s, h1, h2, h3, h4⟩ := ih _ _ h
      refine ⟨s + 1, by omega, by rw [jt_one]; exact h2, h3, fun i hi => ?_⟩
      cases i with
      | zero => exact h5
      | succ i => rw [jt_one]; exact h4 i (by omega)
    · rw [ldk_end h5] at h
      injection h with h
      subst h
      exact ⟨0, by omega, rfl, h5, fun i hi => absurd hi (Nat.not_lt_zero _)⟩
theorem jt_ldk {l : List DIns} : ∀ (s k f : Nat), s < f → ¬ (insAt l (jt l k s)).op = 5 → (∀ i, i < s → (insAt l (jt l k i)).op = 5) → ldk l f k = some (jt l k s) := by
  intro s
  induction s with
  | zero =>
    intro k f hf h _
    obtain ⟨f, rfl⟩ : ∃ g, f = g + 1 := ⟨f - 1, by omega⟩
    exact ldk_end h
  | succ s ih =>
    intro k f hf h h4
    obtain ⟨f, rfl⟩ : ∃ g, f = g + 1 := ⟨f - 1, by omega⟩
    rw [ldk_on (show (insAt l k).op = 5 from h4 0 (by omega)), jt_one]
    refine ih _ f (by omega) (by rw [← jt_one]; exact h) (fun i hi => ?_)
    rw [← jt_one]; exact h4 (i + 1) (by omega)
/-- Numbers below n that differ are no more than n. -/
theorem few : ∀ (n s : Nat) (g : Nat → Nat), (∀ i, i ≤ s → g i < n) → (∀ i j, i < j → j ≤ s → g i ≠ g j) → s < n := by
  intro n
  induction n with
  | zero => intro s g h _; exact absurd (h 0 (Nat.zero_le _)) (Nat.not_lt_zero _)
  | succ n ih =>
    intro s g h hd
    apply Decidable.byContradiction
    intro hn
    by_cases hc : ∃ c, c ≤ s ∧ g c = n
    · obtain ⟨c, hc1, hc2⟩ := hc
      have := ih (s - 1) (fun i => if i < c then g i else g (i + 1)) (fun i hi => by
        by_cases e : i < c
        · simp only [if_pos e]
          have h1 := h i (by omega)
          have h2 := hd i c e hc1
          omega
        · simp only [if_neg e]
          have h1 := h (i + 1) (by omega)
          have h2 := hd c (i + 1) (by omega) (by omega)
          omega) (fun i j hij hj => by
        by_cases e1 : i < c <;> by_cases e2 : j < c
        · simp only [if_pos e1, if_pos e2]; exact hd i j hij (by omega)
        · simp only [if_pos e1, if_neg e2]; exact hd i (j + 1) (by omega) (by omega)
        · omega
        · simp only [if_neg e1, if_neg e2]; exact hd (i + 1) (j + 1) (by omega) (by omega))
      omega
    · have := ih s g (fun i hi => by
        have h1 := h i hi
        have h2 : g i ≠ n := fun e => hc ⟨i, hi, e⟩
        omega) hd
      omega
section
variable {l : List DIns} (hin : ∀ i (hi : i < l.length), inB l.length l[i] = true)
include hin
theorem jmp_to {k : Nat} (hk : k < l.length) (h5 : (insAt l k).op = 5) : 0 ≤ (insAt l k).to_ ∧ (insAt l k).to_.toNat < l.length := by
  rw [insAt_at hk] at h5 ⊢
  obtain ⟨_, _, f3, f4, _, _⟩ := in_facts (hin k hk)
  have := f4 (by rw [h5]; rfl)
  omega
/-- So many steps suffice. -/
theorem ldk_few {f k m : Nat} (hk : k < l.length) (h : ldk l f k = some m) : ∀ g, l.length ≤ g → ldk l g k = some m := by
  intro g hg
  obtain ⟨s, h1, h2, h3, h4⟩ := ldk_jt f k m h
  have hlt : ∀ i, i ≤ s → jt l k i < l.length := by
    intro i
    induction i with
    | zero => intro _; exact hk
    | succ i ih => intro hi; exact (jmp_to hin (ih (by omega)) (h4 i (by omega))).2
  have hd : ∀ i j, i < j → j ≤ s → jt l k i ≠ jt l k j := by
    intro i j hij hj e
    have e1 : jt l k (i + (s - j)) = jt l k (j + (s - j)) := by rw [jt_add, jt_add, e]
    rw [show j + (s - j) = s by omega] at e1
    have h5 := h4 (i + (s - j)) (by omega)
    rw [e1, h2] at h5
    exact h3 h5
  have hs := few l.length s (jt l k) hlt hd
  rw [← h2]
  exact jt_ldk s k g (by omega) (by rw [h2]; exact h3) h4
/-- A jump ends where what it leads to ends. -/
theorem enF_jump {k : Nat} (hk : k < l.length) (h5 : (insAt l k).op = 5) : enF l k = enF l (insAt l k).to_.toNat := by
  have ht := (jmp_to hin hk h5).2
  have e : ldk l (l.length + 1) k = ldk l (l.length + 1) (insAt l k).to_.toNat := by
    rw [ldk_on h5]
    cases h : ldk l (l.length + 1) (insAt l k).to_.toNat with
    | some m => exact ldk_few hin ht h _ (Nat.le_refl _)
    | none =>
      cases h2 : ldk l l.length (insAt l k).to_.toNat with
      | none => rfl
      | some m =>
        rw [ldk_few hin ht h2 (l.length + 1) (by omega)] at h
        cases h
  unfold enF
  rw [e]
end
theorem enF_self {l : List DIns} {k : Nat} (h5 : ¬ (insAt l k).op = 5) : enF l k = k := by
  unfold enF
  rw [ldk_end h5]
theorem enF_ge (l : List DIns) (k : Nat) : -1 ≤ enF l k := by
  unfold enF
  cases ldk l (l.length + 1) k with
  | none => simp
  | some m => simp only; omega
/-- Places that lead to each other have no end. -/
theorem enF_ring {l : List DIns} {W : List Nat} (h : ∀ x, x ∈ W → (insAt l x).op = 5 ∧ (insAt l x).to_.toNat ∈ W) : ∀ x, x ∈ W → enF l x = -1 := by
  have key : ∀ f x, x ∈ W → ldk l f x = none := by
    intro f
    induction f with
    | zero => intro x _; rfl
    | succ f ih => intro x hx; rw [ldk_on (h x hx).1]; exact ih _ (h x hx).2
  intro x hx
  unfold enF
  rw [key _ x hx]
/-- What is known while one goes along jumps. -/
structure Wy (l : List DIns) (f : Nat → Int) (W : List Nat) (at_ : Nat) : Prop where
  inW : ∀ x, x ∈ W → x < l.length ∧ f x = -1 ∧ (insAt l x).op = 5 ∧ ((insAt l x).to_.toNat ∈ W ∨ (insAt l x).to_.toNat = at_) ∧ enF l x = enF l at_
  out : ∀ x, x < l.length → x ∉ W → f x = enF l x ∨ (f x = -2 ∧ (insAt l x).op = 5)
  at_l : at_ < l.length
theorem Wy.start {l : List DIns} {f : Nat → Int} {k : Nat} (hk : k < l.length) (h : ∀ x, x < l.length → f x = enF l x ∨ (f x = -2 ∧ (insAt l x).op = 5)) : Wy l f [] k :=
  ⟨fun x hx => (by cases hx), fun x hx _ => h x hx, hk⟩
theorem Wy.step {l : List DIns} (hin : ∀ i (hi : i < l.length), inB l.length l[i] = true) {f : Nat → Int} {W : List Nat} {a : Nat} (h : Wy l f W a) (h2 : f a = -2) : (insAt l a).op = 5 ∧ a ∉ W ∧ Wy l (fun x => if x = a then -1 else f x) (W ++ [a]) (insAt l a).to_.toNat := by
  have hW : a ∉ W := fun hx => by have := (h.inW a hx).2.1; omega
  have h5 : (insAt l a).op = 5 := by
    rcases h.out a h.at_l hW with e | e
    · have := enF_ge l a; omega
    · exact e.2
  have hj := enF_jump hin h.at_l h5
  refine ⟨h5, hW, fun x hx => ?_, fun x hx hn => ?_, (jmp_to hin h.at_l h5).2⟩
  · rcases List.mem_append.1 hx with hx | hx
    · obtain ⟨e1, e2, e3, e4, e5⟩ := h.inW x hx
      have hne : x ≠ a := fun e => hW (e ▸ hx)
      refine ⟨e1, by simp only [if_neg hne]; exact e2, e3, ?_, e5.trans hj⟩
      rcases e4 with e4 | e4
      · exact .inl (List.mem_append.2 (.inl e4))
      · exact .inl (by rw [e4]; simp)
    · simp at hx
      subst hx
      exact ⟨h.at_l, by simp, h5, .inr rfl, hj⟩
  · have hne : x ≠ a := fun e => hn (by rw [e]; simp)
    simp only [if_neg hne]
    exact h.out x hx (fun hx' => hn (List.mem_append.2 (.inl hx')))
/-- At its end: what is told of the way's end is where all of them end. -/
theorem Wy.done {l : List DIns} {f : Nat → Int} {W : List Nat} {a : Nat} (h : Wy l f W a) (h2 : f a ≠ -2) : f a = enF l a ∧ ∀ x, x ∈ W → enF l x = f a := by
  by_cases ha : a ∈ W
  · have hring := enF_ring (l := l) (W := W) (fun x hx => by
      obtain ⟨_, _, e3, e4, _⟩ := h.inW x hx
      refine ⟨e3, ?_⟩
      rcases e4 with e4 | e4
      · exact e4
      · rw [e4]; exact ha)
    have e := (h.inW a ha).2.1
    exact ⟨by rw [e, hring a ha], fun x hx => by rw [e, hring x hx]⟩
  · have e : f a = enF l a := (h.out a h.at_l ha).resolve_right (fun q => h2 q.1)
    exact ⟨e, fun x hx => by rw [(h.inW x hx).2.2.2.2, e]⟩
end Go.Proofs.Ytilahbfcobhjeaa
