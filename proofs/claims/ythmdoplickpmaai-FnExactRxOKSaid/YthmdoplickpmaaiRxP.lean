import Derived.Test.YthmdoplickpmaaiParse
/-! The reading of a pattern, as a function of the bytes: the place behind it, or the place of the fault. -/
namespace Go.Proofs.Ythmdoplickpmaai
set_option linter.unusedVariables false
set_option linter.unusedSimpArgs false

/-- What a part of a pattern answers is within the text, and it went on by so many bytes at least. -/
def InT (s : ByteArray) (k m : Nat) : Except Nat Nat → Prop
  | .error j => j ≤ s.size
  | .ok k' => k + m ≤ k' ∧ k' ≤ s.size
def InB (s : ByteArray) (k : Nat) : Except Nat (UInt8 × Nat) → Prop
  | .error j => j ≤ s.size
  | .ok r => k < r.2 ∧ r.2 ≤ s.size

/-- A plain byte. -/
def xPlain (s : ByteArray) (k : Nat) : Except Nat (UInt8 × Nat) :=
  if decide (k < s.size) && (decide (32 ≤ (s.get! k).toNat) && decide ((s.get! k).toNat ≤ 126)) then .ok (s.get! k, k + 1) else .error k
theorem xPlain_in {s : ByteArray} {k : Nat} (h : k ≤ s.size) : InB s k (xPlain s k) := by
  unfold xPlain
  split
  · rename_i hb
    simp at hb
    exact ⟨Nat.lt_succ_self _, hb.1⟩
  · exact h
/-- Behind a backslash. -/
def xEsc (s : ByteArray) (k : Nat) : Except Nat (UInt8 × Nat) :=
  if seesB s k 110 then .ok (10, k + 1) else if seesB s k 116 then .ok (9, k + 1)
  else if seesB s k 32 || (decide (k < s.size) && (letB (s.get! k).toNat || digB (s.get! k).toNat)) then .error k else xPlain s k
theorem xEsc_in {s : ByteArray} {k : Nat} (h : k ≤ s.size) : InB s k (xEsc s k) := by
  unfold xEsc
  split
  · rename_i hb; exact ⟨Nat.lt_succ_self _, seesB_lt hb⟩
  split
  · rename_i hb; exact ⟨Nat.lt_succ_self _, seesB_lt hb⟩
  split
  · exact h
  · exact xPlain_in h
/-- The signs that do not stand for themselves: outside of a set, within one. -/
def sOut : List UInt8 := [124, 42, 43, 63, 40, 41, 46, 91, 93, 92]
def sIn : List UInt8 := [93, 45, 92, 94]
/-- One byte. -/
def xOne (l : List UInt8) (s : ByteArray) (k : Nat) : Except Nat (UInt8 × Nat) :=
  if seesB s k 92 then xEsc s (k + 1) else if decide (k < s.size) && l.contains (s.get! k) then .error k else xPlain s k
theorem xOne_in {l : List UInt8} {s : ByteArray} {k : Nat} (h : k ≤ s.size) : InB s k (xOne l s k) := by
  unfold xOne
  split
  · rename_i hb
    have := xEsc_in (s := s) (k := k + 1) (seesB_lt hb)
    revert this
    cases xEsc s (k + 1) with
    | error j => exact fun h => h
    | ok r => exact fun h => ⟨by have := h.1; omega, h.2⟩
  split
  · exact h
  · exact xPlain_in h
/-- A byte of a set, or from one to another. -/
def xItem (s : ByteArray) (k : Nat) : Except Nat Nat :=
  match xOne sIn s k with
  | .error j => .error j
  | .ok (lo, k1) => if seesB s k1 45 then (match xOne sIn s (k1 + 1) with
      | .error j => .error j
      | .ok (hi, k2) => if hi.toNat < lo.toNat then .error (k1 + 1) else .ok k2) else .ok k1
theorem xItem_in {s : ByteArray} {k : Nat} (h : k ≤ s.size) : InT s k 1 (xItem s k) := by
  unfold xItem
  have h1 := xOne_in (l := sIn) h
  revert h1
  cases xOne sIn s k with
  | error j => exact fun h => h
  | ok r =>
    obtain ⟨lo, k1⟩ := r
    intro h1
    have h1a : k < k1 := h1.1
    have h1b : k1 ≤ s.size := h1.2
    dsimp only
    split
    · rename_i hb
      have hlt := seesB_lt hb
      have h2 := xOne_in (l := sIn) (s := s) (k := k1 + 1) hlt
      revert h2
      cases xOne sIn s (k1 + 1) with
      | error j => exact fun h => h
      | ok r =>
        obtain ⟨hi, k2⟩ := r
        intro h2
        have h2a : k1 + 1 < k2 := h2.1
        have h2b : k2 ≤ s.size := h2.2
        dsimp only
        split
        · exact hlt
        · exact ⟨by omega, h2b⟩
    · exact ⟨h1a, h1b⟩
/-- .. until the bracket. -/
def xItems (s : ByteArray) : Nat → Nat → Except Nat Nat
  | 0, k => .error k
  | f + 1, k => if seesB s k 93 then .ok k else match xItem s k with
    | .error j => .error j
    | .ok k1 => xItems s f k1
theorem xItems_in {s : ByteArray} : ∀ (f k : Nat), k ≤ s.size → InT s k 0 (xItems s f k)
  | 0, k, h => h
  | f + 1, k, h => by
    rw [xItems]
    split
    · exact ⟨Nat.le_refl _, h⟩
    · have h1 := xItem_in h
      revert h1
      cases xItem s k with
      | error j => exact fun h => h
      | ok k1 =>
        intro h1
        have h2 := xItems_in f k1 h1.2
        dsimp only
        revert h2
        cases xItems s f k1 with
        | error j => exact fun h => h
        | ok k2 => exact fun h2 => ⟨by have := h1.1; have := h2.1; omega, h2.2⟩
theorem xItems_fuel {s : ByteArray} : ∀ (f g k : Nat), k ≤ s.size → s.size + 1 - k ≤ f → s.size + 1 - k ≤ g → xItems s f k = xItems s g k
  | 0, g, k, h, hf, hg => by omega
  | f + 1, 0, k, h, hf, hg => by omega
  | f + 1, g + 1, k, h, hf, hg => by
    rw [xItems, xItems]
    split
    · rfl
    · have h1 := xItem_in h
      revert h1
      cases xItem s k with
      | error j => exact fun _ => rfl
      | ok k1 =>
        intro h1
        have := h1.1
        exact xItems_fuel f g k1 h1.2 (by omega) (by omega)
/-- A set, at its bracket. -/
def xSet (s : ByteArray) (k : Nat) : Except Nat Nat :=
  match xItem s (if seesB s (k + 1) 94 then k + 2 else k + 1) with
  | .error j => .error j
  | .ok k2 => match xItems s (s.size + 1 - k2) k2 with
    | .error j => .error j
    | .ok k3 => .ok (k3 + 1)
theorem xItems_ok {s : ByteArray} : ∀ (f k : Nat) {k' : Nat}, xItems s f k = .ok k' → seesB s k' 93 = true
  | 0, k, k', h => by cases h
  | f + 1, k, k', h => by
    rw [xItems] at h
    split at h
    · rename_i hb; cases h; exact hb
    · revert h
      cases xItem s k with
      | error j => intro h; cases h
      | ok k1 => intro h; exact xItems_ok f k1 h
theorem xSet_in {s : ByteArray} {k : Nat} (h : seesB s k 91 = true) : InT s k 1 (xSet s k) := by
  have hlt := seesB_lt h
  unfold xSet
  have hk1 : (if seesB s (k + 1) 94 then k + 2 else k + 1) ≤ s.size ∧ k + 1 ≤ (if seesB s (k + 1) 94 then k + 2 else k + 1) := by
    split
    · rename_i hb; have := seesB_lt hb; omega
    · omega
  generalize (if seesB s (k + 1) 94 then k + 2 else k + 1) = k1 at *
  have h1 := xItem_in hk1.1
  revert h1
  cases xItem s k1 with
  | error j => exact fun h => h
  | ok k2 =>
    intro h1
    dsimp only
    have h2 := xItems_in (s.size + 1 - k2) k2 h1.2
    have h3 := fun k' => xItems_ok (s := s) (s.size + 1 - k2) k2 (k' := k')
    revert h2 h3
    cases xItems s (s.size + 1 - k2) k2 with
    | error j => exact fun h _ => h
    | ok k3 =>
      intro h2 h3
      have := seesB_lt (h3 k3 rfl)
      exact ⟨by have := h1.1; have := h2.1; omega, this⟩
/-- Behind the signs of repetition. -/
def xReps (s : ByteArray) : Nat → Nat → Nat
  | 0, k => k
  | f + 1, k => if seesB s k 42 || (seesB s k 43 || seesB s k 63) then xReps s f (k + 1) else k
theorem reps_lt {s : ByteArray} {k : Nat} (h : (seesB s k 42 || (seesB s k 43 || seesB s k 63)) = true) : k < s.size := by
  rcases (Bool.or_eq_true _ _).mp h with h | h
  · exact seesB_lt h
  · rcases (Bool.or_eq_true _ _).mp h with h | h
    · exact seesB_lt h
    · exact seesB_lt h
theorem xReps_in {s : ByteArray} : ∀ (f k : Nat), k ≤ s.size → k ≤ xReps s f k ∧ xReps s f k ≤ s.size
  | 0, k, h => ⟨Nat.le_refl _, h⟩
  | f + 1, k, h => by
    rw [xReps]
    split
    · rename_i hb
      have := xReps_in f (k + 1) (reps_lt hb)
      exact ⟨by omega, this.2⟩
    · exact ⟨Nat.le_refl _, h⟩
def reps (s : ByteArray) (k : Nat) : Nat := xReps s (s.size - k) k
theorem reps_step {s : ByteArray} {k : Nat} (h : (seesB s k 42 || (seesB s k 43 || seesB s k 63)) = true) : reps s k = reps s (k + 1) := by
  have hlt := reps_lt h
  unfold reps
  rw [show s.size - k = s.size - (k + 1) + 1 by omega, xReps, if_pos h]
theorem reps_stop {s : ByteArray} {k : Nat} (h : (seesB s k 42 || (seesB s k 43 || seesB s k 63)) = false) : reps s k = k := by
  unfold reps
  cases s.size - k with
  | zero => rfl
  | succ f => rw [xReps, if_neg (by rw [h]; simp)]
theorem reps_in {s : ByteArray} {k : Nat} (h : k ≤ s.size) : k ≤ reps s k ∧ reps s k ≤ s.size := xReps_in _ _ h

/-- An atom; pC: what reads a choice. -/
def xAtom (pC : Nat → Except Nat Nat) (s : ByteArray) (k : Nat) : Except Nat Nat :=
  if seesB s k 40 then (match pC (k + 1) with
    | .error j => .error j
    | .ok k1 => if seesB s k1 41 then .ok (k1 + 1) else .error k1)
  else if seesB s k 46 then .ok (k + 1) else if seesB s k 91 then xSet s k else match xOne sOut s k with
    | .error j => .error j
    | .ok (_, k1) => .ok k1
/-- What is asked of a choice's reader. -/
def RxGood (s : ByteArray) (k : Nat) (pC : Nat → Except Nat Nat) : Prop := ∀ k', k < k' → k' ≤ s.size → InT s k' 0 (pC k')
theorem xAtom_in {pC : Nat → Except Nat Nat} {s : ByteArray} {k : Nat} (hg : RxGood s k pC) (h : k ≤ s.size) : InT s k 1 (xAtom pC s k) := by
  unfold xAtom
  split
  · rename_i hb
    have h1 := hg (k + 1) (Nat.lt_succ_self _) (seesB_lt hb)
    revert h1
    cases pC (k + 1) with
    | error j => exact fun h => h
    | ok k1 =>
      intro h1
      dsimp only
      split
      · rename_i hb'; exact ⟨by have := h1.1; omega, seesB_lt hb'⟩
      · exact h1.2
  split
  · rename_i hb; exact ⟨Nat.le_refl _, seesB_lt hb⟩
  split
  · rename_i hb; exact xSet_in hb
  · have h1 := xOne_in (l := sOut) h
    revert h1
    cases xOne sOut s k with
    | error j => exact fun h => h
    | ok r => exact fun h => h
def xRep (pC : Nat → Except Nat Nat) (s : ByteArray) (k : Nat) : Except Nat Nat :=
  match xAtom pC s k with
  | .error j => .error j
  | .ok k1 => .ok (reps s k1)
theorem xRep_in {pC : Nat → Except Nat Nat} {s : ByteArray} {k : Nat} (hg : RxGood s k pC) (h : k ≤ s.size) : InT s k 1 (xRep pC s k) := by
  unfold xRep
  have h1 := xAtom_in hg h
  revert h1
  cases xAtom pC s k with
  | error j => exact fun h => h
  | ok k1 => exact fun h1 => ⟨Nat.le_trans h1.1 (reps_in h1.2).1, (reps_in h1.2).2⟩
/-- Whether a sequence goes on. -/
def goes (s : ByteArray) (k : Nat) : Bool := decide (k < s.size) && (!seesB s k 124 && !seesB s k 41)
theorem goes_lt {s : ByteArray} {k : Nat} (h : goes s k = true) : k < s.size := by unfold goes at h; simp at h; exact h.1
def xCat (pC : Nat → Except Nat Nat) (s : ByteArray) : Nat → Nat → Except Nat Nat
  | 0, k => .ok k
  | f + 1, k => if goes s k then (match xRep pC s k with
    | .error j => .error j
    | .ok k1 => xCat pC s f k1) else .ok k
theorem RxGood.mono {s : ByteArray} {k k1 : Nat} {pC : Nat → Except Nat Nat} (h : RxGood s k pC) (hk : k ≤ k1) : RxGood s k1 pC := fun k' h1 h2 => h k' (by omega) h2
theorem xCat_in {pC : Nat → Except Nat Nat} {s : ByteArray} : ∀ (f k : Nat), RxGood s k pC → k ≤ s.size → InT s k 0 (xCat pC s f k)
  | 0, k, hg, h => ⟨Nat.le_refl _, h⟩
  | f + 1, k, hg, h => by
    rw [xCat]
    split
    · have h1 := xRep_in hg h
      revert h1
      cases xRep pC s k with
      | error j => exact fun h => h
      | ok k1 =>
        intro h1
        have h2 := xCat_in f k1 (hg.mono (by have := h1.1; omega)) h1.2
        dsimp only
        revert h2
        cases xCat pC s f k1 with
        | error j => exact fun h => h
        | ok k2 => exact fun h2 => ⟨by have := h1.1; have := h2.1; omega, h2.2⟩
    · exact ⟨Nat.le_refl _, h⟩
theorem xCat_fuel {pC : Nat → Except Nat Nat} {s : ByteArray} : ∀ (f g k : Nat), RxGood s k pC → k ≤ s.size → s.size - k ≤ f → s.size - k ≤ g → xCat pC s f k = xCat pC s g k
  | 0, 0, k, hg, h, hf, hg' => rfl
  | 0, g + 1, k, hg, h, hf, hg' => by
    have hno : goes s k = false := by
      cases hb : goes s k
      · rfl
      · have := goes_lt hb; omega
    rw [xCat, xCat, if_neg (by rw [hno]; simp)]
  | f + 1, 0, k, hg, h, hf, hg' => by
    have hno : goes s k = false := by
      cases hb : goes s k
      · rfl
      · have := goes_lt hb; omega
    rw [xCat, xCat, if_neg (by rw [hno]; simp)]
  | f + 1, g + 1, k, hg, h, hf, hg' => by
    rw [xCat, xCat]
    split
    · have h1 := xRep_in hg h
      revert h1
      cases xRep pC s k with
      | error j => exact fun _ => rfl
      | ok k1 =>
        intro h1
        have := h1.1
        exact xCat_fuel f g k1 (hg.mono (by omega)) h1.2 (by omega) (by omega)
    · rfl
/-- A sequence from a place. -/
def cat (pC : Nat → Except Nat Nat) (s : ByteArray) (k : Nat) : Except Nat Nat := xCat pC s (s.size - k) k
theorem cat_stop {pC : Nat → Except Nat Nat} {s : ByteArray} {k : Nat} (h : goes s k = false) : cat pC s k = .ok k := by
  unfold cat
  cases s.size - k with
  | zero => rfl
  | succ f => rw [xCat, if_neg (by rw [h]; simp)]
theorem cat_step {pC : Nat → Except Nat Nat} {s : ByteArray} {k : Nat} (hg : RxGood s k pC) (h : goes s k = true) : cat pC s k = (match xRep pC s k with
    | .error j => .error j
    | .ok k1 => cat pC s k1) := by
  have hlt := goes_lt h
  have h1 := xRep_in hg (Nat.le_of_lt hlt)
  unfold cat
  rw [show s.size - k = s.size - (k + 1) + 1 by omega, xCat, if_pos h]
  revert h1
  cases xRep pC s k with
  | error j => exact fun _ => rfl
  | ok k1 =>
    intro h1
    have := h1.1
    exact xCat_fuel _ _ k1 (hg.mono (by omega)) h1.2 (by omega) (by omega)
theorem cat_in {pC : Nat → Except Nat Nat} {s : ByteArray} {k : Nat} (hg : RxGood s k pC) (h : k ≤ s.size) : InT s k 0 (cat pC s k) := xCat_in _ _ hg h
def xAlts (pC : Nat → Except Nat Nat) (s : ByteArray) : Nat → Nat → Except Nat Nat
  | 0, k => .ok k
  | f + 1, k => if seesB s k 124 then (match cat pC s (k + 1) with
    | .error j => .error j
    | .ok k1 => xAlts pC s f k1) else .ok k
theorem xAlts_in {pC : Nat → Except Nat Nat} {s : ByteArray} : ∀ (f k : Nat), RxGood s k pC → k ≤ s.size → InT s k 0 (xAlts pC s f k)
  | 0, k, hg, h => ⟨Nat.le_refl _, h⟩
  | f + 1, k, hg, h => by
    rw [xAlts]
    split
    · rename_i hb
      have h1 := cat_in (hg.mono (Nat.le_succ k)) (seesB_lt hb)
      revert h1
      cases cat pC s (k + 1) with
      | error j => exact fun h => h
      | ok k1 =>
        intro h1
        have h2 := xAlts_in f k1 (hg.mono (by have := h1.1; omega)) h1.2
        dsimp only
        revert h2
        cases xAlts pC s f k1 with
        | error j => exact fun h => h
        | ok k2 => exact fun h2 => ⟨by have := h1.1; have := h2.1; omega, h2.2⟩
    · exact ⟨Nat.le_refl _, h⟩
theorem xAlts_fuel {pC : Nat → Except Nat Nat} {s : ByteArray} : ∀ (f g k : Nat), RxGood s k pC → k ≤ s.size → s.size - k ≤ f → s.size - k ≤ g → xAlts pC s f k = xAlts pC s g k
  | 0, 0, k, hg, h, hf, hg' => rfl
  | 0, g + 1, k, hg, h, hf, hg' => by
    have hno : seesB s k 124 = false := by
      cases hb : seesB s k 124
      · rfl
      · have := seesB_lt hb; omega
    rw [xAlts, xAlts, if_neg (by rw [hno]; simp)]
  | f + 1, 0, k, hg, h, hf, hg' => by
    have hno : seesB s k 124 = false := by
      cases hb : seesB s k 124
      · rfl
      · have := seesB_lt hb; omega
    rw [xAlts, xAlts, if_neg (by rw [hno]; simp)]
  | f + 1, g + 1, k, hg, h, hf, hg' => by
    rw [xAlts, xAlts]
    split
    · rename_i hb
      have h1 := cat_in (hg.mono (Nat.le_succ k)) (seesB_lt hb)
      revert h1
      cases cat pC s (k + 1) with
      | error j => exact fun _ => rfl
      | ok k1 =>
        intro h1
        have := h1.1
        exact xAlts_fuel f g k1 (hg.mono (by omega)) h1.2 (by omega) (by omega)
    · rfl
/-- The other choices, from a place. -/
def alts (pC : Nat → Except Nat Nat) (s : ByteArray) (k : Nat) : Except Nat Nat := xAlts pC s (s.size - k) k
theorem alts_stop {pC : Nat → Except Nat Nat} {s : ByteArray} {k : Nat} (h : seesB s k 124 = false) : alts pC s k = .ok k := by
  unfold alts
  cases s.size - k with
  | zero => rfl
  | succ f => rw [xAlts, if_neg (by rw [h]; simp)]
theorem alts_step {pC : Nat → Except Nat Nat} {s : ByteArray} {k : Nat} (hg : RxGood s k pC) (h : seesB s k 124 = true) : alts pC s k = (match cat pC s (k + 1) with
    | .error j => .error j
    | .ok k1 => alts pC s k1) := by
  have hlt := seesB_lt h
  have h1 := cat_in (hg.mono (Nat.le_succ k)) hlt
  unfold alts
  rw [show s.size - k = s.size - (k + 1) + 1 by omega, xAlts, if_pos h]
  revert h1
  cases cat pC s (k + 1) with
  | error j => exact fun _ => rfl
  | ok k1 =>
    intro h1
    have := h1.1
    exact xAlts_fuel _ _ k1 (hg.mono (by omega)) h1.2 (by omega) (by omega)
theorem alts_in {pC : Nat → Except Nat Nat} {s : ByteArray} {k : Nat} (hg : RxGood s k pC) (h : k ≤ s.size) : InT s k 0 (alts pC s k) := xAlts_in _ _ hg h
/-- A choice, so deep at most. -/
def xOr (s : ByteArray) : Nat → Nat → Except Nat Nat
  | 0, k => .error k
  | d + 1, k => match cat (xOr s d) s k with
    | .error j => .error j
    | .ok k1 => alts (xOr s d) s k1
theorem xOr_in {s : ByteArray} : ∀ (d k : Nat), k ≤ s.size → InT s k 0 (xOr s d k)
  | 0, k, h => h
  | d + 1, k, h => by
    have hg : RxGood s k (xOr s d) := fun k' _ h2 => xOr_in d k' h2
    rw [xOr]
    have h1 := cat_in hg h
    revert h1
    cases cat (xOr s d) s k with
    | error j => exact fun h => h
    | ok k1 =>
      intro h1
      have h2 := alts_in (hg.mono (by have := h1.1; omega)) h1.2
      dsimp only
      revert h2
      cases alts (xOr s d) s k1 with
      | error j => exact fun h => h
      | ok k2 => exact fun h2 => ⟨by have := h1.1; have := h2.1; omega, h2.2⟩
theorem xOr_good (s : ByteArray) (d k : Nat) : RxGood s k (xOr s d) := fun k' _ h2 => xOr_in d k' h2
/-- A whole pattern: nothing, or the place of its fault. -/
def xAll (s : ByteArray) : Option Nat := match xOr s (s.size + 1) 0 with
  | .error j => some j
  | .ok k => if k < s.size then some k else none
/-- What RxOK answers. -/
def rxR (s : ByteArray) : Int × Int := if 100 < s.size then (1, 0) else match xAll s with
  | none => (0, 0)
  | some j => (2, j)
end Go.Proofs.Ythmdoplickpmaai
