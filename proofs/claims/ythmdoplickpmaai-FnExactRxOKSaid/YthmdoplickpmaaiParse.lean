import Derived.Test.YthmdoplickpmaaiTree
/-! The reading of a tree's text, as a function of the bytes: what is read and the place behind it, or the place of the fault. -/
namespace Go.Proofs.Ythmdoplickpmaai
set_option linter.unusedVariables false
set_option linter.unusedSimpArgs false

/-- Whether a byte stands at a place. -/
def seesB (s : ByteArray) (k : Nat) (b : UInt8) : Bool := decide (k < s.size) && (s.get! k == b)
/-- Behind the blanks. -/
def skipB (s : ByteArray) : Nat → Nat → Nat
  | 0, k => k
  | f + 1, k => if seesB s k 32 || seesB s k 10 then skipB s f (k + 1) else k
def skip (s : ByteArray) (k : Nat) : Nat := skipB s (s.size - k) k
theorem seesB_lt {s : ByteArray} {k : Nat} {b : UInt8} (h : seesB s k b = true) : k < s.size := by
  unfold seesB at h
  simp at h
  exact h.1
theorem blank_lt {s : ByteArray} {k : Nat} (h : (seesB s k 32 || seesB s k 10) = true) : k < s.size := by
  rcases (Bool.or_eq_true _ _).mp h with h | h
  · exact seesB_lt h
  · exact seesB_lt h
theorem skip_step {s : ByteArray} {k : Nat} (h : (seesB s k 32 || seesB s k 10) = true) : skip s k = skip s (k + 1) := by
  have hlt := blank_lt h
  unfold skip
  rw [show s.size - k = s.size - (k + 1) + 1 by omega, skipB, if_pos h]
theorem skip_stop {s : ByteArray} {k : Nat} (h : (seesB s k 32 || seesB s k 10) = false) : skip s k = k := by
  unfold skip
  cases s.size - k with
  | zero => rfl
  | succ f => rw [skipB, if_neg (by rw [h]; simp)]
theorem skipB_le {s : ByteArray} : ∀ (f k : Nat), k ≤ s.size → k ≤ skipB s f k ∧ skipB s f k ≤ s.size
  | 0, k, h => ⟨Nat.le_refl _, h⟩
  | f + 1, k, h => by
    rw [skipB]
    split
    · rename_i hb
      have := skipB_le f (k + 1) (blank_lt hb)
      exact ⟨by omega, this.2⟩
    · exact ⟨Nat.le_refl _, h⟩
theorem skip_le {s : ByteArray} {k : Nat} (h : k ≤ s.size) : k ≤ skip s k ∧ skip s k ≤ s.size := skipB_le _ _ h

/-- The end of a name's bytes, at most so many of them. -/
def nmEnd (s : ByteArray) : Nat → Nat → Nat
  | 0, k => k
  | f + 1, k => if decide (k < s.size) && nbB (s.get! k).toNat then nmEnd s f (k + 1) else k
/-- A name. -/
def pName (s : ByteArray) (k : Nat) : Except Nat (ByteArray × Nat) :=
  if decide (k < s.size) && letB (s.get! k).toNat then .ok (s.extract k (nmEnd s 24 k), nmEnd s 24 k) else .error k
theorem nmEnd_le {s : ByteArray} : ∀ (f k : Nat), k ≤ s.size → k ≤ nmEnd s f k ∧ nmEnd s f k ≤ s.size ∧ nmEnd s f k ≤ k + f
  | 0, k, h => ⟨Nat.le_refl _, h, Nat.le_refl _⟩
  | f + 1, k, h => by
    rw [nmEnd]
    split
    · rename_i hb
      simp at hb
      have := nmEnd_le f (k + 1) hb.1
      exact ⟨by omega, this.2.1, by omega⟩
    · exact ⟨Nat.le_refl _, h, by omega⟩
theorem let_nb {c : Int} (h : letB c = true) : nbB c = true := by unfold nbB; rw [h]; rfl
theorem nmEnd_pos {s : ByteArray} {k : Nat} (h : k < s.size) (hl : letB (s.get! k).toNat = true) : k < nmEnd s 24 k := by
  rw [nmEnd, if_pos (by simp [h, let_nb hl])]
  have := (nmEnd_le 23 (k + 1) (s := s) h).1
  omega

/-- Whether a byte that is shown by its number has these first digits, with so many to come. -/
def begins (n m : Nat) : Bool := decide (n * 10 ^ m < 32 ∨ (126 < n * 10 ^ m + 10 ^ m - 1 ∧ n * 10 ^ m ≤ 255))
/-- A byte's number, so many digits to come. -/
def pNum (s : ByteArray) : Nat → Nat → Nat → Except Nat (UInt8 × Nat)
  | 0, k, n => .ok (UInt8.ofNat n, k)
  | m + 1, k, n => if decide (k < s.size) && digB (s.get! k).toNat then (if begins (n * 10 + ((s.get! k).toNat - 48)) m then pNum s m (k + 1) (n * 10 + ((s.get! k).toNat - 48)) else .error k) else .error k
/-- What stands behind a backslash. -/
def pEsc (s : ByteArray) (k : Nat) : Except Nat (UInt8 × Nat) := if seesB s k 34 || seesB s k 92 then .ok (s.get! k, k + 1) else pNum s 3 k 0
/-- Whether a byte stands for itself. -/
def plainB (s : ByteArray) (k : Nat) : Bool := decide (k < s.size) && (decide (32 ≤ (s.get! k).toNat) && decide ((s.get! k).toNat ≤ 126))
/-- A byte of a leaf's text. -/
def pByte (s : ByteArray) (k : Nat) : Except Nat (UInt8 × Nat) := if seesB s k 92 then pEsc s (k + 1) else if plainB s k then .ok (s.get! k, k + 1) else .error k
/-- A leaf's text, behind the first quote. -/
def pText (s : ByteArray) : Nat → Nat → List UInt8 → Except Nat (ByteArray × Nat)
  | 0, k, _ => .error k
  | f + 1, k, x => if seesB s k 34 then .ok (⟨x.toArray⟩, k + 1) else match pByte s k with
    | .error j => .error j
    | .ok r => pText s f r.2 (x ++ [r.1])
/-- A leaf. -/
def pLeaf (s : ByteArray) (k : Nat) : Except Nat (Tr × Nat) := match pName s k with
  | .error j => .error j
  | .ok r => if seesB s r.2 34 then (match pText s (s.size + 1 - r.2) (r.2 + 1) [] with
    | .error j => .error j
    | .ok q => .ok (⟨r.1, q.1, true, []⟩, q.2)) else .error r.2
/-- Kids, from behind the name or a Kid on, up to the bracket. -/
def pKids (pT : Nat → Except Nat (Tr × Nat)) (s : ByteArray) : Nat → Nat → List Tr → Except Nat (List Tr × Nat)
  | 0, k, _ => .error k
  | f + 1, k, l => if seesB s (skip s k) 41 then .ok (l, skip s k)
    else if skip s k = k ∧ ¬ (l = [] ∧ seesB s k 40 = true) then .error k
    else match pT (skip s k) with
      | .error j => .error j
      | .ok r => pKids pT s f r.2 (l ++ [r.1])
/-- A tree, at most so deep. -/
def pTree (s : ByteArray) : Nat → Nat → Except Nat (Tr × Nat)
  | 0, k => .error k
  | d + 1, k => if seesB s k 40 then (match pName s (skip s (k + 1)) with
    | .error j => .error j
    | .ok r => match pKids (pTree s d) s (s.size + 1 - r.2) r.2 [] with
      | .error j => .error j
      | .ok q => .ok (⟨r.1, ByteArray.empty, false, q.1⟩, q.2 + 1)) else pLeaf s k
/-- All of a text. -/
def pAll (s : ByteArray) : Except Nat Tr := match pTree s (s.size + 1) (skip s 0) with
  | .error j => .error j
  | .ok r => if skip s r.2 < s.size then .error (skip s r.2) else .ok r.1

/-- What is read ends behind where it began, and in the text; a fault is in the text or at its end. -/
def Fits (s : ByteArray) (k : Nat) {α : Type} (r : Except Nat (α × Nat)) : Prop := match r with
  | .error j => k ≤ j ∧ j ≤ s.size
  | .ok a => k < a.2 ∧ a.2 ≤ s.size
theorem pName_fits {s : ByteArray} {k : Nat} (h : k ≤ s.size) : Fits s k (pName s k) := by
  unfold pName
  split
  · rename_i hb
    simp at hb
    exact ⟨nmEnd_pos hb.1 hb.2, (nmEnd_le 24 k h).2.1⟩
  · exact ⟨Nat.le_refl _, h⟩
theorem pNum_fits {s : ByteArray} : ∀ (m k n k0 : Nat), k0 ≤ k → k ≤ s.size → (0 < m ∨ k0 < k) → Fits s k0 (pNum s m k n)
  | 0, k, n, k0, h0, h, hp => ⟨by rcases hp with h | h; exact absurd h (Nat.not_lt_zero _); exact h, h⟩
  | m + 1, k, n, k0, h0, h, hp => by
    rw [pNum]
    split
    · rename_i hb
      simp at hb
      split
      · exact pNum_fits m (k + 1) _ k0 (by omega) hb.1 (.inr (by omega))
      · exact ⟨h0, h⟩
    · exact ⟨h0, h⟩
theorem Fits.low {s : ByteArray} {k k' : Nat} {α : Type} {r : Except Nat (α × Nat)} (h : Fits s k r) (hk : k' ≤ k) : Fits s k' r := by
  cases r with
  | error j => exact ⟨by have := h.1; omega, h.2⟩
  | ok a => exact ⟨by have := h.1; omega, h.2⟩
theorem pByte_fits {s : ByteArray} {k : Nat} (h : k ≤ s.size) : Fits s k (pByte s k) := by
  unfold pByte
  split
  · rename_i hb
    have hlt := seesB_lt hb
    refine Fits.low (k := k + 1) ?_ (by omega)
    unfold pEsc
    split
    · rename_i he
      have : k + 1 < s.size := by
        rcases (Bool.or_eq_true _ _).mp he with h | h
        · exact seesB_lt h
        · exact seesB_lt h
      exact ⟨Nat.lt_succ_self _, this⟩
    · exact pNum_fits 3 (k + 1) 0 (k + 1) (Nat.le_refl _) hlt (.inl (by omega))
  · split
    · rename_i hp
      unfold plainB at hp
      simp at hp
      exact ⟨Nat.lt_succ_self _, hp.1⟩
    · exact ⟨Nat.le_refl _, h⟩
theorem pText_fits {s : ByteArray} : ∀ (f k : Nat) (x : List UInt8), k ≤ s.size → Fits s k (pText s f k x)
  | 0, k, x, h => ⟨Nat.le_refl _, h⟩
  | f + 1, k, x, h => by
    rw [pText]
    split
    · rename_i hb
      exact ⟨Nat.lt_succ_self _, seesB_lt hb⟩
    · have hf := pByte_fits h
      cases hr : pByte s k with
      | error j => rw [hr] at hf; exact hf
      | ok r =>
        rw [hr] at hf
        exact (pText_fits f r.2 _ hf.2).low (Nat.le_of_lt hf.1)
theorem pLeaf_fits {s : ByteArray} {k : Nat} (h : k ≤ s.size) : Fits s k (pLeaf s k) := by
  unfold pLeaf
  have hf := pName_fits h
  cases hr : pName s k with
  | error j => rw [hr] at hf; exact hf
  | ok r =>
    rw [hr] at hf
    dsimp only
    split
    · rename_i hb
      have ht := pText_fits (s.size + 1 - r.2) (r.2 + 1) [] (seesB_lt hb)
      cases hq : pText s (s.size + 1 - r.2) (r.2 + 1) [] with
      | error j => rw [hq] at ht; exact ⟨by have := ht.1; have := hf.1; omega, ht.2⟩
      | ok q => rw [hq] at ht; exact ⟨by have := ht.1; have := hf.1; dsimp only; omega, ht.2⟩
    · exact ⟨Nat.le_of_lt hf.1, hf.2⟩
/-- .. of Kids. -/
def KFits (s : ByteArray) (k : Nat) (r : Except Nat (List Tr × Nat)) : Prop := match r with
  | .error j => k ≤ j ∧ j ≤ s.size
  | .ok q => k ≤ q.2 ∧ seesB s q.2 41 = true
theorem pKids_fits {pT : Nat → Except Nat (Tr × Nat)} {s : ByteArray} (hT : ∀ k, k ≤ s.size → Fits s k (pT k)) : ∀ (f k : Nat) (l : List Tr), k ≤ s.size → KFits s k (pKids pT s f k l)
  | 0, k, l, h => ⟨Nat.le_refl _, h⟩
  | f + 1, k, l, h => by
    have hs := skip_le h
    rw [pKids]
    split
    · rename_i hb
      exact ⟨hs.1, hb⟩
    · split
      · exact ⟨Nat.le_refl _, h⟩
      · have hf := hT (skip s k) hs.2
        cases hr : pT (skip s k) with
        | error j => rw [hr] at hf; exact ⟨by have := hf.1; omega, hf.2⟩
        | ok r =>
          rw [hr] at hf
          have := pKids_fits hT f r.2 (l ++ [r.1]) hf.2
          dsimp only
          cases hq : pKids pT s f r.2 (l ++ [r.1]) with
          | error j => rw [hq] at this; exact ⟨by have := this.1; have := hf.1; omega, this.2⟩
          | ok q => rw [hq] at this; exact ⟨by have := this.1; have := hf.1; omega, this.2⟩
theorem pTree_fits {s : ByteArray} : ∀ (d k : Nat), k ≤ s.size → Fits s k (pTree s d k)
  | 0, k, h => ⟨Nat.le_refl _, h⟩
  | d + 1, k, h => by
    rw [pTree]
    split
    · rename_i hb
      have hs := skip_le (seesB_lt hb)
      have hf := pName_fits hs.2
      cases hr : pName s (skip s (k + 1)) with
      | error j => rw [hr] at hf; exact ⟨by have := hf.1; omega, hf.2⟩
      | ok r =>
        rw [hr] at hf
        have hk := pKids_fits (fun k hk => pTree_fits d k hk) (s.size + 1 - r.2) r.2 [] hf.2
        dsimp only
        cases hq : pKids (pTree s d) s (s.size + 1 - r.2) r.2 [] with
        | error j => rw [hq] at hk; exact ⟨by have := hk.1; have := hf.1; omega, hk.2⟩
        | ok q => rw [hq] at hk; exact ⟨by have := hk.1; have := hf.1; dsimp only; omega, seesB_lt hk.2⟩
    · exact pLeaf_fits h
end Go.Proofs.Ythmdoplickpmaai
