import Derived.Test.YtanbdfeoijflaaaDoorMc
/-! Reading a program: what a number is. -/
namespace Go.Proofs.YtanbdfeoijflaaaDoor
open Go.RowKit Go.Deep
set_option linter.unusedVariables false
set_option maxRecDepth 100000
set_option linter.unusedSimpArgs false

/-- What digits tell. -/
def vlA (a : Nat) (x : List UInt8) : Nat := x.foldl (fun a b => a * 10 + (b.toNat - 48)) a
def vlN (x : List UInt8) : Nat := vlA 0 x
theorem dec_vl : ∀ (x : List UInt8) (a : Nat), (∀ b ∈ x, digB (b.toNat : Int) = true) → Lib.decFrom a x = some (vlA a x)
  | [], a, _ => rfl
  | b :: x, a, h => by
    have h1 := h b List.mem_cons_self
    unfold digB at h1
    have h2 : 48 ≤ b.toNat ∧ b.toNat ≤ 57 := by simp at h1; omega
    have h3 : Lib.digitVal b = some (b.toNat - 48) := by unfold Lib.digitVal; rw [if_pos h2]
    show (match Lib.digitVal b with
      | some d => Lib.decFrom (a * 10 + d) x
      | none => none) = _
    rw [h3]
    exact dec_vl x _ (fun c hc => h c (List.mem_cons_of_mem _ hc))
theorem numB_dig {x : List UInt8} (h : numB (bs x) = true) : (1 ≤ x.length ∧ x.length ≤ 6) ∧ (∀ b ∈ x, digB (b.toNat : Int) = true) := by
  have hs := bs_size x
  have h16 : 1 ≤ x.length ∧ x.length ≤ 6 := by
    apply Decidable.byContradiction
    intro hn
    rw [numB_no (by rw [hs]; exact hn)] at h
    cases h
  refine ⟨h16, fun b hb => ?_⟩
  have hal : alB digB (bs x) = true := by
    unfold numB at h
    simp only [Bool.and_eq_true] at h
    exact h.2.2.2
  obtain ⟨i, hi, rfl⟩ := List.mem_iff_getElem.1 hb
  have := alB_iff.1 hal i (by rw [hs]; exact hi)
  exact this
theorem numB_atoi {x : List UInt8} (h : numB (bs x) = true) : Lib.atoi x = some ((vlN x : Nat) : Int) ∧ vlN x ≤ 999999 := by
  obtain ⟨⟨h1, h6⟩, hd⟩ := numB_dig h
  have hv := dec_vl x 0 hd
  have hlt := Lib.decFrom_lt x 0 _ hv
  have hb : vlN x ≤ 999999 := by
    have h2 : 10 ^ x.length ≤ 10 ^ 6 := Nat.pow_le_pow_right (by decide) h6
    have h3 : vlN x < (0 + 1) * 10 ^ x.length := hlt
    omega
  refine ⟨?_, hb⟩
  cases x with
  | nil => simp at h1
  | cons b r =>
    have h4 := hd b List.mem_cons_self
    have h5 : 48 ≤ b.toNat ∧ b.toNat ≤ 57 := by unfold digB at h4; simp at h4; omega
    have n1 : (b == 45) = false := by
      rw [beq_eq_false_iff_ne]
      rintro rfl
      have := h5.1
      revert this
      decide
    have n2 : (b == 43) = false := by
      rw [beq_eq_false_iff_ne]
      rintro rfl
      have := h5.1
      revert this
      decide
    simp only [Lib.atoi, n1, n2, Bool.false_eq_true, if_false]
    have h6 : Lib.decNat (b :: r) = some (vlN (b :: r)) := by
      unfold Lib.decNat
      exact hv
    rw [h6]
    rfl
end Go.Proofs.YtanbdfeoijflaaaDoor
