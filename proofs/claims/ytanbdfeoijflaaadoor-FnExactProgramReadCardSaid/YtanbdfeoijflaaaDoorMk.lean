import Derived.Test.YtanbdfeoijflaaaDoorMj
import Derived.Test.YtanbdfeoijflaaaDoorLg
/-! Reading a program: a line and its words. -/
namespace Go.Proofs.YtanbdfeoijflaaaDoor
open Go.RowKit Go.Deep
set_option linter.unusedVariables false
set_option linter.unusedSimpArgs false

theorem spl_no (c : UInt8) : ∀ a : List UInt8, c ∉ a → spl c a = [a]
  | [], _ => rfl
  | b :: a, h => by
    have h1 : ¬ b = c := fun e => h (by simp [e])
    have h2 : c ∉ a := fun e => h (List.mem_cons_of_mem _ e)
    unfold spl
    rw [if_neg h1, spl_no c a h2]
    rfl
theorem spl_at (c : UInt8) (l : List UInt8) : ∀ a : List UInt8, c ∉ a → spl c (a ++ c :: l) = a :: spl c l
  | [], _ => by
    show (if c = c then [] :: spl c l else (c :: (spl c l).headD []) :: (spl c l).tail) = _
    rw [if_pos rfl]
  | b :: a, h => by
    have h1 : ¬ b = c := fun e => h (by simp [e])
    have h2 : c ∉ a := fun e => h (List.mem_cons_of_mem _ e)
    show spl c (b :: (a ++ c :: l)) = _
    have h3 := spl_at c l a h2
    have h4 : spl c (b :: (a ++ c :: l)) = if b = c then [] :: spl c (a ++ c :: l) else (b :: (spl c (a ++ c :: l)).headD []) :: (spl c (a ++ c :: l)).tail := rfl
    rw [h4, if_neg h1, h3]
    rfl
/-- Words, joined. -/
def jn (c : UInt8) : List (List UInt8) → List UInt8
  | [] => []
  | [x] => x
  | x :: y :: r => x ++ c :: jn c (y :: r)
theorem jn_spl (c : UInt8) : ∀ s : List UInt8, jn c (spl c s) = s
  | [] => rfl
  | b :: s => by
    have ih := jn_spl c s
    have hne := spl_ne c s
    have h4 : spl c (b :: s) = if b = c then [] :: spl c s else (b :: (spl c s).headD []) :: (spl c s).tail := rfl
    rw [h4]
    cases hsp : spl c s with
    | nil => exact absurd hsp hne
    | cons x r =>
      rw [hsp] at ih
      split
      · rename_i e
        subst e
        show [] ++ b :: jn b (x :: r) = _
        rw [ih]
        rfl
      · cases r with
        | nil =>
          have ih2 : x = s := ih
          show b :: x = b :: s
          rw [ih2]
        | cons y r =>
          have ih2 : x ++ c :: jn c (y :: r) = s := ih
          show (b :: x) ++ c :: jn c (y :: r) = b :: s
          rw [← ih2]
          rfl
theorem dec_no (m : Nat) : (32 : UInt8) ∉ Lib.decDigits m := fun h => by
  have := dig_rng ((dec_facts m).1 32 h)
  have e : (32 : UInt8).toNat = 32 := rfl
  omega
theorem spl_nm (m q : Nat) : ∀ (ls : List Nat) (a : List UInt8), (32 : UInt8) ∉ a → spl 32 (a ++ nmX m q ls) = a :: ls.map fun o => Lib.decDigits (nmV m q o)
  | [], a, h => by
    have e : a ++ nmX m q [] = a := by simp [nmX]
    rw [e, spl_no 32 a h]
    rfl
  | o :: ls, a, h => by
    have e : a ++ nmX m q (o :: ls) = a ++ 32 :: (Lib.decDigits (nmV m q o) ++ nmX m q ls) := by simp [nmX]
    rw [e, spl_at 32 _ a h, spl_nm m q ls _ (dec_no _)]
    rfl
theorem rws_no (k : Nat) : (32 : UInt8) ∉ (rwS k).data.toList := by
  unfold rwS
  repeat' split
  all_goals decide
/-- The words of an instruction's line. -/
theorem spl_lnT (k m q : Nat) : spl 32 (lnT ⟨k, m, q⟩) = (rwS k).data.toList :: (nmL k).map fun o => Lib.decDigits (nmV m q o) := by
  rw [lnT_nm, spl_nm m q _ _ (rws_no k)]
/-- A line that has these words is the instruction's. -/
theorem lnT_of_spl {s : List UInt8} {k m q : Nat} (h : spl 32 s = (rwS k).data.toList :: (nmL k).map fun o => Lib.decDigits (nmV m q o)) : lnT ⟨k, m, q⟩ = s := by
  rw [← jn_spl 32 s, h, ← spl_lnT, jn_spl]
end Go.Proofs.YtanbdfeoijflaaaDoor
