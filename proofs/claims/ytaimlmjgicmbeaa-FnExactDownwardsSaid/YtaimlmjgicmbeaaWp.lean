import Derived.Test.YtaimlmjgicmbeaaYb
/-! Derivations from below: plain mathematics. -/
namespace Go.Proofs.Ytaimlmjgicmbeaa
open Go.RowKit Go.Deep
set_option linter.unusedVariables false
set_option maxRecDepth 100000
set_option linter.unusedSimpArgs false

/-- The places of the Nons among symbols, from a place on. -/
def kpk (T : Nat) (r : Int → Nat → Option Nat) : List Int → Nat → List Nat
  | [], _ => []
  | s :: ss, a => if s < (T : Int) then kpk T r ss a else a :: kpk T r ss ((r s a).getD 0)
/-- A derivation from below. -/
def up (d : Bn) (L : List Int) : Nat → Nat → List Int
  | 0, _ => []
  | f + 1, a => (kpk d.terms.length (rd d L f) (pa d L a).right (a + 1)).flatMap (up d L f) ++ [numAt L a]
/-- .. of the first i symbols' Nons. -/
def ukp (d : Bn) (L : List Int) (f a i : Nat) : List Nat := kpk d.terms.length (rd d L f) ((pa d L a).right.take i) (a + 1)
/-- .. of all. -/
def ukA (d : Bn) (L : List Int) (f a : Nat) : List Nat := kpk d.terms.length (rd d L f) (pa d L a).right (a + 1)
theorem up_succ (d : Bn) (L : List Int) (f a : Nat) : up d L (f + 1) a = (ukA d L f a).flatMap (up d L f) ++ [numAt L a] := rfl
theorem kpk_append (T : Nat) (r : Int → Nat → Option Nat) (xs ys : List Int) : ∀ (a b : Nat), rdk T r xs a = some b → kpk T r (xs ++ ys) a = kpk T r xs a ++ kpk T r ys b := by
  induction xs with
  | nil =>
    intro a b h
    simp only [rdk, Option.some.injEq] at h
    subst h
    rfl
  | cons s xs ih =>
    intro a b h
    simp only [rdk] at h
    simp only [List.cons_append, kpk]
    split at h
    · rename_i hs
      rw [if_pos hs, if_pos hs, ih a b h]
    · rename_i hs
      rw [if_neg hs, if_neg hs]
      cases e : r s a with
      | none => rw [e] at h; cases h
      | some c =>
        rw [e] at h
        simp only [Option.getD_some]
        rw [ih c b h, List.cons_append]
theorem ukp_zero (d : Bn) (L : List Int) (f a : Nat) : ukp d L f a 0 = [] := rfl
theorem ukp_succ {d : Bn} {L : List Int} {f a i x : Nat} (hi : i < (pa d L a).right.length) (hx : atP d L f a i = some x) : ukp d L f a (i + 1) = ukp d L f a i ++ (if (pa d L a).right[i] < (d.terms.length : Int) then [] else [x]) := by
  unfold ukp
  rw [List.take_succ_eq_append_getElem hi, kpk_append _ _ _ _ _ x hx]
  congr 1
theorem ukp_all (d : Bn) (L : List Int) (f a : Nat) : ukp d L f a (pa d L a).right.length = ukA d L f a := by
  unfold ukp ukA
  rw [List.take_length]
theorem kpk_len (T : Nat) (r : Int → Nat → Option Nat) (ss : List Int) : ∀ a, (kpk T r ss a).length = cn T ss := by
  induction ss with
  | nil => intro a; rfl
  | cons s ss ih =>
    intro a
    simp only [kpk]
    unfold cn
    by_cases h : s < (T : Int)
    · rw [if_pos h, ih, List.countP_cons_of_neg (by simpa using h)]
      rfl
    · rw [if_neg h, List.length_cons, ih, List.countP_cons_of_pos (by simpa using h)]
      rfl
/-- Each of these places stands for a symbol. -/
theorem kpk_inv (T : Nat) (r : Int → Nat → Option Nat) (ss : List Int) : ∀ (a b m : Nat), rdk T r ss a = some b → m < (kpk T r ss a).length → ∃ (i : Nat) (hi : i < ss.length) (x : Nat), ¬ ss[i] < (T : Int) ∧ cn T (ss.take i) = m ∧ rdk T r (ss.take i) a = some x ∧ (kpk T r ss a)[m]? = some x := by
  induction ss with
  | nil => intro a b m h hm; exact absurd hm (Nat.not_lt_zero _)
  | cons s ss ih =>
    intro a b m h hm
    simp only [rdk] at h
    simp only [kpk] at hm ⊢
    by_cases hs : s < (T : Int)
    · rw [if_pos hs] at h hm ⊢
      obtain ⟨i, hi, x, h1, h2, h3, h4⟩ := ih a b m h hm
      refine ⟨i + 1, by simp; omega, x, by simpa using h1, ?_, ?_, h4⟩
      · rw [List.take_succ_cons]
        unfold cn at h2 ⊢
        rw [List.countP_cons_of_neg (by simpa using hs)]
        exact h2
      · rw [List.take_succ_cons]
        simp only [rdk]
        rw [if_pos hs]
        exact h3
    · rw [if_neg hs] at h hm ⊢
      cases m with
      | zero => exact ⟨0, by simp, a, hs, rfl, rfl, rfl⟩
      | succ m =>
        cases e : r s a with
        | none => simp [e] at h
        | some c =>
          simp only [e, Option.bind_some, Option.getD_some, List.length_cons] at h hm ⊢
          obtain ⟨i, hi, x, h1, h2, h3, h4⟩ := ih c b m h (by omega)
          refine ⟨i + 1, by simp; omega, x, by simpa using h1, ?_, ?_, by simpa using h4⟩
          · rw [List.take_succ_cons]
            unfold cn at h2 ⊢
            rw [List.countP_cons_of_pos (by simpa using hs), h2]
          · rw [List.take_succ_cons]
            simp only [rdk]
            rw [if_neg hs, e]
            exact h3
/-- How long it is. -/
theorem kpk_sum {T : Nat} {r : Int → Nat → Option Nat} {g : Nat → List Int} (hr : ∀ s a b, r s a = some b → a < b ∧ (g a).length = b - a) (ss : List Int) : ∀ (a b : Nat), rdk T r ss a = some b → a ≤ b ∧ ((kpk T r ss a).flatMap g).length = b - a := by
  induction ss with
  | nil =>
    intro a b h
    simp only [rdk, Option.some.injEq] at h
    subst h
    exact ⟨Nat.le_refl _, by simp [kpk]⟩
  | cons s ss ih =>
    intro a b h
    simp only [rdk] at h
    simp only [kpk]
    split at h
    · rename_i hs
      rw [if_pos hs]
      exact ih a b h
    · rename_i hs
      rw [if_neg hs]
      cases e : r s a with
      | none => rw [e] at h; cases h
      | some c =>
        rw [e] at h
        have h1 := ih c b h
        have h2 := hr s a c e
        simp only [Option.getD_some, List.flatMap_cons, List.length_append]
        omega
theorem up_len {d : Bn} {L : List Int} : ∀ (f : Nat) (s : Int) (a b : Nat), rd d L f s a = some b → (up d L f a).length = b - a := by
  intro f
  induction f with
  | zero => intro s a b h; cases h
  | succ f ih =>
    intro s a b h
    have hgt := rd_gt d L _ _ _ _ h
    obtain ⟨ho, hend⟩ := rd_succ h
    unfold atP at hend
    rw [List.take_length] at hend
    have h1 := kpk_sum (T := d.terms.length) (g := up d L f) (fun s a b e => ⟨(rd_gt d L f s a b e).1, ih s a b e⟩) (pa d L a).right (a + 1) b hend
    rw [up_succ, List.length_append]
    unfold ukA
    simp only [List.length_singleton]
    omega
theorem ukp_len {d : Bn} {L : List Int} {f a i x : Nat} (hx : atP d L f a i = some x) : a + 1 ≤ x ∧ ((ukp d L f a i).flatMap (up d L f)).length = x - (a + 1) :=
  kpk_sum (T := d.terms.length) (g := up d L f) (fun s a b e => ⟨(rd_gt d L f s a b e).1, up_len f s a b e⟩) ((pa d L a).right.take i) (a + 1) x hx
/-- What Upwards answers. -/
def upR (d : Bn) (non : Int) (L : List Int) : List Int × Int :=
  if cdR d non L.length ≠ 0 then ([], cdR d non L.length)
  else if rd d L (L.length + 1) (d.terms.length + non) 0 = some L.length then (up d L (L.length + 1) 0, 0)
  else ([], 2)
theorem upR_cd {d : Bn} {non : Int} {L : List Int} (h : cdR d non L.length ≠ 0) : upR d non L = ([], cdR d non L.length) := by
  unfold upR
  rw [if_pos h]
theorem upR_rd {d : Bn} {non : Int} {L : List Int} (h : cdR d non L.length = 0) : upR d non L = (if rd d L (L.length + 1) (d.terms.length + non) 0 = some L.length then (up d L (L.length + 1) 0, 0) else ([], 2)) := by
  unfold upR
  rw [if_neg (by omega)]
end Go.Proofs.Ytaimlmjgicmbeaa
