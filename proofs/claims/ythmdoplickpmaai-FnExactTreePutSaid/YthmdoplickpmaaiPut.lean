import Derived.Test.YthmdoplickpmaaiAt3
namespace Go.Proofs.Ythmdoplickpmaai
open Go.RowKit Go.Deep Go.Lib
set_option linter.unusedVariables false
set_option maxRecDepth 100000
set_option linter.unusedSimpArgs false

/-- A tree with another Kid at a place. -/
def setKid (t : Tr) (i : Nat) (s : Tr) : Tr := ⟨t.name, t.text, t.leaf, t.kids.set i s⟩
/-- A tree with another tree at a path. -/
def putAt : List Int → Tr → Tr → Option Tr
  | [], _, u => some u
  | i :: r, t, u => (kidAt t i).bind fun s => (putAt r s u).map (setKid t i.toNat)
theorem putAt_some : ∀ (l : List Int) (t u : Tr), (putAt l t u).isSome = (walkAt l t).isSome
  | [], _, _ => rfl
  | i :: r, t, u => by
    show ((kidAt t i).bind fun s => (putAt r s u).map (setKid t i.toNat)).isSome = ((kidAt t i).bind (walkAt r)).isSome
    cases kidAt t i with
    | none => rfl
    | some s =>
      show ((putAt r s u).map (setKid t i.toNat)).isSome = _
      rw [Option.isSome_map]
      exact putAt_some r s u
theorem wtL_set (k : List Tr) : ∀ (i : Nat) (s : Tr) (h : i < k.length), Tr.wtL (k.set i s) + k[i].wt = Tr.wtL k + s.wt := by
  induction k with
  | nil => intro i s h; simp at h
  | cons t r ih =>
    intro i s h
    cases i with
    | zero => simp [Tr.wtL]; omega
    | succ i =>
      have := ih i s (by simpa using h)
      simp [Tr.wtL] at this ⊢
      omega
theorem putAt_wt : ∀ (l : List Int) {t u o : Tr}, putAt l t u = some o → o.wt ≤ t.wt + u.wt
  | [], t, u, o, h => by cases h; omega
  | i :: r, t, u, o, h => by
    obtain ⟨s, hs, h⟩ := Option.bind_eq_some_iff.1 h
    obtain ⟨s', hs', rfl⟩ := Option.map_eq_some_iff.1 h
    have h1 := putAt_wt r hs'
    unfold kidAt at hs
    split at hs
    · rename_i hi
      cases hs
      have hlt : i.toNat < t.kids.length := by omega
      have h2 := wtL_set t.kids i.toNat s' hlt
      rw [nth_eq hlt] at h1
      rw [wt_kids, wt_kids t]
      simp only [setKid, List.length_set]
      omega
    · cases hs
theorem putAt_right : ∀ (l : List Int) {t u o : Tr}, t.right = true → u.right = true → putAt l t u = some o → o.right = true
  | [], t, u, o, _, hu, h => by cases h; exact hu
  | i :: r, t, u, o, ht, hu, h => by
    obtain ⟨s, hs, h⟩ := Option.bind_eq_some_iff.1 h
    obtain ⟨s', hs', rfl⟩ := Option.map_eq_some_iff.1 h
    have h1 := putAt_right r (kidAt_right ht hs) hu hs'
    cases t with
    | mk n x l k =>
      show Tr.right ⟨n, x, l, k.set i.toNat s'⟩ = true
      rw [Tr.right_mk] at ht ⊢
      simp [Tr.rightL] at ht ⊢
      refine ⟨ht.1, fun y hy => ?_⟩
      rcases List.mem_or_eq_of_mem_set hy with h | h
      · exact ht.2 y h
      · rw [h]; exact h1
/-- What TreePut comes to. -/
def putR (t : Tr) (l : List Int) (u : Tr) : Tr × Int := if t.ok && u.ok then match putAt l t u with | some o => if o.ok then (o, 0) else (zt, 3) | none => (zt, 4) else (zt, 1)
theorem putR_bad {t u : Tr} {l : List Int} (h : t.ok = false ∨ u.ok = false) : putR t l u = (zt, 1) := by
  unfold putR
  rcases h with h | h <;> rw [h] <;> simp
theorem putR_place {t u : Tr} {l : List Int} (h : t.ok = true) (h1 : u.ok = true) (h' : putAt l t u = none) : putR t l u = (zt, 4) := by unfold putR; rw [h, h1, h']; rfl
theorem putR_full {t u o : Tr} {l : List Int} (h : t.ok = true) (h1 : u.ok = true) (h' : putAt l t u = some o) (ho : o.ok = false) : putR t l u = (zt, 3) := by unfold putR; rw [h, h1, h']; simp [ho]
theorem putR_yes {t u o : Tr} {l : List Int} (h : t.ok = true) (h1 : u.ok = true) (h' : putAt l t u = some o) (ho : o.ok = true) : putR t l u = (o, 0) := by unfold putR; rw [h, h1, h']; simp [ho]
theorem putR_wt (t : Tr) (l : List Int) (u : Tr) : (putR t l u).1.wt ≤ t.wt + u.wt := by
  have hz : zt.wt = 0 := by unfold zt; rw [Tr.wt_mk]; rfl
  cases h : t.ok
  · rw [putR_bad (.inl h)]; dsimp only; omega
  · cases h1 : u.ok
    · rw [putR_bad (.inr h1)]; dsimp only; omega
    · cases h' : putAt l t u with
      | none => rw [putR_place h h1 h']; dsimp only; omega
      | some o =>
        cases ho : o.ok
        · rw [putR_full h h1 h' ho]; dsimp only; omega
        · rw [putR_yes h h1 h' ho]; exact putAt_wt l h'
theorem kidAt_in {t s : Tr} {i : Int} (h : kidAt t i = some s) : ∃ ii : Nat, i = ii ∧ ∃ hi : ii < t.kids.length, t.kids[ii] = s := by
  unfold kidAt at h
  split at h
  · rename_i hi
    cases h
    have hlt : i.toNat < t.kids.length := by omega
    exact ⟨i.toNat, by omega, hlt, (nth_eq hlt).symm⟩
  · cases h
theorem kidAt_out {t : Tr} {i : Int} (h : kidAt t i = none) : i < 0 ∨ (t.kids.length : Int) ≤ i := by
  apply Decidable.byContradiction
  intro hn
  unfold kidAt at h
  rw [if_pos (by omega)] at h
  cases h
end Go.Proofs.Ythmdoplickpmaai
