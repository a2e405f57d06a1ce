import Derived.Test.YthmdoplickpmaaaPut
namespace Go.Proofs.Ythmdoplickpmaaa
open Go.RowKit Go.Deep Go.Lib
set_option linter.unusedVariables false
set_option maxRecDepth 100000
set_option linter.unusedSimpArgs false

theorem kid_cnt (t : Tr) (i : Nat) (h : i < t.kids.length) : t.kids[i].cnt ≤ t.cnt ∧ t.kids[i].deep ≤ t.deep := by
  cases t with
  | mk n x l k =>
    rw [Tr.cnt_mk, Tr.deep_mk]
    dsimp only at h ⊢
    have h1 := Tr.cntL_take_succ k i h
    have h2 := Tr.cntL_take_le k (i + 1)
    have h3 := Tr.deepL_take_succ k i h
    have h4 := Tr.deepL_take_le k (i + 1)
    omega
theorem kid_ok {t s : Tr} {i : Int} (ht : t.ok = true) (h : kidAt t i = some s) : s.ok = true := by
  have hr := kidAt_right (ok_right ht).1 h
  obtain ⟨ii, rfl, hi, rfl⟩ := kidAt_in h
  have h1 := kid_cnt t ii hi
  have h2 := (ok_right ht).2
  unfold Tr.ok
  simp [hr]
  omega
theorem walk_ok : ∀ (l : List Int) {t s : Tr}, t.ok = true → walkAt l t = some s → s.ok = true
  | [], t, s, ht, h => by cases h; exact ht
  | i :: r, t, s, ht, h => by
    obtain ⟨u, hu, hs⟩ := Option.bind_eq_some_iff.1 h
    exact walk_ok r (kid_ok ht hu) hs
theorem kidAt_set {t s' : Tr} {ii : Nat} (h : ii < t.kids.length) : kidAt (setKid t ii s') ii = some s' := by
  have : ii < (setKid t ii s').kids.length := by simp [setKid, h]
  rw [kidAt_yes this]
  simp [setKid]
theorem walk_put : ∀ (l : List Int) {t u o : Tr}, putAt l t u = some o → walkAt l o = some u
  | [], t, u, o, h => by cases h; rfl
  | i :: r, t, u, o, h => by
    obtain ⟨s, hs, h⟩ := Option.bind_eq_some_iff.1 h
    obtain ⟨s', hs', rfl⟩ := Option.map_eq_some_iff.1 h
    obtain ⟨ii, rfl, hi, rfl⟩ := kidAt_in hs
    show (kidAt (setKid t ((ii : Int)).toNat s') ii).bind (walkAt r) = some u
    rw [show ((ii : Int)).toNat = ii by omega, kidAt_set hi]
    exact walk_put r hs'
theorem set_back (t : Tr) (ii : Nat) (s' : Tr) (h : ii < t.kids.length) : setKid (setKid t ii s') ii t.kids[ii] = t := by
  cases t with
  | mk n x l k =>
    dsimp only at h
    simp only [setKid, List.set_set, List.set_getElem_self]
theorem put_back : ∀ (l : List Int) {t u o x : Tr}, putAt l t u = some o → walkAt l t = some x → putAt l o x = some t
  | [], t, u, o, x, h, h' => by cases h'; rfl
  | i :: r, t, u, o, x, h, h' => by
    obtain ⟨s, hs, h⟩ := Option.bind_eq_some_iff.1 h
    obtain ⟨s', hs', rfl⟩ := Option.map_eq_some_iff.1 h
    obtain ⟨s2, hs2, h'⟩ := Option.bind_eq_some_iff.1 h'
    rw [hs] at hs2
    cases hs2
    obtain ⟨ii, rfl, hi, rfl⟩ := kidAt_in hs
    have e : ((ii : Int)).toNat = ii := by omega
    show (kidAt (setKid t ((ii : Int)).toNat s') ii).bind (fun s => (putAt r s x).map (setKid (setKid t ((ii : Int)).toNat s') ((ii : Int)).toNat)) = some t
    rw [e, kidAt_set hi]
    show (putAt r s' x).map _ = some t
    rw [put_back r hs' h']
    show some (setKid (setKid t ii s') ii t.kids[ii]) = some t
    rw [set_back t ii s' hi]
theorem put_kids {l : List Int} {t u o : Tr} {i : Int} {r : List Int} (hl : l = i :: r) (h : putAt l t u = some o) : o.kids.length = t.kids.length ∧ ∀ j : Nat, (j : Int) ≠ i → nth o.kids j = nth t.kids j := by
  subst hl
  obtain ⟨s, hs, h⟩ := Option.bind_eq_some_iff.1 h
  obtain ⟨s', hs', rfl⟩ := Option.map_eq_some_iff.1 h
  obtain ⟨ii, rfl, hi, rfl⟩ := kidAt_in hs
  refine ⟨by simp [setKid], fun j hj => ?_⟩
  have hne : ii ≠ j := by omega
  have e : ((ii : Int)).toNat = ii := by omega
  simp only [setKid, nth]
  rw [e, List.getElem?_set_ne hne]
theorem atR_one {t : Tr} {j : Nat} (h : t.ok = true) (hj : j < t.kids.length) : atR t [(j : Int)] = (nth t.kids j, 0) := by
  refine atR_yes h ?_
  show (kidAt t j).bind (walkAt []) = _
  rw [kidAt_yes hj, nth_eq hj]
  rfl
theorem putR_ok {t u : Tr} {l : List Int} {o : Tr} (h : putR t l u = (o, 0)) : t.ok = true ∧ u.ok = true ∧ putAt l t u = some o ∧ o.ok = true := by
  unfold putR at h
  split at h
  · rename_i hk
    simp at hk
    split at h
    · rename_i o' ho
      split at h
      · rename_i hok
        cases h
        exact ⟨hk.1, hk.2, ho, hok⟩
      · cases h
    · cases h
  · cases h
theorem putR_snd {t u : Tr} {l : List Int} : (putR t l u).2 = 0 ∨ (putR t l u).2 = 1 ∨ (putR t l u).2 = 3 ∨ (putR t l u).2 = 4 := by
  unfold putR
  split
  · split
    · split <;> simp
    · simp
  · simp
end Go.Proofs.Ythmdoplickpmaaa
