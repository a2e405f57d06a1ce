import Derived.Test.YtanbdfeoijflaaaDoorMi
/-! Reading a program: what digits are taken. -/
namespace Go.Proofs.YtanbdfeoijflaaaDoor
open Go.RowKit Go.Deep
set_option linter.unusedVariables false
set_option linter.unusedSimpArgs false

theorem ofNat_dig {d : Nat} (h : d < 10) : (UInt8.ofNat (48 + d)).toNat = 48 + d := by
  rw [UInt8.toNat_ofNat']
  omega
theorem dec_facts : ∀ m : Nat, (∀ b ∈ Lib.decDigits m, digB (b.toNat : Int) = true) ∧ Lib.decDigits m ≠ [] ∧ (1 ≤ m → (Lib.decDigits m).head? ≠ some 48) ∧ vlN (Lib.decDigits m) = m := by
  intro m
  induction m using Nat.strongRecOn with
  | ind m ih =>
    by_cases h : m < 10
    · rw [dec_small h]
      have e := ofNat_dig h
      refine ⟨fun b hb => ?_, by simp, fun h1 => ?_, ?_⟩
      · have hb2 : b = UInt8.ofNat (48 + m) := by simpa using hb
        rw [hb2, e]
        unfold digB
        simp
        omega
      · intro h2
        have h3 : UInt8.ofNat (48 + m) = 48 := by simpa using h2
        rw [h3] at e
        have h4 : (48 : UInt8).toNat = 48 := rfl
        omega
      · simp only [vlN, vlA, List.foldl_cons, List.foldl_nil, e]
        omega
    · rw [dec_big h]
      have e := ofNat_dig (Nat.mod_lt m (by decide : 0 < 10))
      obtain ⟨i1, i2, i3, i4⟩ := ih (m / 10) (by omega)
      refine ⟨fun b hb => ?_, by simp, fun h1 => ?_, ?_⟩
      · rcases List.mem_append.1 hb with hb | hb
        · exact i1 b hb
        · have hb2 : b = UInt8.ofNat (48 + m % 10) := by simpa using hb
          rw [hb2, e]
          unfold digB
          simp
          omega
      · have h2 := i3 (by omega)
        cases hd : Lib.decDigits (m / 10) with
        | nil => exact absurd hd i2
        | cons c r =>
          rw [hd] at h2
          simpa using h2
      · rw [vl_snoc, i4, e]
        omega
theorem dec_short : ∀ (k m : Nat), m < 10 ^ (k + 1) → (Lib.decDigits m).length ≤ k + 1 := by
  intro k
  induction k with
  | zero =>
    intro m h
    rw [dec_small (by simpa using h)]
    simp
  | succ k ih =>
    intro m h
    by_cases h1 : m < 10
    · rw [dec_small h1]
      simp
    · rw [dec_big h1, List.length_append, List.length_singleton]
      have h2 : m / 10 < 10 ^ (k + 1) := by
        rw [Nat.pow_succ] at h
        omega
      have := ih (m / 10) h2
      omega
theorem dec_numB {m : Nat} (h : m ≤ 999999) : numB (bs (Lib.decDigits m)) = true := by
  obtain ⟨h1, h2, h3, h4⟩ := dec_facts m
  have h5 := dec_short 5 m (by omega)
  have hsz := bs_size (Lib.decDigits m)
  have hl : 1 ≤ (Lib.decDigits m).length := by
    cases hd : Lib.decDigits m with
    | nil => exact absurd hd h2
    | cons c r => simp
  have hal : alB digB (bs (Lib.decDigits m)) = true := alB_iff.2 fun j hj => by
    have hj2 : j < (Lib.decDigits m).length := by rw [← hsz]; exact hj
    rw [bs_get _ j hj2 hj]
    exact h1 _ (List.getElem_mem hj2)
  by_cases hone : (Lib.decDigits m).length = 1
  · rw [numB_one (by rw [hsz]; exact hone)]
    exact hal
  · have hm : 1 ≤ m := by
      apply Decidable.byContradiction
      intro hn
      have e : m = 0 := by omega
      subst e
      exact hone (by rw [dec_small (by decide)]; rfl)
    have hlt : 0 < (bs (Lib.decDigits m)).size := by rw [hsz]; omega
    rw [numB_some (by omega) (by omega) (by
      rw [bs_get _ 0 (by omega) hlt]
      intro e
      have e2 : (Lib.decDigits m)[0] = 48 := UInt8.toNat_inj.1 (by show _ = 48; omega)
      refine h3 hm ?_
      rw [List.head?_eq_getElem?, List.getElem?_eq_getElem (by omega)]
      exact congrArg some e2)]
    exact hal
end Go.Proofs.YtanbdfeoijflaaaDoor
