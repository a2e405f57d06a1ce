import Derived.Test.YtanbdfeoijflaaaDoorMh
/-! Reading a program: a number is its own text. -/
namespace Go.Proofs.YtanbdfeoijflaaaDoor
open Go.RowKit Go.Deep
set_option linter.unusedVariables false
set_option linter.unusedSimpArgs false

theorem vl_snoc (y : List UInt8) (b : UInt8) : vlN (y ++ [b]) = vlN y * 10 + (b.toNat - 48) := by simp [vlN, vlA]
theorem dig_rng {b : UInt8} (h : digB (b.toNat : Int) = true) : 48 ≤ b.toNat ∧ b.toNat ≤ 57 := by
  unfold digB at h
  simp at h
  omega
theorem dig_back {b : UInt8} (h : digB (b.toNat : Int) = true) : UInt8.ofNat (48 + (b.toNat - 48)) = b := by
  have h2 := dig_rng h
  rw [show 48 + (b.toNat - 48) = b.toNat by omega]
  exact UInt8.ofNat_toNat
theorem dec_one {b : UInt8} (h : digB (b.toNat : Int) = true) : Lib.decDigits (vlN [b]) = [b] := by
  have h2 := dig_rng h
  have e : vlN [b] = b.toNat - 48 := by simp [vlN, vlA]
  rw [e, dec_small (by omega), dig_back h]
theorem dec_all (m : Nat) : ∀ x : List UInt8, x.length = m → x ≠ [] → (∀ b ∈ x, digB (b.toNat : Int) = true) → x.head? ≠ some 48 → 1 ≤ vlN x ∧ Lib.decDigits (vlN x) = x := by
  induction m with
  | zero => intro x h0 hne; exact absurd (List.length_eq_zero_iff.1 h0) hne
  | succ m ih =>
    intro x hx hne hd hh
    obtain ⟨y, b, rfl⟩ : ∃ y b, x = y ++ [b] := ⟨x.dropLast, x.getLast hne, (List.dropLast_concat_getLast hne).symm⟩
    have hb := hd b (by simp)
    have hbr := dig_rng hb
    by_cases hy : y = []
    · subst hy
      refine ⟨?_, dec_one hb⟩
      have e : vlN [b] = b.toNat - 48 := by simp [vlN, vlA]
      have h8 : b.toNat ≠ 48 := fun e => hh (by
        have : b = 48 := UInt8.toNat_inj.1 e
        rw [this]
        rfl)
      show 1 ≤ vlN [b]
      omega
    · have hl : y.length = m := by simpa using hx
      obtain ⟨h1, h2⟩ := ih y hl hy (fun c hc => hd c (by simp [hc])) (by
        cases y with
        | nil => exact absurd rfl hy
        | cons c y => simpa using hh)
      rw [vl_snoc]
      refine ⟨by omega, ?_⟩
      rw [dec_big (by omega), show (vlN y * 10 + (b.toNat - 48)) / 10 = vlN y by omega, show 48 + (vlN y * 10 + (b.toNat - 48)) % 10 = 48 + (b.toNat - 48) by omega, h2, dig_back hb]
theorem numB_text {x : List UInt8} (h : numB (bs x) = true) : Lib.decDigits (vlN x) = x := by
  obtain ⟨⟨h1, h6⟩, hd⟩ := numB_dig h
  by_cases h0 : x.head? = some 48
  · have hl : x.length = 1 := by
      apply Decidable.byContradiction
      intro hn
      cases x with
      | nil => simp at h1
      | cons b r =>
        have hb : b = 48 := by simpa using h0
        have hlt : 0 < (bs (b :: r)).size := by rw [bs_size]; simp
        rw [numB_zero (by rw [bs_size]; omega) (by rw [bs_get (b :: r) 0 (by simp) hlt]; rw [hb]; rfl)] at h
        cases h
    cases x with
    | nil => simp at h1
    | cons b r =>
      have hr : r = [] := by simpa using hl
      subst hr
      exact dec_one (hd b (by simp))
  · exact (dec_all _ x rfl (by intro e; subst e; simp at h1) hd h0).2
end Go.Proofs.YtanbdfeoijflaaaDoor
