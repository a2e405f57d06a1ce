import Derived.Test.YtaimlmjgicmbeaaDc
/-! Derivations: what is known of a Prod in one; a kid's place. -/
namespace Go.Proofs.Ytaimlmjgicmbeaa
open Go.RowKit Go.Deep
set_option linter.unusedVariables false
set_option linter.unusedSimpArgs false

theorem pd_of {d : Bn} (h : bnB d = true) {k : Nat} (hk : k < d.prods.length) : (d.terms.length : Int) ≤ d.prods[k].left ∧ d.prods[k].left ≤ 160 ∧ d.prods[k].right.length ≤ 12 ∧ (∀ i (hi : i < d.prods[k].right.length), 0 ≤ d.prods[k].right[i] ∧ d.prods[k].right[i] ≤ 160) ∧ 0 ≤ d.prods[k].lev ∧ d.prods[k].lev ≤ 8 := by
  have hz := szB_of h
  unfold bnB at h
  simp only [Bool.and_eq_true, List.all_eq_true] at h
  have hp := h.2.2.2 d.prods[k] (List.getElem_mem hk)
  unfold pdB at hp
  simp only [Bool.and_eq_true, List.all_eq_true, decide_eq_true_eq] at hp
  obtain ⟨h1, h2, h3, _, h5⟩ := hp
  unfold wiB at h1 h3
  unfold stB at h5
  simp only [decide_eq_true_eq] at h1 h3 h5
  refine ⟨h1.1, by omega, h2, fun i hi => ?_, by omega, by omega⟩
  have := h3 _ (List.getElem_mem hi)
  omega
theorem okAt_prod {d : Bn} {L : List Int} {s : Int} {a : Nat} (h : okAt d L s a = true) : ∃ (k : Nat) (hk : k < d.prods.length), numAt L a = (k : Int) ∧ pa d L a = d.prods[k] ∧ d.prods[k].left = s ∧ a < L.length := by
  have hl := okAt_lt h
  unfold okAt at h
  simp only [Bool.and_eq_true, decide_eq_true_eq] at h
  obtain ⟨_, h2, h3⟩ := h
  unfold wiB at h2
  simp only [decide_eq_true_eq] at h2
  have hk : (numAt L a).toNat < d.prods.length := by omega
  have e : pa d L a = d.prods[(numAt L a).toNat] := by
    unfold pa pdAt
    simp [List.getD_eq_getElem?_getD, hk]
  exact ⟨(numAt L a).toNat, hk, by omega, e, by rw [← e]; exact h3, hl⟩
theorem rd_succ {d : Bn} {L : List Int} {f : Nat} {s : Int} {a b : Nat} (h : rd d L (f + 1) s a = some b) : okAt d L s a = true ∧ atP d L f a (pa d L a).right.length = some b := by
  simp only [rd] at h
  split at h
  · rename_i ho
    exact ⟨ho, by unfold atP; rw [List.take_length]; exact h⟩
  · cases h
theorem atP_zero (d : Bn) (L : List Int) (f a : Nat) : atP d L f a 0 = some (a + 1) := rfl
theorem atP_succ (d : Bn) (L : List Int) (f a i : Nat) (hi : i < (pa d L a).right.length) : atP d L f a (i + 1) = (atP d L f a i).bind (fun b => if (pa d L a).right[i] < (d.terms.length : Int) then some b else rd d L f (pa d L a).right[i] b) := rdk_take _ _ _ _ hi _
theorem atP_none {d : Bn} {L : List Int} {f a i : Nat} (h : atP d L f a i = none) : atP d L f a (pa d L a).right.length = none := by
  unfold atP at h ⊢
  rw [List.take_length]
  exact rdk_none _ _ _ i _ h
/-- The place of a kid, and where it ends. -/
theorem kid_at {d : Bn} {L : List Int} {f a b i x : Nat} (hb : atP d L f a (pa d L a).right.length = some b) (hi : i < (pa d L a).right.length) (hx : atP d L f a i = some x) : ((pa d L a).right[i] < (d.terms.length : Int) → atP d L f a (i + 1) = some x) ∧ (¬ (pa d L a).right[i] < (d.terms.length : Int) → ∃ c, rd d L f (pa d L a).right[i] x = some c ∧ atP d L f a (i + 1) = some c) := by
  have h1 := atP_succ d L f a i hi
  rw [hx] at h1
  simp only [Option.bind_some] at h1
  constructor
  · intro h
    rw [h1, if_pos h]
  · intro h
    rw [if_neg h] at h1
    cases hc : rd d L f (pa d L a).right[i] x with
    | none =>
      rw [hc] at h1
      rw [atP_none h1] at hb
      cases hb
    | some c => exact ⟨c, rfl, by rw [h1, hc]⟩
theorem gk_drop (d : Bn) (L : List Int) (r : Int → Nat → Option Nat) (g : Nat → Bool) (p : Pd) (i a : Nat) (hi : i < p.right.length) : gk d L r g p i (p.right.drop i) a = (if p.right[i] < (d.terms.length : Int) then gk d L r g p (i + 1) (p.right.drop (i + 1)) a else (!tw i p.right.length (pa d L a) p && (g a && gk d L r g p (i + 1) (p.right.drop (i + 1)) ((r p.right[i] a).getD 0)))) := by
  rw [List.drop_eq_getElem_cons hi]
  rfl
theorem gk_end (d : Bn) (L : List Int) (r : Int → Nat → Option Nat) (g : Nat → Bool) (p : Pd) (i a : Nat) (hi : p.right.length ≤ i) : gk d L r g p i (p.right.drop i) a = true := by
  rw [List.drop_eq_nil_of_le hi]
  rfl
end Go.Proofs.Ytaimlmjgicmbeaa
