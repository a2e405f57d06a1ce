import Derived.Test.YtaimlmjgicmbeaaDe0
import Derived.BigQuiet
import Derived.WalkLawsBesides
import Derived.BigRegion
import Derived.Deep.CutRange
import Derived.Deep.RegionHeld3
import Derived.Test.YtaimlmjgicmbeaaDk
/-! The program: isGood. -/
namespace Go.Proofs.Ytaimlmjgicmbeaa
open Go.RowKit Go.Deep
set_option linter.unusedVariables false
set_option maxRecDepth 100000
set_option linter.unusedSimpArgs false

theorem DP_form {d : Bn} {L : List Int} {w : World} {K : Nat → Prop} {f a : Nat} {v : Value} (h : DP d L w K f a v) : ∃ gq, v = .pointer (some ⟨gq, 0, none⟩) ∧ w.cell? ⟨gq, 0, none⟩ = some (.int .i64 (numAt L a)) := by
  cases f with
  | zero => exact h.elim
  | succ f =>
    obtain ⟨g, kb, kc, ka, vs, ats, h1, h2, h3, _⟩ := h
    exact ⟨g, h1, h3⟩
end Go.Proofs.Ytaimlmjgicmbeaa

/-! The program: Good. -/
namespace Go.Proofs.Ytaimlmjgicmbeaa
open Go.RowKit Go.Deep
set_option linter.unusedVariables false
set_option maxRecDepth 100000
set_option linter.unusedSimpArgs false

theorem goodR_cd {d : Bn} {non : Int} {L : List Int} (h : cdR d non L.length ≠ 0) : goodR d non L = (false, cdR d non L.length) := by
  unfold cdR at h ⊢
  unfold goodR
  split
  · rfl
  · rename_i h1
    rw [if_neg h1] at h
    split
    · rfl
    · rename_i h2
      rw [if_neg h2] at h
      exact absurd rfl h
theorem goodR_rd {d : Bn} {non : Int} {L : List Int} (h : cdR d non L.length = 0) : bnB d = true ∧ L.length ≤ 4000 ∧ 0 ≤ non ∧ non < (d.nons.length : Int) ∧ goodR d non L = (if rd d L (L.length + 1) (d.terms.length + non) 0 = some L.length then (gd d L (L.length + 1) 0, 0) else (false, 2)) := by
  unfold cdR at h
  unfold goodR
  split at h
  · cases h
  · rename_i h1
    split at h
    · cases h
    · rename_i h2
      rw [if_neg h1, if_neg h2]
      have h3 : wiB non 0 ((d.nons.length : Int) - 1) = true := by cases e : wiB non 0 ((d.nons.length : Int) - 1); (exact absurd e h2); rfl
      unfold wiB at h3
      simp only [decide_eq_true_eq] at h3
      refine ⟨by cases e : bnB d; (exact absurd (.inl e) h1); rfl, by omega, h3.1, by omega, rfl⟩
end Go.Proofs.Ytaimlmjgicmbeaa
