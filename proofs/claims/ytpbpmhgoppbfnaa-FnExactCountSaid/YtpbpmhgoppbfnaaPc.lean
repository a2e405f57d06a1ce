import Derived.Test.YtpbpmhgoppbfnaaCz
/-! Symbols that stand alone, as the document says it. -/
namespace Go.Proofs.Ytpbpmhgoppbfnaa
open Go.RowKit Go.Deep
set_option linter.unusedVariables false
set_option maxRecDepth 100000
set_option linter.unusedSimpArgs false

/-- All but place i fail the test. -/
theorem filter_one {α : Type} (p : α → Bool) : ∀ (r : List α) (i : Nat) (hi : i < r.length), (∀ j (hj : j < r.length), j ≠ i → p r[j] = false) → r.filter p = if p r[i] then [r[i]] else [] := by
  intro r
  induction r with
  | nil => intro i hi; exact absurd hi (Nat.not_lt_zero _)
  | cons x r ih =>
    intro i hi h
    cases i with
    | zero =>
      have hr : r.filter p = [] := by
        rw [List.filter_eq_nil_iff]
        intro y hy
        obtain ⟨j, hj, rfl⟩ := List.mem_iff_getElem.1 hy
        have := h (j + 1) (by simpa using hj) (by omega)
        simp only [List.getElem_cons_succ] at this
        rw [this]; simp
      rw [List.filter_cons, hr]
      simp only [List.getElem_cons_zero]
    | succ i =>
      have h0 := h 0 (by simp) (by omega)
      simp only [List.getElem_cons_zero] at h0
      rw [List.filter_cons, h0]
      simp only [Bool.false_eq_true, if_false, List.getElem_cons_succ]
      exact ih i (by simpa using hi) fun j hj hji => by
        have := h (j + 1) (by simpa using hj) (by omega)
        simpa using this
theorem filter_single {α : Type} (p : α → Bool) : ∀ (r : List α) (x : α), r.filter p = [x] → ∃ i, ∃ hi : i < r.length, r[i] = x ∧ ∀ j (hj : j < r.length), j ≠ i → p r[j] = false := by
  intro r
  induction r with
  | nil => intro x h; simp at h
  | cons y r ih =>
    intro x h
    rw [List.filter_cons] at h
    by_cases hy : p y = true
    · rw [if_pos hy] at h
      simp only [List.cons.injEq] at h
      obtain ⟨rfl, h2⟩ := h
      refine ⟨0, by simp, rfl, fun j hj hj0 => ?_⟩
      cases j with
      | zero => exact absurd rfl hj0
      | succ j =>
        rw [List.filter_eq_nil_iff] at h2
        have hj' : j < r.length := by simpa using hj
        have := h2 r[j] (List.getElem_mem hj')
        simpa using this
    · rw [if_neg hy] at h
      obtain ⟨i, hi, e, h3⟩ := ih x h
      refine ⟨i + 1, by simpa using hi, by simpa using e, fun j hj hji => ?_⟩
      cases j with
      | zero => simpa using hy
      | succ j =>
        have := h3 j (by simpa using hj) (by omega)
        simpa using this
theorem alo_mem (L : Nat → Int) (r : List Int) (x : Int) : x ∈ alo L r ↔ ∃ i, ∃ hi : i < r.length, r[i] = x ∧ ∀ j (hj : j < r.length), j ≠ i → L r[j].toNat = 0 := by
  constructor
  · intro hx
    unfold alo at hx
    split at hx
    · rename_i h0
      obtain ⟨i, hi, e⟩ := List.mem_iff_getElem.1 hx
      refine ⟨i, hi, e, fun j hj _ => ?_⟩
      have h1 := List.length_eq_zero_iff.1 h0
      rw [List.filter_eq_nil_iff] at h1
      have := h1 r[j] (List.getElem_mem hj)
      simpa using this
    · split at hx
      · rename_i _ h1
        obtain ⟨y, hy⟩ := List.length_eq_one_iff.1 h1
        rw [hy] at hx
        simp only [List.mem_singleton] at hx
        subst hx
        obtain ⟨i, hi, e, h3⟩ := filter_single _ r x hy
        exact ⟨i, hi, e, fun j hj hji => by have := h3 j hj hji; simpa using this⟩
      · simp at hx
  · rintro ⟨i, hi, rfl, h⟩
    have hf := filter_one (fun x => L x.toNat != 0) r i hi (fun j hj hji => by simp [h j hj hji])
    unfold alo
    rw [hf]
    by_cases hp : (L r[i].toNat != 0) = true
    · simp [hp]
    · simp [hp]
/-- One step, as the document says it. -/
def Es (d : Bn) (a b : Nat) : Prop := ∃ k, ∃ hk : k < d.prods.length, d.prods[k].left.toNat = a ∧ ∃ i, ∃ hi : i < d.prods[k].right.length, d.prods[k].right[i].toNat = b ∧ ∀ j (hj : j < d.prods[k].right.length), j ≠ i → Lens d.terms.length (bps d) [d.prods[k].right[j].toNat] 0
theorem Ed_Es {d : Bn} {L : Nat → Int} (hz : ∀ x, L x = 0 ↔ Lens d.terms.length (bps d) [x] 0) (a b : Nat) : Ed d L a b ↔ Es d a b := by
  constructor
  · rintro ⟨k, hk, e, hb⟩
    obtain ⟨y, hy, e2⟩ := List.mem_map.1 hb
    obtain ⟨i, hi, e3, h⟩ := (alo_mem _ _ _).1 hy
    exact ⟨k, hk, e, i, hi, by rw [e3]; exact e2, fun j hj hji => (hz _).1 (h j hj hji)⟩
  · rintro ⟨k, hk, e, i, hi, e2, h⟩
    exact ⟨k, hk, e, List.mem_map.2 ⟨d.prods[k].right[i], (alo_mem _ _ _).2 ⟨i, hi, rfl, fun j hj hji => (hz _).2 (h j hj hji)⟩, e2⟩⟩
/-- Some symbol makes itself. -/
def Cyc (d : Bn) : Prop := ∃ x, Tc (Es d) x x
/-- .. as a truth value, however that is decided. -/
def cyB (d : Bn) (i : Decidable (Cyc d)) : Bool := @decide (Cyc d) i
theorem cyB_iff {d : Bn} {i : Decidable (Cyc d)} {B : Bool} (h : B = true ↔ Cyc d) : B = cyB d i := by
  unfold cyB
  cases B
  · have : ¬ Cyc d := fun hc => by have := h.2 hc; cases this
    simp [this]
  · simp [h.1 rfl]
/-- What is answered. -/
def cyR (d : Bn) (i : Decidable (Cyc d)) : Bool × Int := if bnB d = true then (cyB d i, 0) else (false, 1)
end Go.Proofs.Ytpbpmhgoppbfnaa
