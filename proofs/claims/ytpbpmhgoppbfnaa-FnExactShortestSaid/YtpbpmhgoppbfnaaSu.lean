import Derived.Test.YtpbpmhgoppbfnaaLt
import Derived.Test.YtpbpmhgoppbfnaaTo
import Derived.Test.YtpbpmhgoppbfnaaBok
/-! The program: the study of plain rules. -/
namespace Go.Proofs.Ytpbpmhgoppbfnaa
open Go.RowKit Go.Deep
set_option linter.unusedVariables false
set_option maxRecDepth 100000
set_option linter.unusedSimpArgs false

/-- What is known of right plain rules. -/
structure Bok (d : Bn) : Prop where
  nt : d.terms.length ≤ 60
  nn : 1 ≤ d.nons.length ∧ d.nons.length ≤ 100
  np : d.prods.length ≤ 120
  left : ∀ i (hi : i < d.prods.length), (d.terms.length : Int) ≤ d.prods[i].left ∧ d.prods[i].left < ((d.terms.length + d.nons.length : Nat) : Int)
  len : ∀ i (hi : i < d.prods.length), d.prods[i].right.length ≤ 12
  right : ∀ i (hi : i < d.prods.length) j (hj : j < d.prods[i].right.length), 0 ≤ d.prods[i].right[j] ∧ d.prods[i].right[j] < ((d.terms.length + d.nons.length : Nat) : Int)
theorem bnB_ok {d : Bn} (h : bnB d = true) : Bok d := by
  unfold bnB szB at h
  simp only [Bool.and_eq_true, decide_eq_true_eq, List.all_eq_true] at h
  obtain ⟨h1, _, _, h4⟩ := h
  have hp : ∀ i (hi : i < d.prods.length), pdB d.terms.length d.nons.length d.prods[i] = true := fun i hi => h4 _ (List.getElem_mem hi)
  refine ⟨h1.1, ⟨h1.2.1, h1.2.2.1⟩, h1.2.2.2.2.2, fun i hi => ?_, fun i hi => ?_, fun i hi j hj => ?_⟩
  · have := hp i hi
    unfold pdB wiB at this
    simp only [Bool.and_eq_true, decide_eq_true_eq] at this
    have := this.1
    omega
  · have := hp i hi
    unfold pdB wiB at this
    simp only [Bool.and_eq_true, decide_eq_true_eq] at this
    exact this.2.1
  · have := hp i hi
    unfold pdB wiB at this
    simp only [Bool.and_eq_true, decide_eq_true_eq, List.all_eq_true] at this
    have := this.2.2.1 _ (List.getElem_mem hj)
    omega
def bps (d : Bn) : List (Nat × List Nat) := d.prods.map pN
/-- At first: one byte for each terminal; nothing for others. -/
def ini (nt N j : Nat) : List Int := (List.range N).map fun i => if i < j then (if i < nt then 1 else -1) else 0
theorem ini_len (nt N j : Nat) : (ini nt N j).length = N := by simp [ini]
theorem ini_get {nt N j i : Nat} (h : i < N) : (ini nt N j)[i]'(by rw [ini_len]; exact h) = if i < j then (if i < nt then 1 else -1) else 0 := by simp [ini]
theorem ini_next {nt N j : Nat} (h : j < N) : (ini nt N j).set j (if j < nt then 1 else -1) = ini nt N (j + 1) := by
  apply List.ext_getElem
  · simp [ini_len]
  · intro i h1 h2
    rw [ini_len] at h2
    rw [List.getElem_set]
    by_cases e : j = i
    · subst e; rw [if_pos rfl, ini_get h, if_pos (Nat.lt_succ_self _)]
    · rw [if_neg e, ini_get h2, ini_get h2]
      have : (i < j) ↔ (i < j + 1) := by omega
      simp [this]
theorem ini_snd (nt : Nat) (ps : List (Nat × List Nat)) (N : Nat) (hN : nt ≤ N) : Snd nt ps (Lf (ini nt N N)) := by
  have key : ∀ x, Lf (ini nt N N) x = if x < nt then 1 else -1 := by
    intro x
    by_cases hx : x < N
    · rw [Lf_lt (by rw [ini_len]; exact hx), ini_get hx, if_pos hx]
    · have : ¬ x < nt := by omega
      rw [if_neg this]
      simp [Lf, List.getD_eq_getElem?_getD, ini_len, Nat.le_of_not_lt hx]
  refine ⟨fun x => ?_, fun x => ?_, fun x hx => ?_, fun x hx => ?_⟩
  · rw [key]; split <;> omega
  · rw [key]; split <;> omega
  · rw [key, if_pos hx]
  · rw [key] at hx ⊢
    by_cases h : x < nt
    · rw [if_pos h]; exact Lens.term h Lens.nil
    · rw [if_neg h] at hx; omega
/-- How much shorter they may become. -/
def wgt (v : Int) : Nat := if v = -1 then 1001 else v.toNat
def wts (L : List Int) : Nat := (L.map wgt).sum
theorem wts_set {L : List Int} {x : Nat} (h : x < L.length) {u : Int} (hu : wgt u < wgt L[x]) : wts (L.set x u) < wts L := by
  induction L generalizing x with
  | nil => exact absurd h (Nat.not_lt_zero _)
  | cons y r ih =>
    cases x with
    | zero =>
      simp only [List.getElem_cons_zero] at hu
      simp only [wts, List.set_cons_zero, List.map_cons, List.sum_cons]
      omega
    | succ x =>
      simp only [List.getElem_cons_succ] at hu
      have := ih (by simpa using h) hu
      unfold wts at this ⊢
      simp only [List.set_cons_succ, List.map_cons, List.sum_cons]
      omega
theorem IRow.uniq {w : World} {b : Nat} {L M : List Int} (h : IRow w b L) (k : IRow w b M) (hl : L.length = M.length) : L = M := by
  apply List.ext_getElem hl
  intro i h1 h2
  have e1 := World.rowIs.cell h h1
  have e2 := World.rowIs.cell k h2
  rw [e1] at e2
  simp [List.getD_eq_getElem?_getD, h1, h2] at e2
  exact e2
theorem lnew_less {L : List Int} {p : Nat × List Nat} (hx : p.1 < L.length) (hlo : ∀ x, -1 ≤ Lf L x) (h : lnew (Lf L) p = true) : wgt (lof (Lf L) p.2) < wgt L[p.1] := by
  obtain ⟨h1, h2⟩ := lof_range hlo p.2
  have hf := Lf_lt hx
  unfold lnew at h
  rw [hf] at h
  simp only [Bool.not_eq_true', Bool.or_eq_false_iff, beq_eq_false_iff_ne, ne_eq, Bool.and_eq_false_iff, bne_eq_false_iff_eq, decide_eq_false_iff_not] at h
  unfold wgt
  rw [if_neg h.1]
  have h3 := hlo p.1
  rw [hf] at h3
  rcases h.2 with e | e
  · rw [if_pos e]; omega
  · by_cases e' : L[p.1] = -1
    · rw [if_pos e']; omega
    · rw [if_neg e']; omega
end Go.Proofs.Ytpbpmhgoppbfnaa
