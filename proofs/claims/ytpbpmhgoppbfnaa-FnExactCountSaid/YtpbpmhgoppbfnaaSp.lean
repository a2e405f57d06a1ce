import Derived.Test.YtpbpmhgoppbfnaaMx
/-! The specification: l04Leads. -/
namespace Go.Proofs.Ytpbpmhgoppbfnaa
open Go.RowKit Go.Deep
set_option linter.unusedVariables false
set_option maxRecDepth 100000
set_option linter.unusedSimpArgs false

/-- A step by Prod k, at place i of its Right, between Nons. -/
def Pl (d : Bn) (k i a b : Nat) : Prop := ∃ hk : k < d.prods.length, d.prods[k].left.toNat = d.terms.length + a ∧ ∃ hi : i < d.prods[k].right.length, d.prods[k].right[i].toNat = d.terms.length + b ∧ ∀ j (hj : j < d.prods[k].right.length), j ≠ i → Lens d.terms.length (bps d) [d.prods[k].right[j].toNat] 0
def En (d : Bn) (a b : Nat) : Prop := ∃ k i, Pl d k i a b
theorem En_Es {d : Bn} {a b : Nat} (h : En d a b) : Es d (d.terms.length + a) (d.terms.length + b) := by
  obtain ⟨k, i, hk, e, hi, e2, h⟩ := h
  exact ⟨k, hk, e, i, hi, e2, h⟩
theorem Es_En {d : Bn} {a b : Nat} (h : Es d (d.terms.length + a) (d.terms.length + b)) : En d a b := by
  obtain ⟨k, hk, e, i, hi, e2, h⟩ := h
  exact ⟨k, i, hk, e, hi, e2, h⟩
theorem Cyc_iff {d : Bn} (hok : Bok d) : Cyc d ↔ ∃ a, a < d.nons.length ∧ Tc (En d) a a := by
  constructor
  · rintro ⟨x, hx⟩
    have hst : ∀ {a b : Nat}, Es d a b → d.terms.length ≤ a ∧ a < d.terms.length + d.nons.length := by
      rintro a b ⟨k, hk, e, _⟩
      have := hok.left k hk
      omega
    have key : ∀ {a b : Nat}, Tc (Es d) a b → d.terms.length ≤ b → Tc (En d) (a - d.terms.length) (b - d.terms.length) := by
      intro a b h
      induction h using Tc.ind with
      | one h =>
        intro hb
        have ha := (hst h).1
        refine Tc.one (Es_En ?_)
        rw [Nat.add_sub_cancel' ha, Nat.add_sub_cancel' hb]
        exact h
      | step h k ih =>
        rename_i a b c
        intro hc
        have ha := (hst h).1
        have hb : d.terms.length ≤ b := by
          obtain ⟨_, hk⟩ := k.fst
          exact (hst hk).1
        refine Tc.step (Es_En ?_) (ih hc)
        rw [Nat.add_sub_cancel' ha, Nat.add_sub_cancel' hb]
        exact h
    have hx1 : d.terms.length ≤ x ∧ x < d.terms.length + d.nons.length := by
      obtain ⟨_, hk⟩ := hx.fst
      exact hst hk
    exact ⟨x - d.terms.length, by omega, key hx hx1.1⟩
  · rintro ⟨a, _, h⟩
    have key : ∀ {a b : Nat}, Tc (En d) a b → Tc (Es d) (d.terms.length + a) (d.terms.length + b) := by
      intro a b h
      induction h using Tc.ind with
      | one h => exact Tc.one (En_Es h)
      | step h _ ih => exact Tc.step (En_Es h) ih
    exact ⟨_, key h⟩
theorem take_ints {w : World} {S : Nat → Prop} {l : List Int} {a : Option Addr} {c m : Nat} (h : Ints w S l (.slice a l.length c)) (hm : m ≤ l.length) : Ints w S (l.take m) (.slice a m c) := by
  obtain ⟨a', cap, b, off, e, hc, hmx, ha, hcell⟩ := h
  injection e with e1 e2 e3
  subst e1 e3
  have hl : (l.take m).length = m := by simp [hm]
  refine ⟨a, c, b, off, by rw [hl], by rw [hl]; omega, hmx, fun h0 => ha (by rw [hl] at h0; omega), fun i hi => ?_⟩
  rw [hl] at hi
  rw [List.getElem_take]
  exact hcell i (by omega)
theorem drop_ints {w : World} {S : Nat → Prop} {l : List Int} {b off c m : Nat} (h : Ints w S l (.slice (some ⟨b, off, none⟩) l.length c)) (hm : m ≤ l.length) (hc : m < c) : Ints w S (l.drop m) (.slice (some ⟨b, off + m, none⟩) (l.length - m) (c - m)) := by
  obtain ⟨a', cap, b', off', e, hc', hmx, ha, hcell⟩ := h
  injection e with e1 e2 e3
  subst e1 e3
  have hl : (l.drop m).length = l.length - m := by simp
  refine ⟨_, c - m, b, off + m, by rw [hl], by rw [hl]; omega, by omega, fun h0 => ⟨rfl, ?_⟩, fun i hi => ?_⟩
  · have h1 := ha (by rw [hl] at h0; omega)
    injection h1.1 with h2
    cases h2
    exact h1.2
  · rw [hl] at hi
    have h1 := ha (by omega)
    injection h1.1 with h2
    cases h2
    rw [List.getElem_drop, Nat.add_assoc]
    exact hcell (m + i) (by omega)
theorem nall_take {f : Nat → Bool} {r : List Int} {m : Nat} (hm : m < r.length) : (nall f (nats (r.take m)) = true ∧ nall f (nats (r.drop (m + 1))) = true) ↔ ∀ j (hj : j < r.length), j ≠ m → f r[j].toNat = true := by
  unfold nall nats
  simp only [List.all_map, List.all_eq_true, Function.comp]
  constructor
  · rintro ⟨h1, h2⟩ j hj hjm
    by_cases h : j < m
    · exact h1 _ (List.mem_iff_getElem.2 ⟨j, by simp; omega, by simp⟩)
    · exact h2 _ (List.mem_iff_getElem.2 ⟨j - (m + 1), by simp; omega, by simp only [List.getElem_drop]; congr 1; omega⟩)
  · intro h
    refine ⟨fun x hx => ?_, fun x hx => ?_⟩
    · obtain ⟨j, hj, rfl⟩ := List.mem_iff_getElem.1 hx
      simp at hj
      rw [List.getElem_take]
      exact h j (by omega) (by omega)
    · obtain ⟨j, hj, rfl⟩ := List.mem_iff_getElem.1 hx
      simp at hj
      rw [List.getElem_drop]
      exact h (m + 1 + j) (by omega) (by omega)
/-- The square has all edges of the Prods ahead of k, and of Prod k those at places ahead of m; no other. -/
structure Eds (d : Bn) (k m : Nat) (F : Nat → Nat → Bool) : Prop where
  is : ∀ a b, F a b = true → En d a b
  all : ∀ k' i a b, k' < k ∨ (k' = k ∧ i < m) → Pl d k' i a b → F a b = true
theorem Eds.row {d : Bn} {k m : Nat} {F : Nat → Nat → Bool} (h : Eds d k m F) (hm : ∀ hk : k < d.prods.length, d.prods[k].right.length ≤ m) : Eds d (k + 1) 0 F :=
  ⟨h.is, fun k' i a b hk hp => h.all k' i a b (by
    by_cases e : k' = k
    · subst e
      obtain ⟨hk2, _, hi, _⟩ := hp
      exact .inr ⟨rfl, by have := hm hk2; omega⟩
    · exact .inl (by omega)) hp⟩
theorem Eds.skip {d : Bn} {k m : Nat} {F : Nat → Nat → Bool} (h : Eds d k m F) (hn : ∀ a b, ¬ Pl d k m a b) : Eds d k (m + 1) F :=
  ⟨h.is, fun k' i a b hk hp => h.all k' i a b (by
    rcases hk with hk | ⟨rfl, hk⟩
    · exact .inl hk
    · by_cases e : i = m
      · subst e; exact absurd hp (hn a b)
      · exact .inr ⟨rfl, by omega⟩) hp⟩
theorem Eds.put {d : Bn} {k m a0 b0 : Nat} {F : Nat → Nat → Bool} (h : Eds d k m F) (hp : Pl d k m a0 b0) : Eds d k (m + 1) (fun a b => if a = a0 ∧ b = b0 then true else F a b) := by
  refine ⟨fun a b hf => ?_, fun k' i a b hk hq => ?_⟩
  · by_cases e : a = a0 ∧ b = b0
    · obtain ⟨rfl, rfl⟩ := e; exact ⟨k, m, hp⟩
    · simp only [if_neg e] at hf; exact h.is a b hf
  · by_cases e : a = a0 ∧ b = b0
    · simp [e]
    · simp only [if_neg e]
      refine h.all k' i a b ?_ hq
      rcases hk with hk | ⟨rfl, hk⟩
      · exact .inl hk
      · by_cases e2 : i = m
        · subst e2
          obtain ⟨_, q1, _, q2, _⟩ := hp
          obtain ⟨_, r1, _, r2, _⟩ := hq
          exact absurd ⟨by omega, by omega⟩ e
        · exact .inr ⟨rfl, by omega⟩
end Go.Proofs.Ytpbpmhgoppbfnaa
