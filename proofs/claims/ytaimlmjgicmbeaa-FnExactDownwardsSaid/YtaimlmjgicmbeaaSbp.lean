import Derived.Test.YtaimlmjgicmbeaaSbo
/-! The specification's BnfOK: what its loops tell; the place of a text, at its very number. -/
namespace Go.Proofs.Ytaimlmjgicmbeaa
open Go.RowKit Go.Deep
set_option linter.unusedVariables false
set_option maxRecDepth 100000
set_option linter.unusedSimpArgs false

theorem first_of (P : Nat → Prop) : ∀ n, P n → ∃ r, r ≤ n ∧ P r ∧ ∀ i, i < r → ¬ P i := by
  intro n
  induction n using Nat.strongRecOn with
  | _ n ih =>
    intro hn
    by_cases h : ∃ i, i < n ∧ P i
    · obtain ⟨i, hi, hp⟩ := h
      obtain ⟨r, hr, h1, h2⟩ := ih i hi hp
      exact ⟨r, by omega, h1, h2⟩
    · exact ⟨n, Nat.le_refl _, hn, fun i hi hp => h ⟨i, hi, hp⟩⟩
/-- The first place of what stands at j. -/
structure Fst (l : List ByteArray) (j r : Nat) : Prop where
  le : r ≤ j
  eq : l.getD r ByteArray.empty = l.getD j ByteArray.empty
  min : ∀ i, i < r → l.getD i ByteArray.empty ≠ l.getD j ByteArray.empty
theorem Fst.ex (l : List ByteArray) (j : Nat) : ∃ r, Fst l j r := by
  obtain ⟨r, h1, h2, h3⟩ := first_of (fun i => l.getD i ByteArray.empty = l.getD j ByteArray.empty) j rfl
  exact ⟨r, h1, h2, h3⟩
theorem Fst.again {l : List ByteArray} {j r : Nat} (h : Fst l j r) (hj : j < l.length) (hr : r ≠ j) : l[j] ∈ l.take j := by
  have h1 := h.le
  have h2 := h.eq
  rw [getD_lt _ _ hj, getD_lt _ _ (by omega)] at h2
  rw [← h2]
  exact List.mem_iff_getElem.2 ⟨r, by rw [List.length_take]; omega, by rw [List.getElem_take]⟩
theorem Fst.new {l : List ByteArray} {j r : Nat} (h : Fst l j r) (hj : j < l.length) (hr : r = j) : l[j] ∉ l.take j := by
  subst hr
  intro hm
  obtain ⟨i, hi, e⟩ := List.mem_iff_getElem.1 hm
  rw [List.length_take] at hi
  rw [List.getElem_take] at e
  have := h.min i (by omega)
  rw [getD_lt _ _ hj, getD_lt _ _ (by omega)] at this
  exact this e
set_option maxHeartbeats 800000 in
theorem l03At_is {S : Nat → Prop} (l : List ByteArray) (v : Value) (w : World) (h : Strs w S l v) (j : Nat) (hj : j < l.length) (r : Nat) (hf : Fst l j r) :
    Calls Try.prog 58 #[v, .string l[j]] w fun e w' => e = .returned (.int .i64 r) ∧ w' = w := by
  obtain ⟨a, cap, b, off, rfl, hc, hm, ha, hcell⟩ := h
  have HC := (show Hid _ from hcell); clear hcell
  have HA := (show Hid _ from ha); clear ha
  have HF := (show Hid _ from hf)
  have hrj := hf.le
  clear hf
  unfold maxLen at hm
  go_enter Try.func58, Try.ntmps58
  go_wp2_with fail
  go_loopw [5] (fun i wr => ∃ k : Nat, i = .int .i64 k ∧ k ≤ r ∧ wr = w) (fun i _ => l.length - (intOf i).toNat)
  case atStart => exact ⟨0, rfl, Nat.zero_le _, rfl⟩
  case round =>
    obtain ⟨k, rfl, hk, rfl⟩ := hrel
    have hkl : k < l.length := by omega
    obtain ⟨rfl, _⟩ := HA.out (by omega)
    have c0 := (HC.out k hkl).1
    by_cases he : l[k] = l[j]
    · have HP : Hid (k = r) := by
        show k = r
        refine Decidable.byContradiction fun hne => ?_
        have := HF.out.min k (by omega)
        rw [getD_lt _ _ hj, getD_lt _ _ hkl] at this
        exact this he
      rw [he] at c0
      clear he
      go_wp2_with fail
      go_ret
      exact ⟨by rw [HP.out]; rfl, rfl⟩
    · have hkr : k < r := by
        refine Nat.lt_of_le_of_ne hk fun e => he ?_
        have := HF.out.eq
        rw [getD_lt _ _ hj, getD_lt _ _ (by omega)] at this
        subst e; exact this
      have hbe := ne_bytes he
      clear he
      go_wp2_with fail
      exact ⟨⟨k + 1, by go_num, by omega, trivial⟩, by simp [intOf]; omega⟩

theorem bn_no_st {d : Bn} (i : Nat) (hi : i < d.terms.length) (h : stB d.terms[i].lev d.terms[i].asc = false) : bnB d = false := by
  have : d.terms.all (fun t => stB t.lev t.asc) = false := List.all_eq_false.2 ⟨d.terms[i], List.getElem_mem hi, by simp [h]⟩
  unfold bnB
  simp [this]
theorem bn_no_ap {d : Bn} (k i : Nat) (hk : k < i) (hi : i < d.terms.length) (e : d.terms[k].name = d.terms[i].name) : bnB d = false := by
  have : apB (d.terms.map (·.name)) = false := by
    unfold apB
    rw [decide_eq_false_iff_not]
    intro hn
    have := List.pairwise_iff_getElem.1 hn k i (by simp; omega) (by simpa using hi) hk
    simp only [List.getElem_map] at this
    exact this e
  unfold bnB
  simp [this]
theorem bn_no_nn {d : Bn} (j : Nat) (hj : j < d.nons.length) (h : d.nons[j] ∈ d.nons.take j) : bnB d = false := by
  have : apB d.nons = false := by
    unfold apB
    rw [decide_eq_false_iff_not]
    intro hn
    obtain ⟨i, hi, e⟩ := List.mem_iff_getElem.1 h
    rw [List.length_take] at hi
    rw [List.getElem_take] at e
    exact List.pairwise_iff_getElem.1 hn i j (by omega) hj (by omega) e
  unfold bnB
  simp [this]
theorem bn_no_pd {d : Bn} (i : Nat) (hi : i < d.prods.length) (h : pdB d.terms.length d.nons.length d.prods[i] = false) : bnB d = false := by
  have : d.prods.all (pdB d.terms.length d.nons.length) = false := List.all_eq_false.2 ⟨d.prods[i], List.getElem_mem hi, by simp [h]⟩
  unfold bnB
  simp [this]
theorem bn_yes {d : Bn} (hz : szB d = true) (h1 : ∀ i (hi : i < d.terms.length), stB d.terms[i].lev d.terms[i].asc = true) (h2 : ∀ k i (hk : k < i) (hi : i < d.terms.length), d.terms[k].name ≠ d.terms[i].name)
    (h3 : ∀ j (hj : j < d.nons.length), d.nons[j] ∉ d.nons.take j) (h4 : ∀ i (hi : i < d.prods.length), pdB d.terms.length d.nons.length d.prods[i] = true) : bnB d = true := by
  have e1 : d.terms.all (fun t => stB t.lev t.asc) = true := by
    rw [List.all_eq_true]
    intro x hx
    obtain ⟨i, hi, rfl⟩ := List.mem_iff_getElem.1 hx
    exact h1 i hi
  have e2 : apB (d.terms.map (·.name)) = true := by
    unfold apB
    rw [decide_eq_true_iff]
    refine List.pairwise_iff_getElem.2 fun k i hk hi hki => ?_
    simp only [List.getElem_map]
    exact h2 k i hki (by simpa using hi)
  have e3 : apB d.nons = true := by
    unfold apB
    rw [decide_eq_true_iff]
    refine List.pairwise_iff_getElem.2 fun k i hk hi hki e => h3 i hi ?_
    rw [← e]
    exact List.mem_iff_getElem.2 ⟨k, by rw [List.length_take]; omega, by rw [List.getElem_take]⟩
  have e4 : d.prods.all (pdB d.terms.length d.nons.length) = true := by
    rw [List.all_eq_true]
    intro x hx
    obtain ⟨i, hi, rfl⟩ := List.mem_iff_getElem.1 hx
    exact h4 i hi
  unfold bnB
  rw [hz, e1, e2, e3, e4]
  rfl
end Go.Proofs.Ytaimlmjgicmbeaa
