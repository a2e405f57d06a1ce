import Derived.Test.YtpbpmhgoppbfnaaSu
/-! The specification's BnfOK: the place of a text. -/
namespace Go.Proofs.Ytpbpmhgoppbfnaa
open Go.RowKit Go.Deep
set_option linter.unusedVariables false
set_option maxRecDepth 100000
set_option linter.unusedSimpArgs false

theorem ne_bytes {a b : ByteArray} (h : ¬ a = b) : (a.toList == b.toList) = false := by
  rw [beq_eq_false_iff_ne]
  intro e
  rw [ByteArray.toList_eq, ByteArray.toList_eq] at e
  exact h (ByteArray.ext (Array.toList_inj.mp e))
theorem eq_bytes {a b : ByteArray} (h : a = b) : (a.toList == b.toList) = true := by subst h; simp
set_option maxHeartbeats 800000 in
theorem l03At_any {S : Nat → Prop} (l : List ByteArray) (v : Value) (w : World) (h : Strs w S l v) (j : Nat) (hj : j < l.length) :
    Calls Try.prog 54 #[v, .string l[j]] w fun e w' => (∃ r : Nat, e = .returned (.int .i64 r) ∧ r ≤ j ∧ (r = j ↔ l[j] ∉ l.take j)) ∧ w' = w := by
  obtain ⟨a, cap, b, off, rfl, hc, hm, ha, hcell⟩ := h
  have HC := (show Hid _ from hcell); clear hcell
  have HA := (show Hid _ from ha); clear ha
  unfold maxLen at hm
  go_enter Try.func54, Try.ntmps54
  go_wp2_with fail
  go_loopw [5] (fun i wr => ∃ k : Nat, i = .int .i64 k ∧ k ≤ j ∧ Hid (∀ i (hi : i < l.length), i < k → l[i] ≠ l[j]) ∧ wr = w) (fun i _ => l.length - (intOf i).toNat)
  case atStart => exact ⟨0, rfl, Nat.zero_le _, fun i hi h0 => absurd h0 (Nat.not_lt_zero _), rfl⟩
  case round =>
    obtain ⟨k, rfl, hk, HK, rfl⟩ := hrel
    have hkl : k < l.length := by omega
    obtain ⟨rfl, _⟩ := HA.out (by omega)
    have c0 := (HC.out k hkl).1
    by_cases he : l[k] = l[j]
    · have HP : Hid (k = j ↔ l[j] ∉ l.take j) := by
        show k = j ↔ l[j] ∉ l.take j
        constructor
        · rintro rfl hmem
          obtain ⟨i, hi, e⟩ := List.mem_iff_getElem.1 hmem
          rw [List.length_take] at hi
          rw [List.getElem_take] at e
          exact HK.out i (by omega) (by omega) e
        · intro hno
          refine Decidable.byContradiction fun hne => hno ?_
          rw [← he]
          exact List.mem_iff_getElem.2 ⟨k, by rw [List.length_take]; omega, by rw [List.getElem_take]⟩
      rw [he] at c0
      clear he
      go_wp2_with fail
      go_ret
      exact ⟨⟨k, rfl, hk, HP.out⟩, rfl⟩
    · have hkj : k < j := by
        refine Nat.lt_of_le_of_ne hk fun e => he ?_
        subst e; rfl
      have HN : Hid (∀ i (hi : i < l.length), i < k + 1 → l[i] ≠ l[j]) := fun i hi hik => by
        by_cases e : i = k
        · subst e; exact he
        · exact HK.out i hi (by omega)
      have hbe := ne_bytes he
      clear he
      go_wp2_with fail
      exact ⟨⟨k + 1, by go_num, by omega, HN, trivial⟩, by simp [intOf]; omega⟩
end Go.Proofs.Ytpbpmhgoppbfnaa

/-! The specification's BnfOK where there is too much. -/
namespace Go.Proofs.Ytpbpmhgoppbfnaa
open Go.RowKit Go.Deep
set_option linter.unusedVariables false
set_option maxRecDepth 100000
set_option linter.unusedSimpArgs false

set_option maxHeartbeats 1600000 in
theorem sBnf_no {S : Nat → Prop} (d : Bn) (v0 v1 v3 : Value) (w : World) (h : BLies w S d v0 v1 v3) (hz : ¬ szB d = true) :
    Calls Try.prog 23 #[.agg #[v0, v1, .int .i64 d.own, v3]] w fun e w' => e = .returned (.bool false) ∧ Below w.heap.size w w' := by
  have HB := (show Hid _ from fun (x a b : Int) (w : World) => between_any x a b w)
  obtain ⟨a0, p0, rfl, hT⟩ := h.terms.form
  obtain ⟨a1, p1, rfl, hN⟩ := h.nons.form
  obtain ⟨a3, p3, rfl, hP⟩ := h.prods.form
  clear h
  simp only [szB, decide_eq_true_eq] at hz
  unfold maxLen at hT hN hP
  have HE := (show Hid _ from fun o => bel_alloc w o)
  by_cases c1 : d.terms.length ≤ 60
  · by_cases c2 : 1 ≤ d.nons.length ∧ d.nons.length ≤ 100
    · have e2 : wiB d.nons.length 1 100 = true := by simp [wiB]; omega
      by_cases c3 : 1 ≤ d.own ∧ d.own ≤ d.nons.length
      · have e3 : wiB d.own 1 d.nons.length = true := by simp [wiB]; omega
        have c4 : ¬ d.prods.length ≤ 120 := fun h4 => hz ⟨c1, c2.1, c2.2, c3.1, c3.2, h4⟩
        clear hz
        go_enter Try.func23, Try.ntmps23
        go_wp2_with fail
        refine Calls.mono (HB.out _ _ _ _) ?_
        rintro e w1 ⟨rfl, rfl⟩
        rw [e2]
        go_wp2_with fail
        refine Calls.mono (HB.out _ _ _ _) ?_
        rintro e w1 ⟨rfl, rfl⟩
        rw [e3]
        go_wp2_with fail
        go_ret
        exact ⟨rfl, HE.out _⟩
      · have e3 : wiB d.own 1 d.nons.length = false := by simp [wiB]; omega
        clear hz
        go_enter Try.func23, Try.ntmps23
        go_wp2_with fail
        refine Calls.mono (HB.out _ _ _ _) ?_
        rintro e w1 ⟨rfl, rfl⟩
        rw [e2]
        go_wp2_with fail
        refine Calls.mono (HB.out _ _ _ _) ?_
        rintro e w1 ⟨rfl, rfl⟩
        rw [e3]
        go_wp2_with fail
        go_ret
        exact ⟨rfl, HE.out _⟩
    · have e2 : wiB d.nons.length 1 100 = false := by simp [wiB]; omega
      clear hz
      go_enter Try.func23, Try.ntmps23
      go_wp2_with fail
      refine Calls.mono (HB.out _ _ _ _) ?_
      rintro e w1 ⟨rfl, rfl⟩
      rw [e2]
      go_wp2_with fail
      go_ret
      exact ⟨rfl, HE.out _⟩
  · clear hz
    go_enter Try.func23, Try.ntmps23
    go_wp2_with fail
    go_ret
    exact ⟨rfl, HE.out _⟩
end Go.Proofs.Ytpbpmhgoppbfnaa

/-! The specification's BnfOK: what its loops tell; the place of a text, at its very number. -/
namespace Go.Proofs.Ytpbpmhgoppbfnaa
open Go.RowKit Go.Deep
set_option linter.unusedVariables false
set_option maxRecDepth 100000
set_option linter.unusedSimpArgs false

theorem first_of (P : Nat → Prop) : ∀ n, P n → ∃ r, r ≤ n ∧ P r ∧ ∀ i, i < r → ¬ P i := by
  intro n
  induction n using Nat.strongRecOn with
  | _ n ih =>
    intro hn
    by_cases h : ∃ i, i < n ∧ P i
    · obtain ⟨i, hi, hp⟩ := h
      obtain ⟨r, hr, h1, h2⟩ := ih i hi hp
      exact ⟨r, by omega, h1, h2⟩
    · exact ⟨n, Nat.le_refl _, hn, fun i hi hp => h ⟨i, hi, hp⟩⟩
/-- The first place of what stands at j. -/
structure Fst (l : List ByteArray) (j r : Nat) : Prop where
  le : r ≤ j
  eq : l.getD r ByteArray.empty = l.getD j ByteArray.empty
  min : ∀ i, i < r → l.getD i ByteArray.empty ≠ l.getD j ByteArray.empty
theorem Fst.ex (l : List ByteArray) (j : Nat) : ∃ r, Fst l j r := by
  obtain ⟨r, h1, h2, h3⟩ := first_of (fun i => l.getD i ByteArray.empty = l.getD j ByteArray.empty) j rfl
  exact ⟨r, h1, h2, h3⟩
theorem Fst.again {l : List ByteArray} {j r : Nat} (h : Fst l j r) (hj : j < l.length) (hr : r ≠ j) : l[j] ∈ l.take j := by
  have h1 := h.le
  have h2 := h.eq
  rw [getD_lt _ _ hj, getD_lt _ _ (by omega)] at h2
  rw [← h2]
  exact List.mem_iff_getElem.2 ⟨r, by rw [List.length_take]; omega, by rw [List.getElem_take]⟩
theorem Fst.new {l : List ByteArray} {j r : Nat} (h : Fst l j r) (hj : j < l.length) (hr : r = j) : l[j] ∉ l.take j := by
  subst hr
  intro hm
  obtain ⟨i, hi, e⟩ := List.mem_iff_getElem.1 hm
  rw [List.length_take] at hi
  rw [List.getElem_take] at e
  have := h.min i (by omega)
  rw [getD_lt _ _ hj, getD_lt _ _ (by omega)] at this
  exact this e
set_option maxHeartbeats 800000 in
theorem l03At_is {S : Nat → Prop} (l : List ByteArray) (v : Value) (w : World) (h : Strs w S l v) (j : Nat) (hj : j < l.length) (r : Nat) (hf : Fst l j r) :
    Calls Try.prog 54 #[v, .string l[j]] w fun e w' => e = .returned (.int .i64 r) ∧ w' = w := by
  obtain ⟨a, cap, b, off, rfl, hc, hm, ha, hcell⟩ := h
  have HC := (show Hid _ from hcell); clear hcell
  have HA := (show Hid _ from ha); clear ha
  have HF := (show Hid _ from hf)
  have hrj := hf.le
  clear hf
  unfold maxLen at hm
  go_enter Try.func54, Try.ntmps54
  go_wp2_with fail
  go_loopw [5] (fun i wr => ∃ k : Nat, i = .int .i64 k ∧ k ≤ r ∧ wr = w) (fun i _ => l.length - (intOf i).toNat)
  case atStart => exact ⟨0, rfl, Nat.zero_le _, rfl⟩
  case round =>
    obtain ⟨k, rfl, hk, rfl⟩ := hrel
    have hkl : k < l.length := by omega
    obtain ⟨rfl, _⟩ := HA.out (by omega)
    have c0 := (HC.out k hkl).1
    by_cases he : l[k] = l[j]
    · have HP : Hid (k = r) := by
        show k = r
        refine Decidable.byContradiction fun hne => ?_
        have := HF.out.min k (by omega)
        rw [getD_lt _ _ hj, getD_lt _ _ hkl] at this
        exact this he
      rw [he] at c0
      clear he
      go_wp2_with fail
      go_ret
      exact ⟨by rw [HP.out]; rfl, rfl⟩
    · have hkr : k < r := by
        refine Nat.lt_of_le_of_ne hk fun e => he ?_
        have := HF.out.eq
        rw [getD_lt _ _ hj, getD_lt _ _ (by omega)] at this
        subst e; exact this
      have hbe := ne_bytes he
      clear he
      go_wp2_with fail
      exact ⟨⟨k + 1, by go_num, by omega, trivial⟩, by simp [intOf]; omega⟩

theorem bn_no_st {d : Bn} (i : Nat) (hi : i < d.terms.length) (h : stB d.terms[i].lev d.terms[i].asc = false) : bnB d = false := by
  have : d.terms.all (fun t => stB t.lev t.asc) = false := List.all_eq_false.2 ⟨d.terms[i], List.getElem_mem hi, by simp [h]⟩
  unfold bnB
  simp [this]
theorem bn_no_ap {d : Bn} (k i : Nat) (hk : k < i) (hi : i < d.terms.length) (e : d.terms[k].name = d.terms[i].name) : bnB d = false := by
  have : apB (d.terms.map (·.name)) = false := by
    unfold apB
    rw [decide_eq_false_iff_not]
    intro hn
    have := List.pairwise_iff_getElem.1 hn k i (by simp; omega) (by simpa using hi) hk
    simp only [List.getElem_map] at this
    exact this e
  unfold bnB
  simp [this]
theorem bn_no_nn {d : Bn} (j : Nat) (hj : j < d.nons.length) (h : d.nons[j] ∈ d.nons.take j) : bnB d = false := by
  have : apB d.nons = false := by
    unfold apB
    rw [decide_eq_false_iff_not]
    intro hn
    obtain ⟨i, hi, e⟩ := List.mem_iff_getElem.1 h
    rw [List.length_take] at hi
    rw [List.getElem_take] at e
    exact List.pairwise_iff_getElem.1 hn i j (by omega) hj (by omega) e
  unfold bnB
  simp [this]
theorem bn_no_pd {d : Bn} (i : Nat) (hi : i < d.prods.length) (h : pdB d.terms.length d.nons.length d.prods[i] = false) : bnB d = false := by
  have : d.prods.all (pdB d.terms.length d.nons.length) = false := List.all_eq_false.2 ⟨d.prods[i], List.getElem_mem hi, by simp [h]⟩
  unfold bnB
  simp [this]
theorem bn_yes {d : Bn} (hz : szB d = true) (h1 : ∀ i (hi : i < d.terms.length), stB d.terms[i].lev d.terms[i].asc = true) (h2 : ∀ k i (hk : k < i) (hi : i < d.terms.length), d.terms[k].name ≠ d.terms[i].name)
    (h3 : ∀ j (hj : j < d.nons.length), d.nons[j] ∉ d.nons.take j) (h4 : ∀ i (hi : i < d.prods.length), pdB d.terms.length d.nons.length d.prods[i] = true) : bnB d = true := by
  have e1 : d.terms.all (fun t => stB t.lev t.asc) = true := by
    rw [List.all_eq_true]
    intro x hx
    obtain ⟨i, hi, rfl⟩ := List.mem_iff_getElem.1 hx
    exact h1 i hi
  have e2 : apB (d.terms.map (·.name)) = true := by
    unfold apB
    rw [decide_eq_true_iff]
    refine List.pairwise_iff_getElem.2 fun k i hk hi hki => ?_
    simp only [List.getElem_map]
    exact h2 k i hki (by simpa using hi)
  have e3 : apB d.nons = true := by
    unfold apB
    rw [decide_eq_true_iff]
    refine List.pairwise_iff_getElem.2 fun k i hk hi hki e => h3 i hi ?_
    rw [← e]
    exact List.mem_iff_getElem.2 ⟨k, by rw [List.length_take]; omega, by rw [List.getElem_take]⟩
  have e4 : d.prods.all (pdB d.terms.length d.nons.length) = true := by
    rw [List.all_eq_true]
    intro x hx
    obtain ⟨i, hi, rfl⟩ := List.mem_iff_getElem.1 hx
    exact h4 i hi
  unfold bnB
  rw [hz, e1, e2, e3, e4]
  rfl
end Go.Proofs.Ytpbpmhgoppbfnaa
