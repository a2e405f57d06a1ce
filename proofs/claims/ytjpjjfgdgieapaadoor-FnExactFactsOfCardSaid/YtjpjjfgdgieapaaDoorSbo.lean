import Derived.Test.YtjpjjfgdgieapaaDoorBok
/-! The specification's BnfOK: the place of a text. -/
namespace Go.Proofs.YtjpjjfgdgieapaaDoor
open Go.RowKit Go.Deep
set_option linter.unusedVariables false
set_option maxRecDepth 100000
set_option linter.unusedSimpArgs false

theorem ne_bytes {a b : ByteArray} (h : ¬ a = b) : (a.toList == b.toList) = false := by
  rw [beq_eq_false_iff_ne]
  intro e
  rw [ByteArray.toList_eq, ByteArray.toList_eq] at e
  exact h (ByteArray.ext (Array.toList_inj.mp e))
theorem eq_bytes {a b : ByteArray} (h : a = b) : (a.toList == b.toList) = true := by subst h; simp
set_option maxHeartbeats 800000 in
theorem l03At_any {S : Nat → Prop} (l : List ByteArray) (v : Value) (w : World) (h : Strs w S l v) (j : Nat) (hj : j < l.length) :
    Calls Tryd.prog 47 #[v, .string l[j]] w fun e w' => (∃ r : Nat, e = .returned (.int .i64 r) ∧ r ≤ j ∧ (r = j ↔ l[j] ∉ l.take j)) ∧ w' = w := by
  obtain ⟨a, cap, b, off, rfl, hc, hm, ha, hcell⟩ := h
  have HC := (show Hid _ from hcell); clear hcell
  have HA := (show Hid _ from ha); clear ha
  unfold maxLen at hm
  go_enter Tryd.func47, Tryd.ntmps47
  go_wp2_with fail
  go_loopw [5] (fun i wr => ∃ k : Nat, i = .int .i64 k ∧ k ≤ j ∧ Hid (∀ i (hi : i < l.length), i < k → l[i] ≠ l[j]) ∧ wr = w) (fun i _ => l.length - (intOf i).toNat)
  case atStart => exact ⟨0, rfl, Nat.zero_le _, fun i hi h0 => absurd h0 (Nat.not_lt_zero _), rfl⟩
  case round =>
    obtain ⟨k, rfl, hk, HK, rfl⟩ := hrel
    have hkl : k < l.length := by omega
    obtain ⟨rfl, _⟩ := HA.out (by omega)
    have c0 := (HC.out k hkl).1
    by_cases he : l[k] = l[j]
    · have HP : Hid (k = j ↔ l[j] ∉ l.take j) := by
        show k = j ↔ l[j] ∉ l.take j
        constructor
        · rintro rfl hmem
          obtain ⟨i, hi, e⟩ := List.mem_iff_getElem.1 hmem
          rw [List.length_take] at hi
          rw [List.getElem_take] at e
          exact HK.out i (by omega) (by omega) e
        · intro hno
          refine Decidable.byContradiction fun hne => hno ?_
          rw [← he]
          exact List.mem_iff_getElem.2 ⟨k, by rw [List.length_take]; omega, by rw [List.getElem_take]⟩
      rw [he] at c0
      clear he
      go_wp2_with fail
      go_ret
      exact ⟨⟨k, rfl, hk, HP.out⟩, rfl⟩
    · have hkj : k < j := by
        refine Nat.lt_of_le_of_ne hk fun e => he ?_
        subst e; rfl
      have HN : Hid (∀ i (hi : i < l.length), i < k + 1 → l[i] ≠ l[j]) := fun i hi hik => by
        by_cases e : i = k
        · subst e; exact he
        · exact HK.out i hi (by omega)
      have hbe := ne_bytes he
      clear he
      go_wp2_with fail
      exact ⟨⟨k + 1, by go_num, by omega, HN, trivial⟩, by simp [intOf]; omega⟩
end Go.Proofs.YtjpjjfgdgieapaaDoor

/-! The specification's BnfOK where there is too much. -/
namespace Go.Proofs.YtjpjjfgdgieapaaDoor
open Go.RowKit Go.Deep
set_option linter.unusedVariables false
set_option maxRecDepth 100000
set_option linter.unusedSimpArgs false

set_option maxHeartbeats 1600000 in
theorem sBnf_no {S : Nat → Prop} (d : Bn) (v0 v1 v3 : Value) (w : World) (h : BLies w S d v0 v1 v3) (hz : ¬ szB d = true) :
    Calls Tryd.prog 16 #[.agg #[v0, v1, .int .i64 d.own, v3]] w fun e w' => e = .returned (.bool false) ∧ Below w.heap.size w w' := by
  have HB := (show Hid _ from fun (x a b : Int) (w : World) => between_any x a b w)
  obtain ⟨a0, p0, rfl, hT⟩ := h.terms.form
  obtain ⟨a1, p1, rfl, hN⟩ := h.nons.form
  obtain ⟨a3, p3, rfl, hP⟩ := h.prods.form
  clear h
  simp only [szB, decide_eq_true_eq] at hz
  unfold maxLen at hT hN hP
  have HE := (show Hid _ from fun o => bel_alloc w o)
  by_cases c1 : d.terms.length ≤ 60
  · by_cases c2 : 1 ≤ d.nons.length ∧ d.nons.length ≤ 100
    · have e2 : wiB d.nons.length 1 100 = true := by simp [wiB]; omega
      by_cases c3 : 1 ≤ d.own ∧ d.own ≤ d.nons.length
      · have e3 : wiB d.own 1 d.nons.length = true := by simp [wiB]; omega
        have c4 : ¬ d.prods.length ≤ 120 := fun h4 => hz ⟨c1, c2.1, c2.2, c3.1, c3.2, h4⟩
        clear hz
        go_enter Tryd.func16, Tryd.ntmps16
        go_wp2_with fail
        refine Calls.mono (HB.out _ _ _ _) ?_
        rintro e w1 ⟨rfl, rfl⟩
        rw [e2]
        go_wp2_with fail
        refine Calls.mono (HB.out _ _ _ _) ?_
        rintro e w1 ⟨rfl, rfl⟩
        rw [e3]
        go_wp2_with fail
        go_ret
        exact ⟨rfl, HE.out _⟩
      · have e3 : wiB d.own 1 d.nons.length = false := by simp [wiB]; omega
        clear hz
        go_enter Tryd.func16, Tryd.ntmps16
        go_wp2_with fail
        refine Calls.mono (HB.out _ _ _ _) ?_
        rintro e w1 ⟨rfl, rfl⟩
        rw [e2]
        go_wp2_with fail
        refine Calls.mono (HB.out _ _ _ _) ?_
        rintro e w1 ⟨rfl, rfl⟩
        rw [e3]
        go_wp2_with fail
        go_ret
        exact ⟨rfl, HE.out _⟩
    · have e2 : wiB d.nons.length 1 100 = false := by simp [wiB]; omega
      clear hz
      go_enter Tryd.func16, Tryd.ntmps16
      go_wp2_with fail
      refine Calls.mono (HB.out _ _ _ _) ?_
      rintro e w1 ⟨rfl, rfl⟩
      rw [e2]
      go_wp2_with fail
      go_ret
      exact ⟨rfl, HE.out _⟩
  · clear hz
    go_enter Tryd.func16, Tryd.ntmps16
    go_wp2_with fail
    go_ret
    exact ⟨rfl, HE.out _⟩
end Go.Proofs.YtjpjjfgdgieapaaDoor
