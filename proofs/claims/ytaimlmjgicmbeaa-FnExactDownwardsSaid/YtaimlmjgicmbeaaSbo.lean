import Derived.Test.YtaimlmjgicmbeaaSbn
/-! The specification's BnfOK where there is too much. -/
namespace Go.Proofs.Ytaimlmjgicmbeaa
open Go.RowKit Go.Deep
set_option linter.unusedVariables false
set_option maxRecDepth 100000
set_option linter.unusedSimpArgs false

set_option maxHeartbeats 1600000 in
theorem sBnf_no {S : Nat → Prop} (d : Bn) (v0 v1 v3 : Value) (w : World) (h : BLies w S d v0 v1 v3) (hz : ¬ szB d = true) :
    Calls Try.prog 42 #[.agg #[v0, v1, .int .i64 d.own, v3]] w fun e w' => e = .returned (.bool false) ∧ Below w.heap.size w w' := by
  have HB := (show Hid _ from fun (x a b : Int) (w : World) => between_any x a b w)
  obtain ⟨a0, p0, rfl, hT⟩ := h.terms.form
  obtain ⟨a1, p1, rfl, hN⟩ := h.nons.form
  obtain ⟨a3, p3, rfl, hP⟩ := h.prods.form
  clear h
  simp only [szB, decide_eq_true_eq] at hz
  unfold maxLen at hT hN hP
  have HE := (show Hid _ from fun o => bel_alloc w o)
  by_cases c1 : d.terms.length ≤ 60
  · by_cases c2 : 1 ≤ d.nons.length ∧ d.nons.length ≤ 100
    · have e2 : wiB d.nons.length 1 100 = true := by simp [wiB]; omega
      by_cases c3 : 1 ≤ d.own ∧ d.own ≤ d.nons.length
      · have e3 : wiB d.own 1 d.nons.length = true := by simp [wiB]; omega
        have c4 : ¬ d.prods.length ≤ 120 := fun h4 => hz ⟨c1, c2.1, c2.2, c3.1, c3.2, h4⟩
        clear hz
        go_enter Try.func42, Try.ntmps42
        go_wp2_with fail
        refine Calls.mono (HB.out _ _ _ _) ?_
        rintro e w1 ⟨rfl, rfl⟩
        rw [e2]
        go_wp2_with fail
        refine Calls.mono (HB.out _ _ _ _) ?_
        rintro e w1 ⟨rfl, rfl⟩
        rw [e3]
        go_wp2_with fail
        go_ret
        exact ⟨rfl, HE.out _⟩
      · have e3 : wiB d.own 1 d.nons.length = false := by simp [wiB]; omega
        clear hz
        go_enter Try.func42, Try.ntmps42
        go_wp2_with fail
        refine Calls.mono (HB.out _ _ _ _) ?_
        rintro e w1 ⟨rfl, rfl⟩
        rw [e2]
        go_wp2_with fail
        refine Calls.mono (HB.out _ _ _ _) ?_
        rintro e w1 ⟨rfl, rfl⟩
        rw [e3]
        go_wp2_with fail
        go_ret
        exact ⟨rfl, HE.out _⟩
    · have e2 : wiB d.nons.length 1 100 = false := by simp [wiB]; omega
      clear hz
      go_enter Try.func42, Try.ntmps42
      go_wp2_with fail
      refine Calls.mono (HB.out _ _ _ _) ?_
      rintro e w1 ⟨rfl, rfl⟩
      rw [e2]
      go_wp2_with fail
      go_ret
      exact ⟨rfl, HE.out _⟩
  · clear hz
    go_enter Try.func42, Try.ntmps42
    go_wp2_with fail
    go_ret
    exact ⟨rfl, HE.out _⟩
end Go.Proofs.Ytaimlmjgicmbeaa
