import Derived.Test.YtaimlmjgicmbeaaIbt
namespace Go.Proofs.Ytaimlmjgicmbeaa
open Go.RowKit Go.Deep
set_option linter.unusedVariables false
set_option maxRecDepth 100000
set_option linter.unusedSimpArgs false

set_option maxHeartbeats 1600000 in
/-- What the program's BnfOK answers. -/
theorem iBnf_any {S : Nat → Prop} (d : Bn) (v0 v1 v3 : Value) (w : World) (h : BLies w S d v0 v1 v3) :
    Calls Try.prog 48 #[.agg #[v0, v1, .int .i64 d.own, v3]] w fun e w' => e = .returned (.bool (bnB d)) ∧ Below w.heap.size w w' := by
  have hQ := Box4.new w 34 v0 v1 (.int .i64 d.own) v3
  have hT := h.terms.form
  have hN := h.nons.form
  have hP := h.prods.form
  obtain ⟨a0, p0, rfl, hT⟩ := hT
  obtain ⟨a1, p1, rfl, hN⟩ := hN
  obtain ⟨a3, p3, rfl, hP⟩ := hP
  have hb0 := bel_alloc w (.cells #[.slice a0 d.terms.length p0, .slice a1 d.nons.length p1, .int .i64 d.own, .slice a3 d.prods.length p3] 34)
  have HH := (show Hid _ from (⟨h.still hb0, hQ, hb0⟩ : _ ∧ _ ∧ _)); clear h hQ hb0
  unfold maxLen at hT hN hP
  by_cases hz : szB d = true
  · have hz' := hz
    simp only [szB, decide_eq_true_eq] at hz'
    obtain ⟨k1, k2, k3, k4, k5, k6⟩ := hz'
    have hE : bnB d = ((d.terms.all (fun t => stB t.lev t.asc) && apB (d.terms.map (·.name))) && (apB d.nons && d.prods.all (pdB d.terms.length d.nons.length))) := by unfold bnB; rw [hz, Bool.true_and]
    rw [hE]
    clear hE hz
    have HT := (show Hid _ from termsRight_any _ _ _ HH.out.1.terms k1)
    have HA := (show Hid _ from fun (w' : World) (hb : Below (w.alloc (.cells #[.slice a0 d.terms.length p0, .slice a1 d.nons.length p1, .int .i64 d.own, .slice a3 d.prods.length p3] 34)).heap.size (w.alloc (.cells #[.slice a0 d.terms.length p0, .slice a1 d.nons.length p1, .int .i64 d.own, .slice a3 d.prods.length p3] 34)) w') => apart_any _ _ w' (HH.out.1.nons.still hb) (by omega))
    have HL := (show Hid _ from fun (w' : World) (hb : Below (w.alloc (.cells #[.slice a0 d.terms.length p0, .slice a1 d.nons.length p1, .int .i64 d.own, .slice a3 d.prods.length p3] 34)).heap.size (w.alloc (.cells #[.slice a0 d.terms.length p0, .slice a1 d.nons.length p1, .int .i64 d.own, .slice a3 d.prods.length p3] 34)) w') => all_any d _ _ _ w' w.heap.size (HH.out.1.still hb) (HH.out.2.1.still hb) k1 k3)
    generalize (d.terms.all (fun t => stB t.lev t.asc) && apB (d.terms.map (·.name))) = B1 at *
    generalize apB d.nons = B2 at *
    generalize d.prods.all (pdB d.terms.length d.nons.length) = B3 at *
    cases B1
    · go_enter Try.func48, Try.ntmps48
      go_wp2_with fail
      refine Calls.mono HT.out ?_
      rintro e w1 ⟨rfl, hb1⟩
      have HB1 := (show Hid _ from bel_trans HH.out.2.2 hb1); clear hb1
      go_wp2_with fail
      go_ret
      exact ⟨rfl, HB1.out⟩
    · go_enter Try.func48, Try.ntmps48
      go_wp2_with fail
      refine Calls.mono HT.out ?_
      rintro e w1 ⟨rfl, hb1⟩
      obtain ⟨x0, x1, x2, x3⟩ := (HH.out.2.1.still hb1).cells
      have HB1 := (show Hid _ from hb1); clear hb1
      cases B2
      · go_wp2_with fail
        refine Calls.mono (HA.out _ HB1.out) ?_
        rintro e w2 ⟨rfl, hb2⟩
        have HB2 := (show Hid _ from bel_trans HH.out.2.2 (bel_trans HB1.out hb2)); clear hb2 x0 x1 x2 x3
        go_wp2_with fail
        go_ret
        exact ⟨rfl, HB2.out⟩
      · go_wp2_with fail
        refine Calls.mono (HA.out _ HB1.out) ?_
        rintro e w2 ⟨rfl, hb2⟩
        clear x0 x1 x2 x3
        obtain ⟨x0, x1, x2, x3⟩ := ((HH.out.2.1.still HB1.out).still hb2).cells
        have HB2 := (show Hid _ from bel_trans HB1.out hb2); clear hb2
        go_wp2_with fail
        refine Calls.mono (HL.out _ HB2.out) ?_
        rintro e w3 ⟨rfl, hb3⟩
        have HB3 := (show Hid _ from bel_trans HH.out.2.2 (bel_trans HB2.out hb3)); clear hb3 x0 x1 x2 x3
        go_wp2_with fail
        go_ret
        exact ⟨by cases B3 <;> rfl, HB3.out⟩
  · have hE : bnB d = false := by unfold bnB; rw [Bool.eq_false_iff.2 hz, Bool.false_and]
    rw [hE]
    simp only [szB, decide_eq_true_eq] at hz
    clear hE
    by_cases c1 : d.terms.length ≤ 60
    · by_cases c2 : d.nons.length ≤ 100
      · by_cases c3 : d.prods.length ≤ 120
        · by_cases c4 : 1 ≤ d.own
          · have c5 : ¬ d.own ≤ d.nons.length := fun h5 => hz ⟨c1, by omega, c2, c4, h5, c3⟩
            clear hz
            go_enter Try.func48, Try.ntmps48
            go_wp2_with fail
            go_ret
            exact ⟨rfl, HH.out.2.2⟩
          · clear hz
            go_enter Try.func48, Try.ntmps48
            go_wp2_with fail
            go_ret
            exact ⟨rfl, HH.out.2.2⟩
        · clear hz
          go_enter Try.func48, Try.ntmps48
          go_wp2_with fail
          go_ret
          exact ⟨rfl, HH.out.2.2⟩
      · clear hz
        go_enter Try.func48, Try.ntmps48
        go_wp2_with fail
        go_ret
        exact ⟨rfl, HH.out.2.2⟩
    · clear hz
      go_enter Try.func48, Try.ntmps48
      go_wp2_with fail
      go_ret
      exact ⟨rfl, HH.out.2.2⟩
end Go.Proofs.Ytaimlmjgicmbeaa
