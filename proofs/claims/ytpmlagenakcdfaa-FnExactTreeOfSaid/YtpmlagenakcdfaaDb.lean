import Derived.Test.YtpmlagenakcdfaaIbt
import Derived.Test.YtpmlagenakcdfaaSbp
import Derived.Test.YtpmlagenakcdfaaSbq
namespace Go.Proofs.Ytpmlagenakcdfaa
open Go.RowKit Go.Deep
set_option linter.unusedVariables false
set_option maxRecDepth 100000
set_option linter.unusedSimpArgs false

set_option maxHeartbeats 1600000 in
/-- What the program's BnfOK answers. -/
theorem iBnf_any {S : Nat → Prop} (d : Bn) (v0 v1 v3 : Value) (w : World) (h : BLies w S d v0 v1 v3) :
    Calls Try.prog 73 #[.agg #[v0, v1, .int .i64 d.own, v3]] w fun e w' => e = .returned (.bool (bnB d)) ∧ Below w.heap.size w w' := by
  have hQ := Box4.new w 34 v0 v1 (.int .i64 d.own) v3
  have hT := h.terms.form
  have hN := h.nons.form
  have hP := h.prods.form
  obtain ⟨a0, p0, rfl, hT⟩ := hT
  obtain ⟨a1, p1, rfl, hN⟩ := hN
  obtain ⟨a3, p3, rfl, hP⟩ := hP
  have hb0 := bel_alloc w (.cells #[.slice a0 d.terms.length p0, .slice a1 d.nons.length p1, .int .i64 d.own, .slice a3 d.prods.length p3] 34)
  have HH := (show Hid _ from (⟨h.still hb0, hQ, hb0⟩ : _ ∧ _ ∧ _)); clear h hQ hb0
  unfold maxLen at hT hN hP
  by_cases hz : szB d = true
  · have hz' := hz
    simp only [szB, decide_eq_true_eq] at hz'
    obtain ⟨k1, k2, k3, k4, k5, k6⟩ := hz'
    have hE : bnB d = ((d.terms.all (fun t => stB t.lev t.asc) && apB (d.terms.map (·.name))) && (apB d.nons && d.prods.all (pdB d.terms.length d.nons.length))) := by unfold bnB; rw [hz, Bool.true_and]
    rw [hE]
    clear hE hz
    have HT := (show Hid _ from termsRight_any _ _ _ HH.out.1.terms k1)
    have HA := (show Hid _ from fun (w' : World) (hb : Below (w.alloc (.cells #[.slice a0 d.terms.length p0, .slice a1 d.nons.length p1, .int .i64 d.own, .slice a3 d.prods.length p3] 34)).heap.size (w.alloc (.cells #[.slice a0 d.terms.length p0, .slice a1 d.nons.length p1, .int .i64 d.own, .slice a3 d.prods.length p3] 34)) w') => apart_any _ _ w' (HH.out.1.nons.still hb) (by omega))
    have HL := (show Hid _ from fun (w' : World) (hb : Below (w.alloc (.cells #[.slice a0 d.terms.length p0, .slice a1 d.nons.length p1, .int .i64 d.own, .slice a3 d.prods.length p3] 34)).heap.size (w.alloc (.cells #[.slice a0 d.terms.length p0, .slice a1 d.nons.length p1, .int .i64 d.own, .slice a3 d.prods.length p3] 34)) w') => all_any d _ _ _ w' w.heap.size (HH.out.1.still hb) (HH.out.2.1.still hb) k1 k3)
    generalize (d.terms.all (fun t => stB t.lev t.asc) && apB (d.terms.map (·.name))) = B1 at *
    generalize apB d.nons = B2 at *
    generalize d.prods.all (pdB d.terms.length d.nons.length) = B3 at *
    cases B1
    · go_enter Try.func73, Try.ntmps73
      go_wp2_with fail
      refine Calls.mono HT.out ?_
      rintro e w1 ⟨rfl, hb1⟩
      have HB1 := (show Hid _ from bel_trans HH.out.2.2 hb1); clear hb1
      go_wp2_with fail
      go_ret
      exact ⟨rfl, HB1.out⟩
    · go_enter Try.func73, Try.ntmps73
      go_wp2_with fail
      refine Calls.mono HT.out ?_
      rintro e w1 ⟨rfl, hb1⟩
      obtain ⟨x0, x1, x2, x3⟩ := (HH.out.2.1.still hb1).cells
      have HB1 := (show Hid _ from hb1); clear hb1
      cases B2
      · go_wp2_with fail
        refine Calls.mono (HA.out _ HB1.out) ?_
        rintro e w2 ⟨rfl, hb2⟩
        have HB2 := (show Hid _ from bel_trans HH.out.2.2 (bel_trans HB1.out hb2)); clear hb2 x0 x1 x2 x3
        go_wp2_with fail
        go_ret
        exact ⟨rfl, HB2.out⟩
      · go_wp2_with fail
        refine Calls.mono (HA.out _ HB1.out) ?_
        rintro e w2 ⟨rfl, hb2⟩
        clear x0 x1 x2 x3
        obtain ⟨x0, x1, x2, x3⟩ := ((HH.out.2.1.still HB1.out).still hb2).cells
        have HB2 := (show Hid _ from bel_trans HB1.out hb2); clear hb2
        go_wp2_with fail
        refine Calls.mono (HL.out _ HB2.out) ?_
        rintro e w3 ⟨rfl, hb3⟩
        have HB3 := (show Hid _ from bel_trans HH.out.2.2 (bel_trans HB2.out hb3)); clear hb3 x0 x1 x2 x3
        go_wp2_with fail
        go_ret
        exact ⟨by cases B3 <;> rfl, HB3.out⟩
  · have hE : bnB d = false := by unfold bnB; rw [Bool.eq_false_iff.2 hz, Bool.false_and]
    rw [hE]
    simp only [szB, decide_eq_true_eq] at hz
    clear hE
    by_cases c1 : d.terms.length ≤ 60
    · by_cases c2 : d.nons.length ≤ 100
      · by_cases c3 : d.prods.length ≤ 120
        · by_cases c4 : 1 ≤ d.own
          · have c5 : ¬ d.own ≤ d.nons.length := fun h5 => hz ⟨c1, by omega, c2, c4, h5, c3⟩
            clear hz
            go_enter Try.func73, Try.ntmps73
            go_wp2_with fail
            go_ret
            exact ⟨rfl, HH.out.2.2⟩
          · clear hz
            go_enter Try.func73, Try.ntmps73
            go_wp2_with fail
            go_ret
            exact ⟨rfl, HH.out.2.2⟩
        · clear hz
          go_enter Try.func73, Try.ntmps73
          go_wp2_with fail
          go_ret
          exact ⟨rfl, HH.out.2.2⟩
      · clear hz
        go_enter Try.func73, Try.ntmps73
        go_wp2_with fail
        go_ret
        exact ⟨rfl, HH.out.2.2⟩
    · clear hz
      go_enter Try.func73, Try.ntmps73
      go_wp2_with fail
      go_ret
      exact ⟨rfl, HH.out.2.2⟩
end Go.Proofs.Ytpmlagenakcdfaa

/-! Small functions: codes, Nons, levels. -/
namespace Go.Proofs.Ytpmlagenakcdfaa
open Go.RowKit Go.Deep
set_option linter.unusedVariables false
set_option maxRecDepth 100000
set_option linter.unusedSimpArgs false

theorem sBnf_all {S : Nat → Prop} (d : Bn) (v0 v1 v3 : Value) (w : World) (h : BLies w S d v0 v1 v3) :
    Calls Try.prog 65 #[.agg #[v0, v1, .int .i64 d.own, v3]] w fun e w' => e = .returned (.bool (bnB d)) ∧ Below w.heap.size w w' := by
  cases hz : szB d
  · have : bnB d = false := by unfold bnB; rw [hz]; rfl
    rw [this]
    exact sBnf_no d v0 v1 v3 w h (by rw [hz]; simp)
  · exact sBnf_yes d v0 v1 v3 w h hz

/-- l04Non. -/
theorem non_s (a0 : Option Addr) (n0 c0 : Nat) (v1 v2 v3 : Value) (x : Int) (w : World) (h0 : 0 ≤ x) (h1 : x ≤ 1000) (hn : n0 ≤ 1000) :
    Calls Try.prog 68 #[.agg #[.slice a0 n0 c0, v1, v2, v3], .int .i64 x] w fun e w' => e = .returned (.int .i64 (x - n0)) ∧ w' = w.alloc (.cells #[.slice a0 n0 c0, v1, v2, v3] 34) := by
  go_enter Try.func68, Try.ntmps68
  go_wp2_with fail
  go_ret
  exact ⟨rfl, rfl⟩
/-- hasNon. -/
theorem hasNon_i (v0 : Value) (a1 : Option Addr) (n1 c1 : Nat) (v2 v3 : Value) (x : Int) (w : World) (hn : n1 ≤ 1000) :
    Calls Try.prog 74 #[.agg #[v0, .slice a1 n1 c1, v2, v3], .int .i64 x] w fun e w' => e = .returned (.bool (wiB x 0 ((n1 : Int) - 1))) ∧ w' = w.alloc (.cells #[v0, .slice a1 n1 c1, v2, v3] 34) := by
  by_cases h1 : 0 ≤ x <;> by_cases h2 : x < n1
  all_goals
    go_enter Try.func74, Try.ntmps74
    go_wp2_with fail
    go_ret
    exact ⟨ret_bool (by simp [wiB]; try omega), rfl⟩
set_option maxHeartbeats 800000 in
/-- isTooWeak. -/
theorem weak_i (q p : Pd) (vq vp : Value) (side : Int) (w : World) :
    Calls Try.prog 78 #[.agg #[.int .i64 q.left, vq, .string q.label, .int .i64 q.lev, .int .i64 q.asc], .agg #[.int .i64 p.left, vp, .string p.label, .int .i64 p.lev, .int .i64 p.asc], .int .i64 side] w fun e w' => e = .returned (.bool (wk q p side)) ∧ Below w.heap.size w w' := by
  obtain ⟨ql, qr, qb, qv, qa⟩ := q
  obtain ⟨pl, pr, pb, pv, pa⟩ := p
  have hbel : Below w.heap.size w ((w.alloc (.cells #[.int .i64 ql, vq, .string qb, .int .i64 qv, .int .i64 qa] 114)).alloc (.cells #[.int .i64 pl, vp, .string pb, .int .i64 pv, .int .i64 pa] 114)) := bel_trans (bel_alloc _ _) (bel_alloc _ _)
  have HB := (show Hid _ from hbel); clear hbel
  dsimp only
  by_cases h1 : ql = pl
  · subst h1
    by_cases h2 : qv = 0
    · subst h2
      go_enter Try.func78, Try.ntmps78
      go_wp2_with fail
      go_ret
      exact ⟨ret_bool (by simp [wk]), HB.out⟩
    · by_cases h3 : qv = pv
      · subst h3
        go_enter Try.func78, Try.ntmps78
        go_wp2_with fail
        go_ret
        exact ⟨ret_bool (by (simp [wk, h2, bne]; rfl)), HB.out⟩
      · go_enter Try.func78, Try.ntmps78
        go_wp2_with fail
        go_ret
        exact ⟨ret_bool (by simp [wk, h2, h3]), HB.out⟩
  · go_enter Try.func78, Try.ntmps78
    go_wp2_with fail
    go_ret
    exact ⟨ret_bool (by simp [wk, h1]), HB.out⟩
/-- The codes of Yield. -/
def cdR (d : Bn) (non : Int) (n : Nat) : Int := if bnB d = false ∨ 4000 < n then 1 else if wiB non 0 ((d.nons.length : Int) - 1) = false then 4 else 0
theorem szB_of {d : Bn} (h : bnB d = true) : d.terms.length ≤ 60 ∧ 1 ≤ d.nons.length ∧ d.nons.length ≤ 100 ∧ 1 ≤ d.own ∧ d.own ≤ d.nons.length ∧ d.prods.length ≤ 120 := by
  unfold bnB at h
  simp only [Bool.and_eq_true] at h
  have h := h.1
  unfold szB at h
  simpa using h
set_option maxHeartbeats 1600000 in
/-- l06Codes. -/
theorem codes_s {S : Nat → Prop} (d : Bn) (v0 v1 v3 : Value) (non : Int) (ad : Option Addr) (n cd : Nat) (w : World) (h : BLies w S d v0 v1 v3) (hn : n ≤ maxLen) :
    Calls Try.prog 30 #[.agg #[v0, v1, .int .i64 d.own, v3], .int .i64 non, .slice ad n cd] w fun e w' => e = .returned (.int .i64 (cdR d non n)) ∧ Below w.heap.size w w' := by
  have hb0 := bel_alloc w (.cells #[v0, v1, .int .i64 d.own, v3] 34)
  have HBN := (show Hid _ from sBnf_all d _ _ _ _ (h.still hb0))
  obtain ⟨a0, c0, a1, c1, a3, c3, rfl, rfl, rfl⟩ := h.form
  have hm1 : d.nons.length ≤ maxLen := by obtain ⟨_, _, _, hh⟩ := h.nons.form; exact hh
  have HB := (show Hid _ from fun (x a b : Int) (w : World) => between_any x a b w)
  have HB0 := (show Hid _ from hb0)
  have hB4 := Box4.new w 34 (.slice a0 d.terms.length c0) (.slice a1 d.nons.length c1) (.int .i64 d.own) (.slice a3 d.prods.length c3)
  have HB4 := (show Hid _ from hB4)
  obtain ⟨p0, p1, p2, p3⟩ := hB4.cells
  unfold maxLen at hn hm1
  have HR := (show Hid (cdR d non n = if bnB d = false ∨ 4000 < n then 1 else if wiB non 0 ((d.nons.length : Int) - 1) = false then 4 else 0) from rfl)
  clear h hb0 hB4
  go_enter Try.func30, Try.ntmps30
  go_wp2_with fail
  refine Calls.mono HBN.out ?_
  rintro e w1 ⟨rfl, hb1⟩
  have HB1 := (show Hid _ from bel_trans HB0.out hb1)
  obtain ⟨_, q1, _, _⟩ := (HB4.out.still hb1).cells
  clear hb1 p0 p1 p2 p3
  cases hbn : bnB d
  · go_wp2_with fail
    go_ret
    exact ⟨by rw [HR.out, if_pos (.inl hbn)]; rfl, HB1.out⟩
  · by_cases h4 : 4000 < n
    · go_wp2_with fail
      go_ret
      exact ⟨by rw [HR.out, if_pos (.inr h4)]; rfl, HB1.out⟩
    · have HN := (show Hid _ from (fun h => by rcases h with h | h; (rw [hbn] at h; cases h); (exact h4 h) : ¬ (bnB d = false ∨ 4000 < n)))
      have h5 : n ≤ 4000 := by omega
      go_wp2_with fail
      refine Calls.mono (HB.out _ _ _ _) ?_
      rintro e w2 ⟨rfl, rfl⟩
      cases hw : wiB non 0 ((d.nons.length : Int) - 1)
      · go_wp2_with fail
        go_ret
        exact ⟨by rw [HR.out, if_neg HN.out, if_pos hw]; rfl, HB1.out⟩
      · go_wp2_with fail
        go_ret
        exact ⟨by rw [HR.out, if_neg HN.out, if_neg (by rw [hw]; simp)]; rfl, HB1.out⟩
end Go.Proofs.Ytpmlagenakcdfaa
