import Derived.Test.YtgjnlhidbjpdkajGreatG6
/-! The program's GrammarOK. -/
namespace Go.Proofs.YtgjnlhidbjpdkajGreat
open Go.RowKit Go.Deep
set_option linter.unusedVariables false
set_option maxRecDepth 100000
set_option linter.unusedSimpArgs false

def fitB (d : DGrammar) : Bool := decide (d.tokens.length ≤ 20 ∧ d.levels.length ≤ 8 ∧ d.rules.length ≤ 30 ∧ d.parts.length ≤ 200)
def grB (d : DGrammar) : Bool := fitB d && (ownB d.name && (d.tokens.all tokB && (d.levels.all levB && (d.rules.all rulB && (d.parts.all parB && ordB d)))))

set_option maxHeartbeats 1600000 in
theorem fits_any (d : DGrammar) (a1 a2 a3 a4 : Option Addr) (p1 p2 p3 p4 : Nat) (w : World) (h1 : d.tokens.length ≤ maxLen) (h2 : d.levels.length ≤ maxLen) (h3 : d.rules.length ≤ maxLen) (h4 : d.parts.length ≤ maxLen) :
    Calls Tryz.prog 41 #[.agg #[.string d.name, .slice a1 d.tokens.length p1, .slice a2 d.levels.length p2, .slice a3 d.rules.length p3, .slice a4 d.parts.length p4]] w fun e w' => e = .returned (.bool (fitB d)) ∧ Below w.heap.size w w' := by
  have HE := (show Hid _ from fun o => bel_alloc w o)
  unfold maxLen at h1 h2 h3 h4
  unfold fitB
  generalize d.tokens.length = n1 at *
  generalize d.levels.length = n2 at *
  generalize d.rules.length = n3 at *
  generalize d.parts.length = n4 at *
  by_cases c1 : n1 ≤ 20
  · by_cases c2 : n2 ≤ 8
    · by_cases c3 : n3 ≤ 30
      · by_cases c4 : n4 ≤ 200
        · rw [decide_eq_true ⟨c1, c2, c3, c4⟩]
          go_enter Tryz.func41, Tryz.ntmps41
          go_wp2_with fail
          go_ret
          exact ⟨ret_bool (by simp; try omega), HE.out _⟩
        · rw [decide_eq_false (fun h => c4 h.2.2.2)]
          go_enter Tryz.func41, Tryz.ntmps41
          go_wp2_with fail
          go_ret
          exact ⟨ret_bool (by simp; try omega), HE.out _⟩
      · rw [decide_eq_false (fun h => c3 h.2.2.1)]
        go_enter Tryz.func41, Tryz.ntmps41
        go_wp2_with fail
        go_ret
        exact ⟨ret_bool (by simp; try omega), HE.out _⟩
    · rw [decide_eq_false (fun h => c2 h.2.1)]
      go_enter Tryz.func41, Tryz.ntmps41
      go_wp2_with fail
      go_ret
      exact ⟨ret_bool (by simp; try omega), HE.out _⟩
  · rw [decide_eq_false (fun h => c1 h.1)]
    go_enter Tryz.func41, Tryz.ntmps41
    go_wp2_with fail
    go_ret
    exact ⟨ret_bool (by simp; try omega), HE.out _⟩
set_option maxHeartbeats 1600000 in
theorem small_any (d : DGrammar) (a1 a2 a3 a4 : Option Addr) (p1 p2 p3 p4 : Nat) (w : World) (h1 : d.tokens.length ≤ maxLen) (h2 : d.levels.length ≤ maxLen) (h3 : d.rules.length ≤ maxLen) (h4 : d.parts.length ≤ maxLen) :
    Calls Tryz.prog 30 #[.agg #[.string d.name, .slice a1 d.tokens.length p1, .slice a2 d.levels.length p2, .slice a3 d.rules.length p3, .slice a4 d.parts.length p4]] w fun e w' => e = .returned (.bool (fitB d)) ∧ Below w.heap.size w w' := by
  have HE := (show Hid _ from fun o => bel_alloc w o)
  unfold maxLen at h1 h2 h3 h4
  unfold fitB
  generalize d.tokens.length = n1 at *
  generalize d.levels.length = n2 at *
  generalize d.rules.length = n3 at *
  generalize d.parts.length = n4 at *
  by_cases c1 : n1 ≤ 20
  · by_cases c2 : n2 ≤ 8
    · by_cases c3 : n3 ≤ 30
      · by_cases c4 : n4 ≤ 200
        · rw [decide_eq_true ⟨c1, c2, c3, c4⟩]
          go_enter Tryz.func30, Tryz.ntmps30
          go_wp2_with fail
          go_ret
          exact ⟨ret_bool (by simp; try omega), HE.out _⟩
        · rw [decide_eq_false (fun h => c4 h.2.2.2)]
          go_enter Tryz.func30, Tryz.ntmps30
          go_wp2_with fail
          go_ret
          exact ⟨ret_bool (by simp; try omega), HE.out _⟩
      · rw [decide_eq_false (fun h => c3 h.2.2.1)]
        go_enter Tryz.func30, Tryz.ntmps30
        go_wp2_with fail
        go_ret
        exact ⟨ret_bool (by simp; try omega), HE.out _⟩
    · rw [decide_eq_false (fun h => c2 h.2.1)]
      go_enter Tryz.func30, Tryz.ntmps30
      go_wp2_with fail
      go_ret
      exact ⟨ret_bool (by simp; try omega), HE.out _⟩
  · rw [decide_eq_false (fun h => c1 h.1)]
    go_enter Tryz.func30, Tryz.ntmps30
    go_wp2_with fail
    go_ret
    exact ⟨ret_bool (by simp; try omega), HE.out _⟩
set_option maxHeartbeats 6400000 in
theorem iGr_any {S : Nat → Prop} (d : DGrammar) (v1 v2 v3 v4 : Value) (w : World) (h : DGrammarL w S d v1 v2 v3 v4) (hnm : d.name.size ≤ maxLen) :
    Calls Tryz.prog 20 #[.agg #[.string d.name, v1, v2, v3, v4]] w fun e w' => e = .returned (.bool (grB d)) ∧ Below w.heap.size w w' := by
  have H1 := (show Hid _ from fun (w' : World) (hb : Below w.heap.size w w') => isOwn_any d.name hnm w')
  have H2 := (show Hid _ from fun (w' : World) (hb : Below w.heap.size w w') => allToken d.tokens v1 w' (h.tokens.still hb))
  have H3 := (show Hid _ from fun (w' : World) (hb : Below w.heap.size w w') => allLevel d.levels v2 w' (h.levels.still hb))
  have H4 := (show Hid _ from fun (w' : World) (hb : Below w.heap.size w w') => allRule d.rules v3 w' (h.rules.still hb))
  have H5 := (show Hid _ from fun (w' : World) (hb : Below w.heap.size w w') => allPart d.parts v4 w' (h.parts.still hb))
  have H6 := (show Hid _ from fun (w' : World) (hb : Below w.heap.size w w') (hp : d.parts.length ≤ 200) => order_any d v1 v2 v3 v4 w' (h.still hb) hp)
  obtain ⟨a1, p1, rfl, m1⟩ := h.tokens.form
  obtain ⟨a2, p2, rfl, m2⟩ := h.levels.form
  obtain ⟨a3, p3, rfl, m3⟩ := h.rules.form
  obtain ⟨a4, p4, rfl, m4⟩ := h.parts.form
  have H0 := (show Hid _ from fun (w' : World) (hb : Below w.heap.size w w') => fits_any d a1 a2 a3 a4 p1 p2 p3 p4 w' m1 m2 m3 m4)
  clear h m1 m2 m3 m4
  have HB0 := (show Hid _ from Box.new w 36 [.string d.name, .slice a1 d.tokens.length p1, .slice a2 d.levels.length p2, .slice a3 d.rules.length p3, .slice a4 d.parts.length p4])
  have HE0 := (show Hid _ from bel_alloc w (.cells ([.string d.name, .slice a1 d.tokens.length p1, .slice a2 d.levels.length p2, .slice a3 d.rules.length p3, .slice a4 d.parts.length p4] : List Value).toArray 36))
  have hfit : fitB d = true → d.parts.length ≤ 200 := fun h => (of_decide_eq_true h).2.2.2
  unfold grB
  cases hc0 : fitB d
  · rw [hc0] at H0
    clear hc0 hfit
    go_enter Tryz.func20, Tryz.ntmps20
    go_wp2_with fail
    refine Calls.mono (H0.out _ HE0.out) ?_
    rintro e x0 ⟨rfl, hb0⟩
    have HBX0 := (show Hid _ from Box.still HB0.out hb0)
    have HBE0 := (show Hid _ from bel_trans HE0.out hb0); clear hb0
    go_wp2_with fail
    go_ret
    exact ⟨by simp, HBE0.out⟩
  rw [hc0] at H0
  have HF := (show Hid _ from hfit hc0)
  clear hc0 hfit
  cases hc1 : ownB d.name
  · rw [hc1] at H1
    clear hc1
    go_enter Tryz.func20, Tryz.ntmps20
    go_wp2_with fail
    refine Calls.mono (H0.out _ HE0.out) ?_
    rintro e x0 ⟨rfl, hb0⟩
    have HBX0 := (show Hid _ from Box.still HB0.out hb0)
    have HBE0 := (show Hid _ from bel_trans HE0.out hb0); clear hb0
    have y0 : x0.cell? ⟨w.heap.size, 0, none⟩ = some (.string d.name) := HBX0.out.cell 0 (by simp)
    have y1 : x0.cell? ⟨w.heap.size, 1, none⟩ = some (.slice a1 d.tokens.length p1) := HBX0.out.cell 1 (by simp)
    have y2 : x0.cell? ⟨w.heap.size, 2, none⟩ = some (.slice a2 d.levels.length p2) := HBX0.out.cell 2 (by simp)
    have y3 : x0.cell? ⟨w.heap.size, 3, none⟩ = some (.slice a3 d.rules.length p3) := HBX0.out.cell 3 (by simp)
    have y4 : x0.cell? ⟨w.heap.size, 4, none⟩ = some (.slice a4 d.parts.length p4) := HBX0.out.cell 4 (by simp)
    go_wp2_with fail
    refine Calls.mono (H1.out _ HBE0.out) ?_
    rintro e x1 ⟨rfl, rfl⟩
    go_wp2_with fail
    go_ret
    exact ⟨by simp, HBE0.out⟩
  rw [hc1] at H1
  clear hc1
  cases hc2 : d.tokens.all tokB
  · rw [hc2] at H2
    clear hc2
    go_enter Tryz.func20, Tryz.ntmps20
    go_wp2_with fail
    refine Calls.mono (H0.out _ HE0.out) ?_
    rintro e x0 ⟨rfl, hb0⟩
    have HBX0 := (show Hid _ from Box.still HB0.out hb0)
    have HBE0 := (show Hid _ from bel_trans HE0.out hb0); clear hb0
    have y0 : x0.cell? ⟨w.heap.size, 0, none⟩ = some (.string d.name) := HBX0.out.cell 0 (by simp)
    have y1 : x0.cell? ⟨w.heap.size, 1, none⟩ = some (.slice a1 d.tokens.length p1) := HBX0.out.cell 1 (by simp)
    have y2 : x0.cell? ⟨w.heap.size, 2, none⟩ = some (.slice a2 d.levels.length p2) := HBX0.out.cell 2 (by simp)
    have y3 : x0.cell? ⟨w.heap.size, 3, none⟩ = some (.slice a3 d.rules.length p3) := HBX0.out.cell 3 (by simp)
    have y4 : x0.cell? ⟨w.heap.size, 4, none⟩ = some (.slice a4 d.parts.length p4) := HBX0.out.cell 4 (by simp)
    go_wp2_with fail
    refine Calls.mono (H1.out _ HBE0.out) ?_
    rintro e x1 ⟨rfl, rfl⟩
    go_wp2_with fail
    refine Calls.mono (H2.out _ HBE0.out) ?_
    rintro e x2 ⟨rfl, hb2⟩
    clear y0 y1 y2 y3 y4
    have HBX2 := (show Hid _ from Box.still HBX0.out hb2)
    have HBE2 := (show Hid _ from bel_trans HBE0.out hb2); clear hb2
    go_wp2_with fail
    go_ret
    exact ⟨by simp, HBE2.out⟩
  rw [hc2] at H2
  clear hc2
  cases hc3 : d.levels.all levB
  · rw [hc3] at H3
    clear hc3
    go_enter Tryz.func20, Tryz.ntmps20
    go_wp2_with fail
    refine Calls.mono (H0.out _ HE0.out) ?_
    rintro e x0 ⟨rfl, hb0⟩
    have HBX0 := (show Hid _ from Box.still HB0.out hb0)
    have HBE0 := (show Hid _ from bel_trans HE0.out hb0); clear hb0
    have y0 : x0.cell? ⟨w.heap.size, 0, none⟩ = some (.string d.name) := HBX0.out.cell 0 (by simp)
    have y1 : x0.cell? ⟨w.heap.size, 1, none⟩ = some (.slice a1 d.tokens.length p1) := HBX0.out.cell 1 (by simp)
    have y2 : x0.cell? ⟨w.heap.size, 2, none⟩ = some (.slice a2 d.levels.length p2) := HBX0.out.cell 2 (by simp)
    have y3 : x0.cell? ⟨w.heap.size, 3, none⟩ = some (.slice a3 d.rules.length p3) := HBX0.out.cell 3 (by simp)
    have y4 : x0.cell? ⟨w.heap.size, 4, none⟩ = some (.slice a4 d.parts.length p4) := HBX0.out.cell 4 (by simp)
    go_wp2_with fail
    refine Calls.mono (H1.out _ HBE0.out) ?_
    rintro e x1 ⟨rfl, rfl⟩
    go_wp2_with fail
    refine Calls.mono (H2.out _ HBE0.out) ?_
    rintro e x2 ⟨rfl, hb2⟩
    clear y0 y1 y2 y3 y4
    have HBX2 := (show Hid _ from Box.still HBX0.out hb2)
    have HBE2 := (show Hid _ from bel_trans HBE0.out hb2); clear hb2
    have y0 : x2.cell? ⟨w.heap.size, 0, none⟩ = some (.string d.name) := HBX2.out.cell 0 (by simp)
    have y1 : x2.cell? ⟨w.heap.size, 1, none⟩ = some (.slice a1 d.tokens.length p1) := HBX2.out.cell 1 (by simp)
    have y2 : x2.cell? ⟨w.heap.size, 2, none⟩ = some (.slice a2 d.levels.length p2) := HBX2.out.cell 2 (by simp)
    have y3 : x2.cell? ⟨w.heap.size, 3, none⟩ = some (.slice a3 d.rules.length p3) := HBX2.out.cell 3 (by simp)
    have y4 : x2.cell? ⟨w.heap.size, 4, none⟩ = some (.slice a4 d.parts.length p4) := HBX2.out.cell 4 (by simp)
    go_wp2_with fail
    refine Calls.mono (H3.out _ HBE2.out) ?_
    rintro e x3 ⟨rfl, hb3⟩
    clear y0 y1 y2 y3 y4
    have HBX3 := (show Hid _ from Box.still HBX2.out hb3)
    have HBE3 := (show Hid _ from bel_trans HBE2.out hb3); clear hb3
    go_wp2_with fail
    go_ret
    exact ⟨by simp, HBE3.out⟩
  rw [hc3] at H3
  clear hc3
  cases hc4 : d.rules.all rulB
  · rw [hc4] at H4
    clear hc4
    go_enter Tryz.func20, Tryz.ntmps20
    go_wp2_with fail
    refine Calls.mono (H0.out _ HE0.out) ?_
    rintro e x0 ⟨rfl, hb0⟩
    have HBX0 := (show Hid _ from Box.still HB0.out hb0)
    have HBE0 := (show Hid _ from bel_trans HE0.out hb0); clear hb0
    have y0 : x0.cell? ⟨w.heap.size, 0, none⟩ = some (.string d.name) := HBX0.out.cell 0 (by simp)
    have y1 : x0.cell? ⟨w.heap.size, 1, none⟩ = some (.slice a1 d.tokens.length p1) := HBX0.out.cell 1 (by simp)
    have y2 : x0.cell? ⟨w.heap.size, 2, none⟩ = some (.slice a2 d.levels.length p2) := HBX0.out.cell 2 (by simp)
    have y3 : x0.cell? ⟨w.heap.size, 3, none⟩ = some (.slice a3 d.rules.length p3) := HBX0.out.cell 3 (by simp)
    have y4 : x0.cell? ⟨w.heap.size, 4, none⟩ = some (.slice a4 d.parts.length p4) := HBX0.out.cell 4 (by simp)
    go_wp2_with fail
    refine Calls.mono (H1.out _ HBE0.out) ?_
    rintro e x1 ⟨rfl, rfl⟩
    go_wp2_with fail
    refine Calls.mono (H2.out _ HBE0.out) ?_
    rintro e x2 ⟨rfl, hb2⟩
    clear y0 y1 y2 y3 y4
    have HBX2 := (show Hid _ from Box.still HBX0.out hb2)
    have HBE2 := (show Hid _ from bel_trans HBE0.out hb2); clear hb2
    have y0 : x2.cell? ⟨w.heap.size, 0, none⟩ = some (.string d.name) := HBX2.out.cell 0 (by simp)
    have y1 : x2.cell? ⟨w.heap.size, 1, none⟩ = some (.slice a1 d.tokens.length p1) := HBX2.out.cell 1 (by simp)
    have y2 : x2.cell? ⟨w.heap.size, 2, none⟩ = some (.slice a2 d.levels.length p2) := HBX2.out.cell 2 (by simp)
    have y3 : x2.cell? ⟨w.heap.size, 3, none⟩ = some (.slice a3 d.rules.length p3) := HBX2.out.cell 3 (by simp)
    have y4 : x2.cell? ⟨w.heap.size, 4, none⟩ = some (.slice a4 d.parts.length p4) := HBX2.out.cell 4 (by simp)
    go_wp2_with fail
    refine Calls.mono (H3.out _ HBE2.out) ?_
    rintro e x3 ⟨rfl, hb3⟩
    clear y0 y1 y2 y3 y4
    have HBX3 := (show Hid _ from Box.still HBX2.out hb3)
    have HBE3 := (show Hid _ from bel_trans HBE2.out hb3); clear hb3
    have y0 : x3.cell? ⟨w.heap.size, 0, none⟩ = some (.string d.name) := HBX3.out.cell 0 (by simp)
    have y1 : x3.cell? ⟨w.heap.size, 1, none⟩ = some (.slice a1 d.tokens.length p1) := HBX3.out.cell 1 (by simp)
    have y2 : x3.cell? ⟨w.heap.size, 2, none⟩ = some (.slice a2 d.levels.length p2) := HBX3.out.cell 2 (by simp)
    have y3 : x3.cell? ⟨w.heap.size, 3, none⟩ = some (.slice a3 d.rules.length p3) := HBX3.out.cell 3 (by simp)
    have y4 : x3.cell? ⟨w.heap.size, 4, none⟩ = some (.slice a4 d.parts.length p4) := HBX3.out.cell 4 (by simp)
    go_wp2_with fail
    refine Calls.mono (H4.out _ HBE3.out) ?_
    rintro e x4 ⟨rfl, hb4⟩
    clear y0 y1 y2 y3 y4
    have HBX4 := (show Hid _ from Box.still HBX3.out hb4)
    have HBE4 := (show Hid _ from bel_trans HBE3.out hb4); clear hb4
    go_wp2_with fail
    go_ret
    exact ⟨by simp, HBE4.out⟩
  rw [hc4] at H4
  clear hc4
  cases hc5 : d.parts.all parB
  · rw [hc5] at H5
    clear hc5
    go_enter Tryz.func20, Tryz.ntmps20
    go_wp2_with fail
    refine Calls.mono (H0.out _ HE0.out) ?_
    rintro e x0 ⟨rfl, hb0⟩
    have HBX0 := (show Hid _ from Box.still HB0.out hb0)
    have HBE0 := (show Hid _ from bel_trans HE0.out hb0); clear hb0
    have y0 : x0.cell? ⟨w.heap.size, 0, none⟩ = some (.string d.name) := HBX0.out.cell 0 (by simp)
    have y1 : x0.cell? ⟨w.heap.size, 1, none⟩ = some (.slice a1 d.tokens.length p1) := HBX0.out.cell 1 (by simp)
    have y2 : x0.cell? ⟨w.heap.size, 2, none⟩ = some (.slice a2 d.levels.length p2) := HBX0.out.cell 2 (by simp)
    have y3 : x0.cell? ⟨w.heap.size, 3, none⟩ = some (.slice a3 d.rules.length p3) := HBX0.out.cell 3 (by simp)
    have y4 : x0.cell? ⟨w.heap.size, 4, none⟩ = some (.slice a4 d.parts.length p4) := HBX0.out.cell 4 (by simp)
    go_wp2_with fail
    refine Calls.mono (H1.out _ HBE0.out) ?_
    rintro e x1 ⟨rfl, rfl⟩
    go_wp2_with fail
    refine Calls.mono (H2.out _ HBE0.out) ?_
    rintro e x2 ⟨rfl, hb2⟩
    clear y0 y1 y2 y3 y4
    have HBX2 := (show Hid _ from Box.still HBX0.out hb2)
    have HBE2 := (show Hid _ from bel_trans HBE0.out hb2); clear hb2
    have y0 : x2.cell? ⟨w.heap.size, 0, none⟩ = some (.string d.name) := HBX2.out.cell 0 (by simp)
    have y1 : x2.cell? ⟨w.heap.size, 1, none⟩ = some (.slice a1 d.tokens.length p1) := HBX2.out.cell 1 (by simp)
    have y2 : x2.cell? ⟨w.heap.size, 2, none⟩ = some (.slice a2 d.levels.length p2) := HBX2.out.cell 2 (by simp)
    have y3 : x2.cell? ⟨w.heap.size, 3, none⟩ = some (.slice a3 d.rules.length p3) := HBX2.out.cell 3 (by simp)
    have y4 : x2.cell? ⟨w.heap.size, 4, none⟩ = some (.slice a4 d.parts.length p4) := HBX2.out.cell 4 (by simp)
    go_wp2_with fail
    refine Calls.mono (H3.out _ HBE2.out) ?_
    rintro e x3 ⟨rfl, hb3⟩
    clear y0 y1 y2 y3 y4
    have HBX3 := (show Hid _ from Box.still HBX2.out hb3)
    have HBE3 := (show Hid _ from bel_trans HBE2.out hb3); clear hb3
    have y0 : x3.cell? ⟨w.heap.size, 0, none⟩ = some (.string d.name) := HBX3.out.cell 0 (by simp)
    have y1 : x3.cell? ⟨w.heap.size, 1, none⟩ = some (.slice a1 d.tokens.length p1) := HBX3.out.cell 1 (by simp)
    have y2 : x3.cell? ⟨w.heap.size, 2, none⟩ = some (.slice a2 d.levels.length p2) := HBX3.out.cell 2 (by simp)
    have y3 : x3.cell? ⟨w.heap.size, 3, none⟩ = some (.slice a3 d.rules.length p3) := HBX3.out.cell 3 (by simp)
    have y4 : x3.cell? ⟨w.heap.size, 4, none⟩ = some (.slice a4 d.parts.length p4) := HBX3.out.cell 4 (by simp)
    go_wp2_with fail
    refine Calls.mono (H4.out _ HBE3.out) ?_
    rintro e x4 ⟨rfl, hb4⟩
    clear y0 y1 y2 y3 y4
    have HBX4 := (show Hid _ from Box.still HBX3.out hb4)
    have HBE4 := (show Hid _ from bel_trans HBE3.out hb4); clear hb4
    have y0 : x4.cell? ⟨w.heap.size, 0, none⟩ = some (.string d.name) := HBX4.out.cell 0 (by simp)
    have y1 : x4.cell? ⟨w.heap.size, 1, none⟩ = some (.slice a1 d.tokens.length p1) := HBX4.out.cell 1 (by simp)
    have y2 : x4.cell? ⟨w.heap.size, 2, none⟩ = some (.slice a2 d.levels.length p2) := HBX4.out.cell 2 (by simp)
    have y3 : x4.cell? ⟨w.heap.size, 3, none⟩ = some (.slice a3 d.rules.length p3) := HBX4.out.cell 3 (by simp)
    have y4 : x4.cell? ⟨w.heap.size, 4, none⟩ = some (.slice a4 d.parts.length p4) := HBX4.out.cell 4 (by simp)
    go_wp2_with fail
    refine Calls.mono (H5.out _ HBE4.out) ?_
    rintro e x5 ⟨rfl, hb5⟩
    clear y0 y1 y2 y3 y4
    have HBX5 := (show Hid _ from Box.still HBX4.out hb5)
    have HBE5 := (show Hid _ from bel_trans HBE4.out hb5); clear hb5
    go_wp2_with fail
    go_ret
    exact ⟨by simp, HBE5.out⟩
  rw [hc5] at H5
  clear hc5
  generalize ordB d = K at *
  go_enter Tryz.func20, Tryz.ntmps20
  go_wp2_with fail
  refine Calls.mono (H0.out _ HE0.out) ?_
  rintro e x0 ⟨rfl, hb0⟩
  have HBX0 := (show Hid _ from Box.still HB0.out hb0)
  have HBE0 := (show Hid _ from bel_trans HE0.out hb0); clear hb0
  have y0 : x0.cell? ⟨w.heap.size, 0, none⟩ = some (.string d.name) := HBX0.out.cell 0 (by simp)
  have y1 : x0.cell? ⟨w.heap.size, 1, none⟩ = some (.slice a1 d.tokens.length p1) := HBX0.out.cell 1 (by simp)
  have y2 : x0.cell? ⟨w.heap.size, 2, none⟩ = some (.slice a2 d.levels.length p2) := HBX0.out.cell 2 (by simp)
  have y3 : x0.cell? ⟨w.heap.size, 3, none⟩ = some (.slice a3 d.rules.length p3) := HBX0.out.cell 3 (by simp)
  have y4 : x0.cell? ⟨w.heap.size, 4, none⟩ = some (.slice a4 d.parts.length p4) := HBX0.out.cell 4 (by simp)
  go_wp2_with fail
  refine Calls.mono (H1.out _ HBE0.out) ?_
  rintro e x1 ⟨rfl, rfl⟩
  go_wp2_with fail
  refine Calls.mono (H2.out _ HBE0.out) ?_
  rintro e x2 ⟨rfl, hb2⟩
  clear y0 y1 y2 y3 y4
  have HBX2 := (show Hid _ from Box.still HBX0.out hb2)
  have HBE2 := (show Hid _ from bel_trans HBE0.out hb2); clear hb2
  have y0 : x2.cell? ⟨w.heap.size, 0, none⟩ = some (.string d.name) := HBX2.out.cell 0 (by simp)
  have y1 : x2.cell? ⟨w.heap.size, 1, none⟩ = some (.slice a1 d.tokens.length p1) := HBX2.out.cell 1 (by simp)
  have y2 : x2.cell? ⟨w.heap.size, 2, none⟩ = some (.slice a2 d.levels.length p2) := HBX2.out.cell 2 (by simp)
  have y3 : x2.cell? ⟨w.heap.size, 3, none⟩ = some (.slice a3 d.rules.length p3) := HBX2.out.cell 3 (by simp)
  have y4 : x2.cell? ⟨w.heap.size, 4, none⟩ = some (.slice a4 d.parts.length p4) := HBX2.out.cell 4 (by simp)
  go_wp2_with fail
  refine Calls.mono (H3.out _ HBE2.out) ?_
  rintro e x3 ⟨rfl, hb3⟩
  clear y0 y1 y2 y3 y4
  have HBX3 := (show Hid _ from Box.still HBX2.out hb3)
  have HBE3 := (show Hid _ from bel_trans HBE2.out hb3); clear hb3
  have y0 : x3.cell? ⟨w.heap.size, 0, none⟩ = some (.string d.name) := HBX3.out.cell 0 (by simp)
  have y1 : x3.cell? ⟨w.heap.size, 1, none⟩ = some (.slice a1 d.tokens.length p1) := HBX3.out.cell 1 (by simp)
  have y2 : x3.cell? ⟨w.heap.size, 2, none⟩ = some (.slice a2 d.levels.length p2) := HBX3.out.cell 2 (by simp)
  have y3 : x3.cell? ⟨w.heap.size, 3, none⟩ = some (.slice a3 d.rules.length p3) := HBX3.out.cell 3 (by simp)
  have y4 : x3.cell? ⟨w.heap.size, 4, none⟩ = some (.slice a4 d.parts.length p4) := HBX3.out.cell 4 (by simp)
  go_wp2_with fail
  refine Calls.mono (H4.out _ HBE3.out) ?_
  rintro e x4 ⟨rfl, hb4⟩
  clear y0 y1 y2 y3 y4
  have HBX4 := (show Hid _ from Box.still HBX3.out hb4)
  have HBE4 := (show Hid _ from bel_trans HBE3.out hb4); clear hb4
  have y0 : x4.cell? ⟨w.heap.size, 0, none⟩ = some (.string d.name) := HBX4.out.cell 0 (by simp)
  have y1 : x4.cell? ⟨w.heap.size, 1, none⟩ = some (.slice a1 d.tokens.length p1) := HBX4.out.cell 1 (by simp)
  have y2 : x4.cell? ⟨w.heap.size, 2, none⟩ = some (.slice a2 d.levels.length p2) := HBX4.out.cell 2 (by simp)
  have y3 : x4.cell? ⟨w.heap.size, 3, none⟩ = some (.slice a3 d.rules.length p3) := HBX4.out.cell 3 (by simp)
  have y4 : x4.cell? ⟨w.heap.size, 4, none⟩ = some (.slice a4 d.parts.length p4) := HBX4.out.cell 4 (by simp)
  go_wp2_with fail
  refine Calls.mono (H5.out _ HBE4.out) ?_
  rintro e x5 ⟨rfl, hb5⟩
  clear y0 y1 y2 y3 y4
  have HBX5 := (show Hid _ from Box.still HBX4.out hb5)
  have HBE5 := (show Hid _ from bel_trans HBE4.out hb5); clear hb5
  have y0 : x5.cell? ⟨w.heap.size, 0, none⟩ = some (.string d.name) := HBX5.out.cell 0 (by simp)
  have y1 : x5.cell? ⟨w.heap.size, 1, none⟩ = some (.slice a1 d.tokens.length p1) := HBX5.out.cell 1 (by simp)
  have y2 : x5.cell? ⟨w.heap.size, 2, none⟩ = some (.slice a2 d.levels.length p2) := HBX5.out.cell 2 (by simp)
  have y3 : x5.cell? ⟨w.heap.size, 3, none⟩ = some (.slice a3 d.rules.length p3) := HBX5.out.cell 3 (by simp)
  have y4 : x5.cell? ⟨w.heap.size, 4, none⟩ = some (.slice a4 d.parts.length p4) := HBX5.out.cell 4 (by simp)
  go_wp2_with fail
  refine Calls.mono (H6.out _ HBE5.out (HF.out)) ?_
  rintro e x6 ⟨rfl, hb6⟩
  clear y0 y1 y2 y3 y4
  have HBX6 := (show Hid _ from Box.still HBX5.out hb6)
  have HBE6 := (show Hid _ from bel_trans HBE5.out hb6); clear hb6
  go_wp2_with fail
  go_ret
  exact ⟨by cases K <;> rfl, HBE6.out⟩
end Go.Proofs.YtgjnlhidbjpdkajGreat
