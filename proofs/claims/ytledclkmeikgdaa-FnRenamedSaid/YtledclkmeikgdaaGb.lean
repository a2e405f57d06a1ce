import Derived.Test.YtledclkmeikgdaaGa
import Derived.Laws.EntriesVeiled
/-! Scopes that are right: the program. -/
namespace Go.Proofs.Ytledclkmeikgdaa
open Go.RowKit Go.Deep
set_option linter.unusedVariables false
set_option maxRecDepth 100000
set_option linter.unusedSimpArgs false

theorem scope42 (n s : Int) (p : Nat) (w : World) (c0 : w.cell? ⟨p, 0, none⟩ = some (.int .i64 n)) :
    Calls Try.prog 53 #[.int .i64 s, .pointer (some ⟨p, 0, none⟩)] w fun e w' => e = .returned (.bool (scB n s)) ∧ w' = w := by
  by_cases h1 : 0 ≤ s <;> by_cases h2 : s < n
  all_goals
    go_enter Try.func53, Try.ntmps53
    go_wp2_with fail
    go_ret
    exact ⟨ret_bool (by simp [scB, h1, h2]), rfl⟩
/-- What the closures lead to: the box q of isScope, and the Sg's box p. -/
def CL (q p : Nat) (n : Int) (w : World) : Prop := w.cell? ⟨q, 0, none⟩ = some (.func (.func 53) #[] #[.pointer (some ⟨p, 0, none⟩)]) ∧ w.cell? ⟨p, 0, none⟩ = some (.int .i64 n)
theorem CL.still {q p : Nat} {n : Int} {w w' : World} (h : CL q p n w) (hb : Below w.heap.size w w') : CL q p n w' :=
  ⟨(hb.cell (lt_of_cell h.1)).trans h.1, (hb.cell (lt_of_cell h.2)).trans h.2⟩
set_option maxHeartbeats 800000 in
theorem edge43 (t : DSEdge) (n : Int) (q p : Nat) (w : World) (h : CL q p n w) :
    Calls Try.prog 54 #[.agg #[.int .i64 t.from_, .int .i64 t.to_, .int .i64 t.kind], .pointer (some ⟨q, 0, none⟩)] w fun e w' => e = .returned (.bool (edB n t)) ∧ Below w.heap.size w w' := by
  have hb0 := bel_alloc w (.cells #[.int .i64 t.from_, .int .i64 t.to_, .int .i64 t.kind] 74)
  obtain ⟨cq, cp⟩ := h.still hb0
  have H0 := (show Hid _ from scope42 n t.from_ p _ cp)
  have H1 := (show Hid _ from scope42 n t.to_ p _ cp)
  have HB := (show Hid _ from hb0); clear hb0 h
  have HR := (show Hid (edB n t = (scB n t.from_ && (scB n t.to_ && (decide (t.kind = 1) || decide (t.kind = 2))))) from rfl)
  generalize edB n t = R at *
  generalize t.from_ = ef at *
  generalize t.to_ = et at *
  generalize t.kind = ek at *
  generalize scB n ef = A at *
  generalize scB n et = B at *
  cases A
  case false =>
    have HF := (show Hid (R = false) from HR.out)
    go_enter Try.func54, Try.ntmps54
    go_wp2_with fail
    go_at_call 53
    refine Calls.mono H0.out ?_
    rintro e w1 ⟨rfl, rfl⟩
    go_wp2_with fail
    go_ret
    exact ⟨ret_bool HF.out.symm, HB.out⟩
  cases B
  case false =>
    have HF := (show Hid (R = false) from HR.out)
    go_enter Try.func54, Try.ntmps54
    go_wp2_with fail
    go_at_call 53
    refine Calls.mono H0.out ?_
    rintro e w1 ⟨rfl, rfl⟩
    go_wp2_with fail
    go_at_call 53
    refine Calls.mono H1.out ?_
    rintro e w1 ⟨rfl, rfl⟩
    go_wp2_with fail
    go_ret
    exact ⟨ret_bool HF.out.symm, HB.out⟩
  by_cases k1 : ek = 1
  · have HF := (show Hid (R = true) from by show R = true; rw [HR.out, decide_eq_true k1]; rfl)
    subst k1
    go_enter Try.func54, Try.ntmps54
    go_wp2_with fail
    go_at_call 53
    refine Calls.mono H0.out ?_
    rintro e w1 ⟨rfl, rfl⟩
    go_wp2_with fail
    go_at_call 53
    refine Calls.mono H1.out ?_
    rintro e w1 ⟨rfl, rfl⟩
    go_wp2_with fail
    go_ret
    exact ⟨ret_bool HF.out.symm, HB.out⟩
  have q1 : (ek == 1) = false := by simpa using k1
  by_cases k2 : ek = 2
  · have HF := (show Hid (R = true) from by show R = true; rw [HR.out, decide_eq_true k2]; simp)
    subst k2
    go_enter Try.func54, Try.ntmps54
    go_wp2_with fail
    go_at_call 53
    refine Calls.mono H0.out ?_
    rintro e w1 ⟨rfl, rfl⟩
    go_wp2_with fail
    go_at_call 53
    refine Calls.mono H1.out ?_
    rintro e w1 ⟨rfl, rfl⟩
    go_wp2_with fail
    go_ret
    exact ⟨ret_bool HF.out.symm, HB.out⟩
  have q2 : (ek == 2) = false := by simpa using k2
  have HF := (show Hid (R = false) from by show R = false; rw [HR.out, decide_eq_false k1, decide_eq_false k2]; rfl)
  clear k1 k2
  go_enter Try.func54, Try.ntmps54
  go_wp2_with fail
  go_at_call 53
  refine Calls.mono H0.out ?_
  rintro e w1 ⟨rfl, rfl⟩
  go_wp2_with fail
  go_at_call 53
  refine Calls.mono H1.out ?_
  rintro e w1 ⟨rfl, rfl⟩
  go_wp2_with fail
  go_ret
  exact ⟨ret_bool HF.out.symm, HB.out⟩
set_option maxHeartbeats 800000 in
theorem spot44 (t : DSpot) (n : Int) (q p : Nat) (w : World) (h : CL q p n w) (hz : t.name.size ≤ maxLen) :
    Calls Try.prog 55 #[.agg #[.int .i64 t.scope, .string t.name], .pointer (some ⟨q, 0, none⟩)] w fun e w' => e = .returned (.bool (spB n t)) ∧ Below w.heap.size w w' := by
  have hb0 := bel_alloc w (.cells #[.int .i64 t.scope, .string t.name] 33)
  obtain ⟨cq, cp⟩ := h.still hb0
  have H0 := (show Hid _ from scope42 n t.scope p _ cp)
  have H1 := (show Hid _ from fun w' => iName t.name hz w')
  have HB := (show Hid _ from hb0); clear hb0 h
  have HR := (show Hid (spB n t = (scB n t.scope && nmB t.name)) from rfl)
  generalize spB n t = R at *
  generalize t.scope = ts at *
  generalize t.name = tn at *
  generalize scB n ts = A at *
  generalize nmB tn = B at *
  cases A
  case false =>
    have HF := (show Hid (R = false) from HR.out)
    go_enter Try.func55, Try.ntmps55
    go_wp2_with fail
    go_at_call 53
    refine Calls.mono H0.out ?_
    rintro e w1 ⟨rfl, rfl⟩
    go_wp2_with fail
    go_ret
    exact ⟨ret_bool HF.out.symm, HB.out⟩
  have HF := (show Hid (R = B) from HR.out)
  go_enter Try.func55, Try.ntmps55
  go_wp2_with fail
  go_at_call 53
  refine Calls.mono H0.out ?_
  rintro e w1 ⟨rfl, rfl⟩
  go_wp2_with fail
  refine Calls.mono (H1.out _) ?_
  rintro e w1 ⟨rfl, rfl⟩
  go_wp2_with fail
  go_ret
  exact ⟨ret_bool HF.out.symm, HB.out⟩
set_option maxHeartbeats 1600000 in
theorem all46 {S : Nat → Prop} (l : List DSEdge) (v : Value) (n : Int) (q p : Nat) (w : World) (hcl0 : CL q p n w) (h : SEdgeR w S l v) :
    Calls Try.prog 56 #[v, .func (.func 54) #[] #[.pointer (some ⟨q, 0, none⟩)]] w fun e w' => e = .returned (.bool (l.all (edB n))) ∧ Below w.heap.size w w' := by
  obtain ⟨a, cap, b, off, rfl, hc, hm, ha, hcell⟩ := h
  have HC := (show Hid _ from hcell); clear hcell
  have HA := (show Hid _ from ha); clear ha
  have HL := (show Hid (CL q p n w) from hcl0); clear hcl0
  unfold maxLen at hm
  generalize hRes : l.all (edB n) = R
  have HRes := (show Hid _ from hRes); clear hRes
  go_enter Try.func56, Try.ntmps56
  go_wp2_with fail
  go_loopw [9] (fun i wr => ∃ j : Nat, i = .int .i64 j ∧ j ≤ l.length ∧ Hid (∀ i (hi : i < l.length), i < j → edB n l[i] = true) ∧ Below w.heap.size w wr) (fun i _ => l.length - (intOf i).toNat)
  case atStart => exact ⟨0, rfl, Nat.zero_le _, fun i hi h0 => absurd h0 (Nat.not_lt_zero _), Below.refl _ _⟩
  case round =>
    obtain ⟨j, rfl, hj, HJ, hbel⟩ := hrel
    by_cases hjl : j < l.length
    · obtain ⟨rfl, _⟩ := HA.out (by omega)
      obtain ⟨c0, c1, c2⟩ := HC.out j hjl
      rw [← hbel.cell (lt_of_cell c0)] at c0
      rw [← hbel.cell (lt_of_cell c1)] at c1
      rw [← hbel.cell (lt_of_cell c2)] at c2
      have hcl := fun (w' : World) (hb : Below w.heap.size w w') => edge43 l[j] n q p w' (HL.out.still hb)
      have HCL := (show Hid _ from hcl); clear hcl
      generalize hB : edB n l[j] = B at HCL
      have HB := (show Hid _ from hB); clear hB
      have HNX := (show Hid (B = true → ∀ i (hi : i < l.length), i < j + 1 → edB n l[i] = true) from fun h i hi hij => by
        by_cases e : i = j
        · subst e; exact HB.out.trans h
        · exact HJ.out i hi (by omega))
      have HFX := (show Hid (B = false → R = false) from fun h => by
        rw [← HRes.out, List.all_eq_false]
        exact ⟨l[j], List.getElem_mem hjl, by rw [HB.out, h]; simp⟩)
      generalize l[j].from_ = y0 at *
      generalize l[j].to_ = y1 at *
      generalize l[j].kind = y2 at *
      cases B
      · have HF := (show Hid (R = false) from HFX.out rfl)
        go_wp2_with fail
        go_at_call 54
        refine Calls.mono (HCL.out _ (hbel.alloc hbel.size _)) ?_
        rintro e w1 ⟨rfl, hb1⟩
        have HE := (show Hid _ from bel_trans (hbel.alloc hbel.size _) hb1); clear hb1 c0 c1 c2 hbel
        go_wp2_with fail
        go_ret
        exact ⟨by rw [HF.out]; rfl, HE.out⟩
      · have HN := (show Hid _ from HNX.out rfl)
        go_wp2_with fail
        go_at_call 54
        refine Calls.mono (HCL.out _ (hbel.alloc hbel.size _)) ?_
        rintro e w1 ⟨rfl, hb1⟩
        have HE := (show Hid _ from bel_trans (hbel.alloc hbel.size _) hb1); clear hb1 c0 c1 c2 hbel
        go_wp2_with fail
        exact ⟨⟨j + 1, by go_num, by omega, HN, HE.out⟩, by simp [intOf]; omega⟩
    · have HF := (show Hid (R = true) from by
        show R = true
        rw [← HRes.out, List.all_eq_true]
        intro x hx
        obtain ⟨i, hi, rfl⟩ := List.mem_iff_getElem.1 hx
        exact HJ.out i hi (by omega))
      go_wp2_with fail
      go_ret
      exact ⟨by rw [HF.out]; rfl, hbel⟩
set_option maxHeartbeats 1600000 in
theorem all47 {S : Nat → Prop} (l : List DSpot) (v : Value) (n : Int) (q p : Nat) (w : World) (hcl0 : CL q p n w) (h : SpotR w S l v) :
    Calls Try.prog 57 #[v, .func (.func 55) #[] #[.pointer (some ⟨q, 0, none⟩)]] w fun e w' => e = .returned (.bool (l.all (spB n))) ∧ Below w.heap.size w w' := by
  obtain ⟨a, cap, b, off, rfl, hc, hm, ha, hcell⟩ := h
  have HC := (show Hid _ from hcell); clear hcell
  have HA := (show Hid _ from ha); clear ha
  have HL := (show Hid (CL q p n w) from hcl0); clear hcl0
  unfold maxLen at hm
  generalize hRes : l.all (spB n) = R
  have HRes := (show Hid _ from hRes); clear hRes
  go_enter Try.func57, Try.ntmps57
  go_wp2_with fail
  go_loopw [9] (fun i wr => ∃ j : Nat, i = .int .i64 j ∧ j ≤ l.length ∧ Hid (∀ i (hi : i < l.length), i < j → spB n l[i] = true) ∧ Below w.heap.size w wr) (fun i _ => l.length - (intOf i).toNat)
  case atStart => exact ⟨0, rfl, Nat.zero_le _, fun i hi h0 => absurd h0 (Nat.not_lt_zero _), Below.refl _ _⟩
  case round =>
    obtain ⟨j, rfl, hj, HJ, hbel⟩ := hrel
    by_cases hjl : j < l.length
    · obtain ⟨rfl, _⟩ := HA.out (by omega)
      obtain ⟨c0, c1, z0⟩ := HC.out j hjl
      rw [← hbel.cell (lt_of_cell c0)] at c0
      rw [← hbel.cell (lt_of_cell c1)] at c1
      have hcl := fun (w' : World) (hb : Below w.heap.size w w') => spot44 l[j] n q p w' (HL.out.still hb) z0
      have HCL := (show Hid _ from hcl); clear hcl
      generalize hB : spB n l[j] = B at HCL
      have HB := (show Hid _ from hB); clear hB
      have HNX := (show Hid (B = true → ∀ i (hi : i < l.length), i < j + 1 → spB n l[i] = true) from fun h i hi hij => by
        by_cases e : i = j
        · subst e; exact HB.out.trans h
        · exact HJ.out i hi (by omega))
      have HFX := (show Hid (B = false → R = false) from fun h => by
        rw [← HRes.out, List.all_eq_false]
        exact ⟨l[j], List.getElem_mem hjl, by rw [HB.out, h]; simp⟩)
      generalize l[j].scope = y0 at *
      generalize l[j].name = y1 at *
      cases B
      · have HF := (show Hid (R = false) from HFX.out rfl)
        go_wp2_with fail
        go_at_call 55
        refine Calls.mono (HCL.out _ (hbel.alloc hbel.size _)) ?_
        rintro e w1 ⟨rfl, hb1⟩
        have HE := (show Hid _ from bel_trans (hbel.alloc hbel.size _) hb1); clear hb1 c0 c1 hbel
        go_wp2_with fail
        go_ret
        exact ⟨by rw [HF.out]; rfl, HE.out⟩
      · have HN := (show Hid _ from HNX.out rfl)
        go_wp2_with fail
        go_at_call 55
        refine Calls.mono (HCL.out _ (hbel.alloc hbel.size _)) ?_
        rintro e w1 ⟨rfl, hb1⟩
        have HE := (show Hid _ from bel_trans (hbel.alloc hbel.size _) hb1); clear hb1 c0 c1 hbel
        go_wp2_with fail
        exact ⟨⟨j + 1, by go_num, by omega, HN, HE.out⟩, by simp [intOf]; omega⟩
    · have HF := (show Hid (R = true) from by
        show R = true
        rw [← HRes.out, List.all_eq_true]
        intro x hx
        obtain ⟨i, hi, rfl⟩ := List.mem_iff_getElem.1 hx
        exact HJ.out i hi (by omega))
      go_wp2_with fail
      go_ret
      exact ⟨by rw [HF.out]; rfl, hbel⟩
/-- The same, in the program's order. -/
theorem sgB_eq (t : DSg) : sgB t = (decide (1 ≤ t.scopes ∧ t.scopes ≤ 60) && (decide (t.edges.length ≤ 120) && (decide (t.decls.length ≤ 120) && (decide (t.refs.length ≤ 120) && (t.edges.all (edB t.scopes) && (t.decls.all (spB t.scopes) && t.refs.all (spB t.scopes))))))) := by
  unfold sgB spsB
  generalize decide (t.decls.length ≤ 120) = A
  generalize decide (t.refs.length ≤ 120) = B
  generalize t.edges.all (edB t.scopes) = C
  generalize t.decls.all (spB t.scopes) = D
  generalize t.refs.all (spB t.scopes) = E
  cases A <;> cases B <;> cases C <;> cases D <;> cases E <;> rfl
set_option maxHeartbeats 3200000 in
theorem iSg12 {S : Nat → Prop} (t : DSg) (v1 v2 v3 : Value) (w : World) (h : DSgL w S t v1 v2 v3) :
    Calls Try.prog 15 #[.agg #[.int .i64 t.scopes, v1, v2, v3]] w fun e w' => e = .returned (.bool (sgB t)) ∧ Below w.heap.size w w' := by
  have HE := (show Hid _ from fun (q p : Nat) (w' : World) (hb : Below w.heap.size w w') (hc : CL q p t.scopes w') => all46 t.edges v1 t.scopes q p w' hc (h.edges.still hb))
  have HD := (show Hid _ from fun (q p : Nat) (w' : World) (hb : Below w.heap.size w w') (hc : CL q p t.scopes w') => all47 t.decls v2 t.scopes q p w' hc (h.decls.still hb))
  have HR := (show Hid _ from fun (q p : Nat) (w' : World) (hb : Below w.heap.size w w') (hc : CL q p t.scopes w') => all47 t.refs v3 t.scopes q p w' hc (h.refs.still hb))
  obtain ⟨a1, p1, rfl, m1⟩ := h.edges.form
  obtain ⟨a2, p2, rfl, m2⟩ := h.decls.form
  obtain ⟨a3, p3, rfl, m3⟩ := h.refs.form
  unfold maxLen at m1 m2 m3
  have HSG := (show Hid _ from sgB_eq t)
  generalize sgB t = R at *
  have HB0 := (show Hid _ from bel_alloc w (.cells #[.int .i64 t.scopes, .slice a1 t.edges.length p1, .slice a2 t.decls.length p2, .slice a3 t.refs.length p3] 27))
  clear h
  generalize t.edges.all (edB t.scopes) = EB at *
  generalize t.decls.all (spB t.scopes) = DB at *
  generalize t.refs.all (spB t.scopes) = RB at *
  generalize t.scopes = sc at *
  by_cases h1 : sc < 1
  · have HF := (show Hid (R = false) from by show R = false; rw [HSG.out, decide_eq_false (by omega)]; rfl)
    go_enter Try.func15, Try.ntmps15
    go_wp2_with fail
    go_ret
    exact ⟨ret_bool HF.out.symm, HB0.out⟩
  by_cases h2 : 60 < sc
  · have HF := (show Hid (R = false) from by show R = false; rw [HSG.out, decide_eq_false (by omega)]; rfl)
    go_enter Try.func15, Try.ntmps15
    go_wp2_with fail
    go_ret
    exact ⟨ret_bool HF.out.symm, HB0.out⟩
  by_cases h3 : 120 < t.edges.length
  · have HF := (show Hid (R = false) from by show R = false; rw [HSG.out, decide_eq_false (p := t.edges.length ≤ 120) (by omega)]; simp)
    go_enter Try.func15, Try.ntmps15
    go_wp2_with fail
    go_ret
    exact ⟨ret_bool HF.out.symm, HB0.out⟩
  by_cases h4 : 120 < t.decls.length
  · have HF := (show Hid (R = false) from by show R = false; rw [HSG.out, decide_eq_false (p := t.decls.length ≤ 120) (by omega)]; simp)
    go_enter Try.func15, Try.ntmps15
    go_wp2_with fail
    go_ret
    exact ⟨ret_bool HF.out.symm, HB0.out⟩
  by_cases h5 : 120 < t.refs.length
  · have HF := (show Hid (R = false) from by show R = false; rw [HSG.out, decide_eq_false (p := t.refs.length ≤ 120) (by omega)]; simp)
    go_enter Try.func15, Try.ntmps15
    go_wp2_with fail
    go_ret
    exact ⟨ret_bool HF.out.symm, HB0.out⟩
  have HRA := (show Hid (R = (EB && (DB && RB))) from by
    show R = _
    rw [HSG.out, decide_eq_true (p := 1 ≤ sc ∧ sc ≤ 60) (by omega), decide_eq_true (p := t.edges.length ≤ 120) (by omega), decide_eq_true (p := t.decls.length ≤ 120) (by omega), decide_eq_true (p := t.refs.length ≤ 120) (by omega)]; rfl)
  clear HSG
  have hb2 := HB0.out.alloc HB0.out.size (.cells #[.func (.func 53) #[] #[.pointer (some ⟨w.heap.size, 0, none⟩)]] 90)
  have hg := (G4.new w sc (.slice a1 t.edges.length p1) (.slice a2 t.decls.length p2) (.slice a3 t.refs.length p3)).still (bel_alloc _ (.cells #[.func (.func 53) #[] #[.pointer (some ⟨w.heap.size, 0, none⟩)]] 90))
  have hcl : CL (w.heap.size + 1) w.heap.size sc ((w.alloc (.cells #[.int .i64 sc, .slice a1 t.edges.length p1, .slice a2 t.decls.length p2, .slice a3 t.refs.length p3] 27)).alloc (.cells #[.func (.func 53) #[] #[.pointer (some ⟨w.heap.size, 0, none⟩)]] 90)) := ⟨by simp [go_sem], hg.1⟩
  have HG := (show Hid _ from (⟨hb2, hg, hcl⟩ : _ ∧ _ ∧ _)); clear hb2 hg hcl
  clear HB0
  go_enter Try.func15, Try.ntmps15
  go_wp2_with fail
  refine Calls.mono (HE.out _ _ _ HG.out.1 HG.out.2.2) ?_
  rintro e w1 ⟨rfl, hb1⟩
  have H1 := (show Hid (Below w.heap.size w w1 ∧ G4 w.heap.size sc (.slice a1 t.edges.length p1) (.slice a2 t.decls.length p2) (.slice a3 t.refs.length p3) w1 ∧ CL (w.heap.size + 1) w.heap.size sc w1) from ⟨bel_trans HG.out.1 hb1, HG.out.2.1.still hb1, HG.out.2.2.still hb1⟩)
  clear hb1 HG
  cases EB
  · have HF := (show Hid (R = false) from HRA.out)
    go_wp2_with fail
    go_ret
    exact ⟨ret_bool HF.out.symm, H1.out.1⟩
  obtain ⟨k0, k1, k2, k3⟩ := H1.out.2.1
  go_wp2_with fail
  refine Calls.mono (HD.out _ _ _ H1.out.1 H1.out.2.2) ?_
  rintro e w2 ⟨rfl, hb2⟩
  have H2 := (show Hid (Below w.heap.size w w2 ∧ G4 w.heap.size sc (.slice a1 t.edges.length p1) (.slice a2 t.decls.length p2) (.slice a3 t.refs.length p3) w2 ∧ CL (w.heap.size + 1) w.heap.size sc w2) from ⟨bel_trans H1.out.1 hb2, H1.out.2.1.still hb2, H1.out.2.2.still hb2⟩)
  clear hb2 H1 k0 k1 k2 k3
  cases DB
  · have HF := (show Hid (R = false) from HRA.out)
    go_wp2_with fail
    go_ret
    exact ⟨ret_bool HF.out.symm, H2.out.1⟩
  obtain ⟨k0, k1, k2, k3⟩ := H2.out.2.1
  have HF := (show Hid (R = RB) from HRA.out)
  go_wp2_with fail
  refine Calls.mono (HR.out _ _ _ H2.out.1 H2.out.2.2) ?_
  rintro e w3 ⟨rfl, hb3⟩
  have H3 := (show Hid _ from bel_trans H2.out.1 hb3)
  clear hb3 H2 k0 k1 k2 k3
  go_wp2_with fail
  go_ret
  exact ⟨ret_bool HF.out.symm, H3.out⟩
end Go.Proofs.Ytledclkmeikgdaa
