import Derived.Test.YtledclkmeikgdaaGDat
import Derived.Test.YtledclkmeikgdaaGNm
/-! Scopes that are right: what is said, and the pieces of both sides. -/
namespace Go.Proofs.Ytledclkmeikgdaa
open Go.RowKit Go.Deep
set_option linter.unusedVariables false
set_option maxRecDepth 100000
set_option linter.unusedSimpArgs false

def scB (n s : Int) : Bool := decide (0 ≤ s) && decide (s < n)
def spB (n : Int) (t : DSpot) : Bool := scB n t.scope && nmB t.name
def edB (n : Int) (t : DSEdge) : Bool := scB n t.from_ && (scB n t.to_ && (decide (t.kind = 1) || decide (t.kind = 2)))
/-- Rows of so many at most, each of which is right. -/
def spsB (n : Int) (l : List DSpot) : Bool := decide (l.length ≤ 120) && l.all (spB n)
def sgB (t : DSg) : Bool := decide (1 ≤ t.scopes ∧ t.scopes ≤ 60) && (decide (t.edges.length ≤ 120) && (spsB t.scopes t.decls && (spsB t.scopes t.refs && t.edges.all (edB t.scopes))))

def btG (x a b : Int) : Bool := decide (a ≤ x) && decide (x ≤ b)
theorem betG38 (x a b : Int) (w : World) : Calls Try.prog 34 #[.int .i64 x, .int .i64 a, .int .i64 b] w fun e w' => e = .returned (.bool (btG x a b)) ∧ w' = w := by
  by_cases h1 : a ≤ x <;> by_cases h2 : x ≤ b
  all_goals
    go_enter Try.func34, Try.ntmps34
    go_wp2_with fail
    go_ret
    exact ⟨ret_bool (by simp [btG, h1, h2]), rfl⟩
theorem sc38 (n s : Int) (w : World) : Calls Try.prog 34 #[.int .i64 s, .int .i64 0, .int .i64 (n - 1)] w fun e w' => e = .returned (.bool (scB n s)) ∧ w' = w :=
  (betG38 s 0 (n - 1) w).mono (fun e w' h => ⟨by rw [h.1]; congr 2; unfold btG scB; congr 1; exact decide_eq_decide.2 (by omega), h.2⟩)
theorem wrapN {n : Int} (h1 : 1 ≤ n) (h2 : n ≤ 60) : IntKind.i64.wrap (n - 1) = n - 1 := by simp [IntKind.wrap, IntKind.bits, IntKind.signed]; omega
set_option maxHeartbeats 1600000 in
theorem spots39 {S : Nat → Prop} (l : List DSpot) (v : Value) (n : Int) (h1 : 1 ≤ n) (h2 : n ≤ 60) (w : World) (h : SpotR w S l v) :
    Calls Try.prog 77 #[v, .int .i64 n] w fun e w' => e = .returned (.bool (spsB n l)) ∧ w' = w := by
  obtain ⟨a, cap, b, off, rfl, hc, hm, ha, hcell⟩ := h
  have HC := (show Hid _ from hcell); clear hcell
  have HA := (show Hid _ from ha); clear ha
  have HSC := (show Hid _ from fun (s : Int) (w' : World) => sc38 n s w')
  have kw := wrapN h1 h2
  clear h1 h2
  unfold maxLen at hm
  by_cases hlen : 120 < l.length
  · rw [show spsB n l = false from by unfold spsB; rw [decide_eq_false (by omega)]; rfl]
    go_enter Try.func77, Try.ntmps77
    go_wp2_with fail
    go_ret
    exact ⟨rfl, rfl⟩
  rw [show spsB n l = l.all (spB n) from by unfold spsB; rw [decide_eq_true (by omega)]; rfl]
  generalize hRes : l.all (spB n) = R
  have HRes := (show Hid _ from hRes); clear hRes
  go_enter Try.func77, Try.ntmps77
  go_wp2_with fail
  go_loopw [5] (fun i wr => ∃ j : Nat, i = .int .i64 j ∧ j ≤ l.length ∧ Hid (∀ i (hi : i < l.length), i < j → spB n l[i] = true) ∧ wr = w) (fun i _ => l.length - (intOf i).toNat)
  case atStart => exact ⟨0, rfl, Nat.zero_le _, fun i hi h0 => absurd h0 (Nat.not_lt_zero _), rfl⟩
  case round =>
    obtain ⟨j, rfl, hj, HJ, rfl⟩ := hrel
    by_cases hjl : j < l.length
    · obtain ⟨rfl, _⟩ := HA.out (by omega)
      obtain ⟨c0, c1, z1⟩ := HC.out j hjl
      have HN := (show Hid _ from fun (w' : World) => sName l[j].name z1 w')
      clear z1
      have HNX := (show Hid ((scB n l[j].scope && nmB l[j].name) = true → ∀ i (hi : i < l.length), i < j + 1 → spB n l[i] = true) from fun h i hi hij => by
        by_cases e : i = j
        · subst e; exact h
        · exact HJ.out i hi (by omega))
      have HFX := (show Hid ((scB n l[j].scope && nmB l[j].name) = false → R = false) from fun h => by
        rw [← HRes.out, List.all_eq_false]
        exact ⟨l[j], List.getElem_mem hjl, by unfold spB; rw [h]; simp⟩)
      have HS := (show Hid _ from fun w' => HSC.out l[j].scope w')
      generalize l[j].scope = sc at *
      generalize l[j].name = nm at *
      generalize scB n sc = A at *
      generalize nmB nm = B at *
      go_wp2_with fail
      refine Calls.mono (HS.out _) ?_
      rintro e w1 ⟨rfl, rfl⟩
      cases A
      · have HF := (show Hid _ from HFX.out rfl)
        go_wp2_with fail
        go_ret
        exact ⟨ret_bool HF.out.symm, rfl⟩
      · go_wp2_with fail
        refine Calls.mono (HN.out _) ?_
        rintro e w1 ⟨rfl, rfl⟩
        cases B
        · have HF := (show Hid _ from HFX.out rfl)
          go_wp2_with fail
          go_ret
          exact ⟨ret_bool HF.out.symm, rfl⟩
        · have HN2 := (show Hid _ from HNX.out rfl)
          go_wp2_with fail
          exact ⟨⟨j + 1, by go_num, by omega, HN2, trivial⟩, by simp [intOf]; omega⟩
    · have HF := (show Hid (R = true) from by
        show R = true
        rw [← HRes.out, List.all_eq_true]
        intro x hx
        obtain ⟨i, hi, rfl⟩ := List.mem_iff_getElem.1 hx
        exact HJ.out i hi (by omega))
      go_wp2_with fail
      go_ret
      exact ⟨ret_bool HF.out.symm, rfl⟩
theorem kd38 (k : Int) (w : World) : Calls Try.prog 34 #[.int .i64 k, .int .i64 1, .int .i64 2] w fun e w' => e = .returned (.bool (decide (k = 1) || decide (k = 2))) ∧ w' = w :=
  (betG38 k 1 2 w).mono (fun e w' h => ⟨by
    rw [h.1]; congr 2; unfold btG
    by_cases h1 : k = 1
    · subst h1; rfl
    · by_cases h2 : k = 2
      · subst h2; rfl
      · rw [decide_eq_false h1, decide_eq_false h2]
        by_cases h3 : 1 ≤ k
        · rw [decide_eq_false (p := k ≤ 2) (by omega)]; simp
        · rw [decide_eq_false h3]; rfl, h.2⟩)
/-- The box of a Sg. -/
def G4 (p : Nat) (n : Int) (v1 v2 v3 : Value) (wq : World) : Prop := wq.cell? ⟨p, 0, none⟩ = some (.int .i64 n) ∧ wq.cell? ⟨p, 1, none⟩ = some v1 ∧ wq.cell? ⟨p, 2, none⟩ = some v2 ∧ wq.cell? ⟨p, 3, none⟩ = some v3
theorem G4.new (w : World) (n : Int) (v1 v2 v3 : Value) : G4 w.heap.size n v1 v2 v3 (w.alloc (.cells #[.int .i64 n, v1, v2, v3] 27)) := by
  refine ⟨?_, ?_, ?_, ?_⟩ <;> simp [go_sem]
theorem G4.still {p : Nat} {n : Int} {v1 v2 v3 : Value} {w w' : World} (h : G4 p n v1 v2 v3 w) (hb : Below w.heap.size w w') : G4 p n v1 v2 v3 w' :=
  ⟨(hb.cell (lt_of_cell h.1)).trans h.1, (hb.cell (lt_of_cell h.2.1)).trans h.2.1, (hb.cell (lt_of_cell h.2.2.1)).trans h.2.2.1, (hb.cell (lt_of_cell h.2.2.2)).trans h.2.2.2⟩
theorem sgB_bound {t : DSg} (h : ¬ (1 ≤ t.scopes ∧ t.scopes ≤ 60)) : sgB t = false := by unfold sgB; rw [decide_eq_false h]; rfl
set_option maxHeartbeats 3200000 in
theorem sSg10 {S : Nat → Prop} (t : DSg) (v1 v2 v3 : Value) (w : World) (h : DSgL w S t v1 v2 v3) :
    Calls Try.prog 32 #[.agg #[.int .i64 t.scopes, v1, v2, v3]] w fun e w' => e = .returned (.bool (sgB t)) ∧ Below w.heap.size w w' := by
  have HB1 := (show Hid _ from fun (w' : World) => betG38 t.scopes 1 60 w')
  have HSC := (show Hid _ from fun (s : Int) (w' : World) => sc38 t.scopes s w')
  have HKD := (show Hid _ from fun (s : Int) (w' : World) => kd38 s w')
  have HSD := (show Hid _ from fun (h1 : 1 ≤ t.scopes) (h2 : t.scopes ≤ 60) (w' : World) (hb : Below w.heap.size w w') => spots39 t.decls v2 t.scopes h1 h2 w' (h.decls.still hb))
  have HSR := (show Hid _ from fun (h1 : 1 ≤ t.scopes) (h2 : t.scopes ≤ 60) (w' : World) (hb : Below w.heap.size w w') => spots39 t.refs v3 t.scopes h1 h2 w' (h.refs.still hb))
  obtain ⟨a1, p1, b, off, rfl, hc, hm, ha, hcell⟩ := h.edges
  obtain ⟨a2, p2, rfl, _⟩ := h.decls.form
  obtain ⟨a3, p3, rfl, _⟩ := h.refs.form
  have HC := (show Hid _ from hcell); clear hcell
  have HA := (show Hid _ from ha); clear ha
  unfold maxLen at hm
  have HSG := (show Hid (sgB t = (decide (1 ≤ t.scopes ∧ t.scopes ≤ 60) && (decide (t.edges.length ≤ 120) && (spsB t.scopes t.decls && (spsB t.scopes t.refs && t.edges.all (edB t.scopes)))))) from rfl)
  generalize sgB t = R at *
  clear h
  have hb0 := bel_alloc w (.cells #[.int .i64 t.scopes, .slice a1 t.edges.length p1, .slice a2 t.decls.length p2, .slice a3 t.refs.length p3] 27)
  have HB0 := (show Hid _ from hb0); clear hb0
  by_cases hbd : 1 ≤ t.scopes ∧ t.scopes ≤ 60
  case neg =>
    have HR := (show Hid (R = false) from by show R = false; rw [HSG.out, decide_eq_false hbd]; rfl)
    rw [show btG t.scopes 1 60 = false from by
      unfold btG
      by_cases h : 1 ≤ t.scopes
      · rw [decide_eq_false (p := t.scopes ≤ 60) (by omega)]; simp
      · rw [decide_eq_false h]; rfl] at HB1
    generalize t.scopes = sc at *
    clear hbd
    go_enter Try.func32, Try.ntmps32
    go_wp2_with fail
    refine Calls.mono (HB1.out _) ?_
    rintro e w1 ⟨rfl, rfl⟩
    go_wp2_with fail
    go_ret
    exact ⟨ret_bool HR.out.symm, HB0.out⟩
  obtain ⟨h1, h2⟩ := hbd
  rw [show btG t.scopes 1 60 = true from by unfold btG; rw [decide_eq_true h1, decide_eq_true h2]; rfl] at HB1
  by_cases hel : 120 < t.edges.length
  · have HR := (show Hid (R = false) from by show R = false; rw [HSG.out, decide_eq_false (p := t.edges.length ≤ 120) (by omega)]; simp)
    generalize t.scopes = sc at *
    go_enter Try.func32, Try.ntmps32
    go_wp2_with fail
    refine Calls.mono (HB1.out _) ?_
    rintro e w1 ⟨rfl, rfl⟩
    go_wp2_with fail
    go_ret
    exact ⟨ret_bool HR.out.symm, HB0.out⟩
  have HR := (show Hid (R = (spsB t.scopes t.decls && (spsB t.scopes t.refs && t.edges.all (edB t.scopes)))) from by
    show R = _
    rw [HSG.out, decide_eq_true (p := 1 ≤ t.scopes ∧ t.scopes ≤ 60) ⟨h1, h2⟩, decide_eq_true (p := t.edges.length ≤ 120) (by omega)]; rfl)
  have HS1 := (show Hid _ from HSD.out h1 h2)
  have HS2 := (show Hid _ from HSR.out h1 h2)
  have kw := wrapN h1 h2
  clear HSD HSR HSG h1 h2
  have HED := (show Hid (∀ i (hi : i < t.edges.length), edB t.scopes t.edges[i] = (scB t.scopes t.edges[i].from_ && (scB t.scopes t.edges[i].to_ && (decide (t.edges[i].kind = 1) || decide (t.edges[i].kind = 2))))) from fun i hi => rfl)
  generalize spsB t.scopes t.decls = DB at *
  generalize spsB t.scopes t.refs = RB at *
  generalize edB t.scopes = eb at *
  have HG0 := (show Hid _ from G4.new w t.scopes (.slice a1 t.edges.length p1) (.slice a2 t.decls.length p2) (.slice a3 t.refs.length p3))
  generalize t.scopes = sc at *
  go_enter Try.func32, Try.ntmps32
  go_wp2_with fail
  refine Calls.mono (HB1.out _) ?_
  rintro e w1 ⟨rfl, rfl⟩
  go_wp2_with fail
  refine Calls.mono (HS1.out _ HB0.out) ?_
  rintro e w1 ⟨rfl, rfl⟩
  cases DB
  · have HF := (show Hid (R = false) from HR.out)
    go_wp2_with fail
    go_ret
    exact ⟨ret_bool HF.out.symm, HB0.out⟩
  go_wp2_with fail
  refine Calls.mono (HS2.out _ HB0.out) ?_
  rintro e w1 ⟨rfl, rfl⟩
  cases RB
  · have HF := (show Hid (R = false) from HR.out)
    go_wp2_with fail
    go_ret
    exact ⟨ret_bool HF.out.symm, HB0.out⟩
  have HRA := (show Hid (R = t.edges.all eb) from HR.out)
  clear HR HS1 HS2 HB1
  go_wp2_with fail
  go_loopw [3] (fun i wr => ∃ j : Nat, i = .int .i64 j ∧ j ≤ t.edges.length ∧ Hid (∀ i (hi : i < t.edges.length), i < j → eb t.edges[i] = true) ∧ wr.cell? ⟨w.heap.size, 0, none⟩ = some (.int .i64 sc) ∧ wr.cell? ⟨w.heap.size, 1, none⟩ = some (.slice a1 t.edges.length p1) ∧ Hid (Below w.heap.size w wr)) (fun i _ => t.edges.length - (intOf i).toNat)
  case atStart => exact ⟨0, rfl, Nat.zero_le _, fun i hi h0 => absurd h0 (Nat.not_lt_zero _), HG0.out.1, HG0.out.2.1, HB0⟩
  case round =>
    obtain ⟨j, rfl, hj, HJ, k0, k1, HBW⟩ := hrel
    clear HG0 HB0
    by_cases hjl : j < t.edges.length
    · obtain ⟨rfl, _⟩ := HA.out (by omega)
      obtain ⟨c0, c1, c2⟩ := HC.out j hjl
      rw [← HBW.out.cell (lt_of_cell c0)] at c0
      rw [← HBW.out.cell (lt_of_cell c1)] at c1
      rw [← HBW.out.cell (lt_of_cell c2)] at c2
      have HNX := (show Hid ((scB sc t.edges[j].from_ && (scB sc t.edges[j].to_ && (decide (t.edges[j].kind = 1) || decide (t.edges[j].kind = 2)))) = true → ∀ i (hi : i < t.edges.length), i < j + 1 → eb t.edges[i] = true) from fun h i hi hij => by
        by_cases e : i = j
        · subst e; rw [HED.out]; exact h
        · exact HJ.out i hi (by omega))
      have HFX := (show Hid ((scB sc t.edges[j].from_ && (scB sc t.edges[j].to_ && (decide (t.edges[j].kind = 1) || decide (t.edges[j].kind = 2)))) = false → R = false) from fun h => by
        rw [HRA.out, List.all_eq_false]
        exact ⟨t.edges[j], List.getElem_mem hjl, by rw [HED.out, h]; simp⟩)
      have HX0 := (show Hid _ from fun w' => HSC.out t.edges[j].from_ w')
      have HX1 := (show Hid _ from fun w' => HSC.out t.edges[j].to_ w')
      have HX2 := (show Hid _ from fun w' => HKD.out t.edges[j].kind w')
      generalize t.edges[j].from_ = ef at *
      generalize t.edges[j].to_ = et at *
      generalize t.edges[j].kind = ek at *
      generalize scB sc ef = A at *
      generalize scB sc et = B at *
      generalize (decide (ek = 1) || decide (ek = 2)) = K at *
      have hbe := HBW.out.alloc HBW.out.size (.cells #[.int .i64 ef, .int .i64 et, .int .i64 ek] 74)
      have HBE := (show Hid _ from hbe); clear hbe
      have hk0 := lt_of_cell k0
      have hk1 := lt_of_cell k1
      have e0 : (wr.alloc (.cells #[.int .i64 ef, .int .i64 et, .int .i64 ek] 74)).cell? ⟨w.heap.size, 0, none⟩ = some (.int .i64 sc) := ((bel_alloc wr _).cell hk0).trans k0
      have e1 : (wr.alloc (.cells #[.int .i64 ef, .int .i64 et, .int .i64 ek] 74)).cell? ⟨w.heap.size, 1, none⟩ = some (.slice (some ⟨b, off, none⟩) t.edges.length p1) := ((bel_alloc wr _).cell hk1).trans k1
      clear hk0 hk1
      go_wp2_with fail
      refine Calls.mono (HX0.out _) ?_
      rintro e w1 ⟨rfl, rfl⟩
      cases A
      · have HF := (show Hid _ from HFX.out rfl)
        go_wp2_with fail
        go_ret
        exact ⟨ret_bool HF.out.symm, HBE.out⟩
      go_wp2_with fail
      refine Calls.mono (HX1.out _) ?_
      rintro e w1 ⟨rfl, rfl⟩
      cases B
      · have HF := (show Hid _ from HFX.out rfl)
        go_wp2_with fail
        go_ret
        exact ⟨ret_bool HF.out.symm, HBE.out⟩
      go_wp2_with fail
      refine Calls.mono (HX2.out _) ?_
      rintro e w1 ⟨rfl, rfl⟩
      cases K
      · have HF := (show Hid _ from HFX.out rfl)
        go_wp2_with fail
        go_ret
        exact ⟨ret_bool HF.out.symm, HBE.out⟩
      have HN2 := (show Hid _ from HNX.out rfl)
      go_wp2_with fail
      exact ⟨⟨j + 1, by go_num, by omega, HN2, e0, e1, HBE⟩, by simp [intOf]; omega⟩
    · have HF := (show Hid (R = true) from by
        show R = true
        rw [HRA.out, List.all_eq_true]
        intro x hx
        obtain ⟨i, hi, rfl⟩ := List.mem_iff_getElem.1 hx
        exact HJ.out i hi (by omega))
      go_wp2_with fail
      go_ret
      exact ⟨ret_bool HF.out.symm, HBW.out⟩
end Go.Proofs.Ytledclkmeikgdaa
