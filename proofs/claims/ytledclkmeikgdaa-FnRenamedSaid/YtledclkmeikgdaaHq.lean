import Derived.Test.YtledclkmeikgdaaKb
/-! Rename: the specification. -/
namespace Go.Proofs.Ytledclkmeikgdaa
open Go.RowKit Go.Deep
set_option linter.unusedVariables false
set_option maxRecDepth 100000
set_option linter.unusedSimpArgs false

/-- What a Sg that is one resolves a reference to. -/
theorem res50 {S : Nat → Prop} (t : DSg) (v1 v2 : Value) (a3 : Option Addr) (n3 p3 : Nat) (w : World) (he : SEdgeR w S t.edges v1) (hd : SpotR w S t.decls v2) (hok : sgB t = true) (r : DSpot) (hr : r ∈ t.refs) :
    Calls Try.prog 35 #[.agg #[.int .i64 t.scopes, v1, v2, .slice a3 n3 p3], .agg #[.int .i64 r.scope, .string r.name]] w (InA (rsv t r) w) := by
  obtain ⟨N, e3, f1, f2, f3, f4, f5, f6, f7, f8⟩ := sg_facts hok
  obtain ⟨i, hi, rfl⟩ := List.getElem_of_mem hr
  have h8 := f8 i hi
  obtain ⟨s, es⟩ : ∃ s : Nat, t.refs[i].scope = (s : Int) := ⟨t.refs[i].scope.toNat, by omega⟩
  unfold rsv
  rw [e3, es, Int.toNat_natCast]
  exact resolve50 N t.edges t.decls v1 v2 a3 _ p3 s _ w he hd f6 f7 f2 f3 f4 (by omega)
set_option maxHeartbeats 25600000 in
theorem sRn22 {S : Nat → Prop} (t : DSg) (v1 v2 v3 : Value) (d : Int) (nm : ByteArray) (w : World) (h : RdG w t v1 v2 v3) (hns : nm.size ≤ maxLen) :
    Calls Try.prog 8 #[.agg #[.int .i64 t.scopes, v1, v2, v3], .int .i64 d, .string nm] w (RnA (rnR t d nm) w) := by
  have hlies := h.lies
  have hr1 := h.e
  have hr2 := h.d
  have hr3 := h.r
  obtain ⟨a1, kp1, rfl⟩ := hr1.form
  obtain ⟨a2, kp2, rfl⟩ := hr2.form
  obtain ⟨a3, kp3, rfl⟩ := hr3.form
  have HOK := (show Hid (∀ w', Below w.heap.size w w' → Calls Try.prog 32 #[.agg #[.int .i64 t.scopes, .slice a1 t.edges.length kp1, .slice a2 t.decls.length kp2, .slice a3 t.refs.length kp3]] w' fun e w'' => e = .returned (.bool (sgB t)) ∧ Below w'.heap.size w' w'') from fun w' hb => sSg10 t _ _ _ w' (hlies.still hb))
  have HRS := (show Hid (∀ w', Below w.heap.size w w' → sgB t = true → ∀ j (hj : j < t.refs.length), Calls Try.prog 35 #[.agg #[.int .i64 t.scopes, .slice a1 t.edges.length kp1, .slice a2 t.decls.length kp2, .slice a3 t.refs.length kp3], .agg #[.int .i64 t.refs[j].scope, .string t.refs[j].name]] w' (InA (rsv t t.refs[j]) w')) from fun w' hb hok j hj => res50 t _ _ _ _ _ w' (hlies.still hb).edges (hlies.still hb).decls hok _ (List.getElem_mem hj))
  have HNM := (show Hid (∀ w', Calls Try.prog 33 #[.string nm] w' fun e w'' => e = .returned (.bool (nmB nm)) ∧ w'' = w') from fun w' => sName nm hns w')
  have HR1 := (show Hid (∀ w', Below w.heap.size w w' → SrcR w' 74 3 (.slice a1 t.edges.length kp1) t.edges.length (edC t.edges) ∧ SrcR w' 33 2 (.slice a2 t.decls.length kp2) t.decls.length (spC t.decls) ∧ SrcR w' 33 2 (.slice a3 t.refs.length kp3) t.refs.length (spC t.refs)) from fun w' hb => ⟨hr1.still hb, hr2.still hb, hr3.still hb⟩)
  clear h hlies hr1 hr2 hr3
  unfold maxLen at hns
  have HZ0 := (show Hid (Fz w t.scopes (.slice a1 t.edges.length kp1) (.slice a2 t.decls.length kp2) (.slice a3 t.refs.length kp3) ((w.alloc (.cells #[.int .i64 t.scopes, .slice a1 t.edges.length kp1, .slice a2 t.decls.length kp2, .slice a3 t.refs.length kp3] 27)).alloc (.cells #[.int .i64 0, .slice none 0 0, .slice none 0 0, .slice none 0 0] 27))) from Fz.new w t.scopes _ _ _)
  generalize hGR : rnR t d nm = GR
  have HGR := (show Hid _ from hGR); clear hGR
  have HC1 := (show Hid _ from HOK.out _ HZ0.out.bel)
  obtain ⟨k0, k1, k2, k3⟩ := HZ0.out.cells
  generalize hok : sgB t = OK at *
  have HK := (show Hid _ from hok); clear hok
  obtain ⟨W0, hW0⟩ : ∃ W0, ((w.alloc (.cells #[.int .i64 t.scopes, .slice a1 t.edges.length kp1, .slice a2 t.decls.length kp2, .slice a3 t.refs.length kp3] 27)).alloc (.cells #[.int .i64 0, .slice none 0 0, .slice none 0 0, .slice none 0 0] 27)) = W0 := ⟨_, rfl⟩
  rw [hW0] at HZ0 HC1 k0 k1 k2 k3
  go_enter Try.func8, Try.ntmps8
  go_wp2_with fail
  refine Calls.mono HC1.out ?_
  rintro e w1 ⟨rfl, hb1⟩
  have HZ1 := (show Hid (Fz w t.scopes (.slice a1 t.edges.length kp1) (.slice a2 t.decls.length kp2) (.slice a3 t.refs.length kp3) w1) from HZ0.out.still hb1)
  clear hb1 HC1 HZ0 hW0 k0 k1 k2 k3
  cases OK
  case false =>
    have hZ := HZ1.out
    have y0 := hZ.res.cell 0 (by simp)
    have y1 := hZ.res.cell 1 (by simp)
    have y2 := hZ.res.cell 2 (by simp)
    have y3 := hZ.res.cell 3 (by simp)
    have f0 := hZ.res.frozen 0
    have f1 := hZ.res.frozen 1
    have f2 := hZ.res.frozen 2
    have f3 := hZ.res.frozen 3
    simp only [List.getD_cons_zero, List.getD_cons_succ] at y0 y1 y2 y3
    have HE := (show Hid _ from hZ.zero 1)
    clear hZ
    go_wp2_with fail
    refine bodyPost_ret (v := .tuple #[.agg #[.int .i64 0, .slice none 0 0, .slice none 0 0, .slice none 0 0], .int .i64 1]) (by simp [results, Try.results8, go_sem, y0, y1, y2, y3, f0, f1, f2, f3]) rfl ?_
    rw [← HGR.out, rnR_bad (fun h => by have := HK.out; rw [h.1] at this; cases this)]
    exact HE.out
  case true =>
    have HC2 := (show Hid _ from HNM.out w1)
    generalize hnm : nmB nm = NM at *
    have HN := (show Hid _ from hnm); clear hnm
    go_wp2_with fail
    refine Calls.mono HC2.out ?_
    rintro e w2 ⟨rfl, rfl⟩
    clear HC2
    cases NM
    case false =>
      have hZ := HZ1.out
      have y0 := hZ.res.cell 0 (by simp)
      have y1 := hZ.res.cell 1 (by simp)
      have y2 := hZ.res.cell 2 (by simp)
      have y3 := hZ.res.cell 3 (by simp)
      have f0 := hZ.res.frozen 0
      have f1 := hZ.res.frozen 1
      have f2 := hZ.res.frozen 2
      have f3 := hZ.res.frozen 3
      simp only [List.getD_cons_zero, List.getD_cons_succ] at y0 y1 y2 y3
      have HE := (show Hid _ from hZ.zero 1)
      clear hZ
      go_wp2_with fail
      refine bodyPost_ret (v := .tuple #[.agg #[.int .i64 0, .slice none 0 0, .slice none 0 0, .slice none 0 0], .int .i64 1]) (by simp [results, Try.results8, go_sem, y0, y1, y2, y3, f0, f1, f2, f3]) rfl ?_
      rw [← HGR.out, rnR_bad (fun h => by have := HN.out; rw [h.2] at this; cases this)]
      exact HE.out
    case true =>
      obtain ⟨f3, f4, f5⟩ : t.edges.length ≤ 120 ∧ t.decls.length ≤ 120 ∧ t.refs.length ≤ 120 := by
        obtain ⟨_, _, _, _, f3, f4, f5, _⟩ := sg_facts HK.out
        exact ⟨f3, f4, f5⟩
      have kw : IntKind.i64.wrap ((t.decls.length : Int) - 1) = (t.decls.length : Int) - 1 := by simp [IntKind.wrap, IntKind.bits, IntKind.signed]; omega
      have HBT := (show Hid _ from fun w' => betG38 d 0 ((t.decls.length : Int) - 1) w')
      obtain ⟨k0, k1, k2, k3⟩ := HZ1.out.cells
      by_cases hin : 0 ≤ d ∧ d < t.decls.length
      case neg =>
        rw [show btG d 0 ((t.decls.length : Int) - 1) = false from by
          unfold btG
          by_cases h : 0 ≤ d
          · rw [decide_eq_false (p := d ≤ (t.decls.length : Int) - 1) (by omega)]; simp
          · rw [decide_eq_false h]; rfl] at HBT
        have HIN := (show Hid _ from hin); clear hin
        go_wp2_with fail
        refine Calls.mono (HBT.out _) ?_
        rintro e w2 ⟨rfl, rfl⟩
        have hZ := HZ1.out
        have y0 := hZ.res.cell 0 (by simp)
        have y1 := hZ.res.cell 1 (by simp)
        have y2 := hZ.res.cell 2 (by simp)
        have y3 := hZ.res.cell 3 (by simp)
        have f0 := hZ.res.frozen 0
        have f1 := hZ.res.frozen 1
        have f2 := hZ.res.frozen 2
        have f3 := hZ.res.frozen 3
        simp only [List.getD_cons_zero, List.getD_cons_succ] at y0 y1 y2 y3
        have HE := (show Hid _ from hZ.zero 4)
        clear hZ
        go_wp2_with fail
        refine bodyPost_ret (v := .tuple #[.agg #[.int .i64 0, .slice none 0 0, .slice none 0 0, .slice none 0 0], .int .i64 4]) (by simp [results, Try.results8, go_sem, y0, y1, y2, y3, f0, f1, f2, f3]) rfl ?_
        rw [← HGR.out, rnR_place ⟨HK.out, HN.out⟩ HIN.out]
        exact HE.out
      case pos =>
        obtain ⟨q, rfl⟩ : ∃ q : Nat, d = (q : Int) := ⟨d.toNat, by omega⟩
        have hq : q < t.decls.length := by omega
        obtain ⟨b2, e2, _⟩ := SrcR.at (HR1.out w (Below.refl _ _)).2.1 (by omega)
        subst e2
        rw [show btG (q : Int) 0 ((t.decls.length : Int) - 1) = true from by
          unfold btG
          rw [decide_eq_true (p := (0 : Int) ≤ (q : Int)) (by omega), decide_eq_true (p := (q : Int) ≤ (t.decls.length : Int) - 1) (by omega)]; rfl] at HBT
        clear hin
        have HTW := (show Hid (twB t (q : Int) = true → GR = (zSg, 5)) from fun hx => HGR.out.symm.trans (rnR_twice ⟨HK.out, HN.out⟩ hq hx))
        have HT2 := (show Hid (∀ i, i < t.refs.length → twI t (q : Int) i = true → twB t (q : Int) = true) from fun i hi hx => twB_yes hi hx)
        have HCA := (show Hid (twB t (q : Int) = false → ¬ (rnT t q nm).refs.map (rsv (rnT t q nm)) = t.refs.map (rsv t) → GR = (zSg, 12)) from fun hx hy => HGR.out.symm.trans (rnR_catch ⟨HK.out, HN.out⟩ hq hx hy))
        have HSU := (show Hid (twB t (q : Int) = false → (rnT t q nm).refs.map (rsv (rnT t q nm)) = t.refs.map (rsv t) → GR = (rnT t q nm, 0)) from fun hx hy => HGR.out.symm.trans (rnR_ok ⟨HK.out, HN.out⟩ hq hx hy))
        go_wp2_with fail
        refine Calls.mono (HBT.out _) ?_
        rintro e w3 ⟨rfl, rfl⟩
        clear k0 k1 k2 k3 HBT kw
        have HZQ := (show Hid (∀ w', Below w3.heap.size w3 w' → Fz w t.scopes (.slice a1 t.edges.length kp1) (.slice (some ⟨b2, 0, none⟩) t.decls.length kp2) (.slice a3 t.refs.length kp3) w') from fun w' hb => HZ1.out.still hb)
        have hS0 := (HZQ.out _ (Below.refl w3.heap.size w3).drew).cells
        go_wp2_with fail
        go_cut [8] from 29 to 43 (fun v wx => ∃ (g1 c1 g2 c2 g3 c3 g4 : Nat), v = .pointer (some ⟨g4, 0, none⟩) ∧ Hid (SgF w3 wx t g1 c1 g2 c2 g3 c3 g4))
        case first =>
          refine wp_region_held_drew (S := (fun wq => wq.cell? ⟨w.heap.size, 0, none⟩ = some (.int .i64 t.scopes) ∧ wq.cell? ⟨w.heap.size, 1, none⟩ = some (.slice a1 t.edges.length kp1) ∧ wq.cell? ⟨w.heap.size, 2, none⟩ = some (.slice (some ⟨b2, 0, none⟩) t.decls.length kp2) ∧ wq.cell? ⟨w.heap.size, 3, none⟩ = some (.slice a3 t.refs.length kp3))) (by kernel_rfl) hS0 (fun hHeld => ?_)
          refine wpAnyH_take (i := 0) (oi := { dst := some 29, op := Go.Op.fieldAddr 27 (Go.Operand.tmp 3) 0, type := 0, pos := "l12_names.go:119", after := #[], guard := none }) (v := ?v1) rfl (by kernel_rfl) (by kernel_rfl) (by kernel_rfl) (fun _ _ _ h => h) (Or.inl ⟨by rfl, ?h1⟩) hHeld ?r1
          case h1 => (intro w hSw; (try dsimp only at hSw); go_simp; try with_reducible rfl)
          try simp only [Act.put, List.setIfInBounds_toArray, List.set_cons_zero, List.set_cons_succ]
          refine wpAnyH_take (i := 1) (oi := { dst := some 30, op := Go.Op.load 3 (Go.Operand.tmp 29), type := 3, pos := "l12_names.go:119", after := #[{ on := 0, ground := Go.Ground.data }], guard := none }) (v := ?v2) rfl (by kernel_rfl) (by kernel_rfl) (by kernel_rfl) (fun _ _ _ h => h) (Or.inl ⟨by rfl, ?h2⟩) hHeld ?r2
          case h2 => (intro w hSw; (try dsimp only at hSw); go_simp; try with_reducible rfl)
          try simp only [Act.put, List.setIfInBounds_toArray, List.set_cons_zero, List.set_cons_succ]
          refine wpAnyH_take (i := 3) (oi := { dst := some 32, op := Go.Op.fieldAddr 27 (Go.Operand.tmp 3) 1, type := 0, pos := "l12_names.go:119", after := #[], guard := none }) (v := ?v3) rfl (by kernel_rfl) (by kernel_rfl) (by kernel_rfl) (fun _ _ _ h => h) (Or.inl ⟨by rfl, ?h3⟩) hHeld ?r3
          case h3 => (intro w hSw; (try dsimp only at hSw); go_simp; try with_reducible rfl)
          try simp only [Act.put, List.setIfInBounds_toArray, List.set_cons_zero, List.set_cons_succ]
          refine wpAnyH_take (i := 4) (oi := { dst := some 33, op := Go.Op.load 24 (Go.Operand.tmp 32), type := 24, pos := "l12_names.go:119", after := #[{ on := 3, ground := Go.Ground.data }], guard := none }) (v := ?v4) rfl (by kernel_rfl) (by kernel_rfl) (by kernel_rfl) (fun _ _ _ h => h) (Or.inl ⟨by rfl, ?h4⟩) hHeld ?r4
          case h4 => (intro w hSw; (try dsimp only at hSw); go_simp; try with_reducible rfl)
          try simp only [Act.put, List.setIfInBounds_toArray, List.set_cons_zero, List.set_cons_succ]
          refine wpAnyH_take (i := 7) (oi := { dst := some 36, op := Go.Op.fieldAddr 27 (Go.Operand.tmp 3) 2, type := 0, pos := "l12_names.go:119", after := #[], guard := none }) (v := ?v5) rfl (by kernel_rfl) (by kernel_rfl) (by kernel_rfl) (fun _ _ _ h => h) (Or.inl ⟨by rfl, ?h5⟩) hHeld ?r5
          case h5 => (intro w hSw; (try dsimp only at hSw); go_simp; try with_reducible rfl)
          try simp only [Act.put, List.setIfInBounds_toArray, List.set_cons_zero, List.set_cons_succ]
          refine wpAnyH_take (i := 8) (oi := { dst := some 37, op := Go.Op.load 25 (Go.Operand.tmp 36), type := 25, pos := "l12_names.go:119", after := #[{ on := 7, ground := Go.Ground.data }], guard := none }) (v := ?v6) rfl (by kernel_rfl) (by kernel_rfl) (by kernel_rfl) (fun _ _ _ h => h) (Or.inl ⟨by rfl, ?h6⟩) hHeld ?r6
          case h6 => (intro w hSw; (try dsimp only at hSw); go_simp; try with_reducible rfl)
          try simp only [Act.put, List.setIfInBounds_toArray, List.set_cons_zero, List.set_cons_succ]
          refine wpAnyH_take (i := 11) (oi := { dst := some 40, op := Go.Op.fieldAddr 27 (Go.Operand.tmp 3) 3, type := 0, pos := "l12_names.go:119", after := #[], guard := none }) (v := ?v7) rfl (by kernel_rfl) (by kernel_rfl) (by kernel_rfl) (fun _ _ _ h => h) (Or.inl ⟨by rfl, ?h7⟩) hHeld ?r7
          case h7 => (intro w hSw; (try dsimp only at hSw); go_simp; try with_reducible rfl)
          try simp only [Act.put, List.setIfInBounds_toArray, List.set_cons_zero, List.set_cons_succ]
          refine wpAnyH_take (i := 12) (oi := { dst := some 41, op := Go.Op.load 25 (Go.Operand.tmp 40), type := 25, pos := "l12_names.go:119", after := #[{ on := 11, ground := Go.Ground.data }], guard := none }) (v := ?v8) rfl (by kernel_rfl) (by kernel_rfl) (by kernel_rfl) (fun _ _ _ h => h) (Or.inl ⟨by rfl, ?h8⟩) hHeld ?r8
          case h8 => (intro w hSw; (try dsimp only at hSw); go_simp; try with_reducible rfl)
          try simp only [Act.put, List.setIfInBounds_toArray, List.set_cons_zero, List.set_cons_succ]
          refine region5 _ _ _ w3 t.scopes (.slice a1 t.edges.length kp1) t.edges.length (.slice (some ⟨b2, 0, none⟩) t.decls.length kp2) t.decls.length (.slice a3 t.refs.length kp3) t.refs.length (edC t.edges) (spC t.decls) (spC t.refs) rfl rfl rfl rfl rfl (fun w' hb => (HZQ.out w' hb).cells) (HR1.out w3 HZ1.out.bel).1 (HR1.out w3 HZ1.out.bel).2.1 (HR1.out w3 HZ1.out.bel).2.2 f3 f4 f5 (edC_one _) (spC_one _) (spC_one _) (fun _ _ _ _ _ h => h) ?_ _ _ (Rst.refl _ _) (Fo.new (Below.refl _ _).drew)
          intro A wx g1 c1 g2 c2 g3 c3 g4 hR h8 hF
          generalize h31 : A.eval (.tmp 31) = x31
          generalize h34 : A.eval (.tmp 34) = x34
          generalize h35 : A.eval (.tmp 35) = x35
          generalize h38 : A.eval (.tmp 38) = x38
          generalize h39 : A.eval (.tmp 39) = x39
          generalize h42 : A.eval (.tmp 42) = x42
          generalize h43 : A.eval (.tmp 43) = x43
          obtain rfl := puts_eq A [(8, .pointer (some ⟨g4, 0, none⟩)), (31, x31), (34, x34), (35, x35), (38, x38), (39, x39), (42, x42), (43, x43)] _ hR.size hR.defers (by simp [h8, h31, h34, h35, h38, h39, h42, h43]) hR.same
          have HFO := (show Hid (SgF w3 wx t g1 c1 g2 c2 g3 c3 g4) from hF)
          clear hF hR h8 h31 h34 h35 h38 h39 h42 h43 hHeld hS0
          simp only [puts]
          try simp only [Act.put, List.setIfInBounds_toArray, List.set_cons_zero, List.set_cons_succ]
          go_wp2_with fail
          go_meet
          exact ⟨g1, c1, g2, c2, g3, c3, g4, rfl, HFO⟩
        case rest =>
          obtain ⟨g1, c1, g2, c2, g3, c3, g4, rfl, HF0⟩ := hcut
          obtain ⟨w4, rfl⟩ : ∃ w4, w4 = wc := ⟨_, rfl⟩
          clear hS0
          have HF0d := (show Hid (SgF w3 w4.drew t g1 c1 g2 c2 g3 c3 g4) from HF0.out.still (Below.refl _ _).drew)
          obtain ⟨x0, x1, x2, x3⟩ := HF0d.out.box
          obtain ⟨y0, y1, z0, z1⟩ := HF0.out.cellD hq
          have HRW := (show Hid _ from fun wq (hb : Below w3.heap.size w3 wq) => HR1.out wq (HZQ.out wq hb).bel)
          have k2 := (HZQ.out _ HF0d.out.bel).cells.2.2.1
          have s0 := (HRW.out _ HF0d.out.bel).2.1.cell? (spC_at _ q hq).1
          have HF1 := (show Hid (SgF w3 ((w4.setCell ⟨g2, q * 2, none⟩ (.int .i64 t.decls[q].scope)).setCell ⟨g2, q * 2 + 1, none⟩ (.string nm)).drew ⟨t.scopes, t.edges, rnD t q nm, t.refs⟩ g1 c1 g2 c2 g3 c3 g4) from (HF0.out.decl2 hq nm (rnD_set hq)).still (Below.refl _ _).drew)
          have HS2 := (show Hid (((w4.setCell ⟨g2, q * 2, none⟩ (.int .i64 t.decls[q].scope)).setCell ⟨g2, q * 2 + 1, none⟩ (.string nm)).drew.cell? ⟨g4, 2, none⟩ = some (.slice (some ⟨g2, 0, none⟩) t.decls.length c2) ∧ ((w4.setCell ⟨g2, q * 2, none⟩ (.int .i64 t.decls[q].scope)).setCell ⟨g2, q * 2 + 1, none⟩ (.string nm)).drew.cell? ⟨w.heap.size, 2, none⟩ = some (.slice (some ⟨b2, 0, none⟩) t.decls.length kp2) ∧ ((w4.setCell ⟨g2, q * 2, none⟩ (.int .i64 t.decls[q].scope)).setCell ⟨g2, q * 2 + 1, none⟩ (.string nm)).drew.cell? ⟨b2, q * 2, none⟩ = some (.int .i64 t.decls[q].scope)) from ⟨by have := HF1.out.box.2.2.1; simp only [rnD_len] at this; exact this, (HZQ.out _ HF1.out.bel).cells.2.2.1, (HRW.out _ HF1.out.bel).2.1.cell? (spC_at _ q hq).1⟩)
          generalize t.decls[q].scope = dsc at *
          generalize t.decls[q].name = dnm at *
          have i0 : (0 : Int) ≤ (q : Int) := by omega
          have i1 : (q : Int) < (t.decls.length : Int) := by omega
          have hS1 : w4.drew.cell? ⟨g4, 2, none⟩ = some (.slice (some ⟨g2, 0, none⟩) t.decls.length c2) ∧ w4.drew.cell? ⟨w.heap.size, 2, none⟩ = some (.slice (some ⟨b2, 0, none⟩) t.decls.length kp2) ∧ w4.drew.cell? ⟨b2, q * 2, none⟩ = some (.int .i64 dsc) := ⟨x2, k2, s0⟩
          clear x0 x1 x2 x3 k2 s0 HF0
          go_upto_region 6 with fail
          refine wp_region_held_drew (S := fun wq => wq.cell? ⟨g4, 2, none⟩ = some (.slice (some ⟨g2, 0, none⟩) t.decls.length c2) ∧ wq.cell? ⟨w.heap.size, 2, none⟩ = some (.slice (some ⟨b2, 0, none⟩) t.decls.length kp2) ∧ wq.cell? ⟨b2, q * 2, none⟩ = some (.int .i64 dsc)) (by kernel_rfl) hS1 (fun hHeld => ?_)
          refine wpAnyH_take (i := 0) (oi := { dst := some 44, op := Go.Op.fieldAddr 27 (Go.Operand.tmp 8) 2, type := 0, pos := "l12_names.go:120", after := #[], guard := none }) (v := ?v9) rfl (by kernel_rfl) (by kernel_rfl) (by kernel_rfl) (fun _ _ _ h => h) (Or.inl ⟨by rfl, ?h9⟩) hHeld ?r9
          case h9 => (intro w hSw; (try dsimp only at hSw); go_simp; try with_reducible rfl)
          try simp only [Act.put, List.setIfInBounds_toArray, List.set_cons_zero, List.set_cons_succ]
          refine wpAnyH_take (i := 1) (oi := { dst := some 45, op := Go.Op.load 25 (Go.Operand.tmp 44), type := 25, pos := "l12_names.go:120", after := #[{ on := 0, ground := Go.Ground.data }], guard := none }) (v := ?v10) rfl (by kernel_rfl) (by kernel_rfl) (by kernel_rfl) (fun _ _ _ h => h) (Or.inl ⟨by rfl, ?h10⟩) hHeld ?r10
          case h10 => (intro w hSw; (try dsimp only at hSw); go_simp; try with_reducible rfl)
          try simp only [Act.put, List.setIfInBounds_toArray, List.set_cons_zero, List.set_cons_succ]
          refine wpAnyH_take (i := 2) (oi := { dst := some 46, op := Go.Op.move (Go.Operand.tmp 1), type := 3, pos := "l12_names.go:120", after := #[], guard := none }) (v := ?v11) rfl (by kernel_rfl) (by kernel_rfl) (by kernel_rfl) (fun _ _ _ h => h) (Or.inl ⟨by rfl, ?h11⟩) hHeld ?r11
          case h11 => (intro w hSw; (try dsimp only at hSw); go_simp; try with_reducible rfl)
          try simp only [Act.put, List.setIfInBounds_toArray, List.set_cons_zero, List.set_cons_succ]
          refine wpAnyH_take (i := 3) (oi := { dst := some 47, op := Go.Op.fieldAddr 27 (Go.Operand.tmp 3) 2, type := 0, pos := "l12_names.go:120", after := #[], guard := none }) (v := ?v12) rfl (by kernel_rfl) (by kernel_rfl) (by kernel_rfl) (fun _ _ _ h => h) (Or.inl ⟨by rfl, ?h12⟩) hHeld ?r12
          case h12 => (intro w hSw; (try dsimp only at hSw); go_simp; try with_reducible rfl)
          try simp only [Act.put, List.setIfInBounds_toArray, List.set_cons_zero, List.set_cons_succ]
          refine wpAnyH_take (i := 4) (oi := { dst := some 48, op := Go.Op.load 25 (Go.Operand.tmp 47), type := 25, pos := "l12_names.go:120", after := #[{ on := 3, ground := Go.Ground.data }], guard := none }) (v := ?v13) rfl (by kernel_rfl) (by kernel_rfl) (by kernel_rfl) (fun _ _ _ h => h) (Or.inl ⟨by rfl, ?h13⟩) hHeld ?r13
          case h13 => (intro w hSw; (try dsimp only at hSw); go_simp; try with_reducible rfl)
          try simp only [Act.put, List.setIfInBounds_toArray, List.set_cons_zero, List.set_cons_succ]
          refine wpAnyH_take (i := 5) (oi := { dst := some 49, op := Go.Op.move (Go.Operand.tmp 1), type := 3, pos := "l12_names.go:120", after := #[], guard := none }) (v := ?v14) rfl (by kernel_rfl) (by kernel_rfl) (by kernel_rfl) (fun _ _ _ h => h) (Or.inl ⟨by rfl, ?h14⟩) hHeld ?r14
          case h14 => (intro w hSw; (try dsimp only at hSw); go_simp; try with_reducible rfl)
          try simp only [Act.put, List.setIfInBounds_toArray, List.set_cons_zero, List.set_cons_succ]
          refine wpAnyH_take (i := 6) (oi := { dst := some 50, op := Go.Op.indexAddr 25 (Go.Operand.tmp 48) (Go.Operand.tmp 49), type := 0, pos := "l12_names.go:120", after := #[{ on := 4, ground := Go.Ground.data }, { on := 5, ground := Go.Ground.data }], guard := none }) (v := ?v15) rfl (by kernel_rfl) (by kernel_rfl) (by kernel_rfl) (fun _ _ _ h => h) (Or.inl ⟨by rfl, ?h15⟩) hHeld ?r15
          case h15 => (intro w hSw; (try dsimp only at hSw); go_simp; try with_reducible rfl)
          try simp only [Act.put, List.setIfInBounds_toArray, List.set_cons_zero, List.set_cons_succ]
          refine wpAnyH_take (i := 7) (oi := { dst := some 51, op := Go.Op.fieldAddr 33 (Go.Operand.tmp 50) 0, type := 0, pos := "l12_names.go:120", after := #[{ on := 6, ground := Go.Ground.data }], guard := none }) (v := ?v16) rfl (by kernel_rfl) (by kernel_rfl) (by kernel_rfl) (fun _ _ _ h => h) (Or.inl ⟨by rfl, ?h16⟩) hHeld ?r16
          case h16 => (intro w hSw; (try dsimp only at hSw); go_simp; try with_reducible rfl)
          try simp only [Act.put, List.setIfInBounds_toArray, List.set_cons_zero, List.set_cons_succ]
          refine wpAnyH_take (i := 8) (oi := { dst := some 52, op := Go.Op.load 3 (Go.Operand.tmp 51), type := 3, pos := "l12_names.go:120", after := #[{ on := 7, ground := Go.Ground.data }], guard := none }) (v := ?v17) rfl (by kernel_rfl) (by kernel_rfl) (by kernel_rfl) (fun _ _ _ h => h) (Or.inl ⟨by rfl, ?h17⟩) hHeld ?r17
          case h17 => (intro w hSw; (try dsimp only at hSw); go_simp; try with_reducible rfl)
          try simp only [Act.put, List.setIfInBounds_toArray, List.set_cons_zero, List.set_cons_succ]
          refine wpAnyH_take (i := 9) (oi := { dst := some 53, op := Go.Op.move (Go.Operand.tmp 2), type := 9, pos := "l12_names.go:120", after := #[], guard := none }) (v := ?v18) rfl (by kernel_rfl) (by kernel_rfl) (by kernel_rfl) (fun _ _ _ h => h) (Or.inl ⟨by rfl, ?h18⟩) hHeld ?r18
          case h18 => (intro w hSw; (try dsimp only at hSw); go_simp; try with_reducible rfl)
          try simp only [Act.put, List.setIfInBounds_toArray, List.set_cons_zero, List.set_cons_succ]
          refine wpAnyH_take (i := 10) (oi := { dst := some 54, op := Go.Op.build 33 #[(0, Go.Operand.tmp 52), (1, Go.Operand.tmp 53)], type := 33, pos := "l12_names.go:120", after := #[{ on := 8, ground := Go.Ground.data }, { on := 9, ground := Go.Ground.data }], guard := none }) (v := ?v19) rfl (by kernel_rfl) (by kernel_rfl) (by kernel_rfl) (fun _ _ _ h => h) (Or.inl ⟨by rfl, ?h19⟩) hHeld ?r19
          case h19 => (intro w hSw; (try dsimp only at hSw); go_simp; try with_reducible rfl)
          try simp only [Act.put, List.setIfInBounds_toArray, List.set_cons_zero, List.set_cons_succ]
          refine wpAnyH_take (i := 11) (oi := { dst := some 55, op := Go.Op.indexAddr 25 (Go.Operand.tmp 45) (Go.Operand.tmp 46), type := 0, pos := "l12_names.go:120", after := #[{ on := 1, ground := Go.Ground.data }, { on := 2, ground := Go.Ground.data }, { on := 0, ground := Go.Ground.phase }, { on := 1, ground := Go.Ground.phase }, { on := 2, ground := Go.Ground.phase }, { on := 3, ground := Go.Ground.phase }, { on := 4, ground := Go.Ground.phase }, { on := 5, ground := Go.Ground.phase }, { on := 6, ground := Go.Ground.phase }, { on := 7, ground := Go.Ground.phase }, { on := 8, ground := Go.Ground.phase }, { on := 9, ground := Go.Ground.phase }, { on := 10, ground := Go.Ground.phase }], guard := none }) (v := ?v20) rfl (by kernel_rfl) (by kernel_rfl) (by kernel_rfl) (fun _ _ _ h => h) (Or.inl ⟨by rfl, ?h20⟩) hHeld ?r20
          case h20 => (intro w hSw; (try dsimp only at hSw); go_simp; try with_reducible rfl)
          try simp only [Act.put, List.setIfInBounds_toArray, List.set_cons_zero, List.set_cons_succ]
          refine wpAnyH_ready (rs := [12]) (by kernel_rfl) (by simp) ?_
          refine (AllReadyH.cons (o := { dst := none, op := Go.Op.store 33 (Go.Operand.tmp 55) (Go.Operand.tmp 54), type := 0, pos := "l12_names.go:120", after := #[{ on := 11, ground := Go.Ground.data }, { on := 10, ground := Go.Ground.data }, { on := 0, ground := Go.Ground.phase }, { on := 1, ground := Go.Ground.phase }, { on := 2, ground := Go.Ground.phase }, { on := 3, ground := Go.Ground.phase }, { on := 4, ground := Go.Ground.phase }, { on := 5, ground := Go.Ground.phase }, { on := 6, ground := Go.Ground.phase }, { on := 7, ground := Go.Ground.phase }, { on := 8, ground := Go.Ground.phase }, { on := 9, ground := Go.Ground.phase }, { on := 10, ground := Go.Ground.phase }], guard := none }) rfl (fun K hK => ?_) AllReadyH.nil)
          go_simp
          refine hK.out _ _ HS2.out (fun hHeld => ?_)
          refine wpAnyH_done (by kernel_rfl) ?_ _
          clear hK K hHeld hS1 y0 y1 z0 z1 HS2
          generalize hw5 : ((w4.setCell ⟨g2, q * 2, none⟩ (.int .i64 dsc)).setCell ⟨g2, q * 2 + 1, none⟩ (.string nm)).drew = w5 at *
          clear hw5
          have HLI := (show Hid (SgF w3 w5 ⟨t.scopes, t.edges, rnD t q nm, rnF t (q : Int) nm 0⟩ g1 c1 g2 c2 g3 c3 g4 ∧ ∀ i, i < 0 → twI t (q : Int) i = false) from ⟨by rw [rnF_zero]; exact HF1.out, fun i hi => absurd hi (Nat.not_lt_zero _)⟩)
          clear HF1 HF0d
          have HC5 := (show Hid (∀ wq, Below w3.heap.size w3 wq → ∀ j (hj : j < t.refs.length), Calls Try.prog 35 #[.agg #[.int .i64 t.scopes, .slice a1 t.edges.length kp1, .slice (some ⟨b2, 0, none⟩) t.decls.length kp2, .slice a3 t.refs.length kp3], .agg #[.int .i64 t.refs[j].scope, .string t.refs[j].name]] wq (InA (rsv t t.refs[j]) wq)) from fun wq hb j hj => HRS.out wq (HZQ.out wq hb).bel trivial j hj)
          have HCR := (show Hid (∀ wq, Below w3.heap.size w3 wq → ∀ j (hj : j < t.refs.length) (b3 : Nat), a3 = some ⟨b3, 0, none⟩ → wq.cell? ⟨b3, j * 2, none⟩ = some (.int .i64 t.refs[j].scope) ∧ wq.cell? ⟨b3, j * 2 + 1, none⟩ = some (.string t.refs[j].name)) from fun wq hb j hj b3 e => by
            obtain ⟨b', e', hr'⟩ := SrcR.at (HRW.out wq hb).2.2 (by omega)
            rw [e] at e'
            cases e'
            exact ⟨hr'.cell? (spC_at _ j hj).1, hr'.cell? (spC_at _ j hj).2⟩)
          have HA3 := (show Hid (0 < t.refs.length → ∃ b3, a3 = some ⟨b3, 0, none⟩) from fun h => by
            obtain ⟨b', e', _⟩ := SrcR.at (HRW.out _ (Below.refl _ _)).2.2 h
            exact ⟨b', e'⟩)
          go_wp2_with fail
          go_loopw [9] (fun i wr => ∃ j : Nat, i = .int .i64 j ∧ j ≤ t.refs.length ∧ Hid (SgF w3 wr ⟨t.scopes, t.edges, rnD t q nm, rnF t (q : Int) nm j⟩ g1 c1 g2 c2 g3 c3 g4 ∧ ∀ i, i < j → twI t (q : Int) i = false)) (fun i _ => t.refs.length - (intOf i).toNat)
          case atStart => exact ⟨0, rfl, Nat.zero_le _, HLI⟩
          case round =>
            obtain ⟨j, rfl, hj, HI⟩ := hrel
            clear HLI
            obtain ⟨wi, rfl⟩ : ∃ wi, wi = wr := ⟨_, rfl⟩
            by_cases hjl : j < t.refs.length
            · obtain ⟨b3, e3⟩ := HA3.out (by omega)
              subst e3
              have k3 := (HZQ.out wi HI.out.1.bel).cells.2.2.2
              have HTJ := (show Hid _ from twI_at (t := t) (d := (q : Int)) hjl)
              have HRN := (show Hid _ from rnF_no (t := t) (d := (q : Int)) (nm := nm) hjl)
              have HRY := (show Hid _ from fun h => rnF_yes (t := t) (d := (q : Int)) (nm := nm) hjl h t.refs[j].scope rfl)
              have HSC := (show Hid (∀ hf : j < (rnF t (q : Int) nm j).length, (rnF t (q : Int) nm j)[j].scope = t.refs[j].scope) from fun hf => rnF_scope hf)
              have HCJ := (show Hid _ from fun wq hb => HC5.out wq hb j hjl)
              have HRJ := (show Hid _ from fun wq hb => HCR.out wq hb j hjl b3 rfl)
              have HCE := (show Hid (∀ wq, Below w3.heap.size w3 wq → (wq.cell? ⟨w.heap.size, 0, none⟩ = some (.int .i64 t.scopes) ∧ wq.cell? ⟨w.heap.size, 1, none⟩ = some (.slice a1 t.edges.length kp1) ∧ wq.cell? ⟨w.heap.size, 2, none⟩ = some (.slice (some ⟨b2, 0, none⟩) t.decls.length kp2) ∧ wq.cell? ⟨w.heap.size, 3, none⟩ = some (.slice (some ⟨b3, 0, none⟩) t.refs.length kp3)) ∧ wq.cell? ⟨b3, j * 2, none⟩ = some (.int .i64 t.refs[j].scope) ∧ wq.cell? ⟨b3, j * 2 + 1, none⟩ = some (.string t.refs[j].name)) from fun wq hb => ⟨(HZQ.out wq hb).cells, HRJ.out wq hb⟩)
              generalize hRV : rsv t t.refs[j] = RV at *
              clear hRV
              generalize t.refs[j].scope = rsc at *
              generalize t.refs[j].name = rn at *
              go_wp2_with fail
              clear k3
              have hbd : Below w3.heap.size w3 wi.drew := HI.out.1.bel.drew
              have hS0 := HCE.out _ hbd
              go_region_held3 (fun wq => (wq.cell? ⟨w.heap.size, 0, none⟩ = some (.int .i64 t.scopes) ∧ wq.cell? ⟨w.heap.size, 1, none⟩ = some (.slice a1 t.edges.length kp1) ∧ wq.cell? ⟨w.heap.size, 2, none⟩ = some (.slice (some ⟨b2, 0, none⟩) t.decls.length kp2) ∧ wq.cell? ⟨w.heap.size, 3, none⟩ = some (.slice (some ⟨b3, 0, none⟩) t.refs.length kp3)) ∧ wq.cell? ⟨b3, j * 2, none⟩ = some (.int .i64 rsc) ∧ wq.cell? ⟨b3, j * 2 + 1, none⟩ = some (.string rn)) (first | with_reducible exact hS0 | with_reducible exact hS1) ((go_at_call 35; refine Calls.mono (HCJ.out _ hbd) ?_; rintro e w6 ⟨ya, yc, rfl, hb6, ho6⟩; have hF6 := hbd.trans (hb6.mono hbd.size); have hS1 := HCE.out _ hF6))
              have HI6 := (show Hid (SgF w3 w6 ⟨t.scopes, t.edges, rnD t q nm, rnF t (q : Int) nm j⟩ g1 c1 g2 c2 g3 c3 g4) from (HI.out.1.still (Below.refl _ _).drew).still hb6)
              have HC55 := (show Hid _ from has55 RV _ (q : Int) w6 (ownInts ho6))
              have HTP := (show Hid (∀ i, i < j → twI t (q : Int) i = false) from HI.out.2)
              clear hS0 hS1 hbd hb6 ho6 HI HCJ
              generalize hUB : hasI RV (q : Int) = UB at *
              clear hUB
              go_wp2_with fail
              refine Calls.mono HC55.out ?_
              rintro e w7 ⟨rfl, rfl⟩
              clear HC55
              cases UB
              case false =>
                have HX := (show Hid (SgF w3 w7 ⟨t.scopes, t.edges, rnD t q nm, rnF t (q : Int) nm (j + 1)⟩ g1 c1 g2 c2 g3 c3 g4 ∧ ∀ i, i < j + 1 → twI t (q : Int) i = false) from ⟨by rw [HRN.out rfl]; exact HI6.out, fun i hi => by
                  by_cases e : i = j
                  · subst e; rw [HTJ.out]; rfl
                  · exact HTP.out i (by omega)⟩)
                go_wp2_with fail
                exact ⟨⟨j + 1, by go_num, by omega, HX⟩, by simp [intOf]; omega⟩
              case true =>
                by_cases hone : 1 < RV.length
                · have HT := (show Hid (twB t (q : Int) = true) from HT2.out j hjl (by rw [HTJ.out]; simp [hone]))
                  have hgt : (1 : Int) < (RV.length : Int) := by omega
                  clear hone
                  have hZ := HZQ.out w7 HI6.out.bel
                  have y0 := hZ.res.cell 0 (by simp)
                  have y1 := hZ.res.cell 1 (by simp)
                  have y2 := hZ.res.cell 2 (by simp)
                  have y3 := hZ.res.cell 3 (by simp)
                  have f0 := hZ.res.frozen 0
                  have f1 := hZ.res.frozen 1
                  have f2 := hZ.res.frozen 2
                  have f3 := hZ.res.frozen 3
                  simp only [List.getD_cons_zero, List.getD_cons_succ] at y0 y1 y2 y3
                  have HE := (show Hid _ from hZ.zero 5)
                  clear hZ
                  go_wp2_with fail
                  refine bodyPost_ret (v := .tuple #[.agg #[.int .i64 0, .slice none 0 0, .slice none 0 0, .slice none 0 0], .int .i64 5]) (by simp [results, Try.results8, go_sem, y0, y1, y2, y3, f0, f1, f2, f3]) rfl ?_
                  rw [HTW.out HT.out]
                  exact HE.out
                · have hgt : ¬ (1 : Int) < (RV.length : Int) := by omega
                  have hjf : j < (rnF t (q : Int) nm j).length := by rw [rnF_len]; exact hjl
                  have HI7 := (show Hid (SgF w3 w7.drew ⟨t.scopes, t.edges, rnD t q nm, rnF t (q : Int) nm j⟩ g1 c1 g2 c2 g3 c3 g4) from HI6.out.still (Below.refl _ _).drew)
                  have x3 := HI7.out.box.2.2.2
                  obtain ⟨y0, y1, z0, z1⟩ := HI6.out.cellR (j := j) hjf
                  have HX := (show Hid (SgF w3 ((w7.setCell ⟨g3, j * 2, none⟩ (.int .i64 rsc)).setCell ⟨g3, j * 2 + 1, none⟩ (.string nm)).drew ⟨t.scopes, t.edges, rnD t q nm, rnF t (q : Int) nm (j + 1)⟩ g1 c1 g2 c2 g3 c3 g4 ∧ ∀ i, i < j + 1 → twI t (q : Int) i = false) from ⟨by
                    have := HI6.out.ref2 hjf nm (l := rnF t (q : Int) nm (j + 1)) (by rw [← HRY.out rfl]; show List.set _ _ _ = _; rw [HSC.out hjf])
                    have e : (DSg.refs ⟨t.scopes, t.edges, rnD t q nm, rnF t (q : Int) nm j⟩)[j].scope = rsc := HSC.out hjf
                    rw [e] at this
                    exact this.still (Below.refl _ _).drew, fun i hi => by
                    by_cases e : i = j
                    · subst e; rw [HTJ.out]; simp [hone]
                    · exact HTP.out i (by omega)⟩)
                  have k3 := (HZQ.out _ HI7.out.bel).cells.2.2.2
                  have s0 := (HRJ.out _ HI7.out.bel).1
                  have HFLE := (show Hid ((rnF t (q : Int) nm j).length = t.refs.length) from rnF_len _ _ _ _)
                  simp only at x3 y0 y1
                  rw [HFLE.out] at x3
                  have hS1 : w7.drew.cell? ⟨g4, 3, none⟩ = some (.slice (some ⟨g3, 0, none⟩) t.refs.length c3) ∧ w7.drew.cell? ⟨w.heap.size, 3, none⟩ = some (.slice (some ⟨b3, 0, none⟩) t.refs.length kp3) ∧ w7.drew.cell? ⟨b3, j * 2, none⟩ = some (.int .i64 rsc) := ⟨x3, k3, s0⟩
                  have HS2 := (show Hid (((w7.setCell ⟨g3, j * 2, none⟩ (.int .i64 rsc)).setCell ⟨g3, j * 2 + 1, none⟩ (.string nm)).drew.cell? ⟨g4, 3, none⟩ = some (.slice (some ⟨g3, 0, none⟩) t.refs.length c3) ∧ ((w7.setCell ⟨g3, j * 2, none⟩ (.int .i64 rsc)).setCell ⟨g3, j * 2 + 1, none⟩ (.string nm)).drew.cell? ⟨w.heap.size, 3, none⟩ = some (.slice (some ⟨b3, 0, none⟩) t.refs.length kp3) ∧ ((w7.setCell ⟨g3, j * 2, none⟩ (.int .i64 rsc)).setCell ⟨g3, j * 2 + 1, none⟩ (.string nm)).drew.cell? ⟨b3, j * 2, none⟩ = some (.int .i64 rsc)) from ⟨by have := HX.out.1.box.2.2.2; simp only [rnF_len] at this; exact this, (HZQ.out _ HX.out.1.bel).cells.2.2.2, (HRJ.out _ HX.out.1.bel).1⟩)
                  generalize (rnF t (q : Int) nm j)[j].scope = osc at *
                  generalize (rnF t (q : Int) nm j)[j].name = onm at *
                  have i2 : (0 : Int) ≤ (j : Int) := by omega
                  have i3 : (j : Int) < (t.refs.length : Int) := by omega
                  clear x3 k3 s0 hone hjf HFLE HI6 HI7 HSC
                  go_upto_region 14 with fail
                  refine wp_region_held_drew (S := fun wq => wq.cell? ⟨g4, 3, none⟩ = some (.slice (some ⟨g3, 0, none⟩) t.refs.length c3) ∧ wq.cell? ⟨w.heap.size, 3, none⟩ = some (.slice (some ⟨b3, 0, none⟩) t.refs.length kp3) ∧ wq.cell? ⟨b3, j * 2, none⟩ = some (.int .i64 rsc)) (by kernel_rfl) hS1 (fun hHeld => ?_)
                  refine wpAnyH_take (i := 0) (oi := { dst := some 78, op := Go.Op.fieldAddr 27 (Go.Operand.tmp 8) 3, type := 0, pos := "l12_names.go:129", after := #[], guard := none }) (v := ?v21) rfl (by kernel_rfl) (by kernel_rfl) (by kernel_rfl) (fun _ _ _ h => h) (Or.inl ⟨by rfl, ?h21⟩) hHeld ?r21
                  case h21 => (intro w hSw; (try dsimp only at hSw); go_simp; try with_reducible rfl)
                  try simp only [Act.put, List.setIfInBounds_toArray, List.set_cons_zero, List.set_cons_succ]
                  refine wpAnyH_take (i := 1) (oi := { dst := some 79, op := Go.Op.load 25 (Go.Operand.tmp 78), type := 25, pos := "l12_names.go:129", after := #[{ on := 0, ground := Go.Ground.data }], guard := none }) (v := ?v22) rfl (by kernel_rfl) (by kernel_rfl) (by kernel_rfl) (fun _ _ _ h => h) (Or.inl ⟨by rfl, ?h22⟩) hHeld ?r22
                  case h22 => (intro w hSw; (try dsimp only at hSw); go_simp; try with_reducible rfl)
                  try simp only [Act.put, List.setIfInBounds_toArray, List.set_cons_zero, List.set_cons_succ]
                  refine wpAnyH_take (i := 2) (oi := { dst := some 80, op := Go.Op.move (Go.Operand.tmp 9), type := 3, pos := "l12_names.go:129", after := #[], guard := none }) (v := ?v23) rfl (by kernel_rfl) (by kernel_rfl) (by kernel_rfl) (fun _ _ _ h => h) (Or.inl ⟨by rfl, ?h23⟩) hHeld ?r23
                  case h23 => (intro w hSw; (try dsimp only at hSw); go_simp; try with_reducible rfl)
                  try simp only [Act.put, List.setIfInBounds_toArray, List.set_cons_zero, List.set_cons_succ]
                  refine wpAnyH_take (i := 3) (oi := { dst := some 81, op := Go.Op.fieldAddr 27 (Go.Operand.tmp 3) 3, type := 0, pos := "l12_names.go:129", after := #[], guard := none }) (v := ?v24) rfl (by kernel_rfl) (by kernel_rfl) (by kernel_rfl) (fun _ _ _ h => h) (Or.inl ⟨by rfl, ?h24⟩) hHeld ?r24
                  case h24 => (intro w hSw; (try dsimp only at hSw); go_simp; try with_reducible rfl)
                  try simp only [Act.put, List.setIfInBounds_toArray, List.set_cons_zero, List.set_cons_succ]
                  refine wpAnyH_take (i := 4) (oi := { dst := some 82, op := Go.Op.load 25 (Go.Operand.tmp 81), type := 25, pos := "l12_names.go:129", after := #[{ on := 3, ground := Go.Ground.data }], guard := none }) (v := ?v25) rfl (by kernel_rfl) (by kernel_rfl) (by kernel_rfl) (fun _ _ _ h => h) (Or.inl ⟨by rfl, ?h25⟩) hHeld ?r25
                  case h25 => (intro w hSw; (try dsimp only at hSw); go_simp; try with_reducible rfl)
                  try simp only [Act.put, List.setIfInBounds_toArray, List.set_cons_zero, List.set_cons_succ]
                  refine wpAnyH_take (i := 5) (oi := { dst := some 83, op := Go.Op.move (Go.Operand.tmp 9), type := 3, pos := "l12_names.go:129", after := #[], guard := none }) (v := ?v26) rfl (by kernel_rfl) (by kernel_rfl) (by kernel_rfl) (fun _ _ _ h => h) (Or.inl ⟨by rfl, ?h26⟩) hHeld ?r26
                  case h26 => (intro w hSw; (try dsimp only at hSw); go_simp; try with_reducible rfl)
                  try simp only [Act.put, List.setIfInBounds_toArray, List.set_cons_zero, List.set_cons_succ]
                  refine wpAnyH_take (i := 6) (oi := { dst := some 84, op := Go.Op.indexAddr 25 (Go.Operand.tmp 82) (Go.Operand.tmp 83), type := 0, pos := "l12_names.go:129", after := #[{ on := 4, ground := Go.Ground.data }, { on := 5, ground := Go.Ground.data }], guard := none }) (v := ?v27) rfl (by kernel_rfl) (by kernel_rfl) (by kernel_rfl) (fun _ _ _ h => h) (Or.inl ⟨by rfl, ?h27⟩) hHeld ?r27
                  case h27 => (intro w hSw; (try dsimp only at hSw); go_simp; try with_reducible rfl)
                  try simp only [Act.put, List.setIfInBounds_toArray, List.set_cons_zero, List.set_cons_succ]
                  refine wpAnyH_take (i := 7) (oi := { dst := some 85, op := Go.Op.fieldAddr 33 (Go.Operand.tmp 84) 0, type := 0, pos := "l12_names.go:129", after := #[{ on := 6, ground := Go.Ground.data }], guard := none }) (v := ?v28) rfl (by kernel_rfl) (by kernel_rfl) (by kernel_rfl) (fun _ _ _ h => h) (Or.inl ⟨by rfl, ?h28⟩) hHeld ?r28
                  case h28 => (intro w hSw; (try dsimp only at hSw); go_simp; try with_reducible rfl)
                  try simp only [Act.put, List.setIfInBounds_toArray, List.set_cons_zero, List.set_cons_succ]
                  refine wpAnyH_take (i := 8) (oi := { dst := some 86, op := Go.Op.load 3 (Go.Operand.tmp 85), type := 3, pos := "l12_names.go:129", after := #[{ on := 7, ground := Go.Ground.data }], guard := none }) (v := ?v29) rfl (by kernel_rfl) (by kernel_rfl) (by kernel_rfl) (fun _ _ _ h => h) (Or.inl ⟨by rfl, ?h29⟩) hHeld ?r29
                  case h29 => (intro w hSw; (try dsimp only at hSw); go_simp; try with_reducible rfl)
                  try simp only [Act.put, List.setIfInBounds_toArray, List.set_cons_zero, List.set_cons_succ]
                  refine wpAnyH_take (i := 9) (oi := { dst := some 87, op := Go.Op.move (Go.Operand.tmp 2), type := 9, pos := "l12_names.go:129", after := #[], guard := none }) (v := ?v30) rfl (by kernel_rfl) (by kernel_rfl) (by kernel_rfl) (fun _ _ _ h => h) (Or.inl ⟨by rfl, ?h30⟩) hHeld ?r30
                  case h30 => (intro w hSw; (try dsimp only at hSw); go_simp; try with_reducible rfl)
                  try simp only [Act.put, List.setIfInBounds_toArray, List.set_cons_zero, List.set_cons_succ]
                  refine wpAnyH_take (i := 10) (oi := { dst := some 88, op := Go.Op.build 33 #[(0, Go.Operand.tmp 86), (1, Go.Operand.tmp 87)], type := 33, pos := "l12_names.go:129", after := #[{ on := 8, ground := Go.Ground.data }, { on := 9, ground := Go.Ground.data }], guard := none }) (v := ?v31) rfl (by kernel_rfl) (by kernel_rfl) (by kernel_rfl) (fun _ _ _ h => h) (Or.inl ⟨by rfl, ?h31⟩) hHeld ?r31
                  case h31 => (intro w hSw; (try dsimp only at hSw); go_simp; try with_reducible rfl)
                  try simp only [Act.put, List.setIfInBounds_toArray, List.set_cons_zero, List.set_cons_succ]
                  refine wpAnyH_take (i := 11) (oi := { dst := some 89, op := Go.Op.indexAddr 25 (Go.Operand.tmp 79) (Go.Operand.tmp 80), type := 0, pos := "l12_names.go:129", after := #[{ on := 1, ground := Go.Ground.data }, { on := 2, ground := Go.Ground.data }, { on := 0, ground := Go.Ground.phase }, { on := 1, ground := Go.Ground.phase }, { on := 2, ground := Go.Ground.phase }, { on := 3, ground := Go.Ground.phase }, { on := 4, ground := Go.Ground.phase }, { on := 5, ground := Go.Ground.phase }, { on := 6, ground := Go.Ground.phase }, { on := 7, ground := Go.Ground.phase }, { on := 8, ground := Go.Ground.phase }, { on := 9, ground := Go.Ground.phase }, { on := 10, ground := Go.Ground.phase }], guard := none }) (v := ?v32) rfl (by kernel_rfl) (by kernel_rfl) (by kernel_rfl) (fun _ _ _ h => h) (Or.inl ⟨by rfl, ?h32⟩) hHeld ?r32
                  case h32 => (intro w hSw; (try dsimp only at hSw); go_simp; try with_reducible rfl)
                  try simp only [Act.put, List.setIfInBounds_toArray, List.set_cons_zero, List.set_cons_succ]
                  refine wpAnyH_ready (rs := [12]) (by kernel_rfl) (by simp) ?_
                  refine (AllReadyH.cons (o := { dst := none, op := Go.Op.store 33 (Go.Operand.tmp 89) (Go.Operand.tmp 88), type := 0, pos := "l12_names.go:129", after := #[{ on := 11, ground := Go.Ground.data }, { on := 10, ground := Go.Ground.data }, { on := 0, ground := Go.Ground.phase }, { on := 1, ground := Go.Ground.phase }, { on := 2, ground := Go.Ground.phase }, { on := 3, ground := Go.Ground.phase }, { on := 4, ground := Go.Ground.phase }, { on := 5, ground := Go.Ground.phase }, { on := 6, ground := Go.Ground.phase }, { on := 7, ground := Go.Ground.phase }, { on := 8, ground := Go.Ground.phase }, { on := 9, ground := Go.Ground.phase }, { on := 10, ground := Go.Ground.phase }], guard := none }) rfl (fun K hK => ?_) AllReadyH.nil)
                  go_simp
                  refine hK.out _ _ HS2.out (fun hHeld => ?_)
                  refine wpAnyH_done (by kernel_rfl) ?_ _
                  clear hK K hHeld hS1 y0 y1 z0 z1 HS2
                  generalize hw8 : ((w7.setCell ⟨g3, j * 2, none⟩ (.int .i64 rsc)).setCell ⟨g3, j * 2 + 1, none⟩ (.string nm)).drew = w8 at *
                  clear hw8
                  go_wp2_with fail
                  exact ⟨⟨j + 1, by go_num, by omega, HX⟩, by simp [intOf]; omega⟩
            · obtain rfl : j = t.refs.length := by omega
              have HTF := (show Hid (twB t (q : Int) = false) from twB_no (fun i hi => HI.out.2 i hi))
              have HSF := (show Hid (SgF w3 wi (rnT t q nm) g1 c1 g2 c2 g3 c3 g4) from HI.out.1)
              have HNS := (show Hid _ from sg_names HK.out)
              have HDN := (show Hid (∀ i (hi : i < (rnT t q nm).decls.length), (rnT t q nm).decls[i].name.size ≤ maxLen) from nwN_names HN.out HNS.out.1)
              have HRN := (show Hid (∀ i (hi : i < (rnT t q nm).refs.length), (rnT t q nm).refs[i].name.size ≤ maxLen) from nwN_names HN.out HNS.out.2)
              have HRL := (show Hid ((rnT t q nm).refs.length = t.refs.length) from rnF_len _ _ _ _)
              have HLD := (show Hid ((rnT t q nm).edges.length ≤ 120 ∧ (rnT t q nm).decls.length ≤ 120 ∧ (rnT t q nm).refs.length ≤ 120) from ⟨f3, by show (rnD t q nm).length ≤ _; rw [rnD_len]; exact f4, by show (rnF t _ nm _).length ≤ _; rw [rnF_len]; exact f5⟩)
              have HTOK := (show Hid _ from rnT_ok (d := q) HK.out HN.out)
              generalize rnT t q nm = RT at *
              have HRT := (show Hid (∀ wq, Below wi.heap.size wi wq → ∀ j (hj : j < RT.refs.length), Calls Try.prog 35 #[.agg #[.int .i64 RT.scopes, .slice (some ⟨g1, 0, none⟩) RT.edges.length c1, .slice (some ⟨g2, 0, none⟩) RT.decls.length c2, .slice (some ⟨g3, 0, none⟩) RT.refs.length c3], .agg #[.int .i64 RT.refs[j].scope, .string RT.refs[j].name]] wq (InA (rsv RT RT.refs[j]) wq)) from fun wq hb j hj => res50 RT _ _ _ _ _ wq ((HSF.out.still hb).lies HDN.out HRN.out).edges ((HSF.out.still hb).lies HDN.out HRN.out).decls HTOK.out _ (List.getElem_mem hj))
              have HW3 := (show Hid (Below w3.heap.size w3 wi) from HSF.out.bel)
              have HBQ := (show Hid (∀ wq, Below wi.heap.size wi wq → Below w3.heap.size w3 wq) from fun wq hb => HW3.out.trans (hb.mono HW3.out.size))
              have HMS := (show Hid ((∀ i (h1 : i < t.refs.length) (h2 : i < RT.refs.length), rsv t t.refs[i] = rsv RT RT.refs[i]) → RT.refs.map (rsv RT) = t.refs.map (rsv t)) from fun h => List.ext_getElem (by rw [List.length_map, List.length_map, HRL.out]) (fun i h1 h2 => by rw [List.getElem_map, List.getElem_map]; exact (h i (by rw [List.length_map] at h2; exact h2) (by rw [List.length_map] at h1; exact h1)).symm))
              have HMN := (show Hid (∀ i (h1 : i < t.refs.length) (h2 : i < RT.refs.length), ¬ rsv t t.refs[i] = rsv RT RT.refs[i] → ¬ RT.refs.map (rsv RT) = t.refs.map (rsv t)) from fun i h1 h2 hn he => hn (by
                have := congrArg (·[i]?) he
                simp only [List.getElem?_map, List.getElem?_eq_getElem h1, List.getElem?_eq_getElem h2, Option.map_some] at this
                injection this with this
                exact this.symm))
              have HC4 := (show Hid _ from HSF.out.box)
              have k3 := (HZQ.out wi HW3.out).cells.2.2.2
              clear HI
              go_wp2_with fail
              clear k3
              go_loopw [11] (fun i wr => ∃ r : Nat, i = .int .i64 r ∧ r ≤ t.refs.length ∧ Hid (Below wi.heap.size wi wr ∧ ∀ i (h1 : i < t.refs.length) (h2 : i < RT.refs.length), i < r → rsv t t.refs[i] = rsv RT RT.refs[i])) (fun i _ => t.refs.length - (intOf i).toNat)
              case atStart => exact ⟨0, rfl, Nat.zero_le _, Below.refl _ _, fun i _ _ h0 => absurd h0 (Nat.not_lt_zero _)⟩
              case round =>
                obtain ⟨r, rfl, hr, HI⟩ := hrel
                obtain ⟨wj, rfl⟩ : ∃ wj, wj = wr := ⟨_, rfl⟩
                have k3 := (HZQ.out wj (HBQ.out wj HI.out.1)).cells.2.2.2
                by_cases hrl : r < t.refs.length
                · obtain ⟨b3, e3⟩ := HA3.out (by omega)
                  subst e3
                  have hrt : r < RT.refs.length := by rw [HRL.out]; exact hrl
                  have HQ1 := (show Hid _ from fun wq hb => HC5.out wq hb r hrl)
                  have HQ2 := (show Hid _ from fun wq hb => HRT.out wq hb r hrt)
                  have HCE := (show Hid (∀ wq, Below wi.heap.size wi wq → (wq.cell? ⟨w.heap.size, 0, none⟩ = some (.int .i64 t.scopes) ∧ wq.cell? ⟨w.heap.size, 1, none⟩ = some (.slice a1 t.edges.length kp1) ∧ wq.cell? ⟨w.heap.size, 2, none⟩ = some (.slice (some ⟨b2, 0, none⟩) t.decls.length kp2) ∧ wq.cell? ⟨w.heap.size, 3, none⟩ = some (.slice (some ⟨b3, 0, none⟩) t.refs.length kp3)) ∧ (wq.cell? ⟨b3, r * 2, none⟩ = some (.int .i64 t.refs[r].scope) ∧ wq.cell? ⟨b3, r * 2 + 1, none⟩ = some (.string t.refs[r].name)) ∧ (wq.cell? ⟨g4, 0, none⟩ = some (.int .i64 RT.scopes) ∧ wq.cell? ⟨g4, 1, none⟩ = some (.slice (some ⟨g1, 0, none⟩) RT.edges.length c1) ∧ wq.cell? ⟨g4, 2, none⟩ = some (.slice (some ⟨g2, 0, none⟩) RT.decls.length c2) ∧ wq.cell? ⟨g4, 3, none⟩ = some (.slice (some ⟨g3, 0, none⟩) RT.refs.length c3)) ∧ wq.cell? ⟨g3, r * 2, none⟩ = some (.int .i64 RT.refs[r].scope) ∧ wq.cell? ⟨g3, r * 2 + 1, none⟩ = some (.string RT.refs[r].name)) from fun wq hb => ⟨(HZQ.out wq (HBQ.out wq hb)).cells, HCR.out wq (HBQ.out wq hb) r hrl b3 rfl, (HSF.out.still hb).box, ((HSF.out.still hb).cellR hrt).1, ((HSF.out.still hb).cellR hrt).2.1⟩)
                  have HNX := (show Hid (decide (rsv t t.refs[r] = rsv RT RT.refs[r]) = true → ∀ i (h1 : i < t.refs.length) (h2 : i < RT.refs.length), i < r + 1 → rsv t t.refs[i] = rsv RT RT.refs[i]) from fun he i h1 h2 hi => by
                    by_cases e : i = r
                    · subst e; exact of_decide_eq_true he
                    · exact HI.out.2 i h1 h2 (by omega))
                  have HNO := (show Hid (decide (rsv t t.refs[r] = rsv RT RT.refs[r]) = false → GR = (zSg, 12)) from fun he => HCA.out HTF.out (HMN.out r hrl hrt (of_decide_eq_false he)))
                  have HBJ := (show Hid (Below wi.heap.size wi wj) from HI.out.1)
                  generalize rsv t t.refs[r] = L1 at *
                  generalize rsv RT RT.refs[r] = L2 at *
                  generalize t.refs[r].scope = rsc at *
                  generalize t.refs[r].name = rn at *
                  generalize RT.refs[r].scope = tsc at *
                  generalize RT.refs[r].name = tn at *
                  have i2 : (0 : Int) ≤ (r : Int) := by omega
                  have i3 : (r : Int) < (t.refs.length : Int) := by omega
                  have i4 : (r : Int) < (RT.refs.length : Int) := by omega
                  have HS60 := (show Hid (∀ (wq : World) (v v' : Value), Ints wq (fun _ => True) L1 v → Ints wq (fun _ => True) L2 v' → Calls Try.prog 37 #[v, v'] wq fun e w' => e = .returned (.bool (decide (L1 = L2))) ∧ Below wq.heap.size wq w') from fun wq v v' h1 h2 => same60 L1 L2 v v' wq h1 h2)
                  generalize hSM : decide (L1 = L2) = SM at *
                  clear hSM HI
                  go_wp2_with fail
                  clear k3
                  have hbd : Below wi.heap.size wi wj.drew := HBJ.out.drew
                  have hb3d : Below w3.heap.size w3 wj.drew := HBQ.out _ hbd
                  have hS0 := HCE.out _ hbd
                  refine wp_region_held_drew (S := (fun wq => (wq.cell? ⟨w.heap.size, 0, none⟩ = some (.int .i64 t.scopes) ∧ wq.cell? ⟨w.heap.size, 1, none⟩ = some (.slice a1 t.edges.length kp1) ∧ wq.cell? ⟨w.heap.size, 2, none⟩ = some (.slice (some ⟨b2, 0, none⟩) t.decls.length kp2) ∧ wq.cell? ⟨w.heap.size, 3, none⟩ = some (.slice (some ⟨b3, 0, none⟩) t.refs.length kp3)) ∧ (wq.cell? ⟨b3, r * 2, none⟩ = some (.int .i64 rsc) ∧ wq.cell? ⟨b3, r * 2 + 1, none⟩ = some (.string rn)) ∧ (wq.cell? ⟨g4, 0, none⟩ = some (.int .i64 RT.scopes) ∧ wq.cell? ⟨g4, 1, none⟩ = some (.slice (some ⟨g1, 0, none⟩) RT.edges.length c1) ∧ wq.cell? ⟨g4, 2, none⟩ = some (.slice (some ⟨g2, 0, none⟩) RT.decls.length c2) ∧ wq.cell? ⟨g4, 3, none⟩ = some (.slice (some ⟨g3, 0, none⟩) RT.refs.length c3)) ∧ wq.cell? ⟨g3, r * 2, none⟩ = some (.int .i64 tsc) ∧ wq.cell? ⟨g3, r * 2 + 1, none⟩ = some (.string tn))) (by kernel_rfl) hS0 (fun hHeld => ?_)
                  refine wpAnyH_take (i := 0) (oi := { dst := some 97, op := Go.Op.load 27 (Go.Operand.tmp 3), type := 27, pos := "l12_names.go:132", after := #[], guard := none }) (v := ?v33) rfl (by kernel_rfl) (by kernel_rfl) (by kernel_rfl) (fun _ _ _ h => h) (Or.inl ⟨by rfl, ?h33⟩) hHeld ?r33
                  case h33 => (intro w hSw; (try dsimp only at hSw); go_simp; try with_reducible rfl)
                  try simp only [Act.put, List.setIfInBounds_toArray, List.set_cons_zero, List.set_cons_succ]
                  refine wpAnyH_take (i := 1) (oi := { dst := some 98, op := Go.Op.fieldAddr 27 (Go.Operand.tmp 3) 3, type := 0, pos := "l12_names.go:132", after := #[], guard := none }) (v := ?v34) rfl (by kernel_rfl) (by kernel_rfl) (by kernel_rfl) (fun _ _ _ h => h) (Or.inl ⟨by rfl, ?h34⟩) hHeld ?r34
                  case h34 => (intro w hSw; (try dsimp only at hSw); go_simp; try with_reducible rfl)
                  try simp only [Act.put, List.setIfInBounds_toArray, List.set_cons_zero, List.set_cons_succ]
                  refine wpAnyH_take (i := 2) (oi := { dst := some 99, op := Go.Op.load 25 (Go.Operand.tmp 98), type := 25, pos := "l12_names.go:132", after := #[{ on := 1, ground := Go.Ground.data }], guard := none }) (v := ?v35) rfl (by kernel_rfl) (by kernel_rfl) (by kernel_rfl) (fun _ _ _ h => h) (Or.inl ⟨by rfl, ?h35⟩) hHeld ?r35
                  case h35 => (intro w hSw; (try dsimp only at hSw); go_simp; try with_reducible rfl)
                  try simp only [Act.put, List.setIfInBounds_toArray, List.set_cons_zero, List.set_cons_succ]
                  refine wpAnyH_take (i := 3) (oi := { dst := some 100, op := Go.Op.move (Go.Operand.tmp 11), type := 3, pos := "l12_names.go:132", after := #[], guard := none }) (v := ?v36) rfl (by kernel_rfl) (by kernel_rfl) (by kernel_rfl) (fun _ _ _ h => h) (Or.inl ⟨by rfl, ?h36⟩) hHeld ?r36
                  case h36 => (intro w hSw; (try dsimp only at hSw); go_simp; try with_reducible rfl)
                  try simp only [Act.put, List.setIfInBounds_toArray, List.set_cons_zero, List.set_cons_succ]
                  refine wpAnyH_take (i := 4) (oi := { dst := some 101, op := Go.Op.indexAddr 25 (Go.Operand.tmp 99) (Go.Operand.tmp 100), type := 0, pos := "l12_names.go:132", after := #[{ on := 2, ground := Go.Ground.data }, { on := 3, ground := Go.Ground.data }], guard := none }) (v := ?v37) rfl (by kernel_rfl) (by kernel_rfl) (by kernel_rfl) (fun _ _ _ h => h) (Or.inl ⟨by rfl, ?h37⟩) hHeld ?r37
                  case h37 => (intro w hSw; (try dsimp only at hSw); go_simp; try with_reducible rfl)
                  try simp only [Act.put, List.setIfInBounds_toArray, List.set_cons_zero, List.set_cons_succ]
                  refine wpAnyH_take (i := 5) (oi := { dst := some 102, op := Go.Op.load 33 (Go.Operand.tmp 101), type := 33, pos := "l12_names.go:132", after := #[{ on := 4, ground := Go.Ground.data }], guard := none }) (v := ?v38) rfl (by kernel_rfl) (by kernel_rfl) (by kernel_rfl) (fun _ _ _ h => h) (Or.inl ⟨by rfl, ?h38⟩) hHeld ?r38
                  case h38 => (intro w hSw; (try dsimp only at hSw); go_simp; try with_reducible rfl)
                  try simp only [Act.put, List.setIfInBounds_toArray, List.set_cons_zero, List.set_cons_succ]
                  refine wpAnyH_take (i := 7) (oi := { dst := some 104, op := Go.Op.load 27 (Go.Operand.tmp 8), type := 27, pos := "l12_names.go:132", after := #[], guard := none }) (v := ?v39) rfl (by kernel_rfl) (by kernel_rfl) (by kernel_rfl) (fun _ _ _ h => h) (Or.inl ⟨by rfl, ?h39⟩) hHeld ?r39
                  case h39 => (intro w hSw; (try dsimp only at hSw); go_simp; try with_reducible rfl)
                  try simp only [Act.put, List.setIfInBounds_toArray, List.set_cons_zero, List.set_cons_succ]
                  refine wpAnyH_take (i := 8) (oi := { dst := some 105, op := Go.Op.fieldAddr 27 (Go.Operand.tmp 8) 3, type := 0, pos := "l12_names.go:132", after := #[], guard := none }) (v := ?v40) rfl (by kernel_rfl) (by kernel_rfl) (by kernel_rfl) (fun _ _ _ h => h) (Or.inl ⟨by rfl, ?h40⟩) hHeld ?r40
                  case h40 => (intro w hSw; (try dsimp only at hSw); go_simp; try with_reducible rfl)
                  try simp only [Act.put, List.setIfInBounds_toArray, List.set_cons_zero, List.set_cons_succ]
                  refine wpAnyH_take (i := 9) (oi := { dst := some 106, op := Go.Op.load 25 (Go.Operand.tmp 105), type := 25, pos := "l12_names.go:132", after := #[{ on := 8, ground := Go.Ground.data }], guard := none }) (v := ?v41) rfl (by kernel_rfl) (by kernel_rfl) (by kernel_rfl) (fun _ _ _ h => h) (Or.inl ⟨by rfl, ?h41⟩) hHeld ?r41
                  case h41 => (intro w hSw; (try dsimp only at hSw); go_simp; try with_reducible rfl)
                  try simp only [Act.put, List.setIfInBounds_toArray, List.set_cons_zero, List.set_cons_succ]
                  refine wpAnyH_take (i := 10) (oi := { dst := some 107, op := Go.Op.move (Go.Operand.tmp 11), type := 3, pos := "l12_names.go:132", after := #[], guard := none }) (v := ?v42) rfl (by kernel_rfl) (by kernel_rfl) (by kernel_rfl) (fun _ _ _ h => h) (Or.inl ⟨by rfl, ?h42⟩) hHeld ?r42
                  case h42 => (intro w hSw; (try dsimp only at hSw); go_simp; try with_reducible rfl)
                  try simp only [Act.put, List.setIfInBounds_toArray, List.set_cons_zero, List.set_cons_succ]
                  refine wpAnyH_take (i := 11) (oi := { dst := some 108, op := Go.Op.indexAddr 25 (Go.Operand.tmp 106) (Go.Operand.tmp 107), type := 0, pos := "l12_names.go:132", after := #[{ on := 9, ground := Go.Ground.data }, { on := 10, ground := Go.Ground.data }], guard := none }) (v := ?v43) rfl (by kernel_rfl) (by kernel_rfl) (by kernel_rfl) (fun _ _ _ h => h) (Or.inl ⟨by rfl, ?h43⟩) hHeld ?r43
                  case h43 => (intro w hSw; (try dsimp only at hSw); go_simp; try with_reducible rfl)
                  try simp only [Act.put, List.setIfInBounds_toArray, List.set_cons_zero, List.set_cons_succ]
                  refine wpAnyH_take (i := 12) (oi := { dst := some 109, op := Go.Op.load 33 (Go.Operand.tmp 108), type := 33, pos := "l12_names.go:132", after := #[{ on := 11, ground := Go.Ground.data }], guard := none }) (v := ?v44) rfl (by kernel_rfl) (by kernel_rfl) (by kernel_rfl) (fun _ _ _ h => h) (Or.inl ⟨by rfl, ?h44⟩) hHeld ?r44
                  case h44 => (intro w hSw; (try dsimp only at hSw); go_simp; try with_reducible rfl)
                  try simp only [Act.put, List.setIfInBounds_toArray, List.set_cons_zero, List.set_cons_succ]
                  refine wpAnyH_ready (rs := [6]) (by kernel_rfl) (by simp) ?_
                  refine (AllReadyH.cons (o := { dst := some 103, op := Go.Op.call { callee := Go.Callee.value (Go.Operand.func 35), args := #[Go.Operand.tmp 97, Go.Operand.tmp 102], argTypes := #[27, 33] }, type := 34, pos := "l12_names.go:132", after := #[{ on := 0, ground := Go.Ground.data }, { on := 5, ground := Go.Ground.data }], guard := none }) rfl (fun K hK => ?_) AllReadyH.nil)
                  go_simp
                  go_at_call 35
                  refine Calls.mono (HQ1.out _ hb3d) ?_
                  rintro e w7 ⟨ya, yc, rfl, hb7, ho7⟩
                  have hF7 := bel_trans hbd hb7
                  have hS1 := HCE.out _ hF7
                  clear hHeld
                  refine hK.out _ _ hS1 (fun hHeld => ?_)
                  clear hK K
                  try simp only [Act.put, List.setIfInBounds_toArray, List.set_cons_zero, List.set_cons_succ]
                  refine wpAnyH_ready (rs := [13]) (by kernel_rfl) (by simp) ?_
                  refine (AllReadyH.cons (o := { dst := some 110, op := Go.Op.call { callee := Go.Callee.value (Go.Operand.func 35), args := #[Go.Operand.tmp 104, Go.Operand.tmp 109], argTypes := #[27, 33] }, type := 34, pos := "l12_names.go:132", after := #[{ on := 7, ground := Go.Ground.data }, { on := 12, ground := Go.Ground.data }, { on := 6, ground := Go.Ground.chain }], guard := none }) rfl (fun K hK => ?_) AllReadyH.nil)
                  go_simp
                  go_at_call 35
                  refine Calls.mono (HQ2.out _ hF7) ?_
                  rintro e w8 ⟨yb, yd, rfl, hb8, ho8⟩
                  have hF8 := bel_trans hF7 hb8
                  have hv7 := (ownInts ho7).still hb8
                  have hv8 := ownInts ho8
                  have hS2 := HCE.out _ hF8
                  clear hHeld
                  refine hK.out _ _ hS2 (fun hHeld => ?_)
                  clear hK K
                  try simp only [Act.put, List.setIfInBounds_toArray, List.set_cons_zero, List.set_cons_succ]
                  refine wpAnyH_ready (rs := [14]) (by kernel_rfl) (by simp) ?_
                  refine (AllReadyH.cons (o := { dst := some 111, op := Go.Op.call { callee := Go.Callee.value (Go.Operand.func 37), args := #[Go.Operand.tmp 103, Go.Operand.tmp 110], argTypes := #[34, 34] }, type := 4, pos := "l12_names.go:132", after := #[{ on := 6, ground := Go.Ground.data }, { on := 13, ground := Go.Ground.data }, { on := 13, ground := Go.Ground.chain }], guard := none }) rfl (fun K hK => ?_) AllReadyH.nil)
                  go_simp
                  go_at_call 37
                  refine Calls.mono (HS60.out _ _ _ hv7 hv8) ?_
                  rintro e w9 ⟨rfl, hb9⟩
                  have hF9 := bel_trans hF8 hb9
                  have hS3 := HCE.out _ hF9
                  clear hHeld
                  refine hK.out _ _ hS3 (fun hHeld => ?_)
                  clear hK K
                  try simp only [Act.put, List.setIfInBounds_toArray, List.set_cons_zero, List.set_cons_succ]
                  refine wpAnyH_take (i := 15) (oi := { dst := some 112, op := Go.Op.unOp Go.UnOp.not 4 (Go.Operand.tmp 111), type := 4, pos := "l12_names.go:132", after := #[{ on := 14, ground := Go.Ground.data }], guard := none }) (v := ?v45) rfl (by kernel_rfl) (by kernel_rfl) (by kernel_rfl) (fun _ _ _ h => h) (Or.inl ⟨by rfl, ?h45⟩) hHeld ?r45
                  case h45 => (intro w hSw; (try dsimp only at hSw); go_simp; try with_reducible rfl)
                  try simp only [Act.put, List.setIfInBounds_toArray, List.set_cons_zero, List.set_cons_succ]
                  refine wpAnyH_done (by kernel_rfl) ?_ _
                  clear hHeld
                  have HF9 := (show Hid (Below wi.heap.size wi w9) from hF9)
                  clear hS0 hS1 hS2 hS3 hbd hb3d hb7 ho7 hF7 hb8 ho8 hF8 hv7 hv8 hb9 hF9 HCE
                  cases SM
                  case false =>
                    have HE2 := (show Hid _ from HNO.out rfl)
                    have hZ := HZQ.out w9 (HBQ.out _ HF9.out)
                    have y0 := hZ.res.cell 0 (by simp)
                    have y1 := hZ.res.cell 1 (by simp)
                    have y2 := hZ.res.cell 2 (by simp)
                    have y3 := hZ.res.cell 3 (by simp)
                    have f0 := hZ.res.frozen 0
                    have f1 := hZ.res.frozen 1
                    have f2 := hZ.res.frozen 2
                    have f3 := hZ.res.frozen 3
                    simp only [List.getD_cons_zero, List.getD_cons_succ] at y0 y1 y2 y3
                    have HE := (show Hid _ from hZ.zero 12)
                    clear hZ
                    go_wp2_with fail
                    refine bodyPost_ret (v := .tuple #[.agg #[.int .i64 0, .slice none 0 0, .slice none 0 0, .slice none 0 0], .int .i64 12]) (by simp [results, Try.results8, go_sem, y0, y1, y2, y3, f0, f1, f2, f3]) rfl ?_
                    rw [HE2.out]
                    exact HE.out
                  case true =>
                    have HN2 := (show Hid _ from HNX.out rfl)
                    go_wp2_with fail
                    exact ⟨⟨r + 1, by go_num, by omega, HF9.out, HN2.out⟩, by simp [intOf]; omega⟩
                · obtain rfl : r = t.refs.length := by omega
                  have HE2 := (show Hid _ from HSU.out HTF.out (HMS.out (fun i h1 h2 => HI.out.2 i h1 h2 h1)))
                  have HSF8 := (show Hid (SgF w3 wj RT g1 c1 g2 c2 g3 c3 g4) from HSF.out.still HI.out.1)
                  obtain ⟨x0, x1, x2, x3⟩ := HSF8.out.box
                  have hZ := HZQ.out wj HSF8.out.bel
                  have y0 := hZ.res.cell 0 (by simp)
                  have y1 := hZ.res.cell 1 (by simp)
                  have y2 := hZ.res.cell 2 (by simp)
                  have y3 := hZ.res.cell 3 (by simp)
                  have f0 := hZ.res.frozen 0
                  have f1 := hZ.res.frozen 1
                  have f2 := hZ.res.frozen 2
                  have f6 := hZ.res.frozen 3
                  simp only [List.getD_cons_zero, List.getD_cons_succ] at y0 y1 y2 y3
                  have HE := (show Hid _ from HSF8.out.answer HZ1.out HDN.out HRN.out HLD.out.1 HLD.out.2.1 HLD.out.2.2)
                  clear hZ
                  go_wp2_with fail
                  refine bodyPost_ret (v := .tuple #[.agg #[.int .i64 RT.scopes, .slice (some ⟨g1, 0, none⟩) RT.edges.length c1, .slice (some ⟨g2, 0, none⟩) RT.decls.length c2, .slice (some ⟨g3, 0, none⟩) RT.refs.length c3], .int .i64 0]) (by simp [results, Try.results8, go_sem, y0, y1, y2, y3, f0, f1, f2, f6]) rfl ?_
                  rw [HE2.out]
                  exact HE.out
end Go.Proofs.Ytledclkmeikgdaa
