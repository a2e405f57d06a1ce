import Derived.Test.YtkkebcbcbihbiaaHo
/-! Rename: the program. -/
namespace Go.Proofs.Ytkkebcbcbihbiaa
open Go.RowKit Go.Deep
set_option linter.unusedVariables false
set_option maxRecDepth 100000
set_option linter.unusedSimpArgs false

theorem Fz.cells {w w' : World} {sc : Int} {v1 v2 v3 : Value} (h : Fz w sc v1 v2 v3 w') : w'.cell? ⟨w.heap.size, 0, none⟩ = some (.int .i64 sc) ∧ w'.cell? ⟨w.heap.size, 1, none⟩ = some v1 ∧ w'.cell? ⟨w.heap.size, 2, none⟩ = some v2 ∧ w'.cell? ⟨w.heap.size, 3, none⟩ = some v3 :=
  ⟨h.arg.cell 0 (by simp), h.arg.cell 1 (by simp), h.arg.cell 2 (by simp), h.arg.cell 3 (by simp)⟩
set_option maxHeartbeats 25600000 in
theorem iRn23 {S : Nat → Prop} (t : DSg) (v1 v2 v3 : Value) (d : Int) (nm : ByteArray) (w : World) (h : DSgO w S t v1 v2 v3) (hns : nm.size ≤ maxLen) :
    Calls Try.prog 23 #[.agg #[.int .i64 t.scopes, v1, v2, v3], .int .i64 d, .string nm] w (RnA (rnR t d nm) w) := by
  have hlies := h.lies
  obtain ⟨b1, rfl, _, hr1⟩ := h.edges.rw'
  obtain ⟨b2, rfl, _, hr2⟩ := h.decls.rw'
  obtain ⟨b3, rfl, _, hr3⟩ := h.refs.rw'
  have HOK := (show Hid (∀ w', Below w.heap.size w w' → Calls Try.prog 12 #[.agg #[.int .i64 t.scopes, .slice (some ⟨b1, 0, none⟩) t.edges.length t.edges.length, .slice (some ⟨b2, 0, none⟩) t.decls.length t.decls.length, .slice (some ⟨b3, 0, none⟩) t.refs.length t.refs.length]] w' fun e w'' => e = .returned (.bool (sgB t)) ∧ Below w'.heap.size w' w'') from fun w' hb => iSg12 t _ _ _ w' (hlies.still hb))
  have HAL := (show Hid (∀ w', Below w.heap.size w w' → sgB t = true → Calls Try.prog 57 #[.agg #[.int .i64 t.scopes, .slice (some ⟨b1, 0, none⟩) t.edges.length t.edges.length, .slice (some ⟨b2, 0, none⟩) t.decls.length t.decls.length, .slice (some ⟨b3, 0, none⟩) t.refs.length t.refs.length]] w' (RaA (t.refs.map (rsv t)) w')) from fun w' hb hok => all57 t _ _ _ w' (hlies.still hb) hok)
  have HNM := (show Hid (∀ w', Calls Try.prog 45 #[.string nm] w' fun e w'' => e = .returned (.bool (nmB nm)) ∧ w'' = w') from fun w' => iName nm hns w')
  have HR1 := (show Hid (∀ w', Below w.heap.size w w' → Rw w' 68 3 b1 t.edges.length t.edges.length (edC t.edges) ∧ Rw w' 74 2 b2 t.decls.length t.decls.length (spC t.decls) ∧ Rw w' 74 2 b3 t.refs.length t.refs.length (spC t.refs)) from fun w' hb => ⟨hr1.keep (hb.block _ hr1.lt), hr2.keep (hb.block _ hr2.lt), hr3.keep (hb.block _ hr3.lt)⟩)
  clear h hlies hr1 hr2 hr3
  unfold maxLen at hns
  have HZ0 := (show Hid (Fz w t.scopes (.slice (some ⟨b1, 0, none⟩) t.edges.length t.edges.length) (.slice (some ⟨b2, 0, none⟩) t.decls.length t.decls.length) (.slice (some ⟨b3, 0, none⟩) t.refs.length t.refs.length) ((w.alloc (.cells #[.int .i64 t.scopes, .slice (some ⟨b1, 0, none⟩) t.edges.length t.edges.length, .slice (some ⟨b2, 0, none⟩) t.decls.length t.decls.length, .slice (some ⟨b3, 0, none⟩) t.refs.length t.refs.length] 31)).alloc (.cells #[.int .i64 0, .slice none 0 0, .slice none 0 0, .slice none 0 0] 31))) from Fz.new w t.scopes _ _ _)
  generalize hGR : rnR t d nm = GR
  have HGR := (show Hid _ from hGR); clear hGR
  have HC1 := (show Hid _ from HOK.out _ HZ0.out.bel)
  obtain ⟨k0, k1, k2, k3⟩ := HZ0.out.cells
  generalize hok : sgB t = OK at *
  have HK := (show Hid _ from hok); clear hok
  obtain ⟨W0, hW0⟩ : ∃ W0, ((w.alloc (.cells #[.int .i64 t.scopes, .slice (some ⟨b1, 0, none⟩) t.edges.length t.edges.length, .slice (some ⟨b2, 0, none⟩) t.decls.length t.decls.length, .slice (some ⟨b3, 0, none⟩) t.refs.length t.refs.length] 31)).alloc (.cells #[.int .i64 0, .slice none 0 0, .slice none 0 0, .slice none 0 0] 31)) = W0 := ⟨_, rfl⟩
  rw [hW0] at HZ0 HC1 k0 k1 k2 k3
  go_enter Try.func23, Try.ntmps23
  go_wp2_with fail
  refine Calls.mono HC1.out ?_
  rintro e w1 ⟨rfl, hb1⟩
  have HZ1 := (show Hid (Fz w t.scopes (.slice (some ⟨b1, 0, none⟩) t.edges.length t.edges.length) (.slice (some ⟨b2, 0, none⟩) t.decls.length t.decls.length) (.slice (some ⟨b3, 0, none⟩) t.refs.length t.refs.length) w1) from HZ0.out.still hb1)
  clear hb1 HC1 HZ0 hW0 k0 k1 k2 k3
  cases OK
  case false =>
    have hZ := HZ1.out
    have y0 := hZ.res.cell 0 (by simp)
    have y1 := hZ.res.cell 1 (by simp)
    have y2 := hZ.res.cell 2 (by simp)
    have y3 := hZ.res.cell 3 (by simp)
    have f0 := hZ.res.frozen 0
    have f1 := hZ.res.frozen 1
    have f2 := hZ.res.frozen 2
    have f3 := hZ.res.frozen 3
    simp only [List.getD_cons_zero, List.getD_cons_succ] at y0 y1 y2 y3
    have HE := (show Hid _ from hZ.zero 1)
    clear hZ
    go_wp2_with fail
    refine bodyPost_ret (v := .tuple #[.agg #[.int .i64 0, .slice none 0 0, .slice none 0 0, .slice none 0 0], .int .i64 1]) (by simp [results, Try.results23, go_sem, y0, y1, y2, y3, f0, f1, f2, f3]) rfl ?_
    rw [← HGR.out, rnR_bad (fun h => by have := HK.out; rw [h.1] at this; cases this)]
    exact HE.out
  case true =>
    have HC2 := (show Hid _ from HNM.out w1)
    generalize hnm : nmB nm = NM at *
    have HN := (show Hid _ from hnm); clear hnm
    go_wp2_with fail
    refine Calls.mono HC2.out ?_
    rintro e w2 ⟨rfl, rfl⟩
    clear HC2
    cases NM
    case false =>
      have hZ := HZ1.out
      have y0 := hZ.res.cell 0 (by simp)
      have y1 := hZ.res.cell 1 (by simp)
      have y2 := hZ.res.cell 2 (by simp)
      have y3 := hZ.res.cell 3 (by simp)
      have f0 := hZ.res.frozen 0
      have f1 := hZ.res.frozen 1
      have f2 := hZ.res.frozen 2
      have f3 := hZ.res.frozen 3
      simp only [List.getD_cons_zero, List.getD_cons_succ] at y0 y1 y2 y3
      have HE := (show Hid _ from hZ.zero 1)
      clear hZ
      go_wp2_with fail
      refine bodyPost_ret (v := .tuple #[.agg #[.int .i64 0, .slice none 0 0, .slice none 0 0, .slice none 0 0], .int .i64 1]) (by simp [results, Try.results23, go_sem, y0, y1, y2, y3, f0, f1, f2, f3]) rfl ?_
      rw [← HGR.out, rnR_bad (fun h => by have := HN.out; rw [h.2] at this; cases this)]
      exact HE.out
    case true =>
      by_cases hneg : d < 0
      case pos =>
        have hZ := HZ1.out
        have y0 := hZ.res.cell 0 (by simp)
        have y1 := hZ.res.cell 1 (by simp)
        have y2 := hZ.res.cell 2 (by simp)
        have y3 := hZ.res.cell 3 (by simp)
        have f0 := hZ.res.frozen 0
        have f1 := hZ.res.frozen 1
        have f2 := hZ.res.frozen 2
        have f3 := hZ.res.frozen 3
        simp only [List.getD_cons_zero, List.getD_cons_succ] at y0 y1 y2 y3
        have HE := (show Hid _ from hZ.zero 4)
        clear hZ
        go_wp2_with fail
        refine bodyPost_ret (v := .tuple #[.agg #[.int .i64 0, .slice none 0 0, .slice none 0 0, .slice none 0 0], .int .i64 4]) (by simp [results, Try.results23, go_sem, y0, y1, y2, y3, f0, f1, f2, f3]) rfl ?_
        rw [← HGR.out, rnR_place ⟨HK.out, HN.out⟩ (by omega)]
        exact HE.out
      case neg =>
        obtain ⟨q, rfl⟩ : ∃ q : Nat, d = (q : Int) := ⟨d.toNat, by omega⟩
        have hd0 : decide ((q : Int) < 0) = false := by simp
        obtain ⟨k0, k1, k2, k3⟩ := HZ1.out.cells
        by_cases hq : q < t.decls.length
        case neg =>
          have hZ := HZ1.out
          have y0 := hZ.res.cell 0 (by simp)
          have y1 := hZ.res.cell 1 (by simp)
          have y2 := hZ.res.cell 2 (by simp)
          have y3 := hZ.res.cell 3 (by simp)
          have f0 := hZ.res.frozen 0
          have f1 := hZ.res.frozen 1
          have f2 := hZ.res.frozen 2
          have f3 := hZ.res.frozen 3
          simp only [List.getD_cons_zero, List.getD_cons_succ] at y0 y1 y2 y3
          have HE := (show Hid _ from hZ.zero 4)
          clear hZ
          go_wp2_with fail
          refine bodyPost_ret (v := .tuple #[.agg #[.int .i64 0, .slice none 0 0, .slice none 0 0, .slice none 0 0], .int .i64 4]) (by simp [results, Try.results23, go_sem, y0, y1, y2, y3, f0, f1, f2, f3]) rfl ?_
          rw [← HGR.out, rnR_place ⟨HK.out, HN.out⟩ (by omega)]
          exact HE.out
        case pos =>
          have hd1 : decide (t.decls.length ≤ q) = false := by simp; omega
          have hd2 : decide ((t.decls.length : Int) ≤ (q : Int)) = false := by simp; omega
          have HC3 := (show Hid _ from HAL.out w2 HZ1.out.bel trivial)
          obtain ⟨f3, f4, f5⟩ : t.edges.length ≤ 120 ∧ t.decls.length ≤ 120 ∧ t.refs.length ≤ 120 := by
            obtain ⟨_, _, _, _, f3, f4, f5, _⟩ := sg_facts HK.out
            exact ⟨f3, f4, f5⟩
          have HLL := (show Hid ((t.refs.map (rsv t)).length = t.refs.length) from List.length_map _)
          have HLA := (show Hid (∀ j (hj : j < (t.refs.map (rsv t)).length) (hj2 : j < t.refs.length), (t.refs.map (rsv t))[j] = rsv t t.refs[j]) from fun j hj hj2 => by simp)
          have HT2 := (show Hid (∀ i, i < t.refs.length → twI t (q : Int) i = true → twB t (q : Int) = true) from fun i hi hx => twB_yes hi hx)
          have HTW := (show Hid (twB t (q : Int) = true → GR = (zSg, 5)) from fun hx => HGR.out.symm.trans (rnR_twice ⟨HK.out, HN.out⟩ hq hx))
          have HCA := (show Hid (twB t (q : Int) = false → ¬ (rnT t q nm).refs.map (rsv (rnT t q nm)) = t.refs.map (rsv t) → GR = (zSg, 12)) from fun hx hy => HGR.out.symm.trans (rnR_catch ⟨HK.out, HN.out⟩ hq hx hy))
          have HSU := (show Hid (twB t (q : Int) = false → (rnT t q nm).refs.map (rsv (rnT t q nm)) = t.refs.map (rsv t) → GR = (rnT t q nm, 0)) from fun hx hy => HGR.out.symm.trans (rnR_ok ⟨HK.out, HN.out⟩ hq hx hy))
          generalize hLS : t.refs.map (rsv t) = LS at *
          clear hLS
          go_wp2_with fail
          refine Calls.mono HC3.out ?_
          rintro e w3 ⟨ra, rc, rfl, hb3, hr3⟩
          have HZ3 := (show Hid (Fz w t.scopes (.slice (some ⟨b1, 0, none⟩) t.edges.length t.edges.length) (.slice (some ⟨b2, 0, none⟩) t.decls.length t.decls.length) (.slice (some ⟨b3, 0, none⟩) t.refs.length t.refs.length) w3) from HZ1.out.still hb3)
          have HRD := (show Hid (RwR w3 LS (.slice ra LS.length rc)) from hr3.read (by rw [HLL.out]; exact f5))
          clear hb3 hr3 HC3 k0 k1 k2 k3 HZ1
          have HZQ := (show Hid (∀ w', Below w3.heap.size w3 w' → Fz w t.scopes (.slice (some ⟨b1, 0, none⟩) t.edges.length t.edges.length) (.slice (some ⟨b2, 0, none⟩) t.decls.length t.decls.length) (.slice (some ⟨b3, 0, none⟩) t.refs.length t.refs.length) w') from fun w' hb => HZ3.out.still hb)
          have hS0 := (HZQ.out _ (Below.refl w3.heap.size w3).drew).cells
          go_wp2_with fail
          go_cut [9] from 33 to 44 (fun v wx => ∃ (g1 c1 g2 c2 g3 c3 g4 : Nat), v = .pointer (some ⟨g4, 0, none⟩) ∧ Hid (SgF w3 wx t g1 c1 g2 c2 g3 c3 g4))
          case first =>
            refine wp_region_held_drew (S := (fun wq => wq.cell? ⟨w.heap.size, 0, none⟩ = some (.int .i64 t.scopes) ∧ wq.cell? ⟨w.heap.size, 1, none⟩ = some (.slice (some ⟨b1, 0, none⟩) t.edges.length t.edges.length) ∧ wq.cell? ⟨w.heap.size, 2, none⟩ = some (.slice (some ⟨b2, 0, none⟩) t.decls.length t.decls.length) ∧ wq.cell? ⟨w.heap.size, 3, none⟩ = some (.slice (some ⟨b3, 0, none⟩) t.refs.length t.refs.length))) (by kernel_rfl) hS0 (fun hHeld => ?_)
            refine wpAnyH_take (i := 0) (oi := { dst := some 33, op := Go.Op.fieldAddr 31 (Go.Operand.tmp 3) 0, type := 0, pos := "l12_names.go:110", after := #[], guard := none }) (v := ?v1) rfl (by kernel_rfl) (by kernel_rfl) (by kernel_rfl) (fun _ _ _ h => h) (Or.inl ⟨by rfl, ?h1⟩) hHeld ?r1
            case h1 => (intro w hSw; (try dsimp only at hSw); go_simp; try with_reducible rfl)
            try simp only [Act.put, List.setIfInBounds_toArray, List.set_cons_zero, List.set_cons_succ]
            refine wpAnyH_take (i := 1) (oi := { dst := some 34, op := Go.Op.load 3 (Go.Operand.tmp 33), type := 3, pos := "l12_names.go:110", after := #[{ on := 0, ground := Go.Ground.data }], guard := none }) (v := ?v2) rfl (by kernel_rfl) (by kernel_rfl) (by kernel_rfl) (fun _ _ _ h => h) (Or.inl ⟨by rfl, ?h2⟩) hHeld ?r2
            case h2 => (intro w hSw; (try dsimp only at hSw); go_simp; try with_reducible rfl)
            try simp only [Act.put, List.setIfInBounds_toArray, List.set_cons_zero, List.set_cons_succ]
            refine wpAnyH_take (i := 2) (oi := { dst := some 35, op := Go.Op.fieldAddr 31 (Go.Operand.tmp 3) 1, type := 0, pos := "l12_names.go:110", after := #[], guard := none }) (v := ?v3) rfl (by kernel_rfl) (by kernel_rfl) (by kernel_rfl) (fun _ _ _ h => h) (Or.inl ⟨by rfl, ?h3⟩) hHeld ?r3
            case h3 => (intro w hSw; (try dsimp only at hSw); go_simp; try with_reducible rfl)
            try simp only [Act.put, List.setIfInBounds_toArray, List.set_cons_zero, List.set_cons_succ]
            refine wpAnyH_take (i := 3) (oi := { dst := some 36, op := Go.Op.load 28 (Go.Operand.tmp 35), type := 28, pos := "l12_names.go:110", after := #[{ on := 2, ground := Go.Ground.data }], guard := none }) (v := ?v4) rfl (by kernel_rfl) (by kernel_rfl) (by kernel_rfl) (fun _ _ _ h => h) (Or.inl ⟨by rfl, ?h4⟩) hHeld ?r4
            case h4 => (intro w hSw; (try dsimp only at hSw); go_simp; try with_reducible rfl)
            try simp only [Act.put, List.setIfInBounds_toArray, List.set_cons_zero, List.set_cons_succ]
            refine wpAnyH_take (i := 5) (oi := { dst := some 38, op := Go.Op.fieldAddr 31 (Go.Operand.tmp 3) 2, type := 0, pos := "l12_names.go:110", after := #[], guard := none }) (v := ?v5) rfl (by kernel_rfl) (by kernel_rfl) (by kernel_rfl) (fun _ _ _ h => h) (Or.inl ⟨by rfl, ?h5⟩) hHeld ?r5
            case h5 => (intro w hSw; (try dsimp only at hSw); go_simp; try with_reducible rfl)
            try simp only [Act.put, List.setIfInBounds_toArray, List.set_cons_zero, List.set_cons_succ]
            refine wpAnyH_take (i := 6) (oi := { dst := some 39, op := Go.Op.load 29 (Go.Operand.tmp 38), type := 29, pos := "l12_names.go:110", after := #[{ on := 5, ground := Go.Ground.data }], guard := none }) (v := ?v6) rfl (by kernel_rfl) (by kernel_rfl) (by kernel_rfl) (fun _ _ _ h => h) (Or.inl ⟨by rfl, ?h6⟩) hHeld ?r6
            case h6 => (intro w hSw; (try dsimp only at hSw); go_simp; try with_reducible rfl)
            try simp only [Act.put, List.setIfInBounds_toArray, List.set_cons_zero, List.set_cons_succ]
            refine wpAnyH_take (i := 8) (oi := { dst := some 41, op := Go.Op.fieldAddr 31 (Go.Operand.tmp 3) 3, type := 0, pos := "l12_names.go:110", after := #[], guard := none }) (v := ?v7) rfl (by kernel_rfl) (by kernel_rfl) (by kernel_rfl) (fun _ _ _ h => h) (Or.inl ⟨by rfl, ?h7⟩) hHeld ?r7
            case h7 => (intro w hSw; (try dsimp only at hSw); go_simp; try with_reducible rfl)
            try simp only [Act.put, List.setIfInBounds_toArray, List.set_cons_zero, List.set_cons_succ]
            refine wpAnyH_take (i := 9) (oi := { dst := some 42, op := Go.Op.load 29 (Go.Operand.tmp 41), type := 29, pos := "l12_names.go:110", after := #[{ on := 8, ground := Go.Ground.data }], guard := none }) (v := ?v8) rfl (by kernel_rfl) (by kernel_rfl) (by kernel_rfl) (fun _ _ _ h => h) (Or.inl ⟨by rfl, ?h8⟩) hHeld ?r8
            case h8 => (intro w hSw; (try dsimp only at hSw); go_simp; try with_reducible rfl)
            try simp only [Act.put, List.setIfInBounds_toArray, List.set_cons_zero, List.set_cons_succ]
            refine region6 _ _ _ w3 t.scopes b1 t.edges.length b2 t.decls.length b3 t.refs.length (edC t.edges) (spC t.decls) (spC t.refs) rfl rfl rfl rfl rfl (fun w' hb => (HZQ.out w' hb).cells) (HR1.out w3 HZ3.out.bel).1 (HR1.out w3 HZ3.out.bel).2.1 (HR1.out w3 HZ3.out.bel).2.2 f3 f4 f5 (edC_one _) (spC_one _) (spC_one _) (fun _ _ _ _ _ h => h) ?_ _ _ (Rst.refl _ _) (Fo.new (Below.refl _ _).drew)
            intro A wx g1 c1 g2 c2 g3 c3 g4 hR h9 hF
            generalize h37 : A.eval (.tmp 37) = x37
            generalize h40 : A.eval (.tmp 40) = x40
            generalize h43 : A.eval (.tmp 43) = x43
            generalize h44 : A.eval (.tmp 44) = x44
            obtain rfl := puts_eq A [(9, .pointer (some ⟨g4, 0, none⟩)), (37, x37), (40, x40), (43, x43), (44, x44)] _ hR.size hR.defers (by simp [h9, h37, h40, h43, h44]) hR.same
            have HFO := (show Hid (SgF w3 wx t g1 c1 g2 c2 g3 c3 g4) from hF)
            clear hF hR h9 h37 h40 h43 h44 hHeld hS0
            simp only [puts]
            try simp only [Act.put, List.setIfInBounds_toArray, List.set_cons_zero, List.set_cons_succ]
            go_wp2_with fail
            go_meet
            exact ⟨g1, c1, g2, c2, g3, c3, g4, rfl, HFO⟩
          case rest =>
            obtain ⟨g1, c1, g2, c2, g3, c3, g4, rfl, HF0⟩ := hcut
            obtain ⟨w4, rfl⟩ : ∃ w4, w4 = wc := ⟨_, rfl⟩
            clear hS0
            obtain ⟨x0, x1, x2, x3⟩ := HF0.out.box
            obtain ⟨_, y1, _, z1⟩ := HF0.out.cellD hq
            have HF1 := (show Hid (SgF w3 (w4.setCell ⟨g2, q * 2 + 1, none⟩ (.string nm)) ⟨t.scopes, t.edges, rnD t q nm, t.refs⟩ g1 c1 g2 c2 g3 c3 g4) from HF0.out.decl hq nm (rnD_set hq))
            clear HF0
            go_wp2_with fail
            clear x0 x1 x2 x3 y1 z1
            obtain ⟨w5, hw5⟩ : ∃ w5, w4.setCell ⟨g2, q * 2 + 1, none⟩ (.string nm) = w5 := ⟨_, rfl⟩
            rw [hw5] at HF1
            rw [hw5]
            clear hw5
            have HLI := (show Hid (SgF w3 w5 ⟨t.scopes, t.edges, rnD t q nm, rnF t (q : Int) nm 0⟩ g1 c1 g2 c2 g3 c3 g4 ∧ ∀ i, i < 0 → twI t (q : Int) i = false) from ⟨by rw [rnF_zero]; exact HF1.out, fun i hi => absurd hi (Nat.not_lt_zero _)⟩)
            clear HF1
            have HIN := (show Hid (∀ wq, Below w3.heap.size w3 wq → ∀ j (hj : j < LS.length), ∃ (b off : Nat) (xa : Option Addr) (xc : Nat), ra = some ⟨b, off, none⟩ ∧ wq.cell? ⟨b, off + j, none⟩ = some (.slice xa LS[j].length xc) ∧ LS[j].length ≤ maxLen ∧ Calls Try.prog 58 #[.slice xa LS[j].length xc, .int .i64 (q : Int)] wq fun e w'' => e = .returned (.bool (hasI LS[j] (q : Int))) ∧ w'' = wq) from fun wq hb j hj => by
              obtain ⟨a, cap, b, off, sv, he, hl, ha, hc, hi⟩ := HRD.out.still hb
              injection he with e1 e2 e3
              obtain ⟨xa, xc, ev, hm⟩ := (hi j hj).form
              refine ⟨b, off, xa, xc, e1.trans (ha (by omega)), ?_, hm, ?_⟩
              · rw [← ev]; exact hc j hj
              · rw [← ev]; exact contains58 _ _ _ wq (hi j hj))
            have HW5 := (show Hid (Below w3.heap.size w3 w5) from HLI.out.1.bel)
            go_loopw [53] (fun i wr => ∃ j : Nat, i = .int .i64 j ∧ j ≤ LS.length ∧ Hid (SgF w3 wr ⟨t.scopes, t.edges, rnD t q nm, rnF t (q : Int) nm j⟩ g1 c1 g2 c2 g3 c3 g4 ∧ ∀ i, i < j → twI t (q : Int) i = false)) (fun i _ => LS.length - (intOf i).toNat)
            case atStart => exact ⟨0, rfl, Nat.zero_le _, HLI⟩
            case round =>
              obtain ⟨j, rfl, hj, HI⟩ := hrel
              clear HLI
              by_cases hjl : j < LS.length
              · have hjr : j < t.refs.length := by have := HLL.out; omega
                obtain ⟨b, off, xa, xc, era, cc, hml, hcl⟩ := HIN.out wr HI.out.1.bel j hjl
                have HCL := (show Hid _ from hcl); clear hcl
                unfold maxLen at hml
                have HLJ := (show Hid _ from HLA.out j hjl hjr)
                have HTJ := (show Hid _ from twI_at (t := t) (d := (q : Int)) hjr)
                have HRN := (show Hid _ from rnF_no (t := t) (d := (q : Int)) (nm := nm) hjr)
                rw [← HLJ.out] at HTJ HRN
                have HRY := (show Hid _ from fun h => rnF_yes (t := t) (d := (q : Int)) (nm := nm) hjr h t.refs[j].scope rfl)
                rw [← HLJ.out] at HRY
                generalize LS[j] = RV at *
                generalize hUB : hasI RV (q : Int) = UB at *
                have HUB := (show Hid _ from hUB); clear hUB
                subst era
                go_wp2_with fail
                refine Calls.mono HCL.out ?_
                rintro e w6 ⟨rfl, rfl⟩
                clear cc
                cases UB
                case false =>
                  have HX := (show Hid (SgF w3 w6 ⟨t.scopes, t.edges, rnD t q nm, rnF t (q : Int) nm (j + 1)⟩ g1 c1 g2 c2 g3 c3 g4 ∧ ∀ i, i < j + 1 → twI t (q : Int) i = false) from ⟨by rw [HRN.out rfl]; exact HI.out.1, fun i hi => by
                    by_cases e : i = j
                    · subst e; rw [HTJ.out]; rfl
                    · exact HI.out.2 i (by omega)⟩)
                  go_wp2_with fail
                  exact ⟨⟨j + 1, by go_num, by omega, HX⟩, by simp [intOf]; omega⟩
                case true =>
                  by_cases hone : 1 < RV.length
                  · have HT := (show Hid (twB t (q : Int) = true) from HT2.out j hjr (by rw [HTJ.out]; simp [hone]))
                    have hgt : (1 : Int) < (RV.length : Int) := by omega
                    clear hone
                    have hZ := HZQ.out w6 HI.out.1.bel
                    have y0 := hZ.res.cell 0 (by simp)
                    have y1 := hZ.res.cell 1 (by simp)
                    have y2 := hZ.res.cell 2 (by simp)
                    have y3 := hZ.res.cell 3 (by simp)
                    have f0 := hZ.res.frozen 0
                    have f1 := hZ.res.frozen 1
                    have f2 := hZ.res.frozen 2
                    have f3 := hZ.res.frozen 3
                    simp only [List.getD_cons_zero, List.getD_cons_succ] at y0 y1 y2 y3
                    have HE := (show Hid _ from hZ.zero 5)
                    clear hZ
                    go_wp2_with fail
                    refine bodyPost_ret (v := .tuple #[.agg #[.int .i64 0, .slice none 0 0, .slice none 0 0, .slice none 0 0], .int .i64 5]) (by simp [results, Try.results23, go_sem, y0, y1, y2, y3, f0, f1, f2, f3]) rfl ?_
                    rw [HTW.out HT.out]
                    exact HE.out
                  · have hgt : ¬ (1 : Int) < (RV.length : Int) := by omega
                    obtain ⟨x0, x1, x2, x3⟩ := HI.out.1.box
                    have hjf : j < (rnF t (q : Int) nm j).length := by rw [rnF_len]; exact hjr
                    have y1 := (HI.out.1.cellR (j := j) hjf).2.1
                    have z1 := (HI.out.1.cellR (j := j) hjf).2.2.2
                    have HX := (show Hid (SgF w3 (w6.setCell ⟨g3, j * 2 + 1, none⟩ (.string nm)) ⟨t.scopes, t.edges, rnD t q nm, rnF t (q : Int) nm (j + 1)⟩ g1 c1 g2 c2 g3 c3 g4 ∧ ∀ i, i < j + 1 → twI t (q : Int) i = false) from ⟨HI.out.1.ref hjf nm (by rw [← HRY.out rfl]; show List.set _ _ _ = _; rw [rnF_scope hjf]), fun i hi => by
                      by_cases e : i = j
                      · subst e; rw [HTJ.out]; simp [hone]
                      · exact HI.out.2 i (by omega)⟩)
                    simp only at x0 x1 x2 x3 y1
                    generalize (rnF t (q : Int) nm j)[j].name = onm at y1
                    generalize hFL : (rnF t (q : Int) nm j).length = FL at *
                    clear hFL hone
                    go_wp2_with fail
                    exact ⟨⟨j + 1, by go_num, by omega, HX⟩, by simp [intOf]; omega⟩
              · obtain rfl : j = LS.length := by omega
                have HTF := (show Hid (twB t (q : Int) = false) from twB_no (fun i hi => HI.out.2 i (by rw [HLL.out]; exact hi)))
                have HSF := (show Hid (SgF w3 wr (rnT t q nm) g1 c1 g2 c2 g3 c3 g4) from by have := HI.out.1; rw [HLL.out] at this; exact this)
                have HNS := (show Hid _ from sg_names HK.out)
                have HDN := (show Hid (∀ i (hi : i < (rnT t q nm).decls.length), (rnT t q nm).decls[i].name.size ≤ maxLen) from nwN_names HN.out HNS.out.1)
                have HRN := (show Hid (∀ i (hi : i < (rnT t q nm).refs.length), (rnT t q nm).refs[i].name.size ≤ maxLen) from nwN_names HN.out HNS.out.2)
                have HLD := (show Hid ((rnT t q nm).edges.length ≤ 120 ∧ (rnT t q nm).decls.length ≤ 120 ∧ (rnT t q nm).refs.length ≤ 120) from ⟨f3, by show (rnD t q nm).length ≤ _; rw [rnD_len]; exact f4, by show (rnF t _ nm _).length ≤ _; rw [rnF_len]; exact f5⟩)
                have HC6 := (show Hid _ from all57 (rnT t q nm) _ _ _ wr (HSF.out.lies HDN.out HRN.out) (rnT_ok HK.out HN.out))
                have HLL2 := (show Hid (((rnT t q nm).refs.map (rsv (rnT t q nm))).length ≤ 120) from by show _ ≤ _; rw [List.length_map]; exact HLD.out.2.2)
                generalize (rnT t q nm).refs.map (rsv (rnT t q nm)) = LT at *
                generalize rnT t q nm = RT at *
                obtain ⟨x0, x1, x2, x3⟩ := HSF.out.box
                clear HI HIN
                go_wp2_with fail
                refine Calls.mono HC6.out ?_
                rintro e w7 ⟨ta, tc, rfl, hb7, hr7⟩
                have HSF7 := (show Hid (SgF w3 w7 RT g1 c1 g2 c2 g3 c3 g4) from HSF.out.still hb7)
                have HC7 := (show Hid _ from same63 LT LS _ _ w7 (hr7.read HLL2.out) (HRD.out.still HSF7.out.bel))
                clear hb7 hr7 HC6 HSF x0 x1 x2 x3
                generalize hSM : decide (LT = LS) = SM at *
                have HSM := (show Hid _ from hSM); clear hSM
                go_wp2_with fail
                refine Calls.mono HC7.out ?_
                rintro e w8 ⟨rfl, hb8⟩
                have HSF8 := (show Hid (SgF w3 w8 RT g1 c1 g2 c2 g3 c3 g4) from HSF7.out.still hb8)
                clear hb8 HSF7 HC7
                cases SM
                case false =>
                  have HE2 := (show Hid _ from HCA.out HTF.out (of_decide_eq_false HSM.out))
                  have hZ := HZQ.out w8 HSF8.out.bel
                  have y0 := hZ.res.cell 0 (by simp)
                  have y1 := hZ.res.cell 1 (by simp)
                  have y2 := hZ.res.cell 2 (by simp)
                  have y3 := hZ.res.cell 3 (by simp)
                  have f0 := hZ.res.frozen 0
                  have f1 := hZ.res.frozen 1
                  have f2 := hZ.res.frozen 2
                  have f3 := hZ.res.frozen 3
                  simp only [List.getD_cons_zero, List.getD_cons_succ] at y0 y1 y2 y3
                  have HE := (show Hid _ from hZ.zero 12)
                  clear hZ
                  go_wp2_with fail
                  refine bodyPost_ret (v := .tuple #[.agg #[.int .i64 0, .slice none 0 0, .slice none 0 0, .slice none 0 0], .int .i64 12]) (by simp [results, Try.results23, go_sem, y0, y1, y2, y3, f0, f1, f2, f3]) rfl ?_
                  rw [HE2.out]
                  exact HE.out
                case true =>
                  have HE2 := (show Hid _ from HSU.out HTF.out (of_decide_eq_true HSM.out))
                  obtain ⟨x0, x1, x2, x3⟩ := HSF8.out.box
                  have hZ := HZQ.out w8 HSF8.out.bel
                  have y0 := hZ.res.cell 0 (by simp)
                  have y1 := hZ.res.cell 1 (by simp)
                  have y2 := hZ.res.cell 2 (by simp)
                  have y3 := hZ.res.cell 3 (by simp)
                  have f0 := hZ.res.frozen 0
                  have f1 := hZ.res.frozen 1
                  have f2 := hZ.res.frozen 2
                  have f6 := hZ.res.frozen 3
                  simp only [List.getD_cons_zero, List.getD_cons_succ] at y0 y1 y2 y3
                  have HE := (show Hid _ from HSF8.out.answer HZ3.out HDN.out HRN.out HLD.out.1 HLD.out.2.1 HLD.out.2.2)
                  clear hZ
                  go_wp2_with fail
                  refine bodyPost_ret (v := .tuple #[.agg #[.int .i64 RT.scopes, .slice (some ⟨g1, 0, none⟩) RT.edges.length c1, .slice (some ⟨g2, 0, none⟩) RT.decls.length c2, .slice (some ⟨g3, 0, none⟩) RT.refs.length c3], .int .i64 0]) (by simp [results, Try.results23, go_sem, y0, y1, y2, y3, f0, f1, f2, f6]) rfl ?_
                  rw [HE2.out]
                  exact HE.out
end Go.Proofs.Ytkkebcbcbihbiaa
