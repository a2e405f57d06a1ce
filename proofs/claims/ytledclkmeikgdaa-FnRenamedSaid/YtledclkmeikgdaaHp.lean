import Derived.Test.YtledclkmeikgdaaKc
import Derived.Test.YtledclkmeikgdaaHg
/-! Rename: the program. -/
namespace Go.Proofs.Ytledclkmeikgdaa
open Go.RowKit Go.Deep
set_option linter.unusedVariables false
set_option maxRecDepth 100000
set_option linter.unusedSimpArgs false
abbrev qHp0 : Oper := { dst := some 37, op := Go.Op.call { callee := Go.Callee.value (Go.Operand.func 40), args := #[Go.Operand.tmp 36], argTypes := #[24] }, type := 24, pos := "l12_names.go:110", after := #[{ on := 3, ground := Go.Ground.data }], guard := none }
abbrev qHp1 : Oper := { dst := some 9, op := Go.Op.alloc 27, type := 0, pos := "l12_names.go:110", after := #[], guard := none }
abbrev qHp2 : Oper := { dst := some 40, op := Go.Op.call { callee := Go.Callee.value (Go.Operand.func 41), args := #[Go.Operand.tmp 39], argTypes := #[25] }, type := 25, pos := "l12_names.go:110", after := #[{ on := 6, ground := Go.Ground.data }, { on := 4, ground := Go.Ground.chain }], guard := none }
abbrev qHp3 : Oper := { dst := some 43, op := Go.Op.call { callee := Go.Callee.value (Go.Operand.func 41), args := #[Go.Operand.tmp 42], argTypes := #[25] }, type := 25, pos := "l12_names.go:110", after := #[{ on := 9, ground := Go.Ground.data }, { on := 7, ground := Go.Ground.chain }], guard := none }
abbrev qHp4 : Oper := { dst := some 44, op := Go.Op.build 27 #[(0, Go.Operand.tmp 34), (1, Go.Operand.tmp 37), (2, Go.Operand.tmp 40), (3, Go.Operand.tmp 43)], type := 27, pos := "l12_names.go:110", after := #[{ on := 1, ground := Go.Ground.data }, { on := 4, ground := Go.Ground.data }, { on := 7, ground := Go.Ground.data }, { on := 10, ground := Go.Ground.data }], guard := none }
abbrev qHp5 : Oper := { dst := none, op := Go.Op.store 27 (Go.Operand.tmp 9) (Go.Operand.tmp 44), type := 0, pos := "l12_names.go:110", after := #[{ on := 12, ground := Go.Ground.data }, { on := 11, ground := Go.Ground.data }, { on := 10, ground := Go.Ground.chain }, { on := 0, ground := Go.Ground.phase }, { on := 1, ground := Go.Ground.phase }, { on := 2, ground := Go.Ground.phase }, { on := 3, ground := Go.Ground.phase }, { on := 4, ground := Go.Ground.phase }, { on := 5, ground := Go.Ground.phase }, { on := 6, ground := Go.Ground.phase }, { on := 7, ground := Go.Ground.phase }, { on := 8, ground := Go.Ground.phase }, { on := 9, ground := Go.Ground.phase }, { on := 10, ground := Go.Ground.phase }, { on := 11, ground := Go.Ground.phase }, { on := 12, ground := Go.Ground.phase }], guard := none }

set_option maxHeartbeats 25600000 in
theorem iRn23 {S : Nat → Prop} (t : DSg) (v1 v2 v3 : Value) (d : Int) (nm : ByteArray) (w : World) (h : RdG w t v1 v2 v3) (hns : nm.size ≤ maxLen) :
    Calls Try.prog 9 #[.agg #[.int .i64 t.scopes, v1, v2, v3], .int .i64 d, .string nm] w (RnB (rnR t d nm) w) := by
  have hlies := h.lies
  have hr1 := h.e
  have hr2 := h.d
  have hr3 := h.r
  obtain ⟨a1, kp1, rfl⟩ := hr1.form
  obtain ⟨a2, kp2, rfl⟩ := hr2.form
  obtain ⟨a3, kp3, rfl⟩ := hr3.form
  have HOK := (show Hid (∀ w', Below w.heap.size w w' → Calls Try.prog 15 #[.agg #[.int .i64 t.scopes, .slice a1 t.edges.length kp1, .slice a2 t.decls.length kp2, .slice a3 t.refs.length kp3]] w' fun e w'' => e = .returned (.bool (sgB t)) ∧ Below w'.heap.size w' w'') from fun w' hb => iSg12 t _ _ _ w' (hlies.still hb))
  have HAL := (show Hid (∀ w', Below w.heap.size w w' → sgB t = true → Calls Try.prog 39 #[.agg #[.int .i64 t.scopes, .slice a1 t.edges.length kp1, .slice a2 t.decls.length kp2, .slice a3 t.refs.length kp3]] w' (RaA (t.refs.map (rsv t)) w')) from fun w' hb hok => all57 t _ _ _ w' (hlies.still hb) hok)
  have HNM := (show Hid (∀ w', Calls Try.prog 38 #[.string nm] w' fun e w'' => e = .returned (.bool (nmB nm)) ∧ w'' = w') from fun w' => iName nm hns w')
  have HR1 := (show Hid (∀ w', Below w.heap.size w w' → SrcR w' 74 3 (.slice a1 t.edges.length kp1) t.edges.length (edC t.edges) ∧ SrcR w' 33 2 (.slice a2 t.decls.length kp2) t.decls.length (spC t.decls) ∧ SrcR w' 33 2 (.slice a3 t.refs.length kp3) t.refs.length (spC t.refs)) from fun w' hb => ⟨hr1.still hb, hr2.still hb, hr3.still hb⟩)
  clear h hlies hr1 hr2 hr3
  unfold maxLen at hns
  have HZ0 := (show Hid (Fz w t.scopes (.slice a1 t.edges.length kp1) (.slice a2 t.decls.length kp2) (.slice a3 t.refs.length kp3) ((w.alloc (.cells #[.int .i64 t.scopes, .slice a1 t.edges.length kp1, .slice a2 t.decls.length kp2, .slice a3 t.refs.length kp3] 27)).alloc (.cells #[.int .i64 0, .slice none 0 0, .slice none 0 0, .slice none 0 0] 27))) from Fz.new w t.scopes _ _ _)
  generalize hGR : rnR t d nm = GR
  have HGR := (show Hid _ from hGR); clear hGR
  have HC1 := (show Hid _ from HOK.out _ HZ0.out.bel)
  obtain ⟨k0, k1, k2, k3⟩ := HZ0.out.cells
  generalize hok : sgB t = OK at *
  have HK := (show Hid _ from hok); clear hok
  obtain ⟨W0, hW0⟩ : ∃ W0, ((w.alloc (.cells #[.int .i64 t.scopes, .slice a1 t.edges.length kp1, .slice a2 t.decls.length kp2, .slice a3 t.refs.length kp3] 27)).alloc (.cells #[.int .i64 0, .slice none 0 0, .slice none 0 0, .slice none 0 0] 27)) = W0 := ⟨_, rfl⟩
  rw [hW0] at HZ0 HC1 k0 k1 k2 k3
  go_enter Try.func9, Try.ntmps9
  go_wp2_with fail
  refine Calls.mono HC1.out ?_
  rintro e w1 ⟨rfl, hb1⟩
  have HZ1 := (show Hid (Fz w t.scopes (.slice a1 t.edges.length kp1) (.slice a2 t.decls.length kp2) (.slice a3 t.refs.length kp3) w1) from HZ0.out.still hb1)
  clear hb1 HC1 HZ0 hW0 k0 k1 k2 k3
  cases OK
  case false =>
    have hZ := HZ1.out
    have y0 := hZ.res.cell 0 (by simp)
    have y1 := hZ.res.cell 1 (by simp)
    have y2 := hZ.res.cell 2 (by simp)
    have y3 := hZ.res.cell 3 (by simp)
    have f0 := hZ.res.frozen 0
    have f1 := hZ.res.frozen 1
    have f2 := hZ.res.frozen 2
    have f3 := hZ.res.frozen 3
    simp only [List.getD_cons_zero, List.getD_cons_succ] at y0 y1 y2 y3
    have HE := (show Hid _ from (hZ.zero 1).b)
    clear hZ
    go_wp2_with fail
    refine bodyPost_ret (v := .tuple #[.agg #[.int .i64 0, .slice none 0 0, .slice none 0 0, .slice none 0 0], .int .i64 1]) (by simp [results, Try.results9, go_sem, y0, y1, y2, y3, f0, f1, f2, f3]) rfl ?_
    rw [← HGR.out, rnR_bad (fun h => by have := HK.out; rw [h.1] at this; cases this)]
    exact HE.out
  case true =>
    have HC2 := (show Hid _ from HNM.out w1)
    generalize hnm : nmB nm = NM at *
    have HN := (show Hid _ from hnm); clear hnm
    go_wp2_with fail
    refine Calls.mono HC2.out ?_
    rintro e w2 ⟨rfl, rfl⟩
    clear HC2
    cases NM
    case false =>
      have hZ := HZ1.out
      have y0 := hZ.res.cell 0 (by simp)
      have y1 := hZ.res.cell 1 (by simp)
      have y2 := hZ.res.cell 2 (by simp)
      have y3 := hZ.res.cell 3 (by simp)
      have f0 := hZ.res.frozen 0
      have f1 := hZ.res.frozen 1
      have f2 := hZ.res.frozen 2
      have f3 := hZ.res.frozen 3
      simp only [List.getD_cons_zero, List.getD_cons_succ] at y0 y1 y2 y3
      have HE := (show Hid _ from (hZ.zero 1).b)
      clear hZ
      go_wp2_with fail
      refine bodyPost_ret (v := .tuple #[.agg #[.int .i64 0, .slice none 0 0, .slice none 0 0, .slice none 0 0], .int .i64 1]) (by simp [results, Try.results9, go_sem, y0, y1, y2, y3, f0, f1, f2, f3]) rfl ?_
      rw [← HGR.out, rnR_bad (fun h => by have := HN.out; rw [h.2] at this; cases this)]
      exact HE.out
    case true =>
      by_cases hneg : d < 0
      case pos =>
        have hZ := HZ1.out
        have y0 := hZ.res.cell 0 (by simp)
        have y1 := hZ.res.cell 1 (by simp)
        have y2 := hZ.res.cell 2 (by simp)
        have y3 := hZ.res.cell 3 (by simp)
        have f0 := hZ.res.frozen 0
        have f1 := hZ.res.frozen 1
        have f2 := hZ.res.frozen 2
        have f3 := hZ.res.frozen 3
        simp only [List.getD_cons_zero, List.getD_cons_succ] at y0 y1 y2 y3
        have HE := (show Hid _ from (hZ.zero 4).b)
        clear hZ
        go_wp2_with fail
        refine bodyPost_ret (v := .tuple #[.agg #[.int .i64 0, .slice none 0 0, .slice none 0 0, .slice none 0 0], .int .i64 4]) (by simp [results, Try.results9, go_sem, y0, y1, y2, y3, f0, f1, f2, f3]) rfl ?_
        rw [← HGR.out, rnR_place ⟨HK.out, HN.out⟩ (by omega)]
        exact HE.out
      case neg =>
        obtain ⟨q, rfl⟩ : ∃ q : Nat, d = (q : Int) := ⟨d.toNat, by omega⟩
        have hd0 : decide ((q : Int) < 0) = false := by simp
        obtain ⟨k0, k1, k2, k3⟩ := HZ1.out.cells
        by_cases hq : q < t.decls.length
        case neg =>
          have hZ := HZ1.out
          have y0 := hZ.res.cell 0 (by simp)
          have y1 := hZ.res.cell 1 (by simp)
          have y2 := hZ.res.cell 2 (by simp)
          have y3 := hZ.res.cell 3 (by simp)
          have f0 := hZ.res.frozen 0
          have f1 := hZ.res.frozen 1
          have f2 := hZ.res.frozen 2
          have f3 := hZ.res.frozen 3
          simp only [List.getD_cons_zero, List.getD_cons_succ] at y0 y1 y2 y3
          have HE := (show Hid _ from (hZ.zero 4).b)
          clear hZ
          go_wp2_with fail
          refine bodyPost_ret (v := .tuple #[.agg #[.int .i64 0, .slice none 0 0, .slice none 0 0, .slice none 0 0], .int .i64 4]) (by simp [results, Try.results9, go_sem, y0, y1, y2, y3, f0, f1, f2, f3]) rfl ?_
          rw [← HGR.out, rnR_place ⟨HK.out, HN.out⟩ (by omega)]
          exact HE.out
        case pos =>
          have hd1 : decide (t.decls.length ≤ q) = false := by simp; omega
          have hd2 : decide ((t.decls.length : Int) ≤ (q : Int)) = false := by simp; omega
          have HC3 := (show Hid _ from HAL.out w2 HZ1.out.bel trivial)
          obtain ⟨f3, f4, f5⟩ : t.edges.length ≤ 120 ∧ t.decls.length ≤ 120 ∧ t.refs.length ≤ 120 := by
            obtain ⟨_, _, _, _, f3, f4, f5, _⟩ := sg_facts HK.out
            exact ⟨f3, f4, f5⟩
          have HLL := (show Hid ((t.refs.map (rsv t)).length = t.refs.length) from List.length_map _)
          have HLA := (show Hid (∀ j (hj : j < (t.refs.map (rsv t)).length) (hj2 : j < t.refs.length), (t.refs.map (rsv t))[j] = rsv t t.refs[j]) from fun j hj hj2 => by simp)
          have HT2 := (show Hid (∀ i, i < t.refs.length → twI t (q : Int) i = true → twB t (q : Int) = true) from fun i hi hx => twB_yes hi hx)
          have HTW := (show Hid (twB t (q : Int) = true → GR = (zSg, 5)) from fun hx => HGR.out.symm.trans (rnR_twice ⟨HK.out, HN.out⟩ hq hx))
          have HCA := (show Hid (twB t (q : Int) = false → ¬ (rnT t q nm).refs.map (rsv (rnT t q nm)) = t.refs.map (rsv t) → GR = (zSg, 12)) from fun hx hy => HGR.out.symm.trans (rnR_catch ⟨HK.out, HN.out⟩ hq hx hy))
          have HSU := (show Hid (twB t (q : Int) = false → (rnT t q nm).refs.map (rsv (rnT t q nm)) = t.refs.map (rsv t) → GR = (rnT t q nm, 0)) from fun hx hy => HGR.out.symm.trans (rnR_ok ⟨HK.out, HN.out⟩ hq hx hy))
          generalize hLS : t.refs.map (rsv t) = LS at *
          clear hLS
          go_wp2_with fail
          refine Calls.mono HC3.out ?_
          rintro e w3 ⟨ra, rc, rfl, hb3, hr3⟩
          have HZ3 := (show Hid (Fz w t.scopes (.slice a1 t.edges.length kp1) (.slice a2 t.decls.length kp2) (.slice a3 t.refs.length kp3) w3) from HZ1.out.still hb3)
          have HRD := (show Hid (RwR w3 LS (.slice ra LS.length rc)) from hr3.read (by rw [HLL.out]; exact f5))
          clear hb3 hr3 HC3 k0 k1 k2 k3 HZ1
          have HZQ := (show Hid (∀ w', Below w3.heap.size w3 w' → Fz w t.scopes (.slice a1 t.edges.length kp1) (.slice a2 t.decls.length kp2) (.slice a3 t.refs.length kp3) w') from fun w' hb => HZ3.out.still hb)
          have hS0 := (HZQ.out _ (Below.refl w3.heap.size w3).drew).cells
          go_wp2_with fail
          go_cut [9] from 33 to 44 (fun v wx => ∃ (A1 : Option Addr) (c1 g2 c2 : Nat) (A3 : Option Addr) (c3 g4 : Nat), v = .pointer (some ⟨g4, 0, none⟩) ∧ Hid (SgG w3 wx t A1 c1 g2 c2 A3 c3 g4))
          case first =>
            refine wp_region_held_drew (S := (fun wq => wq.cell? ⟨w.heap.size, 0, none⟩ = some (.int .i64 t.scopes) ∧ wq.cell? ⟨w.heap.size, 1, none⟩ = some (.slice a1 t.edges.length kp1) ∧ wq.cell? ⟨w.heap.size, 2, none⟩ = some (.slice a2 t.decls.length kp2) ∧ wq.cell? ⟨w.heap.size, 3, none⟩ = some (.slice a3 t.refs.length kp3))) (by kernel_rfl) hS0 (fun hHeld => ?_)
            have HB3 := (show Hid (Below w3.heap.size w3 w3.drew) from (Below.refl _ _).drew)
            clear hS0
            generalize w3.drew = W3 at *
            refine wpAnyH_take (i := 0) (oi := { dst := some 33, op := Go.Op.fieldAddr 27 (Go.Operand.tmp 3) 0, type := 0, pos := "l12_names.go:110", after := #[], guard := none }) (v := ?v1) rfl (by kernel_rfl) (by kernel_rfl) (by kernel_rfl) (fun _ _ _ h => h) (Or.inl ⟨by rfl, ?h1⟩) hHeld ?r1
            case h1 => (intro w hSw; (try dsimp only at hSw); go_simp; try with_reducible rfl)
            refine wpAnyH_take (i := 1) (oi := { dst := some 34, op := Go.Op.load 3 (Go.Operand.tmp 33), type := 3, pos := "l12_names.go:110", after := #[{ on := 0, ground := Go.Ground.data }], guard := none }) (v := ?v2) rfl (by kernel_rfl) (by kernel_rfl) (by kernel_rfl) (fun _ _ _ h => h) (Or.inl ⟨by rfl, ?h2⟩) hHeld ?r2
            case h2 => (intro w hSw; (try dsimp only at hSw); go_simp; try with_reducible rfl)
            refine wpAnyH_take (i := 2) (oi := { dst := some 35, op := Go.Op.fieldAddr 27 (Go.Operand.tmp 3) 1, type := 0, pos := "l12_names.go:110", after := #[], guard := none }) (v := ?v3) rfl (by kernel_rfl) (by kernel_rfl) (by kernel_rfl) (fun _ _ _ h => h) (Or.inl ⟨by rfl, ?h3⟩) hHeld ?r3
            case h3 => (intro w hSw; (try dsimp only at hSw); go_simp; try with_reducible rfl)
            refine wpAnyH_take (i := 3) (oi := { dst := some 36, op := Go.Op.load 24 (Go.Operand.tmp 35), type := 24, pos := "l12_names.go:110", after := #[{ on := 2, ground := Go.Ground.data }], guard := none }) (v := ?v4) rfl (by kernel_rfl) (by kernel_rfl) (by kernel_rfl) (fun _ _ _ h => h) (Or.inl ⟨by rfl, ?h4⟩) hHeld ?r4
            case h4 => (intro w hSw; (try dsimp only at hSw); go_simp; try with_reducible rfl)
            refine wpAnyH_take (i := 5) (oi := { dst := some 38, op := Go.Op.fieldAddr 27 (Go.Operand.tmp 3) 2, type := 0, pos := "l12_names.go:110", after := #[], guard := none }) (v := ?v5) rfl (by kernel_rfl) (by kernel_rfl) (by kernel_rfl) (fun _ _ _ h => h) (Or.inl ⟨by rfl, ?h5⟩) hHeld ?r5
            case h5 => (intro w hSw; (try dsimp only at hSw); go_simp; try with_reducible rfl)
            refine wpAnyH_take (i := 6) (oi := { dst := some 39, op := Go.Op.load 25 (Go.Operand.tmp 38), type := 25, pos := "l12_names.go:110", after := #[{ on := 5, ground := Go.Ground.data }], guard := none }) (v := ?v6) rfl (by kernel_rfl) (by kernel_rfl) (by kernel_rfl) (fun _ _ _ h => h) (Or.inl ⟨by rfl, ?h6⟩) hHeld ?r6
            case h6 => (intro w hSw; (try dsimp only at hSw); go_simp; try with_reducible rfl)
            refine wpAnyH_take (i := 8) (oi := { dst := some 41, op := Go.Op.fieldAddr 27 (Go.Operand.tmp 3) 3, type := 0, pos := "l12_names.go:110", after := #[], guard := none }) (v := ?v7) rfl (by kernel_rfl) (by kernel_rfl) (by kernel_rfl) (fun _ _ _ h => h) (Or.inl ⟨by rfl, ?h7⟩) hHeld ?r7
            case h7 => (intro w hSw; (try dsimp only at hSw); go_simp; try with_reducible rfl)
            refine wpAnyH_take (i := 9) (oi := { dst := some 42, op := Go.Op.load 25 (Go.Operand.tmp 41), type := 25, pos := "l12_names.go:110", after := #[{ on := 8, ground := Go.Ground.data }], guard := none }) (v := ?v8) rfl (by kernel_rfl) (by kernel_rfl) (by kernel_rfl) (fun _ _ _ h => h) (Or.inl ⟨by rfl, ?h8⟩) hHeld ?r8
            case h8 => (intro w hSw; (try dsimp only at hSw); go_simp; try with_reducible rfl)
            refine wpAnyH_ready (rs := [4, 12]) (by kernel_rfl) (by simp) ?_
            refine (AllReadyH.cons (o := qHp0) rfl (fun K hK => ?_) (AllReadyH.cons (o := qHp1) rfl (fun K hK => ?_) AllReadyH.nil))
            · skip
              go_simp
              go_at_call 40
              refine Calls.mono (clone40 _ _ _ _ (HR1.out _ (HZQ.out _ HB3.out).bel).1 f3 (edC_one _)) ?_
              rintro e v4 ⟨A1, c1, rfl, hb, ho⟩
              have HB4 := (show Hid (Below w3.heap.size w3 (v4)) from HB3.out.trans (hb.mono HB3.out.size))
              have HE4 := (show Hid _ from own_lowK ho HB3.out.size)
              clear ho
              clear hb HB3
              have hS4 := (HZQ.out _ HB4.out).cells
              clear hHeld
              refine hK.out _ _ hS4 (fun hHeld => ?_)
              clear hK K
              clear hS4
              refine wpAnyH_ready (rs := [7, 12]) (by kernel_rfl) (by simp) ?_
              refine (AllReadyH.cons (o := qHp2) rfl (fun K hK => ?_) (AllReadyH.cons (o := qHp1) rfl (fun K hK => ?_) AllReadyH.nil))
              · skip
                go_simp
                go_at_call 41
                refine Calls.mono (clone41 _ _ _ _ (HR1.out _ (HZQ.out _ HB4.out).bel).2.1 f4 (spC_one _)) ?_
                rintro e v5 ⟨A2, c2, rfl, hb, ho⟩
                have HB5 := (show Hid (Below w3.heap.size w3 (v5)) from HB4.out.trans (hb.mono HB4.out.size))
                have HE5 := (show Hid ((v5).ownsRow w3.heap.size 74 3 (.slice A1 t.edges.length c1) t.edges.length (edC t.edges)) from own_stillK HE4.out hb)
                have HD5 := (show Hid _ from own_lowK ho HB4.out.size)
                clear ho
                clear hb HB4 HE4
                have hS5 := (HZQ.out _ HB5.out).cells
                clear hHeld
                refine hK.out _ _ hS5 (fun hHeld => ?_)
                clear hK K
                clear hS5
                refine wpAnyH_ready (rs := [10, 12]) (by kernel_rfl) (by simp) ?_
                refine (AllReadyH.cons (o := qHp3) rfl (fun K hK => ?_) (AllReadyH.cons (o := qHp1) rfl (fun K hK => ?_) AllReadyH.nil))
                · skip
                  go_simp
                  go_at_call 41
                  refine Calls.mono (clone41 _ _ _ _ (HR1.out _ (HZQ.out _ HB5.out).bel).2.2 f5 (spC_one _)) ?_
                  rintro e v6 ⟨A3, c3, rfl, hb, ho⟩
                  have HB6 := (show Hid (Below w3.heap.size w3 (v6)) from HB5.out.trans (hb.mono HB5.out.size))
                  have HE6 := (show Hid ((v6).ownsRow w3.heap.size 74 3 (.slice A1 t.edges.length c1) t.edges.length (edC t.edges)) from own_stillK HE5.out hb)
                  have HD6 := (show Hid ((v6).ownsRow w3.heap.size 33 2 (.slice A2 t.decls.length c2) t.decls.length (spC t.decls)) from own_stillK HD5.out hb)
                  have HN := (show Hid (w3.heap.size ≤ (v5).heap.size ∧ ∀ b, (Value.slice A2 t.decls.length c2).ownBlock = some b → b < (v5).heap.size) from ⟨HB5.out.size, fun b hb2 => (World.ownsRow.lt HD5.out b hb2).2⟩)
                  have HR6 := (show Hid _ from ho)
                  generalize (v5).heap.size = N at HN HR6
                  clear ho
                  clear hb HB5 HE5 HD5
                  have hS6 := (HZQ.out _ HB6.out).cells
                  clear hHeld
                  refine hK.out _ _ hS6 (fun hHeld => ?_)
                  clear hK K
                  clear hS6
                  refine wpAnyH_take (i := 11) (oi := qHp4) (v := ?v9) rfl (by kernel_rfl) (by kernel_rfl) (by kernel_rfl) (fun _ _ _ h => h) (Or.inl ⟨by rfl, ?h9⟩) hHeld ?r9
                  case h9 => (intro w hSw; (try dsimp only at hSw); go_simp; try with_reducible rfl)
                  refine wpAnyH_ready (rs := [12]) (by kernel_rfl) (by simp) ?_
                  refine (AllReadyH.cons (o := qHp1) rfl (fun K hK => ?_) AllReadyH.nil)
                  go_simp
                  have hb := bel_alloc (v6) (.cells #[.int .i64 0, .slice none 0 0, .slice none 0 0, .slice none 0 0] 27)
                  have HB7 := (show Hid (Below w3.heap.size w3 ((v6).alloc (.cells #[.int .i64 0, .slice none 0 0, .slice none 0 0, .slice none 0 0] 27))) from HB6.out.trans (hb.mono HB6.out.size))
                  have HE7 := (show Hid (((v6).alloc (.cells #[.int .i64 0, .slice none 0 0, .slice none 0 0, .slice none 0 0] 27)).ownsRow w3.heap.size 74 3 (.slice A1 t.edges.length c1) t.edges.length (edC t.edges)) from own_stillK HE6.out hb)
                  have HD7 := (show Hid (((v6).alloc (.cells #[.int .i64 0, .slice none 0 0, .slice none 0 0, .slice none 0 0] 27)).ownsRow w3.heap.size 33 2 (.slice A2 t.decls.length c2) t.decls.length (spC t.decls)) from own_stillK HD6.out hb)
                  have HR7 := (show Hid (((v6).alloc (.cells #[.int .i64 0, .slice none 0 0, .slice none 0 0, .slice none 0 0] 27)).ownsRow N 33 2 (.slice A3 t.refs.length c3) t.refs.length (spC t.refs)) from own_stillK HR6.out hb)
                  have HX7 := (show Hid (Box ((v6).alloc (.cells #[.int .i64 0, .slice none 0 0, .slice none 0 0, .slice none 0 0] 27)) (v6).heap.size 27 [.int .i64 0, .slice none 0 0, .slice none 0 0, .slice none 0 0]) from Box.new _ 27 [.int .i64 0, .slice none 0 0, .slice none 0 0, .slice none 0 0])
                  have HG := (show Hid (w3.heap.size ≤ (v6).heap.size) from HB6.out.size)
                  clear hb HB6 HE6 HD6 HR6
                  have hS7 := (HZQ.out _ HB7.out).cells
                  clear hHeld
                  refine hK.out _ _ hS7 (fun hHeld => ?_)
                  clear hK K
                  clear hS7
                  generalize (v6).alloc (.cells #[.int .i64 0, .slice none 0 0, .slice none 0 0, .slice none 0 0] 27) = W7 at *
                  generalize hg4 : (v6).heap.size = g4 at *
                  clear hg4
                  refine wpAnyH_ready (rs := [13]) (by kernel_rfl) (by simp) ?_
                  refine (AllReadyH.cons (o := qHp5) rfl (fun K hK => ?_) AllReadyH.nil)
                  obtain ⟨g2, e2, hF⟩ := SgG.made (T := t) HB7.out HE7.out HD7.out HR7.out HN.out.1 HN.out.2 (by omega) HX7.out HG.out
                  subst e2
                  obtain ⟨x0, x1, x2, x3⟩ := (show _ from (⟨HX7.out.cell 0 (by simp), HX7.out.cell 1 (by simp), HX7.out.cell 2 (by simp), HX7.out.cell 3 (by simp)⟩ : _ ∧ _ ∧ _ ∧ _))
                  simp only [List.getD_cons_zero, List.getD_cons_succ] at x0 x1 x2 x3
                  have z0 := HX7.out.frozen 0
                  have z1 := HX7.out.frozen 1
                  have z2 := HX7.out.frozen 2
                  have z3 := HX7.out.frozen 3
                  have HF := (show Hid _ from hF); clear hF
                  go_simp
                  clear x0 x1 x2 x3 z0 z1 z2 z3
                  have hS9 := (HZQ.out _ HF.out.bel).cells
                  clear hHeld
                  refine hK.out _ _ hS9 (fun hHeld => ?_)
                  clear hK K
                  refine wpAnyH_done (by kernel_rfl) ?_ _
                  clear hHeld hS9
                  go_wp2_with fail
                  go_meet
                  exact ⟨A1, c1, g2, c2, A3, c3, g4, rfl, HF⟩
                · skip
                  go_simp
                  have hb := bel_alloc (v5) (.cells #[.int .i64 0, .slice none 0 0, .slice none 0 0, .slice none 0 0] 27)
                  have HB6 := (show Hid (Below w3.heap.size w3 ((v5).alloc (.cells #[.int .i64 0, .slice none 0 0, .slice none 0 0, .slice none 0 0] 27))) from HB5.out.trans (hb.mono HB5.out.size))
                  have HE6 := (show Hid (((v5).alloc (.cells #[.int .i64 0, .slice none 0 0, .slice none 0 0, .slice none 0 0] 27)).ownsRow w3.heap.size 74 3 (.slice A1 t.edges.length c1) t.edges.length (edC t.edges)) from own_stillK HE5.out hb)
                  have HD6 := (show Hid (((v5).alloc (.cells #[.int .i64 0, .slice none 0 0, .slice none 0 0, .slice none 0 0] 27)).ownsRow w3.heap.size 33 2 (.slice A2 t.decls.length c2) t.decls.length (spC t.decls)) from own_stillK HD5.out hb)
                  have HX6 := (show Hid (Box ((v5).alloc (.cells #[.int .i64 0, .slice none 0 0, .slice none 0 0, .slice none 0 0] 27)) (v5).heap.size 27 [.int .i64 0, .slice none 0 0, .slice none 0 0, .slice none 0 0]) from Box.new _ 27 [.int .i64 0, .slice none 0 0, .slice none 0 0, .slice none 0 0])
                  have HG := (show Hid (w3.heap.size ≤ (v5).heap.size) from HB5.out.size)
                  clear hb HB5 HE5 HD5
                  have hS6 := (HZQ.out _ HB6.out).cells
                  clear hHeld
                  refine hK.out _ _ hS6 (fun hHeld => ?_)
                  clear hK K
                  clear hS6
                  generalize (v5).alloc (.cells #[.int .i64 0, .slice none 0 0, .slice none 0 0, .slice none 0 0] 27) = W6 at *
                  generalize hg4 : (v5).heap.size = g4 at *
                  clear hg4
                  refine wpAnyH_ready (rs := [10]) (by kernel_rfl) (by simp) ?_
                  refine (AllReadyH.cons (o := qHp3) rfl (fun K hK => ?_) AllReadyH.nil)
                  go_simp
                  go_at_call 41
                  refine Calls.mono (clone41 _ _ _ _ (HR1.out _ (HZQ.out _ HB6.out).bel).2.2 f5 (spC_one _)) ?_
                  rintro e v7 ⟨A3, c3, rfl, hb, ho⟩
                  have HB7 := (show Hid (Below w3.heap.size w3 (v7)) from HB6.out.trans (hb.mono HB6.out.size))
                  have HE7 := (show Hid ((v7).ownsRow w3.heap.size 74 3 (.slice A1 t.edges.length c1) t.edges.length (edC t.edges)) from own_stillK HE6.out hb)
                  have HD7 := (show Hid ((v7).ownsRow w3.heap.size 33 2 (.slice A2 t.decls.length c2) t.decls.length (spC t.decls)) from own_stillK HD6.out hb)
                  have HX7 := (show Hid (Box (v7) g4 27 [.int .i64 0, .slice none 0 0, .slice none 0 0, .slice none 0 0]) from HX6.out.still hb)
                  have HN := (show Hid (w3.heap.size ≤ (W6).heap.size ∧ ∀ b, (Value.slice A2 t.decls.length c2).ownBlock = some b → b < (W6).heap.size) from ⟨HB6.out.size, fun b hb2 => (World.ownsRow.lt HD6.out b hb2).2⟩)
                  have HR7 := (show Hid _ from ho)
                  generalize (W6).heap.size = N at HN HR7
                  clear ho
                  clear hb HB6 HE6 HD6 HX6
                  have hS7 := (HZQ.out _ HB7.out).cells
                  clear hHeld
                  refine hK.out _ _ hS7 (fun hHeld => ?_)
                  clear hK K
                  clear hS7
                  refine wpAnyH_take (i := 11) (oi := qHp4) (v := ?v10) rfl (by kernel_rfl) (by kernel_rfl) (by kernel_rfl) (fun _ _ _ h => h) (Or.inl ⟨by rfl, ?h10⟩) hHeld ?r10
                  case h10 => (intro w hSw; (try dsimp only at hSw); go_simp; try with_reducible rfl)
                  refine wpAnyH_ready (rs := [13]) (by kernel_rfl) (by simp) ?_
                  refine (AllReadyH.cons (o := qHp5) rfl (fun K hK => ?_) AllReadyH.nil)
                  obtain ⟨g2, e2, hF⟩ := SgG.made (T := t) HB7.out HE7.out HD7.out HR7.out HN.out.1 HN.out.2 (by omega) HX7.out HG.out
                  subst e2
                  obtain ⟨x0, x1, x2, x3⟩ := (show _ from (⟨HX7.out.cell 0 (by simp), HX7.out.cell 1 (by simp), HX7.out.cell 2 (by simp), HX7.out.cell 3 (by simp)⟩ : _ ∧ _ ∧ _ ∧ _))
                  simp only [List.getD_cons_zero, List.getD_cons_succ] at x0 x1 x2 x3
                  have z0 := HX7.out.frozen 0
                  have z1 := HX7.out.frozen 1
                  have z2 := HX7.out.frozen 2
                  have z3 := HX7.out.frozen 3
                  have HF := (show Hid _ from hF); clear hF
                  go_simp
                  clear x0 x1 x2 x3 z0 z1 z2 z3
                  have hS9 := (HZQ.out _ HF.out.bel).cells
                  clear hHeld
                  refine hK.out _ _ hS9 (fun hHeld => ?_)
                  clear hK K
                  refine wpAnyH_done (by kernel_rfl) ?_ _
                  clear hHeld hS9
                  go_wp2_with fail
                  go_meet
                  exact ⟨A1, c1, g2, c2, A3, c3, g4, rfl, HF⟩
              · skip
                go_simp
                have hb := bel_alloc (v4) (.cells #[.int .i64 0, .slice none 0 0, .slice none 0 0, .slice none 0 0] 27)
                have HB5 := (show Hid (Below w3.heap.size w3 ((v4).alloc (.cells #[.int .i64 0, .slice none 0 0, .slice none 0 0, .slice none 0 0] 27))) from HB4.out.trans (hb.mono HB4.out.size))
                have HE5 := (show Hid (((v4).alloc (.cells #[.int .i64 0, .slice none 0 0, .slice none 0 0, .slice none 0 0] 27)).ownsRow w3.heap.size 74 3 (.slice A1 t.edges.length c1) t.edges.length (edC t.edges)) from own_stillK HE4.out hb)
                have HX5 := (show Hid (Box ((v4).alloc (.cells #[.int .i64 0, .slice none 0 0, .slice none 0 0, .slice none 0 0] 27)) (v4).heap.size 27 [.int .i64 0, .slice none 0 0, .slice none 0 0, .slice none 0 0]) from Box.new _ 27 [.int .i64 0, .slice none 0 0, .slice none 0 0, .slice none 0 0])
                have HG := (show Hid (w3.heap.size ≤ (v4).heap.size) from HB4.out.size)
                clear hb HB4 HE4
                have hS5 := (HZQ.out _ HB5.out).cells
                clear hHeld
                refine hK.out _ _ hS5 (fun hHeld => ?_)
                clear hK K
                clear hS5
                generalize (v4).alloc (.cells #[.int .i64 0, .slice none 0 0, .slice none 0 0, .slice none 0 0] 27) = W5 at *
                generalize hg4 : (v4).heap.size = g4 at *
                clear hg4
                refine wpAnyH_ready (rs := [7]) (by kernel_rfl) (by simp) ?_
                refine (AllReadyH.cons (o := qHp2) rfl (fun K hK => ?_) AllReadyH.nil)
                go_simp
                go_at_call 41
                refine Calls.mono (clone41 _ _ _ _ (HR1.out _ (HZQ.out _ HB5.out).bel).2.1 f4 (spC_one _)) ?_
                rintro e v6 ⟨A2, c2, rfl, hb, ho⟩
                have HB6 := (show Hid (Below w3.heap.size w3 (v6)) from HB5.out.trans (hb.mono HB5.out.size))
                have HE6 := (show Hid ((v6).ownsRow w3.heap.size 74 3 (.slice A1 t.edges.length c1) t.edges.length (edC t.edges)) from own_stillK HE5.out hb)
                have HX6 := (show Hid (Box (v6) g4 27 [.int .i64 0, .slice none 0 0, .slice none 0 0, .slice none 0 0]) from HX5.out.still hb)
                have HD6 := (show Hid _ from own_lowK ho HB5.out.size)
                clear ho
                clear hb HB5 HE5 HX5
                have hS6 := (HZQ.out _ HB6.out).cells
                clear hHeld
                refine hK.out _ _ hS6 (fun hHeld => ?_)
                clear hK K
                clear hS6
                refine wpAnyH_ready (rs := [10]) (by kernel_rfl) (by simp) ?_
                refine (AllReadyH.cons (o := qHp3) rfl (fun K hK => ?_) AllReadyH.nil)
                go_simp
                go_at_call 41
                refine Calls.mono (clone41 _ _ _ _ (HR1.out _ (HZQ.out _ HB6.out).bel).2.2 f5 (spC_one _)) ?_
                rintro e v7 ⟨A3, c3, rfl, hb, ho⟩
                have HB7 := (show Hid (Below w3.heap.size w3 (v7)) from HB6.out.trans (hb.mono HB6.out.size))
                have HE7 := (show Hid ((v7).ownsRow w3.heap.size 74 3 (.slice A1 t.edges.length c1) t.edges.length (edC t.edges)) from own_stillK HE6.out hb)
                have HD7 := (show Hid ((v7).ownsRow w3.heap.size 33 2 (.slice A2 t.decls.length c2) t.decls.length (spC t.decls)) from own_stillK HD6.out hb)
                have HX7 := (show Hid (Box (v7) g4 27 [.int .i64 0, .slice none 0 0, .slice none 0 0, .slice none 0 0]) from HX6.out.still hb)
                have HN := (show Hid (w3.heap.size ≤ (v6).heap.size ∧ ∀ b, (Value.slice A2 t.decls.length c2).ownBlock = some b → b < (v6).heap.size) from ⟨HB6.out.size, fun b hb2 => (World.ownsRow.lt HD6.out b hb2).2⟩)
                have HR7 := (show Hid _ from ho)
                generalize (v6).heap.size = N at HN HR7
                clear ho
                clear hb HB6 HE6 HD6 HX6
                have hS7 := (HZQ.out _ HB7.out).cells
                clear hHeld
                refine hK.out _ _ hS7 (fun hHeld => ?_)
                clear hK K
                clear hS7
                refine wpAnyH_take (i := 11) (oi := qHp4) (v := ?v11) rfl (by kernel_rfl) (by kernel_rfl) (by kernel_rfl) (fun _ _ _ h => h) (Or.inl ⟨by rfl, ?h11⟩) hHeld ?r11
                case h11 => (intro w hSw; (try dsimp only at hSw); go_simp; try with_reducible rfl)
                refine wpAnyH_ready (rs := [13]) (by kernel_rfl) (by simp) ?_
                refine (AllReadyH.cons (o := qHp5) rfl (fun K hK => ?_) AllReadyH.nil)
                obtain ⟨g2, e2, hF⟩ := SgG.made (T := t) HB7.out HE7.out HD7.out HR7.out HN.out.1 HN.out.2 (by omega) HX7.out HG.out
                subst e2
                obtain ⟨x0, x1, x2, x3⟩ := (show _ from (⟨HX7.out.cell 0 (by simp), HX7.out.cell 1 (by simp), HX7.out.cell 2 (by simp), HX7.out.cell 3 (by simp)⟩ : _ ∧ _ ∧ _ ∧ _))
                simp only [List.getD_cons_zero, List.getD_cons_succ] at x0 x1 x2 x3
                have z0 := HX7.out.frozen 0
                have z1 := HX7.out.frozen 1
                have z2 := HX7.out.frozen 2
                have z3 := HX7.out.frozen 3
                have HF := (show Hid _ from hF); clear hF
                go_simp
                clear x0 x1 x2 x3 z0 z1 z2 z3
                have hS9 := (HZQ.out _ HF.out.bel).cells
                clear hHeld
                refine hK.out _ _ hS9 (fun hHeld => ?_)
                clear hK K
                refine wpAnyH_done (by kernel_rfl) ?_ _
                clear hHeld hS9
                go_wp2_with fail
                go_meet
                exact ⟨A1, c1, g2, c2, A3, c3, g4, rfl, HF⟩
            · skip
              go_simp
              have hb := bel_alloc (W3) (.cells #[.int .i64 0, .slice none 0 0, .slice none 0 0, .slice none 0 0] 27)
              have HB4 := (show Hid (Below w3.heap.size w3 ((W3).alloc (.cells #[.int .i64 0, .slice none 0 0, .slice none 0 0, .slice none 0 0] 27))) from HB3.out.trans (hb.mono HB3.out.size))
              have HX4 := (show Hid (Box ((W3).alloc (.cells #[.int .i64 0, .slice none 0 0, .slice none 0 0, .slice none 0 0] 27)) (W3).heap.size 27 [.int .i64 0, .slice none 0 0, .slice none 0 0, .slice none 0 0]) from Box.new _ 27 [.int .i64 0, .slice none 0 0, .slice none 0 0, .slice none 0 0])
              have HG := (show Hid (w3.heap.size ≤ (W3).heap.size) from HB3.out.size)
              clear hb HB3
              have hS4 := (HZQ.out _ HB4.out).cells
              clear hHeld
              refine hK.out _ _ hS4 (fun hHeld => ?_)
              clear hK K
              clear hS4
              generalize (W3).alloc (.cells #[.int .i64 0, .slice none 0 0, .slice none 0 0, .slice none 0 0] 27) = W4 at *
              generalize hg4 : (W3).heap.size = g4 at *
              clear hg4
              refine wpAnyH_ready (rs := [4]) (by kernel_rfl) (by simp) ?_
              refine (AllReadyH.cons (o := qHp0) rfl (fun K hK => ?_) AllReadyH.nil)
              go_simp
              go_at_call 40
              refine Calls.mono (clone40 _ _ _ _ (HR1.out _ (HZQ.out _ HB4.out).bel).1 f3 (edC_one _)) ?_
              rintro e v5 ⟨A1, c1, rfl, hb, ho⟩
              have HB5 := (show Hid (Below w3.heap.size w3 (v5)) from HB4.out.trans (hb.mono HB4.out.size))
              have HX5 := (show Hid (Box (v5) g4 27 [.int .i64 0, .slice none 0 0, .slice none 0 0, .slice none 0 0]) from HX4.out.still hb)
              have HE5 := (show Hid _ from own_lowK ho HB4.out.size)
              clear ho
              clear hb HB4 HX4
              have hS5 := (HZQ.out _ HB5.out).cells
              clear hHeld
              refine hK.out _ _ hS5 (fun hHeld => ?_)
              clear hK K
              clear hS5
              refine wpAnyH_ready (rs := [7]) (by kernel_rfl) (by simp) ?_
              refine (AllReadyH.cons (o := qHp2) rfl (fun K hK => ?_) AllReadyH.nil)
              go_simp
              go_at_call 41
              refine Calls.mono (clone41 _ _ _ _ (HR1.out _ (HZQ.out _ HB5.out).bel).2.1 f4 (spC_one _)) ?_
              rintro e v6 ⟨A2, c2, rfl, hb, ho⟩
              have HB6 := (show Hid (Below w3.heap.size w3 (v6)) from HB5.out.trans (hb.mono HB5.out.size))
              have HE6 := (show Hid ((v6).ownsRow w3.heap.size 74 3 (.slice A1 t.edges.length c1) t.edges.length (edC t.edges)) from own_stillK HE5.out hb)
              have HX6 := (show Hid (Box (v6) g4 27 [.int .i64 0, .slice none 0 0, .slice none 0 0, .slice none 0 0]) from HX5.out.still hb)
              have HD6 := (show Hid _ from own_lowK ho HB5.out.size)
              clear ho
              clear hb HB5 HE5 HX5
              have hS6 := (HZQ.out _ HB6.out).cells
              clear hHeld
              refine hK.out _ _ hS6 (fun hHeld => ?_)
              clear hK K
              clear hS6
              refine wpAnyH_ready (rs := [10]) (by kernel_rfl) (by simp) ?_
              refine (AllReadyH.cons (o := qHp3) rfl (fun K hK => ?_) AllReadyH.nil)
              go_simp
              go_at_call 41
              refine Calls.mono (clone41 _ _ _ _ (HR1.out _ (HZQ.out _ HB6.out).bel).2.2 f5 (spC_one _)) ?_
              rintro e v7 ⟨A3, c3, rfl, hb, ho⟩
              have HB7 := (show Hid (Below w3.heap.size w3 (v7)) from HB6.out.trans (hb.mono HB6.out.size))
              have HE7 := (show Hid ((v7).ownsRow w3.heap.size 74 3 (.slice A1 t.edges.length c1) t.edges.length (edC t.edges)) from own_stillK HE6.out hb)
              have HD7 := (show Hid ((v7).ownsRow w3.heap.size 33 2 (.slice A2 t.decls.length c2) t.decls.length (spC t.decls)) from own_stillK HD6.out hb)
              have HX7 := (show Hid (Box (v7) g4 27 [.int .i64 0, .slice none 0 0, .slice none 0 0, .slice none 0 0]) from HX6.out.still hb)
              have HN := (show Hid (w3.heap.size ≤ (v6).heap.size ∧ ∀ b, (Value.slice A2 t.decls.length c2).ownBlock = some b → b < (v6).heap.size) from ⟨HB6.out.size, fun b hb2 => (World.ownsRow.lt HD6.out b hb2).2⟩)
              have HR7 := (show Hid _ from ho)
              generalize (v6).heap.size = N at HN HR7
              clear ho
              clear hb HB6 HE6 HD6 HX6
              have hS7 := (HZQ.out _ HB7.out).cells
              clear hHeld
              refine hK.out _ _ hS7 (fun hHeld => ?_)
              clear hK K
              clear hS7
              refine wpAnyH_take (i := 11) (oi := qHp4) (v := ?v12) rfl (by kernel_rfl) (by kernel_rfl) (by kernel_rfl) (fun _ _ _ h => h) (Or.inl ⟨by rfl, ?h12⟩) hHeld ?r12
              case h12 => (intro w hSw; (try dsimp only at hSw); go_simp; try with_reducible rfl)
              refine wpAnyH_ready (rs := [13]) (by kernel_rfl) (by simp) ?_
              refine (AllReadyH.cons (o := qHp5) rfl (fun K hK => ?_) AllReadyH.nil)
              obtain ⟨g2, e2, hF⟩ := SgG.made (T := t) HB7.out HE7.out HD7.out HR7.out HN.out.1 HN.out.2 (by omega) HX7.out HG.out
              subst e2
              obtain ⟨x0, x1, x2, x3⟩ := (show _ from (⟨HX7.out.cell 0 (by simp), HX7.out.cell 1 (by simp), HX7.out.cell 2 (by simp), HX7.out.cell 3 (by simp)⟩ : _ ∧ _ ∧ _ ∧ _))
              simp only [List.getD_cons_zero, List.getD_cons_succ] at x0 x1 x2 x3
              have z0 := HX7.out.frozen 0
              have z1 := HX7.out.frozen 1
              have z2 := HX7.out.frozen 2
              have z3 := HX7.out.frozen 3
              have HF := (show Hid _ from hF); clear hF
              go_simp
              clear x0 x1 x2 x3 z0 z1 z2 z3
              have hS9 := (HZQ.out _ HF.out.bel).cells
              clear hHeld
              refine hK.out _ _ hS9 (fun hHeld => ?_)
              clear hK K
              refine wpAnyH_done (by kernel_rfl) ?_ _
              clear hHeld hS9
              go_wp2_with fail
              go_meet
              exact ⟨A1, c1, g2, c2, A3, c3, g4, rfl, HF⟩
          case rest =>
            obtain ⟨A1, c1, g2, c2, A3, c3, g4, rfl, HF0⟩ := hcut
            obtain ⟨w4, rfl⟩ : ∃ w4, w4 = wc := ⟨_, rfl⟩
            clear hS0
            obtain ⟨x0, x1, x2, x3⟩ := HF0.out.box
            obtain ⟨_, y1, _, z1⟩ := HF0.out.cellD hq
            have HF1 := (show Hid (SgG w3 (w4.setCell ⟨g2, q * 2 + 1, none⟩ (.string nm)) ⟨t.scopes, t.edges, rnD t q nm, t.refs⟩ A1 c1 g2 c2 A3 c3 g4) from HF0.out.decl hq nm (rnD_set hq))
            clear HF0
            go_wp2_with fail
            clear x0 x1 x2 x3 y1 z1
            obtain ⟨w5, hw5⟩ : ∃ w5, w4.setCell ⟨g2, q * 2 + 1, none⟩ (.string nm) = w5 := ⟨_, rfl⟩
            rw [hw5] at HF1
            rw [hw5]
            clear hw5
            have HLI := (show Hid (SgG w3 w5 ⟨t.scopes, t.edges, rnD t q nm, rnF t (q : Int) nm 0⟩ A1 c1 g2 c2 A3 c3 g4 ∧ ∀ i, i < 0 → twI t (q : Int) i = false) from ⟨by rw [rnF_zero]; exact HF1.out, fun i hi => absurd hi (Nat.not_lt_zero _)⟩)
            clear HF1
            have HIN := (show Hid (∀ wq, Below w3.heap.size w3 wq → ∀ j (hj : j < LS.length), ∃ (b off : Nat) (xa : Option Addr) (xc : Nat), ra = some ⟨b, off, none⟩ ∧ wq.cell? ⟨b, off + j, none⟩ = some (.slice xa LS[j].length xc) ∧ LS[j].length ≤ maxLen ∧ Calls Try.prog 42 #[.slice xa LS[j].length xc, .int .i64 (q : Int)] wq fun e w'' => e = .returned (.bool (hasI LS[j] (q : Int))) ∧ w'' = wq) from fun wq hb j hj => by
              obtain ⟨a, cap, b, off, sv, he, hl, ha, hc, hi⟩ := HRD.out.still hb
              injection he with e1 e2 e3
              obtain ⟨xa, xc, ev, hm⟩ := (hi j hj).form
              refine ⟨b, off, xa, xc, e1.trans (ha (by omega)), ?_, hm, ?_⟩
              · rw [← ev]; exact hc j hj
              · rw [← ev]; exact contains58 _ _ _ wq (hi j hj))
            have HW5 := (show Hid (Below w3.heap.size w3 w5) from HLI.out.1.bel)
            go_loopw [53] (fun i wr => ∃ j : Nat, i = .int .i64 j ∧ j ≤ LS.length ∧ Hid (SgG w3 wr ⟨t.scopes, t.edges, rnD t q nm, rnF t (q : Int) nm j⟩ A1 c1 g2 c2 A3 c3 g4 ∧ ∀ i, i < j → twI t (q : Int) i = false)) (fun i _ => LS.length - (intOf i).toNat)
            case atStart => exact ⟨0, rfl, Nat.zero_le _, HLI⟩
            case round =>
              obtain ⟨j, rfl, hj, HI⟩ := hrel
              clear HLI
              by_cases hjl : j < LS.length
              · have hjr : j < t.refs.length := by have := HLL.out; omega
                obtain ⟨b, off, xa, xc, era, cc, hml, hcl⟩ := HIN.out wr HI.out.1.bel j hjl
                have HCL := (show Hid _ from hcl); clear hcl
                unfold maxLen at hml
                have HLJ := (show Hid _ from HLA.out j hjl hjr)
                have HTJ := (show Hid _ from twI_at (t := t) (d := (q : Int)) hjr)
                have HRN := (show Hid _ from rnF_no (t := t) (d := (q : Int)) (nm := nm) hjr)
                rw [← HLJ.out] at HTJ HRN
                have HRY := (show Hid _ from fun h => rnF_yes (t := t) (d := (q : Int)) (nm := nm) hjr h t.refs[j].scope rfl)
                rw [← HLJ.out] at HRY
                generalize LS[j] = RV at *
                generalize hUB : hasI RV (q : Int) = UB at *
                have HUB := (show Hid _ from hUB); clear hUB
                subst era
                go_wp2_with fail
                refine Calls.mono HCL.out ?_
                rintro e w6 ⟨rfl, rfl⟩
                clear cc
                cases UB
                case false =>
                  have HX := (show Hid (SgG w3 w6 ⟨t.scopes, t.edges, rnD t q nm, rnF t (q : Int) nm (j + 1)⟩ A1 c1 g2 c2 A3 c3 g4 ∧ ∀ i, i < j + 1 → twI t (q : Int) i = false) from ⟨by rw [HRN.out rfl]; exact HI.out.1, fun i hi => by
                    by_cases e : i = j
                    · subst e; rw [HTJ.out]; rfl
                    · exact HI.out.2 i (by omega)⟩)
                  go_wp2_with fail
                  exact ⟨⟨j + 1, by go_num, by omega, HX⟩, by simp [intOf]; omega⟩
                case true =>
                  by_cases hone : 1 < RV.length
                  · have HT := (show Hid (twB t (q : Int) = true) from HT2.out j hjr (by rw [HTJ.out]; simp [hone]))
                    have hgt : (1 : Int) < (RV.length : Int) := by omega
                    clear hone
                    have hZ := HZQ.out w6 HI.out.1.bel
                    have y0 := hZ.res.cell 0 (by simp)
                    have y1 := hZ.res.cell 1 (by simp)
                    have y2 := hZ.res.cell 2 (by simp)
                    have y3 := hZ.res.cell 3 (by simp)
                    have f0 := hZ.res.frozen 0
                    have f1 := hZ.res.frozen 1
                    have f2 := hZ.res.frozen 2
                    have f3 := hZ.res.frozen 3
                    simp only [List.getD_cons_zero, List.getD_cons_succ] at y0 y1 y2 y3
                    have HE := (show Hid _ from (hZ.zero 5).b)
                    clear hZ
                    go_wp2_with fail
                    refine bodyPost_ret (v := .tuple #[.agg #[.int .i64 0, .slice none 0 0, .slice none 0 0, .slice none 0 0], .int .i64 5]) (by simp [results, Try.results9, go_sem, y0, y1, y2, y3, f0, f1, f2, f3]) rfl ?_
                    rw [HTW.out HT.out]
                    exact HE.out
                  · have hgt : ¬ (1 : Int) < (RV.length : Int) := by omega
                    obtain ⟨x0, x1, x2, x3⟩ := HI.out.1.box
                    have hjf : j < (rnF t (q : Int) nm j).length := by rw [rnF_len]; exact hjr
                    obtain ⟨g3, e3, hq0, y1, hq1, z1⟩ := HI.out.1.cellR (j := j) hjf
                    clear hq0 hq1
                    subst e3
                    have HX := (show Hid (SgG w3 (w6.setCell ⟨g3, j * 2 + 1, none⟩ (.string nm)) ⟨t.scopes, t.edges, rnD t q nm, rnF t (q : Int) nm (j + 1)⟩ A1 c1 g2 c2 (some ⟨g3, 0, none⟩) c3 g4 ∧ ∀ i, i < j + 1 → twI t (q : Int) i = false) from ⟨HI.out.1.ref hjf nm (by rw [← HRY.out rfl]; show List.set _ _ _ = _; rw [rnF_scope hjf]), fun i hi => by
                      by_cases e : i = j
                      · subst e; rw [HTJ.out]; simp [hone]
                      · exact HI.out.2 i (by omega)⟩)
                    simp only at x0 x1 x2 x3 y1
                    generalize (rnF t (q : Int) nm j)[j].name = onm at y1
                    generalize hFL : (rnF t (q : Int) nm j).length = FL at *
                    clear hFL hone
                    go_wp2_with fail
                    exact ⟨⟨j + 1, by go_num, by omega, HX⟩, by simp [intOf]; omega⟩
              · obtain rfl : j = LS.length := by omega
                have HTF := (show Hid (twB t (q : Int) = false) from twB_no (fun i hi => HI.out.2 i (by rw [HLL.out]; exact hi)))
                have HSF := (show Hid (SgG w3 wr (rnT t q nm) A1 c1 g2 c2 A3 c3 g4) from by have := HI.out.1; rw [HLL.out] at this; exact this)
                have HNS := (show Hid _ from sg_names HK.out)
                have HDN := (show Hid (∀ i (hi : i < (rnT t q nm).decls.length), (rnT t q nm).decls[i].name.size ≤ maxLen) from nwN_names HN.out HNS.out.1)
                have HRN := (show Hid (∀ i (hi : i < (rnT t q nm).refs.length), (rnT t q nm).refs[i].name.size ≤ maxLen) from nwN_names HN.out HNS.out.2)
                have HLD := (show Hid ((rnT t q nm).edges.length ≤ 120 ∧ (rnT t q nm).decls.length ≤ 120 ∧ (rnT t q nm).refs.length ≤ 120) from ⟨f3, by show (rnD t q nm).length ≤ _; rw [rnD_len]; exact f4, by show (rnF t _ nm _).length ≤ _; rw [rnF_len]; exact f5⟩)
                have HC6 := (show Hid _ from all57 (rnT t q nm) _ _ _ wr (HSF.out.lies HDN.out HRN.out) (rnT_ok HK.out HN.out))
                have HLL2 := (show Hid (((rnT t q nm).refs.map (rsv (rnT t q nm))).length ≤ 120) from by show _ ≤ _; rw [List.length_map]; exact HLD.out.2.2)
                generalize (rnT t q nm).refs.map (rsv (rnT t q nm)) = LT at *
                generalize rnT t q nm = RT at *
                obtain ⟨x0, x1, x2, x3⟩ := HSF.out.box
                clear HI HIN
                go_wp2_with fail
                refine Calls.mono HC6.out ?_
                rintro e w7 ⟨ta, tc, rfl, hb7, hr7⟩
                have HSF7 := (show Hid (SgG w3 w7 RT A1 c1 g2 c2 A3 c3 g4) from HSF.out.still hb7)
                have HC7 := (show Hid _ from same63 LT LS _ _ w7 (hr7.read HLL2.out) (HRD.out.still HSF7.out.bel))
                clear hb7 hr7 HC6 HSF x0 x1 x2 x3
                generalize hSM : decide (LT = LS) = SM at *
                have HSM := (show Hid _ from hSM); clear hSM
                go_wp2_with fail
                refine Calls.mono HC7.out ?_
                rintro e w8 ⟨rfl, hb8⟩
                have HSF8 := (show Hid (SgG w3 w8 RT A1 c1 g2 c2 A3 c3 g4) from HSF7.out.still hb8)
                clear hb8 HSF7 HC7
                cases SM
                case false =>
                  have HE2 := (show Hid _ from HCA.out HTF.out (of_decide_eq_false HSM.out))
                  have hZ := HZQ.out w8 HSF8.out.bel
                  have y0 := hZ.res.cell 0 (by simp)
                  have y1 := hZ.res.cell 1 (by simp)
                  have y2 := hZ.res.cell 2 (by simp)
                  have y3 := hZ.res.cell 3 (by simp)
                  have f0 := hZ.res.frozen 0
                  have f1 := hZ.res.frozen 1
                  have f2 := hZ.res.frozen 2
                  have f3 := hZ.res.frozen 3
                  simp only [List.getD_cons_zero, List.getD_cons_succ] at y0 y1 y2 y3
                  have HE := (show Hid _ from (hZ.zero 12).b)
                  clear hZ
                  go_wp2_with fail
                  refine bodyPost_ret (v := .tuple #[.agg #[.int .i64 0, .slice none 0 0, .slice none 0 0, .slice none 0 0], .int .i64 12]) (by simp [results, Try.results9, go_sem, y0, y1, y2, y3, f0, f1, f2, f3]) rfl ?_
                  rw [HE2.out]
                  exact HE.out
                case true =>
                  have HE2 := (show Hid _ from HSU.out HTF.out (of_decide_eq_true HSM.out))
                  obtain ⟨x0, x1, x2, x3⟩ := HSF8.out.box
                  have hZ := HZQ.out w8 HSF8.out.bel
                  have y0 := hZ.res.cell 0 (by simp)
                  have y1 := hZ.res.cell 1 (by simp)
                  have y2 := hZ.res.cell 2 (by simp)
                  have y3 := hZ.res.cell 3 (by simp)
                  have f0 := hZ.res.frozen 0
                  have f1 := hZ.res.frozen 1
                  have f2 := hZ.res.frozen 2
                  have f6 := hZ.res.frozen 3
                  simp only [List.getD_cons_zero, List.getD_cons_succ] at y0 y1 y2 y3
                  have HE := (show Hid _ from HSF8.out.answer HZ3.out HDN.out HRN.out)
                  clear hZ
                  go_wp2_with fail
                  refine bodyPost_ret (v := .tuple #[.agg #[.int .i64 RT.scopes, .slice A1 RT.edges.length c1, .slice (some ⟨g2, 0, none⟩) RT.decls.length c2, .slice A3 RT.refs.length c3], .int .i64 0]) (by simp [results, Try.results9, go_sem, y0, y1, y2, y3, f0, f1, f2, f6]) rfl ?_
                  rw [HE2.out]
                  exact HE.out
end Go.Proofs.Ytledclkmeikgdaa
