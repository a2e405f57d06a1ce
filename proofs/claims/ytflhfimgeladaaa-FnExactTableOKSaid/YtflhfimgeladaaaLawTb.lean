import Derived.Test.YtflhfimgeladaaaSs
import Derived.Test.YtflhfimgeladaaaTd
import Derived.Deep.RegionWith
/-! The law FnExactTableOK, walked. -/
namespace Go.Proofs.Ytflhfimgeladaaa
open Go.RowKit Go.Deep
set_option linter.unusedVariables false
set_option maxRecDepth 100000
set_option linter.unusedSimpArgs false

set_option maxHeartbeats 6400000 in
theorem lawTb {S S' : Nat → Prop} (d : Bn) (t : Tb) (v0 v1 v3 x0 x1 : Value) (w : World) (h : BLies w S d v0 v1 v3) (ht : TLies w S' t x0 x1) :
    Calls Try.prog 3 #[.agg #[v0, v1, .int .i64 d.own, v3], .agg #[x0, x1]] w fun e w' => e = .returned (.bool true) ∧ Below w.heap.size w w' := by
  have HTO := (show Hid _ from fun w' (hb : Below w.heap.size w w') (hs : d.Small) => toBnf_any d v0 v1 v3 w' (h.still hb) hs)
  have HTT := (show Hid _ from fun w' (hb : Below w.heap.size w w') (hs : t.Small) => toTable_any t x0 x1 w' (ht.still hb) hs)
  have HZB := (show Hid _ from fun w' (hb : Below w.heap.size w w') => szBnf_any d v0 v1 v3 w' 1048576 (h.still hb) (Nat.le_refl _))
  have HZT := (show Hid _ from fun w' (hb : Below w.heap.size w w') (n : Nat) (hn : n ≤ 1048576) => szTable_any t x0 x1 w' n (ht.still hb) hn)
  obtain ⟨a0, p0, a1, p1, a3, p3, rfl, rfl, rfl⟩ := h.form
  obtain ⟨b0, r0, b1, r1, rfl, rfl⟩ := ht.form
  clear h ht
  have hb0 : Below w.heap.size w ((w.alloc (.cells #[.slice a0 d.terms.length p0, .slice a1 d.nons.length p1, .int .i64 d.own, .slice a3 d.prods.length p3] 26)).alloc (.cells #[.slice b0 t.acts.length r0, .slice b1 t.gotos.length r1] 30)) := bel_trans (bel_alloc _ _) (bel_alloc _ _)
  have q4 := (four_box w (.slice a0 d.terms.length p0) (.slice a1 d.nons.length p1) (.int .i64 d.own) (.slice a3 d.prods.length p3) 26).still (bel_alloc _ (.cells #[.slice b0 t.acts.length r0, .slice b1 t.gotos.length r1] 30))
  have q2 := (box2_alloc (w.alloc (.cells #[.slice a0 d.terms.length p0, .slice a1 d.nons.length p1, .int .i64 d.own, .slice a3 d.prods.length p3] 26)) 30 (.slice b0 t.acts.length r0) (.slice b1 t.gotos.length r1)).cells.1
  simp only [World.size_alloc] at q2
  have TH := (show Hid _ from fun (w' : World) (hb : Below ((w.alloc (.cells #[.slice a0 d.terms.length p0, .slice a1 d.nons.length p1, .int .i64 d.own, .slice a3 d.prods.length p3] 26)).alloc (.cells #[.slice b0 t.acts.length r0, .slice b1 t.gotos.length r1] 30)).heap.size ((w.alloc (.cells #[.slice a0 d.terms.length p0, .slice a1 d.nons.length p1, .int .i64 d.own, .slice a3 d.prods.length p3] 26)).alloc (.cells #[.slice b0 t.acts.length r0, .slice b1 t.gotos.length r1] 30)) w') => (⟨q4.still hb, (hb.cell (lt_of_cell q2.1)).trans q2.1, (hb.cell (lt_of_cell q2.2)).trans q2.2⟩ : Four w' w.heap.size (.slice a0 d.terms.length p0) (.slice a1 d.nons.length p1) (.int .i64 d.own) (.slice a3 d.prods.length p3) ∧ Two w' (w.heap.size + 1) (.slice b0 t.acts.length r0) (.slice b1 t.gotos.length r1)))
  have HB0 := (show Hid _ from hb0)
  have HSP := (show Hid _ from fun (S1 S2 : Nat → Prop) (y0 y1 y3 z0 z1 : Value) (w' : World) (h1 : BLies w' S1 d y0 y1 y3) (h2 : TLies w' S2 t z0 z1) => sTab_any d t y0 y1 y3 z0 z1 w' h1 h2)
  have HIM := (show Hid _ from fun (S1 S2 : Nat → Prop) (y0 y1 y3 z0 z1 : Value) (w' : World) (h1 : BLies w' S1 d y0 y1 y3) (h2 : TLies w' S2 t z0 z1) => iTab_any d t y0 y1 y3 z0 z1 w' h1 h2)
  generalize tbB d t = B at *
  have hBB : (B != B) = false := by simp
  have HC0 := (show Hid _ from HZB.out _ hb0)
  obtain ⟨⟨T0, T1, T2, T3⟩, U0, U1⟩ := TH.out _ (Below.refl _ _)
  clear q4 q2 hb0
  go_enter Try.func3, Try.ntmps3
  go_wp2_with fail
  refine Calls.mono HC0.out ?_
  rintro e w1 ⟨rfl | ⟨m1, rfl, hm1, hsm1⟩, hb1⟩
  · have hbw := bel_trans HB0.out hb1
    go_wp2_with fail
    go_ret
    exact ⟨rfl, hbw⟩
  have HS := (show Hid _ from hsm1)
  have HB1 := (show Hid _ from bel_trans HB0.out hb1)
  have HL1 := (show Hid _ from hb1)
  clear T0 T1 T2 T3 U0 U1 hsm1 HC0
  obtain ⟨_, U0, U1⟩ := TH.out _ hb1
  clear hb1
  go_wp2_with fail
  refine Calls.mono (HZT.out _ HB1.out m1 hm1) ?_
  rintro e w2 ⟨rfl | ⟨m2, rfl, hm2, hsm2⟩, hb2⟩
  · have hbw := bel_trans HB1.out hb2
    go_wp2_with fail
    go_ret
    exact ⟨rfl, hbw⟩
  have HST := (show Hid _ from hsm2)
  have HB2 := (show Hid _ from bel_trans HB1.out hb2)
  have HL2 := (show Hid _ from bel_trans HL1.out hb2)
  have HLD := (show Hid _ from HL2.out.drew)
  have HBD := (show Hid _ from HB2.out.drew)
  clear U0 U1 hsm2 hb2 HZB HZT HB1 HL1
  obtain ⟨⟨T0, T1, T2, T3⟩, U0, U1⟩ := TH.out _ HL2.out
  go_wp2_with fail
  go_region_with (first
    | (go_at_call 8; refine Calls.mono (HSP.out _ _ _ _ _ _ _ _ (D3.still hb4) E4) ?_; rintro e w5 ⟨rfl, hb5⟩)
    | (go_at_call 10; refine Calls.mono (HTT.out _ HB3.out HST.out) ?_; rintro e w4 ⟨s0, s1, rfl, hb4, E4⟩)
    | (go_at_call 9; refine Calls.mono (HTO.out _ HBD.out HS.out) ?_; rintro e w3 ⟨u0, u1, u3, rfl, hb3, D3⟩; have HB3 := (show Hid _ from bel_trans HBD.out hb3); have HL3 := (show Hid _ from bel_trans HLD.out hb3); obtain ⟨_, V0, V1⟩ := TH.out _ HL3.out))
  all_goals
    have HB5 := (show Hid _ from bel_trans (bel_trans HB3.out hb4) hb5)
    have HL5 := (show Hid _ from bel_trans (bel_trans HL3.out hb4) hb5)
    clear T0 T1 T2 T3 U0 U1 V0 V1 hb3 hb4 hb5 D3 E4 HB3 HL3
    obtain ⟨⟨T0, T1, T2, T3⟩, U0, U1⟩ := TH.out _ HL5.out
    go_wp2_with fail
    refine Calls.mono (HTO.out _ HB5.out HS.out) ?_
    rintro e w6 ⟨y0, y1, y3, rfl, hb6, D6⟩
    have HB6 := (show Hid _ from bel_trans HB5.out hb6)
    have HL6 := (show Hid _ from bel_trans HL5.out hb6)
    obtain ⟨e0, f0, e1, f1, e3, f3, rfl, rfl, rfl⟩ := D6.form
    have HA6 := (show Hid _ from bel_alloc w6 (.cells #[.slice e0 d.terms.length f0, .slice e1 d.nons.length f1, .int .i64 d.own, .slice e3 d.prods.length f3] 37))
    have XH := (show Hid _ from four_box w6 (.slice e0 d.terms.length f0) (.slice e1 d.nons.length f1) (.int .i64 d.own) (.slice e3 d.prods.length f3) 37)
    have D7 := (show Hid _ from D6.still HA6.out)
    have HB7 := (show Hid _ from bel_trans HB6.out HA6.out)
    have HL7 := (show Hid _ from bel_trans HL6.out HA6.out)
    clear T0 T1 T2 T3 U0 U1 hb6 D6
    obtain ⟨_, U0, U1⟩ := TH.out _ HL7.out
    go_wp2_with fail
    refine Calls.mono (HTT.out _ HB7.out HST.out) ?_
    rintro e w8 ⟨z0, z1, rfl, hb8, E8⟩
    obtain ⟨g0, k0, g1, k1, rfl, rfl⟩ := E8.form
    have HA8 := (show Hid _ from bel_alloc w8 (.cells #[.slice g0 t.acts.length k0, .slice g1 t.gotos.length k1] 41))
    have YH := (show Hid _ from box2_alloc w8 41 (.slice g0 t.acts.length k0) (.slice g1 t.gotos.length k1))
    have HX9 := (show Hid _ from Four.still XH.out (bel_trans hb8 HA8.out))
    have D9 := (show Hid _ from BLies.still D7.out (bel_trans hb8 HA8.out))
    have E9 := (show Hid _ from TLies.still E8 HA8.out)
    have HB9 := (show Hid _ from bel_trans (bel_trans HB7.out hb8) HA8.out)
    have HL9 := (show Hid _ from bel_trans (bel_trans HL7.out hb8) HA8.out)
    have HC9 := (show Hid _ from HIM.out _ _ _ _ _ _ _ _ D9.out E9.out)
    clear U0 U1 hb8 E8 D7 XH
    obtain ⟨X0, X1, X2, X3⟩ := HX9.out
    obtain ⟨⟨Y0, Y1⟩, _⟩ := Box2.cells YH.out
    go_wp2_with fail
    refine Calls.mono HC9.out ?_
    rintro e w10 ⟨rfl, hb10⟩
    have HB10 := (show Hid _ from bel_trans HB9.out hb10)
    have HL10 := (show Hid _ from bel_trans HL9.out hb10)
    have HX10 := (show Hid _ from Four.still HX9.out hb10)
    have HY10 := (show Hid _ from Box2.still YH.out hb10)
    have D10 := (show Hid _ from BLies.still D9.out hb10)
    have E10 := (show Hid _ from TLies.still E9.out hb10)
    clear X0 X1 X2 X3 Y0 Y1 hb10 HC9 HX9 YH D9 E9
    obtain ⟨X0, X1, X2, X3⟩ := HX10.out
    obtain ⟨⟨T0, T1, T2, T3⟩, U0, U1⟩ := TH.out _ HL10.out
    have H10 := (show Hid _ from HTO.out w10.drew HB10.out.drew HS.out)
    have H12 := (show Hid _ from fun (w9 : World) (S9 : Nat → Prop) (y0 y1 y3 : Value) (hb : Below w10.drew.heap.size w10.drew w9) (hd : BLies w9 S9 d y0 y1 y3) => eqBnf_any d _ _ _ y0 y1 y3 w9 (BLies.still D10.out (((Below.refl _ _).drew).trans hb)) hd)
    go_wp2_with fail
    go_region_with (first
      | (go_at_call 12; refine Calls.mono (H12.out _ _ _ _ _ hb11 D11) ?_; rintro e w12 ⟨rfl, hb12⟩)
      | (go_at_call 9; refine Calls.mono H10.out ?_; rintro e w11 ⟨y0, y1, y3, rfl, hb11, D11⟩; obtain ⟨Z0, Z1, Z2, Z3⟩ := Four.still HX10.out (Below.trans ((Below.refl _ _).drew) hb11)))
    all_goals
      have HD12 := (show Hid _ from (((Below.refl w10.heap.size w10).drew).trans hb11).trans (hb12.mono hb11.size))
      have HB12 := (show Hid _ from bel_trans HB10.out HD12.out)
      have HL12 := (show Hid _ from bel_trans HL10.out HD12.out)
      have HY12 := (show Hid _ from Box2.still HY10.out HD12.out)
      have E12 := (show Hid _ from TLies.still E10.out HD12.out)
      clear T0 T1 T2 T3 U0 U1 X0 X1 X2 X3 Z0 Z1 Z2 Z3 hb11 hb12 D11 H10 H12
      obtain ⟨_, U0, U1⟩ := TH.out _ HL12.out
      obtain ⟨⟨Y0, Y1⟩, _⟩ := Box2.cells HY12.out
      have H13 := (show Hid _ from HTT.out w12.drew HB12.out.drew HST.out)
      have H14 := (show Hid _ from fun (w9 : World) (S9 : Nat → Prop) (y0 y1 : Value) (hb : Below w12.drew.heap.size w12.drew w9) (hd : TLies w9 S9 t y0 y1) => eqTable_any t _ _ y0 y1 w9 (TLies.still E12.out (((Below.refl _ _).drew).trans hb)) hd)
      go_wp2_with fail
      go_region_with (first
        | (go_at_call 13; refine Calls.mono (H14.out _ _ _ _ hb13 E13) ?_; rintro e w14 ⟨rfl, hb14⟩)
        | (go_at_call 10; refine Calls.mono H13.out ?_; rintro e w13 ⟨z0, z1, rfl, hb13, E13⟩; obtain ⟨⟨Z0, Z1⟩, _⟩ := (Box2.still HY12.out (Below.trans ((Below.refl _ _).drew) hb13)).cells))
      all_goals
        have HB14 := (show Hid _ from bel_trans HB12.out ((((Below.refl w12.heap.size w12).drew).trans hb13).trans (hb14.mono hb13.size)))
        clear hb13 hb14 E13 H13 H14
        go_wp2_with fail
        go_ret
        exact ⟨rfl, HB14.out⟩
end Go.Proofs.Ytflhfimgeladaaa
