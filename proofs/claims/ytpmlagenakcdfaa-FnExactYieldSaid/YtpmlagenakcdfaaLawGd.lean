import Derived.Test.YtpmlagenakcdfaaDn
import Derived.Test.YtpmlagenakcdfaaTo3
import Derived.Test.YtpmlagenakcdfaaEq
/-! The law FnExactGood, walked. -/
namespace Go.Proofs.Ytpmlagenakcdfaa
open Go.RowKit Go.Deep
set_option linter.unusedVariables false
set_option maxRecDepth 100000
set_option linter.unusedSimpArgs false

theorem Ints.lt' {w : World} {S : Nat → Prop} {l : List Int} {v : Value} (h : Ints w S l v) : Ints w (fun b => b < w.heap.size) l v := by
  obtain ⟨a, cap, b, off, hv, hc, hm, ha, hcell⟩ := h
  exact ⟨a, cap, b, off, hv, hc, hm, fun h0 => ⟨(ha h0).1, lt_of_cell (hcell 0 h0)⟩, hcell⟩
theorem Tms.lt' {w : World} {S : Nat → Prop} {l : List Tm} {v : Value} (h : Tms w S l v) : Tms w (fun b => b < w.heap.size) l v := by
  obtain ⟨a, cap, b, off, hv, hc, hm, ha, hcell⟩ := h
  exact ⟨a, cap, b, off, hv, hc, hm, fun h0 => ⟨(ha h0).1, lt_of_cell (hcell 0 h0).1⟩, hcell⟩
theorem Strs.lt' {w : World} {S : Nat → Prop} {l : List ByteArray} {v : Value} (h : Strs w S l v) : Strs w (fun b => b < w.heap.size) l v := by
  obtain ⟨a, cap, b, off, hv, hc, hm, ha, hcell⟩ := h
  exact ⟨a, cap, b, off, hv, hc, hm, fun h0 => ⟨(ha h0).1, lt_of_cell (hcell 0 h0).1⟩, hcell⟩
theorem Pds.lt' {w : World} {S : Nat → Prop} {l : List Pd} {v : Value} (h : Pds w S l v) : Pds w (fun b => b < w.heap.size) l v := by
  obtain ⟨a, cap, b, off, sv, hv, hc, hm, ha, hcell, hr⟩ := h
  exact ⟨a, cap, b, off, sv, hv, hc, hm, fun h0 => ⟨(ha h0).1, lt_of_cell (hcell 0 h0).1⟩, hcell, fun i hi => (hr i hi).lt'⟩
theorem BLies.lt' {w : World} {S : Nat → Prop} {d : Bn} {v0 v1 v3 : Value} (h : BLies w S d v0 v1 v3) : BLies w (fun b => b < w.heap.size) d v0 v1 v3 := ⟨h.terms.lt', h.nons.lt', h.prods.lt'⟩
set_option maxHeartbeats 12800000 in
theorem lawGd {S : Nat → Prop} (d : Bn) (L : List Int) (v0 v1 v3 vd : Value) (non : Int) (w : World) (h : BLies w S d v0 v1 v3) (hd : Ints w S L vd) :
    Calls Try.prog 4 #[.agg #[v0, v1, .int .i64 d.own, v3], .int .i64 non, vd] w fun e w' => e = .returned (.bool true) ∧ Below w.heap.size w w' := by
  have HTO := (show Hid _ from fun w' (hb : Below w.heap.size w w') (hs : d.Small) => toBnf_any d v0 v1 v3 w' (h.still hb) hs)
  have HTI := (show Hid _ from fun w' (hb : Below w.heap.size w w') (hs : L.length ≤ 1048576) => toInts_any L vd w' (hd.still hb) hs)
  have HZB := (show Hid _ from fun w' (hb : Below w.heap.size w w') => szBnf_any d v0 v1 v3 w' 1048576 (h.still hb) (Nat.le_refl _))
  obtain ⟨a0, p0, a1, p1, a3, p3, rfl, rfl, rfl⟩ := h.form
  obtain ⟨ad, cd, rfl, hdm⟩ := hd.form
  unfold maxLen at hdm
  clear h hd
  have hb0 := bel_alloc w (.cells #[.slice a0 d.terms.length p0, .slice a1 d.nons.length p1, .int .i64 d.own, .slice a3 d.prods.length p3] 26)
  have HB0 := (show Hid _ from hb0)
  have TH := (show Hid _ from fun (w' : World) (hb : Below (w.alloc (.cells #[.slice a0 d.terms.length p0, .slice a1 d.nons.length p1, .int .i64 d.own, .slice a3 d.prods.length p3] 26)).heap.size (w.alloc (.cells #[.slice a0 d.terms.length p0, .slice a1 d.nons.length p1, .int .i64 d.own, .slice a3 d.prods.length p3] 26)) w') => (four_box w (.slice a0 d.terms.length p0) (.slice a1 d.nons.length p1) (.int .i64 d.own) (.slice a3 d.prods.length p3) 26).still hb)
  have HSP := (show Hid _ from fun (S1 S2 : Nat → Prop) (y0 y1 y3 z : Value) (w' : World) (h1 : BLies w' S1 d y0 y1 y3) (h2 : Ints w' S2 L z) => sGood d L y0 y1 y3 z non w' h1.lt' h2.lt' (fun b hb => hb))
  have HIM := (show Hid _ from fun (S1 S2 : Nat → Prop) (y0 y1 y3 z : Value) (w' : World) (h1 : BLies w' S1 d y0 y1 y3) (h2 : Ints w' S2 L z) => iGood d L y0 y1 y3 z non w' h1.lt' h2.lt' (fun b hb => hb))
  generalize goodR d non L = RR at *
  obtain ⟨GB, GC⟩ := RR
  simp only at HSP HIM
  have hBB : (GB != GB) = false := by simp
  have hCC : (GC != GC) = false := by simp
  obtain ⟨T0, T1, T2, T3⟩ := TH.out _ (Below.refl _ _)
  by_cases hlen : L.length ≤ 1048576
  case neg =>
    have i0 : decide ((L.length : Int) > 1048576) = true := by simp; omega
    clear hb0
    go_enter Try.func4, Try.ntmps4
    go_wp2_with fail
    go_ret
    exact ⟨rfl, HB0.out⟩
  have i0 : decide ((L.length : Int) > 1048576) = false := by simp; omega
  have HC0 := (show Hid _ from HZB.out _ hb0)
  clear hb0
  go_enter Try.func4, Try.ntmps4
  go_wp2_with fail
  refine Calls.mono HC0.out ?_
  rintro e w1 ⟨rfl | ⟨m1, rfl, hm1, hsm1⟩, hb1⟩
  · have hbw := bel_trans HB0.out hb1
    go_wp2_with fail
    go_ret
    exact ⟨rfl, hbw⟩
  have HS := (show Hid _ from hsm1)
  have HB1 := (show Hid _ from bel_trans HB0.out hb1)
  have HL1 := (show Hid _ from hb1)
  clear T0 T1 T2 T3 hsm1 HC0 hb1 HZB
  obtain ⟨T0, T1, T2, T3⟩ := TH.out _ HL1.out
  go_wp2_with fail
  refine Calls.mono (HTO.out _ HB1.out HS.out) ?_
  rintro e w2 ⟨u0, u1, u3, rfl, hb2, D2⟩
  have HB2 := (show Hid _ from bel_trans HB1.out hb2)
  have HL2 := (show Hid _ from bel_trans HL1.out hb2)
  have HD2 := (show Hid _ from D2)
  clear T0 T1 T2 T3 hb2 D2
  go_wp2_with fail
  refine Calls.mono (HTI.out _ HB2.out hlen) ?_
  rintro e w3 ⟨rfl, hb3, R3⟩
  have HC3 := (show Hid _ from HSP.out _ _ _ _ _ _ w3 (HD2.out.still hb3) (R3.ints (by unfold maxLen; omega)))
  have HB3 := (show Hid _ from bel_trans HB2.out hb3)
  have HL3 := (show Hid _ from bel_trans HL2.out hb3)
  clear hb3 R3 HD2
  go_wp2_with fail
  refine Calls.mono HC3.out ?_
  rintro e w4 ⟨rfl, hb4⟩
  have HB4 := (show Hid _ from bel_trans HB3.out hb4)
  have HL4 := (show Hid _ from bel_trans HL3.out hb4)
  clear hb4 HC3
  obtain ⟨T0, T1, T2, T3⟩ := TH.out _ HL4.out
  go_wp2_with fail
  refine Calls.mono (HTO.out _ HB4.out HS.out) ?_
  rintro e w5 ⟨y0, y1, y3, rfl, hb5, D5⟩
  obtain ⟨e0, f0, e1, f1, e3, f3, rfl, rfl, rfl⟩ := D5.form
  have hba := bel_alloc w5 (.cells #[.slice e0 d.terms.length f0, .slice e1 d.nons.length f1, .int .i64 d.own, .slice e3 d.prods.length f3] 34)
  have HB6 := (show Hid _ from bel_trans (bel_trans HB4.out hb5) hba)
  have HL6 := (show Hid _ from bel_trans (bel_trans HL4.out hb5) hba)
  have HD6 := (show Hid _ from D5.still hba)
  have XH := (show Hid _ from fun (w' : World) (hb : Below (w5.alloc (.cells #[.slice e0 d.terms.length f0, .slice e1 d.nons.length f1, .int .i64 d.own, .slice e3 d.prods.length f3] 34)).heap.size (w5.alloc (.cells #[.slice e0 d.terms.length f0, .slice e1 d.nons.length f1, .int .i64 d.own, .slice e3 d.prods.length f3] 34)) w') => (four_box w5 (.slice e0 d.terms.length f0) (.slice e1 d.nons.length f1) (.int .i64 d.own) (.slice e3 d.prods.length f3) 34).still hb)
  clear T0 T1 T2 T3 hb5 D5 hba
  go_wp2_with fail
  generalize w5.alloc (.cells #[.slice e0 d.terms.length f0, .slice e1 d.nons.length f1, .int .i64 d.own, .slice e3 d.prods.length f3] 34) = w6 at *
  refine Calls.mono (HTI.out _ HB6.out hlen) ?_
  rintro e w7 ⟨rfl, hb7, R7⟩
  have HI7 := (show Hid _ from R7.ints (by unfold maxLen; omega))
  have HD7 := (show Hid _ from HD6.out.still hb7)
  have HX7 := (show Hid _ from hb7)
  have HB7 := (show Hid _ from bel_trans HB6.out hb7)
  have HL7 := (show Hid _ from bel_trans HL6.out hb7)
  have HC7 := (show Hid _ from HIM.out _ _ _ _ _ _ w7 HD7.out HI7.out)
  clear hb7 R7 HD6
  obtain ⟨x0, x1, x2, x3⟩ := XH.out _ HX7.out
  go_wp2_with fail
  refine Calls.mono HC7.out ?_
  rintro e w8 ⟨rfl, hb8⟩
  have HB8 := (show Hid _ from bel_trans HB7.out hb8)
  have HL8 := (show Hid _ from bel_trans HL7.out hb8)
  have HX8 := (show Hid _ from bel_trans HX7.out hb8)
  have HD8 := (show Hid _ from HD7.out.still hb8)
  have HI8 := (show Hid _ from Ints.still (l := L) HI7.out hb8)
  clear x0 x1 x2 x3 HC7 hb8 HD7 HI7
  obtain ⟨x0, x1, x2, x3⟩ := XH.out _ HX8.out
  obtain ⟨T0, T1, T2, T3⟩ := TH.out _ HL8.out
  have H13 := (show Hid _ from HTO.out w8.drew HB8.out.drew HS.out)
  have H14 := (show Hid _ from fun (w' : World) (S9 : Nat → Prop) (q0 q1 q3 : Value) (hb : Below w8.drew.heap.size w8.drew w') (hd : BLies w' S9 d q0 q1 q3) => eqBnf_any d _ _ _ q0 q1 q3 w' (BLies.still HD8.out (((Below.refl _ _).drew).trans hb)) hd)
  have HXC := (show Hid _ from fun (w' : World) (hb : Below w8.heap.size w8 w') => XH.out w' (bel_trans HX8.out hb))
  go_wp2_with fail
  go_cut [54] from 50 to 53 (fun v wx => v = .bool false ∧ Hid (Below w8.heap.size w8 wx))
  case first =>
    go_region_with (first
      | (go_at_call 12; refine Calls.mono (H14.out _ _ _ _ _ hb13 E13) ?_; rintro e w14 ⟨rfl, hb14⟩)
      | (go_at_call 8; refine Calls.mono H13.out ?_; rintro e w13 ⟨q0, q1, q3, rfl, hb13, E13⟩; obtain ⟨Z0, Z1, Z2, Z3⟩ := HXC.out _ (Below.trans ((Below.refl _ _).drew) hb13)))
    all_goals
      go_wp2_with fail
      go_meet
      exact ⟨rfl, bel_trans (((Below.refl w8.heap.size w8).drew).trans hb13) hb14⟩
  case rest =>
    obtain ⟨w9, rfl⟩ : ∃ w9, w9 = wc := ⟨_, rfl⟩
    obtain ⟨rfl, HC⟩ := hcut
    have HB9 := (show Hid _ from bel_trans HB8.out HC.out)
    have HI9 := (show Hid _ from Ints.still (l := L) HI8.out HC.out)
    clear x0 x1 x2 x3 T0 T1 T2 T3 H13 H14 HXC HC HD8 HI8
    go_wp2_with fail
    refine Calls.mono (HTI.out _ HB9.out hlen) ?_
    rintro e w10 ⟨rfl, hb10, R10⟩
    have HB10 := (show Hid _ from bel_trans HB9.out hb10)
    have HE := (show Hid _ from eqInts_any L _ _ w10 (Ints.still (l := L) HI9.out hb10) (R10.ints (by unfold maxLen; omega)))
    clear hb10 R10 HI9
    go_wp2_with fail
    refine Calls.mono HE.out ?_
    rintro e w11 ⟨rfl, hb11⟩
    have HB11 := (show Hid _ from bel_trans HB10.out hb11)
    clear hb11 HE
    go_wp2_with fail
    go_ret
    exact ⟨rfl, HB11.out⟩
end Go.Proofs.Ytpmlagenakcdfaa
