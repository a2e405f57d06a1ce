import Derived.Test.YtilahbfcobhjeaaMk
import Derived.Deep.CutRange
/-! The law FnExactRunProgram, walked. -/
namespace Go.Proofs.Ytilahbfcobhjeaa
open Go.RowKit Go.Deep
set_option linter.unusedVariables false
set_option maxRecDepth 100000
set_option linter.unusedSimpArgs false

/-- What lies there ahead of the marks. -/
structure LSr (w : World) (l : List DIns) (L R1 : List Int) (bx be b0 c0 : Nat) (p0 g0 : Value) (Z : World) : Prop where
  x0 : XO Z bx l
  x1 : OwnI Z be L (.slice (some ⟨be, 0, none⟩) L.length L.length)
  p0 : OwnI Z b0 R1 p0
  g0 : OwnI Z c0 R1 g0
  bel : Below w.heap.size w Z
theorem LSr.still {w : World} {l : List DIns} {L R1 : List Int} {bx be b0 c0 : Nat} {p0 g0 : Value} {Z Z' : World} (h : LSr w l L R1 bx be b0 c0 p0 g0 Z) (hb : Below Z.heap.size Z Z') : LSr w l L R1 bx be b0 c0 p0 g0 Z' :=
  ⟨h.x0.still hb, h.x1.still hb, h.p0.still hb, h.g0.still hb, bel_trans h.bel hb⟩
set_option maxHeartbeats 12800000 in
theorem lawRp {S S' : Nat → Prop} (l : List DIns) (L : List Int) (fuel : Int) (vl vd : Value) (w : World) (hl : InsR w S l vl) (hd : Ints w S' L vd) :
    Calls Try.prog 4 #[vl, vd, .int .i64 fuel] w fun e w' => e = .returned (.bool true) ∧ Below w.heap.size w w' := by
  have HSZ := (show Hid _ from szInsR_any l vl w 1048576 hl (Nat.le_refl _))
  have HTX := (show Hid _ from fun w' (hb : Below w.heap.size w w') (hs : InsR.Sm l) => toX_any l vl w' (hl.still hb) hs)
  have HTI := (show Hid _ from fun w' (hb : Below w.heap.size w w') (hs : L.length ≤ 1048576) => toI_any L vd w' (hd.still hb) hs)
  have HSP := (show Hid _ from fun (S1 S2 : Nat → Prop) (y z : Value) (w' : World) (h1 : InsR w' S1 l y) (h2 : Ints w' S2 L z) => sRun13 l L fuel y z w' h1 h2)
  have HIM := (show Hid _ from fun (S1 S2 : Nat → Prop) (y z : Value) (w' : World) (h1 : InsR w' S1 l y) (h2 : Ints w' S2 L z) => iRun15 l L fuel y z w' h1 h2)
  have hRl := reR_told l L fuel
  generalize reR l L fuel = R at *
  obtain ⟨R1, C, P, T⟩ := R
  dsimp only at hRl
  have HRL := (show Hid _ from hRl); clear hRl
  have hneC : ((C : Int) != C) = false := by simp
  have hneP : ((P : Int) != P) = false := by simp
  have hneT : ((T : Int) != T) = false := by simp
  obtain ⟨ae, ce, rfl, hem⟩ := hl.form
  obtain ⟨ad, cd, rfl, hdm⟩ := hd.form
  unfold maxLen at hdm hem
  clear hd hl
  by_cases hll : L.length ≤ 1048576
  case neg =>
    have i0 : decide ((L.length : Int) > 1048576) = true := by simp; omega
    go_enter Try.func4, Try.ntmps4
    go_wp2_with fail
    go_ret
    exact ⟨rfl, Below.refl _ _⟩
  have i0 : decide ((L.length : Int) > 1048576) = false := by simp; omega
  go_enter Try.func4, Try.ntmps4
  go_wp2_with fail
  refine Calls.mono HSZ.out ?_
  rintro e w2 ⟨hz, hb2⟩
  rcases hz with rfl | ⟨m1, rfl, _, hsm1⟩
  · go_wp2_with fail
    go_ret
    exact ⟨rfl, hb2⟩
  have HB2 := (show Hid _ from hb2); clear hb2
  have HSM := (show Hid _ from hsm1)
  have hln : l.length ≤ 1048576 := hsm1.1
  clear HSZ i0 hsm1
  go_wp2_with fail
  refine Calls.mono (HTX.out _ HB2.out HSM.out) ?_
  rintro e w3 ⟨bs, rfl, hb3, hW3, _, _⟩
  have HB3 := (show Hid _ from bel_trans HB2.out hb3); clear hb3
  have HO3 := (show Hid (XO w3 bs l) from hW3); clear hW3
  go_wp2_with fail
  refine Calls.mono (HTI.out _ HB3.out hll) ?_
  rintro e w4 ⟨bt, rfl, hb4, hW4, _, hlt4⟩
  have HB4 := (show Hid _ from bel_trans HB3.out hb4)
  have H5 := (show Hid _ from HSP.out _ _ _ _ w4 (XO.ins (XO.still HO3.out hb4)) (OwnI.ints hW4))
  have HS4 := (show Hid _ from hlt4)
  clear hb4 hW4 HO3 HSP hlt4
  go_wp2_with fail
  refine Calls.mono H5.out ?_
  rintro e w5 h5
  obtain ⟨q0, b0, rfl, hb5, o0, k0⟩ := h5.low bt (by
    obtain ⟨_, _, hb, _⟩ := h5
    have h1 := hb.size
    have h2 := HS4.out
    omega)
  obtain ⟨aq0, cq0, rfl, _⟩ := o0.form
  have HB5 := (show Hid _ from bel_trans HB4.out hb5)
  have HQ5 := (show Hid _ from (⟨o0, k0⟩ : _ ∧ _))
  clear h5 H5 hb5 o0 k0 HB2 HB3 HB4 HS4
  dsimp only
  go_wp2_with fail
  refine Calls.mono (HTX.out _ HB5.out HSM.out) ?_
  rintro e w6 ⟨bx, rfl, hb6, hW6, hge6, hlt6⟩
  have HX6 := (show Hid (XO w6 bx l ∧ w5.heap.size ≤ bx ∧ bx < w6.heap.size) from ⟨hW6, hge6, hlt6⟩)
  have HQ6 := (show Hid _ from (⟨HQ5.out.1.still hb6, HQ5.out.2⟩ : _ ∧ _))
  have HB6 := (show Hid _ from bel_trans HB5.out hb6)
  have HZ5 := (show Hid _ from HB5.out.size)
  clear hb6 hW6 HQ5 HB5 hge6 hlt6
  go_wp2_with fail
  refine Calls.mono (HTI.out _ HB6.out hll) ?_
  rintro e w8 ⟨be, rfl, hb8, hW8, hge8, hlt8⟩
  have HB8 := (show Hid _ from bel_trans HB6.out hb8)
  have HW8 := (show Hid (OwnI w8 be L (.slice (some ⟨be, 0, none⟩) L.length L.length) ∧ w6.heap.size ≤ be ∧ be < w8.heap.size) from ⟨hW8, hge8, hlt8⟩)
  have HQ8 := (show Hid _ from (⟨HQ6.out.1.still hb8, HQ6.out.2⟩ : _ ∧ _))
  have HX8 := (show Hid (XO w8 bx l ∧ w5.heap.size ≤ bx ∧ bx < w6.heap.size) from ⟨HX6.out.1.still hb8, HX6.out.2⟩)
  have H9 := (show Hid _ from HIM.out _ _ _ _ w8 (XO.ins HX8.out.1) (OwnI.ints hW8))
  clear hb8 hW8 HB6 HQ6 HX6 hge8 hlt8
  go_wp2_with fail
  refine Calls.mono H9.out ?_
  rintro e w9 h9
  obtain ⟨g0, c0, rfl, hb9, o0, k0⟩ := h9.high
  obtain ⟨ag0, cg0, rfl, _⟩ := o0.form
  have HL9 := (show Hid (LSr w l L R1 bx be b0 c0 (.slice aq0 R1.length cq0) (.slice ag0 R1.length cg0) w9) from ⟨HX8.out.1.still hb9, HW8.out.1.still hb9, HQ8.out.1.still hb9, o0, bel_trans HB8.out hb9⟩)
  have HN := (show Hid _ from (⟨HZ5.out, HX8.out.2.1, HX8.out.2.2, HQ8.out.2, HW8.out.2.1, HW8.out.2.2, k0, hb9.size⟩ : w.heap.size ≤ w5.heap.size ∧ w5.heap.size ≤ bx ∧ bx < w6.heap.size ∧ b0 < w5.heap.size ∧ w6.heap.size ≤ be ∧ be < w8.heap.size ∧ w8.heap.size ≤ c0 ∧ w8.heap.size ≤ w9.heap.size))
  clear hb9 o0 k0 h9 H9 HB8 HW8 HQ8 HX8 HZ5
  dsimp only
  go_wp2_with fail
  refine Calls.mono (eqInts_any R1 _ _ _ HL9.out.g0.ints HL9.out.p0.ints) ?_
  rintro e w11 ⟨rfl, hb11⟩
  have HL11 := (show Hid _ from HL9.out.still hb11)
  have HZ11 := (show Hid _ from hb11.size)
  clear hb11
  go_wp2_with fail
  refine Calls.mono (HTX.out _ HL11.out.bel HSM.out) ?_
  rintro e w12 ⟨by1, rfl, hb12, hW12, _, _⟩
  have HL12 := (show Hid _ from HL11.out.still hb12)
  have HZ12 := (show Hid _ from Nat.le_trans HZ11.out hb12.size)
  have HW12 := (show Hid (XO w12 by1 l) from hW12)
  clear hW12 hb12 HL11 HZ11 HL9
  go_wp2_with fail
  refine Calls.mono (eqInsR_any l _ _ w12 HL12.out.x0.ins (XO.ins HW12.out)) ?_
  rintro e w13 ⟨rfl, hb13⟩
  have HL13 := (show Hid _ from HL12.out.still hb13)
  have HZ13 := (show Hid _ from Nat.le_trans HZ12.out hb13.size)
  clear hb13 HL12 HZ12 HW12
  go_wp2_with fail
  refine Calls.mono (HTI.out _ HL13.out.bel hll) ?_
  rintro e w14 ⟨by2, rfl, hb14, hW14, _, _⟩
  have HL14 := (show Hid _ from HL13.out.still hb14)
  have HZ14 := (show Hid _ from Nat.le_trans HZ13.out hb14.size)
  have HW14 := (show Hid _ from OwnI.ints hW14)
  clear hW14 hb14 HL13 HZ13
  go_wp2_with fail
  refine Calls.mono (eqInts_any L _ _ w14 HL14.out.x1.ints HW14.out) ?_
  rintro e w15 ⟨rfl, hb15⟩
  have HL15 := (show Hid _ from HL14.out.still hb15)
  have HZ15 := (show Hid _ from Nat.le_trans HZ14.out hb15.size)
  clear hb15 HL14 HZ14 HW14
  go_wp2_with fail
  refine Calls.mono (markIns_any l.length bx 1 w15 HL15.out.x0.row hln (by omega)) ?_
  rintro e w16 ⟨rfl, ho16⟩
  have HE16 := (show Hid _ from HL15.out.x1.out ho16 (by have := HN.out; omega))
  have HP16 := (show Hid _ from (⟨HL15.out.p0.out ho16 (by have := HN.out; omega), HL15.out.g0.out ho16 (by have := HN.out; omega)⟩ : _ ∧ _))
  have HB16 := (show Hid _ from (⟨out_below HL15.out.bel ho16 (by have := HN.out; omega) HL15.out.bel.size, Nat.le_trans HZ15.out ho16.2.2.2.1⟩ : Below w.heap.size w w16 ∧ w9.heap.size ≤ w16.heap.size))
  clear ho16 HL15 HZ15
  go_wp2_with fail
  refine Calls.mono (markInts_any L be (1 + l.length * 3) _ w16 HE16.out (by omega)) ?_
  rintro e w17 ⟨rfl, ho17, _⟩
  have HP17 := (show Hid _ from (⟨HP16.out.1.out ho17 (by have := HN.out; omega), HP16.out.2.out ho17 (by have := HN.out; omega)⟩ : _ ∧ _))
  have HB17 := (show Hid _ from (⟨out_below HB16.out.1 ho17 (by have := HN.out; omega) HB16.out.1.size, Nat.le_trans HB16.out.2 ho17.2.2.2.1⟩ : Below w.heap.size w w17 ∧ w9.heap.size ≤ w17.heap.size))
  clear ho17 HP16 HB16 HE16
  generalize hK : 1 + l.length * 3 + L.length = K at *
  have hK0 : ¬ ((K : Int) < 0) := by omega
  clear hK
  go_wp2_with fail
  refine Calls.mono (eqInts_any R1 _ _ _ HP17.out.2.ints HP17.out.1.ints) ?_
  rintro e w18 ⟨rfl, hb18⟩
  have HP18 := (show Hid _ from (⟨HP17.out.1.still hb18, HP17.out.2.still hb18, bel_trans HB17.out.1 hb18⟩ : OwnI w18 b0 R1 (.slice aq0 R1.length cq0) ∧ OwnI w18 c0 R1 (.slice ag0 R1.length cg0) ∧ Below w.heap.size w w18))
  clear hb18 HP17 HB17
  have hRl := HRL.out
  have HM0 := (show Hid _ from markInts_any R1 c0 1 _ w18 HP18.out.2.1 (by omega))
  have HH0 := (show Hid (∀ (Z : World), OwnI Z c0 (cnt 1 R1.length) (.slice ag0 R1.length cg0) → Calls Try.prog 19 #[.slice ag0 R1.length cg0, .int .i64 1] Z fun e w' => e = .returned (.int .i64 (1 + R1.length : Nat)) ∧ Below Z.heap.size Z w') from fun Z hZ => heldInts_any c0 1 R1.length _ Z hZ (by omega))
  generalize hN1 : 1 + R1.length = N1 at *
  have hN10 : ¬ ((N1 : Int) < 0) := by omega
  have hN1n : ((N1 : Int) != N1) = false := by simp
  have hN1' : N1 ≤ 1048577 := by omega
  clear hN1 hRl
  go_wp2_with fail
  refine Calls.mono HM0.out ?_
  rintro e w20 ⟨rfl, ho20, hg20⟩
  have HP20 := (show Hid _ from (⟨HP18.out.1.out ho20 (by have := HN.out; omega), hg20, out_below HP18.out.2.2 ho20 (by have := HN.out; omega) HP18.out.2.2.size⟩ : OwnI w20 b0 R1 (.slice aq0 R1.length cq0) ∧ OwnI w20 c0 (cnt 1 R1.length) (.slice ag0 R1.length cg0) ∧ Below w.heap.size w w20))
  clear ho20 hg20 HP18 HM0
  go_wp2_with fail
  refine Calls.mono (HH0.out _ HP20.out.2.1) ?_
  rintro e w22 ⟨rfl, hb22⟩
  have HX22 := (show Hid _ from hb22); clear hb22
  go_wp2_with fail
  refine Calls.mono (HTX.out _ (bel_trans HP20.out.2.2 HX22.out) HSM.out) ?_
  rintro e w23 ⟨bz1, rfl, hb23, hW23, _, _⟩
  have HX23 := (show Hid _ from bel_trans HX22.out hb23)
  have HO23 := (show Hid (XO w23 bz1 l) from hW23); clear hW23 hb23 HX22
  go_wp2_with fail
  refine Calls.mono (HTI.out _ (bel_trans HP20.out.2.2 HX23.out) hll) ?_
  rintro e w24 ⟨bz2, rfl, hb24, hW24, _, _⟩
  have HX24 := (show Hid _ from bel_trans HX23.out hb24)
  have H25 := (show Hid _ from HIM.out _ _ _ _ w24 (XO.ins (XO.still HO23.out hb24)) (OwnI.ints hW24))
  clear hb24 hW24 HO23 HX23
  go_wp2_with fail
  refine Calls.mono H25.out ?_
  rintro e w25 h25
  obtain ⟨z0, s0, rfl, hb25, o0, _⟩ := h25.high
  obtain ⟨_, _, rfl, _⟩ := o0.form
  have HX25 := (show Hid _ from bel_trans HX24.out hb25)
  have HO25 := (show Hid _ from o0)
  clear o0 hb25 h25 H25 HX24
  dsimp only
  go_wp2_with fail
  refine Calls.mono (eqInts_any R1 _ _ _ (OwnI.ints HO25.out) (OwnI.ints (OwnI.still HP20.out.1 HX25.out))) ?_
  rintro e w27 ⟨rfl, hb27⟩
  have HX27 := (show Hid _ from bel_trans HX25.out hb27); clear hb27 HX25 HO25
  go_wp2_with fail
  refine Calls.mono (HH0.out _ (OwnI.still HP20.out.2.1 HX27.out)) ?_
  rintro e w29 ⟨rfl, hb29⟩
  have HX29 := (show Hid _ from bel_trans HP20.out.2.2 (bel_trans HX27.out hb29)); clear hb29 HX27
  go_wp2_with fail
  go_ret
  exact ⟨rfl, HX29.out⟩
end Go.Proofs.Ytilahbfcobhjeaa
