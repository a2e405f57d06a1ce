import Derived.Test.YtaimlmjgicmbeaaXa
import Derived.Test.YtaimlmjgicmbeaaLawGd
import Derived.Test.YtaimlmjgicmbeaaMk4
import Derived.Deep.CutRange
/-! The law FnExactDownwards, walked. -/
namespace Go.Proofs.Ytaimlmjgicmbeaa
open Go.RowKit Go.Deep
set_option linter.unusedVariables false
set_option maxRecDepth 100000
set_option linter.unusedSimpArgs false

theorem iDwS {S : Nat → Prop} (d : Bn) (U : List Int) (v0 v1 v3 vd : Value) (non : Int) (w : World) (h : BLies w S d v0 v1 v3) (hs : d.Small) (hd : Ints w S U vd) (hU : U.length ≤ 1048576) (hS : ∀ b, S b → b < w.heap.size) :
    Calls Try.prog 16 #[.agg #[v0, v1, .int .i64 d.own, v3], .int .i64 non, vd] w fun e w' => YAns (dwS d non U) w e w' := by
  rw [← dw_ans]
  exact iDw d U v0 v1 v3 vd non w h hs hd hU hS
theorem dwS_len (d : Bn) (non : Int) (U : List Int) : (dwS d non U).1.length ≤ 4000 := by
  rw [← dw_ans]
  unfold dwI
  rw [List.length_reverse]
  exact upR_len _ _ _
/-- What lies there ahead of the marks. -/
structure LSd (w : World) (d : Bn) (L R1 : List Int) (A X lo hi bx b0 c0 : Nat) (va0 va1 va3 vx0 vx1 vx3 p0 g0 : Value) (Z : World) : Prop where
  fa : Four Z A va0 va1 (.int .i64 d.own) va3
  fx : Four Z X vx0 vx1 (.int .i64 d.own) vx3
  x0 : BOwn Z (fun b => lo ≤ b ∧ b < hi) d vx0 vx1 vx3
  x1 : OwnI Z bx L (.slice (some ⟨bx, 0, none⟩) L.length L.length)
  p0 : OwnI Z b0 R1 p0
  g0 : OwnI Z c0 R1 g0
  bel : Below w.heap.size w Z
theorem LSd.still {w : World} {d : Bn} {L R1 : List Int} {A X lo hi bx b0 c0 : Nat} {va0 va1 va3 vx0 vx1 vx3 p0 g0 : Value} {Z Z' : World} (h : LSd w d L R1 A X lo hi bx b0 c0 va0 va1 va3 vx0 vx1 vx3 p0 g0 Z) (hb : Below Z.heap.size Z Z') : LSd w d L R1 A X lo hi bx b0 c0 va0 va1 va3 vx0 vx1 vx3 p0 g0 Z' :=
  ⟨h.fa.still hb, h.fx.still hb, h.x0.still hb, h.x1.still hb, h.p0.still hb, h.g0.still hb, bel_trans h.bel hb⟩
theorem out_belowD {w Z Z' : World} {lo hi B : Nat} (h : Below B w Z) (ho : Out lo hi Z Z') (hB : B ≤ lo) (hz : B ≤ Z.heap.size) : Below B w Z' :=
  ⟨ho.1.trans h.os, ho.2.1.trans h.tape, ho.2.2.1.trans h.output, Nat.le_trans h.size ho.2.2.2.1, fun k hk => (ho.2.2.2.2 k (by omega) (by omega)).trans (h.block k hk)⟩
set_option maxHeartbeats 12800000 in
theorem lawDw {S : Nat → Prop} (d : Bn) (L : List Int) (v0 v1 v3 vd : Value) (non : Int) (w : World) (h : BLies w S d v0 v1 v3) (hd : Ints w S L vd) :
    Calls Try.prog 4 #[.agg #[v0, v1, .int .i64 d.own, v3], .int .i64 non, vd] w fun e w' => e = .returned (.bool true) ∧ Below w.heap.size w w' := by
  have hb0 := bel_alloc w (.cells #[v0, v1, .int .i64 d.own, v3] 26)
  have HSZ := (show Hid _ from szBnf_any d v0 v1 v3 _ 1048576 (h.still hb0) (Nat.le_refl _))
  have HTO := (show Hid _ from fun w' (hb : Below w.heap.size w w') (hs : d.Small) => toBnfO_any d v0 v1 v3 w' (h.still hb) hs)
  have HTI := (show Hid _ from fun w' (hb : Below w.heap.size w w') (hs : L.length ≤ 1048576) => toInts_any L vd w' (hd.still hb) hs)
  have HSP := (show Hid _ from fun (S1 S2 : Nat → Prop) (y0 y1 y3 z : Value) (w' : World) (h1 : BLies w' S1 d y0 y1 y3) (h2 : Ints w' S2 L z) => sDw d L y0 y1 y3 z non w' h1.lt' h2.lt' (fun b hb => hb))
  have HIM := (show Hid _ from fun (hs : d.Small) (hu : L.length ≤ 1048576) (S1 S2 : Nat → Prop) (y0 y1 y3 z : Value) (w' : World) (h1 : BLies w' S1 d y0 y1 y3) (h2 : Ints w' S2 L z) => iDwS d L y0 y1 y3 z non w' h1.lt' hs h2.lt' hu (fun b hb => hb))
  have hRl := dwS_len d non L
  generalize dwS d non L = R at *
  obtain ⟨R1, C⟩ := R
  dsimp only at hRl
  have hneC : ((C : Int) != C) = false := by simp
  obtain ⟨a0, p0, a1, p1, a3, p3, rfl, rfl, rfl⟩ := h.form
  obtain ⟨ad, cd, rfl, hdm⟩ := hd.form
  unfold maxLen at hdm
  clear h hd
  have TH := (show Hid _ from four_box w (.slice a0 d.terms.length p0) (.slice a1 d.nons.length p1) (.int .i64 d.own) (.slice a3 d.prods.length p3) 26)
  obtain ⟨T0, T1, T2, T3⟩ := Four.still TH.out (Below.refl _ _)
  by_cases hll : L.length ≤ 1048576
  case neg =>
    have i0 : decide ((L.length : Int) > 1048576) = true := by simp; omega
    have HB0 := (show Hid _ from hb0)
    clear hb0
    go_enter Try.func4, Try.ntmps4
    go_wp2_with fail
    go_ret
    exact ⟨rfl, HB0.out⟩
  have i0 : decide ((L.length : Int) > 1048576) = false := by simp; omega
  go_enter Try.func4, Try.ntmps4
  go_wp2_with fail
  refine Calls.mono HSZ.out ?_
  rintro e w2 ⟨rfl | ⟨m1, rfl, hm1, hsm1⟩, hb1⟩
  · have hbw := bel_trans hb0 hb1
    go_wp2_with fail
    go_ret
    exact ⟨rfl, hbw⟩
  have HB2 := (show Hid _ from (⟨bel_trans hb0 hb1, hb1⟩ : _ ∧ _))
  have HS := (show Hid _ from hsm1); clear hsm1 T0 T1 T2 T3 hb1 HSZ hb0 i0
  obtain ⟨T0, T1, T2, T3⟩ := Four.still TH.out HB2.out.2
  have hlm : L.length ≤ maxLen := by unfold maxLen; omega
  have HLM := (show Hid _ from hlm); clear hlm
  go_wp2_with fail
  refine Calls.mono (HTO.out _ HB2.out.1 HS.out) ?_
  rintro e w3 ⟨u0, u1, u3, rfl, hb3, hB3⟩
  obtain ⟨_, _, _, _, _, _, rfl, rfl, rfl⟩ := hB3.lies.form
  have HB3 := (show Hid _ from (⟨bel_trans HB2.out.1 hb3, bel_trans HB2.out.2 hb3⟩ : _ ∧ _)); clear hb3
  have HO3 := (show Hid _ from hB3); clear hB3 T0 T1 T2 T3
  go_wp2_with fail
  refine Calls.mono (HTI.out _ HB3.out.1 hll) ?_
  rintro e w4 ⟨rfl, hb4, hW4⟩
  have HB4 := (show Hid _ from (⟨bel_trans HB3.out.1 hb4, bel_trans HB3.out.2 hb4⟩ : _ ∧ _))
  have H5 := (show Hid _ from HSP.out _ _ _ _ _ _ w4 (BLies.still (BOwn.lies HO3.out) hb4) (OwnI.ints (IRow.own hW4 HLM.out)))
  clear hb4 hW4 HO3 HSP
  go_wp2_with fail
  refine Calls.mono H5.out ?_
  rintro e w5 h5
  obtain ⟨q0, b0, rfl, hb5, o0, k0⟩ := h5.low w.heap.size (by
    obtain ⟨_, _, _, hb, _⟩ := h5
    have h1 := hb.size
    have h2 := HB4.out.2.size
    simp at h2
    omega)
  obtain ⟨aq0, cq0, rfl, _⟩ := o0.form
  have HB5 := (show Hid _ from (⟨bel_trans HB4.out.1 hb5, bel_trans HB4.out.2 hb5⟩ : _ ∧ _))
  have HQ5 := (show Hid _ from (⟨o0, k0⟩ : _ ∧ _))
  clear h5 H5 hb5 o0 k0 HB2 HB3 HB4
  obtain ⟨T0, T1, T2, T3⟩ := Four.still TH.out HB5.out.2
  dsimp only
  go_wp2_with fail
  refine Calls.mono (HTO.out _ HB5.out.1 HS.out) ?_
  rintro e w6 ⟨x0, x1, x3, rfl, hb6, hB6⟩
  obtain ⟨e0, f0, e1, f1, e3, f3, rfl, rfl, rfl⟩ := hB6.lies.form
  have hba := bel_alloc w6 (.cells #[.slice e0 d.terms.length f0, .slice e1 d.nons.length f1, .int .i64 d.own, .slice e3 d.prods.length f3] 34)
  have hb67 := bel_trans hb6 hba
  have HFX := (show Hid _ from four_box w6 (.slice e0 d.terms.length f0) (.slice e1 d.nons.length f1) (.int .i64 d.own) (.slice e3 d.prods.length f3) 34)
  have HX6 := (show Hid _ from (⟨hB6.top.still hba, hb6.size⟩ : _ ∧ _))
  have HQ6 := (show Hid _ from (⟨HQ5.out.1.still hb67, HQ5.out.2⟩ : _ ∧ _))
  have HB6 := (show Hid _ from (⟨bel_trans HB5.out.1 hb67, bel_trans HB5.out.2 hb67⟩ : _ ∧ _))
  have hA5 : w.heap.size < w5.heap.size := by have h2 := HB5.out.2.size; simp at h2; omega
  have HA5 := (show Hid _ from hA5)
  clear hA5 hb67 hba hb6 hB6 HQ5 HB5 T0 T1 T2 T3
  go_wp2_with fail
  refine Calls.mono (HTI.out _ HB6.out.1 hll) ?_
  rintro e w8 ⟨rfl, hb8, hW8⟩
  simp only [World.size_alloc] at hW8 ⊢
  have hO8 := IRow.own hW8 HLM.out
  have HB8 := (show Hid _ from (⟨bel_trans HB6.out.1 hb8, bel_trans HB6.out.2 hb8⟩ : _ ∧ _))
  have HW8 := (show Hid _ from (⟨hO8, World.rowIs.lt hW8⟩ : _ ∧ _))
  have HQ8 := (show Hid _ from (⟨HQ6.out.1.still hb8, HQ6.out.2⟩ : _ ∧ _))
  have HX8 := (show Hid _ from (⟨HX6.out.1.still hb8, HX6.out.2, Four.still HFX.out hb8⟩ : _ ∧ _ ∧ _))
  have H9 := (show Hid _ from HIM.out HS.out hll _ _ _ _ _ _ w8 (BLies.still (BOwn.lies HX6.out.1) hb8) hO8.ints)
  clear hb8 hW8 HB6 HQ6 HX6 HFX hO8
  obtain ⟨X0, X1, X2, X3⟩ := HX8.out.2.2
  go_wp2_with fail
  refine Calls.mono H9.out ?_
  rintro e w9 h9
  obtain ⟨g0, c0, rfl, hb9, o0, k0⟩ := h9.high
  obtain ⟨ag0, cg0, rfl, _⟩ := o0.form
  have HL9 := (show Hid (LSd w d L R1 w.heap.size w6.heap.size w5.heap.size w6.heap.size (w6.heap.size + 1) b0 c0 (.slice a0 d.terms.length p0) (.slice a1 d.nons.length p1) (.slice a3 d.prods.length p3) (.slice e0 d.terms.length f0) (.slice e1 d.nons.length f1) (.slice e3 d.prods.length f3) (.slice aq0 R1.length cq0) (.slice ag0 R1.length cg0) w9) from ⟨Four.still TH.out (bel_trans HB8.out.2 hb9), HX8.out.2.2.still hb9, HX8.out.1.still hb9, HW8.out.1.still hb9, HQ8.out.1.still hb9, o0, bel_trans HB8.out.1 hb9⟩)
  have HN := (show Hid _ from (⟨HA5.out, HX8.out.2.1, HQ8.out.2, HW8.out.2, k0, hb9.size⟩ : w.heap.size < w5.heap.size ∧ w5.heap.size ≤ w6.heap.size ∧ b0 < w5.heap.size ∧ w6.heap.size + 1 < w8.heap.size ∧ w8.heap.size ≤ c0 ∧ w8.heap.size ≤ w9.heap.size))
  clear hb9 o0 k0 h9 H9 HB8 HW8 HQ8 HX8 HA5 TH X0 X1 X2 X3
  dsimp only
  go_wp2_with fail
  refine Calls.mono (eqInts_any R1 _ _ _ HL9.out.g0.ints HL9.out.p0.ints) ?_
  rintro e w11 ⟨rfl, hb11⟩
  have HL11 := (show Hid _ from HL9.out.still hb11)
  have HZ11 := (show Hid _ from hb11.size)
  clear hb11
  obtain ⟨T0, T1, T2, T3⟩ := HL11.out.fa
  obtain ⟨X0, X1, X2, X3⟩ := HL11.out.fx
  have H10 := (show Hid _ from HTO.out w11.drew HL11.out.bel.drew HS.out)
  have H12 := (show Hid _ from fun (w9 : World) (S9 : Nat → Prop) (y0 y1 y3 : Value) (hb : Below w11.drew.heap.size w11.drew w9) (hd : BOwn w9 S9 d y0 y1 y3) => eqBnf_any d _ _ _ y0 y1 y3 w9 (BLies.still HL11.out.x0.lies (((Below.refl _ _).drew).trans hb)) hd.lies)
  go_wp2_with fail
  go_cut [60] from 56 to 59 (fun v wx => v = .bool false ∧ Hid (Below w11.heap.size w11 wx))
  case first =>
    go_region_with (first
      | (go_at_call 11; refine Calls.mono (H12.out _ _ _ _ _ hbA DA) ?_; rintro e wB ⟨rfl, hbB⟩)
      | (go_at_call 7; refine Calls.mono H10.out ?_; rintro e wA ⟨y0, y1, y3, rfl, hbA, DA⟩; obtain ⟨Y0, Y1, Y2, Y3⟩ := Four.still HL11.out.fx (Below.trans ((Below.refl _ _).drew) hbA)))
    all_goals
      go_wp2_with fail
      go_meet
      exact ⟨rfl, bel_trans (((Below.refl w11.heap.size w11).drew).trans hbA) hbB⟩
  case rest =>
    obtain ⟨rfl, HC⟩ := hcut
    have HL12 := (show Hid _ from HL11.out.still HC.out)
    have HZ12 := (show Hid _ from Nat.le_trans HZ11.out HC.out.size)
    clear HC HL11 HZ11 HL9 H10 H12 T0 T1 T2 T3 X0 X1 X2 X3
    go_wp2_with fail
    refine Calls.mono (HTI.out _ HL12.out.bel hll) ?_
    rintro e w13 ⟨rfl, hb13, hW13⟩
    have HL13 := (show Hid _ from HL12.out.still hb13)
    have HZ13 := (show Hid _ from Nat.le_trans HZ12.out hb13.size)
    have HW13 := (show Hid _ from IRow.own hW13 HLM.out); clear hW13 hb13 HL12 HZ12
    go_wp2_with fail
    refine Calls.mono (eqInts_any L _ _ w13 HL13.out.x1.ints (OwnI.ints HW13.out)) ?_
    rintro e w14 ⟨rfl, hb14⟩
    have HL14 := (show Hid _ from HL13.out.still hb14)
    have HZ14 := (show Hid _ from Nat.le_trans HZ13.out hb14.size)
    clear hb14 HL13 HZ13 HW13
    obtain ⟨X0, X1, X2, X3⟩ := HL14.out.fx
    go_wp2_with fail
    refine Calls.mono (markBnf_any d _ _ _ w14 w5.heap.size w6.heap.size HL14.out.x0 (by have := HN.out; have := HZ14.out; omega)) ?_
    rintro e w15 ⟨K1, rfl, hK1, hK1', ho15⟩
    have HX15 := (show Hid _ from HL14.out.x1.out ho15 (by omega))
    have HF15 := (show Hid _ from Four.out HL14.out.fa ho15 (by have := HN.out; omega))
    have HP15 := (show Hid _ from (⟨HL14.out.p0.out ho15 (by have := HN.out; omega), HL14.out.g0.out ho15 (by have := HN.out; omega)⟩ : _ ∧ _))
    have HB15 := (show Hid _ from (⟨out_belowD HL14.out.bel ho15 (by have := HN.out; omega) HL14.out.bel.size, Nat.le_trans HZ14.out ho15.2.2.2.1⟩ : Below w.heap.size w w15 ∧ w9.heap.size ≤ w15.heap.size))
    clear ho15 HL14 HZ14 X0 X1 X2 X3
    go_wp2_with fail
    refine Calls.mono (markInts_any L (w6.heap.size + 1) K1 _ w15 HX15.out (by omega)) ?_
    rintro e w16 ⟨rfl, ho16, _⟩
    have HF16 := (show Hid _ from Four.out HF15.out ho16 (by have := HN.out; omega))
    have HP16 := (show Hid _ from (⟨HP15.out.1.out ho16 (by have := HN.out; omega), HP15.out.2.out ho16 (by have := HN.out; omega)⟩ : _ ∧ _))
    have HB16 := (show Hid _ from (⟨out_belowD HB15.out.1 ho16 (by have := HN.out; omega) HB15.out.1.size, Nat.le_trans HB15.out.2 ho16.2.2.2.1⟩ : Below w.heap.size w w16 ∧ w9.heap.size ≤ w16.heap.size))
    clear ho16 HF15 HP15 HB15 HX15
    generalize hK : K1 + L.length = K at *
    have hK0 : ¬ ((K : Int) < 0) := by omega
    clear hK hK1 hK1'
    go_wp2_with fail
    refine Calls.mono (eqInts_any R1 _ _ _ HP16.out.2.ints HP16.out.1.ints) ?_
    rintro e w18 ⟨rfl, hb18⟩
    have HP18 := (show Hid _ from (⟨HP16.out.1.still hb18, HP16.out.2.still hb18, Four.still HF16.out hb18, bel_trans HB16.out.1 hb18⟩ : OwnI w18 b0 R1 (.slice aq0 R1.length cq0) ∧ OwnI w18 c0 R1 (.slice ag0 R1.length cg0) ∧ Four w18 w.heap.size (.slice a0 d.terms.length p0) (.slice a1 d.nons.length p1) (.int .i64 d.own) (.slice a3 d.prods.length p3) ∧ Below w.heap.size w w18))
    clear hb18 HP16 HF16 HB16
    have HM0 := (show Hid _ from markInts_any R1 c0 1 _ w18 HP18.out.2.1 (by omega))
    have HH0 := (show Hid (∀ (Z : World), OwnI Z c0 (cnt 1 R1.length) (.slice ag0 R1.length cg0) → Calls Try.prog 14 #[.slice ag0 R1.length cg0, .int .i64 1] Z fun e w' => e = .returned (.int .i64 (1 + R1.length : Nat)) ∧ Below Z.heap.size Z w') from fun Z hZ => heldInts_any c0 1 R1.length _ Z hZ (by omega))
    generalize hN1 : 1 + R1.length = N1 at *
    have hN10 : ¬ ((N1 : Int) < 0) := by omega
    have hN1n : ((N1 : Int) != N1) = false := by simp
    have hN1' : N1 ≤ 4001 := by omega
    clear hN1
    go_wp2_with fail
    refine Calls.mono HM0.out ?_
    rintro e w20 ⟨rfl, ho20, hg20⟩
    have HP20 := (show Hid _ from (⟨HP18.out.1.out ho20 (by have := HN.out; omega), hg20, Four.out HP18.out.2.2.1 ho20 (by have := HN.out; omega), out_belowD HP18.out.2.2.2 ho20 (by have := HN.out; omega) HP18.out.2.2.2.size⟩ : OwnI w20 b0 R1 (.slice aq0 R1.length cq0) ∧ OwnI w20 c0 (cnt 1 R1.length) (.slice ag0 R1.length cg0) ∧ Four w20 w.heap.size (.slice a0 d.terms.length p0) (.slice a1 d.nons.length p1) (.int .i64 d.own) (.slice a3 d.prods.length p3) ∧ Below w.heap.size w w20))
    clear ho20 hg20 HP18 HM0
    go_wp2_with fail
    refine Calls.mono (HH0.out _ HP20.out.2.1) ?_
    rintro e w22 ⟨rfl, hb22⟩
    have HX22 := (show Hid _ from hb22); clear hb22
    obtain ⟨T0, T1, T2, T3⟩ := Four.still HP20.out.2.2.1 HX22.out
    go_wp2_with fail
    refine Calls.mono (HTO.out _ (bel_trans HP20.out.2.2.2 HX22.out) HS.out) ?_
    rintro e w23 ⟨y0, y1, y3, rfl, hb23, hB23⟩
    obtain ⟨_, _, _, _, _, _, rfl, rfl, rfl⟩ := hB23.lies.form
    have HX23 := (show Hid _ from bel_trans HX22.out hb23)
    have HO23 := (show Hid _ from hB23); clear hB23 T0 T1 T2 T3 hb23 HX22
    go_wp2_with fail
    refine Calls.mono (HTI.out _ (bel_trans HP20.out.2.2.2 HX23.out) hll) ?_
    rintro e w24 ⟨rfl, hb24, hW24⟩
    have HX24 := (show Hid _ from bel_trans HX23.out hb24)
    have H25 := (show Hid _ from HIM.out HS.out hll _ _ _ _ _ _ w24 (BLies.still (BOwn.lies HO23.out) hb24) (OwnI.ints (IRow.own hW24 HLM.out)))
    clear hb24 hW24 HO23 HX23
    go_wp2_with fail
    refine Calls.mono H25.out ?_
    rintro e w25 h25
    obtain ⟨z0, s0, rfl, hb25, o0, _⟩ := h25.high
    obtain ⟨_, _, rfl, _⟩ := o0.form
    have HX25 := (show Hid _ from bel_trans HX24.out hb25)
    have HO25 := (show Hid _ from o0)
    clear o0 hb25 h25 H25 HX24
    dsimp only
    go_wp2_with fail
    refine Calls.mono (eqInts_any R1 _ _ _ (OwnI.ints HO25.out) (OwnI.ints (OwnI.still HP20.out.1 HX25.out))) ?_
    rintro e w27 ⟨rfl, hb27⟩
    have HX27 := (show Hid _ from bel_trans HX25.out hb27); clear hb27 HX25 HO25
    go_wp2_with fail
    refine Calls.mono (HH0.out _ (OwnI.still HP20.out.2.1 HX27.out)) ?_
    rintro e w29 ⟨rfl, hb29⟩
    have HX29 := (show Hid _ from bel_trans HP20.out.2.2.2 (bel_trans HX27.out hb29)); clear hb29 HX27
    go_wp2_with fail
    go_ret
    exact ⟨rfl, HX29.out⟩
end Go.Proofs.Ytaimlmjgicmbeaa
