import Derived.Test.YtpbpmhgoppbfnaaTc2
import Derived.Test.YtpbpmhgoppbfnaaSz
import Derived.Test.YtpbpmhgoppbfnaaTo3
import Derived.Test.YtpbpmhgoppbfnaaEq
/-! The law FnExactCount, walked. -/
namespace Go.Proofs.Ytpbpmhgoppbfnaa
open Go.RowKit Go.Deep
set_option linter.unusedVariables false
set_option maxRecDepth 100000
set_option linter.unusedSimpArgs false

theorem CtR_one (d : Bn) (non : Int) (W : List Int) : ∃ R : Int × Int, ∀ R', CtR d non W R' → R' = R := by
  by_cases h : ∃ R, CtR d non W R
  · obtain ⟨R, hR⟩ := h
    exact ⟨R, fun R' h' => h'.uniq hR⟩
  · exact ⟨(0, 0), fun R' h' => absurd ⟨R', h'⟩ h⟩
set_option maxHeartbeats 6400000 in
theorem lawCt {S S2 : Nat → Prop} (d : Bn) (v0 v1 v3 : Value) (non : Int) (W : List Int) (vw : Value) (w : World) (h : BLies w S d v0 v1 v3) (hwd : Ints w S2 W vw) :
    Calls Try.prog 5 #[.agg #[v0, v1, .int .i64 d.own, v3], .int .i64 non, vw] w fun e w' => e = .returned (.bool true) ∧ Below w.heap.size w w' := by
  have hb0 := bel_alloc w (.cells #[v0, v1, .int .i64 d.own, v3] 26)
  have HB0 := (show Hid _ from hb0)
  have HSZ := (show Hid _ from szBnf_any d v0 v1 v3 _ 1048576 (h.still hb0) (Nat.le_refl _))
  have HTO := (show Hid _ from fun w' (hb : Below w.heap.size w w') (hs : d.Small) => toBnf_any d v0 v1 v3 w' (h.still hb) hs)
  have HTI := (show Hid _ from fun w' (hb : Below w.heap.size w w') (hs : W.length ≤ 1048576) => toInts_any W vw w' (hwd.still hb) hs)
  obtain ⟨R, hR⟩ := CtR_one d non W
  have HSP := (show Hid (∀ (S1 S3 : Nat → Prop) (y0 y1 y3 yw : Value) (w' : World), BLies w' S1 d y0 y1 y3 → Ints w' S3 W yw → Calls Try.prog 17 #[.agg #[y0, y1, .int .i64 d.own, y3], .int .i64 non, yw] w' fun e w'' => e = .returned (.tuple #[.int .i64 R.1, .int .i64 R.2]) ∧ Below w'.heap.size w' w'') from fun S1 S3 y0 y1 y3 yw w' h1 h2 => Calls.mono (sCnt_any d y0 y1 y3 non W yw w' h1 h2) (fun e w'' h3 => by
    obtain ⟨R', h4, h5⟩ := h3
    rw [hR R' h4] at h5
    exact h5))
  have HIM := (show Hid (∀ (S1 S3 : Nat → Prop) (y0 y1 y3 yw : Value) (w' : World), BLies w' S1 d y0 y1 y3 → Ints w' S3 W yw → Calls Try.prog 19 #[.agg #[y0, y1, .int .i64 d.own, y3], .int .i64 non, yw] w' fun e w'' => e = .returned (.tuple #[.int .i64 R.1, .int .i64 R.2]) ∧ Below w'.heap.size w' w'') from fun S1 S3 y0 y1 y3 yw w' h1 h2 => Calls.mono (iCnt_any d y0 y1 y3 non W yw w' h1 h2) (fun e w'' h3 => by
    obtain ⟨R', h4, h5⟩ := h3
    rw [hR R' h4] at h5
    exact h5))
  clear hR
  obtain ⟨R1, C⟩ := R
  dsimp only at HSP HIM
  have hneR : ((R1 : Int) != R1) = false := by simp
  have hneC : ((C : Int) != C) = false := by simp
  obtain ⟨a0, p0, a1, p1, a3, p3, rfl, rfl, rfl⟩ := h.form
  obtain ⟨av, cv, rfl, hwm⟩ := hwd.form
  unfold maxLen at hwm
  clear h hwd hb0
  have TH := (show Hid _ from four_box w (.slice a0 d.terms.length p0) (.slice a1 d.nons.length p1) (.int .i64 d.own) (.slice a3 d.prods.length p3) 26)
  by_cases hll : W.length ≤ 1048576
  case neg =>
    have i0 : decide ((W.length : Int) > 1048576) = true := by simp; omega
    go_enter Try.func5, Try.ntmps5
    go_wp2_with fail
    go_ret
    exact ⟨rfl, HB0.out⟩
  have i0 : decide ((W.length : Int) > 1048576) = false := by simp; omega
  obtain ⟨T0, T1, T2, T3⟩ := Four.still TH.out (Below.refl _ _)
  go_enter Try.func5, Try.ntmps5
  go_wp2_with fail
  refine Calls.mono HSZ.out ?_
  rintro e w1 ⟨rfl | ⟨m1, rfl, _, hsm1⟩, hb1⟩
  · have HN := (show Hid _ from bel_trans HB0.out hb1); clear hb1 T0 T1 T2 T3
    go_wp2_with fail
    go_ret
    exact ⟨rfl, HN.out⟩
  have HB1 := (show Hid _ from (⟨bel_trans HB0.out hb1, hb1⟩ : _ ∧ _))
  have HS := (show Hid _ from hsm1); clear hsm1 T0 T1 T2 T3 hb1
  obtain ⟨T0, T1, T2, T3⟩ := Four.still TH.out HB1.out.2
  go_wp2_with fail
  refine Calls.mono (HTO.out _ HB1.out.1 HS.out) ?_
  rintro e w2 ⟨u0, u1, u3, rfl, hb2, D2⟩
  have HB2 := (show Hid _ from (⟨bel_trans HB1.out.1 hb2, bel_trans HB1.out.2 hb2⟩ : _ ∧ _))
  have HD2 := (show Hid _ from D2)
  obtain ⟨_, _, _, _, _, _, rfl, rfl, rfl⟩ := D2.form
  clear T0 T1 T2 T3 hb2 D2
  go_wp2_with fail
  refine Calls.mono (HTI.out _ HB2.out.1 hll) ?_
  rintro e w3 ⟨rfl, hb3, hW3⟩
  have HB3 := (show Hid _ from (⟨bel_trans HB2.out.1 hb3, bel_trans HB2.out.2 hb3⟩ : _ ∧ _))
  have H5 := (show Hid _ from HSP.out _ _ _ _ _ _ w3 (BLies.still HD2.out hb3) (hW3.ints (by unfold maxLen; omega)))
  clear hb3 hW3 HSP HD2
  go_wp2_with fail
  refine Calls.mono H5.out ?_
  rintro e w4 ⟨rfl, hb4⟩
  have HB4 := (show Hid _ from (⟨bel_trans HB3.out.1 hb4, bel_trans HB3.out.2 hb4⟩ : _ ∧ _))
  clear hb4 H5 HB1 HB2 HB3
  obtain ⟨T0, T1, T2, T3⟩ := Four.still TH.out HB4.out.2
  go_wp2_with fail
  refine Calls.mono (HTO.out _ HB4.out.1 HS.out) ?_
  rintro e w5 ⟨x0, x1, x3, rfl, hb5, D5⟩
  obtain ⟨e0, f0, e1, f1, e3, f3, rfl, rfl, rfl⟩ := D5.form
  have hba := bel_alloc w5 (.cells #[.slice e0 d.terms.length f0, .slice e1 d.nons.length f1, .int .i64 d.own, .slice e3 d.prods.length f3] 34)
  have HXH := (show Hid _ from four_box w5 (.slice e0 d.terms.length f0) (.slice e1 d.nons.length f1) (.int .i64 d.own) (.slice e3 d.prods.length f3) 34)
  have hb56 := bel_trans hb5 hba
  have HB6 := (show Hid _ from (⟨bel_trans HB4.out.1 hb56, bel_trans HB4.out.2 hb56⟩ : _ ∧ _))
  have HD6 := (show Hid _ from D5.still hba)
  clear T0 T1 T2 T3 hb5 D5 hba hb56 HB4
  go_wp2_with fail
  generalize w5.alloc (.cells #[.slice e0 d.terms.length f0, .slice e1 d.nons.length f1, .int .i64 d.own, .slice e3 d.prods.length f3] 34) = w6 at *
  refine Calls.mono (HTI.out _ HB6.out.1 hll) ?_
  rintro e w7 ⟨rfl, hb7, hW7⟩
  have HB7 := (show Hid _ from (⟨bel_trans HB6.out.1 hb7, bel_trans HB6.out.2 hb7⟩ : _ ∧ _))
  have HD7 := (show Hid _ from BLies.still HD6.out hb7)
  have HX7 := (show Hid _ from Four.still HXH.out hb7)
  have HW7 := (show Hid _ from hW7.ints (by unfold maxLen; omega))
  have H9 := (show Hid _ from HIM.out _ _ _ _ _ _ w7 HD7.out HW7.out)
  clear hb7 hW7 HB6 HD6 HXH
  obtain ⟨X0, X1, X2, X3⟩ := HX7.out
  go_wp2_with fail
  refine Calls.mono H9.out ?_
  rintro e w8 ⟨rfl, hb8⟩
  have HB8 := (show Hid _ from (⟨bel_trans HB7.out.1 hb8, bel_trans HB7.out.2 hb8⟩ : _ ∧ _))
  have HD8 := (show Hid _ from BLies.still HD7.out hb8)
  have HX8 := (show Hid _ from Four.still HX7.out hb8)
  have HW8 := (show Hid _ from Ints.still HW7.out hb8)
  clear hb8 HB7 HD7 HX7 HW7 H9 HIM X0 X1 X2 X3
  have TH8 := (show Hid _ from Four.still TH.out HB8.out.2)
  obtain ⟨T0, T1, T2, T3⟩ := TH8.out
  obtain ⟨X0, X1, X2, X3⟩ := HX8.out
  have H10 := (show Hid _ from HTO.out w8.drew HB8.out.1.drew HS.out)
  have H12 := (show Hid _ from fun (w9 : World) (S9 : Nat → Prop) (y0 y1 y3 : Value) (hb : Below w8.drew.heap.size w8.drew w9) (hd : BLies w9 S9 d y0 y1 y3) => eqBnf_any d _ _ _ y0 y1 y3 w9 (BLies.still HD8.out (((Below.refl _ _).drew).trans hb)) hd)
  go_wp2_with fail
  go_cut [54] from 50 to 53 (fun v wx => v = .bool false ∧ Hid (Below w8.heap.size w8 wx))
  case first =>
    go_region_with (first
      | (go_at_call 11; refine Calls.mono (H12.out _ _ _ _ _ hbA DA) ?_; rintro e wB ⟨rfl, hbB⟩)
      | (go_at_call 8; refine Calls.mono H10.out ?_; rintro e wA ⟨y0, y1, y3, rfl, hbA, DA⟩; obtain ⟨Y0, Y1, Y2, Y3⟩ := Four.still HX8.out (Below.trans ((Below.refl _ _).drew) hbA)))
    all_goals
      go_wp2_with fail
      go_meet
      exact ⟨rfl, bel_trans (((Below.refl w8.heap.size w8).drew).trans hbA) hbB⟩
  case rest =>
    obtain ⟨rfl, HC⟩ := hcut
    have HB9 := (show Hid _ from bel_trans HB8.out.1 HC.out)
    have HW9 := (show Hid _ from Ints.still HW8.out HC.out)
    clear HC HB8 HD8 HX8 HW8 H10 H12 T0 T1 T2 T3 X0 X1 X2 X3 TH8 TH
    go_wp2_with fail
    refine Calls.mono (HTI.out _ HB9.out hll) ?_
    rintro e wD ⟨rfl, hbD, hWD⟩
    have HBD := (show Hid _ from bel_trans HB9.out hbD)
    have HEQ := (show Hid _ from eqInts_any W _ _ wD (Ints.still HW9.out hbD) (hWD.ints (by unfold maxLen; omega)))
    clear hbD hWD HB9 HW9
    go_wp2_with fail
    refine Calls.mono HEQ.out ?_
    rintro e wE ⟨rfl, hbE⟩
    have HBE := (show Hid _ from bel_trans HBD.out hbE)
    clear hbE HEQ
    go_wp2_with fail
    go_ret
    exact ⟨rfl, HBE.out⟩
end Go.Proofs.Ytpbpmhgoppbfnaa
