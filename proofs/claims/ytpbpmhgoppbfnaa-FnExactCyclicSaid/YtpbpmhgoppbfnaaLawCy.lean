import Derived.Test.YtpbpmhgoppbfnaaCw
import Derived.Test.YtpbpmhgoppbfnaaSx
import Derived.Test.YtpbpmhgoppbfnaaSq
import Derived.Test.YtpbpmhgoppbfnaaSz
import Derived.Test.YtpbpmhgoppbfnaaTo3
import Derived.Test.YtpbpmhgoppbfnaaEq
/-! The law FnExactCyclic, walked. -/
namespace Go.Proofs.Ytpbpmhgoppbfnaa
open Go.RowKit Go.Deep
set_option linter.unusedVariables false
set_option maxRecDepth 100000
set_option linter.unusedSimpArgs false

set_option maxHeartbeats 3200000 in
theorem lawCy {S : Nat → Prop} (d : Bn) (v0 v1 v3 : Value) (w : World) (h : BLies w S d v0 v1 v3) :
    Calls Try.prog 4 #[.agg #[v0, v1, .int .i64 d.own, v3]] w fun e w' => e = .returned (.bool true) ∧ Below w.heap.size w w' := by
  have hb0 := bel_alloc w (.cells #[v0, v1, .int .i64 d.own, v3] 26)
  have HSZ := (show Hid _ from szBnf_any d v0 v1 v3 _ 1048576 (h.still hb0) (Nat.le_refl _))
  have HTO := (show Hid _ from fun w' (hb : Below w.heap.size w w') (hs : d.Small) => toBnf_any d v0 v1 v3 w' (h.still hb) hs)
  obtain ⟨a0, p0, a1, p1, a3, p3, rfl, rfl, rfl⟩ := h.form
  clear h
  have TH := (show Hid _ from four_box w (.slice a0 d.terms.length p0) (.slice a1 d.nons.length p1) (.int .i64 d.own) (.slice a3 d.prods.length p3) 26)
  obtain ⟨T0, T1, T2, T3⟩ := Four.still TH.out (Below.refl _ _)
  go_enter Try.func4, Try.ntmps4
  go_wp2_with fail
  refine Calls.mono HSZ.out ?_
  rintro e w1 ⟨rfl | ⟨m1, rfl, _, hsm1⟩, hb1⟩
  · have hbw := bel_trans hb0 hb1
    go_wp2_with fail
    go_ret
    exact ⟨rfl, hbw⟩
  have hbw1 := bel_trans hb0 hb1
  have HS := (show Hid _ from hsm1); clear hsm1 T0 T1 T2 T3
  obtain ⟨T0, T1, T2, T3⟩ := Four.still TH.out hb1
  go_wp2_with fail
  refine Calls.mono (HTO.out _ hbw1 HS.out) ?_
  rintro e w2 ⟨u0, u1, u3, rfl, hb2, D2⟩
  have hbw2 := bel_trans hbw1 hb2
  have H5 := (show Hid _ from sCyc_any d (Classical.propDecidable _) (fun hok _ a b c x hx => leadsS_any d hok a b c x hx) u0 u1 u3 w2 D2)
  clear T0 T1 T2 T3
  go_wp2_with fail
  refine Calls.mono H5.out ?_
  rintro e w3 ⟨rfl, hb3⟩
  have hbw3 := bel_trans hbw2 hb3
  obtain ⟨T0, T1, T2, T3⟩ := Four.still TH.out (bel_trans (bel_trans hb1 hb2) hb3)
  clear H5 D2
  have H7A := (show Hid _ from fun (w' : World) (y0 y1 y3 : Value) (S9 : Nat → Prop) (hd : BLies w' S9 d y0 y1 y3) => iCyc_any d (Classical.propDecidable _) y0 y1 y3 w' hd)
  generalize (cyR d (Classical.propDecidable _)).1 = RB at *
  generalize (cyR d (Classical.propDecidable _)).2 = RC at *
  have hne1 : (RB != RB) = false := by simp
  have hne2 : (RC != RC) = false := by simp
  go_wp2_with fail
  refine Calls.mono (HTO.out _ hbw3 HS.out) ?_
  rintro e w4 ⟨x0, x1, x3, rfl, hb4, D4⟩
  have hbw4 := bel_trans hbw3 hb4
  obtain ⟨e0, f0, e1, f1, e3, f3, rfl, rfl, rfl⟩ := D4.form
  have hba := bel_alloc w4 (.cells #[.slice e0 d.terms.length f0, .slice e1 d.nons.length f1, .int .i64 d.own, .slice e3 d.prods.length f3] 34)
  have XH := (show Hid _ from four_box w4 (.slice e0 d.terms.length f0) (.slice e1 d.nons.length f1) (.int .i64 d.own) (.slice e3 d.prods.length f3) 34)
  obtain ⟨X0, X1, X2, X3⟩ := Four.still XH.out (Below.refl _ _)
  have D5 := (show Hid _ from D4.still hba)
  have H7 := (show Hid _ from H7A.out _ _ _ _ _ (D4.still hba))
  have hbw5 := bel_trans hbw4 hba
  have TH5 := (show Hid _ from Four.still TH.out (bel_trans (bel_trans (bel_trans (bel_trans hb1 hb2) hb3) hb4) hba))
  clear T0 T1 T2 T3 D4
  go_wp2_with fail
  refine Calls.mono H7.out ?_
  rintro e w6 ⟨rfl, hb6⟩
  clear X0 X1 X2 X3
  have hbw6 := bel_trans hbw5 hb6
  have D6 := (show Hid _ from BLies.still D5.out hb6)
  have TH6 := (show Hid _ from Four.still TH5.out hb6)
  have XH6 := (show Hid _ from Four.still XH.out hb6)
  obtain ⟨T0, T1, T2, T3⟩ := Four.still TH6.out (Below.refl _ _)
  obtain ⟨X0, X1, X2, X3⟩ := Four.still XH6.out (Below.refl _ _)
  have H10 := (show Hid _ from HTO.out w6.drew hbw6.drew HS.out)
  have H12 := (show Hid _ from fun (w9 : World) (S9 : Nat → Prop) (y0 y1 y3 : Value) (hb : Below w6.drew.heap.size w6.drew w9) (hd : BLies w9 S9 d y0 y1 y3) => eqBnf_any d _ _ _ y0 y1 y3 w9 (BLies.still D6.out (((Below.refl _ _).drew).trans hb)) hd)
  clear H7
  go_wp2_with fail
  go_region_with (first
    | (go_at_call 11; refine Calls.mono (H12.out _ _ _ _ _ hb9 D9) ?_; rintro e w10 ⟨rfl, hb10⟩)
    | (go_at_call 8; refine Calls.mono H10.out ?_; rintro e w9 ⟨y0, y1, y3, rfl, hb9, D9⟩; obtain ⟨Y0, Y1, Y2, Y3⟩ := Four.still XH6.out (Below.trans ((Below.refl _ _).drew) hb9)))
  all_goals
    have hbw10 : Below w.heap.size w w10 := bel_trans (bel_trans hbw6.drew hb9) hb10
    go_wp2_with fail
    go_ret
    exact ⟨rfl, hbw10⟩
end Go.Proofs.Ytpbpmhgoppbfnaa
