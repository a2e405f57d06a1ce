import Derived.Test.YtgjnlhidbjpdkajGreatS8
import Derived.Test.YtgjnlhidbjpdkajGreatSz
import Derived.Test.YtgjnlhidbjpdkajGreatTo
import Derived.Test.YtgjnlhidbjpdkajGreatEq
/-! The law FnExactGrammarShow, walked. -/
namespace Go.Proofs.YtgjnlhidbjpdkajGreat
open Go.RowKit Go.Deep
set_option linter.unusedVariables false
set_option maxRecDepth 100000
set_option linter.unusedSimpArgs false

theorem box5 {w w' : World} {g T : Nat} {c0 c1 c2 c3 c4 : Value} (h : Box w g T [c0, c1, c2, c3, c4]) (hb : Below w.heap.size w w') :
    w'.cell? ⟨g, 0, none⟩ = some c0 ∧ w'.cell? ⟨g, 1, none⟩ = some c1 ∧ w'.cell? ⟨g, 2, none⟩ = some c2 ∧ w'.cell? ⟨g, 3, none⟩ = some c3 ∧ w'.cell? ⟨g, 4, none⟩ = some c4 :=
  ⟨(h.still hb).cell 0 (by simp), (h.still hb).cell 1 (by simp), (h.still hb).cell 2 (by simp), (h.still hb).cell 3 (by simp), (h.still hb).cell 4 (by simp)⟩

set_option maxHeartbeats 3200000 in
theorem lawSh {S : Nat → Prop} (d : DGrammar) (v1 v2 v3 v4 : Value) (w : World) (h : DGrammarL w S d v1 v2 v3 v4) (hnm : d.name.size ≤ maxLen) :
    Calls Tryz.prog 3 #[.agg #[.string d.name, v1, v2, v3, v4]] w fun e w' => e = .returned (.bool true) ∧ Below w.heap.size w w' := by
  have hb0 := bel_alloc w (.cells #[.string d.name, v1, v2, v3, v4] 27)
  have HSZ := (show Hid _ from szGrammar_any d v1 v2 v3 v4 _ 1048576 (h.still hb0) hnm (Nat.le_refl _))
  have HTO := (show Hid _ from fun w' (hb : Below w.heap.size w w') (hs : d.Sm) => toGrammar_any d v1 v2 v3 v4 w' (h.still hb) hs)
  obtain ⟨a1, p1, rfl, _⟩ := h.tokens.form
  obtain ⟨a2, p2, rfl, _⟩ := h.levels.form
  obtain ⟨a3, p3, rfl, _⟩ := h.rules.form
  obtain ⟨a4, p4, rfl, _⟩ := h.parts.form
  clear h
  have TH := (show Hid _ from Box.new w 27 [.string d.name, .slice a1 d.tokens.length p1, .slice a2 d.levels.length p2, .slice a3 d.rules.length p3, .slice a4 d.parts.length p4])
  obtain ⟨T0, T1, T2, T3, T4⟩ := box5 TH.out (Below.refl _ _)
  go_enter Tryz.func3, Tryz.ntmps3
  go_wp2_with fail
  refine Calls.mono HSZ.out ?_
  rintro e w1 ⟨rfl | ⟨m1, rfl, _, hsm1⟩, hb1⟩
  · have hbw := bel_trans hb0 hb1
    go_wp2_with fail
    go_ret
    exact ⟨rfl, hbw⟩
  have hbw1 := bel_trans hb0 hb1
  have HS := (show Hid _ from hsm1); clear hsm1 T0 T1 T2 T3 T4
  obtain ⟨T0, T1, T2, T3, T4⟩ := box5 TH.out hb1
  go_wp2_with fail
  refine Calls.mono (HTO.out _ hbw1 HS.out) ?_
  rintro e w2 ⟨u1, u2, u3, u4, rfl, hb2, D2⟩
  have hbw2 := bel_trans hbw1 hb2
  have H5 := (show Hid _ from sShow_any d HS.out u1 u2 u3 u4 w2 D2.lies)
  clear T0 T1 T2 T3 T4
  go_wp2_with fail
  refine Calls.mono H5.out ?_
  rintro e w3 ⟨rfl, hb3⟩
  have hbw3 := bel_trans hbw2 hb3
  obtain ⟨T0, T1, T2, T3, T4⟩ := box5 TH.out (bel_trans (bel_trans hb1 hb2) hb3)
  clear H5 D2
  have H7A := (show Hid _ from fun (w' : World) (y1 y2 y3 y4 : Value) (S9 : Nat → Prop) (hd : DGrammarL w' S9 d y1 y2 y3 y4) => iShow_any d HS.out y1 y2 y3 y4 w' hd)
  generalize (shR d).1 = RS at *
  generalize (shR d).2 = RC at *
  have hne1 : (RS.toList == RS.toList) = true := by simp
  have hne2 : (RC != RC) = false := by simp
  go_wp2_with fail
  refine Calls.mono (HTO.out _ hbw3 HS.out) ?_
  rintro e w4 ⟨x1, x2, x3, x4, rfl, hb4, D4'⟩
  have D4 := D4'.lies
  clear D4'
  have hbw4 := bel_trans hbw3 hb4
  obtain ⟨e1, f1, rfl, _⟩ := D4.tokens.form
  obtain ⟨e2, f2, rfl, _⟩ := D4.levels.form
  obtain ⟨e3, f3, rfl, _⟩ := D4.rules.form
  obtain ⟨e4, f4, rfl, _⟩ := D4.parts.form
  have hba := bel_alloc w4 (.cells #[.string d.name, .slice e1 d.tokens.length f1, .slice e2 d.levels.length f2, .slice e3 d.rules.length f3, .slice e4 d.parts.length f4] 36)
  have XH := (show Hid _ from Box.new w4 36 [.string d.name, .slice e1 d.tokens.length f1, .slice e2 d.levels.length f2, .slice e3 d.rules.length f3, .slice e4 d.parts.length f4])
  obtain ⟨X0, X1, X2, X3, X4⟩ := box5 XH.out (Below.refl _ _)
  have D5 := (show Hid _ from D4.still hba)
  have H7 := (show Hid _ from H7A.out _ _ _ _ _ _ (D4.still hba))
  have hbw5 := bel_trans hbw4 hba
  have TH5 := (show Hid _ from Box.still TH.out (bel_trans (bel_trans (bel_trans (bel_trans hb1 hb2) hb3) hb4) hba))
  clear T0 T1 T2 T3 T4 D4
  go_wp2_with fail
  refine Calls.mono H7.out ?_
  rintro e w6 ⟨rfl, hb6⟩
  clear X0 X1 X2 X3 X4
  have hbw6 := bel_trans hbw5 hb6
  have D6 := (show Hid _ from DGrammarL.still D5.out hb6)
  have TH6 := (show Hid _ from Box.still TH5.out hb6)
  have XH6 := (show Hid _ from Box.still XH.out hb6)
  obtain ⟨T0, T1, T2, T3, T4⟩ := box5 TH6.out (Below.refl _ _)
  obtain ⟨X0, X1, X2, X3, X4⟩ := box5 XH6.out (Below.refl _ _)
  have H10 := (show Hid _ from HTO.out w6.drew hbw6.drew HS.out)
  have H12 := (show Hid _ from fun (w9 : World) (S9 : Nat → Prop) (y1 y2 y3 y4 : Value) (hb : Below w6.drew.heap.size w6.drew w9) (hd : DGrammarO w9 S9 d y1 y2 y3 y4) => eqGrammar_any d _ y1 _ y2 _ y3 _ y4 w9 (DGrammarL.still D6.out (((Below.refl _ _).drew).trans hb)) hd.lies)
  clear H7
  go_wp2_with fail
  go_region_with (first
    | (go_at_call 8; refine Calls.mono (H12.out _ _ _ _ _ _ hb9 D9) ?_; rintro e w10 ⟨rfl, hb10⟩)
    | (go_at_call 6; refine Calls.mono H10.out ?_; rintro e w9 ⟨y1, y2, y3, y4, rfl, hb9, D9⟩; obtain ⟨Y0, Y1, Y2, Y3, Y4⟩ := box5 XH6.out (Below.trans ((Below.refl _ _).drew) hb9)))
  all_goals
    have hbw10 : Below w.heap.size w w10 := bel_trans (bel_trans hbw6.drew hb9) hb10
    go_wp2_with fail
    go_ret
    exact ⟨rfl, hbw10⟩
end Go.Proofs.YtgjnlhidbjpdkajGreat
