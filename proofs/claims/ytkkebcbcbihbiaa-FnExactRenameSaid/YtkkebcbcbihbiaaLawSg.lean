import Derived.Test.YtkkebcbcbihbiaaGb
import Derived.Test.YtkkebcbcbihbiaaGEq
import Derived.Test.YtkkebcbcbihbiaaGTop
import Derived.Deep.RegionWith
/-! The law FnExactSgOK, walked. -/
namespace Go.Proofs.Ytkkebcbcbihbiaa
open Go.RowKit Go.Deep
set_option linter.unusedVariables false
set_option maxRecDepth 100000
set_option linter.unusedSimpArgs false

theorem box4 {w w' : World} {g T : Nat} {c0 c1 c2 c3 : Value} (h : Box w g T [c0, c1, c2, c3]) (hb : Below w.heap.size w w') :
    w'.cell? ⟨g, 0, none⟩ = some c0 ∧ w'.cell? ⟨g, 1, none⟩ = some c1 ∧ w'.cell? ⟨g, 2, none⟩ = some c2 ∧ w'.cell? ⟨g, 3, none⟩ = some c3 :=
  ⟨(h.still hb).cell 0 (by simp), (h.still hb).cell 1 (by simp), (h.still hb).cell 2 (by simp), (h.still hb).cell 3 (by simp)⟩
set_option maxHeartbeats 3200000 in
theorem lawSg {S : Nat → Prop} (d : DSg) (v1 v2 v3 : Value) (w : World) (h : DSgL w S d v1 v2 v3) :
    Calls Try.prog 3 #[.agg #[.int .i64 d.scopes, v1, v2, v3]] w fun e w' => e = .returned (.bool true) ∧ Below w.heap.size w w' := by
  have hb0 := bel_alloc w (.cells #[.int .i64 d.scopes, v1, v2, v3] 25)
  have HSZ := (show Hid _ from szSg_any d v1 v2 v3 _ 1048576 (h.still hb0) (Nat.le_refl _))
  have HTO := (show Hid _ from fun w' (hb : Below w.heap.size w w') (hs : d.Sm) => toSg_any d v1 v2 v3 w' (h.still hb) hs)
  obtain ⟨a1, p1, rfl, _⟩ := h.edges.form
  obtain ⟨a2, p2, rfl, _⟩ := h.decls.form
  obtain ⟨a3, p3, rfl, _⟩ := h.refs.form
  clear h
  have TH := (show Hid _ from Box.new w 25 [.int .i64 d.scopes, .slice a1 d.edges.length p1, .slice a2 d.decls.length p2, .slice a3 d.refs.length p3])
  obtain ⟨T0, T1, T2, T3⟩ := box4 TH.out (Below.refl _ _)
  go_enter Try.func3, Try.ntmps3
  go_wp2_with fail
  refine Calls.mono HSZ.out ?_
  rintro e w1 ⟨rfl | ⟨m1, rfl, _, hsm1⟩, hb1⟩
  · have hbw := bel_trans hb0 hb1
    go_wp2_with fail
    go_ret
    exact ⟨rfl, hbw⟩
  have hbw1 := bel_trans hb0 hb1
  have HS := (show Hid _ from hsm1); clear hsm1 T0 T1 T2 T3
  obtain ⟨T0, T1, T2, T3⟩ := box4 TH.out hb1
  go_wp2_with fail
  refine Calls.mono (HTO.out _ hbw1 HS.out) ?_
  rintro e w2 ⟨u1, u2, u3, rfl, hb2, D2⟩
  have hbw2 := bel_trans hbw1 hb2
  have H5 := (show Hid _ from sSg10 d u1 u2 u3 w2 D2.lies)
  clear T0 T1 T2 T3
  go_wp2_with fail
  refine Calls.mono H5.out ?_
  rintro e w3 ⟨rfl, hb3⟩
  have hbw3 := bel_trans hbw2 hb3
  obtain ⟨T0, T1, T2, T3⟩ := box4 TH.out (bel_trans (bel_trans hb1 hb2) hb3)
  clear H5 D2
  generalize hB : sgB d = B
  have HB := (show Hid _ from hB); clear hB
  have hBB : (B != B) = false := by simp
  go_wp2_with fail
  refine Calls.mono (HTO.out _ hbw3 HS.out) ?_
  rintro e w4 ⟨x1, x2, x3, rfl, hb4, D4'⟩
  have D4 := D4'.lies
  clear D4'
  have hbw4 := bel_trans hbw3 hb4
  obtain ⟨e1, f1, rfl, _⟩ := D4.edges.form
  obtain ⟨e2, f2, rfl, _⟩ := D4.decls.form
  obtain ⟨e3, f3, rfl, _⟩ := D4.refs.form
  have hba := bel_alloc w4 (.cells #[.int .i64 d.scopes, .slice e1 d.edges.length f1, .slice e2 d.decls.length f2, .slice e3 d.refs.length f3] 31)
  have XH := (show Hid _ from Box.new w4 31 [.int .i64 d.scopes, .slice e1 d.edges.length f1, .slice e2 d.decls.length f2, .slice e3 d.refs.length f3])
  obtain ⟨X0, X1, X2, X3⟩ := box4 XH.out (Below.refl _ _)
  have D5 := (show Hid _ from D4.still hba)
  have H7 := (show Hid _ from iSg12 d _ _ _ _ (D4.still hba))
  rw [HB.out] at H7
  have hbw5 := bel_trans hbw4 hba
  have TH5 := (show Hid _ from Box.still TH.out (bel_trans (bel_trans (bel_trans (bel_trans hb1 hb2) hb3) hb4) hba))
  clear T0 T1 T2 T3 D4
  go_wp2_with fail
  refine Calls.mono H7.out ?_
  rintro e w6 ⟨rfl, hb6⟩
  clear X0 X1 X2 X3
  have hbw6 := bel_trans hbw5 hb6
  have D6 := (show Hid _ from DSgL.still D5.out hb6)
  have TH6 := (show Hid _ from Box.still TH5.out hb6)
  have XH6 := (show Hid _ from Box.still XH.out hb6)
  obtain ⟨T0, T1, T2, T3⟩ := box4 TH6.out (Below.refl _ _)
  obtain ⟨X0, X1, X2, X3⟩ := box4 XH6.out (Below.refl _ _)
  have H10 := (show Hid _ from HTO.out w6.drew hbw6.drew HS.out)
  have H12 := (show Hid _ from fun (w9 : World) (S9 : Nat → Prop) (y1 y2 y3 : Value) (hb : Below w6.drew.heap.size w6.drew w9) (hd : DSgO w9 S9 d y1 y2 y3) => eqSg_any d _ y1 _ y2 _ y3 w9 (DSgL.still D6.out (((Below.refl _ _).drew).trans hb)) hd.lies)
  clear H7
  go_wp2_with fail
  go_region_with (first
    | (go_at_call 13; refine Calls.mono (H12.out _ _ _ _ _ hb9 D9) ?_; rintro e w10 ⟨rfl, hb10⟩)
    | (go_at_call 11; refine Calls.mono H10.out ?_; rintro e w9 ⟨y1, y2, y3, rfl, hb9, D9⟩; obtain ⟨Y0, Y1, Y2, Y3⟩ := box4 XH6.out (Below.trans ((Below.refl _ _).drew) hb9)))
  all_goals
    have hbw10 : Below w.heap.size w w10 := bel_trans (bel_trans hbw6.drew hb9) hb10
    go_wp2_with fail
    go_ret
    exact ⟨rfl, hbw10⟩
end Go.Proofs.Ytkkebcbcbihbiaa
