import Derived.Test.YthmdoplickpmaajLaw2
/-! The law FnExactDfaRun, walked. -/
namespace Go.Proofs.Ythmdoplickpmaaj
open Go.RowKit Go.Deep
set_option linter.unusedVariables false
set_option linter.unusedSimpArgs false

/-- Two answers are the same four numbers. -/
theorem Ans.both {d : Df} {s : ByteArray} {frm : Int} {e e' : Ending} (h : Ans d s frm e) (h' : Ans d s frm e') : ∃ a b c k : Int, e = .returned (.tuple #[.int .i64 a, .int .i64 b, .int .i64 c, .int .i64 k]) ∧ e' = e := by
  rcases h with ⟨hr, rfl⟩ | ⟨hr, rfl⟩
  · rcases h' with ⟨_, rfl⟩ | ⟨hn, _⟩
    · exact ⟨_, _, _, _, rfl, rfl⟩
    · exact absurd hr hn
  · rcases h' with ⟨hn, _⟩ | ⟨_, rfl⟩
    · exact absurd hn hr
    · exact ⟨_, _, _, _, rfl, rfl⟩

set_option maxHeartbeats 3200000 in
set_option maxRecDepth 100000 in
theorem lawRun {S : Nat → Prop} (d : Df) (v0 v1 v2 : Value) (s : ByteArray) (frm : Int) (w : World) (h : DLies w S d v0 v1 v2) (hsm : s.size ≤ maxLen) :
    Calls Try.prog 3 #[.agg #[v0, v1, v2], .string s, .int .i64 frm] w fun e w' => e = .returned (.bool true) ∧ Below w.heap.size w w' := by
  have hb0 := bel_alloc w (.cells #[v0, v1, v2] 25)
  have HSZ := (show Hid _ from szDfa_any d v0 v1 v2 _ (h.still hb0))
  have HTO := (show Hid _ from fun w' (hb : Below w.heap.size w w') (hs : d.Small) => toDfa_any d v0 v1 v2 w' (h.still hb) hs)
  obtain ⟨a1, cap1, rfl, hm1⟩ := h.nxt.form
  obtain ⟨a2, cap2, rfl, hm2⟩ := h.acc.form
  obtain ⟨a0, cap0, rfl, hm0⟩ := h.cls.form
  clear h
  have HSM := (show Hid _ from hsm)
  unfold maxLen at hm0 hm1 hm2 hsm
  have TH := (show Hid _ from three_box w (.slice a0 d.cls.length cap0) (.slice a1 d.nxt.length cap1) (.slice a2 d.acc.length cap2) 25)
  obtain ⟨T0, T1, T2⟩ := Three.still TH.out (Below.refl _ _)
  by_cases hbig : 1048576 < s.size
  · go_enter Try.func3, Try.ntmps3
    go_wp2_with fail
    go_ret
    exact ⟨rfl, hb0⟩
  go_enter Try.func3, Try.ntmps3
  go_wp2_with fail
  refine Calls.mono HSZ.out ?_
  rintro e w1 ⟨rfl | ⟨m1, rfl, hsm1⟩, hb1⟩
  · have hbw := bel_trans hb0 hb1
    go_wp2_with fail
    go_ret
    exact ⟨rfl, hbw⟩
  have hbw1 := bel_trans hb0 hb1
  have HS := (show Hid _ from hsm1); clear hsm1 T0 T1 T2
  obtain ⟨T0, T1, T2⟩ := Three.still TH.out hb1
  go_wp2_with fail
  refine Calls.mono (HTO.out _ hbw1 HS.out) ?_
  rintro e w2 ⟨u0, u1, u2, rfl, hb2, D2⟩
  have hbw2 := bel_trans hbw1 hb2
  have H5 := (show Hid _ from sRun_any d u0 u1 u2 s frm w2 D2 HSM.out)
  clear T0 T1 T2
  go_wp2_with fail
  refine Calls.mono H5.out ?_
  rintro e w3 ⟨ha3, hb3⟩
  obtain ⟨c0, c1, c2, ck, he, _⟩ := ha3.both ha3
  subst he
  have HA3 := (show Hid _ from ha3); clear ha3 D2
  have hbw3 := bel_trans hbw2 hb3
  obtain ⟨T0, T1, T2⟩ := Three.still TH.out (bel_trans (bel_trans hb1 hb2) hb3)
  go_wp2_with fail
  refine Calls.mono (HTO.out _ hbw3 HS.out) ?_
  rintro e w4 ⟨x0, x1, x2, rfl, hb4, D4⟩
  have hbw4 := bel_trans hbw3 hb4
  obtain ⟨e1, f1, rfl, _⟩ := D4.nxt.form
  obtain ⟨e2, f2, rfl, _⟩ := D4.acc.form
  obtain ⟨e0, f0, rfl, _⟩ := D4.cls.form
  have hba := bel_alloc w4 (.cells #[.slice e0 d.cls.length f0, .slice e1 d.nxt.length f1, .slice e2 d.acc.length f2] 29)
  have XH := (show Hid _ from three_box w4 (.slice e0 d.cls.length f0) (.slice e1 d.nxt.length f1) (.slice e2 d.acc.length f2) 29)
  obtain ⟨X0, X1, X2⟩ := Three.still XH.out (Below.refl _ _)
  have D5 := (show Hid _ from D4.still hba)
  have H7 := (show Hid _ from iRun_any d _ _ _ s frm _ (D4.still hba) HSM.out)
  have hbw5 := bel_trans hbw4 hba
  have TH5 := (show Hid _ from Three.still TH.out (bel_trans (bel_trans (bel_trans (bel_trans hb1 hb2) hb3) hb4) hba))
  clear T0 T1 T2 D4
  go_wp2_with fail
  refine Calls.mono H7.out ?_
  rintro e w6 ⟨ha6, hb6⟩
  obtain ⟨_, _, _, _, _, he⟩ := Ans.both HA3.out ha6
  subst he
  clear ha6 X0 X1 X2
  have hbw6 := bel_trans hbw5 hb6
  have hn0 : (c0 != c0) = false := by simp
  have hn1 : (c1 != c1) = false := by simp
  have hn2 : (c2 != c2) = false := by simp
  have hnk : (ck != ck) = false := by simp
  have D6 := (show Hid _ from DLies.still D5.out hb6)
  have TH6 := (show Hid _ from Three.still TH5.out hb6)
  have XH6 := (show Hid _ from Three.still XH.out hb6)
  obtain ⟨T0, T1, T2⟩ := Three.still TH6.out (Below.refl _ _)
  obtain ⟨X0, X1, X2⟩ := Three.still XH6.out (Below.refl _ _)
  have H10 := (show Hid _ from HTO.out w6.drew hbw6.drew HS.out)
  have H12 := (show Hid _ from fun (w9 : World) (y0 y1 y2 : Value) (hb : Below w6.drew.heap.size w6.drew w9) (hd : DLies w9 (fun _ => True) d y0 y1 y2) => eqDfa_any d _ _ _ y0 y1 y2 w9 (DLies.still D6.out (((Below.refl _ _).drew).trans hb)) hd)
  clear H7 H5 HA3
  go_wp2_with fail
  go_region_with (first
    | (go_at_call 9; refine Calls.mono (H12.out _ _ _ _ hb9 D9) ?_; rintro e w10 ⟨rfl, hb10⟩)
    | (go_at_call 7; refine Calls.mono H10.out ?_; rintro e w9 ⟨y0, y1, y2, rfl, hb9, D9⟩; obtain ⟨Y0, Y1, Y2⟩ := Three.still XH6.out (Below.trans ((Below.refl _ _).drew) hb9)))
  all_goals
    have hbw10 : Below w.heap.size w w10 := bel_trans (bel_trans hbw6.drew hb9) hb10
    go_wp2_with fail
    go_ret
    exact ⟨rfl, hbw10⟩
end Go.Proofs.Ythmdoplickpmaaj
