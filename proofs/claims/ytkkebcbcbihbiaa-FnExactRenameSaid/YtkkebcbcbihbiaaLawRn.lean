import Derived.Test.YtkkebcbcbihbiaaHq
import Derived.Test.YtkkebcbcbihbiaaLawRe
/-! The law FnExactRename, walked. -/
namespace Go.Proofs.Ytkkebcbcbihbiaa
open Go.RowKit Go.Deep
set_option linter.unusedVariables false
set_option maxRecDepth 100000
set_option linter.unusedSimpArgs false

theorem Rg3.still {w w' : World} {lo hi b1 b2 b3 l1 l2 l3 : Nat} {u1 u2 u3 : Value} (h : Rg3 w lo hi b1 b2 b3 l1 l2 l3 u1 u2 u3) (hb : Below w.heap.size w w') : Rg3 w' lo hi b1 b2 b3 l1 l2 l3 u1 u2 u3 :=
  ⟨h.r1.keep (fun hlt => hb.block _ hlt), h.r2.keep (fun hlt => hb.block _ hlt), h.r3.keep (fun hlt => hb.block _ hlt), h.d, h.o⟩
theorem Rg3.out {w w' : World} {lo hi lo' hi' b1 b2 b3 l1 l2 l3 : Nat} {u1 u2 u3 : Value} (h : Rg3 w lo hi b1 b2 b3 l1 l2 l3 u1 u2 u3) (ho : Out lo' hi' w w') (hl : hi' ≤ lo) : Rg3 w' lo hi b1 b2 b3 l1 l2 l3 u1 u2 u3 :=
  ⟨h.r1.keep' (fun h0 hlt => ho.2.2.2.2 _ hlt (by have := h.o.1 h0; omega)), h.r2.keep' (fun h0 hlt => ho.2.2.2.2 _ hlt (by have := h.o.2.1 h0; omega)), h.r3.keep' (fun h0 hlt => ho.2.2.2.2 _ hlt (by have := h.o.2.2 h0; omega)), h.d, h.o⟩
/-- What lies there behind both answers. -/
structure LQ (W3 : World) (d T : DSg) (X1 X5 b1 b2 b3 : Nat) (x1 x2 x3 u1 u2 u3 : Value) (c0 : List Value) (W : World) : Prop where
  bel : Below W3.heap.size W3 W
  x : DSgO W (fun b => W3.heap.size ≤ b ∧ b < X1) d x1 x2 x3
  bx : Box W X1 31 c0
  g : DSgL W (fun b => X1 + 1 ≤ b ∧ b < X5) T u1 u2 u3
  rk : Rg3 W (X1 + 1) X5 b1 b2 b3 T.edges.length T.decls.length T.refs.length u1 u2 u3
  ba : Box W X5 31 [.int .i64 T.scopes, u1, u2, u3]
  o : W3.heap.size ≤ X1 ∧ X1 + 1 ≤ X5
theorem LQ.still {W3 W W' : World} {d T : DSg} {X1 X5 b1 b2 b3 : Nat} {x1 x2 x3 u1 u2 u3 : Value} {c0 : List Value} (h : LQ W3 d T X1 X5 b1 b2 b3 x1 x2 x3 u1 u2 u3 c0 W) (hb : Below W.heap.size W W') : LQ W3 d T X1 X5 b1 b2 b3 x1 x2 x3 u1 u2 u3 c0 W' :=
  ⟨h.bel.trans (hb.mono h.bel.size), h.x.still hb, h.bx.still hb, h.g.still hb, h.rk.still hb, h.ba.still hb, h.o⟩
structure LQb (W3 : World) (T : DSg) (X1 X5 b1 b2 b3 : Nat) (u1 u2 u3 : Value) (W : World) : Prop where
  bel : Below W3.heap.size W3 W
  g : DSgL W (fun b => X1 + 1 ≤ b ∧ b < X5) T u1 u2 u3
  rk : Rg3 W (X1 + 1) X5 b1 b2 b3 T.edges.length T.decls.length T.refs.length u1 u2 u3
  ba : Box W X5 31 [.int .i64 T.scopes, u1, u2, u3]
  o : W3.heap.size ≤ X1 ∧ X1 + 1 ≤ X5
theorem LQb.still {W3 W W' : World} {T : DSg} {X1 X5 b1 b2 b3 : Nat} {u1 u2 u3 : Value} (h : LQb W3 T X1 X5 b1 b2 b3 u1 u2 u3 W) (hb : Below W.heap.size W W') : LQb W3 T X1 X5 b1 b2 b3 u1 u2 u3 W' :=
  ⟨h.bel.trans (hb.mono h.bel.size), h.g.still hb, h.rk.still hb, h.ba.still hb, h.o⟩
theorem LQ.marked {W3 W W' : World} {d T : DSg} {X1 X5 b1 b2 b3 : Nat} {x1 x2 x3 u1 u2 u3 : Value} {c0 : List Value} (h : LQ W3 d T X1 X5 b1 b2 b3 x1 x2 x3 u1 u2 u3 c0 W) (ho : Out W3.heap.size X1 W W') : LQb W3 T X1 X5 b1 b2 b3 u1 u2 u3 W' := by
  have o := h.o
  exact ⟨outBel h.bel ho (Nat.le_refl _) h.bel.size, h.g.keep (fun b hb hlt => ho.2.2.2.2 b hlt (by omega)), h.rk.out ho (by omega), h.ba.keep (ho.2.2.2.2 X5 h.ba.lt (by omega)), o⟩
structure LQc (W3 : World) (T : DSg) (X5 b1 b2 b3 : Nat) (u1 u2 u3 : Value) (W : World) : Prop where
  bel : Below W3.heap.size W3 W
  mg : Mg3 W b1 b2 b3 T.edges.length T.decls.length T.refs.length 1 u1 u2 u3
  ba : Box W X5 31 [.int .i64 T.scopes, u1, u2, u3]
theorem LQc.still {W3 W W' : World} {T : DSg} {X5 b1 b2 b3 : Nat} {u1 u2 u3 : Value} (h : LQc W3 T X5 b1 b2 b3 u1 u2 u3 W) (hb : Below W.heap.size W W') : LQc W3 T X5 b1 b2 b3 u1 u2 u3 W' :=
  ⟨h.bel.trans (hb.mono h.bel.size), h.mg.still hb, h.ba.still hb⟩
theorem LQb.marked {W3 W W' : World} {T : DSg} {X1 X5 b1 b2 b3 : Nat} {u1 u2 u3 : Value} (h : LQb W3 T X1 X5 b1 b2 b3 u1 u2 u3 W) (ho : Out (X1 + 1) X5 W W') (hm : Mg3 W' b1 b2 b3 T.edges.length T.decls.length T.refs.length 1 u1 u2 u3) : LQc W3 T X5 b1 b2 b3 u1 u2 u3 W' := by
  have o := h.o
  exact ⟨outBel h.bel ho (by omega) h.bel.size, hm, h.ba.keep (ho.2.2.2.2 X5 h.ba.lt (by omega))⟩
set_option maxHeartbeats 25600000 in
theorem lawRn {S : Nat → Prop} (d : DSg) (v1 v2 v3 : Value) (n : Int) (nm : ByteArray) (w : World) (h : DSgL w S d v1 v2 v3) (hns : nm.size ≤ maxLen) :
    Calls Try.prog 6 #[.agg #[.int .i64 d.scopes, v1, v2, v3], .int .i64 n, .string nm] w fun e w' => e = .returned (.bool true) ∧ Below w.heap.size w w' := by
  have hb0 := bel_alloc w (.cells #[.int .i64 d.scopes, v1, v2, v3] 25)
  have HSZ := (show Hid _ from szSg_any d v1 v2 v3 _ 1048576 (h.still hb0) (Nat.le_refl _))
  have HTO := (show Hid (∀ w', Below w.heap.size w w' → d.Sm → Calls Try.prog 11 #[.agg #[.int .i64 d.scopes, v1, v2, v3]] w' fun e w'' => ∃ u1 u2 u3, e = .returned (.agg #[.int .i64 d.scopes, u1, u2, u3]) ∧ Below w'.heap.size w' w'' ∧ DSgO w'' (fun b => w'.heap.size ≤ b) d u1 u2 u3) from fun w' hb hs => toSg_any d v1 v2 v3 w' (h.still hb) hs)
  have HSP := (show Hid (∀ (wq : World) (S1 : Nat → Prop) (u1 u2 u3 : Value), DSgO wq S1 d u1 u2 u3 → Calls Try.prog 22 #[.agg #[.int .i64 d.scopes, u1, u2, u3], .int .i64 n, .string nm] wq (RnA (rnR d n nm) wq)) from fun wq S1 u1 u2 u3 hd => sRn22 d u1 u2 u3 n nm wq hd hns)
  have HIM := (show Hid (∀ (wq : World) (S1 : Nat → Prop) (u1 u2 u3 : Value), DSgO wq S1 d u1 u2 u3 → Calls Try.prog 23 #[.agg #[.int .i64 d.scopes, u1, u2, u3], .int .i64 n, .string nm] wq (RnA (rnR d n nm) wq)) from fun wq S1 u1 u2 u3 hd => iRn23 d u1 u2 u3 n nm wq hd hns)
  unfold RnA at HSP HIM
  generalize (rnR d n nm).1 = T at *
  generalize (rnR d n nm).2 = C at *
  have HEQ := (show Hid (∀ (wq : World) (S1 S2 : Nat → Prop) (y1 y2 y3 z1 z2 z3 : Value), DSgL wq S1 T y1 y2 y3 → DSgL wq S2 T z1 z2 z3 → Calls Try.prog 13 #[.agg #[.int .i64 T.scopes, y1, y2, y3], .agg #[.int .i64 T.scopes, z1, z2, z3]] wq fun e w' => e = .returned (.bool true) ∧ Below wq.heap.size wq w') from fun wq S1 S2 y1 y2 y3 z1 z2 z3 h1 h2 => eqSg_any T y1 z1 y2 z2 y3 z3 wq h1 h2)
  have HMS := (show Hid (∀ (wq : World) (lo hi : Nat) (u1 u2 u3 : Value), DSgO wq (fun b => lo ≤ b ∧ b < hi) d u1 u2 u3 → Calls Try.prog 17 #[.agg #[.int .i64 d.scopes, u1, u2, u3], .int .i64 1] wq fun e w' => (∃ k : Nat, e = .returned (.int .i64 (k : Nat))) ∧ Out lo hi wq w') from fun wq lo hi u1 u2 u3 ho => mark17 d u1 u2 u3 1 wq ho (by omega) (by omega))
  have HMK := (show Hid (∀ (wq : World) (lo hi b1 b2 b3 : Nat) (u1 u2 u3 : Value), Rg3 wq lo hi b1 b2 b3 T.edges.length T.decls.length T.refs.length u1 u2 u3 → hi ≤ wq.heap.size → Calls Try.prog 17 #[.agg #[.int .i64 T.scopes, u1, u2, u3], .int .i64 1] wq fun e w' => e = .returned (.int .i64 (1 + T.edges.length * 3 + T.decls.length * 2 + T.refs.length * 2 : Nat)) ∧ Out lo hi wq w' ∧ Mg3 w' b1 b2 b3 T.edges.length T.decls.length T.refs.length 1 u1 u2 u3) from fun wq lo hi b1 b2 b3 u1 u2 u3 hr hh => mkG17 T.scopes u1 u2 u3 1 wq hr hh (by omega) (by
    obtain ⟨_, _, _, _, q1, _⟩ := hr.r1
    obtain ⟨_, _, _, _, q2, _⟩ := hr.r2
    obtain ⟨_, _, _, _, q3, _⟩ := hr.r3
    omega))
  have HHD := (show Hid (∀ (wq : World) (b1 b2 b3 : Nat) (u1 u2 u3 : Value), Mg3 wq b1 b2 b3 T.edges.length T.decls.length T.refs.length 1 u1 u2 u3 → Calls Try.prog 24 #[.agg #[.int .i64 T.scopes, u1, u2, u3], .int .i64 1] wq fun e w' => e = .returned (.int .i64 (1 + T.edges.length * 3 + T.decls.length * 2 + T.refs.length * 2 : Nat)) ∧ Below wq.heap.size wq w') from fun wq b1 b2 b3 u1 u2 u3 hm => held24 T.scopes u1 u2 u3 1 wq hm (by omega) (by
    obtain ⟨_, _, _, q1, _⟩ := hm.m1
    obtain ⟨_, _, _, q2, _⟩ := hm.m2
    obtain ⟨_, _, _, q3, _⟩ := hm.m3
    omega))
  generalize 1 + T.edges.length * 3 + T.decls.length * 2 + T.refs.length * 2 = D at *
  obtain ⟨a1, p1, rfl, _⟩ := h.edges.form
  obtain ⟨a2, p2, rfl, _⟩ := h.decls.form
  obtain ⟨a3, p3, rfl, _⟩ := h.refs.form
  clear h
  unfold maxLen at hns
  have TH := (show Hid (Box _ w.heap.size 25 [.int .i64 d.scopes, .slice a1 d.edges.length p1, .slice a2 d.decls.length p2, .slice a3 d.refs.length p3]) from Box.new w 25 [.int .i64 d.scopes, .slice a1 d.edges.length p1, .slice a2 d.decls.length p2, .slice a3 d.refs.length p3])
  obtain ⟨T0, T1, T2, T3⟩ := box4 TH.out (Below.refl _ _)
  by_cases hbig : 1048576 < nm.size
  · go_enter Try.func6, Try.ntmps6
    go_wp2_with fail
    go_ret
    exact ⟨rfl, hb0⟩
  go_enter Try.func6, Try.ntmps6
  go_wp2_with fail
  refine Calls.mono HSZ.out ?_
  rintro e w1 ⟨rfl | ⟨m1, rfl, _, hsm1⟩, hb1⟩
  · have hbw := bel_trans hb0 hb1
    go_wp2_with fail
    go_ret
    exact ⟨rfl, hbw⟩
  have hbw1 := bel_trans hb0 hb1
  have HS := (show Hid _ from hsm1); clear hsm1 T0 T1 T2 T3
  obtain ⟨T0, T1, T2, T3⟩ := box4 TH.out hb1
  go_wp2_with fail
  refine Calls.mono (HTO.out _ hbw1 HS.out) ?_
  rintro e w2 ⟨i1, i2, i3, rfl, hb2, D2⟩
  have hbw2 := bel_trans hbw1 hb2
  have H5 := (show Hid _ from HSP.out w2 _ i1 i2 i3 D2)
  clear T0 T1 T2 T3
  go_wp2_with fail
  refine Calls.mono H5.out ?_
  rintro e w3 ⟨s1, s2, s3, sb1, sb2, sb3, rfl, hb3, ho3, _⟩
  obtain ⟨sa1, sp1, rfl, _⟩ := ho3.edges.form
  obtain ⟨sa2, sp2, rfl, _⟩ := ho3.decls.form
  obtain ⟨sa3, sp3, rfl, _⟩ := ho3.refs.form
  have HA0 := (show Hid (∀ wq, Below w3.heap.size w3 wq → Below w.heap.size w wq ∧ Box wq w.heap.size 25 [.int .i64 d.scopes, .slice a1 d.edges.length p1, .slice a2 d.decls.length p2, .slice a3 d.refs.length p3] ∧ DSgL wq (fun _ => True) T (.slice sa1 T.edges.length sp1) (.slice sa2 T.decls.length sp2) (.slice sa3 T.refs.length sp3)) from fun wq hq => ⟨bel_trans (bel_trans hbw2 hb3) hq, (TH.out.still (bel_trans (bel_trans hb1 hb2) hb3)).still hq, (ho3.still hq).mono (fun _ _ => trivial)⟩)
  clear hb3 ho3 hb2 D2 H5 HSP hbw1 hbw2 hb1 hb0 TH HSZ
  obtain ⟨Y0, hY0⟩ : ∃ Y0, w3.alloc (.cells #[.int .i64 T.scopes, .slice sa1 T.edges.length sp1, .slice sa2 T.decls.length sp2, .slice sa3 T.refs.length sp3] 31) = Y0 := ⟨_, rfl⟩
  have hbY : Below w3.heap.size w3 Y0 := by rw [← hY0]; exact bel_alloc _ _
  have hBY : Box Y0 w3.heap.size 31 [.int .i64 T.scopes, .slice sa1 T.edges.length sp1, .slice sa2 T.decls.length sp2, .slice sa3 T.refs.length sp3] := by rw [← hY0]; exact Box.new _ _ _
  have HA := (show Hid (∀ wq, Below Y0.heap.size Y0 wq → Below w.heap.size w wq ∧ Box wq w.heap.size 25 [.int .i64 d.scopes, .slice a1 d.edges.length p1, .slice a2 d.decls.length p2, .slice a3 d.refs.length p3] ∧ DSgL wq (fun _ => True) T (.slice sa1 T.edges.length sp1) (.slice sa2 T.decls.length sp2) (.slice sa3 T.refs.length sp3) ∧ Box wq w3.heap.size 31 [.int .i64 T.scopes, .slice sa1 T.edges.length sp1, .slice sa2 T.decls.length sp2, .slice sa3 T.refs.length sp3]) from fun wq hq => by
    have := HA0.out wq (hbY.trans (hq.mono hbY.size))
    exact ⟨this.1, this.2.1, this.2.2, hBY.still hq⟩)
  clear hbY hBY HA0
  have H3 := HA.out Y0 (Below.refl _ _)
  obtain ⟨T0, T1, T2, T3⟩ := box4 H3.2.1 (Below.refl _ _)
  have HC3 := (show Hid _ from HTO.out _ H3.1 HS.out)
  clear H3
  have hCC : ((C : Int) != C) = false := by simp
  go_wp2_with fail
  refine Calls.mono HC3.out ?_
  rintro e w4 ⟨x1, x2, x3, rfl, hb4, D4⟩
  obtain ⟨e1, f1, rfl, _⟩ := D4.edges.form
  obtain ⟨e2, f2, rfl, _⟩ := D4.decls.form
  obtain ⟨e3, f3, rfl, _⟩ := D4.refs.form
  have hba := bel_alloc w4 (.cells #[.int .i64 d.scopes, .slice e1 d.edges.length f1, .slice e2 d.decls.length f2, .slice e3 d.refs.length f3] 31)
  have H4 := (show Hid (Below Y0.heap.size Y0 (w4.alloc (.cells #[.int .i64 d.scopes, .slice e1 d.edges.length f1, .slice e2 d.decls.length f2, .slice e3 d.refs.length f3] 31)) ∧ Box (w4.alloc (.cells #[.int .i64 d.scopes, .slice e1 d.edges.length f1, .slice e2 d.decls.length f2, .slice e3 d.refs.length f3] 31)) w4.heap.size 31 [.int .i64 d.scopes, .slice e1 d.edges.length f1, .slice e2 d.decls.length f2, .slice e3 d.refs.length f3] ∧ DSgO (w4.alloc (.cells #[.int .i64 d.scopes, .slice e1 d.edges.length f1, .slice e2 d.decls.length f2, .slice e3 d.refs.length f3] 31)) (fun b => Y0.heap.size ≤ b ∧ b < w4.heap.size) d (.slice e1 d.edges.length f1) (.slice e2 d.decls.length f2) (.slice e3 d.refs.length f3) ∧ Y0.heap.size ≤ w4.heap.size) from ⟨bel_trans hb4 hba, Box.new _ _ _, D4.top.still hba, hb4.size⟩)
  clear hb4 hba D4 HC3 T0 T1 T2 T3 hY0
  obtain ⟨X0, X1, X2, X3⟩ := box4 H4.out.2.1 (Below.refl _ _)
  have HC4 := (show Hid _ from HIM.out (w4.alloc (.cells #[.int .i64 d.scopes, .slice e1 d.edges.length f1, .slice e2 d.decls.length f2, .slice e3 d.refs.length f3] 31)) _ _ _ _ H4.out.2.2.1)
  go_wp2_with fail
  refine Calls.mono HC4.out ?_
  rintro e w5 ⟨u1, u2, u3, b1, b2, b3, rfl, hb5, hg5, hr5⟩
  obtain ⟨ua1, up1, rfl, _⟩ := hg5.edges.form
  obtain ⟨ua2, up2, rfl, _⟩ := hg5.decls.form
  obtain ⟨ua3, up3, rfl, _⟩ := hg5.refs.form
  have hba5 := bel_alloc w5 (.cells #[.int .i64 T.scopes, .slice ua1 T.edges.length up1, .slice ua2 T.decls.length up2, .slice ua3 T.refs.length up3] 31)
  have hz4 : (w4.alloc (.cells #[.int .i64 d.scopes, .slice e1 d.edges.length f1, .slice e2 d.decls.length f2, .slice e3 d.refs.length f3] 31)).heap.size = w4.heap.size + 1 := by simp
  rw [hz4] at hg5 hr5
  have HL := (show Hid (LQ Y0 d T w4.heap.size w5.heap.size b1 b2 b3 (.slice e1 d.edges.length f1) (.slice e2 d.decls.length f2) (.slice e3 d.refs.length f3) (.slice ua1 T.edges.length up1) (.slice ua2 T.decls.length up2) (.slice ua3 T.refs.length up3) [.int .i64 d.scopes, .slice e1 d.edges.length f1, .slice e2 d.decls.length f2, .slice e3 d.refs.length f3] (w5.alloc (.cells #[.int .i64 T.scopes, .slice ua1 T.edges.length up1, .slice ua2 T.decls.length up2, .slice ua3 T.refs.length up3] 31))) from ⟨bel_trans (bel_trans H4.out.1 hb5) hba5, (H4.out.2.2.1.still hb5).still hba5, (H4.out.2.1.still hb5).still hba5, hg5.top.still hba5, hr5.still hba5, Box.new _ _ _, ⟨H4.out.2.2.2, by have := hb5.size; rw [hz4] at this; exact this⟩⟩)
  clear hb5 hg5 hr5 HC4 H4 X0 X1 X2 X3 hba5 hz4
  obtain ⟨Y5, hY5⟩ : ∃ Y5, w5.alloc (.cells #[.int .i64 T.scopes, .slice ua1 T.edges.length up1, .slice ua2 T.decls.length up2, .slice ua3 T.refs.length up3] 31) = Y5 := ⟨_, rfl⟩
  rw [hY5] at HL
  obtain ⟨X1, hX1⟩ : ∃ X1, w4.heap.size = X1 := ⟨_, rfl⟩
  obtain ⟨X5, hX5⟩ : ∃ X5, w5.heap.size = X5 := ⟨_, rfl⟩
  rw [hX1, hX5] at HL
  obtain ⟨X8, hX8⟩ : ∃ X8, w3.heap.size = X8 := ⟨_, rfl⟩
  rw [hX8] at HA
  have HLB := (show Hid (∀ wq, Below Y0.heap.size Y0 wq → wq.cell? ⟨X8, 0, none⟩ = some (.int .i64 T.scopes) ∧ wq.cell? ⟨X8, 1, none⟩ = some (.slice sa1 T.edges.length sp1) ∧ wq.cell? ⟨X8, 2, none⟩ = some (.slice sa2 T.decls.length sp2) ∧ wq.cell? ⟨X8, 3, none⟩ = some (.slice sa3 T.refs.length sp3)) from fun wq hq => box4 (HA.out wq hq).2.2.2 (Below.refl _ _))
  have HC5 := (show Hid (Calls Try.prog 13 #[.agg #[.int .i64 T.scopes, .slice ua1 T.edges.length up1, .slice ua2 T.decls.length up2, .slice ua3 T.refs.length up3], .agg #[.int .i64 T.scopes, .slice sa1 T.edges.length sp1, .slice sa2 T.decls.length sp2, .slice sa3 T.refs.length sp3]] Y5 fun e w' => e = .returned (.bool true) ∧ Below Y5.heap.size Y5 w') from HEQ.out Y5 _ _ _ _ _ _ _ _ HL.out.g (HA.out _ HL.out.bel).2.2.1)
  obtain ⟨X0, Xb, X2, X3⟩ := box4 HL.out.ba (Below.refl _ _)
  obtain ⟨P0, P1, P2, P3⟩ := HLB.out Y5 HL.out.bel
  go_wp2_with fail
  clear hY5 hX5 hX1 hX8
  refine Calls.mono HC5.out ?_
  rintro e w6 ⟨rfl, hb6⟩
  have HL6 := (show Hid (LQ Y0 d T X1 X5 b1 b2 b3 (.slice e1 d.edges.length f1) (.slice e2 d.decls.length f2) (.slice e3 d.refs.length f3) (.slice ua1 T.edges.length up1) (.slice ua2 T.decls.length up2) (.slice ua3 T.refs.length up3) [.int .i64 d.scopes, .slice e1 d.edges.length f1, .slice e2 d.decls.length f2, .slice e3 d.refs.length f3] w6) from HL.out.still hb6)
  clear hb6 HL HC5 X0 Xb X2 X3 P0 P1 P2 P3
  have HC := (show Hid (∀ wq, Below w6.heap.size w6 wq → (wq.cell? ⟨X1, 0, none⟩ = some (.int .i64 d.scopes) ∧ wq.cell? ⟨X1, 1, none⟩ = some (.slice e1 d.edges.length f1) ∧ wq.cell? ⟨X1, 2, none⟩ = some (.slice e2 d.decls.length f2) ∧ wq.cell? ⟨X1, 3, none⟩ = some (.slice e3 d.refs.length f3)) ∧ wq.cell? ⟨w.heap.size, 0, none⟩ = some (.int .i64 d.scopes) ∧ wq.cell? ⟨w.heap.size, 1, none⟩ = some (.slice a1 d.edges.length p1) ∧ wq.cell? ⟨w.heap.size, 2, none⟩ = some (.slice a2 d.decls.length p2) ∧ wq.cell? ⟨w.heap.size, 3, none⟩ = some (.slice a3 d.refs.length p3)) from fun wq hq => ⟨box4 HL6.out.bx hq, box4 (HA.out _ HL6.out.bel).2.1 hq⟩)
  have HB6 := (show Hid (Below w.heap.size w w6) from (HA.out _ HL6.out.bel).1)
  have HXL := (show Hid _ from HL6.out.x.lies)
  have HEG := (show Hid (∀ (wq : World) (y1 y2 y3 : Value) (S9 : Nat → Prop), Below w6.heap.size w6 wq → DSgO wq S9 d y1 y2 y3 → Calls Try.prog 13 #[.agg #[.int .i64 d.scopes, .slice e1 d.edges.length f1, .slice e2 d.decls.length f2, .slice e3 d.refs.length f3], .agg #[.int .i64 d.scopes, y1, y2, y3]] wq fun e w' => e = .returned (.bool true) ∧ Below wq.heap.size wq w') from fun wq y1 y2 y3 S9 hq hd => eqSg_any d _ y1 _ y2 _ y3 wq (HXL.out.still hq) hd.lies)
  go_wp2_with fail
  go_cut [56] from 52 to 55 (fun v wx => v = .bool false ∧ Hid (Below w6.heap.size w6 wx))
  case first =>
    have hbd := (Below.refl w6.heap.size w6).drew
    have hS0 := HC.out _ hbd
    have hB0 := bel_trans HB6.out hbd
    go_region_held3 (fun wq => (wq.cell? ⟨X1, 0, none⟩ = some (.int .i64 d.scopes) ∧ wq.cell? ⟨X1, 1, none⟩ = some (.slice e1 d.edges.length f1) ∧ wq.cell? ⟨X1, 2, none⟩ = some (.slice e2 d.decls.length f2) ∧ wq.cell? ⟨X1, 3, none⟩ = some (.slice e3 d.refs.length f3)) ∧ wq.cell? ⟨w.heap.size, 0, none⟩ = some (.int .i64 d.scopes) ∧ wq.cell? ⟨w.heap.size, 1, none⟩ = some (.slice a1 d.edges.length p1) ∧ wq.cell? ⟨w.heap.size, 2, none⟩ = some (.slice a2 d.decls.length p2) ∧ wq.cell? ⟨w.heap.size, 3, none⟩ = some (.slice a3 d.refs.length p3)) (first | with_reducible exact hS0 | with_reducible exact hS1 | with_reducible exact hS2) ((first
      | (go_at_call 13; refine Calls.mono (HEG.out _ _ _ _ _ hF1 D7) ?_; rintro e w8 ⟨rfl, hb8⟩; have hF2 := bel_trans hF1 hb8; have hS2 := HC.out _ hF2)
      | (go_at_call 11; refine Calls.mono (HTO.out _ hB0 HS.out) ?_; rintro e w7 ⟨y1, y2, y3, rfl, hb7, D7⟩; have hF1 := bel_trans hbd hb7; have hS1 := HC.out _ hF1)))
    all_goals go_wp2_with fail
    all_goals go_meet
    all_goals exact ⟨rfl, hF2⟩
  case rest =>
    obtain ⟨rfl, HXD⟩ := hcut
    obtain ⟨wy, rfl⟩ : ∃ wy, wy = wc := ⟨_, rfl⟩
    have HL7 := (show Hid (LQ Y0 d T X1 X5 b1 b2 b3 (.slice e1 d.edges.length f1) (.slice e2 d.decls.length f2) (.slice e3 d.refs.length f3) (.slice ua1 T.edges.length up1) (.slice ua2 T.decls.length up2) (.slice ua3 T.refs.length up3) [.int .i64 d.scopes, .slice e1 d.edges.length f1, .slice e2 d.decls.length f2, .slice e3 d.refs.length f3] wy) from HL6.out.still HXD.out)
    clear HXD HC HB6 HXL HEG HL6
    obtain ⟨X0, Xb, X2, X3⟩ := box4 HL7.out.bx (Below.refl _ _)
    have HC7 := (show Hid (Calls Try.prog 17 #[.agg #[.int .i64 d.scopes, .slice e1 d.edges.length f1, .slice e2 d.decls.length f2, .slice e3 d.refs.length f3], .int .i64 1] wy fun e w' => (∃ k : Nat, e = .returned (.int .i64 (k : Nat))) ∧ Out Y0.heap.size X1 wy w') from HMS.out wy _ _ _ _ _ HL7.out.x)
    go_wp2_with fail
    refine Calls.mono HC7.out ?_
    rintro e w8 ⟨⟨K, rfl⟩, ho8⟩
    have HL8 := (show Hid (LQb Y0 T X1 X5 b1 b2 b3 (.slice ua1 T.edges.length up1) (.slice ua2 T.decls.length up2) (.slice ua3 T.refs.length up3) w8) from HL7.out.marked ho8)
    clear ho8 HL7 HC7 X0 Xb X2 X3
    have hK0 : decide ((K : Int) < 0) = false := by simp
    have HC8 := (show Hid (Calls Try.prog 13 #[.agg #[.int .i64 T.scopes, .slice ua1 T.edges.length up1, .slice ua2 T.decls.length up2, .slice ua3 T.refs.length up3], .agg #[.int .i64 T.scopes, .slice sa1 T.edges.length sp1, .slice sa2 T.decls.length sp2, .slice sa3 T.refs.length sp3]] w8 fun e w' => e = .returned (.bool true) ∧ Below w8.heap.size w8 w') from HEQ.out w8 _ _ _ _ _ _ _ _ HL8.out.g (HA.out _ HL8.out.bel).2.2.1)
    obtain ⟨X0, Xb, X2, X3⟩ := box4 HL8.out.ba (Below.refl _ _)
    obtain ⟨P0, P1, P2, P3⟩ := HLB.out w8 HL8.out.bel
    go_wp2_with fail
    refine Calls.mono HC8.out ?_
    rintro e w9 ⟨rfl, hb9⟩
    have HL9 := (show Hid (LQb Y0 T X1 X5 b1 b2 b3 (.slice ua1 T.edges.length up1) (.slice ua2 T.decls.length up2) (.slice ua3 T.refs.length up3) w9) from HL8.out.still hb9)
    clear hb9 HL8 HC8 hK0 X0 Xb X2 X3 P0 P1 P2 P3
    have HC9 := (show Hid (Calls Try.prog 17 #[.agg #[.int .i64 T.scopes, .slice ua1 T.edges.length up1, .slice ua2 T.decls.length up2, .slice ua3 T.refs.length up3], .int .i64 1] w9 fun e w' => e = .returned (.int .i64 (D : Nat)) ∧ Out (X1 + 1) X5 w9 w' ∧ Mg3 w' b1 b2 b3 T.edges.length T.decls.length T.refs.length 1 (.slice ua1 T.edges.length up1) (.slice ua2 T.decls.length up2) (.slice ua3 T.refs.length up3)) from HMK.out w9 _ _ _ _ _ _ _ _ HL9.out.rk (Nat.le_of_lt HL9.out.ba.lt))
    have hD0 : decide ((D : Int) < 0) = false := by simp
    have hD1 : ((D : Int) != (D : Int)) = false := by simp
    obtain ⟨X0, Xb, X2, X3⟩ := box4 HL9.out.ba (Below.refl _ _)
    go_wp2_with fail
    refine Calls.mono HC9.out ?_
    rintro e w10 ⟨rfl, ho10, hg10⟩
    have HL10 := (show Hid (LQc Y0 T X5 b1 b2 b3 (.slice ua1 T.edges.length up1) (.slice ua2 T.decls.length up2) (.slice ua3 T.refs.length up3) w10) from HL9.out.marked ho10 hg10)
    have HC10 := (show Hid (Calls Try.prog 24 #[.agg #[.int .i64 T.scopes, .slice ua1 T.edges.length up1, .slice ua2 T.decls.length up2, .slice ua3 T.refs.length up3], .int .i64 1] w10 fun e w' => e = .returned (.int .i64 (D : Nat)) ∧ Below w10.heap.size w10 w') from HHD.out w10 _ _ _ _ _ _ hg10)
    clear ho10 hg10 HL9 HC9 X0 Xb X2 X3
    obtain ⟨X0, Xb, X2, X3⟩ := box4 HL10.out.ba (Below.refl _ _)
    go_wp2_with fail
    refine Calls.mono HC10.out ?_
    rintro e w11 ⟨rfl, hb11⟩
    have HL11 := (show Hid (LQc Y0 T X5 b1 b2 b3 (.slice ua1 T.edges.length up1) (.slice ua2 T.decls.length up2) (.slice ua3 T.refs.length up3) w11) from HL10.out.still hb11)
    clear hb11 HL10 HC10 X0 Xb X2 X3
    have H11 := HA.out _ HL11.out.bel
    obtain ⟨T0, T1, T2, T3⟩ := box4 H11.2.1 (Below.refl _ _)
    have HC11 := (show Hid _ from HTO.out _ H11.1 HS.out)
    clear H11
    go_wp2_with fail
    refine Calls.mono HC11.out ?_
    rintro e w12 ⟨y1, y2, y3, rfl, hb12, D12⟩
    have HL12 := (show Hid (LQc Y0 T X5 b1 b2 b3 (.slice ua1 T.edges.length up1) (.slice ua2 T.decls.length up2) (.slice ua3 T.refs.length up3) w12) from HL11.out.still hb12)
    have HC12 := (show Hid _ from HIM.out w12 _ y1 y2 y3 D12)
    clear hb12 D12 HL11 HC11 T0 T1 T2 T3
    go_wp2_with fail
    refine Calls.mono HC12.out ?_
    rintro e w13 ⟨z1, z2, z3, zb1, zb2, zb3, rfl, hb13, hg13, _⟩
    obtain ⟨za1, zp1, rfl, _⟩ := hg13.edges.form
    obtain ⟨za2, zp2, rfl, _⟩ := hg13.decls.form
    obtain ⟨za3, zp3, rfl, _⟩ := hg13.refs.form
    have hba13 := bel_alloc w13 (.cells #[.int .i64 T.scopes, .slice za1 T.edges.length zp1, .slice za2 T.decls.length zp2, .slice za3 T.refs.length zp3] 31)
    have HL13 := (show Hid (LQc Y0 T X5 b1 b2 b3 (.slice ua1 T.edges.length up1) (.slice ua2 T.decls.length up2) (.slice ua3 T.refs.length up3) (w13.alloc (.cells #[.int .i64 T.scopes, .slice za1 T.edges.length zp1, .slice za2 T.decls.length zp2, .slice za3 T.refs.length zp3] 31))) from (HL12.out.still hb13).still hba13)
    have HC13 := (show Hid (Calls Try.prog 13 #[.agg #[.int .i64 T.scopes, .slice za1 T.edges.length zp1, .slice za2 T.decls.length zp2, .slice za3 T.refs.length zp3], .agg #[.int .i64 T.scopes, .slice sa1 T.edges.length sp1, .slice sa2 T.decls.length sp2, .slice sa3 T.refs.length sp3]] (w13.alloc (.cells #[.int .i64 T.scopes, .slice za1 T.edges.length zp1, .slice za2 T.decls.length zp2, .slice za3 T.refs.length zp3] 31)) fun e w' => e = .returned (.bool true) ∧ Below (w13.alloc (.cells #[.int .i64 T.scopes, .slice za1 T.edges.length zp1, .slice za2 T.decls.length zp2, .slice za3 T.refs.length zp3] 31)).heap.size (w13.alloc (.cells #[.int .i64 T.scopes, .slice za1 T.edges.length zp1, .slice za2 T.decls.length zp2, .slice za3 T.refs.length zp3] 31)) w') from HEQ.out _ _ _ _ _ _ _ _ _ (hg13.still hba13) (HA.out _ HL13.out.bel).2.2.1)
    obtain ⟨P0, P1, P2, P3⟩ := HLB.out _ HL13.out.bel
    clear hb13 hg13 HL12 HC12 hba13
    go_wp2_with fail
    refine Calls.mono HC13.out ?_
    rintro e w14 ⟨rfl, hb14⟩
    have HL14 := (show Hid (LQc Y0 T X5 b1 b2 b3 (.slice ua1 T.edges.length up1) (.slice ua2 T.decls.length up2) (.slice ua3 T.refs.length up3) w14) from HL13.out.still hb14)
    have HC14 := (show Hid (Calls Try.prog 24 #[.agg #[.int .i64 T.scopes, .slice ua1 T.edges.length up1, .slice ua2 T.decls.length up2, .slice ua3 T.refs.length up3], .int .i64 1] w14 fun e w' => e = .returned (.int .i64 (D : Nat)) ∧ Below w14.heap.size w14 w') from HHD.out w14 _ _ _ _ _ _ HL14.out.mg)
    clear hb14 HL13 HC13 P0 P1 P2 P3
    obtain ⟨X0, Xb, X2, X3⟩ := box4 HL14.out.ba (Below.refl _ _)
    go_wp2_with fail
    refine Calls.mono HC14.out ?_
    rintro e w15 ⟨rfl, hb15⟩
    have HE := (show Hid _ from (HA.out _ (bel_trans HL14.out.bel hb15)).1)
    clear hb15 HL14 HC14 X0 Xb X2 X3
    go_wp2_with fail
    go_ret
    exact ⟨rfl, HE.out⟩
end Go.Proofs.Ytkkebcbcbihbiaa
