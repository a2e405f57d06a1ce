import Derived.Test.YtkkebcbcbihbiaaHb
import Derived.Test.YtkkebcbcbihbiaaLawSg
/-! The law FnExactResolve, walked. -/
namespace Go.Proofs.Ytkkebcbcbihbiaa
open Go.RowKit Go.Deep
set_option linter.unusedVariables false
set_option maxRecDepth 100000
set_option linter.unusedSimpArgs false

theorem rs_le (es : List DSEdge) (ds : List DSpot) (nm : ByteArray) : ∀ (f : Nat) (A : Int → Bool), (rs es ds nm f A).length ≤ ds.length
  | 0, _ => Nat.zero_le _
  | f + 1, A => by
    rw [rs]
    split
    · exact dcl_le _ _ _ _
    · split
      · exact dcl_le _ _ _ _
      · exact rs_le es ds nm f _
theorem reR_le (t : DSg) (ref : Int) : (reR t ref).1.length ≤ 120 := by
  unfold reR
  split
  · rename_i h
    obtain ⟨_, _, _, _, _, f4, _⟩ := sg_facts h
    split
    · split
      · simp
      · exact Nat.le_trans (rs_le _ _ _ _ _) f4
    · simp
  · simp
theorem outBel {w Z Z' : World} {lo hi B : Nat} (h : Below B w Z) (ho : Out lo hi Z Z') (hB : B ≤ lo) (hz : B ≤ Z.heap.size) : Below B w Z' :=
  ⟨ho.1.trans h.os, ho.2.1.trans h.tape, ho.2.2.1.trans h.output, Nat.le_trans h.size ho.2.2.2.1, fun k hk => (ho.2.2.2.2 k (by omega) (by omega)).trans (h.block k hk)⟩
/-- What lies there behind both answers. -/
structure LR (W3 : World) (d : DSg) (L : List Int) (X1 b0 gb : Nat) (x1 x2 x3 g : Value) (c0 : List Value) (W : World) : Prop where
  bel : Below W3.heap.size W3 W
  x : DSgO W (fun b => W3.heap.size ≤ b ∧ b < X1) d x1 x2 x3
  bx : Box W b0 31 c0
  g : OwnI W gb L g
  o : W3.heap.size ≤ X1 ∧ X1 ≤ b0 ∧ b0 < gb
theorem LR.still {W3 W W' : World} {d : DSg} {L : List Int} {X1 b0 gb : Nat} {x1 x2 x3 g : Value} {c0 : List Value} (h : LR W3 d L X1 b0 gb x1 x2 x3 g c0 W) (hb : Below W.heap.size W W') : LR W3 d L X1 b0 gb x1 x2 x3 g c0 W' :=
  ⟨h.bel.trans (hb.mono h.bel.size), h.x.still hb, h.bx.still hb, h.g.still hb, h.o⟩
structure LRb (W3 : World) (L : List Int) (gb : Nat) (g : Value) (W : World) : Prop where
  bel : Below W3.heap.size W3 W
  g : OwnI W gb L g
  o : W3.heap.size ≤ gb
theorem LRb.still {W3 W W' : World} {L : List Int} {gb : Nat} {g : Value} (h : LRb W3 L gb g W) (hb : Below W.heap.size W W') : LRb W3 L gb g W' :=
  ⟨h.bel.trans (hb.mono h.bel.size), h.g.still hb, h.o⟩
theorem LR.marked {W3 W W' : World} {d : DSg} {L : List Int} {X1 b0 gb : Nat} {x1 x2 x3 g : Value} {c0 : List Value} (h : LR W3 d L X1 b0 gb x1 x2 x3 g c0 W) (ho : Out W3.heap.size X1 W W') : LRb W3 L gb g W' := by
  have o := h.o
  exact ⟨outBel h.bel ho (Nat.le_refl _) h.bel.size, h.g.out ho (by omega), by omega⟩
theorem LRb.marked {W3 W W' : World} {L L' : List Int} {gb : Nat} {g : Value} (h : LRb W3 L gb g W) (ho : Out gb (gb + 1) W W') (hg : OwnI W' gb L' g) : LRb W3 L' gb g W' :=
  ⟨outBel h.bel ho h.o h.bel.size, hg, h.o⟩
set_option maxHeartbeats 12800000 in
theorem lawRe {S : Nat → Prop} (d : DSg) (v1 v2 v3 : Value) (ref : Int) (w : World) (h : DSgL w S d v1 v2 v3) :
    Calls Try.prog 4 #[.agg #[.int .i64 d.scopes, v1, v2, v3], .int .i64 ref] w fun e w' => e = .returned (.bool true) ∧ Below w.heap.size w w' := by
  have hb0 := bel_alloc w (.cells #[.int .i64 d.scopes, v1, v2, v3] 25)
  have HSZ := (show Hid _ from szSg_any d v1 v2 v3 _ 1048576 (h.still hb0) (Nat.le_refl _))
  have HTO := (show Hid (∀ w', Below w.heap.size w w' → d.Sm → Calls Try.prog 11 #[.agg #[.int .i64 d.scopes, v1, v2, v3]] w' fun e w'' => ∃ u1 u2 u3, e = .returned (.agg #[.int .i64 d.scopes, u1, u2, u3]) ∧ Below w'.heap.size w' w'' ∧ DSgO w'' (fun b => w'.heap.size ≤ b) d u1 u2 u3) from fun w' hb hs => toSg_any d v1 v2 v3 w' (h.still hb) hs)
  have HSP := (show Hid (∀ (wq : World) (S1 : Nat → Prop) (u1 u2 u3 : Value), DSgL wq S1 d u1 u2 u3 → Calls Try.prog 14 #[.agg #[.int .i64 d.scopes, u1, u2, u3], .int .i64 ref] wq (ReA (reR d ref) wq)) from fun wq S1 u1 u2 u3 hd => sRes14 d u1 u2 u3 ref wq hd)
  have HIM := (show Hid (∀ (wq : World) (S1 : Nat → Prop) (u1 u2 u3 : Value), DSgL wq S1 d u1 u2 u3 → Calls Try.prog 15 #[.agg #[.int .i64 d.scopes, u1, u2, u3], .int .i64 ref] wq (ReA (reR d ref) wq)) from fun wq S1 u1 u2 u3 hd => iRes15 d u1 u2 u3 ref wq hd)
  have HLE := (show Hid _ from reR_le d ref)
  unfold ReA at HSP HIM
  generalize (reR d ref).1 = L at *
  generalize (reR d ref).2 = C at *
  have HEQ := (show Hid (∀ (wq : World) (S1 S2 : Nat → Prop) (v v' : Value), Ints wq S1 L v → Ints wq S2 L v' → Calls Try.prog 16 #[v, v'] wq fun e w' => e = .returned (.bool true) ∧ Below wq.heap.size wq w') from fun wq S1 S2 v v' h1 h2 => eqInts_any L v v' wq h1 h2)
  have HMK := (show Hid (∀ (wq : World) (gb : Nat) (v : Value), OwnI wq gb L v → Calls Try.prog 18 #[v, .int .i64 1] wq fun e w' => e = .returned (.int .i64 (1 + L.length : Nat)) ∧ Out gb (gb + 1) wq w' ∧ OwnI w' gb (cnt 1 L.length) v) from fun wq gb v ho => markInts_any L gb 1 v wq ho (by have := HLE.out; omega))
  have HHD := (show Hid (∀ (wq : World) (gb : Nat) (v : Value), OwnI wq gb (cnt 1 L.length) v → Calls Try.prog 19 #[v, .int .i64 1] wq fun e w' => e = .returned (.int .i64 (1 + L.length : Nat)) ∧ Below wq.heap.size wq w') from fun wq gb v ho => heldInts_any gb 1 L.length v wq ho (by have := HLE.out; omega))
  have HMS := (show Hid (∀ (wq : World) (lo hi : Nat) (u1 u2 u3 : Value), DSgO wq (fun b => lo ≤ b ∧ b < hi) d u1 u2 u3 → Calls Try.prog 17 #[.agg #[.int .i64 d.scopes, u1, u2, u3], .int .i64 1] wq fun e w' => (∃ k : Nat, e = .returned (.int .i64 (k : Nat))) ∧ Out lo hi wq w') from fun wq lo hi u1 u2 u3 ho => mark17 d u1 u2 u3 1 wq ho (by omega) (by omega))
  clear HLE
  generalize 1 + L.length = D at *
  obtain ⟨a1, p1, rfl, _⟩ := h.edges.form
  obtain ⟨a2, p2, rfl, _⟩ := h.decls.form
  obtain ⟨a3, p3, rfl, _⟩ := h.refs.form
  clear h
  have TH := (show Hid (Box _ w.heap.size 25 [.int .i64 d.scopes, .slice a1 d.edges.length p1, .slice a2 d.decls.length p2, .slice a3 d.refs.length p3]) from Box.new w 25 [.int .i64 d.scopes, .slice a1 d.edges.length p1, .slice a2 d.decls.length p2, .slice a3 d.refs.length p3])
  obtain ⟨T0, T1, T2, T3⟩ := box4 TH.out (Below.refl _ _)
  go_enter Try.func4, Try.ntmps4
  go_wp2_with fail
  refine Calls.mono HSZ.out ?_
  rintro e w1 ⟨rfl | ⟨m1, rfl, _, hsm1⟩, hb1⟩
  · have hbw := bel_trans hb0 hb1
    go_wp2_with fail
    go_ret
    exact ⟨rfl, hbw⟩
  have hbw1 := bel_trans hb0 hb1
  have HS := (show Hid _ from hsm1); clear hsm1 T0 T1 T2 T3
  obtain ⟨T0, T1, T2, T3⟩ := box4 TH.out hb1
  go_wp2_with fail
  refine Calls.mono (HTO.out _ hbw1 HS.out) ?_
  rintro e w2 ⟨u1, u2, u3, rfl, hb2, D2⟩
  have hbw2 := bel_trans hbw1 hb2
  have H5 := (show Hid _ from HSP.out w2 _ u1 u2 u3 D2.lies)
  clear T0 T1 T2 T3
  go_wp2_with fail
  refine Calls.mono H5.out ?_
  rintro e w3 ⟨s1, s2, rfl, hb3, ho3⟩
  have HA := (show Hid (∀ wq, Below w3.heap.size w3 wq → Below w.heap.size w wq ∧ Box wq w.heap.size 25 [.int .i64 d.scopes, .slice a1 d.edges.length p1, .slice a2 d.decls.length p2, .slice a3 d.refs.length p3] ∧ Ints wq (fun _ => True) L (.slice s1 L.length s2)) from fun wq hq => ⟨bel_trans (bel_trans hbw2 hb3) hq, (TH.out.still (bel_trans (bel_trans hb1 hb2) hb3)).still hq, (ownInts ho3).still hq⟩)
  clear hb3 ho3 hb2 D2 H5 HSP hbw1 hbw2 hb1 hb0 TH HSZ
  have H3 := HA.out w3 (Below.refl _ _)
  obtain ⟨T0, T1, T2, T3⟩ := box4 H3.2.1 (Below.refl _ _)
  have HC3 := (show Hid _ from HTO.out _ H3.1 HS.out)
  clear H3
  have hCC : ((C : Int) != C) = false := by simp
  go_wp2_with fail
  refine Calls.mono HC3.out ?_
  rintro e w4 ⟨x1, x2, x3, rfl, hb4, D4⟩
  obtain ⟨e1, f1, rfl, _⟩ := D4.edges.form
  obtain ⟨e2, f2, rfl, _⟩ := D4.decls.form
  obtain ⟨e3, f3, rfl, _⟩ := D4.refs.form
  have hba := bel_alloc w4 (.cells #[.int .i64 d.scopes, .slice e1 d.edges.length f1, .slice e2 d.decls.length f2, .slice e3 d.refs.length f3] 31)
  have H4 := (show Hid (Below w3.heap.size w3 (w4.alloc (.cells #[.int .i64 d.scopes, .slice e1 d.edges.length f1, .slice e2 d.decls.length f2, .slice e3 d.refs.length f3] 31)) ∧ Box (w4.alloc (.cells #[.int .i64 d.scopes, .slice e1 d.edges.length f1, .slice e2 d.decls.length f2, .slice e3 d.refs.length f3] 31)) w4.heap.size 31 [.int .i64 d.scopes, .slice e1 d.edges.length f1, .slice e2 d.decls.length f2, .slice e3 d.refs.length f3] ∧ DSgO (w4.alloc (.cells #[.int .i64 d.scopes, .slice e1 d.edges.length f1, .slice e2 d.decls.length f2, .slice e3 d.refs.length f3] 31)) (fun b => w3.heap.size ≤ b ∧ b < w4.heap.size) d (.slice e1 d.edges.length f1) (.slice e2 d.decls.length f2) (.slice e3 d.refs.length f3) ∧ w3.heap.size ≤ w4.heap.size) from ⟨bel_trans hb4 hba, Box.new _ _ _, D4.top.still hba, hb4.size⟩)
  clear hb4 hba D4 HC3 T0 T1 T2 T3
  obtain ⟨X0, X1, X2, X3⟩ := box4 H4.out.2.1 (Below.refl _ _)
  have HC4 := (show Hid _ from HIM.out (w4.alloc (.cells #[.int .i64 d.scopes, .slice e1 d.edges.length f1, .slice e2 d.decls.length f2, .slice e3 d.refs.length f3] 31)) _ _ _ _ H4.out.2.2.1.lies)
  go_wp2_with fail
  refine Calls.mono HC4.out ?_
  rintro e w5 ⟨ga, gc, rfl, hb5, ho5⟩
  obtain ⟨gb, hg5, hgb⟩ := own_ints ho5
  have HL := (show Hid (LR w3 d L w4.heap.size w4.heap.size gb (.slice e1 d.edges.length f1) (.slice e2 d.decls.length f2) (.slice e3 d.refs.length f3) (.slice ga L.length gc) [.int .i64 d.scopes, .slice e1 d.edges.length f1, .slice e2 d.decls.length f2, .slice e3 d.refs.length f3] w5) from ⟨bel_trans H4.out.1 hb5, H4.out.2.2.1.still hb5, H4.out.2.1.still hb5, hg5, by have := H4.out.2.2.2; simp at hgb; omega⟩)
  clear hb5 ho5 hg5 hgb HC4 H4 X0 X1 X2 X3
  generalize w4.heap.size = X1 at *
  have HC5 := (show Hid (Calls Try.prog 16 #[.slice ga L.length gc, .slice s1 L.length s2] w5 fun e w' => e = .returned (.bool true) ∧ Below w5.heap.size w5 w') from HEQ.out w5 _ _ _ _ HL.out.g.ints (HA.out _ HL.out.bel).2.2)
  go_wp2_with fail
  refine Calls.mono HC5.out ?_
  rintro e w6 ⟨rfl, hb6⟩
  have HL6 := (show Hid (LR w3 d L X1 X1 gb (.slice e1 d.edges.length f1) (.slice e2 d.decls.length f2) (.slice e3 d.refs.length f3) (.slice ga L.length gc) [.int .i64 d.scopes, .slice e1 d.edges.length f1, .slice e2 d.decls.length f2, .slice e3 d.refs.length f3] w6) from HL.out.still hb6)
  clear hb6 HL HC5
  have HC := (show Hid (∀ wq, Below w6.heap.size w6 wq → (wq.cell? ⟨X1, 0, none⟩ = some (.int .i64 d.scopes) ∧ wq.cell? ⟨X1, 1, none⟩ = some (.slice e1 d.edges.length f1) ∧ wq.cell? ⟨X1, 2, none⟩ = some (.slice e2 d.decls.length f2) ∧ wq.cell? ⟨X1, 3, none⟩ = some (.slice e3 d.refs.length f3)) ∧ wq.cell? ⟨w.heap.size, 0, none⟩ = some (.int .i64 d.scopes) ∧ wq.cell? ⟨w.heap.size, 1, none⟩ = some (.slice a1 d.edges.length p1) ∧ wq.cell? ⟨w.heap.size, 2, none⟩ = some (.slice a2 d.decls.length p2) ∧ wq.cell? ⟨w.heap.size, 3, none⟩ = some (.slice a3 d.refs.length p3)) from fun wq hq => ⟨box4 HL6.out.bx hq, box4 (HA.out _ HL6.out.bel).2.1 hq⟩)
  have HB6 := (show Hid (Below w.heap.size w w6) from (HA.out _ HL6.out.bel).1)
  have HXL := (show Hid _ from HL6.out.x.lies)
  have HEG := (show Hid (∀ (wq : World) (y1 y2 y3 : Value) (S9 : Nat → Prop), Below w6.heap.size w6 wq → DSgO wq S9 d y1 y2 y3 → Calls Try.prog 13 #[.agg #[.int .i64 d.scopes, .slice e1 d.edges.length f1, .slice e2 d.decls.length f2, .slice e3 d.refs.length f3], .agg #[.int .i64 d.scopes, y1, y2, y3]] wq fun e w' => e = .returned (.bool true) ∧ Below wq.heap.size wq w') from fun wq y1 y2 y3 S9 hq hd => eqSg_any d _ y1 _ y2 _ y3 wq (HXL.out.still hq) hd.lies)
  go_wp2_with fail
  go_cut [49] from 45 to 48 (fun v wx => v = .bool false ∧ Hid (Below w6.heap.size w6 wx))
  case first =>
    have hbd := (Below.refl w6.heap.size w6).drew
    have hS0 := HC.out _ hbd
    have hB0 := bel_trans HB6.out hbd
    go_region_held3 (fun wq => (wq.cell? ⟨X1, 0, none⟩ = some (.int .i64 d.scopes) ∧ wq.cell? ⟨X1, 1, none⟩ = some (.slice e1 d.edges.length f1) ∧ wq.cell? ⟨X1, 2, none⟩ = some (.slice e2 d.decls.length f2) ∧ wq.cell? ⟨X1, 3, none⟩ = some (.slice e3 d.refs.length f3)) ∧ wq.cell? ⟨w.heap.size, 0, none⟩ = some (.int .i64 d.scopes) ∧ wq.cell? ⟨w.heap.size, 1, none⟩ = some (.slice a1 d.edges.length p1) ∧ wq.cell? ⟨w.heap.size, 2, none⟩ = some (.slice a2 d.decls.length p2) ∧ wq.cell? ⟨w.heap.size, 3, none⟩ = some (.slice a3 d.refs.length p3)) (first | with_reducible exact hS0 | with_reducible exact hS1 | with_reducible exact hS2) ((first
      | (go_at_call 13; refine Calls.mono (HEG.out _ _ _ _ _ hF1 D7) ?_; rintro e w8 ⟨rfl, hb8⟩; have hF2 := bel_trans hF1 hb8; have hS2 := HC.out _ hF2)
      | (go_at_call 11; refine Calls.mono (HTO.out _ hB0 HS.out) ?_; rintro e w7 ⟨y1, y2, y3, rfl, hb7, D7⟩; have hF1 := bel_trans hbd hb7; have hS1 := HC.out _ hF1)))
    all_goals go_wp2_with fail
    all_goals go_meet
    all_goals exact ⟨rfl, hF2⟩
  case rest =>
    obtain ⟨rfl, HXD⟩ := hcut
    obtain ⟨wy, rfl⟩ : ∃ wy, wy = wc := ⟨_, rfl⟩
    have HL7 := (show Hid (LR w3 d L X1 X1 gb (.slice e1 d.edges.length f1) (.slice e2 d.decls.length f2) (.slice e3 d.refs.length f3) (.slice ga L.length gc) [.int .i64 d.scopes, .slice e1 d.edges.length f1, .slice e2 d.decls.length f2, .slice e3 d.refs.length f3] wy) from HL6.out.still HXD.out)
    clear HXD HC HB6 HXL HEG HL6
    obtain ⟨X0, Xb, X2, X3⟩ := box4 HL7.out.bx (Below.refl _ _)
    have HC7 := (show Hid (Calls Try.prog 17 #[.agg #[.int .i64 d.scopes, .slice e1 d.edges.length f1, .slice e2 d.decls.length f2, .slice e3 d.refs.length f3], .int .i64 1] wy fun e w' => (∃ k : Nat, e = .returned (.int .i64 (k : Nat))) ∧ Out w3.heap.size X1 wy w') from HMS.out wy _ _ _ _ _ HL7.out.x)
    go_wp2_with fail
    refine Calls.mono HC7.out ?_
    rintro e w8 ⟨⟨K, rfl⟩, ho8⟩
    have HL8 := (show Hid (LRb w3 L gb (.slice ga L.length gc) w8) from HL7.out.marked ho8)
    clear ho8 HL7 HC7 X0 Xb X2 X3
    have hK0 : decide ((K : Int) < 0) = false := by simp
    have HC8 := (show Hid (Calls Try.prog 16 #[.slice ga L.length gc, .slice s1 L.length s2] w8 fun e w' => e = .returned (.bool true) ∧ Below w8.heap.size w8 w') from HEQ.out w8 _ _ _ _ HL8.out.g.ints (HA.out _ HL8.out.bel).2.2)
    go_wp2_with fail
    refine Calls.mono HC8.out ?_
    rintro e w9 ⟨rfl, hb9⟩
    have HL9 := (show Hid (LRb w3 L gb (.slice ga L.length gc) w9) from HL8.out.still hb9)
    clear hb9 HL8 HC8 hK0
    have HC9 := (show Hid (Calls Try.prog 18 #[.slice ga L.length gc, .int .i64 1] w9 fun e w' => e = .returned (.int .i64 (D : Nat)) ∧ Out gb (gb + 1) w9 w' ∧ OwnI w' gb (cnt 1 L.length) (.slice ga L.length gc)) from HMK.out w9 gb _ HL9.out.g)
    have hD0 : decide ((D : Int) < 0) = false := by simp
    have hD1 : ((D : Int) != (D : Int)) = false := by simp
    go_wp2_with fail
    refine Calls.mono HC9.out ?_
    rintro e w10 ⟨rfl, ho10, hg10⟩
    have HL10 := (show Hid (LRb w3 (cnt 1 L.length) gb (.slice ga L.length gc) w10) from HL9.out.marked ho10 hg10)
    have HC10 := (show Hid (Calls Try.prog 19 #[.slice ga L.length gc, .int .i64 1] w10 fun e w' => e = .returned (.int .i64 (D : Nat)) ∧ Below w10.heap.size w10 w') from HHD.out w10 gb _ hg10)
    clear ho10 hg10 HL9 HC9
    go_wp2_with fail
    refine Calls.mono HC10.out ?_
    rintro e w11 ⟨rfl, hb11⟩
    have HL11 := (show Hid (LRb w3 (cnt 1 L.length) gb (.slice ga L.length gc) w11) from HL10.out.still hb11)
    clear hb11 HL10 HC10
    have H11 := HA.out _ HL11.out.bel
    obtain ⟨T0, T1, T2, T3⟩ := box4 H11.2.1 (Below.refl _ _)
    have HC11 := (show Hid _ from HTO.out _ H11.1 HS.out)
    clear H11
    go_wp2_with fail
    refine Calls.mono HC11.out ?_
    rintro e w12 ⟨y1, y2, y3, rfl, hb12, D12⟩
    have HL12 := (show Hid (LRb w3 (cnt 1 L.length) gb (.slice ga L.length gc) w12) from HL11.out.still hb12)
    have HC12 := (show Hid _ from HIM.out w12 _ y1 y2 y3 D12.lies)
    clear hb12 D12 HL11 HC11 T0 T1 T2 T3
    go_wp2_with fail
    refine Calls.mono HC12.out ?_
    rintro e w13 ⟨ha, hc, rfl, hb13, ho13⟩
    have HL13 := (show Hid (LRb w3 (cnt 1 L.length) gb (.slice ga L.length gc) w13) from HL12.out.still hb13)
    have HC13 := (show Hid (Calls Try.prog 16 #[.slice ha L.length hc, .slice s1 L.length s2] w13 fun e w' => e = .returned (.bool true) ∧ Below w13.heap.size w13 w') from HEQ.out w13 _ _ _ _ (ownInts ho13) (HA.out _ HL13.out.bel).2.2)
    clear hb13 ho13 HL12 HC12
    go_wp2_with fail
    refine Calls.mono HC13.out ?_
    rintro e w14 ⟨rfl, hb14⟩
    have HL14 := (show Hid (LRb w3 (cnt 1 L.length) gb (.slice ga L.length gc) w14) from HL13.out.still hb14)
    have HC14 := (show Hid (Calls Try.prog 19 #[.slice ga L.length gc, .int .i64 1] w14 fun e w' => e = .returned (.int .i64 (D : Nat)) ∧ Below w14.heap.size w14 w') from HHD.out w14 gb _ HL14.out.g)
    clear hb14 HL13 HC13
    go_wp2_with fail
    refine Calls.mono HC14.out ?_
    rintro e w15 ⟨rfl, hb15⟩
    have HE := (show Hid _ from (HA.out _ (bel_trans HL14.out.bel hb15)).1)
    clear hb15 HL14 HC14
    go_wp2_with fail
    go_ret
    exact ⟨rfl, HE.out⟩
end Go.Proofs.Ytkkebcbcbihbiaa
