import Derived.Test.YtflhfimgeladaaaQx
import Derived.Test.YtflhfimgeladaaaTd
/-! Size and copy of a packed table. -/
namespace Go.Proofs.Ytflhfimgeladaaa
open Go.RowKit Go.Deep
set_option linter.unusedVariables false
set_option maxRecDepth 100000
set_option linter.unusedSimpArgs false

/-- Small. -/
structure PSm (R : PkD) : Prop where
  acts : R.1.length ≤ 1048576
  act : ∀ i (hi : i < R.1.length), R.1[i].length ≤ 1048576
  gotos : R.2.1.length ≤ 1048576
  goto : ∀ i (hi : i < R.2.1.length), R.2.1[i].length ≤ 1048576
  arow : R.2.2.1.length ≤ 1048576
  grow : R.2.2.2.length ≤ 1048576
theorem PL.form {w : World} {S : Nat → Prop} {R : PkD} {v0 v1 v2 v3 : Value} (h : PL w S R v0 v1 v2 v3) : ∃ a0 c0 a1 c1 a2 c2 a3 c3, v0 = .slice a0 R.1.length c0 ∧ v1 = .slice a1 R.2.1.length c1 ∧ v2 = .slice a2 R.2.2.1.length c2 ∧ v3 = .slice a3 R.2.2.2.length c3 := by
  obtain ⟨a0, c0, e0, _⟩ := h.acts.form
  obtain ⟨a1, c1, e1, _⟩ := h.gotos.form
  obtain ⟨a2, c2, e2, _⟩ := h.arow.form
  obtain ⟨a3, c3, e3, _⟩ := h.grow.form
  exact ⟨a0, c0, a1, c1, a2, c2, a3, c3, e0, e1, e2, e3⟩
set_option maxHeartbeats 1600000 in
theorem szPacked_any {S : Nat → Prop} (R : PkD) (v0 v1 v2 v3 : Value) (w : World) (n : Nat) (h : PL w S R v0 v1 v2 v3) (hn : n ≤ 1048576) :
    Calls Try.prog 20 #[.agg #[v0, v1, v2, v3], .int .i64 n] w fun e w' => Left n (PSm R) e ∧ Below w.heap.size w w' := by
  have hb0 := bel_alloc w (.cells #[v0, v1, v2, v3] 56)
  have TH := (show Hid _ from Box4.new w 56 v0 v1 v2 v3)
  have HL := (show Hid _ from h)
  have HS := (show Hid _ from szARows_any R.1 v0 _ n (h.acts.still hb0) hn)
  obtain ⟨a0, c0, a1, c1, a2, c2, a3, c3, rfl, rfl, rfl, rfl⟩ := h.form
  clear h
  obtain ⟨T0, T1, T2, T3⟩ := (Box4.still TH.out (Below.refl _ _)).cells
  go_enter Try.func20, Try.ntmps20
  go_wp2_with fail
  refine Calls.mono HS.out ?_
  rintro e w1 ⟨rfl | ⟨m1, rfl, hm1', hl1⟩, hb1⟩
  · have hbw := bel_trans hb0 hb1
    go_wp2_with fail
    go_ret
    exact ⟨.inl rfl, hbw⟩
  have hbw := bel_trans hb0 hb1
  have H2 := (show Hid _ from szRows_any R.2.1 _ w1 m1 (PL.gotos HL.out |>.still hbw) (by omega))
  have HL1 := (show Hid _ from hl1); clear hl1 T0 T1 T2 T3
  obtain ⟨T0, T1, T2, T3⟩ := (Box4.still TH.out hb1).cells
  go_wp2_with fail
  refine Calls.mono H2.out ?_
  rintro e w2 ⟨rfl | ⟨m2, rfl, hm2', hl2⟩, hb2⟩
  · have hbw2 := bel_trans hbw hb2
    go_wp2_with fail
    go_ret
    exact ⟨.inl rfl, hbw2⟩
  have hbw2 := bel_trans hbw hb2
  have H3 := (show Hid _ from szInts_any R.2.2.1 _ w2 m2 (PL.arow HL.out |>.still hbw2) (by omega))
  have HL2 := (show Hid _ from hl2); clear hl2 T0 T1 T2 T3
  obtain ⟨T0, T1, T2, T3⟩ := (Box4.still TH.out (bel_trans hb1 hb2)).cells
  go_wp2_with fail
  refine Calls.mono H3.out ?_
  rintro e w3 ⟨rfl | ⟨m3, rfl, hm3', hl3⟩, hb3⟩
  · have hbw3 := bel_trans hbw2 hb3
    go_wp2_with fail
    go_ret
    exact ⟨.inl rfl, hbw3⟩
  have hbw3 := bel_trans hbw2 hb3
  have H4 := (show Hid _ from szInts_any R.2.2.2 _ w3 m3 (PL.grow HL.out |>.still hbw3) (by omega))
  have HL3 := (show Hid _ from hl3); clear hl3 T0 T1 T2 T3
  obtain ⟨T0, T1, T2, T3⟩ := (Box4.still TH.out (bel_trans (bel_trans hb1 hb2) hb3)).cells
  go_wp2_with fail
  refine Calls.mono H4.out ?_
  rintro e w4 ⟨rfl | ⟨m4, rfl, hm4', hl4⟩, hb4⟩
  · have hbw4 := bel_trans hbw3 hb4
    go_wp2_with fail
    go_ret
    exact ⟨.inl rfl, hbw4⟩
  have hbw4 := bel_trans hbw3 hb4
  have HSM := (show Hid (PSm R) from ⟨HL1.out.1, HL1.out.2, HL2.out.1, HL2.out.2, HL3.out, hl4⟩); clear hl4
  go_wp2_with fail
  go_ret
  exact ⟨.inr ⟨m4, rfl, by omega, HSM.out⟩, hbw4⟩
/-- The boxes of a copy. -/
structure PB (w wr : World) (v0 v1 v2 v3 u0 u1 u2 u3 : Value) : Prop where
  bel : Below w.heap.size w wr
  sz : w.heap.size + 1 + 1 + 1 ≤ wr.heap.size
  a : Box4 wr w.heap.size 56 v0 v1 v2 v3
  r : Box4 wr (w.heap.size + 1) 48 (.slice none 0 0) (.slice none 0 0) (.slice none 0 0) (.slice none 0 0)
  o : Box4 wr (w.heap.size + 1 + 1) 48 u0 u1 u2 u3
theorem PB.still {w wr w' : World} {v0 v1 v2 v3 u0 u1 u2 u3 : Value} (h : PB w wr v0 v1 v2 v3 u0 u1 u2 u3) (hb : Below wr.heap.size wr w') : PB w w' v0 v1 v2 v3 u0 u1 u2 u3 := ⟨bel_trans h.bel hb, Nat.le_trans h.sz hb.size, h.a.still hb, h.r.still hb, h.o.still hb⟩
theorem PB.set {w wr : World} {v0 v1 v2 v3 u0 u1 u2 u3 y0 y1 y2 y3 u : Value} {k : Nat} (h : PB w wr v0 v1 v2 v3 u0 u1 u2 u3) (ho : Box4 (wr.setCell ⟨w.heap.size + 1 + 1, k, none⟩ u) (w.heap.size + 1 + 1) 48 y0 y1 y2 y3) : PB w (wr.setCell ⟨w.heap.size + 1 + 1, k, none⟩ u) v0 v1 v2 v3 y0 y1 y2 y3 :=
  ⟨h.bel.setCell (by show w.heap.size ≤ w.heap.size + 1 + 1; omega) _, by have := h.sz; simpa [World.setCell] using this, h.a.past (by omega), h.r.past (by omega), ho⟩
theorem Own.one {w : World} {B : Nat} {e : Ent} (h : e.ok w B) : Own w B [e] := ⟨fun x hx => by rw [List.mem_singleton.1 hx]; exact h, by simp⟩
set_option maxHeartbeats 6400000 in
theorem toPackedO_any {S : Nat → Prop} (R : PkD) (v0 v1 v2 v3 : Value) (w : World) (h : PL w S R v0 v1 v2 v3) (hs : PSm R) :
    Calls Try.prog 22 #[.agg #[v0, v1, v2, v3]] w fun e w' => ∃ (u0 u1 u2 u3 : Value) (ra : List (Value × List (Int × Int))) (rg : List (Value × List Int)), e = .returned (.agg #[u0, u1, u2, u3]) ∧ Below w.heap.size w w' ∧ Own w' w.heap.size (PEnt u0 u1 u2 u3 ra rg R.2.2.1 R.2.2.2 []) ∧ ra.map (·.2) = R.1 ∧ rg.map (·.2) = R.2.1 ∧ (∀ p ∈ ra, ∃ ad c, p.1 = .slice (some ad) p.2.length c) ∧ ∀ p ∈ rg, ∃ ad c, p.1 = .slice (some ad) p.2.length c := by
  have H1 := (show Hid _ from fun w' (hb : Below w.heap.size w w') => toRAO_any R.1 v0 w' (h.acts.still hb) hs.acts hs.act)
  have H2 := (show Hid _ from fun w' (hb : Below w.heap.size w w') => toRIO_any R.2.1 v1 w' (h.gotos.still hb) hs.gotos hs.goto)
  have H3 := (show Hid _ from fun w' (hb : Below w.heap.size w w') => toIntsO_any R.2.2.1 v2 w' (h.arow.still hb) hs.arow)
  have H4 := (show Hid _ from fun w' (hb : Below w.heap.size w w') => toIntsO_any R.2.2.2 v3 w' (h.grow.still hb) hs.grow)
  clear hs
  obtain ⟨a0, c0, a1, c1, a2, c2, a3, c3, rfl, rfl, rfl, rfl⟩ := h.form
  clear h
  have hP0 : PB w (((w.alloc (.cells #[.slice a0 R.1.length c0, .slice a1 R.2.1.length c1, .slice a2 R.2.2.1.length c2, .slice a3 R.2.2.2.length c3] 56)).alloc (.cells #[.slice none 0 0, .slice none 0 0, .slice none 0 0, .slice none 0 0] 48)).alloc (.cells #[.slice none 0 0, .slice none 0 0, .slice none 0 0, .slice none 0 0] 48)) (.slice a0 R.1.length c0) (.slice a1 R.2.1.length c1) (.slice a2 R.2.2.1.length c2) (.slice a3 R.2.2.2.length c3) (.slice none 0 0) (.slice none 0 0) (.slice none 0 0) (.slice none 0 0) := by
    have r1 := (Box4.new (w.alloc (.cells #[.slice a0 R.1.length c0, .slice a1 R.2.1.length c1, .slice a2 R.2.2.1.length c2, .slice a3 R.2.2.2.length c3] 56)) 48 (.slice none 0 0) (.slice none 0 0) (.slice none 0 0) (.slice none 0 0)).still (bel_alloc _ (.cells #[.slice none 0 0, .slice none 0 0, .slice none 0 0, .slice none 0 0] 48))
    have r2 := Box4.new ((w.alloc (.cells #[.slice a0 R.1.length c0, .slice a1 R.2.1.length c1, .slice a2 R.2.2.1.length c2, .slice a3 R.2.2.2.length c3] 56)).alloc (.cells #[.slice none 0 0, .slice none 0 0, .slice none 0 0, .slice none 0 0] 48)) 48 (.slice none 0 0) (.slice none 0 0) (.slice none 0 0) (.slice none 0 0)
    simp only [World.size_alloc] at r1 r2
    exact ⟨bel_trans (bel_trans (bel_alloc _ _) (bel_alloc _ _)) (bel_alloc _ _), by simp, ((Box4.new w 56 _ _ _ _).still (bel_alloc _ _)).still (bel_alloc _ _), r1, r2⟩
  obtain ⟨T0, T1, T2, T3⟩ := hP0.a.cells
  have HP := (show Hid _ from hP0); clear hP0
  go_enter Try.func22, Try.ntmps22
  go_wp2_with fail
  generalize (((w.alloc (.cells #[.slice a0 R.1.length c0, .slice a1 R.2.1.length c1, .slice a2 R.2.2.1.length c2, .slice a3 R.2.2.2.length c3] 56)).alloc (.cells #[.slice none 0 0, .slice none 0 0, .slice none 0 0, .slice none 0 0] 48)).alloc (.cells #[.slice none 0 0, .slice none 0 0, .slice none 0 0, .slice none 0 0] 48)) = W3 at *
  clear T0 T1 T2 T3
  refine Calls.mono (H1.out _ HP.out.bel) ?_
  rintro e w4 ⟨ra, rfl, hb4, hd4, hn4, o4⟩
  have HD1 := (show Hid _ from (⟨hd4, hn4⟩ : _ ∧ _))
  have hP4 := HP.out.still hb4
  have hlt : w.heap.size + 1 + 1 < W3.heap.size := by have := HP.out.sz; omega
  have HLT := (show Hid _ from hlt)
  have hl4 := hb4.size
  obtain ⟨O0, O1, O2, O3⟩ := hP4.o.cells
  have y0 := hP4.o.frozen 0
  have hP5 := hP4.set (hP4.o.set0 (.slice (some ⟨W3.heap.size, 0, none⟩) R.1.length R.1.length))
  obtain ⟨T0, T1, T2, T3⟩ := hP5.a.cells
  have HP5 := (show Hid _ from hP5)
  have HO5 := (show Hid _ from Own.set (o := 0) (u := (.slice (some ⟨W3.heap.size, 0, none⟩) R.1.length R.1.length)) o4 hlt)
  have HS5 := (show Hid (W3.heap.size ≤ (w4.setCell ⟨w.heap.size + 1 + 1, 0, none⟩ (.slice (some ⟨W3.heap.size, 0, none⟩) R.1.length R.1.length)).heap.size) from by show W3.heap.size ≤ _; simpa [World.setCell] using hl4)
  clear hb4 hd4 hn4 o4 hP4 hP5 hlt hl4 HP
  go_wp2_with fail
  generalize w4.setCell ⟨w.heap.size + 1 + 1, 0, none⟩ (.slice (some ⟨W3.heap.size, 0, none⟩) R.1.length R.1.length) = w5 at *
  clear O0 O1 O2 O3 y0 T0 T1 T2 T3
  refine Calls.mono (H2.out _ HP5.out.bel) ?_
  rintro e w6 ⟨rg, rfl, hb6, hd6, hn6, o6⟩
  have HD2 := (show Hid _ from (⟨hd6, hn6⟩ : _ ∧ _))
  have hP6 := HP5.out.still hb6
  have hj6 := Own.join HO5.out hb6 o6 (Nat.le_refl _) HS5.out
  have hl6 := hb6.size
  obtain ⟨O0, O1, O2, O3⟩ := hP6.o.cells
  have y0 := hP6.o.frozen 1
  have hP7 := hP6.set (hP6.o.set1 (.slice (some ⟨w5.heap.size, 0, none⟩) R.2.1.length R.2.1.length))
  obtain ⟨T0, T1, T2, T3⟩ := hP7.a.cells
  have HP7 := (show Hid _ from hP7)
  have HO7 := (show Hid _ from hj6.set (o := 1) (u := (.slice (some ⟨w5.heap.size, 0, none⟩) R.2.1.length R.2.1.length)) HLT.out)
  have HS7 := (show Hid (W3.heap.size ≤ (w6.setCell ⟨w.heap.size + 1 + 1, 1, none⟩ (.slice (some ⟨w5.heap.size, 0, none⟩) R.2.1.length R.2.1.length)).heap.size) from by have := Nat.le_trans HS5.out hl6; show W3.heap.size ≤ _; simpa [World.setCell] using this)
  clear hb6 hd6 hn6 o6 hP6 hP7 hj6 hl6 HP5 HO5 HS5
  go_wp2_with fail
  generalize w6.setCell ⟨w.heap.size + 1 + 1, 1, none⟩ (.slice (some ⟨w5.heap.size, 0, none⟩) R.2.1.length R.2.1.length) = w7 at *
  clear O0 O1 O2 O3 y0 T0 T1 T2 T3
  refine Calls.mono (H3.out _ HP7.out.bel) ?_
  rintro e w8 ⟨rfl, hb8, o8⟩
  have hP8 := HP7.out.still hb8
  have hj8 := Own.join HO7.out hb8 (Own.one (e := nmI (.slice (some ⟨w7.heap.size, 0, none⟩) R.2.2.1.length R.2.2.1.length) R.2.2.1) o8) (Nat.le_refl _) HS7.out
  have hl8 := hb8.size
  obtain ⟨O0, O1, O2, O3⟩ := hP8.o.cells
  have y0 := hP8.o.frozen 2
  have hP9 := hP8.set (hP8.o.set2 (.slice (some ⟨w7.heap.size, 0, none⟩) R.2.2.1.length R.2.2.1.length))
  obtain ⟨T0, T1, T2, T3⟩ := hP9.a.cells
  have HP9 := (show Hid _ from hP9)
  have HO9 := (show Hid _ from hj8.set (o := 2) (u := (.slice (some ⟨w7.heap.size, 0, none⟩) R.2.2.1.length R.2.2.1.length)) HLT.out)
  have HS9 := (show Hid (W3.heap.size ≤ (w8.setCell ⟨w.heap.size + 1 + 1, 2, none⟩ (.slice (some ⟨w7.heap.size, 0, none⟩) R.2.2.1.length R.2.2.1.length)).heap.size) from by have := Nat.le_trans HS7.out hl8; show W3.heap.size ≤ _; simpa [World.setCell] using this)
  clear hb8 o8 hP8 hP9 hj8 hl8 HP7 HO7 HS7
  go_wp2_with fail
  generalize w8.setCell ⟨w.heap.size + 1 + 1, 2, none⟩ (.slice (some ⟨w7.heap.size, 0, none⟩) R.2.2.1.length R.2.2.1.length) = w9 at *
  clear O0 O1 O2 O3 y0 T0 T1 T2 T3
  refine Calls.mono (H4.out _ HP9.out.bel) ?_
  rintro e w10 ⟨rfl, hb10, o10⟩
  have hP10 := HP9.out.still hb10
  have hj10 := Own.join HO9.out hb10 (Own.one (e := nmI (.slice (some ⟨w9.heap.size, 0, none⟩) R.2.2.2.length R.2.2.2.length) R.2.2.2) o10) (Nat.le_refl _) HS9.out
  obtain ⟨O0, O1, O2, O3⟩ := hP10.o.cells
  have y0 := hP10.o.frozen 3
  have hP11 := hP10.set (hP10.o.set3 (.slice (some ⟨w9.heap.size, 0, none⟩) R.2.2.2.length R.2.2.2.length))
  obtain ⟨T0, T1, T2, T3⟩ := hP11.a.cells
  have HP11 := (show Hid _ from hP11)
  have ho11 := hj10.set (o := 3) (u := (.slice (some ⟨w9.heap.size, 0, none⟩) R.2.2.2.length R.2.2.2.length)) HLT.out
  have hg1 : w.heap.size + 1 < W3.heap.size := by have := HLT.out; omega
  have ho15 := (((ho11.set (o := 0) (u := (.slice (some ⟨W3.heap.size, 0, none⟩) R.1.length R.1.length)) hg1).set (o := 1) (u := (.slice (some ⟨w5.heap.size, 0, none⟩) R.2.1.length R.2.1.length)) hg1).set (o := 2) (u := (.slice (some ⟨w7.heap.size, 0, none⟩) R.2.2.1.length R.2.2.1.length)) hg1).set (o := 3) (u := (.slice (some ⟨w9.heap.size, 0, none⟩) R.2.2.2.length R.2.2.2.length)) hg1
  have hb15 := (((hP11.bel.setCell (p := ⟨w.heap.size + 1, 0, none⟩) (by show w.heap.size ≤ w.heap.size + 1; omega) (.slice (some ⟨W3.heap.size, 0, none⟩) R.1.length R.1.length)).setCell (p := ⟨w.heap.size + 1, 1, none⟩) (by show w.heap.size ≤ w.heap.size + 1; omega) (.slice (some ⟨w5.heap.size, 0, none⟩) R.2.1.length R.2.1.length)).setCell (p := ⟨w.heap.size + 1, 2, none⟩) (by show w.heap.size ≤ w.heap.size + 1; omega) (.slice (some ⟨w7.heap.size, 0, none⟩) R.2.2.1.length R.2.2.1.length)).setCell (p := ⟨w.heap.size + 1, 3, none⟩) (by show w.heap.size ≤ w.heap.size + 1; omega) (.slice (some ⟨w9.heap.size, 0, none⟩) R.2.2.2.length R.2.2.2.length)
  obtain ⟨P0, P1, P2, P3⟩ := hP11.o.cells
  obtain ⟨Q0, Q1, Q2, Q3⟩ := hP11.r.cells
  have z0 := hP11.r.frozen 0
  have z1 := hP11.r.frozen 1
  have z2 := hP11.r.frozen 2
  have z3 := hP11.r.frozen 3
  obtain ⟨Z0, Z1, Z2, Z3⟩ := ((((hP11.r.set0 (.slice (some ⟨W3.heap.size, 0, none⟩) R.1.length R.1.length)).set1 (.slice (some ⟨w5.heap.size, 0, none⟩) R.2.1.length R.2.1.length)).set2 (.slice (some ⟨w7.heap.size, 0, none⟩) R.2.2.1.length R.2.2.1.length)).set3 (.slice (some ⟨w9.heap.size, 0, none⟩) R.2.2.2.length R.2.2.2.length)).cells
  have hoF := ho15.base (B' := w.heap.size) (by omega)
  have HF := (show Hid _ from (⟨hb15, hoF⟩ : _ ∧ _))
  clear hb10 o10 hP10 hP11 hj10 ho11 ho15 hb15 hoF HP9 HO9 HS9 hg1 T0 T1 T2 T3
  go_wp2_with fail
  refine bodyPost_ret (v := .agg #[(.slice (some ⟨W3.heap.size, 0, none⟩) R.1.length R.1.length), (.slice (some ⟨w5.heap.size, 0, none⟩) R.2.1.length R.2.1.length), (.slice (some ⟨w7.heap.size, 0, none⟩) R.2.2.1.length R.2.2.1.length), (.slice (some ⟨w9.heap.size, 0, none⟩) R.2.2.2.length R.2.2.2.length)]) (by simp [results, Try.results22, go_sem, Z0, Z1, Z2, Z3]) rfl ⟨_, _, _, _, ra, rg, rfl, HF.out.1, ?_, HD1.out.1, HD2.out.1, HD1.out.2, HD2.out.2⟩
  have := HF.out.2
  simpa [PEnt] using this
end Go.Proofs.Ytflhfimgeladaaa
