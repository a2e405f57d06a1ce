import Derived.Test.YtjpjjfgdgieapaaDoorWf
import Derived.Test.YtjpjjfgdgieapaaDoorMk4
import Derived.Deep.CutRange
/-! The law FnExactFactsOf, walked. -/
namespace Go.Proofs.YtjpjjfgdgieapaaDoor
open Go.RowKit Go.Deep
set_option linter.unusedVariables false
set_option maxRecDepth 100000
set_option linter.unusedSimpArgs false

/-- What lies there. -/
structure LFo (w wP : World) (d : Bn) (D : FaD) (A X Q G lo hi B : Nat) (va0 va1 va3 vx0 vx1 vx3 : Value) (ps qs : List Value) (es : List Ent) (Z : World) : Prop where
  bel : Below w.heap.size w Z
  low : Below wP.heap.size wP Z
  fx : Four Z X vx0 vx1 (.int .i64 d.own) vx3
  x0 : BOwn Z (fun b => lo ≤ b ∧ b < hi) d vx0 vx1 vx3
  bg : Box Z G 32 qs
  own : Own Z B es
theorem LFo.still {w wP : World} {d : Bn} {D : FaD} {A X Q G lo hi B : Nat} {va0 va1 va3 vx0 vx1 vx3 : Value} {ps qs : List Value} {es : List Ent} {Z Z' : World} (h : LFo w wP d D A X Q G lo hi B va0 va1 va3 vx0 vx1 vx3 ps qs es Z) (hb : Below Z.heap.size Z Z') : LFo w wP d D A X Q G lo hi B va0 va1 va3 vx0 vx1 vx3 ps qs es Z' :=
  ⟨bel_trans h.bel hb, bel_trans h.low hb, h.fx.still hb, h.x0.still hb, h.bg.still hb, h.own.still hb⟩
theorem out_belowS {w Z Z' : World} {lo hi B : Nat} (h : Below B w Z) (ho : Out lo hi Z Z') (hB : B ≤ lo) (hz : B ≤ Z.heap.size) : Below B w Z' :=
  ⟨ho.1.trans h.os, ho.2.1.trans h.tape, ho.2.2.1.trans h.output, Nat.le_trans h.size ho.2.2.2.1, fun k hk => (ho.2.2.2.2 k (by omega) (by omega)).trans (h.block k hk)⟩
theorem own_out {w w' : World} {B : Nat} {es : List Ent} (h : Own w B es) (hb : ∀ q, B ≤ q → q < w.heap.size → w'.heap[q]? = w.heap[q]?) : Own w' B es :=
  ⟨fun e he => by
    have hlt := (h.ok e he).lt
    obtain ⟨h1, h2⟩ := h.ok e he
    refine ⟨h1, ?_⟩
    rcases h2 with h2 | ⟨g, cap, cur, e1, e2, e3, e4⟩
    · exact .inl h2
    · exact .inr ⟨g, cap, cur, e1, e2, (hb g e2 (hlt g (by rw [e1]; rfl)).2).trans e3, e4⟩, h.ne⟩
set_option maxHeartbeats 12800000 in
theorem lawFo {S : Nat → Prop} (d : Bn) (v0 v1 v3 : Value) (w : World) (h : BLies w S d v0 v1 v3) (hT : Tz w) :
    Calls Tryd.prog 3 #[.agg #[v0, v1, .int .i64 d.own, v3]] w fun e w' => e = .returned (.bool true) ∧ Below w.heap.size w w' := by
  have hb0 := bel_alloc w (.cells #[v0, v1, .int .i64 d.own, v3] 26)
  have HSZ := (show Hid _ from szBnf_any d v0 v1 v3 _ 1048576 (h.still hb0) (Nat.le_refl _))
  have HTO := (show Hid _ from fun w' (hb : Below w.heap.size w w') (hs : d.Small) => toBnfO_any d v0 v1 v3 w' (h.still hb) hs)
  have HTZ := (show Hid _ from hT); clear hT
  obtain ⟨a0, p0, a1, p1, a3, p3, rfl, rfl, rfl⟩ := h.form
  clear h
  have TH := (show Hid _ from four_box w (.slice a0 d.terms.length p0) (.slice a1 d.nons.length p1) (.int .i64 d.own) (.slice a3 d.prods.length p3) 26)
  obtain ⟨T0, T1, T2, T3⟩ := Four.still TH.out (Below.refl _ _)
  go_enter Tryd.func3, Tryd.ntmps3
  go_wp2_with fail
  refine Calls.mono HSZ.out ?_
  rintro e w2 ⟨rfl | ⟨m1, rfl, hm1, hsm1⟩, hb1⟩
  · have hbw := bel_trans hb0 hb1
    go_wp2_with fail
    go_ret
    exact ⟨rfl, hbw⟩
  have HB2 := (show Hid _ from (⟨bel_trans hb0 hb1, hb1⟩ : _ ∧ _))
  have HS := (show Hid _ from hsm1); clear hsm1 T0 T1 T2 T3 hb1 HSZ hb0
  obtain ⟨T0, T1, T2, T3⟩ := Four.still TH.out HB2.out.2
  go_wp2_with fail
  refine Calls.mono (HTO.out _ HB2.out.1 HS.out) ?_
  rintro e w4 ⟨u0, u1, u3, rfl, hb3, hB3⟩
  obtain ⟨_, _, _, _, _, _, rfl, rfl, rfl⟩ := hB3.lies.form
  have HB4 := (show Hid _ from (⟨bel_trans HB2.out.1 hb3, bel_trans HB2.out.2 hb3⟩ : _ ∧ _)); clear hb3
  have H5 := (show Hid _ from sFactsD d _ _ _ w4 (BOwn.lies hB3))
  clear hB3 T0 T1 T2 T3
  go_wp2_with fail
  refine Calls.mono H5.out ?_
  rintro e w5 ⟨hb5, C, DD, q0, q1, q2, q3, q4, q5, q6, rfl, hfl, hsm⟩
  obtain ⟨⟨ap0, np0, cp0, rfl, _⟩, ⟨ap1, np1, cp1, rfl, _⟩, ⟨ap2, np2, cp2, rfl, _⟩, ⟨ap3, np3, cp3, rfl, _⟩, ⟨ap4, np4, cp4, rfl, _⟩, ⟨ap5, np5, cp5, rfl, _⟩, ⟨ap6, np6, cp6, rfl, _⟩⟩ := hfl.form
  have hneC : ((C : Int) != C) = false := by simp
  have hba := bel_alloc w5 (.cells #[.slice ap0 np0 cp0, .slice ap1 np1 cp1, .slice ap2 np2 cp2, .slice ap3 np3 cp3, .slice ap4 np4 cp4, .slice ap5 np5 cp5, .slice ap6 np6 cp6] 32)
  have HP5 := (show Hid (FaL (w5.alloc (.cells #[.slice ap0 np0 cp0, .slice ap1 np1 cp1, .slice ap2 np2 cp2, .slice ap3 np3 cp3, .slice ap4 np4 cp4, .slice ap5 np5 cp5, .slice ap6 np6 cp6] 32)) DD (.slice ap0 np0 cp0) (.slice ap1 np1 cp1) (.slice ap2 np2 cp2) (.slice ap3 np3 cp3) (.slice ap4 np4 cp4) (.slice ap5 np5 cp5) (.slice ap6 np6 cp6) ∧ Box (w5.alloc (.cells #[.slice ap0 np0 cp0, .slice ap1 np1 cp1, .slice ap2 np2 cp2, .slice ap3 np3 cp3, .slice ap4 np4 cp4, .slice ap5 np5 cp5, .slice ap6 np6 cp6] 32)) w5.heap.size 32 [.slice ap0 np0 cp0, .slice ap1 np1 cp1, .slice ap2 np2 cp2, .slice ap3 np3 cp3, .slice ap4 np4 cp4, .slice ap5 np5 cp5, .slice ap6 np6 cp6] ∧ SameF d C DD) from ⟨hfl.still hba, Box.new w5 32 [.slice ap0 np0 cp0, .slice ap1 np1 cp1, .slice ap2 np2 cp2, .slice ap3 np3 cp3, .slice ap4 np4 cp4, .slice ap5 np5 cp5, .slice ap6 np6 cp6], hsm⟩)
  have HB5 := (show Hid _ from (⟨bel_trans HB4.out.1 (bel_trans hb5 hba), bel_trans HB4.out.2 (bel_trans hb5 hba)⟩ : _ ∧ _))
  obtain ⟨T0, T1, T2, T3⟩ := Four.still TH.out HB5.out.2
  have hA5 : w.heap.size < w5.heap.size := by have h2 := (bel_trans HB4.out.2 hb5).size; simp at h2; omega
  have HA5 := (show Hid _ from hA5)
  clear hfl hsm hba hb5 H5 HB2 HB4 hA5
  dsimp only
  go_wp2_with fail
  generalize hPw : w5.alloc (.cells #[.slice ap0 np0 cp0, .slice ap1 np1 cp1, .slice ap2 np2 cp2, .slice ap3 np3 cp3, .slice ap4 np4 cp4, .slice ap5 np5 cp5, .slice ap6 np6 cp6] 32) = wP at *
  refine Calls.mono (HTO.out _ HB5.out.1 HS.out) ?_
  rintro e w6 ⟨x0, x1, x3, rfl, hb6, hB6⟩
  obtain ⟨e0, f0, e1, f1, e3, f3, rfl, rfl, rfl⟩ := hB6.lies.form
  have hba := bel_alloc w6 (.cells #[.slice e0 d.terms.length f0, .slice e1 d.nons.length f1, .int .i64 d.own, .slice e3 d.prods.length f3] 38)
  have hb67 := bel_trans hb6 hba
  have HFX := (show Hid _ from four_box w6 (.slice e0 d.terms.length f0) (.slice e1 d.nons.length f1) (.int .i64 d.own) (.slice e3 d.prods.length f3) 38)
  have HX6 := (show Hid _ from (⟨hB6.top.still hba, hb6.size⟩ : _ ∧ _))
  have HQ6 := (show Hid (Below wP.heap.size wP (w6.alloc (.cells #[.slice e0 d.terms.length f0, .slice e1 d.nons.length f1, .int .i64 d.own, .slice e3 d.prods.length f3] 38))) from hb67)
  have HB6 := (show Hid _ from (⟨bel_trans HB5.out.1 hb67, bel_trans HB5.out.2 hb67⟩ : _ ∧ _))
  have H9 := (show Hid _ from iFactsD d _ _ _ C DD _ (BOwn.lies HX6.out.1) (Tz.still HTZ.out HB6.out.1) HP5.out.2.2)
  have HZ6 := (show Hid (w6.heap.size + 1 = (w6.alloc (.cells #[.slice e0 d.terms.length f0, .slice e1 d.nons.length f1, .int .i64 d.own, .slice e3 d.prods.length f3] 38)).heap.size) from by show _ = _; simp)
  have HPS := (show Hid (w5.heap.size + 1 = wP.heap.size) from by show _ = _; rw [← hPw]; simp)
  clear hb67 hba hb6 hB6 T0 T1 T2 T3 hPw
  obtain ⟨X0, X1, X2, X3⟩ := HFX.out
  go_wp2_with fail
  generalize w6.alloc (.cells #[.slice e0 d.terms.length f0, .slice e1 d.nons.length f1, .int .i64 d.own, .slice e3 d.prods.length f3] 38) = w8 at *
  refine Calls.mono H9.out ?_
  rintro e w9 ⟨hb9, q0, q1, q2, q3, q4, q5, q6, rfl, B, n0, n1, n2, n3, n4, s0, s1, s2, s3, s4, RF, RO, hkey, hBlo, hBhi, hown, l0, l1, l2, l3, l4, l5, l6, hs5, hs6⟩
  obtain ⟨⟨aq0, nq0, cq0, rfl, _⟩, ⟨aq1, nq1, cq1, rfl, _⟩, ⟨aq2, nq2, cq2, rfl, _⟩, ⟨aq3, nq3, cq3, rfl, _⟩, ⟨aq4, nq4, cq4, rfl, _⟩, ⟨aq5, nq5, cq5, rfl, _⟩, ⟨aq6, nq6, cq6, rfl, _⟩⟩ := (hkey w9 hown).form
  have hba := bel_alloc w9 (.cells #[.slice aq0 nq0 cq0, .slice aq1 nq1 cq1, .slice aq2 nq2 cq2, .slice aq3 nq3 cq3, .slice aq4 nq4 cq4, .slice aq5 nq5 cq5, .slice aq6 nq6 cq6] 32)
  have HKEY := (show Hid (∀ W, Own W B (⟨4, 1, .slice aq0 nq0 cq0, n0, s0⟩ :: ⟨4, 1, .slice aq1 nq1 cq1, n1, s1⟩ :: ⟨4, 1, .slice aq2 nq2 cq2, n2, s2⟩ :: ⟨4, 1, .slice aq3 nq3 cq3, n3, s3⟩ :: ⟨3, 1, .slice aq4 nq4 cq4, n4, s4⟩ :: ⟨29, 1, .slice aq5 nq5 cq5, RF.length, RF.map (fun p : Value × List Int => p.1)⟩ :: ⟨29, 1, .slice aq6 nq6 cq6, RO.length, RO.map (fun p : Value × List Int => p.1)⟩ :: (RF.map entI ++ RO.map entI)) → FaL W DD (.slice aq0 nq0 cq0) (.slice aq1 nq1 cq1) (.slice aq2 nq2 cq2) (.slice aq3 nq3 cq3) (.slice aq4 nq4 cq4) (.slice aq5 nq5 cq5) (.slice aq6 nq6 cq6)) from hkey)
  have HLE := (show Hid (n0 ≤ 1000 ∧ n1 ≤ 1000 ∧ n2 ≤ 1000 ∧ n3 ≤ 1000 ∧ n4 ≤ 1000 ∧ RF.length ≤ 1000 ∧ RO.length ≤ 1000 ∧ (∀ p ∈ RF, p.2.length ≤ 1000) ∧ ∀ p ∈ RO, p.2.length ≤ 1000) from ⟨l0, l1, l2, l3, l4, l5, l6, hs5, hs6⟩)
  have HL9 := (show Hid (LFo w wP d DD w.heap.size w6.heap.size w5.heap.size w9.heap.size wP.heap.size w6.heap.size B (.slice a0 d.terms.length p0) (.slice a1 d.nons.length p1) (.slice a3 d.prods.length p3) (.slice e0 d.terms.length f0) (.slice e1 d.nons.length f1) (.slice e3 d.prods.length f3) [.slice ap0 np0 cp0, .slice ap1 np1 cp1, .slice ap2 np2 cp2, .slice ap3 np3 cp3, .slice ap4 np4 cp4, .slice ap5 np5 cp5, .slice ap6 np6 cp6] [.slice aq0 nq0 cq0, .slice aq1 nq1 cq1, .slice aq2 nq2 cq2, .slice aq3 nq3 cq3, .slice aq4 nq4 cq4, .slice aq5 nq5 cq5, .slice aq6 nq6 cq6] (bx 32 7 w9.heap.size [.slice aq0 nq0 cq0, .slice aq1 nq1 cq1, .slice aq2 nq2 cq2, .slice aq3 nq3 cq3, .slice aq4 nq4 cq4, .slice aq5 nq5 cq5, .slice aq6 nq6 cq6] :: ⟨4, 1, .slice aq0 nq0 cq0, n0, s0⟩ :: ⟨4, 1, .slice aq1 nq1 cq1, n1, s1⟩ :: ⟨4, 1, .slice aq2 nq2 cq2, n2, s2⟩ :: ⟨4, 1, .slice aq3 nq3 cq3, n3, s3⟩ :: ⟨3, 1, .slice aq4 nq4 cq4, n4, s4⟩ :: ⟨29, 1, .slice aq5 nq5 cq5, RF.length, RF.map (fun p : Value × List Int => p.1)⟩ :: ⟨29, 1, .slice aq6 nq6 cq6, RO.length, RO.map (fun p : Value × List Int => p.1)⟩ :: (RF.map entI ++ RO.map entI)) (w9.alloc (.cells #[.slice aq0 nq0 cq0, .slice aq1 nq1 cq1, .slice aq2 nq2 cq2, .slice aq3 nq3 cq3, .slice aq4 nq4 cq4, .slice aq5 nq5 cq5, .slice aq6 nq6 cq6] 32))) from ⟨bel_trans HB6.out.1 (bel_trans hb9 hba), bel_trans HQ6.out (bel_trans hb9 hba), Four.still HFX.out (bel_trans hb9 hba), HX6.out.1.still (bel_trans hb9 hba), Box.new w9 32 [.slice aq0 nq0 cq0, .slice aq1 nq1 cq1, .slice aq2 nq2 cq2, .slice aq3 nq3 cq3, .slice aq4 nq4 cq4, .slice aq5 nq5 cq5, .slice aq6 nq6 cq6], hown.box #[.slice aq0 nq0 cq0, .slice aq1 nq1 cq1, .slice aq2 nq2 cq2, .slice aq3 nq3 cq3, .slice aq4 nq4 cq4, .slice aq5 nq5 cq5, .slice aq6 nq6 cq6] (T := 32) (k := 7) hBhi rfl⟩)
  have HN := (show Hid (w.heap.size < w5.heap.size ∧ w5.heap.size + 1 = wP.heap.size ∧ wP.heap.size ≤ w6.heap.size ∧ w6.heap.size < w8.heap.size ∧ w8.heap.size ≤ B ∧ B ≤ w9.heap.size) from ⟨HA5.out, HPS.out, HX6.out.2, by have := HZ6.out; omega, hBlo, hBhi⟩)
  have y0 : (w9.alloc (.cells #[.slice aq0 nq0 cq0, .slice aq1 nq1 cq1, .slice aq2 nq2 cq2, .slice aq3 nq3 cq3, .slice aq4 nq4 cq4, .slice aq5 nq5 cq5, .slice aq6 nq6 cq6] 32)).cell? ⟨w5.heap.size, 0, none⟩ = some (.slice ap0 np0 cp0) := (HP5.out.2.1.still HL9.out.low).cell 0 (by simp)
  have y1 : (w9.alloc (.cells #[.slice aq0 nq0 cq0, .slice aq1 nq1 cq1, .slice aq2 nq2 cq2, .slice aq3 nq3 cq3, .slice aq4 nq4 cq4, .slice aq5 nq5 cq5, .slice aq6 nq6 cq6] 32)).cell? ⟨w5.heap.size, 1, none⟩ = some (.slice ap1 np1 cp1) := (HP5.out.2.1.still HL9.out.low).cell 1 (by simp)
  have y2 : (w9.alloc (.cells #[.slice aq0 nq0 cq0, .slice aq1 nq1 cq1, .slice aq2 nq2 cq2, .slice aq3 nq3 cq3, .slice aq4 nq4 cq4, .slice aq5 nq5 cq5, .slice aq6 nq6 cq6] 32)).cell? ⟨w5.heap.size, 2, none⟩ = some (.slice ap2 np2 cp2) := (HP5.out.2.1.still HL9.out.low).cell 2 (by simp)
  have y3 : (w9.alloc (.cells #[.slice aq0 nq0 cq0, .slice aq1 nq1 cq1, .slice aq2 nq2 cq2, .slice aq3 nq3 cq3, .slice aq4 nq4 cq4, .slice aq5 nq5 cq5, .slice aq6 nq6 cq6] 32)).cell? ⟨w5.heap.size, 3, none⟩ = some (.slice ap3 np3 cp3) := (HP5.out.2.1.still HL9.out.low).cell 3 (by simp)
  have y4 : (w9.alloc (.cells #[.slice aq0 nq0 cq0, .slice aq1 nq1 cq1, .slice aq2 nq2 cq2, .slice aq3 nq3 cq3, .slice aq4 nq4 cq4, .slice aq5 nq5 cq5, .slice aq6 nq6 cq6] 32)).cell? ⟨w5.heap.size, 4, none⟩ = some (.slice ap4 np4 cp4) := (HP5.out.2.1.still HL9.out.low).cell 4 (by simp)
  have y5 : (w9.alloc (.cells #[.slice aq0 nq0 cq0, .slice aq1 nq1 cq1, .slice aq2 nq2 cq2, .slice aq3 nq3 cq3, .slice aq4 nq4 cq4, .slice aq5 nq5 cq5, .slice aq6 nq6 cq6] 32)).cell? ⟨w5.heap.size, 5, none⟩ = some (.slice ap5 np5 cp5) := (HP5.out.2.1.still HL9.out.low).cell 5 (by simp)
  have y6 : (w9.alloc (.cells #[.slice aq0 nq0 cq0, .slice aq1 nq1 cq1, .slice aq2 nq2 cq2, .slice aq3 nq3 cq3, .slice aq4 nq4 cq4, .slice aq5 nq5 cq5, .slice aq6 nq6 cq6] 32)).cell? ⟨w5.heap.size, 6, none⟩ = some (.slice ap6 np6 cp6) := (HP5.out.2.1.still HL9.out.low).cell 6 (by simp)
  clear hb9 hba hown hkey hBlo hBhi H9 HB6 HQ6 HX6 HA5 X0 X1 X2 X3 HFX HZ6 HPS l0 l1 l2 l3 l4 l5 l6 hs5 hs6
  dsimp only
  go_wp2_with fail
  have HW10 := (show Hid (w9.heap.size + 1 = (w9.alloc (.cells #[.slice aq0 nq0 cq0, .slice aq1 nq1 cq1, .slice aq2 nq2 cq2, .slice aq3 nq3 cq3, .slice aq4 nq4 cq4, .slice aq5 nq5 cq5, .slice aq6 nq6 cq6] 32)).heap.size) from by show _ = _; simp)
  generalize w9.alloc (.cells #[.slice aq0 nq0 cq0, .slice aq1 nq1 cq1, .slice aq2 nq2 cq2, .slice aq3 nq3 cq3, .slice aq4 nq4 cq4, .slice aq5 nq5 cq5, .slice aq6 nq6 cq6] 32) = w10 at *

  refine Calls.mono (eqFacts_any DD _ _ _ _ _ _ _ _ _ _ _ _ _ _ w10 (HKEY.out _ HL9.out.own.tail) (HP5.out.1.still HL9.out.low)) ?_
  rintro e w11 ⟨rfl, hb11⟩
  have HL11 := (show Hid _ from HL9.out.still hb11)
  have HZ11 := (show Hid _ from hb11.size)
  clear hb11 y0 y1 y2 y3 y4 y5 y6
  obtain ⟨T0, T1, T2, T3⟩ := Four.still TH.out (bel_trans HB5.out.2 HL11.out.low)
  obtain ⟨X0, X1, X2, X3⟩ := HL11.out.fx
  have H10 := (show Hid _ from HTO.out w11.drew HL11.out.bel.drew HS.out)
  have H12 := (show Hid _ from fun (w9 : World) (S9 : Nat → Prop) (y0 y1 y3 : Value) (hb : Below w11.drew.heap.size w11.drew w9) (hd : BOwn w9 S9 d y0 y1 y3) => eqBnf_any d _ _ _ y0 y1 y3 w9 (BLies.still HL11.out.x0.lies (((Below.refl _ _).drew).trans hb)) hd.lies)
  go_wp2_with fail
  go_cut [45] from 41 to 44 (fun v wx => v = .bool false ∧ Hid (Below w11.heap.size w11 wx))
  case first =>
    go_region_with (first
      | (go_at_call 9; refine Calls.mono (H12.out _ _ _ _ _ hbA DA) ?_; rintro e wB ⟨rfl, hbB⟩)
      | (go_at_call 6; refine Calls.mono H10.out ?_; rintro e wA ⟨y0, y1, y3, rfl, hbA, DA⟩; obtain ⟨Y0, Y1, Y2, Y3⟩ := Four.still HL11.out.fx (Below.trans ((Below.refl _ _).drew) hbA)))
    all_goals
      go_wp2_with fail
      go_meet
      exact ⟨rfl, bel_trans (((Below.refl w11.heap.size w11).drew).trans hbA) hbB⟩
  case rest =>
    obtain ⟨rfl, HC⟩ := hcut
    have HL12 := (show Hid _ from HL11.out.still HC.out)
    have HZ12 := (show Hid _ from Nat.le_trans HZ11.out HC.out.size)
    clear HC HL11 HZ11 HL9 H10 H12 T0 T1 T2 T3 X0 X1 X2 X3
    obtain ⟨X0, X1, X2, X3⟩ := HL12.out.fx
    go_wp2_with fail
    refine Calls.mono (markBnf_any d _ _ _ _ wP.heap.size w6.heap.size HL12.out.x0 (by have := HN.out; have := HZ12.out; have := HW10.out; omega)) ?_
    rintro e w15 ⟨K1, rfl, hK1, hK1', ho15⟩
    have hK0 : ¬ ((K1 : Int) < 0) := by omega
    have hlow15 : Below wP.heap.size wP w15 := out_belowS HL12.out.low ho15 (Nat.le_refl _) HL12.out.low.size
    have hbel15 : Below w.heap.size w w15 := out_belowS HL12.out.bel ho15 (by have := HN.out; omega) HL12.out.bel.size
    have hbg15 : Box w15 w9.heap.size 32 [.slice aq0 nq0 cq0, .slice aq1 nq1 cq1, .slice aq2 nq2 cq2, .slice aq3 nq3 cq3, .slice aq4 nq4 cq4, .slice aq5 nq5 cq5, .slice aq6 nq6 cq6] := HL12.out.bg.keep (ho15.2.2.2.2 _ HL12.out.bg.lt (.inr (by have := HN.out; omega)))
    have hown15 : Own w15 B (bx 32 7 w9.heap.size [.slice aq0 nq0 cq0, .slice aq1 nq1 cq1, .slice aq2 nq2 cq2, .slice aq3 nq3 cq3, .slice aq4 nq4 cq4, .slice aq5 nq5 cq5, .slice aq6 nq6 cq6] :: ⟨4, 1, .slice aq0 nq0 cq0, n0, s0⟩ :: ⟨4, 1, .slice aq1 nq1 cq1, n1, s1⟩ :: ⟨4, 1, .slice aq2 nq2 cq2, n2, s2⟩ :: ⟨4, 1, .slice aq3 nq3 cq3, n3, s3⟩ :: ⟨3, 1, .slice aq4 nq4 cq4, n4, s4⟩ :: ⟨29, 1, .slice aq5 nq5 cq5, RF.length, RF.map (fun p : Value × List Int => p.1)⟩ :: ⟨29, 1, .slice aq6 nq6 cq6, RO.length, RO.map (fun p : Value × List Int => p.1)⟩ :: (RF.map entI ++ RO.map entI)) := own_out HL12.out.own (fun q hq hlt => ho15.2.2.2.2 q hlt (.inr (by have := HN.out; omega)))
    have HS15 : Hid (w10.heap.size ≤ w15.heap.size) := Nat.le_trans HZ12.out ho15.2.2.2.1
    have HK15 := (show Hid (Below wP.heap.size wP w15 ∧ Below w.heap.size w w15 ∧ Box w15 w9.heap.size 32 [.slice aq0 nq0 cq0, .slice aq1 nq1 cq1, .slice aq2 nq2 cq2, .slice aq3 nq3 cq3, .slice aq4 nq4 cq4, .slice aq5 nq5 cq5, .slice aq6 nq6 cq6] ∧ Own w15 B (bx 32 7 w9.heap.size [.slice aq0 nq0 cq0, .slice aq1 nq1 cq1, .slice aq2 nq2 cq2, .slice aq3 nq3 cq3, .slice aq4 nq4 cq4, .slice aq5 nq5 cq5, .slice aq6 nq6 cq6] :: ⟨4, 1, .slice aq0 nq0 cq0, n0, s0⟩ :: ⟨4, 1, .slice aq1 nq1 cq1, n1, s1⟩ :: ⟨4, 1, .slice aq2 nq2 cq2, n2, s2⟩ :: ⟨4, 1, .slice aq3 nq3 cq3, n3, s3⟩ :: ⟨3, 1, .slice aq4 nq4 cq4, n4, s4⟩ :: ⟨29, 1, .slice aq5 nq5 cq5, RF.length, RF.map (fun p : Value × List Int => p.1)⟩ :: ⟨29, 1, .slice aq6 nq6 cq6, RO.length, RO.map (fun p : Value × List Int => p.1)⟩ :: (RF.map entI ++ RO.map entI))) from ⟨hlow15, hbel15, hbg15, hown15⟩)
    clear ho15 hlow15 hbel15 hbg15 hown15 HL12 HZ12 X0 X1 X2 X3 hK1 hK1'
    have y0 : w15.cell? ⟨w5.heap.size, 0, none⟩ = some (.slice ap0 np0 cp0) := (HP5.out.2.1.still HK15.out.1).cell 0 (by simp)
    have y1 : w15.cell? ⟨w5.heap.size, 1, none⟩ = some (.slice ap1 np1 cp1) := (HP5.out.2.1.still HK15.out.1).cell 1 (by simp)
    have y2 : w15.cell? ⟨w5.heap.size, 2, none⟩ = some (.slice ap2 np2 cp2) := (HP5.out.2.1.still HK15.out.1).cell 2 (by simp)
    have y3 : w15.cell? ⟨w5.heap.size, 3, none⟩ = some (.slice ap3 np3 cp3) := (HP5.out.2.1.still HK15.out.1).cell 3 (by simp)
    have y4 : w15.cell? ⟨w5.heap.size, 4, none⟩ = some (.slice ap4 np4 cp4) := (HP5.out.2.1.still HK15.out.1).cell 4 (by simp)
    have y5 : w15.cell? ⟨w5.heap.size, 5, none⟩ = some (.slice ap5 np5 cp5) := (HP5.out.2.1.still HK15.out.1).cell 5 (by simp)
    have y6 : w15.cell? ⟨w5.heap.size, 6, none⟩ = some (.slice ap6 np6 cp6) := (HP5.out.2.1.still HK15.out.1).cell 6 (by simp)
    have z0 : w15.cell? ⟨w9.heap.size, 0, none⟩ = some (.slice aq0 nq0 cq0) := HK15.out.2.2.1.cell 0 (by simp)
    have z1 : w15.cell? ⟨w9.heap.size, 1, none⟩ = some (.slice aq1 nq1 cq1) := HK15.out.2.2.1.cell 1 (by simp)
    have z2 : w15.cell? ⟨w9.heap.size, 2, none⟩ = some (.slice aq2 nq2 cq2) := HK15.out.2.2.1.cell 2 (by simp)
    have z3 : w15.cell? ⟨w9.heap.size, 3, none⟩ = some (.slice aq3 nq3 cq3) := HK15.out.2.2.1.cell 3 (by simp)
    have z4 : w15.cell? ⟨w9.heap.size, 4, none⟩ = some (.slice aq4 nq4 cq4) := HK15.out.2.2.1.cell 4 (by simp)
    have z5 : w15.cell? ⟨w9.heap.size, 5, none⟩ = some (.slice aq5 nq5 cq5) := HK15.out.2.2.1.cell 5 (by simp)
    have z6 : w15.cell? ⟨w9.heap.size, 6, none⟩ = some (.slice aq6 nq6 cq6) := HK15.out.2.2.1.cell 6 (by simp)
    go_wp2_with fail
    refine Calls.mono (eqFacts_any DD _ _ _ _ _ _ _ _ _ _ _ _ _ _ w15 (HKEY.out _ HK15.out.2.2.2.tail) (HP5.out.1.still HK15.out.1)) ?_
    rintro e w18 ⟨rfl, hb18⟩
    have HK18 := (show Hid (Below wP.heap.size wP w18 ∧ Below w.heap.size w w18 ∧ Box w18 w9.heap.size 32 [.slice aq0 nq0 cq0, .slice aq1 nq1 cq1, .slice aq2 nq2 cq2, .slice aq3 nq3 cq3, .slice aq4 nq4 cq4, .slice aq5 nq5 cq5, .slice aq6 nq6 cq6] ∧ Own w18 B (bx 32 7 w9.heap.size [.slice aq0 nq0 cq0, .slice aq1 nq1 cq1, .slice aq2 nq2 cq2, .slice aq3 nq3 cq3, .slice aq4 nq4 cq4, .slice aq5 nq5 cq5, .slice aq6 nq6 cq6] :: ⟨4, 1, .slice aq0 nq0 cq0, n0, s0⟩ :: ⟨4, 1, .slice aq1 nq1 cq1, n1, s1⟩ :: ⟨4, 1, .slice aq2 nq2 cq2, n2, s2⟩ :: ⟨4, 1, .slice aq3 nq3 cq3, n3, s3⟩ :: ⟨3, 1, .slice aq4 nq4 cq4, n4, s4⟩ :: ⟨29, 1, .slice aq5 nq5 cq5, RF.length, RF.map (fun p : Value × List Int => p.1)⟩ :: ⟨29, 1, .slice aq6 nq6 cq6, RO.length, RO.map (fun p : Value × List Int => p.1)⟩ :: (RF.map entI ++ RO.map entI)) ∧ w10.heap.size ≤ w18.heap.size) from ⟨bel_trans HK15.out.1 hb18, bel_trans HK15.out.2.1 hb18, HK15.out.2.2.1.still hb18, HK15.out.2.2.2.still hb18, Nat.le_trans HS15.out hb18.size⟩)
    clear hb18 HK15 HS15 y0 z0 y1 z1 y2 z2 y3 z3 y4 z4 y5 z5 y6 z6
    have z0 : w18.cell? ⟨w9.heap.size, 0, none⟩ = some (.slice aq0 nq0 cq0) := HK18.out.2.2.1.cell 0 (by simp)
    have z1 : w18.cell? ⟨w9.heap.size, 1, none⟩ = some (.slice aq1 nq1 cq1) := HK18.out.2.2.1.cell 1 (by simp)
    have z2 : w18.cell? ⟨w9.heap.size, 2, none⟩ = some (.slice aq2 nq2 cq2) := HK18.out.2.2.1.cell 2 (by simp)
    have z3 : w18.cell? ⟨w9.heap.size, 3, none⟩ = some (.slice aq3 nq3 cq3) := HK18.out.2.2.1.cell 3 (by simp)
    have z4 : w18.cell? ⟨w9.heap.size, 4, none⟩ = some (.slice aq4 nq4 cq4) := HK18.out.2.2.1.cell 4 (by simp)
    have z5 : w18.cell? ⟨w9.heap.size, 5, none⟩ = some (.slice aq5 nq5 cq5) := HK18.out.2.2.1.cell 5 (by simp)
    have z6 : w18.cell? ⟨w9.heap.size, 6, none⟩ = some (.slice aq6 nq6 cq6) := HK18.out.2.2.1.cell 6 (by simp)
    have hO18 := HK18.out.2.2.2.1.turn
    simp only [List.cons_append, List.append_assoc] at hO18
    obtain ⟨l0, l1, l2, l3, l4, l5, l6, hs5, hs6⟩ := HLE.out
    have hm := markFacts_any B 1 n0 n1 n2 n3 n4 RF RO s0 s1 s2 s3 s4 [bx 32 7 w9.heap.size [.slice aq0 nq0 cq0, .slice aq1 nq1 cq1, .slice aq2 nq2 cq2, .slice aq3 nq3 cq3, .slice aq4 nq4 cq4, .slice aq5 nq5 cq5, .slice aq6 nq6 cq6]] (.slice aq0 nq0 cq0) (.slice aq1 nq1 cq1) (.slice aq2 nq2 cq2) (.slice aq3 nq3 cq3) (.slice aq4 nq4 cq4) (.slice aq5 nq5 cq5) (.slice aq6 nq6 cq6) w18 hO18 (by have := HN.out; have := HK18.out.2.2.2.2; have := HW10.out; omega) l0 l1 l2 l3 l4 l5 l6 hs5 hs6 (by decide)
    have hh : ∀ Z, FaM Z B 1 n0 n1 n2 n3 n4 RF RO (.slice aq0 nq0 cq0) (.slice aq1 nq1 cq1) (.slice aq2 nq2 cq2) (.slice aq3 nq3 cq3) (.slice aq4 nq4 cq4) (.slice aq5 nq5 cq5) (.slice aq6 nq6 cq6) → _ := fun Z hZ => heldFacts_any B 1 n0 n1 n2 n3 n4 RF RO (.slice aq0 nq0 cq0) (.slice aq1 nq1 cq1) (.slice aq2 nq2 cq2) (.slice aq3 nq3 cq3) (.slice aq4 nq4 cq4) (.slice aq5 nq5 cq5) (.slice aq6 nq6 cq6) Z hZ l0 l1 l2 l3 l4 l5 l6 hs5 hs6 (by decide)
    obtain ⟨N1, hN1⟩ : ∃ x, 1 + n0 + n1 + n2 + n3 + n4 + tot (RF.map entI) + tot (RO.map entI) = x := ⟨_, rfl⟩
    rw [hN1] at hm hh
    have HM := (show Hid _ from hm)
    have HH := (show Hid _ from hh)
    have hN1n : ((N1 : Int) != N1) = false := by simp
    have hN10 : ¬ ((N1 : Int) < 0) := by omega
    have hN1b : N1 ≤ 3000000 := by
      have h5 := tot_entI hs5 l5
      have h6 := tot_entI hs6 l6
      omega
    clear hO18 hm hh hN1 l0 l1 l2 l3 l4 l5 l6 hs5 hs6
    go_wp2_with fail
    refine Calls.mono HM.out ?_
    rintro e w20 ⟨rfl, hb20, hfm, hfs⟩
    have hPB : wP.heap.size ≤ B ∧ w.heap.size ≤ B := by have := HN.out; omega
    have HK20 := (show Hid (Below wP.heap.size wP w20 ∧ Below w.heap.size w w20 ∧ FaM w20 B 1 n0 n1 n2 n3 n4 RF RO (.slice aq0 nq0 cq0) (.slice aq1 nq1 cq1) (.slice aq2 nq2 cq2) (.slice aq3 nq3 cq3) (.slice aq4 nq4 cq4) (.slice aq5 nq5 cq5) (.slice aq6 nq6 cq6)) from ⟨HK18.out.1.trans (hb20.mono hPB.1), HK18.out.2.1.trans (hb20.mono hPB.2), hfm⟩)
    have HG20 : Hid (∀ (j : Nat) (u : Value), ([.slice aq0 nq0 cq0, .slice aq1 nq1 cq1, .slice aq2 nq2 cq2, .slice aq3 nq3 cq3, .slice aq4 nq4 cq4, .slice aq5 nq5 cq5, .slice aq6 nq6 cq6] : List Value)[j]? = some u → w20.cell? ⟨w9.heap.size, j, none⟩ = some u) := fun j u h => bx_cell (hfs _ (List.mem_singleton.2 rfl)) h
    clear hb20 hfm hfs HM HK18 hPB z0 z1 z2 z3 z4 z5 z6
    have z0 : w20.cell? ⟨w9.heap.size, 0, none⟩ = some (.slice aq0 nq0 cq0) := HG20.out 0 _ rfl
    have z1 : w20.cell? ⟨w9.heap.size, 1, none⟩ = some (.slice aq1 nq1 cq1) := HG20.out 1 _ rfl
    have z2 : w20.cell? ⟨w9.heap.size, 2, none⟩ = some (.slice aq2 nq2 cq2) := HG20.out 2 _ rfl
    have z3 : w20.cell? ⟨w9.heap.size, 3, none⟩ = some (.slice aq3 nq3 cq3) := HG20.out 3 _ rfl
    have z4 : w20.cell? ⟨w9.heap.size, 4, none⟩ = some (.slice aq4 nq4 cq4) := HG20.out 4 _ rfl
    have z5 : w20.cell? ⟨w9.heap.size, 5, none⟩ = some (.slice aq5 nq5 cq5) := HG20.out 5 _ rfl
    have z6 : w20.cell? ⟨w9.heap.size, 6, none⟩ = some (.slice aq6 nq6 cq6) := HG20.out 6 _ rfl
    go_wp2_with fail
    refine Calls.mono (HH.out _ HK20.out.2.2) ?_
    rintro e w22 ⟨rfl, hb22⟩
    have HX22 := (show Hid _ from hb22); clear hb22 z0 z1 z2 z3 z4 z5 z6
    obtain ⟨T0, T1, T2, T3⟩ := Four.still TH.out (bel_trans HB5.out.2 (bel_trans HK20.out.1 HX22.out))
    go_wp2_with fail
    refine Calls.mono (HTO.out _ (bel_trans HK20.out.2.1 HX22.out) HS.out) ?_
    rintro e w23 ⟨y0, y1, y3, rfl, hb23, hB23⟩
    obtain ⟨_, _, _, _, _, _, rfl, rfl, rfl⟩ := hB23.lies.form
    have HX23 := (show Hid _ from bel_trans HX22.out hb23)
    have H25 := (show Hid _ from iFactsD d _ _ _ C DD w23 (BOwn.lies hB23) (Tz.still HTZ.out (bel_trans HK20.out.2.1 HX23.out)) HP5.out.2.2)
    clear hB23 T0 T1 T2 T3 hb23 HX22
    go_wp2_with fail
    refine Calls.mono H25.out ?_
    rintro e w25 ⟨hb25, q0, q1, q2, q3, q4, q5, q6, rfl, B', n0', n1', n2', n3', n4', s0', s1', s2', s3', s4', RF', RO', hkey', _, _, hown', _⟩
    have hfl := hkey' w25 hown'
    clear hkey' hown'
    obtain ⟨⟨ar0, nr0, cr0, rfl, _⟩, ⟨ar1, nr1, cr1, rfl, _⟩, ⟨ar2, nr2, cr2, rfl, _⟩, ⟨ar3, nr3, cr3, rfl, _⟩, ⟨ar4, nr4, cr4, rfl, _⟩, ⟨ar5, nr5, cr5, rfl, _⟩, ⟨ar6, nr6, cr6, rfl, _⟩⟩ := hfl.form
    have hba := bel_alloc w25 (.cells #[.slice ar0 nr0 cr0, .slice ar1 nr1 cr1, .slice ar2 nr2 cr2, .slice ar3 nr3 cr3, .slice ar4 nr4 cr4, .slice ar5 nr5 cr5, .slice ar6 nr6 cr6] 32)
    have hb26 := bel_trans HX23.out (bel_trans hb25 hba)
    have HX26 := (show Hid (Below w20.heap.size w20 (w25.alloc (.cells #[.slice ar0 nr0 cr0, .slice ar1 nr1 cr1, .slice ar2 nr2 cr2, .slice ar3 nr3 cr3, .slice ar4 nr4 cr4, .slice ar5 nr5 cr5, .slice ar6 nr6 cr6] 32))) from hb26)
    have HF26 := (show Hid _ from hfl.still hba)
    have hlow26 := bel_trans HK20.out.1 HX26.out
    have y0 : (w25.alloc (.cells #[.slice ar0 nr0 cr0, .slice ar1 nr1 cr1, .slice ar2 nr2 cr2, .slice ar3 nr3 cr3, .slice ar4 nr4 cr4, .slice ar5 nr5 cr5, .slice ar6 nr6 cr6] 32)).cell? ⟨w5.heap.size, 0, none⟩ = some (.slice ap0 np0 cp0) := (HP5.out.2.1.still hlow26).cell 0 (by simp)
    have y1 : (w25.alloc (.cells #[.slice ar0 nr0 cr0, .slice ar1 nr1 cr1, .slice ar2 nr2 cr2, .slice ar3 nr3 cr3, .slice ar4 nr4 cr4, .slice ar5 nr5 cr5, .slice ar6 nr6 cr6] 32)).cell? ⟨w5.heap.size, 1, none⟩ = some (.slice ap1 np1 cp1) := (HP5.out.2.1.still hlow26).cell 1 (by simp)
    have y2 : (w25.alloc (.cells #[.slice ar0 nr0 cr0, .slice ar1 nr1 cr1, .slice ar2 nr2 cr2, .slice ar3 nr3 cr3, .slice ar4 nr4 cr4, .slice ar5 nr5 cr5, .slice ar6 nr6 cr6] 32)).cell? ⟨w5.heap.size, 2, none⟩ = some (.slice ap2 np2 cp2) := (HP5.out.2.1.still hlow26).cell 2 (by simp)
    have y3 : (w25.alloc (.cells #[.slice ar0 nr0 cr0, .slice ar1 nr1 cr1, .slice ar2 nr2 cr2, .slice ar3 nr3 cr3, .slice ar4 nr4 cr4, .slice ar5 nr5 cr5, .slice ar6 nr6 cr6] 32)).cell? ⟨w5.heap.size, 3, none⟩ = some (.slice ap3 np3 cp3) := (HP5.out.2.1.still hlow26).cell 3 (by simp)
    have y4 : (w25.alloc (.cells #[.slice ar0 nr0 cr0, .slice ar1 nr1 cr1, .slice ar2 nr2 cr2, .slice ar3 nr3 cr3, .slice ar4 nr4 cr4, .slice ar5 nr5 cr5, .slice ar6 nr6 cr6] 32)).cell? ⟨w5.heap.size, 4, none⟩ = some (.slice ap4 np4 cp4) := (HP5.out.2.1.still hlow26).cell 4 (by simp)
    have y5 : (w25.alloc (.cells #[.slice ar0 nr0 cr0, .slice ar1 nr1 cr1, .slice ar2 nr2 cr2, .slice ar3 nr3 cr3, .slice ar4 nr4 cr4, .slice ar5 nr5 cr5, .slice ar6 nr6 cr6] 32)).cell? ⟨w5.heap.size, 5, none⟩ = some (.slice ap5 np5 cp5) := (HP5.out.2.1.still hlow26).cell 5 (by simp)
    have y6 : (w25.alloc (.cells #[.slice ar0 nr0 cr0, .slice ar1 nr1 cr1, .slice ar2 nr2 cr2, .slice ar3 nr3 cr3, .slice ar4 nr4 cr4, .slice ar5 nr5 cr5, .slice ar6 nr6 cr6] 32)).cell? ⟨w5.heap.size, 6, none⟩ = some (.slice ap6 np6 cp6) := (HP5.out.2.1.still hlow26).cell 6 (by simp)
    clear hba hb25 hb26 hlow26 hfl H25 HX23
    dsimp only
    go_wp2_with fail
    generalize w25.alloc (.cells #[.slice ar0 nr0 cr0, .slice ar1 nr1 cr1, .slice ar2 nr2 cr2, .slice ar3 nr3 cr3, .slice ar4 nr4 cr4, .slice ar5 nr5 cr5, .slice ar6 nr6 cr6] 32) = w26 at *
    refine Calls.mono (eqFacts_any DD _ _ _ _ _ _ _ _ _ _ _ _ _ _ w26 HF26.out (HP5.out.1.still (bel_trans HK20.out.1 HX26.out))) ?_
    rintro e w27 ⟨rfl, hb27⟩
    have HX27 := (show Hid _ from bel_trans HX26.out hb27); clear hb27 HX26 HF26 y0 y1 y2 y3 y4 y5 y6
    have HG27 : Hid (∀ (j : Nat) (u : Value), ([.slice aq0 nq0 cq0, .slice aq1 nq1 cq1, .slice aq2 nq2 cq2, .slice aq3 nq3 cq3, .slice aq4 nq4 cq4, .slice aq5 nq5 cq5, .slice aq6 nq6 cq6] : List Value)[j]? = some u → w27.cell? ⟨w9.heap.size, j, none⟩ = some u) := fun j u h => (HX27.out.cell (lt_of_cell (HG20.out j u h))).trans (HG20.out j u h)
    have z0 : w27.cell? ⟨w9.heap.size, 0, none⟩ = some (.slice aq0 nq0 cq0) := HG27.out 0 _ rfl
    have z1 : w27.cell? ⟨w9.heap.size, 1, none⟩ = some (.slice aq1 nq1 cq1) := HG27.out 1 _ rfl
    have z2 : w27.cell? ⟨w9.heap.size, 2, none⟩ = some (.slice aq2 nq2 cq2) := HG27.out 2 _ rfl
    have z3 : w27.cell? ⟨w9.heap.size, 3, none⟩ = some (.slice aq3 nq3 cq3) := HG27.out 3 _ rfl
    have z4 : w27.cell? ⟨w9.heap.size, 4, none⟩ = some (.slice aq4 nq4 cq4) := HG27.out 4 _ rfl
    have z5 : w27.cell? ⟨w9.heap.size, 5, none⟩ = some (.slice aq5 nq5 cq5) := HG27.out 5 _ rfl
    have z6 : w27.cell? ⟨w9.heap.size, 6, none⟩ = some (.slice aq6 nq6 cq6) := HG27.out 6 _ rfl
    go_wp2_with fail
    refine Calls.mono (HH.out _ (HK20.out.2.2.still HX27.out)) ?_
    rintro e w29 ⟨rfl, hb29⟩
    have HX29 := (show Hid _ from bel_trans HK20.out.2.1 (bel_trans HX27.out hb29)); clear hb29 HX27 z0 z1 z2 z3 z4 z5 z6
    go_wp2_with fail
    go_ret
    exact ⟨rfl, HX29.out⟩

end Go.Proofs.YtjpjjfgdgieapaaDoor
