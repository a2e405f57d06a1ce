import Derived.Test.YtnmdgbnbnpibhaaCc
import Derived.BigQuiet
import Derived.Deep.QuietTactic
/-! The program: an attribute is set, or given, at a Pos. -/
namespace Go.Proofs.Ytnmdgbnbnpibhaa
open Go.RowKit Go.Deep
set_option linter.unusedVariables false
set_option maxRecDepth 100000
set_option linter.unusedSimpArgs false

def setB (d : Bn) (g : DAg) (P : Pd) (pos a : Int) : Bool := atB d g P pos a && ((atN g a).down == decide (pos ≠ 0))
theorem setB_no {d : Bn} {g : DAg} {P : Pd} {pos a : Int} (h : atB d g P pos a = false) : setB d g P pos a = false := by unfold setB; rw [h]; rfl
theorem setB_yes {d : Bn} {g : DAg} {P : Pd} {pos : Int} {i : Nat} (h : atB d g P pos i = true) (hi : i < g.attrs.length) : setB d g P pos i = (g.attrs[i].down == decide (pos ≠ 0)) := by unfold setB; rw [h, atN_eq hi]; rfl
set_option maxHeartbeats 3200000 in
theorem set61 {S S' S2 : Nat → Prop} (d : Bn) (g : DAg) (P : Pd) (v0 v1 v3 u0 u1 pv : Value) (pos a : Int) (w : World) (h : BLies w S d v0 v1 v3) (hg : DAgL w S' g u0 u1) (hP : Ints w S2 P.right pv) (hsm : ∀ i (hi : i < g.attrs.length), 0 ≤ g.attrs[i].non ∧ g.attrs[i].non ≤ 1000) (hT : d.terms.length ≤ 1000000) :
    Calls Try.prog 61 #[.agg #[v0, v1, .int .i64 d.own, v3, u0, u1], .agg #[.int .i64 P.left, pv, .string P.label, .int .i64 P.lev, .int .i64 P.asc], .int .i64 pos, .int .i64 a] w fun e w' => e = .returned (.bool (setB d g P pos a)) ∧ Below w.heap.size w w' := by
  have HAT := (show Hid (∀ wq : World, Below w.heap.size w wq → Calls Try.prog 79 #[.agg #[v0, v1, .int .i64 d.own, v3, u0, u1], .agg #[.int .i64 P.left, pv, .string P.label, .int .i64 P.lev, .int .i64 P.asc], .int .i64 pos, .int .i64 a] wq fun e w' => e = .returned (.bool (atB d g P pos a)) ∧ Below wq.heap.size wq w') from fun wq hq => at79 d g P _ _ _ _ _ _ pos a wq (h.still hq) (hg.still hq) (hP.still hq) hsm hT)
  obtain ⟨x0, x1, x2, x3, x4, x5, rfl, rfl, rfl⟩ := h.form
  obtain ⟨y0, y1, y2, y3, rfl, rfl⟩ := hg.form
  obtain ⟨pa, pc, rfl, _⟩ := hP.form
  obtain ⟨aa, cap, b, off, hv, hc, hm, ha, hcell⟩ := hg.attrs
  simp only [Value.slice.injEq] at hv
  obtain ⟨rfl, _, rfl⟩ := hv
  have hb2 : Below w.heap.size w ((w.alloc (.cells #[.slice x0 d.terms.length x1, .slice x2 d.nons.length x3, .int .i64 d.own, .slice x4 d.prods.length x5, .slice y0 g.attrs.length y1, .slice y2 g.eqs.length y3] 76)).alloc (.cells #[.int .i64 P.left, .slice pa P.right.length pc, .string P.label, .int .i64 P.lev, .int .i64 P.asc] 67)) := bel_trans (bel_alloc _ _) (bel_alloc _ _)
  have hs1 : (w.alloc (.cells #[.slice x0 d.terms.length x1, .slice x2 d.nons.length x3, .int .i64 d.own, .slice x4 d.prods.length x5, .slice y0 g.attrs.length y1, .slice y2 g.eqs.length y3] 76)).heap.size = w.heap.size + 1 := by simp
  have B1 := (Box.new w 76 [.slice x0 d.terms.length x1, .slice x2 d.nons.length x3, .int .i64 d.own, .slice x4 d.prods.length x5, .slice y0 g.attrs.length y1, .slice y2 g.eqs.length y3]).still (bel_alloc (w.alloc (.cells #[.slice x0 d.terms.length x1, .slice x2 d.nons.length x3, .int .i64 d.own, .slice x4 d.prods.length x5, .slice y0 g.attrs.length y1, .slice y2 g.eqs.length y3] 76)) (.cells #[.int .i64 P.left, .slice pa P.right.length pc, .string P.label, .int .i64 P.lev, .int .i64 P.asc] 67))
  have B2 := Box.new (w.alloc (.cells #[.slice x0 d.terms.length x1, .slice x2 d.nons.length x3, .int .i64 d.own, .slice x4 d.prods.length x5, .slice y0 g.attrs.length y1, .slice y2 g.eqs.length y3] 76)) 67 [.int .i64 P.left, .slice pa P.right.length pc, .string P.label, .int .i64 P.lev, .int .i64 P.asc]
  rw [hs1] at B2
  have HQ := (show Hid (∀ wq : World, Below ((w.alloc (.cells #[.slice x0 d.terms.length x1, .slice x2 d.nons.length x3, .int .i64 d.own, .slice x4 d.prods.length x5, .slice y0 g.attrs.length y1, .slice y2 g.eqs.length y3] 76)).alloc (.cells #[.int .i64 P.left, .slice pa P.right.length pc, .string P.label, .int .i64 P.lev, .int .i64 P.asc] 67)).heap.size ((w.alloc (.cells #[.slice x0 d.terms.length x1, .slice x2 d.nons.length x3, .int .i64 d.own, .slice x4 d.prods.length x5, .slice y0 g.attrs.length y1, .slice y2 g.eqs.length y3] 76)).alloc (.cells #[.int .i64 P.left, .slice pa P.right.length pc, .string P.label, .int .i64 P.lev, .int .i64 P.asc] 67)) wq → wq.cell? ⟨w.heap.size, 0, none⟩ = some (.slice x0 d.terms.length x1) ∧ wq.cell? ⟨w.heap.size, 1, none⟩ = some (.slice x2 d.nons.length x3) ∧ wq.cell? ⟨w.heap.size, 2, none⟩ = some (.int .i64 d.own) ∧ wq.cell? ⟨w.heap.size, 3, none⟩ = some (.slice x4 d.prods.length x5) ∧ wq.cell? ⟨w.heap.size, 4, none⟩ = some (.slice y0 g.attrs.length y1) ∧ wq.cell? ⟨w.heap.size, 5, none⟩ = some (.slice y2 g.eqs.length y3) ∧ wq.cell? ⟨w.heap.size + 1, 0, none⟩ = some (.int .i64 P.left) ∧ wq.cell? ⟨w.heap.size + 1, 1, none⟩ = some (.slice pa P.right.length pc) ∧ wq.cell? ⟨w.heap.size + 1, 2, none⟩ = some (.string P.label) ∧ wq.cell? ⟨w.heap.size + 1, 3, none⟩ = some (.int .i64 P.lev) ∧ wq.cell? ⟨w.heap.size + 1, 4, none⟩ = some (.int .i64 P.asc)) from fun wq hq => ⟨(B1.still hq).cell 0 (by simp), (B1.still hq).cell 1 (by simp), (B1.still hq).cell 2 (by simp), (B1.still hq).cell 3 (by simp), (B1.still hq).cell 4 (by simp), (B1.still hq).cell 5 (by simp), (B2.still hq).cell 0 (by simp), (B2.still hq).cell 1 (by simp), (B2.still hq).cell 2 (by simp), (B2.still hq).cell 3 (by simp), (B2.still hq).cell 4 (by simp)⟩)
  have HBB := (show Hid (Below w.heap.size w ((w.alloc (.cells #[.slice x0 d.terms.length x1, .slice x2 d.nons.length x3, .int .i64 d.own, .slice x4 d.prods.length x5, .slice y0 g.attrs.length y1, .slice y2 g.eqs.length y3] 76)).alloc (.cells #[.int .i64 P.left, .slice pa P.right.length pc, .string P.label, .int .i64 P.lev, .int .i64 P.asc] 67))) from hb2)
  have HC7 := (show Hid _ from HAT.out ((w.alloc (.cells #[.slice x0 d.terms.length x1, .slice x2 d.nons.length x3, .int .i64 d.own, .slice x4 d.prods.length x5, .slice y0 g.attrs.length y1, .slice y2 g.eqs.length y3] 76)).alloc (.cells #[.int .i64 P.left, .slice pa P.right.length pc, .string P.label, .int .i64 P.lev, .int .i64 P.asc] 67)) hb2)
  have HA := (show Hid _ from ha)
  have HC := (show Hid _ from hcell)
  obtain ⟨q0, q1, q2, q3, q4, q5, p0, p1, p2, p3, p4⟩ := HQ.out _ (Below.refl _ _)
  clear h hg hP ha hcell B1 B2 hs1 hb2 hsm HAT
  cases hh : atB d g P pos a
  · have HE := (show Hid _ from setB_no hh)
    rw [hh] at HC7
    clear hh HA HC
    go_enter Try.func61, Try.ntmps61
    go_wp2_with fail
    refine Calls.mono HC7.out ?_
    rintro e w3 ⟨rfl, hb3⟩
    have HB3 := (show Hid _ from bel_trans HBB.out hb3)
    clear hb3 HC7
    go_wp2_with fail
    go_ret
    exact ⟨by rw [HE.out]; rfl, HB3.out⟩
  · have hr : 0 ≤ pos ∧ pos ≤ (P.right.length : Int) ∧ 0 ≤ a ∧ a < (g.attrs.length : Int) := by
      refine Classical.byContradiction fun hn => ?_
      rw [at_no hn] at hh; exact absurd hh (by simp)
    obtain ⟨_, _, h3, h4⟩ := hr
    obtain ⟨i, rfl⟩ : ∃ i : Nat, a = (i : Int) := ⟨a.toNat, by omega⟩
    have hi : i < g.attrs.length := by omega
    have HE := (show Hid _ from setB_yes hh hi)
    rw [hh] at HC7
    obtain ⟨rfl, _⟩ := HA.out (by omega)
    obtain ⟨_, _, cd, _⟩ := HC.out i hi
    have HCD := (show Hid _ from cd)
    clear hh HA HC cd
    generalize g.attrs[i].down = dn at *
    have kz : (pos != 0) = decide (pos ≠ 0) := by rw [Bool.eq_iff_iff]; simp
    generalize decide (pos ≠ 0) = pz at *
    go_enter Try.func61, Try.ntmps61
    go_wp2_with fail
    refine Calls.mono HC7.out ?_
    rintro e w3 ⟨rfl, hb3⟩
    have HB3 := (show Hid _ from bel_trans HBB.out hb3)
    have cd := HCD.out
    rw [← HB3.out.cell (lt_of_cell cd)] at cd
    clear q0 q1 q2 q3 q4 q5 p0 p1 p2 p3 p4
    obtain ⟨q0, q1, q2, q3, q4, q5, p0, p1, p2, p3, p4⟩ := HQ.out _ hb3
    clear hb3 HC7
    go_wp2_with fail
    go_ret
    exact ⟨by rw [HE.out]; rfl, HB3.out⟩
def givB (d : Bn) (g : DAg) (P : Pd) (pos a : Int) : Bool := atB d g P pos a && ((atN g a).down == decide (pos = 0))
theorem givB_no {d : Bn} {g : DAg} {P : Pd} {pos a : Int} (h : atB d g P pos a = false) : givB d g P pos a = false := by unfold givB; rw [h]; rfl
theorem givB_yes {d : Bn} {g : DAg} {P : Pd} {pos : Int} {i : Nat} (h : atB d g P pos i = true) (hi : i < g.attrs.length) : givB d g P pos i = (g.attrs[i].down == decide (pos = 0)) := by unfold givB; rw [h, atN_eq hi]; rfl
set_option maxHeartbeats 3200000 in
theorem giv80 {S S' S2 : Nat → Prop} (d : Bn) (g : DAg) (P : Pd) (v0 v1 v3 u0 u1 pv : Value) (pos a : Int) (w : World) (h : BLies w S d v0 v1 v3) (hg : DAgL w S' g u0 u1) (hP : Ints w S2 P.right pv) (hsm : ∀ i (hi : i < g.attrs.length), 0 ≤ g.attrs[i].non ∧ g.attrs[i].non ≤ 1000) (hT : d.terms.length ≤ 1000000) :
    Calls Try.prog 80 #[.agg #[v0, v1, .int .i64 d.own, v3, u0, u1], .agg #[.int .i64 P.left, pv, .string P.label, .int .i64 P.lev, .int .i64 P.asc], .int .i64 pos, .int .i64 a] w fun e w' => e = .returned (.bool (givB d g P pos a)) ∧ Below w.heap.size w w' := by
  have HAT := (show Hid (∀ wq : World, Below w.heap.size w wq → Calls Try.prog 79 #[.agg #[v0, v1, .int .i64 d.own, v3, u0, u1], .agg #[.int .i64 P.left, pv, .string P.label, .int .i64 P.lev, .int .i64 P.asc], .int .i64 pos, .int .i64 a] wq fun e w' => e = .returned (.bool (atB d g P pos a)) ∧ Below wq.heap.size wq w') from fun wq hq => at79 d g P _ _ _ _ _ _ pos a wq (h.still hq) (hg.still hq) (hP.still hq) hsm hT)
  obtain ⟨x0, x1, x2, x3, x4, x5, rfl, rfl, rfl⟩ := h.form
  obtain ⟨y0, y1, y2, y3, rfl, rfl⟩ := hg.form
  obtain ⟨pa, pc, rfl, _⟩ := hP.form
  obtain ⟨aa, cap, b, off, hv, hc, hm, ha, hcell⟩ := hg.attrs
  simp only [Value.slice.injEq] at hv
  obtain ⟨rfl, _, rfl⟩ := hv
  have hb2 : Below w.heap.size w ((w.alloc (.cells #[.slice x0 d.terms.length x1, .slice x2 d.nons.length x3, .int .i64 d.own, .slice x4 d.prods.length x5, .slice y0 g.attrs.length y1, .slice y2 g.eqs.length y3] 76)).alloc (.cells #[.int .i64 P.left, .slice pa P.right.length pc, .string P.label, .int .i64 P.lev, .int .i64 P.asc] 67)) := bel_trans (bel_alloc _ _) (bel_alloc _ _)
  have hs1 : (w.alloc (.cells #[.slice x0 d.terms.length x1, .slice x2 d.nons.length x3, .int .i64 d.own, .slice x4 d.prods.length x5, .slice y0 g.attrs.length y1, .slice y2 g.eqs.length y3] 76)).heap.size = w.heap.size + 1 := by simp
  have B1 := (Box.new w 76 [.slice x0 d.terms.length x1, .slice x2 d.nons.length x3, .int .i64 d.own, .slice x4 d.prods.length x5, .slice y0 g.attrs.length y1, .slice y2 g.eqs.length y3]).still (bel_alloc (w.alloc (.cells #[.slice x0 d.terms.length x1, .slice x2 d.nons.length x3, .int .i64 d.own, .slice x4 d.prods.length x5, .slice y0 g.attrs.length y1, .slice y2 g.eqs.length y3] 76)) (.cells #[.int .i64 P.left, .slice pa P.right.length pc, .string P.label, .int .i64 P.lev, .int .i64 P.asc] 67))
  have B2 := Box.new (w.alloc (.cells #[.slice x0 d.terms.length x1, .slice x2 d.nons.length x3, .int .i64 d.own, .slice x4 d.prods.length x5, .slice y0 g.attrs.length y1, .slice y2 g.eqs.length y3] 76)) 67 [.int .i64 P.left, .slice pa P.right.length pc, .string P.label, .int .i64 P.lev, .int .i64 P.asc]
  rw [hs1] at B2
  have HQ := (show Hid (∀ wq : World, Below ((w.alloc (.cells #[.slice x0 d.terms.length x1, .slice x2 d.nons.length x3, .int .i64 d.own, .slice x4 d.prods.length x5, .slice y0 g.attrs.length y1, .slice y2 g.eqs.length y3] 76)).alloc (.cells #[.int .i64 P.left, .slice pa P.right.length pc, .string P.label, .int .i64 P.lev, .int .i64 P.asc] 67)).heap.size ((w.alloc (.cells #[.slice x0 d.terms.length x1, .slice x2 d.nons.length x3, .int .i64 d.own, .slice x4 d.prods.length x5, .slice y0 g.attrs.length y1, .slice y2 g.eqs.length y3] 76)).alloc (.cells #[.int .i64 P.left, .slice pa P.right.length pc, .string P.label, .int .i64 P.lev, .int .i64 P.asc] 67)) wq → wq.cell? ⟨w.heap.size, 0, none⟩ = some (.slice x0 d.terms.length x1) ∧ wq.cell? ⟨w.heap.size, 1, none⟩ = some (.slice x2 d.nons.length x3) ∧ wq.cell? ⟨w.heap.size, 2, none⟩ = some (.int .i64 d.own) ∧ wq.cell? ⟨w.heap.size, 3, none⟩ = some (.slice x4 d.prods.length x5) ∧ wq.cell? ⟨w.heap.size, 4, none⟩ = some (.slice y0 g.attrs.length y1) ∧ wq.cell? ⟨w.heap.size, 5, none⟩ = some (.slice y2 g.eqs.length y3) ∧ wq.cell? ⟨w.heap.size + 1, 0, none⟩ = some (.int .i64 P.left) ∧ wq.cell? ⟨w.heap.size + 1, 1, none⟩ = some (.slice pa P.right.length pc) ∧ wq.cell? ⟨w.heap.size + 1, 2, none⟩ = some (.string P.label) ∧ wq.cell? ⟨w.heap.size + 1, 3, none⟩ = some (.int .i64 P.lev) ∧ wq.cell? ⟨w.heap.size + 1, 4, none⟩ = some (.int .i64 P.asc)) from fun wq hq => ⟨(B1.still hq).cell 0 (by simp), (B1.still hq).cell 1 (by simp), (B1.still hq).cell 2 (by simp), (B1.still hq).cell 3 (by simp), (B1.still hq).cell 4 (by simp), (B1.still hq).cell 5 (by simp), (B2.still hq).cell 0 (by simp), (B2.still hq).cell 1 (by simp), (B2.still hq).cell 2 (by simp), (B2.still hq).cell 3 (by simp), (B2.still hq).cell 4 (by simp)⟩)
  have HBB := (show Hid (Below w.heap.size w ((w.alloc (.cells #[.slice x0 d.terms.length x1, .slice x2 d.nons.length x3, .int .i64 d.own, .slice x4 d.prods.length x5, .slice y0 g.attrs.length y1, .slice y2 g.eqs.length y3] 76)).alloc (.cells #[.int .i64 P.left, .slice pa P.right.length pc, .string P.label, .int .i64 P.lev, .int .i64 P.asc] 67))) from hb2)
  have HC7 := (show Hid _ from HAT.out ((w.alloc (.cells #[.slice x0 d.terms.length x1, .slice x2 d.nons.length x3, .int .i64 d.own, .slice x4 d.prods.length x5, .slice y0 g.attrs.length y1, .slice y2 g.eqs.length y3] 76)).alloc (.cells #[.int .i64 P.left, .slice pa P.right.length pc, .string P.label, .int .i64 P.lev, .int .i64 P.asc] 67)) hb2)
  have HA := (show Hid _ from ha)
  have HC := (show Hid _ from hcell)
  obtain ⟨q0, q1, q2, q3, q4, q5, p0, p1, p2, p3, p4⟩ := HQ.out _ (Below.refl _ _)
  clear h hg hP ha hcell B1 B2 hs1 hb2 hsm HAT
  cases hh : atB d g P pos a
  · have HE := (show Hid _ from givB_no hh)
    rw [hh] at HC7
    clear hh HA HC
    go_enter Try.func80, Try.ntmps80
    go_wp2_with fail
    refine Calls.mono HC7.out ?_
    rintro e w3 ⟨rfl, hb3⟩
    have HB3 := (show Hid _ from bel_trans HBB.out hb3)
    clear hb3 HC7
    go_wp2_with fail
    go_ret
    exact ⟨by rw [HE.out]; rfl, HB3.out⟩
  · have hr : 0 ≤ pos ∧ pos ≤ (P.right.length : Int) ∧ 0 ≤ a ∧ a < (g.attrs.length : Int) := by
      refine Classical.byContradiction fun hn => ?_
      rw [at_no hn] at hh; exact absurd hh (by simp)
    obtain ⟨_, _, h3, h4⟩ := hr
    obtain ⟨i, rfl⟩ : ∃ i : Nat, a = (i : Int) := ⟨a.toNat, by omega⟩
    have hi : i < g.attrs.length := by omega
    have HE := (show Hid _ from givB_yes hh hi)
    rw [hh] at HC7
    obtain ⟨rfl, _⟩ := HA.out (by omega)
    obtain ⟨_, _, cd, _⟩ := HC.out i hi
    have HCD := (show Hid _ from cd)
    clear hh HA HC cd
    generalize g.attrs[i].down = dn at *
    have kz : (pos == 0) = decide (pos = 0) := by rw [Bool.eq_iff_iff]; simp
    generalize decide (pos = 0) = pz at *
    go_enter Try.func80, Try.ntmps80
    go_wp2_with fail
    refine Calls.mono HC7.out ?_
    rintro e w3 ⟨rfl, hb3⟩
    have HB3 := (show Hid _ from bel_trans HBB.out hb3)
    have cd := HCD.out
    rw [← HB3.out.cell (lt_of_cell cd)] at cd
    clear q0 q1 q2 q3 q4 q5 p0 p1 p2 p3 p4
    obtain ⟨q0, q1, q2, q3, q4, q5, p0, p1, p2, p3, p4⟩ := HQ.out _ hb3
    clear hb3 HC7
    go_wp2_with fail
    go_ret
    exact ⟨by rw [HE.out]; rfl, HB3.out⟩
end Go.Proofs.Ytnmdgbnbnpibhaa
