import Derived.Test.YtnmdgbnbnpibhaaBf
import Derived.BigQuiet
import Derived.Deep.QuietTactic
/-! The specification: AgOK where the rules are not right, or there is too much. -/
namespace Go.Proofs.Ytnmdgbnbnpibhaa
open Go.RowKit Go.Deep
set_option linter.unusedVariables false
set_option maxRecDepth 100000
set_option linter.unusedSimpArgs false

set_option maxHeartbeats 3200000 in
theorem ag6_few {S S' : Nat → Prop} (d : Bn) (g : DAg) (v0 v1 v3 u0 u1 : Value) (w : World) (h : BLies w S d v0 v1 v3) (hg : DAgL w S' g u0 u1) (hno : ¬ (bnB d = true ∧ g.attrs.length ≤ 20 ∧ g.eqs.length ≤ 300)) :
    Calls Try.prog 6 #[.agg #[v0, v1, .int .i64 d.own, v3], .agg #[u0, u1]] w fun e w' => e = .returned (.bool (agB d g)) ∧ Below w.heap.size w w' := by
  obtain ⟨x0, x1, x2, x3, x4, x5, rfl, rfl, rfl⟩ := h.form
  obtain ⟨y0, y1, y2, y3, rfl, rfl⟩ := hg.form
  have hl1 : g.attrs.length ≤ maxLen := by obtain ⟨_, _, _, e⟩ := hg.attrs.form; exact e
  have hl2 : g.eqs.length ≤ maxLen := by obtain ⟨_, _, _, e⟩ := hg.eqs.form; exact e
  unfold maxLen at hl1 hl2
  have hb2 : Below w.heap.size w ((w.alloc (.cells #[.slice x0 d.terms.length x1, .slice x2 d.nons.length x3, .int .i64 d.own, .slice x4 d.prods.length x5] 37)).alloc (.cells #[.slice y0 g.attrs.length y1, .slice y2 g.eqs.length y3] 42)) := bel_trans (bel_alloc _ _) (bel_alloc _ _)
  have hs1 : (w.alloc (.cells #[.slice x0 d.terms.length x1, .slice x2 d.nons.length x3, .int .i64 d.own, .slice x4 d.prods.length x5] 37)).heap.size = w.heap.size + 1 := by simp
  have B4 := (Box.new w 37 [.slice x0 d.terms.length x1, .slice x2 d.nons.length x3, .int .i64 d.own, .slice x4 d.prods.length x5]).still (bel_alloc (w.alloc (.cells #[.slice x0 d.terms.length x1, .slice x2 d.nons.length x3, .int .i64 d.own, .slice x4 d.prods.length x5] 37)) (.cells #[.slice y0 g.attrs.length y1, .slice y2 g.eqs.length y3] 42))
  have B5 := Box.new (w.alloc (.cells #[.slice x0 d.terms.length x1, .slice x2 d.nons.length x3, .int .i64 d.own, .slice x4 d.prods.length x5] 37)) 42 [.slice y0 g.attrs.length y1, .slice y2 g.eqs.length y3]
  rw [hs1] at B5
  have q0 : ((w.alloc (.cells #[.slice x0 d.terms.length x1, .slice x2 d.nons.length x3, .int .i64 d.own, .slice x4 d.prods.length x5] 37)).alloc (.cells #[.slice y0 g.attrs.length y1, .slice y2 g.eqs.length y3] 42)).cell? ⟨w.heap.size, 0, none⟩ = some (.slice x0 d.terms.length x1) := B4.cell 0 (by simp)
  have q1 : ((w.alloc (.cells #[.slice x0 d.terms.length x1, .slice x2 d.nons.length x3, .int .i64 d.own, .slice x4 d.prods.length x5] 37)).alloc (.cells #[.slice y0 g.attrs.length y1, .slice y2 g.eqs.length y3] 42)).cell? ⟨w.heap.size, 1, none⟩ = some (.slice x2 d.nons.length x3) := B4.cell 1 (by simp)
  have q2 : ((w.alloc (.cells #[.slice x0 d.terms.length x1, .slice x2 d.nons.length x3, .int .i64 d.own, .slice x4 d.prods.length x5] 37)).alloc (.cells #[.slice y0 g.attrs.length y1, .slice y2 g.eqs.length y3] 42)).cell? ⟨w.heap.size, 2, none⟩ = some (.int .i64 d.own) := B4.cell 2 (by simp)
  have q3 : ((w.alloc (.cells #[.slice x0 d.terms.length x1, .slice x2 d.nons.length x3, .int .i64 d.own, .slice x4 d.prods.length x5] 37)).alloc (.cells #[.slice y0 g.attrs.length y1, .slice y2 g.eqs.length y3] 42)).cell? ⟨w.heap.size, 3, none⟩ = some (.slice x4 d.prods.length x5) := B4.cell 3 (by simp)
  have HBX := (show Hid (Box ((w.alloc (.cells #[.slice x0 d.terms.length x1, .slice x2 d.nons.length x3, .int .i64 d.own, .slice x4 d.prods.length x5] 37)).alloc (.cells #[.slice y0 g.attrs.length y1, .slice y2 g.eqs.length y3] 42)) (w.heap.size + 1) 42 [.slice y0 g.attrs.length y1, .slice y2 g.eqs.length y3]) from B5)
  have HBB := (show Hid (Below w.heap.size w ((w.alloc (.cells #[.slice x0 d.terms.length x1, .slice x2 d.nons.length x3, .int .i64 d.own, .slice x4 d.prods.length x5] 37)).alloc (.cells #[.slice y0 g.attrs.length y1, .slice y2 g.eqs.length y3] 42))) from hb2)
  have HBN := (show Hid (Calls Try.prog 17 #[.agg #[.slice x0 d.terms.length x1, .slice x2 d.nons.length x3, .int .i64 d.own, .slice x4 d.prods.length x5]] ((w.alloc (.cells #[.slice x0 d.terms.length x1, .slice x2 d.nons.length x3, .int .i64 d.own, .slice x4 d.prods.length x5] 37)).alloc (.cells #[.slice y0 g.attrs.length y1, .slice y2 g.eqs.length y3] 42)) fun e w' => e = .returned (.bool (bnB d)) ∧ Below ((w.alloc (.cells #[.slice x0 d.terms.length x1, .slice x2 d.nons.length x3, .int .i64 d.own, .slice x4 d.prods.length x5] 37)).alloc (.cells #[.slice y0 g.attrs.length y1, .slice y2 g.eqs.length y3] 42)).heap.size ((w.alloc (.cells #[.slice x0 d.terms.length x1, .slice x2 d.nons.length x3, .int .i64 d.own, .slice x4 d.prods.length x5] 37)).alloc (.cells #[.slice y0 g.attrs.length y1, .slice y2 g.eqs.length y3] 42)) w') from sBnf_any d _ _ _ ((w.alloc (.cells #[.slice x0 d.terms.length x1, .slice x2 d.nons.length x3, .int .i64 d.own, .slice x4 d.prods.length x5] 37)).alloc (.cells #[.slice y0 g.attrs.length y1, .slice y2 g.eqs.length y3] 42)) (h.still hb2))
  clear B4 B5 hb2 hs1 h hg
  cases hbn : bnB d
  · have HE := (show Hid _ from ag_no_bn (g := g) hbn)
    rw [hbn] at HBN
    clear hbn hno
    go_enter Try.func6, Try.ntmps6
    go_wp2_with fail
    refine Calls.mono HBN.out ?_
    rintro e w2 ⟨rfl, hb2⟩
    have HB2 := (show Hid _ from bel_trans HBB.out hb2)
    clear hb2 HBN
    go_wp2_with fail
    go_ret
    exact ⟨by rw [HE.out]; rfl, HB2.out⟩
  · rw [hbn] at HBN
    by_cases h1 : g.attrs.length ≤ 20
    · have h2 : ¬ g.eqs.length ≤ 300 := fun hh => hno ⟨hbn, h1, hh⟩
      have HE := (show Hid _ from ag_no_e (d := d) h2)
      clear hbn hno
      go_enter Try.func6, Try.ntmps6
      go_wp2_with fail
      refine Calls.mono HBN.out ?_
      rintro e w2 ⟨rfl, hb2⟩
      have HB2 := (show Hid _ from bel_trans HBB.out hb2)
      have r0 : w2.cell? ⟨w.heap.size + 1, 0, none⟩ = some (.slice y0 g.attrs.length y1) := (HBX.out.still hb2).cell 0 (by simp)
      have r1 : w2.cell? ⟨w.heap.size + 1, 1, none⟩ = some (.slice y2 g.eqs.length y3) := (HBX.out.still hb2).cell 1 (by simp)
      clear hb2 HBN
      go_wp2_with fail
      go_ret
      exact ⟨by rw [HE.out]; rfl, HB2.out⟩
    · have HE := (show Hid _ from ag_no_a (d := d) h1)
      clear hbn hno
      go_enter Try.func6, Try.ntmps6
      go_wp2_with fail
      refine Calls.mono HBN.out ?_
      rintro e w2 ⟨rfl, hb2⟩
      have HB2 := (show Hid _ from bel_trans HBB.out hb2)
      have r0 : w2.cell? ⟨w.heap.size + 1, 0, none⟩ = some (.slice y0 g.attrs.length y1) := (HBX.out.still hb2).cell 0 (by simp)
      have r1 : w2.cell? ⟨w.heap.size + 1, 1, none⟩ = some (.slice y2 g.eqs.length y3) := (HBX.out.still hb2).cell 1 (by simp)
      clear hb2 HBN
      go_wp2_with fail
      go_ret
      exact ⟨by rw [HE.out]; rfl, HB2.out⟩
end Go.Proofs.Ytnmdgbnbnpibhaa
