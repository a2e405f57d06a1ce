import Derived.Test.YtnmdgbnbnpibhaaCb
import Derived.Deep.RegionHeld3
import Derived.BigQuiet
import Derived.Deep.QuietTactic
/-! The program: an attribute is at a Pos. -/
namespace Go.Proofs.Ytnmdgbnbnpibhaa
open Go.RowKit Go.Deep
set_option linter.unusedVariables false
set_option maxRecDepth 100000
set_option linter.unusedSimpArgs false

abbrev oI0 : Oper := { dst := some 37, op := Go.Op.load 76 (Go.Operand.tmp 4), type := 76, pos := "l10_attributes.go:197", after := #[], guard := none }
abbrev oI1 : Oper := { dst := some 38, op := Go.Op.move (Go.Operand.tmp 3), type := 3, pos := "l10_attributes.go:197", after := #[], guard := none }
abbrev oI2 : Oper := { dst := some 39, op := Go.Op.fieldAddr 67 (Go.Operand.tmp 5) 1, type := 0, pos := "l10_attributes.go:197", after := #[], guard := none }
abbrev oI3 : Oper := { dst := some 40, op := Go.Op.load 65 (Go.Operand.tmp 39), type := 65, pos := "l10_attributes.go:197", after := #[{ on := 2, ground := Go.Ground.data }], guard := none }
abbrev oI4 : Oper := { dst := some 41, op := Go.Op.move (Go.Operand.tmp 2), type := 3, pos := "l10_attributes.go:197", after := #[], guard := none }
abbrev oI5 : Oper := { dst := some 42, op := Go.Op.binOp Go.BinOp.sub 3 (Go.Operand.tmp 41) (Go.Operand.const (Go.Value.int Go.IntKind.i64 1)) 3, type := 3, pos := "l10_attributes.go:197", after := #[{ on := 4, ground := Go.Ground.data }], guard := none }
abbrev oI6 : Oper := { dst := some 43, op := Go.Op.indexAddr 65 (Go.Operand.tmp 40) (Go.Operand.tmp 42), type := 0, pos := "l10_attributes.go:197", after := #[{ on := 3, ground := Go.Ground.data }, { on := 5, ground := Go.Ground.data }], guard := none }
abbrev oI7 : Oper := { dst := some 44, op := Go.Op.load 3 (Go.Operand.tmp 43), type := 3, pos := "l10_attributes.go:197", after := #[{ on := 6, ground := Go.Ground.data }], guard := none }
abbrev oI8 : Oper := { dst := some 45, op := Go.Op.call { callee := Go.Callee.value (Go.Operand.func 86), args := #[Go.Operand.tmp 37, Go.Operand.tmp 38, Go.Operand.tmp 44], argTypes := #[76, 3, 3] }, type := 4, pos := "l10_attributes.go:197", after := #[{ on := 0, ground := Go.Ground.data }, { on := 1, ground := Go.Ground.data }, { on := 7, ground := Go.Ground.data }], guard := none }
abbrev oI9 : Oper := { dst := some 8, op := Go.Op.assign (Go.Operand.tmp 45), type := 4, pos := "l10_attributes.go:197", after := #[{ on := 8, ground := Go.Ground.data }, { on := 8, ground := Go.Ground.chain }, { on := 0, ground := Go.Ground.phase }, { on := 1, ground := Go.Ground.phase }, { on := 2, ground := Go.Ground.phase }, { on := 3, ground := Go.Ground.phase }, { on := 4, ground := Go.Ground.phase }, { on := 5, ground := Go.Ground.phase }, { on := 6, ground := Go.Ground.phase }, { on := 7, ground := Go.Ground.phase }, { on := 8, ground := Go.Ground.phase }], guard := none }
/-- An attribute is of what stands at a Pos of a Prod, as the program asks. -/
def atB (d : Bn) (g : DAg) (P : Pd) (pos a : Int) : Bool := decide (0 ≤ pos ∧ pos ≤ (P.right.length : Int) ∧ 0 ≤ a ∧ a < (g.attrs.length : Int)) && decide ((if pos = 0 then P.left else inN P.right (pos - 1)) = (d.terms.length : Int) + (atN g a).non)
theorem at_no {d : Bn} {g : DAg} {P : Pd} {pos a : Int} (h : ¬ (0 ≤ pos ∧ pos ≤ (P.right.length : Int) ∧ 0 ≤ a ∧ a < (g.attrs.length : Int))) : atB d g P pos a = false := by unfold atB; rw [decide_eq_false h]; rfl
theorem at_yes {d : Bn} {g : DAg} {P : Pd} {pos : Int} {i : Nat} (h : 0 ≤ pos ∧ pos ≤ (P.right.length : Int)) (hi : i < g.attrs.length) : atB d g P pos i = decide ((if pos = 0 then P.left else inN P.right (pos - 1)) = (d.terms.length : Int) + g.attrs[i].non) := by unfold atB; rw [decide_eq_true ⟨h.1, h.2, by omega, by omega⟩, atN_eq hi]; rfl
set_option maxHeartbeats 3200000 in
theorem at79 {S S' S2 : Nat → Prop} (d : Bn) (g : DAg) (P : Pd) (v0 v1 v3 u0 u1 pv : Value) (pos a : Int) (w : World) (h : BLies w S d v0 v1 v3) (hg : DAgL w S' g u0 u1) (hP : Ints w S2 P.right pv) (hsm : ∀ i (hi : i < g.attrs.length), 0 ≤ g.attrs[i].non ∧ g.attrs[i].non ≤ 1000) (hT : d.terms.length ≤ 1000000) :
    Calls Try.prog 79 #[.agg #[v0, v1, .int .i64 d.own, v3, u0, u1], .agg #[.int .i64 P.left, pv, .string P.label, .int .i64 P.lev, .int .i64 P.asc], .int .i64 pos, .int .i64 a] w fun e w' => e = .returned (.bool (atB d g P pos a)) ∧ Below w.heap.size w w' := by
  obtain ⟨x0, x1, x2, x3, x4, x5, rfl, rfl, rfl⟩ := h.form
  obtain ⟨y0, y1, y2, y3, rfl, rfl⟩ := hg.form
  obtain ⟨pa, pc, pb, poff, rfl, phc, phm, pha, phcell⟩ := hP
  unfold maxLen at phm
  have hb2 : Below w.heap.size w ((w.alloc (.cells #[.slice x0 d.terms.length x1, .slice x2 d.nons.length x3, .int .i64 d.own, .slice x4 d.prods.length x5, .slice y0 g.attrs.length y1, .slice y2 g.eqs.length y3] 76)).alloc (.cells #[.int .i64 P.left, .slice pa P.right.length pc, .string P.label, .int .i64 P.lev, .int .i64 P.asc] 67)) := bel_trans (bel_alloc _ _) (bel_alloc _ _)
  have hs1 : (w.alloc (.cells #[.slice x0 d.terms.length x1, .slice x2 d.nons.length x3, .int .i64 d.own, .slice x4 d.prods.length x5, .slice y0 g.attrs.length y1, .slice y2 g.eqs.length y3] 76)).heap.size = w.heap.size + 1 := by simp
  have B1 := (Box.new w 76 [.slice x0 d.terms.length x1, .slice x2 d.nons.length x3, .int .i64 d.own, .slice x4 d.prods.length x5, .slice y0 g.attrs.length y1, .slice y2 g.eqs.length y3]).still (bel_alloc (w.alloc (.cells #[.slice x0 d.terms.length x1, .slice x2 d.nons.length x3, .int .i64 d.own, .slice x4 d.prods.length x5, .slice y0 g.attrs.length y1, .slice y2 g.eqs.length y3] 76)) (.cells #[.int .i64 P.left, .slice pa P.right.length pc, .string P.label, .int .i64 P.lev, .int .i64 P.asc] 67))
  have B2 := Box.new (w.alloc (.cells #[.slice x0 d.terms.length x1, .slice x2 d.nons.length x3, .int .i64 d.own, .slice x4 d.prods.length x5, .slice y0 g.attrs.length y1, .slice y2 g.eqs.length y3] 76)) 67 [.int .i64 P.left, .slice pa P.right.length pc, .string P.label, .int .i64 P.lev, .int .i64 P.asc]
  rw [hs1] at B2
  have HQ := (show Hid (∀ wq : World, Below ((w.alloc (.cells #[.slice x0 d.terms.length x1, .slice x2 d.nons.length x3, .int .i64 d.own, .slice x4 d.prods.length x5, .slice y0 g.attrs.length y1, .slice y2 g.eqs.length y3] 76)).alloc (.cells #[.int .i64 P.left, .slice pa P.right.length pc, .string P.label, .int .i64 P.lev, .int .i64 P.asc] 67)).heap.size ((w.alloc (.cells #[.slice x0 d.terms.length x1, .slice x2 d.nons.length x3, .int .i64 d.own, .slice x4 d.prods.length x5, .slice y0 g.attrs.length y1, .slice y2 g.eqs.length y3] 76)).alloc (.cells #[.int .i64 P.left, .slice pa P.right.length pc, .string P.label, .int .i64 P.lev, .int .i64 P.asc] 67)) wq → wq.cell? ⟨w.heap.size, 0, none⟩ = some (.slice x0 d.terms.length x1) ∧ wq.cell? ⟨w.heap.size, 1, none⟩ = some (.slice x2 d.nons.length x3) ∧ wq.cell? ⟨w.heap.size, 2, none⟩ = some (.int .i64 d.own) ∧ wq.cell? ⟨w.heap.size, 3, none⟩ = some (.slice x4 d.prods.length x5) ∧ wq.cell? ⟨w.heap.size, 4, none⟩ = some (.slice y0 g.attrs.length y1) ∧ wq.cell? ⟨w.heap.size, 5, none⟩ = some (.slice y2 g.eqs.length y3) ∧ wq.cell? ⟨w.heap.size + 1, 0, none⟩ = some (.int .i64 P.left) ∧ wq.cell? ⟨w.heap.size + 1, 1, none⟩ = some (.slice pa P.right.length pc) ∧ wq.cell? ⟨w.heap.size + 1, 2, none⟩ = some (.string P.label) ∧ wq.cell? ⟨w.heap.size + 1, 3, none⟩ = some (.int .i64 P.lev) ∧ wq.cell? ⟨w.heap.size + 1, 4, none⟩ = some (.int .i64 P.asc)) from fun wq hq => ⟨(B1.still hq).cell 0 (by simp), (B1.still hq).cell 1 (by simp), (B1.still hq).cell 2 (by simp), (B1.still hq).cell 3 (by simp), (B1.still hq).cell 4 (by simp), (B1.still hq).cell 5 (by simp), (B2.still hq).cell 0 (by simp), (B2.still hq).cell 1 (by simp), (B2.still hq).cell 2 (by simp), (B2.still hq).cell 3 (by simp), (B2.still hq).cell 4 (by simp)⟩)
  have HBB := (show Hid (Below w.heap.size w ((w.alloc (.cells #[.slice x0 d.terms.length x1, .slice x2 d.nons.length x3, .int .i64 d.own, .slice x4 d.prods.length x5, .slice y0 g.attrs.length y1, .slice y2 g.eqs.length y3] 76)).alloc (.cells #[.int .i64 P.left, .slice pa P.right.length pc, .string P.label, .int .i64 P.lev, .int .i64 P.asc] 67))) from hb2)
  obtain ⟨q0, q1, q2, q3, q4, q5, p0, p1, p2, p3, p4⟩ := HQ.out _ (Below.refl _ _)
  by_cases hno : 0 ≤ pos ∧ pos ≤ (P.right.length : Int) ∧ 0 ≤ a ∧ a < (g.attrs.length : Int)
  rotate_left
  · have HE := (show Hid _ from at_no (d := d) hno)
    clear h hg pha phcell B1 B2 hsm hs1 hb2
    by_cases h1 : pos < 0
    · go_enter Try.func79, Try.ntmps79
      go_wp2_with fail
      go_ret
      exact ⟨by rw [HE.out]; rfl, HBB.out⟩
    by_cases h2 : (P.right.length : Int) < pos
    · go_enter Try.func79, Try.ntmps79
      go_wp2_with fail
      go_ret
      exact ⟨by rw [HE.out]; rfl, HBB.out⟩
    by_cases h3 : a < 0
    · go_enter Try.func79, Try.ntmps79
      go_wp2_with fail
      go_ret
      exact ⟨by rw [HE.out]; rfl, HBB.out⟩
    have h4 : (g.attrs.length : Int) ≤ a := by omega
    clear hno
    go_enter Try.func79, Try.ntmps79
    go_wp2_with fail
    go_ret
    exact ⟨by rw [HE.out]; rfl, HBB.out⟩
  obtain ⟨h1, h2, h3, h4⟩ := hno
  obtain ⟨i, rfl⟩ : ∃ i : Nat, a = (i : Int) := ⟨a.toNat, by omega⟩
  have hi : i < g.attrs.length := by omega
  have HE := (show Hid _ from at_yes (d := d) (P := P) ⟨h1, h2⟩ hi)
  have HO := (show Hid (∀ (sy : Int) (wq : World), Below w.heap.size w wq → Calls Try.prog 86 #[.agg #[.slice x0 d.terms.length x1, .slice x2 d.nons.length x3, .int .i64 d.own, .slice x4 d.prods.length x5, .slice y0 g.attrs.length y1, .slice y2 g.eqs.length y3], .int .i64 i, .int .i64 sy] wq fun e w' => e = .returned (.bool (decide (sy = (d.terms.length : Int) + g.attrs[i].non))) ∧ Below wq.heap.size wq w') from fun sy wq hq => of86 d g _ _ _ _ _ i sy wq (h.still hq) (hg.still hq) hi (hsm i hi) hT)
  clear h hg hsm B1 B2 hs1 hb2
  by_cases h5 : pos = 0
  · subst h5
    rw [if_pos rfl] at HE
    have HOF := (show Hid _ from HO.out P.left ((w.alloc (.cells #[.slice x0 d.terms.length x1, .slice x2 d.nons.length x3, .int .i64 d.own, .slice x4 d.prods.length x5, .slice y0 g.attrs.length y1, .slice y2 g.eqs.length y3] 76)).alloc (.cells #[.int .i64 P.left, .slice pa P.right.length pc, .string P.label, .int .i64 P.lev, .int .i64 P.asc] 67)) HBB.out)
    clear HO pha phcell
    go_enter Try.func79, Try.ntmps79
    go_wp2_with fail
    refine Calls.mono HOF.out ?_
    rintro e w3 ⟨rfl, hb3⟩
    have HB3 := (show Hid _ from bel_trans HBB.out hb3)
    clear hb3 HOF
    go_wp2_with fail
    go_ret
    exact ⟨by rw [HE.out]; rfl, HB3.out⟩
  rw [if_neg h5] at HE
  obtain ⟨q1', hq1⟩ : ∃ q1 : Nat, pos = (q1 : Int) + 1 := ⟨(pos - 1).toNat, by omega⟩
  have hql : q1' < P.right.length := by omega
  obtain ⟨rfl, _⟩ := pha (by omega)
  have cy := phcell q1' hql
  subst hq1
  rw [show ((q1' : Int) + 1 - 1) = (q1' : Int) by omega, inN_eq hql] at HE
  have wq1 : IntKind.i64.wrap (q1' : Int) = (q1' : Int) := by rw [IntKind.wrap_i64]; omega
  have hd0 : Below ((w.alloc (.cells #[.slice x0 d.terms.length x1, .slice x2 d.nons.length x3, .int .i64 d.own, .slice x4 d.prods.length x5, .slice y0 g.attrs.length y1, .slice y2 g.eqs.length y3] 76)).alloc (.cells #[.int .i64 P.left, .slice (some ⟨pb, poff, none⟩) P.right.length pc, .string P.label, .int .i64 P.lev, .int .i64 P.asc] 67)).heap.size ((w.alloc (.cells #[.slice x0 d.terms.length x1, .slice x2 d.nons.length x3, .int .i64 d.own, .slice x4 d.prods.length x5, .slice y0 g.attrs.length y1, .slice y2 g.eqs.length y3] 76)).alloc (.cells #[.int .i64 P.left, .slice (some ⟨pb, poff, none⟩) P.right.length pc, .string P.label, .int .i64 P.lev, .int .i64 P.asc] 67)) ((w.alloc (.cells #[.slice x0 d.terms.length x1, .slice x2 d.nons.length x3, .int .i64 d.own, .slice x4 d.prods.length x5, .slice y0 g.attrs.length y1, .slice y2 g.eqs.length y3] 76)).alloc (.cells #[.int .i64 P.left, .slice (some ⟨pb, poff, none⟩) P.right.length pc, .string P.label, .int .i64 P.lev, .int .i64 P.asc] 67)).drew := (Below.refl _ _).drew
  have HDD := (show Hid _ from hd0)
  have HDW := (show Hid (Below w.heap.size w ((w.alloc (.cells #[.slice x0 d.terms.length x1, .slice x2 d.nons.length x3, .int .i64 d.own, .slice x4 d.prods.length x5, .slice y0 g.attrs.length y1, .slice y2 g.eqs.length y3] 76)).alloc (.cells #[.int .i64 P.left, .slice (some ⟨pb, poff, none⟩) P.right.length pc, .string P.label, .int .i64 P.lev, .int .i64 P.asc] 67)).drew) from bel_trans HBB.out hd0)
  have HOF := (show Hid _ from HO.out P.right[q1'] ((w.alloc (.cells #[.slice x0 d.terms.length x1, .slice x2 d.nons.length x3, .int .i64 d.own, .slice x4 d.prods.length x5, .slice y0 g.attrs.length y1, .slice y2 g.eqs.length y3] 76)).alloc (.cells #[.int .i64 P.left, .slice (some ⟨pb, poff, none⟩) P.right.length pc, .string P.label, .int .i64 P.lev, .int .i64 P.asc] 67)).drew HDW.out)
  generalize P.right[q1'] = sy at *
  have HSK := (show Hid (∀ wq : World, Below ((w.alloc (.cells #[.slice x0 d.terms.length x1, .slice x2 d.nons.length x3, .int .i64 d.own, .slice x4 d.prods.length x5, .slice y0 g.attrs.length y1, .slice y2 g.eqs.length y3] 76)).alloc (.cells #[.int .i64 P.left, .slice (some ⟨pb, poff, none⟩) P.right.length pc, .string P.label, .int .i64 P.lev, .int .i64 P.asc] 67)).heap.size ((w.alloc (.cells #[.slice x0 d.terms.length x1, .slice x2 d.nons.length x3, .int .i64 d.own, .slice x4 d.prods.length x5, .slice y0 g.attrs.length y1, .slice y2 g.eqs.length y3] 76)).alloc (.cells #[.int .i64 P.left, .slice (some ⟨pb, poff, none⟩) P.right.length pc, .string P.label, .int .i64 P.lev, .int .i64 P.asc] 67)) wq → wq.cell? ⟨w.heap.size, 0, none⟩ = some (.slice x0 d.terms.length x1) ∧ wq.cell? ⟨w.heap.size, 1, none⟩ = some (.slice x2 d.nons.length x3) ∧ wq.cell? ⟨w.heap.size, 2, none⟩ = some (.int .i64 d.own) ∧ wq.cell? ⟨w.heap.size, 3, none⟩ = some (.slice x4 d.prods.length x5) ∧ wq.cell? ⟨w.heap.size, 4, none⟩ = some (.slice y0 g.attrs.length y1) ∧ wq.cell? ⟨w.heap.size, 5, none⟩ = some (.slice y2 g.eqs.length y3) ∧ wq.cell? ⟨w.heap.size + 1, 0, none⟩ = some (.int .i64 P.left) ∧ wq.cell? ⟨w.heap.size + 1, 1, none⟩ = some (.slice (some ⟨pb, poff, none⟩) P.right.length pc) ∧ wq.cell? ⟨w.heap.size + 1, 2, none⟩ = some (.string P.label) ∧ wq.cell? ⟨w.heap.size + 1, 3, none⟩ = some (.int .i64 P.lev) ∧ wq.cell? ⟨w.heap.size + 1, 4, none⟩ = some (.int .i64 P.asc) ∧ wq.cell? ⟨pb, poff + q1', none⟩ = some (.int .i64 sy)) from fun wq hq => by
    obtain ⟨a0, a1, a2, a3, a4, a5, b0, b1, b2, b3, b4⟩ := HQ.out wq hq
    exact ⟨a0, a1, a2, a3, a4, a5, b0, b1, b2, b3, b4, ((bel_trans HBB.out hq).cell (lt_of_cell cy)).trans cy⟩)
  have hS0 := HSK.out _ hd0
  have j1 : (0 : Int) ≤ (q1' : Int) := by omega
  have j2 : (q1' : Int) < (P.right.length : Int) := by omega
  have h6 : ((q1' : Int) + 1 == 0) = false := by simp; omega
  clear HO pha phcell hd0
  go_enter Try.func79, Try.ntmps79
  go_wp2_with fail
  refine wp_region_held_drew (S := fun wq => wq.cell? ⟨w.heap.size, 0, none⟩ = some (.slice x0 d.terms.length x1) ∧ wq.cell? ⟨w.heap.size, 1, none⟩ = some (.slice x2 d.nons.length x3) ∧ wq.cell? ⟨w.heap.size, 2, none⟩ = some (.int .i64 d.own) ∧ wq.cell? ⟨w.heap.size, 3, none⟩ = some (.slice x4 d.prods.length x5) ∧ wq.cell? ⟨w.heap.size, 4, none⟩ = some (.slice y0 g.attrs.length y1) ∧ wq.cell? ⟨w.heap.size, 5, none⟩ = some (.slice y2 g.eqs.length y3) ∧ wq.cell? ⟨w.heap.size + 1, 0, none⟩ = some (.int .i64 P.left) ∧ wq.cell? ⟨w.heap.size + 1, 1, none⟩ = some (.slice (some ⟨pb, poff, none⟩) P.right.length pc) ∧ wq.cell? ⟨w.heap.size + 1, 2, none⟩ = some (.string P.label) ∧ wq.cell? ⟨w.heap.size + 1, 3, none⟩ = some (.int .i64 P.lev) ∧ wq.cell? ⟨w.heap.size + 1, 4, none⟩ = some (.int .i64 P.asc) ∧ wq.cell? ⟨pb, poff + q1', none⟩ = some (.int .i64 sy)) (by kernel_rfl) hS0 (fun hHeld => ?_)
  refine wpAnyH_take (i := 0) (oi := oI0) (v := ?v1) rfl (by kernel_rfl) (by kernel_rfl) (by kernel_rfl) (fun _ _ _ h => h) (Or.inl ⟨by rfl, ?h1⟩) hHeld ?r1
  case h1 => (intro w hSw; (try dsimp only at hSw); go_simp; try with_reducible rfl)
  try simp only [Act.put, List.setIfInBounds_toArray, List.set_cons_zero, List.set_cons_succ]
  refine wpAnyH_take (i := 1) (oi := oI1) (v := ?v2) rfl (by kernel_rfl) (by kernel_rfl) (by kernel_rfl) (fun _ _ _ h => h) (Or.inl ⟨by rfl, ?h2⟩) hHeld ?r2
  case h2 => (intro w hSw; (try dsimp only at hSw); go_simp; try with_reducible rfl)
  try simp only [Act.put, List.setIfInBounds_toArray, List.set_cons_zero, List.set_cons_succ]
  refine wpAnyH_take (i := 2) (oi := oI2) (v := ?v3) rfl (by kernel_rfl) (by kernel_rfl) (by kernel_rfl) (fun _ _ _ h => h) (Or.inl ⟨by rfl, ?h3⟩) hHeld ?r3
  case h3 => (intro w hSw; (try dsimp only at hSw); go_simp; try with_reducible rfl)
  try simp only [Act.put, List.setIfInBounds_toArray, List.set_cons_zero, List.set_cons_succ]
  refine wpAnyH_take (i := 3) (oi := oI3) (v := ?v4) rfl (by kernel_rfl) (by kernel_rfl) (by kernel_rfl) (fun _ _ _ h => h) (Or.inl ⟨by rfl, ?h4⟩) hHeld ?r4
  case h4 => (intro w hSw; (try dsimp only at hSw); go_simp; try with_reducible rfl)
  try simp only [Act.put, List.setIfInBounds_toArray, List.set_cons_zero, List.set_cons_succ]
  refine wpAnyH_take (i := 4) (oi := oI4) (v := ?v5) rfl (by kernel_rfl) (by kernel_rfl) (by kernel_rfl) (fun _ _ _ h => h) (Or.inl ⟨by rfl, ?h5⟩) hHeld ?r5
  case h5 => (intro w hSw; (try dsimp only at hSw); go_simp; try with_reducible rfl)
  try simp only [Act.put, List.setIfInBounds_toArray, List.set_cons_zero, List.set_cons_succ]
  refine wpAnyH_take (i := 5) (oi := oI5) (v := ?v6) rfl (by kernel_rfl) (by kernel_rfl) (by kernel_rfl) (fun _ _ _ h => h) (Or.inl ⟨by rfl, ?h6⟩) hHeld ?r6
  case h6 => (intro w hSw; (try dsimp only at hSw); go_simp; try with_reducible rfl)
  try simp only [Act.put, List.setIfInBounds_toArray, List.set_cons_zero, List.set_cons_succ]
  refine wpAnyH_take (i := 6) (oi := oI6) (v := ?v7) rfl (by kernel_rfl) (by kernel_rfl) (by kernel_rfl) (fun _ _ _ h => h) (Or.inl ⟨by rfl, ?h7⟩) hHeld ?r7
  case h7 => (intro w hSw; (try dsimp only at hSw); go_simp; try with_reducible rfl)
  try simp only [Act.put, List.setIfInBounds_toArray, List.set_cons_zero, List.set_cons_succ]
  refine wpAnyH_take (i := 7) (oi := oI7) (v := ?v8) rfl (by kernel_rfl) (by kernel_rfl) (by kernel_rfl) (fun _ _ _ h => h) (Or.inl ⟨by rfl, ?h8⟩) hHeld ?r8
  case h8 => (intro w hSw; (try dsimp only at hSw); go_simp; try with_reducible rfl)
  try simp only [Act.put, List.setIfInBounds_toArray, List.set_cons_zero, List.set_cons_succ]
  refine wpAnyH_ready (rs := [8]) (by kernel_rfl) (by simp) ?_
  refine (AllReadyH.cons (o := oI8) rfl (fun K hK => ?_) AllReadyH.nil)
  go_simp
  refine Calls.mono (HOF.out) ?_
  rintro e w4 ⟨rfl, hb4⟩
  dsimp only
  have hS1 := HSK.out w4 (bel_trans HDD.out hb4)
  have HB4 := (show Hid (Below w.heap.size w w4) from bel_trans HDW.out hb4)
  clear hHeld
  refine hK.out _ _ (hS1) (fun hHeld => ?_)
  clear hK K
  try simp only [Act.put, List.setIfInBounds_toArray, List.set_cons_zero, List.set_cons_succ]
  refine wpAnyH_ready (rs := [9]) (by kernel_rfl) (by simp) ?_
  refine (AllReadyH.cons (o := oI9) rfl (fun K hK => ?_) AllReadyH.nil)
  go_simp
  clear hHeld
  refine hK.out _ _ (hS1) (fun hHeld => ?_)
  clear hK K
  try simp only [Act.put, List.setIfInBounds_toArray, List.set_cons_zero, List.set_cons_succ]
  refine wpAnyH_done (by kernel_rfl) ?_ _
  (try refine NoPanic.normal ?_)
  go_wp2_with fail
  go_ret
  exact ⟨by rw [HE.out]; rfl, HB4.out⟩
end Go.Proofs.Ytnmdgbnbnpibhaa
