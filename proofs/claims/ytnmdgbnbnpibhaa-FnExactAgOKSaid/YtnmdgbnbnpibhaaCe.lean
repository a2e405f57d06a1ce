import Derived.Test.YtnmdgbnbnpibhaaCd
import Derived.Deep.RegionHeld3
import Derived.BigQuiet
import Derived.Deep.QuietTactic
/-! The program: an Arg is right. -/
namespace Go.Proofs.Ytnmdgbnbnpibhaa
open Go.RowKit Go.Deep
set_option linter.unusedVariables false
set_option maxRecDepth 100000
set_option linter.unusedSimpArgs false

abbrev oG0 : Oper := { dst := some 25, op := Go.Op.fieldAddr 64 (Go.Operand.tmp 5) 0, type := 0, pos := "l10_attributes.go:161", after := #[], guard := none }
abbrev oG1 : Oper := { dst := some 26, op := Go.Op.load 3 (Go.Operand.tmp 25), type := 3, pos := "l10_attributes.go:161", after := #[{ on := 0, ground := Go.Ground.data }], guard := none }
abbrev oG2 : Oper := { dst := some 27, op := Go.Op.binOp Go.BinOp.gtr 3 (Go.Operand.tmp 26) (Go.Operand.const (Go.Value.int Go.IntKind.i64 0)) 3, type := 4, pos := "l10_attributes.go:161", after := #[{ on := 1, ground := Go.Ground.data }], guard := none }
abbrev oG3 : Oper := { dst := some 28, op := Go.Op.move (Go.Operand.tmp 27), type := 4, pos := "l10_attributes.go:161", after := #[{ on := 2, ground := Go.Ground.data }], guard := none }
abbrev oG4 : Oper := { dst := some 29, op := Go.Op.fieldAddr 64 (Go.Operand.tmp 5) 0, type := 0, pos := "l10_attributes.go:161", after := #[{ on := 3, ground := Go.Ground.guard }], guard := some (3, true) }
abbrev oG5 : Oper := { dst := some 30, op := Go.Op.load 3 (Go.Operand.tmp 29), type := 3, pos := "l10_attributes.go:161", after := #[{ on := 4, ground := Go.Ground.data }, { on := 3, ground := Go.Ground.guard }], guard := some (3, true) }
abbrev oG6 : Oper := { dst := some 31, op := Go.Op.fieldAddr 67 (Go.Operand.tmp 4) 1, type := 0, pos := "l10_attributes.go:161", after := #[{ on := 3, ground := Go.Ground.guard }], guard := some (3, true) }
abbrev oG7 : Oper := { dst := some 32, op := Go.Op.load 65 (Go.Operand.tmp 31), type := 65, pos := "l10_attributes.go:161", after := #[{ on := 6, ground := Go.Ground.data }, { on := 3, ground := Go.Ground.guard }], guard := some (3, true) }
abbrev oG8 : Oper := { dst := some 33, op := Go.Op.call { callee := Go.Callee.builtin Go.Builtin.len, args := #[Go.Operand.tmp 32], argTypes := #[65] }, type := 3, pos := "l10_attributes.go:161", after := #[{ on := 7, ground := Go.Ground.data }, { on := 3, ground := Go.Ground.guard }], guard := some (3, true) }
abbrev oG9 : Oper := { dst := some 34, op := Go.Op.binOp Go.BinOp.leq 3 (Go.Operand.tmp 30) (Go.Operand.tmp 33) 3, type := 4, pos := "l10_attributes.go:161", after := #[{ on := 5, ground := Go.Ground.data }, { on := 8, ground := Go.Ground.data }, { on := 3, ground := Go.Ground.guard }], guard := some (3, true) }
abbrev oG10 : Oper := { dst := some 35, op := Go.Op.pick (Go.Operand.tmp 28) (Go.Operand.tmp 34) (Go.Operand.const (Go.Value.bool false)), type := 4, pos := "l10_attributes.go:161", after := #[{ on := 3, ground := Go.Ground.data }, { on := 9, ground := Go.Ground.data }], guard := none }
abbrev oG11 : Oper := { dst := some 36, op := Go.Op.move (Go.Operand.tmp 35), type := 4, pos := "l10_attributes.go:161", after := #[{ on := 10, ground := Go.Ground.data }, { on := 3, ground := Go.Ground.chain }], guard := none }
abbrev oG12 : Oper := { dst := some 37, op := Go.Op.fieldAddr 67 (Go.Operand.tmp 4) 1, type := 0, pos := "l10_attributes.go:161", after := #[{ on := 11, ground := Go.Ground.guard }], guard := some (11, true) }
abbrev oG13 : Oper := { dst := some 38, op := Go.Op.load 65 (Go.Operand.tmp 37), type := 65, pos := "l10_attributes.go:161", after := #[{ on := 12, ground := Go.Ground.data }, { on := 11, ground := Go.Ground.guard }], guard := some (11, true) }
abbrev oG14 : Oper := { dst := some 39, op := Go.Op.fieldAddr 64 (Go.Operand.tmp 5) 0, type := 0, pos := "l10_attributes.go:161", after := #[{ on := 11, ground := Go.Ground.guard }], guard := some (11, true) }
abbrev oG15 : Oper := { dst := some 40, op := Go.Op.load 3 (Go.Operand.tmp 39), type := 3, pos := "l10_attributes.go:161", after := #[{ on := 14, ground := Go.Ground.data }, { on := 11, ground := Go.Ground.guard }], guard := some (11, true) }
abbrev oG16 : Oper := { dst := some 41, op := Go.Op.binOp Go.BinOp.sub 3 (Go.Operand.tmp 40) (Go.Operand.const (Go.Value.int Go.IntKind.i64 1)) 3, type := 3, pos := "l10_attributes.go:161", after := #[{ on := 15, ground := Go.Ground.data }, { on := 11, ground := Go.Ground.guard }], guard := some (11, true) }
abbrev oG17 : Oper := { dst := some 42, op := Go.Op.indexAddr 65 (Go.Operand.tmp 38) (Go.Operand.tmp 41), type := 0, pos := "l10_attributes.go:161", after := #[{ on := 13, ground := Go.Ground.data }, { on := 16, ground := Go.Ground.data }, { on := 11, ground := Go.Ground.guard }], guard := some (11, true) }
abbrev oG18 : Oper := { dst := some 43, op := Go.Op.load 3 (Go.Operand.tmp 42), type := 3, pos := "l10_attributes.go:161", after := #[{ on := 17, ground := Go.Ground.data }, { on := 11, ground := Go.Ground.guard }], guard := some (11, true) }
abbrev oG19 : Oper := { dst := some 44, op := Go.Op.fieldAddr 76 (Go.Operand.tmp 3) 0, type := 0, pos := "l10_attributes.go:161", after := #[{ on := 11, ground := Go.Ground.guard }], guard := some (11, true) }
abbrev oG20 : Oper := { dst := some 45, op := Go.Op.fieldAddr 37 (Go.Operand.tmp 44) 0, type := 0, pos := "l10_attributes.go:161", after := #[{ on := 19, ground := Go.Ground.data }, { on := 11, ground := Go.Ground.guard }], guard := some (11, true) }
abbrev oG21 : Oper := { dst := some 46, op := Go.Op.load 34 (Go.Operand.tmp 45), type := 34, pos := "l10_attributes.go:161", after := #[{ on := 20, ground := Go.Ground.data }, { on := 11, ground := Go.Ground.guard }], guard := some (11, true) }
abbrev oG22 : Oper := { dst := some 47, op := Go.Op.call { callee := Go.Callee.builtin Go.Builtin.len, args := #[Go.Operand.tmp 46], argTypes := #[34] }, type := 3, pos := "l10_attributes.go:161", after := #[{ on := 21, ground := Go.Ground.data }, { on := 11, ground := Go.Ground.guard }], guard := some (11, true) }
abbrev oG23 : Oper := { dst := some 48, op := Go.Op.binOp Go.BinOp.lss 3 (Go.Operand.tmp 43) (Go.Operand.tmp 47) 3, type := 4, pos := "l10_attributes.go:161", after := #[{ on := 18, ground := Go.Ground.data }, { on := 22, ground := Go.Ground.data }, { on := 11, ground := Go.Ground.guard }], guard := some (11, true) }
abbrev oG24 : Oper := { dst := some 49, op := Go.Op.pick (Go.Operand.tmp 36) (Go.Operand.tmp 48) (Go.Operand.const (Go.Value.bool false)), type := 4, pos := "l10_attributes.go:161", after := #[{ on := 11, ground := Go.Ground.data }, { on := 23, ground := Go.Ground.data }], guard := none }
abbrev oG25 : Oper := { dst := some 24, op := Go.Op.assign (Go.Operand.tmp 49), type := 4, pos := "l10_attributes.go:161", after := #[{ on := 24, ground := Go.Ground.data }, { on := 11, ground := Go.Ground.chain }], guard := none }
/-- A terminal stands there. -/
abbrev tmB (d : Bn) (P : Pd) (pos : Int) : Prop := 0 < pos ∧ pos ≤ (P.right.length : Int) ∧ inN P.right (pos - 1) < (d.terms.length : Int)
/-- An Arg is right, as the program asks. -/
def arB (d : Bn) (g : DAg) (P : Pd) (r : DRef) : Bool := if r.pos = -1 then decide (r.attr = 0) && wiB r.n (-1000000000) 1000000000 else if tmB d P r.pos then decide (r.attr = 0) && decide (r.n = 0) else decide (r.n = 0) && givB d g P r.pos r.attr
theorem ar_num {d : Bn} {g : DAg} {P : Pd} {ra rn : Int} : arB d g P ⟨-1, ra, rn⟩ = (decide (ra = 0) && (decide (-1000000000 ≤ rn) && decide (rn ≤ 1000000000))) := by unfold arB; rw [if_pos rfl]; unfold wiB; rw [Bool.decide_and]
theorem ar_term {d : Bn} {g : DAg} {P : Pd} {rp ra rn : Int} (h : ¬ rp = -1) (h2 : tmB d P rp) : arB d g P ⟨rp, ra, rn⟩ = (decide (ra = 0) && decide (rn = 0)) := by unfold arB; rw [if_neg h, if_pos h2]
theorem ar_non {d : Bn} {g : DAg} {P : Pd} {rp ra rn : Int} (h : ¬ rp = -1) (h2 : ¬ tmB d P rp) : arB d g P ⟨rp, ra, rn⟩ = (decide (rn = 0) && givB d g P rp ra) := by unfold arB; rw [if_neg h, if_neg h2]
set_option maxHeartbeats 6400000 in
theorem arg64 {S S' S2 : Nat → Prop} (d : Bn) (g : DAg) (P : Pd) (v0 v1 v3 u0 u1 pv : Value) (rp ra rn : Int) (w : World) (h : BLies w S d v0 v1 v3) (hg : DAgL w S' g u0 u1) (hP : Ints w S2 P.right pv) (hsm : ∀ i (hi : i < g.attrs.length), 0 ≤ g.attrs[i].non ∧ g.attrs[i].non ≤ 1000) (hT : d.terms.length ≤ 1000000) :
    Calls Try.prog 64 #[.agg #[v0, v1, .int .i64 d.own, v3, u0, u1], .agg #[.int .i64 P.left, pv, .string P.label, .int .i64 P.lev, .int .i64 P.asc], .agg #[.int .i64 rp, .int .i64 ra, .int .i64 rn]] w fun e w' => e = .returned (.bool (arB d g P ⟨rp, ra, rn⟩)) ∧ Below w.heap.size w w' := by
  have HGI := (show Hid (∀ wq : World, Below w.heap.size w wq → Calls Try.prog 80 #[.agg #[v0, v1, .int .i64 d.own, v3, u0, u1], .agg #[.int .i64 P.left, pv, .string P.label, .int .i64 P.lev, .int .i64 P.asc], .int .i64 rp, .int .i64 ra] wq fun e w' => e = .returned (.bool (givB d g P rp ra)) ∧ Below wq.heap.size wq w') from fun wq hq => giv80 d g P _ _ _ _ _ _ rp ra wq (h.still hq) (hg.still hq) (hP.still hq) hsm hT)
  obtain ⟨x0, x1, x2, x3, x4, x5, rfl, rfl, rfl⟩ := h.form
  obtain ⟨y0, y1, y2, y3, rfl, rfl⟩ := hg.form
  obtain ⟨pa, pc, pb, poff, rfl, phc, phm, pha, phcell⟩ := hP
  unfold maxLen at phm
  have hb3 : Below w.heap.size w (((w.alloc (.cells #[.slice x0 d.terms.length x1, .slice x2 d.nons.length x3, .int .i64 d.own, .slice x4 d.prods.length x5, .slice y0 g.attrs.length y1, .slice y2 g.eqs.length y3] 76)).alloc (.cells #[.int .i64 P.left, .slice pa P.right.length pc, .string P.label, .int .i64 P.lev, .int .i64 P.asc] 67)).alloc (.cells #[.int .i64 rp, .int .i64 ra, .int .i64 rn] 64)) := bel_trans (bel_trans (bel_alloc _ _) (bel_alloc _ _)) (bel_alloc _ _)
  have hs1 : (w.alloc (.cells #[.slice x0 d.terms.length x1, .slice x2 d.nons.length x3, .int .i64 d.own, .slice x4 d.prods.length x5, .slice y0 g.attrs.length y1, .slice y2 g.eqs.length y3] 76)).heap.size = w.heap.size + 1 := by simp
  have hs2 : ((w.alloc (.cells #[.slice x0 d.terms.length x1, .slice x2 d.nons.length x3, .int .i64 d.own, .slice x4 d.prods.length x5, .slice y0 g.attrs.length y1, .slice y2 g.eqs.length y3] 76)).alloc (.cells #[.int .i64 P.left, .slice pa P.right.length pc, .string P.label, .int .i64 P.lev, .int .i64 P.asc] 67)).heap.size = w.heap.size + 1 + 1 := by simp
  have B1 := ((Box.new w 76 [.slice x0 d.terms.length x1, .slice x2 d.nons.length x3, .int .i64 d.own, .slice x4 d.prods.length x5, .slice y0 g.attrs.length y1, .slice y2 g.eqs.length y3]).still (bel_alloc (w.alloc (.cells #[.slice x0 d.terms.length x1, .slice x2 d.nons.length x3, .int .i64 d.own, .slice x4 d.prods.length x5, .slice y0 g.attrs.length y1, .slice y2 g.eqs.length y3] 76)) (.cells #[.int .i64 P.left, .slice pa P.right.length pc, .string P.label, .int .i64 P.lev, .int .i64 P.asc] 67))).still (bel_alloc ((w.alloc (.cells #[.slice x0 d.terms.length x1, .slice x2 d.nons.length x3, .int .i64 d.own, .slice x4 d.prods.length x5, .slice y0 g.attrs.length y1, .slice y2 g.eqs.length y3] 76)).alloc (.cells #[.int .i64 P.left, .slice pa P.right.length pc, .string P.label, .int .i64 P.lev, .int .i64 P.asc] 67)) (.cells #[.int .i64 rp, .int .i64 ra, .int .i64 rn] 64))
  have B2 := (Box.new (w.alloc (.cells #[.slice x0 d.terms.length x1, .slice x2 d.nons.length x3, .int .i64 d.own, .slice x4 d.prods.length x5, .slice y0 g.attrs.length y1, .slice y2 g.eqs.length y3] 76)) 67 [.int .i64 P.left, .slice pa P.right.length pc, .string P.label, .int .i64 P.lev, .int .i64 P.asc]).still (bel_alloc ((w.alloc (.cells #[.slice x0 d.terms.length x1, .slice x2 d.nons.length x3, .int .i64 d.own, .slice x4 d.prods.length x5, .slice y0 g.attrs.length y1, .slice y2 g.eqs.length y3] 76)).alloc (.cells #[.int .i64 P.left, .slice pa P.right.length pc, .string P.label, .int .i64 P.lev, .int .i64 P.asc] 67)) (.cells #[.int .i64 rp, .int .i64 ra, .int .i64 rn] 64))
  have B3 := Box.new ((w.alloc (.cells #[.slice x0 d.terms.length x1, .slice x2 d.nons.length x3, .int .i64 d.own, .slice x4 d.prods.length x5, .slice y0 g.attrs.length y1, .slice y2 g.eqs.length y3] 76)).alloc (.cells #[.int .i64 P.left, .slice pa P.right.length pc, .string P.label, .int .i64 P.lev, .int .i64 P.asc] 67)) 64 [.int .i64 rp, .int .i64 ra, .int .i64 rn]
  rw [hs1] at B2
  rw [hs2] at B3
  have HQ := (show Hid (∀ wq : World, Below (((w.alloc (.cells #[.slice x0 d.terms.length x1, .slice x2 d.nons.length x3, .int .i64 d.own, .slice x4 d.prods.length x5, .slice y0 g.attrs.length y1, .slice y2 g.eqs.length y3] 76)).alloc (.cells #[.int .i64 P.left, .slice pa P.right.length pc, .string P.label, .int .i64 P.lev, .int .i64 P.asc] 67)).alloc (.cells #[.int .i64 rp, .int .i64 ra, .int .i64 rn] 64)).heap.size (((w.alloc (.cells #[.slice x0 d.terms.length x1, .slice x2 d.nons.length x3, .int .i64 d.own, .slice x4 d.prods.length x5, .slice y0 g.attrs.length y1, .slice y2 g.eqs.length y3] 76)).alloc (.cells #[.int .i64 P.left, .slice pa P.right.length pc, .string P.label, .int .i64 P.lev, .int .i64 P.asc] 67)).alloc (.cells #[.int .i64 rp, .int .i64 ra, .int .i64 rn] 64)) wq → wq.cell? ⟨w.heap.size, 0, none⟩ = some (.slice x0 d.terms.length x1) ∧ wq.cell? ⟨w.heap.size, 1, none⟩ = some (.slice x2 d.nons.length x3) ∧ wq.cell? ⟨w.heap.size, 2, none⟩ = some (.int .i64 d.own) ∧ wq.cell? ⟨w.heap.size, 3, none⟩ = some (.slice x4 d.prods.length x5) ∧ wq.cell? ⟨w.heap.size, 4, none⟩ = some (.slice y0 g.attrs.length y1) ∧ wq.cell? ⟨w.heap.size, 5, none⟩ = some (.slice y2 g.eqs.length y3) ∧ wq.cell? ⟨w.heap.size + 1, 0, none⟩ = some (.int .i64 P.left) ∧ wq.cell? ⟨w.heap.size + 1, 1, none⟩ = some (.slice pa P.right.length pc) ∧ wq.cell? ⟨w.heap.size + 1, 2, none⟩ = some (.string P.label) ∧ wq.cell? ⟨w.heap.size + 1, 3, none⟩ = some (.int .i64 P.lev) ∧ wq.cell? ⟨w.heap.size + 1, 4, none⟩ = some (.int .i64 P.asc) ∧ wq.cell? ⟨w.heap.size + 1 + 1, 0, none⟩ = some (.int .i64 rp) ∧ wq.cell? ⟨w.heap.size + 1 + 1, 1, none⟩ = some (.int .i64 ra) ∧ wq.cell? ⟨w.heap.size + 1 + 1, 2, none⟩ = some (.int .i64 rn)) from fun wq hq => ⟨(B1.still hq).cell 0 (by simp), (B1.still hq).cell 1 (by simp), (B1.still hq).cell 2 (by simp), (B1.still hq).cell 3 (by simp), (B1.still hq).cell 4 (by simp), (B1.still hq).cell 5 (by simp), (B2.still hq).cell 0 (by simp), (B2.still hq).cell 1 (by simp), (B2.still hq).cell 2 (by simp), (B2.still hq).cell 3 (by simp), (B2.still hq).cell 4 (by simp), (B3.still hq).cell 0 (by simp), (B3.still hq).cell 1 (by simp), (B3.still hq).cell 2 (by simp)⟩)
  have HBB := (show Hid (Below w.heap.size w (((w.alloc (.cells #[.slice x0 d.terms.length x1, .slice x2 d.nons.length x3, .int .i64 d.own, .slice x4 d.prods.length x5, .slice y0 g.attrs.length y1, .slice y2 g.eqs.length y3] 76)).alloc (.cells #[.int .i64 P.left, .slice pa P.right.length pc, .string P.label, .int .i64 P.lev, .int .i64 P.asc] 67)).alloc (.cells #[.int .i64 rp, .int .i64 ra, .int .i64 rn] 64))) from hb3)
  obtain ⟨q0, q1, q2, q3, q4, q5, q6, q7, q8, q9, q10, q11, q12, q13⟩ := HQ.out _ (Below.refl _ _)
  have hd0 : Below (((w.alloc (.cells #[.slice x0 d.terms.length x1, .slice x2 d.nons.length x3, .int .i64 d.own, .slice x4 d.prods.length x5, .slice y0 g.attrs.length y1, .slice y2 g.eqs.length y3] 76)).alloc (.cells #[.int .i64 P.left, .slice pa P.right.length pc, .string P.label, .int .i64 P.lev, .int .i64 P.asc] 67)).alloc (.cells #[.int .i64 rp, .int .i64 ra, .int .i64 rn] 64)).heap.size (((w.alloc (.cells #[.slice x0 d.terms.length x1, .slice x2 d.nons.length x3, .int .i64 d.own, .slice x4 d.prods.length x5, .slice y0 g.attrs.length y1, .slice y2 g.eqs.length y3] 76)).alloc (.cells #[.int .i64 P.left, .slice pa P.right.length pc, .string P.label, .int .i64 P.lev, .int .i64 P.asc] 67)).alloc (.cells #[.int .i64 rp, .int .i64 ra, .int .i64 rn] 64)) (((w.alloc (.cells #[.slice x0 d.terms.length x1, .slice x2 d.nons.length x3, .int .i64 d.own, .slice x4 d.prods.length x5, .slice y0 g.attrs.length y1, .slice y2 g.eqs.length y3] 76)).alloc (.cells #[.int .i64 P.left, .slice pa P.right.length pc, .string P.label, .int .i64 P.lev, .int .i64 P.asc] 67)).alloc (.cells #[.int .i64 rp, .int .i64 ra, .int .i64 rn] 64)).drew := (Below.refl _ _).drew
  have HDW := (show Hid (Below w.heap.size w (((w.alloc (.cells #[.slice x0 d.terms.length x1, .slice x2 d.nons.length x3, .int .i64 d.own, .slice x4 d.prods.length x5, .slice y0 g.attrs.length y1, .slice y2 g.eqs.length y3] 76)).alloc (.cells #[.int .i64 P.left, .slice pa P.right.length pc, .string P.label, .int .i64 P.lev, .int .i64 P.asc] 67)).alloc (.cells #[.int .i64 rp, .int .i64 ra, .int .i64 rn] 64)).drew) from bel_trans hb3 hd0)
  have HC80 := (show Hid _ from HGI.out (((w.alloc (.cells #[.slice x0 d.terms.length x1, .slice x2 d.nons.length x3, .int .i64 d.own, .slice x4 d.prods.length x5, .slice y0 g.attrs.length y1, .slice y2 g.eqs.length y3] 76)).alloc (.cells #[.int .i64 P.left, .slice pa P.right.length pc, .string P.label, .int .i64 P.lev, .int .i64 P.asc] 67)).alloc (.cells #[.int .i64 rp, .int .i64 ra, .int .i64 rn] 64)).drew HDW.out)
  clear h hg hsm B1 B2 B3 hs1 hs2 hb3 HGI
  by_cases h1 : rp = -1
  · subst h1
    have HE := (show Hid _ from ar_num (d := d) (g := g) (P := P) (ra := ra) (rn := rn))
    clear pha phcell HC80 hd0
    by_cases h2 : ra = 0
    · by_cases h3 : -1000000000 ≤ rn
      · by_cases h4 : rn ≤ 1000000000
        · rw [decide_eq_true h2, decide_eq_true h3, decide_eq_true h4] at HE
          have k2 : (ra == 0) = true := by simp [h2]
          clear h2
          go_enter Try.func64, Try.ntmps64
          go_wp2_with fail
          go_ret
          exact ⟨by rw [HE.out]; rfl, HBB.out⟩
        · rw [decide_eq_true h2, decide_eq_true h3, decide_eq_false h4] at HE
          have k2 : (ra == 0) = true := by simp [h2]
          clear h2
          go_enter Try.func64, Try.ntmps64
          go_wp2_with fail
          go_ret
          exact ⟨by rw [HE.out]; rfl, HBB.out⟩
      · rw [decide_eq_true h2, decide_eq_false h3] at HE
        have k2 : (ra == 0) = true := by simp [h2]
        clear h2
        go_enter Try.func64, Try.ntmps64
        go_wp2_with fail
        go_ret
        exact ⟨by rw [HE.out]; rfl, HBB.out⟩
    · rw [decide_eq_false h2] at HE
      have k2 : (ra == 0) = false := by simpa using h2
      clear h2
      go_enter Try.func64, Try.ntmps64
      go_wp2_with fail
      go_ret
      exact ⟨by rw [HE.out]; rfl, HBB.out⟩
  have k1 : (rp == -1) = false := by simpa using h1
  by_cases hp : 0 < rp
  rotate_left
  · have HE := (show Hid _ from ar_non (d := d) (g := g) (P := P) (ra := ra) (rn := rn) h1 (fun ht => hp ht.1))
    have hS0 := HQ.out _ hd0
    have kd : decide (0 < rp) = false := decide_eq_false hp
    clear pha phcell hd0 h1
    by_cases k9 : rn = 0
    · rw [decide_eq_true k9, Bool.true_and] at HE
      have kn : (rn == 0) = true := by simp [k9]
      clear k9
      go_enter Try.func64, Try.ntmps64
      go_wp2_with fail
      refine wp_region_held_drew (S := fun wq => wq.cell? ⟨w.heap.size, 0, none⟩ = some (.slice x0 d.terms.length x1) ∧ wq.cell? ⟨w.heap.size, 1, none⟩ = some (.slice x2 d.nons.length x3) ∧ wq.cell? ⟨w.heap.size, 2, none⟩ = some (.int .i64 d.own) ∧ wq.cell? ⟨w.heap.size, 3, none⟩ = some (.slice x4 d.prods.length x5) ∧ wq.cell? ⟨w.heap.size, 4, none⟩ = some (.slice y0 g.attrs.length y1) ∧ wq.cell? ⟨w.heap.size, 5, none⟩ = some (.slice y2 g.eqs.length y3) ∧ wq.cell? ⟨w.heap.size + 1, 0, none⟩ = some (.int .i64 P.left) ∧ wq.cell? ⟨w.heap.size + 1, 1, none⟩ = some (.slice pa P.right.length pc) ∧ wq.cell? ⟨w.heap.size + 1, 2, none⟩ = some (.string P.label) ∧ wq.cell? ⟨w.heap.size + 1, 3, none⟩ = some (.int .i64 P.lev) ∧ wq.cell? ⟨w.heap.size + 1, 4, none⟩ = some (.int .i64 P.asc) ∧ wq.cell? ⟨w.heap.size + 1 + 1, 0, none⟩ = some (.int .i64 rp) ∧ wq.cell? ⟨w.heap.size + 1 + 1, 1, none⟩ = some (.int .i64 ra) ∧ wq.cell? ⟨w.heap.size + 1 + 1, 2, none⟩ = some (.int .i64 rn)) (by kernel_rfl) hS0 (fun hHeld => ?_)
      refine wpAnyH_take (i := 0) (oi := oG0) (v := ?v1) rfl (by kernel_rfl) (by kernel_rfl) (by kernel_rfl) (fun _ _ _ h => h) (Or.inl ⟨by rfl, ?h1⟩) hHeld ?r1
      case h1 => (intro w hSw; (try dsimp only at hSw); go_simp; try with_reducible rfl)
      try simp only [Act.put, List.setIfInBounds_toArray, List.set_cons_zero, List.set_cons_succ]
      refine wpAnyH_take (i := 1) (oi := oG1) (v := ?v2) rfl (by kernel_rfl) (by kernel_rfl) (by kernel_rfl) (fun _ _ _ h => h) (Or.inl ⟨by rfl, ?h2⟩) hHeld ?r2
      case h2 => (intro w hSw; (try dsimp only at hSw); go_simp; try with_reducible rfl)
      try simp only [Act.put, List.setIfInBounds_toArray, List.set_cons_zero, List.set_cons_succ]
      refine wpAnyH_take (i := 2) (oi := oG2) (v := ?v3) rfl (by kernel_rfl) (by kernel_rfl) (by kernel_rfl) (fun _ _ _ h => h) (Or.inl ⟨by rfl, ?h3⟩) hHeld ?r3
      case h3 => (intro w hSw; (try dsimp only at hSw); go_simp; try with_reducible rfl)
      try simp only [Act.put, List.setIfInBounds_toArray, List.set_cons_zero, List.set_cons_succ]
      refine wpAnyH_take (i := 3) (oi := oG3) (v := ?v4) rfl (by kernel_rfl) (by kernel_rfl) (by kernel_rfl) (fun _ _ _ h => h) (Or.inl ⟨by rfl, ?h4⟩) hHeld ?r4
      case h4 => (intro w hSw; (try dsimp only at hSw); go_simp; try with_reducible rfl)
      try simp only [Act.put, List.setIfInBounds_toArray, List.set_cons_zero, List.set_cons_succ]
      refine wpAnyH_take (i := 4) (oi := oG4) (v := undef) rfl (by kernel_rfl) (by kernel_rfl) (by kernel_rfl) (fun _ _ _ h => h) (Or.inr ⟨by rfl, rfl⟩) hHeld ?_
      try simp only [Act.put, List.setIfInBounds_toArray, List.set_cons_zero, List.set_cons_succ]
      refine wpAnyH_take (i := 5) (oi := oG5) (v := undef) rfl (by kernel_rfl) (by kernel_rfl) (by kernel_rfl) (fun _ _ _ h => h) (Or.inr ⟨by rfl, rfl⟩) hHeld ?_
      try simp only [Act.put, List.setIfInBounds_toArray, List.set_cons_zero, List.set_cons_succ]
      refine wpAnyH_take (i := 6) (oi := oG6) (v := undef) rfl (by kernel_rfl) (by kernel_rfl) (by kernel_rfl) (fun _ _ _ h => h) (Or.inr ⟨by rfl, rfl⟩) hHeld ?_
      try simp only [Act.put, List.setIfInBounds_toArray, List.set_cons_zero, List.set_cons_succ]
      refine wpAnyH_take (i := 7) (oi := oG7) (v := undef) rfl (by kernel_rfl) (by kernel_rfl) (by kernel_rfl) (fun _ _ _ h => h) (Or.inr ⟨by rfl, rfl⟩) hHeld ?_
      try simp only [Act.put, List.setIfInBounds_toArray, List.set_cons_zero, List.set_cons_succ]
      refine wpAnyH_take (i := 8) (oi := oG8) (v := undef) rfl (by kernel_rfl) (by kernel_rfl) (by kernel_rfl) (fun _ _ _ h => h) (Or.inr ⟨by rfl, rfl⟩) hHeld ?_
      try simp only [Act.put, List.setIfInBounds_toArray, List.set_cons_zero, List.set_cons_succ]
      refine wpAnyH_take (i := 9) (oi := oG9) (v := undef) rfl (by kernel_rfl) (by kernel_rfl) (by kernel_rfl) (fun _ _ _ h => h) (Or.inr ⟨by rfl, rfl⟩) hHeld ?_
      try simp only [Act.put, List.setIfInBounds_toArray, List.set_cons_zero, List.set_cons_succ]
      refine wpAnyH_take (i := 10) (oi := oG10) (v := ?v5) rfl (by kernel_rfl) (by kernel_rfl) (by kernel_rfl) (fun _ _ _ h => h) (Or.inl ⟨by rfl, ?h5⟩) hHeld ?r5
      case h5 => (intro w hSw; (try dsimp only at hSw); go_simp; try with_reducible rfl)
      try simp only [Act.put, List.setIfInBounds_toArray, List.set_cons_zero, List.set_cons_succ]
      refine wpAnyH_take (i := 11) (oi := oG11) (v := ?v6) rfl (by kernel_rfl) (by kernel_rfl) (by kernel_rfl) (fun _ _ _ h => h) (Or.inl ⟨by rfl, ?h6⟩) hHeld ?r6
      case h6 => (intro w hSw; (try dsimp only at hSw); go_simp; try with_reducible rfl)
      try simp only [Act.put, List.setIfInBounds_toArray, List.set_cons_zero, List.set_cons_succ]
      refine wpAnyH_take (i := 12) (oi := oG12) (v := undef) rfl (by kernel_rfl) (by kernel_rfl) (by kernel_rfl) (fun _ _ _ h => h) (Or.inr ⟨by rfl, rfl⟩) hHeld ?_
      try simp only [Act.put, List.setIfInBounds_toArray, List.set_cons_zero, List.set_cons_succ]
      refine wpAnyH_take (i := 13) (oi := oG13) (v := undef) rfl (by kernel_rfl) (by kernel_rfl) (by kernel_rfl) (fun _ _ _ h => h) (Or.inr ⟨by rfl, rfl⟩) hHeld ?_
      try simp only [Act.put, List.setIfInBounds_toArray, List.set_cons_zero, List.set_cons_succ]
      refine wpAnyH_take (i := 14) (oi := oG14) (v := undef) rfl (by kernel_rfl) (by kernel_rfl) (by kernel_rfl) (fun _ _ _ h => h) (Or.inr ⟨by rfl, rfl⟩) hHeld ?_
      try simp only [Act.put, List.setIfInBounds_toArray, List.set_cons_zero, List.set_cons_succ]
      refine wpAnyH_take (i := 15) (oi := oG15) (v := undef) rfl (by kernel_rfl) (by kernel_rfl) (by kernel_rfl) (fun _ _ _ h => h) (Or.inr ⟨by rfl, rfl⟩) hHeld ?_
      try simp only [Act.put, List.setIfInBounds_toArray, List.set_cons_zero, List.set_cons_succ]
      refine wpAnyH_take (i := 16) (oi := oG16) (v := undef) rfl (by kernel_rfl) (by kernel_rfl) (by kernel_rfl) (fun _ _ _ h => h) (Or.inr ⟨by rfl, rfl⟩) hHeld ?_
      try simp only [Act.put, List.setIfInBounds_toArray, List.set_cons_zero, List.set_cons_succ]
      refine wpAnyH_take (i := 17) (oi := oG17) (v := undef) rfl (by kernel_rfl) (by kernel_rfl) (by kernel_rfl) (fun _ _ _ h => h) (Or.inr ⟨by rfl, rfl⟩) hHeld ?_
      try simp only [Act.put, List.setIfInBounds_toArray, List.set_cons_zero, List.set_cons_succ]
      refine wpAnyH_take (i := 18) (oi := oG18) (v := undef) rfl (by kernel_rfl) (by kernel_rfl) (by kernel_rfl) (fun _ _ _ h => h) (Or.inr ⟨by rfl, rfl⟩) hHeld ?_
      try simp only [Act.put, List.setIfInBounds_toArray, List.set_cons_zero, List.set_cons_succ]
      refine wpAnyH_take (i := 19) (oi := oG19) (v := undef) rfl (by kernel_rfl) (by kernel_rfl) (by kernel_rfl) (fun _ _ _ h => h) (Or.inr ⟨by rfl, rfl⟩) hHeld ?_
      try simp only [Act.put, List.setIfInBounds_toArray, List.set_cons_zero, List.set_cons_succ]
      refine wpAnyH_take (i := 20) (oi := oG20) (v := undef) rfl (by kernel_rfl) (by kernel_rfl) (by kernel_rfl) (fun _ _ _ h => h) (Or.inr ⟨by rfl, rfl⟩) hHeld ?_
      try simp only [Act.put, List.setIfInBounds_toArray, List.set_cons_zero, List.set_cons_succ]
      refine wpAnyH_take (i := 21) (oi := oG21) (v := undef) rfl (by kernel_rfl) (by kernel_rfl) (by kernel_rfl) (fun _ _ _ h => h) (Or.inr ⟨by rfl, rfl⟩) hHeld ?_
      try simp only [Act.put, List.setIfInBounds_toArray, List.set_cons_zero, List.set_cons_succ]
      refine wpAnyH_take (i := 22) (oi := oG22) (v := undef) rfl (by kernel_rfl) (by kernel_rfl) (by kernel_rfl) (fun _ _ _ h => h) (Or.inr ⟨by rfl, rfl⟩) hHeld ?_
      try simp only [Act.put, List.setIfInBounds_toArray, List.set_cons_zero, List.set_cons_succ]
      refine wpAnyH_take (i := 23) (oi := oG23) (v := undef) rfl (by kernel_rfl) (by kernel_rfl) (by kernel_rfl) (fun _ _ _ h => h) (Or.inr ⟨by rfl, rfl⟩) hHeld ?_
      try simp only [Act.put, List.setIfInBounds_toArray, List.set_cons_zero, List.set_cons_succ]
      refine wpAnyH_take (i := 24) (oi := oG24) (v := ?v7) rfl (by kernel_rfl) (by kernel_rfl) (by kernel_rfl) (fun _ _ _ h => h) (Or.inl ⟨by rfl, ?h7⟩) hHeld ?r7
      case h7 => (intro w hSw; (try dsimp only at hSw); go_simp; try with_reducible rfl)
      try simp only [Act.put, List.setIfInBounds_toArray, List.set_cons_zero, List.set_cons_succ]
      refine wpAnyH_ready (rs := [25]) (by kernel_rfl) (by simp) ?_
      refine (AllReadyH.cons (o := oG25) rfl (fun K hK => ?_) AllReadyH.nil)
      go_simp
      clear hHeld
      refine hK.out _ _ (hS0) (fun hHeld => ?_)
      clear hK K
      try simp only [Act.put, List.setIfInBounds_toArray, List.set_cons_zero, List.set_cons_succ]
      refine wpAnyH_done (by kernel_rfl) ?_ _
      (try refine NoPanic.normal ?_)
      clear q0 q1 q2 q3 q4 q5 q6 q7 q8 q9 q10 q11 q12 q13
      obtain ⟨z0, z1, z2, z3, z4, z5, z6, z7, z8, z9, z10, z11, z12, z13⟩ := hS0
      go_wp2_with fail
      refine Calls.mono HC80.out ?_
      rintro e w4 ⟨rfl, hb4⟩
      have HB4 := (show Hid _ from bel_trans HDW.out hb4)
      clear hb4
      go_wp2_with fail
      go_ret
      exact ⟨by rw [HE.out]; rfl, HB4.out⟩
    · rw [decide_eq_false k9, Bool.false_and] at HE
      have kn : (rn == 0) = false := by simpa using k9
      clear k9
      go_enter Try.func64, Try.ntmps64
      go_wp2_with fail
      refine wp_region_held_drew (S := fun wq => wq.cell? ⟨w.heap.size, 0, none⟩ = some (.slice x0 d.terms.length x1) ∧ wq.cell? ⟨w.heap.size, 1, none⟩ = some (.slice x2 d.nons.length x3) ∧ wq.cell? ⟨w.heap.size, 2, none⟩ = some (.int .i64 d.own) ∧ wq.cell? ⟨w.heap.size, 3, none⟩ = some (.slice x4 d.prods.length x5) ∧ wq.cell? ⟨w.heap.size, 4, none⟩ = some (.slice y0 g.attrs.length y1) ∧ wq.cell? ⟨w.heap.size, 5, none⟩ = some (.slice y2 g.eqs.length y3) ∧ wq.cell? ⟨w.heap.size + 1, 0, none⟩ = some (.int .i64 P.left) ∧ wq.cell? ⟨w.heap.size + 1, 1, none⟩ = some (.slice pa P.right.length pc) ∧ wq.cell? ⟨w.heap.size + 1, 2, none⟩ = some (.string P.label) ∧ wq.cell? ⟨w.heap.size + 1, 3, none⟩ = some (.int .i64 P.lev) ∧ wq.cell? ⟨w.heap.size + 1, 4, none⟩ = some (.int .i64 P.asc) ∧ wq.cell? ⟨w.heap.size + 1 + 1, 0, none⟩ = some (.int .i64 rp) ∧ wq.cell? ⟨w.heap.size + 1 + 1, 1, none⟩ = some (.int .i64 ra) ∧ wq.cell? ⟨w.heap.size + 1 + 1, 2, none⟩ = some (.int .i64 rn)) (by kernel_rfl) hS0 (fun hHeld => ?_)
      refine wpAnyH_take (i := 0) (oi := oG0) (v := ?v101) rfl (by kernel_rfl) (by kernel_rfl) (by kernel_rfl) (fun _ _ _ h => h) (Or.inl ⟨by rfl, ?h101⟩) hHeld ?r101
      case h101 => (intro w hSw; (try dsimp only at hSw); go_simp; try with_reducible rfl)
      try simp only [Act.put, List.setIfInBounds_toArray, List.set_cons_zero, List.set_cons_succ]
      refine wpAnyH_take (i := 1) (oi := oG1) (v := ?v102) rfl (by kernel_rfl) (by kernel_rfl) (by kernel_rfl) (fun _ _ _ h => h) (Or.inl ⟨by rfl, ?h102⟩) hHeld ?r102
      case h102 => (intro w hSw; (try dsimp only at hSw); go_simp; try with_reducible rfl)
      try simp only [Act.put, List.setIfInBounds_toArray, List.set_cons_zero, List.set_cons_succ]
      refine wpAnyH_take (i := 2) (oi := oG2) (v := ?v103) rfl (by kernel_rfl) (by kernel_rfl) (by kernel_rfl) (fun _ _ _ h => h) (Or.inl ⟨by rfl, ?h103⟩) hHeld ?r103
      case h103 => (intro w hSw; (try dsimp only at hSw); go_simp; try with_reducible rfl)
      try simp only [Act.put, List.setIfInBounds_toArray, List.set_cons_zero, List.set_cons_succ]
      refine wpAnyH_take (i := 3) (oi := oG3) (v := ?v104) rfl (by kernel_rfl) (by kernel_rfl) (by kernel_rfl) (fun _ _ _ h => h) (Or.inl ⟨by rfl, ?h104⟩) hHeld ?r104
      case h104 => (intro w hSw; (try dsimp only at hSw); go_simp; try with_reducible rfl)
      try simp only [Act.put, List.setIfInBounds_toArray, List.set_cons_zero, List.set_cons_succ]
      refine wpAnyH_take (i := 4) (oi := oG4) (v := undef) rfl (by kernel_rfl) (by kernel_rfl) (by kernel_rfl) (fun _ _ _ h => h) (Or.inr ⟨by rfl, rfl⟩) hHeld ?_
      try simp only [Act.put, List.setIfInBounds_toArray, List.set_cons_zero, List.set_cons_succ]
      refine wpAnyH_take (i := 5) (oi := oG5) (v := undef) rfl (by kernel_rfl) (by kernel_rfl) (by kernel_rfl) (fun _ _ _ h => h) (Or.inr ⟨by rfl, rfl⟩) hHeld ?_
      try simp only [Act.put, List.setIfInBounds_toArray, List.set_cons_zero, List.set_cons_succ]
      refine wpAnyH_take (i := 6) (oi := oG6) (v := undef) rfl (by kernel_rfl) (by kernel_rfl) (by kernel_rfl) (fun _ _ _ h => h) (Or.inr ⟨by rfl, rfl⟩) hHeld ?_
      try simp only [Act.put, List.setIfInBounds_toArray, List.set_cons_zero, List.set_cons_succ]
      refine wpAnyH_take (i := 7) (oi := oG7) (v := undef) rfl (by kernel_rfl) (by kernel_rfl) (by kernel_rfl) (fun _ _ _ h => h) (Or.inr ⟨by rfl, rfl⟩) hHeld ?_
      try simp only [Act.put, List.setIfInBounds_toArray, List.set_cons_zero, List.set_cons_succ]
      refine wpAnyH_take (i := 8) (oi := oG8) (v := undef) rfl (by kernel_rfl) (by kernel_rfl) (by kernel_rfl) (fun _ _ _ h => h) (Or.inr ⟨by rfl, rfl⟩) hHeld ?_
      try simp only [Act.put, List.setIfInBounds_toArray, List.set_cons_zero, List.set_cons_succ]
      refine wpAnyH_take (i := 9) (oi := oG9) (v := undef) rfl (by kernel_rfl) (by kernel_rfl) (by kernel_rfl) (fun _ _ _ h => h) (Or.inr ⟨by rfl, rfl⟩) hHeld ?_
      try simp only [Act.put, List.setIfInBounds_toArray, List.set_cons_zero, List.set_cons_succ]
      refine wpAnyH_take (i := 10) (oi := oG10) (v := ?v105) rfl (by kernel_rfl) (by kernel_rfl) (by kernel_rfl) (fun _ _ _ h => h) (Or.inl ⟨by rfl, ?h105⟩) hHeld ?r105
      case h105 => (intro w hSw; (try dsimp only at hSw); go_simp; try with_reducible rfl)
      try simp only [Act.put, List.setIfInBounds_toArray, List.set_cons_zero, List.set_cons_succ]
      refine wpAnyH_take (i := 11) (oi := oG11) (v := ?v106) rfl (by kernel_rfl) (by kernel_rfl) (by kernel_rfl) (fun _ _ _ h => h) (Or.inl ⟨by rfl, ?h106⟩) hHeld ?r106
      case h106 => (intro w hSw; (try dsimp only at hSw); go_simp; try with_reducible rfl)
      try simp only [Act.put, List.setIfInBounds_toArray, List.set_cons_zero, List.set_cons_succ]
      refine wpAnyH_take (i := 12) (oi := oG12) (v := undef) rfl (by kernel_rfl) (by kernel_rfl) (by kernel_rfl) (fun _ _ _ h => h) (Or.inr ⟨by rfl, rfl⟩) hHeld ?_
      try simp only [Act.put, List.setIfInBounds_toArray, List.set_cons_zero, List.set_cons_succ]
      refine wpAnyH_take (i := 13) (oi := oG13) (v := undef) rfl (by kernel_rfl) (by kernel_rfl) (by kernel_rfl) (fun _ _ _ h => h) (Or.inr ⟨by rfl, rfl⟩) hHeld ?_
      try simp only [Act.put, List.setIfInBounds_toArray, List.set_cons_zero, List.set_cons_succ]
      refine wpAnyH_take (i := 14) (oi := oG14) (v := undef) rfl (by kernel_rfl) (by kernel_rfl) (by kernel_rfl) (fun _ _ _ h => h) (Or.inr ⟨by rfl, rfl⟩) hHeld ?_
      try simp only [Act.put, List.setIfInBounds_toArray, List.set_cons_zero, List.set_cons_succ]
      refine wpAnyH_take (i := 15) (oi := oG15) (v := undef) rfl (by kernel_rfl) (by kernel_rfl) (by kernel_rfl) (fun _ _ _ h => h) (Or.inr ⟨by rfl, rfl⟩) hHeld ?_
      try simp only [Act.put, List.setIfInBounds_toArray, List.set_cons_zero, List.set_cons_succ]
      refine wpAnyH_take (i := 16) (oi := oG16) (v := undef) rfl (by kernel_rfl) (by kernel_rfl) (by kernel_rfl) (fun _ _ _ h => h) (Or.inr ⟨by rfl, rfl⟩) hHeld ?_
      try simp only [Act.put, List.setIfInBounds_toArray, List.set_cons_zero, List.set_cons_succ]
      refine wpAnyH_take (i := 17) (oi := oG17) (v := undef) rfl (by kernel_rfl) (by kernel_rfl) (by kernel_rfl) (fun _ _ _ h => h) (Or.inr ⟨by rfl, rfl⟩) hHeld ?_
      try simp only [Act.put, List.setIfInBounds_toArray, List.set_cons_zero, List.set_cons_succ]
      refine wpAnyH_take (i := 18) (oi := oG18) (v := undef) rfl (by kernel_rfl) (by kernel_rfl) (by kernel_rfl) (fun _ _ _ h => h) (Or.inr ⟨by rfl, rfl⟩) hHeld ?_
      try simp only [Act.put, List.setIfInBounds_toArray, List.set_cons_zero, List.set_cons_succ]
      refine wpAnyH_take (i := 19) (oi := oG19) (v := undef) rfl (by kernel_rfl) (by kernel_rfl) (by kernel_rfl) (fun _ _ _ h => h) (Or.inr ⟨by rfl, rfl⟩) hHeld ?_
      try simp only [Act.put, List.setIfInBounds_toArray, List.set_cons_zero, List.set_cons_succ]
      refine wpAnyH_take (i := 20) (oi := oG20) (v := undef) rfl (by kernel_rfl) (by kernel_rfl) (by kernel_rfl) (fun _ _ _ h => h) (Or.inr ⟨by rfl, rfl⟩) hHeld ?_
      try simp only [Act.put, List.setIfInBounds_toArray, List.set_cons_zero, List.set_cons_succ]
      refine wpAnyH_take (i := 21) (oi := oG21) (v := undef) rfl (by kernel_rfl) (by kernel_rfl) (by kernel_rfl) (fun _ _ _ h => h) (Or.inr ⟨by rfl, rfl⟩) hHeld ?_
      try simp only [Act.put, List.setIfInBounds_toArray, List.set_cons_zero, List.set_cons_succ]
      refine wpAnyH_take (i := 22) (oi := oG22) (v := undef) rfl (by kernel_rfl) (by kernel_rfl) (by kernel_rfl) (fun _ _ _ h => h) (Or.inr ⟨by rfl, rfl⟩) hHeld ?_
      try simp only [Act.put, List.setIfInBounds_toArray, List.set_cons_zero, List.set_cons_succ]
      refine wpAnyH_take (i := 23) (oi := oG23) (v := undef) rfl (by kernel_rfl) (by kernel_rfl) (by kernel_rfl) (fun _ _ _ h => h) (Or.inr ⟨by rfl, rfl⟩) hHeld ?_
      try simp only [Act.put, List.setIfInBounds_toArray, List.set_cons_zero, List.set_cons_succ]
      refine wpAnyH_take (i := 24) (oi := oG24) (v := ?v107) rfl (by kernel_rfl) (by kernel_rfl) (by kernel_rfl) (fun _ _ _ h => h) (Or.inl ⟨by rfl, ?h107⟩) hHeld ?r107
      case h107 => (intro w hSw; (try dsimp only at hSw); go_simp; try with_reducible rfl)
      try simp only [Act.put, List.setIfInBounds_toArray, List.set_cons_zero, List.set_cons_succ]
      refine wpAnyH_ready (rs := [25]) (by kernel_rfl) (by simp) ?_
      refine (AllReadyH.cons (o := oG25) rfl (fun K hK => ?_) AllReadyH.nil)
      go_simp
      clear hHeld
      refine hK.out _ _ (hS0) (fun hHeld => ?_)
      clear hK K
      try simp only [Act.put, List.setIfInBounds_toArray, List.set_cons_zero, List.set_cons_succ]
      refine wpAnyH_done (by kernel_rfl) ?_ _
      (try refine NoPanic.normal ?_)
      clear q0 q1 q2 q3 q4 q5 q6 q7 q8 q9 q10 q11 q12 q13
      obtain ⟨z0, z1, z2, z3, z4, z5, z6, z7, z8, z9, z10, z11, z12, z13⟩ := hS0
      go_wp2_with fail
      go_ret
      exact ⟨by rw [HE.out]; rfl, HDW.out⟩
  by_cases hp2 : rp ≤ (P.right.length : Int)
  rotate_left
  · have HE := (show Hid _ from ar_non (d := d) (g := g) (P := P) (ra := ra) (rn := rn) h1 (fun ht => hp2 ht.2.1))
    have hS0 := HQ.out _ hd0
    have kd : decide (0 < rp) = true := decide_eq_true hp
    have ke : decide (rp ≤ (P.right.length : Int)) = false := decide_eq_false hp2
    clear pha phcell hd0 h1
    by_cases k9 : rn = 0
    · rw [decide_eq_true k9, Bool.true_and] at HE
      have kn : (rn == 0) = true := by simp [k9]
      clear k9
      go_enter Try.func64, Try.ntmps64
      go_wp2_with fail
      refine wp_region_held_drew (S := fun wq => wq.cell? ⟨w.heap.size, 0, none⟩ = some (.slice x0 d.terms.length x1) ∧ wq.cell? ⟨w.heap.size, 1, none⟩ = some (.slice x2 d.nons.length x3) ∧ wq.cell? ⟨w.heap.size, 2, none⟩ = some (.int .i64 d.own) ∧ wq.cell? ⟨w.heap.size, 3, none⟩ = some (.slice x4 d.prods.length x5) ∧ wq.cell? ⟨w.heap.size, 4, none⟩ = some (.slice y0 g.attrs.length y1) ∧ wq.cell? ⟨w.heap.size, 5, none⟩ = some (.slice y2 g.eqs.length y3) ∧ wq.cell? ⟨w.heap.size + 1, 0, none⟩ = some (.int .i64 P.left) ∧ wq.cell? ⟨w.heap.size + 1, 1, none⟩ = some (.slice pa P.right.length pc) ∧ wq.cell? ⟨w.heap.size + 1, 2, none⟩ = some (.string P.label) ∧ wq.cell? ⟨w.heap.size + 1, 3, none⟩ = some (.int .i64 P.lev) ∧ wq.cell? ⟨w.heap.size + 1, 4, none⟩ = some (.int .i64 P.asc) ∧ wq.cell? ⟨w.heap.size + 1 + 1, 0, none⟩ = some (.int .i64 rp) ∧ wq.cell? ⟨w.heap.size + 1 + 1, 1, none⟩ = some (.int .i64 ra) ∧ wq.cell? ⟨w.heap.size + 1 + 1, 2, none⟩ = some (.int .i64 rn)) (by kernel_rfl) hS0 (fun hHeld => ?_)
      refine wpAnyH_take (i := 0) (oi := oG0) (v := ?v201) rfl (by kernel_rfl) (by kernel_rfl) (by kernel_rfl) (fun _ _ _ h => h) (Or.inl ⟨by rfl, ?h201⟩) hHeld ?r201
      case h201 => (intro w hSw; (try dsimp only at hSw); go_simp; try with_reducible rfl)
      try simp only [Act.put, List.setIfInBounds_toArray, List.set_cons_zero, List.set_cons_succ]
      refine wpAnyH_take (i := 1) (oi := oG1) (v := ?v202) rfl (by kernel_rfl) (by kernel_rfl) (by kernel_rfl) (fun _ _ _ h => h) (Or.inl ⟨by rfl, ?h202⟩) hHeld ?r202
      case h202 => (intro w hSw; (try dsimp only at hSw); go_simp; try with_reducible rfl)
      try simp only [Act.put, List.setIfInBounds_toArray, List.set_cons_zero, List.set_cons_succ]
      refine wpAnyH_take (i := 2) (oi := oG2) (v := ?v203) rfl (by kernel_rfl) (by kernel_rfl) (by kernel_rfl) (fun _ _ _ h => h) (Or.inl ⟨by rfl, ?h203⟩) hHeld ?r203
      case h203 => (intro w hSw; (try dsimp only at hSw); go_simp; try with_reducible rfl)
      try simp only [Act.put, List.setIfInBounds_toArray, List.set_cons_zero, List.set_cons_succ]
      refine wpAnyH_take (i := 3) (oi := oG3) (v := ?v204) rfl (by kernel_rfl) (by kernel_rfl) (by kernel_rfl) (fun _ _ _ h => h) (Or.inl ⟨by rfl, ?h204⟩) hHeld ?r204
      case h204 => (intro w hSw; (try dsimp only at hSw); go_simp; try with_reducible rfl)
      try simp only [Act.put, List.setIfInBounds_toArray, List.set_cons_zero, List.set_cons_succ]
      refine wpAnyH_take (i := 4) (oi := oG4) (v := ?v205) rfl (by kernel_rfl) (by kernel_rfl) (by kernel_rfl) (fun _ _ _ h => h) (Or.inl ⟨by rfl, ?h205⟩) hHeld ?r205
      case h205 => (intro w hSw; (try dsimp only at hSw); go_simp; try with_reducible rfl)
      try simp only [Act.put, List.setIfInBounds_toArray, List.set_cons_zero, List.set_cons_succ]
      refine wpAnyH_take (i := 5) (oi := oG5) (v := ?v206) rfl (by kernel_rfl) (by kernel_rfl) (by kernel_rfl) (fun _ _ _ h => h) (Or.inl ⟨by rfl, ?h206⟩) hHeld ?r206
      case h206 => (intro w hSw; (try dsimp only at hSw); go_simp; try with_reducible rfl)
      try simp only [Act.put, List.setIfInBounds_toArray, List.set_cons_zero, List.set_cons_succ]
      refine wpAnyH_take (i := 6) (oi := oG6) (v := ?v207) rfl (by kernel_rfl) (by kernel_rfl) (by kernel_rfl) (fun _ _ _ h => h) (Or.inl ⟨by rfl, ?h207⟩) hHeld ?r207
      case h207 => (intro w hSw; (try dsimp only at hSw); go_simp; try with_reducible rfl)
      try simp only [Act.put, List.setIfInBounds_toArray, List.set_cons_zero, List.set_cons_succ]
      refine wpAnyH_take (i := 7) (oi := oG7) (v := ?v208) rfl (by kernel_rfl) (by kernel_rfl) (by kernel_rfl) (fun _ _ _ h => h) (Or.inl ⟨by rfl, ?h208⟩) hHeld ?r208
      case h208 => (intro w hSw; (try dsimp only at hSw); go_simp; try with_reducible rfl)
      try simp only [Act.put, List.setIfInBounds_toArray, List.set_cons_zero, List.set_cons_succ]
      refine wpAnyH_take (i := 8) (oi := oG8) (v := ?v209) rfl (by kernel_rfl) (by kernel_rfl) (by kernel_rfl) (fun _ _ _ h => h) (Or.inl ⟨by rfl, ?h209⟩) hHeld ?r209
      case h209 => (intro w hSw; (try dsimp only at hSw); go_simp; try with_reducible rfl)
      try simp only [Act.put, List.setIfInBounds_toArray, List.set_cons_zero, List.set_cons_succ]
      refine wpAnyH_take (i := 9) (oi := oG9) (v := ?v210) rfl (by kernel_rfl) (by kernel_rfl) (by kernel_rfl) (fun _ _ _ h => h) (Or.inl ⟨by rfl, ?h210⟩) hHeld ?r210
      case h210 => (intro w hSw; (try dsimp only at hSw); go_simp; try with_reducible rfl)
      try simp only [Act.put, List.setIfInBounds_toArray, List.set_cons_zero, List.set_cons_succ]
      refine wpAnyH_take (i := 10) (oi := oG10) (v := ?v211) rfl (by kernel_rfl) (by kernel_rfl) (by kernel_rfl) (fun _ _ _ h => h) (Or.inl ⟨by rfl, ?h211⟩) hHeld ?r211
      case h211 => (intro w hSw; (try dsimp only at hSw); go_simp; try with_reducible rfl)
      try simp only [Act.put, List.setIfInBounds_toArray, List.set_cons_zero, List.set_cons_succ]
      refine wpAnyH_take (i := 11) (oi := oG11) (v := ?v212) rfl (by kernel_rfl) (by kernel_rfl) (by kernel_rfl) (fun _ _ _ h => h) (Or.inl ⟨by rfl, ?h212⟩) hHeld ?r212
      case h212 => (intro w hSw; (try dsimp only at hSw); go_simp; try with_reducible rfl)
      try simp only [Act.put, List.setIfInBounds_toArray, List.set_cons_zero, List.set_cons_succ]
      refine wpAnyH_take (i := 12) (oi := oG12) (v := undef) rfl (by kernel_rfl) (by kernel_rfl) (by kernel_rfl) (fun _ _ _ h => h) (Or.inr ⟨by rfl, rfl⟩) hHeld ?_
      try simp only [Act.put, List.setIfInBounds_toArray, List.set_cons_zero, List.set_cons_succ]
      refine wpAnyH_take (i := 13) (oi := oG13) (v := undef) rfl (by kernel_rfl) (by kernel_rfl) (by kernel_rfl) (fun _ _ _ h => h) (Or.inr ⟨by rfl, rfl⟩) hHeld ?_
      try simp only [Act.put, List.setIfInBounds_toArray, List.set_cons_zero, List.set_cons_succ]
      refine wpAnyH_take (i := 14) (oi := oG14) (v := undef) rfl (by kernel_rfl) (by kernel_rfl) (by kernel_rfl) (fun _ _ _ h => h) (Or.inr ⟨by rfl, rfl⟩) hHeld ?_
      try simp only [Act.put, List.setIfInBounds_toArray, List.set_cons_zero, List.set_cons_succ]
      refine wpAnyH_take (i := 15) (oi := oG15) (v := undef) rfl (by kernel_rfl) (by kernel_rfl) (by kernel_rfl) (fun _ _ _ h => h) (Or.inr ⟨by rfl, rfl⟩) hHeld ?_
      try simp only [Act.put, List.setIfInBounds_toArray, List.set_cons_zero, List.set_cons_succ]
      refine wpAnyH_take (i := 16) (oi := oG16) (v := undef) rfl (by kernel_rfl) (by kernel_rfl) (by kernel_rfl) (fun _ _ _ h => h) (Or.inr ⟨by rfl, rfl⟩) hHeld ?_
      try simp only [Act.put, List.setIfInBounds_toArray, List.set_cons_zero, List.set_cons_succ]
      refine wpAnyH_take (i := 17) (oi := oG17) (v := undef) rfl (by kernel_rfl) (by kernel_rfl) (by kernel_rfl) (fun _ _ _ h => h) (Or.inr ⟨by rfl, rfl⟩) hHeld ?_
      try simp only [Act.put, List.setIfInBounds_toArray, List.set_cons_zero, List.set_cons_succ]
      refine wpAnyH_take (i := 18) (oi := oG18) (v := undef) rfl (by kernel_rfl) (by kernel_rfl) (by kernel_rfl) (fun _ _ _ h => h) (Or.inr ⟨by rfl, rfl⟩) hHeld ?_
      try simp only [Act.put, List.setIfInBounds_toArray, List.set_cons_zero, List.set_cons_succ]
      refine wpAnyH_take (i := 19) (oi := oG19) (v := undef) rfl (by kernel_rfl) (by kernel_rfl) (by kernel_rfl) (fun _ _ _ h => h) (Or.inr ⟨by rfl, rfl⟩) hHeld ?_
      try simp only [Act.put, List.setIfInBounds_toArray, List.set_cons_zero, List.set_cons_succ]
      refine wpAnyH_take (i := 20) (oi := oG20) (v := undef) rfl (by kernel_rfl) (by kernel_rfl) (by kernel_rfl) (fun _ _ _ h => h) (Or.inr ⟨by rfl, rfl⟩) hHeld ?_
      try simp only [Act.put, List.setIfInBounds_toArray, List.set_cons_zero, List.set_cons_succ]
      refine wpAnyH_take (i := 21) (oi := oG21) (v := undef) rfl (by kernel_rfl) (by kernel_rfl) (by kernel_rfl) (fun _ _ _ h => h) (Or.inr ⟨by rfl, rfl⟩) hHeld ?_
      try simp only [Act.put, List.setIfInBounds_toArray, List.set_cons_zero, List.set_cons_succ]
      refine wpAnyH_take (i := 22) (oi := oG22) (v := undef) rfl (by kernel_rfl) (by kernel_rfl) (by kernel_rfl) (fun _ _ _ h => h) (Or.inr ⟨by rfl, rfl⟩) hHeld ?_
      try simp only [Act.put, List.setIfInBounds_toArray, List.set_cons_zero, List.set_cons_succ]
      refine wpAnyH_take (i := 23) (oi := oG23) (v := undef) rfl (by kernel_rfl) (by kernel_rfl) (by kernel_rfl) (fun _ _ _ h => h) (Or.inr ⟨by rfl, rfl⟩) hHeld ?_
      try simp only [Act.put, List.setIfInBounds_toArray, List.set_cons_zero, List.set_cons_succ]
      refine wpAnyH_take (i := 24) (oi := oG24) (v := ?v213) rfl (by kernel_rfl) (by kernel_rfl) (by kernel_rfl) (fun _ _ _ h => h) (Or.inl ⟨by rfl, ?h213⟩) hHeld ?r213
      case h213 => (intro w hSw; (try dsimp only at hSw); go_simp; try with_reducible rfl)
      try simp only [Act.put, List.setIfInBounds_toArray, List.set_cons_zero, List.set_cons_succ]
      refine wpAnyH_ready (rs := [25]) (by kernel_rfl) (by simp) ?_
      refine (AllReadyH.cons (o := oG25) rfl (fun K hK => ?_) AllReadyH.nil)
      go_simp
      clear hHeld
      refine hK.out _ _ (hS0) (fun hHeld => ?_)
      clear hK K
      try simp only [Act.put, List.setIfInBounds_toArray, List.set_cons_zero, List.set_cons_succ]
      refine wpAnyH_done (by kernel_rfl) ?_ _
      (try refine NoPanic.normal ?_)
      clear q0 q1 q2 q3 q4 q5 q6 q7 q8 q9 q10 q11 q12 q13
      obtain ⟨z0, z1, z2, z3, z4, z5, z6, z7, z8, z9, z10, z11, z12, z13⟩ := hS0
      go_wp2_with fail
      refine Calls.mono HC80.out ?_
      rintro e w4 ⟨rfl, hb4⟩
      have HB4 := (show Hid _ from bel_trans HDW.out hb4)
      clear hb4
      go_wp2_with fail
      go_ret
      exact ⟨by rw [HE.out]; rfl, HB4.out⟩
    · rw [decide_eq_false k9, Bool.false_and] at HE
      have kn : (rn == 0) = false := by simpa using k9
      clear k9
      go_enter Try.func64, Try.ntmps64
      go_wp2_with fail
      refine wp_region_held_drew (S := fun wq => wq.cell? ⟨w.heap.size, 0, none⟩ = some (.slice x0 d.terms.length x1) ∧ wq.cell? ⟨w.heap.size, 1, none⟩ = some (.slice x2 d.nons.length x3) ∧ wq.cell? ⟨w.heap.size, 2, none⟩ = some (.int .i64 d.own) ∧ wq.cell? ⟨w.heap.size, 3, none⟩ = some (.slice x4 d.prods.length x5) ∧ wq.cell? ⟨w.heap.size, 4, none⟩ = some (.slice y0 g.attrs.length y1) ∧ wq.cell? ⟨w.heap.size, 5, none⟩ = some (.slice y2 g.eqs.length y3) ∧ wq.cell? ⟨w.heap.size + 1, 0, none⟩ = some (.int .i64 P.left) ∧ wq.cell? ⟨w.heap.size + 1, 1, none⟩ = some (.slice pa P.right.length pc) ∧ wq.cell? ⟨w.heap.size + 1, 2, none⟩ = some (.string P.label) ∧ wq.cell? ⟨w.heap.size + 1, 3, none⟩ = some (.int .i64 P.lev) ∧ wq.cell? ⟨w.heap.size + 1, 4, none⟩ = some (.int .i64 P.asc) ∧ wq.cell? ⟨w.heap.size + 1 + 1, 0, none⟩ = some (.int .i64 rp) ∧ wq.cell? ⟨w.heap.size + 1 + 1, 1, none⟩ = some (.int .i64 ra) ∧ wq.cell? ⟨w.heap.size + 1 + 1, 2, none⟩ = some (.int .i64 rn)) (by kernel_rfl) hS0 (fun hHeld => ?_)
      refine wpAnyH_take (i := 0) (oi := oG0) (v := ?v301) rfl (by kernel_rfl) (by kernel_rfl) (by kernel_rfl) (fun _ _ _ h => h) (Or.inl ⟨by rfl, ?h301⟩) hHeld ?r301
      case h301 => (intro w hSw; (try dsimp only at hSw); go_simp; try with_reducible rfl)
      try simp only [Act.put, List.setIfInBounds_toArray, List.set_cons_zero, List.set_cons_succ]
      refine wpAnyH_take (i := 1) (oi := oG1) (v := ?v302) rfl (by kernel_rfl) (by kernel_rfl) (by kernel_rfl) (fun _ _ _ h => h) (Or.inl ⟨by rfl, ?h302⟩) hHeld ?r302
      case h302 => (intro w hSw; (try dsimp only at hSw); go_simp; try with_reducible rfl)
      try simp only [Act.put, List.setIfInBounds_toArray, List.set_cons_zero, List.set_cons_succ]
      refine wpAnyH_take (i := 2) (oi := oG2) (v := ?v303) rfl (by kernel_rfl) (by kernel_rfl) (by kernel_rfl) (fun _ _ _ h => h) (Or.inl ⟨by rfl, ?h303⟩) hHeld ?r303
      case h303 => (intro w hSw; (try dsimp only at hSw); go_simp; try with_reducible rfl)
      try simp only [Act.put, List.setIfInBounds_toArray, List.set_cons_zero, List.set_cons_succ]
      refine wpAnyH_take (i := 3) (oi := oG3) (v := ?v304) rfl (by kernel_rfl) (by kernel_rfl) (by kernel_rfl) (fun _ _ _ h => h) (Or.inl ⟨by rfl, ?h304⟩) hHeld ?r304
      case h304 => (intro w hSw; (try dsimp only at hSw); go_simp; try with_reducible rfl)
      try simp only [Act.put, List.setIfInBounds_toArray, List.set_cons_zero, List.set_cons_succ]
      refine wpAnyH_take (i := 4) (oi := oG4) (v := ?v305) rfl (by kernel_rfl) (by kernel_rfl) (by kernel_rfl) (fun _ _ _ h => h) (Or.inl ⟨by rfl, ?h305⟩) hHeld ?r305
      case h305 => (intro w hSw; (try dsimp only at hSw); go_simp; try with_reducible rfl)
      try simp only [Act.put, List.setIfInBounds_toArray, List.set_cons_zero, List.set_cons_succ]
      refine wpAnyH_take (i := 5) (oi := oG5) (v := ?v306) rfl (by kernel_rfl) (by kernel_rfl) (by kernel_rfl) (fun _ _ _ h => h) (Or.inl ⟨by rfl, ?h306⟩) hHeld ?r306
      case h306 => (intro w hSw; (try dsimp only at hSw); go_simp; try with_reducible rfl)
      try simp only [Act.put, List.setIfInBounds_toArray, List.set_cons_zero, List.set_cons_succ]
      refine wpAnyH_take (i := 6) (oi := oG6) (v := ?v307) rfl (by kernel_rfl) (by kernel_rfl) (by kernel_rfl) (fun _ _ _ h => h) (Or.inl ⟨by rfl, ?h307⟩) hHeld ?r307
      case h307 => (intro w hSw; (try dsimp only at hSw); go_simp; try with_reducible rfl)
      try simp only [Act.put, List.setIfInBounds_toArray, List.set_cons_zero, List.set_cons_succ]
      refine wpAnyH_take (i := 7) (oi := oG7) (v := ?v308) rfl (by kernel_rfl) (by kernel_rfl) (by kernel_rfl) (fun _ _ _ h => h) (Or.inl ⟨by rfl, ?h308⟩) hHeld ?r308
      case h308 => (intro w hSw; (try dsimp only at hSw); go_simp; try with_reducible rfl)
      try simp only [Act.put, List.setIfInBounds_toArray, List.set_cons_zero, List.set_cons_succ]
      refine wpAnyH_take (i := 8) (oi := oG8) (v := ?v309) rfl (by kernel_rfl) (by kernel_rfl) (by kernel_rfl) (fun _ _ _ h => h) (Or.inl ⟨by rfl, ?h309⟩) hHeld ?r309
      case h309 => (intro w hSw; (try dsimp only at hSw); go_simp; try with_reducible rfl)
      try simp only [Act.put, List.setIfInBounds_toArray, List.set_cons_zero, List.set_cons_succ]
      refine wpAnyH_take (i := 9) (oi := oG9) (v := ?v310) rfl (by kernel_rfl) (by kernel_rfl) (by kernel_rfl) (fun _ _ _ h => h) (Or.inl ⟨by rfl, ?h310⟩) hHeld ?r310
      case h310 => (intro w hSw; (try dsimp only at hSw); go_simp; try with_reducible rfl)
      try simp only [Act.put, List.setIfInBounds_toArray, List.set_cons_zero, List.set_cons_succ]
      refine wpAnyH_take (i := 10) (oi := oG10) (v := ?v311) rfl (by kernel_rfl) (by kernel_rfl) (by kernel_rfl) (fun _ _ _ h => h) (Or.inl ⟨by rfl, ?h311⟩) hHeld ?r311
      case h311 => (intro w hSw; (try dsimp only at hSw); go_simp; try with_reducible rfl)
      try simp only [Act.put, List.setIfInBounds_toArray, List.set_cons_zero, List.set_cons_succ]
      refine wpAnyH_take (i := 11) (oi := oG11) (v := ?v312) rfl (by kernel_rfl) (by kernel_rfl) (by kernel_rfl) (fun _ _ _ h => h) (Or.inl ⟨by rfl, ?h312⟩) hHeld ?r312
      case h312 => (intro w hSw; (try dsimp only at hSw); go_simp; try with_reducible rfl)
      try simp only [Act.put, List.setIfInBounds_toArray, List.set_cons_zero, List.set_cons_succ]
      refine wpAnyH_take (i := 12) (oi := oG12) (v := undef) rfl (by kernel_rfl) (by kernel_rfl) (by kernel_rfl) (fun _ _ _ h => h) (Or.inr ⟨by rfl, rfl⟩) hHeld ?_
      try simp only [Act.put, List.setIfInBounds_toArray, List.set_cons_zero, List.set_cons_succ]
      refine wpAnyH_take (i := 13) (oi := oG13) (v := undef) rfl (by kernel_rfl) (by kernel_rfl) (by kernel_rfl) (fun _ _ _ h => h) (Or.inr ⟨by rfl, rfl⟩) hHeld ?_
      try simp only [Act.put, List.setIfInBounds_toArray, List.set_cons_zero, List.set_cons_succ]
      refine wpAnyH_take (i := 14) (oi := oG14) (v := undef) rfl (by kernel_rfl) (by kernel_rfl) (by kernel_rfl) (fun _ _ _ h => h) (Or.inr ⟨by rfl, rfl⟩) hHeld ?_
      try simp only [Act.put, List.setIfInBounds_toArray, List.set_cons_zero, List.set_cons_succ]
      refine wpAnyH_take (i := 15) (oi := oG15) (v := undef) rfl (by kernel_rfl) (by kernel_rfl) (by kernel_rfl) (fun _ _ _ h => h) (Or.inr ⟨by rfl, rfl⟩) hHeld ?_
      try simp only [Act.put, List.setIfInBounds_toArray, List.set_cons_zero, List.set_cons_succ]
      refine wpAnyH_take (i := 16) (oi := oG16) (v := undef) rfl (by kernel_rfl) (by kernel_rfl) (by kernel_rfl) (fun _ _ _ h => h) (Or.inr ⟨by rfl, rfl⟩) hHeld ?_
      try simp only [Act.put, List.setIfInBounds_toArray, List.set_cons_zero, List.set_cons_succ]
      refine wpAnyH_take (i := 17) (oi := oG17) (v := undef) rfl (by kernel_rfl) (by kernel_rfl) (by kernel_rfl) (fun _ _ _ h => h) (Or.inr ⟨by rfl, rfl⟩) hHeld ?_
      try simp only [Act.put, List.setIfInBounds_toArray, List.set_cons_zero, List.set_cons_succ]
      refine wpAnyH_take (i := 18) (oi := oG18) (v := undef) rfl (by kernel_rfl) (by kernel_rfl) (by kernel_rfl) (fun _ _ _ h => h) (Or.inr ⟨by rfl, rfl⟩) hHeld ?_
      try simp only [Act.put, List.setIfInBounds_toArray, List.set_cons_zero, List.set_cons_succ]
      refine wpAnyH_take (i := 19) (oi := oG19) (v := undef) rfl (by kernel_rfl) (by kernel_rfl) (by kernel_rfl) (fun _ _ _ h => h) (Or.inr ⟨by rfl, rfl⟩) hHeld ?_
      try simp only [Act.put, List.setIfInBounds_toArray, List.set_cons_zero, List.set_cons_succ]
      refine wpAnyH_take (i := 20) (oi := oG20) (v := undef) rfl (by kernel_rfl) (by kernel_rfl) (by kernel_rfl) (fun _ _ _ h => h) (Or.inr ⟨by rfl, rfl⟩) hHeld ?_
      try simp only [Act.put, List.setIfInBounds_toArray, List.set_cons_zero, List.set_cons_succ]
      refine wpAnyH_take (i := 21) (oi := oG21) (v := undef) rfl (by kernel_rfl) (by kernel_rfl) (by kernel_rfl) (fun _ _ _ h => h) (Or.inr ⟨by rfl, rfl⟩) hHeld ?_
      try simp only [Act.put, List.setIfInBounds_toArray, List.set_cons_zero, List.set_cons_succ]
      refine wpAnyH_take (i := 22) (oi := oG22) (v := undef) rfl (by kernel_rfl) (by kernel_rfl) (by kernel_rfl) (fun _ _ _ h => h) (Or.inr ⟨by rfl, rfl⟩) hHeld ?_
      try simp only [Act.put, List.setIfInBounds_toArray, List.set_cons_zero, List.set_cons_succ]
      refine wpAnyH_take (i := 23) (oi := oG23) (v := undef) rfl (by kernel_rfl) (by kernel_rfl) (by kernel_rfl) (fun _ _ _ h => h) (Or.inr ⟨by rfl, rfl⟩) hHeld ?_
      try simp only [Act.put, List.setIfInBounds_toArray, List.set_cons_zero, List.set_cons_succ]
      refine wpAnyH_take (i := 24) (oi := oG24) (v := ?v313) rfl (by kernel_rfl) (by kernel_rfl) (by kernel_rfl) (fun _ _ _ h => h) (Or.inl ⟨by rfl, ?h313⟩) hHeld ?r313
      case h313 => (intro w hSw; (try dsimp only at hSw); go_simp; try with_reducible rfl)
      try simp only [Act.put, List.setIfInBounds_toArray, List.set_cons_zero, List.set_cons_succ]
      refine wpAnyH_ready (rs := [25]) (by kernel_rfl) (by simp) ?_
      refine (AllReadyH.cons (o := oG25) rfl (fun K hK => ?_) AllReadyH.nil)
      go_simp
      clear hHeld
      refine hK.out _ _ (hS0) (fun hHeld => ?_)
      clear hK K
      try simp only [Act.put, List.setIfInBounds_toArray, List.set_cons_zero, List.set_cons_succ]
      refine wpAnyH_done (by kernel_rfl) ?_ _
      (try refine NoPanic.normal ?_)
      clear q0 q1 q2 q3 q4 q5 q6 q7 q8 q9 q10 q11 q12 q13
      obtain ⟨z0, z1, z2, z3, z4, z5, z6, z7, z8, z9, z10, z11, z12, z13⟩ := hS0
      go_wp2_with fail
      go_ret
      exact ⟨by rw [HE.out]; rfl, HDW.out⟩
  obtain ⟨q1', hq1⟩ : ∃ q1 : Nat, rp = (q1 : Int) + 1 := ⟨(rp - 1).toNat, by omega⟩
  have hql : q1' < P.right.length := by omega
  obtain ⟨rfl, _⟩ := pha (by omega)
  have cy := phcell q1' hql
  subst hq1
  have HTM := (show Hid (tmB d P ((q1' : Int) + 1) ↔ P.right[q1'] < (d.terms.length : Int)) from by
    show _ ↔ _
    unfold tmB
    rw [show ((q1' : Int) + 1 - 1) = (q1' : Int) by omega, inN_eq hql]
    exact ⟨fun x => x.2.2, fun x => ⟨hp, hp2, x⟩⟩)
  have wq1 : IntKind.i64.wrap (q1' : Int) = (q1' : Int) := by rw [IntKind.wrap_i64]; omega
  generalize P.right[q1'] = sy at *
  have hS0 : (((w.alloc (.cells #[.slice x0 d.terms.length x1, .slice x2 d.nons.length x3, .int .i64 d.own, .slice x4 d.prods.length x5, .slice y0 g.attrs.length y1, .slice y2 g.eqs.length y3] 76)).alloc (.cells #[.int .i64 P.left, .slice (some ⟨pb, poff, none⟩) P.right.length pc, .string P.label, .int .i64 P.lev, .int .i64 P.asc] 67)).alloc (.cells #[.int .i64 ((q1' : Int) + 1), .int .i64 ra, .int .i64 rn] 64)).drew.cell? ⟨w.heap.size, 0, none⟩ = some (.slice x0 d.terms.length x1) ∧ (((w.alloc (.cells #[.slice x0 d.terms.length x1, .slice x2 d.nons.length x3, .int .i64 d.own, .slice x4 d.prods.length x5, .slice y0 g.attrs.length y1, .slice y2 g.eqs.length y3] 76)).alloc (.cells #[.int .i64 P.left, .slice (some ⟨pb, poff, none⟩) P.right.length pc, .string P.label, .int .i64 P.lev, .int .i64 P.asc] 67)).alloc (.cells #[.int .i64 ((q1' : Int) + 1), .int .i64 ra, .int .i64 rn] 64)).drew.cell? ⟨w.heap.size, 1, none⟩ = some (.slice x2 d.nons.length x3) ∧ (((w.alloc (.cells #[.slice x0 d.terms.length x1, .slice x2 d.nons.length x3, .int .i64 d.own, .slice x4 d.prods.length x5, .slice y0 g.attrs.length y1, .slice y2 g.eqs.length y3] 76)).alloc (.cells #[.int .i64 P.left, .slice (some ⟨pb, poff, none⟩) P.right.length pc, .string P.label, .int .i64 P.lev, .int .i64 P.asc] 67)).alloc (.cells #[.int .i64 ((q1' : Int) + 1), .int .i64 ra, .int .i64 rn] 64)).drew.cell? ⟨w.heap.size, 2, none⟩ = some (.int .i64 d.own) ∧ (((w.alloc (.cells #[.slice x0 d.terms.length x1, .slice x2 d.nons.length x3, .int .i64 d.own, .slice x4 d.prods.length x5, .slice y0 g.attrs.length y1, .slice y2 g.eqs.length y3] 76)).alloc (.cells #[.int .i64 P.left, .slice (some ⟨pb, poff, none⟩) P.right.length pc, .string P.label, .int .i64 P.lev, .int .i64 P.asc] 67)).alloc (.cells #[.int .i64 ((q1' : Int) + 1), .int .i64 ra, .int .i64 rn] 64)).drew.cell? ⟨w.heap.size, 3, none⟩ = some (.slice x4 d.prods.length x5) ∧ (((w.alloc (.cells #[.slice x0 d.terms.length x1, .slice x2 d.nons.length x3, .int .i64 d.own, .slice x4 d.prods.length x5, .slice y0 g.attrs.length y1, .slice y2 g.eqs.length y3] 76)).alloc (.cells #[.int .i64 P.left, .slice (some ⟨pb, poff, none⟩) P.right.length pc, .string P.label, .int .i64 P.lev, .int .i64 P.asc] 67)).alloc (.cells #[.int .i64 ((q1' : Int) + 1), .int .i64 ra, .int .i64 rn] 64)).drew.cell? ⟨w.heap.size, 4, none⟩ = some (.slice y0 g.attrs.length y1) ∧ (((w.alloc (.cells #[.slice x0 d.terms.length x1, .slice x2 d.nons.length x3, .int .i64 d.own, .slice x4 d.prods.length x5, .slice y0 g.attrs.length y1, .slice y2 g.eqs.length y3] 76)).alloc (.cells #[.int .i64 P.left, .slice (some ⟨pb, poff, none⟩) P.right.length pc, .string P.label, .int .i64 P.lev, .int .i64 P.asc] 67)).alloc (.cells #[.int .i64 ((q1' : Int) + 1), .int .i64 ra, .int .i64 rn] 64)).drew.cell? ⟨w.heap.size, 5, none⟩ = some (.slice y2 g.eqs.length y3) ∧ (((w.alloc (.cells #[.slice x0 d.terms.length x1, .slice x2 d.nons.length x3, .int .i64 d.own, .slice x4 d.prods.length x5, .slice y0 g.attrs.length y1, .slice y2 g.eqs.length y3] 76)).alloc (.cells #[.int .i64 P.left, .slice (some ⟨pb, poff, none⟩) P.right.length pc, .string P.label, .int .i64 P.lev, .int .i64 P.asc] 67)).alloc (.cells #[.int .i64 ((q1' : Int) + 1), .int .i64 ra, .int .i64 rn] 64)).drew.cell? ⟨w.heap.size + 1, 0, none⟩ = some (.int .i64 P.left) ∧ (((w.alloc (.cells #[.slice x0 d.terms.length x1, .slice x2 d.nons.length x3, .int .i64 d.own, .slice x4 d.prods.length x5, .slice y0 g.attrs.length y1, .slice y2 g.eqs.length y3] 76)).alloc (.cells #[.int .i64 P.left, .slice (some ⟨pb, poff, none⟩) P.right.length pc, .string P.label, .int .i64 P.lev, .int .i64 P.asc] 67)).alloc (.cells #[.int .i64 ((q1' : Int) + 1), .int .i64 ra, .int .i64 rn] 64)).drew.cell? ⟨w.heap.size + 1, 1, none⟩ = some (.slice (some ⟨pb, poff, none⟩) P.right.length pc) ∧ (((w.alloc (.cells #[.slice x0 d.terms.length x1, .slice x2 d.nons.length x3, .int .i64 d.own, .slice x4 d.prods.length x5, .slice y0 g.attrs.length y1, .slice y2 g.eqs.length y3] 76)).alloc (.cells #[.int .i64 P.left, .slice (some ⟨pb, poff, none⟩) P.right.length pc, .string P.label, .int .i64 P.lev, .int .i64 P.asc] 67)).alloc (.cells #[.int .i64 ((q1' : Int) + 1), .int .i64 ra, .int .i64 rn] 64)).drew.cell? ⟨w.heap.size + 1, 2, none⟩ = some (.string P.label) ∧ (((w.alloc (.cells #[.slice x0 d.terms.length x1, .slice x2 d.nons.length x3, .int .i64 d.own, .slice x4 d.prods.length x5, .slice y0 g.attrs.length y1, .slice y2 g.eqs.length y3] 76)).alloc (.cells #[.int .i64 P.left, .slice (some ⟨pb, poff, none⟩) P.right.length pc, .string P.label, .int .i64 P.lev, .int .i64 P.asc] 67)).alloc (.cells #[.int .i64 ((q1' : Int) + 1), .int .i64 ra, .int .i64 rn] 64)).drew.cell? ⟨w.heap.size + 1, 3, none⟩ = some (.int .i64 P.lev) ∧ (((w.alloc (.cells #[.slice x0 d.terms.length x1, .slice x2 d.nons.length x3, .int .i64 d.own, .slice x4 d.prods.length x5, .slice y0 g.attrs.length y1, .slice y2 g.eqs.length y3] 76)).alloc (.cells #[.int .i64 P.left, .slice (some ⟨pb, poff, none⟩) P.right.length pc, .string P.label, .int .i64 P.lev, .int .i64 P.asc] 67)).alloc (.cells #[.int .i64 ((q1' : Int) + 1), .int .i64 ra, .int .i64 rn] 64)).drew.cell? ⟨w.heap.size + 1, 4, none⟩ = some (.int .i64 P.asc) ∧ (((w.alloc (.cells #[.slice x0 d.terms.length x1, .slice x2 d.nons.length x3, .int .i64 d.own, .slice x4 d.prods.length x5, .slice y0 g.attrs.length y1, .slice y2 g.eqs.length y3] 76)).alloc (.cells #[.int .i64 P.left, .slice (some ⟨pb, poff, none⟩) P.right.length pc, .string P.label, .int .i64 P.lev, .int .i64 P.asc] 67)).alloc (.cells #[.int .i64 ((q1' : Int) + 1), .int .i64 ra, .int .i64 rn] 64)).drew.cell? ⟨w.heap.size + 1 + 1, 0, none⟩ = some (.int .i64 ((q1' : Int) + 1)) ∧ (((w.alloc (.cells #[.slice x0 d.terms.length x1, .slice x2 d.nons.length x3, .int .i64 d.own, .slice x4 d.prods.length x5, .slice y0 g.attrs.length y1, .slice y2 g.eqs.length y3] 76)).alloc (.cells #[.int .i64 P.left, .slice (some ⟨pb, poff, none⟩) P.right.length pc, .string P.label, .int .i64 P.lev, .int .i64 P.asc] 67)).alloc (.cells #[.int .i64 ((q1' : Int) + 1), .int .i64 ra, .int .i64 rn] 64)).drew.cell? ⟨w.heap.size + 1 + 1, 1, none⟩ = some (.int .i64 ra) ∧ (((w.alloc (.cells #[.slice x0 d.terms.length x1, .slice x2 d.nons.length x3, .int .i64 d.own, .slice x4 d.prods.length x5, .slice y0 g.attrs.length y1, .slice y2 g.eqs.length y3] 76)).alloc (.cells #[.int .i64 P.left, .slice (some ⟨pb, poff, none⟩) P.right.length pc, .string P.label, .int .i64 P.lev, .int .i64 P.asc] 67)).alloc (.cells #[.int .i64 ((q1' : Int) + 1), .int .i64 ra, .int .i64 rn] 64)).drew.cell? ⟨w.heap.size + 1 + 1, 2, none⟩ = some (.int .i64 rn) ∧ (((w.alloc (.cells #[.slice x0 d.terms.length x1, .slice x2 d.nons.length x3, .int .i64 d.own, .slice x4 d.prods.length x5, .slice y0 g.attrs.length y1, .slice y2 g.eqs.length y3] 76)).alloc (.cells #[.int .i64 P.left, .slice (some ⟨pb, poff, none⟩) P.right.length pc, .string P.label, .int .i64 P.lev, .int .i64 P.asc] 67)).alloc (.cells #[.int .i64 ((q1' : Int) + 1), .int .i64 ra, .int .i64 rn] 64)).drew.cell? ⟨pb, poff + q1', none⟩ = some (.int .i64 sy) := by
    obtain ⟨a0, a1, a2, a3, a4, a5, b0, b1, b2, b3, b4, c0, c1, c2⟩ := HQ.out _ hd0
    exact ⟨a0, a1, a2, a3, a4, a5, b0, b1, b2, b3, b4, c0, c1, c2, (HDW.out.cell (lt_of_cell cy)).trans cy⟩
  have j1 : (0 : Int) ≤ (q1' : Int) := by omega
  have j2 : (q1' : Int) < (P.right.length : Int) := by omega
  have kd : decide (0 < (q1' : Int) + 1) = true := decide_eq_true hp
  have ke : decide ((q1' : Int) + 1 ≤ (P.right.length : Int)) = true := decide_eq_true hp2
  clear pha phcell hd0
  by_cases ht : sy < (d.terms.length : Int)
  · have HE := (show Hid _ from ar_term (d := d) (g := g) (P := P) (ra := ra) (rn := rn) h1 (HTM.out.2 ht))
    have kt : decide (sy < (d.terms.length : Int)) = true := decide_eq_true ht
    clear h1 HTM
    by_cases k8 : ra = 0
    · by_cases k9 : rn = 0
      · rw [decide_eq_true k8, decide_eq_true k9] at HE
        have km : (ra == 0) = true := by simp [k8]
        have kn : (rn == 0) = true := by simp [k9]
        clear k8 k9
        go_enter Try.func64, Try.ntmps64
        go_wp2_with fail
        refine wp_region_held_drew (S := fun wq => wq.cell? ⟨w.heap.size, 0, none⟩ = some (.slice x0 d.terms.length x1) ∧ wq.cell? ⟨w.heap.size, 1, none⟩ = some (.slice x2 d.nons.length x3) ∧ wq.cell? ⟨w.heap.size, 2, none⟩ = some (.int .i64 d.own) ∧ wq.cell? ⟨w.heap.size, 3, none⟩ = some (.slice x4 d.prods.length x5) ∧ wq.cell? ⟨w.heap.size, 4, none⟩ = some (.slice y0 g.attrs.length y1) ∧ wq.cell? ⟨w.heap.size, 5, none⟩ = some (.slice y2 g.eqs.length y3) ∧ wq.cell? ⟨w.heap.size + 1, 0, none⟩ = some (.int .i64 P.left) ∧ wq.cell? ⟨w.heap.size + 1, 1, none⟩ = some (.slice (some ⟨pb, poff, none⟩) P.right.length pc) ∧ wq.cell? ⟨w.heap.size + 1, 2, none⟩ = some (.string P.label) ∧ wq.cell? ⟨w.heap.size + 1, 3, none⟩ = some (.int .i64 P.lev) ∧ wq.cell? ⟨w.heap.size + 1, 4, none⟩ = some (.int .i64 P.asc) ∧ wq.cell? ⟨w.heap.size + 1 + 1, 0, none⟩ = some (.int .i64 ((q1' : Int) + 1)) ∧ wq.cell? ⟨w.heap.size + 1 + 1, 1, none⟩ = some (.int .i64 ra) ∧ wq.cell? ⟨w.heap.size + 1 + 1, 2, none⟩ = some (.int .i64 rn) ∧ wq.cell? ⟨pb, poff + q1', none⟩ = some (.int .i64 sy)) (by kernel_rfl) hS0 (fun hHeld => ?_)
        refine wpAnyH_take (i := 0) (oi := oG0) (v := ?v401) rfl (by kernel_rfl) (by kernel_rfl) (by kernel_rfl) (fun _ _ _ h => h) (Or.inl ⟨by rfl, ?h401⟩) hHeld ?r401
        case h401 => (intro w hSw; (try dsimp only at hSw); go_simp; try with_reducible rfl)
        try simp only [Act.put, List.setIfInBounds_toArray, List.set_cons_zero, List.set_cons_succ]
        refine wpAnyH_take (i := 1) (oi := oG1) (v := ?v402) rfl (by kernel_rfl) (by kernel_rfl) (by kernel_rfl) (fun _ _ _ h => h) (Or.inl ⟨by rfl, ?h402⟩) hHeld ?r402
        case h402 => (intro w hSw; (try dsimp only at hSw); go_simp; try with_reducible rfl)
        try simp only [Act.put, List.setIfInBounds_toArray, List.set_cons_zero, List.set_cons_succ]
        refine wpAnyH_take (i := 2) (oi := oG2) (v := ?v403) rfl (by kernel_rfl) (by kernel_rfl) (by kernel_rfl) (fun _ _ _ h => h) (Or.inl ⟨by rfl, ?h403⟩) hHeld ?r403
        case h403 => (intro w hSw; (try dsimp only at hSw); go_simp; try with_reducible rfl)
        try simp only [Act.put, List.setIfInBounds_toArray, List.set_cons_zero, List.set_cons_succ]
        refine wpAnyH_take (i := 3) (oi := oG3) (v := ?v404) rfl (by kernel_rfl) (by kernel_rfl) (by kernel_rfl) (fun _ _ _ h => h) (Or.inl ⟨by rfl, ?h404⟩) hHeld ?r404
        case h404 => (intro w hSw; (try dsimp only at hSw); go_simp; try with_reducible rfl)
        try simp only [Act.put, List.setIfInBounds_toArray, List.set_cons_zero, List.set_cons_succ]
        refine wpAnyH_take (i := 4) (oi := oG4) (v := ?v405) rfl (by kernel_rfl) (by kernel_rfl) (by kernel_rfl) (fun _ _ _ h => h) (Or.inl ⟨by rfl, ?h405⟩) hHeld ?r405
        case h405 => (intro w hSw; (try dsimp only at hSw); go_simp; try with_reducible rfl)
        try simp only [Act.put, List.setIfInBounds_toArray, List.set_cons_zero, List.set_cons_succ]
        refine wpAnyH_take (i := 5) (oi := oG5) (v := ?v406) rfl (by kernel_rfl) (by kernel_rfl) (by kernel_rfl) (fun _ _ _ h => h) (Or.inl ⟨by rfl, ?h406⟩) hHeld ?r406
        case h406 => (intro w hSw; (try dsimp only at hSw); go_simp; try with_reducible rfl)
        try simp only [Act.put, List.setIfInBounds_toArray, List.set_cons_zero, List.set_cons_succ]
        refine wpAnyH_take (i := 6) (oi := oG6) (v := ?v407) rfl (by kernel_rfl) (by kernel_rfl) (by kernel_rfl) (fun _ _ _ h => h) (Or.inl ⟨by rfl, ?h407⟩) hHeld ?r407
        case h407 => (intro w hSw; (try dsimp only at hSw); go_simp; try with_reducible rfl)
        try simp only [Act.put, List.setIfInBounds_toArray, List.set_cons_zero, List.set_cons_succ]
        refine wpAnyH_take (i := 7) (oi := oG7) (v := ?v408) rfl (by kernel_rfl) (by kernel_rfl) (by kernel_rfl) (fun _ _ _ h => h) (Or.inl ⟨by rfl, ?h408⟩) hHeld ?r408
        case h408 => (intro w hSw; (try dsimp only at hSw); go_simp; try with_reducible rfl)
        try simp only [Act.put, List.setIfInBounds_toArray, List.set_cons_zero, List.set_cons_succ]
        refine wpAnyH_take (i := 8) (oi := oG8) (v := ?v409) rfl (by kernel_rfl) (by kernel_rfl) (by kernel_rfl) (fun _ _ _ h => h) (Or.inl ⟨by rfl, ?h409⟩) hHeld ?r409
        case h409 => (intro w hSw; (try dsimp only at hSw); go_simp; try with_reducible rfl)
        try simp only [Act.put, List.setIfInBounds_toArray, List.set_cons_zero, List.set_cons_succ]
        refine wpAnyH_take (i := 9) (oi := oG9) (v := ?v410) rfl (by kernel_rfl) (by kernel_rfl) (by kernel_rfl) (fun _ _ _ h => h) (Or.inl ⟨by rfl, ?h410⟩) hHeld ?r410
        case h410 => (intro w hSw; (try dsimp only at hSw); go_simp; try with_reducible rfl)
        try simp only [Act.put, List.setIfInBounds_toArray, List.set_cons_zero, List.set_cons_succ]
        refine wpAnyH_take (i := 10) (oi := oG10) (v := ?v411) rfl (by kernel_rfl) (by kernel_rfl) (by kernel_rfl) (fun _ _ _ h => h) (Or.inl ⟨by rfl, ?h411⟩) hHeld ?r411
        case h411 => (intro w hSw; (try dsimp only at hSw); go_simp; try with_reducible rfl)
        try simp only [Act.put, List.setIfInBounds_toArray, List.set_cons_zero, List.set_cons_succ]
        refine wpAnyH_take (i := 11) (oi := oG11) (v := ?v412) rfl (by kernel_rfl) (by kernel_rfl) (by kernel_rfl) (fun _ _ _ h => h) (Or.inl ⟨by rfl, ?h412⟩) hHeld ?r412
        case h412 => (intro w hSw; (try dsimp only at hSw); go_simp; try with_reducible rfl)
        try simp only [Act.put, List.setIfInBounds_toArray, List.set_cons_zero, List.set_cons_succ]
        refine wpAnyH_take (i := 12) (oi := oG12) (v := ?v413) rfl (by kernel_rfl) (by kernel_rfl) (by kernel_rfl) (fun _ _ _ h => h) (Or.inl ⟨by rfl, ?h413⟩) hHeld ?r413
        case h413 => (intro w hSw; (try dsimp only at hSw); go_simp; try with_reducible rfl)
        try simp only [Act.put, List.setIfInBounds_toArray, List.set_cons_zero, List.set_cons_succ]
        refine wpAnyH_take (i := 13) (oi := oG13) (v := ?v414) rfl (by kernel_rfl) (by kernel_rfl) (by kernel_rfl) (fun _ _ _ h => h) (Or.inl ⟨by rfl, ?h414⟩) hHeld ?r414
        case h414 => (intro w hSw; (try dsimp only at hSw); go_simp; try with_reducible rfl)
        try simp only [Act.put, List.setIfInBounds_toArray, List.set_cons_zero, List.set_cons_succ]
        refine wpAnyH_take (i := 14) (oi := oG14) (v := ?v415) rfl (by kernel_rfl) (by kernel_rfl) (by kernel_rfl) (fun _ _ _ h => h) (Or.inl ⟨by rfl, ?h415⟩) hHeld ?r415
        case h415 => (intro w hSw; (try dsimp only at hSw); go_simp; try with_reducible rfl)
        try simp only [Act.put, List.setIfInBounds_toArray, List.set_cons_zero, List.set_cons_succ]
        refine wpAnyH_take (i := 15) (oi := oG15) (v := ?v416) rfl (by kernel_rfl) (by kernel_rfl) (by kernel_rfl) (fun _ _ _ h => h) (Or.inl ⟨by rfl, ?h416⟩) hHeld ?r416
        case h416 => (intro w hSw; (try dsimp only at hSw); go_simp; try with_reducible rfl)
        try simp only [Act.put, List.setIfInBounds_toArray, List.set_cons_zero, List.set_cons_succ]
        refine wpAnyH_take (i := 16) (oi := oG16) (v := ?v417) rfl (by kernel_rfl) (by kernel_rfl) (by kernel_rfl) (fun _ _ _ h => h) (Or.inl ⟨by rfl, ?h417⟩) hHeld ?r417
        case h417 => (intro w hSw; (try dsimp only at hSw); go_simp; try with_reducible rfl)
        try simp only [Act.put, List.setIfInBounds_toArray, List.set_cons_zero, List.set_cons_succ]
        refine wpAnyH_take (i := 17) (oi := oG17) (v := ?v418) rfl (by kernel_rfl) (by kernel_rfl) (by kernel_rfl) (fun _ _ _ h => h) (Or.inl ⟨by rfl, ?h418⟩) hHeld ?r418
        case h418 => (intro w hSw; (try dsimp only at hSw); go_simp; try with_reducible rfl)
        try simp only [Act.put, List.setIfInBounds_toArray, List.set_cons_zero, List.set_cons_succ]
        refine wpAnyH_take (i := 18) (oi := oG18) (v := ?v419) rfl (by kernel_rfl) (by kernel_rfl) (by kernel_rfl) (fun _ _ _ h => h) (Or.inl ⟨by rfl, ?h419⟩) hHeld ?r419
        case h419 => (intro w hSw; (try dsimp only at hSw); go_simp; try with_reducible rfl)
        try simp only [Act.put, List.setIfInBounds_toArray, List.set_cons_zero, List.set_cons_succ]
        refine wpAnyH_take (i := 19) (oi := oG19) (v := ?v420) rfl (by kernel_rfl) (by kernel_rfl) (by kernel_rfl) (fun _ _ _ h => h) (Or.inl ⟨by rfl, ?h420⟩) hHeld ?r420
        case h420 => (intro w hSw; (try dsimp only at hSw); go_simp; try with_reducible rfl)
        try simp only [Act.put, List.setIfInBounds_toArray, List.set_cons_zero, List.set_cons_succ]
        refine wpAnyH_take (i := 20) (oi := oG20) (v := ?v421) rfl (by kernel_rfl) (by kernel_rfl) (by kernel_rfl) (fun _ _ _ h => h) (Or.inl ⟨by rfl, ?h421⟩) hHeld ?r421
        case h421 => (intro w hSw; (try dsimp only at hSw); go_simp; try with_reducible rfl)
        try simp only [Act.put, List.setIfInBounds_toArray, List.set_cons_zero, List.set_cons_succ]
        refine wpAnyH_take (i := 21) (oi := oG21) (v := ?v422) rfl (by kernel_rfl) (by kernel_rfl) (by kernel_rfl) (fun _ _ _ h => h) (Or.inl ⟨by rfl, ?h422⟩) hHeld ?r422
        case h422 => (intro w hSw; (try dsimp only at hSw); go_simp; try with_reducible rfl)
        try simp only [Act.put, List.setIfInBounds_toArray, List.set_cons_zero, List.set_cons_succ]
        refine wpAnyH_take (i := 22) (oi := oG22) (v := ?v423) rfl (by kernel_rfl) (by kernel_rfl) (by kernel_rfl) (fun _ _ _ h => h) (Or.inl ⟨by rfl, ?h423⟩) hHeld ?r423
        case h423 => (intro w hSw; (try dsimp only at hSw); go_simp; try with_reducible rfl)
        try simp only [Act.put, List.setIfInBounds_toArray, List.set_cons_zero, List.set_cons_succ]
        refine wpAnyH_take (i := 23) (oi := oG23) (v := ?v424) rfl (by kernel_rfl) (by kernel_rfl) (by kernel_rfl) (fun _ _ _ h => h) (Or.inl ⟨by rfl, ?h424⟩) hHeld ?r424
        case h424 => (intro w hSw; (try dsimp only at hSw); go_simp; try with_reducible rfl)
        try simp only [Act.put, List.setIfInBounds_toArray, List.set_cons_zero, List.set_cons_succ]
        refine wpAnyH_take (i := 24) (oi := oG24) (v := ?v425) rfl (by kernel_rfl) (by kernel_rfl) (by kernel_rfl) (fun _ _ _ h => h) (Or.inl ⟨by rfl, ?h425⟩) hHeld ?r425
        case h425 => (intro w hSw; (try dsimp only at hSw); go_simp; try with_reducible rfl)
        try simp only [Act.put, List.setIfInBounds_toArray, List.set_cons_zero, List.set_cons_succ]
        refine wpAnyH_ready (rs := [25]) (by kernel_rfl) (by simp) ?_
        refine (AllReadyH.cons (o := oG25) rfl (fun K hK => ?_) AllReadyH.nil)
        go_simp
        clear hHeld
        refine hK.out _ _ (hS0) (fun hHeld => ?_)
        clear hK K
        try simp only [Act.put, List.setIfInBounds_toArray, List.set_cons_zero, List.set_cons_succ]
        refine wpAnyH_done (by kernel_rfl) ?_ _
        (try refine NoPanic.normal ?_)
        clear q0 q1 q2 q3 q4 q5 q6 q7 q8 q9 q10 q11 q12 q13
        obtain ⟨z0, z1, z2, z3, z4, z5, z6, z7, z8, z9, z10, z11, z12, z13, z14⟩ := hS0
        go_wp2_with fail
        go_ret
        exact ⟨by rw [HE.out]; rfl, HDW.out⟩
      · rw [decide_eq_true k8, decide_eq_false k9] at HE
        have km : (ra == 0) = true := by simp [k8]
        have kn : (rn == 0) = false := by simpa using k9
        clear k8 k9
        go_enter Try.func64, Try.ntmps64
        go_wp2_with fail
        refine wp_region_held_drew (S := fun wq => wq.cell? ⟨w.heap.size, 0, none⟩ = some (.slice x0 d.terms.length x1) ∧ wq.cell? ⟨w.heap.size, 1, none⟩ = some (.slice x2 d.nons.length x3) ∧ wq.cell? ⟨w.heap.size, 2, none⟩ = some (.int .i64 d.own) ∧ wq.cell? ⟨w.heap.size, 3, none⟩ = some (.slice x4 d.prods.length x5) ∧ wq.cell? ⟨w.heap.size, 4, none⟩ = some (.slice y0 g.attrs.length y1) ∧ wq.cell? ⟨w.heap.size, 5, none⟩ = some (.slice y2 g.eqs.length y3) ∧ wq.cell? ⟨w.heap.size + 1, 0, none⟩ = some (.int .i64 P.left) ∧ wq.cell? ⟨w.heap.size + 1, 1, none⟩ = some (.slice (some ⟨pb, poff, none⟩) P.right.length pc) ∧ wq.cell? ⟨w.heap.size + 1, 2, none⟩ = some (.string P.label) ∧ wq.cell? ⟨w.heap.size + 1, 3, none⟩ = some (.int .i64 P.lev) ∧ wq.cell? ⟨w.heap.size + 1, 4, none⟩ = some (.int .i64 P.asc) ∧ wq.cell? ⟨w.heap.size + 1 + 1, 0, none⟩ = some (.int .i64 ((q1' : Int) + 1)) ∧ wq.cell? ⟨w.heap.size + 1 + 1, 1, none⟩ = some (.int .i64 ra) ∧ wq.cell? ⟨w.heap.size + 1 + 1, 2, none⟩ = some (.int .i64 rn) ∧ wq.cell? ⟨pb, poff + q1', none⟩ = some (.int .i64 sy)) (by kernel_rfl) hS0 (fun hHeld => ?_)
        refine wpAnyH_take (i := 0) (oi := oG0) (v := ?v501) rfl (by kernel_rfl) (by kernel_rfl) (by kernel_rfl) (fun _ _ _ h => h) (Or.inl ⟨by rfl, ?h501⟩) hHeld ?r501
        case h501 => (intro w hSw; (try dsimp only at hSw); go_simp; try with_reducible rfl)
        try simp only [Act.put, List.setIfInBounds_toArray, List.set_cons_zero, List.set_cons_succ]
        refine wpAnyH_take (i := 1) (oi := oG1) (v := ?v502) rfl (by kernel_rfl) (by kernel_rfl) (by kernel_rfl) (fun _ _ _ h => h) (Or.inl ⟨by rfl, ?h502⟩) hHeld ?r502
        case h502 => (intro w hSw; (try dsimp only at hSw); go_simp; try with_reducible rfl)
        try simp only [Act.put, List.setIfInBounds_toArray, List.set_cons_zero, List.set_cons_succ]
        refine wpAnyH_take (i := 2) (oi := oG2) (v := ?v503) rfl (by kernel_rfl) (by kernel_rfl) (by kernel_rfl) (fun _ _ _ h => h) (Or.inl ⟨by rfl, ?h503⟩) hHeld ?r503
        case h503 => (intro w hSw; (try dsimp only at hSw); go_simp; try with_reducible rfl)
        try simp only [Act.put, List.setIfInBounds_toArray, List.set_cons_zero, List.set_cons_succ]
        refine wpAnyH_take (i := 3) (oi := oG3) (v := ?v504) rfl (by kernel_rfl) (by kernel_rfl) (by kernel_rfl) (fun _ _ _ h => h) (Or.inl ⟨by rfl, ?h504⟩) hHeld ?r504
        case h504 => (intro w hSw; (try dsimp only at hSw); go_simp; try with_reducible rfl)
        try simp only [Act.put, List.setIfInBounds_toArray, List.set_cons_zero, List.set_cons_succ]
        refine wpAnyH_take (i := 4) (oi := oG4) (v := ?v505) rfl (by kernel_rfl) (by kernel_rfl) (by kernel_rfl) (fun _ _ _ h => h) (Or.inl ⟨by rfl, ?h505⟩) hHeld ?r505
        case h505 => (intro w hSw; (try dsimp only at hSw); go_simp; try with_reducible rfl)
        try simp only [Act.put, List.setIfInBounds_toArray, List.set_cons_zero, List.set_cons_succ]
        refine wpAnyH_take (i := 5) (oi := oG5) (v := ?v506) rfl (by kernel_rfl) (by kernel_rfl) (by kernel_rfl) (fun _ _ _ h => h) (Or.inl ⟨by rfl, ?h506⟩) hHeld ?r506
        case h506 => (intro w hSw; (try dsimp only at hSw); go_simp; try with_reducible rfl)
        try simp only [Act.put, List.setIfInBounds_toArray, List.set_cons_zero, List.set_cons_succ]
        refine wpAnyH_take (i := 6) (oi := oG6) (v := ?v507) rfl (by kernel_rfl) (by kernel_rfl) (by kernel_rfl) (fun _ _ _ h => h) (Or.inl ⟨by rfl, ?h507⟩) hHeld ?r507
        case h507 => (intro w hSw; (try dsimp only at hSw); go_simp; try with_reducible rfl)
        try simp only [Act.put, List.setIfInBounds_toArray, List.set_cons_zero, List.set_cons_succ]
        refine wpAnyH_take (i := 7) (oi := oG7) (v := ?v508) rfl (by kernel_rfl) (by kernel_rfl) (by kernel_rfl) (fun _ _ _ h => h) (Or.inl ⟨by rfl, ?h508⟩) hHeld ?r508
        case h508 => (intro w hSw; (try dsimp only at hSw); go_simp; try with_reducible rfl)
        try simp only [Act.put, List.setIfInBounds_toArray, List.set_cons_zero, List.set_cons_succ]
        refine wpAnyH_take (i := 8) (oi := oG8) (v := ?v509) rfl (by kernel_rfl) (by kernel_rfl) (by kernel_rfl) (fun _ _ _ h => h) (Or.inl ⟨by rfl, ?h509⟩) hHeld ?r509
        case h509 => (intro w hSw; (try dsimp only at hSw); go_simp; try with_reducible rfl)
        try simp only [Act.put, List.setIfInBounds_toArray, List.set_cons_zero, List.set_cons_succ]
        refine wpAnyH_take (i := 9) (oi := oG9) (v := ?v510) rfl (by kernel_rfl) (by kernel_rfl) (by kernel_rfl) (fun _ _ _ h => h) (Or.inl ⟨by rfl, ?h510⟩) hHeld ?r510
        case h510 => (intro w hSw; (try dsimp only at hSw); go_simp; try with_reducible rfl)
        try simp only [Act.put, List.setIfInBounds_toArray, List.set_cons_zero, List.set_cons_succ]
        refine wpAnyH_take (i := 10) (oi := oG10) (v := ?v511) rfl (by kernel_rfl) (by kernel_rfl) (by kernel_rfl) (fun _ _ _ h => h) (Or.inl ⟨by rfl, ?h511⟩) hHeld ?r511
        case h511 => (intro w hSw; (try dsimp only at hSw); go_simp; try with_reducible rfl)
        try simp only [Act.put, List.setIfInBounds_toArray, List.set_cons_zero, List.set_cons_succ]
        refine wpAnyH_take (i := 11) (oi := oG11) (v := ?v512) rfl (by kernel_rfl) (by kernel_rfl) (by kernel_rfl) (fun _ _ _ h => h) (Or.inl ⟨by rfl, ?h512⟩) hHeld ?r512
        case h512 => (intro w hSw; (try dsimp only at hSw); go_simp; try with_reducible rfl)
        try simp only [Act.put, List.setIfInBounds_toArray, List.set_cons_zero, List.set_cons_succ]
        refine wpAnyH_take (i := 12) (oi := oG12) (v := ?v513) rfl (by kernel_rfl) (by kernel_rfl) (by kernel_rfl) (fun _ _ _ h => h) (Or.inl ⟨by rfl, ?h513⟩) hHeld ?r513
        case h513 => (intro w hSw; (try dsimp only at hSw); go_simp; try with_reducible rfl)
        try simp only [Act.put, List.setIfInBounds_toArray, List.set_cons_zero, List.set_cons_succ]
        refine wpAnyH_take (i := 13) (oi := oG13) (v := ?v514) rfl (by kernel_rfl) (by kernel_rfl) (by kernel_rfl) (fun _ _ _ h => h) (Or.inl ⟨by rfl, ?h514⟩) hHeld ?r514
        case h514 => (intro w hSw; (try dsimp only at hSw); go_simp; try with_reducible rfl)
        try simp only [Act.put, List.setIfInBounds_toArray, List.set_cons_zero, List.set_cons_succ]
        refine wpAnyH_take (i := 14) (oi := oG14) (v := ?v515) rfl (by kernel_rfl) (by kernel_rfl) (by kernel_rfl) (fun _ _ _ h => h) (Or.inl ⟨by rfl, ?h515⟩) hHeld ?r515
        case h515 => (intro w hSw; (try dsimp only at hSw); go_simp; try with_reducible rfl)
        try simp only [Act.put, List.setIfInBounds_toArray, List.set_cons_zero, List.set_cons_succ]
        refine wpAnyH_take (i := 15) (oi := oG15) (v := ?v516) rfl (by kernel_rfl) (by kernel_rfl) (by kernel_rfl) (fun _ _ _ h => h) (Or.inl ⟨by rfl, ?h516⟩) hHeld ?r516
        case h516 => (intro w hSw; (try dsimp only at hSw); go_simp; try with_reducible rfl)
        try simp only [Act.put, List.setIfInBounds_toArray, List.set_cons_zero, List.set_cons_succ]
        refine wpAnyH_take (i := 16) (oi := oG16) (v := ?v517) rfl (by kernel_rfl) (by kernel_rfl) (by kernel_rfl) (fun _ _ _ h => h) (Or.inl ⟨by rfl, ?h517⟩) hHeld ?r517
        case h517 => (intro w hSw; (try dsimp only at hSw); go_simp; try with_reducible rfl)
        try simp only [Act.put, List.setIfInBounds_toArray, List.set_cons_zero, List.set_cons_succ]
        refine wpAnyH_take (i := 17) (oi := oG17) (v := ?v518) rfl (by kernel_rfl) (by kernel_rfl) (by kernel_rfl) (fun _ _ _ h => h) (Or.inl ⟨by rfl, ?h518⟩) hHeld ?r518
        case h518 => (intro w hSw; (try dsimp only at hSw); go_simp; try with_reducible rfl)
        try simp only [Act.put, List.setIfInBounds_toArray, List.set_cons_zero, List.set_cons_succ]
        refine wpAnyH_take (i := 18) (oi := oG18) (v := ?v519) rfl (by kernel_rfl) (by kernel_rfl) (by kernel_rfl) (fun _ _ _ h => h) (Or.inl ⟨by rfl, ?h519⟩) hHeld ?r519
        case h519 => (intro w hSw; (try dsimp only at hSw); go_simp; try with_reducible rfl)
        try simp only [Act.put, List.setIfInBounds_toArray, List.set_cons_zero, List.set_cons_succ]
        refine wpAnyH_take (i := 19) (oi := oG19) (v := ?v520) rfl (by kernel_rfl) (by kernel_rfl) (by kernel_rfl) (fun _ _ _ h => h) (Or.inl ⟨by rfl, ?h520⟩) hHeld ?r520
        case h520 => (intro w hSw; (try dsimp only at hSw); go_simp; try with_reducible rfl)
        try simp only [Act.put, List.setIfInBounds_toArray, List.set_cons_zero, List.set_cons_succ]
        refine wpAnyH_take (i := 20) (oi := oG20) (v := ?v521) rfl (by kernel_rfl) (by kernel_rfl) (by kernel_rfl) (fun _ _ _ h => h) (Or.inl ⟨by rfl, ?h521⟩) hHeld ?r521
        case h521 => (intro w hSw; (try dsimp only at hSw); go_simp; try with_reducible rfl)
        try simp only [Act.put, List.setIfInBounds_toArray, List.set_cons_zero, List.set_cons_succ]
        refine wpAnyH_take (i := 21) (oi := oG21) (v := ?v522) rfl (by kernel_rfl) (by kernel_rfl) (by kernel_rfl) (fun _ _ _ h => h) (Or.inl ⟨by rfl, ?h522⟩) hHeld ?r522
        case h522 => (intro w hSw; (try dsimp only at hSw); go_simp; try with_reducible rfl)
        try simp only [Act.put, List.setIfInBounds_toArray, List.set_cons_zero, List.set_cons_succ]
        refine wpAnyH_take (i := 22) (oi := oG22) (v := ?v523) rfl (by kernel_rfl) (by kernel_rfl) (by kernel_rfl) (fun _ _ _ h => h) (Or.inl ⟨by rfl, ?h523⟩) hHeld ?r523
        case h523 => (intro w hSw; (try dsimp only at hSw); go_simp; try with_reducible rfl)
        try simp only [Act.put, List.setIfInBounds_toArray, List.set_cons_zero, List.set_cons_succ]
        refine wpAnyH_take (i := 23) (oi := oG23) (v := ?v524) rfl (by kernel_rfl) (by kernel_rfl) (by kernel_rfl) (fun _ _ _ h => h) (Or.inl ⟨by rfl, ?h524⟩) hHeld ?r524
        case h524 => (intro w hSw; (try dsimp only at hSw); go_simp; try with_reducible rfl)
        try simp only [Act.put, List.setIfInBounds_toArray, List.set_cons_zero, List.set_cons_succ]
        refine wpAnyH_take (i := 24) (oi := oG24) (v := ?v525) rfl (by kernel_rfl) (by kernel_rfl) (by kernel_rfl) (fun _ _ _ h => h) (Or.inl ⟨by rfl, ?h525⟩) hHeld ?r525
        case h525 => (intro w hSw; (try dsimp only at hSw); go_simp; try with_reducible rfl)
        try simp only [Act.put, List.setIfInBounds_toArray, List.set_cons_zero, List.set_cons_succ]
        refine wpAnyH_ready (rs := [25]) (by kernel_rfl) (by simp) ?_
        refine (AllReadyH.cons (o := oG25) rfl (fun K hK => ?_) AllReadyH.nil)
        go_simp
        clear hHeld
        refine hK.out _ _ (hS0) (fun hHeld => ?_)
        clear hK K
        try simp only [Act.put, List.setIfInBounds_toArray, List.set_cons_zero, List.set_cons_succ]
        refine wpAnyH_done (by kernel_rfl) ?_ _
        (try refine NoPanic.normal ?_)
        clear q0 q1 q2 q3 q4 q5 q6 q7 q8 q9 q10 q11 q12 q13
        obtain ⟨z0, z1, z2, z3, z4, z5, z6, z7, z8, z9, z10, z11, z12, z13, z14⟩ := hS0
        go_wp2_with fail
        go_ret
        exact ⟨by rw [HE.out]; rfl, HDW.out⟩
    · rw [decide_eq_false k8] at HE
      have km : (ra == 0) = false := by simpa using k8
      clear k8
      go_enter Try.func64, Try.ntmps64
      go_wp2_with fail
      refine wp_region_held_drew (S := fun wq => wq.cell? ⟨w.heap.size, 0, none⟩ = some (.slice x0 d.terms.length x1) ∧ wq.cell? ⟨w.heap.size, 1, none⟩ = some (.slice x2 d.nons.length x3) ∧ wq.cell? ⟨w.heap.size, 2, none⟩ = some (.int .i64 d.own) ∧ wq.cell? ⟨w.heap.size, 3, none⟩ = some (.slice x4 d.prods.length x5) ∧ wq.cell? ⟨w.heap.size, 4, none⟩ = some (.slice y0 g.attrs.length y1) ∧ wq.cell? ⟨w.heap.size, 5, none⟩ = some (.slice y2 g.eqs.length y3) ∧ wq.cell? ⟨w.heap.size + 1, 0, none⟩ = some (.int .i64 P.left) ∧ wq.cell? ⟨w.heap.size + 1, 1, none⟩ = some (.slice (some ⟨pb, poff, none⟩) P.right.length pc) ∧ wq.cell? ⟨w.heap.size + 1, 2, none⟩ = some (.string P.label) ∧ wq.cell? ⟨w.heap.size + 1, 3, none⟩ = some (.int .i64 P.lev) ∧ wq.cell? ⟨w.heap.size + 1, 4, none⟩ = some (.int .i64 P.asc) ∧ wq.cell? ⟨w.heap.size + 1 + 1, 0, none⟩ = some (.int .i64 ((q1' : Int) + 1)) ∧ wq.cell? ⟨w.heap.size + 1 + 1, 1, none⟩ = some (.int .i64 ra) ∧ wq.cell? ⟨w.heap.size + 1 + 1, 2, none⟩ = some (.int .i64 rn) ∧ wq.cell? ⟨pb, poff + q1', none⟩ = some (.int .i64 sy)) (by kernel_rfl) hS0 (fun hHeld => ?_)
      refine wpAnyH_take (i := 0) (oi := oG0) (v := ?v601) rfl (by kernel_rfl) (by kernel_rfl) (by kernel_rfl) (fun _ _ _ h => h) (Or.inl ⟨by rfl, ?h601⟩) hHeld ?r601
      case h601 => (intro w hSw; (try dsimp only at hSw); go_simp; try with_reducible rfl)
      try simp only [Act.put, List.setIfInBounds_toArray, List.set_cons_zero, List.set_cons_succ]
      refine wpAnyH_take (i := 1) (oi := oG1) (v := ?v602) rfl (by kernel_rfl) (by kernel_rfl) (by kernel_rfl) (fun _ _ _ h => h) (Or.inl ⟨by rfl, ?h602⟩) hHeld ?r602
      case h602 => (intro w hSw; (try dsimp only at hSw); go_simp; try with_reducible rfl)
      try simp only [Act.put, List.setIfInBounds_toArray, List.set_cons_zero, List.set_cons_succ]
      refine wpAnyH_take (i := 2) (oi := oG2) (v := ?v603) rfl (by kernel_rfl) (by kernel_rfl) (by kernel_rfl) (fun _ _ _ h => h) (Or.inl ⟨by rfl, ?h603⟩) hHeld ?r603
      case h603 => (intro w hSw; (try dsimp only at hSw); go_simp; try with_reducible rfl)
      try simp only [Act.put, List.setIfInBounds_toArray, List.set_cons_zero, List.set_cons_succ]
      refine wpAnyH_take (i := 3) (oi := oG3) (v := ?v604) rfl (by kernel_rfl) (by kernel_rfl) (by kernel_rfl) (fun _ _ _ h => h) (Or.inl ⟨by rfl, ?h604⟩) hHeld ?r604
      case h604 => (intro w hSw; (try dsimp only at hSw); go_simp; try with_reducible rfl)
      try simp only [Act.put, List.setIfInBounds_toArray, List.set_cons_zero, List.set_cons_succ]
      refine wpAnyH_take (i := 4) (oi := oG4) (v := ?v605) rfl (by kernel_rfl) (by kernel_rfl) (by kernel_rfl) (fun _ _ _ h => h) (Or.inl ⟨by rfl, ?h605⟩) hHeld ?r605
      case h605 => (intro w hSw; (try dsimp only at hSw); go_simp; try with_reducible rfl)
      try simp only [Act.put, List.setIfInBounds_toArray, List.set_cons_zero, List.set_cons_succ]
      refine wpAnyH_take (i := 5) (oi := oG5) (v := ?v606) rfl (by kernel_rfl) (by kernel_rfl) (by kernel_rfl) (fun _ _ _ h => h) (Or.inl ⟨by rfl, ?h606⟩) hHeld ?r606
      case h606 => (intro w hSw; (try dsimp only at hSw); go_simp; try with_reducible rfl)
      try simp only [Act.put, List.setIfInBounds_toArray, List.set_cons_zero, List.set_cons_succ]
      refine wpAnyH_take (i := 6) (oi := oG6) (v := ?v607) rfl (by kernel_rfl) (by kernel_rfl) (by kernel_rfl) (fun _ _ _ h => h) (Or.inl ⟨by rfl, ?h607⟩) hHeld ?r607
      case h607 => (intro w hSw; (try dsimp only at hSw); go_simp; try with_reducible rfl)
      try simp only [Act.put, List.setIfInBounds_toArray, List.set_cons_zero, List.set_cons_succ]
      refine wpAnyH_take (i := 7) (oi := oG7) (v := ?v608) rfl (by kernel_rfl) (by kernel_rfl) (by kernel_rfl) (fun _ _ _ h => h) (Or.inl ⟨by rfl, ?h608⟩) hHeld ?r608
      case h608 => (intro w hSw; (try dsimp only at hSw); go_simp; try with_reducible rfl)
      try simp only [Act.put, List.setIfInBounds_toArray, List.set_cons_zero, List.set_cons_succ]
      refine wpAnyH_take (i := 8) (oi := oG8) (v := ?v609) rfl (by kernel_rfl) (by kernel_rfl) (by kernel_rfl) (fun _ _ _ h => h) (Or.inl ⟨by rfl, ?h609⟩) hHeld ?r609
      case h609 => (intro w hSw; (try dsimp only at hSw); go_simp; try with_reducible rfl)
      try simp only [Act.put, List.setIfInBounds_toArray, List.set_cons_zero, List.set_cons_succ]
      refine wpAnyH_take (i := 9) (oi := oG9) (v := ?v610) rfl (by kernel_rfl) (by kernel_rfl) (by kernel_rfl) (fun _ _ _ h => h) (Or.inl ⟨by rfl, ?h610⟩) hHeld ?r610
      case h610 => (intro w hSw; (try dsimp only at hSw); go_simp; try with_reducible rfl)
      try simp only [Act.put, List.setIfInBounds_toArray, List.set_cons_zero, List.set_cons_succ]
      refine wpAnyH_take (i := 10) (oi := oG10) (v := ?v611) rfl (by kernel_rfl) (by kernel_rfl) (by kernel_rfl) (fun _ _ _ h => h) (Or.inl ⟨by rfl, ?h611⟩) hHeld ?r611
      case h611 => (intro w hSw; (try dsimp only at hSw); go_simp; try with_reducible rfl)
      try simp only [Act.put, List.setIfInBounds_toArray, List.set_cons_zero, List.set_cons_succ]
      refine wpAnyH_take (i := 11) (oi := oG11) (v := ?v612) rfl (by kernel_rfl) (by kernel_rfl) (by kernel_rfl) (fun _ _ _ h => h) (Or.inl ⟨by rfl, ?h612⟩) hHeld ?r612
      case h612 => (intro w hSw; (try dsimp only at hSw); go_simp; try with_reducible rfl)
      try simp only [Act.put, List.setIfInBounds_toArray, List.set_cons_zero, List.set_cons_succ]
      refine wpAnyH_take (i := 12) (oi := oG12) (v := ?v613) rfl (by kernel_rfl) (by kernel_rfl) (by kernel_rfl) (fun _ _ _ h => h) (Or.inl ⟨by rfl, ?h613⟩) hHeld ?r613
      case h613 => (intro w hSw; (try dsimp only at hSw); go_simp; try with_reducible rfl)
      try simp only [Act.put, List.setIfInBounds_toArray, List.set_cons_zero, List.set_cons_succ]
      refine wpAnyH_take (i := 13) (oi := oG13) (v := ?v614) rfl (by kernel_rfl) (by kernel_rfl) (by kernel_rfl) (fun _ _ _ h => h) (Or.inl ⟨by rfl, ?h614⟩) hHeld ?r614
      case h614 => (intro w hSw; (try dsimp only at hSw); go_simp; try with_reducible rfl)
      try simp only [Act.put, List.setIfInBounds_toArray, List.set_cons_zero, List.set_cons_succ]
      refine wpAnyH_take (i := 14) (oi := oG14) (v := ?v615) rfl (by kernel_rfl) (by kernel_rfl) (by kernel_rfl) (fun _ _ _ h => h) (Or.inl ⟨by rfl, ?h615⟩) hHeld ?r615
      case h615 => (intro w hSw; (try dsimp only at hSw); go_simp; try with_reducible rfl)
      try simp only [Act.put, List.setIfInBounds_toArray, List.set_cons_zero, List.set_cons_succ]
      refine wpAnyH_take (i := 15) (oi := oG15) (v := ?v616) rfl (by kernel_rfl) (by kernel_rfl) (by kernel_rfl) (fun _ _ _ h => h) (Or.inl ⟨by rfl, ?h616⟩) hHeld ?r616
      case h616 => (intro w hSw; (try dsimp only at hSw); go_simp; try with_reducible rfl)
      try simp only [Act.put, List.setIfInBounds_toArray, List.set_cons_zero, List.set_cons_succ]
      refine wpAnyH_take (i := 16) (oi := oG16) (v := ?v617) rfl (by kernel_rfl) (by kernel_rfl) (by kernel_rfl) (fun _ _ _ h => h) (Or.inl ⟨by rfl, ?h617⟩) hHeld ?r617
      case h617 => (intro w hSw; (try dsimp only at hSw); go_simp; try with_reducible rfl)
      try simp only [Act.put, List.setIfInBounds_toArray, List.set_cons_zero, List.set_cons_succ]
      refine wpAnyH_take (i := 17) (oi := oG17) (v := ?v618) rfl (by kernel_rfl) (by kernel_rfl) (by kernel_rfl) (fun _ _ _ h => h) (Or.inl ⟨by rfl, ?h618⟩) hHeld ?r618
      case h618 => (intro w hSw; (try dsimp only at hSw); go_simp; try with_reducible rfl)
      try simp only [Act.put, List.setIfInBounds_toArray, List.set_cons_zero, List.set_cons_succ]
      refine wpAnyH_take (i := 18) (oi := oG18) (v := ?v619) rfl (by kernel_rfl) (by kernel_rfl) (by kernel_rfl) (fun _ _ _ h => h) (Or.inl ⟨by rfl, ?h619⟩) hHeld ?r619
      case h619 => (intro w hSw; (try dsimp only at hSw); go_simp; try with_reducible rfl)
      try simp only [Act.put, List.setIfInBounds_toArray, List.set_cons_zero, List.set_cons_succ]
      refine wpAnyH_take (i := 19) (oi := oG19) (v := ?v620) rfl (by kernel_rfl) (by kernel_rfl) (by kernel_rfl) (fun _ _ _ h => h) (Or.inl ⟨by rfl, ?h620⟩) hHeld ?r620
      case h620 => (intro w hSw; (try dsimp only at hSw); go_simp; try with_reducible rfl)
      try simp only [Act.put, List.setIfInBounds_toArray, List.set_cons_zero, List.set_cons_succ]
      refine wpAnyH_take (i := 20) (oi := oG20) (v := ?v621) rfl (by kernel_rfl) (by kernel_rfl) (by kernel_rfl) (fun _ _ _ h => h) (Or.inl ⟨by rfl, ?h621⟩) hHeld ?r621
      case h621 => (intro w hSw; (try dsimp only at hSw); go_simp; try with_reducible rfl)
      try simp only [Act.put, List.setIfInBounds_toArray, List.set_cons_zero, List.set_cons_succ]
      refine wpAnyH_take (i := 21) (oi := oG21) (v := ?v622) rfl (by kernel_rfl) (by kernel_rfl) (by kernel_rfl) (fun _ _ _ h => h) (Or.inl ⟨by rfl, ?h622⟩) hHeld ?r622
      case h622 => (intro w hSw; (try dsimp only at hSw); go_simp; try with_reducible rfl)
      try simp only [Act.put, List.setIfInBounds_toArray, List.set_cons_zero, List.set_cons_succ]
      refine wpAnyH_take (i := 22) (oi := oG22) (v := ?v623) rfl (by kernel_rfl) (by kernel_rfl) (by kernel_rfl) (fun _ _ _ h => h) (Or.inl ⟨by rfl, ?h623⟩) hHeld ?r623
      case h623 => (intro w hSw; (try dsimp only at hSw); go_simp; try with_reducible rfl)
      try simp only [Act.put, List.setIfInBounds_toArray, List.set_cons_zero, List.set_cons_succ]
      refine wpAnyH_take (i := 23) (oi := oG23) (v := ?v624) rfl (by kernel_rfl) (by kernel_rfl) (by kernel_rfl) (fun _ _ _ h => h) (Or.inl ⟨by rfl, ?h624⟩) hHeld ?r624
      case h624 => (intro w hSw; (try dsimp only at hSw); go_simp; try with_reducible rfl)
      try simp only [Act.put, List.setIfInBounds_toArray, List.set_cons_zero, List.set_cons_succ]
      refine wpAnyH_take (i := 24) (oi := oG24) (v := ?v625) rfl (by kernel_rfl) (by kernel_rfl) (by kernel_rfl) (fun _ _ _ h => h) (Or.inl ⟨by rfl, ?h625⟩) hHeld ?r625
      case h625 => (intro w hSw; (try dsimp only at hSw); go_simp; try with_reducible rfl)
      try simp only [Act.put, List.setIfInBounds_toArray, List.set_cons_zero, List.set_cons_succ]
      refine wpAnyH_ready (rs := [25]) (by kernel_rfl) (by simp) ?_
      refine (AllReadyH.cons (o := oG25) rfl (fun K hK => ?_) AllReadyH.nil)
      go_simp
      clear hHeld
      refine hK.out _ _ (hS0) (fun hHeld => ?_)
      clear hK K
      try simp only [Act.put, List.setIfInBounds_toArray, List.set_cons_zero, List.set_cons_succ]
      refine wpAnyH_done (by kernel_rfl) ?_ _
      (try refine NoPanic.normal ?_)
      clear q0 q1 q2 q3 q4 q5 q6 q7 q8 q9 q10 q11 q12 q13
      obtain ⟨z0, z1, z2, z3, z4, z5, z6, z7, z8, z9, z10, z11, z12, z13, z14⟩ := hS0
      go_wp2_with fail
      go_ret
      exact ⟨by rw [HE.out]; rfl, HDW.out⟩
  have HE := (show Hid _ from ar_non (d := d) (g := g) (P := P) (ra := ra) (rn := rn) h1 (fun x => ht (HTM.out.1 x)))
  have kt : decide (sy < (d.terms.length : Int)) = false := decide_eq_false ht
  clear h1 HTM
  by_cases k9 : rn = 0
  · rw [decide_eq_true k9, Bool.true_and] at HE
    have kn : (rn == 0) = true := by simp [k9]
    clear k9
    go_enter Try.func64, Try.ntmps64
    go_wp2_with fail
    refine wp_region_held_drew (S := fun wq => wq.cell? ⟨w.heap.size, 0, none⟩ = some (.slice x0 d.terms.length x1) ∧ wq.cell? ⟨w.heap.size, 1, none⟩ = some (.slice x2 d.nons.length x3) ∧ wq.cell? ⟨w.heap.size, 2, none⟩ = some (.int .i64 d.own) ∧ wq.cell? ⟨w.heap.size, 3, none⟩ = some (.slice x4 d.prods.length x5) ∧ wq.cell? ⟨w.heap.size, 4, none⟩ = some (.slice y0 g.attrs.length y1) ∧ wq.cell? ⟨w.heap.size, 5, none⟩ = some (.slice y2 g.eqs.length y3) ∧ wq.cell? ⟨w.heap.size + 1, 0, none⟩ = some (.int .i64 P.left) ∧ wq.cell? ⟨w.heap.size + 1, 1, none⟩ = some (.slice (some ⟨pb, poff, none⟩) P.right.length pc) ∧ wq.cell? ⟨w.heap.size + 1, 2, none⟩ = some (.string P.label) ∧ wq.cell? ⟨w.heap.size + 1, 3, none⟩ = some (.int .i64 P.lev) ∧ wq.cell? ⟨w.heap.size + 1, 4, none⟩ = some (.int .i64 P.asc) ∧ wq.cell? ⟨w.heap.size + 1 + 1, 0, none⟩ = some (.int .i64 ((q1' : Int) + 1)) ∧ wq.cell? ⟨w.heap.size + 1 + 1, 1, none⟩ = some (.int .i64 ra) ∧ wq.cell? ⟨w.heap.size + 1 + 1, 2, none⟩ = some (.int .i64 rn) ∧ wq.cell? ⟨pb, poff + q1', none⟩ = some (.int .i64 sy)) (by kernel_rfl) hS0 (fun hHeld => ?_)
    refine wpAnyH_take (i := 0) (oi := oG0) (v := ?v701) rfl (by kernel_rfl) (by kernel_rfl) (by kernel_rfl) (fun _ _ _ h => h) (Or.inl ⟨by rfl, ?h701⟩) hHeld ?r701
    case h701 => (intro w hSw; (try dsimp only at hSw); go_simp; try with_reducible rfl)
    try simp only [Act.put, List.setIfInBounds_toArray, List.set_cons_zero, List.set_cons_succ]
    refine wpAnyH_take (i := 1) (oi := oG1) (v := ?v702) rfl (by kernel_rfl) (by kernel_rfl) (by kernel_rfl) (fun _ _ _ h => h) (Or.inl ⟨by rfl, ?h702⟩) hHeld ?r702
    case h702 => (intro w hSw; (try dsimp only at hSw); go_simp; try with_reducible rfl)
    try simp only [Act.put, List.setIfInBounds_toArray, List.set_cons_zero, List.set_cons_succ]
    refine wpAnyH_take (i := 2) (oi := oG2) (v := ?v703) rfl (by kernel_rfl) (by kernel_rfl) (by kernel_rfl) (fun _ _ _ h => h) (Or.inl ⟨by rfl, ?h703⟩) hHeld ?r703
    case h703 => (intro w hSw; (try dsimp only at hSw); go_simp; try with_reducible rfl)
    try simp only [Act.put, List.setIfInBounds_toArray, List.set_cons_zero, List.set_cons_succ]
    refine wpAnyH_take (i := 3) (oi := oG3) (v := ?v704) rfl (by kernel_rfl) (by kernel_rfl) (by kernel_rfl) (fun _ _ _ h => h) (Or.inl ⟨by rfl, ?h704⟩) hHeld ?r704
    case h704 => (intro w hSw; (try dsimp only at hSw); go_simp; try with_reducible rfl)
    try simp only [Act.put, List.setIfInBounds_toArray, List.set_cons_zero, List.set_cons_succ]
    refine wpAnyH_take (i := 4) (oi := oG4) (v := ?v705) rfl (by kernel_rfl) (by kernel_rfl) (by kernel_rfl) (fun _ _ _ h => h) (Or.inl ⟨by rfl, ?h705⟩) hHeld ?r705
    case h705 => (intro w hSw; (try dsimp only at hSw); go_simp; try with_reducible rfl)
    try simp only [Act.put, List.setIfInBounds_toArray, List.set_cons_zero, List.set_cons_succ]
    refine wpAnyH_take (i := 5) (oi := oG5) (v := ?v706) rfl (by kernel_rfl) (by kernel_rfl) (by kernel_rfl) (fun _ _ _ h => h) (Or.inl ⟨by rfl, ?h706⟩) hHeld ?r706
    case h706 => (intro w hSw; (try dsimp only at hSw); go_simp; try with_reducible rfl)
    try simp only [Act.put, List.setIfInBounds_toArray, List.set_cons_zero, List.set_cons_succ]
    refine wpAnyH_take (i := 6) (oi := oG6) (v := ?v707) rfl (by kernel_rfl) (by kernel_rfl) (by kernel_rfl) (fun _ _ _ h => h) (Or.inl ⟨by rfl, ?h707⟩) hHeld ?r707
    case h707 => (intro w hSw; (try dsimp only at hSw); go_simp; try with_reducible rfl)
    try simp only [Act.put, List.setIfInBounds_toArray, List.set_cons_zero, List.set_cons_succ]
    refine wpAnyH_take (i := 7) (oi := oG7) (v := ?v708) rfl (by kernel_rfl) (by kernel_rfl) (by kernel_rfl) (fun _ _ _ h => h) (Or.inl ⟨by rfl, ?h708⟩) hHeld ?r708
    case h708 => (intro w hSw; (try dsimp only at hSw); go_simp; try with_reducible rfl)
    try simp only [Act.put, List.setIfInBounds_toArray, List.set_cons_zero, List.set_cons_succ]
    refine wpAnyH_take (i := 8) (oi := oG8) (v := ?v709) rfl (by kernel_rfl) (by kernel_rfl) (by kernel_rfl) (fun _ _ _ h => h) (Or.inl ⟨by rfl, ?h709⟩) hHeld ?r709
    case h709 => (intro w hSw; (try dsimp only at hSw); go_simp; try with_reducible rfl)
    try simp only [Act.put, List.setIfInBounds_toArray, List.set_cons_zero, List.set_cons_succ]
    refine wpAnyH_take (i := 9) (oi := oG9) (v := ?v710) rfl (by kernel_rfl) (by kernel_rfl) (by kernel_rfl) (fun _ _ _ h => h) (Or.inl ⟨by rfl, ?h710⟩) hHeld ?r710
    case h710 => (intro w hSw; (try dsimp only at hSw); go_simp; try with_reducible rfl)
    try simp only [Act.put, List.setIfInBounds_toArray, List.set_cons_zero, List.set_cons_succ]
    refine wpAnyH_take (i := 10) (oi := oG10) (v := ?v711) rfl (by kernel_rfl) (by kernel_rfl) (by kernel_rfl) (fun _ _ _ h => h) (Or.inl ⟨by rfl, ?h711⟩) hHeld ?r711
    case h711 => (intro w hSw; (try dsimp only at hSw); go_simp; try with_reducible rfl)
    try simp only [Act.put, List.setIfInBounds_toArray, List.set_cons_zero, List.set_cons_succ]
    refine wpAnyH_take (i := 11) (oi := oG11) (v := ?v712) rfl (by kernel_rfl) (by kernel_rfl) (by kernel_rfl) (fun _ _ _ h => h) (Or.inl ⟨by rfl, ?h712⟩) hHeld ?r712
    case h712 => (intro w hSw; (try dsimp only at hSw); go_simp; try with_reducible rfl)
    try simp only [Act.put, List.setIfInBounds_toArray, List.set_cons_zero, List.set_cons_succ]
    refine wpAnyH_take (i := 12) (oi := oG12) (v := ?v713) rfl (by kernel_rfl) (by kernel_rfl) (by kernel_rfl) (fun _ _ _ h => h) (Or.inl ⟨by rfl, ?h713⟩) hHeld ?r713
    case h713 => (intro w hSw; (try dsimp only at hSw); go_simp; try with_reducible rfl)
    try simp only [Act.put, List.setIfInBounds_toArray, List.set_cons_zero, List.set_cons_succ]
    refine wpAnyH_take (i := 13) (oi := oG13) (v := ?v714) rfl (by kernel_rfl) (by kernel_rfl) (by kernel_rfl) (fun _ _ _ h => h) (Or.inl ⟨by rfl, ?h714⟩) hHeld ?r714
    case h714 => (intro w hSw; (try dsimp only at hSw); go_simp; try with_reducible rfl)
    try simp only [Act.put, List.setIfInBounds_toArray, List.set_cons_zero, List.set_cons_succ]
    refine wpAnyH_take (i := 14) (oi := oG14) (v := ?v715) rfl (by kernel_rfl) (by kernel_rfl) (by kernel_rfl) (fun _ _ _ h => h) (Or.inl ⟨by rfl, ?h715⟩) hHeld ?r715
    case h715 => (intro w hSw; (try dsimp only at hSw); go_simp; try with_reducible rfl)
    try simp only [Act.put, List.setIfInBounds_toArray, List.set_cons_zero, List.set_cons_succ]
    refine wpAnyH_take (i := 15) (oi := oG15) (v := ?v716) rfl (by kernel_rfl) (by kernel_rfl) (by kernel_rfl) (fun _ _ _ h => h) (Or.inl ⟨by rfl, ?h716⟩) hHeld ?r716
    case h716 => (intro w hSw; (try dsimp only at hSw); go_simp; try with_reducible rfl)
    try simp only [Act.put, List.setIfInBounds_toArray, List.set_cons_zero, List.set_cons_succ]
    refine wpAnyH_take (i := 16) (oi := oG16) (v := ?v717) rfl (by kernel_rfl) (by kernel_rfl) (by kernel_rfl) (fun _ _ _ h => h) (Or.inl ⟨by rfl, ?h717⟩) hHeld ?r717
    case h717 => (intro w hSw; (try dsimp only at hSw); go_simp; try with_reducible rfl)
    try simp only [Act.put, List.setIfInBounds_toArray, List.set_cons_zero, List.set_cons_succ]
    refine wpAnyH_take (i := 17) (oi := oG17) (v := ?v718) rfl (by kernel_rfl) (by kernel_rfl) (by kernel_rfl) (fun _ _ _ h => h) (Or.inl ⟨by rfl, ?h718⟩) hHeld ?r718
    case h718 => (intro w hSw; (try dsimp only at hSw); go_simp; try with_reducible rfl)
    try simp only [Act.put, List.setIfInBounds_toArray, List.set_cons_zero, List.set_cons_succ]
    refine wpAnyH_take (i := 18) (oi := oG18) (v := ?v719) rfl (by kernel_rfl) (by kernel_rfl) (by kernel_rfl) (fun _ _ _ h => h) (Or.inl ⟨by rfl, ?h719⟩) hHeld ?r719
    case h719 => (intro w hSw; (try dsimp only at hSw); go_simp; try with_reducible rfl)
    try simp only [Act.put, List.setIfInBounds_toArray, List.set_cons_zero, List.set_cons_succ]
    refine wpAnyH_take (i := 19) (oi := oG19) (v := ?v720) rfl (by kernel_rfl) (by kernel_rfl) (by kernel_rfl) (fun _ _ _ h => h) (Or.inl ⟨by rfl, ?h720⟩) hHeld ?r720
    case h720 => (intro w hSw; (try dsimp only at hSw); go_simp; try with_reducible rfl)
    try simp only [Act.put, List.setIfInBounds_toArray, List.set_cons_zero, List.set_cons_succ]
    refine wpAnyH_take (i := 20) (oi := oG20) (v := ?v721) rfl (by kernel_rfl) (by kernel_rfl) (by kernel_rfl) (fun _ _ _ h => h) (Or.inl ⟨by rfl, ?h721⟩) hHeld ?r721
    case h721 => (intro w hSw; (try dsimp only at hSw); go_simp; try with_reducible rfl)
    try simp only [Act.put, List.setIfInBounds_toArray, List.set_cons_zero, List.set_cons_succ]
    refine wpAnyH_take (i := 21) (oi := oG21) (v := ?v722) rfl (by kernel_rfl) (by kernel_rfl) (by kernel_rfl) (fun _ _ _ h => h) (Or.inl ⟨by rfl, ?h722⟩) hHeld ?r722
    case h722 => (intro w hSw; (try dsimp only at hSw); go_simp; try with_reducible rfl)
    try simp only [Act.put, List.setIfInBounds_toArray, List.set_cons_zero, List.set_cons_succ]
    refine wpAnyH_take (i := 22) (oi := oG22) (v := ?v723) rfl (by kernel_rfl) (by kernel_rfl) (by kernel_rfl) (fun _ _ _ h => h) (Or.inl ⟨by rfl, ?h723⟩) hHeld ?r723
    case h723 => (intro w hSw; (try dsimp only at hSw); go_simp; try with_reducible rfl)
    try simp only [Act.put, List.setIfInBounds_toArray, List.set_cons_zero, List.set_cons_succ]
    refine wpAnyH_take (i := 23) (oi := oG23) (v := ?v724) rfl (by kernel_rfl) (by kernel_rfl) (by kernel_rfl) (fun _ _ _ h => h) (Or.inl ⟨by rfl, ?h724⟩) hHeld ?r724
    case h724 => (intro w hSw; (try dsimp only at hSw); go_simp; try with_reducible rfl)
    try simp only [Act.put, List.setIfInBounds_toArray, List.set_cons_zero, List.set_cons_succ]
    refine wpAnyH_take (i := 24) (oi := oG24) (v := ?v725) rfl (by kernel_rfl) (by kernel_rfl) (by kernel_rfl) (fun _ _ _ h => h) (Or.inl ⟨by rfl, ?h725⟩) hHeld ?r725
    case h725 => (intro w hSw; (try dsimp only at hSw); go_simp; try with_reducible rfl)
    try simp only [Act.put, List.setIfInBounds_toArray, List.set_cons_zero, List.set_cons_succ]
    refine wpAnyH_ready (rs := [25]) (by kernel_rfl) (by simp) ?_
    refine (AllReadyH.cons (o := oG25) rfl (fun K hK => ?_) AllReadyH.nil)
    go_simp
    clear hHeld
    refine hK.out _ _ (hS0) (fun hHeld => ?_)
    clear hK K
    try simp only [Act.put, List.setIfInBounds_toArray, List.set_cons_zero, List.set_cons_succ]
    refine wpAnyH_done (by kernel_rfl) ?_ _
    (try refine NoPanic.normal ?_)
    clear q0 q1 q2 q3 q4 q5 q6 q7 q8 q9 q10 q11 q12 q13
    obtain ⟨z0, z1, z2, z3, z4, z5, z6, z7, z8, z9, z10, z11, z12, z13, z14⟩ := hS0
    go_wp2_with fail
    refine Calls.mono HC80.out ?_
    rintro e w4 ⟨rfl, hb4⟩
    have HB4 := (show Hid _ from bel_trans HDW.out hb4)
    clear hb4
    go_wp2_with fail
    go_ret
    exact ⟨by rw [HE.out]; rfl, HB4.out⟩
  · rw [decide_eq_false k9, Bool.false_and] at HE
    have kn : (rn == 0) = false := by simpa using k9
    clear k9
    go_enter Try.func64, Try.ntmps64
    go_wp2_with fail
    refine wp_region_held_drew (S := fun wq => wq.cell? ⟨w.heap.size, 0, none⟩ = some (.slice x0 d.terms.length x1) ∧ wq.cell? ⟨w.heap.size, 1, none⟩ = some (.slice x2 d.nons.length x3) ∧ wq.cell? ⟨w.heap.size, 2, none⟩ = some (.int .i64 d.own) ∧ wq.cell? ⟨w.heap.size, 3, none⟩ = some (.slice x4 d.prods.length x5) ∧ wq.cell? ⟨w.heap.size, 4, none⟩ = some (.slice y0 g.attrs.length y1) ∧ wq.cell? ⟨w.heap.size, 5, none⟩ = some (.slice y2 g.eqs.length y3) ∧ wq.cell? ⟨w.heap.size + 1, 0, none⟩ = some (.int .i64 P.left) ∧ wq.cell? ⟨w.heap.size + 1, 1, none⟩ = some (.slice (some ⟨pb, poff, none⟩) P.right.length pc) ∧ wq.cell? ⟨w.heap.size + 1, 2, none⟩ = some (.string P.label) ∧ wq.cell? ⟨w.heap.size + 1, 3, none⟩ = some (.int .i64 P.lev) ∧ wq.cell? ⟨w.heap.size + 1, 4, none⟩ = some (.int .i64 P.asc) ∧ wq.cell? ⟨w.heap.size + 1 + 1, 0, none⟩ = some (.int .i64 ((q1' : Int) + 1)) ∧ wq.cell? ⟨w.heap.size + 1 + 1, 1, none⟩ = some (.int .i64 ra) ∧ wq.cell? ⟨w.heap.size + 1 + 1, 2, none⟩ = some (.int .i64 rn) ∧ wq.cell? ⟨pb, poff + q1', none⟩ = some (.int .i64 sy)) (by kernel_rfl) hS0 (fun hHeld => ?_)
    refine wpAnyH_take (i := 0) (oi := oG0) (v := ?v801) rfl (by kernel_rfl) (by kernel_rfl) (by kernel_rfl) (fun _ _ _ h => h) (Or.inl ⟨by rfl, ?h801⟩) hHeld ?r801
    case h801 => (intro w hSw; (try dsimp only at hSw); go_simp; try with_reducible rfl)
    try simp only [Act.put, List.setIfInBounds_toArray, List.set_cons_zero, List.set_cons_succ]
    refine wpAnyH_take (i := 1) (oi := oG1) (v := ?v802) rfl (by kernel_rfl) (by kernel_rfl) (by kernel_rfl) (fun _ _ _ h => h) (Or.inl ⟨by rfl, ?h802⟩) hHeld ?r802
    case h802 => (intro w hSw; (try dsimp only at hSw); go_simp; try with_reducible rfl)
    try simp only [Act.put, List.setIfInBounds_toArray, List.set_cons_zero, List.set_cons_succ]
    refine wpAnyH_take (i := 2) (oi := oG2) (v := ?v803) rfl (by kernel_rfl) (by kernel_rfl) (by kernel_rfl) (fun _ _ _ h => h) (Or.inl ⟨by rfl, ?h803⟩) hHeld ?r803
    case h803 => (intro w hSw; (try dsimp only at hSw); go_simp; try with_reducible rfl)
    try simp only [Act.put, List.setIfInBounds_toArray, List.set_cons_zero, List.set_cons_succ]
    refine wpAnyH_take (i := 3) (oi := oG3) (v := ?v804) rfl (by kernel_rfl) (by kernel_rfl) (by kernel_rfl) (fun _ _ _ h => h) (Or.inl ⟨by rfl, ?h804⟩) hHeld ?r804
    case h804 => (intro w hSw; (try dsimp only at hSw); go_simp; try with_reducible rfl)
    try simp only [Act.put, List.setIfInBounds_toArray, List.set_cons_zero, List.set_cons_succ]
    refine wpAnyH_take (i := 4) (oi := oG4) (v := ?v805) rfl (by kernel_rfl) (by kernel_rfl) (by kernel_rfl) (fun _ _ _ h => h) (Or.inl ⟨by rfl, ?h805⟩) hHeld ?r805
    case h805 => (intro w hSw; (try dsimp only at hSw); go_simp; try with_reducible rfl)
    try simp only [Act.put, List.setIfInBounds_toArray, List.set_cons_zero, List.set_cons_succ]
    refine wpAnyH_take (i := 5) (oi := oG5) (v := ?v806) rfl (by kernel_rfl) (by kernel_rfl) (by kernel_rfl) (fun _ _ _ h => h) (Or.inl ⟨by rfl, ?h806⟩) hHeld ?r806
    case h806 => (intro w hSw; (try dsimp only at hSw); go_simp; try with_reducible rfl)
    try simp only [Act.put, List.setIfInBounds_toArray, List.set_cons_zero, List.set_cons_succ]
    refine wpAnyH_take (i := 6) (oi := oG6) (v := ?v807) rfl (by kernel_rfl) (by kernel_rfl) (by kernel_rfl) (fun _ _ _ h => h) (Or.inl ⟨by rfl, ?h807⟩) hHeld ?r807
    case h807 => (intro w hSw; (try dsimp only at hSw); go_simp; try with_reducible rfl)
    try simp only [Act.put, List.setIfInBounds_toArray, List.set_cons_zero, List.set_cons_succ]
    refine wpAnyH_take (i := 7) (oi := oG7) (v := ?v808) rfl (by kernel_rfl) (by kernel_rfl) (by kernel_rfl) (fun _ _ _ h => h) (Or.inl ⟨by rfl, ?h808⟩) hHeld ?r808
    case h808 => (intro w hSw; (try dsimp only at hSw); go_simp; try with_reducible rfl)
    try simp only [Act.put, List.setIfInBounds_toArray, List.set_cons_zero, List.set_cons_succ]
    refine wpAnyH_take (i := 8) (oi := oG8) (v := ?v809) rfl (by kernel_rfl) (by kernel_rfl) (by kernel_rfl) (fun _ _ _ h => h) (Or.inl ⟨by rfl, ?h809⟩) hHeld ?r809
    case h809 => (intro w hSw; (try dsimp only at hSw); go_simp; try with_reducible rfl)
    try simp only [Act.put, List.setIfInBounds_toArray, List.set_cons_zero, List.set_cons_succ]
    refine wpAnyH_take (i := 9) (oi := oG9) (v := ?v810) rfl (by kernel_rfl) (by kernel_rfl) (by kernel_rfl) (fun _ _ _ h => h) (Or.inl ⟨by rfl, ?h810⟩) hHeld ?r810
    case h810 => (intro w hSw; (try dsimp only at hSw); go_simp; try with_reducible rfl)
    try simp only [Act.put, List.setIfInBounds_toArray, List.set_cons_zero, List.set_cons_succ]
    refine wpAnyH_take (i := 10) (oi := oG10) (v := ?v811) rfl (by kernel_rfl) (by kernel_rfl) (by kernel_rfl) (fun _ _ _ h => h) (Or.inl ⟨by rfl, ?h811⟩) hHeld ?r811
    case h811 => (intro w hSw; (try dsimp only at hSw); go_simp; try with_reducible rfl)
    try simp only [Act.put, List.setIfInBounds_toArray, List.set_cons_zero, List.set_cons_succ]
    refine wpAnyH_take (i := 11) (oi := oG11) (v := ?v812) rfl (by kernel_rfl) (by kernel_rfl) (by kernel_rfl) (fun _ _ _ h => h) (Or.inl ⟨by rfl, ?h812⟩) hHeld ?r812
    case h812 => (intro w hSw; (try dsimp only at hSw); go_simp; try with_reducible rfl)
    try simp only [Act.put, List.setIfInBounds_toArray, List.set_cons_zero, List.set_cons_succ]
    refine wpAnyH_take (i := 12) (oi := oG12) (v := ?v813) rfl (by kernel_rfl) (by kernel_rfl) (by kernel_rfl) (fun _ _ _ h => h) (Or.inl ⟨by rfl, ?h813⟩) hHeld ?r813
    case h813 => (intro w hSw; (try dsimp only at hSw); go_simp; try with_reducible rfl)
    try simp only [Act.put, List.setIfInBounds_toArray, List.set_cons_zero, List.set_cons_succ]
    refine wpAnyH_take (i := 13) (oi := oG13) (v := ?v814) rfl (by kernel_rfl) (by kernel_rfl) (by kernel_rfl) (fun _ _ _ h => h) (Or.inl ⟨by rfl, ?h814⟩) hHeld ?r814
    case h814 => (intro w hSw; (try dsimp only at hSw); go_simp; try with_reducible rfl)
    try simp only [Act.put, List.setIfInBounds_toArray, List.set_cons_zero, List.set_cons_succ]
    refine wpAnyH_take (i := 14) (oi := oG14) (v := ?v815) rfl (by kernel_rfl) (by kernel_rfl) (by kernel_rfl) (fun _ _ _ h => h) (Or.inl ⟨by rfl, ?h815⟩) hHeld ?r815
    case h815 => (intro w hSw; (try dsimp only at hSw); go_simp; try with_reducible rfl)
    try simp only [Act.put, List.setIfInBounds_toArray, List.set_cons_zero, List.set_cons_succ]
    refine wpAnyH_take (i := 15) (oi := oG15) (v := ?v816) rfl (by kernel_rfl) (by kernel_rfl) (by kernel_rfl) (fun _ _ _ h => h) (Or.inl ⟨by rfl, ?h816⟩) hHeld ?r816
    case h816 => (intro w hSw; (try dsimp only at hSw); go_simp; try with_reducible rfl)
    try simp only [Act.put, List.setIfInBounds_toArray, List.set_cons_zero, List.set_cons_succ]
    refine wpAnyH_take (i := 16) (oi := oG16) (v := ?v817) rfl (by kernel_rfl) (by kernel_rfl) (by kernel_rfl) (fun _ _ _ h => h) (Or.inl ⟨by rfl, ?h817⟩) hHeld ?r817
    case h817 => (intro w hSw; (try dsimp only at hSw); go_simp; try with_reducible rfl)
    try simp only [Act.put, List.setIfInBounds_toArray, List.set_cons_zero, List.set_cons_succ]
    refine wpAnyH_take (i := 17) (oi := oG17) (v := ?v818) rfl (by kernel_rfl) (by kernel_rfl) (by kernel_rfl) (fun _ _ _ h => h) (Or.inl ⟨by rfl, ?h818⟩) hHeld ?r818
    case h818 => (intro w hSw; (try dsimp only at hSw); go_simp; try with_reducible rfl)
    try simp only [Act.put, List.setIfInBounds_toArray, List.set_cons_zero, List.set_cons_succ]
    refine wpAnyH_take (i := 18) (oi := oG18) (v := ?v819) rfl (by kernel_rfl) (by kernel_rfl) (by kernel_rfl) (fun _ _ _ h => h) (Or.inl ⟨by rfl, ?h819⟩) hHeld ?r819
    case h819 => (intro w hSw; (try dsimp only at hSw); go_simp; try with_reducible rfl)
    try simp only [Act.put, List.setIfInBounds_toArray, List.set_cons_zero, List.set_cons_succ]
    refine wpAnyH_take (i := 19) (oi := oG19) (v := ?v820) rfl (by kernel_rfl) (by kernel_rfl) (by kernel_rfl) (fun _ _ _ h => h) (Or.inl ⟨by rfl, ?h820⟩) hHeld ?r820
    case h820 => (intro w hSw; (try dsimp only at hSw); go_simp; try with_reducible rfl)
    try simp only [Act.put, List.setIfInBounds_toArray, List.set_cons_zero, List.set_cons_succ]
    refine wpAnyH_take (i := 20) (oi := oG20) (v := ?v821) rfl (by kernel_rfl) (by kernel_rfl) (by kernel_rfl) (fun _ _ _ h => h) (Or.inl ⟨by rfl, ?h821⟩) hHeld ?r821
    case h821 => (intro w hSw; (try dsimp only at hSw); go_simp; try with_reducible rfl)
    try simp only [Act.put, List.setIfInBounds_toArray, List.set_cons_zero, List.set_cons_succ]
    refine wpAnyH_take (i := 21) (oi := oG21) (v := ?v822) rfl (by kernel_rfl) (by kernel_rfl) (by kernel_rfl) (fun _ _ _ h => h) (Or.inl ⟨by rfl, ?h822⟩) hHeld ?r822
    case h822 => (intro w hSw; (try dsimp only at hSw); go_simp; try with_reducible rfl)
    try simp only [Act.put, List.setIfInBounds_toArray, List.set_cons_zero, List.set_cons_succ]
    refine wpAnyH_take (i := 22) (oi := oG22) (v := ?v823) rfl (by kernel_rfl) (by kernel_rfl) (by kernel_rfl) (fun _ _ _ h => h) (Or.inl ⟨by rfl, ?h823⟩) hHeld ?r823
    case h823 => (intro w hSw; (try dsimp only at hSw); go_simp; try with_reducible rfl)
    try simp only [Act.put, List.setIfInBounds_toArray, List.set_cons_zero, List.set_cons_succ]
    refine wpAnyH_take (i := 23) (oi := oG23) (v := ?v824) rfl (by kernel_rfl) (by kernel_rfl) (by kernel_rfl) (fun _ _ _ h => h) (Or.inl ⟨by rfl, ?h824⟩) hHeld ?r824
    case h824 => (intro w hSw; (try dsimp only at hSw); go_simp; try with_reducible rfl)
    try simp only [Act.put, List.setIfInBounds_toArray, List.set_cons_zero, List.set_cons_succ]
    refine wpAnyH_take (i := 24) (oi := oG24) (v := ?v825) rfl (by kernel_rfl) (by kernel_rfl) (by kernel_rfl) (fun _ _ _ h => h) (Or.inl ⟨by rfl, ?h825⟩) hHeld ?r825
    case h825 => (intro w hSw; (try dsimp only at hSw); go_simp; try with_reducible rfl)
    try simp only [Act.put, List.setIfInBounds_toArray, List.set_cons_zero, List.set_cons_succ]
    refine wpAnyH_ready (rs := [25]) (by kernel_rfl) (by simp) ?_
    refine (AllReadyH.cons (o := oG25) rfl (fun K hK => ?_) AllReadyH.nil)
    go_simp
    clear hHeld
    refine hK.out _ _ (hS0) (fun hHeld => ?_)
    clear hK K
    try simp only [Act.put, List.setIfInBounds_toArray, List.set_cons_zero, List.set_cons_succ]
    refine wpAnyH_done (by kernel_rfl) ?_ _
    (try refine NoPanic.normal ?_)
    clear q0 q1 q2 q3 q4 q5 q6 q7 q8 q9 q10 q11 q12 q13
    obtain ⟨z0, z1, z2, z3, z4, z5, z6, z7, z8, z9, z10, z11, z12, z13, z14⟩ := hS0
    go_wp2_with fail
    go_ret
    exact ⟨by rw [HE.out]; rfl, HDW.out⟩
end Go.Proofs.Ytnmdgbnbnpibhaa
