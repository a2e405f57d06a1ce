import Derived.Test.YtnmdgbnbnpibhaaBc
import Derived.Deep.RegionHeld3
import Derived.BigQuiet
import Derived.Deep.QuietTactic
/-! The specification: an Arg is right. -/
namespace Go.Proofs.Ytnmdgbnbnpibhaa
open Go.RowKit Go.Deep
set_option linter.unusedVariables false
set_option maxRecDepth 100000
set_option linter.unusedSimpArgs false

abbrev oK0 : Oper := { dst := some 41, op := Go.Op.load 37 (Go.Operand.tmp 4), type := 37, pos := "l10_attributes.go:32", after := #[], guard := none }
abbrev oK1 : Oper := { dst := some 42, op := Go.Op.load 42 (Go.Operand.tmp 5), type := 42, pos := "l10_attributes.go:32", after := #[], guard := none }
abbrev oK2 : Oper := { dst := some 43, op := Go.Op.move (Go.Operand.tmp 2), type := 3, pos := "l10_attributes.go:32", after := #[], guard := none }
abbrev oK3 : Oper := { dst := some 44, op := Go.Op.fieldAddr 64 (Go.Operand.tmp 7) 0, type := 0, pos := "l10_attributes.go:32", after := #[], guard := none }
abbrev oK4 : Oper := { dst := some 45, op := Go.Op.load 3 (Go.Operand.tmp 44), type := 3, pos := "l10_attributes.go:32", after := #[{ on := 3, ground := Go.Ground.data }], guard := none }
abbrev oK5 : Oper := { dst := some 46, op := Go.Op.fieldAddr 64 (Go.Operand.tmp 7) 1, type := 0, pos := "l10_attributes.go:32", after := #[], guard := none }
abbrev oK6 : Oper := { dst := some 47, op := Go.Op.load 3 (Go.Operand.tmp 46), type := 3, pos := "l10_attributes.go:32", after := #[{ on := 5, ground := Go.Ground.data }], guard := none }
abbrev oK7 : Oper := { dst := some 48, op := Go.Op.call { callee := Go.Callee.value (Go.Operand.func 20), args := #[Go.Operand.tmp 41, Go.Operand.tmp 42, Go.Operand.tmp 43, Go.Operand.tmp 45, Go.Operand.tmp 47], argTypes := #[37, 42, 3, 3, 3] }, type := 4, pos := "l10_attributes.go:32", after := #[{ on := 0, ground := Go.Ground.data }, { on := 1, ground := Go.Ground.data }, { on := 2, ground := Go.Ground.data }, { on := 4, ground := Go.Ground.data }, { on := 6, ground := Go.Ground.data }], guard := none }
abbrev oK8 : Oper := { dst := some 49, op := Go.Op.move (Go.Operand.tmp 48), type := 4, pos := "l10_attributes.go:32", after := #[{ on := 7, ground := Go.Ground.data }, { on := 7, ground := Go.Ground.chain }], guard := none }
abbrev oK9 : Oper := { dst := some 50, op := Go.Op.fieldAddr 42 (Go.Operand.tmp 5) 0, type := 0, pos := "l10_attributes.go:32", after := #[{ on := 8, ground := Go.Ground.guard }], guard := some (8, true) }
abbrev oK10 : Oper := { dst := some 51, op := Go.Op.load 39 (Go.Operand.tmp 50), type := 39, pos := "l10_attributes.go:32", after := #[{ on := 9, ground := Go.Ground.data }, { on := 8, ground := Go.Ground.guard }], guard := some (8, true) }
abbrev oK11 : Oper := { dst := some 52, op := Go.Op.fieldAddr 64 (Go.Operand.tmp 7) 1, type := 0, pos := "l10_attributes.go:32", after := #[{ on := 8, ground := Go.Ground.guard }], guard := some (8, true) }
abbrev oK12 : Oper := { dst := some 53, op := Go.Op.load 3 (Go.Operand.tmp 52), type := 3, pos := "l10_attributes.go:32", after := #[{ on := 11, ground := Go.Ground.data }, { on := 8, ground := Go.Ground.guard }], guard := some (8, true) }
abbrev oK13 : Oper := { dst := some 54, op := Go.Op.indexAddr 39 (Go.Operand.tmp 51) (Go.Operand.tmp 53), type := 0, pos := "l10_attributes.go:32", after := #[{ on := 10, ground := Go.Ground.data }, { on := 12, ground := Go.Ground.data }, { on := 8, ground := Go.Ground.guard }], guard := some (8, true) }
abbrev oK14 : Oper := { dst := some 55, op := Go.Op.fieldAddr 54 (Go.Operand.tmp 54) 2, type := 0, pos := "l10_attributes.go:32", after := #[{ on := 13, ground := Go.Ground.data }, { on := 8, ground := Go.Ground.guard }], guard := some (8, true) }
abbrev oK15 : Oper := { dst := some 56, op := Go.Op.load 4 (Go.Operand.tmp 55), type := 4, pos := "l10_attributes.go:32", after := #[{ on := 14, ground := Go.Ground.data }, { on := 8, ground := Go.Ground.guard }], guard := some (8, true) }
abbrev oK16 : Oper := { dst := some 57, op := Go.Op.fieldAddr 64 (Go.Operand.tmp 7) 0, type := 0, pos := "l10_attributes.go:32", after := #[{ on := 8, ground := Go.Ground.guard }], guard := some (8, true) }
abbrev oK17 : Oper := { dst := some 58, op := Go.Op.load 3 (Go.Operand.tmp 57), type := 3, pos := "l10_attributes.go:32", after := #[{ on := 16, ground := Go.Ground.data }, { on := 8, ground := Go.Ground.guard }], guard := some (8, true) }
abbrev oK18 : Oper := { dst := some 59, op := Go.Op.binOp Go.BinOp.eql 3 (Go.Operand.tmp 58) (Go.Operand.const (Go.Value.int Go.IntKind.i64 0)) 3, type := 4, pos := "l10_attributes.go:32", after := #[{ on := 17, ground := Go.Ground.data }, { on := 8, ground := Go.Ground.guard }], guard := some (8, true) }
abbrev oK19 : Oper := { dst := some 60, op := Go.Op.binOp Go.BinOp.eql 4 (Go.Operand.tmp 56) (Go.Operand.tmp 59) 4, type := 4, pos := "l10_attributes.go:32", after := #[{ on := 15, ground := Go.Ground.data }, { on := 18, ground := Go.Ground.data }, { on := 8, ground := Go.Ground.guard }], guard := some (8, true) }
abbrev oK20 : Oper := { dst := some 61, op := Go.Op.pick (Go.Operand.tmp 49) (Go.Operand.tmp 60) (Go.Operand.const (Go.Value.bool false)), type := 4, pos := "l10_attributes.go:32", after := #[{ on := 8, ground := Go.Ground.data }, { on := 19, ground := Go.Ground.data }], guard := none }
abbrev oK21 : Oper := { dst := some 8, op := Go.Op.assign (Go.Operand.tmp 61), type := 4, pos := "l10_attributes.go:32", after := #[{ on := 20, ground := Go.Ground.data }, { on := 8, ground := Go.Ground.chain }, { on := 0, ground := Go.Ground.phase }, { on := 1, ground := Go.Ground.phase }, { on := 2, ground := Go.Ground.phase }, { on := 3, ground := Go.Ground.phase }, { on := 4, ground := Go.Ground.phase }, { on := 5, ground := Go.Ground.phase }, { on := 6, ground := Go.Ground.phase }, { on := 7, ground := Go.Ground.phase }, { on := 8, ground := Go.Ground.phase }, { on := 9, ground := Go.Ground.phase }, { on := 10, ground := Go.Ground.phase }, { on := 11, ground := Go.Ground.phase }, { on := 12, ground := Go.Ground.phase }, { on := 13, ground := Go.Ground.phase }, { on := 14, ground := Go.Ground.phase }, { on := 15, ground := Go.Ground.phase }, { on := 16, ground := Go.Ground.phase }, { on := 17, ground := Go.Ground.phase }, { on := 18, ground := Go.Ground.phase }, { on := 19, ground := Go.Ground.phase }, { on := 20, ground := Go.Ground.phase }], guard := none }
theorem arg_num {d : Bn} {g : DAg} {p : Int} {r : DRef} (h : r.pos = -1) : argB d g p r = (decide (r.attr = 0) && wiB r.n (-1000000000) 1000000000) := by unfold argB; rw [if_pos h]
theorem arg_bad {d : Bn} {g : DAg} {p : Int} {r : DRef} (h : ¬ r.pos = -1) (h2 : symB d p r.pos < 0 ∨ r.n ≠ 0) : argB d g p r = false := by unfold argB; rw [if_neg h, if_pos h2]
theorem arg_term {d : Bn} {g : DAg} {p : Int} {r : DRef} (h : ¬ r.pos = -1) (h2 : ¬ (symB d p r.pos < 0 ∨ r.n ≠ 0)) (h3 : symB d p r.pos < (d.terms.length : Int)) : argB d g p r = decide (r.attr = 0) := by unfold argB; rw [if_neg h, if_neg h2, if_pos h3]
theorem arg_non {d : Bn} {g : DAg} {p : Int} {r : DRef} (h : ¬ r.pos = -1) (h2 : ¬ (symB d p r.pos < 0 ∨ r.n ≠ 0)) (h3 : ¬ symB d p r.pos < (d.terms.length : Int)) : argB d g p r = (hasB d g p r.pos r.attr && ((atN g r.attr).down == decide (r.pos = 0))) := by unfold argB; rw [if_neg h, if_neg h2, if_neg h3]
theorem has_at {d : Bn} {g : DAg} {p pos x : Int} (h : hasB d g p pos x = true) : ∃ i : Nat, x = (i : Int) ∧ i < g.attrs.length := by
  unfold hasB at h
  rw [Bool.and_eq_true] at h
  have h2 : 0 ≤ x ∧ x ≤ (g.attrs.length : Int) - 1 := by have := h.1; unfold wiB at this; simpa using this
  exact ⟨x.toNat, by omega, by omega⟩
set_option maxHeartbeats 6400000 in
theorem arg22 {S S' : Nat → Prop} (d : Bn) (g : DAg) (v0 v1 v3 u0 u1 : Value) (p : Int) (r : DRef) (w : World) (h : BLies w S d v0 v1 v3) (hg : DAgL w S' g u0 u1) (hsm : ∀ i (hi : i < g.attrs.length), 0 ≤ g.attrs[i].non ∧ g.attrs[i].non ≤ 1000) (hT : d.terms.length ≤ 1000000) :
    Calls Try.prog 22 #[.agg #[v0, v1, .int .i64 d.own, v3], .agg #[u0, u1], .int .i64 p, .agg #[.int .i64 r.pos, .int .i64 r.attr, .int .i64 r.n]] w fun e w' => e = .returned (.bool (argB d g p r)) ∧ Below w.heap.size w w' := by
  have HHA := (show Hid (∀ wq : World, Below w.heap.size w wq → Calls Try.prog 20 #[.agg #[v0, v1, .int .i64 d.own, v3], .agg #[u0, u1], .int .i64 p, .int .i64 r.pos, .int .i64 r.attr] wq fun e w' => e = .returned (.bool (hasB d g p r.pos r.attr)) ∧ Below wq.heap.size wq w') from fun wq hq => has20 d g v0 v1 v3 u0 u1 p r.pos r.attr wq (h.still hq) (hg.still hq) hsm hT)
  obtain ⟨x0, x1, x2, x3, x4, x5, rfl, rfl, rfl⟩ := h.form
  obtain ⟨y0, y1, y2, y3, rfl, rfl⟩ := hg.form
  obtain ⟨a, cap, b, off, hv, hc, hm, ha, hcell⟩ := hg.attrs
  simp only [Value.slice.injEq] at hv
  obtain ⟨rfl, _, rfl⟩ := hv
  have HA := (show Hid _ from ha)
  have HC := (show Hid _ from hcell)
  have hb3 : Below w.heap.size w (((w.alloc (.cells #[.slice x0 d.terms.length x1, .slice x2 d.nons.length x3, .int .i64 d.own, .slice x4 d.prods.length x5] 37)).alloc (.cells #[.slice y0 g.attrs.length y1, .slice y2 g.eqs.length y3] 42)).alloc (.cells #[.int .i64 r.pos, .int .i64 r.attr, .int .i64 r.n] 64)) := bel_trans (bel_trans (bel_alloc _ _) (bel_alloc _ _)) (bel_alloc _ _)
  have hs1 : (w.alloc (.cells #[.slice x0 d.terms.length x1, .slice x2 d.nons.length x3, .int .i64 d.own, .slice x4 d.prods.length x5] 37)).heap.size = w.heap.size + 1 := by simp
  have hs2 : ((w.alloc (.cells #[.slice x0 d.terms.length x1, .slice x2 d.nons.length x3, .int .i64 d.own, .slice x4 d.prods.length x5] 37)).alloc (.cells #[.slice y0 g.attrs.length y1, .slice y2 g.eqs.length y3] 42)).heap.size = w.heap.size + 1 + 1 := by simp
  have B4 := ((Box.new w 37 [.slice x0 d.terms.length x1, .slice x2 d.nons.length x3, .int .i64 d.own, .slice x4 d.prods.length x5]).still (bel_alloc (w.alloc (.cells #[.slice x0 d.terms.length x1, .slice x2 d.nons.length x3, .int .i64 d.own, .slice x4 d.prods.length x5] 37)) (.cells #[.slice y0 g.attrs.length y1, .slice y2 g.eqs.length y3] 42))).still (bel_alloc ((w.alloc (.cells #[.slice x0 d.terms.length x1, .slice x2 d.nons.length x3, .int .i64 d.own, .slice x4 d.prods.length x5] 37)).alloc (.cells #[.slice y0 g.attrs.length y1, .slice y2 g.eqs.length y3] 42)) (.cells #[.int .i64 r.pos, .int .i64 r.attr, .int .i64 r.n] 64))
  have B5 := (Box.new (w.alloc (.cells #[.slice x0 d.terms.length x1, .slice x2 d.nons.length x3, .int .i64 d.own, .slice x4 d.prods.length x5] 37)) 42 [.slice y0 g.attrs.length y1, .slice y2 g.eqs.length y3]).still (bel_alloc ((w.alloc (.cells #[.slice x0 d.terms.length x1, .slice x2 d.nons.length x3, .int .i64 d.own, .slice x4 d.prods.length x5] 37)).alloc (.cells #[.slice y0 g.attrs.length y1, .slice y2 g.eqs.length y3] 42)) (.cells #[.int .i64 r.pos, .int .i64 r.attr, .int .i64 r.n] 64))
  have B7 := Box.new ((w.alloc (.cells #[.slice x0 d.terms.length x1, .slice x2 d.nons.length x3, .int .i64 d.own, .slice x4 d.prods.length x5] 37)).alloc (.cells #[.slice y0 g.attrs.length y1, .slice y2 g.eqs.length y3] 42)) 64 [.int .i64 r.pos, .int .i64 r.attr, .int .i64 r.n]
  rw [hs1] at B5
  rw [hs2] at B7
  have HBX := (show Hid (Box (((w.alloc (.cells #[.slice x0 d.terms.length x1, .slice x2 d.nons.length x3, .int .i64 d.own, .slice x4 d.prods.length x5] 37)).alloc (.cells #[.slice y0 g.attrs.length y1, .slice y2 g.eqs.length y3] 42)).alloc (.cells #[.int .i64 r.pos, .int .i64 r.attr, .int .i64 r.n] 64)) w.heap.size 37 [.slice x0 d.terms.length x1, .slice x2 d.nons.length x3, .int .i64 d.own, .slice x4 d.prods.length x5] ∧ Box (((w.alloc (.cells #[.slice x0 d.terms.length x1, .slice x2 d.nons.length x3, .int .i64 d.own, .slice x4 d.prods.length x5] 37)).alloc (.cells #[.slice y0 g.attrs.length y1, .slice y2 g.eqs.length y3] 42)).alloc (.cells #[.int .i64 r.pos, .int .i64 r.attr, .int .i64 r.n] 64)) (w.heap.size + 1) 42 [.slice y0 g.attrs.length y1, .slice y2 g.eqs.length y3] ∧ Box (((w.alloc (.cells #[.slice x0 d.terms.length x1, .slice x2 d.nons.length x3, .int .i64 d.own, .slice x4 d.prods.length x5] 37)).alloc (.cells #[.slice y0 g.attrs.length y1, .slice y2 g.eqs.length y3] 42)).alloc (.cells #[.int .i64 r.pos, .int .i64 r.attr, .int .i64 r.n] 64)) (w.heap.size + 1 + 1) 64 [.int .i64 r.pos, .int .i64 r.attr, .int .i64 r.n]) from ⟨B4, B5, B7⟩)
  have HBB := (show Hid (Below w.heap.size w (((w.alloc (.cells #[.slice x0 d.terms.length x1, .slice x2 d.nons.length x3, .int .i64 d.own, .slice x4 d.prods.length x5] 37)).alloc (.cells #[.slice y0 g.attrs.length y1, .slice y2 g.eqs.length y3] 42)).alloc (.cells #[.int .i64 r.pos, .int .i64 r.attr, .int .i64 r.n] 64))) from hb3)
  have HBT := (show Hid (∀ (x y z : Int) (wq : World), Calls Try.prog 18 #[.int .i64 x, .int .i64 y, .int .i64 z] wq fun e w' => e = .returned (.bool (wiB x y z)) ∧ w' = wq) from fun x y z wq => between_any x y z wq)
  have HSY := (show Hid (Calls Try.prog 47 #[.agg #[.slice x0 d.terms.length x1, .slice x2 d.nons.length x3, .int .i64 d.own, .slice x4 d.prods.length x5], .int .i64 p, .int .i64 r.pos] (((w.alloc (.cells #[.slice x0 d.terms.length x1, .slice x2 d.nons.length x3, .int .i64 d.own, .slice x4 d.prods.length x5] 37)).alloc (.cells #[.slice y0 g.attrs.length y1, .slice y2 g.eqs.length y3] 42)).alloc (.cells #[.int .i64 r.pos, .int .i64 r.attr, .int .i64 r.n] 64)) fun e w' => e = .returned (.int .i64 (symB d p r.pos)) ∧ Below (((w.alloc (.cells #[.slice x0 d.terms.length x1, .slice x2 d.nons.length x3, .int .i64 d.own, .slice x4 d.prods.length x5] 37)).alloc (.cells #[.slice y0 g.attrs.length y1, .slice y2 g.eqs.length y3] 42)).alloc (.cells #[.int .i64 r.pos, .int .i64 r.attr, .int .i64 r.n] 64)).heap.size (((w.alloc (.cells #[.slice x0 d.terms.length x1, .slice x2 d.nons.length x3, .int .i64 d.own, .slice x4 d.prods.length x5] 37)).alloc (.cells #[.slice y0 g.attrs.length y1, .slice y2 g.eqs.length y3] 42)).alloc (.cells #[.int .i64 r.pos, .int .i64 r.attr, .int .i64 r.n] 64)) w') from sym47 d _ _ _ p r.pos (((w.alloc (.cells #[.slice x0 d.terms.length x1, .slice x2 d.nons.length x3, .int .i64 d.own, .slice x4 d.prods.length x5] 37)).alloc (.cells #[.slice y0 g.attrs.length y1, .slice y2 g.eqs.length y3] 42)).alloc (.cells #[.int .i64 r.pos, .int .i64 r.attr, .int .i64 r.n] 64)) (h.still hb3))
  have p0 : (((w.alloc (.cells #[.slice x0 d.terms.length x1, .slice x2 d.nons.length x3, .int .i64 d.own, .slice x4 d.prods.length x5] 37)).alloc (.cells #[.slice y0 g.attrs.length y1, .slice y2 g.eqs.length y3] 42)).alloc (.cells #[.int .i64 r.pos, .int .i64 r.attr, .int .i64 r.n] 64)).cell? ⟨w.heap.size + 1 + 1, 0, none⟩ = some (.int .i64 r.pos) := B7.cell 0 (by simp)
  have p1 : (((w.alloc (.cells #[.slice x0 d.terms.length x1, .slice x2 d.nons.length x3, .int .i64 d.own, .slice x4 d.prods.length x5] 37)).alloc (.cells #[.slice y0 g.attrs.length y1, .slice y2 g.eqs.length y3] 42)).alloc (.cells #[.int .i64 r.pos, .int .i64 r.attr, .int .i64 r.n] 64)).cell? ⟨w.heap.size + 1 + 1, 1, none⟩ = some (.int .i64 r.attr) := B7.cell 1 (by simp)
  have p2 : (((w.alloc (.cells #[.slice x0 d.terms.length x1, .slice x2 d.nons.length x3, .int .i64 d.own, .slice x4 d.prods.length x5] 37)).alloc (.cells #[.slice y0 g.attrs.length y1, .slice y2 g.eqs.length y3] 42)).alloc (.cells #[.int .i64 r.pos, .int .i64 r.attr, .int .i64 r.n] 64)).cell? ⟨w.heap.size + 1 + 1, 2, none⟩ = some (.int .i64 r.n) := B7.cell 2 (by simp)
  have q0 : (((w.alloc (.cells #[.slice x0 d.terms.length x1, .slice x2 d.nons.length x3, .int .i64 d.own, .slice x4 d.prods.length x5] 37)).alloc (.cells #[.slice y0 g.attrs.length y1, .slice y2 g.eqs.length y3] 42)).alloc (.cells #[.int .i64 r.pos, .int .i64 r.attr, .int .i64 r.n] 64)).cell? ⟨w.heap.size, 0, none⟩ = some (.slice x0 d.terms.length x1) := B4.cell 0 (by simp)
  have q1 : (((w.alloc (.cells #[.slice x0 d.terms.length x1, .slice x2 d.nons.length x3, .int .i64 d.own, .slice x4 d.prods.length x5] 37)).alloc (.cells #[.slice y0 g.attrs.length y1, .slice y2 g.eqs.length y3] 42)).alloc (.cells #[.int .i64 r.pos, .int .i64 r.attr, .int .i64 r.n] 64)).cell? ⟨w.heap.size, 1, none⟩ = some (.slice x2 d.nons.length x3) := B4.cell 1 (by simp)
  have q2 : (((w.alloc (.cells #[.slice x0 d.terms.length x1, .slice x2 d.nons.length x3, .int .i64 d.own, .slice x4 d.prods.length x5] 37)).alloc (.cells #[.slice y0 g.attrs.length y1, .slice y2 g.eqs.length y3] 42)).alloc (.cells #[.int .i64 r.pos, .int .i64 r.attr, .int .i64 r.n] 64)).cell? ⟨w.heap.size, 2, none⟩ = some (.int .i64 d.own) := B4.cell 2 (by simp)
  have q3 : (((w.alloc (.cells #[.slice x0 d.terms.length x1, .slice x2 d.nons.length x3, .int .i64 d.own, .slice x4 d.prods.length x5] 37)).alloc (.cells #[.slice y0 g.attrs.length y1, .slice y2 g.eqs.length y3] 42)).alloc (.cells #[.int .i64 r.pos, .int .i64 r.attr, .int .i64 r.n] 64)).cell? ⟨w.heap.size, 3, none⟩ = some (.slice x4 d.prods.length x5) := B4.cell 3 (by simp)
  clear B4 B5 B7 hb3 ha hcell hs1 hs2 h hg
  by_cases h1 : r.pos = -1
  · have HE := (show Hid _ from arg_num (d := d) (g := g) (p := p) h1)
    have HB1 := (show Hid _ from HBT.out r.n (-1000000000) 1000000000)
    have k1 : (r.pos == -1) = true := by simp [h1]
    by_cases h2 : r.attr = 0
    · have k2 : (r.attr == 0) = true := by simp [h2]
      rw [decide_eq_true h2, Bool.true_and] at HE
      clear HHA HSY HC HA h1 h2
      go_enter Try.func22, Try.ntmps22
      go_wp2_with fail
      refine Calls.mono (HB1.out _) ?_
      rintro e w2 ⟨rfl, rfl⟩
      go_wp2_with fail
      go_ret
      exact ⟨by rw [HE.out]; rfl, HBB.out⟩
    · have k2 : (r.attr == 0) = false := by simpa using h2
      rw [decide_eq_false h2, Bool.false_and] at HE
      clear HHA HSY HC HA h1 h2
      go_enter Try.func22, Try.ntmps22
      go_wp2_with fail
      go_ret
      exact ⟨by rw [HE.out]; rfl, HBB.out⟩
  have k1 : (r.pos == -1) = false := by simpa using h1
  have HBX2 := (show Hid (∀ wq : World, Below (((w.alloc (.cells #[.slice x0 d.terms.length x1, .slice x2 d.nons.length x3, .int .i64 d.own, .slice x4 d.prods.length x5] 37)).alloc (.cells #[.slice y0 g.attrs.length y1, .slice y2 g.eqs.length y3] 42)).alloc (.cells #[.int .i64 r.pos, .int .i64 r.attr, .int .i64 r.n] 64)).heap.size (((w.alloc (.cells #[.slice x0 d.terms.length x1, .slice x2 d.nons.length x3, .int .i64 d.own, .slice x4 d.prods.length x5] 37)).alloc (.cells #[.slice y0 g.attrs.length y1, .slice y2 g.eqs.length y3] 42)).alloc (.cells #[.int .i64 r.pos, .int .i64 r.attr, .int .i64 r.n] 64)) wq → wq.cell? ⟨w.heap.size, 0, none⟩ = some (.slice x0 d.terms.length x1) ∧ wq.cell? ⟨w.heap.size, 1, none⟩ = some (.slice x2 d.nons.length x3) ∧ wq.cell? ⟨w.heap.size, 2, none⟩ = some (.int .i64 d.own) ∧ wq.cell? ⟨w.heap.size, 3, none⟩ = some (.slice x4 d.prods.length x5) ∧ wq.cell? ⟨w.heap.size + 1, 0, none⟩ = some (.slice y0 g.attrs.length y1) ∧ wq.cell? ⟨w.heap.size + 1, 1, none⟩ = some (.slice y2 g.eqs.length y3) ∧ wq.cell? ⟨w.heap.size + 1 + 1, 0, none⟩ = some (.int .i64 r.pos) ∧ wq.cell? ⟨w.heap.size + 1 + 1, 1, none⟩ = some (.int .i64 r.attr) ∧ wq.cell? ⟨w.heap.size + 1 + 1, 2, none⟩ = some (.int .i64 r.n)) from fun wq hq => ⟨(HBX.out.1.still hq).cell 0 (by simp), (HBX.out.1.still hq).cell 1 (by simp), (HBX.out.1.still hq).cell 2 (by simp), (HBX.out.1.still hq).cell 3 (by simp), (HBX.out.2.1.still hq).cell 0 (by simp), (HBX.out.2.1.still hq).cell 1 (by simp), (HBX.out.2.2.still hq).cell 0 (by simp), (HBX.out.2.2.still hq).cell 1 (by simp), (HBX.out.2.2.still hq).cell 2 (by simp)⟩)
  by_cases h2 : symB d p r.pos < 0 ∨ r.n ≠ 0
  · have HE := (show Hid _ from arg_bad (d := d) (g := g) (p := p) h1 h2)
    clear HHA HC HA h1
    generalize symB d p r.pos = sy at *
    by_cases h3 : sy < 0
    · go_enter Try.func22, Try.ntmps22
      go_wp2_with fail
      refine Calls.mono HSY.out ?_
      rintro e w2 ⟨rfl, hb2⟩
      have HB2 := (show Hid _ from bel_trans HBB.out hb2)
      clear hb2 HSY
      go_wp2_with fail
      go_ret
      exact ⟨by rw [HE.out]; rfl, HB2.out⟩
    · have h4 : r.n ≠ 0 := by rcases h2 with h | h; (exact absurd h h3); exact h
      have k4 : (r.n != 0) = true := by simpa using h4
      go_enter Try.func22, Try.ntmps22
      go_wp2_with fail
      refine Calls.mono HSY.out ?_
      rintro e w2 ⟨rfl, hb2⟩
      have HB2 := (show Hid _ from bel_trans HBB.out hb2)
      obtain ⟨_, _, _, _, _, _, _, _, m2⟩ := HBX2.out w2 hb2
      clear hb2 HSY
      go_wp2_with fail
      go_ret
      exact ⟨by rw [HE.out]; rfl, HB2.out⟩
  have h3 : ¬ symB d p r.pos < 0 := fun h => h2 (.inl h)
  have h4 : r.n = 0 := Classical.byContradiction fun h => h2 (.inr h)
  have k4 : (r.n != 0) = false := by simp [h4]
  clear h4
  by_cases h5 : symB d p r.pos < (d.terms.length : Int)
  · have HE := (show Hid _ from arg_term (d := d) (g := g) (p := p) h1 h2 h5)
    clear HHA HC HA h1 h2
    generalize symB d p r.pos = sy at *
    by_cases h6 : r.attr = 0
    all_goals
      have k6 : (r.attr == 0) = decide (r.attr = 0) := by rw [Bool.eq_iff_iff]; simp
      first | rw [decide_eq_true h6] at HE k6 | rw [decide_eq_false h6] at HE k6
      clear h6
      go_enter Try.func22, Try.ntmps22
      go_wp2_with fail
      refine Calls.mono HSY.out ?_
      rintro e w2 ⟨rfl, hb2⟩
      have HB2 := (show Hid _ from bel_trans HBB.out hb2)
      obtain ⟨m0, _, _, _, _, _, _, m1, m2⟩ := HBX2.out w2 hb2
      clear hb2 HSY
      go_wp2_with fail
      go_ret
      exact ⟨by rw [HE.out]; rfl, HB2.out⟩
  have HE := (show Hid _ from arg_non (d := d) (g := g) (p := p) h1 h2 h5)
  clear h1 h2
  cases hh : hasB d g p r.pos r.attr
  · rw [hh] at HE HHA
    rw [Bool.false_and] at HE
    clear hh HC HA
    generalize symB d p r.pos = sy at *
    go_enter Try.func22, Try.ntmps22
    go_wp2_with fail
    refine Calls.mono HSY.out ?_
    rintro e w2 ⟨rfl, hb2⟩
    have HB2 := (show Hid (Below w.heap.size w w2) from bel_trans HBB.out hb2)
    obtain ⟨m0, _, _, _, _, _, _, m1, m2⟩ := HBX2.out w2 hb2
    have hd0 : Below w2.heap.size w2 w2.drew := (Below.refl _ _).drew
    have HDD := (show Hid _ from hd0)
    have HDW := (show Hid (Below w.heap.size w w2.drew) from bel_trans HB2.out hd0)
    have HC7 := (show Hid _ from HHA.out w2.drew HDW.out)
    have HSK := (show Hid (∀ wq : World, Below w2.heap.size w2 wq → wq.cell? ⟨w.heap.size, 0, none⟩ = some (.slice x0 d.terms.length x1) ∧ wq.cell? ⟨w.heap.size, 1, none⟩ = some (.slice x2 d.nons.length x3) ∧ wq.cell? ⟨w.heap.size, 2, none⟩ = some (.int .i64 d.own) ∧ wq.cell? ⟨w.heap.size, 3, none⟩ = some (.slice x4 d.prods.length x5) ∧ wq.cell? ⟨w.heap.size + 1, 0, none⟩ = some (.slice y0 g.attrs.length y1) ∧ wq.cell? ⟨w.heap.size + 1, 1, none⟩ = some (.slice y2 g.eqs.length y3) ∧ wq.cell? ⟨w.heap.size + 1 + 1, 0, none⟩ = some (.int .i64 r.pos) ∧ wq.cell? ⟨w.heap.size + 1 + 1, 1, none⟩ = some (.int .i64 r.attr) ∧ wq.cell? ⟨w.heap.size + 1 + 1, 2, none⟩ = some (.int .i64 r.n)) from fun wq hq => HBX2.out wq (bel_trans hb2 hq))
    have hS0 := HSK.out _ hd0
    clear hb2 HSY hd0
    go_wp2_with fail
    refine wp_region_held_drew (S := fun wq => wq.cell? ⟨w.heap.size, 0, none⟩ = some (.slice x0 d.terms.length x1) ∧ wq.cell? ⟨w.heap.size, 1, none⟩ = some (.slice x2 d.nons.length x3) ∧ wq.cell? ⟨w.heap.size, 2, none⟩ = some (.int .i64 d.own) ∧ wq.cell? ⟨w.heap.size, 3, none⟩ = some (.slice x4 d.prods.length x5) ∧ wq.cell? ⟨w.heap.size + 1, 0, none⟩ = some (.slice y0 g.attrs.length y1) ∧ wq.cell? ⟨w.heap.size + 1, 1, none⟩ = some (.slice y2 g.eqs.length y3) ∧ wq.cell? ⟨w.heap.size + 1 + 1, 0, none⟩ = some (.int .i64 r.pos) ∧ wq.cell? ⟨w.heap.size + 1 + 1, 1, none⟩ = some (.int .i64 r.attr) ∧ wq.cell? ⟨w.heap.size + 1 + 1, 2, none⟩ = some (.int .i64 r.n)) (by kernel_rfl) hS0 (fun hHeld => ?_)
    refine wpAnyH_take (i := 0) (oi := oK0) (v := ?v1) rfl (by kernel_rfl) (by kernel_rfl) (by kernel_rfl) (fun _ _ _ h => h) (Or.inl ⟨by rfl, ?h1⟩) hHeld ?r1
    case h1 => (intro w hSw; (try dsimp only at hSw); go_simp; try with_reducible rfl)
    try simp only [Act.put, List.setIfInBounds_toArray, List.set_cons_zero, List.set_cons_succ]
    refine wpAnyH_take (i := 1) (oi := oK1) (v := ?v2) rfl (by kernel_rfl) (by kernel_rfl) (by kernel_rfl) (fun _ _ _ h => h) (Or.inl ⟨by rfl, ?h2⟩) hHeld ?r2
    case h2 => (intro w hSw; (try dsimp only at hSw); go_simp; try with_reducible rfl)
    try simp only [Act.put, List.setIfInBounds_toArray, List.set_cons_zero, List.set_cons_succ]
    refine wpAnyH_take (i := 2) (oi := oK2) (v := ?v3) rfl (by kernel_rfl) (by kernel_rfl) (by kernel_rfl) (fun _ _ _ h => h) (Or.inl ⟨by rfl, ?h3⟩) hHeld ?r3
    case h3 => (intro w hSw; (try dsimp only at hSw); go_simp; try with_reducible rfl)
    try simp only [Act.put, List.setIfInBounds_toArray, List.set_cons_zero, List.set_cons_succ]
    refine wpAnyH_take (i := 3) (oi := oK3) (v := ?v4) rfl (by kernel_rfl) (by kernel_rfl) (by kernel_rfl) (fun _ _ _ h => h) (Or.inl ⟨by rfl, ?h4⟩) hHeld ?r4
    case h4 => (intro w hSw; (try dsimp only at hSw); go_simp; try with_reducible rfl)
    try simp only [Act.put, List.setIfInBounds_toArray, List.set_cons_zero, List.set_cons_succ]
    refine wpAnyH_take (i := 4) (oi := oK4) (v := ?v5) rfl (by kernel_rfl) (by kernel_rfl) (by kernel_rfl) (fun _ _ _ h => h) (Or.inl ⟨by rfl, ?h5⟩) hHeld ?r5
    case h5 => (intro w hSw; (try dsimp only at hSw); go_simp; try with_reducible rfl)
    try simp only [Act.put, List.setIfInBounds_toArray, List.set_cons_zero, List.set_cons_succ]
    refine wpAnyH_take (i := 5) (oi := oK5) (v := ?v6) rfl (by kernel_rfl) (by kernel_rfl) (by kernel_rfl) (fun _ _ _ h => h) (Or.inl ⟨by rfl, ?h6⟩) hHeld ?r6
    case h6 => (intro w hSw; (try dsimp only at hSw); go_simp; try with_reducible rfl)
    try simp only [Act.put, List.setIfInBounds_toArray, List.set_cons_zero, List.set_cons_succ]
    refine wpAnyH_take (i := 6) (oi := oK6) (v := ?v7) rfl (by kernel_rfl) (by kernel_rfl) (by kernel_rfl) (fun _ _ _ h => h) (Or.inl ⟨by rfl, ?h7⟩) hHeld ?r7
    case h7 => (intro w hSw; (try dsimp only at hSw); go_simp; try with_reducible rfl)
    try simp only [Act.put, List.setIfInBounds_toArray, List.set_cons_zero, List.set_cons_succ]
    refine wpAnyH_ready (rs := [7]) (by kernel_rfl) (by simp) ?_
    refine (AllReadyH.cons (o := oK7) rfl (fun K hK => ?_) AllReadyH.nil)
    go_simp
    refine Calls.mono HC7.out ?_
    rintro e w4 ⟨rfl, hb4⟩
    dsimp only
    have hS1 := HSK.out w4 (bel_trans HDD.out hb4)
    have HB4 := (show Hid (Below w.heap.size w w4) from bel_trans HDW.out hb4)
    clear hHeld
    refine hK.out _ _ (hS1) (fun hHeld => ?_)
    clear hK K
    try simp only [Act.put, List.setIfInBounds_toArray, List.set_cons_zero, List.set_cons_succ]
    refine wpAnyH_take (i := 8) (oi := oK8) (v := ?v8) rfl (by kernel_rfl) (by kernel_rfl) (by kernel_rfl) (fun _ _ _ h => h) (Or.inl ⟨by rfl, ?h8⟩) hHeld ?r8
    case h8 => (intro w hSw; (try dsimp only at hSw); go_simp; try with_reducible rfl)
    try simp only [Act.put, List.setIfInBounds_toArray, List.set_cons_zero, List.set_cons_succ]
    refine wpAnyH_take (i := 9) (oi := oK9) (v := undef) rfl (by kernel_rfl) (by kernel_rfl) (by kernel_rfl) (fun _ _ _ h => h) (Or.inr ⟨by rfl, rfl⟩) hHeld ?_
    try simp only [Act.put, List.setIfInBounds_toArray, List.set_cons_zero, List.set_cons_succ]
    refine wpAnyH_take (i := 10) (oi := oK10) (v := undef) rfl (by kernel_rfl) (by kernel_rfl) (by kernel_rfl) (fun _ _ _ h => h) (Or.inr ⟨by rfl, rfl⟩) hHeld ?_
    try simp only [Act.put, List.setIfInBounds_toArray, List.set_cons_zero, List.set_cons_succ]
    refine wpAnyH_take (i := 11) (oi := oK11) (v := undef) rfl (by kernel_rfl) (by kernel_rfl) (by kernel_rfl) (fun _ _ _ h => h) (Or.inr ⟨by rfl, rfl⟩) hHeld ?_
    try simp only [Act.put, List.setIfInBounds_toArray, List.set_cons_zero, List.set_cons_succ]
    refine wpAnyH_take (i := 12) (oi := oK12) (v := undef) rfl (by kernel_rfl) (by kernel_rfl) (by kernel_rfl) (fun _ _ _ h => h) (Or.inr ⟨by rfl, rfl⟩) hHeld ?_
    try simp only [Act.put, List.setIfInBounds_toArray, List.set_cons_zero, List.set_cons_succ]
    refine wpAnyH_take (i := 13) (oi := oK13) (v := undef) rfl (by kernel_rfl) (by kernel_rfl) (by kernel_rfl) (fun _ _ _ h => h) (Or.inr ⟨by rfl, rfl⟩) hHeld ?_
    try simp only [Act.put, List.setIfInBounds_toArray, List.set_cons_zero, List.set_cons_succ]
    refine wpAnyH_take (i := 14) (oi := oK14) (v := undef) rfl (by kernel_rfl) (by kernel_rfl) (by kernel_rfl) (fun _ _ _ h => h) (Or.inr ⟨by rfl, rfl⟩) hHeld ?_
    try simp only [Act.put, List.setIfInBounds_toArray, List.set_cons_zero, List.set_cons_succ]
    refine wpAnyH_take (i := 15) (oi := oK15) (v := undef) rfl (by kernel_rfl) (by kernel_rfl) (by kernel_rfl) (fun _ _ _ h => h) (Or.inr ⟨by rfl, rfl⟩) hHeld ?_
    try simp only [Act.put, List.setIfInBounds_toArray, List.set_cons_zero, List.set_cons_succ]
    refine wpAnyH_take (i := 16) (oi := oK16) (v := undef) rfl (by kernel_rfl) (by kernel_rfl) (by kernel_rfl) (fun _ _ _ h => h) (Or.inr ⟨by rfl, rfl⟩) hHeld ?_
    try simp only [Act.put, List.setIfInBounds_toArray, List.set_cons_zero, List.set_cons_succ]
    refine wpAnyH_take (i := 17) (oi := oK17) (v := undef) rfl (by kernel_rfl) (by kernel_rfl) (by kernel_rfl) (fun _ _ _ h => h) (Or.inr ⟨by rfl, rfl⟩) hHeld ?_
    try simp only [Act.put, List.setIfInBounds_toArray, List.set_cons_zero, List.set_cons_succ]
    refine wpAnyH_take (i := 18) (oi := oK18) (v := undef) rfl (by kernel_rfl) (by kernel_rfl) (by kernel_rfl) (fun _ _ _ h => h) (Or.inr ⟨by rfl, rfl⟩) hHeld ?_
    try simp only [Act.put, List.setIfInBounds_toArray, List.set_cons_zero, List.set_cons_succ]
    refine wpAnyH_take (i := 19) (oi := oK19) (v := undef) rfl (by kernel_rfl) (by kernel_rfl) (by kernel_rfl) (fun _ _ _ h => h) (Or.inr ⟨by rfl, rfl⟩) hHeld ?_
    try simp only [Act.put, List.setIfInBounds_toArray, List.set_cons_zero, List.set_cons_succ]
    refine wpAnyH_take (i := 20) (oi := oK20) (v := ?v9) rfl (by kernel_rfl) (by kernel_rfl) (by kernel_rfl) (fun _ _ _ h => h) (Or.inl ⟨by rfl, ?h9⟩) hHeld ?r9
    case h9 => (intro w hSw; (try dsimp only at hSw); go_simp; try with_reducible rfl)
    try simp only [Act.put, List.setIfInBounds_toArray, List.set_cons_zero, List.set_cons_succ]
    refine wpAnyH_ready (rs := [21]) (by kernel_rfl) (by simp) ?_
    refine (AllReadyH.cons (o := oK21) rfl (fun K hK => ?_) AllReadyH.nil)
    go_simp
    clear hHeld
    refine hK.out _ _ (hS1) (fun hHeld => ?_)
    clear hK K
    try simp only [Act.put, List.setIfInBounds_toArray, List.set_cons_zero, List.set_cons_succ]
    refine wpAnyH_done (by kernel_rfl) ?_ _
    (try refine NoPanic.normal ?_)
    go_wp2_with fail
    go_ret
    exact ⟨by rw [HE.out]; rfl, HB4.out⟩
  · obtain ⟨i, hxi, hi⟩ := has_at hh
    rw [hh] at HE HHA
    rw [Bool.true_and, hxi, atN_eq hi] at HE
    obtain ⟨rfl, _⟩ := HA.out (by omega)
    obtain ⟨_, _, cd, _⟩ := HC.out i hi
    generalize r.attr = ra at *
    subst hxi
    have i1 : (0 : Int) ≤ (i : Int) := by omega
    have i2 : (i : Int) < (g.attrs.length : Int) := by omega
    have HCD := (show Hid _ from cd)
    clear hh HC HA cd
    generalize symB d p r.pos = sy at *
    generalize g.attrs[i].down = dn at *
    have k7 : (r.pos == 0) = decide (r.pos = 0) := by rw [Bool.eq_iff_iff]; simp
    generalize decide (r.pos = 0) = pz at *
    go_enter Try.func22, Try.ntmps22
    go_wp2_with fail
    refine Calls.mono HSY.out ?_
    rintro e w2 ⟨rfl, hb2⟩
    have HB2 := (show Hid (Below w.heap.size w w2) from bel_trans HBB.out hb2)
    obtain ⟨m0, _, _, _, _, _, _, m1, m2⟩ := HBX2.out w2 hb2
    have hd0 : Below w2.heap.size w2 w2.drew := (Below.refl _ _).drew
    have HDD := (show Hid _ from hd0)
    have HDW := (show Hid (Below w.heap.size w w2.drew) from bel_trans HB2.out hd0)
    have HC7 := (show Hid _ from HHA.out w2.drew HDW.out)
    have HSK := (show Hid (∀ wq : World, Below w2.heap.size w2 wq → wq.cell? ⟨w.heap.size, 0, none⟩ = some (.slice x0 d.terms.length x1) ∧ wq.cell? ⟨w.heap.size, 1, none⟩ = some (.slice x2 d.nons.length x3) ∧ wq.cell? ⟨w.heap.size, 2, none⟩ = some (.int .i64 d.own) ∧ wq.cell? ⟨w.heap.size, 3, none⟩ = some (.slice x4 d.prods.length x5) ∧ wq.cell? ⟨w.heap.size + 1, 0, none⟩ = some (.slice (some ⟨b, off, none⟩) g.attrs.length y1) ∧ wq.cell? ⟨w.heap.size + 1, 1, none⟩ = some (.slice y2 g.eqs.length y3) ∧ wq.cell? ⟨w.heap.size + 1 + 1, 0, none⟩ = some (.int .i64 r.pos) ∧ wq.cell? ⟨w.heap.size + 1 + 1, 1, none⟩ = some (.int .i64 (i : Int)) ∧ wq.cell? ⟨w.heap.size + 1 + 1, 2, none⟩ = some (.int .i64 r.n) ∧ wq.cell? ⟨b, off + i * 3 + 2, none⟩ = some (.bool dn)) from fun wq hq => ⟨(HBX2.out wq (bel_trans hb2 hq)).1, (HBX2.out wq (bel_trans hb2 hq)).2.1, (HBX2.out wq (bel_trans hb2 hq)).2.2.1, (HBX2.out wq (bel_trans hb2 hq)).2.2.2.1, (HBX2.out wq (bel_trans hb2 hq)).2.2.2.2.1, (HBX2.out wq (bel_trans hb2 hq)).2.2.2.2.2.1, (HBX2.out wq (bel_trans hb2 hq)).2.2.2.2.2.2.1, (HBX2.out wq (bel_trans hb2 hq)).2.2.2.2.2.2.2.1, (HBX2.out wq (bel_trans hb2 hq)).2.2.2.2.2.2.2.2, ((bel_trans HB2.out hq).cell (lt_of_cell HCD.out)).trans HCD.out⟩)
    have hS0 := HSK.out _ hd0
    clear hb2 HSY hd0
    go_wp2_with fail
    refine wp_region_held_drew (S := fun wq => wq.cell? ⟨w.heap.size, 0, none⟩ = some (.slice x0 d.terms.length x1) ∧ wq.cell? ⟨w.heap.size, 1, none⟩ = some (.slice x2 d.nons.length x3) ∧ wq.cell? ⟨w.heap.size, 2, none⟩ = some (.int .i64 d.own) ∧ wq.cell? ⟨w.heap.size, 3, none⟩ = some (.slice x4 d.prods.length x5) ∧ wq.cell? ⟨w.heap.size + 1, 0, none⟩ = some (.slice (some ⟨b, off, none⟩) g.attrs.length y1) ∧ wq.cell? ⟨w.heap.size + 1, 1, none⟩ = some (.slice y2 g.eqs.length y3) ∧ wq.cell? ⟨w.heap.size + 1 + 1, 0, none⟩ = some (.int .i64 r.pos) ∧ wq.cell? ⟨w.heap.size + 1 + 1, 1, none⟩ = some (.int .i64 (i : Int)) ∧ wq.cell? ⟨w.heap.size + 1 + 1, 2, none⟩ = some (.int .i64 r.n) ∧ wq.cell? ⟨b, off + i * 3 + 2, none⟩ = some (.bool dn)) (by kernel_rfl) hS0 (fun hHeld => ?_)
    refine wpAnyH_take (i := 0) (oi := oK0) (v := ?v601) rfl (by kernel_rfl) (by kernel_rfl) (by kernel_rfl) (fun _ _ _ h => h) (Or.inl ⟨by rfl, ?h601⟩) hHeld ?r601
    case h601 => (intro w hSw; (try dsimp only at hSw); go_simp; try with_reducible rfl)
    try simp only [Act.put, List.setIfInBounds_toArray, List.set_cons_zero, List.set_cons_succ]
    refine wpAnyH_take (i := 1) (oi := oK1) (v := ?v602) rfl (by kernel_rfl) (by kernel_rfl) (by kernel_rfl) (fun _ _ _ h => h) (Or.inl ⟨by rfl, ?h602⟩) hHeld ?r602
    case h602 => (intro w hSw; (try dsimp only at hSw); go_simp; try with_reducible rfl)
    try simp only [Act.put, List.setIfInBounds_toArray, List.set_cons_zero, List.set_cons_succ]
    refine wpAnyH_take (i := 2) (oi := oK2) (v := ?v603) rfl (by kernel_rfl) (by kernel_rfl) (by kernel_rfl) (fun _ _ _ h => h) (Or.inl ⟨by rfl, ?h603⟩) hHeld ?r603
    case h603 => (intro w hSw; (try dsimp only at hSw); go_simp; try with_reducible rfl)
    try simp only [Act.put, List.setIfInBounds_toArray, List.set_cons_zero, List.set_cons_succ]
    refine wpAnyH_take (i := 3) (oi := oK3) (v := ?v604) rfl (by kernel_rfl) (by kernel_rfl) (by kernel_rfl) (fun _ _ _ h => h) (Or.inl ⟨by rfl, ?h604⟩) hHeld ?r604
    case h604 => (intro w hSw; (try dsimp only at hSw); go_simp; try with_reducible rfl)
    try simp only [Act.put, List.setIfInBounds_toArray, List.set_cons_zero, List.set_cons_succ]
    refine wpAnyH_take (i := 4) (oi := oK4) (v := ?v605) rfl (by kernel_rfl) (by kernel_rfl) (by kernel_rfl) (fun _ _ _ h => h) (Or.inl ⟨by rfl, ?h605⟩) hHeld ?r605
    case h605 => (intro w hSw; (try dsimp only at hSw); go_simp; try with_reducible rfl)
    try simp only [Act.put, List.setIfInBounds_toArray, List.set_cons_zero, List.set_cons_succ]
    refine wpAnyH_take (i := 5) (oi := oK5) (v := ?v606) rfl (by kernel_rfl) (by kernel_rfl) (by kernel_rfl) (fun _ _ _ h => h) (Or.inl ⟨by rfl, ?h606⟩) hHeld ?r606
    case h606 => (intro w hSw; (try dsimp only at hSw); go_simp; try with_reducible rfl)
    try simp only [Act.put, List.setIfInBounds_toArray, List.set_cons_zero, List.set_cons_succ]
    refine wpAnyH_take (i := 6) (oi := oK6) (v := ?v607) rfl (by kernel_rfl) (by kernel_rfl) (by kernel_rfl) (fun _ _ _ h => h) (Or.inl ⟨by rfl, ?h607⟩) hHeld ?r607
    case h607 => (intro w hSw; (try dsimp only at hSw); go_simp; try with_reducible rfl)
    try simp only [Act.put, List.setIfInBounds_toArray, List.set_cons_zero, List.set_cons_succ]
    refine wpAnyH_ready (rs := [7]) (by kernel_rfl) (by simp) ?_
    refine (AllReadyH.cons (o := oK7) rfl (fun K hK => ?_) AllReadyH.nil)
    go_simp
    refine Calls.mono HC7.out ?_
    rintro e w4 ⟨rfl, hb4⟩
    dsimp only
    have hS1 := HSK.out w4 (bel_trans HDD.out hb4)
    have HB4 := (show Hid (Below w.heap.size w w4) from bel_trans HDW.out hb4)
    clear hHeld
    refine hK.out _ _ (hS1) (fun hHeld => ?_)
    clear hK K
    try simp only [Act.put, List.setIfInBounds_toArray, List.set_cons_zero, List.set_cons_succ]
    refine wpAnyH_take (i := 8) (oi := oK8) (v := ?v608) rfl (by kernel_rfl) (by kernel_rfl) (by kernel_rfl) (fun _ _ _ h => h) (Or.inl ⟨by rfl, ?h608⟩) hHeld ?r608
    case h608 => (intro w hSw; (try dsimp only at hSw); go_simp; try with_reducible rfl)
    try simp only [Act.put, List.setIfInBounds_toArray, List.set_cons_zero, List.set_cons_succ]
    refine wpAnyH_take (i := 9) (oi := oK9) (v := ?v609) rfl (by kernel_rfl) (by kernel_rfl) (by kernel_rfl) (fun _ _ _ h => h) (Or.inl ⟨by rfl, ?h609⟩) hHeld ?r609
    case h609 => (intro w hSw; (try dsimp only at hSw); go_simp; try with_reducible rfl)
    try simp only [Act.put, List.setIfInBounds_toArray, List.set_cons_zero, List.set_cons_succ]
    refine wpAnyH_take (i := 10) (oi := oK10) (v := ?v610) rfl (by kernel_rfl) (by kernel_rfl) (by kernel_rfl) (fun _ _ _ h => h) (Or.inl ⟨by rfl, ?h610⟩) hHeld ?r610
    case h610 => (intro w hSw; (try dsimp only at hSw); go_simp; try with_reducible rfl)
    try simp only [Act.put, List.setIfInBounds_toArray, List.set_cons_zero, List.set_cons_succ]
    refine wpAnyH_take (i := 11) (oi := oK11) (v := ?v611) rfl (by kernel_rfl) (by kernel_rfl) (by kernel_rfl) (fun _ _ _ h => h) (Or.inl ⟨by rfl, ?h611⟩) hHeld ?r611
    case h611 => (intro w hSw; (try dsimp only at hSw); go_simp; try with_reducible rfl)
    try simp only [Act.put, List.setIfInBounds_toArray, List.set_cons_zero, List.set_cons_succ]
    refine wpAnyH_take (i := 12) (oi := oK12) (v := ?v612) rfl (by kernel_rfl) (by kernel_rfl) (by kernel_rfl) (fun _ _ _ h => h) (Or.inl ⟨by rfl, ?h612⟩) hHeld ?r612
    case h612 => (intro w hSw; (try dsimp only at hSw); go_simp; try with_reducible rfl)
    try simp only [Act.put, List.setIfInBounds_toArray, List.set_cons_zero, List.set_cons_succ]
    refine wpAnyH_take (i := 13) (oi := oK13) (v := ?v613) rfl (by kernel_rfl) (by kernel_rfl) (by kernel_rfl) (fun _ _ _ h => h) (Or.inl ⟨by rfl, ?h613⟩) hHeld ?r613
    case h613 => (intro w hSw; (try dsimp only at hSw); go_simp; try with_reducible rfl)
    try simp only [Act.put, List.setIfInBounds_toArray, List.set_cons_zero, List.set_cons_succ]
    refine wpAnyH_take (i := 14) (oi := oK14) (v := ?v614) rfl (by kernel_rfl) (by kernel_rfl) (by kernel_rfl) (fun _ _ _ h => h) (Or.inl ⟨by rfl, ?h614⟩) hHeld ?r614
    case h614 => (intro w hSw; (try dsimp only at hSw); go_simp; try with_reducible rfl)
    try simp only [Act.put, List.setIfInBounds_toArray, List.set_cons_zero, List.set_cons_succ]
    refine wpAnyH_take (i := 15) (oi := oK15) (v := ?v615) rfl (by kernel_rfl) (by kernel_rfl) (by kernel_rfl) (fun _ _ _ h => h) (Or.inl ⟨by rfl, ?h615⟩) hHeld ?r615
    case h615 => (intro w hSw; (try dsimp only at hSw); go_simp; try with_reducible rfl)
    try simp only [Act.put, List.setIfInBounds_toArray, List.set_cons_zero, List.set_cons_succ]
    refine wpAnyH_take (i := 16) (oi := oK16) (v := ?v616) rfl (by kernel_rfl) (by kernel_rfl) (by kernel_rfl) (fun _ _ _ h => h) (Or.inl ⟨by rfl, ?h616⟩) hHeld ?r616
    case h616 => (intro w hSw; (try dsimp only at hSw); go_simp; try with_reducible rfl)
    try simp only [Act.put, List.setIfInBounds_toArray, List.set_cons_zero, List.set_cons_succ]
    refine wpAnyH_take (i := 17) (oi := oK17) (v := ?v617) rfl (by kernel_rfl) (by kernel_rfl) (by kernel_rfl) (fun _ _ _ h => h) (Or.inl ⟨by rfl, ?h617⟩) hHeld ?r617
    case h617 => (intro w hSw; (try dsimp only at hSw); go_simp; try with_reducible rfl)
    try simp only [Act.put, List.setIfInBounds_toArray, List.set_cons_zero, List.set_cons_succ]
    refine wpAnyH_take (i := 18) (oi := oK18) (v := ?v618) rfl (by kernel_rfl) (by kernel_rfl) (by kernel_rfl) (fun _ _ _ h => h) (Or.inl ⟨by rfl, ?h618⟩) hHeld ?r618
    case h618 => (intro w hSw; (try dsimp only at hSw); go_simp; try with_reducible rfl)
    try simp only [Act.put, List.setIfInBounds_toArray, List.set_cons_zero, List.set_cons_succ]
    refine wpAnyH_take (i := 19) (oi := oK19) (v := ?v619) rfl (by kernel_rfl) (by kernel_rfl) (by kernel_rfl) (fun _ _ _ h => h) (Or.inl ⟨by rfl, ?h619⟩) hHeld ?r619
    case h619 => (intro w hSw; (try dsimp only at hSw); go_simp; try with_reducible rfl)
    try simp only [Act.put, List.setIfInBounds_toArray, List.set_cons_zero, List.set_cons_succ]
    refine wpAnyH_take (i := 20) (oi := oK20) (v := ?v620) rfl (by kernel_rfl) (by kernel_rfl) (by kernel_rfl) (fun _ _ _ h => h) (Or.inl ⟨by rfl, ?h620⟩) hHeld ?r620
    case h620 => (intro w hSw; (try dsimp only at hSw); go_simp; try with_reducible rfl)
    try simp only [Act.put, List.setIfInBounds_toArray, List.set_cons_zero, List.set_cons_succ]
    refine wpAnyH_ready (rs := [21]) (by kernel_rfl) (by simp) ?_
    refine (AllReadyH.cons (o := oK21) rfl (fun K hK => ?_) AllReadyH.nil)
    go_simp
    clear hHeld
    refine hK.out _ _ (hS1) (fun hHeld => ?_)
    clear hK K
    try simp only [Act.put, List.setIfInBounds_toArray, List.set_cons_zero, List.set_cons_succ]
    refine wpAnyH_done (by kernel_rfl) ?_ _
    (try refine NoPanic.normal ?_)
    go_wp2_with fail
    go_ret
    exact ⟨by rw [HE.out]; rfl, HB4.out⟩
end Go.Proofs.Ytnmdgbnbnpibhaa
