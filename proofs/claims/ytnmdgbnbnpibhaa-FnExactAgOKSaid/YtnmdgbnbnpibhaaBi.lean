import Derived.Test.YtnmdgbnbnpibhaaBh
import Derived.Deep.RegionHeld3
import Derived.BigQuiet
import Derived.Deep.QuietTactic
/-! The specification: AgOK where an Eq is not right. -/
namespace Go.Proofs.Ytnmdgbnbnpibhaa
open Go.RowKit Go.Deep
set_option linter.unusedVariables false
set_option maxRecDepth 100000
set_option linter.unusedSimpArgs false

abbrev oE0 : Oper := { dst := some 94, op := Go.Op.load 37 (Go.Operand.tmp 2), type := 37, pos := "l10_attributes.go:79", after := #[], guard := none }
abbrev oE1 : Oper := { dst := some 95, op := Go.Op.load 42 (Go.Operand.tmp 3), type := 42, pos := "l10_attributes.go:79", after := #[], guard := none }
abbrev oE2 : Oper := { dst := some 96, op := Go.Op.fieldAddr 59 (Go.Operand.tmp 9) 0, type := 0, pos := "l10_attributes.go:79", after := #[], guard := none }
abbrev oE3 : Oper := { dst := some 97, op := Go.Op.load 3 (Go.Operand.tmp 96), type := 3, pos := "l10_attributes.go:79", after := #[{ on := 2, ground := Go.Ground.data }], guard := none }
abbrev oE4 : Oper := { dst := some 98, op := Go.Op.fieldAddr 59 (Go.Operand.tmp 9) 1, type := 0, pos := "l10_attributes.go:79", after := #[], guard := none }
abbrev oE5 : Oper := { dst := some 99, op := Go.Op.load 3 (Go.Operand.tmp 98), type := 3, pos := "l10_attributes.go:79", after := #[{ on := 4, ground := Go.Ground.data }], guard := none }
abbrev oE6 : Oper := { dst := some 100, op := Go.Op.fieldAddr 59 (Go.Operand.tmp 9) 2, type := 0, pos := "l10_attributes.go:79", after := #[], guard := none }
abbrev oE7 : Oper := { dst := some 101, op := Go.Op.load 3 (Go.Operand.tmp 100), type := 3, pos := "l10_attributes.go:79", after := #[{ on := 6, ground := Go.Ground.data }], guard := none }
abbrev oE8 : Oper := { dst := some 102, op := Go.Op.call { callee := Go.Callee.value (Go.Operand.func 20), args := #[Go.Operand.tmp 94, Go.Operand.tmp 95, Go.Operand.tmp 97, Go.Operand.tmp 99, Go.Operand.tmp 101], argTypes := #[37, 42, 3, 3, 3] }, type := 4, pos := "l10_attributes.go:79", after := #[{ on := 0, ground := Go.Ground.data }, { on := 1, ground := Go.Ground.data }, { on := 3, ground := Go.Ground.data }, { on := 5, ground := Go.Ground.data }, { on := 7, ground := Go.Ground.data }], guard := none }
abbrev oE9 : Oper := { dst := some 103, op := Go.Op.unOp Go.UnOp.not 4 (Go.Operand.tmp 102), type := 4, pos := "l10_attributes.go:79", after := #[{ on := 8, ground := Go.Ground.data }], guard := none }
abbrev oE10 : Oper := { dst := some 104, op := Go.Op.move (Go.Operand.tmp 103), type := 4, pos := "l10_attributes.go:79", after := #[{ on := 9, ground := Go.Ground.data }, { on := 8, ground := Go.Ground.chain }], guard := none }
abbrev oE11 : Oper := { dst := some 105, op := Go.Op.fieldAddr 42 (Go.Operand.tmp 3) 0, type := 0, pos := "l10_attributes.go:79", after := #[{ on := 10, ground := Go.Ground.guard }], guard := some (10, false) }
abbrev oE12 : Oper := { dst := some 106, op := Go.Op.load 39 (Go.Operand.tmp 105), type := 39, pos := "l10_attributes.go:79", after := #[{ on := 11, ground := Go.Ground.data }, { on := 10, ground := Go.Ground.guard }], guard := some (10, false) }
abbrev oE13 : Oper := { dst := some 107, op := Go.Op.fieldAddr 59 (Go.Operand.tmp 9) 2, type := 0, pos := "l10_attributes.go:79", after := #[{ on := 10, ground := Go.Ground.guard }], guard := some (10, false) }
abbrev oE14 : Oper := { dst := some 108, op := Go.Op.load 3 (Go.Operand.tmp 107), type := 3, pos := "l10_attributes.go:79", after := #[{ on := 13, ground := Go.Ground.data }, { on := 10, ground := Go.Ground.guard }], guard := some (10, false) }
abbrev oE15 : Oper := { dst := some 109, op := Go.Op.indexAddr 39 (Go.Operand.tmp 106) (Go.Operand.tmp 108), type := 0, pos := "l10_attributes.go:79", after := #[{ on := 12, ground := Go.Ground.data }, { on := 14, ground := Go.Ground.data }, { on := 10, ground := Go.Ground.guard }], guard := some (10, false) }
abbrev oE16 : Oper := { dst := some 110, op := Go.Op.fieldAddr 54 (Go.Operand.tmp 109) 2, type := 0, pos := "l10_attributes.go:79", after := #[{ on := 15, ground := Go.Ground.data }, { on := 10, ground := Go.Ground.guard }], guard := some (10, false) }
abbrev oE17 : Oper := { dst := some 111, op := Go.Op.load 4 (Go.Operand.tmp 110), type := 4, pos := "l10_attributes.go:79", after := #[{ on := 16, ground := Go.Ground.data }, { on := 10, ground := Go.Ground.guard }], guard := some (10, false) }
abbrev oE18 : Oper := { dst := some 112, op := Go.Op.fieldAddr 59 (Go.Operand.tmp 9) 1, type := 0, pos := "l10_attributes.go:79", after := #[{ on := 10, ground := Go.Ground.guard }], guard := some (10, false) }
abbrev oE19 : Oper := { dst := some 113, op := Go.Op.load 3 (Go.Operand.tmp 112), type := 3, pos := "l10_attributes.go:79", after := #[{ on := 18, ground := Go.Ground.data }, { on := 10, ground := Go.Ground.guard }], guard := some (10, false) }
abbrev oE20 : Oper := { dst := some 114, op := Go.Op.binOp Go.BinOp.eql 3 (Go.Operand.tmp 113) (Go.Operand.const (Go.Value.int Go.IntKind.i64 0)) 3, type := 4, pos := "l10_attributes.go:79", after := #[{ on := 19, ground := Go.Ground.data }, { on := 10, ground := Go.Ground.guard }], guard := some (10, false) }
abbrev oE21 : Oper := { dst := some 115, op := Go.Op.binOp Go.BinOp.eql 4 (Go.Operand.tmp 111) (Go.Operand.tmp 114) 4, type := 4, pos := "l10_attributes.go:79", after := #[{ on := 17, ground := Go.Ground.data }, { on := 20, ground := Go.Ground.data }, { on := 10, ground := Go.Ground.guard }], guard := some (10, false) }
abbrev oE22 : Oper := { dst := some 116, op := Go.Op.pick (Go.Operand.tmp 104) (Go.Operand.const (Go.Value.bool true)) (Go.Operand.tmp 115), type := 4, pos := "l10_attributes.go:79", after := #[{ on := 10, ground := Go.Ground.data }, { on := 21, ground := Go.Ground.data }], guard := none }
abbrev oE23 : Oper := { dst := some 117, op := Go.Op.move (Go.Operand.tmp 116), type := 4, pos := "l10_attributes.go:79", after := #[{ on := 22, ground := Go.Ground.data }, { on := 10, ground := Go.Ground.chain }], guard := none }
abbrev oE24 : Oper := { dst := some 118, op := Go.Op.fieldAddr 59 (Go.Operand.tmp 9) 3, type := 0, pos := "l10_attributes.go:79", after := #[{ on := 23, ground := Go.Ground.guard }], guard := some (23, false) }
abbrev oE25 : Oper := { dst := some 119, op := Go.Op.load 3 (Go.Operand.tmp 118), type := 3, pos := "l10_attributes.go:79", after := #[{ on := 24, ground := Go.Ground.data }, { on := 23, ground := Go.Ground.guard }], guard := some (23, false) }
abbrev oE26 : Oper := { dst := some 120, op := Go.Op.call { callee := Go.Callee.value (Go.Operand.func 21), args := #[Go.Operand.tmp 119], argTypes := #[3] }, type := 3, pos := "l10_attributes.go:79", after := #[{ on := 25, ground := Go.Ground.data }, { on := 23, ground := Go.Ground.chain }, { on := 23, ground := Go.Ground.guard }], guard := some (23, false) }
abbrev oE27 : Oper := { dst := some 121, op := Go.Op.fieldAddr 59 (Go.Operand.tmp 9) 4, type := 0, pos := "l10_attributes.go:79", after := #[{ on := 23, ground := Go.Ground.guard }], guard := some (23, false) }
abbrev oE28 : Oper := { dst := some 122, op := Go.Op.load 57 (Go.Operand.tmp 121), type := 57, pos := "l10_attributes.go:79", after := #[{ on := 27, ground := Go.Ground.data }, { on := 23, ground := Go.Ground.guard }], guard := some (23, false) }
abbrev oE29 : Oper := { dst := some 123, op := Go.Op.call { callee := Go.Callee.builtin Go.Builtin.len, args := #[Go.Operand.tmp 122], argTypes := #[57] }, type := 3, pos := "l10_attributes.go:79", after := #[{ on := 28, ground := Go.Ground.data }, { on := 23, ground := Go.Ground.guard }], guard := some (23, false) }
abbrev oE30 : Oper := { dst := some 124, op := Go.Op.binOp Go.BinOp.neq 3 (Go.Operand.tmp 120) (Go.Operand.tmp 123) 3, type := 4, pos := "l10_attributes.go:79", after := #[{ on := 26, ground := Go.Ground.data }, { on := 29, ground := Go.Ground.data }, { on := 23, ground := Go.Ground.guard }], guard := some (23, false) }
abbrev oE31 : Oper := { dst := some 125, op := Go.Op.pick (Go.Operand.tmp 117) (Go.Operand.const (Go.Value.bool true)) (Go.Operand.tmp 124), type := 4, pos := "l10_attributes.go:79", after := #[{ on := 23, ground := Go.Ground.data }, { on := 30, ground := Go.Ground.data }], guard := none }
abbrev oF0 : Oper := { dst := some 133, op := Go.Op.load 37 (Go.Operand.tmp 2), type := 37, pos := "l10_attributes.go:83", after := #[], guard := none }
abbrev oF1 : Oper := { dst := some 134, op := Go.Op.load 42 (Go.Operand.tmp 3), type := 42, pos := "l10_attributes.go:83", after := #[], guard := none }
abbrev oF2 : Oper := { dst := some 135, op := Go.Op.fieldAddr 59 (Go.Operand.tmp 9) 0, type := 0, pos := "l10_attributes.go:83", after := #[], guard := none }
abbrev oF3 : Oper := { dst := some 136, op := Go.Op.load 3 (Go.Operand.tmp 135), type := 3, pos := "l10_attributes.go:83", after := #[{ on := 2, ground := Go.Ground.data }], guard := none }
abbrev oF4 : Oper := { dst := some 137, op := Go.Op.fieldAddr 59 (Go.Operand.tmp 9) 4, type := 0, pos := "l10_attributes.go:83", after := #[], guard := none }
abbrev oF5 : Oper := { dst := some 138, op := Go.Op.load 57 (Go.Operand.tmp 137), type := 57, pos := "l10_attributes.go:83", after := #[{ on := 4, ground := Go.Ground.data }], guard := none }
abbrev oF6 : Oper := { dst := some 139, op := Go.Op.move (Go.Operand.tmp 10), type := 3, pos := "l10_attributes.go:83", after := #[], guard := none }
abbrev oF7 : Oper := { dst := some 140, op := Go.Op.indexAddr 57 (Go.Operand.tmp 138) (Go.Operand.tmp 139), type := 0, pos := "l10_attributes.go:83", after := #[{ on := 5, ground := Go.Ground.data }, { on := 6, ground := Go.Ground.data }], guard := none }
abbrev oF8 : Oper := { dst := some 141, op := Go.Op.load 64 (Go.Operand.tmp 140), type := 64, pos := "l10_attributes.go:83", after := #[{ on := 7, ground := Go.Ground.data }], guard := none }
abbrev oF9 : Oper := { dst := some 142, op := Go.Op.call { callee := Go.Callee.value (Go.Operand.func 22), args := #[Go.Operand.tmp 133, Go.Operand.tmp 134, Go.Operand.tmp 136, Go.Operand.tmp 141], argTypes := #[37, 42, 3, 64] }, type := 4, pos := "l10_attributes.go:83", after := #[{ on := 0, ground := Go.Ground.data }, { on := 1, ground := Go.Ground.data }, { on := 3, ground := Go.Ground.data }, { on := 8, ground := Go.Ground.data }], guard := none }
abbrev oF10 : Oper := { dst := some 143, op := Go.Op.unOp Go.UnOp.not 4 (Go.Operand.tmp 142), type := 4, pos := "l10_attributes.go:83", after := #[{ on := 9, ground := Go.Ground.data }], guard := none }
theorem att_all {d : Bn} {g : DAg} {i : Nat} (hi : i < g.attrs.length) (h : attB d g i = true) : wiB g.attrs[i].non 0 ((d.nons.length : Int) - 1) = true ∧ nmB g.attrs[i].name = true ∧ ∀ k (hk : k < i), ¬ (g.attrs[k].non = g.attrs[i].non ∧ g.attrs[k].name = g.attrs[i].name) := by
  refine ⟨?_, ?_, fun k hk hh => ?_⟩
  · cases e : wiB g.attrs[i].non 0 ((d.nons.length : Int) - 1)
    · rw [att_no_non hi e] at h; exact h
    · rfl
  · cases e : nmB g.attrs[i].name
    · rw [att_no_name hi e] at h; exact h
    · rfl
  · rw [att_no_same hk hi hh.1 hh.2] at h; exact absurd h (by simp)
theorem eq_no_has {d : Bn} {g : DAg} {e : DEq} (h : hasB d g e.prod e.pos e.attr = false) : eqB d g e = false := by unfold eqB; rw [h]; rfl
theorem eq_no_dn {d : Bn} {g : DAg} {e : DEq} (h : ((atN g e.attr).down == decide (e.pos = 0)) = true) : eqB d g e = false := by unfold eqB; rw [h]; simp
theorem eq_no_n {d : Bn} {g : DAg} {e : DEq} (h : ¬ argN e.op = (e.args.length : Int)) : eqB d g e = false := by unfold eqB; rw [decide_eq_false h]; simp
theorem eq_no_arg {d : Bn} {g : DAg} {e : DEq} (k : Nat) (hk : k < e.args.length) (h : argB d g e.prod e.args[k] = false) : eqB d g e = false := by
  have : e.args.all (argB d g e.prod) = false := List.all_eq_false.2 ⟨e.args[k], List.getElem_mem hk, by simp [h]⟩
  unfold eqB; rw [this]; simp
theorem eq_yes {d : Bn} {g : DAg} {e : DEq} (h1 : hasB d g e.prod e.pos e.attr = true) (h2 : ((atN g e.attr).down == decide (e.pos = 0)) = false) (h3 : argN e.op = (e.args.length : Int)) (h4 : ∀ k (hk : k < e.args.length), argB d g e.prod e.args[k] = true) : eqB d g e = true := by
  have : e.args.all (argB d g e.prod) = true := List.all_eq_true.2 fun x hx => by
    obtain ⟨i, hi, rfl⟩ := List.mem_iff_getElem.1 hx
    exact h4 i hi
  unfold eqB; rw [h1, h2, decide_eq_true h3, this]; rfl
set_option maxHeartbeats 6400000 in
theorem ag6_eq {S S' : Nat → Prop} (d : Bn) (g : DAg) (v0 v1 v3 u0 u1 : Value) (w : World) (h : BLies w S d v0 v1 v3) (hg : DAgL w S' g u0 u1) (hbn : bnB d = true) (hA : g.attrs.length ≤ 20) (hE : g.eqs.length ≤ 300) (hat : ∀ i, i < g.attrs.length → attB d g i = true) (hno : ¬ ∀ i (hi : i < g.eqs.length), eqB d g g.eqs[i] = true) :
    Calls Try.prog 6 #[.agg #[v0, v1, .int .i64 d.own, v3], .agg #[u0, u1]] w fun e w' => e = .returned (.bool (agB d g)) ∧ Below w.heap.size w w' := by
  obtain ⟨x0, x1, x2, x3, x4, x5, rfl, rfl, rfl⟩ := h.form
  obtain ⟨y0, y1, y2, y3, rfl, rfl⟩ := hg.form
  obtain ⟨dT, dN, dP⟩ := bn_is hbn
  have hb2 : Below w.heap.size w ((w.alloc (.cells #[.slice x0 d.terms.length x1, .slice x2 d.nons.length x3, .int .i64 d.own, .slice x4 d.prods.length x5] 37)).alloc (.cells #[.slice y0 g.attrs.length y1, .slice y2 g.eqs.length y3] 42)) := bel_trans (bel_alloc _ _) (bel_alloc _ _)
  have hs1 : (w.alloc (.cells #[.slice x0 d.terms.length x1, .slice x2 d.nons.length x3, .int .i64 d.own, .slice x4 d.prods.length x5] 37)).heap.size = w.heap.size + 1 := by simp
  have B4 := (Box.new w 37 [.slice x0 d.terms.length x1, .slice x2 d.nons.length x3, .int .i64 d.own, .slice x4 d.prods.length x5]).still (bel_alloc (w.alloc (.cells #[.slice x0 d.terms.length x1, .slice x2 d.nons.length x3, .int .i64 d.own, .slice x4 d.prods.length x5] 37)) (.cells #[.slice y0 g.attrs.length y1, .slice y2 g.eqs.length y3] 42))
  have B5 := Box.new (w.alloc (.cells #[.slice x0 d.terms.length x1, .slice x2 d.nons.length x3, .int .i64 d.own, .slice x4 d.prods.length x5] 37)) 42 [.slice y0 g.attrs.length y1, .slice y2 g.eqs.length y3]
  rw [hs1] at B5
  have HQ := (show Hid (∀ wq : World, Below ((w.alloc (.cells #[.slice x0 d.terms.length x1, .slice x2 d.nons.length x3, .int .i64 d.own, .slice x4 d.prods.length x5] 37)).alloc (.cells #[.slice y0 g.attrs.length y1, .slice y2 g.eqs.length y3] 42)).heap.size ((w.alloc (.cells #[.slice x0 d.terms.length x1, .slice x2 d.nons.length x3, .int .i64 d.own, .slice x4 d.prods.length x5] 37)).alloc (.cells #[.slice y0 g.attrs.length y1, .slice y2 g.eqs.length y3] 42)) wq → wq.cell? ⟨w.heap.size, 0, none⟩ = some (.slice x0 d.terms.length x1) ∧ wq.cell? ⟨w.heap.size, 1, none⟩ = some (.slice x2 d.nons.length x3) ∧ wq.cell? ⟨w.heap.size, 2, none⟩ = some (.int .i64 d.own) ∧ wq.cell? ⟨w.heap.size, 3, none⟩ = some (.slice x4 d.prods.length x5) ∧ wq.cell? ⟨w.heap.size + 1, 0, none⟩ = some (.slice y0 g.attrs.length y1) ∧ wq.cell? ⟨w.heap.size + 1, 1, none⟩ = some (.slice y2 g.eqs.length y3)) from fun wq hq => ⟨(B4.still hq).cell 0 (by simp), (B4.still hq).cell 1 (by simp), (B4.still hq).cell 2 (by simp), (B4.still hq).cell 3 (by simp), (B5.still hq).cell 0 (by simp), (B5.still hq).cell 1 (by simp)⟩)
  obtain ⟨q0, q1, q2, q3, r0, r1⟩ := HQ.out _ (Below.refl _ _)
  have HBB := (show Hid (Below w.heap.size w ((w.alloc (.cells #[.slice x0 d.terms.length x1, .slice x2 d.nons.length x3, .int .i64 d.own, .slice x4 d.prods.length x5] 37)).alloc (.cells #[.slice y0 g.attrs.length y1, .slice y2 g.eqs.length y3] 42))) from hb2)
  have HBN := (show Hid (Calls Try.prog 17 #[.agg #[.slice x0 d.terms.length x1, .slice x2 d.nons.length x3, .int .i64 d.own, .slice x4 d.prods.length x5]] ((w.alloc (.cells #[.slice x0 d.terms.length x1, .slice x2 d.nons.length x3, .int .i64 d.own, .slice x4 d.prods.length x5] 37)).alloc (.cells #[.slice y0 g.attrs.length y1, .slice y2 g.eqs.length y3] 42)) fun e w' => e = .returned (.bool (bnB d)) ∧ Below ((w.alloc (.cells #[.slice x0 d.terms.length x1, .slice x2 d.nons.length x3, .int .i64 d.own, .slice x4 d.prods.length x5] 37)).alloc (.cells #[.slice y0 g.attrs.length y1, .slice y2 g.eqs.length y3] 42)).heap.size ((w.alloc (.cells #[.slice x0 d.terms.length x1, .slice x2 d.nons.length x3, .int .i64 d.own, .slice x4 d.prods.length x5] 37)).alloc (.cells #[.slice y0 g.attrs.length y1, .slice y2 g.eqs.length y3] 42)) w') from sBnf_any d _ _ _ ((w.alloc (.cells #[.slice x0 d.terms.length x1, .slice x2 d.nons.length x3, .int .i64 d.own, .slice x4 d.prods.length x5] 37)).alloc (.cells #[.slice y0 g.attrs.length y1, .slice y2 g.eqs.length y3] 42)) (h.still hb2))
  have HT1 := (show Hid (∀ (x y z : Int) (wq : World), Calls Try.prog 18 #[.int .i64 x, .int .i64 y, .int .i64 z] wq fun e w' => e = .returned (.bool (wiB x y z)) ∧ w' = wq) from fun x y z wq => between_any x y z wq)
  have HT2 := (show Hid (∀ (s : ByteArray) (_ : s.size ≤ maxLen) (wq : World), Calls Try.prog 19 #[.string s] wq fun e w' => e = .returned (.bool (nmB s)) ∧ w' = wq) from fun s hs wq => sName s hs wq)
  rw [hbn] at HBN
  have HAT := (show Hid _ from fun i hi => att_all hi (hat i hi))
  have hsm : ∀ i (hi : i < g.attrs.length), 0 ≤ g.attrs[i].non ∧ g.attrs[i].non ≤ 1000 := fun i hi => att_non hi dN (hat i hi)
  have HHA := (show Hid (∀ (p pos x : Int) (wq : World), Below w.heap.size w wq → Calls Try.prog 20 #[.agg #[.slice x0 d.terms.length x1, .slice x2 d.nons.length x3, .int .i64 d.own, .slice x4 d.prods.length x5], .agg #[.slice y0 g.attrs.length y1, .slice y2 g.eqs.length y3], .int .i64 p, .int .i64 pos, .int .i64 x] wq fun e w' => e = .returned (.bool (hasB d g p pos x)) ∧ Below wq.heap.size wq w') from fun p pos x wq hq => has20 d g _ _ _ _ _ p pos x wq (h.still hq) (hg.still hq) hsm (by omega))
  have HAR := (show Hid (∀ (p : Int) (r : DRef) (wq : World), Below w.heap.size w wq → Calls Try.prog 22 #[.agg #[.slice x0 d.terms.length x1, .slice x2 d.nons.length x3, .int .i64 d.own, .slice x4 d.prods.length x5], .agg #[.slice y0 g.attrs.length y1, .slice y2 g.eqs.length y3], .int .i64 p, .agg #[.int .i64 r.pos, .int .i64 r.attr, .int .i64 r.n]] wq fun e w' => e = .returned (.bool (argB d g p r)) ∧ Below wq.heap.size wq w') from fun p r wq hq => arg22 d g _ _ _ _ _ p r wq (h.still hq) (hg.still hq) hsm (by omega))
  have HEL := (show Hid (EqR w S' g.eqs (.slice y2 g.eqs.length y3)) from hg.eqs)
  clear hsm hat
  obtain ⟨a, cap, b, off, hv, hc, hm, ha, hcell⟩ := hg.attrs
  simp only [Value.slice.injEq] at hv
  obtain ⟨rfl, _, rfl⟩ := hv
  have HA := (show Hid _ from ha)
  have HC := (show Hid _ from hcell)
  clear B4 B5 hb2 hs1 h hg ha hcell hbn
  go_enter Try.func6, Try.ntmps6
  go_wp2_with fail
  refine Calls.mono HBN.out ?_
  rintro e w2 ⟨rfl, hb2⟩
  clear q0 q1 q2 q3 r0 r1 HBN
  obtain ⟨q0, q1, q2, q3, r0, r1⟩ := HQ.out _ hb2
  go_wp2_with fail
  clear q0 q1 q2 q3 r0 r1
  generalize ((w.alloc (.cells #[.slice x0 d.terms.length x1, .slice x2 d.nons.length x3, .int .i64 d.own, .slice x4 d.prods.length x5] 37)).alloc (.cells #[.slice y0 g.attrs.length y1, .slice y2 g.eqs.length y3] 42)) = W at *
  go_loopw [5, 7] (fun i k wr => ∃ j : Nat, i = .int .i64 j ∧ j ≤ g.attrs.length ∧ Below W.heap.size W wr) (fun i _ _ => g.attrs.length - (intOf i).toNat)
  case atStart => exact ⟨0, rfl, Nat.zero_le _, hb2⟩
  case round =>
    clear hb2
    obtain ⟨j, rfl, hj, hbel⟩ := hrel
    obtain ⟨q0, q1, q2, q3, r0, r1⟩ := HQ.out _ hbel
    have HBW := (show Hid (Below w.heap.size w wr) from bel_trans HBB.out hbel)
    by_cases hlt : j < g.attrs.length
    · obtain ⟨rfl, _⟩ := HA.out (by omega)
      obtain ⟨c0, c1, c2, hs⟩ := HC.out j hlt
      rw [← HBW.out.cell (lt_of_cell c0)] at c0
      rw [← HBW.out.cell (lt_of_cell c1)] at c1
      rw [← HBW.out.cell (lt_of_cell c2)] at c2
      have i1 : (0 : Int) ≤ (j : Int) := by omega
      have i2 : (j : Int) < (g.attrs.length : Int) := by omega
      have HN1 := (show Hid _ from fun wq => HT1.out g.attrs[j].non 0 ((d.nons.length : Int) - 1) wq)
      have HN2 := (show Hid _ from fun wq => HT2.out g.attrs[j].name hs wq)
      obtain ⟨_, q1', _, _, _, _⟩ := HQ.out _ (bel_trans hbel (bel_alloc wr (.cells #[.int .i64 g.attrs[j].non, .string g.attrs[j].name, .bool g.attrs[j].down] 54)))
      have HBX := (show Hid (∀ o, Below w.heap.size w (wr.alloc o)) from fun o => bel_trans HBW.out (bel_alloc _ _))
      obtain ⟨hw, hn, hsame⟩ := HAT.out j hlt
      have HY := (show Hid _ from hsame)
      rw [hw] at HN1
      rw [hn] at HN2
      clear hw hn hsame
      go_wp2_with fail
      refine Calls.mono (HN1.out _) ?_
      rintro e w3 ⟨rfl, rfl⟩
      go_wp2_with fail
      refine Calls.mono (HN2.out _) ?_
      rintro e w3 ⟨rfl, rfl⟩
      go_wp2_with fail
      clear q0 q1 q1' q2 q3 r0 r1 c0 c1 c2 HN1 HN2
      have hbl : Below W.heap.size W (wr.alloc (.cells #[.int .i64 g.attrs[j].non, .string g.attrs[j].name, .bool g.attrs[j].down] 54)) := bel_trans hbel (bel_alloc _ _)
      have HV := (show Hid (∀ wq : World, Below (wr.alloc (.cells #[.int .i64 g.attrs[j].non, .string g.attrs[j].name, .bool g.attrs[j].down] 54)).heap.size (wr.alloc (.cells #[.int .i64 g.attrs[j].non, .string g.attrs[j].name, .bool g.attrs[j].down] 54)) wq → wq.cell? ⟨wr.heap.size, 0, none⟩ = some (.int .i64 g.attrs[j].non) ∧ wq.cell? ⟨wr.heap.size, 1, none⟩ = some (.string g.attrs[j].name)) from fun wq hq => ⟨((Box.new wr 54 [.int .i64 g.attrs[j].non, .string g.attrs[j].name, .bool g.attrs[j].down]).still hq).cell 0 (by simp), ((Box.new wr 54 [.int .i64 g.attrs[j].non, .string g.attrs[j].name, .bool g.attrs[j].down]).still hq).cell 1 (by simp)⟩)
      generalize hW1 : wr.alloc (.cells #[.int .i64 g.attrs[j].non, .string g.attrs[j].name, .bool g.attrs[j].down] 54) = W1 at *
      have HL := (show Hid (Below W.heap.size W W1) from hbl)
      clear hbl hbel hW1 HBX HBW
      go_loopw [7] (fun i wq => ∃ k : Nat, i = .int .i64 k ∧ k ≤ j ∧ Below W1.heap.size W1 wq) (fun i _ => j - (intOf i).toNat)
      case atStart => exact ⟨0, rfl, Nat.zero_le _, Below.refl _ _⟩
      case round =>
        obtain ⟨k, rfl, hk, hbq⟩ := hrel
        have hbw : Below W.heap.size W wr := bel_trans HL.out hbq
        obtain ⟨q0, q1, q2, q3, r0, r1⟩ := HQ.out _ hbw
        obtain ⟨s0, s1⟩ := HV.out _ hbq
        have HB1 := (show Hid (∀ m, Below W1.heap.size W1 (wr.drewN m)) from fun m => bel_drewS hbq m)
        by_cases hkj : k < j
        · have hkl : k < g.attrs.length := by omega
          obtain ⟨c0, c1, c2, hs2⟩ := HC.out k hkl
          rw [← (bel_trans HBB.out hbw).cell (lt_of_cell c0)] at c0
          rw [← (bel_trans HBB.out hbw).cell (lt_of_cell c1)] at c1
          clear c2 hbw
          have k1 : (0 : Int) ≤ (k : Int) := by omega
          have k2 : (k : Int) < (g.attrs.length : Int) := by omega
          by_cases he : g.attrs[k].non = g.attrs[j].non
          · have hbe := ne_bytes (fun e2 => HY.out k hkj ⟨he, e2⟩)
            rw [he] at c0
            clear he
            go_wp2_with fail
            go_quiet (fail)
            go_wp2_with fail
            exact ⟨⟨k + 1, by go_num, by omega, HB1.out _⟩, by simp [intOf]; omega⟩
          · have hbe : (g.attrs[k].non == g.attrs[j].non) = false := by simpa using he
            clear he
            go_wp2_with fail
            go_quiet (fail)
            go_wp2_with fail
            exact ⟨⟨k + 1, by go_num, by omega, HB1.out _⟩, by simp [intOf]; omega⟩
        · have hkj' : k = j := by omega
          have HW := (show Hid (Below W.heap.size W wr) from hbw)
          clear hkj' hbw
          go_wp2_with fail
          exact ⟨⟨j + 1, by go_num, by omega, HW.out⟩, by simp [intOf]; omega⟩
    · have HW1 := (show Hid (Below W.heap.size W wr) from hbel)
      clear HBW
      go_wp2_with fail
      clear q0 q1 q2 q3 r0 r1 hbel
      go_loopw [8] (fun i wr => ∃ j : Nat, i = .int .i64 j ∧ j ≤ g.eqs.length ∧ Below W.heap.size W wr ∧ Hid (∀ i (hi : i < g.eqs.length), i < j → eqB d g g.eqs[i] = true)) (fun i _ => g.eqs.length - (intOf i).toNat)
      case atStart => exact ⟨0, rfl, Nat.zero_le _, HW1.out, fun i hi h0 => absurd h0 (Nat.not_lt_zero _)⟩
      case round =>
        clear HW1
        obtain ⟨j, rfl, hj, hbel, HX⟩ := hrel
        obtain ⟨q0, q1, q2, q3, r0, r1⟩ := HQ.out _ hbel
        have HBW := (show Hid (Below w.heap.size w wr) from bel_trans HBB.out hbel)
        by_cases hlt : j < g.eqs.length
        · obtain ⟨a2, cap2, b2, off2, s4, hv2, hc2, hm2, ha2, hcell2, hrr2⟩ := HEL.out
          simp only [Value.slice.injEq] at hv2
          obtain ⟨rfl, _, rfl⟩ := hv2
          obtain ⟨rfl, _⟩ := ha2 (by omega)
          obtain ⟨c0, c1, c2, c3, c4⟩ := hcell2 j hlt
          obtain ⟨ra, rc, rb, roff, hrv, hrc, hrm, hra, hrcell⟩ := hrr2 j hlt
          rw [hrv] at c4
          rw [← HBW.out.cell (lt_of_cell c0)] at c0
          rw [← HBW.out.cell (lt_of_cell c1)] at c1
          rw [← HBW.out.cell (lt_of_cell c2)] at c2
          rw [← HBW.out.cell (lt_of_cell c3)] at c3
          rw [← HBW.out.cell (lt_of_cell c4)] at c4
          unfold maxLen at hrm
          have HRA := (show Hid _ from hra)
          have HRC := (show Hid _ from hrcell)
          clear ha2 hcell2 hrr2 hra hrcell hrv
          have i1 : (0 : Int) ≤ (j : Int) := by omega
          have i2 : (j : Int) < (g.eqs.length : Int) := by omega
          have HHE := (show Hid _ from HHA.out g.eqs[j].prod g.eqs[j].pos g.eqs[j].attr)
          have HRE := (show Hid _ from HAR.out g.eqs[j].prod)
          have H21 := (show Hid (∀ wq : World, Calls Try.prog 21 #[.int .i64 g.eqs[j].op] wq fun e w' => e = .returned (.int .i64 (argN g.eqs[j].op)) ∧ w' = wq) from fun wq => args21 _ wq)
          have HF := (show Hid (eqB d g g.eqs[j] = false → agB d g = false) from ag_no_eq j hlt)
          have E1 := (show Hid _ from eq_no_has (d := d) (g := g) (e := g.eqs[j]))
          have E2 := (show Hid _ from eq_no_dn (d := d) (g := g) (e := g.eqs[j]))
          have E3 := (show Hid _ from eq_no_n (d := d) (g := g) (e := g.eqs[j]))
          have E4 := (show Hid _ from eq_no_arg (d := d) (g := g) (e := g.eqs[j]))
          have E5 := (show Hid _ from eq_yes (d := d) (g := g) (e := g.eqs[j]))
          have HNX := (show Hid (eqB d g g.eqs[j] = true → ∀ i (hi : i < g.eqs.length), i < j + 1 → eqB d g g.eqs[i] = true) from fun hh i hi hij => by
            by_cases e : i = j
            · subst e; exact hh
            · exact HX.out i hi (by omega))
          clear HX
          generalize eqB d g g.eqs[j] = ee at *
          generalize g.eqs[j].prod = ep at *
          generalize g.eqs[j].pos = eo at *
          generalize g.eqs[j].attr = ea at *
          generalize g.eqs[j].op = eop at *
          generalize g.eqs[j].args = rl at *
          cases hh : hasB d g ep eo ea
          · have HG := (show Hid (agB d g = false) from HF.out (E1.out hh))
            rw [hh] at HHE
            clear hh E1 E2 E3 E4 E5 HNX HF
            have HBV := (show Hid (Below w.heap.size w (wr.alloc (.cells #[.int .i64 ep, .int .i64 eo, .int .i64 ea, .int .i64 eop, .slice ra rl.length rc] 59))) from bel_trans HBW.out (bel_alloc _ _))
            have HLV := (show Hid (Below W.heap.size W (wr.alloc (.cells #[.int .i64 ep, .int .i64 eo, .int .i64 ea, .int .i64 eop, .slice ra rl.length rc] 59))) from bel_trans hbel (bel_alloc _ _))
            have hd0 : Below (wr.alloc (.cells #[.int .i64 ep, .int .i64 eo, .int .i64 ea, .int .i64 eop, .slice ra rl.length rc] 59)).heap.size (wr.alloc (.cells #[.int .i64 ep, .int .i64 eo, .int .i64 ea, .int .i64 eop, .slice ra rl.length rc] 59)) (wr.alloc (.cells #[.int .i64 ep, .int .i64 eo, .int .i64 ea, .int .i64 eop, .slice ra rl.length rc] 59)).drew := (Below.refl _ _).drew
            have HDD := (show Hid _ from hd0)
            have HDW := (show Hid (Below w.heap.size w (wr.alloc (.cells #[.int .i64 ep, .int .i64 eo, .int .i64 ea, .int .i64 eop, .slice ra rl.length rc] 59)).drew) from bel_trans HBV.out hd0)
            have HC8 := (show Hid _ from HHE.out (wr.alloc (.cells #[.int .i64 ep, .int .i64 eo, .int .i64 ea, .int .i64 eop, .slice ra rl.length rc] 59)).drew HDW.out)
            have HSK := (show Hid (∀ wq : World, Below (wr.alloc (.cells #[.int .i64 ep, .int .i64 eo, .int .i64 ea, .int .i64 eop, .slice ra rl.length rc] 59)).heap.size (wr.alloc (.cells #[.int .i64 ep, .int .i64 eo, .int .i64 ea, .int .i64 eop, .slice ra rl.length rc] 59)) wq → wq.cell? ⟨w.heap.size, 0, none⟩ = some (.slice x0 d.terms.length x1) ∧ wq.cell? ⟨w.heap.size, 1, none⟩ = some (.slice x2 d.nons.length x3) ∧ wq.cell? ⟨w.heap.size, 2, none⟩ = some (.int .i64 d.own) ∧ wq.cell? ⟨w.heap.size, 3, none⟩ = some (.slice x4 d.prods.length x5) ∧ wq.cell? ⟨w.heap.size + 1, 0, none⟩ = some (.slice y0 g.attrs.length y1) ∧ wq.cell? ⟨w.heap.size + 1, 1, none⟩ = some (.slice (some ⟨b2, off2, none⟩) g.eqs.length y3) ∧ wq.cell? ⟨wr.heap.size, 0, none⟩ = some (.int .i64 ep) ∧ wq.cell? ⟨wr.heap.size, 1, none⟩ = some (.int .i64 eo) ∧ wq.cell? ⟨wr.heap.size, 2, none⟩ = some (.int .i64 ea) ∧ wq.cell? ⟨wr.heap.size, 3, none⟩ = some (.int .i64 eop) ∧ wq.cell? ⟨wr.heap.size, 4, none⟩ = some (.slice ra rl.length rc)) from fun wq hq => ⟨(HQ.out wq (bel_trans HLV.out hq)).1, (HQ.out wq (bel_trans HLV.out hq)).2.1, (HQ.out wq (bel_trans HLV.out hq)).2.2.1, (HQ.out wq (bel_trans HLV.out hq)).2.2.2.1, (HQ.out wq (bel_trans HLV.out hq)).2.2.2.2.1, (HQ.out wq (bel_trans HLV.out hq)).2.2.2.2.2, ((Box.new wr 59 [.int .i64 ep, .int .i64 eo, .int .i64 ea, .int .i64 eop, .slice ra rl.length rc]).still hq).cell 0 (by simp), ((Box.new wr 59 [.int .i64 ep, .int .i64 eo, .int .i64 ea, .int .i64 eop, .slice ra rl.length rc]).still hq).cell 1 (by simp), ((Box.new wr 59 [.int .i64 ep, .int .i64 eo, .int .i64 ea, .int .i64 eop, .slice ra rl.length rc]).still hq).cell 2 (by simp), ((Box.new wr 59 [.int .i64 ep, .int .i64 eo, .int .i64 ea, .int .i64 eop, .slice ra rl.length rc]).still hq).cell 3 (by simp), ((Box.new wr 59 [.int .i64 ep, .int .i64 eo, .int .i64 ea, .int .i64 eop, .slice ra rl.length rc]).still hq).cell 4 (by simp)⟩)
            have hS0 := HSK.out _ hd0
            clear hd0
            go_wp2_with fail
            clear q0 q1 q2 q3 r0 r1 c0 c1 c2 c3 c4
            refine wp_region_held_drew (S := fun wq => wq.cell? ⟨w.heap.size, 0, none⟩ = some (.slice x0 d.terms.length x1) ∧ wq.cell? ⟨w.heap.size, 1, none⟩ = some (.slice x2 d.nons.length x3) ∧ wq.cell? ⟨w.heap.size, 2, none⟩ = some (.int .i64 d.own) ∧ wq.cell? ⟨w.heap.size, 3, none⟩ = some (.slice x4 d.prods.length x5) ∧ wq.cell? ⟨w.heap.size + 1, 0, none⟩ = some (.slice y0 g.attrs.length y1) ∧ wq.cell? ⟨w.heap.size + 1, 1, none⟩ = some (.slice (some ⟨b2, off2, none⟩) g.eqs.length y3) ∧ wq.cell? ⟨wr.heap.size, 0, none⟩ = some (.int .i64 ep) ∧ wq.cell? ⟨wr.heap.size, 1, none⟩ = some (.int .i64 eo) ∧ wq.cell? ⟨wr.heap.size, 2, none⟩ = some (.int .i64 ea) ∧ wq.cell? ⟨wr.heap.size, 3, none⟩ = some (.int .i64 eop) ∧ wq.cell? ⟨wr.heap.size, 4, none⟩ = some (.slice ra rl.length rc)) (by kernel_rfl) hS0 (fun hHeld => ?_)
            refine wpAnyH_take (i := 0) (oi := oE0) (v := ?v1) rfl (by kernel_rfl) (by kernel_rfl) (by kernel_rfl) (fun _ _ _ h => h) (Or.inl ⟨by rfl, ?h1⟩) hHeld ?r1
            case h1 => (intro w hSw; (try dsimp only at hSw); go_simp; try with_reducible rfl)
            try simp only [Act.put, List.setIfInBounds_toArray, List.set_cons_zero, List.set_cons_succ]
            refine wpAnyH_take (i := 1) (oi := oE1) (v := ?v2) rfl (by kernel_rfl) (by kernel_rfl) (by kernel_rfl) (fun _ _ _ h => h) (Or.inl ⟨by rfl, ?h2⟩) hHeld ?r2
            case h2 => (intro w hSw; (try dsimp only at hSw); go_simp; try with_reducible rfl)
            try simp only [Act.put, List.setIfInBounds_toArray, List.set_cons_zero, List.set_cons_succ]
            refine wpAnyH_take (i := 2) (oi := oE2) (v := ?v3) rfl (by kernel_rfl) (by kernel_rfl) (by kernel_rfl) (fun _ _ _ h => h) (Or.inl ⟨by rfl, ?h3⟩) hHeld ?r3
            case h3 => (intro w hSw; (try dsimp only at hSw); go_simp; try with_reducible rfl)
            try simp only [Act.put, List.setIfInBounds_toArray, List.set_cons_zero, List.set_cons_succ]
            refine wpAnyH_take (i := 3) (oi := oE3) (v := ?v4) rfl (by kernel_rfl) (by kernel_rfl) (by kernel_rfl) (fun _ _ _ h => h) (Or.inl ⟨by rfl, ?h4⟩) hHeld ?r4
            case h4 => (intro w hSw; (try dsimp only at hSw); go_simp; try with_reducible rfl)
            try simp only [Act.put, List.setIfInBounds_toArray, List.set_cons_zero, List.set_cons_succ]
            refine wpAnyH_take (i := 4) (oi := oE4) (v := ?v5) rfl (by kernel_rfl) (by kernel_rfl) (by kernel_rfl) (fun _ _ _ h => h) (Or.inl ⟨by rfl, ?h5⟩) hHeld ?r5
            case h5 => (intro w hSw; (try dsimp only at hSw); go_simp; try with_reducible rfl)
            try simp only [Act.put, List.setIfInBounds_toArray, List.set_cons_zero, List.set_cons_succ]
            refine wpAnyH_take (i := 5) (oi := oE5) (v := ?v6) rfl (by kernel_rfl) (by kernel_rfl) (by kernel_rfl) (fun _ _ _ h => h) (Or.inl ⟨by rfl, ?h6⟩) hHeld ?r6
            case h6 => (intro w hSw; (try dsimp only at hSw); go_simp; try with_reducible rfl)
            try simp only [Act.put, List.setIfInBounds_toArray, List.set_cons_zero, List.set_cons_succ]
            refine wpAnyH_take (i := 6) (oi := oE6) (v := ?v7) rfl (by kernel_rfl) (by kernel_rfl) (by kernel_rfl) (fun _ _ _ h => h) (Or.inl ⟨by rfl, ?h7⟩) hHeld ?r7
            case h7 => (intro w hSw; (try dsimp only at hSw); go_simp; try with_reducible rfl)
            try simp only [Act.put, List.setIfInBounds_toArray, List.set_cons_zero, List.set_cons_succ]
            refine wpAnyH_take (i := 7) (oi := oE7) (v := ?v8) rfl (by kernel_rfl) (by kernel_rfl) (by kernel_rfl) (fun _ _ _ h => h) (Or.inl ⟨by rfl, ?h8⟩) hHeld ?r8
            case h8 => (intro w hSw; (try dsimp only at hSw); go_simp; try with_reducible rfl)
            try simp only [Act.put, List.setIfInBounds_toArray, List.set_cons_zero, List.set_cons_succ]
            refine wpAnyH_ready (rs := [8]) (by kernel_rfl) (by simp) ?_
            refine (AllReadyH.cons (o := oE8) rfl (fun K hK => ?_) AllReadyH.nil)
            go_simp
            refine Calls.mono HC8.out ?_
            rintro e w4 ⟨rfl, hb4⟩
            dsimp only
            have hS1 := HSK.out w4 (bel_trans HDD.out hb4)
            have HB4 := (show Hid (Below w.heap.size w w4) from bel_trans HDW.out hb4)
            clear hHeld
            refine hK.out _ _ (hS1) (fun hHeld => ?_)
            clear hK K
            try simp only [Act.put, List.setIfInBounds_toArray, List.set_cons_zero, List.set_cons_succ]
            refine wpAnyH_take (i := 9) (oi := oE9) (v := ?v9) rfl (by kernel_rfl) (by kernel_rfl) (by kernel_rfl) (fun _ _ _ h => h) (Or.inl ⟨by rfl, ?h9⟩) hHeld ?r9
            case h9 => (intro w hSw; (try dsimp only at hSw); go_simp; try with_reducible rfl)
            try simp only [Act.put, List.setIfInBounds_toArray, List.set_cons_zero, List.set_cons_succ]
            refine wpAnyH_take (i := 10) (oi := oE10) (v := ?v10) rfl (by kernel_rfl) (by kernel_rfl) (by kernel_rfl) (fun _ _ _ h => h) (Or.inl ⟨by rfl, ?h10⟩) hHeld ?r10
            case h10 => (intro w hSw; (try dsimp only at hSw); go_simp; try with_reducible rfl)
            try simp only [Act.put, List.setIfInBounds_toArray, List.set_cons_zero, List.set_cons_succ]
            refine wpAnyH_take (i := 11) (oi := oE11) (v := undef) rfl (by kernel_rfl) (by kernel_rfl) (by kernel_rfl) (fun _ _ _ h => h) (Or.inr ⟨by rfl, rfl⟩) hHeld ?_
            try simp only [Act.put, List.setIfInBounds_toArray, List.set_cons_zero, List.set_cons_succ]
            refine wpAnyH_take (i := 12) (oi := oE12) (v := undef) rfl (by kernel_rfl) (by kernel_rfl) (by kernel_rfl) (fun _ _ _ h => h) (Or.inr ⟨by rfl, rfl⟩) hHeld ?_
            try simp only [Act.put, List.setIfInBounds_toArray, List.set_cons_zero, List.set_cons_succ]
            refine wpAnyH_take (i := 13) (oi := oE13) (v := undef) rfl (by kernel_rfl) (by kernel_rfl) (by kernel_rfl) (fun _ _ _ h => h) (Or.inr ⟨by rfl, rfl⟩) hHeld ?_
            try simp only [Act.put, List.setIfInBounds_toArray, List.set_cons_zero, List.set_cons_succ]
            refine wpAnyH_take (i := 14) (oi := oE14) (v := undef) rfl (by kernel_rfl) (by kernel_rfl) (by kernel_rfl) (fun _ _ _ h => h) (Or.inr ⟨by rfl, rfl⟩) hHeld ?_
            try simp only [Act.put, List.setIfInBounds_toArray, List.set_cons_zero, List.set_cons_succ]
            refine wpAnyH_take (i := 15) (oi := oE15) (v := undef) rfl (by kernel_rfl) (by kernel_rfl) (by kernel_rfl) (fun _ _ _ h => h) (Or.inr ⟨by rfl, rfl⟩) hHeld ?_
            try simp only [Act.put, List.setIfInBounds_toArray, List.set_cons_zero, List.set_cons_succ]
            refine wpAnyH_take (i := 16) (oi := oE16) (v := undef) rfl (by kernel_rfl) (by kernel_rfl) (by kernel_rfl) (fun _ _ _ h => h) (Or.inr ⟨by rfl, rfl⟩) hHeld ?_
            try simp only [Act.put, List.setIfInBounds_toArray, List.set_cons_zero, List.set_cons_succ]
            refine wpAnyH_take (i := 17) (oi := oE17) (v := undef) rfl (by kernel_rfl) (by kernel_rfl) (by kernel_rfl) (fun _ _ _ h => h) (Or.inr ⟨by rfl, rfl⟩) hHeld ?_
            try simp only [Act.put, List.setIfInBounds_toArray, List.set_cons_zero, List.set_cons_succ]
            refine wpAnyH_take (i := 18) (oi := oE18) (v := undef) rfl (by kernel_rfl) (by kernel_rfl) (by kernel_rfl) (fun _ _ _ h => h) (Or.inr ⟨by rfl, rfl⟩) hHeld ?_
            try simp only [Act.put, List.setIfInBounds_toArray, List.set_cons_zero, List.set_cons_succ]
            refine wpAnyH_take (i := 19) (oi := oE19) (v := undef) rfl (by kernel_rfl) (by kernel_rfl) (by kernel_rfl) (fun _ _ _ h => h) (Or.inr ⟨by rfl, rfl⟩) hHeld ?_
            try simp only [Act.put, List.setIfInBounds_toArray, List.set_cons_zero, List.set_cons_succ]
            refine wpAnyH_take (i := 20) (oi := oE20) (v := undef) rfl (by kernel_rfl) (by kernel_rfl) (by kernel_rfl) (fun _ _ _ h => h) (Or.inr ⟨by rfl, rfl⟩) hHeld ?_
            try simp only [Act.put, List.setIfInBounds_toArray, List.set_cons_zero, List.set_cons_succ]
            refine wpAnyH_take (i := 21) (oi := oE21) (v := undef) rfl (by kernel_rfl) (by kernel_rfl) (by kernel_rfl) (fun _ _ _ h => h) (Or.inr ⟨by rfl, rfl⟩) hHeld ?_
            try simp only [Act.put, List.setIfInBounds_toArray, List.set_cons_zero, List.set_cons_succ]
            refine wpAnyH_take (i := 22) (oi := oE22) (v := ?v11) rfl (by kernel_rfl) (by kernel_rfl) (by kernel_rfl) (fun _ _ _ h => h) (Or.inl ⟨by rfl, ?h11⟩) hHeld ?r11
            case h11 => (intro w hSw; (try dsimp only at hSw); go_simp; try with_reducible rfl)
            try simp only [Act.put, List.setIfInBounds_toArray, List.set_cons_zero, List.set_cons_succ]
            refine wpAnyH_take (i := 23) (oi := oE23) (v := ?v12) rfl (by kernel_rfl) (by kernel_rfl) (by kernel_rfl) (fun _ _ _ h => h) (Or.inl ⟨by rfl, ?h12⟩) hHeld ?r12
            case h12 => (intro w hSw; (try dsimp only at hSw); go_simp; try with_reducible rfl)
            try simp only [Act.put, List.setIfInBounds_toArray, List.set_cons_zero, List.set_cons_succ]
            refine wpAnyH_take (i := 24) (oi := oE24) (v := undef) rfl (by kernel_rfl) (by kernel_rfl) (by kernel_rfl) (fun _ _ _ h => h) (Or.inr ⟨by rfl, rfl⟩) hHeld ?_
            try simp only [Act.put, List.setIfInBounds_toArray, List.set_cons_zero, List.set_cons_succ]
            refine wpAnyH_take (i := 25) (oi := oE25) (v := undef) rfl (by kernel_rfl) (by kernel_rfl) (by kernel_rfl) (fun _ _ _ h => h) (Or.inr ⟨by rfl, rfl⟩) hHeld ?_
            try simp only [Act.put, List.setIfInBounds_toArray, List.set_cons_zero, List.set_cons_succ]
            refine wpAnyH_take (i := 26) (oi := oE26) (v := undef) rfl (by kernel_rfl) (by kernel_rfl) (by kernel_rfl) (fun _ _ _ h => h) (Or.inr ⟨by rfl, rfl⟩) hHeld ?_
            try simp only [Act.put, List.setIfInBounds_toArray, List.set_cons_zero, List.set_cons_succ]
            refine wpAnyH_take (i := 27) (oi := oE27) (v := undef) rfl (by kernel_rfl) (by kernel_rfl) (by kernel_rfl) (fun _ _ _ h => h) (Or.inr ⟨by rfl, rfl⟩) hHeld ?_
            try simp only [Act.put, List.setIfInBounds_toArray, List.set_cons_zero, List.set_cons_succ]
            refine wpAnyH_take (i := 28) (oi := oE28) (v := undef) rfl (by kernel_rfl) (by kernel_rfl) (by kernel_rfl) (fun _ _ _ h => h) (Or.inr ⟨by rfl, rfl⟩) hHeld ?_
            try simp only [Act.put, List.setIfInBounds_toArray, List.set_cons_zero, List.set_cons_succ]
            refine wpAnyH_take (i := 29) (oi := oE29) (v := undef) rfl (by kernel_rfl) (by kernel_rfl) (by kernel_rfl) (fun _ _ _ h => h) (Or.inr ⟨by rfl, rfl⟩) hHeld ?_
            try simp only [Act.put, List.setIfInBounds_toArray, List.set_cons_zero, List.set_cons_succ]
            refine wpAnyH_take (i := 30) (oi := oE30) (v := undef) rfl (by kernel_rfl) (by kernel_rfl) (by kernel_rfl) (fun _ _ _ h => h) (Or.inr ⟨by rfl, rfl⟩) hHeld ?_
            try simp only [Act.put, List.setIfInBounds_toArray, List.set_cons_zero, List.set_cons_succ]
            refine wpAnyH_take (i := 31) (oi := oE31) (v := ?v13) rfl (by kernel_rfl) (by kernel_rfl) (by kernel_rfl) (fun _ _ _ h => h) (Or.inl ⟨by rfl, ?h13⟩) hHeld ?r13
            case h13 => (intro w hSw; (try dsimp only at hSw); go_simp; try with_reducible rfl)
            try simp only [Act.put, List.setIfInBounds_toArray, List.set_cons_zero, List.set_cons_succ]
            refine wpAnyH_done (by kernel_rfl) ?_ _
            (try refine NoPanic.normal ?_)
            go_wp2_with fail
            go_ret
            exact ⟨by rw [HG.out]; rfl, HB4.out⟩
          obtain ⟨ia, hxi, hia⟩ := has_at hh
          rw [hh] at HHE
          obtain ⟨rfl, _⟩ := HA.out (by omega)
          obtain ⟨_, _, cd, _⟩ := HC.out ia hia
          subst hxi
          rw [atN_eq hia] at E2 E5
          have HCD := (show Hid _ from cd)
          clear cd
          have n1 : (0 : Int) ≤ (ia : Int) := by omega
          have n2 : (ia : Int) < (g.attrs.length : Int) := by omega
          have kz : (eo == 0) = decide (eo = 0) := by rw [Bool.eq_iff_iff]; simp
          generalize g.attrs[ia].down = dn at *
          generalize decide (eo = 0) = pz at *
          cases hd : (dn == pz)
          rotate_left
          · have HG := (show Hid (agB d g = false) from HF.out (E2.out hd))
            clear hh E1 E2 E3 E4 E5 HNX HF
            have HBV := (show Hid (Below w.heap.size w (wr.alloc (.cells #[.int .i64 ep, .int .i64 eo, .int .i64 (ia : Int), .int .i64 eop, .slice ra rl.length rc] 59))) from bel_trans HBW.out (bel_alloc _ _))
            have HLV := (show Hid (Below W.heap.size W (wr.alloc (.cells #[.int .i64 ep, .int .i64 eo, .int .i64 (ia : Int), .int .i64 eop, .slice ra rl.length rc] 59))) from bel_trans hbel (bel_alloc _ _))
            have hd0 : Below (wr.alloc (.cells #[.int .i64 ep, .int .i64 eo, .int .i64 (ia : Int), .int .i64 eop, .slice ra rl.length rc] 59)).heap.size (wr.alloc (.cells #[.int .i64 ep, .int .i64 eo, .int .i64 (ia : Int), .int .i64 eop, .slice ra rl.length rc] 59)) (wr.alloc (.cells #[.int .i64 ep, .int .i64 eo, .int .i64 (ia : Int), .int .i64 eop, .slice ra rl.length rc] 59)).drew := (Below.refl _ _).drew
            have HDD := (show Hid _ from hd0)
            have HDW := (show Hid (Below w.heap.size w (wr.alloc (.cells #[.int .i64 ep, .int .i64 eo, .int .i64 (ia : Int), .int .i64 eop, .slice ra rl.length rc] 59)).drew) from bel_trans HBV.out hd0)
            have HC8 := (show Hid _ from HHE.out (wr.alloc (.cells #[.int .i64 ep, .int .i64 eo, .int .i64 (ia : Int), .int .i64 eop, .slice ra rl.length rc] 59)).drew HDW.out)
            have HSK := (show Hid (∀ wq : World, Below (wr.alloc (.cells #[.int .i64 ep, .int .i64 eo, .int .i64 (ia : Int), .int .i64 eop, .slice ra rl.length rc] 59)).heap.size (wr.alloc (.cells #[.int .i64 ep, .int .i64 eo, .int .i64 (ia : Int), .int .i64 eop, .slice ra rl.length rc] 59)) wq → wq.cell? ⟨w.heap.size, 0, none⟩ = some (.slice x0 d.terms.length x1) ∧ wq.cell? ⟨w.heap.size, 1, none⟩ = some (.slice x2 d.nons.length x3) ∧ wq.cell? ⟨w.heap.size, 2, none⟩ = some (.int .i64 d.own) ∧ wq.cell? ⟨w.heap.size, 3, none⟩ = some (.slice x4 d.prods.length x5) ∧ wq.cell? ⟨w.heap.size + 1, 0, none⟩ = some (.slice (some ⟨b, off, none⟩) g.attrs.length y1) ∧ wq.cell? ⟨w.heap.size + 1, 1, none⟩ = some (.slice (some ⟨b2, off2, none⟩) g.eqs.length y3) ∧ wq.cell? ⟨wr.heap.size, 0, none⟩ = some (.int .i64 ep) ∧ wq.cell? ⟨wr.heap.size, 1, none⟩ = some (.int .i64 eo) ∧ wq.cell? ⟨wr.heap.size, 2, none⟩ = some (.int .i64 (ia : Int)) ∧ wq.cell? ⟨wr.heap.size, 3, none⟩ = some (.int .i64 eop) ∧ wq.cell? ⟨wr.heap.size, 4, none⟩ = some (.slice ra rl.length rc) ∧ wq.cell? ⟨b, off + ia * 3 + 2, none⟩ = some (.bool dn)) from fun wq hq => ⟨(HQ.out wq (bel_trans HLV.out hq)).1, (HQ.out wq (bel_trans HLV.out hq)).2.1, (HQ.out wq (bel_trans HLV.out hq)).2.2.1, (HQ.out wq (bel_trans HLV.out hq)).2.2.2.1, (HQ.out wq (bel_trans HLV.out hq)).2.2.2.2.1, (HQ.out wq (bel_trans HLV.out hq)).2.2.2.2.2, ((Box.new wr 59 [.int .i64 ep, .int .i64 eo, .int .i64 (ia : Int), .int .i64 eop, .slice ra rl.length rc]).still hq).cell 0 (by simp), ((Box.new wr 59 [.int .i64 ep, .int .i64 eo, .int .i64 (ia : Int), .int .i64 eop, .slice ra rl.length rc]).still hq).cell 1 (by simp), ((Box.new wr 59 [.int .i64 ep, .int .i64 eo, .int .i64 (ia : Int), .int .i64 eop, .slice ra rl.length rc]).still hq).cell 2 (by simp), ((Box.new wr 59 [.int .i64 ep, .int .i64 eo, .int .i64 (ia : Int), .int .i64 eop, .slice ra rl.length rc]).still hq).cell 3 (by simp), ((Box.new wr 59 [.int .i64 ep, .int .i64 eo, .int .i64 (ia : Int), .int .i64 eop, .slice ra rl.length rc]).still hq).cell 4 (by simp), ((bel_trans HBV.out hq).cell (lt_of_cell HCD.out)).trans HCD.out⟩)
            have hS0 := HSK.out _ hd0
            clear hd0
            go_wp2_with fail
            clear q0 q1 q2 q3 r0 r1 c0 c1 c2 c3 c4
            refine wp_region_held_drew (S := fun wq => wq.cell? ⟨w.heap.size, 0, none⟩ = some (.slice x0 d.terms.length x1) ∧ wq.cell? ⟨w.heap.size, 1, none⟩ = some (.slice x2 d.nons.length x3) ∧ wq.cell? ⟨w.heap.size, 2, none⟩ = some (.int .i64 d.own) ∧ wq.cell? ⟨w.heap.size, 3, none⟩ = some (.slice x4 d.prods.length x5) ∧ wq.cell? ⟨w.heap.size + 1, 0, none⟩ = some (.slice (some ⟨b, off, none⟩) g.attrs.length y1) ∧ wq.cell? ⟨w.heap.size + 1, 1, none⟩ = some (.slice (some ⟨b2, off2, none⟩) g.eqs.length y3) ∧ wq.cell? ⟨wr.heap.size, 0, none⟩ = some (.int .i64 ep) ∧ wq.cell? ⟨wr.heap.size, 1, none⟩ = some (.int .i64 eo) ∧ wq.cell? ⟨wr.heap.size, 2, none⟩ = some (.int .i64 (ia : Int)) ∧ wq.cell? ⟨wr.heap.size, 3, none⟩ = some (.int .i64 eop) ∧ wq.cell? ⟨wr.heap.size, 4, none⟩ = some (.slice ra rl.length rc) ∧ wq.cell? ⟨b, off + ia * 3 + 2, none⟩ = some (.bool dn)) (by kernel_rfl) hS0 (fun hHeld => ?_)
            refine wpAnyH_take (i := 0) (oi := oE0) (v := ?v101) rfl (by kernel_rfl) (by kernel_rfl) (by kernel_rfl) (fun _ _ _ h => h) (Or.inl ⟨by rfl, ?h101⟩) hHeld ?r101
            case h101 => (intro w hSw; (try dsimp only at hSw); go_simp; try with_reducible rfl)
            try simp only [Act.put, List.setIfInBounds_toArray, List.set_cons_zero, List.set_cons_succ]
            refine wpAnyH_take (i := 1) (oi := oE1) (v := ?v102) rfl (by kernel_rfl) (by kernel_rfl) (by kernel_rfl) (fun _ _ _ h => h) (Or.inl ⟨by rfl, ?h102⟩) hHeld ?r102
            case h102 => (intro w hSw; (try dsimp only at hSw); go_simp; try with_reducible rfl)
            try simp only [Act.put, List.setIfInBounds_toArray, List.set_cons_zero, List.set_cons_succ]
            refine wpAnyH_take (i := 2) (oi := oE2) (v := ?v103) rfl (by kernel_rfl) (by kernel_rfl) (by kernel_rfl) (fun _ _ _ h => h) (Or.inl ⟨by rfl, ?h103⟩) hHeld ?r103
            case h103 => (intro w hSw; (try dsimp only at hSw); go_simp; try with_reducible rfl)
            try simp only [Act.put, List.setIfInBounds_toArray, List.set_cons_zero, List.set_cons_succ]
            refine wpAnyH_take (i := 3) (oi := oE3) (v := ?v104) rfl (by kernel_rfl) (by kernel_rfl) (by kernel_rfl) (fun _ _ _ h => h) (Or.inl ⟨by rfl, ?h104⟩) hHeld ?r104
            case h104 => (intro w hSw; (try dsimp only at hSw); go_simp; try with_reducible rfl)
            try simp only [Act.put, List.setIfInBounds_toArray, List.set_cons_zero, List.set_cons_succ]
            refine wpAnyH_take (i := 4) (oi := oE4) (v := ?v105) rfl (by kernel_rfl) (by kernel_rfl) (by kernel_rfl) (fun _ _ _ h => h) (Or.inl ⟨by rfl, ?h105⟩) hHeld ?r105
            case h105 => (intro w hSw; (try dsimp only at hSw); go_simp; try with_reducible rfl)
            try simp only [Act.put, List.setIfInBounds_toArray, List.set_cons_zero, List.set_cons_succ]
            refine wpAnyH_take (i := 5) (oi := oE5) (v := ?v106) rfl (by kernel_rfl) (by kernel_rfl) (by kernel_rfl) (fun _ _ _ h => h) (Or.inl ⟨by rfl, ?h106⟩) hHeld ?r106
            case h106 => (intro w hSw; (try dsimp only at hSw); go_simp; try with_reducible rfl)
            try simp only [Act.put, List.setIfInBounds_toArray, List.set_cons_zero, List.set_cons_succ]
            refine wpAnyH_take (i := 6) (oi := oE6) (v := ?v107) rfl (by kernel_rfl) (by kernel_rfl) (by kernel_rfl) (fun _ _ _ h => h) (Or.inl ⟨by rfl, ?h107⟩) hHeld ?r107
            case h107 => (intro w hSw; (try dsimp only at hSw); go_simp; try with_reducible rfl)
            try simp only [Act.put, List.setIfInBounds_toArray, List.set_cons_zero, List.set_cons_succ]
            refine wpAnyH_take (i := 7) (oi := oE7) (v := ?v108) rfl (by kernel_rfl) (by kernel_rfl) (by kernel_rfl) (fun _ _ _ h => h) (Or.inl ⟨by rfl, ?h108⟩) hHeld ?r108
            case h108 => (intro w hSw; (try dsimp only at hSw); go_simp; try with_reducible rfl)
            try simp only [Act.put, List.setIfInBounds_toArray, List.set_cons_zero, List.set_cons_succ]
            refine wpAnyH_ready (rs := [8]) (by kernel_rfl) (by simp) ?_
            refine (AllReadyH.cons (o := oE8) rfl (fun K hK => ?_) AllReadyH.nil)
            go_simp
            refine Calls.mono HC8.out ?_
            rintro e w4 ⟨rfl, hb4⟩
            dsimp only
            have hS1 := HSK.out w4 (bel_trans HDD.out hb4)
            have HB4 := (show Hid (Below w.heap.size w w4) from bel_trans HDW.out hb4)
            clear hHeld
            refine hK.out _ _ (hS1) (fun hHeld => ?_)
            clear hK K
            try simp only [Act.put, List.setIfInBounds_toArray, List.set_cons_zero, List.set_cons_succ]
            refine wpAnyH_take (i := 9) (oi := oE9) (v := ?v109) rfl (by kernel_rfl) (by kernel_rfl) (by kernel_rfl) (fun _ _ _ h => h) (Or.inl ⟨by rfl, ?h109⟩) hHeld ?r109
            case h109 => (intro w hSw; (try dsimp only at hSw); go_simp; try with_reducible rfl)
            try simp only [Act.put, List.setIfInBounds_toArray, List.set_cons_zero, List.set_cons_succ]
            refine wpAnyH_take (i := 10) (oi := oE10) (v := ?v110) rfl (by kernel_rfl) (by kernel_rfl) (by kernel_rfl) (fun _ _ _ h => h) (Or.inl ⟨by rfl, ?h110⟩) hHeld ?r110
            case h110 => (intro w hSw; (try dsimp only at hSw); go_simp; try with_reducible rfl)
            try simp only [Act.put, List.setIfInBounds_toArray, List.set_cons_zero, List.set_cons_succ]
            refine wpAnyH_take (i := 11) (oi := oE11) (v := ?v111) rfl (by kernel_rfl) (by kernel_rfl) (by kernel_rfl) (fun _ _ _ h => h) (Or.inl ⟨by rfl, ?h111⟩) hHeld ?r111
            case h111 => (intro w hSw; (try dsimp only at hSw); go_simp; try with_reducible rfl)
            try simp only [Act.put, List.setIfInBounds_toArray, List.set_cons_zero, List.set_cons_succ]
            refine wpAnyH_take (i := 12) (oi := oE12) (v := ?v112) rfl (by kernel_rfl) (by kernel_rfl) (by kernel_rfl) (fun _ _ _ h => h) (Or.inl ⟨by rfl, ?h112⟩) hHeld ?r112
            case h112 => (intro w hSw; (try dsimp only at hSw); go_simp; try with_reducible rfl)
            try simp only [Act.put, List.setIfInBounds_toArray, List.set_cons_zero, List.set_cons_succ]
            refine wpAnyH_take (i := 13) (oi := oE13) (v := ?v113) rfl (by kernel_rfl) (by kernel_rfl) (by kernel_rfl) (fun _ _ _ h => h) (Or.inl ⟨by rfl, ?h113⟩) hHeld ?r113
            case h113 => (intro w hSw; (try dsimp only at hSw); go_simp; try with_reducible rfl)
            try simp only [Act.put, List.setIfInBounds_toArray, List.set_cons_zero, List.set_cons_succ]
            refine wpAnyH_take (i := 14) (oi := oE14) (v := ?v114) rfl (by kernel_rfl) (by kernel_rfl) (by kernel_rfl) (fun _ _ _ h => h) (Or.inl ⟨by rfl, ?h114⟩) hHeld ?r114
            case h114 => (intro w hSw; (try dsimp only at hSw); go_simp; try with_reducible rfl)
            try simp only [Act.put, List.setIfInBounds_toArray, List.set_cons_zero, List.set_cons_succ]
            refine wpAnyH_take (i := 15) (oi := oE15) (v := ?v115) rfl (by kernel_rfl) (by kernel_rfl) (by kernel_rfl) (fun _ _ _ h => h) (Or.inl ⟨by rfl, ?h115⟩) hHeld ?r115
            case h115 => (intro w hSw; (try dsimp only at hSw); go_simp; try with_reducible rfl)
            try simp only [Act.put, List.setIfInBounds_toArray, List.set_cons_zero, List.set_cons_succ]
            refine wpAnyH_take (i := 16) (oi := oE16) (v := ?v116) rfl (by kernel_rfl) (by kernel_rfl) (by kernel_rfl) (fun _ _ _ h => h) (Or.inl ⟨by rfl, ?h116⟩) hHeld ?r116
            case h116 => (intro w hSw; (try dsimp only at hSw); go_simp; try with_reducible rfl)
            try simp only [Act.put, List.setIfInBounds_toArray, List.set_cons_zero, List.set_cons_succ]
            refine wpAnyH_take (i := 17) (oi := oE17) (v := ?v117) rfl (by kernel_rfl) (by kernel_rfl) (by kernel_rfl) (fun _ _ _ h => h) (Or.inl ⟨by rfl, ?h117⟩) hHeld ?r117
            case h117 => (intro w hSw; (try dsimp only at hSw); go_simp; try with_reducible rfl)
            try simp only [Act.put, List.setIfInBounds_toArray, List.set_cons_zero, List.set_cons_succ]
            refine wpAnyH_take (i := 18) (oi := oE18) (v := ?v118) rfl (by kernel_rfl) (by kernel_rfl) (by kernel_rfl) (fun _ _ _ h => h) (Or.inl ⟨by rfl, ?h118⟩) hHeld ?r118
            case h118 => (intro w hSw; (try dsimp only at hSw); go_simp; try with_reducible rfl)
            try simp only [Act.put, List.setIfInBounds_toArray, List.set_cons_zero, List.set_cons_succ]
            refine wpAnyH_take (i := 19) (oi := oE19) (v := ?v119) rfl (by kernel_rfl) (by kernel_rfl) (by kernel_rfl) (fun _ _ _ h => h) (Or.inl ⟨by rfl, ?h119⟩) hHeld ?r119
            case h119 => (intro w hSw; (try dsimp only at hSw); go_simp; try with_reducible rfl)
            try simp only [Act.put, List.setIfInBounds_toArray, List.set_cons_zero, List.set_cons_succ]
            refine wpAnyH_take (i := 20) (oi := oE20) (v := ?v120) rfl (by kernel_rfl) (by kernel_rfl) (by kernel_rfl) (fun _ _ _ h => h) (Or.inl ⟨by rfl, ?h120⟩) hHeld ?r120
            case h120 => (intro w hSw; (try dsimp only at hSw); go_simp; try with_reducible rfl)
            try simp only [Act.put, List.setIfInBounds_toArray, List.set_cons_zero, List.set_cons_succ]
            refine wpAnyH_take (i := 21) (oi := oE21) (v := ?v121) rfl (by kernel_rfl) (by kernel_rfl) (by kernel_rfl) (fun _ _ _ h => h) (Or.inl ⟨by rfl, ?h121⟩) hHeld ?r121
            case h121 => (intro w hSw; (try dsimp only at hSw); go_simp; try with_reducible rfl)
            try simp only [Act.put, List.setIfInBounds_toArray, List.set_cons_zero, List.set_cons_succ]
            refine wpAnyH_take (i := 22) (oi := oE22) (v := ?v122) rfl (by kernel_rfl) (by kernel_rfl) (by kernel_rfl) (fun _ _ _ h => h) (Or.inl ⟨by rfl, ?h122⟩) hHeld ?r122
            case h122 => (intro w hSw; (try dsimp only at hSw); go_simp; try with_reducible rfl)
            try simp only [Act.put, List.setIfInBounds_toArray, List.set_cons_zero, List.set_cons_succ]
            refine wpAnyH_take (i := 23) (oi := oE23) (v := ?v123) rfl (by kernel_rfl) (by kernel_rfl) (by kernel_rfl) (fun _ _ _ h => h) (Or.inl ⟨by rfl, ?h123⟩) hHeld ?r123
            case h123 => (intro w hSw; (try dsimp only at hSw); go_simp; try with_reducible rfl)
            try simp only [Act.put, List.setIfInBounds_toArray, List.set_cons_zero, List.set_cons_succ]
            refine wpAnyH_take (i := 24) (oi := oE24) (v := undef) rfl (by kernel_rfl) (by kernel_rfl) (by kernel_rfl) (fun _ _ _ h => h) (Or.inr ⟨by rfl, rfl⟩) hHeld ?_
            try simp only [Act.put, List.setIfInBounds_toArray, List.set_cons_zero, List.set_cons_succ]
            refine wpAnyH_take (i := 25) (oi := oE25) (v := undef) rfl (by kernel_rfl) (by kernel_rfl) (by kernel_rfl) (fun _ _ _ h => h) (Or.inr ⟨by rfl, rfl⟩) hHeld ?_
            try simp only [Act.put, List.setIfInBounds_toArray, List.set_cons_zero, List.set_cons_succ]
            refine wpAnyH_take (i := 26) (oi := oE26) (v := undef) rfl (by kernel_rfl) (by kernel_rfl) (by kernel_rfl) (fun _ _ _ h => h) (Or.inr ⟨by rfl, rfl⟩) hHeld ?_
            try simp only [Act.put, List.setIfInBounds_toArray, List.set_cons_zero, List.set_cons_succ]
            refine wpAnyH_take (i := 27) (oi := oE27) (v := undef) rfl (by kernel_rfl) (by kernel_rfl) (by kernel_rfl) (fun _ _ _ h => h) (Or.inr ⟨by rfl, rfl⟩) hHeld ?_
            try simp only [Act.put, List.setIfInBounds_toArray, List.set_cons_zero, List.set_cons_succ]
            refine wpAnyH_take (i := 28) (oi := oE28) (v := undef) rfl (by kernel_rfl) (by kernel_rfl) (by kernel_rfl) (fun _ _ _ h => h) (Or.inr ⟨by rfl, rfl⟩) hHeld ?_
            try simp only [Act.put, List.setIfInBounds_toArray, List.set_cons_zero, List.set_cons_succ]
            refine wpAnyH_take (i := 29) (oi := oE29) (v := undef) rfl (by kernel_rfl) (by kernel_rfl) (by kernel_rfl) (fun _ _ _ h => h) (Or.inr ⟨by rfl, rfl⟩) hHeld ?_
            try simp only [Act.put, List.setIfInBounds_toArray, List.set_cons_zero, List.set_cons_succ]
            refine wpAnyH_take (i := 30) (oi := oE30) (v := undef) rfl (by kernel_rfl) (by kernel_rfl) (by kernel_rfl) (fun _ _ _ h => h) (Or.inr ⟨by rfl, rfl⟩) hHeld ?_
            try simp only [Act.put, List.setIfInBounds_toArray, List.set_cons_zero, List.set_cons_succ]
            refine wpAnyH_take (i := 31) (oi := oE31) (v := ?v124) rfl (by kernel_rfl) (by kernel_rfl) (by kernel_rfl) (fun _ _ _ h => h) (Or.inl ⟨by rfl, ?h124⟩) hHeld ?r124
            case h124 => (intro w hSw; (try dsimp only at hSw); go_simp; try with_reducible rfl)
            try simp only [Act.put, List.setIfInBounds_toArray, List.set_cons_zero, List.set_cons_succ]
            refine wpAnyH_done (by kernel_rfl) ?_ _
            (try refine NoPanic.normal ?_)
            go_wp2_with fail
            go_ret
            exact ⟨by rw [HG.out]; rfl, HB4.out⟩
          by_cases hn : argN eop = (rl.length : Int)
          rotate_left
          · have HG := (show Hid (agB d g = false) from HF.out (E3.out hn))
            have kn : (argN eop != (rl.length : Int)) = true := by simpa using hn
            clear hh E1 E2 E3 E4 E5 HNX HF hn
            have HBV := (show Hid (Below w.heap.size w (wr.alloc (.cells #[.int .i64 ep, .int .i64 eo, .int .i64 (ia : Int), .int .i64 eop, .slice ra rl.length rc] 59))) from bel_trans HBW.out (bel_alloc _ _))
            have HLV := (show Hid (Below W.heap.size W (wr.alloc (.cells #[.int .i64 ep, .int .i64 eo, .int .i64 (ia : Int), .int .i64 eop, .slice ra rl.length rc] 59))) from bel_trans hbel (bel_alloc _ _))
            have hd0 : Below (wr.alloc (.cells #[.int .i64 ep, .int .i64 eo, .int .i64 (ia : Int), .int .i64 eop, .slice ra rl.length rc] 59)).heap.size (wr.alloc (.cells #[.int .i64 ep, .int .i64 eo, .int .i64 (ia : Int), .int .i64 eop, .slice ra rl.length rc] 59)) (wr.alloc (.cells #[.int .i64 ep, .int .i64 eo, .int .i64 (ia : Int), .int .i64 eop, .slice ra rl.length rc] 59)).drew := (Below.refl _ _).drew
            have HDD := (show Hid _ from hd0)
            have HDW := (show Hid (Below w.heap.size w (wr.alloc (.cells #[.int .i64 ep, .int .i64 eo, .int .i64 (ia : Int), .int .i64 eop, .slice ra rl.length rc] 59)).drew) from bel_trans HBV.out hd0)
            have HC8 := (show Hid _ from HHE.out (wr.alloc (.cells #[.int .i64 ep, .int .i64 eo, .int .i64 (ia : Int), .int .i64 eop, .slice ra rl.length rc] 59)).drew HDW.out)
            have HSK := (show Hid (∀ wq : World, Below (wr.alloc (.cells #[.int .i64 ep, .int .i64 eo, .int .i64 (ia : Int), .int .i64 eop, .slice ra rl.length rc] 59)).heap.size (wr.alloc (.cells #[.int .i64 ep, .int .i64 eo, .int .i64 (ia : Int), .int .i64 eop, .slice ra rl.length rc] 59)) wq → wq.cell? ⟨w.heap.size, 0, none⟩ = some (.slice x0 d.terms.length x1) ∧ wq.cell? ⟨w.heap.size, 1, none⟩ = some (.slice x2 d.nons.length x3) ∧ wq.cell? ⟨w.heap.size, 2, none⟩ = some (.int .i64 d.own) ∧ wq.cell? ⟨w.heap.size, 3, none⟩ = some (.slice x4 d.prods.length x5) ∧ wq.cell? ⟨w.heap.size + 1, 0, none⟩ = some (.slice (some ⟨b, off, none⟩) g.attrs.length y1) ∧ wq.cell? ⟨w.heap.size + 1, 1, none⟩ = some (.slice (some ⟨b2, off2, none⟩) g.eqs.length y3) ∧ wq.cell? ⟨wr.heap.size, 0, none⟩ = some (.int .i64 ep) ∧ wq.cell? ⟨wr.heap.size, 1, none⟩ = some (.int .i64 eo) ∧ wq.cell? ⟨wr.heap.size, 2, none⟩ = some (.int .i64 (ia : Int)) ∧ wq.cell? ⟨wr.heap.size, 3, none⟩ = some (.int .i64 eop) ∧ wq.cell? ⟨wr.heap.size, 4, none⟩ = some (.slice ra rl.length rc) ∧ wq.cell? ⟨b, off + ia * 3 + 2, none⟩ = some (.bool dn)) from fun wq hq => ⟨(HQ.out wq (bel_trans HLV.out hq)).1, (HQ.out wq (bel_trans HLV.out hq)).2.1, (HQ.out wq (bel_trans HLV.out hq)).2.2.1, (HQ.out wq (bel_trans HLV.out hq)).2.2.2.1, (HQ.out wq (bel_trans HLV.out hq)).2.2.2.2.1, (HQ.out wq (bel_trans HLV.out hq)).2.2.2.2.2, ((Box.new wr 59 [.int .i64 ep, .int .i64 eo, .int .i64 (ia : Int), .int .i64 eop, .slice ra rl.length rc]).still hq).cell 0 (by simp), ((Box.new wr 59 [.int .i64 ep, .int .i64 eo, .int .i64 (ia : Int), .int .i64 eop, .slice ra rl.length rc]).still hq).cell 1 (by simp), ((Box.new wr 59 [.int .i64 ep, .int .i64 eo, .int .i64 (ia : Int), .int .i64 eop, .slice ra rl.length rc]).still hq).cell 2 (by simp), ((Box.new wr 59 [.int .i64 ep, .int .i64 eo, .int .i64 (ia : Int), .int .i64 eop, .slice ra rl.length rc]).still hq).cell 3 (by simp), ((Box.new wr 59 [.int .i64 ep, .int .i64 eo, .int .i64 (ia : Int), .int .i64 eop, .slice ra rl.length rc]).still hq).cell 4 (by simp), ((bel_trans HBV.out hq).cell (lt_of_cell HCD.out)).trans HCD.out⟩)
            have hS0 := HSK.out _ hd0
            clear hd0
            go_wp2_with fail
            clear q0 q1 q2 q3 r0 r1 c0 c1 c2 c3 c4
            refine wp_region_held_drew (S := fun wq => wq.cell? ⟨w.heap.size, 0, none⟩ = some (.slice x0 d.terms.length x1) ∧ wq.cell? ⟨w.heap.size, 1, none⟩ = some (.slice x2 d.nons.length x3) ∧ wq.cell? ⟨w.heap.size, 2, none⟩ = some (.int .i64 d.own) ∧ wq.cell? ⟨w.heap.size, 3, none⟩ = some (.slice x4 d.prods.length x5) ∧ wq.cell? ⟨w.heap.size + 1, 0, none⟩ = some (.slice (some ⟨b, off, none⟩) g.attrs.length y1) ∧ wq.cell? ⟨w.heap.size + 1, 1, none⟩ = some (.slice (some ⟨b2, off2, none⟩) g.eqs.length y3) ∧ wq.cell? ⟨wr.heap.size, 0, none⟩ = some (.int .i64 ep) ∧ wq.cell? ⟨wr.heap.size, 1, none⟩ = some (.int .i64 eo) ∧ wq.cell? ⟨wr.heap.size, 2, none⟩ = some (.int .i64 (ia : Int)) ∧ wq.cell? ⟨wr.heap.size, 3, none⟩ = some (.int .i64 eop) ∧ wq.cell? ⟨wr.heap.size, 4, none⟩ = some (.slice ra rl.length rc) ∧ wq.cell? ⟨b, off + ia * 3 + 2, none⟩ = some (.bool dn)) (by kernel_rfl) hS0 (fun hHeld => ?_)
            refine wpAnyH_take (i := 0) (oi := oE0) (v := ?v201) rfl (by kernel_rfl) (by kernel_rfl) (by kernel_rfl) (fun _ _ _ h => h) (Or.inl ⟨by rfl, ?h201⟩) hHeld ?r201
            case h201 => (intro w hSw; (try dsimp only at hSw); go_simp; try with_reducible rfl)
            try simp only [Act.put, List.setIfInBounds_toArray, List.set_cons_zero, List.set_cons_succ]
            refine wpAnyH_take (i := 1) (oi := oE1) (v := ?v202) rfl (by kernel_rfl) (by kernel_rfl) (by kernel_rfl) (fun _ _ _ h => h) (Or.inl ⟨by rfl, ?h202⟩) hHeld ?r202
            case h202 => (intro w hSw; (try dsimp only at hSw); go_simp; try with_reducible rfl)
            try simp only [Act.put, List.setIfInBounds_toArray, List.set_cons_zero, List.set_cons_succ]
            refine wpAnyH_take (i := 2) (oi := oE2) (v := ?v203) rfl (by kernel_rfl) (by kernel_rfl) (by kernel_rfl) (fun _ _ _ h => h) (Or.inl ⟨by rfl, ?h203⟩) hHeld ?r203
            case h203 => (intro w hSw; (try dsimp only at hSw); go_simp; try with_reducible rfl)
            try simp only [Act.put, List.setIfInBounds_toArray, List.set_cons_zero, List.set_cons_succ]
            refine wpAnyH_take (i := 3) (oi := oE3) (v := ?v204) rfl (by kernel_rfl) (by kernel_rfl) (by kernel_rfl) (fun _ _ _ h => h) (Or.inl ⟨by rfl, ?h204⟩) hHeld ?r204
            case h204 => (intro w hSw; (try dsimp only at hSw); go_simp; try with_reducible rfl)
            try simp only [Act.put, List.setIfInBounds_toArray, List.set_cons_zero, List.set_cons_succ]
            refine wpAnyH_take (i := 4) (oi := oE4) (v := ?v205) rfl (by kernel_rfl) (by kernel_rfl) (by kernel_rfl) (fun _ _ _ h => h) (Or.inl ⟨by rfl, ?h205⟩) hHeld ?r205
            case h205 => (intro w hSw; (try dsimp only at hSw); go_simp; try with_reducible rfl)
            try simp only [Act.put, List.setIfInBounds_toArray, List.set_cons_zero, List.set_cons_succ]
            refine wpAnyH_take (i := 5) (oi := oE5) (v := ?v206) rfl (by kernel_rfl) (by kernel_rfl) (by kernel_rfl) (fun _ _ _ h => h) (Or.inl ⟨by rfl, ?h206⟩) hHeld ?r206
            case h206 => (intro w hSw; (try dsimp only at hSw); go_simp; try with_reducible rfl)
            try simp only [Act.put, List.setIfInBounds_toArray, List.set_cons_zero, List.set_cons_succ]
            refine wpAnyH_take (i := 6) (oi := oE6) (v := ?v207) rfl (by kernel_rfl) (by kernel_rfl) (by kernel_rfl) (fun _ _ _ h => h) (Or.inl ⟨by rfl, ?h207⟩) hHeld ?r207
            case h207 => (intro w hSw; (try dsimp only at hSw); go_simp; try with_reducible rfl)
            try simp only [Act.put, List.setIfInBounds_toArray, List.set_cons_zero, List.set_cons_succ]
            refine wpAnyH_take (i := 7) (oi := oE7) (v := ?v208) rfl (by kernel_rfl) (by kernel_rfl) (by kernel_rfl) (fun _ _ _ h => h) (Or.inl ⟨by rfl, ?h208⟩) hHeld ?r208
            case h208 => (intro w hSw; (try dsimp only at hSw); go_simp; try with_reducible rfl)
            try simp only [Act.put, List.setIfInBounds_toArray, List.set_cons_zero, List.set_cons_succ]
            refine wpAnyH_ready (rs := [8]) (by kernel_rfl) (by simp) ?_
            refine (AllReadyH.cons (o := oE8) rfl (fun K hK => ?_) AllReadyH.nil)
            go_simp
            refine Calls.mono HC8.out ?_
            rintro e w4 ⟨rfl, hb4⟩
            dsimp only
            have hS1 := HSK.out w4 (bel_trans HDD.out hb4)
            have HB4 := (show Hid (Below w.heap.size w w4) from bel_trans HDW.out hb4)
            clear hHeld
            refine hK.out _ _ (hS1) (fun hHeld => ?_)
            clear hK K
            try simp only [Act.put, List.setIfInBounds_toArray, List.set_cons_zero, List.set_cons_succ]
            refine wpAnyH_take (i := 9) (oi := oE9) (v := ?v209) rfl (by kernel_rfl) (by kernel_rfl) (by kernel_rfl) (fun _ _ _ h => h) (Or.inl ⟨by rfl, ?h209⟩) hHeld ?r209
            case h209 => (intro w hSw; (try dsimp only at hSw); go_simp; try with_reducible rfl)
            try simp only [Act.put, List.setIfInBounds_toArray, List.set_cons_zero, List.set_cons_succ]
            refine wpAnyH_take (i := 10) (oi := oE10) (v := ?v210) rfl (by kernel_rfl) (by kernel_rfl) (by kernel_rfl) (fun _ _ _ h => h) (Or.inl ⟨by rfl, ?h210⟩) hHeld ?r210
            case h210 => (intro w hSw; (try dsimp only at hSw); go_simp; try with_reducible rfl)
            try simp only [Act.put, List.setIfInBounds_toArray, List.set_cons_zero, List.set_cons_succ]
            refine wpAnyH_take (i := 11) (oi := oE11) (v := ?v211) rfl (by kernel_rfl) (by kernel_rfl) (by kernel_rfl) (fun _ _ _ h => h) (Or.inl ⟨by rfl, ?h211⟩) hHeld ?r211
            case h211 => (intro w hSw; (try dsimp only at hSw); go_simp; try with_reducible rfl)
            try simp only [Act.put, List.setIfInBounds_toArray, List.set_cons_zero, List.set_cons_succ]
            refine wpAnyH_take (i := 12) (oi := oE12) (v := ?v212) rfl (by kernel_rfl) (by kernel_rfl) (by kernel_rfl) (fun _ _ _ h => h) (Or.inl ⟨by rfl, ?h212⟩) hHeld ?r212
            case h212 => (intro w hSw; (try dsimp only at hSw); go_simp; try with_reducible rfl)
            try simp only [Act.put, List.setIfInBounds_toArray, List.set_cons_zero, List.set_cons_succ]
            refine wpAnyH_take (i := 13) (oi := oE13) (v := ?v213) rfl (by kernel_rfl) (by kernel_rfl) (by kernel_rfl) (fun _ _ _ h => h) (Or.inl ⟨by rfl, ?h213⟩) hHeld ?r213
            case h213 => (intro w hSw; (try dsimp only at hSw); go_simp; try with_reducible rfl)
            try simp only [Act.put, List.setIfInBounds_toArray, List.set_cons_zero, List.set_cons_succ]
            refine wpAnyH_take (i := 14) (oi := oE14) (v := ?v214) rfl (by kernel_rfl) (by kernel_rfl) (by kernel_rfl) (fun _ _ _ h => h) (Or.inl ⟨by rfl, ?h214⟩) hHeld ?r214
            case h214 => (intro w hSw; (try dsimp only at hSw); go_simp; try with_reducible rfl)
            try simp only [Act.put, List.setIfInBounds_toArray, List.set_cons_zero, List.set_cons_succ]
            refine wpAnyH_take (i := 15) (oi := oE15) (v := ?v215) rfl (by kernel_rfl) (by kernel_rfl) (by kernel_rfl) (fun _ _ _ h => h) (Or.inl ⟨by rfl, ?h215⟩) hHeld ?r215
            case h215 => (intro w hSw; (try dsimp only at hSw); go_simp; try with_reducible rfl)
            try simp only [Act.put, List.setIfInBounds_toArray, List.set_cons_zero, List.set_cons_succ]
            refine wpAnyH_take (i := 16) (oi := oE16) (v := ?v216) rfl (by kernel_rfl) (by kernel_rfl) (by kernel_rfl) (fun _ _ _ h => h) (Or.inl ⟨by rfl, ?h216⟩) hHeld ?r216
            case h216 => (intro w hSw; (try dsimp only at hSw); go_simp; try with_reducible rfl)
            try simp only [Act.put, List.setIfInBounds_toArray, List.set_cons_zero, List.set_cons_succ]
            refine wpAnyH_take (i := 17) (oi := oE17) (v := ?v217) rfl (by kernel_rfl) (by kernel_rfl) (by kernel_rfl) (fun _ _ _ h => h) (Or.inl ⟨by rfl, ?h217⟩) hHeld ?r217
            case h217 => (intro w hSw; (try dsimp only at hSw); go_simp; try with_reducible rfl)
            try simp only [Act.put, List.setIfInBounds_toArray, List.set_cons_zero, List.set_cons_succ]
            refine wpAnyH_take (i := 18) (oi := oE18) (v := ?v218) rfl (by kernel_rfl) (by kernel_rfl) (by kernel_rfl) (fun _ _ _ h => h) (Or.inl ⟨by rfl, ?h218⟩) hHeld ?r218
            case h218 => (intro w hSw; (try dsimp only at hSw); go_simp; try with_reducible rfl)
            try simp only [Act.put, List.setIfInBounds_toArray, List.set_cons_zero, List.set_cons_succ]
            refine wpAnyH_take (i := 19) (oi := oE19) (v := ?v219) rfl (by kernel_rfl) (by kernel_rfl) (by kernel_rfl) (fun _ _ _ h => h) (Or.inl ⟨by rfl, ?h219⟩) hHeld ?r219
            case h219 => (intro w hSw; (try dsimp only at hSw); go_simp; try with_reducible rfl)
            try simp only [Act.put, List.setIfInBounds_toArray, List.set_cons_zero, List.set_cons_succ]
            refine wpAnyH_take (i := 20) (oi := oE20) (v := ?v220) rfl (by kernel_rfl) (by kernel_rfl) (by kernel_rfl) (fun _ _ _ h => h) (Or.inl ⟨by rfl, ?h220⟩) hHeld ?r220
            case h220 => (intro w hSw; (try dsimp only at hSw); go_simp; try with_reducible rfl)
            try simp only [Act.put, List.setIfInBounds_toArray, List.set_cons_zero, List.set_cons_succ]
            refine wpAnyH_take (i := 21) (oi := oE21) (v := ?v221) rfl (by kernel_rfl) (by kernel_rfl) (by kernel_rfl) (fun _ _ _ h => h) (Or.inl ⟨by rfl, ?h221⟩) hHeld ?r221
            case h221 => (intro w hSw; (try dsimp only at hSw); go_simp; try with_reducible rfl)
            try simp only [Act.put, List.setIfInBounds_toArray, List.set_cons_zero, List.set_cons_succ]
            refine wpAnyH_take (i := 22) (oi := oE22) (v := ?v222) rfl (by kernel_rfl) (by kernel_rfl) (by kernel_rfl) (fun _ _ _ h => h) (Or.inl ⟨by rfl, ?h222⟩) hHeld ?r222
            case h222 => (intro w hSw; (try dsimp only at hSw); go_simp; try with_reducible rfl)
            try simp only [Act.put, List.setIfInBounds_toArray, List.set_cons_zero, List.set_cons_succ]
            refine wpAnyH_take (i := 23) (oi := oE23) (v := ?v223) rfl (by kernel_rfl) (by kernel_rfl) (by kernel_rfl) (fun _ _ _ h => h) (Or.inl ⟨by rfl, ?h223⟩) hHeld ?r223
            case h223 => (intro w hSw; (try dsimp only at hSw); go_simp; try with_reducible rfl)
            try simp only [Act.put, List.setIfInBounds_toArray, List.set_cons_zero, List.set_cons_succ]
            refine wpAnyH_take (i := 24) (oi := oE24) (v := ?v224) rfl (by kernel_rfl) (by kernel_rfl) (by kernel_rfl) (fun _ _ _ h => h) (Or.inl ⟨by rfl, ?h224⟩) hHeld ?r224
            case h224 => (intro w hSw; (try dsimp only at hSw); go_simp; try with_reducible rfl)
            try simp only [Act.put, List.setIfInBounds_toArray, List.set_cons_zero, List.set_cons_succ]
            refine wpAnyH_take (i := 25) (oi := oE25) (v := ?v225) rfl (by kernel_rfl) (by kernel_rfl) (by kernel_rfl) (fun _ _ _ h => h) (Or.inl ⟨by rfl, ?h225⟩) hHeld ?r225
            case h225 => (intro w hSw; (try dsimp only at hSw); go_simp; try with_reducible rfl)
            try simp only [Act.put, List.setIfInBounds_toArray, List.set_cons_zero, List.set_cons_succ]
            refine wpAnyH_take (i := 27) (oi := oE27) (v := ?v226) rfl (by kernel_rfl) (by kernel_rfl) (by kernel_rfl) (fun _ _ _ h => h) (Or.inl ⟨by rfl, ?h226⟩) hHeld ?r226
            case h226 => (intro w hSw; (try dsimp only at hSw); go_simp; try with_reducible rfl)
            try simp only [Act.put, List.setIfInBounds_toArray, List.set_cons_zero, List.set_cons_succ]
            refine wpAnyH_take (i := 28) (oi := oE28) (v := ?v227) rfl (by kernel_rfl) (by kernel_rfl) (by kernel_rfl) (fun _ _ _ h => h) (Or.inl ⟨by rfl, ?h227⟩) hHeld ?r227
            case h227 => (intro w hSw; (try dsimp only at hSw); go_simp; try with_reducible rfl)
            try simp only [Act.put, List.setIfInBounds_toArray, List.set_cons_zero, List.set_cons_succ]
            refine wpAnyH_take (i := 29) (oi := oE29) (v := ?v228) rfl (by kernel_rfl) (by kernel_rfl) (by kernel_rfl) (fun _ _ _ h => h) (Or.inl ⟨by rfl, ?h228⟩) hHeld ?r228
            case h228 => (intro w hSw; (try dsimp only at hSw); go_simp; try with_reducible rfl)
            try simp only [Act.put, List.setIfInBounds_toArray, List.set_cons_zero, List.set_cons_succ]
            refine wpAnyH_ready (rs := [26]) (by kernel_rfl) (by simp) ?_
            refine (AllReadyH.cons (o := oE26) rfl (fun K hK => ?_) AllReadyH.nil)
            go_simp
            refine Calls.mono (H21.out _) ?_
            rintro e w5 ⟨rfl, rfl⟩
            dsimp only
            clear hHeld
            refine hK.out _ _ (hS1) (fun hHeld => ?_)
            clear hK K
            try simp only [Act.put, List.setIfInBounds_toArray, List.set_cons_zero, List.set_cons_succ]
            refine wpAnyH_take (i := 30) (oi := oE30) (v := ?v229) rfl (by kernel_rfl) (by kernel_rfl) (by kernel_rfl) (fun _ _ _ h => h) (Or.inl ⟨by rfl, ?h229⟩) hHeld ?r229
            case h229 => (intro w hSw; (try dsimp only at hSw); go_simp; try with_reducible rfl)
            try simp only [Act.put, List.setIfInBounds_toArray, List.set_cons_zero, List.set_cons_succ]
            refine wpAnyH_take (i := 31) (oi := oE31) (v := ?v230) rfl (by kernel_rfl) (by kernel_rfl) (by kernel_rfl) (fun _ _ _ h => h) (Or.inl ⟨by rfl, ?h230⟩) hHeld ?r230
            case h230 => (intro w hSw; (try dsimp only at hSw); go_simp; try with_reducible rfl)
            try simp only [Act.put, List.setIfInBounds_toArray, List.set_cons_zero, List.set_cons_succ]
            refine wpAnyH_done (by kernel_rfl) ?_ _
            (try refine NoPanic.normal ?_)
            go_wp2_with fail
            go_ret
            exact ⟨by rw [HG.out]; rfl, HB4.out⟩
          have kn : (argN eop != (rl.length : Int)) = false := by simpa using hn
          have HYE := (show Hid ((∀ k (hk : k < rl.length), argB d g ep rl[k] = true) → ee = true) from E5.out hh hd hn)
          clear E1 E2 E3 E5 hh hn
          have HBV := (show Hid (Below w.heap.size w (wr.alloc (.cells #[.int .i64 ep, .int .i64 eo, .int .i64 (ia : Int), .int .i64 eop, .slice ra rl.length rc] 59))) from bel_trans HBW.out (bel_alloc _ _))
          have HLV := (show Hid (Below W.heap.size W (wr.alloc (.cells #[.int .i64 ep, .int .i64 eo, .int .i64 (ia : Int), .int .i64 eop, .slice ra rl.length rc] 59))) from bel_trans hbel (bel_alloc _ _))
          have hd0 : Below (wr.alloc (.cells #[.int .i64 ep, .int .i64 eo, .int .i64 (ia : Int), .int .i64 eop, .slice ra rl.length rc] 59)).heap.size (wr.alloc (.cells #[.int .i64 ep, .int .i64 eo, .int .i64 (ia : Int), .int .i64 eop, .slice ra rl.length rc] 59)) (wr.alloc (.cells #[.int .i64 ep, .int .i64 eo, .int .i64 (ia : Int), .int .i64 eop, .slice ra rl.length rc] 59)).drew := (Below.refl _ _).drew
          have HDD := (show Hid _ from hd0)
          have HDW := (show Hid (Below w.heap.size w (wr.alloc (.cells #[.int .i64 ep, .int .i64 eo, .int .i64 (ia : Int), .int .i64 eop, .slice ra rl.length rc] 59)).drew) from bel_trans HBV.out hd0)
          have HC8 := (show Hid _ from HHE.out (wr.alloc (.cells #[.int .i64 ep, .int .i64 eo, .int .i64 (ia : Int), .int .i64 eop, .slice ra rl.length rc] 59)).drew HDW.out)
          have HSK := (show Hid (∀ wq : World, Below (wr.alloc (.cells #[.int .i64 ep, .int .i64 eo, .int .i64 (ia : Int), .int .i64 eop, .slice ra rl.length rc] 59)).heap.size (wr.alloc (.cells #[.int .i64 ep, .int .i64 eo, .int .i64 (ia : Int), .int .i64 eop, .slice ra rl.length rc] 59)) wq → wq.cell? ⟨w.heap.size, 0, none⟩ = some (.slice x0 d.terms.length x1) ∧ wq.cell? ⟨w.heap.size, 1, none⟩ = some (.slice x2 d.nons.length x3) ∧ wq.cell? ⟨w.heap.size, 2, none⟩ = some (.int .i64 d.own) ∧ wq.cell? ⟨w.heap.size, 3, none⟩ = some (.slice x4 d.prods.length x5) ∧ wq.cell? ⟨w.heap.size + 1, 0, none⟩ = some (.slice (some ⟨b, off, none⟩) g.attrs.length y1) ∧ wq.cell? ⟨w.heap.size + 1, 1, none⟩ = some (.slice (some ⟨b2, off2, none⟩) g.eqs.length y3) ∧ wq.cell? ⟨wr.heap.size, 0, none⟩ = some (.int .i64 ep) ∧ wq.cell? ⟨wr.heap.size, 1, none⟩ = some (.int .i64 eo) ∧ wq.cell? ⟨wr.heap.size, 2, none⟩ = some (.int .i64 (ia : Int)) ∧ wq.cell? ⟨wr.heap.size, 3, none⟩ = some (.int .i64 eop) ∧ wq.cell? ⟨wr.heap.size, 4, none⟩ = some (.slice ra rl.length rc) ∧ wq.cell? ⟨b, off + ia * 3 + 2, none⟩ = some (.bool dn)) from fun wq hq => ⟨(HQ.out wq (bel_trans HLV.out hq)).1, (HQ.out wq (bel_trans HLV.out hq)).2.1, (HQ.out wq (bel_trans HLV.out hq)).2.2.1, (HQ.out wq (bel_trans HLV.out hq)).2.2.2.1, (HQ.out wq (bel_trans HLV.out hq)).2.2.2.2.1, (HQ.out wq (bel_trans HLV.out hq)).2.2.2.2.2, ((Box.new wr 59 [.int .i64 ep, .int .i64 eo, .int .i64 (ia : Int), .int .i64 eop, .slice ra rl.length rc]).still hq).cell 0 (by simp), ((Box.new wr 59 [.int .i64 ep, .int .i64 eo, .int .i64 (ia : Int), .int .i64 eop, .slice ra rl.length rc]).still hq).cell 1 (by simp), ((Box.new wr 59 [.int .i64 ep, .int .i64 eo, .int .i64 (ia : Int), .int .i64 eop, .slice ra rl.length rc]).still hq).cell 2 (by simp), ((Box.new wr 59 [.int .i64 ep, .int .i64 eo, .int .i64 (ia : Int), .int .i64 eop, .slice ra rl.length rc]).still hq).cell 3 (by simp), ((Box.new wr 59 [.int .i64 ep, .int .i64 eo, .int .i64 (ia : Int), .int .i64 eop, .slice ra rl.length rc]).still hq).cell 4 (by simp), ((bel_trans HBV.out hq).cell (lt_of_cell HCD.out)).trans HCD.out⟩)
          have hS0 := HSK.out _ hd0
          clear hd0
          go_wp2_with fail
          clear q0 q1 q2 q3 r0 r1 c0 c1 c2 c3 c4
          refine wp_region_held_drew (S := fun wq => wq.cell? ⟨w.heap.size, 0, none⟩ = some (.slice x0 d.terms.length x1) ∧ wq.cell? ⟨w.heap.size, 1, none⟩ = some (.slice x2 d.nons.length x3) ∧ wq.cell? ⟨w.heap.size, 2, none⟩ = some (.int .i64 d.own) ∧ wq.cell? ⟨w.heap.size, 3, none⟩ = some (.slice x4 d.prods.length x5) ∧ wq.cell? ⟨w.heap.size + 1, 0, none⟩ = some (.slice (some ⟨b, off, none⟩) g.attrs.length y1) ∧ wq.cell? ⟨w.heap.size + 1, 1, none⟩ = some (.slice (some ⟨b2, off2, none⟩) g.eqs.length y3) ∧ wq.cell? ⟨wr.heap.size, 0, none⟩ = some (.int .i64 ep) ∧ wq.cell? ⟨wr.heap.size, 1, none⟩ = some (.int .i64 eo) ∧ wq.cell? ⟨wr.heap.size, 2, none⟩ = some (.int .i64 (ia : Int)) ∧ wq.cell? ⟨wr.heap.size, 3, none⟩ = some (.int .i64 eop) ∧ wq.cell? ⟨wr.heap.size, 4, none⟩ = some (.slice ra rl.length rc) ∧ wq.cell? ⟨b, off + ia * 3 + 2, none⟩ = some (.bool dn)) (by kernel_rfl) hS0 (fun hHeld => ?_)
          refine wpAnyH_take (i := 0) (oi := oE0) (v := ?v301) rfl (by kernel_rfl) (by kernel_rfl) (by kernel_rfl) (fun _ _ _ h => h) (Or.inl ⟨by rfl, ?h301⟩) hHeld ?r301
          case h301 => (intro w hSw; (try dsimp only at hSw); go_simp; try with_reducible rfl)
          try simp only [Act.put, List.setIfInBounds_toArray, List.set_cons_zero, List.set_cons_succ]
          refine wpAnyH_take (i := 1) (oi := oE1) (v := ?v302) rfl (by kernel_rfl) (by kernel_rfl) (by kernel_rfl) (fun _ _ _ h => h) (Or.inl ⟨by rfl, ?h302⟩) hHeld ?r302
          case h302 => (intro w hSw; (try dsimp only at hSw); go_simp; try with_reducible rfl)
          try simp only [Act.put, List.setIfInBounds_toArray, List.set_cons_zero, List.set_cons_succ]
          refine wpAnyH_take (i := 2) (oi := oE2) (v := ?v303) rfl (by kernel_rfl) (by kernel_rfl) (by kernel_rfl) (fun _ _ _ h => h) (Or.inl ⟨by rfl, ?h303⟩) hHeld ?r303
          case h303 => (intro w hSw; (try dsimp only at hSw); go_simp; try with_reducible rfl)
          try simp only [Act.put, List.setIfInBounds_toArray, List.set_cons_zero, List.set_cons_succ]
          refine wpAnyH_take (i := 3) (oi := oE3) (v := ?v304) rfl (by kernel_rfl) (by kernel_rfl) (by kernel_rfl) (fun _ _ _ h => h) (Or.inl ⟨by rfl, ?h304⟩) hHeld ?r304
          case h304 => (intro w hSw; (try dsimp only at hSw); go_simp; try with_reducible rfl)
          try simp only [Act.put, List.setIfInBounds_toArray, List.set_cons_zero, List.set_cons_succ]
          refine wpAnyH_take (i := 4) (oi := oE4) (v := ?v305) rfl (by kernel_rfl) (by kernel_rfl) (by kernel_rfl) (fun _ _ _ h => h) (Or.inl ⟨by rfl, ?h305⟩) hHeld ?r305
          case h305 => (intro w hSw; (try dsimp only at hSw); go_simp; try with_reducible rfl)
          try simp only [Act.put, List.setIfInBounds_toArray, List.set_cons_zero, List.set_cons_succ]
          refine wpAnyH_take (i := 5) (oi := oE5) (v := ?v306) rfl (by kernel_rfl) (by kernel_rfl) (by kernel_rfl) (fun _ _ _ h => h) (Or.inl ⟨by rfl, ?h306⟩) hHeld ?r306
          case h306 => (intro w hSw; (try dsimp only at hSw); go_simp; try with_reducible rfl)
          try simp only [Act.put, List.setIfInBounds_toArray, List.set_cons_zero, List.set_cons_succ]
          refine wpAnyH_take (i := 6) (oi := oE6) (v := ?v307) rfl (by kernel_rfl) (by kernel_rfl) (by kernel_rfl) (fun _ _ _ h => h) (Or.inl ⟨by rfl, ?h307⟩) hHeld ?r307
          case h307 => (intro w hSw; (try dsimp only at hSw); go_simp; try with_reducible rfl)
          try simp only [Act.put, List.setIfInBounds_toArray, List.set_cons_zero, List.set_cons_succ]
          refine wpAnyH_take (i := 7) (oi := oE7) (v := ?v308) rfl (by kernel_rfl) (by kernel_rfl) (by kernel_rfl) (fun _ _ _ h => h) (Or.inl ⟨by rfl, ?h308⟩) hHeld ?r308
          case h308 => (intro w hSw; (try dsimp only at hSw); go_simp; try with_reducible rfl)
          try simp only [Act.put, List.setIfInBounds_toArray, List.set_cons_zero, List.set_cons_succ]
          refine wpAnyH_ready (rs := [8]) (by kernel_rfl) (by simp) ?_
          refine (AllReadyH.cons (o := oE8) rfl (fun K hK => ?_) AllReadyH.nil)
          go_simp
          refine Calls.mono HC8.out ?_
          rintro e w4 ⟨rfl, hb4⟩
          dsimp only
          have hS1 := HSK.out w4 (bel_trans HDD.out hb4)
          have HB4 := (show Hid (Below w.heap.size w w4) from bel_trans HDW.out hb4)
          clear hHeld
          refine hK.out _ _ (hS1) (fun hHeld => ?_)
          clear hK K
          try simp only [Act.put, List.setIfInBounds_toArray, List.set_cons_zero, List.set_cons_succ]
          refine wpAnyH_take (i := 9) (oi := oE9) (v := ?v309) rfl (by kernel_rfl) (by kernel_rfl) (by kernel_rfl) (fun _ _ _ h => h) (Or.inl ⟨by rfl, ?h309⟩) hHeld ?r309
          case h309 => (intro w hSw; (try dsimp only at hSw); go_simp; try with_reducible rfl)
          try simp only [Act.put, List.setIfInBounds_toArray, List.set_cons_zero, List.set_cons_succ]
          refine wpAnyH_take (i := 10) (oi := oE10) (v := ?v310) rfl (by kernel_rfl) (by kernel_rfl) (by kernel_rfl) (fun _ _ _ h => h) (Or.inl ⟨by rfl, ?h310⟩) hHeld ?r310
          case h310 => (intro w hSw; (try dsimp only at hSw); go_simp; try with_reducible rfl)
          try simp only [Act.put, List.setIfInBounds_toArray, List.set_cons_zero, List.set_cons_succ]
          refine wpAnyH_take (i := 11) (oi := oE11) (v := ?v311) rfl (by kernel_rfl) (by kernel_rfl) (by kernel_rfl) (fun _ _ _ h => h) (Or.inl ⟨by rfl, ?h311⟩) hHeld ?r311
          case h311 => (intro w hSw; (try dsimp only at hSw); go_simp; try with_reducible rfl)
          try simp only [Act.put, List.setIfInBounds_toArray, List.set_cons_zero, List.set_cons_succ]
          refine wpAnyH_take (i := 12) (oi := oE12) (v := ?v312) rfl (by kernel_rfl) (by kernel_rfl) (by kernel_rfl) (fun _ _ _ h => h) (Or.inl ⟨by rfl, ?h312⟩) hHeld ?r312
          case h312 => (intro w hSw; (try dsimp only at hSw); go_simp; try with_reducible rfl)
          try simp only [Act.put, List.setIfInBounds_toArray, List.set_cons_zero, List.set_cons_succ]
          refine wpAnyH_take (i := 13) (oi := oE13) (v := ?v313) rfl (by kernel_rfl) (by kernel_rfl) (by kernel_rfl) (fun _ _ _ h => h) (Or.inl ⟨by rfl, ?h313⟩) hHeld ?r313
          case h313 => (intro w hSw; (try dsimp only at hSw); go_simp; try with_reducible rfl)
          try simp only [Act.put, List.setIfInBounds_toArray, List.set_cons_zero, List.set_cons_succ]
          refine wpAnyH_take (i := 14) (oi := oE14) (v := ?v314) rfl (by kernel_rfl) (by kernel_rfl) (by kernel_rfl) (fun _ _ _ h => h) (Or.inl ⟨by rfl, ?h314⟩) hHeld ?r314
          case h314 => (intro w hSw; (try dsimp only at hSw); go_simp; try with_reducible rfl)
          try simp only [Act.put, List.setIfInBounds_toArray, List.set_cons_zero, List.set_cons_succ]
          refine wpAnyH_take (i := 15) (oi := oE15) (v := ?v315) rfl (by kernel_rfl) (by kernel_rfl) (by kernel_rfl) (fun _ _ _ h => h) (Or.inl ⟨by rfl, ?h315⟩) hHeld ?r315
          case h315 => (intro w hSw; (try dsimp only at hSw); go_simp; try with_reducible rfl)
          try simp only [Act.put, List.setIfInBounds_toArray, List.set_cons_zero, List.set_cons_succ]
          refine wpAnyH_take (i := 16) (oi := oE16) (v := ?v316) rfl (by kernel_rfl) (by kernel_rfl) (by kernel_rfl) (fun _ _ _ h => h) (Or.inl ⟨by rfl, ?h316⟩) hHeld ?r316
          case h316 => (intro w hSw; (try dsimp only at hSw); go_simp; try with_reducible rfl)
          try simp only [Act.put, List.setIfInBounds_toArray, List.set_cons_zero, List.set_cons_succ]
          refine wpAnyH_take (i := 17) (oi := oE17) (v := ?v317) rfl (by kernel_rfl) (by kernel_rfl) (by kernel_rfl) (fun _ _ _ h => h) (Or.inl ⟨by rfl, ?h317⟩) hHeld ?r317
          case h317 => (intro w hSw; (try dsimp only at hSw); go_simp; try with_reducible rfl)
          try simp only [Act.put, List.setIfInBounds_toArray, List.set_cons_zero, List.set_cons_succ]
          refine wpAnyH_take (i := 18) (oi := oE18) (v := ?v318) rfl (by kernel_rfl) (by kernel_rfl) (by kernel_rfl) (fun _ _ _ h => h) (Or.inl ⟨by rfl, ?h318⟩) hHeld ?r318
          case h318 => (intro w hSw; (try dsimp only at hSw); go_simp; try with_reducible rfl)
          try simp only [Act.put, List.setIfInBounds_toArray, List.set_cons_zero, List.set_cons_succ]
          refine wpAnyH_take (i := 19) (oi := oE19) (v := ?v319) rfl (by kernel_rfl) (by kernel_rfl) (by kernel_rfl) (fun _ _ _ h => h) (Or.inl ⟨by rfl, ?h319⟩) hHeld ?r319
          case h319 => (intro w hSw; (try dsimp only at hSw); go_simp; try with_reducible rfl)
          try simp only [Act.put, List.setIfInBounds_toArray, List.set_cons_zero, List.set_cons_succ]
          refine wpAnyH_take (i := 20) (oi := oE20) (v := ?v320) rfl (by kernel_rfl) (by kernel_rfl) (by kernel_rfl) (fun _ _ _ h => h) (Or.inl ⟨by rfl, ?h320⟩) hHeld ?r320
          case h320 => (intro w hSw; (try dsimp only at hSw); go_simp; try with_reducible rfl)
          try simp only [Act.put, List.setIfInBounds_toArray, List.set_cons_zero, List.set_cons_succ]
          refine wpAnyH_take (i := 21) (oi := oE21) (v := ?v321) rfl (by kernel_rfl) (by kernel_rfl) (by kernel_rfl) (fun _ _ _ h => h) (Or.inl ⟨by rfl, ?h321⟩) hHeld ?r321
          case h321 => (intro w hSw; (try dsimp only at hSw); go_simp; try with_reducible rfl)
          try simp only [Act.put, List.setIfInBounds_toArray, List.set_cons_zero, List.set_cons_succ]
          refine wpAnyH_take (i := 22) (oi := oE22) (v := ?v322) rfl (by kernel_rfl) (by kernel_rfl) (by kernel_rfl) (fun _ _ _ h => h) (Or.inl ⟨by rfl, ?h322⟩) hHeld ?r322
          case h322 => (intro w hSw; (try dsimp only at hSw); go_simp; try with_reducible rfl)
          try simp only [Act.put, List.setIfInBounds_toArray, List.set_cons_zero, List.set_cons_succ]
          refine wpAnyH_take (i := 23) (oi := oE23) (v := ?v323) rfl (by kernel_rfl) (by kernel_rfl) (by kernel_rfl) (fun _ _ _ h => h) (Or.inl ⟨by rfl, ?h323⟩) hHeld ?r323
          case h323 => (intro w hSw; (try dsimp only at hSw); go_simp; try with_reducible rfl)
          try simp only [Act.put, List.setIfInBounds_toArray, List.set_cons_zero, List.set_cons_succ]
          refine wpAnyH_take (i := 24) (oi := oE24) (v := ?v324) rfl (by kernel_rfl) (by kernel_rfl) (by kernel_rfl) (fun _ _ _ h => h) (Or.inl ⟨by rfl, ?h324⟩) hHeld ?r324
          case h324 => (intro w hSw; (try dsimp only at hSw); go_simp; try with_reducible rfl)
          try simp only [Act.put, List.setIfInBounds_toArray, List.set_cons_zero, List.set_cons_succ]
          refine wpAnyH_take (i := 25) (oi := oE25) (v := ?v325) rfl (by kernel_rfl) (by kernel_rfl) (by kernel_rfl) (fun _ _ _ h => h) (Or.inl ⟨by rfl, ?h325⟩) hHeld ?r325
          case h325 => (intro w hSw; (try dsimp only at hSw); go_simp; try with_reducible rfl)
          try simp only [Act.put, List.setIfInBounds_toArray, List.set_cons_zero, List.set_cons_succ]
          refine wpAnyH_take (i := 27) (oi := oE27) (v := ?v326) rfl (by kernel_rfl) (by kernel_rfl) (by kernel_rfl) (fun _ _ _ h => h) (Or.inl ⟨by rfl, ?h326⟩) hHeld ?r326
          case h326 => (intro w hSw; (try dsimp only at hSw); go_simp; try with_reducible rfl)
          try simp only [Act.put, List.setIfInBounds_toArray, List.set_cons_zero, List.set_cons_succ]
          refine wpAnyH_take (i := 28) (oi := oE28) (v := ?v327) rfl (by kernel_rfl) (by kernel_rfl) (by kernel_rfl) (fun _ _ _ h => h) (Or.inl ⟨by rfl, ?h327⟩) hHeld ?r327
          case h327 => (intro w hSw; (try dsimp only at hSw); go_simp; try with_reducible rfl)
          try simp only [Act.put, List.setIfInBounds_toArray, List.set_cons_zero, List.set_cons_succ]
          refine wpAnyH_take (i := 29) (oi := oE29) (v := ?v328) rfl (by kernel_rfl) (by kernel_rfl) (by kernel_rfl) (fun _ _ _ h => h) (Or.inl ⟨by rfl, ?h328⟩) hHeld ?r328
          case h328 => (intro w hSw; (try dsimp only at hSw); go_simp; try with_reducible rfl)
          try simp only [Act.put, List.setIfInBounds_toArray, List.set_cons_zero, List.set_cons_succ]
          refine wpAnyH_ready (rs := [26]) (by kernel_rfl) (by simp) ?_
          refine (AllReadyH.cons (o := oE26) rfl (fun K hK => ?_) AllReadyH.nil)
          go_simp
          refine Calls.mono (H21.out _) ?_
          rintro e w5 ⟨rfl, rfl⟩
          dsimp only
          clear hHeld
          refine hK.out _ _ (hS1) (fun hHeld => ?_)
          clear hK K
          try simp only [Act.put, List.setIfInBounds_toArray, List.set_cons_zero, List.set_cons_succ]
          refine wpAnyH_take (i := 30) (oi := oE30) (v := ?v329) rfl (by kernel_rfl) (by kernel_rfl) (by kernel_rfl) (fun _ _ _ h => h) (Or.inl ⟨by rfl, ?h329⟩) hHeld ?r329
          case h329 => (intro w hSw; (try dsimp only at hSw); go_simp; try with_reducible rfl)
          try simp only [Act.put, List.setIfInBounds_toArray, List.set_cons_zero, List.set_cons_succ]
          refine wpAnyH_take (i := 31) (oi := oE31) (v := ?v330) rfl (by kernel_rfl) (by kernel_rfl) (by kernel_rfl) (fun _ _ _ h => h) (Or.inl ⟨by rfl, ?h330⟩) hHeld ?r330
          case h330 => (intro w hSw; (try dsimp only at hSw); go_simp; try with_reducible rfl)
          try simp only [Act.put, List.setIfInBounds_toArray, List.set_cons_zero, List.set_cons_succ]
          refine wpAnyH_done (by kernel_rfl) ?_ _
          (try refine NoPanic.normal ?_)
          go_wp2_with fail
          have hbl : Below W.heap.size W w5 := bel_trans HLV.out (bel_trans HDD.out hb4)
          have HV := (show Hid (∀ wq : World, Below w5.heap.size w5 wq → wq.cell? ⟨wr.heap.size, 0, none⟩ = some (.int .i64 ep) ∧ wq.cell? ⟨wr.heap.size, 1, none⟩ = some (.int .i64 eo) ∧ wq.cell? ⟨wr.heap.size, 2, none⟩ = some (.int .i64 (ia : Int)) ∧ wq.cell? ⟨wr.heap.size, 3, none⟩ = some (.int .i64 eop) ∧ wq.cell? ⟨wr.heap.size, 4, none⟩ = some (.slice ra rl.length rc)) from fun wq hq => by
            have := HSK.out wq (bel_trans (bel_trans HDD.out hb4) hq)
            exact ⟨this.2.2.2.2.2.2.1, this.2.2.2.2.2.2.2.1, this.2.2.2.2.2.2.2.2.1, this.2.2.2.2.2.2.2.2.2.1, this.2.2.2.2.2.2.2.2.2.2.1⟩)
          have HL := (show Hid (Below W.heap.size W w5) from hbl)
          clear hbl hb4 hS1 hS0 HSK HB4 HLV HDD HDW HBV HC8 HCD hbel
          generalize wr.heap.size = rr6 at *
          go_loopw [10] (fun i wq => ∃ k : Nat, i = .int .i64 k ∧ k ≤ rl.length ∧ Below w5.heap.size w5 wq ∧ Hid (∀ i (hi : i < rl.length), i < k → argB d g ep rl[i] = true)) (fun i _ => rl.length - (intOf i).toNat)
          case atStart => exact ⟨0, rfl, Nat.zero_le _, Below.refl _ _, fun i hi h0 => absurd h0 (Nat.not_lt_zero _)⟩
          case round =>
            obtain ⟨k, rfl, hk, hbq, HK⟩ := hrel
            have HWW := (show Hid (Below W.heap.size W wr) from bel_trans HL.out hbq)
            have HBX := (show Hid (Below w.heap.size w wr) from bel_trans HBB.out HWW.out)
            obtain ⟨q0, q1, q2, q3, r0, r1⟩ := HQ.out _ HWW.out
            obtain ⟨s0, s1, s2, s3, s4'⟩ := HV.out _ hbq
            by_cases hkl : k < rl.length
            · obtain ⟨rfl, _⟩ := HRA.out (by omega)
              obtain ⟨d0, d1, d2⟩ := HRC.out k hkl
              rw [← HBX.out.cell (lt_of_cell d0)] at d0
              rw [← HBX.out.cell (lt_of_cell d1)] at d1
              rw [← HBX.out.cell (lt_of_cell d2)] at d2
              have k1 : (0 : Int) ≤ (k : Int) := by omega
              have k2 : (k : Int) < (rl.length : Int) := by omega
              have hd0 : Below wr.heap.size wr wr.drew := (Below.refl _ _).drew
              have HDD := (show Hid _ from hd0)
              have HC9 := (show Hid _ from HRE.out rl[k] wr.drew (bel_trans HBX.out hd0))
              have HQ4 := (show Hid (Below w5.heap.size w5 wr) from hbq)
              have HEK := (show Hid _ from E4.out k hkl)
              have HNK := (show Hid (argB d g ep rl[k] = true → ∀ i (hi : i < rl.length), i < k + 1 → argB d g ep rl[i] = true) from fun hh i hi hik => by
                by_cases e : i = k
                · subst e; exact hh
                · exact HK.out i hi (by omega))
              generalize argB d g ep rl[k] = ab at *
              generalize rl[k].pos = xp at *
              generalize rl[k].attr = xa at *
              generalize rl[k].n = xn at *
              have HS3 := (show Hid (∀ wq : World, Below wr.heap.size wr wq → wq.cell? ⟨w.heap.size, 0, none⟩ = some (.slice x0 d.terms.length x1) ∧ wq.cell? ⟨w.heap.size, 1, none⟩ = some (.slice x2 d.nons.length x3) ∧ wq.cell? ⟨w.heap.size, 2, none⟩ = some (.int .i64 d.own) ∧ wq.cell? ⟨w.heap.size, 3, none⟩ = some (.slice x4 d.prods.length x5) ∧ wq.cell? ⟨w.heap.size + 1, 0, none⟩ = some (.slice (some ⟨b, off, none⟩) g.attrs.length y1) ∧ wq.cell? ⟨w.heap.size + 1, 1, none⟩ = some (.slice (some ⟨b2, off2, none⟩) g.eqs.length y3) ∧ wq.cell? ⟨rr6, 0, none⟩ = some (.int .i64 ep) ∧ wq.cell? ⟨rr6, 1, none⟩ = some (.int .i64 eo) ∧ wq.cell? ⟨rr6, 2, none⟩ = some (.int .i64 (ia : Int)) ∧ wq.cell? ⟨rr6, 3, none⟩ = some (.int .i64 eop) ∧ wq.cell? ⟨rr6, 4, none⟩ = some (.slice (some ⟨rb, roff, none⟩) rl.length rc) ∧ wq.cell? ⟨rb, roff + k * 3, none⟩ = some (.int .i64 xp) ∧ wq.cell? ⟨rb, roff + k * 3 + 1, none⟩ = some (.int .i64 xa) ∧ wq.cell? ⟨rb, roff + k * 3 + 2, none⟩ = some (.int .i64 xn)) from fun wq hq => ⟨(hq.cell (lt_of_cell q0)).trans q0, (hq.cell (lt_of_cell q1)).trans q1, (hq.cell (lt_of_cell q2)).trans q2, (hq.cell (lt_of_cell q3)).trans q3, (hq.cell (lt_of_cell r0)).trans r0, (hq.cell (lt_of_cell r1)).trans r1, (hq.cell (lt_of_cell s0)).trans s0, (hq.cell (lt_of_cell s1)).trans s1, (hq.cell (lt_of_cell s2)).trans s2, (hq.cell (lt_of_cell s3)).trans s3, (hq.cell (lt_of_cell s4')).trans s4', (hq.cell (lt_of_cell d0)).trans d0, (hq.cell (lt_of_cell d1)).trans d1, (hq.cell (lt_of_cell d2)).trans d2⟩)
              have hS0 := HS3.out _ hd0
              clear hd0 hbq
              go_wp2_with fail
              clear q0 q1 q2 q3 r0 r1 s0 s1 s2 s3 s4' d0 d1 d2
              cases ab
              · have HG := (show Hid (agB d g = false) from HF.out (HEK.out rfl))
                refine wp_region_held_drew (S := fun wq => wq.cell? ⟨w.heap.size, 0, none⟩ = some (.slice x0 d.terms.length x1) ∧ wq.cell? ⟨w.heap.size, 1, none⟩ = some (.slice x2 d.nons.length x3) ∧ wq.cell? ⟨w.heap.size, 2, none⟩ = some (.int .i64 d.own) ∧ wq.cell? ⟨w.heap.size, 3, none⟩ = some (.slice x4 d.prods.length x5) ∧ wq.cell? ⟨w.heap.size + 1, 0, none⟩ = some (.slice (some ⟨b, off, none⟩) g.attrs.length y1) ∧ wq.cell? ⟨w.heap.size + 1, 1, none⟩ = some (.slice (some ⟨b2, off2, none⟩) g.eqs.length y3) ∧ wq.cell? ⟨rr6, 0, none⟩ = some (.int .i64 ep) ∧ wq.cell? ⟨rr6, 1, none⟩ = some (.int .i64 eo) ∧ wq.cell? ⟨rr6, 2, none⟩ = some (.int .i64 (ia : Int)) ∧ wq.cell? ⟨rr6, 3, none⟩ = some (.int .i64 eop) ∧ wq.cell? ⟨rr6, 4, none⟩ = some (.slice (some ⟨rb, roff, none⟩) rl.length rc) ∧ wq.cell? ⟨rb, roff + k * 3, none⟩ = some (.int .i64 xp) ∧ wq.cell? ⟨rb, roff + k * 3 + 1, none⟩ = some (.int .i64 xa) ∧ wq.cell? ⟨rb, roff + k * 3 + 2, none⟩ = some (.int .i64 xn)) (by kernel_rfl) hS0 (fun hHeld => ?_)
                refine wpAnyH_take (i := 0) (oi := oF0) (v := ?v501) rfl (by kernel_rfl) (by kernel_rfl) (by kernel_rfl) (fun _ _ _ h => h) (Or.inl ⟨by rfl, ?h501⟩) hHeld ?r501
                case h501 => (intro w hSw; (try dsimp only at hSw); go_simp; try with_reducible rfl)
                try simp only [Act.put, List.setIfInBounds_toArray, List.set_cons_zero, List.set_cons_succ]
                refine wpAnyH_take (i := 1) (oi := oF1) (v := ?v502) rfl (by kernel_rfl) (by kernel_rfl) (by kernel_rfl) (fun _ _ _ h => h) (Or.inl ⟨by rfl, ?h502⟩) hHeld ?r502
                case h502 => (intro w hSw; (try dsimp only at hSw); go_simp; try with_reducible rfl)
                try simp only [Act.put, List.setIfInBounds_toArray, List.set_cons_zero, List.set_cons_succ]
                refine wpAnyH_take (i := 2) (oi := oF2) (v := ?v503) rfl (by kernel_rfl) (by kernel_rfl) (by kernel_rfl) (fun _ _ _ h => h) (Or.inl ⟨by rfl, ?h503⟩) hHeld ?r503
                case h503 => (intro w hSw; (try dsimp only at hSw); go_simp; try with_reducible rfl)
                try simp only [Act.put, List.setIfInBounds_toArray, List.set_cons_zero, List.set_cons_succ]
                refine wpAnyH_take (i := 3) (oi := oF3) (v := ?v504) rfl (by kernel_rfl) (by kernel_rfl) (by kernel_rfl) (fun _ _ _ h => h) (Or.inl ⟨by rfl, ?h504⟩) hHeld ?r504
                case h504 => (intro w hSw; (try dsimp only at hSw); go_simp; try with_reducible rfl)
                try simp only [Act.put, List.setIfInBounds_toArray, List.set_cons_zero, List.set_cons_succ]
                refine wpAnyH_take (i := 4) (oi := oF4) (v := ?v505) rfl (by kernel_rfl) (by kernel_rfl) (by kernel_rfl) (fun _ _ _ h => h) (Or.inl ⟨by rfl, ?h505⟩) hHeld ?r505
                case h505 => (intro w hSw; (try dsimp only at hSw); go_simp; try with_reducible rfl)
                try simp only [Act.put, List.setIfInBounds_toArray, List.set_cons_zero, List.set_cons_succ]
                refine wpAnyH_take (i := 5) (oi := oF5) (v := ?v506) rfl (by kernel_rfl) (by kernel_rfl) (by kernel_rfl) (fun _ _ _ h => h) (Or.inl ⟨by rfl, ?h506⟩) hHeld ?r506
                case h506 => (intro w hSw; (try dsimp only at hSw); go_simp; try with_reducible rfl)
                try simp only [Act.put, List.setIfInBounds_toArray, List.set_cons_zero, List.set_cons_succ]
                refine wpAnyH_take (i := 6) (oi := oF6) (v := ?v507) rfl (by kernel_rfl) (by kernel_rfl) (by kernel_rfl) (fun _ _ _ h => h) (Or.inl ⟨by rfl, ?h507⟩) hHeld ?r507
                case h507 => (intro w hSw; (try dsimp only at hSw); go_simp; try with_reducible rfl)
                try simp only [Act.put, List.setIfInBounds_toArray, List.set_cons_zero, List.set_cons_succ]
                refine wpAnyH_take (i := 7) (oi := oF7) (v := ?v508) rfl (by kernel_rfl) (by kernel_rfl) (by kernel_rfl) (fun _ _ _ h => h) (Or.inl ⟨by rfl, ?h508⟩) hHeld ?r508
                case h508 => (intro w hSw; (try dsimp only at hSw); go_simp; try with_reducible rfl)
                try simp only [Act.put, List.setIfInBounds_toArray, List.set_cons_zero, List.set_cons_succ]
                refine wpAnyH_take (i := 8) (oi := oF8) (v := ?v509) rfl (by kernel_rfl) (by kernel_rfl) (by kernel_rfl) (fun _ _ _ h => h) (Or.inl ⟨by rfl, ?h509⟩) hHeld ?r509
                case h509 => (intro w hSw; (try dsimp only at hSw); go_simp; try with_reducible rfl)
                try simp only [Act.put, List.setIfInBounds_toArray, List.set_cons_zero, List.set_cons_succ]
                refine wpAnyH_ready (rs := [9]) (by kernel_rfl) (by simp) ?_
                refine (AllReadyH.cons (o := oF9) rfl (fun K hK => ?_) AllReadyH.nil)
                go_simp
                refine Calls.mono HC9.out ?_
                rintro e w7 ⟨rfl, hb7⟩
                dsimp only
                have hb8 := bel_trans HDD.out hb7
                have hS1 := HS3.out w7 hb8
                clear hHeld
                refine hK.out _ _ (hS1) (fun hHeld => ?_)
                clear hK K
                try simp only [Act.put, List.setIfInBounds_toArray, List.set_cons_zero, List.set_cons_succ]
                refine wpAnyH_take (i := 10) (oi := oF10) (v := ?v510) rfl (by kernel_rfl) (by kernel_rfl) (by kernel_rfl) (fun _ _ _ h => h) (Or.inl ⟨by rfl, ?h510⟩) hHeld ?r510
                case h510 => (intro w hSw; (try dsimp only at hSw); go_simp; try with_reducible rfl)
                try simp only [Act.put, List.setIfInBounds_toArray, List.set_cons_zero, List.set_cons_succ]
                refine wpAnyH_done (by kernel_rfl) ?_ _
                (try refine NoPanic.normal ?_)
                go_wp2_with fail
                go_ret
                exact ⟨by rw [HG.out]; rfl, bel_trans HBX.out hb8⟩
              · have HG := (show Hid _ from HNK.out rfl)
                refine wp_region_held_drew (S := fun wq => wq.cell? ⟨w.heap.size, 0, none⟩ = some (.slice x0 d.terms.length x1) ∧ wq.cell? ⟨w.heap.size, 1, none⟩ = some (.slice x2 d.nons.length x3) ∧ wq.cell? ⟨w.heap.size, 2, none⟩ = some (.int .i64 d.own) ∧ wq.cell? ⟨w.heap.size, 3, none⟩ = some (.slice x4 d.prods.length x5) ∧ wq.cell? ⟨w.heap.size + 1, 0, none⟩ = some (.slice (some ⟨b, off, none⟩) g.attrs.length y1) ∧ wq.cell? ⟨w.heap.size + 1, 1, none⟩ = some (.slice (some ⟨b2, off2, none⟩) g.eqs.length y3) ∧ wq.cell? ⟨rr6, 0, none⟩ = some (.int .i64 ep) ∧ wq.cell? ⟨rr6, 1, none⟩ = some (.int .i64 eo) ∧ wq.cell? ⟨rr6, 2, none⟩ = some (.int .i64 (ia : Int)) ∧ wq.cell? ⟨rr6, 3, none⟩ = some (.int .i64 eop) ∧ wq.cell? ⟨rr6, 4, none⟩ = some (.slice (some ⟨rb, roff, none⟩) rl.length rc) ∧ wq.cell? ⟨rb, roff + k * 3, none⟩ = some (.int .i64 xp) ∧ wq.cell? ⟨rb, roff + k * 3 + 1, none⟩ = some (.int .i64 xa) ∧ wq.cell? ⟨rb, roff + k * 3 + 2, none⟩ = some (.int .i64 xn)) (by kernel_rfl) hS0 (fun hHeld => ?_)
                refine wpAnyH_take (i := 0) (oi := oF0) (v := ?v601) rfl (by kernel_rfl) (by kernel_rfl) (by kernel_rfl) (fun _ _ _ h => h) (Or.inl ⟨by rfl, ?h601⟩) hHeld ?r601
                case h601 => (intro w hSw; (try dsimp only at hSw); go_simp; try with_reducible rfl)
                try simp only [Act.put, List.setIfInBounds_toArray, List.set_cons_zero, List.set_cons_succ]
                refine wpAnyH_take (i := 1) (oi := oF1) (v := ?v602) rfl (by kernel_rfl) (by kernel_rfl) (by kernel_rfl) (fun _ _ _ h => h) (Or.inl ⟨by rfl, ?h602⟩) hHeld ?r602
                case h602 => (intro w hSw; (try dsimp only at hSw); go_simp; try with_reducible rfl)
                try simp only [Act.put, List.setIfInBounds_toArray, List.set_cons_zero, List.set_cons_succ]
                refine wpAnyH_take (i := 2) (oi := oF2) (v := ?v603) rfl (by kernel_rfl) (by kernel_rfl) (by kernel_rfl) (fun _ _ _ h => h) (Or.inl ⟨by rfl, ?h603⟩) hHeld ?r603
                case h603 => (intro w hSw; (try dsimp only at hSw); go_simp; try with_reducible rfl)
                try simp only [Act.put, List.setIfInBounds_toArray, List.set_cons_zero, List.set_cons_succ]
                refine wpAnyH_take (i := 3) (oi := oF3) (v := ?v604) rfl (by kernel_rfl) (by kernel_rfl) (by kernel_rfl) (fun _ _ _ h => h) (Or.inl ⟨by rfl, ?h604⟩) hHeld ?r604
                case h604 => (intro w hSw; (try dsimp only at hSw); go_simp; try with_reducible rfl)
                try simp only [Act.put, List.setIfInBounds_toArray, List.set_cons_zero, List.set_cons_succ]
                refine wpAnyH_take (i := 4) (oi := oF4) (v := ?v605) rfl (by kernel_rfl) (by kernel_rfl) (by kernel_rfl) (fun _ _ _ h => h) (Or.inl ⟨by rfl, ?h605⟩) hHeld ?r605
                case h605 => (intro w hSw; (try dsimp only at hSw); go_simp; try with_reducible rfl)
                try simp only [Act.put, List.setIfInBounds_toArray, List.set_cons_zero, List.set_cons_succ]
                refine wpAnyH_take (i := 5) (oi := oF5) (v := ?v606) rfl (by kernel_rfl) (by kernel_rfl) (by kernel_rfl) (fun _ _ _ h => h) (Or.inl ⟨by rfl, ?h606⟩) hHeld ?r606
                case h606 => (intro w hSw; (try dsimp only at hSw); go_simp; try with_reducible rfl)
                try simp only [Act.put, List.setIfInBounds_toArray, List.set_cons_zero, List.set_cons_succ]
                refine wpAnyH_take (i := 6) (oi := oF6) (v := ?v607) rfl (by kernel_rfl) (by kernel_rfl) (by kernel_rfl) (fun _ _ _ h => h) (Or.inl ⟨by rfl, ?h607⟩) hHeld ?r607
                case h607 => (intro w hSw; (try dsimp only at hSw); go_simp; try with_reducible rfl)
                try simp only [Act.put, List.setIfInBounds_toArray, List.set_cons_zero, List.set_cons_succ]
                refine wpAnyH_take (i := 7) (oi := oF7) (v := ?v608) rfl (by kernel_rfl) (by kernel_rfl) (by kernel_rfl) (fun _ _ _ h => h) (Or.inl ⟨by rfl, ?h608⟩) hHeld ?r608
                case h608 => (intro w hSw; (try dsimp only at hSw); go_simp; try with_reducible rfl)
                try simp only [Act.put, List.setIfInBounds_toArray, List.set_cons_zero, List.set_cons_succ]
                refine wpAnyH_take (i := 8) (oi := oF8) (v := ?v609) rfl (by kernel_rfl) (by kernel_rfl) (by kernel_rfl) (fun _ _ _ h => h) (Or.inl ⟨by rfl, ?h609⟩) hHeld ?r609
                case h609 => (intro w hSw; (try dsimp only at hSw); go_simp; try with_reducible rfl)
                try simp only [Act.put, List.setIfInBounds_toArray, List.set_cons_zero, List.set_cons_succ]
                refine wpAnyH_ready (rs := [9]) (by kernel_rfl) (by simp) ?_
                refine (AllReadyH.cons (o := oF9) rfl (fun K hK => ?_) AllReadyH.nil)
                go_simp
                refine Calls.mono HC9.out ?_
                rintro e w7 ⟨rfl, hb7⟩
                dsimp only
                have hb8 := bel_trans HDD.out hb7
                have hS1 := HS3.out w7 hb8
                clear hHeld
                refine hK.out _ _ (hS1) (fun hHeld => ?_)
                clear hK K
                try simp only [Act.put, List.setIfInBounds_toArray, List.set_cons_zero, List.set_cons_succ]
                refine wpAnyH_take (i := 10) (oi := oF10) (v := ?v610) rfl (by kernel_rfl) (by kernel_rfl) (by kernel_rfl) (fun _ _ _ h => h) (Or.inl ⟨by rfl, ?h610⟩) hHeld ?r610
                case h610 => (intro w hSw; (try dsimp only at hSw); go_simp; try with_reducible rfl)
                try simp only [Act.put, List.setIfInBounds_toArray, List.set_cons_zero, List.set_cons_succ]
                refine wpAnyH_done (by kernel_rfl) ?_ _
                (try refine NoPanic.normal ?_)
                go_wp2_with fail
                exact ⟨⟨k + 1, by go_num, by omega, bel_trans HQ4.out hb8, HG⟩, by simp [intOf]; omega⟩
            · have hke : k = rl.length := by omega
              subst hke
              have HN := (show Hid _ from HNX.out (HYE.out fun i hi => HK.out i hi hi))
              go_wp2_with fail
              exact ⟨⟨j + 1, by go_num, by omega, HWW.out, HN⟩, by simp [intOf]; omega⟩
        · exact absurd (fun i hi => HX.out i hi (by omega)) hno
end Go.Proofs.Ytnmdgbnbnpibhaa
