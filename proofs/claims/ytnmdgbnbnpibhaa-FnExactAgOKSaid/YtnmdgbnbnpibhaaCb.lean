import Derived.Test.YtnmdgbnbnpibhaaCa
import Derived.Deep.RegionHeld3
import Derived.BigQuiet
import Derived.Deep.QuietTactic
/-! The program: an attribute is of a symbol. -/
namespace Go.Proofs.Ytnmdgbnbnpibhaa
open Go.RowKit Go.Deep
set_option linter.unusedVariables false
set_option maxRecDepth 100000
set_option linter.unusedSimpArgs false

abbrev oJ0 : Oper := { dst := some 7, op := Go.Op.fieldAddr 76 (Go.Operand.tmp 3) 0, type := 0, pos := "l10_attributes.go:200", after := #[], guard := none }
abbrev oJ1 : Oper := { dst := some 8, op := Go.Op.fieldAddr 37 (Go.Operand.tmp 7) 0, type := 0, pos := "l10_attributes.go:200", after := #[{ on := 0, ground := Go.Ground.data }], guard := none }
abbrev oJ2 : Oper := { dst := some 9, op := Go.Op.load 34 (Go.Operand.tmp 8), type := 34, pos := "l10_attributes.go:200", after := #[{ on := 1, ground := Go.Ground.data }], guard := none }
abbrev oJ3 : Oper := { dst := some 10, op := Go.Op.call { callee := Go.Callee.builtin Go.Builtin.len, args := #[Go.Operand.tmp 9], argTypes := #[34] }, type := 3, pos := "l10_attributes.go:200", after := #[{ on := 2, ground := Go.Ground.data }], guard := none }
abbrev oJ4 : Oper := { dst := some 11, op := Go.Op.fieldAddr 76 (Go.Operand.tmp 3) 1, type := 0, pos := "l10_attributes.go:200", after := #[], guard := none }
abbrev oJ5 : Oper := { dst := some 12, op := Go.Op.fieldAddr 42 (Go.Operand.tmp 11) 0, type := 0, pos := "l10_attributes.go:200", after := #[{ on := 4, ground := Go.Ground.data }], guard := none }
abbrev oJ6 : Oper := { dst := some 13, op := Go.Op.load 39 (Go.Operand.tmp 12), type := 39, pos := "l10_attributes.go:200", after := #[{ on := 5, ground := Go.Ground.data }], guard := none }
abbrev oJ7 : Oper := { dst := some 14, op := Go.Op.move (Go.Operand.tmp 1), type := 3, pos := "l10_attributes.go:200", after := #[], guard := none }
abbrev oJ8 : Oper := { dst := some 15, op := Go.Op.indexAddr 39 (Go.Operand.tmp 13) (Go.Operand.tmp 14), type := 0, pos := "l10_attributes.go:200", after := #[{ on := 6, ground := Go.Ground.data }, { on := 7, ground := Go.Ground.data }], guard := none }
abbrev oJ9 : Oper := { dst := some 16, op := Go.Op.fieldAddr 54 (Go.Operand.tmp 15) 0, type := 0, pos := "l10_attributes.go:200", after := #[{ on := 8, ground := Go.Ground.data }], guard := none }
abbrev oJ10 : Oper := { dst := some 17, op := Go.Op.load 3 (Go.Operand.tmp 16), type := 3, pos := "l10_attributes.go:200", after := #[{ on := 9, ground := Go.Ground.data }], guard := none }
abbrev oJ11 : Oper := { dst := some 18, op := Go.Op.binOp Go.BinOp.add 3 (Go.Operand.tmp 10) (Go.Operand.tmp 17) 3, type := 3, pos := "l10_attributes.go:200", after := #[{ on := 3, ground := Go.Ground.data }, { on := 10, ground := Go.Ground.data }], guard := none }
abbrev oJ12 : Oper := { dst := some 19, op := Go.Op.move (Go.Operand.tmp 2), type := 3, pos := "l10_attributes.go:200", after := #[], guard := none }
abbrev oJ13 : Oper := { dst := some 20, op := Go.Op.binOp Go.BinOp.eql 3 (Go.Operand.tmp 18) (Go.Operand.tmp 19) 3, type := 4, pos := "l10_attributes.go:200", after := #[{ on := 11, ground := Go.Ground.data }, { on := 12, ground := Go.Ground.data }], guard := none }
abbrev oJ14 : Oper := { dst := some 6, op := Go.Op.assign (Go.Operand.tmp 20), type := 4, pos := "l10_attributes.go:200", after := #[{ on := 13, ground := Go.Ground.data }, { on := 0, ground := Go.Ground.phase }, { on := 1, ground := Go.Ground.phase }, { on := 2, ground := Go.Ground.phase }, { on := 3, ground := Go.Ground.phase }, { on := 4, ground := Go.Ground.phase }, { on := 5, ground := Go.Ground.phase }, { on := 6, ground := Go.Ground.phase }, { on := 7, ground := Go.Ground.phase }, { on := 8, ground := Go.Ground.phase }, { on := 9, ground := Go.Ground.phase }, { on := 10, ground := Go.Ground.phase }, { on := 11, ground := Go.Ground.phase }, { on := 12, ground := Go.Ground.phase }, { on := 13, ground := Go.Ground.phase }], guard := none }
set_option maxHeartbeats 1600000 in
theorem of86 {S S' : Nat → Prop} (d : Bn) (g : DAg) (v0 v1 v3 u0 u1 : Value) (i : Nat) (sy : Int) (w : World) (h : BLies w S d v0 v1 v3) (hg : DAgL w S' g u0 u1) (hi : i < g.attrs.length) (hsm : 0 ≤ g.attrs[i].non ∧ g.attrs[i].non ≤ 1000) (hT : d.terms.length ≤ 1000000) :
    Calls Try.prog 86 #[.agg #[v0, v1, .int .i64 d.own, v3, u0, u1], .int .i64 i, .int .i64 sy] w fun e w' => e = .returned (.bool (decide (sy = (d.terms.length : Int) + g.attrs[i].non))) ∧ Below w.heap.size w w' := by
  obtain ⟨x0, x1, x2, x3, x4, x5, rfl, rfl, rfl⟩ := h.form
  obtain ⟨y0, y1, y2, y3, rfl, rfl⟩ := hg.form
  obtain ⟨a, cap, b, off, hv, hc, hm, ha, hcell⟩ := hg.attrs
  simp only [Value.slice.injEq] at hv
  obtain ⟨rfl, _, rfl⟩ := hv
  obtain ⟨rfl, _⟩ := ha (by omega)
  obtain ⟨c0, _, _, _⟩ := hcell i hi
  unfold maxLen at hm
  have hb1 := bel_alloc w (.cells #[.slice x0 d.terms.length x1, .slice x2 d.nons.length x3, .int .i64 d.own, .slice x4 d.prods.length x5, .slice (some ⟨b, off, none⟩) g.attrs.length y1, .slice y2 g.eqs.length y3] 76)
  rw [← hb1.cell (lt_of_cell c0)] at c0
  have HB := (show Hid (∀ m, Below w.heap.size w ((w.alloc (.cells #[.slice x0 d.terms.length x1, .slice x2 d.nons.length x3, .int .i64 d.own, .slice x4 d.prods.length x5, .slice (some ⟨b, off, none⟩) g.attrs.length y1, .slice y2 g.eqs.length y3] 76)).drewN m)) from fun m => bel_drewS hb1 m)
  have HB0 := (show Hid (Below w.heap.size w (w.alloc (.cells #[.slice x0 d.terms.length x1, .slice x2 d.nons.length x3, .int .i64 d.own, .slice x4 d.prods.length x5, .slice (some ⟨b, off, none⟩) g.attrs.length y1, .slice y2 g.eqs.length y3] 76)).drew) from hb1.drew)
  have HE : Hid (decide (sy = (d.terms.length : Int) + g.attrs[i].non) = ((d.terms.length : Int) + g.attrs[i].non == sy)) := by
    show _ = _
    rw [Bool.eq_iff_iff, decide_eq_true_eq, beq_iff_eq]; exact eq_comm
  have hw : IntKind.i64.wrap ((d.terms.length : Int) + g.attrs[i].non) = (d.terms.length : Int) + g.attrs[i].non := by rw [IntKind.wrap_i64]; omega
  have i1 : (0 : Int) ≤ (i : Int) := by omega
  have i2 : (i : Int) < (g.attrs.length : Int) := by omega
  have BX := (Box.new w 76 [.slice x0 d.terms.length x1, .slice x2 d.nons.length x3, .int .i64 d.own, .slice x4 d.prods.length x5, .slice (some ⟨b, off, none⟩) g.attrs.length y1, .slice y2 g.eqs.length y3]).still (show Below (w.alloc (.cells #[.slice x0 d.terms.length x1, .slice x2 d.nons.length x3, .int .i64 d.own, .slice x4 d.prods.length x5, .slice (some ⟨b, off, none⟩) g.attrs.length y1, .slice y2 g.eqs.length y3] 76)).heap.size (w.alloc (.cells #[.slice x0 d.terms.length x1, .slice x2 d.nons.length x3, .int .i64 d.own, .slice x4 d.prods.length x5, .slice (some ⟨b, off, none⟩) g.attrs.length y1, .slice y2 g.eqs.length y3] 76)) (w.alloc (.cells #[.slice x0 d.terms.length x1, .slice x2 d.nons.length x3, .int .i64 d.own, .slice x4 d.prods.length x5, .slice (some ⟨b, off, none⟩) g.attrs.length y1, .slice y2 g.eqs.length y3] 76)).drew from (Below.refl _ _).drew)
  clear h hg ha hcell hb1
  generalize g.attrs[i].non = nn at *
  have hS0 : (w.alloc (.cells #[.slice x0 d.terms.length x1, .slice x2 d.nons.length x3, .int .i64 d.own, .slice x4 d.prods.length x5, .slice (some ⟨b, off, none⟩) g.attrs.length y1, .slice y2 g.eqs.length y3] 76)).drew.cell? ⟨w.heap.size, 0, none⟩ = some (.slice x0 d.terms.length x1) ∧ (w.alloc (.cells #[.slice x0 d.terms.length x1, .slice x2 d.nons.length x3, .int .i64 d.own, .slice x4 d.prods.length x5, .slice (some ⟨b, off, none⟩) g.attrs.length y1, .slice y2 g.eqs.length y3] 76)).drew.cell? ⟨w.heap.size, 1, none⟩ = some (.slice x2 d.nons.length x3) ∧ (w.alloc (.cells #[.slice x0 d.terms.length x1, .slice x2 d.nons.length x3, .int .i64 d.own, .slice x4 d.prods.length x5, .slice (some ⟨b, off, none⟩) g.attrs.length y1, .slice y2 g.eqs.length y3] 76)).drew.cell? ⟨w.heap.size, 2, none⟩ = some (.int .i64 d.own) ∧ (w.alloc (.cells #[.slice x0 d.terms.length x1, .slice x2 d.nons.length x3, .int .i64 d.own, .slice x4 d.prods.length x5, .slice (some ⟨b, off, none⟩) g.attrs.length y1, .slice y2 g.eqs.length y3] 76)).drew.cell? ⟨w.heap.size, 3, none⟩ = some (.slice x4 d.prods.length x5) ∧ (w.alloc (.cells #[.slice x0 d.terms.length x1, .slice x2 d.nons.length x3, .int .i64 d.own, .slice x4 d.prods.length x5, .slice (some ⟨b, off, none⟩) g.attrs.length y1, .slice y2 g.eqs.length y3] 76)).drew.cell? ⟨w.heap.size, 4, none⟩ = some (.slice (some ⟨b, off, none⟩) g.attrs.length y1) ∧ (w.alloc (.cells #[.slice x0 d.terms.length x1, .slice x2 d.nons.length x3, .int .i64 d.own, .slice x4 d.prods.length x5, .slice (some ⟨b, off, none⟩) g.attrs.length y1, .slice y2 g.eqs.length y3] 76)).drew.cell? ⟨w.heap.size, 5, none⟩ = some (.slice y2 g.eqs.length y3) ∧ (w.alloc (.cells #[.slice x0 d.terms.length x1, .slice x2 d.nons.length x3, .int .i64 d.own, .slice x4 d.prods.length x5, .slice (some ⟨b, off, none⟩) g.attrs.length y1, .slice y2 g.eqs.length y3] 76)).drew.cell? ⟨b, off + i * 3, none⟩ = some (.int .i64 nn) := ⟨BX.cell 0 (by simp), BX.cell 1 (by simp), BX.cell 2 (by simp), BX.cell 3 (by simp), BX.cell 4 (by simp), BX.cell 5 (by simp), c0⟩
  clear BX
  go_enter Try.func86, Try.ntmps86
  go_wp2_with fail
  refine wp_region_held_drew (S := fun wq => wq.cell? ⟨w.heap.size, 0, none⟩ = some (.slice x0 d.terms.length x1) ∧ wq.cell? ⟨w.heap.size, 1, none⟩ = some (.slice x2 d.nons.length x3) ∧ wq.cell? ⟨w.heap.size, 2, none⟩ = some (.int .i64 d.own) ∧ wq.cell? ⟨w.heap.size, 3, none⟩ = some (.slice x4 d.prods.length x5) ∧ wq.cell? ⟨w.heap.size, 4, none⟩ = some (.slice (some ⟨b, off, none⟩) g.attrs.length y1) ∧ wq.cell? ⟨w.heap.size, 5, none⟩ = some (.slice y2 g.eqs.length y3) ∧ wq.cell? ⟨b, off + i * 3, none⟩ = some (.int .i64 nn)) (by kernel_rfl) hS0 (fun hHeld => ?_)
  refine wpAnyH_take (i := 0) (oi := oJ0) (v := ?v1) rfl (by kernel_rfl) (by kernel_rfl) (by kernel_rfl) (fun _ _ _ h => h) (Or.inl ⟨by rfl, ?h1⟩) hHeld ?r1
  case h1 => (intro w hSw; (try dsimp only at hSw); go_simp; try with_reducible rfl)
  try simp only [Act.put, List.setIfInBounds_toArray, List.set_cons_zero, List.set_cons_succ]
  refine wpAnyH_take (i := 1) (oi := oJ1) (v := ?v2) rfl (by kernel_rfl) (by kernel_rfl) (by kernel_rfl) (fun _ _ _ h => h) (Or.inl ⟨by rfl, ?h2⟩) hHeld ?r2
  case h2 => (intro w hSw; (try dsimp only at hSw); go_simp; try with_reducible rfl)
  try simp only [Act.put, List.setIfInBounds_toArray, List.set_cons_zero, List.set_cons_succ]
  refine wpAnyH_take (i := 2) (oi := oJ2) (v := ?v3) rfl (by kernel_rfl) (by kernel_rfl) (by kernel_rfl) (fun _ _ _ h => h) (Or.inl ⟨by rfl, ?h3⟩) hHeld ?r3
  case h3 => (intro w hSw; (try dsimp only at hSw); go_simp; try with_reducible rfl)
  try simp only [Act.put, List.setIfInBounds_toArray, List.set_cons_zero, List.set_cons_succ]
  refine wpAnyH_take (i := 3) (oi := oJ3) (v := ?v4) rfl (by kernel_rfl) (by kernel_rfl) (by kernel_rfl) (fun _ _ _ h => h) (Or.inl ⟨by rfl, ?h4⟩) hHeld ?r4
  case h4 => (intro w hSw; (try dsimp only at hSw); go_simp; try with_reducible rfl)
  try simp only [Act.put, List.setIfInBounds_toArray, List.set_cons_zero, List.set_cons_succ]
  refine wpAnyH_take (i := 4) (oi := oJ4) (v := ?v5) rfl (by kernel_rfl) (by kernel_rfl) (by kernel_rfl) (fun _ _ _ h => h) (Or.inl ⟨by rfl, ?h5⟩) hHeld ?r5
  case h5 => (intro w hSw; (try dsimp only at hSw); go_simp; try with_reducible rfl)
  try simp only [Act.put, List.setIfInBounds_toArray, List.set_cons_zero, List.set_cons_succ]
  refine wpAnyH_take (i := 5) (oi := oJ5) (v := ?v6) rfl (by kernel_rfl) (by kernel_rfl) (by kernel_rfl) (fun _ _ _ h => h) (Or.inl ⟨by rfl, ?h6⟩) hHeld ?r6
  case h6 => (intro w hSw; (try dsimp only at hSw); go_simp; try with_reducible rfl)
  try simp only [Act.put, List.setIfInBounds_toArray, List.set_cons_zero, List.set_cons_succ]
  refine wpAnyH_take (i := 6) (oi := oJ6) (v := ?v7) rfl (by kernel_rfl) (by kernel_rfl) (by kernel_rfl) (fun _ _ _ h => h) (Or.inl ⟨by rfl, ?h7⟩) hHeld ?r7
  case h7 => (intro w hSw; (try dsimp only at hSw); go_simp; try with_reducible rfl)
  try simp only [Act.put, List.setIfInBounds_toArray, List.set_cons_zero, List.set_cons_succ]
  refine wpAnyH_take (i := 7) (oi := oJ7) (v := ?v8) rfl (by kernel_rfl) (by kernel_rfl) (by kernel_rfl) (fun _ _ _ h => h) (Or.inl ⟨by rfl, ?h8⟩) hHeld ?r8
  case h8 => (intro w hSw; (try dsimp only at hSw); go_simp; try with_reducible rfl)
  try simp only [Act.put, List.setIfInBounds_toArray, List.set_cons_zero, List.set_cons_succ]
  refine wpAnyH_take (i := 8) (oi := oJ8) (v := ?v9) rfl (by kernel_rfl) (by kernel_rfl) (by kernel_rfl) (fun _ _ _ h => h) (Or.inl ⟨by rfl, ?h9⟩) hHeld ?r9
  case h9 => (intro w hSw; (try dsimp only at hSw); go_simp; try with_reducible rfl)
  try simp only [Act.put, List.setIfInBounds_toArray, List.set_cons_zero, List.set_cons_succ]
  refine wpAnyH_take (i := 9) (oi := oJ9) (v := ?v10) rfl (by kernel_rfl) (by kernel_rfl) (by kernel_rfl) (fun _ _ _ h => h) (Or.inl ⟨by rfl, ?h10⟩) hHeld ?r10
  case h10 => (intro w hSw; (try dsimp only at hSw); go_simp; try with_reducible rfl)
  try simp only [Act.put, List.setIfInBounds_toArray, List.set_cons_zero, List.set_cons_succ]
  refine wpAnyH_take (i := 10) (oi := oJ10) (v := ?v11) rfl (by kernel_rfl) (by kernel_rfl) (by kernel_rfl) (fun _ _ _ h => h) (Or.inl ⟨by rfl, ?h11⟩) hHeld ?r11
  case h11 => (intro w hSw; (try dsimp only at hSw); go_simp; try with_reducible rfl)
  try simp only [Act.put, List.setIfInBounds_toArray, List.set_cons_zero, List.set_cons_succ]
  refine wpAnyH_take (i := 11) (oi := oJ11) (v := ?v12) rfl (by kernel_rfl) (by kernel_rfl) (by kernel_rfl) (fun _ _ _ h => h) (Or.inl ⟨by rfl, ?h12⟩) hHeld ?r12
  case h12 => (intro w hSw; (try dsimp only at hSw); go_simp; try with_reducible rfl)
  try simp only [Act.put, List.setIfInBounds_toArray, List.set_cons_zero, List.set_cons_succ]
  refine wpAnyH_take (i := 12) (oi := oJ12) (v := ?v13) rfl (by kernel_rfl) (by kernel_rfl) (by kernel_rfl) (fun _ _ _ h => h) (Or.inl ⟨by rfl, ?h13⟩) hHeld ?r13
  case h13 => (intro w hSw; (try dsimp only at hSw); go_simp; try with_reducible rfl)
  try simp only [Act.put, List.setIfInBounds_toArray, List.set_cons_zero, List.set_cons_succ]
  refine wpAnyH_take (i := 13) (oi := oJ13) (v := ?v14) rfl (by kernel_rfl) (by kernel_rfl) (by kernel_rfl) (fun _ _ _ h => h) (Or.inl ⟨by rfl, ?h14⟩) hHeld ?r14
  case h14 => (intro w hSw; (try dsimp only at hSw); go_simp; try with_reducible rfl)
  try simp only [Act.put, List.setIfInBounds_toArray, List.set_cons_zero, List.set_cons_succ]
  refine wpAnyH_ready (rs := [14]) (by kernel_rfl) (by simp) ?_
  refine (AllReadyH.cons (o := oJ14) rfl (fun K hK => ?_) AllReadyH.nil)
  go_simp
  clear hHeld
  refine hK.out _ _ (hS0) (fun hHeld => ?_)
  clear hK K
  try simp only [Act.put, List.setIfInBounds_toArray, List.set_cons_zero, List.set_cons_succ]
  refine wpAnyH_done (by kernel_rfl) ?_ _
  (try refine NoPanic.normal ?_)
  go_wp2_with fail
  go_ret
  exact ⟨by rw [HE.out]; rfl, HB0.out⟩
end Go.Proofs.Ytnmdgbnbnpibhaa
