import Derived.Test.YtblfeifedcddnaaVg
import Derived.Test.YtblfeifedcddnaaRight
/-! The specification: l15Patch where there are no Kids to go through. -/
namespace Go.Proofs.Ytblfeifedcddnaa
open Go.RowKit Go.Deep Go.Lib
set_option linter.unusedVariables false
set_option maxRecDepth 100000
set_option linter.unusedSimpArgs false

/-- What l15Patch leaves. -/
def PtA (C : Nat) (r : Option Tr) (w : World) (e : Ending) (w' : World) : Prop :=
  ∃ (T : Tr) (u : Value) (B : Bool), e = .returned (.tuple #[T.val u, .bool B]) ∧ Below w.heap.size w w' ∧ Lies w' (fun q => q < C ∨ w.heap.size ≤ q) T u ∧ (B = true → r = some T) ∧ (B = false → r = none)
/-- The three boxes at the beginning. -/
abbrev W79 (w : World) (a : Tr) (v : Value) (d : De) (tv kv : Value) : World := ((w.alloc (.cells #[.string a.name, .string a.text, .bool a.leaf, v] 51)).alloc (.cells #[.int .i64 d.kind, .string d.tree.name, .string d.tree.text, .bool d.tree.leaf, tv, kv] 57)).alloc (.cells #[.string ⟨#[]⟩, .string ⟨#[]⟩, .bool false, .slice none 0 0] 51)
theorem w79_box (w : World) (a : Tr) (v : Value) (d : De) (tv kv : Value) : Below w.heap.size w (W79 w a v d tv kv) ∧ Box (W79 w a v d tv kv) w.heap.size 51 [.string a.name, .string a.text, .bool a.leaf, v] ∧ Box (W79 w a v d tv kv) (w.heap.size + 1) 57 [.int .i64 d.kind, .string d.tree.name, .string d.tree.text, .bool d.tree.leaf, tv, kv] ∧ Box (W79 w a v d tv kv) (w.heap.size + 1 + 1) 51 [.string ⟨#[]⟩, .string ⟨#[]⟩, .bool false, .slice none 0 0] := by
  refine ⟨((bel_alloc _ _).alloc (by simp) _).alloc (by simp; omega) _, ((Box.new w 51 _).still (bel_alloc _ _)).still (bel_alloc _ _), ?_, ?_⟩
  · have := (Box.new (w.alloc (.cells #[.string a.name, .string a.text, .bool a.leaf, v] 51)) 57 [.int .i64 d.kind, .string d.tree.name, .string d.tree.text, .bool d.tree.leaf, tv, kv]).still (bel_alloc _ (.cells #[.string ⟨#[]⟩, .string ⟨#[]⟩, .bool false, .slice none 0 0] 51))
    rw [World.size_alloc] at this
    exact this
  · have := Box.new ((w.alloc (.cells #[.string a.name, .string a.text, .bool a.leaf, v] 51)).alloc (.cells #[.int .i64 d.kind, .string d.tree.name, .string d.tree.text, .bool d.tree.leaf, tv, kv] 57)) 51 [.string ⟨#[]⟩, .string ⟨#[]⟩, .bool false, .slice none 0 0]
    rw [World.size_alloc, World.size_alloc] at this
    exact this
theorem PtA.of {C : Nat} {r : Option Tr} {w w1 : World} {T : Tr} {a : Option Addr} {m c : Nat} {B : Bool} {x0 x1 x2 x3 : Value} (hb : Below w.heap.size w w1) (hl : Lies w1 (fun q => q < C ∨ w.heap.size + 3 ≤ q) T (.slice a m c)) (hC : C ≤ w.heap.size) (h1 : B = true → r = some T) (h2 : B = false → r = none) :
    PtA C r w (.returned (.tuple #[.agg #[.string T.name, .string T.text, .bool T.leaf, .slice a m c], .bool B])) ((((w1.setCell ⟨w.heap.size + 1 + 1, 0, none⟩ x0).setCell ⟨w.heap.size + 1 + 1, 1, none⟩ x1).setCell ⟨w.heap.size + 1 + 1, 2, none⟩ x2).setCell ⟨w.heap.size + 1 + 1, 3, none⟩ x3) := by
  refine ⟨T, _, B, rfl, (((hb.setCell (by show _ ≤ _; simp; omega) _).setCell (by show _ ≤ _; simp; omega) _).setCell (by show _ ≤ _; simp; omega) _).setCell (by show _ ≤ _; simp; omega) _, ?_, h1, h2⟩
  refine Lies.mono (S := fun q => q < C ∨ w.heap.size + 3 ≤ q) (fun q hq => by omega) (Lies.keep (w := w1) (fun q hq => ?_) hl)
  have e2 : q ≠ w.heap.size + 1 + 1 := by omega
  exact (blk_setCell_other _ _ _ _ e2).trans ((blk_setCell_other _ _ _ _ e2).trans ((blk_setCell_other _ _ _ _ e2).trans (blk_setCell_other _ _ _ _ e2)))
abbrev o79_4_0 : Oper := { dst := some 17, op := Go.Op.load 51 (Go.Operand.tmp 2), type := 51, pos := "l15_merging.go:107", after := #[], guard := none }
abbrev o79_4_1 : Oper := { dst := some 18, op := Go.Op.fieldAddr 57 (Go.Operand.tmp 3) 1, type := 0, pos := "l15_merging.go:107", after := #[], guard := none }
abbrev o79_4_2 : Oper := { dst := some 19, op := Go.Op.load 51 (Go.Operand.tmp 18), type := 51, pos := "l15_merging.go:107", after := #[{ on := 1, ground := Go.Ground.data }], guard := none }
abbrev o79_4_3 : Oper := { dst := some 20, op := Go.Op.call { callee := Go.Callee.value (Go.Operand.func 108), args := #[Go.Operand.tmp 19], argTypes := #[51] }, type := 4, pos := "l15_merging.go:107", after := #[{ on := 2, ground := Go.Ground.data }], guard := none }
abbrev o79_4_4 : Oper := { dst := some 21, op := Go.Op.move (Go.Operand.tmp 20), type := 4, pos := "l15_merging.go:107", after := #[{ on := 3, ground := Go.Ground.data }, { on := 3, ground := Go.Ground.chain }], guard := none }
abbrev o79_4_5 : Oper := { dst := some 22, op := Go.Op.fieldAddr 57 (Go.Operand.tmp 3) 2, type := 0, pos := "l15_merging.go:107", after := #[{ on := 4, ground := Go.Ground.guard }], guard := some (4, true) }
abbrev o79_4_6 : Oper := { dst := some 23, op := Go.Op.load 55 (Go.Operand.tmp 22), type := 55, pos := "l15_merging.go:107", after := #[{ on := 5, ground := Go.Ground.data }, { on := 4, ground := Go.Ground.guard }], guard := some (4, true) }
abbrev o79_4_7 : Oper := { dst := some 24, op := Go.Op.call { callee := Go.Callee.builtin Go.Builtin.len, args := #[Go.Operand.tmp 23], argTypes := #[55] }, type := 3, pos := "l15_merging.go:107", after := #[{ on := 6, ground := Go.Ground.data }, { on := 4, ground := Go.Ground.guard }], guard := some (4, true) }
abbrev o79_4_8 : Oper := { dst := some 25, op := Go.Op.binOp Go.BinOp.eql 3 (Go.Operand.tmp 24) (Go.Operand.const (Go.Value.int Go.IntKind.i64 0)) 3, type := 4, pos := "l15_merging.go:107", after := #[{ on := 7, ground := Go.Ground.data }, { on := 4, ground := Go.Ground.guard }, { on := 10, ground := Go.Ground.gcOnly Go.Departure.lateStores }], guard := some (4, true) }
abbrev o79_4_9 : Oper := { dst := some 26, op := Go.Op.pick (Go.Operand.tmp 21) (Go.Operand.tmp 25) (Go.Operand.const (Go.Value.bool false)), type := 4, pos := "l15_merging.go:107", after := #[{ on := 4, ground := Go.Ground.data }, { on := 8, ground := Go.Ground.data }, { on := 10, ground := Go.Ground.gcOnly Go.Departure.lateStores }], guard := none }
abbrev o79_4_10 : Oper := { dst := none, op := Go.Op.store 51 (Go.Operand.tmp 4) (Go.Operand.tmp 17), type := 0, pos := "l15_merging.go:107", after := #[{ on := 0, ground := Go.Ground.data }, { on := 4, ground := Go.Ground.chain }, { on := 0, ground := Go.Ground.phase }, { on := 1, ground := Go.Ground.textOnly Go.Departure.lateStores }, { on := 2, ground := Go.Ground.textOnly Go.Departure.lateStores }, { on := 3, ground := Go.Ground.textOnly Go.Departure.lateStoresUnsure }, { on := 4, ground := Go.Ground.textOnly Go.Departure.lateStores }, { on := 5, ground := Go.Ground.textOnly Go.Departure.lateStores }, { on := 6, ground := Go.Ground.textOnly Go.Departure.lateStores }, { on := 7, ground := Go.Ground.textOnly Go.Departure.lateStoresUnsure }, { on := 8, ground := Go.Ground.textOnly Go.Departure.lateStores }, { on := 9, ground := Go.Ground.textOnly Go.Departure.lateStores }], guard := none }
abbrev o79_4_11 : Oper := { dst := some 5, op := Go.Op.assign (Go.Operand.tmp 26), type := 4, pos := "l15_merging.go:107", after := #[{ on := 9, ground := Go.Ground.data }, { on := 10, ground := Go.Ground.chain }, { on := 0, ground := Go.Ground.phase }, { on := 1, ground := Go.Ground.phase }, { on := 2, ground := Go.Ground.phase }, { on := 3, ground := Go.Ground.phase }, { on := 4, ground := Go.Ground.phase }, { on := 5, ground := Go.Ground.phase }, { on := 6, ground := Go.Ground.phase }, { on := 7, ground := Go.Ground.phase }, { on := 8, ground := Go.Ground.phase }, { on := 9, ground := Go.Ground.phase }, { on := 10, ground := Go.Ground.phase }], guard := none }
abbrev o79_6_0 : Oper := { dst := some 29, op := Go.Op.fieldAddr 57 (Go.Operand.tmp 3) 1, type := 0, pos := "l15_merging.go:109", after := #[], guard := none }
abbrev o79_6_1 : Oper := { dst := some 30, op := Go.Op.load 51 (Go.Operand.tmp 29), type := 51, pos := "l15_merging.go:109", after := #[{ on := 0, ground := Go.Ground.data }], guard := none }
abbrev o79_6_2 : Oper := { dst := some 31, op := Go.Op.fieldAddr 57 (Go.Operand.tmp 3) 1, type := 0, pos := "l15_merging.go:109", after := #[], guard := none }
abbrev o79_6_3 : Oper := { dst := some 32, op := Go.Op.load 51 (Go.Operand.tmp 31), type := 51, pos := "l15_merging.go:109", after := #[{ on := 2, ground := Go.Ground.data }], guard := none }
abbrev o79_6_4 : Oper := { dst := some 33, op := Go.Op.call { callee := Go.Callee.value (Go.Operand.func 68), args := #[Go.Operand.tmp 32], argTypes := #[51] }, type := 4, pos := "l15_merging.go:109", after := #[{ on := 3, ground := Go.Ground.data }], guard := none }
abbrev o79_6_5 : Oper := { dst := some 34, op := Go.Op.move (Go.Operand.tmp 33), type := 4, pos := "l15_merging.go:109", after := #[{ on := 4, ground := Go.Ground.data }, { on := 4, ground := Go.Ground.chain }], guard := none }
abbrev o79_6_6 : Oper := { dst := some 35, op := Go.Op.fieldAddr 57 (Go.Operand.tmp 3) 2, type := 0, pos := "l15_merging.go:109", after := #[{ on := 5, ground := Go.Ground.guard }], guard := some (5, true) }
abbrev o79_6_7 : Oper := { dst := some 36, op := Go.Op.load 55 (Go.Operand.tmp 35), type := 55, pos := "l15_merging.go:109", after := #[{ on := 6, ground := Go.Ground.data }, { on := 5, ground := Go.Ground.guard }], guard := some (5, true) }
abbrev o79_6_8 : Oper := { dst := some 37, op := Go.Op.call { callee := Go.Callee.builtin Go.Builtin.len, args := #[Go.Operand.tmp 36], argTypes := #[55] }, type := 3, pos := "l15_merging.go:109", after := #[{ on := 7, ground := Go.Ground.data }, { on := 5, ground := Go.Ground.guard }], guard := some (5, true) }
abbrev o79_6_9 : Oper := { dst := some 38, op := Go.Op.binOp Go.BinOp.eql 3 (Go.Operand.tmp 37) (Go.Operand.const (Go.Value.int Go.IntKind.i64 0)) 3, type := 4, pos := "l15_merging.go:109", after := #[{ on := 8, ground := Go.Ground.data }, { on := 5, ground := Go.Ground.guard }, { on := 11, ground := Go.Ground.gcOnly Go.Departure.lateStores }], guard := some (5, true) }
abbrev o79_6_10 : Oper := { dst := some 39, op := Go.Op.pick (Go.Operand.tmp 34) (Go.Operand.tmp 38) (Go.Operand.const (Go.Value.bool false)), type := 4, pos := "l15_merging.go:109", after := #[{ on := 5, ground := Go.Ground.data }, { on := 9, ground := Go.Ground.data }, { on := 11, ground := Go.Ground.gcOnly Go.Departure.lateStores }], guard := none }
abbrev o79_6_11 : Oper := { dst := none, op := Go.Op.store 51 (Go.Operand.tmp 4) (Go.Operand.tmp 30), type := 0, pos := "l15_merging.go:109", after := #[{ on := 1, ground := Go.Ground.data }, { on := 5, ground := Go.Ground.chain }, { on := 0, ground := Go.Ground.phase }, { on := 1, ground := Go.Ground.phase }, { on := 2, ground := Go.Ground.textOnly Go.Departure.lateStores }, { on := 3, ground := Go.Ground.textOnly Go.Departure.lateStores }, { on := 4, ground := Go.Ground.textOnly Go.Departure.lateStoresUnsure }, { on := 5, ground := Go.Ground.textOnly Go.Departure.lateStores }, { on := 6, ground := Go.Ground.textOnly Go.Departure.lateStores }, { on := 7, ground := Go.Ground.textOnly Go.Departure.lateStores }, { on := 8, ground := Go.Ground.textOnly Go.Departure.lateStoresUnsure }, { on := 9, ground := Go.Ground.textOnly Go.Departure.lateStores }, { on := 10, ground := Go.Ground.textOnly Go.Departure.lateStores }], guard := none }
abbrev o79_6_12 : Oper := { dst := some 5, op := Go.Op.assign (Go.Operand.tmp 39), type := 4, pos := "l15_merging.go:109", after := #[{ on := 10, ground := Go.Ground.data }, { on := 11, ground := Go.Ground.chain }, { on := 0, ground := Go.Ground.phase }, { on := 1, ground := Go.Ground.phase }, { on := 2, ground := Go.Ground.phase }, { on := 3, ground := Go.Ground.phase }, { on := 4, ground := Go.Ground.phase }, { on := 5, ground := Go.Ground.phase }, { on := 6, ground := Go.Ground.phase }, { on := 7, ground := Go.Ground.phase }, { on := 8, ground := Go.Ground.phase }, { on := 9, ground := Go.Ground.phase }, { on := 10, ground := Go.Ground.phase }, { on := 11, ground := Go.Ground.phase }], guard := none }
theorem isEmpty_len {α : Type} (k : List α) : k.isEmpty = decide (k.length = 0) := by cases k <;> simp
set_option maxHeartbeats 3200000 in
theorem p79_same (W0 : World) (a : Tr) (v : Value) (t : Tr) (k : List De) (tv kv : Value) (w : World) (ha : Lies W0 (fun _ => True) a v) (hd : DLies W0 (fun _ => True) ⟨1, t, k⟩ tv kv) (hb : Below W0.heap.size W0 w) :
    Calls Try.prog 79 #[a.val v, (De.mk 1 t k).val tv kv] w (PtA W0.heap.size (pa ⟨1, t, k⟩ a) w) := by
  obtain ⟨hbW, bA, bD, bR⟩ := w79_box w a v ⟨1, t, k⟩ tv kv
  have HLT := (show Hid (∀ wq, Below (W79 w a v ⟨1, t, k⟩ tv kv).heap.size (W79 w a v ⟨1, t, k⟩ tv kv) wq → Calls Try.prog 108 #[t.val tv] wq fun e w' => e = .returned (.bool (zeB t)) ∧ Below wq.heap.size wq w') from fun wq h => zero108 t tv wq (hd.tree.still (bel_trans (bel_trans hb (hbW.mono (by have := hb.size; omega))) h)))
  have HLA := (show Hid (Lies W0 (fun q => q < W0.heap.size) a v) from ha.lt.mono (fun q h => h.2))
  have HB := (show Hid _ from hb)
  have hC := hb.size
  have hkm : k.length ≤ 2 ^ 63 - 1 := by
    obtain ⟨_, _, _, _, _, _, _, _, hc, hm, _⟩ := hd.out
    unfold maxLen at hm
    dsimp only at hc
    omega
  obtain ⟨aa, al, ap, rfl⟩ := ha.form
  obtain ⟨⟨ta, tl, tp, rfl⟩, ka, kp, rfl⟩ := hd.form
  have HPA := (show Hid (pa ⟨1, t, k⟩ a = if (zeB t && k.isEmpty) = true then some a else none) from (by show _ = _; rw [pa_mk]; rfl))
  clear ha hd hb
  simp only [Tr.val, De.val] at HLT bA bD bR ⊢
  have HBX := (show Hid _ from (⟨hbW, bA, bD, bR⟩ : _ ∧ _ ∧ _ ∧ _))
  clear hbW bA bD bR
  have HFIN := (show Hid (∀ w1 B, Below (W79 w a (.slice aa al ap) ⟨1, t, k⟩ (.slice ta tl tp) (.slice ka k.length kp)).heap.size (W79 w a (.slice aa al ap) ⟨1, t, k⟩ (.slice ta tl tp) (.slice ka k.length kp)) w1 → (B = true → pa ⟨1, t, k⟩ a = some a) → (B = false → pa ⟨1, t, k⟩ a = none) → ∀ x0 x1 x2 x3, PtA W0.heap.size (pa ⟨1, t, k⟩ a) w (.returned (.tuple #[.agg #[.string a.name, .string a.text, .bool a.leaf, (.slice aa al ap)], .bool B])) ((((w1.setCell ⟨w.heap.size + 1 + 1, 0, none⟩ x0).setCell ⟨w.heap.size + 1 + 1, 1, none⟩ x1).setCell ⟨w.heap.size + 1 + 1, 2, none⟩ x2).setCell ⟨w.heap.size + 1 + 1, 3, none⟩ x3)) from fun w1 B h h1 h2 x0 x1 x2 x3 => by
    have hbw := bel_trans HBX.out.1 h
    refine PtA.of hbw (Lies.mono (fun q hq => .inl hq) (Lies.keep (w := W0) (fun q hq => ?_) HLA.out)) hC h1 h2
    exact (HB.out.trans (hbw.mono hC)).block q hq)
  have HS := (show Hid (∀ wq, Below (W79 w a (.slice aa al ap) ⟨1, t, k⟩ (.slice ta tl tp) (.slice ka k.length kp)).heap.size (W79 w a (.slice aa al ap) ⟨1, t, k⟩ (.slice ta tl tp) (.slice ka k.length kp)) wq → (wq.cell? ⟨w.heap.size, 0, none⟩ = some (.string a.name) ∧ wq.cell? ⟨w.heap.size, 1, none⟩ = some (.string a.text) ∧ wq.cell? ⟨w.heap.size, 2, none⟩ = some (.bool a.leaf) ∧ wq.cell? ⟨w.heap.size, 3, none⟩ = some (.slice aa al ap)) ∧ wq.cell? ⟨w.heap.size + 1, 1, none⟩ = some (.string t.name) ∧ wq.cell? ⟨w.heap.size + 1, 2, none⟩ = some (.string t.text) ∧ wq.cell? ⟨w.heap.size + 1, 3, none⟩ = some (.bool t.leaf) ∧ wq.cell? ⟨w.heap.size + 1, 4, none⟩ = some (.slice ta tl tp) ∧ wq.cell? ⟨w.heap.size + 1, 5, none⟩ = some (.slice ka k.length kp)) from fun wq h => by
    have x := HBX.out.2.1.still h
    have y := HBX.out.2.2.1.still h
    exact ⟨⟨x.cell 0 (by simp), x.cell 1 (by simp), x.cell 2 (by simp), x.cell 3 (by simp)⟩, y.cell 1 (by simp), y.cell 2 (by simp), y.cell 3 (by simp), y.cell 4 (by simp), y.cell 5 (by simp)⟩)
  have HS2 := (show Hid (∀ wq, Below (W79 w a (.slice aa al ap) ⟨1, t, k⟩ (.slice ta tl tp) (.slice ka k.length kp)).heap.size (W79 w a (.slice aa al ap) ⟨1, t, k⟩ (.slice ta tl tp) (.slice ka k.length kp)) wq → (((((wq.setCell ⟨w.heap.size + 1 + 1, 0, none⟩ (.string a.name)).setCell ⟨w.heap.size + 1 + 1, 1, none⟩ (.string a.text)).setCell ⟨w.heap.size + 1 + 1, 2, none⟩ (.bool a.leaf)).setCell ⟨w.heap.size + 1 + 1, 3, none⟩ (.slice aa al ap)).cell? ⟨w.heap.size, 0, none⟩ = some (.string a.name) ∧ ((((wq.setCell ⟨w.heap.size + 1 + 1, 0, none⟩ (.string a.name)).setCell ⟨w.heap.size + 1 + 1, 1, none⟩ (.string a.text)).setCell ⟨w.heap.size + 1 + 1, 2, none⟩ (.bool a.leaf)).setCell ⟨w.heap.size + 1 + 1, 3, none⟩ (.slice aa al ap)).cell? ⟨w.heap.size, 1, none⟩ = some (.string a.text) ∧ ((((wq.setCell ⟨w.heap.size + 1 + 1, 0, none⟩ (.string a.name)).setCell ⟨w.heap.size + 1 + 1, 1, none⟩ (.string a.text)).setCell ⟨w.heap.size + 1 + 1, 2, none⟩ (.bool a.leaf)).setCell ⟨w.heap.size + 1 + 1, 3, none⟩ (.slice aa al ap)).cell? ⟨w.heap.size, 2, none⟩ = some (.bool a.leaf) ∧ ((((wq.setCell ⟨w.heap.size + 1 + 1, 0, none⟩ (.string a.name)).setCell ⟨w.heap.size + 1 + 1, 1, none⟩ (.string a.text)).setCell ⟨w.heap.size + 1 + 1, 2, none⟩ (.bool a.leaf)).setCell ⟨w.heap.size + 1 + 1, 3, none⟩ (.slice aa al ap)).cell? ⟨w.heap.size, 3, none⟩ = some (.slice aa al ap)) ∧ ((((wq.setCell ⟨w.heap.size + 1 + 1, 0, none⟩ (.string a.name)).setCell ⟨w.heap.size + 1 + 1, 1, none⟩ (.string a.text)).setCell ⟨w.heap.size + 1 + 1, 2, none⟩ (.bool a.leaf)).setCell ⟨w.heap.size + 1 + 1, 3, none⟩ (.slice aa al ap)).cell? ⟨w.heap.size + 1, 1, none⟩ = some (.string t.name) ∧ ((((wq.setCell ⟨w.heap.size + 1 + 1, 0, none⟩ (.string a.name)).setCell ⟨w.heap.size + 1 + 1, 1, none⟩ (.string a.text)).setCell ⟨w.heap.size + 1 + 1, 2, none⟩ (.bool a.leaf)).setCell ⟨w.heap.size + 1 + 1, 3, none⟩ (.slice aa al ap)).cell? ⟨w.heap.size + 1, 2, none⟩ = some (.string t.text) ∧ ((((wq.setCell ⟨w.heap.size + 1 + 1, 0, none⟩ (.string a.name)).setCell ⟨w.heap.size + 1 + 1, 1, none⟩ (.string a.text)).setCell ⟨w.heap.size + 1 + 1, 2, none⟩ (.bool a.leaf)).setCell ⟨w.heap.size + 1 + 1, 3, none⟩ (.slice aa al ap)).cell? ⟨w.heap.size + 1, 3, none⟩ = some (.bool t.leaf) ∧ ((((wq.setCell ⟨w.heap.size + 1 + 1, 0, none⟩ (.string a.name)).setCell ⟨w.heap.size + 1 + 1, 1, none⟩ (.string a.text)).setCell ⟨w.heap.size + 1 + 1, 2, none⟩ (.bool a.leaf)).setCell ⟨w.heap.size + 1 + 1, 3, none⟩ (.slice aa al ap)).cell? ⟨w.heap.size + 1, 4, none⟩ = some (.slice ta tl tp) ∧ ((((wq.setCell ⟨w.heap.size + 1 + 1, 0, none⟩ (.string a.name)).setCell ⟨w.heap.size + 1 + 1, 1, none⟩ (.string a.text)).setCell ⟨w.heap.size + 1 + 1, 2, none⟩ (.bool a.leaf)).setCell ⟨w.heap.size + 1 + 1, 3, none⟩ (.slice aa al ap)).cell? ⟨w.heap.size + 1, 5, none⟩ = some (.slice ka k.length kp)) from fun wq h => by
    have x := (((((HBX.out.2.1.still h).past (q := w.heap.size + 1 + 1) (o := 0) (u := .string a.name) (by omega)).past (q := w.heap.size + 1 + 1) (o := 1) (u := .string a.text) (by omega)).past (q := w.heap.size + 1 + 1) (o := 2) (u := .bool a.leaf) (by omega)).past (q := w.heap.size + 1 + 1) (o := 3) (u := (.slice aa al ap)) (by omega))
    have y := (((((HBX.out.2.2.1.still h).past (q := w.heap.size + 1 + 1) (o := 0) (u := .string a.name) (by omega)).past (q := w.heap.size + 1 + 1) (o := 1) (u := .string a.text) (by omega)).past (q := w.heap.size + 1 + 1) (o := 2) (u := .bool a.leaf) (by omega)).past (q := w.heap.size + 1 + 1) (o := 3) (u := (.slice aa al ap)) (by omega))
    exact ⟨⟨x.cell 0 (by simp), x.cell 1 (by simp), x.cell 2 (by simp), x.cell 3 (by simp)⟩, y.cell 1 (by simp), y.cell 2 (by simp), y.cell 3 (by simp), y.cell 4 (by simp), y.cell 5 (by simp)⟩)
  have HR := (show Hid (∀ wq, Below (W79 w a (.slice aa al ap) ⟨1, t, k⟩ (.slice ta tl tp) (.slice ka k.length kp)).heap.size (W79 w a (.slice aa al ap) ⟨1, t, k⟩ (.slice ta tl tp) (.slice ka k.length kp)) wq → (wq.cell? ⟨w.heap.size + 1 + 1, 0, none⟩ = some (.string ⟨#[]⟩) ∧ wq.cell? ⟨w.heap.size + 1 + 1, 1, none⟩ = some (.string ⟨#[]⟩) ∧ wq.cell? ⟨w.heap.size + 1 + 1, 2, none⟩ = some (.bool false) ∧ wq.cell? ⟨w.heap.size + 1 + 1, 3, none⟩ = some (.slice none 0 0)) ∧ wq.frozen? ⟨w.heap.size + 1 + 1, 0, none⟩ = false ∧ wq.frozen? ⟨w.heap.size + 1 + 1, 1, none⟩ = false ∧ wq.frozen? ⟨w.heap.size + 1 + 1, 2, none⟩ = false ∧ wq.frozen? ⟨w.heap.size + 1 + 1, 3, none⟩ = false) from fun wq h => by
    have x := HBX.out.2.2.2.still h
    exact ⟨⟨x.cell 0 (by simp), x.cell 1 (by simp), x.cell 2 (by simp), x.cell 3 (by simp)⟩, x.frozen 0, x.frozen 1, x.frozen 2, x.frozen 3⟩)
  have hB0 := (Below.refl (W79 w a (.slice aa al ap) ⟨1, t, k⟩ (.slice ta tl tp) (.slice ka k.length kp)).heap.size (W79 w a (.slice aa al ap) ⟨1, t, k⟩ (.slice ta tl tp) (.slice ka k.length kp))).drew
  have hS0 := HS.out _ hB0
  cases hz : zeB t
  · rw [hz] at HLT HPA
    clear hz
    go_enter Try.func79, Try.ntmps79
    go_wp2_with fail
    refine wp_region_held_drew (S := (fun wq => (wq.cell? ⟨w.heap.size, 0, none⟩ = some (.string a.name) ∧ wq.cell? ⟨w.heap.size, 1, none⟩ = some (.string a.text) ∧ wq.cell? ⟨w.heap.size, 2, none⟩ = some (.bool a.leaf) ∧ wq.cell? ⟨w.heap.size, 3, none⟩ = some (.slice aa al ap)) ∧ wq.cell? ⟨w.heap.size + 1, 1, none⟩ = some (.string t.name) ∧ wq.cell? ⟨w.heap.size + 1, 2, none⟩ = some (.string t.text) ∧ wq.cell? ⟨w.heap.size + 1, 3, none⟩ = some (.bool t.leaf) ∧ wq.cell? ⟨w.heap.size + 1, 4, none⟩ = some (.slice ta tl tp) ∧ wq.cell? ⟨w.heap.size + 1, 5, none⟩ = some (.slice ka k.length kp))) (by kernel_rfl) hS0 (fun hHeld => ?_)
    refine wpAnyH_take (i := 0) (oi := o79_4_0) (v := ?v1) rfl (by kernel_rfl) (by kernel_rfl) (by kernel_rfl) (fun _ _ _ h => h) (Or.inl ⟨by rfl, ?h1⟩) hHeld ?r1
    case h1 => (intro w hSw; (try dsimp only at hSw); go_simp; try with_reducible rfl)
    try simp only [Act.put, List.setIfInBounds_toArray, List.set_cons_zero, List.set_cons_succ]
    refine wpAnyH_take (i := 1) (oi := o79_4_1) (v := ?v2) rfl (by kernel_rfl) (by kernel_rfl) (by kernel_rfl) (fun _ _ _ h => h) (Or.inl ⟨by rfl, ?h2⟩) hHeld ?r2
    case h2 => (intro w hSw; (try dsimp only at hSw); go_simp; try with_reducible rfl)
    try simp only [Act.put, List.setIfInBounds_toArray, List.set_cons_zero, List.set_cons_succ]
    refine wpAnyH_take (i := 2) (oi := o79_4_2) (v := ?v3) rfl (by kernel_rfl) (by kernel_rfl) (by kernel_rfl) (fun _ _ _ h => h) (Or.inl ⟨by rfl, ?h3⟩) hHeld ?r3
    case h3 => (intro w hSw; (try dsimp only at hSw); go_simp; try with_reducible rfl)
    try simp only [Act.put, List.setIfInBounds_toArray, List.set_cons_zero, List.set_cons_succ]
    refine wpAnyH_ready (rs := [3]) (by kernel_rfl) (by simp) ?_
    refine AllReadyH.cons (o := o79_4_3) rfl (fun K hK => ?_) AllReadyH.nil
    go_simp
    refine Calls.mono (HLT.out _ hB0) ?_
    rintro e w1 ⟨rfl, hb1⟩
    dsimp only
    have hB1 := bel_trans hB0 hb1
    have hS1 := HS.out _ hB1
    obtain ⟨⟨r0, r1, r2, r3⟩, f0, f1, f2, f3⟩ := HR.out _ hB1
    clear hHeld
    refine hK.out _ _ hS1 (fun hHeld => ?_)
    clear hK K
    try simp only [Act.put, List.setIfInBounds_toArray, List.set_cons_zero, List.set_cons_succ]
    refine wpAnyH_take (i := 4) (oi := o79_4_4) (v := ?v4) rfl (by kernel_rfl) (by kernel_rfl) (by kernel_rfl) (fun _ _ _ h => h) (Or.inl ⟨by rfl, ?h4⟩) hHeld ?r4
    case h4 => (intro w hSw; (try dsimp only at hSw); go_simp; try with_reducible rfl)
    try simp only [Act.put, List.setIfInBounds_toArray, List.set_cons_zero, List.set_cons_succ]
    refine wpAnyH_take (i := 5) (oi := o79_4_5) (v := undef) rfl (by kernel_rfl) (by kernel_rfl) (by kernel_rfl) (fun _ _ _ h => h) (Or.inr ⟨by rfl, rfl⟩) hHeld ?_
    try simp only [Act.put, List.setIfInBounds_toArray, List.set_cons_zero, List.set_cons_succ]
    refine wpAnyH_take (i := 6) (oi := o79_4_6) (v := undef) rfl (by kernel_rfl) (by kernel_rfl) (by kernel_rfl) (fun _ _ _ h => h) (Or.inr ⟨by rfl, rfl⟩) hHeld ?_
    try simp only [Act.put, List.setIfInBounds_toArray, List.set_cons_zero, List.set_cons_succ]
    refine wpAnyH_take (i := 7) (oi := o79_4_7) (v := undef) rfl (by kernel_rfl) (by kernel_rfl) (by kernel_rfl) (fun _ _ _ h => h) (Or.inr ⟨by rfl, rfl⟩) hHeld ?_
    try simp only [Act.put, List.setIfInBounds_toArray, List.set_cons_zero, List.set_cons_succ]
    refine wpAnyH_take (i := 8) (oi := o79_4_8) (v := undef) rfl (by kernel_rfl) (by kernel_rfl) (by kernel_rfl) (fun _ _ _ h => h) (Or.inr ⟨by rfl, rfl⟩) hHeld ?_
    try simp only [Act.put, List.setIfInBounds_toArray, List.set_cons_zero, List.set_cons_succ]
    refine wpAnyH_take (i := 9) (oi := o79_4_9) (v := ?v5) rfl (by kernel_rfl) (by kernel_rfl) (by kernel_rfl) (fun _ _ _ h => h) (Or.inl ⟨by rfl, ?h5⟩) hHeld ?r5
    case h5 => (intro w hSw; (try dsimp only at hSw); go_simp; try with_reducible rfl)
    try simp only [Act.put, List.setIfInBounds_toArray, List.set_cons_zero, List.set_cons_succ]
    have hS2 := HS2.out _ hB1
    refine wpAnyH_ready (rs := [10]) (by kernel_rfl) (by simp) ?_
    refine AllReadyH.cons (o := o79_4_10) rfl (fun K hK => ?_) AllReadyH.nil
    go_simp
    clear hHeld
    refine hK.out _ _ hS2 (fun hHeld => ?_)
    clear hK K
    try simp only [Act.put, List.setIfInBounds_toArray, List.set_cons_zero, List.set_cons_succ]
    refine wpAnyH_ready (rs := [11]) (by kernel_rfl) (by simp) ?_
    refine AllReadyH.cons (o := o79_4_11) rfl (fun K hK => ?_) AllReadyH.nil
    go_simp
    clear hHeld
    refine hK.out _ _ hS2 (fun hHeld => ?_)
    clear hK K
    try simp only [Act.put, List.setIfInBounds_toArray, List.set_cons_zero, List.set_cons_succ]
    refine wpAnyH_done (by kernel_rfl) ?_ _
    (try refine NoPanic.normal ?_)
    have HB1 := (show Hid _ from hB1)
    clear hB1 hb1 hS1 hS2 hS0 hHeld
    go_wp2_with fail
    refine bodyPost_ret (v := .tuple #[.agg #[.string a.name, .string a.text, .bool a.leaf, (.slice aa al ap)], .bool false]) (by simp [results, Try.results79, go_sem, r0, r1, r2, r3]) rfl ?_
    exact HFIN.out w1 false HB1.out (fun h => absurd h (by simp)) (fun _ => HPA.out.trans (by simp)) _ _ _ _
  · rw [hz] at HLT HPA
    clear hz
    go_enter Try.func79, Try.ntmps79
    go_wp2_with fail
    refine wp_region_held_drew (S := (fun wq => (wq.cell? ⟨w.heap.size, 0, none⟩ = some (.string a.name) ∧ wq.cell? ⟨w.heap.size, 1, none⟩ = some (.string a.text) ∧ wq.cell? ⟨w.heap.size, 2, none⟩ = some (.bool a.leaf) ∧ wq.cell? ⟨w.heap.size, 3, none⟩ = some (.slice aa al ap)) ∧ wq.cell? ⟨w.heap.size + 1, 1, none⟩ = some (.string t.name) ∧ wq.cell? ⟨w.heap.size + 1, 2, none⟩ = some (.string t.text) ∧ wq.cell? ⟨w.heap.size + 1, 3, none⟩ = some (.bool t.leaf) ∧ wq.cell? ⟨w.heap.size + 1, 4, none⟩ = some (.slice ta tl tp) ∧ wq.cell? ⟨w.heap.size + 1, 5, none⟩ = some (.slice ka k.length kp))) (by kernel_rfl) hS0 (fun hHeld => ?_)
    refine wpAnyH_take (i := 0) (oi := o79_4_0) (v := ?v6) rfl (by kernel_rfl) (by kernel_rfl) (by kernel_rfl) (fun _ _ _ h => h) (Or.inl ⟨by rfl, ?h6⟩) hHeld ?r6
    case h6 => (intro w hSw; (try dsimp only at hSw); go_simp; try with_reducible rfl)
    try simp only [Act.put, List.setIfInBounds_toArray, List.set_cons_zero, List.set_cons_succ]
    refine wpAnyH_take (i := 1) (oi := o79_4_1) (v := ?v7) rfl (by kernel_rfl) (by kernel_rfl) (by kernel_rfl) (fun _ _ _ h => h) (Or.inl ⟨by rfl, ?h7⟩) hHeld ?r7
    case h7 => (intro w hSw; (try dsimp only at hSw); go_simp; try with_reducible rfl)
    try simp only [Act.put, List.setIfInBounds_toArray, List.set_cons_zero, List.set_cons_succ]
    refine wpAnyH_take (i := 2) (oi := o79_4_2) (v := ?v8) rfl (by kernel_rfl) (by kernel_rfl) (by kernel_rfl) (fun _ _ _ h => h) (Or.inl ⟨by rfl, ?h8⟩) hHeld ?r8
    case h8 => (intro w hSw; (try dsimp only at hSw); go_simp; try with_reducible rfl)
    try simp only [Act.put, List.setIfInBounds_toArray, List.set_cons_zero, List.set_cons_succ]
    refine wpAnyH_ready (rs := [3]) (by kernel_rfl) (by simp) ?_
    refine AllReadyH.cons (o := o79_4_3) rfl (fun K hK => ?_) AllReadyH.nil
    go_simp
    refine Calls.mono (HLT.out _ hB0) ?_
    rintro e w1 ⟨rfl, hb1⟩
    dsimp only
    have hB1 := bel_trans hB0 hb1
    have hS1 := HS.out _ hB1
    obtain ⟨⟨r0, r1, r2, r3⟩, f0, f1, f2, f3⟩ := HR.out _ hB1
    clear hHeld
    refine hK.out _ _ hS1 (fun hHeld => ?_)
    clear hK K
    try simp only [Act.put, List.setIfInBounds_toArray, List.set_cons_zero, List.set_cons_succ]
    refine wpAnyH_take (i := 4) (oi := o79_4_4) (v := ?v9) rfl (by kernel_rfl) (by kernel_rfl) (by kernel_rfl) (fun _ _ _ h => h) (Or.inl ⟨by rfl, ?h9⟩) hHeld ?r9
    case h9 => (intro w hSw; (try dsimp only at hSw); go_simp; try with_reducible rfl)
    try simp only [Act.put, List.setIfInBounds_toArray, List.set_cons_zero, List.set_cons_succ]
    refine wpAnyH_take (i := 5) (oi := o79_4_5) (v := ?v10) rfl (by kernel_rfl) (by kernel_rfl) (by kernel_rfl) (fun _ _ _ h => h) (Or.inl ⟨by rfl, ?h10⟩) hHeld ?r10
    case h10 => (intro w hSw; (try dsimp only at hSw); go_simp; try with_reducible rfl)
    try simp only [Act.put, List.setIfInBounds_toArray, List.set_cons_zero, List.set_cons_succ]
    refine wpAnyH_take (i := 6) (oi := o79_4_6) (v := ?v11) rfl (by kernel_rfl) (by kernel_rfl) (by kernel_rfl) (fun _ _ _ h => h) (Or.inl ⟨by rfl, ?h11⟩) hHeld ?r11
    case h11 => (intro w hSw; (try dsimp only at hSw); go_simp; try with_reducible rfl)
    try simp only [Act.put, List.setIfInBounds_toArray, List.set_cons_zero, List.set_cons_succ]
    refine wpAnyH_take (i := 7) (oi := o79_4_7) (v := ?v12) rfl (by kernel_rfl) (by kernel_rfl) (by kernel_rfl) (fun _ _ _ h => h) (Or.inl ⟨by rfl, ?h12⟩) hHeld ?r12
    case h12 => (intro w hSw; (try dsimp only at hSw); go_simp; try with_reducible rfl)
    try simp only [Act.put, List.setIfInBounds_toArray, List.set_cons_zero, List.set_cons_succ]
    refine wpAnyH_take (i := 8) (oi := o79_4_8) (v := ?v13) rfl (by kernel_rfl) (by kernel_rfl) (by kernel_rfl) (fun _ _ _ h => h) (Or.inl ⟨by rfl, ?h13⟩) hHeld ?r13
    case h13 => (intro w hSw; (try dsimp only at hSw); go_simp; try with_reducible rfl)
    try simp only [Act.put, List.setIfInBounds_toArray, List.set_cons_zero, List.set_cons_succ]
    refine wpAnyH_take (i := 9) (oi := o79_4_9) (v := ?v14) rfl (by kernel_rfl) (by kernel_rfl) (by kernel_rfl) (fun _ _ _ h => h) (Or.inl ⟨by rfl, ?h14⟩) hHeld ?r14
    case h14 => (intro w hSw; (try dsimp only at hSw); go_simp; try with_reducible rfl)
    try simp only [Act.put, List.setIfInBounds_toArray, List.set_cons_zero, List.set_cons_succ]
    have hS2 := HS2.out _ hB1
    refine wpAnyH_ready (rs := [10]) (by kernel_rfl) (by simp) ?_
    refine AllReadyH.cons (o := o79_4_10) rfl (fun K hK => ?_) AllReadyH.nil
    go_simp
    clear hHeld
    refine hK.out _ _ hS2 (fun hHeld => ?_)
    clear hK K
    try simp only [Act.put, List.setIfInBounds_toArray, List.set_cons_zero, List.set_cons_succ]
    refine wpAnyH_ready (rs := [11]) (by kernel_rfl) (by simp) ?_
    refine AllReadyH.cons (o := o79_4_11) rfl (fun K hK => ?_) AllReadyH.nil
    go_simp
    clear hHeld
    refine hK.out _ _ hS2 (fun hHeld => ?_)
    clear hK K
    try simp only [Act.put, List.setIfInBounds_toArray, List.set_cons_zero, List.set_cons_succ]
    refine wpAnyH_done (by kernel_rfl) ?_ _
    (try refine NoPanic.normal ?_)
    have HB1 := (show Hid _ from hB1)
    clear hB1 hb1 hS1 hS2 hS0 hHeld
    go_wp2_with fail
    refine bodyPost_ret (v := .tuple #[.agg #[.string a.name, .string a.text, .bool a.leaf, (.slice aa al ap)], .bool ((k.length : Int) == 0)]) (by simp [results, Try.results79, go_sem, r0, r1, r2, r3]) rfl ?_
    refine HFIN.out w1 _ HB1.out (fun h => ?_) (fun h => ?_) _ _ _ _
    · rw [HPA.out, isEmpty_len]; simp at h ⊢; exact h
    · rw [HPA.out, isEmpty_len]; simp at h ⊢; exact h
set_option maxHeartbeats 3200000 in
theorem p79_new (W0 : World) (a : Tr) (v : Value) (t : Tr) (k : List De) (tv kv : Value) (w : World) (ha : Lies W0 (fun _ => True) a v) (hd : DLies W0 (fun _ => True) ⟨2, t, k⟩ tv kv) (hb : Below W0.heap.size W0 w) :
    Calls Try.prog 79 #[a.val v, (De.mk 2 t k).val tv kv] w (PtA W0.heap.size (pa ⟨2, t, k⟩ a) w) := by
  obtain ⟨hbW, bA, bD, bR⟩ := w79_box w a v ⟨2, t, k⟩ tv kv
  have HLT := (show Hid (∀ wq, Below (W79 w a v ⟨2, t, k⟩ tv kv).heap.size (W79 w a v ⟨2, t, k⟩ tv kv) wq → Calls Try.prog 68 #[t.val tv] wq fun e w' => e = .returned (.bool (t.ok)) ∧ Below wq.heap.size wq w') from fun wq h => sOK_any t tv wq (hd.tree.still (bel_trans (bel_trans hb (hbW.mono (by have := hb.size; omega))) h)))
  have HLA := (show Hid (Lies W0 (fun q => q < W0.heap.size) t tv) from hd.tree.lt.mono (fun q h => h.2))
  have HB := (show Hid _ from hb)
  have hC := hb.size
  have hkm : k.length ≤ 2 ^ 63 - 1 := by
    obtain ⟨_, _, _, _, _, _, _, _, hc, hm, _⟩ := hd.out
    unfold maxLen at hm
    dsimp only at hc
    omega
  obtain ⟨aa, al, ap, rfl⟩ := ha.form
  obtain ⟨⟨ta, tl, tp, rfl⟩, ka, kp, rfl⟩ := hd.form
  have HPA := (show Hid (pa ⟨2, t, k⟩ a = if (t.ok && k.isEmpty) = true then some t else none) from (by show _ = _; rw [pa_mk]; rfl))
  clear ha hd hb
  simp only [Tr.val, De.val] at HLT bA bD bR ⊢
  have HBX := (show Hid _ from (⟨hbW, bA, bD, bR⟩ : _ ∧ _ ∧ _ ∧ _))
  clear hbW bA bD bR
  have HFIN := (show Hid (∀ w1 B, Below (W79 w a (.slice aa al ap) ⟨2, t, k⟩ (.slice ta tl tp) (.slice ka k.length kp)).heap.size (W79 w a (.slice aa al ap) ⟨2, t, k⟩ (.slice ta tl tp) (.slice ka k.length kp)) w1 → (B = true → pa ⟨2, t, k⟩ a = some t) → (B = false → pa ⟨2, t, k⟩ a = none) → ∀ x0 x1 x2 x3, PtA W0.heap.size (pa ⟨2, t, k⟩ a) w (.returned (.tuple #[.agg #[.string t.name, .string t.text, .bool t.leaf, (.slice ta tl tp)], .bool B])) ((((w1.setCell ⟨w.heap.size + 1 + 1, 0, none⟩ x0).setCell ⟨w.heap.size + 1 + 1, 1, none⟩ x1).setCell ⟨w.heap.size + 1 + 1, 2, none⟩ x2).setCell ⟨w.heap.size + 1 + 1, 3, none⟩ x3)) from fun w1 B h h1 h2 x0 x1 x2 x3 => by
    have hbw := bel_trans HBX.out.1 h
    refine PtA.of hbw (Lies.mono (fun q hq => .inl hq) (Lies.keep (w := W0) (fun q hq => ?_) HLA.out)) hC h1 h2
    exact (HB.out.trans (hbw.mono hC)).block q hq)
  have HS := (show Hid (∀ wq, Below (W79 w a (.slice aa al ap) ⟨2, t, k⟩ (.slice ta tl tp) (.slice ka k.length kp)).heap.size (W79 w a (.slice aa al ap) ⟨2, t, k⟩ (.slice ta tl tp) (.slice ka k.length kp)) wq → (wq.cell? ⟨w.heap.size, 0, none⟩ = some (.string a.name) ∧ wq.cell? ⟨w.heap.size, 1, none⟩ = some (.string a.text) ∧ wq.cell? ⟨w.heap.size, 2, none⟩ = some (.bool a.leaf) ∧ wq.cell? ⟨w.heap.size, 3, none⟩ = some (.slice aa al ap)) ∧ wq.cell? ⟨w.heap.size + 1, 1, none⟩ = some (.string t.name) ∧ wq.cell? ⟨w.heap.size + 1, 2, none⟩ = some (.string t.text) ∧ wq.cell? ⟨w.heap.size + 1, 3, none⟩ = some (.bool t.leaf) ∧ wq.cell? ⟨w.heap.size + 1, 4, none⟩ = some (.slice ta tl tp) ∧ wq.cell? ⟨w.heap.size + 1, 5, none⟩ = some (.slice ka k.length kp)) from fun wq h => by
    have x := HBX.out.2.1.still h
    have y := HBX.out.2.2.1.still h
    exact ⟨⟨x.cell 0 (by simp), x.cell 1 (by simp), x.cell 2 (by simp), x.cell 3 (by simp)⟩, y.cell 1 (by simp), y.cell 2 (by simp), y.cell 3 (by simp), y.cell 4 (by simp), y.cell 5 (by simp)⟩)
  have HS2 := (show Hid (∀ wq, Below (W79 w a (.slice aa al ap) ⟨2, t, k⟩ (.slice ta tl tp) (.slice ka k.length kp)).heap.size (W79 w a (.slice aa al ap) ⟨2, t, k⟩ (.slice ta tl tp) (.slice ka k.length kp)) wq → (((((wq.setCell ⟨w.heap.size + 1 + 1, 0, none⟩ (.string t.name)).setCell ⟨w.heap.size + 1 + 1, 1, none⟩ (.string t.text)).setCell ⟨w.heap.size + 1 + 1, 2, none⟩ (.bool t.leaf)).setCell ⟨w.heap.size + 1 + 1, 3, none⟩ (.slice ta tl tp)).cell? ⟨w.heap.size, 0, none⟩ = some (.string a.name) ∧ ((((wq.setCell ⟨w.heap.size + 1 + 1, 0, none⟩ (.string t.name)).setCell ⟨w.heap.size + 1 + 1, 1, none⟩ (.string t.text)).setCell ⟨w.heap.size + 1 + 1, 2, none⟩ (.bool t.leaf)).setCell ⟨w.heap.size + 1 + 1, 3, none⟩ (.slice ta tl tp)).cell? ⟨w.heap.size, 1, none⟩ = some (.string a.text) ∧ ((((wq.setCell ⟨w.heap.size + 1 + 1, 0, none⟩ (.string t.name)).setCell ⟨w.heap.size + 1 + 1, 1, none⟩ (.string t.text)).setCell ⟨w.heap.size + 1 + 1, 2, none⟩ (.bool t.leaf)).setCell ⟨w.heap.size + 1 + 1, 3, none⟩ (.slice ta tl tp)).cell? ⟨w.heap.size, 2, none⟩ = some (.bool a.leaf) ∧ ((((wq.setCell ⟨w.heap.size + 1 + 1, 0, none⟩ (.string t.name)).setCell ⟨w.heap.size + 1 + 1, 1, none⟩ (.string t.text)).setCell ⟨w.heap.size + 1 + 1, 2, none⟩ (.bool t.leaf)).setCell ⟨w.heap.size + 1 + 1, 3, none⟩ (.slice ta tl tp)).cell? ⟨w.heap.size, 3, none⟩ = some (.slice aa al ap)) ∧ ((((wq.setCell ⟨w.heap.size + 1 + 1, 0, none⟩ (.string t.name)).setCell ⟨w.heap.size + 1 + 1, 1, none⟩ (.string t.text)).setCell ⟨w.heap.size + 1 + 1, 2, none⟩ (.bool t.leaf)).setCell ⟨w.heap.size + 1 + 1, 3, none⟩ (.slice ta tl tp)).cell? ⟨w.heap.size + 1, 1, none⟩ = some (.string t.name) ∧ ((((wq.setCell ⟨w.heap.size + 1 + 1, 0, none⟩ (.string t.name)).setCell ⟨w.heap.size + 1 + 1, 1, none⟩ (.string t.text)).setCell ⟨w.heap.size + 1 + 1, 2, none⟩ (.bool t.leaf)).setCell ⟨w.heap.size + 1 + 1, 3, none⟩ (.slice ta tl tp)).cell? ⟨w.heap.size + 1, 2, none⟩ = some (.string t.text) ∧ ((((wq.setCell ⟨w.heap.size + 1 + 1, 0, none⟩ (.string t.name)).setCell ⟨w.heap.size + 1 + 1, 1, none⟩ (.string t.text)).setCell ⟨w.heap.size + 1 + 1, 2, none⟩ (.bool t.leaf)).setCell ⟨w.heap.size + 1 + 1, 3, none⟩ (.slice ta tl tp)).cell? ⟨w.heap.size + 1, 3, none⟩ = some (.bool t.leaf) ∧ ((((wq.setCell ⟨w.heap.size + 1 + 1, 0, none⟩ (.string t.name)).setCell ⟨w.heap.size + 1 + 1, 1, none⟩ (.string t.text)).setCell ⟨w.heap.size + 1 + 1, 2, none⟩ (.bool t.leaf)).setCell ⟨w.heap.size + 1 + 1, 3, none⟩ (.slice ta tl tp)).cell? ⟨w.heap.size + 1, 4, none⟩ = some (.slice ta tl tp) ∧ ((((wq.setCell ⟨w.heap.size + 1 + 1, 0, none⟩ (.string t.name)).setCell ⟨w.heap.size + 1 + 1, 1, none⟩ (.string t.text)).setCell ⟨w.heap.size + 1 + 1, 2, none⟩ (.bool t.leaf)).setCell ⟨w.heap.size + 1 + 1, 3, none⟩ (.slice ta tl tp)).cell? ⟨w.heap.size + 1, 5, none⟩ = some (.slice ka k.length kp)) from fun wq h => by
    have x := (((((HBX.out.2.1.still h).past (q := w.heap.size + 1 + 1) (o := 0) (u := .string t.name) (by omega)).past (q := w.heap.size + 1 + 1) (o := 1) (u := .string t.text) (by omega)).past (q := w.heap.size + 1 + 1) (o := 2) (u := .bool t.leaf) (by omega)).past (q := w.heap.size + 1 + 1) (o := 3) (u := (.slice ta tl tp)) (by omega))
    have y := (((((HBX.out.2.2.1.still h).past (q := w.heap.size + 1 + 1) (o := 0) (u := .string t.name) (by omega)).past (q := w.heap.size + 1 + 1) (o := 1) (u := .string t.text) (by omega)).past (q := w.heap.size + 1 + 1) (o := 2) (u := .bool t.leaf) (by omega)).past (q := w.heap.size + 1 + 1) (o := 3) (u := (.slice ta tl tp)) (by omega))
    exact ⟨⟨x.cell 0 (by simp), x.cell 1 (by simp), x.cell 2 (by simp), x.cell 3 (by simp)⟩, y.cell 1 (by simp), y.cell 2 (by simp), y.cell 3 (by simp), y.cell 4 (by simp), y.cell 5 (by simp)⟩)
  have HR := (show Hid (∀ wq, Below (W79 w a (.slice aa al ap) ⟨2, t, k⟩ (.slice ta tl tp) (.slice ka k.length kp)).heap.size (W79 w a (.slice aa al ap) ⟨2, t, k⟩ (.slice ta tl tp) (.slice ka k.length kp)) wq → (wq.cell? ⟨w.heap.size + 1 + 1, 0, none⟩ = some (.string ⟨#[]⟩) ∧ wq.cell? ⟨w.heap.size + 1 + 1, 1, none⟩ = some (.string ⟨#[]⟩) ∧ wq.cell? ⟨w.heap.size + 1 + 1, 2, none⟩ = some (.bool false) ∧ wq.cell? ⟨w.heap.size + 1 + 1, 3, none⟩ = some (.slice none 0 0)) ∧ wq.frozen? ⟨w.heap.size + 1 + 1, 0, none⟩ = false ∧ wq.frozen? ⟨w.heap.size + 1 + 1, 1, none⟩ = false ∧ wq.frozen? ⟨w.heap.size + 1 + 1, 2, none⟩ = false ∧ wq.frozen? ⟨w.heap.size + 1 + 1, 3, none⟩ = false) from fun wq h => by
    have x := HBX.out.2.2.2.still h
    exact ⟨⟨x.cell 0 (by simp), x.cell 1 (by simp), x.cell 2 (by simp), x.cell 3 (by simp)⟩, x.frozen 0, x.frozen 1, x.frozen 2, x.frozen 3⟩)
  have hB0 := (Below.refl (W79 w a (.slice aa al ap) ⟨2, t, k⟩ (.slice ta tl tp) (.slice ka k.length kp)).heap.size (W79 w a (.slice aa al ap) ⟨2, t, k⟩ (.slice ta tl tp) (.slice ka k.length kp))).drew
  have hS0 := HS.out _ hB0
  cases hz : t.ok
  · rw [hz] at HLT HPA
    clear hz
    go_enter Try.func79, Try.ntmps79
    go_wp2_with fail
    refine wp_region_held_drew (S := (fun wq => (wq.cell? ⟨w.heap.size, 0, none⟩ = some (.string a.name) ∧ wq.cell? ⟨w.heap.size, 1, none⟩ = some (.string a.text) ∧ wq.cell? ⟨w.heap.size, 2, none⟩ = some (.bool a.leaf) ∧ wq.cell? ⟨w.heap.size, 3, none⟩ = some (.slice aa al ap)) ∧ wq.cell? ⟨w.heap.size + 1, 1, none⟩ = some (.string t.name) ∧ wq.cell? ⟨w.heap.size + 1, 2, none⟩ = some (.string t.text) ∧ wq.cell? ⟨w.heap.size + 1, 3, none⟩ = some (.bool t.leaf) ∧ wq.cell? ⟨w.heap.size + 1, 4, none⟩ = some (.slice ta tl tp) ∧ wq.cell? ⟨w.heap.size + 1, 5, none⟩ = some (.slice ka k.length kp))) (by kernel_rfl) hS0 (fun hHeld => ?_)
    refine wpAnyH_take (i := 0) (oi := o79_6_0) (v := ?v15) rfl (by kernel_rfl) (by kernel_rfl) (by kernel_rfl) (fun _ _ _ h => h) (Or.inl ⟨by rfl, ?h15⟩) hHeld ?r15
    case h15 => (intro w hSw; (try dsimp only at hSw); go_simp; try with_reducible rfl)
    try simp only [Act.put, List.setIfInBounds_toArray, List.set_cons_zero, List.set_cons_succ]
    refine wpAnyH_take (i := 1) (oi := o79_6_1) (v := ?v16) rfl (by kernel_rfl) (by kernel_rfl) (by kernel_rfl) (fun _ _ _ h => h) (Or.inl ⟨by rfl, ?h16⟩) hHeld ?r16
    case h16 => (intro w hSw; (try dsimp only at hSw); go_simp; try with_reducible rfl)
    try simp only [Act.put, List.setIfInBounds_toArray, List.set_cons_zero, List.set_cons_succ]
    refine wpAnyH_take (i := 2) (oi := o79_6_2) (v := ?v17) rfl (by kernel_rfl) (by kernel_rfl) (by kernel_rfl) (fun _ _ _ h => h) (Or.inl ⟨by rfl, ?h17⟩) hHeld ?r17
    case h17 => (intro w hSw; (try dsimp only at hSw); go_simp; try with_reducible rfl)
    try simp only [Act.put, List.setIfInBounds_toArray, List.set_cons_zero, List.set_cons_succ]
    refine wpAnyH_take (i := 3) (oi := o79_6_3) (v := ?v18) rfl (by kernel_rfl) (by kernel_rfl) (by kernel_rfl) (fun _ _ _ h => h) (Or.inl ⟨by rfl, ?h18⟩) hHeld ?r18
    case h18 => (intro w hSw; (try dsimp only at hSw); go_simp; try with_reducible rfl)
    try simp only [Act.put, List.setIfInBounds_toArray, List.set_cons_zero, List.set_cons_succ]
    refine wpAnyH_ready (rs := [4]) (by kernel_rfl) (by simp) ?_
    refine AllReadyH.cons (o := o79_6_4) rfl (fun K hK => ?_) AllReadyH.nil
    go_simp
    refine Calls.mono (HLT.out _ hB0) ?_
    rintro e w1 ⟨rfl, hb1⟩
    dsimp only
    have hB1 := bel_trans hB0 hb1
    have hS1 := HS.out _ hB1
    obtain ⟨⟨r0, r1, r2, r3⟩, f0, f1, f2, f3⟩ := HR.out _ hB1
    clear hHeld
    refine hK.out _ _ hS1 (fun hHeld => ?_)
    clear hK K
    try simp only [Act.put, List.setIfInBounds_toArray, List.set_cons_zero, List.set_cons_succ]
    refine wpAnyH_take (i := 5) (oi := o79_6_5) (v := ?v19) rfl (by kernel_rfl) (by kernel_rfl) (by kernel_rfl) (fun _ _ _ h => h) (Or.inl ⟨by rfl, ?h19⟩) hHeld ?r19
    case h19 => (intro w hSw; (try dsimp only at hSw); go_simp; try with_reducible rfl)
    try simp only [Act.put, List.setIfInBounds_toArray, List.set_cons_zero, List.set_cons_succ]
    refine wpAnyH_take (i := 6) (oi := o79_6_6) (v := undef) rfl (by kernel_rfl) (by kernel_rfl) (by kernel_rfl) (fun _ _ _ h => h) (Or.inr ⟨by rfl, rfl⟩) hHeld ?_
    try simp only [Act.put, List.setIfInBounds_toArray, List.set_cons_zero, List.set_cons_succ]
    refine wpAnyH_take (i := 7) (oi := o79_6_7) (v := undef) rfl (by kernel_rfl) (by kernel_rfl) (by kernel_rfl) (fun _ _ _ h => h) (Or.inr ⟨by rfl, rfl⟩) hHeld ?_
    try simp only [Act.put, List.setIfInBounds_toArray, List.set_cons_zero, List.set_cons_succ]
    refine wpAnyH_take (i := 8) (oi := o79_6_8) (v := undef) rfl (by kernel_rfl) (by kernel_rfl) (by kernel_rfl) (fun _ _ _ h => h) (Or.inr ⟨by rfl, rfl⟩) hHeld ?_
    try simp only [Act.put, List.setIfInBounds_toArray, List.set_cons_zero, List.set_cons_succ]
    refine wpAnyH_take (i := 9) (oi := o79_6_9) (v := undef) rfl (by kernel_rfl) (by kernel_rfl) (by kernel_rfl) (fun _ _ _ h => h) (Or.inr ⟨by rfl, rfl⟩) hHeld ?_
    try simp only [Act.put, List.setIfInBounds_toArray, List.set_cons_zero, List.set_cons_succ]
    refine wpAnyH_take (i := 10) (oi := o79_6_10) (v := ?v20) rfl (by kernel_rfl) (by kernel_rfl) (by kernel_rfl) (fun _ _ _ h => h) (Or.inl ⟨by rfl, ?h20⟩) hHeld ?r20
    case h20 => (intro w hSw; (try dsimp only at hSw); go_simp; try with_reducible rfl)
    try simp only [Act.put, List.setIfInBounds_toArray, List.set_cons_zero, List.set_cons_succ]
    have hS2 := HS2.out _ hB1
    refine wpAnyH_ready (rs := [11]) (by kernel_rfl) (by simp) ?_
    refine AllReadyH.cons (o := o79_6_11) rfl (fun K hK => ?_) AllReadyH.nil
    go_simp
    clear hHeld
    refine hK.out _ _ hS2 (fun hHeld => ?_)
    clear hK K
    try simp only [Act.put, List.setIfInBounds_toArray, List.set_cons_zero, List.set_cons_succ]
    refine wpAnyH_ready (rs := [12]) (by kernel_rfl) (by simp) ?_
    refine AllReadyH.cons (o := o79_6_12) rfl (fun K hK => ?_) AllReadyH.nil
    go_simp
    clear hHeld
    refine hK.out _ _ hS2 (fun hHeld => ?_)
    clear hK K
    try simp only [Act.put, List.setIfInBounds_toArray, List.set_cons_zero, List.set_cons_succ]
    refine wpAnyH_done (by kernel_rfl) ?_ _
    (try refine NoPanic.normal ?_)
    have HB1 := (show Hid _ from hB1)
    clear hB1 hb1 hS1 hS2 hS0 hHeld
    go_wp2_with fail
    refine bodyPost_ret (v := .tuple #[.agg #[.string t.name, .string t.text, .bool t.leaf, (.slice ta tl tp)], .bool false]) (by simp [results, Try.results79, go_sem, r0, r1, r2, r3]) rfl ?_
    exact HFIN.out w1 false HB1.out (fun h => absurd h (by simp)) (fun _ => HPA.out.trans (by simp)) _ _ _ _
  · rw [hz] at HLT HPA
    clear hz
    go_enter Try.func79, Try.ntmps79
    go_wp2_with fail
    refine wp_region_held_drew (S := (fun wq => (wq.cell? ⟨w.heap.size, 0, none⟩ = some (.string a.name) ∧ wq.cell? ⟨w.heap.size, 1, none⟩ = some (.string a.text) ∧ wq.cell? ⟨w.heap.size, 2, none⟩ = some (.bool a.leaf) ∧ wq.cell? ⟨w.heap.size, 3, none⟩ = some (.slice aa al ap)) ∧ wq.cell? ⟨w.heap.size + 1, 1, none⟩ = some (.string t.name) ∧ wq.cell? ⟨w.heap.size + 1, 2, none⟩ = some (.string t.text) ∧ wq.cell? ⟨w.heap.size + 1, 3, none⟩ = some (.bool t.leaf) ∧ wq.cell? ⟨w.heap.size + 1, 4, none⟩ = some (.slice ta tl tp) ∧ wq.cell? ⟨w.heap.size + 1, 5, none⟩ = some (.slice ka k.length kp))) (by kernel_rfl) hS0 (fun hHeld => ?_)
    refine wpAnyH_take (i := 0) (oi := o79_6_0) (v := ?v21) rfl (by kernel_rfl) (by kernel_rfl) (by kernel_rfl) (fun _ _ _ h => h) (Or.inl ⟨by rfl, ?h21⟩) hHeld ?r21
    case h21 => (intro w hSw; (try dsimp only at hSw); go_simp; try with_reducible rfl)
    try simp only [Act.put, List.setIfInBounds_toArray, List.set_cons_zero, List.set_cons_succ]
    refine wpAnyH_take (i := 1) (oi := o79_6_1) (v := ?v22) rfl (by kernel_rfl) (by kernel_rfl) (by kernel_rfl) (fun _ _ _ h => h) (Or.inl ⟨by rfl, ?h22⟩) hHeld ?r22
    case h22 => (intro w hSw; (try dsimp only at hSw); go_simp; try with_reducible rfl)
    try simp only [Act.put, List.setIfInBounds_toArray, List.set_cons_zero, List.set_cons_succ]
    refine wpAnyH_take (i := 2) (oi := o79_6_2) (v := ?v23) rfl (by kernel_rfl) (by kernel_rfl) (by kernel_rfl) (fun _ _ _ h => h) (Or.inl ⟨by rfl, ?h23⟩) hHeld ?r23
    case h23 => (intro w hSw; (try dsimp only at hSw); go_simp; try with_reducible rfl)
    try simp only [Act.put, List.setIfInBounds_toArray, List.set_cons_zero, List.set_cons_succ]
    refine wpAnyH_take (i := 3) (oi := o79_6_3) (v := ?v24) rfl (by kernel_rfl) (by kernel_rfl) (by kernel_rfl) (fun _ _ _ h => h) (Or.inl ⟨by rfl, ?h24⟩) hHeld ?r24
    case h24 => (intro w hSw; (try dsimp only at hSw); go_simp; try with_reducible rfl)
    try simp only [Act.put, List.setIfInBounds_toArray, List.set_cons_zero, List.set_cons_succ]
    refine wpAnyH_ready (rs := [4]) (by kernel_rfl) (by simp) ?_
    refine AllReadyH.cons (o := o79_6_4) rfl (fun K hK => ?_) AllReadyH.nil
    go_simp
    refine Calls.mono (HLT.out _ hB0) ?_
    rintro e w1 ⟨rfl, hb1⟩
    dsimp only
    have hB1 := bel_trans hB0 hb1
    have hS1 := HS.out _ hB1
    obtain ⟨⟨r0, r1, r2, r3⟩, f0, f1, f2, f3⟩ := HR.out _ hB1
    clear hHeld
    refine hK.out _ _ hS1 (fun hHeld => ?_)
    clear hK K
    try simp only [Act.put, List.setIfInBounds_toArray, List.set_cons_zero, List.set_cons_succ]
    refine wpAnyH_take (i := 5) (oi := o79_6_5) (v := ?v25) rfl (by kernel_rfl) (by kernel_rfl) (by kernel_rfl) (fun _ _ _ h => h) (Or.inl ⟨by rfl, ?h25⟩) hHeld ?r25
    case h25 => (intro w hSw; (try dsimp only at hSw); go_simp; try with_reducible rfl)
    try simp only [Act.put, List.setIfInBounds_toArray, List.set_cons_zero, List.set_cons_succ]
    refine wpAnyH_take (i := 6) (oi := o79_6_6) (v := ?v26) rfl (by kernel_rfl) (by kernel_rfl) (by kernel_rfl) (fun _ _ _ h => h) (Or.inl ⟨by rfl, ?h26⟩) hHeld ?r26
    case h26 => (intro w hSw; (try dsimp only at hSw); go_simp; try with_reducible rfl)
    try simp only [Act.put, List.setIfInBounds_toArray, List.set_cons_zero, List.set_cons_succ]
    refine wpAnyH_take (i := 7) (oi := o79_6_7) (v := ?v27) rfl (by kernel_rfl) (by kernel_rfl) (by kernel_rfl) (fun _ _ _ h => h) (Or.inl ⟨by rfl, ?h27⟩) hHeld ?r27
    case h27 => (intro w hSw; (try dsimp only at hSw); go_simp; try with_reducible rfl)
    try simp only [Act.put, List.setIfInBounds_toArray, List.set_cons_zero, List.set_cons_succ]
    refine wpAnyH_take (i := 8) (oi := o79_6_8) (v := ?v28) rfl (by kernel_rfl) (by kernel_rfl) (by kernel_rfl) (fun _ _ _ h => h) (Or.inl ⟨by rfl, ?h28⟩) hHeld ?r28
    case h28 => (intro w hSw; (try dsimp only at hSw); go_simp; try with_reducible rfl)
    try simp only [Act.put, List.setIfInBounds_toArray, List.set_cons_zero, List.set_cons_succ]
    refine wpAnyH_take (i := 9) (oi := o79_6_9) (v := ?v29) rfl (by kernel_rfl) (by kernel_rfl) (by kernel_rfl) (fun _ _ _ h => h) (Or.inl ⟨by rfl, ?h29⟩) hHeld ?r29
    case h29 => (intro w hSw; (try dsimp only at hSw); go_simp; try with_reducible rfl)
    try simp only [Act.put, List.setIfInBounds_toArray, List.set_cons_zero, List.set_cons_succ]
    refine wpAnyH_take (i := 10) (oi := o79_6_10) (v := ?v30) rfl (by kernel_rfl) (by kernel_rfl) (by kernel_rfl) (fun _ _ _ h => h) (Or.inl ⟨by rfl, ?h30⟩) hHeld ?r30
    case h30 => (intro w hSw; (try dsimp only at hSw); go_simp; try with_reducible rfl)
    try simp only [Act.put, List.setIfInBounds_toArray, List.set_cons_zero, List.set_cons_succ]
    have hS2 := HS2.out _ hB1
    refine wpAnyH_ready (rs := [11]) (by kernel_rfl) (by simp) ?_
    refine AllReadyH.cons (o := o79_6_11) rfl (fun K hK => ?_) AllReadyH.nil
    go_simp
    clear hHeld
    refine hK.out _ _ hS2 (fun hHeld => ?_)
    clear hK K
    try simp only [Act.put, List.setIfInBounds_toArray, List.set_cons_zero, List.set_cons_succ]
    refine wpAnyH_ready (rs := [12]) (by kernel_rfl) (by simp) ?_
    refine AllReadyH.cons (o := o79_6_12) rfl (fun K hK => ?_) AllReadyH.nil
    go_simp
    clear hHeld
    refine hK.out _ _ hS2 (fun hHeld => ?_)
    clear hK K
    try simp only [Act.put, List.setIfInBounds_toArray, List.set_cons_zero, List.set_cons_succ]
    refine wpAnyH_done (by kernel_rfl) ?_ _
    (try refine NoPanic.normal ?_)
    have HB1 := (show Hid _ from hB1)
    clear hB1 hb1 hS1 hS2 hS0 hHeld
    go_wp2_with fail
    refine bodyPost_ret (v := .tuple #[.agg #[.string t.name, .string t.text, .bool t.leaf, (.slice ta tl tp)], .bool ((k.length : Int) == 0)]) (by simp [results, Try.results79, go_sem, r0, r1, r2, r3]) rfl ?_
    refine HFIN.out w1 _ HB1.out (fun h => ?_) (fun h => ?_) _ _ _ _
    · rw [HPA.out, isEmpty_len]; simp at h ⊢; exact h
    · rw [HPA.out, isEmpty_len]; simp at h ⊢; exact h
end Go.Proofs.Ytblfeifedcddnaa
