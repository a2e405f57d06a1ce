import Derived.Test.YtboffildchoelaaYe
/-! The program: readValue and readContext. -/
namespace Go.Proofs.Ytboffildchoelaa
open Go.RowKit Go.Deep Go.Maps Go.WideMaps Go.ChangeMaps Go.Lib
set_option linter.unusedVariables false
set_option maxRecDepth 100000
set_option linter.unusedSimpArgs false

/-- What readValue and readContext leave. -/
def VlA (T : Bool) (w : World) (e : Ending) (w' : World) : Prop :=
  ∃ (pa va ha : Option Addr) (vl vc hl hc : Nat) (R : Bool), e = .returned (.tuple #[.agg #[.pointer pa, .slice va vl vc, .slice ha hl hc], .bool R]) ∧ Below w.heap.size w w' ∧ R = T
abbrev o43_0 : Oper := { dst := some 11, op := Go.Op.load 87 (Go.Operand.tmp 4), type := 87, pos := "l16_meanings.go:405", after := #[], guard := none }
abbrev o43_1 : Oper := { dst := some 12, op := Go.Op.build 95 #[(0, Go.Operand.tmp 11)], type := 95, pos := "l16_meanings.go:405", after := #[{ on := 0, ground := Go.Ground.data }], guard := none }
abbrev o43_2 : Oper := { dst := some 13, op := Go.Op.move (Go.Operand.tmp 5), type := 4, pos := "l16_meanings.go:405", after := #[], guard := none }
abbrev o43_3 : Oper := { dst := some 14, op := Go.Op.move (Go.Operand.tmp 13), type := 4, pos := "l16_meanings.go:405", after := #[{ on := 2, ground := Go.Ground.data }], guard := none }
abbrev o43_4 : Oper := { dst := some 15, op := Go.Op.load 87 (Go.Operand.tmp 4), type := 87, pos := "l16_meanings.go:405", after := #[{ on := 3, ground := Go.Ground.guard }], guard := some (3, true) }
abbrev o43_5 : Oper := { dst := some 16, op := Go.Op.call { callee := Go.Callee.value (Go.Operand.func 57), args := #[Go.Operand.tmp 15], argTypes := #[87] }, type := 4, pos := "l16_meanings.go:405", after := #[{ on := 4, ground := Go.Ground.data }, { on := 3, ground := Go.Ground.chain }, { on := 3, ground := Go.Ground.guard }], guard := some (3, true) }
abbrev o43_6 : Oper := { dst := some 17, op := Go.Op.pick (Go.Operand.tmp 14) (Go.Operand.tmp 16) (Go.Operand.const (Go.Value.bool false)), type := 4, pos := "l16_meanings.go:405", after := #[{ on := 3, ground := Go.Ground.data }, { on := 5, ground := Go.Ground.data }], guard := none }
abbrev o43_7 : Oper := { dst := some 18, op := Go.Op.move (Go.Operand.tmp 17), type := 4, pos := "l16_meanings.go:405", after := #[{ on := 6, ground := Go.Ground.data }, { on := 5, ground := Go.Ground.chain }], guard := none }
abbrev o43_8 : Oper := { dst := some 19, op := Go.Op.fieldAddr 87 (Go.Operand.tmp 4) 2, type := 0, pos := "l16_meanings.go:405", after := #[{ on := 7, ground := Go.Ground.guard }], guard := some (7, true) }
abbrev o43_9 : Oper := { dst := some 20, op := Go.Op.load 85 (Go.Operand.tmp 19), type := 85, pos := "l16_meanings.go:405", after := #[{ on := 8, ground := Go.Ground.data }, { on := 7, ground := Go.Ground.guard }], guard := some (7, true) }
abbrev o43_10 : Oper := { dst := some 21, op := Go.Op.call { callee := Go.Callee.builtin Go.Builtin.len, args := #[Go.Operand.tmp 20], argTypes := #[85] }, type := 3, pos := "l16_meanings.go:405", after := #[{ on := 9, ground := Go.Ground.data }, { on := 7, ground := Go.Ground.guard }], guard := some (7, true) }
abbrev o43_11 : Oper := { dst := some 22, op := Go.Op.binOp Go.BinOp.eql 3 (Go.Operand.tmp 21) (Go.Operand.const (Go.Value.int Go.IntKind.i64 0)) 3, type := 4, pos := "l16_meanings.go:405", after := #[{ on := 10, ground := Go.Ground.data }, { on := 7, ground := Go.Ground.guard }, { on := 13, ground := Go.Ground.gcOnly Go.Departure.lateStores }], guard := some (7, true) }
abbrev o43_12 : Oper := { dst := some 23, op := Go.Op.pick (Go.Operand.tmp 18) (Go.Operand.tmp 22) (Go.Operand.const (Go.Value.bool false)), type := 4, pos := "l16_meanings.go:405", after := #[{ on := 7, ground := Go.Ground.data }, { on := 11, ground := Go.Ground.data }, { on := 13, ground := Go.Ground.gcOnly Go.Departure.lateStores }], guard := none }
abbrev o43_13 : Oper := { dst := none, op := Go.Op.store 95 (Go.Operand.tmp 2) (Go.Operand.tmp 12), type := 0, pos := "l16_meanings.go:405", after := #[{ on := 1, ground := Go.Ground.data }, { on := 7, ground := Go.Ground.chain }, { on := 0, ground := Go.Ground.phase }, { on := 1, ground := Go.Ground.phase }, { on := 2, ground := Go.Ground.textOnly Go.Departure.lateStores }, { on := 3, ground := Go.Ground.textOnly Go.Departure.lateStores }, { on := 4, ground := Go.Ground.textOnly Go.Departure.lateStores }, { on := 5, ground := Go.Ground.textOnly Go.Departure.lateStoresUnsure }, { on := 6, ground := Go.Ground.textOnly Go.Departure.lateStores }, { on := 7, ground := Go.Ground.textOnly Go.Departure.lateStores }, { on := 8, ground := Go.Ground.textOnly Go.Departure.lateStores }, { on := 9, ground := Go.Ground.textOnly Go.Departure.lateStores }, { on := 10, ground := Go.Ground.textOnly Go.Departure.lateStoresUnsure }, { on := 11, ground := Go.Ground.textOnly Go.Departure.lateStores }, { on := 12, ground := Go.Ground.textOnly Go.Departure.lateStores }], guard := none }
abbrev o43_14 : Oper := { dst := some 3, op := Go.Op.assign (Go.Operand.tmp 23), type := 4, pos := "l16_meanings.go:405", after := #[{ on := 12, ground := Go.Ground.data }, { on := 13, ground := Go.Ground.chain }, { on := 0, ground := Go.Ground.phase }, { on := 1, ground := Go.Ground.phase }, { on := 2, ground := Go.Ground.phase }, { on := 3, ground := Go.Ground.phase }, { on := 4, ground := Go.Ground.phase }, { on := 5, ground := Go.Ground.phase }, { on := 6, ground := Go.Ground.phase }, { on := 7, ground := Go.Ground.phase }, { on := 8, ground := Go.Ground.phase }, { on := 9, ground := Go.Ground.phase }, { on := 10, ground := Go.Ground.phase }, { on := 11, ground := Go.Ground.phase }, { on := 12, ground := Go.Ground.phase }, { on := 13, ground := Go.Ground.phase }], guard := none }
set_option maxHeartbeats 3200000 in
theorem rval43 {S : Nat → Prop} (t : Tr) (v : Value) (w : World) (hl : Lies w S t v) :
    Calls Try.prog 43 #[t.val v] w (VlA (vaB t) w) := by
  obtain ⟨a1, l1, p1, rfl⟩ := hl.form
  have hz0 : ((w.alloc (.cells #[.string t.name, .string t.text, .bool t.leaf, .slice a1 l1 p1] 42)).alloc (.cells #[.pointer none, .slice none 0 0, .slice none 0 0] 95)).heap.size = w.heap.size + 2 := by simp
  have bW : Below w.heap.size w ((w.alloc (.cells #[.string t.name, .string t.text, .bool t.leaf, .slice a1 l1 p1] 42)).alloc (.cells #[.pointer none, .slice none 0 0, .slice none 0 0] 95)) := (bel_alloc _ _).alloc (by simp) _
  have HCP := (show Hid _ from rpat58 t (.slice a1 l1 p1) ((w.alloc (.cells #[.string t.name, .string t.text, .bool t.leaf, .slice a1 l1 p1] 42)).alloc (.cells #[.pointer none, .slice none 0 0, .slice none 0 0] 95)) (hl.still bW))
  have bz0 : Box ((w.alloc (.cells #[.string t.name, .string t.text, .bool t.leaf, .slice a1 l1 p1] 42)).alloc (.cells #[.pointer none, .slice none 0 0, .slice none 0 0] 95)) (w.heap.size + 1) 95 [.pointer none, .slice none 0 0, .slice none 0 0] := by
    have h := Box.new (w.alloc (.cells #[.string t.name, .string t.text, .bool t.leaf, .slice a1 l1 p1] 42)) 95 [.pointer none, .slice none 0 0, .slice none 0 0]
    simpa using h
  have HZ := (show Hid (∀ w1 : World, Below ((w.alloc (.cells #[.string t.name, .string t.text, .bool t.leaf, .slice a1 l1 p1] 42)).alloc (.cells #[.pointer none, .slice none 0 0, .slice none 0 0] 95)).heap.size ((w.alloc (.cells #[.string t.name, .string t.text, .bool t.leaf, .slice a1 l1 p1] 42)).alloc (.cells #[.pointer none, .slice none 0 0, .slice none 0 0] 95)) w1 → Below w.heap.size w w1 ∧ Box w1 (w.heap.size + 1) 95 [.pointer none, .slice none 0 0, .slice none 0 0]) from fun w1 hb => ⟨bW.trans (hb.mono (by omega)), bz0.still hb⟩)
  have HNO := (show Hid (t.ok = false ∨ pf t = true → vaB t = false) from fun h => by
    by_cases h1 : t.ok = true
    · rcases h with h | h
      · rw [h1] at h; cases h
      · rw [← va_prog t h1, h]; rfl
    · have h1' : t.ok = false := by simpa using h1
      unfold vaB p6B
      rw [h1']
      rfl)
  have HYES := (show Hid (t.ok = true → pf t = false → vaB t = (plB t.name t.leaf && decide (ph t = 0))) from fun h1 h2 => by
    show vaB t = _
    rw [← va_prog t h1, h2]
    rfl)
  have HKD := (show Hid ((kd t.name t.leaf == 0) = plB t.name t.leaf) from kd_pl _ _)
  unfold RpA at HCP
  generalize hkd : kd t.name t.leaf = KD at *
  generalize hpl : plB t.name t.leaf = PL at *
  clear hl bz0 hkd hpl
  simp only [Tr.val] at HCP ⊢
  generalize vaB t = VB at *
  generalize t.ok = OKT at *
  generalize pf t = PFT at *
  generalize ph t = PHT at *
  generalize t.name = n0 at *
  generalize t.text = x0 at *
  generalize t.leaf = lf0 at *
  go_enter Try.func43, Try.ntmps43
  go_wp2_with fail
  refine Calls.mono HCP.out ?_
  rintro e w1 ⟨pa, va, ha, vl, vc, hl, hc, R, rfl, hb1, hR1, hR0⟩
  obtain ⟨hbw, hz1⟩ := HZ.out w1 hb1
  have hs1 : w.heap.size + 1 < w1.heap.size := hz1.lt
  have bA := bel_alloc w1 (.cells #[.pointer pa, .slice va vl vc, .slice ha hl hc] 87)
  have gB := Box.new w1 87 [.pointer pa, .slice va vl vc, .slice ha hl hc]
  have hS0 : (w1.alloc (.cells #[.pointer pa, .slice va vl vc, .slice ha hl hc] 87)).drew.cell? ⟨w1.heap.size, 0, none⟩ = some (.pointer pa) ∧ (w1.alloc (.cells #[.pointer pa, .slice va vl vc, .slice ha hl hc] 87)).drew.cell? ⟨w1.heap.size, 1, none⟩ = some (.slice va vl vc) ∧ (w1.alloc (.cells #[.pointer pa, .slice va vl vc, .slice ha hl hc] 87)).drew.cell? ⟨w1.heap.size, 2, none⟩ = some (.slice ha hl hc) := ⟨gB.drw.cell 0 (by simp), gB.drw.cell 1 (by simp), gB.drw.cell 2 (by simp)⟩
  have HSK := (show Hid (∀ w3 : World, Below (w1.alloc (.cells #[.pointer pa, .slice va vl vc, .slice ha hl hc] 87)).drew.heap.size (w1.alloc (.cells #[.pointer pa, .slice va vl vc, .slice ha hl hc] 87)).drew w3 → (w3.cell? ⟨w1.heap.size, 0, none⟩ = some (.pointer pa) ∧ w3.cell? ⟨w1.heap.size, 1, none⟩ = some (.slice va vl vc) ∧ w3.cell? ⟨w1.heap.size, 2, none⟩ = some (.slice ha hl hc)) ∧ (w3.cell? ⟨w.heap.size + 1, 0, none⟩ = some (.pointer none) ∧ w3.cell? ⟨w.heap.size + 1, 1, none⟩ = some (.slice none 0 0) ∧ w3.cell? ⟨w.heap.size + 1, 2, none⟩ = some (.slice none 0 0)) ∧ (w3.frozen? ⟨w.heap.size + 1, 0, none⟩ = false ∧ w3.frozen? ⟨w.heap.size + 1, 1, none⟩ = false ∧ w3.frozen? ⟨w.heap.size + 1, 2, none⟩ = false) ∧ ((((w3.setCell ⟨w.heap.size + 1, 0, none⟩ (.pointer pa)).setCell ⟨w.heap.size + 1, 1, none⟩ (.slice va vl vc)).setCell ⟨w.heap.size + 1, 2, none⟩ (.slice ha hl hc)).cell? ⟨w1.heap.size, 0, none⟩ = some (.pointer pa) ∧ (((w3.setCell ⟨w.heap.size + 1, 0, none⟩ (.pointer pa)).setCell ⟨w.heap.size + 1, 1, none⟩ (.slice va vl vc)).setCell ⟨w.heap.size + 1, 2, none⟩ (.slice ha hl hc)).cell? ⟨w1.heap.size, 1, none⟩ = some (.slice va vl vc) ∧ (((w3.setCell ⟨w.heap.size + 1, 0, none⟩ (.pointer pa)).setCell ⟨w.heap.size + 1, 1, none⟩ (.slice va vl vc)).setCell ⟨w.heap.size + 1, 2, none⟩ (.slice ha hl hc)).cell? ⟨w1.heap.size, 2, none⟩ = some (.slice ha hl hc)) ∧ ((((w3.setCell ⟨w.heap.size + 1, 0, none⟩ (.pointer pa)).setCell ⟨w.heap.size + 1, 1, none⟩ (.slice va vl vc)).setCell ⟨w.heap.size + 1, 2, none⟩ (.slice ha hl hc)).cell? ⟨w.heap.size + 1, 0, none⟩ = some (.pointer pa) ∧ (((w3.setCell ⟨w.heap.size + 1, 0, none⟩ (.pointer pa)).setCell ⟨w.heap.size + 1, 1, none⟩ (.slice va vl vc)).setCell ⟨w.heap.size + 1, 2, none⟩ (.slice ha hl hc)).cell? ⟨w.heap.size + 1, 1, none⟩ = some (.slice va vl vc) ∧ (((w3.setCell ⟨w.heap.size + 1, 0, none⟩ (.pointer pa)).setCell ⟨w.heap.size + 1, 1, none⟩ (.slice va vl vc)).setCell ⟨w.heap.size + 1, 2, none⟩ (.slice ha hl hc)).cell? ⟨w.heap.size + 1, 2, none⟩ = some (.slice ha hl hc)) ∧ Below w.heap.size w (((w3.setCell ⟨w.heap.size + 1, 0, none⟩ (.pointer pa)).setCell ⟨w.heap.size + 1, 1, none⟩ (.slice va vl vc)).setCell ⟨w.heap.size + 1, 2, none⟩ (.slice ha hl hc))) from fun w3 hb3 => by
    have g3 := gB.drw.still hb3
    have z3 := (hz1.still bA).drw.still hb3
    have zz := ((z3.set 0 (.pointer pa)).set 1 (.slice va vl vc)).set 2 (.slice ha hl hc)
    have gg := ((g3.past (q := w.heap.size + 1) (o := 0) (u := .pointer pa) (by omega)).past (q := w.heap.size + 1) (o := 1) (u := .slice va vl vc) (by omega)).past (q := w.heap.size + 1) (o := 2) (u := .slice ha hl hc) (by omega)
    have bb : Below w.heap.size w w3 := (bel_trans hbw bA).drew.trans (hb3.mono (by simp; omega))
    refine ⟨⟨g3.cell 0 (by simp), g3.cell 1 (by simp), g3.cell 2 (by simp)⟩, ⟨z3.cell 0 (by simp), z3.cell 1 (by simp), z3.cell 2 (by simp)⟩, ⟨z3.frozen 0, z3.frozen 1, z3.frozen 2⟩, ⟨gg.cell 0 (by simp), gg.cell 1 (by simp), gg.cell 2 (by simp)⟩, ⟨zz.cell 0 (by simp), zz.cell 1 (by simp), zz.cell 2 (by simp)⟩, ?_⟩
    exact ((bb.setCell (by show w.heap.size ≤ w.heap.size + 1; omega) _).setCell (by show w.heap.size ≤ w.heap.size + 1; omega) _).setCell (by show w.heap.size ≤ w.heap.size + 1; omega) _)
  have HPL := (show Hid (R = true → OKT = true ∧ PFT = false ∧ hl = PHT ∧ ∃ q, pa = some ⟨q, 0, none⟩ ∧ Calls Try.prog 57 #[.agg #[.pointer (some ⟨q, 0, none⟩), .slice va vl vc, .slice ha hl hc]] (w1.alloc (.cells #[.pointer pa, .slice va vl vc, .slice ha hl hc] 87)).drew fun e w' => e = .returned (.bool PL) ∧ Below (w1.alloc (.cells #[.pointer pa, .slice va vl vc, .slice ha hl hc] 87)).drew.heap.size (w1.alloc (.cells #[.pointer pa, .slice va vl vc, .slice ha hl hc] 87)).drew w') from fun hr => by
    obtain ⟨g1, g2, g3, q, s1, s2, l, num, kv, rfl, hbx⟩ := hR1 hr
    refine ⟨g1, g2, g3, q, rfl, ?_⟩
    rw [← HKD.out]
    exact plain57 q _ _ _ s1 s2 l KD num kv ((hbx.still (bel_alloc _ _)).drw) rfl rfl)
  have HR0 := (show Hid (R = false → OKT = false ∨ PFT = true) from hR0)
  clear hb1 hbw hz1 bA gB hR1 hR0 HZ HCP HKD
  cases R
  case false =>
    obtain ⟨hS1, ⟨Y0, Y1, Y2⟩, ⟨F0, F1, F2⟩, hS2, ⟨E0, E1, E2⟩, hbf⟩ := HSK.out (w1.alloc (.cells #[.pointer pa, .slice va vl vc, .slice ha hl hc] 87)).drew (Below.refl _ _)
    have HBF := (show Hid _ from hbf)
    have HV := (show Hid (VB = false) from HNO.out (HR0.out rfl))
    clear hbf HSK HPL HNO HYES HR0 hS1 hs1
    have Y0c : (w1.alloc (.cells #[.pointer pa, .slice va vl vc, .slice ha hl hc] 87)).cell? ⟨w.heap.size + 1, 0, none⟩ = some (.pointer none) := Y0
    have F0c : (w1.alloc (.cells #[.pointer pa, .slice va vl vc, .slice ha hl hc] 87)).frozen? ⟨w.heap.size + 1, 0, none⟩ = false := F0
    have Y1c : (w1.alloc (.cells #[.pointer pa, .slice va vl vc, .slice ha hl hc] 87)).cell? ⟨w.heap.size + 1, 1, none⟩ = some (.slice none 0 0) := Y1
    have F1c : (w1.alloc (.cells #[.pointer pa, .slice va vl vc, .slice ha hl hc] 87)).frozen? ⟨w.heap.size + 1, 1, none⟩ = false := F1
    have Y2c : (w1.alloc (.cells #[.pointer pa, .slice va vl vc, .slice ha hl hc] 87)).cell? ⟨w.heap.size + 1, 2, none⟩ = some (.slice none 0 0) := Y2
    have F2c : (w1.alloc (.cells #[.pointer pa, .slice va vl vc, .slice ha hl hc] 87)).frozen? ⟨w.heap.size + 1, 2, none⟩ = false := F2
    have hS2b : (((((w1.alloc (.cells #[.pointer pa, .slice va vl vc, .slice ha hl hc] 87)).setCell ⟨w.heap.size + 1, 0, none⟩ (.pointer pa)).setCell ⟨w.heap.size + 1, 1, none⟩ (.slice va vl vc)).setCell ⟨w.heap.size + 1, 2, none⟩ (.slice ha hl hc))).drew.cell? ⟨w1.heap.size, 0, none⟩ = some (.pointer pa) ∧ (((((w1.alloc (.cells #[.pointer pa, .slice va vl vc, .slice ha hl hc] 87)).setCell ⟨w.heap.size + 1, 0, none⟩ (.pointer pa)).setCell ⟨w.heap.size + 1, 1, none⟩ (.slice va vl vc)).setCell ⟨w.heap.size + 1, 2, none⟩ (.slice ha hl hc))).drew.cell? ⟨w1.heap.size, 1, none⟩ = some (.slice va vl vc) ∧ (((((w1.alloc (.cells #[.pointer pa, .slice va vl vc, .slice ha hl hc] 87)).setCell ⟨w.heap.size + 1, 0, none⟩ (.pointer pa)).setCell ⟨w.heap.size + 1, 1, none⟩ (.slice va vl vc)).setCell ⟨w.heap.size + 1, 2, none⟩ (.slice ha hl hc))).drew.cell? ⟨w1.heap.size, 2, none⟩ = some (.slice ha hl hc) := hS2
    have E0b : (((((w1.alloc (.cells #[.pointer pa, .slice va vl vc, .slice ha hl hc] 87)).setCell ⟨w.heap.size + 1, 0, none⟩ (.pointer pa)).setCell ⟨w.heap.size + 1, 1, none⟩ (.slice va vl vc)).setCell ⟨w.heap.size + 1, 2, none⟩ (.slice ha hl hc))).drew.cell? ⟨w.heap.size + 1, 0, none⟩ = some (.pointer pa) := E0
    have E1b : (((((w1.alloc (.cells #[.pointer pa, .slice va vl vc, .slice ha hl hc] 87)).setCell ⟨w.heap.size + 1, 0, none⟩ (.pointer pa)).setCell ⟨w.heap.size + 1, 1, none⟩ (.slice va vl vc)).setCell ⟨w.heap.size + 1, 2, none⟩ (.slice ha hl hc))).drew.cell? ⟨w.heap.size + 1, 1, none⟩ = some (.slice va vl vc) := E1
    have E2b : (((((w1.alloc (.cells #[.pointer pa, .slice va vl vc, .slice ha hl hc] 87)).setCell ⟨w.heap.size + 1, 0, none⟩ (.pointer pa)).setCell ⟨w.heap.size + 1, 1, none⟩ (.slice va vl vc)).setCell ⟨w.heap.size + 1, 2, none⟩ (.slice ha hl hc))).drew.cell? ⟨w.heap.size + 1, 2, none⟩ = some (.slice ha hl hc) := E2
    go_wp2_with fail
    refine wp_region_held_drew (S := (fun wq => wq.cell? ⟨w1.heap.size, 0, none⟩ = some (.pointer pa) ∧ wq.cell? ⟨w1.heap.size, 1, none⟩ = some (.slice va vl vc) ∧ wq.cell? ⟨w1.heap.size, 2, none⟩ = some (.slice ha hl hc))) (by kernel_rfl) hS0 (fun hHeld => ?_)
    refine wpAnyH_take (i := 0) (oi := o43_0) (v := ?v1) rfl (by kernel_rfl) (by kernel_rfl) (by kernel_rfl) (fun _ _ _ h => h) (Or.inl ⟨by rfl, ?h1⟩) hHeld ?r1
    case h1 => (intro w hSw; (try dsimp only at hSw); go_simp; try with_reducible rfl)
    try simp only [Act.put, List.setIfInBounds_toArray, List.set_cons_zero, List.set_cons_succ]
    refine wpAnyH_take (i := 1) (oi := o43_1) (v := ?v2) rfl (by kernel_rfl) (by kernel_rfl) (by kernel_rfl) (fun _ _ _ h => h) (Or.inl ⟨by rfl, ?h2⟩) hHeld ?r2
    case h2 => (intro w hSw; (try dsimp only at hSw); go_simp; try with_reducible rfl)
    try simp only [Act.put, List.setIfInBounds_toArray, List.set_cons_zero, List.set_cons_succ]
    refine wpAnyH_take (i := 2) (oi := o43_2) (v := ?v3) rfl (by kernel_rfl) (by kernel_rfl) (by kernel_rfl) (fun _ _ _ h => h) (Or.inl ⟨by rfl, ?h3⟩) hHeld ?r3
    case h3 => (intro w hSw; (try dsimp only at hSw); go_simp; try with_reducible rfl)
    try simp only [Act.put, List.setIfInBounds_toArray, List.set_cons_zero, List.set_cons_succ]
    refine wpAnyH_take (i := 3) (oi := o43_3) (v := ?v4) rfl (by kernel_rfl) (by kernel_rfl) (by kernel_rfl) (fun _ _ _ h => h) (Or.inl ⟨by rfl, ?h4⟩) hHeld ?r4
    case h4 => (intro w hSw; (try dsimp only at hSw); go_simp; try with_reducible rfl)
    try simp only [Act.put, List.setIfInBounds_toArray, List.set_cons_zero, List.set_cons_succ]
    refine wpAnyH_take (i := 4) (oi := o43_4) (v := undef) rfl (by kernel_rfl) (by kernel_rfl) (by kernel_rfl) (fun _ _ _ h => h) (Or.inr ⟨by rfl, rfl⟩) hHeld ?_
    try simp only [Act.put, List.setIfInBounds_toArray, List.set_cons_zero, List.set_cons_succ]
    refine wpAnyH_take (i := 5) (oi := o43_5) (v := undef) rfl (by kernel_rfl) (by kernel_rfl) (by kernel_rfl) (fun _ _ _ h => h) (Or.inr ⟨by rfl, rfl⟩) hHeld ?_
    try simp only [Act.put, List.setIfInBounds_toArray, List.set_cons_zero, List.set_cons_succ]
    refine wpAnyH_take (i := 6) (oi := o43_6) (v := ?v5) rfl (by kernel_rfl) (by kernel_rfl) (by kernel_rfl) (fun _ _ _ h => h) (Or.inl ⟨by rfl, ?h5⟩) hHeld ?r5
    case h5 => (intro w hSw; (try dsimp only at hSw); go_simp; try with_reducible rfl)
    try simp only [Act.put, List.setIfInBounds_toArray, List.set_cons_zero, List.set_cons_succ]
    refine wpAnyH_take (i := 7) (oi := o43_7) (v := ?v6) rfl (by kernel_rfl) (by kernel_rfl) (by kernel_rfl) (fun _ _ _ h => h) (Or.inl ⟨by rfl, ?h6⟩) hHeld ?r6
    case h6 => (intro w hSw; (try dsimp only at hSw); go_simp; try with_reducible rfl)
    try simp only [Act.put, List.setIfInBounds_toArray, List.set_cons_zero, List.set_cons_succ]
    refine wpAnyH_take (i := 8) (oi := o43_8) (v := undef) rfl (by kernel_rfl) (by kernel_rfl) (by kernel_rfl) (fun _ _ _ h => h) (Or.inr ⟨by rfl, rfl⟩) hHeld ?_
    try simp only [Act.put, List.setIfInBounds_toArray, List.set_cons_zero, List.set_cons_succ]
    refine wpAnyH_take (i := 9) (oi := o43_9) (v := undef) rfl (by kernel_rfl) (by kernel_rfl) (by kernel_rfl) (fun _ _ _ h => h) (Or.inr ⟨by rfl, rfl⟩) hHeld ?_
    try simp only [Act.put, List.setIfInBounds_toArray, List.set_cons_zero, List.set_cons_succ]
    refine wpAnyH_take (i := 10) (oi := o43_10) (v := undef) rfl (by kernel_rfl) (by kernel_rfl) (by kernel_rfl) (fun _ _ _ h => h) (Or.inr ⟨by rfl, rfl⟩) hHeld ?_
    try simp only [Act.put, List.setIfInBounds_toArray, List.set_cons_zero, List.set_cons_succ]
    refine wpAnyH_take (i := 11) (oi := o43_11) (v := undef) rfl (by kernel_rfl) (by kernel_rfl) (by kernel_rfl) (fun _ _ _ h => h) (Or.inr ⟨by rfl, rfl⟩) hHeld ?_
    try simp only [Act.put, List.setIfInBounds_toArray, List.set_cons_zero, List.set_cons_succ]
    refine wpAnyH_take (i := 12) (oi := o43_12) (v := ?v7) rfl (by kernel_rfl) (by kernel_rfl) (by kernel_rfl) (fun _ _ _ h => h) (Or.inl ⟨by rfl, ?h7⟩) hHeld ?r7
    case h7 => (intro w hSw; (try dsimp only at hSw); go_simp; try with_reducible rfl)
    try simp only [Act.put, List.setIfInBounds_toArray, List.set_cons_zero, List.set_cons_succ]
    refine wpAnyH_ready (rs := [13]) (by kernel_rfl) (by simp) ?_
    refine AllReadyH.cons (o := o43_13) rfl (fun K hK => ?_) AllReadyH.nil
    go_simp
    clear hHeld
    refine hK.out _ _ hS2b (fun hHeld => ?_)
    clear hK K
    try simp only [Act.put, List.setIfInBounds_toArray, List.set_cons_zero, List.set_cons_succ]
    refine wpAnyH_ready (rs := [14]) (by kernel_rfl) (by simp) ?_
    refine AllReadyH.cons (o := o43_14) rfl (fun K hK => ?_) AllReadyH.nil
    go_simp
    clear hHeld
    refine hK.out _ _ hS2b (fun hHeld => ?_)
    clear hK K
    try simp only [Act.put, List.setIfInBounds_toArray, List.set_cons_zero, List.set_cons_succ]
    refine wpAnyH_done (by kernel_rfl) ?_ _
    (try refine NoPanic.normal ?_)
    clear hHeld hS0
    go_wp2_with fail
    refine bodyPost_ret (v := .tuple #[.agg #[.pointer pa, .slice va vl vc, .slice ha hl hc], .bool false]) (by simp [results, Try.results43, go_sem, E0b, E1b, E2b]) rfl ?_
    exact ⟨pa, va, ha, vl, vc, hl, hc, false, rfl, HBF.out, HV.out.symm⟩
  case true =>
    obtain ⟨g1, g2, rfl, q, rfl, hcp⟩ := HPL.out rfl
    have HC := (show Hid _ from hcp)
    have HV := (show Hid (VB = (PL && decide (hl = 0))) from HYES.out g1 g2)
    clear hcp HPL HNO HYES HR0 g1 g2
    cases PL
    case false =>
      have HV2 := (show Hid (VB = false) from (by rw [HV.out]; rfl))
      clear HV
      go_wp2_with fail
      refine wp_region_held_drew (S := (fun wq => wq.cell? ⟨w1.heap.size, 0, none⟩ = some (.pointer (some ⟨q, 0, none⟩)) ∧ wq.cell? ⟨w1.heap.size, 1, none⟩ = some (.slice va vl vc) ∧ wq.cell? ⟨w1.heap.size, 2, none⟩ = some (.slice ha hl hc))) (by kernel_rfl) hS0 (fun hHeld => ?_)
      refine wpAnyH_take (i := 0) (oi := o43_0) (v := ?v8) rfl (by kernel_rfl) (by kernel_rfl) (by kernel_rfl) (fun _ _ _ h => h) (Or.inl ⟨by rfl, ?h8⟩) hHeld ?r8
      case h8 => (intro w hSw; (try dsimp only at hSw); go_simp; try with_reducible rfl)
      try simp only [Act.put, List.setIfInBounds_toArray, List.set_cons_zero, List.set_cons_succ]
      refine wpAnyH_take (i := 1) (oi := o43_1) (v := ?v9) rfl (by kernel_rfl) (by kernel_rfl) (by kernel_rfl) (fun _ _ _ h => h) (Or.inl ⟨by rfl, ?h9⟩) hHeld ?r9
      case h9 => (intro w hSw; (try dsimp only at hSw); go_simp; try with_reducible rfl)
      try simp only [Act.put, List.setIfInBounds_toArray, List.set_cons_zero, List.set_cons_succ]
      refine wpAnyH_take (i := 2) (oi := o43_2) (v := ?v10) rfl (by kernel_rfl) (by kernel_rfl) (by kernel_rfl) (fun _ _ _ h => h) (Or.inl ⟨by rfl, ?h10⟩) hHeld ?r10
      case h10 => (intro w hSw; (try dsimp only at hSw); go_simp; try with_reducible rfl)
      try simp only [Act.put, List.setIfInBounds_toArray, List.set_cons_zero, List.set_cons_succ]
      refine wpAnyH_take (i := 3) (oi := o43_3) (v := ?v11) rfl (by kernel_rfl) (by kernel_rfl) (by kernel_rfl) (fun _ _ _ h => h) (Or.inl ⟨by rfl, ?h11⟩) hHeld ?r11
      case h11 => (intro w hSw; (try dsimp only at hSw); go_simp; try with_reducible rfl)
      try simp only [Act.put, List.setIfInBounds_toArray, List.set_cons_zero, List.set_cons_succ]
      refine wpAnyH_take (i := 4) (oi := o43_4) (v := ?v12) rfl (by kernel_rfl) (by kernel_rfl) (by kernel_rfl) (fun _ _ _ h => h) (Or.inl ⟨by rfl, ?h12⟩) hHeld ?r12
      case h12 => (intro w hSw; (try dsimp only at hSw); go_simp; try with_reducible rfl)
      try simp only [Act.put, List.setIfInBounds_toArray, List.set_cons_zero, List.set_cons_succ]
      refine wpAnyH_ready (rs := [5]) (by kernel_rfl) (by simp) ?_
      refine AllReadyH.cons (o := o43_5) rfl (fun K hK => ?_) AllReadyH.nil
      go_simp
      refine Calls.mono HC.out ?_
      rintro e w3 ⟨rfl, hb3⟩
      dsimp only
      obtain ⟨hS1, ⟨Y0, Y1, Y2⟩, ⟨F0, F1, F2⟩, hS2, ⟨E0, E1, E2⟩, hbf⟩ := HSK.out w3 hb3
      have HBF := (show Hid _ from hbf)
      clear hbf hb3
      clear hHeld
      refine hK.out _ _ hS1 (fun hHeld => ?_)
      clear hK K
      try simp only [Act.put, List.setIfInBounds_toArray, List.set_cons_zero, List.set_cons_succ]
      refine wpAnyH_take (i := 6) (oi := o43_6) (v := ?v13) rfl (by kernel_rfl) (by kernel_rfl) (by kernel_rfl) (fun _ _ _ h => h) (Or.inl ⟨by rfl, ?h13⟩) hHeld ?r13
      case h13 => (intro w hSw; (try dsimp only at hSw); go_simp; try with_reducible rfl)
      try simp only [Act.put, List.setIfInBounds_toArray, List.set_cons_zero, List.set_cons_succ]
      refine wpAnyH_take (i := 7) (oi := o43_7) (v := ?v14) rfl (by kernel_rfl) (by kernel_rfl) (by kernel_rfl) (fun _ _ _ h => h) (Or.inl ⟨by rfl, ?h14⟩) hHeld ?r14
      case h14 => (intro w hSw; (try dsimp only at hSw); go_simp; try with_reducible rfl)
      try simp only [Act.put, List.setIfInBounds_toArray, List.set_cons_zero, List.set_cons_succ]
      refine wpAnyH_take (i := 8) (oi := o43_8) (v := undef) rfl (by kernel_rfl) (by kernel_rfl) (by kernel_rfl) (fun _ _ _ h => h) (Or.inr ⟨by rfl, rfl⟩) hHeld ?_
      try simp only [Act.put, List.setIfInBounds_toArray, List.set_cons_zero, List.set_cons_succ]
      refine wpAnyH_take (i := 9) (oi := o43_9) (v := undef) rfl (by kernel_rfl) (by kernel_rfl) (by kernel_rfl) (fun _ _ _ h => h) (Or.inr ⟨by rfl, rfl⟩) hHeld ?_
      try simp only [Act.put, List.setIfInBounds_toArray, List.set_cons_zero, List.set_cons_succ]
      refine wpAnyH_take (i := 10) (oi := o43_10) (v := undef) rfl (by kernel_rfl) (by kernel_rfl) (by kernel_rfl) (fun _ _ _ h => h) (Or.inr ⟨by rfl, rfl⟩) hHeld ?_
      try simp only [Act.put, List.setIfInBounds_toArray, List.set_cons_zero, List.set_cons_succ]
      refine wpAnyH_take (i := 11) (oi := o43_11) (v := undef) rfl (by kernel_rfl) (by kernel_rfl) (by kernel_rfl) (fun _ _ _ h => h) (Or.inr ⟨by rfl, rfl⟩) hHeld ?_
      try simp only [Act.put, List.setIfInBounds_toArray, List.set_cons_zero, List.set_cons_succ]
      refine wpAnyH_take (i := 12) (oi := o43_12) (v := ?v15) rfl (by kernel_rfl) (by kernel_rfl) (by kernel_rfl) (fun _ _ _ h => h) (Or.inl ⟨by rfl, ?h15⟩) hHeld ?r15
      case h15 => (intro w hSw; (try dsimp only at hSw); go_simp; try with_reducible rfl)
      try simp only [Act.put, List.setIfInBounds_toArray, List.set_cons_zero, List.set_cons_succ]
      refine wpAnyH_ready (rs := [13]) (by kernel_rfl) (by simp) ?_
      refine AllReadyH.cons (o := o43_13) rfl (fun K hK => ?_) AllReadyH.nil
      go_simp
      clear hHeld
      refine hK.out _ _ hS2 (fun hHeld => ?_)
      clear hK K
      try simp only [Act.put, List.setIfInBounds_toArray, List.set_cons_zero, List.set_cons_succ]
      refine wpAnyH_ready (rs := [14]) (by kernel_rfl) (by simp) ?_
      refine AllReadyH.cons (o := o43_14) rfl (fun K hK => ?_) AllReadyH.nil
      go_simp
      clear hHeld
      refine hK.out _ _ hS2 (fun hHeld => ?_)
      clear hK K
      try simp only [Act.put, List.setIfInBounds_toArray, List.set_cons_zero, List.set_cons_succ]
      refine wpAnyH_done (by kernel_rfl) ?_ _
      (try refine NoPanic.normal ?_)
      clear hHeld hS0
      go_wp2_with fail
      refine bodyPost_ret (v := .tuple #[.agg #[.pointer (some ⟨q, 0, none⟩), .slice va vl vc, .slice ha hl hc], .bool false]) (by simp [results, Try.results43, go_sem, E0, E1, E2]) rfl ?_
      exact ⟨_, va, ha, vl, vc, hl, hc, false, rfl, HBF.out, HV2.out.symm⟩
    case true =>
      by_cases hhl : hl = 0
      case pos =>
        have hq1 : ((hl : Int) == (0 : Int)) = true := by simp; omega
        have HV2 := (show Hid (VB = true) from (by rw [HV.out, decide_eq_true hhl]; rfl))
        clear HV
        clear hhl
        go_wp2_with fail
        refine wp_region_held_drew (S := (fun wq => wq.cell? ⟨w1.heap.size, 0, none⟩ = some (.pointer (some ⟨q, 0, none⟩)) ∧ wq.cell? ⟨w1.heap.size, 1, none⟩ = some (.slice va vl vc) ∧ wq.cell? ⟨w1.heap.size, 2, none⟩ = some (.slice ha hl hc))) (by kernel_rfl) hS0 (fun hHeld => ?_)
        refine wpAnyH_take (i := 0) (oi := o43_0) (v := ?v16) rfl (by kernel_rfl) (by kernel_rfl) (by kernel_rfl) (fun _ _ _ h => h) (Or.inl ⟨by rfl, ?h16⟩) hHeld ?r16
        case h16 => (intro w hSw; (try dsimp only at hSw); go_simp; try with_reducible rfl)
        try simp only [Act.put, List.setIfInBounds_toArray, List.set_cons_zero, List.set_cons_succ]
        refine wpAnyH_take (i := 1) (oi := o43_1) (v := ?v17) rfl (by kernel_rfl) (by kernel_rfl) (by kernel_rfl) (fun _ _ _ h => h) (Or.inl ⟨by rfl, ?h17⟩) hHeld ?r17
        case h17 => (intro w hSw; (try dsimp only at hSw); go_simp; try with_reducible rfl)
        try simp only [Act.put, List.setIfInBounds_toArray, List.set_cons_zero, List.set_cons_succ]
        refine wpAnyH_take (i := 2) (oi := o43_2) (v := ?v18) rfl (by kernel_rfl) (by kernel_rfl) (by kernel_rfl) (fun _ _ _ h => h) (Or.inl ⟨by rfl, ?h18⟩) hHeld ?r18
        case h18 => (intro w hSw; (try dsimp only at hSw); go_simp; try with_reducible rfl)
        try simp only [Act.put, List.setIfInBounds_toArray, List.set_cons_zero, List.set_cons_succ]
        refine wpAnyH_take (i := 3) (oi := o43_3) (v := ?v19) rfl (by kernel_rfl) (by kernel_rfl) (by kernel_rfl) (fun _ _ _ h => h) (Or.inl ⟨by rfl, ?h19⟩) hHeld ?r19
        case h19 => (intro w hSw; (try dsimp only at hSw); go_simp; try with_reducible rfl)
        try simp only [Act.put, List.setIfInBounds_toArray, List.set_cons_zero, List.set_cons_succ]
        refine wpAnyH_take (i := 4) (oi := o43_4) (v := ?v20) rfl (by kernel_rfl) (by kernel_rfl) (by kernel_rfl) (fun _ _ _ h => h) (Or.inl ⟨by rfl, ?h20⟩) hHeld ?r20
        case h20 => (intro w hSw; (try dsimp only at hSw); go_simp; try with_reducible rfl)
        try simp only [Act.put, List.setIfInBounds_toArray, List.set_cons_zero, List.set_cons_succ]
        refine wpAnyH_ready (rs := [5]) (by kernel_rfl) (by simp) ?_
        refine AllReadyH.cons (o := o43_5) rfl (fun K hK => ?_) AllReadyH.nil
        go_simp
        refine Calls.mono HC.out ?_
        rintro e w3 ⟨rfl, hb3⟩
        dsimp only
        obtain ⟨hS1, ⟨Y0, Y1, Y2⟩, ⟨F0, F1, F2⟩, hS2, ⟨E0, E1, E2⟩, hbf⟩ := HSK.out w3 hb3
        have HBF := (show Hid _ from hbf)
        clear hbf hb3
        clear hHeld
        refine hK.out _ _ hS1 (fun hHeld => ?_)
        clear hK K
        try simp only [Act.put, List.setIfInBounds_toArray, List.set_cons_zero, List.set_cons_succ]
        refine wpAnyH_take (i := 6) (oi := o43_6) (v := ?v21) rfl (by kernel_rfl) (by kernel_rfl) (by kernel_rfl) (fun _ _ _ h => h) (Or.inl ⟨by rfl, ?h21⟩) hHeld ?r21
        case h21 => (intro w hSw; (try dsimp only at hSw); go_simp; try with_reducible rfl)
        try simp only [Act.put, List.setIfInBounds_toArray, List.set_cons_zero, List.set_cons_succ]
        refine wpAnyH_take (i := 7) (oi := o43_7) (v := ?v22) rfl (by kernel_rfl) (by kernel_rfl) (by kernel_rfl) (fun _ _ _ h => h) (Or.inl ⟨by rfl, ?h22⟩) hHeld ?r22
        case h22 => (intro w hSw; (try dsimp only at hSw); go_simp; try with_reducible rfl)
        try simp only [Act.put, List.setIfInBounds_toArray, List.set_cons_zero, List.set_cons_succ]
        refine wpAnyH_take (i := 8) (oi := o43_8) (v := ?v23) rfl (by kernel_rfl) (by kernel_rfl) (by kernel_rfl) (fun _ _ _ h => h) (Or.inl ⟨by rfl, ?h23⟩) hHeld ?r23
        case h23 => (intro w hSw; (try dsimp only at hSw); go_simp; try with_reducible rfl)
        try simp only [Act.put, List.setIfInBounds_toArray, List.set_cons_zero, List.set_cons_succ]
        refine wpAnyH_take (i := 9) (oi := o43_9) (v := ?v24) rfl (by kernel_rfl) (by kernel_rfl) (by kernel_rfl) (fun _ _ _ h => h) (Or.inl ⟨by rfl, ?h24⟩) hHeld ?r24
        case h24 => (intro w hSw; (try dsimp only at hSw); go_simp; try with_reducible rfl)
        try simp only [Act.put, List.setIfInBounds_toArray, List.set_cons_zero, List.set_cons_succ]
        refine wpAnyH_take (i := 10) (oi := o43_10) (v := ?v25) rfl (by kernel_rfl) (by kernel_rfl) (by kernel_rfl) (fun _ _ _ h => h) (Or.inl ⟨by rfl, ?h25⟩) hHeld ?r25
        case h25 => (intro w hSw; (try dsimp only at hSw); go_simp; try with_reducible rfl)
        try simp only [Act.put, List.setIfInBounds_toArray, List.set_cons_zero, List.set_cons_succ]
        refine wpAnyH_take (i := 11) (oi := o43_11) (v := ?v26) rfl (by kernel_rfl) (by kernel_rfl) (by kernel_rfl) (fun _ _ _ h => h) (Or.inl ⟨by rfl, ?h26⟩) hHeld ?r26
        case h26 => (intro w hSw; (try dsimp only at hSw); go_simp; try with_reducible rfl)
        try simp only [Act.put, List.setIfInBounds_toArray, List.set_cons_zero, List.set_cons_succ]
        refine wpAnyH_take (i := 12) (oi := o43_12) (v := ?v27) rfl (by kernel_rfl) (by kernel_rfl) (by kernel_rfl) (fun _ _ _ h => h) (Or.inl ⟨by rfl, ?h27⟩) hHeld ?r27
        case h27 => (intro w hSw; (try dsimp only at hSw); go_simp; try with_reducible rfl)
        try simp only [Act.put, List.setIfInBounds_toArray, List.set_cons_zero, List.set_cons_succ]
        refine wpAnyH_ready (rs := [13]) (by kernel_rfl) (by simp) ?_
        refine AllReadyH.cons (o := o43_13) rfl (fun K hK => ?_) AllReadyH.nil
        go_simp
        clear hHeld
        refine hK.out _ _ hS2 (fun hHeld => ?_)
        clear hK K
        try simp only [Act.put, List.setIfInBounds_toArray, List.set_cons_zero, List.set_cons_succ]
        refine wpAnyH_ready (rs := [14]) (by kernel_rfl) (by simp) ?_
        refine AllReadyH.cons (o := o43_14) rfl (fun K hK => ?_) AllReadyH.nil
        go_simp
        clear hHeld
        refine hK.out _ _ hS2 (fun hHeld => ?_)
        clear hK K
        try simp only [Act.put, List.setIfInBounds_toArray, List.set_cons_zero, List.set_cons_succ]
        refine wpAnyH_done (by kernel_rfl) ?_ _
        (try refine NoPanic.normal ?_)
        clear hHeld hS0
        go_wp2_with fail
        refine bodyPost_ret (v := .tuple #[.agg #[.pointer (some ⟨q, 0, none⟩), .slice va vl vc, .slice ha hl hc], .bool true]) (by simp [results, Try.results43, go_sem, E0, E1, E2]) rfl ?_
        exact ⟨_, va, ha, vl, vc, hl, hc, true, rfl, HBF.out, HV2.out.symm⟩
      case neg =>
        have hq1 : ((hl : Int) == (0 : Int)) = false := by simp; omega
        have HV2 := (show Hid (VB = false) from (by rw [HV.out, decide_eq_false hhl]; rfl))
        clear HV
        clear hhl
        go_wp2_with fail
        refine wp_region_held_drew (S := (fun wq => wq.cell? ⟨w1.heap.size, 0, none⟩ = some (.pointer (some ⟨q, 0, none⟩)) ∧ wq.cell? ⟨w1.heap.size, 1, none⟩ = some (.slice va vl vc) ∧ wq.cell? ⟨w1.heap.size, 2, none⟩ = some (.slice ha hl hc))) (by kernel_rfl) hS0 (fun hHeld => ?_)
        refine wpAnyH_take (i := 0) (oi := o43_0) (v := ?v28) rfl (by kernel_rfl) (by kernel_rfl) (by kernel_rfl) (fun _ _ _ h => h) (Or.inl ⟨by rfl, ?h28⟩) hHeld ?r28
        case h28 => (intro w hSw; (try dsimp only at hSw); go_simp; try with_reducible rfl)
        try simp only [Act.put, List.setIfInBounds_toArray, List.set_cons_zero, List.set_cons_succ]
        refine wpAnyH_take (i := 1) (oi := o43_1) (v := ?v29) rfl (by kernel_rfl) (by kernel_rfl) (by kernel_rfl) (fun _ _ _ h => h) (Or.inl ⟨by rfl, ?h29⟩) hHeld ?r29
        case h29 => (intro w hSw; (try dsimp only at hSw); go_simp; try with_reducible rfl)
        try simp only [Act.put, List.setIfInBounds_toArray, List.set_cons_zero, List.set_cons_succ]
        refine wpAnyH_take (i := 2) (oi := o43_2) (v := ?v30) rfl (by kernel_rfl) (by kernel_rfl) (by kernel_rfl) (fun _ _ _ h => h) (Or.inl ⟨by rfl, ?h30⟩) hHeld ?r30
        case h30 => (intro w hSw; (try dsimp only at hSw); go_simp; try with_reducible rfl)
        try simp only [Act.put, List.setIfInBounds_toArray, List.set_cons_zero, List.set_cons_succ]
        refine wpAnyH_take (i := 3) (oi := o43_3) (v := ?v31) rfl (by kernel_rfl) (by kernel_rfl) (by kernel_rfl) (fun _ _ _ h => h) (Or.inl ⟨by rfl, ?h31⟩) hHeld ?r31
        case h31 => (intro w hSw; (try dsimp only at hSw); go_simp; try with_reducible rfl)
        try simp only [Act.put, List.setIfInBounds_toArray, List.set_cons_zero, List.set_cons_succ]
        refine wpAnyH_take (i := 4) (oi := o43_4) (v := ?v32) rfl (by kernel_rfl) (by kernel_rfl) (by kernel_rfl) (fun _ _ _ h => h) (Or.inl ⟨by rfl, ?h32⟩) hHeld ?r32
        case h32 => (intro w hSw; (try dsimp only at hSw); go_simp; try with_reducible rfl)
        try simp only [Act.put, List.setIfInBounds_toArray, List.set_cons_zero, List.set_cons_succ]
        refine wpAnyH_ready (rs := [5]) (by kernel_rfl) (by simp) ?_
        refine AllReadyH.cons (o := o43_5) rfl (fun K hK => ?_) AllReadyH.nil
        go_simp
        refine Calls.mono HC.out ?_
        rintro e w3 ⟨rfl, hb3⟩
        dsimp only
        obtain ⟨hS1, ⟨Y0, Y1, Y2⟩, ⟨F0, F1, F2⟩, hS2, ⟨E0, E1, E2⟩, hbf⟩ := HSK.out w3 hb3
        have HBF := (show Hid _ from hbf)
        clear hbf hb3
        clear hHeld
        refine hK.out _ _ hS1 (fun hHeld => ?_)
        clear hK K
        try simp only [Act.put, List.setIfInBounds_toArray, List.set_cons_zero, List.set_cons_succ]
        refine wpAnyH_take (i := 6) (oi := o43_6) (v := ?v33) rfl (by kernel_rfl) (by kernel_rfl) (by kernel_rfl) (fun _ _ _ h => h) (Or.inl ⟨by rfl, ?h33⟩) hHeld ?r33
        case h33 => (intro w hSw; (try dsimp only at hSw); go_simp; try with_reducible rfl)
        try simp only [Act.put, List.setIfInBounds_toArray, List.set_cons_zero, List.set_cons_succ]
        refine wpAnyH_take (i := 7) (oi := o43_7) (v := ?v34) rfl (by kernel_rfl) (by kernel_rfl) (by kernel_rfl) (fun _ _ _ h => h) (Or.inl ⟨by rfl, ?h34⟩) hHeld ?r34
        case h34 => (intro w hSw; (try dsimp only at hSw); go_simp; try with_reducible rfl)
        try simp only [Act.put, List.setIfInBounds_toArray, List.set_cons_zero, List.set_cons_succ]
        refine wpAnyH_take (i := 8) (oi := o43_8) (v := ?v35) rfl (by kernel_rfl) (by kernel_rfl) (by kernel_rfl) (fun _ _ _ h => h) (Or.inl ⟨by rfl, ?h35⟩) hHeld ?r35
        case h35 => (intro w hSw; (try dsimp only at hSw); go_simp; try with_reducible rfl)
        try simp only [Act.put, List.setIfInBounds_toArray, List.set_cons_zero, List.set_cons_succ]
        refine wpAnyH_take (i := 9) (oi := o43_9) (v := ?v36) rfl (by kernel_rfl) (by kernel_rfl) (by kernel_rfl) (fun _ _ _ h => h) (Or.inl ⟨by rfl, ?h36⟩) hHeld ?r36
        case h36 => (intro w hSw; (try dsimp only at hSw); go_simp; try with_reducible rfl)
        try simp only [Act.put, List.setIfInBounds_toArray, List.set_cons_zero, List.set_cons_succ]
        refine wpAnyH_take (i := 10) (oi := o43_10) (v := ?v37) rfl (by kernel_rfl) (by kernel_rfl) (by kernel_rfl) (fun _ _ _ h => h) (Or.inl ⟨by rfl, ?h37⟩) hHeld ?r37
        case h37 => (intro w hSw; (try dsimp only at hSw); go_simp; try with_reducible rfl)
        try simp only [Act.put, List.setIfInBounds_toArray, List.set_cons_zero, List.set_cons_succ]
        refine wpAnyH_take (i := 11) (oi := o43_11) (v := ?v38) rfl (by kernel_rfl) (by kernel_rfl) (by kernel_rfl) (fun _ _ _ h => h) (Or.inl ⟨by rfl, ?h38⟩) hHeld ?r38
        case h38 => (intro w hSw; (try dsimp only at hSw); go_simp; try with_reducible rfl)
        try simp only [Act.put, List.setIfInBounds_toArray, List.set_cons_zero, List.set_cons_succ]
        refine wpAnyH_take (i := 12) (oi := o43_12) (v := ?v39) rfl (by kernel_rfl) (by kernel_rfl) (by kernel_rfl) (fun _ _ _ h => h) (Or.inl ⟨by rfl, ?h39⟩) hHeld ?r39
        case h39 => (intro w hSw; (try dsimp only at hSw); go_simp; try with_reducible rfl)
        try simp only [Act.put, List.setIfInBounds_toArray, List.set_cons_zero, List.set_cons_succ]
        refine wpAnyH_ready (rs := [13]) (by kernel_rfl) (by simp) ?_
        refine AllReadyH.cons (o := o43_13) rfl (fun K hK => ?_) AllReadyH.nil
        go_simp
        clear hHeld
        refine hK.out _ _ hS2 (fun hHeld => ?_)
        clear hK K
        try simp only [Act.put, List.setIfInBounds_toArray, List.set_cons_zero, List.set_cons_succ]
        refine wpAnyH_ready (rs := [14]) (by kernel_rfl) (by simp) ?_
        refine AllReadyH.cons (o := o43_14) rfl (fun K hK => ?_) AllReadyH.nil
        go_simp
        clear hHeld
        refine hK.out _ _ hS2 (fun hHeld => ?_)
        clear hK K
        try simp only [Act.put, List.setIfInBounds_toArray, List.set_cons_zero, List.set_cons_succ]
        refine wpAnyH_done (by kernel_rfl) ?_ _
        (try refine NoPanic.normal ?_)
        clear hHeld hS0
        go_wp2_with fail
        refine bodyPost_ret (v := .tuple #[.agg #[.pointer (some ⟨q, 0, none⟩), .slice va vl vc, .slice ha hl hc], .bool false]) (by simp [results, Try.results43, go_sem, E0, E1, E2]) rfl ?_
        exact ⟨_, va, ha, vl, vc, hl, hc, false, rfl, HBF.out, HV2.out.symm⟩
abbrev o45_0 : Oper := { dst := some 11, op := Go.Op.load 87 (Go.Operand.tmp 4), type := 87, pos := "l16_meanings.go:410", after := #[], guard := none }
abbrev o45_1 : Oper := { dst := some 12, op := Go.Op.build 100 #[(0, Go.Operand.tmp 11)], type := 100, pos := "l16_meanings.go:410", after := #[{ on := 0, ground := Go.Ground.data }], guard := none }
abbrev o45_2 : Oper := { dst := some 13, op := Go.Op.move (Go.Operand.tmp 5), type := 4, pos := "l16_meanings.go:410", after := #[], guard := none }
abbrev o45_3 : Oper := { dst := some 14, op := Go.Op.move (Go.Operand.tmp 13), type := 4, pos := "l16_meanings.go:410", after := #[{ on := 2, ground := Go.Ground.data }], guard := none }
abbrev o45_4 : Oper := { dst := some 15, op := Go.Op.load 87 (Go.Operand.tmp 4), type := 87, pos := "l16_meanings.go:410", after := #[{ on := 3, ground := Go.Ground.guard }], guard := some (3, true) }
abbrev o45_5 : Oper := { dst := some 16, op := Go.Op.call { callee := Go.Callee.value (Go.Operand.func 57), args := #[Go.Operand.tmp 15], argTypes := #[87] }, type := 4, pos := "l16_meanings.go:410", after := #[{ on := 4, ground := Go.Ground.data }, { on := 3, ground := Go.Ground.chain }, { on := 3, ground := Go.Ground.guard }], guard := some (3, true) }
abbrev o45_6 : Oper := { dst := some 17, op := Go.Op.pick (Go.Operand.tmp 14) (Go.Operand.tmp 16) (Go.Operand.const (Go.Value.bool false)), type := 4, pos := "l16_meanings.go:410", after := #[{ on := 3, ground := Go.Ground.data }, { on := 5, ground := Go.Ground.data }], guard := none }
abbrev o45_7 : Oper := { dst := some 18, op := Go.Op.move (Go.Operand.tmp 17), type := 4, pos := "l16_meanings.go:410", after := #[{ on := 6, ground := Go.Ground.data }, { on := 5, ground := Go.Ground.chain }], guard := none }
abbrev o45_8 : Oper := { dst := some 19, op := Go.Op.fieldAddr 87 (Go.Operand.tmp 4) 2, type := 0, pos := "l16_meanings.go:410", after := #[{ on := 7, ground := Go.Ground.guard }], guard := some (7, true) }
abbrev o45_9 : Oper := { dst := some 20, op := Go.Op.load 85 (Go.Operand.tmp 19), type := 85, pos := "l16_meanings.go:410", after := #[{ on := 8, ground := Go.Ground.data }, { on := 7, ground := Go.Ground.guard }], guard := some (7, true) }
abbrev o45_10 : Oper := { dst := some 21, op := Go.Op.call { callee := Go.Callee.builtin Go.Builtin.len, args := #[Go.Operand.tmp 20], argTypes := #[85] }, type := 3, pos := "l16_meanings.go:410", after := #[{ on := 9, ground := Go.Ground.data }, { on := 7, ground := Go.Ground.guard }], guard := some (7, true) }
abbrev o45_11 : Oper := { dst := some 22, op := Go.Op.binOp Go.BinOp.eql 3 (Go.Operand.tmp 21) (Go.Operand.const (Go.Value.int Go.IntKind.i64 1)) 3, type := 4, pos := "l16_meanings.go:410", after := #[{ on := 10, ground := Go.Ground.data }, { on := 7, ground := Go.Ground.guard }, { on := 13, ground := Go.Ground.gcOnly Go.Departure.lateStores }], guard := some (7, true) }
abbrev o45_12 : Oper := { dst := some 23, op := Go.Op.pick (Go.Operand.tmp 18) (Go.Operand.tmp 22) (Go.Operand.const (Go.Value.bool false)), type := 4, pos := "l16_meanings.go:410", after := #[{ on := 7, ground := Go.Ground.data }, { on := 11, ground := Go.Ground.data }, { on := 13, ground := Go.Ground.gcOnly Go.Departure.lateStores }], guard := none }
abbrev o45_13 : Oper := { dst := none, op := Go.Op.store 100 (Go.Operand.tmp 2) (Go.Operand.tmp 12), type := 0, pos := "l16_meanings.go:410", after := #[{ on := 1, ground := Go.Ground.data }, { on := 7, ground := Go.Ground.chain }, { on := 0, ground := Go.Ground.phase }, { on := 1, ground := Go.Ground.phase }, { on := 2, ground := Go.Ground.textOnly Go.Departure.lateStores }, { on := 3, ground := Go.Ground.textOnly Go.Departure.lateStores }, { on := 4, ground := Go.Ground.textOnly Go.Departure.lateStores }, { on := 5, ground := Go.Ground.textOnly Go.Departure.lateStoresUnsure }, { on := 6, ground := Go.Ground.textOnly Go.Departure.lateStores }, { on := 7, ground := Go.Ground.textOnly Go.Departure.lateStores }, { on := 8, ground := Go.Ground.textOnly Go.Departure.lateStores }, { on := 9, ground := Go.Ground.textOnly Go.Departure.lateStores }, { on := 10, ground := Go.Ground.textOnly Go.Departure.lateStoresUnsure }, { on := 11, ground := Go.Ground.textOnly Go.Departure.lateStores }, { on := 12, ground := Go.Ground.textOnly Go.Departure.lateStores }], guard := none }
abbrev o45_14 : Oper := { dst := some 3, op := Go.Op.assign (Go.Operand.tmp 23), type := 4, pos := "l16_meanings.go:410", after := #[{ on := 12, ground := Go.Ground.data }, { on := 13, ground := Go.Ground.chain }, { on := 0, ground := Go.Ground.phase }, { on := 1, ground := Go.Ground.phase }, { on := 2, ground := Go.Ground.phase }, { on := 3, ground := Go.Ground.phase }, { on := 4, ground := Go.Ground.phase }, { on := 5, ground := Go.Ground.phase }, { on := 6, ground := Go.Ground.phase }, { on := 7, ground := Go.Ground.phase }, { on := 8, ground := Go.Ground.phase }, { on := 9, ground := Go.Ground.phase }, { on := 10, ground := Go.Ground.phase }, { on := 11, ground := Go.Ground.phase }, { on := 12, ground := Go.Ground.phase }, { on := 13, ground := Go.Ground.phase }], guard := none }
set_option maxHeartbeats 3200000 in
theorem rctx45 {S : Nat → Prop} (t : Tr) (v : Value) (w : World) (hl : Lies w S t v) :
    Calls Try.prog 45 #[t.val v] w (VlA (cxB t) w) := by
  obtain ⟨a1, l1, p1, rfl⟩ := hl.form
  have hz0 : ((w.alloc (.cells #[.string t.name, .string t.text, .bool t.leaf, .slice a1 l1 p1] 42)).alloc (.cells #[.pointer none, .slice none 0 0, .slice none 0 0] 100)).heap.size = w.heap.size + 2 := by simp
  have bW : Below w.heap.size w ((w.alloc (.cells #[.string t.name, .string t.text, .bool t.leaf, .slice a1 l1 p1] 42)).alloc (.cells #[.pointer none, .slice none 0 0, .slice none 0 0] 100)) := (bel_alloc _ _).alloc (by simp) _
  have HCP := (show Hid _ from rpat58 t (.slice a1 l1 p1) ((w.alloc (.cells #[.string t.name, .string t.text, .bool t.leaf, .slice a1 l1 p1] 42)).alloc (.cells #[.pointer none, .slice none 0 0, .slice none 0 0] 100)) (hl.still bW))
  have bz0 : Box ((w.alloc (.cells #[.string t.name, .string t.text, .bool t.leaf, .slice a1 l1 p1] 42)).alloc (.cells #[.pointer none, .slice none 0 0, .slice none 0 0] 100)) (w.heap.size + 1) 100 [.pointer none, .slice none 0 0, .slice none 0 0] := by
    have h := Box.new (w.alloc (.cells #[.string t.name, .string t.text, .bool t.leaf, .slice a1 l1 p1] 42)) 100 [.pointer none, .slice none 0 0, .slice none 0 0]
    simpa using h
  have HZ := (show Hid (∀ w1 : World, Below ((w.alloc (.cells #[.string t.name, .string t.text, .bool t.leaf, .slice a1 l1 p1] 42)).alloc (.cells #[.pointer none, .slice none 0 0, .slice none 0 0] 100)).heap.size ((w.alloc (.cells #[.string t.name, .string t.text, .bool t.leaf, .slice a1 l1 p1] 42)).alloc (.cells #[.pointer none, .slice none 0 0, .slice none 0 0] 100)) w1 → Below w.heap.size w w1 ∧ Box w1 (w.heap.size + 1) 100 [.pointer none, .slice none 0 0, .slice none 0 0]) from fun w1 hb => ⟨bW.trans (hb.mono (by omega)), bz0.still hb⟩)
  have HNO := (show Hid (t.ok = false ∨ pf t = true → cxB t = false) from fun h => by
    by_cases h1 : t.ok = true
    · rcases h with h | h
      · rw [h1] at h; cases h
      · rw [← cx_prog t h1, h]; rfl
    · have h1' : t.ok = false := by simpa using h1
      unfold cxB p6B
      rw [h1']
      rfl)
  have HYES := (show Hid (t.ok = true → pf t = false → cxB t = (plB t.name t.leaf && decide (ph t = 1))) from fun h1 h2 => by
    show cxB t = _
    rw [← cx_prog t h1, h2]
    rfl)
  have HKD := (show Hid ((kd t.name t.leaf == 0) = plB t.name t.leaf) from kd_pl _ _)
  unfold RpA at HCP
  generalize hkd : kd t.name t.leaf = KD at *
  generalize hpl : plB t.name t.leaf = PL at *
  clear hl bz0 hkd hpl
  simp only [Tr.val] at HCP ⊢
  generalize cxB t = VB at *
  generalize t.ok = OKT at *
  generalize pf t = PFT at *
  generalize ph t = PHT at *
  generalize t.name = n0 at *
  generalize t.text = x0 at *
  generalize t.leaf = lf0 at *
  go_enter Try.func45, Try.ntmps45
  go_wp2_with fail
  refine Calls.mono HCP.out ?_
  rintro e w1 ⟨pa, va, ha, vl, vc, hl, hc, R, rfl, hb1, hR1, hR0⟩
  obtain ⟨hbw, hz1⟩ := HZ.out w1 hb1
  have hs1 : w.heap.size + 1 < w1.heap.size := hz1.lt
  have bA := bel_alloc w1 (.cells #[.pointer pa, .slice va vl vc, .slice ha hl hc] 87)
  have gB := Box.new w1 87 [.pointer pa, .slice va vl vc, .slice ha hl hc]
  have hS0 : (w1.alloc (.cells #[.pointer pa, .slice va vl vc, .slice ha hl hc] 87)).drew.cell? ⟨w1.heap.size, 0, none⟩ = some (.pointer pa) ∧ (w1.alloc (.cells #[.pointer pa, .slice va vl vc, .slice ha hl hc] 87)).drew.cell? ⟨w1.heap.size, 1, none⟩ = some (.slice va vl vc) ∧ (w1.alloc (.cells #[.pointer pa, .slice va vl vc, .slice ha hl hc] 87)).drew.cell? ⟨w1.heap.size, 2, none⟩ = some (.slice ha hl hc) := ⟨gB.drw.cell 0 (by simp), gB.drw.cell 1 (by simp), gB.drw.cell 2 (by simp)⟩
  have HSK := (show Hid (∀ w3 : World, Below (w1.alloc (.cells #[.pointer pa, .slice va vl vc, .slice ha hl hc] 87)).drew.heap.size (w1.alloc (.cells #[.pointer pa, .slice va vl vc, .slice ha hl hc] 87)).drew w3 → (w3.cell? ⟨w1.heap.size, 0, none⟩ = some (.pointer pa) ∧ w3.cell? ⟨w1.heap.size, 1, none⟩ = some (.slice va vl vc) ∧ w3.cell? ⟨w1.heap.size, 2, none⟩ = some (.slice ha hl hc)) ∧ (w3.cell? ⟨w.heap.size + 1, 0, none⟩ = some (.pointer none) ∧ w3.cell? ⟨w.heap.size + 1, 1, none⟩ = some (.slice none 0 0) ∧ w3.cell? ⟨w.heap.size + 1, 2, none⟩ = some (.slice none 0 0)) ∧ (w3.frozen? ⟨w.heap.size + 1, 0, none⟩ = false ∧ w3.frozen? ⟨w.heap.size + 1, 1, none⟩ = false ∧ w3.frozen? ⟨w.heap.size + 1, 2, none⟩ = false) ∧ ((((w3.setCell ⟨w.heap.size + 1, 0, none⟩ (.pointer pa)).setCell ⟨w.heap.size + 1, 1, none⟩ (.slice va vl vc)).setCell ⟨w.heap.size + 1, 2, none⟩ (.slice ha hl hc)).cell? ⟨w1.heap.size, 0, none⟩ = some (.pointer pa) ∧ (((w3.setCell ⟨w.heap.size + 1, 0, none⟩ (.pointer pa)).setCell ⟨w.heap.size + 1, 1, none⟩ (.slice va vl vc)).setCell ⟨w.heap.size + 1, 2, none⟩ (.slice ha hl hc)).cell? ⟨w1.heap.size, 1, none⟩ = some (.slice va vl vc) ∧ (((w3.setCell ⟨w.heap.size + 1, 0, none⟩ (.pointer pa)).setCell ⟨w.heap.size + 1, 1, none⟩ (.slice va vl vc)).setCell ⟨w.heap.size + 1, 2, none⟩ (.slice ha hl hc)).cell? ⟨w1.heap.size, 2, none⟩ = some (.slice ha hl hc)) ∧ ((((w3.setCell ⟨w.heap.size + 1, 0, none⟩ (.pointer pa)).setCell ⟨w.heap.size + 1, 1, none⟩ (.slice va vl vc)).setCell ⟨w.heap.size + 1, 2, none⟩ (.slice ha hl hc)).cell? ⟨w.heap.size + 1, 0, none⟩ = some (.pointer pa) ∧ (((w3.setCell ⟨w.heap.size + 1, 0, none⟩ (.pointer pa)).setCell ⟨w.heap.size + 1, 1, none⟩ (.slice va vl vc)).setCell ⟨w.heap.size + 1, 2, none⟩ (.slice ha hl hc)).cell? ⟨w.heap.size + 1, 1, none⟩ = some (.slice va vl vc) ∧ (((w3.setCell ⟨w.heap.size + 1, 0, none⟩ (.pointer pa)).setCell ⟨w.heap.size + 1, 1, none⟩ (.slice va vl vc)).setCell ⟨w.heap.size + 1, 2, none⟩ (.slice ha hl hc)).cell? ⟨w.heap.size + 1, 2, none⟩ = some (.slice ha hl hc)) ∧ Below w.heap.size w (((w3.setCell ⟨w.heap.size + 1, 0, none⟩ (.pointer pa)).setCell ⟨w.heap.size + 1, 1, none⟩ (.slice va vl vc)).setCell ⟨w.heap.size + 1, 2, none⟩ (.slice ha hl hc))) from fun w3 hb3 => by
    have g3 := gB.drw.still hb3
    have z3 := (hz1.still bA).drw.still hb3
    have zz := ((z3.set 0 (.pointer pa)).set 1 (.slice va vl vc)).set 2 (.slice ha hl hc)
    have gg := ((g3.past (q := w.heap.size + 1) (o := 0) (u := .pointer pa) (by omega)).past (q := w.heap.size + 1) (o := 1) (u := .slice va vl vc) (by omega)).past (q := w.heap.size + 1) (o := 2) (u := .slice ha hl hc) (by omega)
    have bb : Below w.heap.size w w3 := (bel_trans hbw bA).drew.trans (hb3.mono (by simp; omega))
    refine ⟨⟨g3.cell 0 (by simp), g3.cell 1 (by simp), g3.cell 2 (by simp)⟩, ⟨z3.cell 0 (by simp), z3.cell 1 (by simp), z3.cell 2 (by simp)⟩, ⟨z3.frozen 0, z3.frozen 1, z3.frozen 2⟩, ⟨gg.cell 0 (by simp), gg.cell 1 (by simp), gg.cell 2 (by simp)⟩, ⟨zz.cell 0 (by simp), zz.cell 1 (by simp), zz.cell 2 (by simp)⟩, ?_⟩
    exact ((bb.setCell (by show w.heap.size ≤ w.heap.size + 1; omega) _).setCell (by show w.heap.size ≤ w.heap.size + 1; omega) _).setCell (by show w.heap.size ≤ w.heap.size + 1; omega) _)
  have HPL := (show Hid (R = true → OKT = true ∧ PFT = false ∧ hl = PHT ∧ ∃ q, pa = some ⟨q, 0, none⟩ ∧ Calls Try.prog 57 #[.agg #[.pointer (some ⟨q, 0, none⟩), .slice va vl vc, .slice ha hl hc]] (w1.alloc (.cells #[.pointer pa, .slice va vl vc, .slice ha hl hc] 87)).drew fun e w' => e = .returned (.bool PL) ∧ Below (w1.alloc (.cells #[.pointer pa, .slice va vl vc, .slice ha hl hc] 87)).drew.heap.size (w1.alloc (.cells #[.pointer pa, .slice va vl vc, .slice ha hl hc] 87)).drew w') from fun hr => by
    obtain ⟨g1, g2, g3, q, s1, s2, l, num, kv, rfl, hbx⟩ := hR1 hr
    refine ⟨g1, g2, g3, q, rfl, ?_⟩
    rw [← HKD.out]
    exact plain57 q _ _ _ s1 s2 l KD num kv ((hbx.still (bel_alloc _ _)).drw) rfl rfl)
  have HR0 := (show Hid (R = false → OKT = false ∨ PFT = true) from hR0)
  clear hb1 hbw hz1 bA gB hR1 hR0 HZ HCP HKD
  cases R
  case false =>
    obtain ⟨hS1, ⟨Y0, Y1, Y2⟩, ⟨F0, F1, F2⟩, hS2, ⟨E0, E1, E2⟩, hbf⟩ := HSK.out (w1.alloc (.cells #[.pointer pa, .slice va vl vc, .slice ha hl hc] 87)).drew (Below.refl _ _)
    have HBF := (show Hid _ from hbf)
    have HV := (show Hid (VB = false) from HNO.out (HR0.out rfl))
    clear hbf HSK HPL HNO HYES HR0 hS1 hs1
    have Y0c : (w1.alloc (.cells #[.pointer pa, .slice va vl vc, .slice ha hl hc] 87)).cell? ⟨w.heap.size + 1, 0, none⟩ = some (.pointer none) := Y0
    have F0c : (w1.alloc (.cells #[.pointer pa, .slice va vl vc, .slice ha hl hc] 87)).frozen? ⟨w.heap.size + 1, 0, none⟩ = false := F0
    have Y1c : (w1.alloc (.cells #[.pointer pa, .slice va vl vc, .slice ha hl hc] 87)).cell? ⟨w.heap.size + 1, 1, none⟩ = some (.slice none 0 0) := Y1
    have F1c : (w1.alloc (.cells #[.pointer pa, .slice va vl vc, .slice ha hl hc] 87)).frozen? ⟨w.heap.size + 1, 1, none⟩ = false := F1
    have Y2c : (w1.alloc (.cells #[.pointer pa, .slice va vl vc, .slice ha hl hc] 87)).cell? ⟨w.heap.size + 1, 2, none⟩ = some (.slice none 0 0) := Y2
    have F2c : (w1.alloc (.cells #[.pointer pa, .slice va vl vc, .slice ha hl hc] 87)).frozen? ⟨w.heap.size + 1, 2, none⟩ = false := F2
    have hS2b : (((((w1.alloc (.cells #[.pointer pa, .slice va vl vc, .slice ha hl hc] 87)).setCell ⟨w.heap.size + 1, 0, none⟩ (.pointer pa)).setCell ⟨w.heap.size + 1, 1, none⟩ (.slice va vl vc)).setCell ⟨w.heap.size + 1, 2, none⟩ (.slice ha hl hc))).drew.cell? ⟨w1.heap.size, 0, none⟩ = some (.pointer pa) ∧ (((((w1.alloc (.cells #[.pointer pa, .slice va vl vc, .slice ha hl hc] 87)).setCell ⟨w.heap.size + 1, 0, none⟩ (.pointer pa)).setCell ⟨w.heap.size + 1, 1, none⟩ (.slice va vl vc)).setCell ⟨w.heap.size + 1, 2, none⟩ (.slice ha hl hc))).drew.cell? ⟨w1.heap.size, 1, none⟩ = some (.slice va vl vc) ∧ (((((w1.alloc (.cells #[.pointer pa, .slice va vl vc, .slice ha hl hc] 87)).setCell ⟨w.heap.size + 1, 0, none⟩ (.pointer pa)).setCell ⟨w.heap.size + 1, 1, none⟩ (.slice va vl vc)).setCell ⟨w.heap.size + 1, 2, none⟩ (.slice ha hl hc))).drew.cell? ⟨w1.heap.size, 2, none⟩ = some (.slice ha hl hc) := hS2
    have E0b : (((((w1.alloc (.cells #[.pointer pa, .slice va vl vc, .slice ha hl hc] 87)).setCell ⟨w.heap.size + 1, 0, none⟩ (.pointer pa)).setCell ⟨w.heap.size + 1, 1, none⟩ (.slice va vl vc)).setCell ⟨w.heap.size + 1, 2, none⟩ (.slice ha hl hc))).drew.cell? ⟨w.heap.size + 1, 0, none⟩ = some (.pointer pa) := E0
    have E1b : (((((w1.alloc (.cells #[.pointer pa, .slice va vl vc, .slice ha hl hc] 87)).setCell ⟨w.heap.size + 1, 0, none⟩ (.pointer pa)).setCell ⟨w.heap.size + 1, 1, none⟩ (.slice va vl vc)).setCell ⟨w.heap.size + 1, 2, none⟩ (.slice ha hl hc))).drew.cell? ⟨w.heap.size + 1, 1, none⟩ = some (.slice va vl vc) := E1
    have E2b : (((((w1.alloc (.cells #[.pointer pa, .slice va vl vc, .slice ha hl hc] 87)).setCell ⟨w.heap.size + 1, 0, none⟩ (.pointer pa)).setCell ⟨w.heap.size + 1, 1, none⟩ (.slice va vl vc)).setCell ⟨w.heap.size + 1, 2, none⟩ (.slice ha hl hc))).drew.cell? ⟨w.heap.size + 1, 2, none⟩ = some (.slice ha hl hc) := E2
    go_wp2_with fail
    refine wp_region_held_drew (S := (fun wq => wq.cell? ⟨w1.heap.size, 0, none⟩ = some (.pointer pa) ∧ wq.cell? ⟨w1.heap.size, 1, none⟩ = some (.slice va vl vc) ∧ wq.cell? ⟨w1.heap.size, 2, none⟩ = some (.slice ha hl hc))) (by kernel_rfl) hS0 (fun hHeld => ?_)
    refine wpAnyH_take (i := 0) (oi := o45_0) (v := ?v40) rfl (by kernel_rfl) (by kernel_rfl) (by kernel_rfl) (fun _ _ _ h => h) (Or.inl ⟨by rfl, ?h40⟩) hHeld ?r40
    case h40 => (intro w hSw; (try dsimp only at hSw); go_simp; try with_reducible rfl)
    try simp only [Act.put, List.setIfInBounds_toArray, List.set_cons_zero, List.set_cons_succ]
    refine wpAnyH_take (i := 1) (oi := o45_1) (v := ?v41) rfl (by kernel_rfl) (by kernel_rfl) (by kernel_rfl) (fun _ _ _ h => h) (Or.inl ⟨by rfl, ?h41⟩) hHeld ?r41
    case h41 => (intro w hSw; (try dsimp only at hSw); go_simp; try with_reducible rfl)
    try simp only [Act.put, List.setIfInBounds_toArray, List.set_cons_zero, List.set_cons_succ]
    refine wpAnyH_take (i := 2) (oi := o45_2) (v := ?v42) rfl (by kernel_rfl) (by kernel_rfl) (by kernel_rfl) (fun _ _ _ h => h) (Or.inl ⟨by rfl, ?h42⟩) hHeld ?r42
    case h42 => (intro w hSw; (try dsimp only at hSw); go_simp; try with_reducible rfl)
    try simp only [Act.put, List.setIfInBounds_toArray, List.set_cons_zero, List.set_cons_succ]
    refine wpAnyH_take (i := 3) (oi := o45_3) (v := ?v43) rfl (by kernel_rfl) (by kernel_rfl) (by kernel_rfl) (fun _ _ _ h => h) (Or.inl ⟨by rfl, ?h43⟩) hHeld ?r43
    case h43 => (intro w hSw; (try dsimp only at hSw); go_simp; try with_reducible rfl)
    try simp only [Act.put, List.setIfInBounds_toArray, List.set_cons_zero, List.set_cons_succ]
    refine wpAnyH_take (i := 4) (oi := o45_4) (v := undef) rfl (by kernel_rfl) (by kernel_rfl) (by kernel_rfl) (fun _ _ _ h => h) (Or.inr ⟨by rfl, rfl⟩) hHeld ?_
    try simp only [Act.put, List.setIfInBounds_toArray, List.set_cons_zero, List.set_cons_succ]
    refine wpAnyH_take (i := 5) (oi := o45_5) (v := undef) rfl (by kernel_rfl) (by kernel_rfl) (by kernel_rfl) (fun _ _ _ h => h) (Or.inr ⟨by rfl, rfl⟩) hHeld ?_
    try simp only [Act.put, List.setIfInBounds_toArray, List.set_cons_zero, List.set_cons_succ]
    refine wpAnyH_take (i := 6) (oi := o45_6) (v := ?v44) rfl (by kernel_rfl) (by kernel_rfl) (by kernel_rfl) (fun _ _ _ h => h) (Or.inl ⟨by rfl, ?h44⟩) hHeld ?r44
    case h44 => (intro w hSw; (try dsimp only at hSw); go_simp; try with_reducible rfl)
    try simp only [Act.put, List.setIfInBounds_toArray, List.set_cons_zero, List.set_cons_succ]
    refine wpAnyH_take (i := 7) (oi := o45_7) (v := ?v45) rfl (by kernel_rfl) (by kernel_rfl) (by kernel_rfl) (fun _ _ _ h => h) (Or.inl ⟨by rfl, ?h45⟩) hHeld ?r45
    case h45 => (intro w hSw; (try dsimp only at hSw); go_simp; try with_reducible rfl)
    try simp only [Act.put, List.setIfInBounds_toArray, List.set_cons_zero, List.set_cons_succ]
    refine wpAnyH_take (i := 8) (oi := o45_8) (v := undef) rfl (by kernel_rfl) (by kernel_rfl) (by kernel_rfl) (fun _ _ _ h => h) (Or.inr ⟨by rfl, rfl⟩) hHeld ?_
    try simp only [Act.put, List.setIfInBounds_toArray, List.set_cons_zero, List.set_cons_succ]
    refine wpAnyH_take (i := 9) (oi := o45_9) (v := undef) rfl (by kernel_rfl) (by kernel_rfl) (by kernel_rfl) (fun _ _ _ h => h) (Or.inr ⟨by rfl, rfl⟩) hHeld ?_
    try simp only [Act.put, List.setIfInBounds_toArray, List.set_cons_zero, List.set_cons_succ]
    refine wpAnyH_take (i := 10) (oi := o45_10) (v := undef) rfl (by kernel_rfl) (by kernel_rfl) (by kernel_rfl) (fun _ _ _ h => h) (Or.inr ⟨by rfl, rfl⟩) hHeld ?_
    try simp only [Act.put, List.setIfInBounds_toArray, List.set_cons_zero, List.set_cons_succ]
    refine wpAnyH_take (i := 11) (oi := o45_11) (v := undef) rfl (by kernel_rfl) (by kernel_rfl) (by kernel_rfl) (fun _ _ _ h => h) (Or.inr ⟨by rfl, rfl⟩) hHeld ?_
    try simp only [Act.put, List.setIfInBounds_toArray, List.set_cons_zero, List.set_cons_succ]
    refine wpAnyH_take (i := 12) (oi := o45_12) (v := ?v46) rfl (by kernel_rfl) (by kernel_rfl) (by kernel_rfl) (fun _ _ _ h => h) (Or.inl ⟨by rfl, ?h46⟩) hHeld ?r46
    case h46 => (intro w hSw; (try dsimp only at hSw); go_simp; try with_reducible rfl)
    try simp only [Act.put, List.setIfInBounds_toArray, List.set_cons_zero, List.set_cons_succ]
    refine wpAnyH_ready (rs := [13]) (by kernel_rfl) (by simp) ?_
    refine AllReadyH.cons (o := o45_13) rfl (fun K hK => ?_) AllReadyH.nil
    go_simp
    clear hHeld
    refine hK.out _ _ hS2b (fun hHeld => ?_)
    clear hK K
    try simp only [Act.put, List.setIfInBounds_toArray, List.set_cons_zero, List.set_cons_succ]
    refine wpAnyH_ready (rs := [14]) (by kernel_rfl) (by simp) ?_
    refine AllReadyH.cons (o := o45_14) rfl (fun K hK => ?_) AllReadyH.nil
    go_simp
    clear hHeld
    refine hK.out _ _ hS2b (fun hHeld => ?_)
    clear hK K
    try simp only [Act.put, List.setIfInBounds_toArray, List.set_cons_zero, List.set_cons_succ]
    refine wpAnyH_done (by kernel_rfl) ?_ _
    (try refine NoPanic.normal ?_)
    clear hHeld hS0
    go_wp2_with fail
    refine bodyPost_ret (v := .tuple #[.agg #[.pointer pa, .slice va vl vc, .slice ha hl hc], .bool false]) (by simp [results, Try.results45, go_sem, E0b, E1b, E2b]) rfl ?_
    exact ⟨pa, va, ha, vl, vc, hl, hc, false, rfl, HBF.out, HV.out.symm⟩
  case true =>
    obtain ⟨g1, g2, rfl, q, rfl, hcp⟩ := HPL.out rfl
    have HC := (show Hid _ from hcp)
    have HV := (show Hid (VB = (PL && decide (hl = 1))) from HYES.out g1 g2)
    clear hcp HPL HNO HYES HR0 g1 g2
    cases PL
    case false =>
      have HV2 := (show Hid (VB = false) from (by rw [HV.out]; rfl))
      clear HV
      go_wp2_with fail
      refine wp_region_held_drew (S := (fun wq => wq.cell? ⟨w1.heap.size, 0, none⟩ = some (.pointer (some ⟨q, 0, none⟩)) ∧ wq.cell? ⟨w1.heap.size, 1, none⟩ = some (.slice va vl vc) ∧ wq.cell? ⟨w1.heap.size, 2, none⟩ = some (.slice ha hl hc))) (by kernel_rfl) hS0 (fun hHeld => ?_)
      refine wpAnyH_take (i := 0) (oi := o45_0) (v := ?v47) rfl (by kernel_rfl) (by kernel_rfl) (by kernel_rfl) (fun _ _ _ h => h) (Or.inl ⟨by rfl, ?h47⟩) hHeld ?r47
      case h47 => (intro w hSw; (try dsimp only at hSw); go_simp; try with_reducible rfl)
      try simp only [Act.put, List.setIfInBounds_toArray, List.set_cons_zero, List.set_cons_succ]
      refine wpAnyH_take (i := 1) (oi := o45_1) (v := ?v48) rfl (by kernel_rfl) (by kernel_rfl) (by kernel_rfl) (fun _ _ _ h => h) (Or.inl ⟨by rfl, ?h48⟩) hHeld ?r48
      case h48 => (intro w hSw; (try dsimp only at hSw); go_simp; try with_reducible rfl)
      try simp only [Act.put, List.setIfInBounds_toArray, List.set_cons_zero, List.set_cons_succ]
      refine wpAnyH_take (i := 2) (oi := o45_2) (v := ?v49) rfl (by kernel_rfl) (by kernel_rfl) (by kernel_rfl) (fun _ _ _ h => h) (Or.inl ⟨by rfl, ?h49⟩) hHeld ?r49
      case h49 => (intro w hSw; (try dsimp only at hSw); go_simp; try with_reducible rfl)
      try simp only [Act.put, List.setIfInBounds_toArray, List.set_cons_zero, List.set_cons_succ]
      refine wpAnyH_take (i := 3) (oi := o45_3) (v := ?v50) rfl (by kernel_rfl) (by kernel_rfl) (by kernel_rfl) (fun _ _ _ h => h) (Or.inl ⟨by rfl, ?h50⟩) hHeld ?r50
      case h50 => (intro w hSw; (try dsimp only at hSw); go_simp; try with_reducible rfl)
      try simp only [Act.put, List.setIfInBounds_toArray, List.set_cons_zero, List.set_cons_succ]
      refine wpAnyH_take (i := 4) (oi := o45_4) (v := ?v51) rfl (by kernel_rfl) (by kernel_rfl) (by kernel_rfl) (fun _ _ _ h => h) (Or.inl ⟨by rfl, ?h51⟩) hHeld ?r51
      case h51 => (intro w hSw; (try dsimp only at hSw); go_simp; try with_reducible rfl)
      try simp only [Act.put, List.setIfInBounds_toArray, List.set_cons_zero, List.set_cons_succ]
      refine wpAnyH_ready (rs := [5]) (by kernel_rfl) (by simp) ?_
      refine AllReadyH.cons (o := o45_5) rfl (fun K hK => ?_) AllReadyH.nil
      go_simp
      refine Calls.mono HC.out ?_
      rintro e w3 ⟨rfl, hb3⟩
      dsimp only
      obtain ⟨hS1, ⟨Y0, Y1, Y2⟩, ⟨F0, F1, F2⟩, hS2, ⟨E0, E1, E2⟩, hbf⟩ := HSK.out w3 hb3
      have HBF := (show Hid _ from hbf)
      clear hbf hb3
      clear hHeld
      refine hK.out _ _ hS1 (fun hHeld => ?_)
      clear hK K
      try simp only [Act.put, List.setIfInBounds_toArray, List.set_cons_zero, List.set_cons_succ]
      refine wpAnyH_take (i := 6) (oi := o45_6) (v := ?v52) rfl (by kernel_rfl) (by kernel_rfl) (by kernel_rfl) (fun _ _ _ h => h) (Or.inl ⟨by rfl, ?h52⟩) hHeld ?r52
      case h52 => (intro w hSw; (try dsimp only at hSw); go_simp; try with_reducible rfl)
      try simp only [Act.put, List.setIfInBounds_toArray, List.set_cons_zero, List.set_cons_succ]
      refine wpAnyH_take (i := 7) (oi := o45_7) (v := ?v53) rfl (by kernel_rfl) (by kernel_rfl) (by kernel_rfl) (fun _ _ _ h => h) (Or.inl ⟨by rfl, ?h53⟩) hHeld ?r53
      case h53 => (intro w hSw; (try dsimp only at hSw); go_simp; try with_reducible rfl)
      try simp only [Act.put, List.setIfInBounds_toArray, List.set_cons_zero, List.set_cons_succ]
      refine wpAnyH_take (i := 8) (oi := o45_8) (v := undef) rfl (by kernel_rfl) (by kernel_rfl) (by kernel_rfl) (fun _ _ _ h => h) (Or.inr ⟨by rfl, rfl⟩) hHeld ?_
      try simp only [Act.put, List.setIfInBounds_toArray, List.set_cons_zero, List.set_cons_succ]
      refine wpAnyH_take (i := 9) (oi := o45_9) (v := undef) rfl (by kernel_rfl) (by kernel_rfl) (by kernel_rfl) (fun _ _ _ h => h) (Or.inr ⟨by rfl, rfl⟩) hHeld ?_
      try simp only [Act.put, List.setIfInBounds_toArray, List.set_cons_zero, List.set_cons_succ]
      refine wpAnyH_take (i := 10) (oi := o45_10) (v := undef) rfl (by kernel_rfl) (by kernel_rfl) (by kernel_rfl) (fun _ _ _ h => h) (Or.inr ⟨by rfl, rfl⟩) hHeld ?_
      try simp only [Act.put, List.setIfInBounds_toArray, List.set_cons_zero, List.set_cons_succ]
      refine wpAnyH_take (i := 11) (oi := o45_11) (v := undef) rfl (by kernel_rfl) (by kernel_rfl) (by kernel_rfl) (fun _ _ _ h => h) (Or.inr ⟨by rfl, rfl⟩) hHeld ?_
      try simp only [Act.put, List.setIfInBounds_toArray, List.set_cons_zero, List.set_cons_succ]
      refine wpAnyH_take (i := 12) (oi := o45_12) (v := ?v54) rfl (by kernel_rfl) (by kernel_rfl) (by kernel_rfl) (fun _ _ _ h => h) (Or.inl ⟨by rfl, ?h54⟩) hHeld ?r54
      case h54 => (intro w hSw; (try dsimp only at hSw); go_simp; try with_reducible rfl)
      try simp only [Act.put, List.setIfInBounds_toArray, List.set_cons_zero, List.set_cons_succ]
      refine wpAnyH_ready (rs := [13]) (by kernel_rfl) (by simp) ?_
      refine AllReadyH.cons (o := o45_13) rfl (fun K hK => ?_) AllReadyH.nil
      go_simp
      clear hHeld
      refine hK.out _ _ hS2 (fun hHeld => ?_)
      clear hK K
      try simp only [Act.put, List.setIfInBounds_toArray, List.set_cons_zero, List.set_cons_succ]
      refine wpAnyH_ready (rs := [14]) (by kernel_rfl) (by simp) ?_
      refine AllReadyH.cons (o := o45_14) rfl (fun K hK => ?_) AllReadyH.nil
      go_simp
      clear hHeld
      refine hK.out _ _ hS2 (fun hHeld => ?_)
      clear hK K
      try simp only [Act.put, List.setIfInBounds_toArray, List.set_cons_zero, List.set_cons_succ]
      refine wpAnyH_done (by kernel_rfl) ?_ _
      (try refine NoPanic.normal ?_)
      clear hHeld hS0
      go_wp2_with fail
      refine bodyPost_ret (v := .tuple #[.agg #[.pointer (some ⟨q, 0, none⟩), .slice va vl vc, .slice ha hl hc], .bool false]) (by simp [results, Try.results45, go_sem, E0, E1, E2]) rfl ?_
      exact ⟨_, va, ha, vl, vc, hl, hc, false, rfl, HBF.out, HV2.out.symm⟩
    case true =>
      by_cases hhl : hl = 1
      case pos =>
        have hq1 : ((hl : Int) == (1 : Int)) = true := by simp; omega
        have HV2 := (show Hid (VB = true) from (by rw [HV.out, decide_eq_true hhl]; rfl))
        clear HV
        clear hhl
        go_wp2_with fail
        refine wp_region_held_drew (S := (fun wq => wq.cell? ⟨w1.heap.size, 0, none⟩ = some (.pointer (some ⟨q, 0, none⟩)) ∧ wq.cell? ⟨w1.heap.size, 1, none⟩ = some (.slice va vl vc) ∧ wq.cell? ⟨w1.heap.size, 2, none⟩ = some (.slice ha hl hc))) (by kernel_rfl) hS0 (fun hHeld => ?_)
        refine wpAnyH_take (i := 0) (oi := o45_0) (v := ?v55) rfl (by kernel_rfl) (by kernel_rfl) (by kernel_rfl) (fun _ _ _ h => h) (Or.inl ⟨by rfl, ?h55⟩) hHeld ?r55
        case h55 => (intro w hSw; (try dsimp only at hSw); go_simp; try with_reducible rfl)
        try simp only [Act.put, List.setIfInBounds_toArray, List.set_cons_zero, List.set_cons_succ]
        refine wpAnyH_take (i := 1) (oi := o45_1) (v := ?v56) rfl (by kernel_rfl) (by kernel_rfl) (by kernel_rfl) (fun _ _ _ h => h) (Or.inl ⟨by rfl, ?h56⟩) hHeld ?r56
        case h56 => (intro w hSw; (try dsimp only at hSw); go_simp; try with_reducible rfl)
        try simp only [Act.put, List.setIfInBounds_toArray, List.set_cons_zero, List.set_cons_succ]
        refine wpAnyH_take (i := 2) (oi := o45_2) (v := ?v57) rfl (by kernel_rfl) (by kernel_rfl) (by kernel_rfl) (fun _ _ _ h => h) (Or.inl ⟨by rfl, ?h57⟩) hHeld ?r57
        case h57 => (intro w hSw; (try dsimp only at hSw); go_simp; try with_reducible rfl)
        try simp only [Act.put, List.setIfInBounds_toArray, List.set_cons_zero, List.set_cons_succ]
        refine wpAnyH_take (i := 3) (oi := o45_3) (v := ?v58) rfl (by kernel_rfl) (by kernel_rfl) (by kernel_rfl) (fun _ _ _ h => h) (Or.inl ⟨by rfl, ?h58⟩) hHeld ?r58
        case h58 => (intro w hSw; (try dsimp only at hSw); go_simp; try with_reducible rfl)
        try simp only [Act.put, List.setIfInBounds_toArray, List.set_cons_zero, List.set_cons_succ]
        refine wpAnyH_take (i := 4) (oi := o45_4) (v := ?v59) rfl (by kernel_rfl) (by kernel_rfl) (by kernel_rfl) (fun _ _ _ h => h) (Or.inl ⟨by rfl, ?h59⟩) hHeld ?r59
        case h59 => (intro w hSw; (try dsimp only at hSw); go_simp; try with_reducible rfl)
        try simp only [Act.put, List.setIfInBounds_toArray, List.set_cons_zero, List.set_cons_succ]
        refine wpAnyH_ready (rs := [5]) (by kernel_rfl) (by simp) ?_
        refine AllReadyH.cons (o := o45_5) rfl (fun K hK => ?_) AllReadyH.nil
        go_simp
        refine Calls.mono HC.out ?_
        rintro e w3 ⟨rfl, hb3⟩
        dsimp only
        obtain ⟨hS1, ⟨Y0, Y1, Y2⟩, ⟨F0, F1, F2⟩, hS2, ⟨E0, E1, E2⟩, hbf⟩ := HSK.out w3 hb3
        have HBF := (show Hid _ from hbf)
        clear hbf hb3
        clear hHeld
        refine hK.out _ _ hS1 (fun hHeld => ?_)
        clear hK K
        try simp only [Act.put, List.setIfInBounds_toArray, List.set_cons_zero, List.set_cons_succ]
        refine wpAnyH_take (i := 6) (oi := o45_6) (v := ?v60) rfl (by kernel_rfl) (by kernel_rfl) (by kernel_rfl) (fun _ _ _ h => h) (Or.inl ⟨by rfl, ?h60⟩) hHeld ?r60
        case h60 => (intro w hSw; (try dsimp only at hSw); go_simp; try with_reducible rfl)
        try simp only [Act.put, List.setIfInBounds_toArray, List.set_cons_zero, List.set_cons_succ]
        refine wpAnyH_take (i := 7) (oi := o45_7) (v := ?v61) rfl (by kernel_rfl) (by kernel_rfl) (by kernel_rfl) (fun _ _ _ h => h) (Or.inl ⟨by rfl, ?h61⟩) hHeld ?r61
        case h61 => (intro w hSw; (try dsimp only at hSw); go_simp; try with_reducible rfl)
        try simp only [Act.put, List.setIfInBounds_toArray, List.set_cons_zero, List.set_cons_succ]
        refine wpAnyH_take (i := 8) (oi := o45_8) (v := ?v62) rfl (by kernel_rfl) (by kernel_rfl) (by kernel_rfl) (fun _ _ _ h => h) (Or.inl ⟨by rfl, ?h62⟩) hHeld ?r62
        case h62 => (intro w hSw; (try dsimp only at hSw); go_simp; try with_reducible rfl)
        try simp only [Act.put, List.setIfInBounds_toArray, List.set_cons_zero, List.set_cons_succ]
        refine wpAnyH_take (i := 9) (oi := o45_9) (v := ?v63) rfl (by kernel_rfl) (by kernel_rfl) (by kernel_rfl) (fun _ _ _ h => h) (Or.inl ⟨by rfl, ?h63⟩) hHeld ?r63
        case h63 => (intro w hSw; (try dsimp only at hSw); go_simp; try with_reducible rfl)
        try simp only [Act.put, List.setIfInBounds_toArray, List.set_cons_zero, List.set_cons_succ]
        refine wpAnyH_take (i := 10) (oi := o45_10) (v := ?v64) rfl (by kernel_rfl) (by kernel_rfl) (by kernel_rfl) (fun _ _ _ h => h) (Or.inl ⟨by rfl, ?h64⟩) hHeld ?r64
        case h64 => (intro w hSw; (try dsimp only at hSw); go_simp; try with_reducible rfl)
        try simp only [Act.put, List.setIfInBounds_toArray, List.set_cons_zero, List.set_cons_succ]
        refine wpAnyH_take (i := 11) (oi := o45_11) (v := ?v65) rfl (by kernel_rfl) (by kernel_rfl) (by kernel_rfl) (fun _ _ _ h => h) (Or.inl ⟨by rfl, ?h65⟩) hHeld ?r65
        case h65 => (intro w hSw; (try dsimp only at hSw); go_simp; try with_reducible rfl)
        try simp only [Act.put, List.setIfInBounds_toArray, List.set_cons_zero, List.set_cons_succ]
        refine wpAnyH_take (i := 12) (oi := o45_12) (v := ?v66) rfl (by kernel_rfl) (by kernel_rfl) (by kernel_rfl) (fun _ _ _ h => h) (Or.inl ⟨by rfl, ?h66⟩) hHeld ?r66
        case h66 => (intro w hSw; (try dsimp only at hSw); go_simp; try with_reducible rfl)
        try simp only [Act.put, List.setIfInBounds_toArray, List.set_cons_zero, List.set_cons_succ]
        refine wpAnyH_ready (rs := [13]) (by kernel_rfl) (by simp) ?_
        refine AllReadyH.cons (o := o45_13) rfl (fun K hK => ?_) AllReadyH.nil
        go_simp
        clear hHeld
        refine hK.out _ _ hS2 (fun hHeld => ?_)
        clear hK K
        try simp only [Act.put, List.setIfInBounds_toArray, List.set_cons_zero, List.set_cons_succ]
        refine wpAnyH_ready (rs := [14]) (by kernel_rfl) (by simp) ?_
        refine AllReadyH.cons (o := o45_14) rfl (fun K hK => ?_) AllReadyH.nil
        go_simp
        clear hHeld
        refine hK.out _ _ hS2 (fun hHeld => ?_)
        clear hK K
        try simp only [Act.put, List.setIfInBounds_toArray, List.set_cons_zero, List.set_cons_succ]
        refine wpAnyH_done (by kernel_rfl) ?_ _
        (try refine NoPanic.normal ?_)
        clear hHeld hS0
        go_wp2_with fail
        refine bodyPost_ret (v := .tuple #[.agg #[.pointer (some ⟨q, 0, none⟩), .slice va vl vc, .slice ha hl hc], .bool true]) (by simp [results, Try.results45, go_sem, E0, E1, E2]) rfl ?_
        exact ⟨_, va, ha, vl, vc, hl, hc, true, rfl, HBF.out, HV2.out.symm⟩
      case neg =>
        have hq1 : ((hl : Int) == (1 : Int)) = false := by simp; omega
        have HV2 := (show Hid (VB = false) from (by rw [HV.out, decide_eq_false hhl]; rfl))
        clear HV
        clear hhl
        go_wp2_with fail
        refine wp_region_held_drew (S := (fun wq => wq.cell? ⟨w1.heap.size, 0, none⟩ = some (.pointer (some ⟨q, 0, none⟩)) ∧ wq.cell? ⟨w1.heap.size, 1, none⟩ = some (.slice va vl vc) ∧ wq.cell? ⟨w1.heap.size, 2, none⟩ = some (.slice ha hl hc))) (by kernel_rfl) hS0 (fun hHeld => ?_)
        refine wpAnyH_take (i := 0) (oi := o45_0) (v := ?v67) rfl (by kernel_rfl) (by kernel_rfl) (by kernel_rfl) (fun _ _ _ h => h) (Or.inl ⟨by rfl, ?h67⟩) hHeld ?r67
        case h67 => (intro w hSw; (try dsimp only at hSw); go_simp; try with_reducible rfl)
        try simp only [Act.put, List.setIfInBounds_toArray, List.set_cons_zero, List.set_cons_succ]
        refine wpAnyH_take (i := 1) (oi := o45_1) (v := ?v68) rfl (by kernel_rfl) (by kernel_rfl) (by kernel_rfl) (fun _ _ _ h => h) (Or.inl ⟨by rfl, ?h68⟩) hHeld ?r68
        case h68 => (intro w hSw; (try dsimp only at hSw); go_simp; try with_reducible rfl)
        try simp only [Act.put, List.setIfInBounds_toArray, List.set_cons_zero, List.set_cons_succ]
        refine wpAnyH_take (i := 2) (oi := o45_2) (v := ?v69) rfl (by kernel_rfl) (by kernel_rfl) (by kernel_rfl) (fun _ _ _ h => h) (Or.inl ⟨by rfl, ?h69⟩) hHeld ?r69
        case h69 => (intro w hSw; (try dsimp only at hSw); go_simp; try with_reducible rfl)
        try simp only [Act.put, List.setIfInBounds_toArray, List.set_cons_zero, List.set_cons_succ]
        refine wpAnyH_take (i := 3) (oi := o45_3) (v := ?v70) rfl (by kernel_rfl) (by kernel_rfl) (by kernel_rfl) (fun _ _ _ h => h) (Or.inl ⟨by rfl, ?h70⟩) hHeld ?r70
        case h70 => (intro w hSw; (try dsimp only at hSw); go_simp; try with_reducible rfl)
        try simp only [Act.put, List.setIfInBounds_toArray, List.set_cons_zero, List.set_cons_succ]
        refine wpAnyH_take (i := 4) (oi := o45_4) (v := ?v71) rfl (by kernel_rfl) (by kernel_rfl) (by kernel_rfl) (fun _ _ _ h => h) (Or.inl ⟨by rfl, ?h71⟩) hHeld ?r71
        case h71 => (intro w hSw; (try dsimp only at hSw); go_simp; try with_reducible rfl)
        try simp only [Act.put, List.setIfInBounds_toArray, List.set_cons_zero, List.set_cons_succ]
        refine wpAnyH_ready (rs := [5]) (by kernel_rfl) (by simp) ?_
        refine AllReadyH.cons (o := o45_5) rfl (fun K hK => ?_) AllReadyH.nil
        go_simp
        refine Calls.mono HC.out ?_
        rintro e w3 ⟨rfl, hb3⟩
        dsimp only
        obtain ⟨hS1, ⟨Y0, Y1, Y2⟩, ⟨F0, F1, F2⟩, hS2, ⟨E0, E1, E2⟩, hbf⟩ := HSK.out w3 hb3
        have HBF := (show Hid _ from hbf)
        clear hbf hb3
        clear hHeld
        refine hK.out _ _ hS1 (fun hHeld => ?_)
        clear hK K
        try simp only [Act.put, List.setIfInBounds_toArray, List.set_cons_zero, List.set_cons_succ]
        refine wpAnyH_take (i := 6) (oi := o45_6) (v := ?v72) rfl (by kernel_rfl) (by kernel_rfl) (by kernel_rfl) (fun _ _ _ h => h) (Or.inl ⟨by rfl, ?h72⟩) hHeld ?r72
        case h72 => (intro w hSw; (try dsimp only at hSw); go_simp; try with_reducible rfl)
        try simp only [Act.put, List.setIfInBounds_toArray, List.set_cons_zero, List.set_cons_succ]
        refine wpAnyH_take (i := 7) (oi := o45_7) (v := ?v73) rfl (by kernel_rfl) (by kernel_rfl) (by kernel_rfl) (fun _ _ _ h => h) (Or.inl ⟨by rfl, ?h73⟩) hHeld ?r73
        case h73 => (intro w hSw; (try dsimp only at hSw); go_simp; try with_reducible rfl)
        try simp only [Act.put, List.setIfInBounds_toArray, List.set_cons_zero, List.set_cons_succ]
        refine wpAnyH_take (i := 8) (oi := o45_8) (v := ?v74) rfl (by kernel_rfl) (by kernel_rfl) (by kernel_rfl) (fun _ _ _ h => h) (Or.inl ⟨by rfl, ?h74⟩) hHeld ?r74
        case h74 => (intro w hSw; (try dsimp only at hSw); go_simp; try with_reducible rfl)
        try simp only [Act.put, List.setIfInBounds_toArray, List.set_cons_zero, List.set_cons_succ]
        refine wpAnyH_take (i := 9) (oi := o45_9) (v := ?v75) rfl (by kernel_rfl) (by kernel_rfl) (by kernel_rfl) (fun _ _ _ h => h) (Or.inl ⟨by rfl, ?h75⟩) hHeld ?r75
        case h75 => (intro w hSw; (try dsimp only at hSw); go_simp; try with_reducible rfl)
        try simp only [Act.put, List.setIfInBounds_toArray, List.set_cons_zero, List.set_cons_succ]
        refine wpAnyH_take (i := 10) (oi := o45_10) (v := ?v76) rfl (by kernel_rfl) (by kernel_rfl) (by kernel_rfl) (fun _ _ _ h => h) (Or.inl ⟨by rfl, ?h76⟩) hHeld ?r76
        case h76 => (intro w hSw; (try dsimp only at hSw); go_simp; try with_reducible rfl)
        try simp only [Act.put, List.setIfInBounds_toArray, List.set_cons_zero, List.set_cons_succ]
        refine wpAnyH_take (i := 11) (oi := o45_11) (v := ?v77) rfl (by kernel_rfl) (by kernel_rfl) (by kernel_rfl) (fun _ _ _ h => h) (Or.inl ⟨by rfl, ?h77⟩) hHeld ?r77
        case h77 => (intro w hSw; (try dsimp only at hSw); go_simp; try with_reducible rfl)
        try simp only [Act.put, List.setIfInBounds_toArray, List.set_cons_zero, List.set_cons_succ]
        refine wpAnyH_take (i := 12) (oi := o45_12) (v := ?v78) rfl (by kernel_rfl) (by kernel_rfl) (by kernel_rfl) (fun _ _ _ h => h) (Or.inl ⟨by rfl, ?h78⟩) hHeld ?r78
        case h78 => (intro w hSw; (try dsimp only at hSw); go_simp; try with_reducible rfl)
        try simp only [Act.put, List.setIfInBounds_toArray, List.set_cons_zero, List.set_cons_succ]
        refine wpAnyH_ready (rs := [13]) (by kernel_rfl) (by simp) ?_
        refine AllReadyH.cons (o := o45_13) rfl (fun K hK => ?_) AllReadyH.nil
        go_simp
        clear hHeld
        refine hK.out _ _ hS2 (fun hHeld => ?_)
        clear hK K
        try simp only [Act.put, List.setIfInBounds_toArray, List.set_cons_zero, List.set_cons_succ]
        refine wpAnyH_ready (rs := [14]) (by kernel_rfl) (by simp) ?_
        refine AllReadyH.cons (o := o45_14) rfl (fun K hK => ?_) AllReadyH.nil
        go_simp
        clear hHeld
        refine hK.out _ _ hS2 (fun hHeld => ?_)
        clear hK K
        try simp only [Act.put, List.setIfInBounds_toArray, List.set_cons_zero, List.set_cons_succ]
        refine wpAnyH_done (by kernel_rfl) ?_ _
        (try refine NoPanic.normal ?_)
        clear hHeld hS0
        go_wp2_with fail
        refine bodyPost_ret (v := .tuple #[.agg #[.pointer (some ⟨q, 0, none⟩), .slice va vl vc, .slice ha hl hc], .bool false]) (by simp [results, Try.results45, go_sem, E0, E1, E2]) rfl ?_
        exact ⟨_, va, ha, vl, vc, hl, hc, false, rfl, HBF.out, HV2.out.symm⟩
end Go.Proofs.Ytboffildchoelaa
