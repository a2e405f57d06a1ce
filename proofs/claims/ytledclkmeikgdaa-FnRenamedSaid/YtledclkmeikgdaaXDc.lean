import Derived.Test.YtledclkmeikgdaaXDb
/-! Terms drawn: deep ones. -/
namespace Go.Proofs.Ytledclkmeikgdaa.T
open Go.RowKit Go.Deep Go.Lib
set_option linter.unusedVariables false
set_option maxRecDepth 100000
set_option linter.unusedSimpArgs false
abbrev oD31_12_0 : Oper := { dst := some 37, op := Go.Op.move (Go.Operand.tmp 0), type := 61, pos := "l12_names.go:360", after := #[], guard := none }
abbrev oD31_12_1 : Oper := { dst := some 38, op := Go.Op.call { callee := Go.Callee.value (Go.Operand.func 76), args := #[Go.Operand.tmp 37], argTypes := #[61] }, type := 40, pos := "l12_names.go:360", after := #[{ on := 0, ground := Go.Ground.data }], guard := none }
abbrev oD31_12_2 : Oper := { dst := some 39, op := Go.Op.load 40 (Go.Operand.tmp 5), type := 40, pos := "l12_names.go:360", after := #[], guard := none }
abbrev oD31_12_3 : Oper := { dst := some 40, op := Go.Op.buildSlice 38 2 #[(0, Go.Operand.tmp 38), (1, Go.Operand.tmp 39)], type := 38, pos := "l12_names.go:360", after := #[{ on := 1, ground := Go.Ground.data }, { on := 2, ground := Go.Ground.data }], guard := none }
abbrev oD31_12_4 : Oper := { dst := some 41, op := Go.Op.call { callee := Go.Callee.value (Go.Operand.func 48), args := #[Go.Operand.const (Go.Value.string { data := #[76, 97, 109] }), Go.Operand.tmp 40], argTypes := #[9, 38] }, type := 40, pos := "l12_names.go:360", after := #[{ on := 3, ground := Go.Ground.data }, { on := 1, ground := Go.Ground.chain }], guard := none }
abbrev oD31_12_5 : Oper := { dst := none, op := Go.Op.store 40 (Go.Operand.tmp 4) (Go.Operand.tmp 41), type := 0, pos := "l12_names.go:360", after := #[{ on := 4, ground := Go.Ground.data }, { on := 4, ground := Go.Ground.chain }, { on := 0, ground := Go.Ground.phase }, { on := 1, ground := Go.Ground.phase }, { on := 2, ground := Go.Ground.phase }, { on := 3, ground := Go.Ground.phase }, { on := 4, ground := Go.Ground.phase }], guard := none }
abbrev oD31_14_0 : Oper := { dst := some 44, op := Go.Op.load 40 (Go.Operand.tmp 5), type := 40, pos := "l12_names.go:362", after := #[], guard := none }
abbrev oD31_14_1 : Oper := { dst := some 45, op := Go.Op.move (Go.Operand.tmp 0), type := 61, pos := "l12_names.go:362", after := #[], guard := none }
abbrev oD31_14_2 : Oper := { dst := some 46, op := Go.Op.move (Go.Operand.tmp 1), type := 3, pos := "l12_names.go:362", after := #[], guard := none }
abbrev oD31_14_3 : Oper := { dst := some 47, op := Go.Op.binOp Go.BinOp.sub 3 (Go.Operand.tmp 46) (Go.Operand.const (Go.Value.int Go.IntKind.i64 1)) 3, type := 3, pos := "l12_names.go:362", after := #[{ on := 2, ground := Go.Ground.data }], guard := none }
abbrev oD31_14_4 : Oper := { dst := some 48, op := Go.Op.call { callee := Go.Callee.value (Go.Operand.func 31), args := #[Go.Operand.tmp 45, Go.Operand.tmp 47], argTypes := #[61, 3] }, type := 40, pos := "l12_names.go:362", after := #[{ on := 1, ground := Go.Ground.data }, { on := 3, ground := Go.Ground.data }], guard := none }
abbrev oD31_14_5 : Oper := { dst := some 49, op := Go.Op.buildSlice 38 2 #[(0, Go.Operand.tmp 44), (1, Go.Operand.tmp 48)], type := 38, pos := "l12_names.go:362", after := #[{ on := 0, ground := Go.Ground.data }, { on := 4, ground := Go.Ground.data }], guard := none }
abbrev oD31_14_6 : Oper := { dst := some 50, op := Go.Op.call { callee := Go.Callee.value (Go.Operand.func 48), args := #[Go.Operand.const (Go.Value.string { data := #[65, 112, 112] }), Go.Operand.tmp 49], argTypes := #[9, 38] }, type := 40, pos := "l12_names.go:362", after := #[{ on := 5, ground := Go.Ground.data }, { on := 4, ground := Go.Ground.chain }], guard := none }
abbrev oD31_14_7 : Oper := { dst := none, op := Go.Op.store 40 (Go.Operand.tmp 4) (Go.Operand.tmp 50), type := 0, pos := "l12_names.go:362", after := #[{ on := 6, ground := Go.Ground.data }, { on := 6, ground := Go.Ground.chain }, { on := 0, ground := Go.Ground.phase }, { on := 1, ground := Go.Ground.phase }, { on := 2, ground := Go.Ground.phase }, { on := 3, ground := Go.Ground.phase }, { on := 4, ground := Go.Ground.phase }, { on := 5, ground := Go.Ground.phase }, { on := 6, ground := Go.Ground.phase }], guard := none }
abbrev oD31_16_0 : Oper := { dst := some 53, op := Go.Op.move (Go.Operand.tmp 0), type := 61, pos := "l12_names.go:364", after := #[], guard := none }
abbrev oD31_16_1 : Oper := { dst := some 54, op := Go.Op.call { callee := Go.Callee.value (Go.Operand.func 76), args := #[Go.Operand.tmp 53], argTypes := #[61] }, type := 40, pos := "l12_names.go:364", after := #[{ on := 0, ground := Go.Ground.data }], guard := none }
abbrev oD31_16_2 : Oper := { dst := some 55, op := Go.Op.load 40 (Go.Operand.tmp 5), type := 40, pos := "l12_names.go:364", after := #[], guard := none }
abbrev oD31_16_3 : Oper := { dst := some 56, op := Go.Op.move (Go.Operand.tmp 0), type := 61, pos := "l12_names.go:364", after := #[], guard := none }
abbrev oD31_16_4 : Oper := { dst := some 57, op := Go.Op.move (Go.Operand.tmp 1), type := 3, pos := "l12_names.go:364", after := #[], guard := none }
abbrev oD31_16_5 : Oper := { dst := some 58, op := Go.Op.binOp Go.BinOp.sub 3 (Go.Operand.tmp 57) (Go.Operand.const (Go.Value.int Go.IntKind.i64 1)) 3, type := 3, pos := "l12_names.go:364", after := #[{ on := 4, ground := Go.Ground.data }], guard := none }
abbrev oD31_16_6 : Oper := { dst := some 59, op := Go.Op.call { callee := Go.Callee.value (Go.Operand.func 31), args := #[Go.Operand.tmp 56, Go.Operand.tmp 58], argTypes := #[61, 3] }, type := 40, pos := "l12_names.go:364", after := #[{ on := 3, ground := Go.Ground.data }, { on := 5, ground := Go.Ground.data }, { on := 1, ground := Go.Ground.chain }], guard := none }
abbrev oD31_16_7 : Oper := { dst := some 60, op := Go.Op.buildSlice 38 3 #[(0, Go.Operand.tmp 54), (1, Go.Operand.tmp 55), (2, Go.Operand.tmp 59)], type := 38, pos := "l12_names.go:364", after := #[{ on := 1, ground := Go.Ground.data }, { on := 2, ground := Go.Ground.data }, { on := 6, ground := Go.Ground.data }], guard := none }
abbrev oD31_16_8 : Oper := { dst := some 61, op := Go.Op.call { callee := Go.Callee.value (Go.Operand.func 48), args := #[Go.Operand.const (Go.Value.string { data := #[76, 101, 116] }), Go.Operand.tmp 60], argTypes := #[9, 38] }, type := 40, pos := "l12_names.go:364", after := #[{ on := 7, ground := Go.Ground.data }, { on := 6, ground := Go.Ground.chain }], guard := none }
abbrev oD31_16_9 : Oper := { dst := none, op := Go.Op.store 40 (Go.Operand.tmp 4) (Go.Operand.tmp 61), type := 0, pos := "l12_names.go:364", after := #[{ on := 8, ground := Go.Ground.data }, { on := 8, ground := Go.Ground.chain }, { on := 0, ground := Go.Ground.phase }, { on := 1, ground := Go.Ground.phase }, { on := 2, ground := Go.Ground.phase }, { on := 3, ground := Go.Ground.phase }, { on := 4, ground := Go.Ground.phase }, { on := 5, ground := Go.Ground.phase }, { on := 6, ground := Go.Ground.phase }, { on := 7, ground := Go.Ground.phase }, { on := 8, ground := Go.Ground.phase }], guard := none }
abbrev oD31_18_0 : Oper := { dst := some 64, op := Go.Op.move (Go.Operand.tmp 0), type := 61, pos := "l12_names.go:366", after := #[], guard := none }
abbrev oD31_18_1 : Oper := { dst := some 65, op := Go.Op.call { callee := Go.Callee.value (Go.Operand.func 31), args := #[Go.Operand.tmp 64, Go.Operand.const (Go.Value.int Go.IntKind.i64 0)], argTypes := #[61, 3] }, type := 40, pos := "l12_names.go:366", after := #[{ on := 0, ground := Go.Ground.data }], guard := none }
abbrev oD31_18_2 : Oper := { dst := some 66, op := Go.Op.load 40 (Go.Operand.tmp 5), type := 40, pos := "l12_names.go:366", after := #[], guard := none }
abbrev oD31_18_3 : Oper := { dst := some 67, op := Go.Op.move (Go.Operand.tmp 0), type := 61, pos := "l12_names.go:366", after := #[], guard := none }
abbrev oD31_18_4 : Oper := { dst := some 68, op := Go.Op.move (Go.Operand.tmp 1), type := 3, pos := "l12_names.go:366", after := #[], guard := none }
abbrev oD31_18_5 : Oper := { dst := some 69, op := Go.Op.binOp Go.BinOp.sub 3 (Go.Operand.tmp 68) (Go.Operand.const (Go.Value.int Go.IntKind.i64 1)) 3, type := 3, pos := "l12_names.go:366", after := #[{ on := 4, ground := Go.Ground.data }], guard := none }
abbrev oD31_18_6 : Oper := { dst := some 70, op := Go.Op.call { callee := Go.Callee.value (Go.Operand.func 31), args := #[Go.Operand.tmp 67, Go.Operand.tmp 69], argTypes := #[61, 3] }, type := 40, pos := "l12_names.go:366", after := #[{ on := 3, ground := Go.Ground.data }, { on := 5, ground := Go.Ground.data }, { on := 1, ground := Go.Ground.chain }], guard := none }
abbrev oD31_18_7 : Oper := { dst := some 71, op := Go.Op.buildSlice 38 3 #[(0, Go.Operand.tmp 65), (1, Go.Operand.tmp 66), (2, Go.Operand.tmp 70)], type := 38, pos := "l12_names.go:366", after := #[{ on := 1, ground := Go.Ground.data }, { on := 2, ground := Go.Ground.data }, { on := 6, ground := Go.Ground.data }], guard := none }
abbrev oD31_18_8 : Oper := { dst := some 72, op := Go.Op.call { callee := Go.Callee.value (Go.Operand.func 48), args := #[Go.Operand.const (Go.Value.string { data := #[73, 102] }), Go.Operand.tmp 71], argTypes := #[9, 38] }, type := 40, pos := "l12_names.go:366", after := #[{ on := 7, ground := Go.Ground.data }, { on := 6, ground := Go.Ground.chain }], guard := none }
abbrev oD31_18_9 : Oper := { dst := none, op := Go.Op.store 40 (Go.Operand.tmp 4) (Go.Operand.tmp 72), type := 0, pos := "l12_names.go:366", after := #[{ on := 8, ground := Go.Ground.data }, { on := 8, ground := Go.Ground.chain }, { on := 0, ground := Go.Ground.phase }, { on := 1, ground := Go.Ground.phase }, { on := 2, ground := Go.Ground.phase }, { on := 3, ground := Go.Ground.phase }, { on := 4, ground := Go.Ground.phase }, { on := 5, ground := Go.Ground.phase }, { on := 6, ground := Go.Ground.phase }, { on := 7, ground := Go.Ground.phase }, { on := 8, ground := Go.Ground.phase }], guard := none }
abbrev oD31_20_0 : Oper := { dst := some 75, op := Go.Op.load 40 (Go.Operand.tmp 5), type := 40, pos := "l12_names.go:368", after := #[], guard := none }
abbrev oD31_20_1 : Oper := { dst := some 76, op := Go.Op.move (Go.Operand.tmp 0), type := 61, pos := "l12_names.go:368", after := #[], guard := none }
abbrev oD31_20_2 : Oper := { dst := some 77, op := Go.Op.move (Go.Operand.tmp 1), type := 3, pos := "l12_names.go:368", after := #[], guard := none }
abbrev oD31_20_3 : Oper := { dst := some 78, op := Go.Op.binOp Go.BinOp.sub 3 (Go.Operand.tmp 77) (Go.Operand.const (Go.Value.int Go.IntKind.i64 1)) 3, type := 3, pos := "l12_names.go:368", after := #[{ on := 2, ground := Go.Ground.data }], guard := none }
abbrev oD31_20_4 : Oper := { dst := some 79, op := Go.Op.call { callee := Go.Callee.value (Go.Operand.func 31), args := #[Go.Operand.tmp 76, Go.Operand.tmp 78], argTypes := #[61, 3] }, type := 40, pos := "l12_names.go:368", after := #[{ on := 1, ground := Go.Ground.data }, { on := 3, ground := Go.Ground.data }], guard := none }
abbrev oD31_20_5 : Oper := { dst := some 80, op := Go.Op.buildSlice 38 2 #[(0, Go.Operand.tmp 75), (1, Go.Operand.tmp 79)], type := 38, pos := "l12_names.go:368", after := #[{ on := 0, ground := Go.Ground.data }, { on := 4, ground := Go.Ground.data }], guard := none }
abbrev oD31_20_6 : Oper := { dst := some 81, op := Go.Op.call { callee := Go.Callee.value (Go.Operand.func 48), args := #[Go.Operand.const (Go.Value.string { data := #[65, 100, 100] }), Go.Operand.tmp 80], argTypes := #[9, 38] }, type := 40, pos := "l12_names.go:368", after := #[{ on := 5, ground := Go.Ground.data }, { on := 4, ground := Go.Ground.chain }], guard := none }
abbrev oD31_20_7 : Oper := { dst := none, op := Go.Op.store 40 (Go.Operand.tmp 4) (Go.Operand.tmp 81), type := 0, pos := "l12_names.go:368", after := #[{ on := 6, ground := Go.Ground.data }, { on := 6, ground := Go.Ground.chain }, { on := 0, ground := Go.Ground.phase }, { on := 1, ground := Go.Ground.phase }, { on := 2, ground := Go.Ground.phase }, { on := 3, ground := Go.Ground.phase }, { on := 4, ground := Go.Ground.phase }, { on := 5, ground := Go.Ground.phase }, { on := 6, ground := Go.Ground.phase }], guard := none }
abbrev oD31_22_0 : Oper := { dst := some 84, op := Go.Op.load 40 (Go.Operand.tmp 5), type := 40, pos := "l12_names.go:370", after := #[], guard := none }
abbrev oD31_22_1 : Oper := { dst := some 85, op := Go.Op.move (Go.Operand.tmp 0), type := 61, pos := "l12_names.go:370", after := #[], guard := none }
abbrev oD31_22_2 : Oper := { dst := some 86, op := Go.Op.call { callee := Go.Callee.value (Go.Operand.func 31), args := #[Go.Operand.tmp 85, Go.Operand.const (Go.Value.int Go.IntKind.i64 0)], argTypes := #[61, 3] }, type := 40, pos := "l12_names.go:370", after := #[{ on := 1, ground := Go.Ground.data }], guard := none }
abbrev oD31_22_3 : Oper := { dst := some 87, op := Go.Op.buildSlice 38 2 #[(0, Go.Operand.tmp 84), (1, Go.Operand.tmp 86)], type := 38, pos := "l12_names.go:370", after := #[{ on := 0, ground := Go.Ground.data }, { on := 2, ground := Go.Ground.data }], guard := none }
abbrev oD31_22_4 : Oper := { dst := some 88, op := Go.Op.call { callee := Go.Callee.value (Go.Operand.func 48), args := #[Go.Operand.const (Go.Value.string { data := #[69, 113] }), Go.Operand.tmp 87], argTypes := #[9, 38] }, type := 40, pos := "l12_names.go:370", after := #[{ on := 3, ground := Go.Ground.data }, { on := 2, ground := Go.Ground.chain }], guard := none }
abbrev oD31_22_5 : Oper := { dst := none, op := Go.Op.store 40 (Go.Operand.tmp 4) (Go.Operand.tmp 88), type := 0, pos := "l12_names.go:370", after := #[{ on := 4, ground := Go.Ground.data }, { on := 4, ground := Go.Ground.chain }, { on := 0, ground := Go.Ground.phase }, { on := 1, ground := Go.Ground.phase }, { on := 2, ground := Go.Ground.phase }, { on := 3, ground := Go.Ground.phase }, { on := 4, ground := Go.Ground.phase }], guard := none }

set_option maxHeartbeats 12800000 in
theorem drawTm_any {cs : List UInt8} {a : Option Addr} {cap b off c : Nat} (d : Nat) : ∀ (s : Nat × Nat) (w : World), Cur w cs a cap b off c s → d ≤ 6 →
    Calls Try.prog 31 #[.pointer (some ⟨c, 0, none⟩), .int .i64 (d : Nat)] w fun e w' => DrewL cs a cap b off c (cTm cs d s) w e w' := by
  induction d with
  | zero =>
    intro s w hc _
    exact drawTm0_any s w hc
  | succ d ih =>
    intro s w hc hd
    rw [show ((d + 1 : Nat) : Int) = (d : Int) + 1 from rfl]
    have hlt := hc.lt
    have hsub : (d : Int) + 1 - 1 = d := by omega
    have hwr : IntKind.i64.wrap (d : Int) = (d : Int) := by simp [IntKind.wrap, IntKind.bits, IntKind.signed]; omega
    have hd6 : (d : Int) ≤ 6 := by omega
    have hpos : ¬ ((d : Int) + 1 ≤ 0) := by omega
    have e0 : cTm cs (d + 1) s = cTmN cs (cTm cs d) (cTm cs d s).1 (cPick cs 8 (cTm cs d s).2).1 (cPick cs 8 (cTm cs d s).2).2 := rfl
    have hd' : d ≤ 6 := by omega
    generalize cTm cs d = F at *
    have HIH := (show Hid (∀ (s : Nat × Nat) (w : World), Cur w cs a cap b off c s → Calls Try.prog 31 #[.pointer (some ⟨c, 0, none⟩), .int .i64 (d : Nat)] w fun e w' => DrewL cs a cap b off c (F s) w e w') from fun s w h => ih s w h hd')
    clear ih
    have HA := (show Hid (At cs a cap b off c w s (w.alloc (.cells #[.string ByteArray.empty, .string ByteArray.empty, .bool false, .slice none 0 0] 40))) from At.new hc)
    have hcl := HIH.out s _ HA.out.2.2
    have HCL := (show Hid _ from hcl); clear hcl hc
    generalize F s = r at *
    obtain ⟨t, s1⟩ := r
    dsimp only at e0
    have hpk : ∀ w1, Cur w1 cs a cap b off c s1 → _ := fun w1 h => pick_any 8 w1 h (by decide)
    have HPK := (show Hid _ from hpk); clear hpk
    have hk8 := cPick_lt cs 8 s1 (by decide)
    generalize cPick cs 8 s1 = r at *
    obtain ⟨k, s2⟩ := r
    dsimp only at e0 hk8
    have HE0 := (show Hid _ from e0); clear e0
    go_enter Try.func31, Try.ntmps31
    go_wp2_with fail
    refine Calls.mono HCL.out ?_
    rintro e w1 ⟨xa, xm, xc, rfl, ho1, hc1, hl1⟩
    dsimp only at hc1 hl1
    have hsz1 : w.heap.size + 1 ≤ w1.heap.size := by have := ho1.2.2.2.1; simpa using this
    have HA1 := (show Hid (At cs a cap b off c w s1 w1) from HA.out.out hlt ho1 hc1)
    have HL1 := (show Hid (Lies w1 (fun q => w.heap.size + 1 ≤ q) t (.slice xa xm xc)) from hl1.mono (fun q hq => by simpa using hq))
    have hb1 := bel_alloc w1 (.cells #[.string t.name, .string t.text, .bool t.leaf, .slice xa xm xc] 40)
    have hcl := HPK.out _ ((HA1.out.still hb1).2.2)
    have HB1 := (show Hid (Box4 (w1.alloc (.cells #[.string t.name, .string t.text, .bool t.leaf, .slice xa xm xc] 40)) w1.heap.size (.string t.name) (.string t.text) (.bool t.leaf) (.slice xa xm xc)) from Box4.new w1 _ _ _ _)
    have HA1b := (show Hid (At cs a cap b off c w s1 (w1.alloc (.cells #[.string t.name, .string t.text, .bool t.leaf, .slice xa xm xc] 40))) from HA1.out.still hb1)
    have HL1b := (show Hid (Lies (w1.alloc (.cells #[.string t.name, .string t.text, .bool t.leaf, .slice xa xm xc] 40)) (fun q => w.heap.size + 1 ≤ q) t (.slice xa xm xc)) from Lies.still HL1.out hb1)
    clear HCL HPK HA ho1 hc1 hl1 HA1 HL1 hb1
    have HCL := (show Hid _ from hcl); clear hcl
    dsimp only
    go_wp2_with fail
    refine Calls.mono HCL.out ?_
    rintro e w2 ⟨rfl, ho2, hs2, hc2⟩
    have HA2 := (show Hid (At cs a cap b off c w s2 w2) from HA1b.out.out hlt ho2 hc2)
    have HB2 := (show Hid (Box4 w2 w1.heap.size (.string t.name) (.string t.text) (.bool t.leaf) (.slice xa xm xc)) from Box4.out HB1.out ho2 (by omega))
    have HL2 := (show Hid (Lies w2 (fun q => w.heap.size + 1 ≤ q) t (.slice xa xm xc)) from lies_out HL1b.out ho2 (by omega))
    clear HCL HA1b HB1 HL1b ho2 hs2 hc2
    have hne : w1.heap.size ≠ w.heap.size := by omega
    dsimp only
    have hk : k = 0 ∨ k = 1 ∨ k = 2 ∨ k = 3 ∨ k = 4 ∨ k = 5 ∨ k = 6 ∨ k = 7 := by omega
    rcases hk with rfl | rfl | rfl | rfl | rfl | rfl | rfl | rfl
    · skip
      have e0 := HE0.out
      clear HE0
      simp (config := { decide := true }) only [cTmN, if_true, if_false, or_true, true_or, or_false, false_or] at e0
      have hc0 : ∀ wq, Cur wq cs a cap b off c s2 → Calls Try.prog 76 #[.pointer (some ⟨c, 0, none⟩)] wq fun e w' => DrewL cs a cap b off c (cIdT cs s2) wq e w' := fun wq h => drawId_any s2 wq h
      generalize cIdT cs s2 = r at e0 hc0
      obtain ⟨u1, s3⟩ := r
      try dsimp only at e0
      try dsimp only at hc0
      have HC0 := (show Hid _ from hc0); clear hc0
      have HE := (show Hid _ from e0); clear e0
      go_wp2_with fail
      have HA3 := (show Hid (At cs a cap b off c w s2 w2.drew) from HA2.out.drew)
      have HB3 := (show Hid (Box4 w2.drew w1.heap.size (.string t.name) (.string t.text) (.bool t.leaf) (.slice xa xm xc)) from Box4.still HB2.out (Below.refl w2.heap.size w2).drew)
      have HL3 := (show Hid (Lies w2.drew (fun q => w.heap.size + 1 ≤ q) t (.slice xa xm xc)) from Lies.still HL2.out (Below.refl w2.heap.size w2).drew)
      clear HA2 HB2 HL2
      have hS0 := Box4.cells HB3.out
      refine wp_region_held_drew (S := (fun wq => wq.cell? ⟨w1.heap.size, 0, none⟩ = some (.string t.name) ∧ wq.cell? ⟨w1.heap.size, 1, none⟩ = some (.string t.text) ∧ wq.cell? ⟨w1.heap.size, 2, none⟩ = some (.bool t.leaf) ∧ wq.cell? ⟨w1.heap.size, 3, none⟩ = some (.slice xa xm xc))) (by kernel_rfl) hS0 (fun hHeld => ?_)
      refine wpAnyH_take (i := 0) (oi := oD31_12_0) (v := ?v1) rfl (by kernel_rfl) (by kernel_rfl) (by kernel_rfl) (fun _ _ _ h => h) (Or.inl ⟨by rfl, ?h1⟩) hHeld ?r1
      case h1 => (intro w hSw; (try dsimp only at hSw); go_simp; try with_reducible rfl)
      refine wpAnyH_take (i := 2) (oi := oD31_12_2) (v := ?v2) rfl (by kernel_rfl) (by kernel_rfl) (by kernel_rfl) (fun _ _ _ h => h) (Or.inl ⟨by rfl, ?h2⟩) hHeld ?r2
      case h2 => (intro w hSw; (try dsimp only at hSw); go_simp; try with_reducible rfl)
      refine wpAnyH_ready (rs := [1]) (by kernel_rfl) (by simp) ?_
      refine (AllReadyH.cons (o := oD31_12_1) rfl (fun K hK => ?_) AllReadyH.nil)
      go_simp
      go_at_call 76
      refine Calls.mono (HC0.out _ HA3.out.2.2) ?_
      rintro e w3 ⟨ya0, ym0, yc0, rfl, hO, hC, hY⟩
      dsimp only at hC hY
      have HA4 := (show Hid (At cs a cap b off c w s3 w3) from HA3.out.out hlt hO hC)
      have HB4 := (show Hid (Box4 w3 w1.heap.size (.string t.name) (.string t.text) (.bool t.leaf) (.slice xa xm xc)) from Box4.out HB3.out hO (by omega))
      have HU0_4 := (show Hid (Lies w3 (fun q => w.heap.size + 1 ≤ q) u1 (.slice ya0 ym0 yc0)) from hY.mono (fun q hq => by have h2 := HA3.out.size; exact Nat.le_trans h2 hq))
      have HL4 := (show Hid (Lies w3 (fun q => w.heap.size + 1 ≤ q) t (.slice xa xm xc)) from lies_out HL3.out hO (by omega))
      clear hO hC hY HA3 HB3 HC0 HL3
      have hS1 := Box4.cells HB4.out
      clear hHeld
      refine hK.out _ _ hS1 (fun hHeld => ?_)
      clear hK K
      have hb := bel_alloc w3 (.cells #[.string u1.name, .string u1.text, .bool u1.leaf, .slice ya0 ym0 yc0, .string t.name, .string t.text, .bool t.leaf, .slice xa xm xc] 40)
      have HA5 := (show Hid (At cs a cap b off c w s3 (w3.alloc (.cells #[.string u1.name, .string u1.text, .bool u1.leaf, .slice ya0 ym0 yc0, .string t.name, .string t.text, .bool t.leaf, .slice xa xm xc] 40))) from HA4.out.still hb)
      have HB5 := (show Hid (Box4 (w3.alloc (.cells #[.string u1.name, .string u1.text, .bool u1.leaf, .slice ya0 ym0 yc0, .string t.name, .string t.text, .bool t.leaf, .slice xa xm xc] 40)) w1.heap.size (.string t.name) (.string t.text) (.bool t.leaf) (.slice xa xm xc)) from Box4.still HB4.out hb)
      have HN5 := (show Hid (Lies (w3.alloc (.cells #[.string u1.name, .string u1.text, .bool u1.leaf, .slice ya0 ym0 yc0, .string t.name, .string t.text, .bool t.leaf, .slice xa xm xc] 40)) (fun q => w.heap.size + 1 ≤ q) (nd ⟨#[76, 97, 109]⟩ [u1, t]) (.slice (some ⟨w3.heap.size, 0, none⟩) 2 2)) from lies_two w3 HU0_4.out HL4.out HA4.out.size ⟨#[76, 97, 109]⟩ (by decide))
      clear hb HA4 HB4 HU0_4 HL4
      refine wpAnyH_ready (rs := [3]) (by kernel_rfl) (by simp) ?_
      refine (AllReadyH.cons (o := oD31_12_3) rfl (fun K hK => ?_) AllReadyH.nil)
      go_simp
      have hT := Box4.cells HB5.out
      clear hHeld
      refine hK.out _ _ hT (fun hHeld => ?_)
      clear hK K
      refine wpAnyH_ready (rs := [4]) (by kernel_rfl) (by simp) ?_
      refine (AllReadyH.cons (o := oD31_12_4) rfl (fun K hK => ?_) AllReadyH.nil)
      go_simp
      go_at_call 48
      refine Calls.mono (nodeD_any _ _ _ _ _) ?_
      rintro e w4 ⟨rfl, hb⟩
      have HA6 := (show Hid (At cs a cap b off c w s3 w4) from HA5.out.still hb)
      have HB6 := (show Hid (Box4 w4 w1.heap.size (.string t.name) (.string t.text) (.bool t.leaf) (.slice xa xm xc)) from Box4.still HB5.out hb)
      have HN6 := (show Hid (Lies w4 (fun q => w.heap.size + 1 ≤ q) (nd ⟨#[76, 97, 109]⟩ [u1, t]) (.slice (some ⟨w3.heap.size, 0, none⟩) 2 2)) from Lies.still HN5.out hb)
      clear hb HA5 HB5 HN5
      have hT2 := Box4.cells HB6.out
      clear hHeld
      refine hK.out _ _ hT2 (fun hHeld => ?_)
      clear hK K
      obtain ⟨Z0, Z1, Z2, Z3⟩ := Box4.cells HA6.out.2.1
      have y0 := Box4.frozen HA6.out.2.1 0
      have y1 := Box4.frozen HA6.out.2.1 1
      have y2 := Box4.frozen HA6.out.2.1 2
      have y3 := Box4.frozen HA6.out.2.1 3
      refine wpAnyH_ready (rs := [5]) (by kernel_rfl) (by simp) ?_
      refine (AllReadyH.cons (o := oD31_12_5) rfl (fun K hK => ?_) AllReadyH.nil)
      go_simp
      have hT3 := Box4.cells ((((Box4.past (o := 0) (x := .string ⟨#[76, 97, 109]⟩) HB6.out hne).past (o := 1) (x := .string ByteArray.empty) hne).past (o := 2) (x := .bool false) hne).past (o := 3) (x := .slice (some ⟨w3.heap.size, 0, none⟩) 2 2) hne)
      clear hHeld
      refine hK.out _ _ hT3 (fun hHeld => ?_)
      clear hK K
      refine wpAnyH_done (by kernel_rfl) ?_ _
      clear hHeld
      go_wp2_with fail
      refine bodyPost_ret (v := .agg #[.string ⟨#[76, 97, 109]⟩, .string ByteArray.empty, .bool false, .slice (some ⟨w3.heap.size, 0, none⟩) 2 2]) (by simp [results, Try.results31, go_sem, Z0, Z1, Z2, Z3]) rfl ?_
      rw [HE.out]
      exact drew_at (r := (nd ⟨#[76, 97, 109]⟩ [u1, t], s3)) HA6.out hlt HN6.out
    · skip
      have e0 := HE0.out
      clear HE0
      simp (config := { decide := true }) only [cTmN, if_true, if_false, or_true, true_or, or_false, false_or] at e0
      have hc0 : ∀ wq, Cur wq cs a cap b off c s2 → Calls Try.prog 76 #[.pointer (some ⟨c, 0, none⟩)] wq fun e w' => DrewL cs a cap b off c (cIdT cs s2) wq e w' := fun wq h => drawId_any s2 wq h
      generalize cIdT cs s2 = r at e0 hc0
      obtain ⟨u1, s3⟩ := r
      try dsimp only at e0
      try dsimp only at hc0
      have HC0 := (show Hid _ from hc0); clear hc0
      have HE := (show Hid _ from e0); clear e0
      go_wp2_with fail
      have HA3 := (show Hid (At cs a cap b off c w s2 w2.drew) from HA2.out.drew)
      have HB3 := (show Hid (Box4 w2.drew w1.heap.size (.string t.name) (.string t.text) (.bool t.leaf) (.slice xa xm xc)) from Box4.still HB2.out (Below.refl w2.heap.size w2).drew)
      have HL3 := (show Hid (Lies w2.drew (fun q => w.heap.size + 1 ≤ q) t (.slice xa xm xc)) from Lies.still HL2.out (Below.refl w2.heap.size w2).drew)
      clear HA2 HB2 HL2
      have hS0 := Box4.cells HB3.out
      refine wp_region_held_drew (S := (fun wq => wq.cell? ⟨w1.heap.size, 0, none⟩ = some (.string t.name) ∧ wq.cell? ⟨w1.heap.size, 1, none⟩ = some (.string t.text) ∧ wq.cell? ⟨w1.heap.size, 2, none⟩ = some (.bool t.leaf) ∧ wq.cell? ⟨w1.heap.size, 3, none⟩ = some (.slice xa xm xc))) (by kernel_rfl) hS0 (fun hHeld => ?_)
      refine wpAnyH_take (i := 0) (oi := oD31_12_0) (v := ?v3) rfl (by kernel_rfl) (by kernel_rfl) (by kernel_rfl) (fun _ _ _ h => h) (Or.inl ⟨by rfl, ?h3⟩) hHeld ?r3
      case h3 => (intro w hSw; (try dsimp only at hSw); go_simp; try with_reducible rfl)
      refine wpAnyH_take (i := 2) (oi := oD31_12_2) (v := ?v4) rfl (by kernel_rfl) (by kernel_rfl) (by kernel_rfl) (fun _ _ _ h => h) (Or.inl ⟨by rfl, ?h4⟩) hHeld ?r4
      case h4 => (intro w hSw; (try dsimp only at hSw); go_simp; try with_reducible rfl)
      refine wpAnyH_ready (rs := [1]) (by kernel_rfl) (by simp) ?_
      refine (AllReadyH.cons (o := oD31_12_1) rfl (fun K hK => ?_) AllReadyH.nil)
      go_simp
      go_at_call 76
      refine Calls.mono (HC0.out _ HA3.out.2.2) ?_
      rintro e w3 ⟨ya0, ym0, yc0, rfl, hO, hC, hY⟩
      dsimp only at hC hY
      have HA4 := (show Hid (At cs a cap b off c w s3 w3) from HA3.out.out hlt hO hC)
      have HB4 := (show Hid (Box4 w3 w1.heap.size (.string t.name) (.string t.text) (.bool t.leaf) (.slice xa xm xc)) from Box4.out HB3.out hO (by omega))
      have HU0_4 := (show Hid (Lies w3 (fun q => w.heap.size + 1 ≤ q) u1 (.slice ya0 ym0 yc0)) from hY.mono (fun q hq => by have h2 := HA3.out.size; exact Nat.le_trans h2 hq))
      have HL4 := (show Hid (Lies w3 (fun q => w.heap.size + 1 ≤ q) t (.slice xa xm xc)) from lies_out HL3.out hO (by omega))
      clear hO hC hY HA3 HB3 HC0 HL3
      have hS1 := Box4.cells HB4.out
      clear hHeld
      refine hK.out _ _ hS1 (fun hHeld => ?_)
      clear hK K
      have hb := bel_alloc w3 (.cells #[.string u1.name, .string u1.text, .bool u1.leaf, .slice ya0 ym0 yc0, .string t.name, .string t.text, .bool t.leaf, .slice xa xm xc] 40)
      have HA5 := (show Hid (At cs a cap b off c w s3 (w3.alloc (.cells #[.string u1.name, .string u1.text, .bool u1.leaf, .slice ya0 ym0 yc0, .string t.name, .string t.text, .bool t.leaf, .slice xa xm xc] 40))) from HA4.out.still hb)
      have HB5 := (show Hid (Box4 (w3.alloc (.cells #[.string u1.name, .string u1.text, .bool u1.leaf, .slice ya0 ym0 yc0, .string t.name, .string t.text, .bool t.leaf, .slice xa xm xc] 40)) w1.heap.size (.string t.name) (.string t.text) (.bool t.leaf) (.slice xa xm xc)) from Box4.still HB4.out hb)
      have HN5 := (show Hid (Lies (w3.alloc (.cells #[.string u1.name, .string u1.text, .bool u1.leaf, .slice ya0 ym0 yc0, .string t.name, .string t.text, .bool t.leaf, .slice xa xm xc] 40)) (fun q => w.heap.size + 1 ≤ q) (nd ⟨#[76, 97, 109]⟩ [u1, t]) (.slice (some ⟨w3.heap.size, 0, none⟩) 2 2)) from lies_two w3 HU0_4.out HL4.out HA4.out.size ⟨#[76, 97, 109]⟩ (by decide))
      clear hb HA4 HB4 HU0_4 HL4
      refine wpAnyH_ready (rs := [3]) (by kernel_rfl) (by simp) ?_
      refine (AllReadyH.cons (o := oD31_12_3) rfl (fun K hK => ?_) AllReadyH.nil)
      go_simp
      have hT := Box4.cells HB5.out
      clear hHeld
      refine hK.out _ _ hT (fun hHeld => ?_)
      clear hK K
      refine wpAnyH_ready (rs := [4]) (by kernel_rfl) (by simp) ?_
      refine (AllReadyH.cons (o := oD31_12_4) rfl (fun K hK => ?_) AllReadyH.nil)
      go_simp
      go_at_call 48
      refine Calls.mono (nodeD_any _ _ _ _ _) ?_
      rintro e w4 ⟨rfl, hb⟩
      have HA6 := (show Hid (At cs a cap b off c w s3 w4) from HA5.out.still hb)
      have HB6 := (show Hid (Box4 w4 w1.heap.size (.string t.name) (.string t.text) (.bool t.leaf) (.slice xa xm xc)) from Box4.still HB5.out hb)
      have HN6 := (show Hid (Lies w4 (fun q => w.heap.size + 1 ≤ q) (nd ⟨#[76, 97, 109]⟩ [u1, t]) (.slice (some ⟨w3.heap.size, 0, none⟩) 2 2)) from Lies.still HN5.out hb)
      clear hb HA5 HB5 HN5
      have hT2 := Box4.cells HB6.out
      clear hHeld
      refine hK.out _ _ hT2 (fun hHeld => ?_)
      clear hK K
      obtain ⟨Z0, Z1, Z2, Z3⟩ := Box4.cells HA6.out.2.1
      have y0 := Box4.frozen HA6.out.2.1 0
      have y1 := Box4.frozen HA6.out.2.1 1
      have y2 := Box4.frozen HA6.out.2.1 2
      have y3 := Box4.frozen HA6.out.2.1 3
      refine wpAnyH_ready (rs := [5]) (by kernel_rfl) (by simp) ?_
      refine (AllReadyH.cons (o := oD31_12_5) rfl (fun K hK => ?_) AllReadyH.nil)
      go_simp
      have hT3 := Box4.cells ((((Box4.past (o := 0) (x := .string ⟨#[76, 97, 109]⟩) HB6.out hne).past (o := 1) (x := .string ByteArray.empty) hne).past (o := 2) (x := .bool false) hne).past (o := 3) (x := .slice (some ⟨w3.heap.size, 0, none⟩) 2 2) hne)
      clear hHeld
      refine hK.out _ _ hT3 (fun hHeld => ?_)
      clear hK K
      refine wpAnyH_done (by kernel_rfl) ?_ _
      clear hHeld
      go_wp2_with fail
      refine bodyPost_ret (v := .agg #[.string ⟨#[76, 97, 109]⟩, .string ByteArray.empty, .bool false, .slice (some ⟨w3.heap.size, 0, none⟩) 2 2]) (by simp [results, Try.results31, go_sem, Z0, Z1, Z2, Z3]) rfl ?_
      rw [HE.out]
      exact drew_at (r := (nd ⟨#[76, 97, 109]⟩ [u1, t], s3)) HA6.out hlt HN6.out
    · skip
      have e0 := HE0.out
      clear HE0
      simp (config := { decide := true }) only [cTmN, if_true, if_false, or_true, true_or, or_false, false_or] at e0
      have hc0 : ∀ wq, Cur wq cs a cap b off c s2 → Calls Try.prog 31 #[.pointer (some ⟨c, 0, none⟩), .int .i64 (d : Nat)] wq fun e w' => DrewL cs a cap b off c (F s2) wq e w' := fun wq h => HIH.out s2 wq h
      generalize F s2 = r at e0 hc0
      obtain ⟨u1, s3⟩ := r
      try dsimp only at e0
      try dsimp only at hc0
      have HC0 := (show Hid _ from hc0); clear hc0
      have HE := (show Hid _ from e0); clear e0
      go_wp2_with fail
      have HA3 := (show Hid (At cs a cap b off c w s2 w2.drew) from HA2.out.drew)
      have HB3 := (show Hid (Box4 w2.drew w1.heap.size (.string t.name) (.string t.text) (.bool t.leaf) (.slice xa xm xc)) from Box4.still HB2.out (Below.refl w2.heap.size w2).drew)
      have HL3 := (show Hid (Lies w2.drew (fun q => w.heap.size + 1 ≤ q) t (.slice xa xm xc)) from Lies.still HL2.out (Below.refl w2.heap.size w2).drew)
      clear HA2 HB2 HL2
      have hS0 := Box4.cells HB3.out
      refine wp_region_held_drew (S := (fun wq => wq.cell? ⟨w1.heap.size, 0, none⟩ = some (.string t.name) ∧ wq.cell? ⟨w1.heap.size, 1, none⟩ = some (.string t.text) ∧ wq.cell? ⟨w1.heap.size, 2, none⟩ = some (.bool t.leaf) ∧ wq.cell? ⟨w1.heap.size, 3, none⟩ = some (.slice xa xm xc))) (by kernel_rfl) hS0 (fun hHeld => ?_)
      refine wpAnyH_take (i := 0) (oi := oD31_14_0) (v := ?v5) rfl (by kernel_rfl) (by kernel_rfl) (by kernel_rfl) (fun _ _ _ h => h) (Or.inl ⟨by rfl, ?h5⟩) hHeld ?r5
      case h5 => (intro w hSw; (try dsimp only at hSw); go_simp; try with_reducible rfl)
      refine wpAnyH_take (i := 1) (oi := oD31_14_1) (v := ?v6) rfl (by kernel_rfl) (by kernel_rfl) (by kernel_rfl) (fun _ _ _ h => h) (Or.inl ⟨by rfl, ?h6⟩) hHeld ?r6
      case h6 => (intro w hSw; (try dsimp only at hSw); go_simp; try with_reducible rfl)
      refine wpAnyH_take (i := 2) (oi := oD31_14_2) (v := ?v7) rfl (by kernel_rfl) (by kernel_rfl) (by kernel_rfl) (fun _ _ _ h => h) (Or.inl ⟨by rfl, ?h7⟩) hHeld ?r7
      case h7 => (intro w hSw; (try dsimp only at hSw); go_simp; try with_reducible rfl)
      refine wpAnyH_take (i := 3) (oi := oD31_14_3) (v := ?v8) rfl (by kernel_rfl) (by kernel_rfl) (by kernel_rfl) (fun _ _ _ h => h) (Or.inl ⟨by rfl, ?h8⟩) hHeld ?r8
      case h8 => (intro w hSw; (try dsimp only at hSw); go_simp; try with_reducible rfl)
      refine wpAnyH_ready (rs := [4]) (by kernel_rfl) (by simp) ?_
      refine (AllReadyH.cons (o := oD31_14_4) rfl (fun K hK => ?_) AllReadyH.nil)
      go_simp
      go_at_call 31
      refine Calls.mono (HC0.out _ HA3.out.2.2) ?_
      rintro e w3 ⟨ya0, ym0, yc0, rfl, hO, hC, hY⟩
      dsimp only at hC hY
      have HA4 := (show Hid (At cs a cap b off c w s3 w3) from HA3.out.out hlt hO hC)
      have HB4 := (show Hid (Box4 w3 w1.heap.size (.string t.name) (.string t.text) (.bool t.leaf) (.slice xa xm xc)) from Box4.out HB3.out hO (by omega))
      have HU0_4 := (show Hid (Lies w3 (fun q => w.heap.size + 1 ≤ q) u1 (.slice ya0 ym0 yc0)) from hY.mono (fun q hq => by have h2 := HA3.out.size; exact Nat.le_trans h2 hq))
      have HL4 := (show Hid (Lies w3 (fun q => w.heap.size + 1 ≤ q) t (.slice xa xm xc)) from lies_out HL3.out hO (by omega))
      clear hO hC hY HA3 HB3 HC0 HL3
      have hS1 := Box4.cells HB4.out
      clear hHeld
      refine hK.out _ _ hS1 (fun hHeld => ?_)
      clear hK K
      have hb := bel_alloc w3 (.cells #[.string t.name, .string t.text, .bool t.leaf, .slice xa xm xc, .string u1.name, .string u1.text, .bool u1.leaf, .slice ya0 ym0 yc0] 40)
      have HA5 := (show Hid (At cs a cap b off c w s3 (w3.alloc (.cells #[.string t.name, .string t.text, .bool t.leaf, .slice xa xm xc, .string u1.name, .string u1.text, .bool u1.leaf, .slice ya0 ym0 yc0] 40))) from HA4.out.still hb)
      have HB5 := (show Hid (Box4 (w3.alloc (.cells #[.string t.name, .string t.text, .bool t.leaf, .slice xa xm xc, .string u1.name, .string u1.text, .bool u1.leaf, .slice ya0 ym0 yc0] 40)) w1.heap.size (.string t.name) (.string t.text) (.bool t.leaf) (.slice xa xm xc)) from Box4.still HB4.out hb)
      have HN5 := (show Hid (Lies (w3.alloc (.cells #[.string t.name, .string t.text, .bool t.leaf, .slice xa xm xc, .string u1.name, .string u1.text, .bool u1.leaf, .slice ya0 ym0 yc0] 40)) (fun q => w.heap.size + 1 ≤ q) (nd ⟨#[65, 112, 112]⟩ [t, u1]) (.slice (some ⟨w3.heap.size, 0, none⟩) 2 2)) from lies_two w3 HL4.out HU0_4.out HA4.out.size ⟨#[65, 112, 112]⟩ (by decide))
      clear hb HA4 HB4 HL4 HU0_4
      refine wpAnyH_ready (rs := [5]) (by kernel_rfl) (by simp) ?_
      refine (AllReadyH.cons (o := oD31_14_5) rfl (fun K hK => ?_) AllReadyH.nil)
      go_simp
      have hT := Box4.cells HB5.out
      clear hHeld
      refine hK.out _ _ hT (fun hHeld => ?_)
      clear hK K
      refine wpAnyH_ready (rs := [6]) (by kernel_rfl) (by simp) ?_
      refine (AllReadyH.cons (o := oD31_14_6) rfl (fun K hK => ?_) AllReadyH.nil)
      go_simp
      go_at_call 48
      refine Calls.mono (nodeD_any _ _ _ _ _) ?_
      rintro e w4 ⟨rfl, hb⟩
      have HA6 := (show Hid (At cs a cap b off c w s3 w4) from HA5.out.still hb)
      have HB6 := (show Hid (Box4 w4 w1.heap.size (.string t.name) (.string t.text) (.bool t.leaf) (.slice xa xm xc)) from Box4.still HB5.out hb)
      have HN6 := (show Hid (Lies w4 (fun q => w.heap.size + 1 ≤ q) (nd ⟨#[65, 112, 112]⟩ [t, u1]) (.slice (some ⟨w3.heap.size, 0, none⟩) 2 2)) from Lies.still HN5.out hb)
      clear hb HA5 HB5 HN5
      have hT2 := Box4.cells HB6.out
      clear hHeld
      refine hK.out _ _ hT2 (fun hHeld => ?_)
      clear hK K
      obtain ⟨Z0, Z1, Z2, Z3⟩ := Box4.cells HA6.out.2.1
      have y0 := Box4.frozen HA6.out.2.1 0
      have y1 := Box4.frozen HA6.out.2.1 1
      have y2 := Box4.frozen HA6.out.2.1 2
      have y3 := Box4.frozen HA6.out.2.1 3
      refine wpAnyH_ready (rs := [7]) (by kernel_rfl) (by simp) ?_
      refine (AllReadyH.cons (o := oD31_14_7) rfl (fun K hK => ?_) AllReadyH.nil)
      go_simp
      have hT3 := Box4.cells ((((Box4.past (o := 0) (x := .string ⟨#[65, 112, 112]⟩) HB6.out hne).past (o := 1) (x := .string ByteArray.empty) hne).past (o := 2) (x := .bool false) hne).past (o := 3) (x := .slice (some ⟨w3.heap.size, 0, none⟩) 2 2) hne)
      clear hHeld
      refine hK.out _ _ hT3 (fun hHeld => ?_)
      clear hK K
      refine wpAnyH_done (by kernel_rfl) ?_ _
      clear hHeld
      go_wp2_with fail
      refine bodyPost_ret (v := .agg #[.string ⟨#[65, 112, 112]⟩, .string ByteArray.empty, .bool false, .slice (some ⟨w3.heap.size, 0, none⟩) 2 2]) (by simp [results, Try.results31, go_sem, Z0, Z1, Z2, Z3]) rfl ?_
      rw [HE.out]
      exact drew_at (r := (nd ⟨#[65, 112, 112]⟩ [t, u1], s3)) HA6.out hlt HN6.out
    · skip
      have e0 := HE0.out
      clear HE0
      simp (config := { decide := true }) only [cTmN, if_true, if_false, or_true, true_or, or_false, false_or] at e0
      have hc0 : ∀ wq, Cur wq cs a cap b off c s2 → Calls Try.prog 76 #[.pointer (some ⟨c, 0, none⟩)] wq fun e w' => DrewL cs a cap b off c (cIdT cs s2) wq e w' := fun wq h => drawId_any s2 wq h
      generalize cIdT cs s2 = r at e0 hc0
      obtain ⟨u1, s3⟩ := r
      try dsimp only at e0
      try dsimp only at hc0
      have HC0 := (show Hid _ from hc0); clear hc0
      have hc1 : ∀ wq, Cur wq cs a cap b off c s3 → Calls Try.prog 31 #[.pointer (some ⟨c, 0, none⟩), .int .i64 (d : Nat)] wq fun e w' => DrewL cs a cap b off c (F s3) wq e w' := fun wq h => HIH.out s3 wq h
      generalize F s3 = r at e0 hc1
      obtain ⟨u2, s4⟩ := r
      try dsimp only at e0
      try dsimp only at hc1
      have HC1 := (show Hid _ from hc1); clear hc1
      have HE := (show Hid _ from e0); clear e0
      go_wp2_with fail
      have HA3 := (show Hid (At cs a cap b off c w s2 w2.drew) from HA2.out.drew)
      have HB3 := (show Hid (Box4 w2.drew w1.heap.size (.string t.name) (.string t.text) (.bool t.leaf) (.slice xa xm xc)) from Box4.still HB2.out (Below.refl w2.heap.size w2).drew)
      have HL3 := (show Hid (Lies w2.drew (fun q => w.heap.size + 1 ≤ q) t (.slice xa xm xc)) from Lies.still HL2.out (Below.refl w2.heap.size w2).drew)
      clear HA2 HB2 HL2
      have hS0 := Box4.cells HB3.out
      refine wp_region_held_drew (S := (fun wq => wq.cell? ⟨w1.heap.size, 0, none⟩ = some (.string t.name) ∧ wq.cell? ⟨w1.heap.size, 1, none⟩ = some (.string t.text) ∧ wq.cell? ⟨w1.heap.size, 2, none⟩ = some (.bool t.leaf) ∧ wq.cell? ⟨w1.heap.size, 3, none⟩ = some (.slice xa xm xc))) (by kernel_rfl) hS0 (fun hHeld => ?_)
      refine wpAnyH_take (i := 0) (oi := oD31_16_0) (v := ?v9) rfl (by kernel_rfl) (by kernel_rfl) (by kernel_rfl) (fun _ _ _ h => h) (Or.inl ⟨by rfl, ?h9⟩) hHeld ?r9
      case h9 => (intro w hSw; (try dsimp only at hSw); go_simp; try with_reducible rfl)
      refine wpAnyH_take (i := 2) (oi := oD31_16_2) (v := ?v10) rfl (by kernel_rfl) (by kernel_rfl) (by kernel_rfl) (fun _ _ _ h => h) (Or.inl ⟨by rfl, ?h10⟩) hHeld ?r10
      case h10 => (intro w hSw; (try dsimp only at hSw); go_simp; try with_reducible rfl)
      refine wpAnyH_take (i := 3) (oi := oD31_16_3) (v := ?v11) rfl (by kernel_rfl) (by kernel_rfl) (by kernel_rfl) (fun _ _ _ h => h) (Or.inl ⟨by rfl, ?h11⟩) hHeld ?r11
      case h11 => (intro w hSw; (try dsimp only at hSw); go_simp; try with_reducible rfl)
      refine wpAnyH_take (i := 4) (oi := oD31_16_4) (v := ?v12) rfl (by kernel_rfl) (by kernel_rfl) (by kernel_rfl) (fun _ _ _ h => h) (Or.inl ⟨by rfl, ?h12⟩) hHeld ?r12
      case h12 => (intro w hSw; (try dsimp only at hSw); go_simp; try with_reducible rfl)
      refine wpAnyH_take (i := 5) (oi := oD31_16_5) (v := ?v13) rfl (by kernel_rfl) (by kernel_rfl) (by kernel_rfl) (fun _ _ _ h => h) (Or.inl ⟨by rfl, ?h13⟩) hHeld ?r13
      case h13 => (intro w hSw; (try dsimp only at hSw); go_simp; try with_reducible rfl)
      refine wpAnyH_ready (rs := [1]) (by kernel_rfl) (by simp) ?_
      refine (AllReadyH.cons (o := oD31_16_1) rfl (fun K hK => ?_) AllReadyH.nil)
      go_simp
      go_at_call 76
      refine Calls.mono (HC0.out _ HA3.out.2.2) ?_
      rintro e w3 ⟨ya0, ym0, yc0, rfl, hO, hC, hY⟩
      dsimp only at hC hY
      have HA4 := (show Hid (At cs a cap b off c w s3 w3) from HA3.out.out hlt hO hC)
      have HB4 := (show Hid (Box4 w3 w1.heap.size (.string t.name) (.string t.text) (.bool t.leaf) (.slice xa xm xc)) from Box4.out HB3.out hO (by omega))
      have HU0_4 := (show Hid (Lies w3 (fun q => w.heap.size + 1 ≤ q) u1 (.slice ya0 ym0 yc0)) from hY.mono (fun q hq => by have h2 := HA3.out.size; exact Nat.le_trans h2 hq))
      have HL4 := (show Hid (Lies w3 (fun q => w.heap.size + 1 ≤ q) t (.slice xa xm xc)) from lies_out HL3.out hO (by omega))
      clear hO hC hY HA3 HB3 HC0 HL3
      have hS1 := Box4.cells HB4.out
      clear hHeld
      refine hK.out _ _ hS1 (fun hHeld => ?_)
      clear hK K
      refine wpAnyH_ready (rs := [6]) (by kernel_rfl) (by simp) ?_
      refine (AllReadyH.cons (o := oD31_16_6) rfl (fun K hK => ?_) AllReadyH.nil)
      go_simp
      go_at_call 31
      refine Calls.mono (HC1.out _ HA4.out.2.2) ?_
      rintro e w4 ⟨ya1, ym1, yc1, rfl, hO, hC, hY⟩
      dsimp only at hC hY
      have HA5 := (show Hid (At cs a cap b off c w s4 w4) from HA4.out.out hlt hO hC)
      have HB5 := (show Hid (Box4 w4 w1.heap.size (.string t.name) (.string t.text) (.bool t.leaf) (.slice xa xm xc)) from Box4.out HB4.out hO (by omega))
      have HU1_5 := (show Hid (Lies w4 (fun q => w.heap.size + 1 ≤ q) u2 (.slice ya1 ym1 yc1)) from hY.mono (fun q hq => by have h2 := HA4.out.size; exact Nat.le_trans h2 hq))
      have HL5 := (show Hid (Lies w4 (fun q => w.heap.size + 1 ≤ q) t (.slice xa xm xc)) from lies_out HL4.out hO (by omega))
      have HU0_5 := (show Hid (Lies w4 (fun q => w.heap.size + 1 ≤ q) u1 (.slice ya0 ym0 yc0)) from lies_out HU0_4.out hO (by omega))
      clear hO hC hY HA4 HB4 HC1 HL4 HU0_4
      have hS2 := Box4.cells HB5.out
      clear hHeld
      refine hK.out _ _ hS2 (fun hHeld => ?_)
      clear hK K
      have hb := bel_alloc w4 (.cells #[.string u1.name, .string u1.text, .bool u1.leaf, .slice ya0 ym0 yc0, .string t.name, .string t.text, .bool t.leaf, .slice xa xm xc, .string u2.name, .string u2.text, .bool u2.leaf, .slice ya1 ym1 yc1] 40)
      have HA6 := (show Hid (At cs a cap b off c w s4 (w4.alloc (.cells #[.string u1.name, .string u1.text, .bool u1.leaf, .slice ya0 ym0 yc0, .string t.name, .string t.text, .bool t.leaf, .slice xa xm xc, .string u2.name, .string u2.text, .bool u2.leaf, .slice ya1 ym1 yc1] 40))) from HA5.out.still hb)
      have HB6 := (show Hid (Box4 (w4.alloc (.cells #[.string u1.name, .string u1.text, .bool u1.leaf, .slice ya0 ym0 yc0, .string t.name, .string t.text, .bool t.leaf, .slice xa xm xc, .string u2.name, .string u2.text, .bool u2.leaf, .slice ya1 ym1 yc1] 40)) w1.heap.size (.string t.name) (.string t.text) (.bool t.leaf) (.slice xa xm xc)) from Box4.still HB5.out hb)
      have HN6 := (show Hid (Lies (w4.alloc (.cells #[.string u1.name, .string u1.text, .bool u1.leaf, .slice ya0 ym0 yc0, .string t.name, .string t.text, .bool t.leaf, .slice xa xm xc, .string u2.name, .string u2.text, .bool u2.leaf, .slice ya1 ym1 yc1] 40)) (fun q => w.heap.size + 1 ≤ q) (nd ⟨#[76, 101, 116]⟩ [u1, t, u2]) (.slice (some ⟨w4.heap.size, 0, none⟩) 3 3)) from lies_three w4 HU0_5.out HL5.out HU1_5.out HA5.out.size ⟨#[76, 101, 116]⟩ (by decide))
      clear hb HA5 HB5 HU0_5 HL5 HU1_5
      refine wpAnyH_ready (rs := [7]) (by kernel_rfl) (by simp) ?_
      refine (AllReadyH.cons (o := oD31_16_7) rfl (fun K hK => ?_) AllReadyH.nil)
      go_simp
      have hT := Box4.cells HB6.out
      clear hHeld
      refine hK.out _ _ hT (fun hHeld => ?_)
      clear hK K
      refine wpAnyH_ready (rs := [8]) (by kernel_rfl) (by simp) ?_
      refine (AllReadyH.cons (o := oD31_16_8) rfl (fun K hK => ?_) AllReadyH.nil)
      go_simp
      go_at_call 48
      refine Calls.mono (nodeD_any _ _ _ _ _) ?_
      rintro e w5 ⟨rfl, hb⟩
      have HA7 := (show Hid (At cs a cap b off c w s4 w5) from HA6.out.still hb)
      have HB7 := (show Hid (Box4 w5 w1.heap.size (.string t.name) (.string t.text) (.bool t.leaf) (.slice xa xm xc)) from Box4.still HB6.out hb)
      have HN7 := (show Hid (Lies w5 (fun q => w.heap.size + 1 ≤ q) (nd ⟨#[76, 101, 116]⟩ [u1, t, u2]) (.slice (some ⟨w4.heap.size, 0, none⟩) 3 3)) from Lies.still HN6.out hb)
      clear hb HA6 HB6 HN6
      have hT2 := Box4.cells HB7.out
      clear hHeld
      refine hK.out _ _ hT2 (fun hHeld => ?_)
      clear hK K
      obtain ⟨Z0, Z1, Z2, Z3⟩ := Box4.cells HA7.out.2.1
      have y0 := Box4.frozen HA7.out.2.1 0
      have y1 := Box4.frozen HA7.out.2.1 1
      have y2 := Box4.frozen HA7.out.2.1 2
      have y3 := Box4.frozen HA7.out.2.1 3
      refine wpAnyH_ready (rs := [9]) (by kernel_rfl) (by simp) ?_
      refine (AllReadyH.cons (o := oD31_16_9) rfl (fun K hK => ?_) AllReadyH.nil)
      go_simp
      have hT3 := Box4.cells ((((Box4.past (o := 0) (x := .string ⟨#[76, 101, 116]⟩) HB7.out hne).past (o := 1) (x := .string ByteArray.empty) hne).past (o := 2) (x := .bool false) hne).past (o := 3) (x := .slice (some ⟨w4.heap.size, 0, none⟩) 3 3) hne)
      clear hHeld
      refine hK.out _ _ hT3 (fun hHeld => ?_)
      clear hK K
      refine wpAnyH_done (by kernel_rfl) ?_ _
      clear hHeld
      go_wp2_with fail
      refine bodyPost_ret (v := .agg #[.string ⟨#[76, 101, 116]⟩, .string ByteArray.empty, .bool false, .slice (some ⟨w4.heap.size, 0, none⟩) 3 3]) (by simp [results, Try.results31, go_sem, Z0, Z1, Z2, Z3]) rfl ?_
      rw [HE.out]
      exact drew_at (r := (nd ⟨#[76, 101, 116]⟩ [u1, t, u2], s4)) HA7.out hlt HN7.out
    · skip
      have e0 := HE0.out
      clear HE0
      simp (config := { decide := true }) only [cTmN, if_true, if_false, or_true, true_or, or_false, false_or] at e0
      have hc0 : ∀ wq, Cur wq cs a cap b off c s2 → Calls Try.prog 31 #[.pointer (some ⟨c, 0, none⟩), .int .i64 0] wq fun e w' => DrewL cs a cap b off c (cTm0 cs s2) wq e w' := fun wq h => drawTm0_any s2 wq h
      generalize cTm0 cs s2 = r at e0 hc0
      obtain ⟨u1, s3⟩ := r
      try dsimp only at e0
      try dsimp only at hc0
      have HC0 := (show Hid _ from hc0); clear hc0
      have hc1 : ∀ wq, Cur wq cs a cap b off c s3 → Calls Try.prog 31 #[.pointer (some ⟨c, 0, none⟩), .int .i64 (d : Nat)] wq fun e w' => DrewL cs a cap b off c (F s3) wq e w' := fun wq h => HIH.out s3 wq h
      generalize F s3 = r at e0 hc1
      obtain ⟨u2, s4⟩ := r
      try dsimp only at e0
      try dsimp only at hc1
      have HC1 := (show Hid _ from hc1); clear hc1
      have HE := (show Hid _ from e0); clear e0
      go_wp2_with fail
      have HA3 := (show Hid (At cs a cap b off c w s2 w2.drew) from HA2.out.drew)
      have HB3 := (show Hid (Box4 w2.drew w1.heap.size (.string t.name) (.string t.text) (.bool t.leaf) (.slice xa xm xc)) from Box4.still HB2.out (Below.refl w2.heap.size w2).drew)
      have HL3 := (show Hid (Lies w2.drew (fun q => w.heap.size + 1 ≤ q) t (.slice xa xm xc)) from Lies.still HL2.out (Below.refl w2.heap.size w2).drew)
      clear HA2 HB2 HL2
      have hS0 := Box4.cells HB3.out
      refine wp_region_held_drew (S := (fun wq => wq.cell? ⟨w1.heap.size, 0, none⟩ = some (.string t.name) ∧ wq.cell? ⟨w1.heap.size, 1, none⟩ = some (.string t.text) ∧ wq.cell? ⟨w1.heap.size, 2, none⟩ = some (.bool t.leaf) ∧ wq.cell? ⟨w1.heap.size, 3, none⟩ = some (.slice xa xm xc))) (by kernel_rfl) hS0 (fun hHeld => ?_)
      refine wpAnyH_take (i := 0) (oi := oD31_18_0) (v := ?v14) rfl (by kernel_rfl) (by kernel_rfl) (by kernel_rfl) (fun _ _ _ h => h) (Or.inl ⟨by rfl, ?h14⟩) hHeld ?r14
      case h14 => (intro w hSw; (try dsimp only at hSw); go_simp; try with_reducible rfl)
      refine wpAnyH_take (i := 2) (oi := oD31_18_2) (v := ?v15) rfl (by kernel_rfl) (by kernel_rfl) (by kernel_rfl) (fun _ _ _ h => h) (Or.inl ⟨by rfl, ?h15⟩) hHeld ?r15
      case h15 => (intro w hSw; (try dsimp only at hSw); go_simp; try with_reducible rfl)
      refine wpAnyH_take (i := 3) (oi := oD31_18_3) (v := ?v16) rfl (by kernel_rfl) (by kernel_rfl) (by kernel_rfl) (fun _ _ _ h => h) (Or.inl ⟨by rfl, ?h16⟩) hHeld ?r16
      case h16 => (intro w hSw; (try dsimp only at hSw); go_simp; try with_reducible rfl)
      refine wpAnyH_take (i := 4) (oi := oD31_18_4) (v := ?v17) rfl (by kernel_rfl) (by kernel_rfl) (by kernel_rfl) (fun _ _ _ h => h) (Or.inl ⟨by rfl, ?h17⟩) hHeld ?r17
      case h17 => (intro w hSw; (try dsimp only at hSw); go_simp; try with_reducible rfl)
      refine wpAnyH_take (i := 5) (oi := oD31_18_5) (v := ?v18) rfl (by kernel_rfl) (by kernel_rfl) (by kernel_rfl) (fun _ _ _ h => h) (Or.inl ⟨by rfl, ?h18⟩) hHeld ?r18
      case h18 => (intro w hSw; (try dsimp only at hSw); go_simp; try with_reducible rfl)
      refine wpAnyH_ready (rs := [1]) (by kernel_rfl) (by simp) ?_
      refine (AllReadyH.cons (o := oD31_18_1) rfl (fun K hK => ?_) AllReadyH.nil)
      go_simp
      go_at_call 31
      refine Calls.mono (HC0.out _ HA3.out.2.2) ?_
      rintro e w3 ⟨ya0, ym0, yc0, rfl, hO, hC, hY⟩
      dsimp only at hC hY
      have HA4 := (show Hid (At cs a cap b off c w s3 w3) from HA3.out.out hlt hO hC)
      have HB4 := (show Hid (Box4 w3 w1.heap.size (.string t.name) (.string t.text) (.bool t.leaf) (.slice xa xm xc)) from Box4.out HB3.out hO (by omega))
      have HU0_4 := (show Hid (Lies w3 (fun q => w.heap.size + 1 ≤ q) u1 (.slice ya0 ym0 yc0)) from hY.mono (fun q hq => by have h2 := HA3.out.size; exact Nat.le_trans h2 hq))
      have HL4 := (show Hid (Lies w3 (fun q => w.heap.size + 1 ≤ q) t (.slice xa xm xc)) from lies_out HL3.out hO (by omega))
      clear hO hC hY HA3 HB3 HC0 HL3
      have hS1 := Box4.cells HB4.out
      clear hHeld
      refine hK.out _ _ hS1 (fun hHeld => ?_)
      clear hK K
      refine wpAnyH_ready (rs := [6]) (by kernel_rfl) (by simp) ?_
      refine (AllReadyH.cons (o := oD31_18_6) rfl (fun K hK => ?_) AllReadyH.nil)
      go_simp
      go_at_call 31
      refine Calls.mono (HC1.out _ HA4.out.2.2) ?_
      rintro e w4 ⟨ya1, ym1, yc1, rfl, hO, hC, hY⟩
      dsimp only at hC hY
      have HA5 := (show Hid (At cs a cap b off c w s4 w4) from HA4.out.out hlt hO hC)
      have HB5 := (show Hid (Box4 w4 w1.heap.size (.string t.name) (.string t.text) (.bool t.leaf) (.slice xa xm xc)) from Box4.out HB4.out hO (by omega))
      have HU1_5 := (show Hid (Lies w4 (fun q => w.heap.size + 1 ≤ q) u2 (.slice ya1 ym1 yc1)) from hY.mono (fun q hq => by have h2 := HA4.out.size; exact Nat.le_trans h2 hq))
      have HL5 := (show Hid (Lies w4 (fun q => w.heap.size + 1 ≤ q) t (.slice xa xm xc)) from lies_out HL4.out hO (by omega))
      have HU0_5 := (show Hid (Lies w4 (fun q => w.heap.size + 1 ≤ q) u1 (.slice ya0 ym0 yc0)) from lies_out HU0_4.out hO (by omega))
      clear hO hC hY HA4 HB4 HC1 HL4 HU0_4
      have hS2 := Box4.cells HB5.out
      clear hHeld
      refine hK.out _ _ hS2 (fun hHeld => ?_)
      clear hK K
      have hb := bel_alloc w4 (.cells #[.string u1.name, .string u1.text, .bool u1.leaf, .slice ya0 ym0 yc0, .string t.name, .string t.text, .bool t.leaf, .slice xa xm xc, .string u2.name, .string u2.text, .bool u2.leaf, .slice ya1 ym1 yc1] 40)
      have HA6 := (show Hid (At cs a cap b off c w s4 (w4.alloc (.cells #[.string u1.name, .string u1.text, .bool u1.leaf, .slice ya0 ym0 yc0, .string t.name, .string t.text, .bool t.leaf, .slice xa xm xc, .string u2.name, .string u2.text, .bool u2.leaf, .slice ya1 ym1 yc1] 40))) from HA5.out.still hb)
      have HB6 := (show Hid (Box4 (w4.alloc (.cells #[.string u1.name, .string u1.text, .bool u1.leaf, .slice ya0 ym0 yc0, .string t.name, .string t.text, .bool t.leaf, .slice xa xm xc, .string u2.name, .string u2.text, .bool u2.leaf, .slice ya1 ym1 yc1] 40)) w1.heap.size (.string t.name) (.string t.text) (.bool t.leaf) (.slice xa xm xc)) from Box4.still HB5.out hb)
      have HN6 := (show Hid (Lies (w4.alloc (.cells #[.string u1.name, .string u1.text, .bool u1.leaf, .slice ya0 ym0 yc0, .string t.name, .string t.text, .bool t.leaf, .slice xa xm xc, .string u2.name, .string u2.text, .bool u2.leaf, .slice ya1 ym1 yc1] 40)) (fun q => w.heap.size + 1 ≤ q) (nd ⟨#[73, 102]⟩ [u1, t, u2]) (.slice (some ⟨w4.heap.size, 0, none⟩) 3 3)) from lies_three w4 HU0_5.out HL5.out HU1_5.out HA5.out.size ⟨#[73, 102]⟩ (by decide))
      clear hb HA5 HB5 HU0_5 HL5 HU1_5
      refine wpAnyH_ready (rs := [7]) (by kernel_rfl) (by simp) ?_
      refine (AllReadyH.cons (o := oD31_18_7) rfl (fun K hK => ?_) AllReadyH.nil)
      go_simp
      have hT := Box4.cells HB6.out
      clear hHeld
      refine hK.out _ _ hT (fun hHeld => ?_)
      clear hK K
      refine wpAnyH_ready (rs := [8]) (by kernel_rfl) (by simp) ?_
      refine (AllReadyH.cons (o := oD31_18_8) rfl (fun K hK => ?_) AllReadyH.nil)
      go_simp
      go_at_call 48
      refine Calls.mono (nodeD_any _ _ _ _ _) ?_
      rintro e w5 ⟨rfl, hb⟩
      have HA7 := (show Hid (At cs a cap b off c w s4 w5) from HA6.out.still hb)
      have HB7 := (show Hid (Box4 w5 w1.heap.size (.string t.name) (.string t.text) (.bool t.leaf) (.slice xa xm xc)) from Box4.still HB6.out hb)
      have HN7 := (show Hid (Lies w5 (fun q => w.heap.size + 1 ≤ q) (nd ⟨#[73, 102]⟩ [u1, t, u2]) (.slice (some ⟨w4.heap.size, 0, none⟩) 3 3)) from Lies.still HN6.out hb)
      clear hb HA6 HB6 HN6
      have hT2 := Box4.cells HB7.out
      clear hHeld
      refine hK.out _ _ hT2 (fun hHeld => ?_)
      clear hK K
      obtain ⟨Z0, Z1, Z2, Z3⟩ := Box4.cells HA7.out.2.1
      have y0 := Box4.frozen HA7.out.2.1 0
      have y1 := Box4.frozen HA7.out.2.1 1
      have y2 := Box4.frozen HA7.out.2.1 2
      have y3 := Box4.frozen HA7.out.2.1 3
      refine wpAnyH_ready (rs := [9]) (by kernel_rfl) (by simp) ?_
      refine (AllReadyH.cons (o := oD31_18_9) rfl (fun K hK => ?_) AllReadyH.nil)
      go_simp
      have hT3 := Box4.cells ((((Box4.past (o := 0) (x := .string ⟨#[73, 102]⟩) HB7.out hne).past (o := 1) (x := .string ByteArray.empty) hne).past (o := 2) (x := .bool false) hne).past (o := 3) (x := .slice (some ⟨w4.heap.size, 0, none⟩) 3 3) hne)
      clear hHeld
      refine hK.out _ _ hT3 (fun hHeld => ?_)
      clear hK K
      refine wpAnyH_done (by kernel_rfl) ?_ _
      clear hHeld
      go_wp2_with fail
      refine bodyPost_ret (v := .agg #[.string ⟨#[73, 102]⟩, .string ByteArray.empty, .bool false, .slice (some ⟨w4.heap.size, 0, none⟩) 3 3]) (by simp [results, Try.results31, go_sem, Z0, Z1, Z2, Z3]) rfl ?_
      rw [HE.out]
      exact drew_at (r := (nd ⟨#[73, 102]⟩ [u1, t, u2], s4)) HA7.out hlt HN7.out
    · skip
      have e0 := HE0.out
      clear HE0
      simp (config := { decide := true }) only [cTmN, if_true, if_false, or_true, true_or, or_false, false_or] at e0
      have hc0 : ∀ wq, Cur wq cs a cap b off c s2 → Calls Try.prog 31 #[.pointer (some ⟨c, 0, none⟩), .int .i64 (d : Nat)] wq fun e w' => DrewL cs a cap b off c (F s2) wq e w' := fun wq h => HIH.out s2 wq h
      generalize F s2 = r at e0 hc0
      obtain ⟨u1, s3⟩ := r
      try dsimp only at e0
      try dsimp only at hc0
      have HC0 := (show Hid _ from hc0); clear hc0
      have HE := (show Hid _ from e0); clear e0
      go_wp2_with fail
      have HA3 := (show Hid (At cs a cap b off c w s2 w2.drew) from HA2.out.drew)
      have HB3 := (show Hid (Box4 w2.drew w1.heap.size (.string t.name) (.string t.text) (.bool t.leaf) (.slice xa xm xc)) from Box4.still HB2.out (Below.refl w2.heap.size w2).drew)
      have HL3 := (show Hid (Lies w2.drew (fun q => w.heap.size + 1 ≤ q) t (.slice xa xm xc)) from Lies.still HL2.out (Below.refl w2.heap.size w2).drew)
      clear HA2 HB2 HL2
      have hS0 := Box4.cells HB3.out
      refine wp_region_held_drew (S := (fun wq => wq.cell? ⟨w1.heap.size, 0, none⟩ = some (.string t.name) ∧ wq.cell? ⟨w1.heap.size, 1, none⟩ = some (.string t.text) ∧ wq.cell? ⟨w1.heap.size, 2, none⟩ = some (.bool t.leaf) ∧ wq.cell? ⟨w1.heap.size, 3, none⟩ = some (.slice xa xm xc))) (by kernel_rfl) hS0 (fun hHeld => ?_)
      refine wpAnyH_take (i := 0) (oi := oD31_20_0) (v := ?v19) rfl (by kernel_rfl) (by kernel_rfl) (by kernel_rfl) (fun _ _ _ h => h) (Or.inl ⟨by rfl, ?h19⟩) hHeld ?r19
      case h19 => (intro w hSw; (try dsimp only at hSw); go_simp; try with_reducible rfl)
      refine wpAnyH_take (i := 1) (oi := oD31_20_1) (v := ?v20) rfl (by kernel_rfl) (by kernel_rfl) (by kernel_rfl) (fun _ _ _ h => h) (Or.inl ⟨by rfl, ?h20⟩) hHeld ?r20
      case h20 => (intro w hSw; (try dsimp only at hSw); go_simp; try with_reducible rfl)
      refine wpAnyH_take (i := 2) (oi := oD31_20_2) (v := ?v21) rfl (by kernel_rfl) (by kernel_rfl) (by kernel_rfl) (fun _ _ _ h => h) (Or.inl ⟨by rfl, ?h21⟩) hHeld ?r21
      case h21 => (intro w hSw; (try dsimp only at hSw); go_simp; try with_reducible rfl)
      refine wpAnyH_take (i := 3) (oi := oD31_20_3) (v := ?v22) rfl (by kernel_rfl) (by kernel_rfl) (by kernel_rfl) (fun _ _ _ h => h) (Or.inl ⟨by rfl, ?h22⟩) hHeld ?r22
      case h22 => (intro w hSw; (try dsimp only at hSw); go_simp; try with_reducible rfl)
      refine wpAnyH_ready (rs := [4]) (by kernel_rfl) (by simp) ?_
      refine (AllReadyH.cons (o := oD31_20_4) rfl (fun K hK => ?_) AllReadyH.nil)
      go_simp
      go_at_call 31
      refine Calls.mono (HC0.out _ HA3.out.2.2) ?_
      rintro e w3 ⟨ya0, ym0, yc0, rfl, hO, hC, hY⟩
      dsimp only at hC hY
      have HA4 := (show Hid (At cs a cap b off c w s3 w3) from HA3.out.out hlt hO hC)
      have HB4 := (show Hid (Box4 w3 w1.heap.size (.string t.name) (.string t.text) (.bool t.leaf) (.slice xa xm xc)) from Box4.out HB3.out hO (by omega))
      have HU0_4 := (show Hid (Lies w3 (fun q => w.heap.size + 1 ≤ q) u1 (.slice ya0 ym0 yc0)) from hY.mono (fun q hq => by have h2 := HA3.out.size; exact Nat.le_trans h2 hq))
      have HL4 := (show Hid (Lies w3 (fun q => w.heap.size + 1 ≤ q) t (.slice xa xm xc)) from lies_out HL3.out hO (by omega))
      clear hO hC hY HA3 HB3 HC0 HL3
      have hS1 := Box4.cells HB4.out
      clear hHeld
      refine hK.out _ _ hS1 (fun hHeld => ?_)
      clear hK K
      have hb := bel_alloc w3 (.cells #[.string t.name, .string t.text, .bool t.leaf, .slice xa xm xc, .string u1.name, .string u1.text, .bool u1.leaf, .slice ya0 ym0 yc0] 40)
      have HA5 := (show Hid (At cs a cap b off c w s3 (w3.alloc (.cells #[.string t.name, .string t.text, .bool t.leaf, .slice xa xm xc, .string u1.name, .string u1.text, .bool u1.leaf, .slice ya0 ym0 yc0] 40))) from HA4.out.still hb)
      have HB5 := (show Hid (Box4 (w3.alloc (.cells #[.string t.name, .string t.text, .bool t.leaf, .slice xa xm xc, .string u1.name, .string u1.text, .bool u1.leaf, .slice ya0 ym0 yc0] 40)) w1.heap.size (.string t.name) (.string t.text) (.bool t.leaf) (.slice xa xm xc)) from Box4.still HB4.out hb)
      have HN5 := (show Hid (Lies (w3.alloc (.cells #[.string t.name, .string t.text, .bool t.leaf, .slice xa xm xc, .string u1.name, .string u1.text, .bool u1.leaf, .slice ya0 ym0 yc0] 40)) (fun q => w.heap.size + 1 ≤ q) (nd ⟨#[65, 100, 100]⟩ [t, u1]) (.slice (some ⟨w3.heap.size, 0, none⟩) 2 2)) from lies_two w3 HL4.out HU0_4.out HA4.out.size ⟨#[65, 100, 100]⟩ (by decide))
      clear hb HA4 HB4 HL4 HU0_4
      refine wpAnyH_ready (rs := [5]) (by kernel_rfl) (by simp) ?_
      refine (AllReadyH.cons (o := oD31_20_5) rfl (fun K hK => ?_) AllReadyH.nil)
      go_simp
      have hT := Box4.cells HB5.out
      clear hHeld
      refine hK.out _ _ hT (fun hHeld => ?_)
      clear hK K
      refine wpAnyH_ready (rs := [6]) (by kernel_rfl) (by simp) ?_
      refine (AllReadyH.cons (o := oD31_20_6) rfl (fun K hK => ?_) AllReadyH.nil)
      go_simp
      go_at_call 48
      refine Calls.mono (nodeD_any _ _ _ _ _) ?_
      rintro e w4 ⟨rfl, hb⟩
      have HA6 := (show Hid (At cs a cap b off c w s3 w4) from HA5.out.still hb)
      have HB6 := (show Hid (Box4 w4 w1.heap.size (.string t.name) (.string t.text) (.bool t.leaf) (.slice xa xm xc)) from Box4.still HB5.out hb)
      have HN6 := (show Hid (Lies w4 (fun q => w.heap.size + 1 ≤ q) (nd ⟨#[65, 100, 100]⟩ [t, u1]) (.slice (some ⟨w3.heap.size, 0, none⟩) 2 2)) from Lies.still HN5.out hb)
      clear hb HA5 HB5 HN5
      have hT2 := Box4.cells HB6.out
      clear hHeld
      refine hK.out _ _ hT2 (fun hHeld => ?_)
      clear hK K
      obtain ⟨Z0, Z1, Z2, Z3⟩ := Box4.cells HA6.out.2.1
      have y0 := Box4.frozen HA6.out.2.1 0
      have y1 := Box4.frozen HA6.out.2.1 1
      have y2 := Box4.frozen HA6.out.2.1 2
      have y3 := Box4.frozen HA6.out.2.1 3
      refine wpAnyH_ready (rs := [7]) (by kernel_rfl) (by simp) ?_
      refine (AllReadyH.cons (o := oD31_20_7) rfl (fun K hK => ?_) AllReadyH.nil)
      go_simp
      have hT3 := Box4.cells ((((Box4.past (o := 0) (x := .string ⟨#[65, 100, 100]⟩) HB6.out hne).past (o := 1) (x := .string ByteArray.empty) hne).past (o := 2) (x := .bool false) hne).past (o := 3) (x := .slice (some ⟨w3.heap.size, 0, none⟩) 2 2) hne)
      clear hHeld
      refine hK.out _ _ hT3 (fun hHeld => ?_)
      clear hK K
      refine wpAnyH_done (by kernel_rfl) ?_ _
      clear hHeld
      go_wp2_with fail
      refine bodyPost_ret (v := .agg #[.string ⟨#[65, 100, 100]⟩, .string ByteArray.empty, .bool false, .slice (some ⟨w3.heap.size, 0, none⟩) 2 2]) (by simp [results, Try.results31, go_sem, Z0, Z1, Z2, Z3]) rfl ?_
      rw [HE.out]
      exact drew_at (r := (nd ⟨#[65, 100, 100]⟩ [t, u1], s3)) HA6.out hlt HN6.out
    · skip
      have e0 := HE0.out
      clear HE0
      simp (config := { decide := true }) only [cTmN, if_true, if_false, or_true, true_or, or_false, false_or] at e0
      have hc0 : ∀ wq, Cur wq cs a cap b off c s2 → Calls Try.prog 31 #[.pointer (some ⟨c, 0, none⟩), .int .i64 0] wq fun e w' => DrewL cs a cap b off c (cTm0 cs s2) wq e w' := fun wq h => drawTm0_any s2 wq h
      generalize cTm0 cs s2 = r at e0 hc0
      obtain ⟨u1, s3⟩ := r
      try dsimp only at e0
      try dsimp only at hc0
      have HC0 := (show Hid _ from hc0); clear hc0
      have HE := (show Hid _ from e0); clear e0
      go_wp2_with fail
      have HA3 := (show Hid (At cs a cap b off c w s2 w2.drew) from HA2.out.drew)
      have HB3 := (show Hid (Box4 w2.drew w1.heap.size (.string t.name) (.string t.text) (.bool t.leaf) (.slice xa xm xc)) from Box4.still HB2.out (Below.refl w2.heap.size w2).drew)
      have HL3 := (show Hid (Lies w2.drew (fun q => w.heap.size + 1 ≤ q) t (.slice xa xm xc)) from Lies.still HL2.out (Below.refl w2.heap.size w2).drew)
      clear HA2 HB2 HL2
      have hS0 := Box4.cells HB3.out
      refine wp_region_held_drew (S := (fun wq => wq.cell? ⟨w1.heap.size, 0, none⟩ = some (.string t.name) ∧ wq.cell? ⟨w1.heap.size, 1, none⟩ = some (.string t.text) ∧ wq.cell? ⟨w1.heap.size, 2, none⟩ = some (.bool t.leaf) ∧ wq.cell? ⟨w1.heap.size, 3, none⟩ = some (.slice xa xm xc))) (by kernel_rfl) hS0 (fun hHeld => ?_)
      refine wpAnyH_take (i := 0) (oi := oD31_22_0) (v := ?v23) rfl (by kernel_rfl) (by kernel_rfl) (by kernel_rfl) (fun _ _ _ h => h) (Or.inl ⟨by rfl, ?h23⟩) hHeld ?r23
      case h23 => (intro w hSw; (try dsimp only at hSw); go_simp; try with_reducible rfl)
      refine wpAnyH_take (i := 1) (oi := oD31_22_1) (v := ?v24) rfl (by kernel_rfl) (by kernel_rfl) (by kernel_rfl) (fun _ _ _ h => h) (Or.inl ⟨by rfl, ?h24⟩) hHeld ?r24
      case h24 => (intro w hSw; (try dsimp only at hSw); go_simp; try with_reducible rfl)
      refine wpAnyH_ready (rs := [2]) (by kernel_rfl) (by simp) ?_
      refine (AllReadyH.cons (o := oD31_22_2) rfl (fun K hK => ?_) AllReadyH.nil)
      go_simp
      go_at_call 31
      refine Calls.mono (HC0.out _ HA3.out.2.2) ?_
      rintro e w3 ⟨ya0, ym0, yc0, rfl, hO, hC, hY⟩
      dsimp only at hC hY
      have HA4 := (show Hid (At cs a cap b off c w s3 w3) from HA3.out.out hlt hO hC)
      have HB4 := (show Hid (Box4 w3 w1.heap.size (.string t.name) (.string t.text) (.bool t.leaf) (.slice xa xm xc)) from Box4.out HB3.out hO (by omega))
      have HU0_4 := (show Hid (Lies w3 (fun q => w.heap.size + 1 ≤ q) u1 (.slice ya0 ym0 yc0)) from hY.mono (fun q hq => by have h2 := HA3.out.size; exact Nat.le_trans h2 hq))
      have HL4 := (show Hid (Lies w3 (fun q => w.heap.size + 1 ≤ q) t (.slice xa xm xc)) from lies_out HL3.out hO (by omega))
      clear hO hC hY HA3 HB3 HC0 HL3
      have hS1 := Box4.cells HB4.out
      clear hHeld
      refine hK.out _ _ hS1 (fun hHeld => ?_)
      clear hK K
      have hb := bel_alloc w3 (.cells #[.string t.name, .string t.text, .bool t.leaf, .slice xa xm xc, .string u1.name, .string u1.text, .bool u1.leaf, .slice ya0 ym0 yc0] 40)
      have HA5 := (show Hid (At cs a cap b off c w s3 (w3.alloc (.cells #[.string t.name, .string t.text, .bool t.leaf, .slice xa xm xc, .string u1.name, .string u1.text, .bool u1.leaf, .slice ya0 ym0 yc0] 40))) from HA4.out.still hb)
      have HB5 := (show Hid (Box4 (w3.alloc (.cells #[.string t.name, .string t.text, .bool t.leaf, .slice xa xm xc, .string u1.name, .string u1.text, .bool u1.leaf, .slice ya0 ym0 yc0] 40)) w1.heap.size (.string t.name) (.string t.text) (.bool t.leaf) (.slice xa xm xc)) from Box4.still HB4.out hb)
      have HN5 := (show Hid (Lies (w3.alloc (.cells #[.string t.name, .string t.text, .bool t.leaf, .slice xa xm xc, .string u1.name, .string u1.text, .bool u1.leaf, .slice ya0 ym0 yc0] 40)) (fun q => w.heap.size + 1 ≤ q) (nd ⟨#[69, 113]⟩ [t, u1]) (.slice (some ⟨w3.heap.size, 0, none⟩) 2 2)) from lies_two w3 HL4.out HU0_4.out HA4.out.size ⟨#[69, 113]⟩ (by decide))
      clear hb HA4 HB4 HL4 HU0_4
      refine wpAnyH_ready (rs := [3]) (by kernel_rfl) (by simp) ?_
      refine (AllReadyH.cons (o := oD31_22_3) rfl (fun K hK => ?_) AllReadyH.nil)
      go_simp
      have hT := Box4.cells HB5.out
      clear hHeld
      refine hK.out _ _ hT (fun hHeld => ?_)
      clear hK K
      refine wpAnyH_ready (rs := [4]) (by kernel_rfl) (by simp) ?_
      refine (AllReadyH.cons (o := oD31_22_4) rfl (fun K hK => ?_) AllReadyH.nil)
      go_simp
      go_at_call 48
      refine Calls.mono (nodeD_any _ _ _ _ _) ?_
      rintro e w4 ⟨rfl, hb⟩
      have HA6 := (show Hid (At cs a cap b off c w s3 w4) from HA5.out.still hb)
      have HB6 := (show Hid (Box4 w4 w1.heap.size (.string t.name) (.string t.text) (.bool t.leaf) (.slice xa xm xc)) from Box4.still HB5.out hb)
      have HN6 := (show Hid (Lies w4 (fun q => w.heap.size + 1 ≤ q) (nd ⟨#[69, 113]⟩ [t, u1]) (.slice (some ⟨w3.heap.size, 0, none⟩) 2 2)) from Lies.still HN5.out hb)
      clear hb HA5 HB5 HN5
      have hT2 := Box4.cells HB6.out
      clear hHeld
      refine hK.out _ _ hT2 (fun hHeld => ?_)
      clear hK K
      obtain ⟨Z0, Z1, Z2, Z3⟩ := Box4.cells HA6.out.2.1
      have y0 := Box4.frozen HA6.out.2.1 0
      have y1 := Box4.frozen HA6.out.2.1 1
      have y2 := Box4.frozen HA6.out.2.1 2
      have y3 := Box4.frozen HA6.out.2.1 3
      refine wpAnyH_ready (rs := [5]) (by kernel_rfl) (by simp) ?_
      refine (AllReadyH.cons (o := oD31_22_5) rfl (fun K hK => ?_) AllReadyH.nil)
      go_simp
      have hT3 := Box4.cells ((((Box4.past (o := 0) (x := .string ⟨#[69, 113]⟩) HB6.out hne).past (o := 1) (x := .string ByteArray.empty) hne).past (o := 2) (x := .bool false) hne).past (o := 3) (x := .slice (some ⟨w3.heap.size, 0, none⟩) 2 2) hne)
      clear hHeld
      refine hK.out _ _ hT3 (fun hHeld => ?_)
      clear hK K
      refine wpAnyH_done (by kernel_rfl) ?_ _
      clear hHeld
      go_wp2_with fail
      refine bodyPost_ret (v := .agg #[.string ⟨#[69, 113]⟩, .string ByteArray.empty, .bool false, .slice (some ⟨w3.heap.size, 0, none⟩) 2 2]) (by simp [results, Try.results31, go_sem, Z0, Z1, Z2, Z3]) rfl ?_
      rw [HE.out]
      exact drew_at (r := (nd ⟨#[69, 113]⟩ [t, u1], s3)) HA6.out hlt HN6.out
    · skip
      have e0 := HE0.out
      clear HE0
      simp (config := { decide := true }) only [cTmN, if_true, if_false, or_true, true_or, or_false, false_or] at e0
      have hc0 : ∀ wq, Cur wq cs a cap b off c s2 → Calls Try.prog 31 #[.pointer (some ⟨c, 0, none⟩), .int .i64 0] wq fun e w' => DrewL cs a cap b off c (cTm0 cs s2) wq e w' := fun wq h => drawTm0_any s2 wq h
      generalize cTm0 cs s2 = r at e0 hc0
      obtain ⟨u1, s3⟩ := r
      try dsimp only at e0
      try dsimp only at hc0
      have HC0 := (show Hid _ from hc0); clear hc0
      have HE := (show Hid _ from e0); clear e0
      go_wp2_with fail
      refine Calls.mono (HC0.out _ HA2.out.2.2) ?_
      rintro e w3 ⟨ya, ym, yc, rfl, ho3, hc3, hl3⟩
      dsimp only at hc3 hl3
      have HA3 := (show Hid (At cs a cap b off c w s3 w3) from HA2.out.out hlt ho3 hc3)
      have HY := (show Hid (Lies w3 (fun q => w.heap.size + 1 ≤ q) u1 (.slice ya ym yc)) from hl3.mono (fun q hq => by have h1 : w2.heap.size ≤ q := hq; have h2 := HA2.out.size; show w.heap.size + 1 ≤ q; omega))
      clear ho3 hc3 hl3 HC0 HA2 HB2 HL2
      obtain ⟨Z0, Z1, Z2, Z3⟩ := Box4.cells HA3.out.2.1
      have y0 := Box4.frozen HA3.out.2.1 0
      have y1 := Box4.frozen HA3.out.2.1 1
      have y2 := Box4.frozen HA3.out.2.1 2
      have y3 := Box4.frozen HA3.out.2.1 3
      go_wp2_with fail
      refine bodyPost_ret (v := .agg #[.string u1.name, .string u1.text, .bool u1.leaf, .slice ya ym yc]) (by simp [results, Try.results31, go_sem, Z0, Z1, Z2, Z3]) rfl ?_
      rw [HE.out]
      exact drew_at (r := (u1, s3)) HA3.out hlt HY.out
end Go.Proofs.Ytledclkmeikgdaa.T
