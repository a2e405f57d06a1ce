import Derived.Test.YtaimlmjgicmbeaaDg
import Derived.Test.YtaimlmjgicmbeaaDh1
import Derived.WalkSmall
import Derived.BigQuiet
import Derived.WalkLawsBesides
import Derived.BigRegion
import Derived.Deep.CutRange
import Derived.Deep.RegionHeld3
/-! The specification: a derivation is read. -/
namespace Go.Proofs.Ytaimlmjgicmbeaa
open Go.RowKit Go.Deep
set_option linter.unusedVariables false
set_option maxRecDepth 100000
set_option linter.unusedSimpArgs false

theorem info64p : (Try.prog.info? 48).map (fun i => (i.zero, i.size, i.bytes)) = some (some (.agg #[.int .i64 0, .slice none 0 0]), 2, 32) := by kernel_rfl
set_option maxHeartbeats 25600000 in
theorem non_n {d : Bn} {L : List Int} {S : Nat → Prop} {R : Nat} {v0 v1 v3 vd : Value} (hok : bnB d = true) (hL : L.length ≤ 4000) : ∀ (f : Nat) (s : Int) (a : Nat) (w : World), RdS d L S R v0 v1 v3 vd w a false → L.length - a < f → a ≤ L.length → 0 ≤ s → s ≤ 160 → ¬ s < (d.terms.length : Int) →
    Calls Try.prog 43 #[.pointer (some ⟨R, 0, none⟩), .int .i64 (s - d.terms.length)] w fun e w' => RsA d L S R v0 v1 v3 vd f s a w e w' := by
  intro f
  induction f with
  | zero => intro s a w h hf; omega
  | succ f ih =>
  intro s a w h hf ha hs0 hs1 hn
  have IH := (show Hid _ from ih)
  clear ih
  have HRS := (show Hid _ from h)
  obtain ⟨hT, jk1, jk2, jk3, jk4, hPn⟩ := szB_of hok
  obtain ⟨a0, c0, a1, c1, a3', c3', rfl, rfl, jk0⟩ := h.lies.form
  clear jk0 jk1 jk2 jk3 jk4 a3' c3'
  obtain ⟨a3, c3, bp, op, rfl, hcp, hpr⟩ := prod_cellsS h.lies
  obtain ⟨an, c, bn, on, rfl, hc, hm, hcell⟩ := h.num
  have HCE := (show Hid _ from hcell)
  have HPR := (show Hid _ from hpr)
  have hlr := h.lt
  rw [Nat.sub_zero] at *
  unfold maxLen at hm
  have hb0 := bel_alloc w (.cells #[.int .i64 0, .slice none 0 0] 48)
  have HB0 := (show Hid _ from hb0)
  have HRW := (show Hid _ from fun (w' : World) (hb : Below w.heap.size w w') => (h.box.still hb))
  have HRK := (show Hid _ from fun (w' : World) (hb : Below w.heap.size w w') => (show RdS d L S R (.slice a0 d.terms.length c0) (.slice a1 d.nons.length c1) (.slice a3 d.prods.length c3) (.slice an L.length c) w' a false from HRS.out.keep (fun b hb2 => hb.block b (by omega))))
  have HBE := (show Hid _ from (Below.refl (w.alloc (.cells #[.int .i64 0, .slice none 0 0] 48)).heap.size (w.alloc (.cells #[.int .i64 0, .slice none 0 0] 48))).drew)
  have HCELL := (show Hid _ from fun (w' : World) (hk : Kp w.heap.size R w w') (q o : Nat) (v : Value) (hS : S q) (h2 : w.cell? ⟨q, o, none⟩ = some v) => (show w'.cell? ⟨q, o, none⟩ = some v from (hk.cell (p := ⟨q, o, none⟩) (lt_of_cell h2) (by show q ≠ R; have := HRS.out.ns q hS; omega)).trans h2))
  have hbx := HRW.out (w.alloc (.cells #[.int .i64 0, .slice none 0 0] 48)).drew hb0.drew
  have x0 := hbx.cell 0 (by simp)
  have x1 := hbx.cell 1 (by simp)
  have x2 := hbx.cell 2 (by simp)
  have x3 := hbx.cell 3 (by simp)
  have x4 := hbx.cell 4 (by simp)
  have x5 := hbx.cell 5 (by simp)
  have x6 := hbx.cell 6 (by simp)
  simp only [List.getD_cons_zero, List.getD_cons_succ] at x0 x1 x2 x3 x4 x5 x6
  have hres := Box.new w 48 [.int .i64 0, .slice none 0 0]
  have HRES := (show Hid _ from hres)
  clear hcell hpr hbx hb0 h hres
  go_enter Try.func43, Try.ntmps43
  go_upto_region 1 with fail
  go_cut [72] from 9 to 71 (fun v wx => v = .bool (!okAt d L s a) ∧ Hid (Below (w.alloc (.cells #[.int .i64 0, .slice none 0 0] 48)).heap.size (w.alloc (.cells #[.int .i64 0, .slice none 0 0] 48)) wx))
  case first =>
    clear IH HRS HRK HRW HRES
    by_cases hal : a = L.length
    · have HOF : Hid ((!okAt d L s a) = true) := by
        show (!okAt d L s a) = true
        unfold okAt; rw [decide_eq_false (by omega)]; rfl
      have iA : decide ((a : Int) ≥ (L.length : Int)) = true := by simp; omega
      have hS0 := (⟨x6, x5, x4⟩ : (w.alloc (.cells #[.int .i64 0, .slice none 0 0] 48)).drew.cell? ⟨R, 6, none⟩ = some (.bool false) ∧ (w.alloc (.cells #[.int .i64 0, .slice none 0 0] 48)).drew.cell? ⟨R, 5, none⟩ = some (.int .i64 a) ∧ (w.alloc (.cells #[.int .i64 0, .slice none 0 0] 48)).drew.cell? ⟨R, 4, none⟩ = some (.slice an L.length c))
      clear x0 x1 x2 x3 x4 x5 x6 HCE HPR HCELL
      refine wp_region_held_drew (S := (fun w' => w'.cell? ⟨R, 6, none⟩ = some (.bool false) ∧ w'.cell? ⟨R, 5, none⟩ = some (.int .i64 a) ∧ w'.cell? ⟨R, 4, none⟩ = some (.slice an L.length c))) (by kernel_rfl) hS0 (fun hHeld => ?_)
      refine wpAnyH_take (i := 0) (oi := { dst := some 9, op := Go.Op.move (Go.Operand.tmp 0), type := 75, pos := "l06_parsing.go:134", after := #[], guard := none }) (v := ?v1) rfl (by kernel_rfl) (by kernel_rfl) (by kernel_rfl) (fun _ _ _ h => h) (Or.inl ⟨by rfl, ?h1⟩) hHeld ?r1
      case h1 => (intro w hSw; (try dsimp only at hSw); go_simp; try with_reducible rfl)
      try simp only [Act.put, List.setIfInBounds_toArray, List.set_cons_zero, List.set_cons_succ]
      refine wpAnyH_take (i := 1) (oi := { dst := some 10, op := Go.Op.nilCheck (Go.Operand.tmp 9), type := 0, pos := "l06_parsing.go:134", after := #[{ on := 0, ground := Go.Ground.data }], guard := none }) (v := ?v2) rfl (by kernel_rfl) (by kernel_rfl) (by kernel_rfl) (fun _ _ _ h => h) (Or.inl ⟨by rfl, ?h2⟩) hHeld ?r2
      case h2 => (intro w hSw; (try dsimp only at hSw); go_simp; try with_reducible rfl)
      try simp only [Act.put, List.setIfInBounds_toArray, List.set_cons_zero, List.set_cons_succ]
      refine wpAnyH_take (i := 2) (oi := { dst := some 11, op := Go.Op.fieldAddr 77 (Go.Operand.tmp 10) 3, type := 0, pos := "l06_parsing.go:134", after := #[{ on := 1, ground := Go.Ground.data }], guard := none }) (v := ?v3) rfl (by kernel_rfl) (by kernel_rfl) (by kernel_rfl) (fun _ _ _ h => h) (Or.inl ⟨by rfl, ?h3⟩) hHeld ?r3
      case h3 => (intro w hSw; (try dsimp only at hSw); go_simp; try with_reducible rfl)
      try simp only [Act.put, List.setIfInBounds_toArray, List.set_cons_zero, List.set_cons_succ]
      refine wpAnyH_take (i := 3) (oi := { dst := some 12, op := Go.Op.load 4 (Go.Operand.tmp 11), type := 4, pos := "l06_parsing.go:134", after := #[{ on := 2, ground := Go.Ground.data }], guard := none }) (v := ?v4) rfl (by kernel_rfl) (by kernel_rfl) (by kernel_rfl) (fun _ _ _ h => h) (Or.inl ⟨by rfl, ?h4⟩) hHeld ?r4
      case h4 => (intro w hSw; (try dsimp only at hSw); go_simp; try with_reducible rfl)
      try simp only [Act.put, List.setIfInBounds_toArray, List.set_cons_zero, List.set_cons_succ]
      refine wpAnyH_take (i := 4) (oi := { dst := some 13, op := Go.Op.move (Go.Operand.tmp 12), type := 4, pos := "l06_parsing.go:134", after := #[{ on := 3, ground := Go.Ground.data }], guard := none }) (v := ?v5) rfl (by kernel_rfl) (by kernel_rfl) (by kernel_rfl) (fun _ _ _ h => h) (Or.inl ⟨by rfl, ?h5⟩) hHeld ?r5
      case h5 => (intro w hSw; (try dsimp only at hSw); go_simp; try with_reducible rfl)
      try simp only [Act.put, List.setIfInBounds_toArray, List.set_cons_zero, List.set_cons_succ]
      refine wpAnyH_take (i := 5) (oi := { dst := some 14, op := Go.Op.move (Go.Operand.tmp 0), type := 75, pos := "l06_parsing.go:134", after := #[{ on := 4, ground := Go.Ground.guard }], guard := some (4, false) }) (v := ?v6) rfl (by kernel_rfl) (by kernel_rfl) (by kernel_rfl) (fun _ _ _ h => h) (Or.inl ⟨by rfl, ?h6⟩) hHeld ?r6
      case h6 => (intro w hSw; (try dsimp only at hSw); go_simp; try with_reducible rfl)
      try simp only [Act.put, List.setIfInBounds_toArray, List.set_cons_zero, List.set_cons_succ]
      refine wpAnyH_take (i := 6) (oi := { dst := some 15, op := Go.Op.nilCheck (Go.Operand.tmp 14), type := 0, pos := "l06_parsing.go:134", after := #[{ on := 5, ground := Go.Ground.data }, { on := 4, ground := Go.Ground.guard }], guard := some (4, false) }) (v := ?v7) rfl (by kernel_rfl) (by kernel_rfl) (by kernel_rfl) (fun _ _ _ h => h) (Or.inl ⟨by rfl, ?h7⟩) hHeld ?r7
      case h7 => (intro w hSw; (try dsimp only at hSw); go_simp; try with_reducible rfl)
      try simp only [Act.put, List.setIfInBounds_toArray, List.set_cons_zero, List.set_cons_succ]
      refine wpAnyH_take (i := 7) (oi := { dst := some 16, op := Go.Op.fieldAddr 77 (Go.Operand.tmp 15) 2, type := 0, pos := "l06_parsing.go:134", after := #[{ on := 6, ground := Go.Ground.data }, { on := 4, ground := Go.Ground.guard }], guard := some (4, false) }) (v := ?v8) rfl (by kernel_rfl) (by kernel_rfl) (by kernel_rfl) (fun _ _ _ h => h) (Or.inl ⟨by rfl, ?h8⟩) hHeld ?r8
      case h8 => (intro w hSw; (try dsimp only at hSw); go_simp; try with_reducible rfl)
      try simp only [Act.put, List.setIfInBounds_toArray, List.set_cons_zero, List.set_cons_succ]
      refine wpAnyH_take (i := 8) (oi := { dst := some 17, op := Go.Op.load 3 (Go.Operand.tmp 16), type := 3, pos := "l06_parsing.go:134", after := #[{ on := 7, ground := Go.Ground.data }, { on := 4, ground := Go.Ground.guard }], guard := some (4, false) }) (v := ?v9) rfl (by kernel_rfl) (by kernel_rfl) (by kernel_rfl) (fun _ _ _ h => h) (Or.inl ⟨by rfl, ?h9⟩) hHeld ?r9
      case h9 => (intro w hSw; (try dsimp only at hSw); go_simp; try with_reducible rfl)
      try simp only [Act.put, List.setIfInBounds_toArray, List.set_cons_zero, List.set_cons_succ]
      refine wpAnyH_take (i := 9) (oi := { dst := some 18, op := Go.Op.move (Go.Operand.tmp 0), type := 75, pos := "l06_parsing.go:134", after := #[{ on := 4, ground := Go.Ground.guard }], guard := some (4, false) }) (v := ?v10) rfl (by kernel_rfl) (by kernel_rfl) (by kernel_rfl) (fun _ _ _ h => h) (Or.inl ⟨by rfl, ?h10⟩) hHeld ?r10
      case h10 => (intro w hSw; (try dsimp only at hSw); go_simp; try with_reducible rfl)
      try simp only [Act.put, List.setIfInBounds_toArray, List.set_cons_zero, List.set_cons_succ]
      refine wpAnyH_take (i := 10) (oi := { dst := some 19, op := Go.Op.nilCheck (Go.Operand.tmp 18), type := 0, pos := "l06_parsing.go:134", after := #[{ on := 9, ground := Go.Ground.data }, { on := 4, ground := Go.Ground.guard }], guard := some (4, false) }) (v := ?v11) rfl (by kernel_rfl) (by kernel_rfl) (by kernel_rfl) (fun _ _ _ h => h) (Or.inl ⟨by rfl, ?h11⟩) hHeld ?r11
      case h11 => (intro w hSw; (try dsimp only at hSw); go_simp; try with_reducible rfl)
      try simp only [Act.put, List.setIfInBounds_toArray, List.set_cons_zero, List.set_cons_succ]
      refine wpAnyH_take (i := 11) (oi := { dst := some 20, op := Go.Op.fieldAddr 77 (Go.Operand.tmp 19) 1, type := 0, pos := "l06_parsing.go:134", after := #[{ on := 10, ground := Go.Ground.data }, { on := 4, ground := Go.Ground.guard }], guard := some (4, false) }) (v := ?v12) rfl (by kernel_rfl) (by kernel_rfl) (by kernel_rfl) (fun _ _ _ h => h) (Or.inl ⟨by rfl, ?h12⟩) hHeld ?r12
      case h12 => (intro w hSw; (try dsimp only at hSw); go_simp; try with_reducible rfl)
      try simp only [Act.put, List.setIfInBounds_toArray, List.set_cons_zero, List.set_cons_succ]
      refine wpAnyH_take (i := 12) (oi := { dst := some 21, op := Go.Op.load 27 (Go.Operand.tmp 20), type := 27, pos := "l06_parsing.go:134", after := #[{ on := 11, ground := Go.Ground.data }, { on := 4, ground := Go.Ground.guard }], guard := some (4, false) }) (v := ?v13) rfl (by kernel_rfl) (by kernel_rfl) (by kernel_rfl) (fun _ _ _ h => h) (Or.inl ⟨by rfl, ?h13⟩) hHeld ?r13
      case h13 => (intro w hSw; (try dsimp only at hSw); go_simp; try with_reducible rfl)
      try simp only [Act.put, List.setIfInBounds_toArray, List.set_cons_zero, List.set_cons_succ]
      refine wpAnyH_take (i := 13) (oi := { dst := some 22, op := Go.Op.call { callee := Go.Callee.builtin Go.Builtin.len, args := #[Go.Operand.tmp 21], argTypes := #[27] }, type := 3, pos := "l06_parsing.go:134", after := #[{ on := 12, ground := Go.Ground.data }, { on := 4, ground := Go.Ground.guard }], guard := some (4, false) }) (v := ?v14) rfl (by kernel_rfl) (by kernel_rfl) (by kernel_rfl) (fun _ _ _ h => h) (Or.inl ⟨by rfl, ?h14⟩) hHeld ?r14
      case h14 => (intro w hSw; (try dsimp only at hSw); go_simp; try with_reducible rfl)
      try simp only [Act.put, List.setIfInBounds_toArray, List.set_cons_zero, List.set_cons_succ]
      refine wpAnyH_take (i := 14) (oi := { dst := some 23, op := Go.Op.binOp Go.BinOp.geq 3 (Go.Operand.tmp 17) (Go.Operand.tmp 22) 3, type := 4, pos := "l06_parsing.go:134", after := #[{ on := 8, ground := Go.Ground.data }, { on := 13, ground := Go.Ground.data }, { on := 4, ground := Go.Ground.guard }], guard := some (4, false) }) (v := ?v15) rfl (by kernel_rfl) (by kernel_rfl) (by kernel_rfl) (fun _ _ _ h => h) (Or.inl ⟨by rfl, ?h15⟩) hHeld ?r15
      case h15 => (intro w hSw; (try dsimp only at hSw); go_simp; try with_reducible rfl)
      try simp only [Act.put, List.setIfInBounds_toArray, List.set_cons_zero, List.set_cons_succ]
      refine wpAnyH_take (i := 15) (oi := { dst := some 24, op := Go.Op.pick (Go.Operand.tmp 13) (Go.Operand.const (Go.Value.bool true)) (Go.Operand.tmp 23), type := 4, pos := "l06_parsing.go:134", after := #[{ on := 4, ground := Go.Ground.data }, { on := 14, ground := Go.Ground.data }], guard := none }) (v := ?v16) rfl (by kernel_rfl) (by kernel_rfl) (by kernel_rfl) (fun _ _ _ h => h) (Or.inl ⟨by rfl, ?h16⟩) hHeld ?r16
      case h16 => (intro w hSw; (try dsimp only at hSw); go_simp; try with_reducible rfl)
      try simp only [Act.put, List.setIfInBounds_toArray, List.set_cons_zero, List.set_cons_succ]
      refine wpAnyH_take (i := 16) (oi := { dst := some 25, op := Go.Op.move (Go.Operand.tmp 24), type := 4, pos := "l06_parsing.go:134", after := #[{ on := 15, ground := Go.Ground.data }, { on := 4, ground := Go.Ground.chain }], guard := none }) (v := ?v17) rfl (by kernel_rfl) (by kernel_rfl) (by kernel_rfl) (fun _ _ _ h => h) (Or.inl ⟨by rfl, ?h17⟩) hHeld ?r17
      case h17 => (intro w hSw; (try dsimp only at hSw); go_simp; try with_reducible rfl)
      try simp only [Act.put, List.setIfInBounds_toArray, List.set_cons_zero, List.set_cons_succ]
      refine wpAnyH_take (i := 17) (oi := { dst := some 26, op := Go.Op.move (Go.Operand.tmp 0), type := 75, pos := "l06_parsing.go:134", after := #[{ on := 16, ground := Go.Ground.guard }], guard := some (16, false) }) (v := undef) rfl (by kernel_rfl) (by kernel_rfl) (by kernel_rfl) (fun _ _ _ h => h) (Or.inr ⟨by rfl, rfl⟩) hHeld ?_
      try simp only [Act.put, List.setIfInBounds_toArray, List.set_cons_zero, List.set_cons_succ]
      refine wpAnyH_take (i := 18) (oi := { dst := some 27, op := Go.Op.nilCheck (Go.Operand.tmp 26), type := 0, pos := "l06_parsing.go:134", after := #[{ on := 17, ground := Go.Ground.data }, { on := 16, ground := Go.Ground.guard }], guard := some (16, false) }) (v := undef) rfl (by kernel_rfl) (by kernel_rfl) (by kernel_rfl) (fun _ _ _ h => h) (Or.inr ⟨by rfl, rfl⟩) hHeld ?_
      try simp only [Act.put, List.setIfInBounds_toArray, List.set_cons_zero, List.set_cons_succ]
      refine wpAnyH_take (i := 19) (oi := { dst := some 28, op := Go.Op.fieldAddr 77 (Go.Operand.tmp 27) 1, type := 0, pos := "l06_parsing.go:134", after := #[{ on := 18, ground := Go.Ground.data }, { on := 16, ground := Go.Ground.guard }], guard := some (16, false) }) (v := undef) rfl (by kernel_rfl) (by kernel_rfl) (by kernel_rfl) (fun _ _ _ h => h) (Or.inr ⟨by rfl, rfl⟩) hHeld ?_
      try simp only [Act.put, List.setIfInBounds_toArray, List.set_cons_zero, List.set_cons_succ]
      refine wpAnyH_take (i := 20) (oi := { dst := some 29, op := Go.Op.load 27 (Go.Operand.tmp 28), type := 27, pos := "l06_parsing.go:134", after := #[{ on := 19, ground := Go.Ground.data }, { on := 16, ground := Go.Ground.guard }], guard := some (16, false) }) (v := undef) rfl (by kernel_rfl) (by kernel_rfl) (by kernel_rfl) (fun _ _ _ h => h) (Or.inr ⟨by rfl, rfl⟩) hHeld ?_
      try simp only [Act.put, List.setIfInBounds_toArray, List.set_cons_zero, List.set_cons_succ]
      refine wpAnyH_take (i := 21) (oi := { dst := some 30, op := Go.Op.move (Go.Operand.tmp 0), type := 75, pos := "l06_parsing.go:134", after := #[{ on := 16, ground := Go.Ground.guard }], guard := some (16, false) }) (v := undef) rfl (by kernel_rfl) (by kernel_rfl) (by kernel_rfl) (fun _ _ _ h => h) (Or.inr ⟨by rfl, rfl⟩) hHeld ?_
      try simp only [Act.put, List.setIfInBounds_toArray, List.set_cons_zero, List.set_cons_succ]
      refine wpAnyH_take (i := 22) (oi := { dst := some 31, op := Go.Op.nilCheck (Go.Operand.tmp 30), type := 0, pos := "l06_parsing.go:134", after := #[{ on := 21, ground := Go.Ground.data }, { on := 16, ground := Go.Ground.guard }], guard := some (16, false) }) (v := undef) rfl (by kernel_rfl) (by kernel_rfl) (by kernel_rfl) (fun _ _ _ h => h) (Or.inr ⟨by rfl, rfl⟩) hHeld ?_
      try simp only [Act.put, List.setIfInBounds_toArray, List.set_cons_zero, List.set_cons_succ]
      refine wpAnyH_take (i := 23) (oi := { dst := some 32, op := Go.Op.fieldAddr 77 (Go.Operand.tmp 31) 2, type := 0, pos := "l06_parsing.go:134", after := #[{ on := 22, ground := Go.Ground.data }, { on := 16, ground := Go.Ground.guard }], guard := some (16, false) }) (v := undef) rfl (by kernel_rfl) (by kernel_rfl) (by kernel_rfl) (fun _ _ _ h => h) (Or.inr ⟨by rfl, rfl⟩) hHeld ?_
      try simp only [Act.put, List.setIfInBounds_toArray, List.set_cons_zero, List.set_cons_succ]
      refine wpAnyH_take (i := 24) (oi := { dst := some 33, op := Go.Op.load 3 (Go.Operand.tmp 32), type := 3, pos := "l06_parsing.go:134", after := #[{ on := 23, ground := Go.Ground.data }, { on := 16, ground := Go.Ground.guard }], guard := some (16, false) }) (v := undef) rfl (by kernel_rfl) (by kernel_rfl) (by kernel_rfl) (fun _ _ _ h => h) (Or.inr ⟨by rfl, rfl⟩) hHeld ?_
      try simp only [Act.put, List.setIfInBounds_toArray, List.set_cons_zero, List.set_cons_succ]
      refine wpAnyH_take (i := 25) (oi := { dst := some 34, op := Go.Op.indexAddr 27 (Go.Operand.tmp 29) (Go.Operand.tmp 33), type := 0, pos := "l06_parsing.go:134", after := #[{ on := 20, ground := Go.Ground.data }, { on := 24, ground := Go.Ground.data }, { on := 16, ground := Go.Ground.guard }], guard := some (16, false) }) (v := undef) rfl (by kernel_rfl) (by kernel_rfl) (by kernel_rfl) (fun _ _ _ h => h) (Or.inr ⟨by rfl, rfl⟩) hHeld ?_
      try simp only [Act.put, List.setIfInBounds_toArray, List.set_cons_zero, List.set_cons_succ]
      refine wpAnyH_take (i := 26) (oi := { dst := some 35, op := Go.Op.load 3 (Go.Operand.tmp 34), type := 3, pos := "l06_parsing.go:134", after := #[{ on := 25, ground := Go.Ground.data }, { on := 16, ground := Go.Ground.guard }], guard := some (16, false) }) (v := undef) rfl (by kernel_rfl) (by kernel_rfl) (by kernel_rfl) (fun _ _ _ h => h) (Or.inr ⟨by rfl, rfl⟩) hHeld ?_
      try simp only [Act.put, List.setIfInBounds_toArray, List.set_cons_zero, List.set_cons_succ]
      refine wpAnyH_take (i := 27) (oi := { dst := some 36, op := Go.Op.move (Go.Operand.tmp 0), type := 75, pos := "l06_parsing.go:134", after := #[{ on := 16, ground := Go.Ground.guard }], guard := some (16, false) }) (v := undef) rfl (by kernel_rfl) (by kernel_rfl) (by kernel_rfl) (fun _ _ _ h => h) (Or.inr ⟨by rfl, rfl⟩) hHeld ?_
      try simp only [Act.put, List.setIfInBounds_toArray, List.set_cons_zero, List.set_cons_succ]
      refine wpAnyH_take (i := 28) (oi := { dst := some 37, op := Go.Op.nilCheck (Go.Operand.tmp 36), type := 0, pos := "l06_parsing.go:134", after := #[{ on := 27, ground := Go.Ground.data }, { on := 16, ground := Go.Ground.guard }], guard := some (16, false) }) (v := undef) rfl (by kernel_rfl) (by kernel_rfl) (by kernel_rfl) (fun _ _ _ h => h) (Or.inr ⟨by rfl, rfl⟩) hHeld ?_
      try simp only [Act.put, List.setIfInBounds_toArray, List.set_cons_zero, List.set_cons_succ]
      refine wpAnyH_take (i := 29) (oi := { dst := some 38, op := Go.Op.fieldAddr 77 (Go.Operand.tmp 37) 0, type := 0, pos := "l06_parsing.go:134", after := #[{ on := 28, ground := Go.Ground.data }, { on := 16, ground := Go.Ground.guard }], guard := some (16, false) }) (v := undef) rfl (by kernel_rfl) (by kernel_rfl) (by kernel_rfl) (fun _ _ _ h => h) (Or.inr ⟨by rfl, rfl⟩) hHeld ?_
      try simp only [Act.put, List.setIfInBounds_toArray, List.set_cons_zero, List.set_cons_succ]
      refine wpAnyH_take (i := 30) (oi := { dst := some 39, op := Go.Op.fieldAddr 34 (Go.Operand.tmp 38) 3, type := 0, pos := "l06_parsing.go:134", after := #[{ on := 29, ground := Go.Ground.data }, { on := 16, ground := Go.Ground.guard }], guard := some (16, false) }) (v := undef) rfl (by kernel_rfl) (by kernel_rfl) (by kernel_rfl) (fun _ _ _ h => h) (Or.inr ⟨by rfl, rfl⟩) hHeld ?_
      try simp only [Act.put, List.setIfInBounds_toArray, List.set_cons_zero, List.set_cons_succ]
      refine wpAnyH_take (i := 31) (oi := { dst := some 40, op := Go.Op.load 32 (Go.Operand.tmp 39), type := 32, pos := "l06_parsing.go:134", after := #[{ on := 30, ground := Go.Ground.data }, { on := 16, ground := Go.Ground.guard }], guard := some (16, false) }) (v := undef) rfl (by kernel_rfl) (by kernel_rfl) (by kernel_rfl) (fun _ _ _ h => h) (Or.inr ⟨by rfl, rfl⟩) hHeld ?_
      try simp only [Act.put, List.setIfInBounds_toArray, List.set_cons_zero, List.set_cons_succ]
      refine wpAnyH_take (i := 32) (oi := { dst := some 41, op := Go.Op.call { callee := Go.Callee.builtin Go.Builtin.len, args := #[Go.Operand.tmp 40], argTypes := #[32] }, type := 3, pos := "l06_parsing.go:134", after := #[{ on := 31, ground := Go.Ground.data }, { on := 16, ground := Go.Ground.guard }], guard := some (16, false) }) (v := undef) rfl (by kernel_rfl) (by kernel_rfl) (by kernel_rfl) (fun _ _ _ h => h) (Or.inr ⟨by rfl, rfl⟩) hHeld ?_
      try simp only [Act.put, List.setIfInBounds_toArray, List.set_cons_zero, List.set_cons_succ]
      refine wpAnyH_take (i := 33) (oi := { dst := some 42, op := Go.Op.binOp Go.BinOp.sub 3 (Go.Operand.tmp 41) (Go.Operand.const (Go.Value.int Go.IntKind.i64 1)) 3, type := 3, pos := "l06_parsing.go:134", after := #[{ on := 32, ground := Go.Ground.data }, { on := 16, ground := Go.Ground.guard }], guard := some (16, false) }) (v := undef) rfl (by kernel_rfl) (by kernel_rfl) (by kernel_rfl) (fun _ _ _ h => h) (Or.inr ⟨by rfl, rfl⟩) hHeld ?_
      try simp only [Act.put, List.setIfInBounds_toArray, List.set_cons_zero, List.set_cons_succ]
      refine wpAnyH_take (i := 34) (oi := { dst := some 43, op := Go.Op.call { callee := Go.Callee.value (Go.Operand.func 34), args := #[Go.Operand.tmp 35, Go.Operand.const (Go.Value.int Go.IntKind.i64 0), Go.Operand.tmp 42], argTypes := #[3, 3, 3] }, type := 4, pos := "l06_parsing.go:134", after := #[{ on := 26, ground := Go.Ground.data }, { on := 33, ground := Go.Ground.data }, { on := 16, ground := Go.Ground.chain }, { on := 16, ground := Go.Ground.guard }], guard := some (16, false) }) (v := undef) rfl (by kernel_rfl) (by kernel_rfl) (by kernel_rfl) (fun _ _ _ h => h) (Or.inr ⟨by rfl, rfl⟩) hHeld ?_
      try simp only [Act.put, List.setIfInBounds_toArray, List.set_cons_zero, List.set_cons_succ]
      refine wpAnyH_take (i := 35) (oi := { dst := some 44, op := Go.Op.unOp Go.UnOp.not 4 (Go.Operand.tmp 43), type := 4, pos := "l06_parsing.go:134", after := #[{ on := 34, ground := Go.Ground.data }, { on := 16, ground := Go.Ground.guard }], guard := some (16, false) }) (v := undef) rfl (by kernel_rfl) (by kernel_rfl) (by kernel_rfl) (fun _ _ _ h => h) (Or.inr ⟨by rfl, rfl⟩) hHeld ?_
      try simp only [Act.put, List.setIfInBounds_toArray, List.set_cons_zero, List.set_cons_succ]
      refine wpAnyH_take (i := 36) (oi := { dst := some 45, op := Go.Op.pick (Go.Operand.tmp 25) (Go.Operand.const (Go.Value.bool true)) (Go.Operand.tmp 44), type := 4, pos := "l06_parsing.go:134", after := #[{ on := 16, ground := Go.Ground.data }, { on := 35, ground := Go.Ground.data }], guard := none }) (v := ?v18) rfl (by kernel_rfl) (by kernel_rfl) (by kernel_rfl) (fun _ _ _ h => h) (Or.inl ⟨by rfl, ?h18⟩) hHeld ?r18
      case h18 => (intro w hSw; (try dsimp only at hSw); go_simp; try with_reducible rfl)
      try simp only [Act.put, List.setIfInBounds_toArray, List.set_cons_zero, List.set_cons_succ]
      refine wpAnyH_take (i := 37) (oi := { dst := some 46, op := Go.Op.move (Go.Operand.tmp 45), type := 4, pos := "l06_parsing.go:134", after := #[{ on := 36, ground := Go.Ground.data }, { on := 34, ground := Go.Ground.chain }], guard := none }) (v := ?v19) rfl (by kernel_rfl) (by kernel_rfl) (by kernel_rfl) (fun _ _ _ h => h) (Or.inl ⟨by rfl, ?h19⟩) hHeld ?r19
      case h19 => (intro w hSw; (try dsimp only at hSw); go_simp; try with_reducible rfl)
      try simp only [Act.put, List.setIfInBounds_toArray, List.set_cons_zero, List.set_cons_succ]
      refine wpAnyH_take (i := 38) (oi := { dst := some 47, op := Go.Op.move (Go.Operand.tmp 0), type := 75, pos := "l06_parsing.go:134", after := #[{ on := 37, ground := Go.Ground.guard }], guard := some (37, false) }) (v := undef) rfl (by kernel_rfl) (by kernel_rfl) (by kernel_rfl) (fun _ _ _ h => h) (Or.inr ⟨by rfl, rfl⟩) hHeld ?_
      try simp only [Act.put, List.setIfInBounds_toArray, List.set_cons_zero, List.set_cons_succ]
      refine wpAnyH_take (i := 39) (oi := { dst := some 48, op := Go.Op.nilCheck (Go.Operand.tmp 47), type := 0, pos := "l06_parsing.go:134", after := #[{ on := 38, ground := Go.Ground.data }, { on := 37, ground := Go.Ground.guard }], guard := some (37, false) }) (v := undef) rfl (by kernel_rfl) (by kernel_rfl) (by kernel_rfl) (fun _ _ _ h => h) (Or.inr ⟨by rfl, rfl⟩) hHeld ?_
      try simp only [Act.put, List.setIfInBounds_toArray, List.set_cons_zero, List.set_cons_succ]
      refine wpAnyH_take (i := 40) (oi := { dst := some 49, op := Go.Op.fieldAddr 77 (Go.Operand.tmp 48) 0, type := 0, pos := "l06_parsing.go:134", after := #[{ on := 39, ground := Go.Ground.data }, { on := 37, ground := Go.Ground.guard }], guard := some (37, false) }) (v := undef) rfl (by kernel_rfl) (by kernel_rfl) (by kernel_rfl) (fun _ _ _ h => h) (Or.inr ⟨by rfl, rfl⟩) hHeld ?_
      try simp only [Act.put, List.setIfInBounds_toArray, List.set_cons_zero, List.set_cons_succ]
      refine wpAnyH_take (i := 41) (oi := { dst := some 50, op := Go.Op.load 34 (Go.Operand.tmp 49), type := 34, pos := "l06_parsing.go:134", after := #[{ on := 40, ground := Go.Ground.data }, { on := 37, ground := Go.Ground.guard }], guard := some (37, false) }) (v := undef) rfl (by kernel_rfl) (by kernel_rfl) (by kernel_rfl) (fun _ _ _ h => h) (Or.inr ⟨by rfl, rfl⟩) hHeld ?_
      try simp only [Act.put, List.setIfInBounds_toArray, List.set_cons_zero, List.set_cons_succ]
      refine wpAnyH_take (i := 42) (oi := { dst := some 51, op := Go.Op.move (Go.Operand.tmp 0), type := 75, pos := "l06_parsing.go:134", after := #[{ on := 37, ground := Go.Ground.guard }], guard := some (37, false) }) (v := undef) rfl (by kernel_rfl) (by kernel_rfl) (by kernel_rfl) (fun _ _ _ h => h) (Or.inr ⟨by rfl, rfl⟩) hHeld ?_
      try simp only [Act.put, List.setIfInBounds_toArray, List.set_cons_zero, List.set_cons_succ]
      refine wpAnyH_take (i := 43) (oi := { dst := some 52, op := Go.Op.nilCheck (Go.Operand.tmp 51), type := 0, pos := "l06_parsing.go:134", after := #[{ on := 42, ground := Go.Ground.data }, { on := 37, ground := Go.Ground.guard }], guard := some (37, false) }) (v := undef) rfl (by kernel_rfl) (by kernel_rfl) (by kernel_rfl) (fun _ _ _ h => h) (Or.inr ⟨by rfl, rfl⟩) hHeld ?_
      try simp only [Act.put, List.setIfInBounds_toArray, List.set_cons_zero, List.set_cons_succ]
      refine wpAnyH_take (i := 44) (oi := { dst := some 53, op := Go.Op.fieldAddr 77 (Go.Operand.tmp 52) 0, type := 0, pos := "l06_parsing.go:134", after := #[{ on := 43, ground := Go.Ground.data }, { on := 37, ground := Go.Ground.guard }], guard := some (37, false) }) (v := undef) rfl (by kernel_rfl) (by kernel_rfl) (by kernel_rfl) (fun _ _ _ h => h) (Or.inr ⟨by rfl, rfl⟩) hHeld ?_
      try simp only [Act.put, List.setIfInBounds_toArray, List.set_cons_zero, List.set_cons_succ]
      refine wpAnyH_take (i := 45) (oi := { dst := some 54, op := Go.Op.fieldAddr 34 (Go.Operand.tmp 53) 3, type := 0, pos := "l06_parsing.go:134", after := #[{ on := 44, ground := Go.Ground.data }, { on := 37, ground := Go.Ground.guard }], guard := some (37, false) }) (v := undef) rfl (by kernel_rfl) (by kernel_rfl) (by kernel_rfl) (fun _ _ _ h => h) (Or.inr ⟨by rfl, rfl⟩) hHeld ?_
      try simp only [Act.put, List.setIfInBounds_toArray, List.set_cons_zero, List.set_cons_succ]
      refine wpAnyH_take (i := 46) (oi := { dst := some 55, op := Go.Op.load 32 (Go.Operand.tmp 54), type := 32, pos := "l06_parsing.go:134", after := #[{ on := 45, ground := Go.Ground.data }, { on := 37, ground := Go.Ground.guard }], guard := some (37, false) }) (v := undef) rfl (by kernel_rfl) (by kernel_rfl) (by kernel_rfl) (fun _ _ _ h => h) (Or.inr ⟨by rfl, rfl⟩) hHeld ?_
      try simp only [Act.put, List.setIfInBounds_toArray, List.set_cons_zero, List.set_cons_succ]
      refine wpAnyH_take (i := 47) (oi := { dst := some 56, op := Go.Op.move (Go.Operand.tmp 0), type := 75, pos := "l06_parsing.go:134", after := #[{ on := 37, ground := Go.Ground.guard }], guard := some (37, false) }) (v := undef) rfl (by kernel_rfl) (by kernel_rfl) (by kernel_rfl) (fun _ _ _ h => h) (Or.inr ⟨by rfl, rfl⟩) hHeld ?_
      try simp only [Act.put, List.setIfInBounds_toArray, List.set_cons_zero, List.set_cons_succ]
      refine wpAnyH_take (i := 48) (oi := { dst := some 57, op := Go.Op.nilCheck (Go.Operand.tmp 56), type := 0, pos := "l06_parsing.go:134", after := #[{ on := 47, ground := Go.Ground.data }, { on := 37, ground := Go.Ground.guard }], guard := some (37, false) }) (v := undef) rfl (by kernel_rfl) (by kernel_rfl) (by kernel_rfl) (fun _ _ _ h => h) (Or.inr ⟨by rfl, rfl⟩) hHeld ?_
      try simp only [Act.put, List.setIfInBounds_toArray, List.set_cons_zero, List.set_cons_succ]
      refine wpAnyH_take (i := 49) (oi := { dst := some 58, op := Go.Op.fieldAddr 77 (Go.Operand.tmp 57) 1, type := 0, pos := "l06_parsing.go:134", after := #[{ on := 48, ground := Go.Ground.data }, { on := 37, ground := Go.Ground.guard }], guard := some (37, false) }) (v := undef) rfl (by kernel_rfl) (by kernel_rfl) (by kernel_rfl) (fun _ _ _ h => h) (Or.inr ⟨by rfl, rfl⟩) hHeld ?_
      try simp only [Act.put, List.setIfInBounds_toArray, List.set_cons_zero, List.set_cons_succ]
      refine wpAnyH_take (i := 50) (oi := { dst := some 59, op := Go.Op.load 27 (Go.Operand.tmp 58), type := 27, pos := "l06_parsing.go:134", after := #[{ on := 49, ground := Go.Ground.data }, { on := 37, ground := Go.Ground.guard }], guard := some (37, false) }) (v := undef) rfl (by kernel_rfl) (by kernel_rfl) (by kernel_rfl) (fun _ _ _ h => h) (Or.inr ⟨by rfl, rfl⟩) hHeld ?_
      try simp only [Act.put, List.setIfInBounds_toArray, List.set_cons_zero, List.set_cons_succ]
      refine wpAnyH_take (i := 51) (oi := { dst := some 60, op := Go.Op.move (Go.Operand.tmp 0), type := 75, pos := "l06_parsing.go:134", after := #[{ on := 37, ground := Go.Ground.guard }], guard := some (37, false) }) (v := undef) rfl (by kernel_rfl) (by kernel_rfl) (by kernel_rfl) (fun _ _ _ h => h) (Or.inr ⟨by rfl, rfl⟩) hHeld ?_
      try simp only [Act.put, List.setIfInBounds_toArray, List.set_cons_zero, List.set_cons_succ]
      refine wpAnyH_take (i := 52) (oi := { dst := some 61, op := Go.Op.nilCheck (Go.Operand.tmp 60), type := 0, pos := "l06_parsing.go:134", after := #[{ on := 51, ground := Go.Ground.data }, { on := 37, ground := Go.Ground.guard }], guard := some (37, false) }) (v := undef) rfl (by kernel_rfl) (by kernel_rfl) (by kernel_rfl) (fun _ _ _ h => h) (Or.inr ⟨by rfl, rfl⟩) hHeld ?_
      try simp only [Act.put, List.setIfInBounds_toArray, List.set_cons_zero, List.set_cons_succ]
      refine wpAnyH_take (i := 53) (oi := { dst := some 62, op := Go.Op.fieldAddr 77 (Go.Operand.tmp 61) 2, type := 0, pos := "l06_parsing.go:134", after := #[{ on := 52, ground := Go.Ground.data }, { on := 37, ground := Go.Ground.guard }], guard := some (37, false) }) (v := undef) rfl (by kernel_rfl) (by kernel_rfl) (by kernel_rfl) (fun _ _ _ h => h) (Or.inr ⟨by rfl, rfl⟩) hHeld ?_
      try simp only [Act.put, List.setIfInBounds_toArray, List.set_cons_zero, List.set_cons_succ]
      refine wpAnyH_take (i := 54) (oi := { dst := some 63, op := Go.Op.load 3 (Go.Operand.tmp 62), type := 3, pos := "l06_parsing.go:134", after := #[{ on := 53, ground := Go.Ground.data }, { on := 37, ground := Go.Ground.guard }], guard := some (37, false) }) (v := undef) rfl (by kernel_rfl) (by kernel_rfl) (by kernel_rfl) (fun _ _ _ h => h) (Or.inr ⟨by rfl, rfl⟩) hHeld ?_
      try simp only [Act.put, List.setIfInBounds_toArray, List.set_cons_zero, List.set_cons_succ]
      refine wpAnyH_take (i := 55) (oi := { dst := some 64, op := Go.Op.indexAddr 27 (Go.Operand.tmp 59) (Go.Operand.tmp 63), type := 0, pos := "l06_parsing.go:134", after := #[{ on := 50, ground := Go.Ground.data }, { on := 54, ground := Go.Ground.data }, { on := 37, ground := Go.Ground.guard }], guard := some (37, false) }) (v := undef) rfl (by kernel_rfl) (by kernel_rfl) (by kernel_rfl) (fun _ _ _ h => h) (Or.inr ⟨by rfl, rfl⟩) hHeld ?_
      try simp only [Act.put, List.setIfInBounds_toArray, List.set_cons_zero, List.set_cons_succ]
      refine wpAnyH_take (i := 56) (oi := { dst := some 65, op := Go.Op.load 3 (Go.Operand.tmp 64), type := 3, pos := "l06_parsing.go:134", after := #[{ on := 55, ground := Go.Ground.data }, { on := 37, ground := Go.Ground.guard }], guard := some (37, false) }) (v := undef) rfl (by kernel_rfl) (by kernel_rfl) (by kernel_rfl) (fun _ _ _ h => h) (Or.inr ⟨by rfl, rfl⟩) hHeld ?_
      try simp only [Act.put, List.setIfInBounds_toArray, List.set_cons_zero, List.set_cons_succ]
      refine wpAnyH_take (i := 57) (oi := { dst := some 66, op := Go.Op.indexAddr 32 (Go.Operand.tmp 55) (Go.Operand.tmp 65), type := 0, pos := "l06_parsing.go:134", after := #[{ on := 46, ground := Go.Ground.data }, { on := 56, ground := Go.Ground.data }, { on := 37, ground := Go.Ground.guard }], guard := some (37, false) }) (v := undef) rfl (by kernel_rfl) (by kernel_rfl) (by kernel_rfl) (fun _ _ _ h => h) (Or.inr ⟨by rfl, rfl⟩) hHeld ?_
      try simp only [Act.put, List.setIfInBounds_toArray, List.set_cons_zero, List.set_cons_succ]
      refine wpAnyH_take (i := 58) (oi := { dst := some 67, op := Go.Op.fieldAddr 66 (Go.Operand.tmp 66) 0, type := 0, pos := "l06_parsing.go:134", after := #[{ on := 57, ground := Go.Ground.data }, { on := 37, ground := Go.Ground.guard }], guard := some (37, false) }) (v := undef) rfl (by kernel_rfl) (by kernel_rfl) (by kernel_rfl) (fun _ _ _ h => h) (Or.inr ⟨by rfl, rfl⟩) hHeld ?_
      try simp only [Act.put, List.setIfInBounds_toArray, List.set_cons_zero, List.set_cons_succ]
      refine wpAnyH_take (i := 59) (oi := { dst := some 68, op := Go.Op.load 3 (Go.Operand.tmp 67), type := 3, pos := "l06_parsing.go:134", after := #[{ on := 58, ground := Go.Ground.data }, { on := 37, ground := Go.Ground.guard }], guard := some (37, false) }) (v := undef) rfl (by kernel_rfl) (by kernel_rfl) (by kernel_rfl) (fun _ _ _ h => h) (Or.inr ⟨by rfl, rfl⟩) hHeld ?_
      try simp only [Act.put, List.setIfInBounds_toArray, List.set_cons_zero, List.set_cons_succ]
      refine wpAnyH_take (i := 60) (oi := { dst := some 69, op := Go.Op.call { callee := Go.Callee.value (Go.Operand.func 35), args := #[Go.Operand.tmp 50, Go.Operand.tmp 68], argTypes := #[34, 3] }, type := 3, pos := "l06_parsing.go:134", after := #[{ on := 41, ground := Go.Ground.data }, { on := 59, ground := Go.Ground.data }, { on := 37, ground := Go.Ground.chain }, { on := 37, ground := Go.Ground.guard }], guard := some (37, false) }) (v := undef) rfl (by kernel_rfl) (by kernel_rfl) (by kernel_rfl) (fun _ _ _ h => h) (Or.inr ⟨by rfl, rfl⟩) hHeld ?_
      try simp only [Act.put, List.setIfInBounds_toArray, List.set_cons_zero, List.set_cons_succ]
      refine wpAnyH_take (i := 61) (oi := { dst := some 70, op := Go.Op.move (Go.Operand.tmp 1), type := 3, pos := "l06_parsing.go:134", after := #[{ on := 37, ground := Go.Ground.guard }], guard := some (37, false) }) (v := undef) rfl (by kernel_rfl) (by kernel_rfl) (by kernel_rfl) (fun _ _ _ h => h) (Or.inr ⟨by rfl, rfl⟩) hHeld ?_
      try simp only [Act.put, List.setIfInBounds_toArray, List.set_cons_zero, List.set_cons_succ]
      refine wpAnyH_take (i := 62) (oi := { dst := some 71, op := Go.Op.binOp Go.BinOp.neq 3 (Go.Operand.tmp 69) (Go.Operand.tmp 70) 3, type := 4, pos := "l06_parsing.go:134", after := #[{ on := 60, ground := Go.Ground.data }, { on := 61, ground := Go.Ground.data }, { on := 37, ground := Go.Ground.guard }], guard := some (37, false) }) (v := undef) rfl (by kernel_rfl) (by kernel_rfl) (by kernel_rfl) (fun _ _ _ h => h) (Or.inr ⟨by rfl, rfl⟩) hHeld ?_
      try simp only [Act.put, List.setIfInBounds_toArray, List.set_cons_zero, List.set_cons_succ]
      refine wpAnyH_take (i := 63) (oi := { dst := some 72, op := Go.Op.pick (Go.Operand.tmp 46) (Go.Operand.const (Go.Value.bool true)) (Go.Operand.tmp 71), type := 4, pos := "l06_parsing.go:134", after := #[{ on := 37, ground := Go.Ground.data }, { on := 62, ground := Go.Ground.data }], guard := none }) (v := ?v20) rfl (by kernel_rfl) (by kernel_rfl) (by kernel_rfl) (fun _ _ _ h => h) (Or.inl ⟨by rfl, ?h20⟩) hHeld ?r20
      case h20 => (intro w hSw; (try dsimp only at hSw); go_simp; try with_reducible rfl)
      try simp only [Act.put, List.setIfInBounds_toArray, List.set_cons_zero, List.set_cons_succ]
      refine wpAnyH_done (by kernel_rfl) ?_ _
      go_wp2_with fail
      go_meet
      exact ⟨by rw [HOF.out], HBE⟩
    · have hal' : a < L.length := by omega
      obtain ⟨e1, hSn, n0⟩ := HCE.out a hal'
      subst e1
      rw [Nat.zero_add] at n0
      obtain ⟨z, hz⟩ : ∃ z, numAt L a = z := ⟨_, rfl⟩
      rw [hz] at n0
      have n0 := HCELL.out (w.alloc (.cells #[.int .i64 0, .slice none 0 0] 48)).drew (Below.kp (HB0.out.drew) R) bn _ _ hSn n0
      have iA : ¬ L.length ≤ a := by omega
      have HBT := (show Hid _ from fun (x a b : Int) (w : World) => between_any x a b w)
      have kw : IntKind.i64.wrap ((d.prods.length : Int) - 1) = (d.prods.length : Int) - 1 := by simp [IntKind.wrap, IntKind.bits, IntKind.signed]; omega
      cases hwi : wiB z 0 ((d.prods.length : Int) - 1)
      · have HOF : Hid ((!okAt d L s a) = true) := by
          show (!okAt d L s a) = true
          unfold okAt; rw [hz, hwi]; simp
        have hS0 := (⟨x6, x5, x4, x3, n0⟩ : (w.alloc (.cells #[.int .i64 0, .slice none 0 0] 48)).drew.cell? ⟨R, 6, none⟩ = some (.bool false) ∧ (w.alloc (.cells #[.int .i64 0, .slice none 0 0] 48)).drew.cell? ⟨R, 5, none⟩ = some (.int .i64 a) ∧ (w.alloc (.cells #[.int .i64 0, .slice none 0 0] 48)).drew.cell? ⟨R, 4, none⟩ = some (.slice (some ⟨bn, on, none⟩) L.length c) ∧ (w.alloc (.cells #[.int .i64 0, .slice none 0 0] 48)).drew.cell? ⟨R, 3, none⟩ = some (.slice a3 d.prods.length c3) ∧ (w.alloc (.cells #[.int .i64 0, .slice none 0 0] 48)).drew.cell? ⟨bn, on + a, none⟩ = some (.int .i64 z))
        clear x0 x1 x2 x3 x4 x5 x6 HCE HPR HCELL n0 hz
        refine wp_region_held_drew (S := (fun w' => w'.cell? ⟨R, 6, none⟩ = some (.bool false) ∧ w'.cell? ⟨R, 5, none⟩ = some (.int .i64 a) ∧ w'.cell? ⟨R, 4, none⟩ = some (.slice (some ⟨bn, on, none⟩) L.length c) ∧ w'.cell? ⟨R, 3, none⟩ = some (.slice a3 d.prods.length c3) ∧ w'.cell? ⟨bn, on + a, none⟩ = some (.int .i64 z))) (by kernel_rfl) hS0 (fun hHeld => ?_)
        refine wpAnyH_take (i := 0) (oi := { dst := some 9, op := Go.Op.move (Go.Operand.tmp 0), type := 75, pos := "l06_parsing.go:134", after := #[], guard := none }) (v := ?v21) rfl (by kernel_rfl) (by kernel_rfl) (by kernel_rfl) (fun _ _ _ h => h) (Or.inl ⟨by rfl, ?h21⟩) hHeld ?r21
        case h21 => (intro w hSw; (try dsimp only at hSw); go_simp; try with_reducible rfl)
        try simp only [Act.put, List.setIfInBounds_toArray, List.set_cons_zero, List.set_cons_succ]
        refine wpAnyH_take (i := 1) (oi := { dst := some 10, op := Go.Op.nilCheck (Go.Operand.tmp 9), type := 0, pos := "l06_parsing.go:134", after := #[{ on := 0, ground := Go.Ground.data }], guard := none }) (v := ?v22) rfl (by kernel_rfl) (by kernel_rfl) (by kernel_rfl) (fun _ _ _ h => h) (Or.inl ⟨by rfl, ?h22⟩) hHeld ?r22
        case h22 => (intro w hSw; (try dsimp only at hSw); go_simp; try with_reducible rfl)
        try simp only [Act.put, List.setIfInBounds_toArray, List.set_cons_zero, List.set_cons_succ]
        refine wpAnyH_take (i := 2) (oi := { dst := some 11, op := Go.Op.fieldAddr 77 (Go.Operand.tmp 10) 3, type := 0, pos := "l06_parsing.go:134", after := #[{ on := 1, ground := Go.Ground.data }], guard := none }) (v := ?v23) rfl (by kernel_rfl) (by kernel_rfl) (by kernel_rfl) (fun _ _ _ h => h) (Or.inl ⟨by rfl, ?h23⟩) hHeld ?r23
        case h23 => (intro w hSw; (try dsimp only at hSw); go_simp; try with_reducible rfl)
        try simp only [Act.put, List.setIfInBounds_toArray, List.set_cons_zero, List.set_cons_succ]
        refine wpAnyH_take (i := 3) (oi := { dst := some 12, op := Go.Op.load 4 (Go.Operand.tmp 11), type := 4, pos := "l06_parsing.go:134", after := #[{ on := 2, ground := Go.Ground.data }], guard := none }) (v := ?v24) rfl (by kernel_rfl) (by kernel_rfl) (by kernel_rfl) (fun _ _ _ h => h) (Or.inl ⟨by rfl, ?h24⟩) hHeld ?r24
        case h24 => (intro w hSw; (try dsimp only at hSw); go_simp; try with_reducible rfl)
        try simp only [Act.put, List.setIfInBounds_toArray, List.set_cons_zero, List.set_cons_succ]
        refine wpAnyH_take (i := 4) (oi := { dst := some 13, op := Go.Op.move (Go.Operand.tmp 12), type := 4, pos := "l06_parsing.go:134", after := #[{ on := 3, ground := Go.Ground.data }], guard := none }) (v := ?v25) rfl (by kernel_rfl) (by kernel_rfl) (by kernel_rfl) (fun _ _ _ h => h) (Or.inl ⟨by rfl, ?h25⟩) hHeld ?r25
        case h25 => (intro w hSw; (try dsimp only at hSw); go_simp; try with_reducible rfl)
        try simp only [Act.put, List.setIfInBounds_toArray, List.set_cons_zero, List.set_cons_succ]
        refine wpAnyH_take (i := 5) (oi := { dst := some 14, op := Go.Op.move (Go.Operand.tmp 0), type := 75, pos := "l06_parsing.go:134", after := #[{ on := 4, ground := Go.Ground.guard }], guard := some (4, false) }) (v := ?v26) rfl (by kernel_rfl) (by kernel_rfl) (by kernel_rfl) (fun _ _ _ h => h) (Or.inl ⟨by rfl, ?h26⟩) hHeld ?r26
        case h26 => (intro w hSw; (try dsimp only at hSw); go_simp; try with_reducible rfl)
        try simp only [Act.put, List.setIfInBounds_toArray, List.set_cons_zero, List.set_cons_succ]
        refine wpAnyH_take (i := 6) (oi := { dst := some 15, op := Go.Op.nilCheck (Go.Operand.tmp 14), type := 0, pos := "l06_parsing.go:134", after := #[{ on := 5, ground := Go.Ground.data }, { on := 4, ground := Go.Ground.guard }], guard := some (4, false) }) (v := ?v27) rfl (by kernel_rfl) (by kernel_rfl) (by kernel_rfl) (fun _ _ _ h => h) (Or.inl ⟨by rfl, ?h27⟩) hHeld ?r27
        case h27 => (intro w hSw; (try dsimp only at hSw); go_simp; try with_reducible rfl)
        try simp only [Act.put, List.setIfInBounds_toArray, List.set_cons_zero, List.set_cons_succ]
        refine wpAnyH_take (i := 7) (oi := { dst := some 16, op := Go.Op.fieldAddr 77 (Go.Operand.tmp 15) 2, type := 0, pos := "l06_parsing.go:134", after := #[{ on := 6, ground := Go.Ground.data }, { on := 4, ground := Go.Ground.guard }], guard := some (4, false) }) (v := ?v28) rfl (by kernel_rfl) (by kernel_rfl) (by kernel_rfl) (fun _ _ _ h => h) (Or.inl ⟨by rfl, ?h28⟩) hHeld ?r28
        case h28 => (intro w hSw; (try dsimp only at hSw); go_simp; try with_reducible rfl)
        try simp only [Act.put, List.setIfInBounds_toArray, List.set_cons_zero, List.set_cons_succ]
        refine wpAnyH_take (i := 8) (oi := { dst := some 17, op := Go.Op.load 3 (Go.Operand.tmp 16), type := 3, pos := "l06_parsing.go:134", after := #[{ on := 7, ground := Go.Ground.data }, { on := 4, ground := Go.Ground.guard }], guard := some (4, false) }) (v := ?v29) rfl (by kernel_rfl) (by kernel_rfl) (by kernel_rfl) (fun _ _ _ h => h) (Or.inl ⟨by rfl, ?h29⟩) hHeld ?r29
        case h29 => (intro w hSw; (try dsimp only at hSw); go_simp; try with_reducible rfl)
        try simp only [Act.put, List.setIfInBounds_toArray, List.set_cons_zero, List.set_cons_succ]
        refine wpAnyH_take (i := 9) (oi := { dst := some 18, op := Go.Op.move (Go.Operand.tmp 0), type := 75, pos := "l06_parsing.go:134", after := #[{ on := 4, ground := Go.Ground.guard }], guard := some (4, false) }) (v := ?v30) rfl (by kernel_rfl) (by kernel_rfl) (by kernel_rfl) (fun _ _ _ h => h) (Or.inl ⟨by rfl, ?h30⟩) hHeld ?r30
        case h30 => (intro w hSw; (try dsimp only at hSw); go_simp; try with_reducible rfl)
        try simp only [Act.put, List.setIfInBounds_toArray, List.set_cons_zero, List.set_cons_succ]
        refine wpAnyH_take (i := 10) (oi := { dst := some 19, op := Go.Op.nilCheck (Go.Operand.tmp 18), type := 0, pos := "l06_parsing.go:134", after := #[{ on := 9, ground := Go.Ground.data }, { on := 4, ground := Go.Ground.guard }], guard := some (4, false) }) (v := ?v31) rfl (by kernel_rfl) (by kernel_rfl) (by kernel_rfl) (fun _ _ _ h => h) (Or.inl ⟨by rfl, ?h31⟩) hHeld ?r31
        case h31 => (intro w hSw; (try dsimp only at hSw); go_simp; try with_reducible rfl)
        try simp only [Act.put, List.setIfInBounds_toArray, List.set_cons_zero, List.set_cons_succ]
        refine wpAnyH_take (i := 11) (oi := { dst := some 20, op := Go.Op.fieldAddr 77 (Go.Operand.tmp 19) 1, type := 0, pos := "l06_parsing.go:134", after := #[{ on := 10, ground := Go.Ground.data }, { on := 4, ground := Go.Ground.guard }], guard := some (4, false) }) (v := ?v32) rfl (by kernel_rfl) (by kernel_rfl) (by kernel_rfl) (fun _ _ _ h => h) (Or.inl ⟨by rfl, ?h32⟩) hHeld ?r32
        case h32 => (intro w hSw; (try dsimp only at hSw); go_simp; try with_reducible rfl)
        try simp only [Act.put, List.setIfInBounds_toArray, List.set_cons_zero, List.set_cons_succ]
        refine wpAnyH_take (i := 12) (oi := { dst := some 21, op := Go.Op.load 27 (Go.Operand.tmp 20), type := 27, pos := "l06_parsing.go:134", after := #[{ on := 11, ground := Go.Ground.data }, { on := 4, ground := Go.Ground.guard }], guard := some (4, false) }) (v := ?v33) rfl (by kernel_rfl) (by kernel_rfl) (by kernel_rfl) (fun _ _ _ h => h) (Or.inl ⟨by rfl, ?h33⟩) hHeld ?r33
        case h33 => (intro w hSw; (try dsimp only at hSw); go_simp; try with_reducible rfl)
        try simp only [Act.put, List.setIfInBounds_toArray, List.set_cons_zero, List.set_cons_succ]
        refine wpAnyH_take (i := 13) (oi := { dst := some 22, op := Go.Op.call { callee := Go.Callee.builtin Go.Builtin.len, args := #[Go.Operand.tmp 21], argTypes := #[27] }, type := 3, pos := "l06_parsing.go:134", after := #[{ on := 12, ground := Go.Ground.data }, { on := 4, ground := Go.Ground.guard }], guard := some (4, false) }) (v := ?v34) rfl (by kernel_rfl) (by kernel_rfl) (by kernel_rfl) (fun _ _ _ h => h) (Or.inl ⟨by rfl, ?h34⟩) hHeld ?r34
        case h34 => (intro w hSw; (try dsimp only at hSw); go_simp; try with_reducible rfl)
        try simp only [Act.put, List.setIfInBounds_toArray, List.set_cons_zero, List.set_cons_succ]
        refine wpAnyH_take (i := 14) (oi := { dst := some 23, op := Go.Op.binOp Go.BinOp.geq 3 (Go.Operand.tmp 17) (Go.Operand.tmp 22) 3, type := 4, pos := "l06_parsing.go:134", after := #[{ on := 8, ground := Go.Ground.data }, { on := 13, ground := Go.Ground.data }, { on := 4, ground := Go.Ground.guard }], guard := some (4, false) }) (v := ?v35) rfl (by kernel_rfl) (by kernel_rfl) (by kernel_rfl) (fun _ _ _ h => h) (Or.inl ⟨by rfl, ?h35⟩) hHeld ?r35
        case h35 => (intro w hSw; (try dsimp only at hSw); go_simp; try with_reducible rfl)
        try simp only [Act.put, List.setIfInBounds_toArray, List.set_cons_zero, List.set_cons_succ]
        refine wpAnyH_take (i := 15) (oi := { dst := some 24, op := Go.Op.pick (Go.Operand.tmp 13) (Go.Operand.const (Go.Value.bool true)) (Go.Operand.tmp 23), type := 4, pos := "l06_parsing.go:134", after := #[{ on := 4, ground := Go.Ground.data }, { on := 14, ground := Go.Ground.data }], guard := none }) (v := ?v36) rfl (by kernel_rfl) (by kernel_rfl) (by kernel_rfl) (fun _ _ _ h => h) (Or.inl ⟨by rfl, ?h36⟩) hHeld ?r36
        case h36 => (intro w hSw; (try dsimp only at hSw); go_simp; try with_reducible rfl)
        try simp only [Act.put, List.setIfInBounds_toArray, List.set_cons_zero, List.set_cons_succ]
        refine wpAnyH_take (i := 16) (oi := { dst := some 25, op := Go.Op.move (Go.Operand.tmp 24), type := 4, pos := "l06_parsing.go:134", after := #[{ on := 15, ground := Go.Ground.data }, { on := 4, ground := Go.Ground.chain }], guard := none }) (v := ?v37) rfl (by kernel_rfl) (by kernel_rfl) (by kernel_rfl) (fun _ _ _ h => h) (Or.inl ⟨by rfl, ?h37⟩) hHeld ?r37
        case h37 => (intro w hSw; (try dsimp only at hSw); go_simp; try with_reducible rfl)
        try simp only [Act.put, List.setIfInBounds_toArray, List.set_cons_zero, List.set_cons_succ]
        refine wpAnyH_take (i := 17) (oi := { dst := some 26, op := Go.Op.move (Go.Operand.tmp 0), type := 75, pos := "l06_parsing.go:134", after := #[{ on := 16, ground := Go.Ground.guard }], guard := some (16, false) }) (v := ?v38) rfl (by kernel_rfl) (by kernel_rfl) (by kernel_rfl) (fun _ _ _ h => h) (Or.inl ⟨by rfl, ?h38⟩) hHeld ?r38
        case h38 => (intro w hSw; (try dsimp only at hSw); go_simp; try with_reducible rfl)
        try simp only [Act.put, List.setIfInBounds_toArray, List.set_cons_zero, List.set_cons_succ]
        refine wpAnyH_take (i := 18) (oi := { dst := some 27, op := Go.Op.nilCheck (Go.Operand.tmp 26), type := 0, pos := "l06_parsing.go:134", after := #[{ on := 17, ground := Go.Ground.data }, { on := 16, ground := Go.Ground.guard }], guard := some (16, false) }) (v := ?v39) rfl (by kernel_rfl) (by kernel_rfl) (by kernel_rfl) (fun _ _ _ h => h) (Or.inl ⟨by rfl, ?h39⟩) hHeld ?r39
        case h39 => (intro w hSw; (try dsimp only at hSw); go_simp; try with_reducible rfl)
        try simp only [Act.put, List.setIfInBounds_toArray, List.set_cons_zero, List.set_cons_succ]
        refine wpAnyH_take (i := 19) (oi := { dst := some 28, op := Go.Op.fieldAddr 77 (Go.Operand.tmp 27) 1, type := 0, pos := "l06_parsing.go:134", after := #[{ on := 18, ground := Go.Ground.data }, { on := 16, ground := Go.Ground.guard }], guard := some (16, false) }) (v := ?v40) rfl (by kernel_rfl) (by kernel_rfl) (by kernel_rfl) (fun _ _ _ h => h) (Or.inl ⟨by rfl, ?h40⟩) hHeld ?r40
        case h40 => (intro w hSw; (try dsimp only at hSw); go_simp; try with_reducible rfl)
        try simp only [Act.put, List.setIfInBounds_toArray, List.set_cons_zero, List.set_cons_succ]
        refine wpAnyH_take (i := 20) (oi := { dst := some 29, op := Go.Op.load 27 (Go.Operand.tmp 28), type := 27, pos := "l06_parsing.go:134", after := #[{ on := 19, ground := Go.Ground.data }, { on := 16, ground := Go.Ground.guard }], guard := some (16, false) }) (v := ?v41) rfl (by kernel_rfl) (by kernel_rfl) (by kernel_rfl) (fun _ _ _ h => h) (Or.inl ⟨by rfl, ?h41⟩) hHeld ?r41
        case h41 => (intro w hSw; (try dsimp only at hSw); go_simp; try with_reducible rfl)
        try simp only [Act.put, List.setIfInBounds_toArray, List.set_cons_zero, List.set_cons_succ]
        refine wpAnyH_take (i := 21) (oi := { dst := some 30, op := Go.Op.move (Go.Operand.tmp 0), type := 75, pos := "l06_parsing.go:134", after := #[{ on := 16, ground := Go.Ground.guard }], guard := some (16, false) }) (v := ?v42) rfl (by kernel_rfl) (by kernel_rfl) (by kernel_rfl) (fun _ _ _ h => h) (Or.inl ⟨by rfl, ?h42⟩) hHeld ?r42
        case h42 => (intro w hSw; (try dsimp only at hSw); go_simp; try with_reducible rfl)
        try simp only [Act.put, List.setIfInBounds_toArray, List.set_cons_zero, List.set_cons_succ]
        refine wpAnyH_take (i := 22) (oi := { dst := some 31, op := Go.Op.nilCheck (Go.Operand.tmp 30), type := 0, pos := "l06_parsing.go:134", after := #[{ on := 21, ground := Go.Ground.data }, { on := 16, ground := Go.Ground.guard }], guard := some (16, false) }) (v := ?v43) rfl (by kernel_rfl) (by kernel_rfl) (by kernel_rfl) (fun _ _ _ h => h) (Or.inl ⟨by rfl, ?h43⟩) hHeld ?r43
        case h43 => (intro w hSw; (try dsimp only at hSw); go_simp; try with_reducible rfl)
        try simp only [Act.put, List.setIfInBounds_toArray, List.set_cons_zero, List.set_cons_succ]
        refine wpAnyH_take (i := 23) (oi := { dst := some 32, op := Go.Op.fieldAddr 77 (Go.Operand.tmp 31) 2, type := 0, pos := "l06_parsing.go:134", after := #[{ on := 22, ground := Go.Ground.data }, { on := 16, ground := Go.Ground.guard }], guard := some (16, false) }) (v := ?v44) rfl (by kernel_rfl) (by kernel_rfl) (by kernel_rfl) (fun _ _ _ h => h) (Or.inl ⟨by rfl, ?h44⟩) hHeld ?r44
        case h44 => (intro w hSw; (try dsimp only at hSw); go_simp; try with_reducible rfl)
        try simp only [Act.put, List.setIfInBounds_toArray, List.set_cons_zero, List.set_cons_succ]
        refine wpAnyH_take (i := 24) (oi := { dst := some 33, op := Go.Op.load 3 (Go.Operand.tmp 32), type := 3, pos := "l06_parsing.go:134", after := #[{ on := 23, ground := Go.Ground.data }, { on := 16, ground := Go.Ground.guard }], guard := some (16, false) }) (v := ?v45) rfl (by kernel_rfl) (by kernel_rfl) (by kernel_rfl) (fun _ _ _ h => h) (Or.inl ⟨by rfl, ?h45⟩) hHeld ?r45
        case h45 => (intro w hSw; (try dsimp only at hSw); go_simp; try with_reducible rfl)
        try simp only [Act.put, List.setIfInBounds_toArray, List.set_cons_zero, List.set_cons_succ]
        refine wpAnyH_take (i := 25) (oi := { dst := some 34, op := Go.Op.indexAddr 27 (Go.Operand.tmp 29) (Go.Operand.tmp 33), type := 0, pos := "l06_parsing.go:134", after := #[{ on := 20, ground := Go.Ground.data }, { on := 24, ground := Go.Ground.data }, { on := 16, ground := Go.Ground.guard }], guard := some (16, false) }) (v := ?v46) rfl (by kernel_rfl) (by kernel_rfl) (by kernel_rfl) (fun _ _ _ h => h) (Or.inl ⟨by rfl, ?h46⟩) hHeld ?r46
        case h46 => (intro w hSw; (try dsimp only at hSw); go_simp; try with_reducible rfl)
        try simp only [Act.put, List.setIfInBounds_toArray, List.set_cons_zero, List.set_cons_succ]
        refine wpAnyH_take (i := 26) (oi := { dst := some 35, op := Go.Op.load 3 (Go.Operand.tmp 34), type := 3, pos := "l06_parsing.go:134", after := #[{ on := 25, ground := Go.Ground.data }, { on := 16, ground := Go.Ground.guard }], guard := some (16, false) }) (v := ?v47) rfl (by kernel_rfl) (by kernel_rfl) (by kernel_rfl) (fun _ _ _ h => h) (Or.inl ⟨by rfl, ?h47⟩) hHeld ?r47
        case h47 => (intro w hSw; (try dsimp only at hSw); go_simp; try with_reducible rfl)
        try simp only [Act.put, List.setIfInBounds_toArray, List.set_cons_zero, List.set_cons_succ]
        refine wpAnyH_take (i := 27) (oi := { dst := some 36, op := Go.Op.move (Go.Operand.tmp 0), type := 75, pos := "l06_parsing.go:134", after := #[{ on := 16, ground := Go.Ground.guard }], guard := some (16, false) }) (v := ?v48) rfl (by kernel_rfl) (by kernel_rfl) (by kernel_rfl) (fun _ _ _ h => h) (Or.inl ⟨by rfl, ?h48⟩) hHeld ?r48
        case h48 => (intro w hSw; (try dsimp only at hSw); go_simp; try with_reducible rfl)
        try simp only [Act.put, List.setIfInBounds_toArray, List.set_cons_zero, List.set_cons_succ]
        refine wpAnyH_take (i := 28) (oi := { dst := some 37, op := Go.Op.nilCheck (Go.Operand.tmp 36), type := 0, pos := "l06_parsing.go:134", after := #[{ on := 27, ground := Go.Ground.data }, { on := 16, ground := Go.Ground.guard }], guard := some (16, false) }) (v := ?v49) rfl (by kernel_rfl) (by kernel_rfl) (by kernel_rfl) (fun _ _ _ h => h) (Or.inl ⟨by rfl, ?h49⟩) hHeld ?r49
        case h49 => (intro w hSw; (try dsimp only at hSw); go_simp; try with_reducible rfl)
        try simp only [Act.put, List.setIfInBounds_toArray, List.set_cons_zero, List.set_cons_succ]
        refine wpAnyH_take (i := 29) (oi := { dst := some 38, op := Go.Op.fieldAddr 77 (Go.Operand.tmp 37) 0, type := 0, pos := "l06_parsing.go:134", after := #[{ on := 28, ground := Go.Ground.data }, { on := 16, ground := Go.Ground.guard }], guard := some (16, false) }) (v := ?v50) rfl (by kernel_rfl) (by kernel_rfl) (by kernel_rfl) (fun _ _ _ h => h) (Or.inl ⟨by rfl, ?h50⟩) hHeld ?r50
        case h50 => (intro w hSw; (try dsimp only at hSw); go_simp; try with_reducible rfl)
        try simp only [Act.put, List.setIfInBounds_toArray, List.set_cons_zero, List.set_cons_succ]
        refine wpAnyH_take (i := 30) (oi := { dst := some 39, op := Go.Op.fieldAddr 34 (Go.Operand.tmp 38) 3, type := 0, pos := "l06_parsing.go:134", after := #[{ on := 29, ground := Go.Ground.data }, { on := 16, ground := Go.Ground.guard }], guard := some (16, false) }) (v := ?v51) rfl (by kernel_rfl) (by kernel_rfl) (by kernel_rfl) (fun _ _ _ h => h) (Or.inl ⟨by rfl, ?h51⟩) hHeld ?r51
        case h51 => (intro w hSw; (try dsimp only at hSw); go_simp; try with_reducible rfl)
        try simp only [Act.put, List.setIfInBounds_toArray, List.set_cons_zero, List.set_cons_succ]
        refine wpAnyH_take (i := 31) (oi := { dst := some 40, op := Go.Op.load 32 (Go.Operand.tmp 39), type := 32, pos := "l06_parsing.go:134", after := #[{ on := 30, ground := Go.Ground.data }, { on := 16, ground := Go.Ground.guard }], guard := some (16, false) }) (v := ?v52) rfl (by kernel_rfl) (by kernel_rfl) (by kernel_rfl) (fun _ _ _ h => h) (Or.inl ⟨by rfl, ?h52⟩) hHeld ?r52
        case h52 => (intro w hSw; (try dsimp only at hSw); go_simp; try with_reducible rfl)
        try simp only [Act.put, List.setIfInBounds_toArray, List.set_cons_zero, List.set_cons_succ]
        refine wpAnyH_take (i := 32) (oi := { dst := some 41, op := Go.Op.call { callee := Go.Callee.builtin Go.Builtin.len, args := #[Go.Operand.tmp 40], argTypes := #[32] }, type := 3, pos := "l06_parsing.go:134", after := #[{ on := 31, ground := Go.Ground.data }, { on := 16, ground := Go.Ground.guard }], guard := some (16, false) }) (v := ?v53) rfl (by kernel_rfl) (by kernel_rfl) (by kernel_rfl) (fun _ _ _ h => h) (Or.inl ⟨by rfl, ?h53⟩) hHeld ?r53
        case h53 => (intro w hSw; (try dsimp only at hSw); go_simp; try with_reducible rfl)
        try simp only [Act.put, List.setIfInBounds_toArray, List.set_cons_zero, List.set_cons_succ]
        refine wpAnyH_take (i := 33) (oi := { dst := some 42, op := Go.Op.binOp Go.BinOp.sub 3 (Go.Operand.tmp 41) (Go.Operand.const (Go.Value.int Go.IntKind.i64 1)) 3, type := 3, pos := "l06_parsing.go:134", after := #[{ on := 32, ground := Go.Ground.data }, { on := 16, ground := Go.Ground.guard }], guard := some (16, false) }) (v := ?v54) rfl (by kernel_rfl) (by kernel_rfl) (by kernel_rfl) (fun _ _ _ h => h) (Or.inl ⟨by rfl, ?h54⟩) hHeld ?r54
        case h54 => (intro w hSw; (try dsimp only at hSw); go_simp; try with_reducible rfl)
        try simp only [Act.put, List.setIfInBounds_toArray, List.set_cons_zero, List.set_cons_succ]
        refine wpAnyH_ready (rs := [34]) (by kernel_rfl) (by simp) ?_
        refine AllReadyH.cons (o := { dst := some 43, op := Go.Op.call { callee := Go.Callee.value (Go.Operand.func 34), args := #[Go.Operand.tmp 35, Go.Operand.const (Go.Value.int Go.IntKind.i64 0), Go.Operand.tmp 42], argTypes := #[3, 3, 3] }, type := 4, pos := "l06_parsing.go:134", after := #[{ on := 26, ground := Go.Ground.data }, { on := 33, ground := Go.Ground.data }, { on := 16, ground := Go.Ground.chain }, { on := 16, ground := Go.Ground.guard }], guard := some (16, false) }) rfl (fun K hK => ?_) AllReadyH.nil
        go_simp
        refine Calls.mono (HBT.out _ _ _ _) ?_
        rintro e w2 ⟨rfl, rfl⟩
        dsimp only
        rw [hwi]
        clear hHeld
        refine hK.out _ _ hS0 (fun hHeld => ?_)
        clear hK K
        try simp only [Act.put, List.setIfInBounds_toArray, List.set_cons_zero, List.set_cons_succ]
        refine wpAnyH_take (i := 35) (oi := { dst := some 44, op := Go.Op.unOp Go.UnOp.not 4 (Go.Operand.tmp 43), type := 4, pos := "l06_parsing.go:134", after := #[{ on := 34, ground := Go.Ground.data }, { on := 16, ground := Go.Ground.guard }], guard := some (16, false) }) (v := ?v55) rfl (by kernel_rfl) (by kernel_rfl) (by kernel_rfl) (fun _ _ _ h => h) (Or.inl ⟨by rfl, ?h55⟩) hHeld ?r55
        case h55 => (intro w hSw; (try dsimp only at hSw); go_simp; try with_reducible rfl)
        try simp only [Act.put, List.setIfInBounds_toArray, List.set_cons_zero, List.set_cons_succ]
        refine wpAnyH_take (i := 36) (oi := { dst := some 45, op := Go.Op.pick (Go.Operand.tmp 25) (Go.Operand.const (Go.Value.bool true)) (Go.Operand.tmp 44), type := 4, pos := "l06_parsing.go:134", after := #[{ on := 16, ground := Go.Ground.data }, { on := 35, ground := Go.Ground.data }], guard := none }) (v := ?v56) rfl (by kernel_rfl) (by kernel_rfl) (by kernel_rfl) (fun _ _ _ h => h) (Or.inl ⟨by rfl, ?h56⟩) hHeld ?r56
        case h56 => (intro w hSw; (try dsimp only at hSw); go_simp; try with_reducible rfl)
        try simp only [Act.put, List.setIfInBounds_toArray, List.set_cons_zero, List.set_cons_succ]
        refine wpAnyH_take (i := 37) (oi := { dst := some 46, op := Go.Op.move (Go.Operand.tmp 45), type := 4, pos := "l06_parsing.go:134", after := #[{ on := 36, ground := Go.Ground.data }, { on := 34, ground := Go.Ground.chain }], guard := none }) (v := ?v57) rfl (by kernel_rfl) (by kernel_rfl) (by kernel_rfl) (fun _ _ _ h => h) (Or.inl ⟨by rfl, ?h57⟩) hHeld ?r57
        case h57 => (intro w hSw; (try dsimp only at hSw); go_simp; try with_reducible rfl)
        try simp only [Act.put, List.setIfInBounds_toArray, List.set_cons_zero, List.set_cons_succ]
        refine wpAnyH_take (i := 38) (oi := { dst := some 47, op := Go.Op.move (Go.Operand.tmp 0), type := 75, pos := "l06_parsing.go:134", after := #[{ on := 37, ground := Go.Ground.guard }], guard := some (37, false) }) (v := undef) rfl (by kernel_rfl) (by kernel_rfl) (by kernel_rfl) (fun _ _ _ h => h) (Or.inr ⟨by rfl, rfl⟩) hHeld ?_
        try simp only [Act.put, List.setIfInBounds_toArray, List.set_cons_zero, List.set_cons_succ]
        refine wpAnyH_take (i := 39) (oi := { dst := some 48, op := Go.Op.nilCheck (Go.Operand.tmp 47), type := 0, pos := "l06_parsing.go:134", after := #[{ on := 38, ground := Go.Ground.data }, { on := 37, ground := Go.Ground.guard }], guard := some (37, false) }) (v := undef) rfl (by kernel_rfl) (by kernel_rfl) (by kernel_rfl) (fun _ _ _ h => h) (Or.inr ⟨by rfl, rfl⟩) hHeld ?_
        try simp only [Act.put, List.setIfInBounds_toArray, List.set_cons_zero, List.set_cons_succ]
        refine wpAnyH_take (i := 40) (oi := { dst := some 49, op := Go.Op.fieldAddr 77 (Go.Operand.tmp 48) 0, type := 0, pos := "l06_parsing.go:134", after := #[{ on := 39, ground := Go.Ground.data }, { on := 37, ground := Go.Ground.guard }], guard := some (37, false) }) (v := undef) rfl (by kernel_rfl) (by kernel_rfl) (by kernel_rfl) (fun _ _ _ h => h) (Or.inr ⟨by rfl, rfl⟩) hHeld ?_
        try simp only [Act.put, List.setIfInBounds_toArray, List.set_cons_zero, List.set_cons_succ]
        refine wpAnyH_take (i := 41) (oi := { dst := some 50, op := Go.Op.load 34 (Go.Operand.tmp 49), type := 34, pos := "l06_parsing.go:134", after := #[{ on := 40, ground := Go.Ground.data }, { on := 37, ground := Go.Ground.guard }], guard := some (37, false) }) (v := undef) rfl (by kernel_rfl) (by kernel_rfl) (by kernel_rfl) (fun _ _ _ h => h) (Or.inr ⟨by rfl, rfl⟩) hHeld ?_
        try simp only [Act.put, List.setIfInBounds_toArray, List.set_cons_zero, List.set_cons_succ]
        refine wpAnyH_take (i := 42) (oi := { dst := some 51, op := Go.Op.move (Go.Operand.tmp 0), type := 75, pos := "l06_parsing.go:134", after := #[{ on := 37, ground := Go.Ground.guard }], guard := some (37, false) }) (v := undef) rfl (by kernel_rfl) (by kernel_rfl) (by kernel_rfl) (fun _ _ _ h => h) (Or.inr ⟨by rfl, rfl⟩) hHeld ?_
        try simp only [Act.put, List.setIfInBounds_toArray, List.set_cons_zero, List.set_cons_succ]
        refine wpAnyH_take (i := 43) (oi := { dst := some 52, op := Go.Op.nilCheck (Go.Operand.tmp 51), type := 0, pos := "l06_parsing.go:134", after := #[{ on := 42, ground := Go.Ground.data }, { on := 37, ground := Go.Ground.guard }], guard := some (37, false) }) (v := undef) rfl (by kernel_rfl) (by kernel_rfl) (by kernel_rfl) (fun _ _ _ h => h) (Or.inr ⟨by rfl, rfl⟩) hHeld ?_
        try simp only [Act.put, List.setIfInBounds_toArray, List.set_cons_zero, List.set_cons_succ]
        refine wpAnyH_take (i := 44) (oi := { dst := some 53, op := Go.Op.fieldAddr 77 (Go.Operand.tmp 52) 0, type := 0, pos := "l06_parsing.go:134", after := #[{ on := 43, ground := Go.Ground.data }, { on := 37, ground := Go.Ground.guard }], guard := some (37, false) }) (v := undef) rfl (by kernel_rfl) (by kernel_rfl) (by kernel_rfl) (fun _ _ _ h => h) (Or.inr ⟨by rfl, rfl⟩) hHeld ?_
        try simp only [Act.put, List.setIfInBounds_toArray, List.set_cons_zero, List.set_cons_succ]
        refine wpAnyH_take (i := 45) (oi := { dst := some 54, op := Go.Op.fieldAddr 34 (Go.Operand.tmp 53) 3, type := 0, pos := "l06_parsing.go:134", after := #[{ on := 44, ground := Go.Ground.data }, { on := 37, ground := Go.Ground.guard }], guard := some (37, false) }) (v := undef) rfl (by kernel_rfl) (by kernel_rfl) (by kernel_rfl) (fun _ _ _ h => h) (Or.inr ⟨by rfl, rfl⟩) hHeld ?_
        try simp only [Act.put, List.setIfInBounds_toArray, List.set_cons_zero, List.set_cons_succ]
        refine wpAnyH_take (i := 46) (oi := { dst := some 55, op := Go.Op.load 32 (Go.Operand.tmp 54), type := 32, pos := "l06_parsing.go:134", after := #[{ on := 45, ground := Go.Ground.data }, { on := 37, ground := Go.Ground.guard }], guard := some (37, false) }) (v := undef) rfl (by kernel_rfl) (by kernel_rfl) (by kernel_rfl) (fun _ _ _ h => h) (Or.inr ⟨by rfl, rfl⟩) hHeld ?_
        try simp only [Act.put, List.setIfInBounds_toArray, List.set_cons_zero, List.set_cons_succ]
        refine wpAnyH_take (i := 47) (oi := { dst := some 56, op := Go.Op.move (Go.Operand.tmp 0), type := 75, pos := "l06_parsing.go:134", after := #[{ on := 37, ground := Go.Ground.guard }], guard := some (37, false) }) (v := undef) rfl (by kernel_rfl) (by kernel_rfl) (by kernel_rfl) (fun _ _ _ h => h) (Or.inr ⟨by rfl, rfl⟩) hHeld ?_
        try simp only [Act.put, List.setIfInBounds_toArray, List.set_cons_zero, List.set_cons_succ]
        refine wpAnyH_take (i := 48) (oi := { dst := some 57, op := Go.Op.nilCheck (Go.Operand.tmp 56), type := 0, pos := "l06_parsing.go:134", after := #[{ on := 47, ground := Go.Ground.data }, { on := 37, ground := Go.Ground.guard }], guard := some (37, false) }) (v := undef) rfl (by kernel_rfl) (by kernel_rfl) (by kernel_rfl) (fun _ _ _ h => h) (Or.inr ⟨by rfl, rfl⟩) hHeld ?_
        try simp only [Act.put, List.setIfInBounds_toArray, List.set_cons_zero, List.set_cons_succ]
        refine wpAnyH_take (i := 49) (oi := { dst := some 58, op := Go.Op.fieldAddr 77 (Go.Operand.tmp 57) 1, type := 0, pos := "l06_parsing.go:134", after := #[{ on := 48, ground := Go.Ground.data }, { on := 37, ground := Go.Ground.guard }], guard := some (37, false) }) (v := undef) rfl (by kernel_rfl) (by kernel_rfl) (by kernel_rfl) (fun _ _ _ h => h) (Or.inr ⟨by rfl, rfl⟩) hHeld ?_
        try simp only [Act.put, List.setIfInBounds_toArray, List.set_cons_zero, List.set_cons_succ]
        refine wpAnyH_take (i := 50) (oi := { dst := some 59, op := Go.Op.load 27 (Go.Operand.tmp 58), type := 27, pos := "l06_parsing.go:134", after := #[{ on := 49, ground := Go.Ground.data }, { on := 37, ground := Go.Ground.guard }], guard := some (37, false) }) (v := undef) rfl (by kernel_rfl) (by kernel_rfl) (by kernel_rfl) (fun _ _ _ h => h) (Or.inr ⟨by rfl, rfl⟩) hHeld ?_
        try simp only [Act.put, List.setIfInBounds_toArray, List.set_cons_zero, List.set_cons_succ]
        refine wpAnyH_take (i := 51) (oi := { dst := some 60, op := Go.Op.move (Go.Operand.tmp 0), type := 75, pos := "l06_parsing.go:134", after := #[{ on := 37, ground := Go.Ground.guard }], guard := some (37, false) }) (v := undef) rfl (by kernel_rfl) (by kernel_rfl) (by kernel_rfl) (fun _ _ _ h => h) (Or.inr ⟨by rfl, rfl⟩) hHeld ?_
        try simp only [Act.put, List.setIfInBounds_toArray, List.set_cons_zero, List.set_cons_succ]
        refine wpAnyH_take (i := 52) (oi := { dst := some 61, op := Go.Op.nilCheck (Go.Operand.tmp 60), type := 0, pos := "l06_parsing.go:134", after := #[{ on := 51, ground := Go.Ground.data }, { on := 37, ground := Go.Ground.guard }], guard := some (37, false) }) (v := undef) rfl (by kernel_rfl) (by kernel_rfl) (by kernel_rfl) (fun _ _ _ h => h) (Or.inr ⟨by rfl, rfl⟩) hHeld ?_
        try simp only [Act.put, List.setIfInBounds_toArray, List.set_cons_zero, List.set_cons_succ]
        refine wpAnyH_take (i := 53) (oi := { dst := some 62, op := Go.Op.fieldAddr 77 (Go.Operand.tmp 61) 2, type := 0, pos := "l06_parsing.go:134", after := #[{ on := 52, ground := Go.Ground.data }, { on := 37, ground := Go.Ground.guard }], guard := some (37, false) }) (v := undef) rfl (by kernel_rfl) (by kernel_rfl) (by kernel_rfl) (fun _ _ _ h => h) (Or.inr ⟨by rfl, rfl⟩) hHeld ?_
        try simp only [Act.put, List.setIfInBounds_toArray, List.set_cons_zero, List.set_cons_succ]
        refine wpAnyH_take (i := 54) (oi := { dst := some 63, op := Go.Op.load 3 (Go.Operand.tmp 62), type := 3, pos := "l06_parsing.go:134", after := #[{ on := 53, ground := Go.Ground.data }, { on := 37, ground := Go.Ground.guard }], guard := some (37, false) }) (v := undef) rfl (by kernel_rfl) (by kernel_rfl) (by kernel_rfl) (fun _ _ _ h => h) (Or.inr ⟨by rfl, rfl⟩) hHeld ?_
        try simp only [Act.put, List.setIfInBounds_toArray, List.set_cons_zero, List.set_cons_succ]
        refine wpAnyH_take (i := 55) (oi := { dst := some 64, op := Go.Op.indexAddr 27 (Go.Operand.tmp 59) (Go.Operand.tmp 63), type := 0, pos := "l06_parsing.go:134", after := #[{ on := 50, ground := Go.Ground.data }, { on := 54, ground := Go.Ground.data }, { on := 37, ground := Go.Ground.guard }], guard := some (37, false) }) (v := undef) rfl (by kernel_rfl) (by kernel_rfl) (by kernel_rfl) (fun _ _ _ h => h) (Or.inr ⟨by rfl, rfl⟩) hHeld ?_
        try simp only [Act.put, List.setIfInBounds_toArray, List.set_cons_zero, List.set_cons_succ]
        refine wpAnyH_take (i := 56) (oi := { dst := some 65, op := Go.Op.load 3 (Go.Operand.tmp 64), type := 3, pos := "l06_parsing.go:134", after := #[{ on := 55, ground := Go.Ground.data }, { on := 37, ground := Go.Ground.guard }], guard := some (37, false) }) (v := undef) rfl (by kernel_rfl) (by kernel_rfl) (by kernel_rfl) (fun _ _ _ h => h) (Or.inr ⟨by rfl, rfl⟩) hHeld ?_
        try simp only [Act.put, List.setIfInBounds_toArray, List.set_cons_zero, List.set_cons_succ]
        refine wpAnyH_take (i := 57) (oi := { dst := some 66, op := Go.Op.indexAddr 32 (Go.Operand.tmp 55) (Go.Operand.tmp 65), type := 0, pos := "l06_parsing.go:134", after := #[{ on := 46, ground := Go.Ground.data }, { on := 56, ground := Go.Ground.data }, { on := 37, ground := Go.Ground.guard }], guard := some (37, false) }) (v := undef) rfl (by kernel_rfl) (by kernel_rfl) (by kernel_rfl) (fun _ _ _ h => h) (Or.inr ⟨by rfl, rfl⟩) hHeld ?_
        try simp only [Act.put, List.setIfInBounds_toArray, List.set_cons_zero, List.set_cons_succ]
        refine wpAnyH_take (i := 58) (oi := { dst := some 67, op := Go.Op.fieldAddr 66 (Go.Operand.tmp 66) 0, type := 0, pos := "l06_parsing.go:134", after := #[{ on := 57, ground := Go.Ground.data }, { on := 37, ground := Go.Ground.guard }], guard := some (37, false) }) (v := undef) rfl (by kernel_rfl) (by kernel_rfl) (by kernel_rfl) (fun _ _ _ h => h) (Or.inr ⟨by rfl, rfl⟩) hHeld ?_
        try simp only [Act.put, List.setIfInBounds_toArray, List.set_cons_zero, List.set_cons_succ]
        refine wpAnyH_take (i := 59) (oi := { dst := some 68, op := Go.Op.load 3 (Go.Operand.tmp 67), type := 3, pos := "l06_parsing.go:134", after := #[{ on := 58, ground := Go.Ground.data }, { on := 37, ground := Go.Ground.guard }], guard := some (37, false) }) (v := undef) rfl (by kernel_rfl) (by kernel_rfl) (by kernel_rfl) (fun _ _ _ h => h) (Or.inr ⟨by rfl, rfl⟩) hHeld ?_
        try simp only [Act.put, List.setIfInBounds_toArray, List.set_cons_zero, List.set_cons_succ]
        refine wpAnyH_take (i := 60) (oi := { dst := some 69, op := Go.Op.call { callee := Go.Callee.value (Go.Operand.func 35), args := #[Go.Operand.tmp 50, Go.Operand.tmp 68], argTypes := #[34, 3] }, type := 3, pos := "l06_parsing.go:134", after := #[{ on := 41, ground := Go.Ground.data }, { on := 59, ground := Go.Ground.data }, { on := 37, ground := Go.Ground.chain }, { on := 37, ground := Go.Ground.guard }], guard := some (37, false) }) (v := undef) rfl (by kernel_rfl) (by kernel_rfl) (by kernel_rfl) (fun _ _ _ h => h) (Or.inr ⟨by rfl, rfl⟩) hHeld ?_
        try simp only [Act.put, List.setIfInBounds_toArray, List.set_cons_zero, List.set_cons_succ]
        refine wpAnyH_take (i := 61) (oi := { dst := some 70, op := Go.Op.move (Go.Operand.tmp 1), type := 3, pos := "l06_parsing.go:134", after := #[{ on := 37, ground := Go.Ground.guard }], guard := some (37, false) }) (v := undef) rfl (by kernel_rfl) (by kernel_rfl) (by kernel_rfl) (fun _ _ _ h => h) (Or.inr ⟨by rfl, rfl⟩) hHeld ?_
        try simp only [Act.put, List.setIfInBounds_toArray, List.set_cons_zero, List.set_cons_succ]
        refine wpAnyH_take (i := 62) (oi := { dst := some 71, op := Go.Op.binOp Go.BinOp.neq 3 (Go.Operand.tmp 69) (Go.Operand.tmp 70) 3, type := 4, pos := "l06_parsing.go:134", after := #[{ on := 60, ground := Go.Ground.data }, { on := 61, ground := Go.Ground.data }, { on := 37, ground := Go.Ground.guard }], guard := some (37, false) }) (v := undef) rfl (by kernel_rfl) (by kernel_rfl) (by kernel_rfl) (fun _ _ _ h => h) (Or.inr ⟨by rfl, rfl⟩) hHeld ?_
        try simp only [Act.put, List.setIfInBounds_toArray, List.set_cons_zero, List.set_cons_succ]
        refine wpAnyH_take (i := 63) (oi := { dst := some 72, op := Go.Op.pick (Go.Operand.tmp 46) (Go.Operand.const (Go.Value.bool true)) (Go.Operand.tmp 71), type := 4, pos := "l06_parsing.go:134", after := #[{ on := 37, ground := Go.Ground.data }, { on := 62, ground := Go.Ground.data }], guard := none }) (v := ?v58) rfl (by kernel_rfl) (by kernel_rfl) (by kernel_rfl) (fun _ _ _ h => h) (Or.inl ⟨by rfl, ?h58⟩) hHeld ?r58
        case h58 => (intro w hSw; (try dsimp only at hSw); go_simp; try with_reducible rfl)
        try simp only [Act.put, List.setIfInBounds_toArray, List.set_cons_zero, List.set_cons_succ]
        refine wpAnyH_done (by kernel_rfl) ?_ _
        go_wp2_with fail
        go_meet
        exact ⟨by rw [HOF.out], HBE⟩
      obtain ⟨k, rfl, hk⟩ : ∃ k : Nat, z = (k : Int) ∧ k < d.prods.length := by
        unfold wiB at hwi
        simp only [decide_eq_true_eq] at hwi
        exact ⟨z.toNat, by omega, by omega⟩
      have hpa : pa d L a = d.prods[k] := by
        unfold pa pdAt
        rw [hz]
        simp [List.getD_eq_getElem?_getD, hk]
      obtain ⟨e3, hSp, ai, ci, bi, oi, q0, q1, hci, hri⟩ := HPR.out k hk
      subst e3
      obtain ⟨hpl1, hpl2, _, _, _, _⟩ := pd_of hok hk
      rw [← hpa] at q0 hpl1 hpl2
      have q0 := HCELL.out (w.alloc (.cells #[.int .i64 0, .slice none 0 0] 48)).drew (Below.kp (HB0.out.drew) R) bp _ _ hSp q0
      have HOF : Hid ((!okAt d L s a) = (((pa d L a).left - (d.terms.length : Int)) != (s - (d.terms.length : Int)))) := by
        show (!okAt d L s a) = _
        unfold okAt
        rw [hz, hwi, decide_eq_true hal', Bool.eq_iff_iff]
        (simp <;> omega)
      clear hpa
      generalize pa d L a = P at *
      have hS0 := (⟨x6, x5, x4, x3, n0, x0, x1, x2, q0⟩ : (w.alloc (.cells #[.int .i64 0, .slice none 0 0] 48)).drew.cell? ⟨R, 6, none⟩ = some (.bool false) ∧ (w.alloc (.cells #[.int .i64 0, .slice none 0 0] 48)).drew.cell? ⟨R, 5, none⟩ = some (.int .i64 a) ∧ (w.alloc (.cells #[.int .i64 0, .slice none 0 0] 48)).drew.cell? ⟨R, 4, none⟩ = some (.slice (some ⟨bn, on, none⟩) L.length c) ∧ (w.alloc (.cells #[.int .i64 0, .slice none 0 0] 48)).drew.cell? ⟨R, 3, none⟩ = some (.slice (some ⟨bp, op, none⟩) d.prods.length c3) ∧ (w.alloc (.cells #[.int .i64 0, .slice none 0 0] 48)).drew.cell? ⟨bn, on + a, none⟩ = some (.int .i64 (k : Nat)) ∧ (w.alloc (.cells #[.int .i64 0, .slice none 0 0] 48)).drew.cell? ⟨R, 0, none⟩ = some (.slice a0 d.terms.length c0) ∧ (w.alloc (.cells #[.int .i64 0, .slice none 0 0] 48)).drew.cell? ⟨R, 1, none⟩ = some (.slice a1 d.nons.length c1) ∧ (w.alloc (.cells #[.int .i64 0, .slice none 0 0] 48)).drew.cell? ⟨R, 2, none⟩ = some (.int .i64 d.own) ∧ (w.alloc (.cells #[.int .i64 0, .slice none 0 0] 48)).drew.cell? ⟨bp, op + k * 5, none⟩ = some (.int .i64 P.left))
      have HNN := (show Hid _ from fun w' => non_s a0 d.terms.length c0 (.slice a1 d.nons.length c1) (.int .i64 d.own) (.slice (some ⟨bp, op, none⟩) d.prods.length c3) P.left w' (by omega) (by omega) (by omega))
      have hba := bel_alloc (w.alloc (.cells #[.int .i64 0, .slice none 0 0] 48)).drew (.cells #[.slice a0 d.terms.length c0, .slice a1 d.nons.length c1, .int .i64 d.own, .slice (some ⟨bp, op, none⟩) d.prods.length c3] 34)
      have HBE := (show Hid _ from bel_trans HBE.out hba)
      have hS1 := (⟨(hba.cell (lt_of_cell hS0.1)).trans hS0.1, (hba.cell (lt_of_cell hS0.2.1)).trans hS0.2.1, (hba.cell (lt_of_cell hS0.2.2.1)).trans hS0.2.2.1, (hba.cell (lt_of_cell hS0.2.2.2.1)).trans hS0.2.2.2.1, (hba.cell (lt_of_cell hS0.2.2.2.2.1)).trans hS0.2.2.2.2.1, (hba.cell (lt_of_cell hS0.2.2.2.2.2.1)).trans hS0.2.2.2.2.2.1, (hba.cell (lt_of_cell hS0.2.2.2.2.2.2.1)).trans hS0.2.2.2.2.2.2.1, (hba.cell (lt_of_cell hS0.2.2.2.2.2.2.2.1)).trans hS0.2.2.2.2.2.2.2.1, (hba.cell (lt_of_cell hS0.2.2.2.2.2.2.2.2)).trans hS0.2.2.2.2.2.2.2.2⟩ : _ ∧ _ ∧ _ ∧ _ ∧ _ ∧ _ ∧ _ ∧ _ ∧ _)
      have hkp : k ≤ 120 := by omega
      clear x0 x1 x2 x3 x4 x5 x6 HCE HPR HCELL n0 hz hri q0 q1 hba
      refine wp_region_held_drew (S := (fun w' => w'.cell? ⟨R, 6, none⟩ = some (.bool false) ∧ w'.cell? ⟨R, 5, none⟩ = some (.int .i64 a) ∧ w'.cell? ⟨R, 4, none⟩ = some (.slice (some ⟨bn, on, none⟩) L.length c) ∧ w'.cell? ⟨R, 3, none⟩ = some (.slice (some ⟨bp, op, none⟩) d.prods.length c3) ∧ w'.cell? ⟨bn, on + a, none⟩ = some (.int .i64 (k : Nat)) ∧ w'.cell? ⟨R, 0, none⟩ = some (.slice a0 d.terms.length c0) ∧ w'.cell? ⟨R, 1, none⟩ = some (.slice a1 d.nons.length c1) ∧ w'.cell? ⟨R, 2, none⟩ = some (.int .i64 d.own) ∧ w'.cell? ⟨bp, op + k * 5, none⟩ = some (.int .i64 P.left))) (by kernel_rfl) hS0 (fun hHeld => ?_)
      refine wpAnyH_take (i := 0) (oi := { dst := some 9, op := Go.Op.move (Go.Operand.tmp 0), type := 75, pos := "l06_parsing.go:134", after := #[], guard := none }) (v := ?v59) rfl (by kernel_rfl) (by kernel_rfl) (by kernel_rfl) (fun _ _ _ h => h) (Or.inl ⟨by rfl, ?h59⟩) hHeld ?r59
      case h59 => (intro w hSw; (try dsimp only at hSw); go_simp; try with_reducible rfl)
      try simp only [Act.put, List.setIfInBounds_toArray, List.set_cons_zero, List.set_cons_succ]
      refine wpAnyH_take (i := 1) (oi := { dst := some 10, op := Go.Op.nilCheck (Go.Operand.tmp 9), type := 0, pos := "l06_parsing.go:134", after := #[{ on := 0, ground := Go.Ground.data }], guard := none }) (v := ?v60) rfl (by kernel_rfl) (by kernel_rfl) (by kernel_rfl) (fun _ _ _ h => h) (Or.inl ⟨by rfl, ?h60⟩) hHeld ?r60
      case h60 => (intro w hSw; (try dsimp only at hSw); go_simp; try with_reducible rfl)
      try simp only [Act.put, List.setIfInBounds_toArray, List.set_cons_zero, List.set_cons_succ]
      refine wpAnyH_take (i := 2) (oi := { dst := some 11, op := Go.Op.fieldAddr 77 (Go.Operand.tmp 10) 3, type := 0, pos := "l06_parsing.go:134", after := #[{ on := 1, ground := Go.Ground.data }], guard := none }) (v := ?v61) rfl (by kernel_rfl) (by kernel_rfl) (by kernel_rfl) (fun _ _ _ h => h) (Or.inl ⟨by rfl, ?h61⟩) hHeld ?r61
      case h61 => (intro w hSw; (try dsimp only at hSw); go_simp; try with_reducible rfl)
      try simp only [Act.put, List.setIfInBounds_toArray, List.set_cons_zero, List.set_cons_succ]
      refine wpAnyH_take (i := 3) (oi := { dst := some 12, op := Go.Op.load 4 (Go.Operand.tmp 11), type := 4, pos := "l06_parsing.go:134", after := #[{ on := 2, ground := Go.Ground.data }], guard := none }) (v := ?v62) rfl (by kernel_rfl) (by kernel_rfl) (by kernel_rfl) (fun _ _ _ h => h) (Or.inl ⟨by rfl, ?h62⟩) hHeld ?r62
      case h62 => (intro w hSw; (try dsimp only at hSw); go_simp; try with_reducible rfl)
      try simp only [Act.put, List.setIfInBounds_toArray, List.set_cons_zero, List.set_cons_succ]
      refine wpAnyH_take (i := 4) (oi := { dst := some 13, op := Go.Op.move (Go.Operand.tmp 12), type := 4, pos := "l06_parsing.go:134", after := #[{ on := 3, ground := Go.Ground.data }], guard := none }) (v := ?v63) rfl (by kernel_rfl) (by kernel_rfl) (by kernel_rfl) (fun _ _ _ h => h) (Or.inl ⟨by rfl, ?h63⟩) hHeld ?r63
      case h63 => (intro w hSw; (try dsimp only at hSw); go_simp; try with_reducible rfl)
      try simp only [Act.put, List.setIfInBounds_toArray, List.set_cons_zero, List.set_cons_succ]
      refine wpAnyH_take (i := 5) (oi := { dst := some 14, op := Go.Op.move (Go.Operand.tmp 0), type := 75, pos := "l06_parsing.go:134", after := #[{ on := 4, ground := Go.Ground.guard }], guard := some (4, false) }) (v := ?v64) rfl (by kernel_rfl) (by kernel_rfl) (by kernel_rfl) (fun _ _ _ h => h) (Or.inl ⟨by rfl, ?h64⟩) hHeld ?r64
      case h64 => (intro w hSw; (try dsimp only at hSw); go_simp; try with_reducible rfl)
      try simp only [Act.put, List.setIfInBounds_toArray, List.set_cons_zero, List.set_cons_succ]
      refine wpAnyH_take (i := 6) (oi := { dst := some 15, op := Go.Op.nilCheck (Go.Operand.tmp 14), type := 0, pos := "l06_parsing.go:134", after := #[{ on := 5, ground := Go.Ground.data }, { on := 4, ground := Go.Ground.guard }], guard := some (4, false) }) (v := ?v65) rfl (by kernel_rfl) (by kernel_rfl) (by kernel_rfl) (fun _ _ _ h => h) (Or.inl ⟨by rfl, ?h65⟩) hHeld ?r65
      case h65 => (intro w hSw; (try dsimp only at hSw); go_simp; try with_reducible rfl)
      try simp only [Act.put, List.setIfInBounds_toArray, List.set_cons_zero, List.set_cons_succ]
      refine wpAnyH_take (i := 7) (oi := { dst := some 16, op := Go.Op.fieldAddr 77 (Go.Operand.tmp 15) 2, type := 0, pos := "l06_parsing.go:134", after := #[{ on := 6, ground := Go.Ground.data }, { on := 4, ground := Go.Ground.guard }], guard := some (4, false) }) (v := ?v66) rfl (by kernel_rfl) (by kernel_rfl) (by kernel_rfl) (fun _ _ _ h => h) (Or.inl ⟨by rfl, ?h66⟩) hHeld ?r66
      case h66 => (intro w hSw; (try dsimp only at hSw); go_simp; try with_reducible rfl)
      try simp only [Act.put, List.setIfInBounds_toArray, List.set_cons_zero, List.set_cons_succ]
      refine wpAnyH_take (i := 8) (oi := { dst := some 17, op := Go.Op.load 3 (Go.Operand.tmp 16), type := 3, pos := "l06_parsing.go:134", after := #[{ on := 7, ground := Go.Ground.data }, { on := 4, ground := Go.Ground.guard }], guard := some (4, false) }) (v := ?v67) rfl (by kernel_rfl) (by kernel_rfl) (by kernel_rfl) (fun _ _ _ h => h) (Or.inl ⟨by rfl, ?h67⟩) hHeld ?r67
      case h67 => (intro w hSw; (try dsimp only at hSw); go_simp; try with_reducible rfl)
      try simp only [Act.put, List.setIfInBounds_toArray, List.set_cons_zero, List.set_cons_succ]
      refine wpAnyH_take (i := 9) (oi := { dst := some 18, op := Go.Op.move (Go.Operand.tmp 0), type := 75, pos := "l06_parsing.go:134", after := #[{ on := 4, ground := Go.Ground.guard }], guard := some (4, false) }) (v := ?v68) rfl (by kernel_rfl) (by kernel_rfl) (by kernel_rfl) (fun _ _ _ h => h) (Or.inl ⟨by rfl, ?h68⟩) hHeld ?r68
      case h68 => (intro w hSw; (try dsimp only at hSw); go_simp; try with_reducible rfl)
      try simp only [Act.put, List.setIfInBounds_toArray, List.set_cons_zero, List.set_cons_succ]
      refine wpAnyH_take (i := 10) (oi := { dst := some 19, op := Go.Op.nilCheck (Go.Operand.tmp 18), type := 0, pos := "l06_parsing.go:134", after := #[{ on := 9, ground := Go.Ground.data }, { on := 4, ground := Go.Ground.guard }], guard := some (4, false) }) (v := ?v69) rfl (by kernel_rfl) (by kernel_rfl) (by kernel_rfl) (fun _ _ _ h => h) (Or.inl ⟨by rfl, ?h69⟩) hHeld ?r69
      case h69 => (intro w hSw; (try dsimp only at hSw); go_simp; try with_reducible rfl)
      try simp only [Act.put, List.setIfInBounds_toArray, List.set_cons_zero, List.set_cons_succ]
      refine wpAnyH_take (i := 11) (oi := { dst := some 20, op := Go.Op.fieldAddr 77 (Go.Operand.tmp 19) 1, type := 0, pos := "l06_parsing.go:134", after := #[{ on := 10, ground := Go.Ground.data }, { on := 4, ground := Go.Ground.guard }], guard := some (4, false) }) (v := ?v70) rfl (by kernel_rfl) (by kernel_rfl) (by kernel_rfl) (fun _ _ _ h => h) (Or.inl ⟨by rfl, ?h70⟩) hHeld ?r70
      case h70 => (intro w hSw; (try dsimp only at hSw); go_simp; try with_reducible rfl)
      try simp only [Act.put, List.setIfInBounds_toArray, List.set_cons_zero, List.set_cons_succ]
      refine wpAnyH_take (i := 12) (oi := { dst := some 21, op := Go.Op.load 27 (Go.Operand.tmp 20), type := 27, pos := "l06_parsing.go:134", after := #[{ on := 11, ground := Go.Ground.data }, { on := 4, ground := Go.Ground.guard }], guard := some (4, false) }) (v := ?v71) rfl (by kernel_rfl) (by kernel_rfl) (by kernel_rfl) (fun _ _ _ h => h) (Or.inl ⟨by rfl, ?h71⟩) hHeld ?r71
      case h71 => (intro w hSw; (try dsimp only at hSw); go_simp; try with_reducible rfl)
      try simp only [Act.put, List.setIfInBounds_toArray, List.set_cons_zero, List.set_cons_succ]
      refine wpAnyH_take (i := 13) (oi := { dst := some 22, op := Go.Op.call { callee := Go.Callee.builtin Go.Builtin.len, args := #[Go.Operand.tmp 21], argTypes := #[27] }, type := 3, pos := "l06_parsing.go:134", after := #[{ on := 12, ground := Go.Ground.data }, { on := 4, ground := Go.Ground.guard }], guard := some (4, false) }) (v := ?v72) rfl (by kernel_rfl) (by kernel_rfl) (by kernel_rfl) (fun _ _ _ h => h) (Or.inl ⟨by rfl, ?h72⟩) hHeld ?r72
      case h72 => (intro w hSw; (try dsimp only at hSw); go_simp; try with_reducible rfl)
      try simp only [Act.put, List.setIfInBounds_toArray, List.set_cons_zero, List.set_cons_succ]
      refine wpAnyH_take (i := 14) (oi := { dst := some 23, op := Go.Op.binOp Go.BinOp.geq 3 (Go.Operand.tmp 17) (Go.Operand.tmp 22) 3, type := 4, pos := "l06_parsing.go:134", after := #[{ on := 8, ground := Go.Ground.data }, { on := 13, ground := Go.Ground.data }, { on := 4, ground := Go.Ground.guard }], guard := some (4, false) }) (v := ?v73) rfl (by kernel_rfl) (by kernel_rfl) (by kernel_rfl) (fun _ _ _ h => h) (Or.inl ⟨by rfl, ?h73⟩) hHeld ?r73
      case h73 => (intro w hSw; (try dsimp only at hSw); go_simp; try with_reducible rfl)
      try simp only [Act.put, List.setIfInBounds_toArray, List.set_cons_zero, List.set_cons_succ]
      refine wpAnyH_take (i := 15) (oi := { dst := some 24, op := Go.Op.pick (Go.Operand.tmp 13) (Go.Operand.const (Go.Value.bool true)) (Go.Operand.tmp 23), type := 4, pos := "l06_parsing.go:134", after := #[{ on := 4, ground := Go.Ground.data }, { on := 14, ground := Go.Ground.data }], guard := none }) (v := ?v74) rfl (by kernel_rfl) (by kernel_rfl) (by kernel_rfl) (fun _ _ _ h => h) (Or.inl ⟨by rfl, ?h74⟩) hHeld ?r74
      case h74 => (intro w hSw; (try dsimp only at hSw); go_simp; try with_reducible rfl)
      try simp only [Act.put, List.setIfInBounds_toArray, List.set_cons_zero, List.set_cons_succ]
      refine wpAnyH_take (i := 16) (oi := { dst := some 25, op := Go.Op.move (Go.Operand.tmp 24), type := 4, pos := "l06_parsing.go:134", after := #[{ on := 15, ground := Go.Ground.data }, { on := 4, ground := Go.Ground.chain }], guard := none }) (v := ?v75) rfl (by kernel_rfl) (by kernel_rfl) (by kernel_rfl) (fun _ _ _ h => h) (Or.inl ⟨by rfl, ?h75⟩) hHeld ?r75
      case h75 => (intro w hSw; (try dsimp only at hSw); go_simp; try with_reducible rfl)
      try simp only [Act.put, List.setIfInBounds_toArray, List.set_cons_zero, List.set_cons_succ]
      refine wpAnyH_take (i := 17) (oi := { dst := some 26, op := Go.Op.move (Go.Operand.tmp 0), type := 75, pos := "l06_parsing.go:134", after := #[{ on := 16, ground := Go.Ground.guard }], guard := some (16, false) }) (v := ?v76) rfl (by kernel_rfl) (by kernel_rfl) (by kernel_rfl) (fun _ _ _ h => h) (Or.inl ⟨by rfl, ?h76⟩) hHeld ?r76
      case h76 => (intro w hSw; (try dsimp only at hSw); go_simp; try with_reducible rfl)
      try simp only [Act.put, List.setIfInBounds_toArray, List.set_cons_zero, List.set_cons_succ]
      refine wpAnyH_take (i := 18) (oi := { dst := some 27, op := Go.Op.nilCheck (Go.Operand.tmp 26), type := 0, pos := "l06_parsing.go:134", after := #[{ on := 17, ground := Go.Ground.data }, { on := 16, ground := Go.Ground.guard }], guard := some (16, false) }) (v := ?v77) rfl (by kernel_rfl) (by kernel_rfl) (by kernel_rfl) (fun _ _ _ h => h) (Or.inl ⟨by rfl, ?h77⟩) hHeld ?r77
      case h77 => (intro w hSw; (try dsimp only at hSw); go_simp; try with_reducible rfl)
      try simp only [Act.put, List.setIfInBounds_toArray, List.set_cons_zero, List.set_cons_succ]
      refine wpAnyH_take (i := 19) (oi := { dst := some 28, op := Go.Op.fieldAddr 77 (Go.Operand.tmp 27) 1, type := 0, pos := "l06_parsing.go:134", after := #[{ on := 18, ground := Go.Ground.data }, { on := 16, ground := Go.Ground.guard }], guard := some (16, false) }) (v := ?v78) rfl (by kernel_rfl) (by kernel_rfl) (by kernel_rfl) (fun _ _ _ h => h) (Or.inl ⟨by rfl, ?h78⟩) hHeld ?r78
      case h78 => (intro w hSw; (try dsimp only at hSw); go_simp; try with_reducible rfl)
      try simp only [Act.put, List.setIfInBounds_toArray, List.set_cons_zero, List.set_cons_succ]
      refine wpAnyH_take (i := 20) (oi := { dst := some 29, op := Go.Op.load 27 (Go.Operand.tmp 28), type := 27, pos := "l06_parsing.go:134", after := #[{ on := 19, ground := Go.Ground.data }, { on := 16, ground := Go.Ground.guard }], guard := some (16, false) }) (v := ?v79) rfl (by kernel_rfl) (by kernel_rfl) (by kernel_rfl) (fun _ _ _ h => h) (Or.inl ⟨by rfl, ?h79⟩) hHeld ?r79
      case h79 => (intro w hSw; (try dsimp only at hSw); go_simp; try with_reducible rfl)
      try simp only [Act.put, List.setIfInBounds_toArray, List.set_cons_zero, List.set_cons_succ]
      refine wpAnyH_take (i := 21) (oi := { dst := some 30, op := Go.Op.move (Go.Operand.tmp 0), type := 75, pos := "l06_parsing.go:134", after := #[{ on := 16, ground := Go.Ground.guard }], guard := some (16, false) }) (v := ?v80) rfl (by kernel_rfl) (by kernel_rfl) (by kernel_rfl) (fun _ _ _ h => h) (Or.inl ⟨by rfl, ?h80⟩) hHeld ?r80
      case h80 => (intro w hSw; (try dsimp only at hSw); go_simp; try with_reducible rfl)
      try simp only [Act.put, List.setIfInBounds_toArray, List.set_cons_zero, List.set_cons_succ]
      refine wpAnyH_take (i := 22) (oi := { dst := some 31, op := Go.Op.nilCheck (Go.Operand.tmp 30), type := 0, pos := "l06_parsing.go:134", after := #[{ on := 21, ground := Go.Ground.data }, { on := 16, ground := Go.Ground.guard }], guard := some (16, false) }) (v := ?v81) rfl (by kernel_rfl) (by kernel_rfl) (by kernel_rfl) (fun _ _ _ h => h) (Or.inl ⟨by rfl, ?h81⟩) hHeld ?r81
      case h81 => (intro w hSw; (try dsimp only at hSw); go_simp; try with_reducible rfl)
      try simp only [Act.put, List.setIfInBounds_toArray, List.set_cons_zero, List.set_cons_succ]
      refine wpAnyH_take (i := 23) (oi := { dst := some 32, op := Go.Op.fieldAddr 77 (Go.Operand.tmp 31) 2, type := 0, pos := "l06_parsing.go:134", after := #[{ on := 22, ground := Go.Ground.data }, { on := 16, ground := Go.Ground.guard }], guard := some (16, false) }) (v := ?v82) rfl (by kernel_rfl) (by kernel_rfl) (by kernel_rfl) (fun _ _ _ h => h) (Or.inl ⟨by rfl, ?h82⟩) hHeld ?r82
      case h82 => (intro w hSw; (try dsimp only at hSw); go_simp; try with_reducible rfl)
      try simp only [Act.put, List.setIfInBounds_toArray, List.set_cons_zero, List.set_cons_succ]
      refine wpAnyH_take (i := 24) (oi := { dst := some 33, op := Go.Op.load 3 (Go.Operand.tmp 32), type := 3, pos := "l06_parsing.go:134", after := #[{ on := 23, ground := Go.Ground.data }, { on := 16, ground := Go.Ground.guard }], guard := some (16, false) }) (v := ?v83) rfl (by kernel_rfl) (by kernel_rfl) (by kernel_rfl) (fun _ _ _ h => h) (Or.inl ⟨by rfl, ?h83⟩) hHeld ?r83
      case h83 => (intro w hSw; (try dsimp only at hSw); go_simp; try with_reducible rfl)
      try simp only [Act.put, List.setIfInBounds_toArray, List.set_cons_zero, List.set_cons_succ]
      refine wpAnyH_take (i := 25) (oi := { dst := some 34, op := Go.Op.indexAddr 27 (Go.Operand.tmp 29) (Go.Operand.tmp 33), type := 0, pos := "l06_parsing.go:134", after := #[{ on := 20, ground := Go.Ground.data }, { on := 24, ground := Go.Ground.data }, { on := 16, ground := Go.Ground.guard }], guard := some (16, false) }) (v := ?v84) rfl (by kernel_rfl) (by kernel_rfl) (by kernel_rfl) (fun _ _ _ h => h) (Or.inl ⟨by rfl, ?h84⟩) hHeld ?r84
      case h84 => (intro w hSw; (try dsimp only at hSw); go_simp; try with_reducible rfl)
      try simp only [Act.put, List.setIfInBounds_toArray, List.set_cons_zero, List.set_cons_succ]
      refine wpAnyH_take (i := 26) (oi := { dst := some 35, op := Go.Op.load 3 (Go.Operand.tmp 34), type := 3, pos := "l06_parsing.go:134", after := #[{ on := 25, ground := Go.Ground.data }, { on := 16, ground := Go.Ground.guard }], guard := some (16, false) }) (v := ?v85) rfl (by kernel_rfl) (by kernel_rfl) (by kernel_rfl) (fun _ _ _ h => h) (Or.inl ⟨by rfl, ?h85⟩) hHeld ?r85
      case h85 => (intro w hSw; (try dsimp only at hSw); go_simp; try with_reducible rfl)
      try simp only [Act.put, List.setIfInBounds_toArray, List.set_cons_zero, List.set_cons_succ]
      refine wpAnyH_take (i := 27) (oi := { dst := some 36, op := Go.Op.move (Go.Operand.tmp 0), type := 75, pos := "l06_parsing.go:134", after := #[{ on := 16, ground := Go.Ground.guard }], guard := some (16, false) }) (v := ?v86) rfl (by kernel_rfl) (by kernel_rfl) (by kernel_rfl) (fun _ _ _ h => h) (Or.inl ⟨by rfl, ?h86⟩) hHeld ?r86
      case h86 => (intro w hSw; (try dsimp only at hSw); go_simp; try with_reducible rfl)
      try simp only [Act.put, List.setIfInBounds_toArray, List.set_cons_zero, List.set_cons_succ]
      refine wpAnyH_take (i := 28) (oi := { dst := some 37, op := Go.Op.nilCheck (Go.Operand.tmp 36), type := 0, pos := "l06_parsing.go:134", after := #[{ on := 27, ground := Go.Ground.data }, { on := 16, ground := Go.Ground.guard }], guard := some (16, false) }) (v := ?v87) rfl (by kernel_rfl) (by kernel_rfl) (by kernel_rfl) (fun _ _ _ h => h) (Or.inl ⟨by rfl, ?h87⟩) hHeld ?r87
      case h87 => (intro w hSw; (try dsimp only at hSw); go_simp; try with_reducible rfl)
      try simp only [Act.put, List.setIfInBounds_toArray, List.set_cons_zero, List.set_cons_succ]
      refine wpAnyH_take (i := 29) (oi := { dst := some 38, op := Go.Op.fieldAddr 77 (Go.Operand.tmp 37) 0, type := 0, pos := "l06_parsing.go:134", after := #[{ on := 28, ground := Go.Ground.data }, { on := 16, ground := Go.Ground.guard }], guard := some (16, false) }) (v := ?v88) rfl (by kernel_rfl) (by kernel_rfl) (by kernel_rfl) (fun _ _ _ h => h) (Or.inl ⟨by rfl, ?h88⟩) hHeld ?r88
      case h88 => (intro w hSw; (try dsimp only at hSw); go_simp; try with_reducible rfl)
      try simp only [Act.put, List.setIfInBounds_toArray, List.set_cons_zero, List.set_cons_succ]
      refine wpAnyH_take (i := 30) (oi := { dst := some 39, op := Go.Op.fieldAddr 34 (Go.Operand.tmp 38) 3, type := 0, pos := "l06_parsing.go:134", after := #[{ on := 29, ground := Go.Ground.data }, { on := 16, ground := Go.Ground.guard }], guard := some (16, false) }) (v := ?v89) rfl (by kernel_rfl) (by kernel_rfl) (by kernel_rfl) (fun _ _ _ h => h) (Or.inl ⟨by rfl, ?h89⟩) hHeld ?r89
      case h89 => (intro w hSw; (try dsimp only at hSw); go_simp; try with_reducible rfl)
      try simp only [Act.put, List.setIfInBounds_toArray, List.set_cons_zero, List.set_cons_succ]
      refine wpAnyH_take (i := 31) (oi := { dst := some 40, op := Go.Op.load 32 (Go.Operand.tmp 39), type := 32, pos := "l06_parsing.go:134", after := #[{ on := 30, ground := Go.Ground.data }, { on := 16, ground := Go.Ground.guard }], guard := some (16, false) }) (v := ?v90) rfl (by kernel_rfl) (by kernel_rfl) (by kernel_rfl) (fun _ _ _ h => h) (Or.inl ⟨by rfl, ?h90⟩) hHeld ?r90
      case h90 => (intro w hSw; (try dsimp only at hSw); go_simp; try with_reducible rfl)
      try simp only [Act.put, List.setIfInBounds_toArray, List.set_cons_zero, List.set_cons_succ]
      refine wpAnyH_take (i := 32) (oi := { dst := some 41, op := Go.Op.call { callee := Go.Callee.builtin Go.Builtin.len, args := #[Go.Operand.tmp 40], argTypes := #[32] }, type := 3, pos := "l06_parsing.go:134", after := #[{ on := 31, ground := Go.Ground.data }, { on := 16, ground := Go.Ground.guard }], guard := some (16, false) }) (v := ?v91) rfl (by kernel_rfl) (by kernel_rfl) (by kernel_rfl) (fun _ _ _ h => h) (Or.inl ⟨by rfl, ?h91⟩) hHeld ?r91
      case h91 => (intro w hSw; (try dsimp only at hSw); go_simp; try with_reducible rfl)
      try simp only [Act.put, List.setIfInBounds_toArray, List.set_cons_zero, List.set_cons_succ]
      refine wpAnyH_take (i := 33) (oi := { dst := some 42, op := Go.Op.binOp Go.BinOp.sub 3 (Go.Operand.tmp 41) (Go.Operand.const (Go.Value.int Go.IntKind.i64 1)) 3, type := 3, pos := "l06_parsing.go:134", after := #[{ on := 32, ground := Go.Ground.data }, { on := 16, ground := Go.Ground.guard }], guard := some (16, false) }) (v := ?v92) rfl (by kernel_rfl) (by kernel_rfl) (by kernel_rfl) (fun _ _ _ h => h) (Or.inl ⟨by rfl, ?h92⟩) hHeld ?r92
      case h92 => (intro w hSw; (try dsimp only at hSw); go_simp; try with_reducible rfl)
      try simp only [Act.put, List.setIfInBounds_toArray, List.set_cons_zero, List.set_cons_succ]
      refine wpAnyH_ready (rs := [34]) (by kernel_rfl) (by simp) ?_
      refine AllReadyH.cons (o := { dst := some 43, op := Go.Op.call { callee := Go.Callee.value (Go.Operand.func 34), args := #[Go.Operand.tmp 35, Go.Operand.const (Go.Value.int Go.IntKind.i64 0), Go.Operand.tmp 42], argTypes := #[3, 3, 3] }, type := 4, pos := "l06_parsing.go:134", after := #[{ on := 26, ground := Go.Ground.data }, { on := 33, ground := Go.Ground.data }, { on := 16, ground := Go.Ground.chain }, { on := 16, ground := Go.Ground.guard }], guard := some (16, false) }) rfl (fun K hK => ?_) AllReadyH.nil
      go_simp
      refine Calls.mono (HBT.out _ _ _ _) ?_
      rintro e w2 ⟨rfl, rfl⟩
      dsimp only
      rw [hwi]
      clear hHeld
      refine hK.out _ _ hS0 (fun hHeld => ?_)
      clear hK K
      try simp only [Act.put, List.setIfInBounds_toArray, List.set_cons_zero, List.set_cons_succ]
      refine wpAnyH_take (i := 35) (oi := { dst := some 44, op := Go.Op.unOp Go.UnOp.not 4 (Go.Operand.tmp 43), type := 4, pos := "l06_parsing.go:134", after := #[{ on := 34, ground := Go.Ground.data }, { on := 16, ground := Go.Ground.guard }], guard := some (16, false) }) (v := ?v93) rfl (by kernel_rfl) (by kernel_rfl) (by kernel_rfl) (fun _ _ _ h => h) (Or.inl ⟨by rfl, ?h93⟩) hHeld ?r93
      case h93 => (intro w hSw; (try dsimp only at hSw); go_simp; try with_reducible rfl)
      try simp only [Act.put, List.setIfInBounds_toArray, List.set_cons_zero, List.set_cons_succ]
      refine wpAnyH_take (i := 36) (oi := { dst := some 45, op := Go.Op.pick (Go.Operand.tmp 25) (Go.Operand.const (Go.Value.bool true)) (Go.Operand.tmp 44), type := 4, pos := "l06_parsing.go:134", after := #[{ on := 16, ground := Go.Ground.data }, { on := 35, ground := Go.Ground.data }], guard := none }) (v := ?v94) rfl (by kernel_rfl) (by kernel_rfl) (by kernel_rfl) (fun _ _ _ h => h) (Or.inl ⟨by rfl, ?h94⟩) hHeld ?r94
      case h94 => (intro w hSw; (try dsimp only at hSw); go_simp; try with_reducible rfl)
      try simp only [Act.put, List.setIfInBounds_toArray, List.set_cons_zero, List.set_cons_succ]
      refine wpAnyH_take (i := 37) (oi := { dst := some 46, op := Go.Op.move (Go.Operand.tmp 45), type := 4, pos := "l06_parsing.go:134", after := #[{ on := 36, ground := Go.Ground.data }, { on := 34, ground := Go.Ground.chain }], guard := none }) (v := ?v95) rfl (by kernel_rfl) (by kernel_rfl) (by kernel_rfl) (fun _ _ _ h => h) (Or.inl ⟨by rfl, ?h95⟩) hHeld ?r95
      case h95 => (intro w hSw; (try dsimp only at hSw); go_simp; try with_reducible rfl)
      try simp only [Act.put, List.setIfInBounds_toArray, List.set_cons_zero, List.set_cons_succ]
      refine wpAnyH_take (i := 38) (oi := { dst := some 47, op := Go.Op.move (Go.Operand.tmp 0), type := 75, pos := "l06_parsing.go:134", after := #[{ on := 37, ground := Go.Ground.guard }], guard := some (37, false) }) (v := ?v96) rfl (by kernel_rfl) (by kernel_rfl) (by kernel_rfl) (fun _ _ _ h => h) (Or.inl ⟨by rfl, ?h96⟩) hHeld ?r96
      case h96 => (intro w hSw; (try dsimp only at hSw); go_simp; try with_reducible rfl)
      try simp only [Act.put, List.setIfInBounds_toArray, List.set_cons_zero, List.set_cons_succ]
      refine wpAnyH_take (i := 39) (oi := { dst := some 48, op := Go.Op.nilCheck (Go.Operand.tmp 47), type := 0, pos := "l06_parsing.go:134", after := #[{ on := 38, ground := Go.Ground.data }, { on := 37, ground := Go.Ground.guard }], guard := some (37, false) }) (v := ?v97) rfl (by kernel_rfl) (by kernel_rfl) (by kernel_rfl) (fun _ _ _ h => h) (Or.inl ⟨by rfl, ?h97⟩) hHeld ?r97
      case h97 => (intro w hSw; (try dsimp only at hSw); go_simp; try with_reducible rfl)
      try simp only [Act.put, List.setIfInBounds_toArray, List.set_cons_zero, List.set_cons_succ]
      refine wpAnyH_take (i := 40) (oi := { dst := some 49, op := Go.Op.fieldAddr 77 (Go.Operand.tmp 48) 0, type := 0, pos := "l06_parsing.go:134", after := #[{ on := 39, ground := Go.Ground.data }, { on := 37, ground := Go.Ground.guard }], guard := some (37, false) }) (v := ?v98) rfl (by kernel_rfl) (by kernel_rfl) (by kernel_rfl) (fun _ _ _ h => h) (Or.inl ⟨by rfl, ?h98⟩) hHeld ?r98
      case h98 => (intro w hSw; (try dsimp only at hSw); go_simp; try with_reducible rfl)
      try simp only [Act.put, List.setIfInBounds_toArray, List.set_cons_zero, List.set_cons_succ]
      refine wpAnyH_take (i := 41) (oi := { dst := some 50, op := Go.Op.load 34 (Go.Operand.tmp 49), type := 34, pos := "l06_parsing.go:134", after := #[{ on := 40, ground := Go.Ground.data }, { on := 37, ground := Go.Ground.guard }], guard := some (37, false) }) (v := ?v99) rfl (by kernel_rfl) (by kernel_rfl) (by kernel_rfl) (fun _ _ _ h => h) (Or.inl ⟨by rfl, ?h99⟩) hHeld ?r99
      case h99 => (intro w hSw; (try dsimp only at hSw); go_simp; try with_reducible rfl)
      try simp only [Act.put, List.setIfInBounds_toArray, List.set_cons_zero, List.set_cons_succ]
      refine wpAnyH_take (i := 42) (oi := { dst := some 51, op := Go.Op.move (Go.Operand.tmp 0), type := 75, pos := "l06_parsing.go:134", after := #[{ on := 37, ground := Go.Ground.guard }], guard := some (37, false) }) (v := ?v100) rfl (by kernel_rfl) (by kernel_rfl) (by kernel_rfl) (fun _ _ _ h => h) (Or.inl ⟨by rfl, ?h100⟩) hHeld ?r100
      case h100 => (intro w hSw; (try dsimp only at hSw); go_simp; try with_reducible rfl)
      try simp only [Act.put, List.setIfInBounds_toArray, List.set_cons_zero, List.set_cons_succ]
      refine wpAnyH_take (i := 43) (oi := { dst := some 52, op := Go.Op.nilCheck (Go.Operand.tmp 51), type := 0, pos := "l06_parsing.go:134", after := #[{ on := 42, ground := Go.Ground.data }, { on := 37, ground := Go.Ground.guard }], guard := some (37, false) }) (v := ?v101) rfl (by kernel_rfl) (by kernel_rfl) (by kernel_rfl) (fun _ _ _ h => h) (Or.inl ⟨by rfl, ?h101⟩) hHeld ?r101
      case h101 => (intro w hSw; (try dsimp only at hSw); go_simp; try with_reducible rfl)
      try simp only [Act.put, List.setIfInBounds_toArray, List.set_cons_zero, List.set_cons_succ]
      refine wpAnyH_take (i := 44) (oi := { dst := some 53, op := Go.Op.fieldAddr 77 (Go.Operand.tmp 52) 0, type := 0, pos := "l06_parsing.go:134", after := #[{ on := 43, ground := Go.Ground.data }, { on := 37, ground := Go.Ground.guard }], guard := some (37, false) }) (v := ?v102) rfl (by kernel_rfl) (by kernel_rfl) (by kernel_rfl) (fun _ _ _ h => h) (Or.inl ⟨by rfl, ?h102⟩) hHeld ?r102
      case h102 => (intro w hSw; (try dsimp only at hSw); go_simp; try with_reducible rfl)
      try simp only [Act.put, List.setIfInBounds_toArray, List.set_cons_zero, List.set_cons_succ]
      refine wpAnyH_take (i := 45) (oi := { dst := some 54, op := Go.Op.fieldAddr 34 (Go.Operand.tmp 53) 3, type := 0, pos := "l06_parsing.go:134", after := #[{ on := 44, ground := Go.Ground.data }, { on := 37, ground := Go.Ground.guard }], guard := some (37, false) }) (v := ?v103) rfl (by kernel_rfl) (by kernel_rfl) (by kernel_rfl) (fun _ _ _ h => h) (Or.inl ⟨by rfl, ?h103⟩) hHeld ?r103
      case h103 => (intro w hSw; (try dsimp only at hSw); go_simp; try with_reducible rfl)
      try simp only [Act.put, List.setIfInBounds_toArray, List.set_cons_zero, List.set_cons_succ]
      refine wpAnyH_take (i := 46) (oi := { dst := some 55, op := Go.Op.load 32 (Go.Operand.tmp 54), type := 32, pos := "l06_parsing.go:134", after := #[{ on := 45, ground := Go.Ground.data }, { on := 37, ground := Go.Ground.guard }], guard := some (37, false) }) (v := ?v104) rfl (by kernel_rfl) (by kernel_rfl) (by kernel_rfl) (fun _ _ _ h => h) (Or.inl ⟨by rfl, ?h104⟩) hHeld ?r104
      case h104 => (intro w hSw; (try dsimp only at hSw); go_simp; try with_reducible rfl)
      try simp only [Act.put, List.setIfInBounds_toArray, List.set_cons_zero, List.set_cons_succ]
      refine wpAnyH_take (i := 47) (oi := { dst := some 56, op := Go.Op.move (Go.Operand.tmp 0), type := 75, pos := "l06_parsing.go:134", after := #[{ on := 37, ground := Go.Ground.guard }], guard := some (37, false) }) (v := ?v105) rfl (by kernel_rfl) (by kernel_rfl) (by kernel_rfl) (fun _ _ _ h => h) (Or.inl ⟨by rfl, ?h105⟩) hHeld ?r105
      case h105 => (intro w hSw; (try dsimp only at hSw); go_simp; try with_reducible rfl)
      try simp only [Act.put, List.setIfInBounds_toArray, List.set_cons_zero, List.set_cons_succ]
      refine wpAnyH_take (i := 48) (oi := { dst := some 57, op := Go.Op.nilCheck (Go.Operand.tmp 56), type := 0, pos := "l06_parsing.go:134", after := #[{ on := 47, ground := Go.Ground.data }, { on := 37, ground := Go.Ground.guard }], guard := some (37, false) }) (v := ?v106) rfl (by kernel_rfl) (by kernel_rfl) (by kernel_rfl) (fun _ _ _ h => h) (Or.inl ⟨by rfl, ?h106⟩) hHeld ?r106
      case h106 => (intro w hSw; (try dsimp only at hSw); go_simp; try with_reducible rfl)
      try simp only [Act.put, List.setIfInBounds_toArray, List.set_cons_zero, List.set_cons_succ]
      refine wpAnyH_take (i := 49) (oi := { dst := some 58, op := Go.Op.fieldAddr 77 (Go.Operand.tmp 57) 1, type := 0, pos := "l06_parsing.go:134", after := #[{ on := 48, ground := Go.Ground.data }, { on := 37, ground := Go.Ground.guard }], guard := some (37, false) }) (v := ?v107) rfl (by kernel_rfl) (by kernel_rfl) (by kernel_rfl) (fun _ _ _ h => h) (Or.inl ⟨by rfl, ?h107⟩) hHeld ?r107
      case h107 => (intro w hSw; (try dsimp only at hSw); go_simp; try with_reducible rfl)
      try simp only [Act.put, List.setIfInBounds_toArray, List.set_cons_zero, List.set_cons_succ]
      refine wpAnyH_take (i := 50) (oi := { dst := some 59, op := Go.Op.load 27 (Go.Operand.tmp 58), type := 27, pos := "l06_parsing.go:134", after := #[{ on := 49, ground := Go.Ground.data }, { on := 37, ground := Go.Ground.guard }], guard := some (37, false) }) (v := ?v108) rfl (by kernel_rfl) (by kernel_rfl) (by kernel_rfl) (fun _ _ _ h => h) (Or.inl ⟨by rfl, ?h108⟩) hHeld ?r108
      case h108 => (intro w hSw; (try dsimp only at hSw); go_simp; try with_reducible rfl)
      try simp only [Act.put, List.setIfInBounds_toArray, List.set_cons_zero, List.set_cons_succ]
      refine wpAnyH_take (i := 51) (oi := { dst := some 60, op := Go.Op.move (Go.Operand.tmp 0), type := 75, pos := "l06_parsing.go:134", after := #[{ on := 37, ground := Go.Ground.guard }], guard := some (37, false) }) (v := ?v109) rfl (by kernel_rfl) (by kernel_rfl) (by kernel_rfl) (fun _ _ _ h => h) (Or.inl ⟨by rfl, ?h109⟩) hHeld ?r109
      case h109 => (intro w hSw; (try dsimp only at hSw); go_simp; try with_reducible rfl)
      try simp only [Act.put, List.setIfInBounds_toArray, List.set_cons_zero, List.set_cons_succ]
      refine wpAnyH_take (i := 52) (oi := { dst := some 61, op := Go.Op.nilCheck (Go.Operand.tmp 60), type := 0, pos := "l06_parsing.go:134", after := #[{ on := 51, ground := Go.Ground.data }, { on := 37, ground := Go.Ground.guard }], guard := some (37, false) }) (v := ?v110) rfl (by kernel_rfl) (by kernel_rfl) (by kernel_rfl) (fun _ _ _ h => h) (Or.inl ⟨by rfl, ?h110⟩) hHeld ?r110
      case h110 => (intro w hSw; (try dsimp only at hSw); go_simp; try with_reducible rfl)
      try simp only [Act.put, List.setIfInBounds_toArray, List.set_cons_zero, List.set_cons_succ]
      refine wpAnyH_take (i := 53) (oi := { dst := some 62, op := Go.Op.fieldAddr 77 (Go.Operand.tmp 61) 2, type := 0, pos := "l06_parsing.go:134", after := #[{ on := 52, ground := Go.Ground.data }, { on := 37, ground := Go.Ground.guard }], guard := some (37, false) }) (v := ?v111) rfl (by kernel_rfl) (by kernel_rfl) (by kernel_rfl) (fun _ _ _ h => h) (Or.inl ⟨by rfl, ?h111⟩) hHeld ?r111
      case h111 => (intro w hSw; (try dsimp only at hSw); go_simp; try with_reducible rfl)
      try simp only [Act.put, List.setIfInBounds_toArray, List.set_cons_zero, List.set_cons_succ]
      refine wpAnyH_take (i := 54) (oi := { dst := some 63, op := Go.Op.load 3 (Go.Operand.tmp 62), type := 3, pos := "l06_parsing.go:134", after := #[{ on := 53, ground := Go.Ground.data }, { on := 37, ground := Go.Ground.guard }], guard := some (37, false) }) (v := ?v112) rfl (by kernel_rfl) (by kernel_rfl) (by kernel_rfl) (fun _ _ _ h => h) (Or.inl ⟨by rfl, ?h112⟩) hHeld ?r112
      case h112 => (intro w hSw; (try dsimp only at hSw); go_simp; try with_reducible rfl)
      try simp only [Act.put, List.setIfInBounds_toArray, List.set_cons_zero, List.set_cons_succ]
      refine wpAnyH_take (i := 55) (oi := { dst := some 64, op := Go.Op.indexAddr 27 (Go.Operand.tmp 59) (Go.Operand.tmp 63), type := 0, pos := "l06_parsing.go:134", after := #[{ on := 50, ground := Go.Ground.data }, { on := 54, ground := Go.Ground.data }, { on := 37, ground := Go.Ground.guard }], guard := some (37, false) }) (v := ?v113) rfl (by kernel_rfl) (by kernel_rfl) (by kernel_rfl) (fun _ _ _ h => h) (Or.inl ⟨by rfl, ?h113⟩) hHeld ?r113
      case h113 => (intro w hSw; (try dsimp only at hSw); go_simp; try with_reducible rfl)
      try simp only [Act.put, List.setIfInBounds_toArray, List.set_cons_zero, List.set_cons_succ]
      refine wpAnyH_take (i := 56) (oi := { dst := some 65, op := Go.Op.load 3 (Go.Operand.tmp 64), type := 3, pos := "l06_parsing.go:134", after := #[{ on := 55, ground := Go.Ground.data }, { on := 37, ground := Go.Ground.guard }], guard := some (37, false) }) (v := ?v114) rfl (by kernel_rfl) (by kernel_rfl) (by kernel_rfl) (fun _ _ _ h => h) (Or.inl ⟨by rfl, ?h114⟩) hHeld ?r114
      case h114 => (intro w hSw; (try dsimp only at hSw); go_simp; try with_reducible rfl)
      try simp only [Act.put, List.setIfInBounds_toArray, List.set_cons_zero, List.set_cons_succ]
      refine wpAnyH_take (i := 57) (oi := { dst := some 66, op := Go.Op.indexAddr 32 (Go.Operand.tmp 55) (Go.Operand.tmp 65), type := 0, pos := "l06_parsing.go:134", after := #[{ on := 46, ground := Go.Ground.data }, { on := 56, ground := Go.Ground.data }, { on := 37, ground := Go.Ground.guard }], guard := some (37, false) }) (v := ?v115) rfl (by kernel_rfl) (by kernel_rfl) (by kernel_rfl) (fun _ _ _ h => h) (Or.inl ⟨by rfl, ?h115⟩) hHeld ?r115
      case h115 => (intro w hSw; (try dsimp only at hSw); go_simp; try with_reducible rfl)
      try simp only [Act.put, List.setIfInBounds_toArray, List.set_cons_zero, List.set_cons_succ]
      refine wpAnyH_take (i := 58) (oi := { dst := some 67, op := Go.Op.fieldAddr 66 (Go.Operand.tmp 66) 0, type := 0, pos := "l06_parsing.go:134", after := #[{ on := 57, ground := Go.Ground.data }, { on := 37, ground := Go.Ground.guard }], guard := some (37, false) }) (v := ?v116) rfl (by kernel_rfl) (by kernel_rfl) (by kernel_rfl) (fun _ _ _ h => h) (Or.inl ⟨by rfl, ?h116⟩) hHeld ?r116
      case h116 => (intro w hSw; (try dsimp only at hSw); go_simp; try with_reducible rfl)
      try simp only [Act.put, List.setIfInBounds_toArray, List.set_cons_zero, List.set_cons_succ]
      refine wpAnyH_take (i := 59) (oi := { dst := some 68, op := Go.Op.load 3 (Go.Operand.tmp 67), type := 3, pos := "l06_parsing.go:134", after := #[{ on := 58, ground := Go.Ground.data }, { on := 37, ground := Go.Ground.guard }], guard := some (37, false) }) (v := ?v117) rfl (by kernel_rfl) (by kernel_rfl) (by kernel_rfl) (fun _ _ _ h => h) (Or.inl ⟨by rfl, ?h117⟩) hHeld ?r117
      case h117 => (intro w hSw; (try dsimp only at hSw); go_simp; try with_reducible rfl)
      try simp only [Act.put, List.setIfInBounds_toArray, List.set_cons_zero, List.set_cons_succ]
      refine wpAnyH_take (i := 61) (oi := { dst := some 70, op := Go.Op.move (Go.Operand.tmp 1), type := 3, pos := "l06_parsing.go:134", after := #[{ on := 37, ground := Go.Ground.guard }], guard := some (37, false) }) (v := ?v118) rfl (by kernel_rfl) (by kernel_rfl) (by kernel_rfl) (fun _ _ _ h => h) (Or.inl ⟨by rfl, ?h118⟩) hHeld ?r118
      case h118 => (intro w hSw; (try dsimp only at hSw); go_simp; try with_reducible rfl)
      try simp only [Act.put, List.setIfInBounds_toArray, List.set_cons_zero, List.set_cons_succ]
      refine wpAnyH_ready (rs := [60]) (by kernel_rfl) (by simp) ?_
      refine AllReadyH.cons (o := { dst := some 69, op := Go.Op.call { callee := Go.Callee.value (Go.Operand.func 35), args := #[Go.Operand.tmp 50, Go.Operand.tmp 68], argTypes := #[34, 3] }, type := 3, pos := "l06_parsing.go:134", after := #[{ on := 41, ground := Go.Ground.data }, { on := 59, ground := Go.Ground.data }, { on := 37, ground := Go.Ground.chain }, { on := 37, ground := Go.Ground.guard }], guard := some (37, false) }) rfl (fun K hK => ?_) AllReadyH.nil
      go_simp
      refine Calls.mono (HNN.out _) ?_
      rintro e w2 ⟨rfl, rfl⟩
      dsimp only
      clear hHeld
      refine hK.out _ _ hS1 (fun hHeld => ?_)
      clear hK K
      try simp only [Act.put, List.setIfInBounds_toArray, List.set_cons_zero, List.set_cons_succ]
      refine wpAnyH_take (i := 62) (oi := { dst := some 71, op := Go.Op.binOp Go.BinOp.neq 3 (Go.Operand.tmp 69) (Go.Operand.tmp 70) 3, type := 4, pos := "l06_parsing.go:134", after := #[{ on := 60, ground := Go.Ground.data }, { on := 61, ground := Go.Ground.data }, { on := 37, ground := Go.Ground.guard }], guard := some (37, false) }) (v := ?v119) rfl (by kernel_rfl) (by kernel_rfl) (by kernel_rfl) (fun _ _ _ h => h) (Or.inl ⟨by rfl, ?h119⟩) hHeld ?r119
      case h119 => (intro w hSw; (try dsimp only at hSw); go_simp; try with_reducible rfl)
      try simp only [Act.put, List.setIfInBounds_toArray, List.set_cons_zero, List.set_cons_succ]
      refine wpAnyH_take (i := 63) (oi := { dst := some 72, op := Go.Op.pick (Go.Operand.tmp 46) (Go.Operand.const (Go.Value.bool true)) (Go.Operand.tmp 71), type := 4, pos := "l06_parsing.go:134", after := #[{ on := 37, ground := Go.Ground.data }, { on := 62, ground := Go.Ground.data }], guard := none }) (v := ?v120) rfl (by kernel_rfl) (by kernel_rfl) (by kernel_rfl) (fun _ _ _ h => h) (Or.inl ⟨by rfl, ?h120⟩) hHeld ?r120
      case h120 => (intro w hSw; (try dsimp only at hSw); go_simp; try with_reducible rfl)
      try simp only [Act.put, List.setIfInBounds_toArray, List.set_cons_zero, List.set_cons_succ]
      refine wpAnyH_done (by kernel_rfl) ?_ _
      go_wp2_with fail
      go_meet
      exact ⟨by rw [HOF.out], HBE⟩
  case rest =>
    obtain ⟨w1, rfl⟩ : ∃ w1, w1 = wc := ⟨_, rfl⟩
    obtain ⟨rfl, HC1⟩ := hcut
    have HBW := (show Hid (Below w.heap.size w w1) from bel_trans HB0.out HC1.out)
    have HR1 := (show Hid _ from HRK.out w1 HBW.out)
    have HX1 := (show Hid _ from HRES.out.still HC1.out)
    clear x0 x1 x2 x3 x4 x5 x6 HRW HRES HRK HBE
    cases hoka : okAt d L s a
    · have hR : rd d L (f + 1) s a = none := rd_no hoka
      have y6 : w1.cell? ⟨R, 6, none⟩ = some (.bool false) := HR1.out.box.cell 6 (by simp)
      have z6 : w1.frozen? ⟨R, 6, none⟩ = false := HR1.out.box.frozen 6
      have bx2 : Box (w1.setCell ⟨R, 6, none⟩ (.bool true)) w.heap.size 48 [.int .i64 0, .slice none 0 0] := Box.past HX1.out (by omega)
      have bx3 := (bx2.set 0 (.int .i64 0)).set 1 (.slice none 0 0)
      have g0 : (w1.setCell ⟨R, 6, none⟩ (.bool true)).cell? ⟨w.heap.size, 0, none⟩ = some (.int .i64 0) := bx2.cell 0 (by simp)
      have g1 : (w1.setCell ⟨R, 6, none⟩ (.bool true)).cell? ⟨w.heap.size, 1, none⟩ = some (.slice none 0 0) := bx2.cell 1 (by simp)
      have g2 := bx2.frozen 0
      have g3 := bx2.frozen 1
      have o0 := bx3.cell 0 (by simp)
      have o1 := bx3.cell 1 (by simp)
      have HF : Hid (RsA d L S R (.slice a0 d.terms.length c0) (.slice a1 d.nons.length c1) (.slice a3 d.prods.length c3) (.slice an L.length c) (f + 1) s a w (.returned (.agg #[.int .i64 0, .slice none 0 0])) (((w1.setCell ⟨R, 6, none⟩ (.bool true)).setCell ⟨w.heap.size, 0, none⟩ (.int .i64 0)).setCell ⟨w.heap.size, 1, none⟩ (.slice none 0 0))) := by
        refine ⟨Kp.setCell (Kp.setCell (Kp.setCell (Below.kp HBW.out R) (.inl rfl) _) (.inr (Nat.le_refl _)) _) (.inr (Nat.le_refl _)) _, fun _ => ⟨0, none, 0, 0, a, rfl, HR1.out.bad_.keep (fun b hb => ?_)⟩, fun b hb => by rw [hR] at hb; cases hb⟩
        rw [Below.heap_setCell _ _ _ _ (by show b ≠ w.heap.size; omega), Below.heap_setCell _ _ _ _ (by show b ≠ w.heap.size; omega)]
      clear hR hoka IH HRS HCE HPR HB0 HCELL HC1 HBW HR1 HX1 bx2 bx3
      go_wp2_with fail
      refine bodyPost_ret (v := .agg #[.int .i64 0, .slice none 0 0]) (by simp [results, Try.results43, go_sem, o0, o1]) rfl ?_
      exact HF.out
    · obtain ⟨k, hk, hnum, hpa, hleft, hal⟩ := okAt_prod hoka
      have HRD := (show Hid _ from rd_yes (f := f) hoka)
      obtain ⟨e1, hSn, n0⟩ := HCE.out a hal
      subst e1
      rw [Nat.zero_add, hnum] at n0
      have n1 := HCELL.out w1 (Below.kp HBW.out R) bn _ _ hSn n0
      obtain ⟨e3, hSp, ai, ci, bi, oi, q0, q1, hci, hri⟩ := HPR.out k hk
      subst e3
      obtain ⟨jk1, jk2, hl12, hrr, jk3, jk4⟩ := pd_of hok hk
      rw [← hpa] at q1 hci hl12
      have HRI2 := (show Hid (∀ i (hi : i < (pa d L a).right.length), ai = some ⟨bi, oi, none⟩ ∧ S bi ∧ w.cell? ⟨bi, oi + i, none⟩ = some (.int .i64 (pa d L a).right[i]) ∧ 0 ≤ (pa d L a).right[i] ∧ (pa d L a).right[i] ≤ 160) from fun i hi => by
        simp only [hpa] at hi ⊢
        exact ⟨(hri i hi).1, (hri i hi).2.1, (hri i hi).2.2, (hrr i hi).1, (hrr i hi).2⟩)
      have HNU := (show Hid _ from hnum)
      have HQ1 := (show Hid _ from q1)
      have HSP := (show Hid _ from hSp)
      have hkp : k ≤ 120 := by omega
      clear jk1 jk2 jk3 jk4 hri hrr hpa hnum hoka hleft q0 n0 HCE HPR q1 hSp hSn
      obtain ⟨P, hP⟩ : ∃ P, pa d L a = P := ⟨_, rfl⟩
      rw [hP] at hci hl12 HQ1
      have HP := (show Hid _ from hP)
      clear hP
      have y4 : w1.cell? ⟨R, 4, none⟩ = some (.slice (some ⟨bn, on, none⟩) L.length c) := HR1.out.box.cell 4 (by simp)
      have y5 : w1.cell? ⟨R, 5, none⟩ = some (.int .i64 a) := HR1.out.box.cell 5 (by simp)
      have HS4 := (show Hid _ from fun (w' : World) (hb : Below w1.heap.size w1 w') => (⟨(hb.cell (lt_of_cell y4)).trans y4, (hb.cell (lt_of_cell y5)).trans y5, (hb.cell (lt_of_cell n1)).trans n1⟩ : w'.cell? ⟨R, 4, none⟩ = some (.slice (some ⟨bn, on, none⟩) L.length c) ∧ w'.cell? ⟨R, 5, none⟩ = some (.int .i64 a) ∧ w'.cell? ⟨bn, on + a, none⟩ = some (.int .i64 (k : Nat))))
      have hS0 := HS4.out w1 (Below.refl _ _)
      have hS1 := HS4.out _ (bel_alloc w1 (.cells #[.int .i64 0, .slice none 0 0] 48))
      have hS2 := HS4.out _ (bel_alloc w1 (.cells #[.int .i64 (k : Nat), .slice none 0 0] 48))
      have HB4 := (show Hid _ from (⟨(bel_alloc w1 (.cells #[.int .i64 (k : Nat), .slice none 0 0] 48)).drew, (Box.new w1 48 [.int .i64 (k : Nat), .slice none 0 0]).keep rfl⟩ : Below w1.heap.size w1 (w1.alloc (.cells #[.int .i64 (k : Nat), .slice none 0 0] 48)).drew ∧ Box (w1.alloc (.cells #[.int .i64 (k : Nat), .slice none 0 0] 48)).drew w1.heap.size 48 [.int .i64 (k : Nat), .slice none 0 0]))
      clear y4 y5 n1 HS4
      go_upto_region 4 with fail
      go_cut [5] from 77 to 87 (fun v wx => v = .pointer (some ⟨w1.heap.size, 0, none⟩) ∧ Hid (Below w1.heap.size w1 wx ∧ Box wx w1.heap.size 48 [.int .i64 (k : Nat), .slice none 0 0]))
      case first =>
        clear IH HRS HB0 HCELL HC1 HBW HR1 HX1 HRI2 HRD HNU HQ1 HSP HP
        refine wp_region_held_drew (S := (fun w' => w'.cell? ⟨R, 4, none⟩ = some (.slice (some ⟨bn, on, none⟩) L.length c) ∧ w'.cell? ⟨R, 5, none⟩ = some (.int .i64 a) ∧ w'.cell? ⟨bn, on + a, none⟩ = some (.int .i64 (k : Nat)))) (by kernel_rfl) hS0 (fun hHeld => ?_)
        refine wpAnyH_take (i := 0) (oi := { dst := some 77, op := Go.Op.move (Go.Operand.tmp 0), type := 75, pos := "l06_parsing.go:138", after := #[], guard := none }) (v := ?v121) rfl (by kernel_rfl) (by kernel_rfl) (by kernel_rfl) (fun _ _ _ h => h) (Or.inl ⟨by rfl, ?h121⟩) hHeld ?r121
        case h121 => (intro w hSw; (try dsimp only at hSw); go_simp; try with_reducible rfl)
        try simp only [Act.put, List.setIfInBounds_toArray, List.set_cons_zero, List.set_cons_succ]
        refine wpAnyH_take (i := 1) (oi := { dst := some 78, op := Go.Op.nilCheck (Go.Operand.tmp 77), type := 0, pos := "l06_parsing.go:138", after := #[{ on := 0, ground := Go.Ground.data }], guard := none }) (v := ?v122) rfl (by kernel_rfl) (by kernel_rfl) (by kernel_rfl) (fun _ _ _ h => h) (Or.inl ⟨by rfl, ?h122⟩) hHeld ?r122
        case h122 => (intro w hSw; (try dsimp only at hSw); go_simp; try with_reducible rfl)
        try simp only [Act.put, List.setIfInBounds_toArray, List.set_cons_zero, List.set_cons_succ]
        refine wpAnyH_take (i := 2) (oi := { dst := some 79, op := Go.Op.fieldAddr 77 (Go.Operand.tmp 78) 1, type := 0, pos := "l06_parsing.go:138", after := #[{ on := 1, ground := Go.Ground.data }], guard := none }) (v := ?v123) rfl (by kernel_rfl) (by kernel_rfl) (by kernel_rfl) (fun _ _ _ h => h) (Or.inl ⟨by rfl, ?h123⟩) hHeld ?r123
        case h123 => (intro w hSw; (try dsimp only at hSw); go_simp; try with_reducible rfl)
        try simp only [Act.put, List.setIfInBounds_toArray, List.set_cons_zero, List.set_cons_succ]
        refine wpAnyH_take (i := 3) (oi := { dst := some 80, op := Go.Op.load 27 (Go.Operand.tmp 79), type := 27, pos := "l06_parsing.go:138", after := #[{ on := 2, ground := Go.Ground.data }], guard := none }) (v := ?v124) rfl (by kernel_rfl) (by kernel_rfl) (by kernel_rfl) (fun _ _ _ h => h) (Or.inl ⟨by rfl, ?h124⟩) hHeld ?r124
        case h124 => (intro w hSw; (try dsimp only at hSw); go_simp; try with_reducible rfl)
        try simp only [Act.put, List.setIfInBounds_toArray, List.set_cons_zero, List.set_cons_succ]
        refine wpAnyH_take (i := 4) (oi := { dst := some 81, op := Go.Op.move (Go.Operand.tmp 0), type := 75, pos := "l06_parsing.go:138", after := #[], guard := none }) (v := ?v125) rfl (by kernel_rfl) (by kernel_rfl) (by kernel_rfl) (fun _ _ _ h => h) (Or.inl ⟨by rfl, ?h125⟩) hHeld ?r125
        case h125 => (intro w hSw; (try dsimp only at hSw); go_simp; try with_reducible rfl)
        try simp only [Act.put, List.setIfInBounds_toArray, List.set_cons_zero, List.set_cons_succ]
        refine wpAnyH_take (i := 5) (oi := { dst := some 82, op := Go.Op.nilCheck (Go.Operand.tmp 81), type := 0, pos := "l06_parsing.go:138", after := #[{ on := 4, ground := Go.Ground.data }], guard := none }) (v := ?v126) rfl (by kernel_rfl) (by kernel_rfl) (by kernel_rfl) (fun _ _ _ h => h) (Or.inl ⟨by rfl, ?h126⟩) hHeld ?r126
        case h126 => (intro w hSw; (try dsimp only at hSw); go_simp; try with_reducible rfl)
        try simp only [Act.put, List.setIfInBounds_toArray, List.set_cons_zero, List.set_cons_succ]
        refine wpAnyH_take (i := 6) (oi := { dst := some 83, op := Go.Op.fieldAddr 77 (Go.Operand.tmp 82) 2, type := 0, pos := "l06_parsing.go:138", after := #[{ on := 5, ground := Go.Ground.data }], guard := none }) (v := ?v127) rfl (by kernel_rfl) (by kernel_rfl) (by kernel_rfl) (fun _ _ _ h => h) (Or.inl ⟨by rfl, ?h127⟩) hHeld ?r127
        case h127 => (intro w hSw; (try dsimp only at hSw); go_simp; try with_reducible rfl)
        try simp only [Act.put, List.setIfInBounds_toArray, List.set_cons_zero, List.set_cons_succ]
        refine wpAnyH_take (i := 7) (oi := { dst := some 84, op := Go.Op.load 3 (Go.Operand.tmp 83), type := 3, pos := "l06_parsing.go:138", after := #[{ on := 6, ground := Go.Ground.data }], guard := none }) (v := ?v128) rfl (by kernel_rfl) (by kernel_rfl) (by kernel_rfl) (fun _ _ _ h => h) (Or.inl ⟨by rfl, ?h128⟩) hHeld ?r128
        case h128 => (intro w hSw; (try dsimp only at hSw); go_simp; try with_reducible rfl)
        try simp only [Act.put, List.setIfInBounds_toArray, List.set_cons_zero, List.set_cons_succ]
        refine wpAnyH_take (i := 8) (oi := { dst := some 85, op := Go.Op.indexAddr 27 (Go.Operand.tmp 80) (Go.Operand.tmp 84), type := 0, pos := "l06_parsing.go:138", after := #[{ on := 3, ground := Go.Ground.data }, { on := 7, ground := Go.Ground.data }], guard := none }) (v := ?v129) rfl (by kernel_rfl) (by kernel_rfl) (by kernel_rfl) (fun _ _ _ h => h) (Or.inl ⟨by rfl, ?h129⟩) hHeld ?r129
        case h129 => (intro w hSw; (try dsimp only at hSw); go_simp; try with_reducible rfl)
        try simp only [Act.put, List.setIfInBounds_toArray, List.set_cons_zero, List.set_cons_succ]
        refine wpAnyH_take (i := 9) (oi := { dst := some 86, op := Go.Op.load 3 (Go.Operand.tmp 85), type := 3, pos := "l06_parsing.go:138", after := #[{ on := 8, ground := Go.Ground.data }], guard := none }) (v := ?v130) rfl (by kernel_rfl) (by kernel_rfl) (by kernel_rfl) (fun _ _ _ h => h) (Or.inl ⟨by rfl, ?h130⟩) hHeld ?r130
        case h130 => (intro w hSw; (try dsimp only at hSw); go_simp; try with_reducible rfl)
        try simp only [Act.put, List.setIfInBounds_toArray, List.set_cons_zero, List.set_cons_succ]
        refine wpAnyH_take (i := 10) (oi := { dst := some 87, op := Go.Op.build 48 #[(0, Go.Operand.tmp 86)], type := 48, pos := "l06_parsing.go:138", after := #[{ on := 9, ground := Go.Ground.data }], guard := none }) (v := ?v131) rfl (by kernel_rfl) (by kernel_rfl) (by kernel_rfl) (fun _ _ _ h => h) (Or.inl ⟨by rfl, ?h131⟩) hHeld ?r131
        case h131 => (intro w hSw; (try dsimp only at hSw); go_simp; try with_reducible rfl)
        try simp only [Act.put, List.setIfInBounds_toArray, List.set_cons_zero, List.set_cons_succ]
        refine wpAnyH_ready (rs := [11]) (by kernel_rfl) (by simp) ?_
        refine AllReadyH.cons (o := { dst := some 5, op := Go.Op.alloc 48, type := 0, pos := "l06_parsing.go:138", after := #[], guard := none }) rfl (fun K hK => ?_) AllReadyH.nil
        go_simp
        clear hHeld
        refine hK.out _ _ hS1 (fun hHeld => ?_)
        clear hK K
        try simp only [Act.put, List.setIfInBounds_toArray, List.set_cons_zero, List.set_cons_succ]
        refine wpAnyH_ready (rs := [12]) (by kernel_rfl) (by simp) ?_
        refine AllReadyH.cons (o := { dst := none, op := Go.Op.store 48 (Go.Operand.tmp 5) (Go.Operand.tmp 87), type := 0, pos := "l06_parsing.go:138", after := #[{ on := 11, ground := Go.Ground.data }, { on := 10, ground := Go.Ground.data }, { on := 0, ground := Go.Ground.phase }, { on := 1, ground := Go.Ground.phase }, { on := 2, ground := Go.Ground.phase }, { on := 3, ground := Go.Ground.phase }, { on := 4, ground := Go.Ground.phase }, { on := 5, ground := Go.Ground.phase }, { on := 6, ground := Go.Ground.phase }, { on := 7, ground := Go.Ground.phase }, { on := 8, ground := Go.Ground.phase }, { on := 9, ground := Go.Ground.phase }, { on := 10, ground := Go.Ground.phase }, { on := 11, ground := Go.Ground.phase }], guard := none }) rfl (fun K hK => ?_) AllReadyH.nil
        go_simp
        clear hHeld
        refine hK.out _ _ hS2 (fun hHeld => ?_)
        clear hK K
        try simp only [Act.put, List.setIfInBounds_toArray, List.set_cons_zero, List.set_cons_succ]
        refine wpAnyH_done (by kernel_rfl) ?_ _
        go_wp2_with fail
        go_meet
        exact ⟨rfl, HB4⟩
      case rest =>
        obtain ⟨w4, rfl⟩ : ∃ w4, w4 = wc := ⟨_, rfl⟩
        obtain ⟨rfl, HC4⟩ := hcut
        clear hS0 hS1 hS2 HB4
        have HR4 := (show Hid (RdS d L S R (.slice a0 d.terms.length c0) (.slice a1 d.nons.length c1) (.slice (some ⟨bp, op, none⟩) d.prods.length c3) (.slice (some ⟨bn, on, none⟩) L.length c) w4 a false) from HR1.out.keep (fun b hb => HC4.out.1.block b (by have := HR1.out.lt; omega)))
        have hgl : w.heap.size < w1.heap.size := by have := HC1.out.size; simp at this; omega
        have y5 : w4.cell? ⟨R, 5, none⟩ = some (.int .i64 a) := HR4.out.box.cell 5 (by simp)
        have z5 : w4.frozen? ⟨R, 5, none⟩ = false := HR4.out.box.frozen 5
        have HLS : Hid (LS d L S R w1.heap.size (.slice a0 d.terms.length c0) (.slice a1 d.nons.length c1) (.slice (some ⟨bp, op, none⟩) d.prods.length c3) (.slice (some ⟨bn, on, none⟩) L.length c) w (w4.setCell ⟨R, 5, none⟩ (.int .i64 ((a : Int) + 1))) k f a 0 (a + 1) (.slice none 0 0) [] (fun _ => False)) := by
          have h1 := HR4.out.at_ (a + 1)
          have h2 : ((a + 1 : Nat) : Int) = (a : Int) + 1 := by omega
          rw [h2] at h1
          exact ⟨⟨Kp.setCell ((Below.kp HBW.out R).trans ((Below.kp HC4.out.1 R).mono HBW.out.size)) (.inl rfl) _, hlr, hgl, Box.past (HX1.out.still HC4.out.1) (by omega), Box.past HC4.out.2 (by omega), World.ownsRow_nil _ _ _ _⟩, h1, KS.nil _ _ _ _ _ _, fun q h => h.elim⟩
        go_upto_region 5 with fail
        go_cut [5] from 88 to 94 (fun v wx => v = .pointer (some ⟨w1.heap.size, 0, none⟩) ∧ Hid (LS d L S R w1.heap.size (.slice a0 d.terms.length c0) (.slice a1 d.nons.length c1) (.slice (some ⟨bp, op, none⟩) d.prods.length c3) (.slice (some ⟨bn, on, none⟩) L.length c) w wx k f a 0 (a + 1) (.slice none 0 0) [] (fun _ => False)))
        case first =>
          clear IH HRS HB0 HCELL HC1 HBW HR1 HX1 HRI2 HRD HNU HQ1 HSP HP HC4 HR4
          go_wp2_with fail
          go_meet
          exact ⟨rfl, HLS⟩
        case rest =>
          obtain ⟨w5, rfl⟩ : ∃ w5, w5 = wc := ⟨_, rfl⟩
          obtain ⟨rfl, HL5⟩ := hcut
          clear y5 z5 HLS
          have y3 : w5.cell? ⟨R, 3, none⟩ = some (.slice (some ⟨bp, op, none⟩) d.prods.length c3) := HL5.out.rd.box.cell 3 (by simp)
          have y0 : w5.cell? ⟨w1.heap.size, 0, none⟩ = some (.int .i64 (k : Nat)) := HL5.out.lb.out.cell 0 (by simp)
          have q1 := HCELL.out w5 HL5.out.lb.kp bp _ _ HSP.out HQ1.out
          have hS6 : w5.cell? ⟨R, 3, none⟩ = some (.slice (some ⟨bp, op, none⟩) d.prods.length c3) ∧ w5.cell? ⟨w1.heap.size, 0, none⟩ = some (.int .i64 (k : Nat)) ∧ w5.cell? ⟨bp, op + k * 5 + 1, none⟩ = some (.slice ai P.right.length ci) := ⟨y3, y0, q1⟩
          have HA0 := (show Hid _ from atP_zero d L f a)
          have HLF := (show Hid (L.length - a < f + 1) from hf)
          clear y3 y0 q1 HR4 HC4 HR1 HX1 HC1 HB0
          go_upto_region 6 with fail
          refine wp_region_held_drew (S := (fun w' => w'.cell? ⟨R, 3, none⟩ = some (.slice (some ⟨bp, op, none⟩) d.prods.length c3) ∧ w'.cell? ⟨w1.heap.size, 0, none⟩ = some (.int .i64 (k : Nat)) ∧ w'.cell? ⟨bp, op + k * 5 + 1, none⟩ = some (.slice ai P.right.length ci))) (by kernel_rfl) hS6 (fun hHeld => ?_)
          refine wpAnyH_take (i := 0) (oi := { dst := some 95, op := Go.Op.move (Go.Operand.tmp 0), type := 75, pos := "l06_parsing.go:140", after := #[], guard := none }) (v := ?v132) rfl (by kernel_rfl) (by kernel_rfl) (by kernel_rfl) (fun _ _ _ h => h) (Or.inl ⟨by rfl, ?h132⟩) hHeld ?r132
          case h132 => (intro w hSw; (try dsimp only at hSw); go_simp; try with_reducible rfl)
          try simp only [Act.put, List.setIfInBounds_toArray, List.set_cons_zero, List.set_cons_succ]
          refine wpAnyH_take (i := 1) (oi := { dst := some 96, op := Go.Op.nilCheck (Go.Operand.tmp 95), type := 0, pos := "l06_parsing.go:140", after := #[{ on := 0, ground := Go.Ground.data }], guard := none }) (v := ?v133) rfl (by kernel_rfl) (by kernel_rfl) (by kernel_rfl) (fun _ _ _ h => h) (Or.inl ⟨by rfl, ?h133⟩) hHeld ?r133
          case h133 => (intro w hSw; (try dsimp only at hSw); go_simp; try with_reducible rfl)
          try simp only [Act.put, List.setIfInBounds_toArray, List.set_cons_zero, List.set_cons_succ]
          refine wpAnyH_take (i := 2) (oi := { dst := some 97, op := Go.Op.fieldAddr 77 (Go.Operand.tmp 96) 0, type := 0, pos := "l06_parsing.go:140", after := #[{ on := 1, ground := Go.Ground.data }], guard := none }) (v := ?v134) rfl (by kernel_rfl) (by kernel_rfl) (by kernel_rfl) (fun _ _ _ h => h) (Or.inl ⟨by rfl, ?h134⟩) hHeld ?r134
          case h134 => (intro w hSw; (try dsimp only at hSw); go_simp; try with_reducible rfl)
          try simp only [Act.put, List.setIfInBounds_toArray, List.set_cons_zero, List.set_cons_succ]
          refine wpAnyH_take (i := 3) (oi := { dst := some 98, op := Go.Op.fieldAddr 34 (Go.Operand.tmp 97) 3, type := 0, pos := "l06_parsing.go:140", after := #[{ on := 2, ground := Go.Ground.data }], guard := none }) (v := ?v135) rfl (by kernel_rfl) (by kernel_rfl) (by kernel_rfl) (fun _ _ _ h => h) (Or.inl ⟨by rfl, ?h135⟩) hHeld ?r135
          case h135 => (intro w hSw; (try dsimp only at hSw); go_simp; try with_reducible rfl)
          try simp only [Act.put, List.setIfInBounds_toArray, List.set_cons_zero, List.set_cons_succ]
          refine wpAnyH_take (i := 4) (oi := { dst := some 99, op := Go.Op.load 32 (Go.Operand.tmp 98), type := 32, pos := "l06_parsing.go:140", after := #[{ on := 3, ground := Go.Ground.data }], guard := none }) (v := ?v136) rfl (by kernel_rfl) (by kernel_rfl) (by kernel_rfl) (fun _ _ _ h => h) (Or.inl ⟨by rfl, ?h136⟩) hHeld ?r136
          case h136 => (intro w hSw; (try dsimp only at hSw); go_simp; try with_reducible rfl)
          try simp only [Act.put, List.setIfInBounds_toArray, List.set_cons_zero, List.set_cons_succ]
          refine wpAnyH_take (i := 5) (oi := { dst := some 100, op := Go.Op.fieldAddr 48 (Go.Operand.tmp 5) 0, type := 0, pos := "l06_parsing.go:140", after := #[], guard := none }) (v := ?v137) rfl (by kernel_rfl) (by kernel_rfl) (by kernel_rfl) (fun _ _ _ h => h) (Or.inl ⟨by rfl, ?h137⟩) hHeld ?r137
          case h137 => (intro w hSw; (try dsimp only at hSw); go_simp; try with_reducible rfl)
          try simp only [Act.put, List.setIfInBounds_toArray, List.set_cons_zero, List.set_cons_succ]
          refine wpAnyH_take (i := 6) (oi := { dst := some 101, op := Go.Op.load 3 (Go.Operand.tmp 100), type := 3, pos := "l06_parsing.go:140", after := #[{ on := 5, ground := Go.Ground.data }], guard := none }) (v := ?v138) rfl (by kernel_rfl) (by kernel_rfl) (by kernel_rfl) (fun _ _ _ h => h) (Or.inl ⟨by rfl, ?h138⟩) hHeld ?r138
          case h138 => (intro w hSw; (try dsimp only at hSw); go_simp; try with_reducible rfl)
          try simp only [Act.put, List.setIfInBounds_toArray, List.set_cons_zero, List.set_cons_succ]
          refine wpAnyH_take (i := 7) (oi := { dst := some 102, op := Go.Op.indexAddr 32 (Go.Operand.tmp 99) (Go.Operand.tmp 101), type := 0, pos := "l06_parsing.go:140", after := #[{ on := 4, ground := Go.Ground.data }, { on := 6, ground := Go.Ground.data }], guard := none }) (v := ?v139) rfl (by kernel_rfl) (by kernel_rfl) (by kernel_rfl) (fun _ _ _ h => h) (Or.inl ⟨by rfl, ?h139⟩) hHeld ?r139
          case h139 => (intro w hSw; (try dsimp only at hSw); go_simp; try with_reducible rfl)
          try simp only [Act.put, List.setIfInBounds_toArray, List.set_cons_zero, List.set_cons_succ]
          refine wpAnyH_take (i := 8) (oi := { dst := some 103, op := Go.Op.fieldAddr 66 (Go.Operand.tmp 102) 1, type := 0, pos := "l06_parsing.go:140", after := #[{ on := 7, ground := Go.Ground.data }], guard := none }) (v := ?v140) rfl (by kernel_rfl) (by kernel_rfl) (by kernel_rfl) (fun _ _ _ h => h) (Or.inl ⟨by rfl, ?h140⟩) hHeld ?r140
          case h140 => (intro w hSw; (try dsimp only at hSw); go_simp; try with_reducible rfl)
          try simp only [Act.put, List.setIfInBounds_toArray, List.set_cons_zero, List.set_cons_succ]
          refine wpAnyH_take (i := 9) (oi := { dst := some 104, op := Go.Op.load 27 (Go.Operand.tmp 103), type := 27, pos := "l06_parsing.go:140", after := #[{ on := 8, ground := Go.Ground.data }], guard := none }) (v := ?v141) rfl (by kernel_rfl) (by kernel_rfl) (by kernel_rfl) (fun _ _ _ h => h) (Or.inl ⟨by rfl, ?h141⟩) hHeld ?r141
          case h141 => (intro w hSw; (try dsimp only at hSw); go_simp; try with_reducible rfl)
          try simp only [Act.put, List.setIfInBounds_toArray, List.set_cons_zero, List.set_cons_succ]
          refine wpAnyH_take (i := 10) (oi := { dst := some 6, op := Go.Op.assign (Go.Operand.tmp 104), type := 27, pos := "l06_parsing.go:140", after := #[{ on := 9, ground := Go.Ground.data }, { on := 0, ground := Go.Ground.phase }, { on := 1, ground := Go.Ground.phase }, { on := 2, ground := Go.Ground.phase }, { on := 3, ground := Go.Ground.phase }, { on := 4, ground := Go.Ground.phase }, { on := 5, ground := Go.Ground.phase }, { on := 6, ground := Go.Ground.phase }, { on := 7, ground := Go.Ground.phase }, { on := 8, ground := Go.Ground.phase }, { on := 9, ground := Go.Ground.phase }], guard := none }) (v := ?v142) rfl (by kernel_rfl) (by kernel_rfl) (by kernel_rfl) (fun _ _ _ h => h) (Or.inl ⟨by rfl, ?h142⟩) hHeld ?r142
          case h142 => (intro w hSw; (try dsimp only at hSw); go_simp; try with_reducible rfl)
          try simp only [Act.put, List.setIfInBounds_toArray, List.set_cons_zero, List.set_cons_succ]
          refine wpAnyH_done (by kernel_rfl) ?_ _
          obtain ⟨i64, hi64, hzz⟩ := Option.map_eq_some_iff.1 info64p
          simp only [Prod.mk.injEq] at hzz
          obtain ⟨hz0, hz1, hz2⟩ := hzz
          go_wp2_with fail
          go_loopw [7] (fun i wr => ∃ j : Nat, i = .int .i64 j ∧ j ≤ P.right.length ∧ Hid ((∃ (X1 : Nat) (U1 : Value) (M1 : List (Nat × Value)) (K1 : Nat → Prop), atP d L f a j = some X1 ∧ LS d L S R w1.heap.size (.slice a0 d.terms.length c0) (.slice a1 d.nons.length c1) (.slice (some ⟨bp, op, none⟩) d.prods.length c3) (.slice (some ⟨bn, on, none⟩) L.length c) w wr k f a j X1 U1 M1 K1) ∨ (rd d L (f + 1) s a = none ∧ ∃ (A1 : Nat) (P1 : Option Addr) (Q1 C1 N1 : Nat) (Y1 : List Value), RdS d L S R (.slice a0 d.terms.length c0) (.slice a1 d.nons.length c1) (.slice (some ⟨bp, op, none⟩) d.prods.length c3) (.slice (some ⟨bn, on, none⟩) L.length c) wr A1 true ∧ LB R w1.heap.size w wr k (.slice P1 Q1 C1) N1 Y1))) (fun i _ => P.right.length - (intOf i).toNat)
          case atStart => exact ⟨0, rfl, Nat.zero_le _, .inl ⟨a + 1, _, _, _, HA0.out, LS.still HL5.out ((Below.refl _ _).drew)⟩⟩
          case round =>
            obtain ⟨j, rfl, hj, HJ⟩ := hrel
            rcases HJ.out with ⟨x, u, ks, K, hxj, hLS⟩ | ⟨hR0, a', p, q, c', n', xs, hRS, hLB⟩
            · have y6 : wr.cell? ⟨R, 6, none⟩ = some (.bool false) := hLS.rd.box.cell 6 (by simp)
              obtain ⟨up, uq, uc, rfl⟩ : ∃ (up : Option Addr) (uq uc : Nat), u = .slice up uq uc := by
                rcases hLS.lb.own.2 with h0 | ⟨g, cp, cur, r1, _⟩
                · exact ⟨_, _, _, h0.1⟩
                · exact ⟨_, _, _, r1⟩
              by_cases hlt : j < P.right.length
              · have hltA : j < (pa d L a).right.length := by rw [HP.out]; exact hlt
                have HLS := (show Hid _ from hLS)
                have HXJ := (show Hid _ from hxj)
                clear hLS hxj HJ
                obtain ⟨e1, hSi, r0, r1, r2⟩ := HRI2.out j hltA
                subst e1
                have r0' := HCELL.out wr HLS.out.lb.kp bi _ _ hSi r0
                obtain ⟨y, hy⟩ : ∃ y, (pa d L a).right[j] = y := ⟨_, rfl⟩
                rw [hy] at r0' r1 r2
                have HY := (show Hid _ from hy)
                have hbx := HLS.out.rd.box
                have HNN := (show Hid _ from fun w' => non_s a0 d.terms.length c0 (.slice a1 d.nons.length c1) (.int .i64 d.own) (.slice (some ⟨bp, op, none⟩) d.prods.length c3) y w' (by omega) (by omega) (by omega))
                have hT0 : wr.cell? ⟨R, 0, none⟩ = some (.slice a0 d.terms.length c0) ∧ wr.cell? ⟨R, 1, none⟩ = some (.slice a1 d.nons.length c1) ∧ wr.cell? ⟨R, 2, none⟩ = some (.int .i64 d.own) ∧ wr.cell? ⟨R, 3, none⟩ = some (.slice (some ⟨bp, op, none⟩) d.prods.length c3) ∧ wr.cell? ⟨bi, oi + j, none⟩ = some (.int .i64 y) := ⟨hbx.cell 0 (by simp), hbx.cell 1 (by simp), hbx.cell 2 (by simp), hbx.cell 3 (by simp), r0'⟩
                have hba := bel_alloc wr.drew (.cells #[.slice a0 d.terms.length c0, .slice a1 d.nons.length c1, .int .i64 d.own, .slice (some ⟨bp, op, none⟩) d.prods.length c3] 34)
                have hT1 := (⟨(hba.cell (lt_of_cell hT0.1)).trans hT0.1, (hba.cell (lt_of_cell hT0.2.1)).trans hT0.2.1, (hba.cell (lt_of_cell hT0.2.2.1)).trans hT0.2.2.1, (hba.cell (lt_of_cell hT0.2.2.2.1)).trans hT0.2.2.2.1, (hba.cell (lt_of_cell hT0.2.2.2.2)).trans hT0.2.2.2.2⟩ : _ ∧ _ ∧ _ ∧ _ ∧ _)
                have HBX := (show Hid _ from ((Below.refl wr.heap.size wr).drew).trans hba)
                clear hba hbx r0 hSi hy
                go_upto_region 10 with fail
                go_cut [8] from 118 to 126 (fun v wx => v = .int .i64 (y - d.terms.length) ∧ Hid (Below wr.heap.size wr wx))
                case first =>
                  clear IH HRS HCELL HBW HRI2 HRD HNU HQ1 HSP HP HL5 HLS r0' y6
                  refine wp_region_held_drew (S := (fun w' => w'.cell? ⟨R, 0, none⟩ = some (.slice a0 d.terms.length c0) ∧ w'.cell? ⟨R, 1, none⟩ = some (.slice a1 d.nons.length c1) ∧ w'.cell? ⟨R, 2, none⟩ = some (.int .i64 d.own) ∧ w'.cell? ⟨R, 3, none⟩ = some (.slice (some ⟨bp, op, none⟩) d.prods.length c3) ∧ w'.cell? ⟨bi, oi + j, none⟩ = some (.int .i64 y))) (by kernel_rfl) hT0 (fun hHeld => ?_)
                  refine wpAnyH_take (i := 0) (oi := { dst := some 118, op := Go.Op.move (Go.Operand.tmp 0), type := 75, pos := "l06_parsing.go:142", after := #[], guard := none }) (v := ?v143) rfl (by kernel_rfl) (by kernel_rfl) (by kernel_rfl) (fun _ _ _ h => h) (Or.inl ⟨by rfl, ?h143⟩) hHeld ?r143
                  case h143 => (intro w hSw; (try dsimp only at hSw); go_simp; try with_reducible rfl)
                  try simp only [Act.put, List.setIfInBounds_toArray, List.set_cons_zero, List.set_cons_succ]
                  refine wpAnyH_take (i := 1) (oi := { dst := some 119, op := Go.Op.nilCheck (Go.Operand.tmp 118), type := 0, pos := "l06_parsing.go:142", after := #[{ on := 0, ground := Go.Ground.data }], guard := none }) (v := ?v144) rfl (by kernel_rfl) (by kernel_rfl) (by kernel_rfl) (fun _ _ _ h => h) (Or.inl ⟨by rfl, ?h144⟩) hHeld ?r144
                  case h144 => (intro w hSw; (try dsimp only at hSw); go_simp; try with_reducible rfl)
                  try simp only [Act.put, List.setIfInBounds_toArray, List.set_cons_zero, List.set_cons_succ]
                  refine wpAnyH_take (i := 2) (oi := { dst := some 120, op := Go.Op.fieldAddr 77 (Go.Operand.tmp 119) 0, type := 0, pos := "l06_parsing.go:142", after := #[{ on := 1, ground := Go.Ground.data }], guard := none }) (v := ?v145) rfl (by kernel_rfl) (by kernel_rfl) (by kernel_rfl) (fun _ _ _ h => h) (Or.inl ⟨by rfl, ?h145⟩) hHeld ?r145
                  case h145 => (intro w hSw; (try dsimp only at hSw); go_simp; try with_reducible rfl)
                  try simp only [Act.put, List.setIfInBounds_toArray, List.set_cons_zero, List.set_cons_succ]
                  refine wpAnyH_take (i := 3) (oi := { dst := some 121, op := Go.Op.load 34 (Go.Operand.tmp 120), type := 34, pos := "l06_parsing.go:142", after := #[{ on := 2, ground := Go.Ground.data }], guard := none }) (v := ?v146) rfl (by kernel_rfl) (by kernel_rfl) (by kernel_rfl) (fun _ _ _ h => h) (Or.inl ⟨by rfl, ?h146⟩) hHeld ?r146
                  case h146 => (intro w hSw; (try dsimp only at hSw); go_simp; try with_reducible rfl)
                  try simp only [Act.put, List.setIfInBounds_toArray, List.set_cons_zero, List.set_cons_succ]
                  refine wpAnyH_take (i := 4) (oi := { dst := some 122, op := Go.Op.move (Go.Operand.tmp 6), type := 27, pos := "l06_parsing.go:142", after := #[], guard := none }) (v := ?v147) rfl (by kernel_rfl) (by kernel_rfl) (by kernel_rfl) (fun _ _ _ h => h) (Or.inl ⟨by rfl, ?h147⟩) hHeld ?r147
                  case h147 => (intro w hSw; (try dsimp only at hSw); go_simp; try with_reducible rfl)
                  try simp only [Act.put, List.setIfInBounds_toArray, List.set_cons_zero, List.set_cons_succ]
                  refine wpAnyH_take (i := 5) (oi := { dst := some 123, op := Go.Op.move (Go.Operand.tmp 7), type := 3, pos := "l06_parsing.go:142", after := #[], guard := none }) (v := ?v148) rfl (by kernel_rfl) (by kernel_rfl) (by kernel_rfl) (fun _ _ _ h => h) (Or.inl ⟨by rfl, ?h148⟩) hHeld ?r148
                  case h148 => (intro w hSw; (try dsimp only at hSw); go_simp; try with_reducible rfl)
                  try simp only [Act.put, List.setIfInBounds_toArray, List.set_cons_zero, List.set_cons_succ]
                  refine wpAnyH_take (i := 6) (oi := { dst := some 124, op := Go.Op.indexAddr 27 (Go.Operand.tmp 122) (Go.Operand.tmp 123), type := 0, pos := "l06_parsing.go:142", after := #[{ on := 4, ground := Go.Ground.data }, { on := 5, ground := Go.Ground.data }], guard := none }) (v := ?v149) rfl (by kernel_rfl) (by kernel_rfl) (by kernel_rfl) (fun _ _ _ h => h) (Or.inl ⟨by rfl, ?h149⟩) hHeld ?r149
                  case h149 => (intro w hSw; (try dsimp only at hSw); go_simp; try with_reducible rfl)
                  try simp only [Act.put, List.setIfInBounds_toArray, List.set_cons_zero, List.set_cons_succ]
                  refine wpAnyH_take (i := 7) (oi := { dst := some 125, op := Go.Op.load 3 (Go.Operand.tmp 124), type := 3, pos := "l06_parsing.go:142", after := #[{ on := 6, ground := Go.Ground.data }], guard := none }) (v := ?v150) rfl (by kernel_rfl) (by kernel_rfl) (by kernel_rfl) (fun _ _ _ h => h) (Or.inl ⟨by rfl, ?h150⟩) hHeld ?r150
                  case h150 => (intro w hSw; (try dsimp only at hSw); go_simp; try with_reducible rfl)
                  try simp only [Act.put, List.setIfInBounds_toArray, List.set_cons_zero, List.set_cons_succ]
                  refine wpAnyH_ready (rs := [8]) (by kernel_rfl) (by simp) ?_
                  refine AllReadyH.cons (o := { dst := some 126, op := Go.Op.call { callee := Go.Callee.value (Go.Operand.func 35), args := #[Go.Operand.tmp 121, Go.Operand.tmp 125], argTypes := #[34, 3] }, type := 3, pos := "l06_parsing.go:142", after := #[{ on := 3, ground := Go.Ground.data }, { on := 7, ground := Go.Ground.data }], guard := none }) rfl (fun K hK => ?_) AllReadyH.nil
                  go_simp
                  refine Calls.mono (HNN.out _) ?_
                  rintro e w2 ⟨rfl, rfl⟩
                  dsimp only
                  clear hHeld
                  refine hK.out _ _ hT1 (fun hHeld => ?_)
                  clear hK K
                  try simp only [Act.put, List.setIfInBounds_toArray, List.set_cons_zero, List.set_cons_succ]
                  refine wpAnyH_take (i := 9) (oi := { dst := some 8, op := Go.Op.assign (Go.Operand.tmp 126), type := 3, pos := "l06_parsing.go:142", after := #[{ on := 8, ground := Go.Ground.data }, { on := 8, ground := Go.Ground.chain }, { on := 0, ground := Go.Ground.phase }, { on := 1, ground := Go.Ground.phase }, { on := 2, ground := Go.Ground.phase }, { on := 3, ground := Go.Ground.phase }, { on := 4, ground := Go.Ground.phase }, { on := 5, ground := Go.Ground.phase }, { on := 6, ground := Go.Ground.phase }, { on := 7, ground := Go.Ground.phase }, { on := 8, ground := Go.Ground.phase }], guard := none }) (v := ?v151) rfl (by kernel_rfl) (by kernel_rfl) (by kernel_rfl) (fun _ _ _ h => h) (Or.inl ⟨by rfl, ?h151⟩) hHeld ?r151
                  case h151 => (intro w hSw; (try dsimp only at hSw); go_simp; try with_reducible rfl)
                  try simp only [Act.put, List.setIfInBounds_toArray, List.set_cons_zero, List.set_cons_succ]
                  refine wpAnyH_done (by kernel_rfl) ?_ _
                  go_wp2_with fail
                  go_meet
                  exact ⟨rfl, HBX⟩
                case rest =>
                  obtain ⟨w10, rfl⟩ : ∃ w10, w10 = wc := ⟨_, rfl⟩
                  obtain ⟨rfl, HC10⟩ := hcut
                  have HL10 := (show Hid _ from LS.still HLS.out HC10.out)
                  clear hT0 hT1 HBX HNN y6 r0' HC10 HLS
                  have hsucc := atP_succ d L f a j hltA
                  rw [HXJ.out, HY.out] at hsucc
                  simp only [Option.bind_some] at hsucc
                  by_cases hyt : y < (d.terms.length : Int)
                  · rw [if_pos hyt] at hsucc
                    have HN := (show Hid ((∃ (X1 : Nat) (U1 : Value) (M1 : List (Nat × Value)) (K1 : Nat → Prop), atP d L f a (j + 1) = some X1 ∧ LS d L S R w1.heap.size (.slice a0 d.terms.length c0) (.slice a1 d.nons.length c1) (.slice (some ⟨bp, op, none⟩) d.prods.length c3) (.slice (some ⟨bn, on, none⟩) L.length c) w w10 k f a (j + 1) X1 U1 M1 K1) ∨ (rd d L (f + 1) s a = none ∧ ∃ (A1 : Nat) (P1 : Option Addr) (Q1 C1 N1 : Nat) (Y1 : List Value), RdS d L S R (.slice a0 d.terms.length c0) (.slice a1 d.nons.length c1) (.slice (some ⟨bp, op, none⟩) d.prods.length c3) (.slice (some ⟨bn, on, none⟩) L.length c) w10 A1 true ∧ LB R w1.heap.size w w10 k (.slice P1 Q1 C1) N1 Y1)) from .inl ⟨x, _, ks, K, hsucc, HL10.out.term hltA (by rw [HY.out]; exact hyt)⟩)
                    clear hsucc HL10
                    go_wp2_with fail
                    exact ⟨⟨j + 1, by go_num, by omega, HN⟩, by simp [intOf]; omega⟩
                  · rw [if_neg hyt] at hsucc
                    have hge := (rdk_ge (rd_gt d L f) _ _ _ (show rdk d.terms.length (rd d L f) ((pa d L a).right.take j) (a + 1) = some x from HXJ.out))
                    have HRW : RdS d L S R (.slice a0 d.terms.length c0) (.slice a1 d.nons.length c1) (.slice (some ⟨bp, op, none⟩) d.prods.length c3) (.slice (some ⟨bn, on, none⟩) L.length c) w10.drew x false := HL10.out.rd.keep (fun _ _ => rfl)
                    have hxl := hge.2 (by omega)
                    have hxa := hge.1
                    have hcl := IH.out y x w10.drew HRW (by have := HLF.out; omega) hxl r1 r2 (by omega)
                    have HCALL := (show Hid _ from Calls.mono (R' := fun e w2 => ∃ (m : Int) (p : Option Addr) (q c2 : Nat), e = .returned (.agg #[.int .i64 m, .slice p q c2]) ∧ Kp w10.heap.size R w10 w2 ∧ ((∃ b, atP d L f a (j + 1) = some b ∧ m = numAt L x ∧ RdS d L S R (.slice a0 d.terms.length c0) (.slice a1 d.nons.length c1) (.slice (some ⟨bp, op, none⟩) d.prods.length c3) (.slice (some ⟨bn, on, none⟩) L.length c) w2 b false ∧ SP d L w2 (fun t => w10.heap.size ≤ t ∧ t < w2.heap.size) f x (.slice p q c2)) ∨ (rd d L (f + 1) s a = none ∧ ∃ a', RdS d L S R (.slice a0 d.terms.length c0) (.slice a1 d.nons.length c1) (.slice (some ⟨bp, op, none⟩) d.prods.length c3) (.slice (some ⟨bn, on, none⟩) L.length c) w2 a' true))) hcl (fun e w2 hh => by
                      obtain ⟨h1, h2, h3⟩ := hh
                      have hk := (Kp.drew (Kp.refl w10.heap.size R w10)).trans h1
                      cases hrd : rd d L f y x with
                      | none =>
                        obtain ⟨n, p, q, c2, a', e1, e2⟩ := h2 hrd
                        rw [hrd] at hsucc
                        exact ⟨n, p, q, c2, e1, hk, .inr ⟨HRD.out.trans (atP_none hsucc), a', e2⟩⟩
                      | some b =>
                        obtain ⟨p, q, c2, e1, e2, e3⟩ := h3 b hrd
                        rw [hrd] at hsucc
                        exact ⟨_, p, q, c2, e1, hk, .inl ⟨b, hsucc, rfl, e2, e3⟩⟩))
                    have HSTEP := (show Hid _ from fun (w2 w7 : World) (m : Int) (p : Option Addr) (q c2 g7 cap7 : Nat) (hk2 : Kp w10.heap.size R w10 w2) (hfact : (∃ b, atP d L f a (j + 1) = some b ∧ m = numAt L x ∧ RdS d L S R (.slice a0 d.terms.length c0) (.slice a1 d.nons.length c1) (.slice (some ⟨bp, op, none⟩) d.prods.length c3) (.slice (some ⟨bn, on, none⟩) L.length c) w2 b false ∧ SP d L w2 (fun t => w10.heap.size ≤ t ∧ t < w2.heap.size) f x (.slice p q c2)) ∨ (rd d L (f + 1) s a = none ∧ ∃ a', RdS d L S R (.slice a0 d.terms.length c0) (.slice a1 d.nons.length c1) (.slice (some ⟨bp, op, none⟩) d.prods.length c3) (.slice (some ⟨bn, on, none⟩) L.length c) w2 a' true)) (hgr : (w2.alloc (.cells #[.int .i64 m, .slice p q c2] 48)).grownBy w7 (Value.slice up uq uc).ownBlock) (hown : w7.ownsRow (w1.heap.size + 1) 48 2 (.slice (some ⟨g7, 0, none⟩) (ks.length + 1) cap7) (ks.length + 1) (kf L ks ++ [.int .i64 m, .slice p q c2])) (hat : (Value.slice up uq uc).ownBlock = some g7 ∨ g7 = (w2.alloc (.cells #[.int .i64 m, .slice p q c2] 48)).heap.size) => (show (∃ (X1 : Nat) (U1 : Value) (M1 : List (Nat × Value)) (K1 : Nat → Prop), atP d L f a (j + 1) = some X1 ∧ LS d L S R w1.heap.size (.slice a0 d.terms.length c0) (.slice a1 d.nons.length c1) (.slice (some ⟨bp, op, none⟩) d.prods.length c3) (.slice (some ⟨bn, on, none⟩) L.length c) w (w7.setCell ⟨w1.heap.size, 1, none⟩ (.slice (some ⟨g7, 0, none⟩) (ks.length + 1) cap7)) k f a (j + 1) X1 U1 M1 K1) ∨ (rd d L (f + 1) s a = none ∧ ∃ (A1 : Nat) (P1 : Option Addr) (Q1 C1 N1 : Nat) (Y1 : List Value), RdS d L S R (.slice a0 d.terms.length c0) (.slice a1 d.nons.length c1) (.slice (some ⟨bp, op, none⟩) d.prods.length c3) (.slice (some ⟨bn, on, none⟩) L.length c) (w7.setCell ⟨w1.heap.size, 1, none⟩ (.slice (some ⟨g7, 0, none⟩) (ks.length + 1) cap7)) A1 true ∧ LB R w1.heap.size w (w7.setCell ⟨w1.heap.size, 1, none⟩ (.slice (some ⟨g7, 0, none⟩) (ks.length + 1) cap7)) k (.slice P1 Q1 C1) N1 Y1) from by
                      rcases hfact with ⟨b, hxb, rfl, hr, hsp⟩ | ⟨hR0, a', hr⟩
                      · exact .inl ⟨b, _, _, _, hxb, LS.step HL10.out hk2 hr hltA HXJ.out (by rw [HY.out]; omega) hsp hgr hown hat⟩
                      · obtain ⟨hb, hst, hsz, hrow, _⟩ := LB.step HL10.out.lb hk2 hgr hown hat
                        have h1 := HL10.out.lb.rl
                        have h2 := HL10.out.lb.gl
                        have h3 := hr.lt
                        exact .inr ⟨hR0, a', _, _, _, _, _, hr.keep (fun t ht => hst t (by omega) (by omega) (fun e => by have := (hrow t e).1; omega)), hb⟩))
                    have e1 : w10.cell? ⟨w1.heap.size, 1, none⟩ = some (.slice up uq uc) := HL10.out.lb.out.cell 1 (by simp)
                    have hkl : ks.length ≤ 12 := by
                      have h1 := HL10.out.ks.len
                      have h2 := cn_le d.terms.length ((pa d L a).right.take j)
                      have h3 : ((pa d L a).right.take j).length ≤ j := by simp; omega
                      omega
                    have hge' : (d.terms.length : Int) ≤ y := by omega
                    clear hsucc hge HRW hxl hxa hcl
                    obtain ⟨u, hu⟩ : ∃ u, Value.slice up uq uc = u := ⟨_, rfl⟩
                    rw [hu] at HL10 HSTEP e1
                    clear hu
                    go_upto_region 12 with fail
                    refine wp_region_held_drew (S := fun _ => True) (by kernel_rfl) trivial (fun hHeld => ?_)
                    refine wpAnyH_take (i := 0) (oi := { dst := some 129, op := Go.Op.fieldAddr 48 (Go.Operand.tmp 5) 1, type := 0, pos := "l06_parsing.go:143", after := #[], guard := none }) (v := ?v152) rfl (by kernel_rfl) (by kernel_rfl) (by kernel_rfl) (fun _ _ _ h => h) (Or.inl ⟨by rfl, ?h152⟩) hHeld ?r152
                    case h152 => (intro w hSw; (try dsimp only at hSw); go_simp; try with_reducible rfl)
                    try simp only [Act.put, List.setIfInBounds_toArray, List.set_cons_zero, List.set_cons_succ]
                    refine wpAnyH_take (i := 2) (oi := { dst := some 131, op := Go.Op.move (Go.Operand.tmp 0), type := 75, pos := "l06_parsing.go:143", after := #[], guard := none }) (v := ?v153) rfl (by kernel_rfl) (by kernel_rfl) (by kernel_rfl) (fun _ _ _ h => h) (Or.inl ⟨by rfl, ?h153⟩) hHeld ?r153
                    case h153 => (intro w hSw; (try dsimp only at hSw); go_simp; try with_reducible rfl)
                    try simp only [Act.put, List.setIfInBounds_toArray, List.set_cons_zero, List.set_cons_succ]
                    refine wpAnyH_take (i := 3) (oi := { dst := some 132, op := Go.Op.move (Go.Operand.tmp 8), type := 3, pos := "l06_parsing.go:143", after := #[], guard := none }) (v := ?v154) rfl (by kernel_rfl) (by kernel_rfl) (by kernel_rfl) (fun _ _ _ h => h) (Or.inl ⟨by rfl, ?h154⟩) hHeld ?r154
                    case h154 => (intro w hSw; (try dsimp only at hSw); go_simp; try with_reducible rfl)
                    try simp only [Act.put, List.setIfInBounds_toArray, List.set_cons_zero, List.set_cons_succ]
                    refine wpAnyH_ready (rs := [1, 4]) (by kernel_rfl) (by simp) ?_
                    refine AllReadyH.cons (o := { dst := some 130, op := Go.Op.load 46 (Go.Operand.tmp 129), type := 46, pos := "l06_parsing.go:143", after := #[{ on := 0, ground := Go.Ground.data }], guard := none }) rfl (fun K hK => ?_) (AllReadyH.cons (o := { dst := some 133, op := Go.Op.call { callee := Go.Callee.value (Go.Operand.func 43), args := #[Go.Operand.tmp 131, Go.Operand.tmp 132], argTypes := #[75, 3] }, type := 48, pos := "l06_parsing.go:143", after := #[{ on := 2, ground := Go.Ground.data }, { on := 3, ground := Go.Ground.data }], guard := none }) rfl (fun K hK => ?_) AllReadyH.nil)
                    · go_simp
                      clear hHeld
                      refine hK.out _ _ trivial (fun hHeld => ?_)
                      clear hK K
                      try simp only [Act.put, List.setIfInBounds_toArray, List.set_cons_zero, List.set_cons_succ]
                      refine wpAnyH_ready (rs := [4]) (by kernel_rfl) (by simp) ?_
                      refine AllReadyH.cons (o := { dst := some 133, op := Go.Op.call { callee := Go.Callee.value (Go.Operand.func 43), args := #[Go.Operand.tmp 131, Go.Operand.tmp 132], argTypes := #[75, 3] }, type := 48, pos := "l06_parsing.go:143", after := #[{ on := 2, ground := Go.Ground.data }, { on := 3, ground := Go.Ground.data }], guard := none }) rfl (fun K hK => ?_) AllReadyH.nil
                      go_simp
                      refine Calls.mono HCALL.out ?_
                      rintro e w2 ⟨m, p, q, c2, rfl, hk2, hfact⟩
                      dsimp only
                      have hb2 : Box w2 w1.heap.size 48 [.int .i64 (k : Nat), u] := HL10.out.lb.out.keep (hk2.block _ HL10.out.lb.out.lt (by have := HL10.out.lb.rl; have := HL10.out.lb.gl; omega))
                      have e2 : w2.cell? ⟨w1.heap.size, 1, none⟩ = some u := hb2.cell 1 (by simp)
                      have e3 : (w2.alloc (.cells #[.int .i64 m, .slice p q c2] 48)).cell? ⟨w1.heap.size, 1, none⟩ = some u := ((hb2.still (bel_alloc _ _)).cell 1 (by simp))
                      have HOW : Hid ((w2.alloc (.cells #[.int .i64 m, .slice p q c2] 48)).ownsRow (w1.heap.size + 1) 48 2 u ks.length (kf L ks)) := own_keep HL10.out.lb.own (fun t ht => by have h1 := World.ownsRow.lt HL10.out.lb.own t ht; rw [Below.heap_alloc _ _ _ (by have := hk2.size; omega)]; exact hk2.block t h1.2 (by have := HL10.out.lb.rl; have := HL10.out.lb.gl; omega))
                      have HBB := (show Hid _ from hb2)
                      have hbs : w1.heap.size + 1 ≤ (w2.alloc (.cells #[.int .i64 m, .slice p q c2] 48)).heap.size := by have h1 := HL10.out.lb.out.lt; have h2 := hk2.size; simp; omega
                      have HF2 := (show Hid _ from (⟨hk2, hfact⟩ : _ ∧ _))
                      clear hb2 hk2 hfact
                      clear hHeld
                      refine hK.out _ _ trivial (fun hHeld => ?_)
                      clear hK K
                      try simp only [Act.put, List.setIfInBounds_toArray, List.set_cons_zero, List.set_cons_succ]
                      refine wpAnyH_ready (rs := [5]) (by kernel_rfl) (by simp) ?_
                      refine AllReadyH.cons (o := { dst := some 134, op := Go.Op.buildSlice 46 1 #[(0, Go.Operand.tmp 133)], type := 46, pos := "l06_parsing.go:143", after := #[{ on := 4, ground := Go.Ground.data }], guard := none }) rfl (fun K hK => ?_) AllReadyH.nil
                      go_simp
                      clear hHeld
                      refine hK.out _ _ trivial (fun hHeld => ?_)
                      clear hK K
                      try simp only [Act.put, List.setIfInBounds_toArray, List.set_cons_zero, List.set_cons_succ]
                      refine wpAnyH_ready (rs := [6]) (by kernel_rfl) (by simp) ?_
                      refine AllReadyH.cons (o := { dst := some 135, op := Go.Op.call { callee := Go.Callee.builtin Go.Builtin.append, args := #[Go.Operand.tmp 130, Go.Operand.tmp 134], argTypes := #[46, 46] }, type := 46, pos := "l06_parsing.go:143", after := #[{ on := 1, ground := Go.Ground.data }, { on := 5, ground := Go.Ground.data }, { on := 4, ground := Go.Ground.chain }], guard := none }) rfl (fun K hK => ?_) AllReadyH.nil
                      (refine step_append_lies _ rfl (.tmp 130) (.tmp 134) 46 rfl (w1.heap.size + 1) 48 i64 _ 2 32 Try.underlying46 hi64 hz0 hz1 hz2 rfl (by decide) _ ks.length _ (by simp [Act.eval, Act.put]) HOW.out ⟨w2.heap.size, 0, none⟩ 1 1 [.int .i64 m, .slice p q c2] (by simp [Act.eval, Act.put]) rfl (cell_two_new _ _ _ _) (by intro y hy; simp at hy; rcases hy with rfl | rfl <;> rfl) (by decide) (by unfold maxLen; omega) (by omega) hbs _ rfl ?_; intro g7 cap7 w7 hown7 hgr7 hat7 hlt7; have hb7 : Box w7 w1.heap.size 48 [.int .i64 (k : Nat), u] := (HBB.out.still (bel_alloc _ (.cells #[.int .i64 m, .slice p q c2] 48))).keep (hgr7.block _ (by omega) (fun e => by have := (World.ownsRow.lt HL10.out.lb.own _ e.symm).1; omega)); have s1 : w7.cell? ⟨w1.heap.size, 1, none⟩ = some u := hb7.cell 1 (by simp); have r1' : w7.frozen? ⟨w1.heap.size, 1, none⟩ = false := hb7.frozen 1; have HLN := (show Hid _ from HSTEP.out w2 w7 m p q c2 g7 cap7 HF2.out.1 HF2.out.2 hgr7 hown7 hat7); clear hb7 hown7 hgr7 hat7 hlt7)
                      clear hHeld
                      refine hK.out _ _ trivial (fun hHeld => ?_)
                      clear hK K
                      try simp only [Act.put, List.setIfInBounds_toArray, List.set_cons_zero, List.set_cons_succ]
                      refine wpAnyH_take (i := 7) (oi := { dst := some 136, op := Go.Op.fieldAddr 48 (Go.Operand.tmp 5) 1, type := 0, pos := "l06_parsing.go:143", after := #[{ on := 0, ground := Go.Ground.phase }, { on := 1, ground := Go.Ground.phase }, { on := 2, ground := Go.Ground.phase }, { on := 3, ground := Go.Ground.phase }, { on := 4, ground := Go.Ground.phase }, { on := 5, ground := Go.Ground.phase }, { on := 6, ground := Go.Ground.phase }], guard := none }) (v := ?v155) rfl (by kernel_rfl) (by kernel_rfl) (by kernel_rfl) (fun _ _ _ h => h) (Or.inl ⟨by rfl, ?h155⟩) hHeld ?r155
                      case h155 => (intro w hSw; (try dsimp only at hSw); go_simp; try with_reducible rfl)
                      try simp only [Act.put, List.setIfInBounds_toArray, List.set_cons_zero, List.set_cons_succ]
                      refine wpAnyH_ready (rs := [8]) (by kernel_rfl) (by simp) ?_
                      refine AllReadyH.cons (o := { dst := none, op := Go.Op.store 46 (Go.Operand.tmp 136) (Go.Operand.tmp 135), type := 0, pos := "l06_parsing.go:143", after := #[{ on := 7, ground := Go.Ground.data }, { on := 6, ground := Go.Ground.data }, { on := 6, ground := Go.Ground.chain }, { on := 0, ground := Go.Ground.phase }, { on := 1, ground := Go.Ground.phase }, { on := 2, ground := Go.Ground.phase }, { on := 3, ground := Go.Ground.phase }, { on := 4, ground := Go.Ground.phase }, { on := 5, ground := Go.Ground.phase }, { on := 6, ground := Go.Ground.phase }], guard := none }) rfl (fun K hK => ?_) AllReadyH.nil
                      go_simp
                      clear hHeld
                      refine hK.out _ _ trivial (fun hHeld => ?_)
                      clear hK K
                      try simp only [Act.put, List.setIfInBounds_toArray, List.set_cons_zero, List.set_cons_succ]
                      refine wpAnyH_done (by kernel_rfl) ?_ _
                      go_wp2_with fail
                      exact ⟨⟨j + 1, by go_num, by omega, HLN.out⟩, by simp [intOf]; omega⟩
                    · go_simp
                      refine Calls.mono HCALL.out ?_
                      rintro e w2 ⟨m, p, q, c2, rfl, hk2, hfact⟩
                      dsimp only
                      have hb2 : Box w2 w1.heap.size 48 [.int .i64 (k : Nat), u] := HL10.out.lb.out.keep (hk2.block _ HL10.out.lb.out.lt (by have := HL10.out.lb.rl; have := HL10.out.lb.gl; omega))
                      have e2 : w2.cell? ⟨w1.heap.size, 1, none⟩ = some u := hb2.cell 1 (by simp)
                      have e3 : (w2.alloc (.cells #[.int .i64 m, .slice p q c2] 48)).cell? ⟨w1.heap.size, 1, none⟩ = some u := ((hb2.still (bel_alloc _ _)).cell 1 (by simp))
                      have HOW : Hid ((w2.alloc (.cells #[.int .i64 m, .slice p q c2] 48)).ownsRow (w1.heap.size + 1) 48 2 u ks.length (kf L ks)) := own_keep HL10.out.lb.own (fun t ht => by have h1 := World.ownsRow.lt HL10.out.lb.own t ht; rw [Below.heap_alloc _ _ _ (by have := hk2.size; omega)]; exact hk2.block t h1.2 (by have := HL10.out.lb.rl; have := HL10.out.lb.gl; omega))
                      have HBB := (show Hid _ from hb2)
                      have hbs : w1.heap.size + 1 ≤ (w2.alloc (.cells #[.int .i64 m, .slice p q c2] 48)).heap.size := by have h1 := HL10.out.lb.out.lt; have h2 := hk2.size; simp; omega
                      have HF2 := (show Hid _ from (⟨hk2, hfact⟩ : _ ∧ _))
                      clear hb2 hk2 hfact
                      clear hHeld
                      refine hK.out _ _ trivial (fun hHeld => ?_)
                      clear hK K
                      try simp only [Act.put, List.setIfInBounds_toArray, List.set_cons_zero, List.set_cons_succ]
                      refine wpAnyH_ready (rs := [1, 5]) (by kernel_rfl) (by simp) ?_
                      refine AllReadyH.cons (o := { dst := some 130, op := Go.Op.load 46 (Go.Operand.tmp 129), type := 46, pos := "l06_parsing.go:143", after := #[{ on := 0, ground := Go.Ground.data }], guard := none }) rfl (fun K hK => ?_) (AllReadyH.cons (o := { dst := some 134, op := Go.Op.buildSlice 46 1 #[(0, Go.Operand.tmp 133)], type := 46, pos := "l06_parsing.go:143", after := #[{ on := 4, ground := Go.Ground.data }], guard := none }) rfl (fun K hK => ?_) AllReadyH.nil)
                      · go_simp
                        clear hHeld
                        refine hK.out _ _ trivial (fun hHeld => ?_)
                        clear hK K
                        try simp only [Act.put, List.setIfInBounds_toArray, List.set_cons_zero, List.set_cons_succ]
                        refine wpAnyH_ready (rs := [5]) (by kernel_rfl) (by simp) ?_
                        refine AllReadyH.cons (o := { dst := some 134, op := Go.Op.buildSlice 46 1 #[(0, Go.Operand.tmp 133)], type := 46, pos := "l06_parsing.go:143", after := #[{ on := 4, ground := Go.Ground.data }], guard := none }) rfl (fun K hK => ?_) AllReadyH.nil
                        go_simp
                        clear hHeld
                        refine hK.out _ _ trivial (fun hHeld => ?_)
                        clear hK K
                        try simp only [Act.put, List.setIfInBounds_toArray, List.set_cons_zero, List.set_cons_succ]
                        refine wpAnyH_ready (rs := [6]) (by kernel_rfl) (by simp) ?_
                        refine AllReadyH.cons (o := { dst := some 135, op := Go.Op.call { callee := Go.Callee.builtin Go.Builtin.append, args := #[Go.Operand.tmp 130, Go.Operand.tmp 134], argTypes := #[46, 46] }, type := 46, pos := "l06_parsing.go:143", after := #[{ on := 1, ground := Go.Ground.data }, { on := 5, ground := Go.Ground.data }, { on := 4, ground := Go.Ground.chain }], guard := none }) rfl (fun K hK => ?_) AllReadyH.nil
                        (refine step_append_lies _ rfl (.tmp 130) (.tmp 134) 46 rfl (w1.heap.size + 1) 48 i64 _ 2 32 Try.underlying46 hi64 hz0 hz1 hz2 rfl (by decide) _ ks.length _ (by simp [Act.eval, Act.put]) HOW.out ⟨w2.heap.size, 0, none⟩ 1 1 [.int .i64 m, .slice p q c2] (by simp [Act.eval, Act.put]) rfl (cell_two_new _ _ _ _) (by intro y hy; simp at hy; rcases hy with rfl | rfl <;> rfl) (by decide) (by unfold maxLen; omega) (by omega) hbs _ rfl ?_; intro g7 cap7 w7 hown7 hgr7 hat7 hlt7; have hb7 : Box w7 w1.heap.size 48 [.int .i64 (k : Nat), u] := (HBB.out.still (bel_alloc _ (.cells #[.int .i64 m, .slice p q c2] 48))).keep (hgr7.block _ (by omega) (fun e => by have := (World.ownsRow.lt HL10.out.lb.own _ e.symm).1; omega)); have s1 : w7.cell? ⟨w1.heap.size, 1, none⟩ = some u := hb7.cell 1 (by simp); have r1' : w7.frozen? ⟨w1.heap.size, 1, none⟩ = false := hb7.frozen 1; have HLN := (show Hid _ from HSTEP.out w2 w7 m p q c2 g7 cap7 HF2.out.1 HF2.out.2 hgr7 hown7 hat7); clear hb7 hown7 hgr7 hat7 hlt7)
                        clear hHeld
                        refine hK.out _ _ trivial (fun hHeld => ?_)
                        clear hK K
                        try simp only [Act.put, List.setIfInBounds_toArray, List.set_cons_zero, List.set_cons_succ]
                        refine wpAnyH_take (i := 7) (oi := { dst := some 136, op := Go.Op.fieldAddr 48 (Go.Operand.tmp 5) 1, type := 0, pos := "l06_parsing.go:143", after := #[{ on := 0, ground := Go.Ground.phase }, { on := 1, ground := Go.Ground.phase }, { on := 2, ground := Go.Ground.phase }, { on := 3, ground := Go.Ground.phase }, { on := 4, ground := Go.Ground.phase }, { on := 5, ground := Go.Ground.phase }, { on := 6, ground := Go.Ground.phase }], guard := none }) (v := ?v156) rfl (by kernel_rfl) (by kernel_rfl) (by kernel_rfl) (fun _ _ _ h => h) (Or.inl ⟨by rfl, ?h156⟩) hHeld ?r156
                        case h156 => (intro w hSw; (try dsimp only at hSw); go_simp; try with_reducible rfl)
                        try simp only [Act.put, List.setIfInBounds_toArray, List.set_cons_zero, List.set_cons_succ]
                        refine wpAnyH_ready (rs := [8]) (by kernel_rfl) (by simp) ?_
                        refine AllReadyH.cons (o := { dst := none, op := Go.Op.store 46 (Go.Operand.tmp 136) (Go.Operand.tmp 135), type := 0, pos := "l06_parsing.go:143", after := #[{ on := 7, ground := Go.Ground.data }, { on := 6, ground := Go.Ground.data }, { on := 6, ground := Go.Ground.chain }, { on := 0, ground := Go.Ground.phase }, { on := 1, ground := Go.Ground.phase }, { on := 2, ground := Go.Ground.phase }, { on := 3, ground := Go.Ground.phase }, { on := 4, ground := Go.Ground.phase }, { on := 5, ground := Go.Ground.phase }, { on := 6, ground := Go.Ground.phase }], guard := none }) rfl (fun K hK => ?_) AllReadyH.nil
                        go_simp
                        clear hHeld
                        refine hK.out _ _ trivial (fun hHeld => ?_)
                        clear hK K
                        try simp only [Act.put, List.setIfInBounds_toArray, List.set_cons_zero, List.set_cons_succ]
                        refine wpAnyH_done (by kernel_rfl) ?_ _
                        go_wp2_with fail
                        exact ⟨⟨j + 1, by go_num, by omega, HLN.out⟩, by simp [intOf]; omega⟩
                      · go_simp
                        clear hHeld
                        refine hK.out _ _ trivial (fun hHeld => ?_)
                        clear hK K
                        try simp only [Act.put, List.setIfInBounds_toArray, List.set_cons_zero, List.set_cons_succ]
                        refine wpAnyH_ready (rs := [1]) (by kernel_rfl) (by simp) ?_
                        refine AllReadyH.cons (o := { dst := some 130, op := Go.Op.load 46 (Go.Operand.tmp 129), type := 46, pos := "l06_parsing.go:143", after := #[{ on := 0, ground := Go.Ground.data }], guard := none }) rfl (fun K hK => ?_) AllReadyH.nil
                        go_simp
                        clear hHeld
                        refine hK.out _ _ trivial (fun hHeld => ?_)
                        clear hK K
                        try simp only [Act.put, List.setIfInBounds_toArray, List.set_cons_zero, List.set_cons_succ]
                        refine wpAnyH_ready (rs := [6]) (by kernel_rfl) (by simp) ?_
                        refine AllReadyH.cons (o := { dst := some 135, op := Go.Op.call { callee := Go.Callee.builtin Go.Builtin.append, args := #[Go.Operand.tmp 130, Go.Operand.tmp 134], argTypes := #[46, 46] }, type := 46, pos := "l06_parsing.go:143", after := #[{ on := 1, ground := Go.Ground.data }, { on := 5, ground := Go.Ground.data }, { on := 4, ground := Go.Ground.chain }], guard := none }) rfl (fun K hK => ?_) AllReadyH.nil
                        (refine step_append_lies _ rfl (.tmp 130) (.tmp 134) 46 rfl (w1.heap.size + 1) 48 i64 _ 2 32 Try.underlying46 hi64 hz0 hz1 hz2 rfl (by decide) _ ks.length _ (by simp [Act.eval, Act.put]) HOW.out ⟨w2.heap.size, 0, none⟩ 1 1 [.int .i64 m, .slice p q c2] (by simp [Act.eval, Act.put]) rfl (cell_two_new _ _ _ _) (by intro y hy; simp at hy; rcases hy with rfl | rfl <;> rfl) (by decide) (by unfold maxLen; omega) (by omega) hbs _ rfl ?_; intro g7 cap7 w7 hown7 hgr7 hat7 hlt7; have hb7 : Box w7 w1.heap.size 48 [.int .i64 (k : Nat), u] := (HBB.out.still (bel_alloc _ (.cells #[.int .i64 m, .slice p q c2] 48))).keep (hgr7.block _ (by omega) (fun e => by have := (World.ownsRow.lt HL10.out.lb.own _ e.symm).1; omega)); have s1 : w7.cell? ⟨w1.heap.size, 1, none⟩ = some u := hb7.cell 1 (by simp); have r1' : w7.frozen? ⟨w1.heap.size, 1, none⟩ = false := hb7.frozen 1; have HLN := (show Hid _ from HSTEP.out w2 w7 m p q c2 g7 cap7 HF2.out.1 HF2.out.2 hgr7 hown7 hat7); clear hb7 hown7 hgr7 hat7 hlt7)
                        clear hHeld
                        refine hK.out _ _ trivial (fun hHeld => ?_)
                        clear hK K
                        try simp only [Act.put, List.setIfInBounds_toArray, List.set_cons_zero, List.set_cons_succ]
                        refine wpAnyH_take (i := 7) (oi := { dst := some 136, op := Go.Op.fieldAddr 48 (Go.Operand.tmp 5) 1, type := 0, pos := "l06_parsing.go:143", after := #[{ on := 0, ground := Go.Ground.phase }, { on := 1, ground := Go.Ground.phase }, { on := 2, ground := Go.Ground.phase }, { on := 3, ground := Go.Ground.phase }, { on := 4, ground := Go.Ground.phase }, { on := 5, ground := Go.Ground.phase }, { on := 6, ground := Go.Ground.phase }], guard := none }) (v := ?v157) rfl (by kernel_rfl) (by kernel_rfl) (by kernel_rfl) (fun _ _ _ h => h) (Or.inl ⟨by rfl, ?h157⟩) hHeld ?r157
                        case h157 => (intro w hSw; (try dsimp only at hSw); go_simp; try with_reducible rfl)
                        try simp only [Act.put, List.setIfInBounds_toArray, List.set_cons_zero, List.set_cons_succ]
                        refine wpAnyH_ready (rs := [8]) (by kernel_rfl) (by simp) ?_
                        refine AllReadyH.cons (o := { dst := none, op := Go.Op.store 46 (Go.Operand.tmp 136) (Go.Operand.tmp 135), type := 0, pos := "l06_parsing.go:143", after := #[{ on := 7, ground := Go.Ground.data }, { on := 6, ground := Go.Ground.data }, { on := 6, ground := Go.Ground.chain }, { on := 0, ground := Go.Ground.phase }, { on := 1, ground := Go.Ground.phase }, { on := 2, ground := Go.Ground.phase }, { on := 3, ground := Go.Ground.phase }, { on := 4, ground := Go.Ground.phase }, { on := 5, ground := Go.Ground.phase }, { on := 6, ground := Go.Ground.phase }], guard := none }) rfl (fun K hK => ?_) AllReadyH.nil
                        go_simp
                        clear hHeld
                        refine hK.out _ _ trivial (fun hHeld => ?_)
                        clear hK K
                        try simp only [Act.put, List.setIfInBounds_toArray, List.set_cons_zero, List.set_cons_succ]
                        refine wpAnyH_done (by kernel_rfl) ?_ _
                        go_wp2_with fail
                        exact ⟨⟨j + 1, by go_num, by omega, HLN.out⟩, by simp [intOf]; omega⟩
              · have hje : j = (pa d L a).right.length := by rw [HP.out]; omega
                have hxn := hxj
                rw [hje] at hLS hxn
                have hbr := hLS.lb.res
                have hbo := hLS.lb.out
                have hkp' := hLS.lb.kp
                have bx3 := (hbr.set 0 (.int .i64 (k : Nat))).set 1 (.slice up uq uc)
                have t0 : wr.cell? ⟨w1.heap.size, 0, none⟩ = some (.int .i64 (k : Nat)) := hbo.cell 0 (by simp)
                have t1 : wr.cell? ⟨w1.heap.size, 1, none⟩ = some (.slice up uq uc) := hbo.cell 1 (by simp)
                have g0 : wr.cell? ⟨w.heap.size, 0, none⟩ = some (.int .i64 0) := hbr.cell 0 (by simp)
                have g1 : wr.cell? ⟨w.heap.size, 1, none⟩ = some (.slice none 0 0) := hbr.cell 1 (by simp)
                have g2 := hbr.frozen 0
                have g3 := hbr.frozen 1
                have o0 := bx3.cell 0 (by simp)
                have o1 := bx3.cell 1 (by simp)
                simp only [List.set_cons_zero, List.set_cons_succ, List.getD_cons_zero, List.getD_cons_succ] at o0 o1
                have hkeep : ∀ b, b ≠ w.heap.size → ((wr.setCell ⟨w.heap.size, 0, none⟩ (.int .i64 (k : Nat))).setCell ⟨w.heap.size, 1, none⟩ (.slice up uq uc)).heap[b]? = wr.heap[b]? := fun b hb => by
                  rw [Below.heap_setCell _ _ _ _ (by exact hb), Below.heap_setCell _ _ _ _ (by exact hb)]
                have hsz : ((wr.setCell ⟨w.heap.size, 0, none⟩ (.int .i64 (k : Nat))).setCell ⟨w.heap.size, 1, none⟩ (.slice up uq uc)).heap.size = wr.heap.size := by simp [World.setCell]
                have HF : Hid (RsA d L S R (.slice a0 d.terms.length c0) (.slice a1 d.nons.length c1) (.slice (some ⟨bp, op, none⟩) d.prods.length c3) (.slice (some ⟨bn, on, none⟩) L.length c) (f + 1) s a w (.returned (.agg #[.int .i64 (k : Nat), (.slice up uq uc)])) ((wr.setCell ⟨w.heap.size, 0, none⟩ (.int .i64 (k : Nat))).setCell ⟨w.heap.size, 1, none⟩ (.slice up uq uc))) := by
                  refine ⟨Kp.setCell (Kp.setCell hkp' (.inr (Nat.le_refl _)) _) (.inr (Nat.le_refl _)) _, ?_, ?_⟩
                  · intro h
                    rw [HRD.out, hxn] at h
                    cases h
                  · intro b hb
                    rw [HRD.out, hxn] at hb
                    simp only [Option.some.injEq] at hb
                    refine ⟨up, uq, uc, by rw [HNU.out], ?_, ?_⟩
                    · rw [← hb]
                      exact hLS.rd.keep (fun t ht => hkeep t (by have := hLS.lb.rl; omega))
                    · refine SP.mono (fun t ht => ⟨by omega, by rw [hsz]; exact ht.2⟩) _ _ _ (SP.keep (fun t ht _ => hkeep t (by omega)) _ _ _ (hLS.done hxn))
                clear bx3 hkeep hsz hbr hbo hkp'
                clear hLS hxj hxn HJ hje
                go_wp2_with fail
                refine bodyPost_ret (v := .agg #[.int .i64 (k : Nat), .slice up uq uc]) (by simp [results, Try.results43, go_sem, o0, o1]) rfl ?_
                exact HF.out
            · have y6 : wr.cell? ⟨R, 6, none⟩ = some (.bool true) := hRS.box.cell 6 (by simp)
              have hbr := hLB.res
              have hbo := hLB.out
              have hkp' := hLB.kp
              have bx3 := (hbr.set 0 (.int .i64 (k : Nat))).set 1 (.slice p q c')
              have t0 : wr.cell? ⟨w1.heap.size, 0, none⟩ = some (.int .i64 (k : Nat)) := hbo.cell 0 (by simp)
              have t1 : wr.cell? ⟨w1.heap.size, 1, none⟩ = some (.slice p q c') := hbo.cell 1 (by simp)
              have g0 : wr.cell? ⟨w.heap.size, 0, none⟩ = some (.int .i64 0) := hbr.cell 0 (by simp)
              have g1 : wr.cell? ⟨w.heap.size, 1, none⟩ = some (.slice none 0 0) := hbr.cell 1 (by simp)
              have g2 := hbr.frozen 0
              have g3 := hbr.frozen 1
              have o0 := bx3.cell 0 (by simp)
              have o1 := bx3.cell 1 (by simp)
              simp only [List.set_cons_zero, List.set_cons_succ, List.getD_cons_zero, List.getD_cons_succ] at o0 o1
              have hkeep : ∀ b, b ≠ w.heap.size → ((wr.setCell ⟨w.heap.size, 0, none⟩ (.int .i64 (k : Nat))).setCell ⟨w.heap.size, 1, none⟩ (.slice p q c')).heap[b]? = wr.heap[b]? := fun b hb => by
                rw [Below.heap_setCell _ _ _ _ (by exact hb), Below.heap_setCell _ _ _ _ (by exact hb)]
              have hsz : ((wr.setCell ⟨w.heap.size, 0, none⟩ (.int .i64 (k : Nat))).setCell ⟨w.heap.size, 1, none⟩ (.slice p q c')).heap.size = wr.heap.size := by simp [World.setCell]
              have HF : Hid (RsA d L S R (.slice a0 d.terms.length c0) (.slice a1 d.nons.length c1) (.slice (some ⟨bp, op, none⟩) d.prods.length c3) (.slice (some ⟨bn, on, none⟩) L.length c) (f + 1) s a w (.returned (.agg #[.int .i64 (k : Nat), (.slice p q c')])) ((wr.setCell ⟨w.heap.size, 0, none⟩ (.int .i64 (k : Nat))).setCell ⟨w.heap.size, 1, none⟩ (.slice p q c'))) := by
                refine ⟨Kp.setCell (Kp.setCell hkp' (.inr (Nat.le_refl _)) _) (.inr (Nat.le_refl _)) _, ?_, ?_⟩
                · intro _
                  exact ⟨k, p, q, c', a', rfl, hRS.keep (fun t ht => hkeep t (by have := hLB.rl; omega))⟩
                · intro b hb
                  rw [hR0] at hb
                  cases hb
              clear bx3 hkeep hsz hbr hbo hkp'
              clear hRS hLB hR0 HJ
              by_cases hlt : j < P.right.length
              · go_wp2_with fail
                refine bodyPost_ret (v := .agg #[.int .i64 (k : Nat), .slice p q c']) (by simp [results, Try.results43, go_sem, o0, o1]) rfl ?_
                exact HF.out
              · go_wp2_with fail
                refine bodyPost_ret (v := .agg #[.int .i64 (k : Nat), .slice p q c']) (by simp [results, Try.results43, go_sem, o0, o1]) rfl ?_
                exact HF.out
end Go.Proofs.Ytaimlmjgicmbeaa
