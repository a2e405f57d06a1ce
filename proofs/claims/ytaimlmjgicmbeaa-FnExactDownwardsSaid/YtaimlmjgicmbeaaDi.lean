import Derived.Test.YtaimlmjgicmbeaaDh
/-! The specification: l06Read. -/
namespace Go.Proofs.Ytaimlmjgicmbeaa
open Go.RowKit Go.Deep
set_option linter.unusedVariables false
set_option maxRecDepth 100000
set_option linter.unusedSimpArgs false

/-- What l06Read answers. -/
def SrA (d : Bn) (L : List Int) (non : Int) (w : World) (e : Ending) (w' : World) : Prop :=
  Below w.heap.size w w' ∧ (rd d L (L.length + 1) (d.terms.length + non) 0 = some L.length → ∃ (p : Option Addr) (q c : Nat), e = .returned (.tuple #[.agg #[.int .i64 (numAt L 0), .slice p q c], .bool true]) ∧ SP d L w' (fun t => w.heap.size ≤ t) (L.length + 1) 0 (.slice p q c)) ∧ (rd d L (L.length + 1) (d.terms.length + non) 0 ≠ some L.length → ∃ (n : Int) (p : Option Addr) (q c : Nat), e = .returned (.tuple #[.agg #[.int .i64 n, .slice p q c], .bool false]))
set_option maxHeartbeats 12800000 in
theorem sRead {S : Nat → Prop} (d : Bn) (L : List Int) (v0 v1 v3 vd : Value) (non : Int) (w : World) (hok : bnB d = true) (hL : L.length ≤ 4000) (h : BLies w S d v0 v1 v3) (hd : Ints w S L vd) (hS : ∀ b, S b → b < w.heap.size) (hn0 : 0 ≤ non) (hn1 : non < (d.nons.length : Int)) :
    Calls Try.prog 21 #[.agg #[v0, v1, .int .i64 d.own, v3], .int .i64 non, vd] w fun e w' => SrA d L non w e w' := by
  obtain ⟨a0, c0, a1, c1, a3, c3, rfl, rfl, rfl⟩ := h.form
  obtain ⟨ad, cd, rfl, hdm⟩ := hd.form
  obtain ⟨hT, jk1, hNn, jk3, jk4, hPn⟩ := szB_of hok
  clear jk1 jk3 jk4
  unfold maxLen at hdm
  have hb3 : Below w.heap.size w (((w.alloc (.cells #[.slice a0 d.terms.length c0, .slice a1 d.nons.length c1, .int .i64 d.own, .slice a3 d.prods.length c3] 34)).alloc (.cells #[.int .i64 0, .slice none 0 0] 48)).alloc (.cells #[.slice a0 d.terms.length c0, .slice a1 d.nons.length c1, .int .i64 d.own, .slice a3 d.prods.length c3, .slice ad L.length cd, .int .i64 0, .bool false] 77)) := bel_trans (bel_trans (bel_alloc _ _) (bel_alloc _ _)) (bel_alloc _ _)
  have hz3 : (((w.alloc (.cells #[.slice a0 d.terms.length c0, .slice a1 d.nons.length c1, .int .i64 d.own, .slice a3 d.prods.length c3] 34)).alloc (.cells #[.int .i64 0, .slice none 0 0] 48)).alloc (.cells #[.slice a0 d.terms.length c0, .slice a1 d.nons.length c1, .int .i64 d.own, .slice a3 d.prods.length c3, .slice ad L.length cd, .int .i64 0, .bool false] 77)).heap.size = w.heap.size + 3 := by simp
  have hbx := Box.new ((w.alloc (.cells #[.slice a0 d.terms.length c0, .slice a1 d.nons.length c1, .int .i64 d.own, .slice a3 d.prods.length c3] 34)).alloc (.cells #[.int .i64 0, .slice none 0 0] 48)) 77 [.slice a0 d.terms.length c0, .slice a1 d.nons.length c1, .int .i64 d.own, .slice a3 d.prods.length c3, .slice ad L.length cd, .int .i64 0, .bool false]
  have hz2 : ((w.alloc (.cells #[.slice a0 d.terms.length c0, .slice a1 d.nons.length c1, .int .i64 d.own, .slice a3 d.prods.length c3] 34)).alloc (.cells #[.int .i64 0, .slice none 0 0] 48)).heap.size = w.heap.size + 2 := by simp
  rw [hz2] at hbx
  have hrs0 : RdS d L S (w.heap.size + 2) (.slice a0 d.terms.length c0) (.slice a1 d.nons.length c1) (.slice a3 d.prods.length c3) (.slice ad L.length cd) (((w.alloc (.cells #[.slice a0 d.terms.length c0, .slice a1 d.nons.length c1, .int .i64 d.own, .slice a3 d.prods.length c3] 34)).alloc (.cells #[.int .i64 0, .slice none 0 0] 48)).alloc (.cells #[.slice a0 d.terms.length c0, .slice a1 d.nons.length c1, .int .i64 d.own, .slice a3 d.prods.length c3, .slice ad L.length cd, .int .i64 0, .bool false] 77)) 0 false := ⟨hbx, (Num.of hd).keep (fun b _ hlt => hb3.block b hlt), h.still hb3, fun b hb => by have := hS b hb; omega⟩
  have hres0 : Box (((w.alloc (.cells #[.slice a0 d.terms.length c0, .slice a1 d.nons.length c1, .int .i64 d.own, .slice a3 d.prods.length c3] 34)).alloc (.cells #[.int .i64 0, .slice none 0 0] 48)).alloc (.cells #[.slice a0 d.terms.length c0, .slice a1 d.nons.length c1, .int .i64 d.own, .slice a3 d.prods.length c3, .slice ad L.length cd, .int .i64 0, .bool false] 77)) (w.heap.size + 1) 48 [.int .i64 0, .slice none 0 0] := by
    have h1 := (Box.new (w.alloc (.cells #[.slice a0 d.terms.length c0, .slice a1 d.nons.length c1, .int .i64 d.own, .slice a3 d.prods.length c3] 34)) 48 [.int .i64 0, .slice none 0 0]).still (bel_alloc _ (.cells #[.slice a0 d.terms.length c0, .slice a1 d.nons.length c1, .int .i64 d.own, .slice a3 d.prods.length c3, .slice ad L.length cd, .int .i64 0, .bool false] 77))
    have h2 : (w.alloc (.cells #[.slice a0 d.terms.length c0, .slice a1 d.nons.length c1, .int .i64 d.own, .slice a3 d.prods.length c3] 34)).heap.size = w.heap.size + 1 := by simp
    rw [h2] at h1
    exact h1
  have hcl := non_n (R := w.heap.size + 2) hok hL (L.length + 1) (d.terms.length + non) 0 (((w.alloc (.cells #[.slice a0 d.terms.length c0, .slice a1 d.nons.length c1, .int .i64 d.own, .slice a3 d.prods.length c3] 34)).alloc (.cells #[.int .i64 0, .slice none 0 0] 48)).alloc (.cells #[.slice a0 d.terms.length c0, .slice a1 d.nons.length c1, .int .i64 d.own, .slice a3 d.prods.length c3, .slice ad L.length cd, .int .i64 0, .bool false] 77)) hrs0 (by omega) (Nat.zero_le _) (by omega) (by omega) (by omega)
  have e1 : ((d.terms.length : Int) + non - d.terms.length) = non := by omega
  rw [e1] at hcl
  have HCL := (show Hid _ from hcl)
  have HRES := (show Hid _ from hres0)
  have HB3 := (show Hid _ from hb3)
  have hx : Four ((w.alloc (.cells #[.slice a0 d.terms.length c0, .slice a1 d.nons.length c1, .int .i64 d.own, .slice a3 d.prods.length c3] 34)).alloc (.cells #[.int .i64 0, .slice none 0 0] 48)) w.heap.size (.slice a0 d.terms.length c0) (.slice a1 d.nons.length c1) (.int .i64 d.own) (.slice a3 d.prods.length c3) := (four_box w _ _ _ _ 34).still (bel_alloc _ _)
  obtain ⟨x0, x1, x2, x3⟩ := hx
  clear hcl hrs0 hbx hb3 hres0 h hd hS e1
  go_enter Try.func21, Try.ntmps21
  go_wp2_with fail
  refine Calls.mono HCL.out ?_
  rintro e w4 ⟨hk, hno, hyes⟩
  rw [hz3] at hk
  have hsz := hk.size
  rw [hz3] at hsz
  have hbel : Below w.heap.size w w4 := (HB3.out).trans ((hk.mono (B' := w.heap.size) (by omega)).below (by omega))
  clear x0 x1 x2 x3 HCL HB3
  cases hrd : rd d L (L.length + 1) (d.terms.length + non) 0 with
  | none =>
    obtain ⟨n, p, q, c, a', rfl, hrs⟩ := hno hrd
    · skip
      have hbo : Box (w4.alloc (.cells #[.int .i64 n, .slice p q c] 48)) w4.heap.size 48 [.int .i64 n, .slice p q c] := Box.new w4 48 [.int .i64 n, .slice p q c]
      have hb4 := bel_alloc w4 (.cells #[.int .i64 n, .slice p q c] 48)
      have hbr := hrs.box.still hb4
      have hres : Box (w4.alloc (.cells #[.int .i64 n, .slice p q c] 48)) (w.heap.size + 1) 48 [.int .i64 0, .slice none 0 0] := (HRES.out.keep (hk.block _ (by omega) (by omega))).still hb4
      have bx3 := (hres.set 0 (.int .i64 n)).set 1 (.slice p q c)
      have t0 : (w4.alloc (.cells #[.int .i64 n, .slice p q c] 48)).cell? ⟨w4.heap.size, 0, none⟩ = some (.int .i64 n) := hbo.cell 0 (by simp)
      have t1 : (w4.alloc (.cells #[.int .i64 n, .slice p q c] 48)).cell? ⟨w4.heap.size, 1, none⟩ = some (.slice p q c) := hbo.cell 1 (by simp)
      have t5 := hbr.cell 5 (by simp)
      have t6 := hbr.cell 6 (by simp)
      have g0 : (w4.alloc (.cells #[.int .i64 n, .slice p q c] 48)).cell? ⟨w.heap.size + 1, 0, none⟩ = some (.int .i64 0) := hres.cell 0 (by simp)
      have g1 : (w4.alloc (.cells #[.int .i64 n, .slice p q c] 48)).cell? ⟨w.heap.size + 1, 1, none⟩ = some (.slice none 0 0) := hres.cell 1 (by simp)
      have g2 := hres.frozen 0
      have g3 := hres.frozen 1
      have o0 := bx3.cell 0 (by simp)
      have o1 := bx3.cell 1 (by simp)
      simp only [List.set_cons_zero, List.set_cons_succ, List.getD_cons_zero, List.getD_cons_succ] at o0 o1 t5 t6
      have hbo2 := (hbo.past (q := w.heap.size + 1) (o := 0) (u := .int .i64 n) (by omega)).past (q := w.heap.size + 1) (o := 1) (u := .slice p q c) (by omega)
      have hbr2 := (hbr.past (q := w.heap.size + 1) (o := 0) (u := .int .i64 n) (by omega)).past (q := w.heap.size + 1) (o := 1) (u := .slice p q c) (by omega)
      have hS0 := (⟨t0, t1, t6⟩ : _ ∧ _ ∧ _)
      have hS1 : (((w4.alloc (.cells #[.int .i64 n, .slice p q c] 48)).setCell ⟨w.heap.size + 1, 0, none⟩ (.int .i64 n)).setCell ⟨w.heap.size + 1, 1, none⟩ (.slice p q c)).cell? ⟨w4.heap.size, 0, none⟩ = some (.int .i64 n) ∧ (((w4.alloc (.cells #[.int .i64 n, .slice p q c] 48)).setCell ⟨w.heap.size + 1, 0, none⟩ (.int .i64 n)).setCell ⟨w.heap.size + 1, 1, none⟩ (.slice p q c)).cell? ⟨w4.heap.size, 1, none⟩ = some (.slice p q c) ∧ (((w4.alloc (.cells #[.int .i64 n, .slice p q c] 48)).setCell ⟨w.heap.size + 1, 0, none⟩ (.int .i64 n)).setCell ⟨w.heap.size + 1, 1, none⟩ (.slice p q c)).cell? ⟨w.heap.size + 2, 6, none⟩ = some (.bool true) := ⟨hbo2.cell 0 (by simp), hbo2.cell 1 (by simp), hbr2.cell 6 (by simp)⟩
      have HF : Hid (SrA d L non w (.returned (.tuple #[.agg #[.int .i64 n, .slice p q c], .bool false])) (((w4.alloc (.cells #[.int .i64 n, .slice p q c] 48)).setCell ⟨w.heap.size + 1, 0, none⟩ (.int .i64 n)).setCell ⟨w.heap.size + 1, 1, none⟩ (.slice p q c)).drew) := ⟨(((hbel.trans (hb4.mono (by omega))).setCell (by show w.heap.size ≤ w.heap.size + 1; omega) _).setCell (by show w.heap.size ≤ w.heap.size + 1; omega) _).drew, (fun h => by rw [hrd] at h; cases h), fun _ => ⟨n, p, q, c, rfl⟩⟩
      clear hno hyes hk hrs hbo hb4 hbr hres bx3 HRES hbel hrd hz2 hz3 hbo2 hbr2 t5
      go_upto_region 3 with fail
      refine wp_region_held_drew (S := (fun w' => w'.cell? ⟨w4.heap.size, 0, none⟩ = some (.int .i64 n) ∧ w'.cell? ⟨w4.heap.size, 1, none⟩ = some (.slice p q c) ∧ w'.cell? ⟨w.heap.size + 2, 6, none⟩ = some (.bool true))) (by kernel_rfl) hS0 (fun hHeld => ?_)
      refine wpAnyH_take (i := 0) (oi := { dst := some 17, op := Go.Op.load 48 (Go.Operand.tmp 9), type := 48, pos := "l06_parsing.go:153", after := #[], guard := none }) (v := ?v1) rfl (by kernel_rfl) (by kernel_rfl) (by kernel_rfl) (fun _ _ _ h => h) (Or.inl ⟨by rfl, ?h1⟩) hHeld ?r1
      case h1 => (intro w hSw; (try dsimp only at hSw); go_simp; try with_reducible rfl)
      try simp only [Act.put, List.setIfInBounds_toArray, List.set_cons_zero, List.set_cons_succ]
      refine wpAnyH_take (i := 1) (oi := { dst := some 18, op := Go.Op.move (Go.Operand.tmp 8), type := 75, pos := "l06_parsing.go:153", after := #[], guard := none }) (v := ?v2) rfl (by kernel_rfl) (by kernel_rfl) (by kernel_rfl) (fun _ _ _ h => h) (Or.inl ⟨by rfl, ?h2⟩) hHeld ?r2
      case h2 => (intro w hSw; (try dsimp only at hSw); go_simp; try with_reducible rfl)
      try simp only [Act.put, List.setIfInBounds_toArray, List.set_cons_zero, List.set_cons_succ]
      refine wpAnyH_take (i := 2) (oi := { dst := some 19, op := Go.Op.nilCheck (Go.Operand.tmp 18), type := 0, pos := "l06_parsing.go:153", after := #[{ on := 1, ground := Go.Ground.data }], guard := none }) (v := ?v3) rfl (by kernel_rfl) (by kernel_rfl) (by kernel_rfl) (fun _ _ _ h => h) (Or.inl ⟨by rfl, ?h3⟩) hHeld ?r3
      case h3 => (intro w hSw; (try dsimp only at hSw); go_simp; try with_reducible rfl)
      try simp only [Act.put, List.setIfInBounds_toArray, List.set_cons_zero, List.set_cons_succ]
      refine wpAnyH_take (i := 3) (oi := { dst := some 20, op := Go.Op.fieldAddr 77 (Go.Operand.tmp 19) 3, type := 0, pos := "l06_parsing.go:153", after := #[{ on := 2, ground := Go.Ground.data }], guard := none }) (v := ?v4) rfl (by kernel_rfl) (by kernel_rfl) (by kernel_rfl) (fun _ _ _ h => h) (Or.inl ⟨by rfl, ?h4⟩) hHeld ?r4
      case h4 => (intro w hSw; (try dsimp only at hSw); go_simp; try with_reducible rfl)
      try simp only [Act.put, List.setIfInBounds_toArray, List.set_cons_zero, List.set_cons_succ]
      refine wpAnyH_take (i := 4) (oi := { dst := some 21, op := Go.Op.load 4 (Go.Operand.tmp 20), type := 4, pos := "l06_parsing.go:153", after := #[{ on := 3, ground := Go.Ground.data }], guard := none }) (v := ?v5) rfl (by kernel_rfl) (by kernel_rfl) (by kernel_rfl) (fun _ _ _ h => h) (Or.inl ⟨by rfl, ?h5⟩) hHeld ?r5
      case h5 => (intro w hSw; (try dsimp only at hSw); go_simp; try with_reducible rfl)
      try simp only [Act.put, List.setIfInBounds_toArray, List.set_cons_zero, List.set_cons_succ]
      refine wpAnyH_take (i := 5) (oi := { dst := some 22, op := Go.Op.unOp Go.UnOp.not 4 (Go.Operand.tmp 21), type := 4, pos := "l06_parsing.go:153", after := #[{ on := 4, ground := Go.Ground.data }], guard := none }) (v := ?v6) rfl (by kernel_rfl) (by kernel_rfl) (by kernel_rfl) (fun _ _ _ h => h) (Or.inl ⟨by rfl, ?h6⟩) hHeld ?r6
      case h6 => (intro w hSw; (try dsimp only at hSw); go_simp; try with_reducible rfl)
      try simp only [Act.put, List.setIfInBounds_toArray, List.set_cons_zero, List.set_cons_succ]
      refine wpAnyH_take (i := 6) (oi := { dst := some 23, op := Go.Op.move (Go.Operand.tmp 22), type := 4, pos := "l06_parsing.go:153", after := #[{ on := 5, ground := Go.Ground.data }], guard := none }) (v := ?v7) rfl (by kernel_rfl) (by kernel_rfl) (by kernel_rfl) (fun _ _ _ h => h) (Or.inl ⟨by rfl, ?h7⟩) hHeld ?r7
      case h7 => (intro w hSw; (try dsimp only at hSw); go_simp; try with_reducible rfl)
      try simp only [Act.put, List.setIfInBounds_toArray, List.set_cons_zero, List.set_cons_succ]
      refine wpAnyH_take (i := 7) (oi := { dst := some 24, op := Go.Op.move (Go.Operand.tmp 8), type := 75, pos := "l06_parsing.go:153", after := #[{ on := 6, ground := Go.Ground.guard }, { on := 15, ground := Go.Ground.gcOnly Go.Departure.lateStores }], guard := some (6, true) }) (v := undef) rfl (by kernel_rfl) (by kernel_rfl) (by kernel_rfl) (fun _ _ _ h => h) (Or.inr ⟨by rfl, rfl⟩) hHeld ?_
      try simp only [Act.put, List.setIfInBounds_toArray, List.set_cons_zero, List.set_cons_succ]
      refine wpAnyH_take (i := 8) (oi := { dst := some 25, op := Go.Op.nilCheck (Go.Operand.tmp 24), type := 0, pos := "l06_parsing.go:153", after := #[{ on := 7, ground := Go.Ground.data }, { on := 6, ground := Go.Ground.guard }, { on := 15, ground := Go.Ground.gcOnly Go.Departure.lateStores }], guard := some (6, true) }) (v := undef) rfl (by kernel_rfl) (by kernel_rfl) (by kernel_rfl) (fun _ _ _ h => h) (Or.inr ⟨by rfl, rfl⟩) hHeld ?_
      try simp only [Act.put, List.setIfInBounds_toArray, List.set_cons_zero, List.set_cons_succ]
      refine wpAnyH_take (i := 9) (oi := { dst := some 26, op := Go.Op.fieldAddr 77 (Go.Operand.tmp 25) 2, type := 0, pos := "l06_parsing.go:153", after := #[{ on := 8, ground := Go.Ground.data }, { on := 6, ground := Go.Ground.guard }, { on := 15, ground := Go.Ground.gcOnly Go.Departure.lateStores }], guard := some (6, true) }) (v := undef) rfl (by kernel_rfl) (by kernel_rfl) (by kernel_rfl) (fun _ _ _ h => h) (Or.inr ⟨by rfl, rfl⟩) hHeld ?_
      try simp only [Act.put, List.setIfInBounds_toArray, List.set_cons_zero, List.set_cons_succ]
      refine wpAnyH_take (i := 10) (oi := { dst := some 27, op := Go.Op.load 3 (Go.Operand.tmp 26), type := 3, pos := "l06_parsing.go:153", after := #[{ on := 9, ground := Go.Ground.data }, { on := 6, ground := Go.Ground.guard }, { on := 15, ground := Go.Ground.gcOnly Go.Departure.lateStores }], guard := some (6, true) }) (v := undef) rfl (by kernel_rfl) (by kernel_rfl) (by kernel_rfl) (fun _ _ _ h => h) (Or.inr ⟨by rfl, rfl⟩) hHeld ?_
      try simp only [Act.put, List.setIfInBounds_toArray, List.set_cons_zero, List.set_cons_succ]
      refine wpAnyH_take (i := 11) (oi := { dst := some 28, op := Go.Op.move (Go.Operand.tmp 2), type := 27, pos := "l06_parsing.go:153", after := #[{ on := 6, ground := Go.Ground.guard }], guard := some (6, true) }) (v := undef) rfl (by kernel_rfl) (by kernel_rfl) (by kernel_rfl) (fun _ _ _ h => h) (Or.inr ⟨by rfl, rfl⟩) hHeld ?_
      try simp only [Act.put, List.setIfInBounds_toArray, List.set_cons_zero, List.set_cons_succ]
      refine wpAnyH_take (i := 12) (oi := { dst := some 29, op := Go.Op.call { callee := Go.Callee.builtin Go.Builtin.len, args := #[Go.Operand.tmp 28], argTypes := #[27] }, type := 3, pos := "l06_parsing.go:153", after := #[{ on := 11, ground := Go.Ground.data }, { on := 6, ground := Go.Ground.guard }], guard := some (6, true) }) (v := undef) rfl (by kernel_rfl) (by kernel_rfl) (by kernel_rfl) (fun _ _ _ h => h) (Or.inr ⟨by rfl, rfl⟩) hHeld ?_
      try simp only [Act.put, List.setIfInBounds_toArray, List.set_cons_zero, List.set_cons_succ]
      refine wpAnyH_take (i := 13) (oi := { dst := some 30, op := Go.Op.binOp Go.BinOp.eql 3 (Go.Operand.tmp 27) (Go.Operand.tmp 29) 3, type := 4, pos := "l06_parsing.go:153", after := #[{ on := 10, ground := Go.Ground.data }, { on := 12, ground := Go.Ground.data }, { on := 6, ground := Go.Ground.guard }, { on := 15, ground := Go.Ground.gcOnly Go.Departure.lateStores }], guard := some (6, true) }) (v := undef) rfl (by kernel_rfl) (by kernel_rfl) (by kernel_rfl) (fun _ _ _ h => h) (Or.inr ⟨by rfl, rfl⟩) hHeld ?_
      try simp only [Act.put, List.setIfInBounds_toArray, List.set_cons_zero, List.set_cons_succ]
      refine wpAnyH_take (i := 14) (oi := { dst := some 31, op := Go.Op.pick (Go.Operand.tmp 23) (Go.Operand.tmp 30) (Go.Operand.const (Go.Value.bool false)), type := 4, pos := "l06_parsing.go:153", after := #[{ on := 6, ground := Go.Ground.data }, { on := 13, ground := Go.Ground.data }, { on := 15, ground := Go.Ground.gcOnly Go.Departure.lateStores }], guard := none }) (v := ?v8) rfl (by kernel_rfl) (by kernel_rfl) (by kernel_rfl) (fun _ _ _ h => h) (Or.inl ⟨by rfl, ?h8⟩) hHeld ?r8
      case h8 => (intro w hSw; (try dsimp only at hSw); go_simp; try with_reducible rfl)
      try simp only [Act.put, List.setIfInBounds_toArray, List.set_cons_zero, List.set_cons_succ]
      refine wpAnyH_ready (rs := [15]) (by kernel_rfl) (by simp) ?_
      refine AllReadyH.cons (o := { dst := none, op := Go.Op.store 48 (Go.Operand.tmp 6) (Go.Operand.tmp 17), type := 0, pos := "l06_parsing.go:153", after := #[{ on := 0, ground := Go.Ground.data }, { on := 6, ground := Go.Ground.chain }, { on := 0, ground := Go.Ground.phase }, { on := 1, ground := Go.Ground.textOnly Go.Departure.lateStores }, { on := 2, ground := Go.Ground.textOnly Go.Departure.lateStores }, { on := 3, ground := Go.Ground.textOnly Go.Departure.lateStores }, { on := 4, ground := Go.Ground.textOnly Go.Departure.lateStores }, { on := 5, ground := Go.Ground.textOnly Go.Departure.lateStores }, { on := 6, ground := Go.Ground.textOnly Go.Departure.lateStores }, { on := 7, ground := Go.Ground.textOnly Go.Departure.lateStores }, { on := 8, ground := Go.Ground.textOnly Go.Departure.lateStores }, { on := 9, ground := Go.Ground.textOnly Go.Departure.lateStores }, { on := 10, ground := Go.Ground.textOnly Go.Departure.lateStores }, { on := 11, ground := Go.Ground.textOnly Go.Departure.lateStores }, { on := 12, ground := Go.Ground.textOnly Go.Departure.lateStoresUnsure }, { on := 13, ground := Go.Ground.textOnly Go.Departure.lateStores }, { on := 14, ground := Go.Ground.textOnly Go.Departure.lateStores }], guard := none }) rfl (fun K hK => ?_) AllReadyH.nil
      go_simp
      clear hHeld
      refine hK.out _ _ hS1 (fun hHeld => ?_)
      clear hK K
      try simp only [Act.put, List.setIfInBounds_toArray, List.set_cons_zero, List.set_cons_succ]
      refine wpAnyH_take (i := 16) (oi := { dst := some 7, op := Go.Op.assign (Go.Operand.tmp 31), type := 4, pos := "l06_parsing.go:153", after := #[{ on := 14, ground := Go.Ground.data }, { on := 15, ground := Go.Ground.chain }, { on := 0, ground := Go.Ground.phase }, { on := 1, ground := Go.Ground.phase }, { on := 2, ground := Go.Ground.phase }, { on := 3, ground := Go.Ground.phase }, { on := 4, ground := Go.Ground.phase }, { on := 5, ground := Go.Ground.phase }, { on := 6, ground := Go.Ground.phase }, { on := 7, ground := Go.Ground.phase }, { on := 8, ground := Go.Ground.phase }, { on := 9, ground := Go.Ground.phase }, { on := 10, ground := Go.Ground.phase }, { on := 11, ground := Go.Ground.phase }, { on := 12, ground := Go.Ground.phase }, { on := 13, ground := Go.Ground.phase }, { on := 14, ground := Go.Ground.phase }, { on := 15, ground := Go.Ground.phase }], guard := none }) (v := ?v9) rfl (by kernel_rfl) (by kernel_rfl) (by kernel_rfl) (fun _ _ _ h => h) (Or.inl ⟨by rfl, ?h9⟩) hHeld ?r9
      case h9 => (intro w hSw; (try dsimp only at hSw); go_simp; try with_reducible rfl)
      try simp only [Act.put, List.setIfInBounds_toArray, List.set_cons_zero, List.set_cons_succ]
      refine wpAnyH_done (by kernel_rfl) ?_ _
      go_wp2_with fail
      refine bodyPost_ret (v := .tuple #[.agg #[.int .i64 n, .slice p q c], .bool false]) (by simp [results, Try.results21, go_sem, o0, o1]) rfl ?_
      exact HF.out
  | some b =>
    obtain ⟨p, q, c, rfl, hrs, hsp⟩ := hyes b hrd
    · skip
      obtain ⟨n, hn⟩ : ∃ n, numAt L 0 = n := ⟨_, rfl⟩
      rw [hn]
      have hbo : Box (w4.alloc (.cells #[.int .i64 n, .slice p q c] 48)) w4.heap.size 48 [.int .i64 n, .slice p q c] := Box.new w4 48 [.int .i64 n, .slice p q c]
      have hb4 := bel_alloc w4 (.cells #[.int .i64 n, .slice p q c] 48)
      have hbr := hrs.box.still hb4
      have hres : Box (w4.alloc (.cells #[.int .i64 n, .slice p q c] 48)) (w.heap.size + 1) 48 [.int .i64 0, .slice none 0 0] := (HRES.out.keep (hk.block _ (by omega) (by omega))).still hb4
      have bx3 := (hres.set 0 (.int .i64 n)).set 1 (.slice p q c)
      have t0 : (w4.alloc (.cells #[.int .i64 n, .slice p q c] 48)).cell? ⟨w4.heap.size, 0, none⟩ = some (.int .i64 n) := hbo.cell 0 (by simp)
      have t1 : (w4.alloc (.cells #[.int .i64 n, .slice p q c] 48)).cell? ⟨w4.heap.size, 1, none⟩ = some (.slice p q c) := hbo.cell 1 (by simp)
      have t5 := hbr.cell 5 (by simp)
      have t6 := hbr.cell 6 (by simp)
      have g0 : (w4.alloc (.cells #[.int .i64 n, .slice p q c] 48)).cell? ⟨w.heap.size + 1, 0, none⟩ = some (.int .i64 0) := hres.cell 0 (by simp)
      have g1 : (w4.alloc (.cells #[.int .i64 n, .slice p q c] 48)).cell? ⟨w.heap.size + 1, 1, none⟩ = some (.slice none 0 0) := hres.cell 1 (by simp)
      have g2 := hres.frozen 0
      have g3 := hres.frozen 1
      have o0 := bx3.cell 0 (by simp)
      have o1 := bx3.cell 1 (by simp)
      simp only [List.set_cons_zero, List.set_cons_succ, List.getD_cons_zero, List.getD_cons_succ] at o0 o1 t5 t6
      have hbo2 := (hbo.past (q := w.heap.size + 1) (o := 0) (u := .int .i64 n) (by omega)).past (q := w.heap.size + 1) (o := 1) (u := .slice p q c) (by omega)
      have hbr2 := (hbr.past (q := w.heap.size + 1) (o := 0) (u := .int .i64 n) (by omega)).past (q := w.heap.size + 1) (o := 1) (u := .slice p q c) (by omega)
      have hS0 := (⟨t0, t1, t6, t5⟩ : _ ∧ _ ∧ _ ∧ _)
      have hS1 : (((w4.alloc (.cells #[.int .i64 n, .slice p q c] 48)).setCell ⟨w.heap.size + 1, 0, none⟩ (.int .i64 n)).setCell ⟨w.heap.size + 1, 1, none⟩ (.slice p q c)).cell? ⟨w4.heap.size, 0, none⟩ = some (.int .i64 n) ∧ (((w4.alloc (.cells #[.int .i64 n, .slice p q c] 48)).setCell ⟨w.heap.size + 1, 0, none⟩ (.int .i64 n)).setCell ⟨w.heap.size + 1, 1, none⟩ (.slice p q c)).cell? ⟨w4.heap.size, 1, none⟩ = some (.slice p q c) ∧ (((w4.alloc (.cells #[.int .i64 n, .slice p q c] 48)).setCell ⟨w.heap.size + 1, 0, none⟩ (.int .i64 n)).setCell ⟨w.heap.size + 1, 1, none⟩ (.slice p q c)).cell? ⟨w.heap.size + 2, 6, none⟩ = some (.bool false) ∧ (((w4.alloc (.cells #[.int .i64 n, .slice p q c] 48)).setCell ⟨w.heap.size + 1, 0, none⟩ (.int .i64 n)).setCell ⟨w.heap.size + 1, 1, none⟩ (.slice p q c)).cell? ⟨w.heap.size + 2, 5, none⟩ = some (.int .i64 b) := ⟨hbo2.cell 0 (by simp), hbo2.cell 1 (by simp), hbr2.cell 6 (by simp), hbr2.cell 5 (by simp)⟩
      have HF : Hid (SrA d L non w (.returned (.tuple #[.agg #[.int .i64 n, .slice p q c], .bool (decide (b = L.length))])) (((w4.alloc (.cells #[.int .i64 n, .slice p q c] 48)).setCell ⟨w.heap.size + 1, 0, none⟩ (.int .i64 n)).setCell ⟨w.heap.size + 1, 1, none⟩ (.slice p q c)).drew) := by
        refine ⟨(((hbel.trans (hb4.mono (by omega))).setCell (by show w.heap.size ≤ w.heap.size + 1; omega) _).setCell (by show w.heap.size ≤ w.heap.size + 1; omega) _).drew, fun h => ?_, fun h => ?_⟩
        · rw [hrd] at h
          simp only [Option.some.injEq] at h
          refine ⟨p, q, c, by rw [hn, decide_eq_true h], SP.mono (fun t ht => by omega) _ _ _ (SP.keep (fun t ht hlt => ?_) _ _ _ hsp)⟩
          show (((w4.alloc (.cells #[.int .i64 n, .slice p q c] 48)).setCell ⟨w.heap.size + 1, 0, none⟩ (.int .i64 n)).setCell ⟨w.heap.size + 1, 1, none⟩ (.slice p q c)).heap[t]? = _
          rw [Below.heap_setCell _ _ _ _ (by show t ≠ w.heap.size + 1; omega), Below.heap_setCell _ _ _ _ (by show t ≠ w.heap.size + 1; omega), Below.heap_alloc _ _ _ hlt]
        · exact ⟨n, p, q, c, by rw [decide_eq_false (fun e => h (by rw [hrd, e]))]⟩
      have iB : ((b : Int) == (L.length : Int)) = decide (b = L.length) := by rw [Bool.eq_iff_iff]; simp; omega
      clear hno hyes hk hrs hbo hb4 hbr hres bx3 HRES hbel hrd hz2 hz3 hbo2 hbr2 hsp hn
      go_upto_region 3 with fail
      refine wp_region_held_drew (S := (fun w' => w'.cell? ⟨w4.heap.size, 0, none⟩ = some (.int .i64 n) ∧ w'.cell? ⟨w4.heap.size, 1, none⟩ = some (.slice p q c) ∧ w'.cell? ⟨w.heap.size + 2, 6, none⟩ = some (.bool false) ∧ w'.cell? ⟨w.heap.size + 2, 5, none⟩ = some (.int .i64 b))) (by kernel_rfl) hS0 (fun hHeld => ?_)
      refine wpAnyH_take (i := 0) (oi := { dst := some 17, op := Go.Op.load 48 (Go.Operand.tmp 9), type := 48, pos := "l06_parsing.go:153", after := #[], guard := none }) (v := ?v10) rfl (by kernel_rfl) (by kernel_rfl) (by kernel_rfl) (fun _ _ _ h => h) (Or.inl ⟨by rfl, ?h10⟩) hHeld ?r10
      case h10 => (intro w hSw; (try dsimp only at hSw); go_simp; try with_reducible rfl)
      try simp only [Act.put, List.setIfInBounds_toArray, List.set_cons_zero, List.set_cons_succ]
      refine wpAnyH_take (i := 1) (oi := { dst := some 18, op := Go.Op.move (Go.Operand.tmp 8), type := 75, pos := "l06_parsing.go:153", after := #[], guard := none }) (v := ?v11) rfl (by kernel_rfl) (by kernel_rfl) (by kernel_rfl) (fun _ _ _ h => h) (Or.inl ⟨by rfl, ?h11⟩) hHeld ?r11
      case h11 => (intro w hSw; (try dsimp only at hSw); go_simp; try with_reducible rfl)
      try simp only [Act.put, List.setIfInBounds_toArray, List.set_cons_zero, List.set_cons_succ]
      refine wpAnyH_take (i := 2) (oi := { dst := some 19, op := Go.Op.nilCheck (Go.Operand.tmp 18), type := 0, pos := "l06_parsing.go:153", after := #[{ on := 1, ground := Go.Ground.data }], guard := none }) (v := ?v12) rfl (by kernel_rfl) (by kernel_rfl) (by kernel_rfl) (fun _ _ _ h => h) (Or.inl ⟨by rfl, ?h12⟩) hHeld ?r12
      case h12 => (intro w hSw; (try dsimp only at hSw); go_simp; try with_reducible rfl)
      try simp only [Act.put, List.setIfInBounds_toArray, List.set_cons_zero, List.set_cons_succ]
      refine wpAnyH_take (i := 3) (oi := { dst := some 20, op := Go.Op.fieldAddr 77 (Go.Operand.tmp 19) 3, type := 0, pos := "l06_parsing.go:153", after := #[{ on := 2, ground := Go.Ground.data }], guard := none }) (v := ?v13) rfl (by kernel_rfl) (by kernel_rfl) (by kernel_rfl) (fun _ _ _ h => h) (Or.inl ⟨by rfl, ?h13⟩) hHeld ?r13
      case h13 => (intro w hSw; (try dsimp only at hSw); go_simp; try with_reducible rfl)
      try simp only [Act.put, List.setIfInBounds_toArray, List.set_cons_zero, List.set_cons_succ]
      refine wpAnyH_take (i := 4) (oi := { dst := some 21, op := Go.Op.load 4 (Go.Operand.tmp 20), type := 4, pos := "l06_parsing.go:153", after := #[{ on := 3, ground := Go.Ground.data }], guard := none }) (v := ?v14) rfl (by kernel_rfl) (by kernel_rfl) (by kernel_rfl) (fun _ _ _ h => h) (Or.inl ⟨by rfl, ?h14⟩) hHeld ?r14
      case h14 => (intro w hSw; (try dsimp only at hSw); go_simp; try with_reducible rfl)
      try simp only [Act.put, List.setIfInBounds_toArray, List.set_cons_zero, List.set_cons_succ]
      refine wpAnyH_take (i := 5) (oi := { dst := some 22, op := Go.Op.unOp Go.UnOp.not 4 (Go.Operand.tmp 21), type := 4, pos := "l06_parsing.go:153", after := #[{ on := 4, ground := Go.Ground.data }], guard := none }) (v := ?v15) rfl (by kernel_rfl) (by kernel_rfl) (by kernel_rfl) (fun _ _ _ h => h) (Or.inl ⟨by rfl, ?h15⟩) hHeld ?r15
      case h15 => (intro w hSw; (try dsimp only at hSw); go_simp; try with_reducible rfl)
      try simp only [Act.put, List.setIfInBounds_toArray, List.set_cons_zero, List.set_cons_succ]
      refine wpAnyH_take (i := 6) (oi := { dst := some 23, op := Go.Op.move (Go.Operand.tmp 22), type := 4, pos := "l06_parsing.go:153", after := #[{ on := 5, ground := Go.Ground.data }], guard := none }) (v := ?v16) rfl (by kernel_rfl) (by kernel_rfl) (by kernel_rfl) (fun _ _ _ h => h) (Or.inl ⟨by rfl, ?h16⟩) hHeld ?r16
      case h16 => (intro w hSw; (try dsimp only at hSw); go_simp; try with_reducible rfl)
      try simp only [Act.put, List.setIfInBounds_toArray, List.set_cons_zero, List.set_cons_succ]
      refine wpAnyH_take (i := 7) (oi := { dst := some 24, op := Go.Op.move (Go.Operand.tmp 8), type := 75, pos := "l06_parsing.go:153", after := #[{ on := 6, ground := Go.Ground.guard }, { on := 15, ground := Go.Ground.gcOnly Go.Departure.lateStores }], guard := some (6, true) }) (v := ?v17) rfl (by kernel_rfl) (by kernel_rfl) (by kernel_rfl) (fun _ _ _ h => h) (Or.inl ⟨by rfl, ?h17⟩) hHeld ?r17
      case h17 => (intro w hSw; (try dsimp only at hSw); go_simp; try with_reducible rfl)
      try simp only [Act.put, List.setIfInBounds_toArray, List.set_cons_zero, List.set_cons_succ]
      refine wpAnyH_take (i := 8) (oi := { dst := some 25, op := Go.Op.nilCheck (Go.Operand.tmp 24), type := 0, pos := "l06_parsing.go:153", after := #[{ on := 7, ground := Go.Ground.data }, { on := 6, ground := Go.Ground.guard }, { on := 15, ground := Go.Ground.gcOnly Go.Departure.lateStores }], guard := some (6, true) }) (v := ?v18) rfl (by kernel_rfl) (by kernel_rfl) (by kernel_rfl) (fun _ _ _ h => h) (Or.inl ⟨by rfl, ?h18⟩) hHeld ?r18
      case h18 => (intro w hSw; (try dsimp only at hSw); go_simp; try with_reducible rfl)
      try simp only [Act.put, List.setIfInBounds_toArray, List.set_cons_zero, List.set_cons_succ]
      refine wpAnyH_take (i := 9) (oi := { dst := some 26, op := Go.Op.fieldAddr 77 (Go.Operand.tmp 25) 2, type := 0, pos := "l06_parsing.go:153", after := #[{ on := 8, ground := Go.Ground.data }, { on := 6, ground := Go.Ground.guard }, { on := 15, ground := Go.Ground.gcOnly Go.Departure.lateStores }], guard := some (6, true) }) (v := ?v19) rfl (by kernel_rfl) (by kernel_rfl) (by kernel_rfl) (fun _ _ _ h => h) (Or.inl ⟨by rfl, ?h19⟩) hHeld ?r19
      case h19 => (intro w hSw; (try dsimp only at hSw); go_simp; try with_reducible rfl)
      try simp only [Act.put, List.setIfInBounds_toArray, List.set_cons_zero, List.set_cons_succ]
      refine wpAnyH_take (i := 10) (oi := { dst := some 27, op := Go.Op.load 3 (Go.Operand.tmp 26), type := 3, pos := "l06_parsing.go:153", after := #[{ on := 9, ground := Go.Ground.data }, { on := 6, ground := Go.Ground.guard }, { on := 15, ground := Go.Ground.gcOnly Go.Departure.lateStores }], guard := some (6, true) }) (v := ?v20) rfl (by kernel_rfl) (by kernel_rfl) (by kernel_rfl) (fun _ _ _ h => h) (Or.inl ⟨by rfl, ?h20⟩) hHeld ?r20
      case h20 => (intro w hSw; (try dsimp only at hSw); go_simp; try with_reducible rfl)
      try simp only [Act.put, List.setIfInBounds_toArray, List.set_cons_zero, List.set_cons_succ]
      refine wpAnyH_take (i := 11) (oi := { dst := some 28, op := Go.Op.move (Go.Operand.tmp 2), type := 27, pos := "l06_parsing.go:153", after := #[{ on := 6, ground := Go.Ground.guard }], guard := some (6, true) }) (v := ?v21) rfl (by kernel_rfl) (by kernel_rfl) (by kernel_rfl) (fun _ _ _ h => h) (Or.inl ⟨by rfl, ?h21⟩) hHeld ?r21
      case h21 => (intro w hSw; (try dsimp only at hSw); go_simp; try with_reducible rfl)
      try simp only [Act.put, List.setIfInBounds_toArray, List.set_cons_zero, List.set_cons_succ]
      refine wpAnyH_take (i := 12) (oi := { dst := some 29, op := Go.Op.call { callee := Go.Callee.builtin Go.Builtin.len, args := #[Go.Operand.tmp 28], argTypes := #[27] }, type := 3, pos := "l06_parsing.go:153", after := #[{ on := 11, ground := Go.Ground.data }, { on := 6, ground := Go.Ground.guard }], guard := some (6, true) }) (v := ?v22) rfl (by kernel_rfl) (by kernel_rfl) (by kernel_rfl) (fun _ _ _ h => h) (Or.inl ⟨by rfl, ?h22⟩) hHeld ?r22
      case h22 => (intro w hSw; (try dsimp only at hSw); go_simp; try with_reducible rfl)
      try simp only [Act.put, List.setIfInBounds_toArray, List.set_cons_zero, List.set_cons_succ]
      refine wpAnyH_take (i := 13) (oi := { dst := some 30, op := Go.Op.binOp Go.BinOp.eql 3 (Go.Operand.tmp 27) (Go.Operand.tmp 29) 3, type := 4, pos := "l06_parsing.go:153", after := #[{ on := 10, ground := Go.Ground.data }, { on := 12, ground := Go.Ground.data }, { on := 6, ground := Go.Ground.guard }, { on := 15, ground := Go.Ground.gcOnly Go.Departure.lateStores }], guard := some (6, true) }) (v := ?v23) rfl (by kernel_rfl) (by kernel_rfl) (by kernel_rfl) (fun _ _ _ h => h) (Or.inl ⟨by rfl, ?h23⟩) hHeld ?r23
      case h23 => (intro w hSw; (try dsimp only at hSw); go_simp; try with_reducible rfl)
      try simp only [Act.put, List.setIfInBounds_toArray, List.set_cons_zero, List.set_cons_succ]
      refine wpAnyH_take (i := 14) (oi := { dst := some 31, op := Go.Op.pick (Go.Operand.tmp 23) (Go.Operand.tmp 30) (Go.Operand.const (Go.Value.bool false)), type := 4, pos := "l06_parsing.go:153", after := #[{ on := 6, ground := Go.Ground.data }, { on := 13, ground := Go.Ground.data }, { on := 15, ground := Go.Ground.gcOnly Go.Departure.lateStores }], guard := none }) (v := ?v24) rfl (by kernel_rfl) (by kernel_rfl) (by kernel_rfl) (fun _ _ _ h => h) (Or.inl ⟨by rfl, ?h24⟩) hHeld ?r24
      case h24 => (intro w hSw; (try dsimp only at hSw); go_simp; try with_reducible rfl)
      try simp only [Act.put, List.setIfInBounds_toArray, List.set_cons_zero, List.set_cons_succ]
      refine wpAnyH_ready (rs := [15]) (by kernel_rfl) (by simp) ?_
      refine AllReadyH.cons (o := { dst := none, op := Go.Op.store 48 (Go.Operand.tmp 6) (Go.Operand.tmp 17), type := 0, pos := "l06_parsing.go:153", after := #[{ on := 0, ground := Go.Ground.data }, { on := 6, ground := Go.Ground.chain }, { on := 0, ground := Go.Ground.phase }, { on := 1, ground := Go.Ground.textOnly Go.Departure.lateStores }, { on := 2, ground := Go.Ground.textOnly Go.Departure.lateStores }, { on := 3, ground := Go.Ground.textOnly Go.Departure.lateStores }, { on := 4, ground := Go.Ground.textOnly Go.Departure.lateStores }, { on := 5, ground := Go.Ground.textOnly Go.Departure.lateStores }, { on := 6, ground := Go.Ground.textOnly Go.Departure.lateStores }, { on := 7, ground := Go.Ground.textOnly Go.Departure.lateStores }, { on := 8, ground := Go.Ground.textOnly Go.Departure.lateStores }, { on := 9, ground := Go.Ground.textOnly Go.Departure.lateStores }, { on := 10, ground := Go.Ground.textOnly Go.Departure.lateStores }, { on := 11, ground := Go.Ground.textOnly Go.Departure.lateStores }, { on := 12, ground := Go.Ground.textOnly Go.Departure.lateStoresUnsure }, { on := 13, ground := Go.Ground.textOnly Go.Departure.lateStores }, { on := 14, ground := Go.Ground.textOnly Go.Departure.lateStores }], guard := none }) rfl (fun K hK => ?_) AllReadyH.nil
      go_simp
      clear hHeld
      refine hK.out _ _ hS1 (fun hHeld => ?_)
      clear hK K
      try simp only [Act.put, List.setIfInBounds_toArray, List.set_cons_zero, List.set_cons_succ]
      refine wpAnyH_take (i := 16) (oi := { dst := some 7, op := Go.Op.assign (Go.Operand.tmp 31), type := 4, pos := "l06_parsing.go:153", after := #[{ on := 14, ground := Go.Ground.data }, { on := 15, ground := Go.Ground.chain }, { on := 0, ground := Go.Ground.phase }, { on := 1, ground := Go.Ground.phase }, { on := 2, ground := Go.Ground.phase }, { on := 3, ground := Go.Ground.phase }, { on := 4, ground := Go.Ground.phase }, { on := 5, ground := Go.Ground.phase }, { on := 6, ground := Go.Ground.phase }, { on := 7, ground := Go.Ground.phase }, { on := 8, ground := Go.Ground.phase }, { on := 9, ground := Go.Ground.phase }, { on := 10, ground := Go.Ground.phase }, { on := 11, ground := Go.Ground.phase }, { on := 12, ground := Go.Ground.phase }, { on := 13, ground := Go.Ground.phase }, { on := 14, ground := Go.Ground.phase }, { on := 15, ground := Go.Ground.phase }], guard := none }) (v := ?v25) rfl (by kernel_rfl) (by kernel_rfl) (by kernel_rfl) (fun _ _ _ h => h) (Or.inl ⟨by rfl, ?h25⟩) hHeld ?r25
      case h25 => (intro w hSw; (try dsimp only at hSw); go_simp; try with_reducible rfl)
      try simp only [Act.put, List.setIfInBounds_toArray, List.set_cons_zero, List.set_cons_succ]
      refine wpAnyH_done (by kernel_rfl) ?_ _
      go_wp2_with fail
      refine bodyPost_ret (v := .tuple #[.agg #[.int .i64 n, .slice p q c], .bool (decide (b = L.length))]) (by simp [results, Try.results21, go_sem, o0, o1]) rfl ?_
      exact HF.out
end Go.Proofs.Ytaimlmjgicmbeaa
