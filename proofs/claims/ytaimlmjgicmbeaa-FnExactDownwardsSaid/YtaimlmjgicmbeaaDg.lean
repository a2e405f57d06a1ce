import Derived.Test.YtaimlmjgicmbeaaDg1
import Derived.Maps.AppendAt
import Derived.BigQuiet
import Derived.WalkLawsBesides
import Derived.BigRegion
import Derived.Deep.CutRange
import Derived.Deep.RegionHeld3
/-! The program: a derivation is read. -/
namespace Go.Proofs.Ytaimlmjgicmbeaa
open Go.RowKit Go.Deep
set_option linter.unusedVariables false
set_option maxRecDepth 100000
set_option linter.unusedSimpArgs false

theorem info71p : (Try.prog.info? 55).map (fun i => (i.zero, i.size, i.bytes)) = some (some (.pointer none), 1, 8) := by kernel_rfl
/-- The cells of a Prod in memory, and where they lie. -/
theorem prod_cellsS {w : World} {S : Nat → Prop} {d : Bn} {v0 v1 v3 : Value} (h : BLies w S d v0 v1 v3) : ∃ (a3 : Option Addr) (c3 bp op : Nat), v3 = .slice a3 d.prods.length c3 ∧ d.prods.length ≤ c3 ∧ ∀ k (hk : k < d.prods.length), a3 = some ⟨bp, op, none⟩ ∧ S bp ∧ ∃ (ai : Option Addr) (ci bi oi : Nat), w.cell? ⟨bp, op + k * 5, none⟩ = some (.int .i64 d.prods[k].left) ∧ w.cell? ⟨bp, op + k * 5 + 1, none⟩ = some (.slice ai d.prods[k].right.length ci) ∧ d.prods[k].right.length ≤ ci ∧ ∀ i (hi : i < d.prods[k].right.length), ai = some ⟨bi, oi, none⟩ ∧ S bi ∧ w.cell? ⟨bi, oi + i, none⟩ = some (.int .i64 d.prods[k].right[i]) := by
  obtain ⟨a3, c3, bp, op, sv, e3, hcp, hmp, hap, hcellp, hrp⟩ := h.prods
  refine ⟨a3, c3, bp, op, e3, hcp, fun k hk => ⟨(hap (by omega)).1, (hap (by omega)).2, ?_⟩⟩
  obtain ⟨q0, q1, q2, q3, q4, _⟩ := hcellp k hk
  obtain ⟨ai, ci, bi, oi, ei, hci, hmi, hai, hcelli⟩ := hrp k hk
  rw [ei] at q1
  exact ⟨ai, ci, bi, oi, q0, q1, hci, fun i hi => ⟨(hai (by omega)).1, (hai (by omega)).2, hcelli i hi⟩⟩
theorem rd_yes {d : Bn} {L : List Int} {f : Nat} {s : Int} {a : Nat} (h : okAt d L s a = true) : rd d L (f + 1) s a = atP d L f a (pa d L a).right.length := by
  simp only [rd]
  rw [if_pos h]
  unfold atP
  rw [List.take_length]
theorem rd_no {d : Bn} {L : List Int} {f : Nat} {s : Int} {a : Nat} (h : okAt d L s a = false) : rd d L (f + 1) s a = none := by
  simp only [rd]
  rw [if_neg (by rw [h]; simp)]
/-- The cells that the reader's test reads. -/
def S3 (R bn on bp oq : Nat) (vp vn : Value) (z l : Int) (w' : World) : Prop := w'.cell? ⟨R, 3, none⟩ = some vp ∧ w'.cell? ⟨R, 4, none⟩ = some vn ∧ w'.cell? ⟨bn, on, none⟩ = some (.int .i64 z) ∧ w'.cell? ⟨bp, oq, none⟩ = some (.int .i64 l)
/-- A terminal. -/
theorem read_t {d : Bn} {L : List Int} {S : Nat → Prop} {R : Nat} {v0 v1 v3 : Value} (s : Int) (a : Nat) (w : World) (h : RdI d L S R v0 v1 v3 w a) (hs : s < (d.terms.length : Int)) :
    Calls Try.prog 50 #[.pointer (some ⟨R, 0, none⟩), .int .i64 s] w fun e w' => e = .returned (.pointer none) ∧ w' = w := by
  obtain ⟨⟨vn, hbx, _⟩, hl, _⟩ := h
  obtain ⟨a0, c0, a1, c1, a3, c3, rfl, rfl, rfl⟩ := hl.form
  have x0 : w.cell? ⟨R, 0, none⟩ = some (.slice a0 d.terms.length c0) := hbx.cell 0 (by simp)
  clear hbx hl
  go_enter Try.func50, Try.ntmps50
  go_wp2_with fail
  go_ret
  exact ⟨rfl, rfl⟩
set_option maxHeartbeats 25600000 in
theorem read_n {d : Bn} {L : List Int} {S : Nat → Prop} {R : Nat} {v0 v1 v3 : Value} (hok : bnB d = true) : ∀ (f : Nat) (s : Int) (a : Nat) (w : World), RdI d L S R v0 v1 v3 w a → L.length - a < f → 0 ≤ s → s ≤ 160 → ¬ s < (d.terms.length : Int) →
    Calls Try.prog 50 #[.pointer (some ⟨R, 0, none⟩), .int .i64 s] w fun e w' => RdA d L S R v0 v1 v3 f s a w e w' := by
  intro f
  induction f with
  | zero => intro s a w h hf; omega
  | succ f ih =>
  intro s a w h hf hs0 hs1 hn
  have IH := (show Hid _ from ih)
  clear ih
  have HRI := (show Hid _ from h)
  obtain ⟨⟨vn, hbx, hnum⟩, hl, hns⟩ := h
  have HNS := (show Hid _ from hns)
  clear hns
  obtain ⟨hT, jk1, jk2, jk3, jk4, hPn⟩ := szB_of hok
  obtain ⟨a0, c0, a1, c1, a3', c3', rfl, rfl, jk0⟩ := hl.form
  clear jk0 a3' c3'
  obtain ⟨a3, c3, bp, op, rfl, hcp, hpr⟩ := prod_cellsS hl
  have HNU := (show Hid _ from hnum)
  obtain ⟨an, c, bn, on, rfl, hc, hm, hcell⟩ := hnum
  have HCE := (show Hid _ from hcell)
  have HPR := (show Hid _ from hpr)
  have HBX := (show Hid _ from hbx)
  have x0 : w.cell? ⟨R, 0, none⟩ = some (.slice a0 d.terms.length c0) := hbx.cell 0 (by simp)
  have x3 : w.cell? ⟨R, 3, none⟩ = some (.slice a3 d.prods.length c3) := hbx.cell 3 (by simp)
  have x4 : w.cell? ⟨R, 4, none⟩ = some (.slice an (L.length - a) c) := hbx.cell 4 (by simp)
  have HLI := (show Hid _ from hl)
  clear hcell hpr hbx hl jk1 jk2 jk3 jk4
  unfold maxLen at hm
  obtain ⟨N, eN⟩ : ∃ N, L.length - a = N := ⟨_, rfl⟩
  by_cases hN : N = 0
  · have hR : rd d L (f + 1) s a = none := rd_no (by unfold okAt; rw [decide_eq_false (by omega)]; rfl)
    have HA : Hid (∀ w', Kp w.heap.size R w w' → RdA d L S R (.slice a0 d.terms.length c0) (.slice a1 d.nons.length c1) (.slice a3 d.prods.length c3) (f + 1) s a w (.panicked [flt]) w') := fun w' hk => ⟨hk, fun _ => rfl, fun b hb => by rw [hR] at hb; cases hb⟩
    rw [eN, hN] at x4
    clear hR HRI HNU HCE HPR HBX HLI IH HNS eN hN
    go_enter Try.func50, Try.ntmps50
    go_wp2_with fail
    refine wp_region_held_drew (S := (fun w' => w'.cell? ⟨R, 4, none⟩ = some (.slice an 0 c))) (by kernel_rfl) x4 (fun hHeld => ?_)
    refine wpAnyH_take (i := 0) (oi := { dst := some 17, op := Go.Op.move (Go.Operand.tmp 0), type := 105, pos := "l06_parsing.go:339", after := #[], guard := none }) (v := ?v1) rfl (by kernel_rfl) (by kernel_rfl) (by kernel_rfl) (fun _ _ _ h => h) (Or.inl ⟨by rfl, ?h1⟩) hHeld ?r1
    case h1 => (intro w hSw; (try dsimp only at hSw); go_simp; try with_reducible rfl)
    try simp only [Act.put, List.setIfInBounds_toArray, List.set_cons_zero, List.set_cons_succ]
    refine wpAnyH_take (i := 1) (oi := { dst := some 18, op := Go.Op.nilCheck (Go.Operand.tmp 17), type := 0, pos := "l06_parsing.go:339", after := #[{ on := 0, ground := Go.Ground.data }], guard := none }) (v := ?v2) rfl (by kernel_rfl) (by kernel_rfl) (by kernel_rfl) (fun _ _ _ h => h) (Or.inl ⟨by rfl, ?h2⟩) hHeld ?r2
    case h2 => (intro w hSw; (try dsimp only at hSw); go_simp; try with_reducible rfl)
    try simp only [Act.put, List.setIfInBounds_toArray, List.set_cons_zero, List.set_cons_succ]
    refine wpAnyH_take (i := 2) (oi := { dst := some 19, op := Go.Op.fieldAddr 87 (Go.Operand.tmp 18) 1, type := 0, pos := "l06_parsing.go:339", after := #[{ on := 1, ground := Go.Ground.data }], guard := none }) (v := ?v3) rfl (by kernel_rfl) (by kernel_rfl) (by kernel_rfl) (fun _ _ _ h => h) (Or.inl ⟨by rfl, ?h3⟩) hHeld ?r3
    case h3 => (intro w hSw; (try dsimp only at hSw); go_simp; try with_reducible rfl)
    try simp only [Act.put, List.setIfInBounds_toArray, List.set_cons_zero, List.set_cons_succ]
    refine wpAnyH_take (i := 3) (oi := { dst := some 20, op := Go.Op.load 27 (Go.Operand.tmp 19), type := 27, pos := "l06_parsing.go:339", after := #[{ on := 2, ground := Go.Ground.data }], guard := none }) (v := ?v4) rfl (by kernel_rfl) (by kernel_rfl) (by kernel_rfl) (fun _ _ _ h => h) (Or.inl ⟨by rfl, ?h4⟩) hHeld ?r4
    case h4 => (intro w hSw; (try dsimp only at hSw); go_simp; try with_reducible rfl)
    try simp only [Act.put, List.setIfInBounds_toArray, List.set_cons_zero, List.set_cons_succ]
    refine wpAnyH_take (i := 4) (oi := { dst := some 21, op := Go.Op.call { callee := Go.Callee.builtin Go.Builtin.len, args := #[Go.Operand.tmp 20], argTypes := #[27] }, type := 3, pos := "l06_parsing.go:339", after := #[{ on := 3, ground := Go.Ground.data }], guard := none }) (v := ?v5) rfl (by kernel_rfl) (by kernel_rfl) (by kernel_rfl) (fun _ _ _ h => h) (Or.inl ⟨by rfl, ?h5⟩) hHeld ?r5
    case h5 => (intro w hSw; (try dsimp only at hSw); go_simp; try with_reducible rfl)
    try simp only [Act.put, List.setIfInBounds_toArray, List.set_cons_zero, List.set_cons_succ]
    refine wpAnyH_take (i := 5) (oi := { dst := some 22, op := Go.Op.binOp Go.BinOp.eql 3 (Go.Operand.tmp 21) (Go.Operand.const (Go.Value.int Go.IntKind.i64 0)) 3, type := 4, pos := "l06_parsing.go:339", after := #[{ on := 4, ground := Go.Ground.data }], guard := none }) (v := ?v6) rfl (by kernel_rfl) (by kernel_rfl) (by kernel_rfl) (fun _ _ _ h => h) (Or.inl ⟨by rfl, ?h6⟩) hHeld ?r6
    case h6 => (intro w hSw; (try dsimp only at hSw); go_simp; try with_reducible rfl)
    try simp only [Act.put, List.setIfInBounds_toArray, List.set_cons_zero, List.set_cons_succ]
    refine wpAnyH_take (i := 6) (oi := { dst := some 23, op := Go.Op.move (Go.Operand.tmp 22), type := 4, pos := "l06_parsing.go:339", after := #[{ on := 5, ground := Go.Ground.data }], guard := none }) (v := ?v7) rfl (by kernel_rfl) (by kernel_rfl) (by kernel_rfl) (fun _ _ _ h => h) (Or.inl ⟨by rfl, ?h7⟩) hHeld ?r7
    case h7 => (intro w hSw; (try dsimp only at hSw); go_simp; try with_reducible rfl)
    try simp only [Act.put, List.setIfInBounds_toArray, List.set_cons_zero, List.set_cons_succ]
    refine wpAnyH_take (i := 7) (oi := { dst := some 24, op := Go.Op.move (Go.Operand.tmp 0), type := 105, pos := "l06_parsing.go:339", after := #[{ on := 6, ground := Go.Ground.guard }], guard := some (6, false) }) (v := undef) rfl (by kernel_rfl) (by kernel_rfl) (by kernel_rfl) (fun _ _ _ h => h) (Or.inr ⟨by rfl, rfl⟩) hHeld ?_
    try simp only [Act.put, List.setIfInBounds_toArray, List.set_cons_zero, List.set_cons_succ]
    refine wpAnyH_take (i := 8) (oi := { dst := some 25, op := Go.Op.nilCheck (Go.Operand.tmp 24), type := 0, pos := "l06_parsing.go:339", after := #[{ on := 7, ground := Go.Ground.data }, { on := 6, ground := Go.Ground.guard }], guard := some (6, false) }) (v := undef) rfl (by kernel_rfl) (by kernel_rfl) (by kernel_rfl) (fun _ _ _ h => h) (Or.inr ⟨by rfl, rfl⟩) hHeld ?_
    try simp only [Act.put, List.setIfInBounds_toArray, List.set_cons_zero, List.set_cons_succ]
    refine wpAnyH_take (i := 9) (oi := { dst := some 26, op := Go.Op.fieldAddr 87 (Go.Operand.tmp 25) 1, type := 0, pos := "l06_parsing.go:339", after := #[{ on := 8, ground := Go.Ground.data }, { on := 6, ground := Go.Ground.guard }], guard := some (6, false) }) (v := undef) rfl (by kernel_rfl) (by kernel_rfl) (by kernel_rfl) (fun _ _ _ h => h) (Or.inr ⟨by rfl, rfl⟩) hHeld ?_
    try simp only [Act.put, List.setIfInBounds_toArray, List.set_cons_zero, List.set_cons_succ]
    refine wpAnyH_take (i := 10) (oi := { dst := some 27, op := Go.Op.load 27 (Go.Operand.tmp 26), type := 27, pos := "l06_parsing.go:339", after := #[{ on := 9, ground := Go.Ground.data }, { on := 6, ground := Go.Ground.guard }], guard := some (6, false) }) (v := undef) rfl (by kernel_rfl) (by kernel_rfl) (by kernel_rfl) (fun _ _ _ h => h) (Or.inr ⟨by rfl, rfl⟩) hHeld ?_
    try simp only [Act.put, List.setIfInBounds_toArray, List.set_cons_zero, List.set_cons_succ]
    refine wpAnyH_take (i := 11) (oi := { dst := some 28, op := Go.Op.slice 27 (Go.Operand.tmp 27) none (some (Go.Operand.const (Go.Value.int Go.IntKind.i64 1))) none, type := 27, pos := "l06_parsing.go:339", after := #[{ on := 10, ground := Go.Ground.data }, { on := 6, ground := Go.Ground.guard }], guard := some (6, false) }) (v := undef) rfl (by kernel_rfl) (by kernel_rfl) (by kernel_rfl) (fun _ _ _ h => h) (Or.inr ⟨by rfl, rfl⟩) hHeld ?_
    try simp only [Act.put, List.setIfInBounds_toArray, List.set_cons_zero, List.set_cons_succ]
    refine wpAnyH_take (i := 12) (oi := { dst := some 29, op := Go.Op.move (Go.Operand.tmp 0), type := 105, pos := "l06_parsing.go:339", after := #[{ on := 6, ground := Go.Ground.guard }], guard := some (6, false) }) (v := undef) rfl (by kernel_rfl) (by kernel_rfl) (by kernel_rfl) (fun _ _ _ h => h) (Or.inr ⟨by rfl, rfl⟩) hHeld ?_
    try simp only [Act.put, List.setIfInBounds_toArray, List.set_cons_zero, List.set_cons_succ]
    refine wpAnyH_take (i := 13) (oi := { dst := some 30, op := Go.Op.nilCheck (Go.Operand.tmp 29), type := 0, pos := "l06_parsing.go:339", after := #[{ on := 12, ground := Go.Ground.data }, { on := 6, ground := Go.Ground.guard }], guard := some (6, false) }) (v := undef) rfl (by kernel_rfl) (by kernel_rfl) (by kernel_rfl) (fun _ _ _ h => h) (Or.inr ⟨by rfl, rfl⟩) hHeld ?_
    try simp only [Act.put, List.setIfInBounds_toArray, List.set_cons_zero, List.set_cons_succ]
    refine wpAnyH_take (i := 14) (oi := { dst := some 31, op := Go.Op.fieldAddr 87 (Go.Operand.tmp 30) 0, type := 0, pos := "l06_parsing.go:339", after := #[{ on := 13, ground := Go.Ground.data }, { on := 6, ground := Go.Ground.guard }], guard := some (6, false) }) (v := undef) rfl (by kernel_rfl) (by kernel_rfl) (by kernel_rfl) (fun _ _ _ h => h) (Or.inr ⟨by rfl, rfl⟩) hHeld ?_
    try simp only [Act.put, List.setIfInBounds_toArray, List.set_cons_zero, List.set_cons_succ]
    refine wpAnyH_take (i := 15) (oi := { dst := some 32, op := Go.Op.fieldAddr 34 (Go.Operand.tmp 31) 3, type := 0, pos := "l06_parsing.go:339", after := #[{ on := 14, ground := Go.Ground.data }, { on := 6, ground := Go.Ground.guard }], guard := some (6, false) }) (v := undef) rfl (by kernel_rfl) (by kernel_rfl) (by kernel_rfl) (fun _ _ _ h => h) (Or.inr ⟨by rfl, rfl⟩) hHeld ?_
    try simp only [Act.put, List.setIfInBounds_toArray, List.set_cons_zero, List.set_cons_succ]
    refine wpAnyH_take (i := 16) (oi := { dst := some 33, op := Go.Op.load 32 (Go.Operand.tmp 32), type := 32, pos := "l06_parsing.go:339", after := #[{ on := 15, ground := Go.Ground.data }, { on := 6, ground := Go.Ground.guard }], guard := some (6, false) }) (v := undef) rfl (by kernel_rfl) (by kernel_rfl) (by kernel_rfl) (fun _ _ _ h => h) (Or.inr ⟨by rfl, rfl⟩) hHeld ?_
    try simp only [Act.put, List.setIfInBounds_toArray, List.set_cons_zero, List.set_cons_succ]
    refine wpAnyH_take (i := 17) (oi := { dst := some 34, op := Go.Op.call { callee := Go.Callee.builtin Go.Builtin.len, args := #[Go.Operand.tmp 33], argTypes := #[32] }, type := 3, pos := "l06_parsing.go:339", after := #[{ on := 16, ground := Go.Ground.data }, { on := 6, ground := Go.Ground.guard }], guard := some (6, false) }) (v := undef) rfl (by kernel_rfl) (by kernel_rfl) (by kernel_rfl) (fun _ _ _ h => h) (Or.inr ⟨by rfl, rfl⟩) hHeld ?_
    try simp only [Act.put, List.setIfInBounds_toArray, List.set_cons_zero, List.set_cons_succ]
    refine wpAnyH_take (i := 18) (oi := { dst := some 35, op := Go.Op.binOp Go.BinOp.sub 3 (Go.Operand.tmp 34) (Go.Operand.const (Go.Value.int Go.IntKind.i64 1)) 3, type := 3, pos := "l06_parsing.go:339", after := #[{ on := 17, ground := Go.Ground.data }, { on := 6, ground := Go.Ground.guard }], guard := some (6, false) }) (v := undef) rfl (by kernel_rfl) (by kernel_rfl) (by kernel_rfl) (fun _ _ _ h => h) (Or.inr ⟨by rfl, rfl⟩) hHeld ?_
    try simp only [Act.put, List.setIfInBounds_toArray, List.set_cons_zero, List.set_cons_succ]
    refine wpAnyH_take (i := 19) (oi := { dst := some 36, op := Go.Op.call { callee := Go.Callee.value (Go.Operand.func 65), args := #[Go.Operand.tmp 28, Go.Operand.const (Go.Value.int Go.IntKind.i64 0), Go.Operand.tmp 35], argTypes := #[27, 3, 3] }, type := 4, pos := "l06_parsing.go:339", after := #[{ on := 11, ground := Go.Ground.data }, { on := 18, ground := Go.Ground.data }, { on := 6, ground := Go.Ground.chain }, { on := 6, ground := Go.Ground.guard }], guard := some (6, false) }) (v := undef) rfl (by kernel_rfl) (by kernel_rfl) (by kernel_rfl) (fun _ _ _ h => h) (Or.inr ⟨by rfl, rfl⟩) hHeld ?_
    try simp only [Act.put, List.setIfInBounds_toArray, List.set_cons_zero, List.set_cons_succ]
    refine wpAnyH_take (i := 20) (oi := { dst := some 37, op := Go.Op.unOp Go.UnOp.not 4 (Go.Operand.tmp 36), type := 4, pos := "l06_parsing.go:339", after := #[{ on := 19, ground := Go.Ground.data }, { on := 6, ground := Go.Ground.guard }], guard := some (6, false) }) (v := undef) rfl (by kernel_rfl) (by kernel_rfl) (by kernel_rfl) (fun _ _ _ h => h) (Or.inr ⟨by rfl, rfl⟩) hHeld ?_
    try simp only [Act.put, List.setIfInBounds_toArray, List.set_cons_zero, List.set_cons_succ]
    refine wpAnyH_take (i := 21) (oi := { dst := some 38, op := Go.Op.pick (Go.Operand.tmp 23) (Go.Operand.const (Go.Value.bool true)) (Go.Operand.tmp 37), type := 4, pos := "l06_parsing.go:339", after := #[{ on := 6, ground := Go.Ground.data }, { on := 20, ground := Go.Ground.data }], guard := none }) (v := ?v8) rfl (by kernel_rfl) (by kernel_rfl) (by kernel_rfl) (fun _ _ _ h => h) (Or.inl ⟨by rfl, ?h8⟩) hHeld ?r8
    case h8 => (intro w hSw; (try dsimp only at hSw); go_simp; try with_reducible rfl)
    try simp only [Act.put, List.setIfInBounds_toArray, List.set_cons_zero, List.set_cons_succ]
    refine wpAnyH_take (i := 22) (oi := { dst := some 39, op := Go.Op.move (Go.Operand.tmp 38), type := 4, pos := "l06_parsing.go:339", after := #[{ on := 21, ground := Go.Ground.data }, { on := 19, ground := Go.Ground.chain }], guard := none }) (v := ?v9) rfl (by kernel_rfl) (by kernel_rfl) (by kernel_rfl) (fun _ _ _ h => h) (Or.inl ⟨by rfl, ?h9⟩) hHeld ?r9
    case h9 => (intro w hSw; (try dsimp only at hSw); go_simp; try with_reducible rfl)
    try simp only [Act.put, List.setIfInBounds_toArray, List.set_cons_zero, List.set_cons_succ]
    refine wpAnyH_take (i := 23) (oi := { dst := some 40, op := Go.Op.move (Go.Operand.tmp 0), type := 105, pos := "l06_parsing.go:339", after := #[{ on := 22, ground := Go.Ground.guard }], guard := some (22, false) }) (v := undef) rfl (by kernel_rfl) (by kernel_rfl) (by kernel_rfl) (fun _ _ _ h => h) (Or.inr ⟨by rfl, rfl⟩) hHeld ?_
    try simp only [Act.put, List.setIfInBounds_toArray, List.set_cons_zero, List.set_cons_succ]
    refine wpAnyH_take (i := 24) (oi := { dst := some 41, op := Go.Op.nilCheck (Go.Operand.tmp 40), type := 0, pos := "l06_parsing.go:339", after := #[{ on := 23, ground := Go.Ground.data }, { on := 22, ground := Go.Ground.guard }], guard := some (22, false) }) (v := undef) rfl (by kernel_rfl) (by kernel_rfl) (by kernel_rfl) (fun _ _ _ h => h) (Or.inr ⟨by rfl, rfl⟩) hHeld ?_
    try simp only [Act.put, List.setIfInBounds_toArray, List.set_cons_zero, List.set_cons_succ]
    refine wpAnyH_take (i := 25) (oi := { dst := some 42, op := Go.Op.fieldAddr 87 (Go.Operand.tmp 41) 0, type := 0, pos := "l06_parsing.go:339", after := #[{ on := 24, ground := Go.Ground.data }, { on := 22, ground := Go.Ground.guard }], guard := some (22, false) }) (v := undef) rfl (by kernel_rfl) (by kernel_rfl) (by kernel_rfl) (fun _ _ _ h => h) (Or.inr ⟨by rfl, rfl⟩) hHeld ?_
    try simp only [Act.put, List.setIfInBounds_toArray, List.set_cons_zero, List.set_cons_succ]
    refine wpAnyH_take (i := 26) (oi := { dst := some 43, op := Go.Op.fieldAddr 34 (Go.Operand.tmp 42) 3, type := 0, pos := "l06_parsing.go:339", after := #[{ on := 25, ground := Go.Ground.data }, { on := 22, ground := Go.Ground.guard }], guard := some (22, false) }) (v := undef) rfl (by kernel_rfl) (by kernel_rfl) (by kernel_rfl) (fun _ _ _ h => h) (Or.inr ⟨by rfl, rfl⟩) hHeld ?_
    try simp only [Act.put, List.setIfInBounds_toArray, List.set_cons_zero, List.set_cons_succ]
    refine wpAnyH_take (i := 27) (oi := { dst := some 44, op := Go.Op.load 32 (Go.Operand.tmp 43), type := 32, pos := "l06_parsing.go:339", after := #[{ on := 26, ground := Go.Ground.data }, { on := 22, ground := Go.Ground.guard }], guard := some (22, false) }) (v := undef) rfl (by kernel_rfl) (by kernel_rfl) (by kernel_rfl) (fun _ _ _ h => h) (Or.inr ⟨by rfl, rfl⟩) hHeld ?_
    try simp only [Act.put, List.setIfInBounds_toArray, List.set_cons_zero, List.set_cons_succ]
    refine wpAnyH_take (i := 28) (oi := { dst := some 45, op := Go.Op.move (Go.Operand.tmp 0), type := 105, pos := "l06_parsing.go:339", after := #[{ on := 22, ground := Go.Ground.guard }], guard := some (22, false) }) (v := undef) rfl (by kernel_rfl) (by kernel_rfl) (by kernel_rfl) (fun _ _ _ h => h) (Or.inr ⟨by rfl, rfl⟩) hHeld ?_
    try simp only [Act.put, List.setIfInBounds_toArray, List.set_cons_zero, List.set_cons_succ]
    refine wpAnyH_take (i := 29) (oi := { dst := some 46, op := Go.Op.nilCheck (Go.Operand.tmp 45), type := 0, pos := "l06_parsing.go:339", after := #[{ on := 28, ground := Go.Ground.data }, { on := 22, ground := Go.Ground.guard }], guard := some (22, false) }) (v := undef) rfl (by kernel_rfl) (by kernel_rfl) (by kernel_rfl) (fun _ _ _ h => h) (Or.inr ⟨by rfl, rfl⟩) hHeld ?_
    try simp only [Act.put, List.setIfInBounds_toArray, List.set_cons_zero, List.set_cons_succ]
    refine wpAnyH_take (i := 30) (oi := { dst := some 47, op := Go.Op.fieldAddr 87 (Go.Operand.tmp 46) 1, type := 0, pos := "l06_parsing.go:339", after := #[{ on := 29, ground := Go.Ground.data }, { on := 22, ground := Go.Ground.guard }], guard := some (22, false) }) (v := undef) rfl (by kernel_rfl) (by kernel_rfl) (by kernel_rfl) (fun _ _ _ h => h) (Or.inr ⟨by rfl, rfl⟩) hHeld ?_
    try simp only [Act.put, List.setIfInBounds_toArray, List.set_cons_zero, List.set_cons_succ]
    refine wpAnyH_take (i := 31) (oi := { dst := some 48, op := Go.Op.load 27 (Go.Operand.tmp 47), type := 27, pos := "l06_parsing.go:339", after := #[{ on := 30, ground := Go.Ground.data }, { on := 22, ground := Go.Ground.guard }], guard := some (22, false) }) (v := undef) rfl (by kernel_rfl) (by kernel_rfl) (by kernel_rfl) (fun _ _ _ h => h) (Or.inr ⟨by rfl, rfl⟩) hHeld ?_
    try simp only [Act.put, List.setIfInBounds_toArray, List.set_cons_zero, List.set_cons_succ]
    refine wpAnyH_take (i := 32) (oi := { dst := some 49, op := Go.Op.indexAddr 27 (Go.Operand.tmp 48) (Go.Operand.const (Go.Value.int Go.IntKind.i64 0)), type := 0, pos := "l06_parsing.go:339", after := #[{ on := 31, ground := Go.Ground.data }, { on := 22, ground := Go.Ground.guard }], guard := some (22, false) }) (v := undef) rfl (by kernel_rfl) (by kernel_rfl) (by kernel_rfl) (fun _ _ _ h => h) (Or.inr ⟨by rfl, rfl⟩) hHeld ?_
    try simp only [Act.put, List.setIfInBounds_toArray, List.set_cons_zero, List.set_cons_succ]
    refine wpAnyH_take (i := 33) (oi := { dst := some 50, op := Go.Op.load 3 (Go.Operand.tmp 49), type := 3, pos := "l06_parsing.go:339", after := #[{ on := 32, ground := Go.Ground.data }, { on := 22, ground := Go.Ground.guard }], guard := some (22, false) }) (v := undef) rfl (by kernel_rfl) (by kernel_rfl) (by kernel_rfl) (fun _ _ _ h => h) (Or.inr ⟨by rfl, rfl⟩) hHeld ?_
    try simp only [Act.put, List.setIfInBounds_toArray, List.set_cons_zero, List.set_cons_succ]
    refine wpAnyH_take (i := 34) (oi := { dst := some 51, op := Go.Op.indexAddr 32 (Go.Operand.tmp 44) (Go.Operand.tmp 50), type := 0, pos := "l06_parsing.go:339", after := #[{ on := 27, ground := Go.Ground.data }, { on := 33, ground := Go.Ground.data }, { on := 22, ground := Go.Ground.guard }], guard := some (22, false) }) (v := undef) rfl (by kernel_rfl) (by kernel_rfl) (by kernel_rfl) (fun _ _ _ h => h) (Or.inr ⟨by rfl, rfl⟩) hHeld ?_
    try simp only [Act.put, List.setIfInBounds_toArray, List.set_cons_zero, List.set_cons_succ]
    refine wpAnyH_take (i := 35) (oi := { dst := some 52, op := Go.Op.fieldAddr 66 (Go.Operand.tmp 51) 0, type := 0, pos := "l06_parsing.go:339", after := #[{ on := 34, ground := Go.Ground.data }, { on := 22, ground := Go.Ground.guard }], guard := some (22, false) }) (v := undef) rfl (by kernel_rfl) (by kernel_rfl) (by kernel_rfl) (fun _ _ _ h => h) (Or.inr ⟨by rfl, rfl⟩) hHeld ?_
    try simp only [Act.put, List.setIfInBounds_toArray, List.set_cons_zero, List.set_cons_succ]
    refine wpAnyH_take (i := 36) (oi := { dst := some 53, op := Go.Op.load 3 (Go.Operand.tmp 52), type := 3, pos := "l06_parsing.go:339", after := #[{ on := 35, ground := Go.Ground.data }, { on := 22, ground := Go.Ground.guard }], guard := some (22, false) }) (v := undef) rfl (by kernel_rfl) (by kernel_rfl) (by kernel_rfl) (fun _ _ _ h => h) (Or.inr ⟨by rfl, rfl⟩) hHeld ?_
    try simp only [Act.put, List.setIfInBounds_toArray, List.set_cons_zero, List.set_cons_succ]
    refine wpAnyH_take (i := 37) (oi := { dst := some 54, op := Go.Op.move (Go.Operand.tmp 1), type := 3, pos := "l06_parsing.go:339", after := #[{ on := 22, ground := Go.Ground.guard }], guard := some (22, false) }) (v := undef) rfl (by kernel_rfl) (by kernel_rfl) (by kernel_rfl) (fun _ _ _ h => h) (Or.inr ⟨by rfl, rfl⟩) hHeld ?_
    try simp only [Act.put, List.setIfInBounds_toArray, List.set_cons_zero, List.set_cons_succ]
    refine wpAnyH_take (i := 38) (oi := { dst := some 55, op := Go.Op.binOp Go.BinOp.neq 3 (Go.Operand.tmp 53) (Go.Operand.tmp 54) 3, type := 4, pos := "l06_parsing.go:339", after := #[{ on := 36, ground := Go.Ground.data }, { on := 37, ground := Go.Ground.data }, { on := 22, ground := Go.Ground.guard }], guard := some (22, false) }) (v := undef) rfl (by kernel_rfl) (by kernel_rfl) (by kernel_rfl) (fun _ _ _ h => h) (Or.inr ⟨by rfl, rfl⟩) hHeld ?_
    try simp only [Act.put, List.setIfInBounds_toArray, List.set_cons_zero, List.set_cons_succ]
    refine wpAnyH_take (i := 39) (oi := { dst := some 56, op := Go.Op.pick (Go.Operand.tmp 39) (Go.Operand.const (Go.Value.bool true)) (Go.Operand.tmp 55), type := 4, pos := "l06_parsing.go:339", after := #[{ on := 22, ground := Go.Ground.data }, { on := 38, ground := Go.Ground.data }], guard := none }) (v := ?v10) rfl (by kernel_rfl) (by kernel_rfl) (by kernel_rfl) (fun _ _ _ h => h) (Or.inl ⟨by rfl, ?h10⟩) hHeld ?r10
    case h10 => (intro w hSw; (try dsimp only at hSw); go_simp; try with_reducible rfl)
    try simp only [Act.put, List.setIfInBounds_toArray, List.set_cons_zero, List.set_cons_succ]
    refine wpAnyH_done (by kernel_rfl) ?_ _
    go_wp2_with fail
    exact ⟨rfl, HA.out _ (Kp.drew (Kp.refl _ _ _))⟩
  · obtain ⟨e1, hSn, n0⟩ := HCE.out 0 (by omega)
    subst e1
    rw [Nat.add_zero, Nat.add_zero] at n0
    have HZA := (show Hid (numAt L a = numAt L a) from rfl)
    obtain ⟨z, hz⟩ : ∃ z, numAt L a = z := ⟨_, rfl⟩
    rw [hz] at n0
    rw [eN] at x4 hc
    have iN : ((N : Int) == 0) = false := by simp; omega
    have k1 : (1 : Int) ≤ (c : Int) := by omega
    have k2 : (1 : Int) ≤ (N : Int) := by omega
    have kw : IntKind.i64.wrap ((d.prods.length : Int) - 1) = (d.prods.length : Int) - 1 := by simp [IntKind.wrap, IntKind.bits, IntKind.signed]; omega
    have n0d : w.drew.cell? ⟨bn, on, none⟩ = some (.int .i64 z) := n0
    have HWI := (show Hid _ from fun (w' : World) (hz : w'.cell? ⟨bn, on, none⟩ = some (.int .i64 z)) => Calls.mono (within_any (S := S) [z] 0 ((d.prods.length : Int) - 1) (.slice (some ⟨bn, on, none⟩) 1 c) w' ⟨_, c, bn, on, rfl, by simp; omega, by unfold maxLen; omega, fun _ => ⟨rfl, hSn⟩, fun i hi => by
      have : i = 0 := by simpa using hi
      subst this
      exact hz⟩) (R' := fun (e : Ending) (w2 : World) => e = Ending.returned (.bool (wiB z 0 ((d.prods.length : Int) - 1))) ∧ w2 = w') (fun e w2 ⟨h1, h2⟩ => ⟨by rw [h1]; simp, h2⟩))
    cases hwi : wiB z 0 ((d.prods.length : Int) - 1)
    · have hR : rd d L (f + 1) s a = none := rd_no (by unfold okAt; rw [hz, hwi]; simp)
      have HA : Hid (∀ w', Kp w.heap.size R w w' → RdA d L S R (.slice a0 d.terms.length c0) (.slice a1 d.nons.length c1) (.slice a3 d.prods.length c3) (f + 1) s a w (.panicked [flt]) w') := fun w' hk => ⟨hk, fun _ => rfl, fun b hb => by rw [hR] at hb; cases hb⟩
      rw [hwi] at HWI
      have hS0 : w.cell? ⟨R, 3, none⟩ = some (.slice a3 d.prods.length c3) ∧ w.cell? ⟨R, 4, none⟩ = some (.slice (some ⟨bn, on, none⟩) N c) := ⟨x3, x4⟩
      clear hR HRI HNU HCE HPR HBX HLI IH HNS eN hN hz hwi HZA x3 x4
      go_enter Try.func50, Try.ntmps50
      go_wp2_with fail
      refine wp_region_held_drew (S := (fun w' => w'.cell? ⟨R, 3, none⟩ = some (.slice a3 d.prods.length c3) ∧ w'.cell? ⟨R, 4, none⟩ = some (.slice (some ⟨bn, on, none⟩) N c))) (by kernel_rfl) hS0 (fun hHeld => ?_)
      refine wpAnyH_take (i := 0) (oi := { dst := some 17, op := Go.Op.move (Go.Operand.tmp 0), type := 105, pos := "l06_parsing.go:339", after := #[], guard := none }) (v := ?v11) rfl (by kernel_rfl) (by kernel_rfl) (by kernel_rfl) (fun _ _ _ h => h) (Or.inl ⟨by rfl, ?h11⟩) hHeld ?r11
      case h11 => (intro w hSw; (try dsimp only at hSw); go_simp; try with_reducible rfl)
      try simp only [Act.put, List.setIfInBounds_toArray, List.set_cons_zero, List.set_cons_succ]
      refine wpAnyH_take (i := 1) (oi := { dst := some 18, op := Go.Op.nilCheck (Go.Operand.tmp 17), type := 0, pos := "l06_parsing.go:339", after := #[{ on := 0, ground := Go.Ground.data }], guard := none }) (v := ?v12) rfl (by kernel_rfl) (by kernel_rfl) (by kernel_rfl) (fun _ _ _ h => h) (Or.inl ⟨by rfl, ?h12⟩) hHeld ?r12
      case h12 => (intro w hSw; (try dsimp only at hSw); go_simp; try with_reducible rfl)
      try simp only [Act.put, List.setIfInBounds_toArray, List.set_cons_zero, List.set_cons_succ]
      refine wpAnyH_take (i := 2) (oi := { dst := some 19, op := Go.Op.fieldAddr 87 (Go.Operand.tmp 18) 1, type := 0, pos := "l06_parsing.go:339", after := #[{ on := 1, ground := Go.Ground.data }], guard := none }) (v := ?v13) rfl (by kernel_rfl) (by kernel_rfl) (by kernel_rfl) (fun _ _ _ h => h) (Or.inl ⟨by rfl, ?h13⟩) hHeld ?r13
      case h13 => (intro w hSw; (try dsimp only at hSw); go_simp; try with_reducible rfl)
      try simp only [Act.put, List.setIfInBounds_toArray, List.set_cons_zero, List.set_cons_succ]
      refine wpAnyH_take (i := 3) (oi := { dst := some 20, op := Go.Op.load 27 (Go.Operand.tmp 19), type := 27, pos := "l06_parsing.go:339", after := #[{ on := 2, ground := Go.Ground.data }], guard := none }) (v := ?v14) rfl (by kernel_rfl) (by kernel_rfl) (by kernel_rfl) (fun _ _ _ h => h) (Or.inl ⟨by rfl, ?h14⟩) hHeld ?r14
      case h14 => (intro w hSw; (try dsimp only at hSw); go_simp; try with_reducible rfl)
      try simp only [Act.put, List.setIfInBounds_toArray, List.set_cons_zero, List.set_cons_succ]
      refine wpAnyH_take (i := 4) (oi := { dst := some 21, op := Go.Op.call { callee := Go.Callee.builtin Go.Builtin.len, args := #[Go.Operand.tmp 20], argTypes := #[27] }, type := 3, pos := "l06_parsing.go:339", after := #[{ on := 3, ground := Go.Ground.data }], guard := none }) (v := ?v15) rfl (by kernel_rfl) (by kernel_rfl) (by kernel_rfl) (fun _ _ _ h => h) (Or.inl ⟨by rfl, ?h15⟩) hHeld ?r15
      case h15 => (intro w hSw; (try dsimp only at hSw); go_simp; try with_reducible rfl)
      try simp only [Act.put, List.setIfInBounds_toArray, List.set_cons_zero, List.set_cons_succ]
      refine wpAnyH_take (i := 5) (oi := { dst := some 22, op := Go.Op.binOp Go.BinOp.eql 3 (Go.Operand.tmp 21) (Go.Operand.const (Go.Value.int Go.IntKind.i64 0)) 3, type := 4, pos := "l06_parsing.go:339", after := #[{ on := 4, ground := Go.Ground.data }], guard := none }) (v := ?v16) rfl (by kernel_rfl) (by kernel_rfl) (by kernel_rfl) (fun _ _ _ h => h) (Or.inl ⟨by rfl, ?h16⟩) hHeld ?r16
      case h16 => (intro w hSw; (try dsimp only at hSw); go_simp; try with_reducible rfl)
      try simp only [Act.put, List.setIfInBounds_toArray, List.set_cons_zero, List.set_cons_succ]
      refine wpAnyH_take (i := 6) (oi := { dst := some 23, op := Go.Op.move (Go.Operand.tmp 22), type := 4, pos := "l06_parsing.go:339", after := #[{ on := 5, ground := Go.Ground.data }], guard := none }) (v := ?v17) rfl (by kernel_rfl) (by kernel_rfl) (by kernel_rfl) (fun _ _ _ h => h) (Or.inl ⟨by rfl, ?h17⟩) hHeld ?r17
      case h17 => (intro w hSw; (try dsimp only at hSw); go_simp; try with_reducible rfl)
      try simp only [Act.put, List.setIfInBounds_toArray, List.set_cons_zero, List.set_cons_succ]
      refine wpAnyH_take (i := 7) (oi := { dst := some 24, op := Go.Op.move (Go.Operand.tmp 0), type := 105, pos := "l06_parsing.go:339", after := #[{ on := 6, ground := Go.Ground.guard }], guard := some (6, false) }) (v := ?v18) rfl (by kernel_rfl) (by kernel_rfl) (by kernel_rfl) (fun _ _ _ h => h) (Or.inl ⟨by rfl, ?h18⟩) hHeld ?r18
      case h18 => (intro w hSw; (try dsimp only at hSw); go_simp; try with_reducible rfl)
      try simp only [Act.put, List.setIfInBounds_toArray, List.set_cons_zero, List.set_cons_succ]
      refine wpAnyH_take (i := 8) (oi := { dst := some 25, op := Go.Op.nilCheck (Go.Operand.tmp 24), type := 0, pos := "l06_parsing.go:339", after := #[{ on := 7, ground := Go.Ground.data }, { on := 6, ground := Go.Ground.guard }], guard := some (6, false) }) (v := ?v19) rfl (by kernel_rfl) (by kernel_rfl) (by kernel_rfl) (fun _ _ _ h => h) (Or.inl ⟨by rfl, ?h19⟩) hHeld ?r19
      case h19 => (intro w hSw; (try dsimp only at hSw); go_simp; try with_reducible rfl)
      try simp only [Act.put, List.setIfInBounds_toArray, List.set_cons_zero, List.set_cons_succ]
      refine wpAnyH_take (i := 9) (oi := { dst := some 26, op := Go.Op.fieldAddr 87 (Go.Operand.tmp 25) 1, type := 0, pos := "l06_parsing.go:339", after := #[{ on := 8, ground := Go.Ground.data }, { on := 6, ground := Go.Ground.guard }], guard := some (6, false) }) (v := ?v20) rfl (by kernel_rfl) (by kernel_rfl) (by kernel_rfl) (fun _ _ _ h => h) (Or.inl ⟨by rfl, ?h20⟩) hHeld ?r20
      case h20 => (intro w hSw; (try dsimp only at hSw); go_simp; try with_reducible rfl)
      try simp only [Act.put, List.setIfInBounds_toArray, List.set_cons_zero, List.set_cons_succ]
      refine wpAnyH_take (i := 10) (oi := { dst := some 27, op := Go.Op.load 27 (Go.Operand.tmp 26), type := 27, pos := "l06_parsing.go:339", after := #[{ on := 9, ground := Go.Ground.data }, { on := 6, ground := Go.Ground.guard }], guard := some (6, false) }) (v := ?v21) rfl (by kernel_rfl) (by kernel_rfl) (by kernel_rfl) (fun _ _ _ h => h) (Or.inl ⟨by rfl, ?h21⟩) hHeld ?r21
      case h21 => (intro w hSw; (try dsimp only at hSw); go_simp; try with_reducible rfl)
      try simp only [Act.put, List.setIfInBounds_toArray, List.set_cons_zero, List.set_cons_succ]
      refine wpAnyH_take (i := 11) (oi := { dst := some 28, op := Go.Op.slice 27 (Go.Operand.tmp 27) none (some (Go.Operand.const (Go.Value.int Go.IntKind.i64 1))) none, type := 27, pos := "l06_parsing.go:339", after := #[{ on := 10, ground := Go.Ground.data }, { on := 6, ground := Go.Ground.guard }], guard := some (6, false) }) (v := ?v22) rfl (by kernel_rfl) (by kernel_rfl) (by kernel_rfl) (fun _ _ _ h => h) (Or.inl ⟨by rfl, ?h22⟩) hHeld ?r22
      case h22 => (intro w hSw; (try dsimp only at hSw); go_simp; try with_reducible rfl)
      try simp only [Act.put, List.setIfInBounds_toArray, List.set_cons_zero, List.set_cons_succ]
      refine wpAnyH_take (i := 12) (oi := { dst := some 29, op := Go.Op.move (Go.Operand.tmp 0), type := 105, pos := "l06_parsing.go:339", after := #[{ on := 6, ground := Go.Ground.guard }], guard := some (6, false) }) (v := ?v23) rfl (by kernel_rfl) (by kernel_rfl) (by kernel_rfl) (fun _ _ _ h => h) (Or.inl ⟨by rfl, ?h23⟩) hHeld ?r23
      case h23 => (intro w hSw; (try dsimp only at hSw); go_simp; try with_reducible rfl)
      try simp only [Act.put, List.setIfInBounds_toArray, List.set_cons_zero, List.set_cons_succ]
      refine wpAnyH_take (i := 13) (oi := { dst := some 30, op := Go.Op.nilCheck (Go.Operand.tmp 29), type := 0, pos := "l06_parsing.go:339", after := #[{ on := 12, ground := Go.Ground.data }, { on := 6, ground := Go.Ground.guard }], guard := some (6, false) }) (v := ?v24) rfl (by kernel_rfl) (by kernel_rfl) (by kernel_rfl) (fun _ _ _ h => h) (Or.inl ⟨by rfl, ?h24⟩) hHeld ?r24
      case h24 => (intro w hSw; (try dsimp only at hSw); go_simp; try with_reducible rfl)
      try simp only [Act.put, List.setIfInBounds_toArray, List.set_cons_zero, List.set_cons_succ]
      refine wpAnyH_take (i := 14) (oi := { dst := some 31, op := Go.Op.fieldAddr 87 (Go.Operand.tmp 30) 0, type := 0, pos := "l06_parsing.go:339", after := #[{ on := 13, ground := Go.Ground.data }, { on := 6, ground := Go.Ground.guard }], guard := some (6, false) }) (v := ?v25) rfl (by kernel_rfl) (by kernel_rfl) (by kernel_rfl) (fun _ _ _ h => h) (Or.inl ⟨by rfl, ?h25⟩) hHeld ?r25
      case h25 => (intro w hSw; (try dsimp only at hSw); go_simp; try with_reducible rfl)
      try simp only [Act.put, List.setIfInBounds_toArray, List.set_cons_zero, List.set_cons_succ]
      refine wpAnyH_take (i := 15) (oi := { dst := some 32, op := Go.Op.fieldAddr 34 (Go.Operand.tmp 31) 3, type := 0, pos := "l06_parsing.go:339", after := #[{ on := 14, ground := Go.Ground.data }, { on := 6, ground := Go.Ground.guard }], guard := some (6, false) }) (v := ?v26) rfl (by kernel_rfl) (by kernel_rfl) (by kernel_rfl) (fun _ _ _ h => h) (Or.inl ⟨by rfl, ?h26⟩) hHeld ?r26
      case h26 => (intro w hSw; (try dsimp only at hSw); go_simp; try with_reducible rfl)
      try simp only [Act.put, List.setIfInBounds_toArray, List.set_cons_zero, List.set_cons_succ]
      refine wpAnyH_take (i := 16) (oi := { dst := some 33, op := Go.Op.load 32 (Go.Operand.tmp 32), type := 32, pos := "l06_parsing.go:339", after := #[{ on := 15, ground := Go.Ground.data }, { on := 6, ground := Go.Ground.guard }], guard := some (6, false) }) (v := ?v27) rfl (by kernel_rfl) (by kernel_rfl) (by kernel_rfl) (fun _ _ _ h => h) (Or.inl ⟨by rfl, ?h27⟩) hHeld ?r27
      case h27 => (intro w hSw; (try dsimp only at hSw); go_simp; try with_reducible rfl)
      try simp only [Act.put, List.setIfInBounds_toArray, List.set_cons_zero, List.set_cons_succ]
      refine wpAnyH_take (i := 17) (oi := { dst := some 34, op := Go.Op.call { callee := Go.Callee.builtin Go.Builtin.len, args := #[Go.Operand.tmp 33], argTypes := #[32] }, type := 3, pos := "l06_parsing.go:339", after := #[{ on := 16, ground := Go.Ground.data }, { on := 6, ground := Go.Ground.guard }], guard := some (6, false) }) (v := ?v28) rfl (by kernel_rfl) (by kernel_rfl) (by kernel_rfl) (fun _ _ _ h => h) (Or.inl ⟨by rfl, ?h28⟩) hHeld ?r28
      case h28 => (intro w hSw; (try dsimp only at hSw); go_simp; try with_reducible rfl)
      try simp only [Act.put, List.setIfInBounds_toArray, List.set_cons_zero, List.set_cons_succ]
      refine wpAnyH_take (i := 18) (oi := { dst := some 35, op := Go.Op.binOp Go.BinOp.sub 3 (Go.Operand.tmp 34) (Go.Operand.const (Go.Value.int Go.IntKind.i64 1)) 3, type := 3, pos := "l06_parsing.go:339", after := #[{ on := 17, ground := Go.Ground.data }, { on := 6, ground := Go.Ground.guard }], guard := some (6, false) }) (v := ?v29) rfl (by kernel_rfl) (by kernel_rfl) (by kernel_rfl) (fun _ _ _ h => h) (Or.inl ⟨by rfl, ?h29⟩) hHeld ?r29
      case h29 => (intro w hSw; (try dsimp only at hSw); go_simp; try with_reducible rfl)
      try simp only [Act.put, List.setIfInBounds_toArray, List.set_cons_zero, List.set_cons_succ]
      refine wpAnyH_ready (rs := [19]) (by kernel_rfl) (by simp) ?_
      refine AllReadyH.cons (o := { dst := some 36, op := Go.Op.call { callee := Go.Callee.value (Go.Operand.func 65), args := #[Go.Operand.tmp 28, Go.Operand.const (Go.Value.int Go.IntKind.i64 0), Go.Operand.tmp 35], argTypes := #[27, 3, 3] }, type := 4, pos := "l06_parsing.go:339", after := #[{ on := 11, ground := Go.Ground.data }, { on := 18, ground := Go.Ground.data }, { on := 6, ground := Go.Ground.chain }, { on := 6, ground := Go.Ground.guard }], guard := some (6, false) }) rfl (fun K hK => ?_) AllReadyH.nil
      go_simp
      refine Calls.mono (HWI.out _ (by first | exact n0 | exact n0d)) ?_
      rintro e w2 ⟨rfl, rfl⟩
      dsimp only
      clear hHeld
      refine hK.out _ _ hS0 (fun hHeld => ?_)
      clear hK K
      try simp only [Act.put, List.setIfInBounds_toArray, List.set_cons_zero, List.set_cons_succ]
      refine wpAnyH_take (i := 20) (oi := { dst := some 37, op := Go.Op.unOp Go.UnOp.not 4 (Go.Operand.tmp 36), type := 4, pos := "l06_parsing.go:339", after := #[{ on := 19, ground := Go.Ground.data }, { on := 6, ground := Go.Ground.guard }], guard := some (6, false) }) (v := ?v30) rfl (by kernel_rfl) (by kernel_rfl) (by kernel_rfl) (fun _ _ _ h => h) (Or.inl ⟨by rfl, ?h30⟩) hHeld ?r30
      case h30 => (intro w hSw; (try dsimp only at hSw); go_simp; try with_reducible rfl)
      try simp only [Act.put, List.setIfInBounds_toArray, List.set_cons_zero, List.set_cons_succ]
      refine wpAnyH_take (i := 21) (oi := { dst := some 38, op := Go.Op.pick (Go.Operand.tmp 23) (Go.Operand.const (Go.Value.bool true)) (Go.Operand.tmp 37), type := 4, pos := "l06_parsing.go:339", after := #[{ on := 6, ground := Go.Ground.data }, { on := 20, ground := Go.Ground.data }], guard := none }) (v := ?v31) rfl (by kernel_rfl) (by kernel_rfl) (by kernel_rfl) (fun _ _ _ h => h) (Or.inl ⟨by rfl, ?h31⟩) hHeld ?r31
      case h31 => (intro w hSw; (try dsimp only at hSw); go_simp; try with_reducible rfl)
      try simp only [Act.put, List.setIfInBounds_toArray, List.set_cons_zero, List.set_cons_succ]
      refine wpAnyH_take (i := 22) (oi := { dst := some 39, op := Go.Op.move (Go.Operand.tmp 38), type := 4, pos := "l06_parsing.go:339", after := #[{ on := 21, ground := Go.Ground.data }, { on := 19, ground := Go.Ground.chain }], guard := none }) (v := ?v32) rfl (by kernel_rfl) (by kernel_rfl) (by kernel_rfl) (fun _ _ _ h => h) (Or.inl ⟨by rfl, ?h32⟩) hHeld ?r32
      case h32 => (intro w hSw; (try dsimp only at hSw); go_simp; try with_reducible rfl)
      try simp only [Act.put, List.setIfInBounds_toArray, List.set_cons_zero, List.set_cons_succ]
      refine wpAnyH_take (i := 23) (oi := { dst := some 40, op := Go.Op.move (Go.Operand.tmp 0), type := 105, pos := "l06_parsing.go:339", after := #[{ on := 22, ground := Go.Ground.guard }], guard := some (22, false) }) (v := undef) rfl (by kernel_rfl) (by kernel_rfl) (by kernel_rfl) (fun _ _ _ h => h) (Or.inr ⟨by rfl, rfl⟩) hHeld ?_
      try simp only [Act.put, List.setIfInBounds_toArray, List.set_cons_zero, List.set_cons_succ]
      refine wpAnyH_take (i := 24) (oi := { dst := some 41, op := Go.Op.nilCheck (Go.Operand.tmp 40), type := 0, pos := "l06_parsing.go:339", after := #[{ on := 23, ground := Go.Ground.data }, { on := 22, ground := Go.Ground.guard }], guard := some (22, false) }) (v := undef) rfl (by kernel_rfl) (by kernel_rfl) (by kernel_rfl) (fun _ _ _ h => h) (Or.inr ⟨by rfl, rfl⟩) hHeld ?_
      try simp only [Act.put, List.setIfInBounds_toArray, List.set_cons_zero, List.set_cons_succ]
      refine wpAnyH_take (i := 25) (oi := { dst := some 42, op := Go.Op.fieldAddr 87 (Go.Operand.tmp 41) 0, type := 0, pos := "l06_parsing.go:339", after := #[{ on := 24, ground := Go.Ground.data }, { on := 22, ground := Go.Ground.guard }], guard := some (22, false) }) (v := undef) rfl (by kernel_rfl) (by kernel_rfl) (by kernel_rfl) (fun _ _ _ h => h) (Or.inr ⟨by rfl, rfl⟩) hHeld ?_
      try simp only [Act.put, List.setIfInBounds_toArray, List.set_cons_zero, List.set_cons_succ]
      refine wpAnyH_take (i := 26) (oi := { dst := some 43, op := Go.Op.fieldAddr 34 (Go.Operand.tmp 42) 3, type := 0, pos := "l06_parsing.go:339", after := #[{ on := 25, ground := Go.Ground.data }, { on := 22, ground := Go.Ground.guard }], guard := some (22, false) }) (v := undef) rfl (by kernel_rfl) (by kernel_rfl) (by kernel_rfl) (fun _ _ _ h => h) (Or.inr ⟨by rfl, rfl⟩) hHeld ?_
      try simp only [Act.put, List.setIfInBounds_toArray, List.set_cons_zero, List.set_cons_succ]
      refine wpAnyH_take (i := 27) (oi := { dst := some 44, op := Go.Op.load 32 (Go.Operand.tmp 43), type := 32, pos := "l06_parsing.go:339", after := #[{ on := 26, ground := Go.Ground.data }, { on := 22, ground := Go.Ground.guard }], guard := some (22, false) }) (v := undef) rfl (by kernel_rfl) (by kernel_rfl) (by kernel_rfl) (fun _ _ _ h => h) (Or.inr ⟨by rfl, rfl⟩) hHeld ?_
      try simp only [Act.put, List.setIfInBounds_toArray, List.set_cons_zero, List.set_cons_succ]
      refine wpAnyH_take (i := 28) (oi := { dst := some 45, op := Go.Op.move (Go.Operand.tmp 0), type := 105, pos := "l06_parsing.go:339", after := #[{ on := 22, ground := Go.Ground.guard }], guard := some (22, false) }) (v := undef) rfl (by kernel_rfl) (by kernel_rfl) (by kernel_rfl) (fun _ _ _ h => h) (Or.inr ⟨by rfl, rfl⟩) hHeld ?_
      try simp only [Act.put, List.setIfInBounds_toArray, List.set_cons_zero, List.set_cons_succ]
      refine wpAnyH_take (i := 29) (oi := { dst := some 46, op := Go.Op.nilCheck (Go.Operand.tmp 45), type := 0, pos := "l06_parsing.go:339", after := #[{ on := 28, ground := Go.Ground.data }, { on := 22, ground := Go.Ground.guard }], guard := some (22, false) }) (v := undef) rfl (by kernel_rfl) (by kernel_rfl) (by kernel_rfl) (fun _ _ _ h => h) (Or.inr ⟨by rfl, rfl⟩) hHeld ?_
      try simp only [Act.put, List.setIfInBounds_toArray, List.set_cons_zero, List.set_cons_succ]
      refine wpAnyH_take (i := 30) (oi := { dst := some 47, op := Go.Op.fieldAddr 87 (Go.Operand.tmp 46) 1, type := 0, pos := "l06_parsing.go:339", after := #[{ on := 29, ground := Go.Ground.data }, { on := 22, ground := Go.Ground.guard }], guard := some (22, false) }) (v := undef) rfl (by kernel_rfl) (by kernel_rfl) (by kernel_rfl) (fun _ _ _ h => h) (Or.inr ⟨by rfl, rfl⟩) hHeld ?_
      try simp only [Act.put, List.setIfInBounds_toArray, List.set_cons_zero, List.set_cons_succ]
      refine wpAnyH_take (i := 31) (oi := { dst := some 48, op := Go.Op.load 27 (Go.Operand.tmp 47), type := 27, pos := "l06_parsing.go:339", after := #[{ on := 30, ground := Go.Ground.data }, { on := 22, ground := Go.Ground.guard }], guard := some (22, false) }) (v := undef) rfl (by kernel_rfl) (by kernel_rfl) (by kernel_rfl) (fun _ _ _ h => h) (Or.inr ⟨by rfl, rfl⟩) hHeld ?_
      try simp only [Act.put, List.setIfInBounds_toArray, List.set_cons_zero, List.set_cons_succ]
      refine wpAnyH_take (i := 32) (oi := { dst := some 49, op := Go.Op.indexAddr 27 (Go.Operand.tmp 48) (Go.Operand.const (Go.Value.int Go.IntKind.i64 0)), type := 0, pos := "l06_parsing.go:339", after := #[{ on := 31, ground := Go.Ground.data }, { on := 22, ground := Go.Ground.guard }], guard := some (22, false) }) (v := undef) rfl (by kernel_rfl) (by kernel_rfl) (by kernel_rfl) (fun _ _ _ h => h) (Or.inr ⟨by rfl, rfl⟩) hHeld ?_
      try simp only [Act.put, List.setIfInBounds_toArray, List.set_cons_zero, List.set_cons_succ]
      refine wpAnyH_take (i := 33) (oi := { dst := some 50, op := Go.Op.load 3 (Go.Operand.tmp 49), type := 3, pos := "l06_parsing.go:339", after := #[{ on := 32, ground := Go.Ground.data }, { on := 22, ground := Go.Ground.guard }], guard := some (22, false) }) (v := undef) rfl (by kernel_rfl) (by kernel_rfl) (by kernel_rfl) (fun _ _ _ h => h) (Or.inr ⟨by rfl, rfl⟩) hHeld ?_
      try simp only [Act.put, List.setIfInBounds_toArray, List.set_cons_zero, List.set_cons_succ]
      refine wpAnyH_take (i := 34) (oi := { dst := some 51, op := Go.Op.indexAddr 32 (Go.Operand.tmp 44) (Go.Operand.tmp 50), type := 0, pos := "l06_parsing.go:339", after := #[{ on := 27, ground := Go.Ground.data }, { on := 33, ground := Go.Ground.data }, { on := 22, ground := Go.Ground.guard }], guard := some (22, false) }) (v := undef) rfl (by kernel_rfl) (by kernel_rfl) (by kernel_rfl) (fun _ _ _ h => h) (Or.inr ⟨by rfl, rfl⟩) hHeld ?_
      try simp only [Act.put, List.setIfInBounds_toArray, List.set_cons_zero, List.set_cons_succ]
      refine wpAnyH_take (i := 35) (oi := { dst := some 52, op := Go.Op.fieldAddr 66 (Go.Operand.tmp 51) 0, type := 0, pos := "l06_parsing.go:339", after := #[{ on := 34, ground := Go.Ground.data }, { on := 22, ground := Go.Ground.guard }], guard := some (22, false) }) (v := undef) rfl (by kernel_rfl) (by kernel_rfl) (by kernel_rfl) (fun _ _ _ h => h) (Or.inr ⟨by rfl, rfl⟩) hHeld ?_
      try simp only [Act.put, List.setIfInBounds_toArray, List.set_cons_zero, List.set_cons_succ]
      refine wpAnyH_take (i := 36) (oi := { dst := some 53, op := Go.Op.load 3 (Go.Operand.tmp 52), type := 3, pos := "l06_parsing.go:339", after := #[{ on := 35, ground := Go.Ground.data }, { on := 22, ground := Go.Ground.guard }], guard := some (22, false) }) (v := undef) rfl (by kernel_rfl) (by kernel_rfl) (by kernel_rfl) (fun _ _ _ h => h) (Or.inr ⟨by rfl, rfl⟩) hHeld ?_
      try simp only [Act.put, List.setIfInBounds_toArray, List.set_cons_zero, List.set_cons_succ]
      refine wpAnyH_take (i := 37) (oi := { dst := some 54, op := Go.Op.move (Go.Operand.tmp 1), type := 3, pos := "l06_parsing.go:339", after := #[{ on := 22, ground := Go.Ground.guard }], guard := some (22, false) }) (v := undef) rfl (by kernel_rfl) (by kernel_rfl) (by kernel_rfl) (fun _ _ _ h => h) (Or.inr ⟨by rfl, rfl⟩) hHeld ?_
      try simp only [Act.put, List.setIfInBounds_toArray, List.set_cons_zero, List.set_cons_succ]
      refine wpAnyH_take (i := 38) (oi := { dst := some 55, op := Go.Op.binOp Go.BinOp.neq 3 (Go.Operand.tmp 53) (Go.Operand.tmp 54) 3, type := 4, pos := "l06_parsing.go:339", after := #[{ on := 36, ground := Go.Ground.data }, { on := 37, ground := Go.Ground.data }, { on := 22, ground := Go.Ground.guard }], guard := some (22, false) }) (v := undef) rfl (by kernel_rfl) (by kernel_rfl) (by kernel_rfl) (fun _ _ _ h => h) (Or.inr ⟨by rfl, rfl⟩) hHeld ?_
      try simp only [Act.put, List.setIfInBounds_toArray, List.set_cons_zero, List.set_cons_succ]
      refine wpAnyH_take (i := 39) (oi := { dst := some 56, op := Go.Op.pick (Go.Operand.tmp 39) (Go.Operand.const (Go.Value.bool true)) (Go.Operand.tmp 55), type := 4, pos := "l06_parsing.go:339", after := #[{ on := 22, ground := Go.Ground.data }, { on := 38, ground := Go.Ground.data }], guard := none }) (v := ?v33) rfl (by kernel_rfl) (by kernel_rfl) (by kernel_rfl) (fun _ _ _ h => h) (Or.inl ⟨by rfl, ?h33⟩) hHeld ?r33
      case h33 => (intro w hSw; (try dsimp only at hSw); go_simp; try with_reducible rfl)
      try simp only [Act.put, List.setIfInBounds_toArray, List.set_cons_zero, List.set_cons_succ]
      refine wpAnyH_done (by kernel_rfl) ?_ _
      go_wp2_with fail
      exact ⟨rfl, HA.out _ (Kp.drew (Kp.refl _ _ _))⟩
    rw [hwi] at HWI
    obtain ⟨k, rfl, hk⟩ : ∃ k : Nat, z = (k : Int) ∧ k < d.prods.length := by
      unfold wiB at hwi
      simp only [decide_eq_true_eq] at hwi
      exact ⟨z.toNat, by omega, by omega⟩
    have hpa : pa d L a = d.prods[k] := by
      unfold pa pdAt
      rw [hz]
      simp [List.getD_eq_getElem?_getD, hk]
    obtain ⟨e3, hSp, ai, ci, bi, oi, q0, q1, hci, hri⟩ := HPR.out k hk
    subst e3
    rw [← hpa] at q0 q1
    obtain ⟨jk1, jk2, hl12, hrr, jk3, jk4⟩ := pd_of hok hk
    clear jk1 jk2 jk3 jk4
    rw [← hpa] at hl12 hci
    have HRI2 := (show Hid (∀ i (hi : i < (pa d L a).right.length), ai = some ⟨bi, oi, none⟩ ∧ S bi ∧ w.cell? ⟨bi, oi + i, none⟩ = some (.int .i64 (pa d L a).right[i]) ∧ 0 ≤ (pa d L a).right[i] ∧ (pa d L a).right[i] ≤ 160) from fun i hi => by
      simp only [hpa] at hi ⊢
      exact ⟨(hri i hi).1, (hri i hi).2.1, (hri i hi).2.2, (hrr i hi).1, (hrr i hi).2⟩)
    have HOK : Hid (okAt d L s a = decide ((pa d L a).left = s)) := by
      show okAt d L s a = _
      unfold okAt
      rw [hz, hwi, decide_eq_true (by omega)]
      rfl
    have HZ := (show Hid _ from hz)
    have HPA := (show Hid _ from hpa)
    clear hri hrr hz hwi hpa HZA
    obtain ⟨P, hP⟩ : ∃ P, pa d L a = P := ⟨_, rfl⟩
    have HP := (show Hid _ from hP)
    rw [hP] at q0 q1 hl12 hci HOK
    have hS0 : w.cell? ⟨R, 3, none⟩ = some (.slice (some ⟨bp, op, none⟩) d.prods.length c3) ∧ w.cell? ⟨R, 4, none⟩ = some (.slice (some ⟨bn, on, none⟩) N c) ∧ w.cell? ⟨bn, on, none⟩ = some (.int .i64 (k : Nat)) ∧ w.cell? ⟨bp, op + k * 5, none⟩ = some (.int .i64 P.left) := ⟨x3, x4, n0, q0⟩
    have HS0 := (show Hid _ from hS0)
    have HQ1 := (show Hid _ from q1)
    have HEN := (show Hid _ from eN)
    have hNp : 0 < N := by omega
    have hkp : k ≤ 120 := by omega
    clear x3 x4 q0 q1 hP eN hN
    go_enter Try.func50, Try.ntmps50
    go_wp2_with fail
    refine wp_region_held_drew (S := (fun w' => w'.cell? ⟨R, 3, none⟩ = some (.slice (some ⟨bp, op, none⟩) d.prods.length c3) ∧ w'.cell? ⟨R, 4, none⟩ = some (.slice (some ⟨bn, on, none⟩) N c) ∧ w'.cell? ⟨bn, on, none⟩ = some (.int .i64 (k : Nat)) ∧ w'.cell? ⟨bp, op + k * 5, none⟩ = some (.int .i64 P.left))) (by kernel_rfl) hS0 (fun hHeld => ?_)
    refine wpAnyH_take (i := 0) (oi := { dst := some 17, op := Go.Op.move (Go.Operand.tmp 0), type := 105, pos := "l06_parsing.go:339", after := #[], guard := none }) (v := ?v34) rfl (by kernel_rfl) (by kernel_rfl) (by kernel_rfl) (fun _ _ _ h => h) (Or.inl ⟨by rfl, ?h34⟩) hHeld ?r34
    case h34 => (intro w hSw; (try dsimp only at hSw); go_simp; try with_reducible rfl)
    try simp only [Act.put, List.setIfInBounds_toArray, List.set_cons_zero, List.set_cons_succ]
    refine wpAnyH_take (i := 1) (oi := { dst := some 18, op := Go.Op.nilCheck (Go.Operand.tmp 17), type := 0, pos := "l06_parsing.go:339", after := #[{ on := 0, ground := Go.Ground.data }], guard := none }) (v := ?v35) rfl (by kernel_rfl) (by kernel_rfl) (by kernel_rfl) (fun _ _ _ h => h) (Or.inl ⟨by rfl, ?h35⟩) hHeld ?r35
    case h35 => (intro w hSw; (try dsimp only at hSw); go_simp; try with_reducible rfl)
    try simp only [Act.put, List.setIfInBounds_toArray, List.set_cons_zero, List.set_cons_succ]
    refine wpAnyH_take (i := 2) (oi := { dst := some 19, op := Go.Op.fieldAddr 87 (Go.Operand.tmp 18) 1, type := 0, pos := "l06_parsing.go:339", after := #[{ on := 1, ground := Go.Ground.data }], guard := none }) (v := ?v36) rfl (by kernel_rfl) (by kernel_rfl) (by kernel_rfl) (fun _ _ _ h => h) (Or.inl ⟨by rfl, ?h36⟩) hHeld ?r36
    case h36 => (intro w hSw; (try dsimp only at hSw); go_simp; try with_reducible rfl)
    try simp only [Act.put, List.setIfInBounds_toArray, List.set_cons_zero, List.set_cons_succ]
    refine wpAnyH_take (i := 3) (oi := { dst := some 20, op := Go.Op.load 27 (Go.Operand.tmp 19), type := 27, pos := "l06_parsing.go:339", after := #[{ on := 2, ground := Go.Ground.data }], guard := none }) (v := ?v37) rfl (by kernel_rfl) (by kernel_rfl) (by kernel_rfl) (fun _ _ _ h => h) (Or.inl ⟨by rfl, ?h37⟩) hHeld ?r37
    case h37 => (intro w hSw; (try dsimp only at hSw); go_simp; try with_reducible rfl)
    try simp only [Act.put, List.setIfInBounds_toArray, List.set_cons_zero, List.set_cons_succ]
    refine wpAnyH_take (i := 4) (oi := { dst := some 21, op := Go.Op.call { callee := Go.Callee.builtin Go.Builtin.len, args := #[Go.Operand.tmp 20], argTypes := #[27] }, type := 3, pos := "l06_parsing.go:339", after := #[{ on := 3, ground := Go.Ground.data }], guard := none }) (v := ?v38) rfl (by kernel_rfl) (by kernel_rfl) (by kernel_rfl) (fun _ _ _ h => h) (Or.inl ⟨by rfl, ?h38⟩) hHeld ?r38
    case h38 => (intro w hSw; (try dsimp only at hSw); go_simp; try with_reducible rfl)
    try simp only [Act.put, List.setIfInBounds_toArray, List.set_cons_zero, List.set_cons_succ]
    refine wpAnyH_take (i := 5) (oi := { dst := some 22, op := Go.Op.binOp Go.BinOp.eql 3 (Go.Operand.tmp 21) (Go.Operand.const (Go.Value.int Go.IntKind.i64 0)) 3, type := 4, pos := "l06_parsing.go:339", after := #[{ on := 4, ground := Go.Ground.data }], guard := none }) (v := ?v39) rfl (by kernel_rfl) (by kernel_rfl) (by kernel_rfl) (fun _ _ _ h => h) (Or.inl ⟨by rfl, ?h39⟩) hHeld ?r39
    case h39 => (intro w hSw; (try dsimp only at hSw); go_simp; try with_reducible rfl)
    try simp only [Act.put, List.setIfInBounds_toArray, List.set_cons_zero, List.set_cons_succ]
    refine wpAnyH_take (i := 6) (oi := { dst := some 23, op := Go.Op.move (Go.Operand.tmp 22), type := 4, pos := "l06_parsing.go:339", after := #[{ on := 5, ground := Go.Ground.data }], guard := none }) (v := ?v40) rfl (by kernel_rfl) (by kernel_rfl) (by kernel_rfl) (fun _ _ _ h => h) (Or.inl ⟨by rfl, ?h40⟩) hHeld ?r40
    case h40 => (intro w hSw; (try dsimp only at hSw); go_simp; try with_reducible rfl)
    try simp only [Act.put, List.setIfInBounds_toArray, List.set_cons_zero, List.set_cons_succ]
    refine wpAnyH_take (i := 7) (oi := { dst := some 24, op := Go.Op.move (Go.Operand.tmp 0), type := 105, pos := "l06_parsing.go:339", after := #[{ on := 6, ground := Go.Ground.guard }], guard := some (6, false) }) (v := ?v41) rfl (by kernel_rfl) (by kernel_rfl) (by kernel_rfl) (fun _ _ _ h => h) (Or.inl ⟨by rfl, ?h41⟩) hHeld ?r41
    case h41 => (intro w hSw; (try dsimp only at hSw); go_simp; try with_reducible rfl)
    try simp only [Act.put, List.setIfInBounds_toArray, List.set_cons_zero, List.set_cons_succ]
    refine wpAnyH_take (i := 8) (oi := { dst := some 25, op := Go.Op.nilCheck (Go.Operand.tmp 24), type := 0, pos := "l06_parsing.go:339", after := #[{ on := 7, ground := Go.Ground.data }, { on := 6, ground := Go.Ground.guard }], guard := some (6, false) }) (v := ?v42) rfl (by kernel_rfl) (by kernel_rfl) (by kernel_rfl) (fun _ _ _ h => h) (Or.inl ⟨by rfl, ?h42⟩) hHeld ?r42
    case h42 => (intro w hSw; (try dsimp only at hSw); go_simp; try with_reducible rfl)
    try simp only [Act.put, List.setIfInBounds_toArray, List.set_cons_zero, List.set_cons_succ]
    refine wpAnyH_take (i := 9) (oi := { dst := some 26, op := Go.Op.fieldAddr 87 (Go.Operand.tmp 25) 1, type := 0, pos := "l06_parsing.go:339", after := #[{ on := 8, ground := Go.Ground.data }, { on := 6, ground := Go.Ground.guard }], guard := some (6, false) }) (v := ?v43) rfl (by kernel_rfl) (by kernel_rfl) (by kernel_rfl) (fun _ _ _ h => h) (Or.inl ⟨by rfl, ?h43⟩) hHeld ?r43
    case h43 => (intro w hSw; (try dsimp only at hSw); go_simp; try with_reducible rfl)
    try simp only [Act.put, List.setIfInBounds_toArray, List.set_cons_zero, List.set_cons_succ]
    refine wpAnyH_take (i := 10) (oi := { dst := some 27, op := Go.Op.load 27 (Go.Operand.tmp 26), type := 27, pos := "l06_parsing.go:339", after := #[{ on := 9, ground := Go.Ground.data }, { on := 6, ground := Go.Ground.guard }], guard := some (6, false) }) (v := ?v44) rfl (by kernel_rfl) (by kernel_rfl) (by kernel_rfl) (fun _ _ _ h => h) (Or.inl ⟨by rfl, ?h44⟩) hHeld ?r44
    case h44 => (intro w hSw; (try dsimp only at hSw); go_simp; try with_reducible rfl)
    try simp only [Act.put, List.setIfInBounds_toArray, List.set_cons_zero, List.set_cons_succ]
    refine wpAnyH_take (i := 11) (oi := { dst := some 28, op := Go.Op.slice 27 (Go.Operand.tmp 27) none (some (Go.Operand.const (Go.Value.int Go.IntKind.i64 1))) none, type := 27, pos := "l06_parsing.go:339", after := #[{ on := 10, ground := Go.Ground.data }, { on := 6, ground := Go.Ground.guard }], guard := some (6, false) }) (v := ?v45) rfl (by kernel_rfl) (by kernel_rfl) (by kernel_rfl) (fun _ _ _ h => h) (Or.inl ⟨by rfl, ?h45⟩) hHeld ?r45
    case h45 => (intro w hSw; (try dsimp only at hSw); go_simp; try with_reducible rfl)
    try simp only [Act.put, List.setIfInBounds_toArray, List.set_cons_zero, List.set_cons_succ]
    refine wpAnyH_take (i := 12) (oi := { dst := some 29, op := Go.Op.move (Go.Operand.tmp 0), type := 105, pos := "l06_parsing.go:339", after := #[{ on := 6, ground := Go.Ground.guard }], guard := some (6, false) }) (v := ?v46) rfl (by kernel_rfl) (by kernel_rfl) (by kernel_rfl) (fun _ _ _ h => h) (Or.inl ⟨by rfl, ?h46⟩) hHeld ?r46
    case h46 => (intro w hSw; (try dsimp only at hSw); go_simp; try with_reducible rfl)
    try simp only [Act.put, List.setIfInBounds_toArray, List.set_cons_zero, List.set_cons_succ]
    refine wpAnyH_take (i := 13) (oi := { dst := some 30, op := Go.Op.nilCheck (Go.Operand.tmp 29), type := 0, pos := "l06_parsing.go:339", after := #[{ on := 12, ground := Go.Ground.data }, { on := 6, ground := Go.Ground.guard }], guard := some (6, false) }) (v := ?v47) rfl (by kernel_rfl) (by kernel_rfl) (by kernel_rfl) (fun _ _ _ h => h) (Or.inl ⟨by rfl, ?h47⟩) hHeld ?r47
    case h47 => (intro w hSw; (try dsimp only at hSw); go_simp; try with_reducible rfl)
    try simp only [Act.put, List.setIfInBounds_toArray, List.set_cons_zero, List.set_cons_succ]
    refine wpAnyH_take (i := 14) (oi := { dst := some 31, op := Go.Op.fieldAddr 87 (Go.Operand.tmp 30) 0, type := 0, pos := "l06_parsing.go:339", after := #[{ on := 13, ground := Go.Ground.data }, { on := 6, ground := Go.Ground.guard }], guard := some (6, false) }) (v := ?v48) rfl (by kernel_rfl) (by kernel_rfl) (by kernel_rfl) (fun _ _ _ h => h) (Or.inl ⟨by rfl, ?h48⟩) hHeld ?r48
    case h48 => (intro w hSw; (try dsimp only at hSw); go_simp; try with_reducible rfl)
    try simp only [Act.put, List.setIfInBounds_toArray, List.set_cons_zero, List.set_cons_succ]
    refine wpAnyH_take (i := 15) (oi := { dst := some 32, op := Go.Op.fieldAddr 34 (Go.Operand.tmp 31) 3, type := 0, pos := "l06_parsing.go:339", after := #[{ on := 14, ground := Go.Ground.data }, { on := 6, ground := Go.Ground.guard }], guard := some (6, false) }) (v := ?v49) rfl (by kernel_rfl) (by kernel_rfl) (by kernel_rfl) (fun _ _ _ h => h) (Or.inl ⟨by rfl, ?h49⟩) hHeld ?r49
    case h49 => (intro w hSw; (try dsimp only at hSw); go_simp; try with_reducible rfl)
    try simp only [Act.put, List.setIfInBounds_toArray, List.set_cons_zero, List.set_cons_succ]
    refine wpAnyH_take (i := 16) (oi := { dst := some 33, op := Go.Op.load 32 (Go.Operand.tmp 32), type := 32, pos := "l06_parsing.go:339", after := #[{ on := 15, ground := Go.Ground.data }, { on := 6, ground := Go.Ground.guard }], guard := some (6, false) }) (v := ?v50) rfl (by kernel_rfl) (by kernel_rfl) (by kernel_rfl) (fun _ _ _ h => h) (Or.inl ⟨by rfl, ?h50⟩) hHeld ?r50
    case h50 => (intro w hSw; (try dsimp only at hSw); go_simp; try with_reducible rfl)
    try simp only [Act.put, List.setIfInBounds_toArray, List.set_cons_zero, List.set_cons_succ]
    refine wpAnyH_take (i := 17) (oi := { dst := some 34, op := Go.Op.call { callee := Go.Callee.builtin Go.Builtin.len, args := #[Go.Operand.tmp 33], argTypes := #[32] }, type := 3, pos := "l06_parsing.go:339", after := #[{ on := 16, ground := Go.Ground.data }, { on := 6, ground := Go.Ground.guard }], guard := some (6, false) }) (v := ?v51) rfl (by kernel_rfl) (by kernel_rfl) (by kernel_rfl) (fun _ _ _ h => h) (Or.inl ⟨by rfl, ?h51⟩) hHeld ?r51
    case h51 => (intro w hSw; (try dsimp only at hSw); go_simp; try with_reducible rfl)
    try simp only [Act.put, List.setIfInBounds_toArray, List.set_cons_zero, List.set_cons_succ]
    refine wpAnyH_take (i := 18) (oi := { dst := some 35, op := Go.Op.binOp Go.BinOp.sub 3 (Go.Operand.tmp 34) (Go.Operand.const (Go.Value.int Go.IntKind.i64 1)) 3, type := 3, pos := "l06_parsing.go:339", after := #[{ on := 17, ground := Go.Ground.data }, { on := 6, ground := Go.Ground.guard }], guard := some (6, false) }) (v := ?v52) rfl (by kernel_rfl) (by kernel_rfl) (by kernel_rfl) (fun _ _ _ h => h) (Or.inl ⟨by rfl, ?h52⟩) hHeld ?r52
    case h52 => (intro w hSw; (try dsimp only at hSw); go_simp; try with_reducible rfl)
    try simp only [Act.put, List.setIfInBounds_toArray, List.set_cons_zero, List.set_cons_succ]
    refine wpAnyH_ready (rs := [19]) (by kernel_rfl) (by simp) ?_
    refine AllReadyH.cons (o := { dst := some 36, op := Go.Op.call { callee := Go.Callee.value (Go.Operand.func 65), args := #[Go.Operand.tmp 28, Go.Operand.const (Go.Value.int Go.IntKind.i64 0), Go.Operand.tmp 35], argTypes := #[27, 3, 3] }, type := 4, pos := "l06_parsing.go:339", after := #[{ on := 11, ground := Go.Ground.data }, { on := 18, ground := Go.Ground.data }, { on := 6, ground := Go.Ground.chain }, { on := 6, ground := Go.Ground.guard }], guard := some (6, false) }) rfl (fun K hK => ?_) AllReadyH.nil
    go_simp
    refine Calls.mono (HWI.out _ (by first | exact n0 | exact n0d)) ?_
    rintro e w2 ⟨rfl, rfl⟩
    dsimp only
    clear hHeld
    refine hK.out _ _ hS0 (fun hHeld => ?_)
    clear hK K
    try simp only [Act.put, List.setIfInBounds_toArray, List.set_cons_zero, List.set_cons_succ]
    refine wpAnyH_take (i := 20) (oi := { dst := some 37, op := Go.Op.unOp Go.UnOp.not 4 (Go.Operand.tmp 36), type := 4, pos := "l06_parsing.go:339", after := #[{ on := 19, ground := Go.Ground.data }, { on := 6, ground := Go.Ground.guard }], guard := some (6, false) }) (v := ?v53) rfl (by kernel_rfl) (by kernel_rfl) (by kernel_rfl) (fun _ _ _ h => h) (Or.inl ⟨by rfl, ?h53⟩) hHeld ?r53
    case h53 => (intro w hSw; (try dsimp only at hSw); go_simp; try with_reducible rfl)
    try simp only [Act.put, List.setIfInBounds_toArray, List.set_cons_zero, List.set_cons_succ]
    refine wpAnyH_take (i := 21) (oi := { dst := some 38, op := Go.Op.pick (Go.Operand.tmp 23) (Go.Operand.const (Go.Value.bool true)) (Go.Operand.tmp 37), type := 4, pos := "l06_parsing.go:339", after := #[{ on := 6, ground := Go.Ground.data }, { on := 20, ground := Go.Ground.data }], guard := none }) (v := ?v54) rfl (by kernel_rfl) (by kernel_rfl) (by kernel_rfl) (fun _ _ _ h => h) (Or.inl ⟨by rfl, ?h54⟩) hHeld ?r54
    case h54 => (intro w hSw; (try dsimp only at hSw); go_simp; try with_reducible rfl)
    try simp only [Act.put, List.setIfInBounds_toArray, List.set_cons_zero, List.set_cons_succ]
    refine wpAnyH_take (i := 22) (oi := { dst := some 39, op := Go.Op.move (Go.Operand.tmp 38), type := 4, pos := "l06_parsing.go:339", after := #[{ on := 21, ground := Go.Ground.data }, { on := 19, ground := Go.Ground.chain }], guard := none }) (v := ?v55) rfl (by kernel_rfl) (by kernel_rfl) (by kernel_rfl) (fun _ _ _ h => h) (Or.inl ⟨by rfl, ?h55⟩) hHeld ?r55
    case h55 => (intro w hSw; (try dsimp only at hSw); go_simp; try with_reducible rfl)
    try simp only [Act.put, List.setIfInBounds_toArray, List.set_cons_zero, List.set_cons_succ]
    refine wpAnyH_take (i := 23) (oi := { dst := some 40, op := Go.Op.move (Go.Operand.tmp 0), type := 105, pos := "l06_parsing.go:339", after := #[{ on := 22, ground := Go.Ground.guard }], guard := some (22, false) }) (v := ?v56) rfl (by kernel_rfl) (by kernel_rfl) (by kernel_rfl) (fun _ _ _ h => h) (Or.inl ⟨by rfl, ?h56⟩) hHeld ?r56
    case h56 => (intro w hSw; (try dsimp only at hSw); go_simp; try with_reducible rfl)
    try simp only [Act.put, List.setIfInBounds_toArray, List.set_cons_zero, List.set_cons_succ]
    refine wpAnyH_take (i := 24) (oi := { dst := some 41, op := Go.Op.nilCheck (Go.Operand.tmp 40), type := 0, pos := "l06_parsing.go:339", after := #[{ on := 23, ground := Go.Ground.data }, { on := 22, ground := Go.Ground.guard }], guard := some (22, false) }) (v := ?v57) rfl (by kernel_rfl) (by kernel_rfl) (by kernel_rfl) (fun _ _ _ h => h) (Or.inl ⟨by rfl, ?h57⟩) hHeld ?r57
    case h57 => (intro w hSw; (try dsimp only at hSw); go_simp; try with_reducible rfl)
    try simp only [Act.put, List.setIfInBounds_toArray, List.set_cons_zero, List.set_cons_succ]
    refine wpAnyH_take (i := 25) (oi := { dst := some 42, op := Go.Op.fieldAddr 87 (Go.Operand.tmp 41) 0, type := 0, pos := "l06_parsing.go:339", after := #[{ on := 24, ground := Go.Ground.data }, { on := 22, ground := Go.Ground.guard }], guard := some (22, false) }) (v := ?v58) rfl (by kernel_rfl) (by kernel_rfl) (by kernel_rfl) (fun _ _ _ h => h) (Or.inl ⟨by rfl, ?h58⟩) hHeld ?r58
    case h58 => (intro w hSw; (try dsimp only at hSw); go_simp; try with_reducible rfl)
    try simp only [Act.put, List.setIfInBounds_toArray, List.set_cons_zero, List.set_cons_succ]
    refine wpAnyH_take (i := 26) (oi := { dst := some 43, op := Go.Op.fieldAddr 34 (Go.Operand.tmp 42) 3, type := 0, pos := "l06_parsing.go:339", after := #[{ on := 25, ground := Go.Ground.data }, { on := 22, ground := Go.Ground.guard }], guard := some (22, false) }) (v := ?v59) rfl (by kernel_rfl) (by kernel_rfl) (by kernel_rfl) (fun _ _ _ h => h) (Or.inl ⟨by rfl, ?h59⟩) hHeld ?r59
    case h59 => (intro w hSw; (try dsimp only at hSw); go_simp; try with_reducible rfl)
    try simp only [Act.put, List.setIfInBounds_toArray, List.set_cons_zero, List.set_cons_succ]
    refine wpAnyH_take (i := 27) (oi := { dst := some 44, op := Go.Op.load 32 (Go.Operand.tmp 43), type := 32, pos := "l06_parsing.go:339", after := #[{ on := 26, ground := Go.Ground.data }, { on := 22, ground := Go.Ground.guard }], guard := some (22, false) }) (v := ?v60) rfl (by kernel_rfl) (by kernel_rfl) (by kernel_rfl) (fun _ _ _ h => h) (Or.inl ⟨by rfl, ?h60⟩) hHeld ?r60
    case h60 => (intro w hSw; (try dsimp only at hSw); go_simp; try with_reducible rfl)
    try simp only [Act.put, List.setIfInBounds_toArray, List.set_cons_zero, List.set_cons_succ]
    refine wpAnyH_take (i := 28) (oi := { dst := some 45, op := Go.Op.move (Go.Operand.tmp 0), type := 105, pos := "l06_parsing.go:339", after := #[{ on := 22, ground := Go.Ground.guard }], guard := some (22, false) }) (v := ?v61) rfl (by kernel_rfl) (by kernel_rfl) (by kernel_rfl) (fun _ _ _ h => h) (Or.inl ⟨by rfl, ?h61⟩) hHeld ?r61
    case h61 => (intro w hSw; (try dsimp only at hSw); go_simp; try with_reducible rfl)
    try simp only [Act.put, List.setIfInBounds_toArray, List.set_cons_zero, List.set_cons_succ]
    refine wpAnyH_take (i := 29) (oi := { dst := some 46, op := Go.Op.nilCheck (Go.Operand.tmp 45), type := 0, pos := "l06_parsing.go:339", after := #[{ on := 28, ground := Go.Ground.data }, { on := 22, ground := Go.Ground.guard }], guard := some (22, false) }) (v := ?v62) rfl (by kernel_rfl) (by kernel_rfl) (by kernel_rfl) (fun _ _ _ h => h) (Or.inl ⟨by rfl, ?h62⟩) hHeld ?r62
    case h62 => (intro w hSw; (try dsimp only at hSw); go_simp; try with_reducible rfl)
    try simp only [Act.put, List.setIfInBounds_toArray, List.set_cons_zero, List.set_cons_succ]
    refine wpAnyH_take (i := 30) (oi := { dst := some 47, op := Go.Op.fieldAddr 87 (Go.Operand.tmp 46) 1, type := 0, pos := "l06_parsing.go:339", after := #[{ on := 29, ground := Go.Ground.data }, { on := 22, ground := Go.Ground.guard }], guard := some (22, false) }) (v := ?v63) rfl (by kernel_rfl) (by kernel_rfl) (by kernel_rfl) (fun _ _ _ h => h) (Or.inl ⟨by rfl, ?h63⟩) hHeld ?r63
    case h63 => (intro w hSw; (try dsimp only at hSw); go_simp; try with_reducible rfl)
    try simp only [Act.put, List.setIfInBounds_toArray, List.set_cons_zero, List.set_cons_succ]
    refine wpAnyH_take (i := 31) (oi := { dst := some 48, op := Go.Op.load 27 (Go.Operand.tmp 47), type := 27, pos := "l06_parsing.go:339", after := #[{ on := 30, ground := Go.Ground.data }, { on := 22, ground := Go.Ground.guard }], guard := some (22, false) }) (v := ?v64) rfl (by kernel_rfl) (by kernel_rfl) (by kernel_rfl) (fun _ _ _ h => h) (Or.inl ⟨by rfl, ?h64⟩) hHeld ?r64
    case h64 => (intro w hSw; (try dsimp only at hSw); go_simp; try with_reducible rfl)
    try simp only [Act.put, List.setIfInBounds_toArray, List.set_cons_zero, List.set_cons_succ]
    refine wpAnyH_take (i := 32) (oi := { dst := some 49, op := Go.Op.indexAddr 27 (Go.Operand.tmp 48) (Go.Operand.const (Go.Value.int Go.IntKind.i64 0)), type := 0, pos := "l06_parsing.go:339", after := #[{ on := 31, ground := Go.Ground.data }, { on := 22, ground := Go.Ground.guard }], guard := some (22, false) }) (v := ?v65) rfl (by kernel_rfl) (by kernel_rfl) (by kernel_rfl) (fun _ _ _ h => h) (Or.inl ⟨by rfl, ?h65⟩) hHeld ?r65
    case h65 => (intro w hSw; (try dsimp only at hSw); go_simp; try with_reducible rfl)
    try simp only [Act.put, List.setIfInBounds_toArray, List.set_cons_zero, List.set_cons_succ]
    refine wpAnyH_take (i := 33) (oi := { dst := some 50, op := Go.Op.load 3 (Go.Operand.tmp 49), type := 3, pos := "l06_parsing.go:339", after := #[{ on := 32, ground := Go.Ground.data }, { on := 22, ground := Go.Ground.guard }], guard := some (22, false) }) (v := ?v66) rfl (by kernel_rfl) (by kernel_rfl) (by kernel_rfl) (fun _ _ _ h => h) (Or.inl ⟨by rfl, ?h66⟩) hHeld ?r66
    case h66 => (intro w hSw; (try dsimp only at hSw); go_simp; try with_reducible rfl)
    try simp only [Act.put, List.setIfInBounds_toArray, List.set_cons_zero, List.set_cons_succ]
    refine wpAnyH_take (i := 34) (oi := { dst := some 51, op := Go.Op.indexAddr 32 (Go.Operand.tmp 44) (Go.Operand.tmp 50), type := 0, pos := "l06_parsing.go:339", after := #[{ on := 27, ground := Go.Ground.data }, { on := 33, ground := Go.Ground.data }, { on := 22, ground := Go.Ground.guard }], guard := some (22, false) }) (v := ?v67) rfl (by kernel_rfl) (by kernel_rfl) (by kernel_rfl) (fun _ _ _ h => h) (Or.inl ⟨by rfl, ?h67⟩) hHeld ?r67
    case h67 => (intro w hSw; (try dsimp only at hSw); go_simp; try with_reducible rfl)
    try simp only [Act.put, List.setIfInBounds_toArray, List.set_cons_zero, List.set_cons_succ]
    refine wpAnyH_take (i := 35) (oi := { dst := some 52, op := Go.Op.fieldAddr 66 (Go.Operand.tmp 51) 0, type := 0, pos := "l06_parsing.go:339", after := #[{ on := 34, ground := Go.Ground.data }, { on := 22, ground := Go.Ground.guard }], guard := some (22, false) }) (v := ?v68) rfl (by kernel_rfl) (by kernel_rfl) (by kernel_rfl) (fun _ _ _ h => h) (Or.inl ⟨by rfl, ?h68⟩) hHeld ?r68
    case h68 => (intro w hSw; (try dsimp only at hSw); go_simp; try with_reducible rfl)
    try simp only [Act.put, List.setIfInBounds_toArray, List.set_cons_zero, List.set_cons_succ]
    refine wpAnyH_take (i := 36) (oi := { dst := some 53, op := Go.Op.load 3 (Go.Operand.tmp 52), type := 3, pos := "l06_parsing.go:339", after := #[{ on := 35, ground := Go.Ground.data }, { on := 22, ground := Go.Ground.guard }], guard := some (22, false) }) (v := ?v69) rfl (by kernel_rfl) (by kernel_rfl) (by kernel_rfl) (fun _ _ _ h => h) (Or.inl ⟨by rfl, ?h69⟩) hHeld ?r69
    case h69 => (intro w hSw; (try dsimp only at hSw); go_simp; try with_reducible rfl)
    try simp only [Act.put, List.setIfInBounds_toArray, List.set_cons_zero, List.set_cons_succ]
    refine wpAnyH_take (i := 37) (oi := { dst := some 54, op := Go.Op.move (Go.Operand.tmp 1), type := 3, pos := "l06_parsing.go:339", after := #[{ on := 22, ground := Go.Ground.guard }], guard := some (22, false) }) (v := ?v70) rfl (by kernel_rfl) (by kernel_rfl) (by kernel_rfl) (fun _ _ _ h => h) (Or.inl ⟨by rfl, ?h70⟩) hHeld ?r70
    case h70 => (intro w hSw; (try dsimp only at hSw); go_simp; try with_reducible rfl)
    try simp only [Act.put, List.setIfInBounds_toArray, List.set_cons_zero, List.set_cons_succ]
    refine wpAnyH_take (i := 38) (oi := { dst := some 55, op := Go.Op.binOp Go.BinOp.neq 3 (Go.Operand.tmp 53) (Go.Operand.tmp 54) 3, type := 4, pos := "l06_parsing.go:339", after := #[{ on := 36, ground := Go.Ground.data }, { on := 37, ground := Go.Ground.data }, { on := 22, ground := Go.Ground.guard }], guard := some (22, false) }) (v := ?v71) rfl (by kernel_rfl) (by kernel_rfl) (by kernel_rfl) (fun _ _ _ h => h) (Or.inl ⟨by rfl, ?h71⟩) hHeld ?r71
    case h71 => (intro w hSw; (try dsimp only at hSw); go_simp; try with_reducible rfl)
    try simp only [Act.put, List.setIfInBounds_toArray, List.set_cons_zero, List.set_cons_succ]
    refine wpAnyH_take (i := 39) (oi := { dst := some 56, op := Go.Op.pick (Go.Operand.tmp 39) (Go.Operand.const (Go.Value.bool true)) (Go.Operand.tmp 55), type := 4, pos := "l06_parsing.go:339", after := #[{ on := 22, ground := Go.Ground.data }, { on := 38, ground := Go.Ground.data }], guard := none }) (v := ?v72) rfl (by kernel_rfl) (by kernel_rfl) (by kernel_rfl) (fun _ _ _ h => h) (Or.inl ⟨by rfl, ?h72⟩) hHeld ?r72
    case h72 => (intro w hSw; (try dsimp only at hSw); go_simp; try with_reducible rfl)
    try simp only [Act.put, List.setIfInBounds_toArray, List.set_cons_zero, List.set_cons_succ]
    refine wpAnyH_done (by kernel_rfl) ?_ _
    by_cases hls : P.left = s
    · have i3 : (P.left != s) = false := by simp [hls]
      have HRD : Hid (rd d L (f + 1) s a = atP d L f a (pa d L a).right.length) := rd_yes (by rw [HOK.out]; simp [hls])
      have hx4 := HS0.out.2.1
      have hn0 := HS0.out.2.2.1
      have hlr := HRI.out.lt
      have hal : a < L.length := by have := HEN.out; omega
      have HX := (show Hid _ from fun (an1 : Option Addr) (hn1 : c ≠ 1 → an1 = some ⟨bn, on + 1, none⟩) => (show Kp w.heap.size R w (w.setCell ⟨R, 4, none⟩ (.slice an1 (N - 1) (c - 1))).drew ∧ RdI d L S R (.slice a0 d.terms.length c0) (.slice a1 d.nons.length c1) (.slice (some ⟨bp, op, none⟩) d.prods.length c3) (w.setCell ⟨R, 4, none⟩ (.slice an1 (N - 1) (c - 1))).drew (a + 1) from by
        have hq : ∀ q, S q → q < w.heap.size → (w.setCell ⟨R, 4, none⟩ (.slice an1 (N - 1) (c - 1))).heap[q]? = w.heap[q]? := fun q hq hlt => by
          have := HNS.out q hq
          exact Below.heap_setCell _ _ _ _ (by show q ≠ R; omega)
        refine ⟨Kp.drew (Kp.setCell (Kp.refl w.heap.size R w) (.inl rfl) _), ⟨⟨_, (Box.set HBX.out 4 (.slice an1 (N - 1) (c - 1))).keep rfl, ?_⟩, ?_, HNS.out⟩⟩
        · have h1 := Num.next HNU.out hal an1 hn1
          rw [HEN.out] at h1
          exact h1.keep hq
        · exact HLI.out.keep' hq))
      have z4 : w.frozen? ⟨R, 4, none⟩ = false := HBX.out.frozen 4
      have HCELL := (show Hid _ from fun (w' : World) (hk : Kp w.heap.size R w w') (q o : Nat) (v : Value) (hS : S q) (h : w.cell? ⟨q, o, none⟩ = some v) => (show w'.cell? ⟨q, o, none⟩ = some v from (hk.cell (p := ⟨q, o, none⟩) (lt_of_cell h) (by show q ≠ R; have := HNS.out q hS; omega)).trans h))
      have HSP := (show Hid _ from hSp)
      have HA0 := (show Hid _ from atP_zero d L f a)
      have HLF := (show Hid (L.length - a < f + 1) from hf)
      clear hls n0d HWI HOK hHeld hS0 n0 hSp
      go_upto_region 6 with fail
      go_cut [5] from 65 to 72 (fun v wx => v = .int .i64 (k : Nat) ∧ Hid (Kp w.heap.size R w wx ∧ RdI d L S R (.slice a0 d.terms.length c0) (.slice a1 d.nons.length c1) (.slice (some ⟨bp, op, none⟩) d.prods.length c3) wx (a + 1)))
      case first =>
        clear IH HCELL HRI HNU HCE HPR HBX HLI
        obtain ⟨an1, hif⟩ : ∃ an1, (if c = 1 then (some ⟨bn, on, none⟩ : Option Addr) else some ⟨bn, on + 1, none⟩) = an1 := ⟨_, rfl⟩
        have HY := (show Hid _ from HX.out an1 (fun h => by rw [← hif, if_neg h]))
        go_wp2_with fail
        go_meet
        exact ⟨rfl, HY⟩
      case rest =>
        obtain ⟨w6, rfl⟩ : ∃ w6, w6 = wc := ⟨_, rfl⟩
        obtain ⟨rfl, HC6⟩ := hcut
        obtain ⟨⟨vn6, hb6, _⟩, _, _⟩ := HC6.out.2
        have y3 : w6.cell? ⟨R, 3, none⟩ = some (.slice (some ⟨bp, op, none⟩) d.prods.length c3) := hb6.cell 3 (by simp)
        have q1' := HCELL.out w6 HC6.out.1 bp _ _ HSP.out HQ1.out
        have HI0 : Hid (∀ n, LI d L S R (.slice a0 d.terms.length c0) (.slice a1 d.nons.length c1) (.slice (some ⟨bp, op, none⟩) d.prods.length c3) w (w6.drewN n) f a 0 (a + 1) (.slice none 0 0) [] (fun _ => False)) := fun n => ⟨HC6.out.1.drewN n, hlr, HC6.out.2.keep (fun _ _ => rfl), World.ownsRow_nil _ _ _ _, DS.nil _ _ _ _ _ _, fun q h => h.elim⟩
        rw [i3]
        clear hb6 z4 hx4 hn0 HX HS0 HQ1 i3
        obtain ⟨i71, hi71, hzz⟩ := Option.map_eq_some_iff.1 info71p
        simp only [Prod.mk.injEq] at hzz
        obtain ⟨hz0, hz1, hz2⟩ := hzz
        go_wp2_with fail
        go_loopw [6, 83] (fun u i wr => ∃ j x : Nat, i = .int .i64 j ∧ j ≤ P.right.length ∧ Hid (atP d L f a j = some x ∧ ∃ (vs : List Value) (K : Nat → Prop), LI d L S R (.slice a0 d.terms.length c0) (.slice a1 d.nons.length c1) (.slice (some ⟨bp, op, none⟩) d.prods.length c3) w wr f a j x u vs K)) (fun _ i _ => P.right.length - (intOf i).toNat)
        case atStart => exact ⟨0, a + 1, rfl, Nat.zero_le _, HA0.out, _, _, HI0.out 0⟩
        case round =>
          obtain ⟨j, x, rfl, hj, HJ⟩ := hrel
          obtain ⟨hxj, vs, K, hLI⟩ := HJ.out
          have HLI := (show Hid _ from hLI)
          have HXJ := (show Hid _ from hxj)
          clear hLI hxj HJ
          by_cases hlt : j < P.right.length
          · have hltA : j < (pa d L a).right.length := by rw [HP.out]; exact hlt
            obtain ⟨e1, hSi, r0, r1, r2⟩ := HRI2.out j hltA
            subst e1
            have r0' := HCELL.out wr HLI.out.kp bi _ _ hSi r0
            obtain ⟨y, hy⟩ : ∃ y, (pa d L a).right[j] = y := ⟨_, rfl⟩
            rw [hy] at r0' r1 r2
            have HY := (show Hid _ from hy)
            have hge : a + 1 ≤ x := (rdk_ge (rd_gt d L f) _ _ _ (show rdk d.terms.length (rd d L f) ((pa d L a).right.take j) (a + 1) = some x from HXJ.out)).1
            have hsucc := atP_succ d L f a j hltA
            rw [HXJ.out, hy] at hsucc
            simp only [Option.bind_some] at hsucc
            have HRW : RdI d L S R (.slice a0 d.terms.length c0) (.slice a1 d.nons.length c1) (.slice (some ⟨bp, op, none⟩) d.prods.length c3) wr x := HLI.out.rd
            have HSW : (∃ x', atP d L f a (j + 1) = some x' ∧ Calls Try.prog 50 #[.pointer (some ⟨R, 0, none⟩), .int .i64 y] wr fun e w1 => ∃ pv : Option Addr, e = .returned (.pointer pv) ∧ Kp wr.heap.size R wr w1 ∧ RdI d L S R (.slice a0 d.terms.length c0) (.slice a1 d.nons.length c1) (.slice (some ⟨bp, op, none⟩) d.prods.length c3) w1 x' ∧ (y < (d.terms.length : Int) → pv = none) ∧ (¬ y < (d.terms.length : Int) → DP d L w1 (fun q => wr.heap.size ≤ q ∧ q < w1.heap.size) f x (.pointer pv))) ∨ (atP d L f a (j + 1) = none ∧ Calls Try.prog 50 #[.pointer (some ⟨R, 0, none⟩), .int .i64 y] wr fun e w1 => e = .panicked [flt] ∧ Kp w.heap.size R w w1) := by
              by_cases hyt : y < (d.terms.length : Int)
              · rw [if_pos hyt] at hsucc
                exact .inl ⟨x, hsucc, Calls.mono (read_t y x wr HRW hyt) (fun e w1 ⟨h1, h2⟩ => ⟨none, h1, by rw [h2]; exact Kp.refl _ _ _, by rw [h2]; exact HRW, fun _ => rfl, fun h => absurd hyt h⟩)⟩
              · rw [if_neg hyt] at hsucc
                have hcl := IH.out y x wr HRW (by have := HLF.out; omega) r1 r2 (by omega)
                cases hrd : rd d L f y x with
                | none =>
                  rw [hrd] at hsucc
                  exact .inr ⟨hsucc, Calls.mono hcl (fun e w1 ⟨h1, h2, h3⟩ => ⟨h2 hrd, HLI.out.kp.trans (h1.mono HLI.out.kp.size)⟩)⟩
                | some b =>
                  rw [hrd] at hsucc
                  exact .inl ⟨b, hsucc, Calls.mono hcl (fun e w1 ⟨h1, h2, h3⟩ => by
                    obtain ⟨v, e1, e2, e3⟩ := h3 b hrd
                    have hv : ∃ pv, v = .pointer pv := by
                      cases f with
                      | zero => exact e3.elim
                      | succ f => obtain ⟨g, _, _, _, _, _, hv, _⟩ := e3; exact ⟨_, hv⟩
                    obtain ⟨pv, rfl⟩ := hv
                    exact ⟨pv, e1, h1, e2, fun h => absurd h hyt, fun _ => e3⟩)⟩
            have hjm : j ≤ 12 := by omega
            clear hsucc HRW r0 hSi hy
            rcases HSW with ⟨x', hx', hcall⟩ | ⟨hx0, hcall⟩
            · have HXN := (show Hid _ from hx')
              have HCALL := (show Hid _ from hcall)
              clear hx' hcall
              go_wp2_with fail
              refine Calls.mono HCALL.out ?_
              rintro e w1 ⟨pv, rfl, hk1, hr1, ht1, hn1⟩
              have HOW : Hid ((w1.alloc (.cells #[.pointer pv] 55)).ownsRow w.heap.size 55 1 u6 j vs) := own_keep HLI.out.own (fun q hq => by have h1 := World.ownsRow.lt HLI.out.own q hq; rw [Below.heap_alloc _ _ _ (by have := hk1.size; omega)]; exact hk1.block q h1.2 (by have := HLI.out.rl; omega))
              have hbs : w.heap.size ≤ (w1.alloc (.cells #[.pointer pv] 55)).heap.size := by have h1 := HLI.out.kp.size; have h2 := hk1.size; simp; omega
              have HF1 := (show Hid _ from (⟨hk1, hr1, ht1, hn1⟩ : _ ∧ _ ∧ _ ∧ _))
              have HBS := (show Hid _ from hbs)
              clear hk1 hr1 ht1 hn1 hbs
              go_wp2_with (at_builtin; refine wpList_append_lies _ rfl (.tmp 87) (.tmp 91) 89 rfl w.heap.size 55 i71 _ 1 8 Try.underlying89 hi71 hz0 hz1 hz2 rfl (by decide) _ j _ rfl HOW.out ⟨w1.heap.size, 0, none⟩ 1 1 [.pointer pv] rfl rfl ?c1 ?c2 (by decide) ?c3 (by omega) ?c4 _ rfl ?nx)
              case c1 => exact cell_one_new _ _ _
              case c2 => intro y hy; simp at hy; subst hy; rfl
              case c3 => unfold maxLen; omega
              case c4 => exact HBS.out
              case nx =>
                intro g7 cap7 w7 hown7 hgr7 hat7 hlt7
                have HLN := (show Hid _ from LI.step (v := .pointer pv) (x' := x') (cp := cap7) HLI.out HF1.out.1 HF1.out.2.1 hltA HXJ.out (fun h => by rw [HF1.out.2.2.1 (by rw [← HY.out]; exact h)]) (fun h => HF1.out.2.2.2 (by rw [← HY.out]; omega)) hgr7 hown7 (by simpa using hat7))
                clear hown7 hgr7 hat7 hlt7
                go_wp2_with fail
                exact ⟨⟨j + 1, x', by go_num, by omega, HXN.out, _, _, HLN.out⟩, by simp [intOf]; omega⟩
            · have HCALL := (show Hid _ from hcall)
              have hR : rd d L (f + 1) s a = none := HRD.out.trans (atP_none hx0)
              have HA : Hid (∀ w', Kp w.heap.size R w w' → RdA d L S R (.slice a0 d.terms.length c0) (.slice a1 d.nons.length c1) (.slice (some ⟨bp, op, none⟩) d.prods.length c3) (f + 1) s a w (.panicked [flt]) w') := fun w' hk => ⟨hk, fun _ => rfl, fun b hb => by rw [hR] at hb; cases hb⟩
              clear hcall hx0 hR
              go_wp2_with fail
              refine Calls.mono HCALL.out ?_
              rintro e w1 ⟨rfl, hk1⟩
              go_wp2_with fail
              exact ⟨rfl, HA.out _ hk1⟩
          · have hje : j = (pa d L a).right.length := by rw [HP.out]; omega
            have HE : Hid (∀ (w' : World) (z : Int), Below wr.heap.size wr w' → 0 ≤ z → z ≤ 1073741825 → Box w' wr.heap.size 91 [.int .i64 (k : Nat), u6, .int .i64 z, .bool false, .int .i64 0] → RdA d L S R (.slice a0 d.terms.length c0) (.slice a1 d.nons.length c1) (.slice (some ⟨bp, op, none⟩) d.prods.length c3) (f + 1) s a w (.returned (.pointer (some ⟨wr.heap.size, 0, none⟩))) w') := fun w' z hb hz0 hz1 hbx => by
              have h1 := HLI.out
              have h2 := HXJ.out
              rw [hje] at h1 h2
              obtain ⟨k1, k2, k3⟩ := h1.done h2 HZ.out hb hz0 hz1 hbx
              refine ⟨k1, fun h => ?_, fun b hb => ⟨_, rfl, ?_, k3⟩⟩
              · rw [HRD.out, h2] at h; cases h
              · rw [HRD.out, h2] at hb
                simp only [Option.some.injEq] at hb
                rw [← hb]
                exact k2
            have HDB := (show Hid _ from derivedBy_any (k : Nat) w.heap.size u6 j vs wr HLI.out.own HLI.out.ds.len (by omega) (fun i hi => HLI.out.ds.kidOk (by omega) i hi))
            clear hje
            go_wp2_with fail
            refine Calls.mono HDB.out ?_
            rintro e w8 ⟨rfl, hb8, z, hz0', hz1', hbx8⟩
            have HE2 := (show Hid _ from HE.out w8 z hb8 hz0' hz1' hbx8)
            clear hb8 hz0' hz1' hbx8
            go_wp2_with fail
            go_ret
            exact HE2.out
    · have i3 : (P.left != s) = true := by simp [hls]
      have hR : rd d L (f + 1) s a = none := rd_no (by rw [HOK.out, decide_eq_false hls])
      have HA : Hid (∀ w', Kp w.heap.size R w w' → RdA d L S R (.slice a0 d.terms.length c0) (.slice a1 d.nons.length c1) (.slice (some ⟨bp, op, none⟩) d.prods.length c3) (f + 1) s a w (.panicked [flt]) w') := fun w' hk => ⟨hk, fun _ => rfl, fun b hb => by rw [hR] at hb; cases hb⟩
      clear hR hls HRI HNU HCE HPR HBX HLI IH HNS HOK HP HPA
      go_wp2_with fail
      exact ⟨rfl, HA.out _ (Kp.drew (Kp.refl _ _ _))⟩
end Go.Proofs.Ytaimlmjgicmbeaa
