import Derived.Test.YtpmlagenakcdfaaDe0
import Derived.BigQuiet
import Derived.WalkLawsBesides
import Derived.BigRegion
import Derived.Deep.CutRange
import Derived.Deep.RegionHeld3
/-! The program: isGood. -/
namespace Go.Proofs.Ytpmlagenakcdfaa
open Go.RowKit Go.Deep
set_option linter.unusedVariables false
set_option maxRecDepth 100000
set_option linter.unusedSimpArgs false

theorem DP_form {d : Bn} {L : List Int} {w : World} {K : Nat → Prop} {f a : Nat} {v : Value} (h : DP d L w K f a v) : ∃ gq, v = .pointer (some ⟨gq, 0, none⟩) ∧ w.cell? ⟨gq, 0, none⟩ = some (.int .i64 (numAt L a)) := by
  cases f with
  | zero => exact h.elim
  | succ f =>
    obtain ⟨g, kb, kc, ka, vs, ats, h1, h2, h3, _⟩ := h
    exact ⟨g, h1, h3⟩
set_option maxHeartbeats 25600000 in
theorem good_i {S K : Nat → Prop} (d : Bn) (L : List Int) (hok : bnB d = true) : ∀ (f a b : Nat) (s : Int) (v0 v1 v3 v : Value) (w : World), BLies w S d v0 v1 v3 → DP d L w K f a v → rd d L f s a = some b →
    Calls Try.prog 45 #[v, .agg #[v0, v1, .int .i64 d.own, v3]] w fun e w' => e = .returned (.bool (gd d L f a)) ∧ Below w.heap.size w w' := by
  intro f
  induction f with
  | zero => intro a b s v0 v1 v3 v w h hp hr; cases hr
  | succ f ih =>
  intro a b s v0 v1 v3 v w h hp hr
  have IH := (show Hid _ from ih)
  clear ih
  obtain ⟨ho, hend⟩ := rd_succ hr
  obtain ⟨k, hk, hnum, hpa, hleft, hal⟩ := okAt_prod ho
  obtain ⟨g, kb, kc, ka, vs, ats, rfl, hKg, u0, u1, hkc, hka, hkid, _⟩ := hp
  rw [hnum] at u0
  obtain ⟨hT, jk1, jk2, jk3, jk4, hPn⟩ := szB_of hok
  clear jk1 jk2 jk3 jk4
  have HLB := (show Hid _ from h)
  obtain ⟨a0, c0, a1, c1, a3', c3', rfl, rfl, jk0⟩ := h.form
  clear jk0 a3' c3'
  obtain ⟨a3, c3, bp, op, rfl, hcp, hpr⟩ := prod_cells h
  obtain ⟨rfl, ai, ci, bi, oi, q0, q1, q2, q3, q4, hci, hri⟩ := hpr k hk
  obtain ⟨jk1, jk2, hl12, hrr, hl0, hl8⟩ := pd_of hok hk
  clear jk1 jk2 hrr hri
  rw [← hpa] at q0 q1 q2 q3 q4 hl12 hl0 hl8 hci
  have HKA := (show Hid _ from fun (i x : Nat) (hi : i < (pa d L a).right.length) (hx : atP d L f a i = some x) => kid_at hend hi hx)
  have HKD := (show Hid _ from hkid)
  have HKB := (show Hid _ from hka)
  have HG : Hid (gd d L (f + 1) a = gk d L (rd d L f) (gd d L f) (pa d L a) 0 ((pa d L a).right.drop 0) (a + 1)) := rfl
  have HGK := (show Hid _ from fun (i x : Nat) (hi : i < (pa d L a).right.length) => gk_drop d L (rd d L f) (gd d L f) (pa d L a) i x hi)
  have HGE := (show Hid _ from fun (i x : Nat) (hi : (pa d L a).right.length ≤ i) => gk_end d L (rd d L f) (gd d L f) (pa d L a) i x hi)
  have HA0 := (show Hid (atP d L f a 0 = some (a + 1)) from atP_zero d L f a)
  have HPR := (show Hid _ from hpr)
  have HOK := (show Hid _ from hok)
  have hkp : k ≤ 120 := by omega
  clear hkid hka hend hr ho h hleft hpr hnum hpa hok hal
  generalize gd d L (f + 1) a = G at *
  generalize pa d L a = P at *
  have hb1 := bel_alloc w (.cells #[.slice a0 d.terms.length c0, .slice a1 d.nons.length c1, .int .i64 d.own, .slice (some ⟨bp, op, none⟩) d.prods.length c3] 34)
  have hx := four_box w (.slice a0 d.terms.length c0) (.slice a1 d.nons.length c1) (.int .i64 d.own) (.slice (some ⟨bp, op, none⟩) d.prods.length c3) 34
  have HX := (show Hid _ from hx)
  have HS1 := (show Hid _ from fun (w' : World) (hb : Below (w.alloc (.cells #[.slice a0 d.terms.length c0, .slice a1 d.nons.length c1, .int .i64 d.own, .slice (some ⟨bp, op, none⟩) d.prods.length c3] 34)).heap.size (w.alloc (.cells #[.slice a0 d.terms.length c0, .slice a1 d.nons.length c1, .int .i64 d.own, .slice (some ⟨bp, op, none⟩) d.prods.length c3] 34)) w') => (⟨(hx.still hb).2.2.2, (((hb1.trans (hb.mono hb1.size)).cell (lt_of_cell u0)).trans u0), (((hb1.trans (hb.mono hb1.size)).cell (lt_of_cell u1)).trans u1), (((hb1.trans (hb.mono hb1.size)).cell (lt_of_cell q0)).trans q0), (((hb1.trans (hb.mono hb1.size)).cell (lt_of_cell q1)).trans q1), (((hb1.trans (hb.mono hb1.size)).cell (lt_of_cell q2)).trans q2), (((hb1.trans (hb.mono hb1.size)).cell (lt_of_cell q3)).trans q3), (((hb1.trans (hb.mono hb1.size)).cell (lt_of_cell q4)).trans q4)⟩ : w'.cell? ⟨w.heap.size, 3, none⟩ = some (.slice (some ⟨bp, op, none⟩) d.prods.length c3) ∧ w'.cell? ⟨g, 0, none⟩ = some (.int .i64 (k : Nat)) ∧ w'.cell? ⟨g, 1, none⟩ = some (.slice ka P.right.length kc) ∧ w'.cell? ⟨bp, op + k * 5, none⟩ = some (.int .i64 P.left) ∧ w'.cell? ⟨bp, op + k * 5 + 1, none⟩ = some (.slice ai P.right.length ci) ∧ w'.cell? ⟨bp, op + k * 5 + 2, none⟩ = some (.string P.label) ∧ w'.cell? ⟨bp, op + k * 5 + 3, none⟩ = some (.int .i64 P.lev) ∧ w'.cell? ⟨bp, op + k * 5 + 4, none⟩ = some (.int .i64 P.asc)))
  have hS0 := HS1.out (w.alloc (.cells #[.slice a0 d.terms.length c0, .slice a1 d.nons.length c1, .int .i64 d.own, .slice (some ⟨bp, op, none⟩) d.prods.length c3] 34)) (Below.refl _ _)
  have hS1 := HS1.out _ (bel_alloc (w.alloc (.cells #[.slice a0 d.terms.length c0, .slice a1 d.nons.length c1, .int .i64 d.own, .slice (some ⟨bp, op, none⟩) d.prods.length c3] 34)) (.cells #[.int .i64 0, .slice none 0 0, .string ⟨#[]⟩, .int .i64 0, .int .i64 0] 114))
  have hS2 := HS1.out _ (bel_alloc (w.alloc (.cells #[.slice a0 d.terms.length c0, .slice a1 d.nons.length c1, .int .i64 d.own, .slice (some ⟨bp, op, none⟩) d.prods.length c3] 34)) (.cells #[.int .i64 P.left, .slice ai P.right.length ci, .string P.label, .int .i64 P.lev, .int .i64 P.asc] 114))
  have hbn := (Box.new (w.alloc (.cells #[.slice a0 d.terms.length c0, .slice a1 d.nons.length c1, .int .i64 d.own, .slice (some ⟨bp, op, none⟩) d.prods.length c3] 34)) 114 [.int .i64 P.left, .slice ai P.right.length ci, .string P.label, .int .i64 P.lev, .int .i64 P.asc])
  have hz1 : (w.alloc (.cells #[.slice a0 d.terms.length c0, .slice a1 d.nons.length c1, .int .i64 d.own, .slice (some ⟨bp, op, none⟩) d.prods.length c3] 34)).heap.size = w.heap.size + 1 := by simp
  rw [hz1] at hbn
  have HB2 := (show Hid _ from (⟨(bel_alloc (w.alloc (.cells #[.slice a0 d.terms.length c0, .slice a1 d.nons.length c1, .int .i64 d.own, .slice (some ⟨bp, op, none⟩) d.prods.length c3] 34)) (.cells #[.int .i64 P.left, .slice ai P.right.length ci, .string P.label, .int .i64 P.lev, .int .i64 P.asc] 114)).drew, hbn.keep rfl⟩ : Below (w.alloc (.cells #[.slice a0 d.terms.length c0, .slice a1 d.nons.length c1, .int .i64 d.own, .slice (some ⟨bp, op, none⟩) d.prods.length c3] 34)).heap.size (w.alloc (.cells #[.slice a0 d.terms.length c0, .slice a1 d.nons.length c1, .int .i64 d.own, .slice (some ⟨bp, op, none⟩) d.prods.length c3] 34)) ((w.alloc (.cells #[.slice a0 d.terms.length c0, .slice a1 d.nons.length c1, .int .i64 d.own, .slice (some ⟨bp, op, none⟩) d.prods.length c3] 34)).alloc (.cells #[.int .i64 P.left, .slice ai P.right.length ci, .string P.label, .int .i64 P.lev, .int .i64 P.asc] 114)).drew ∧ Box ((w.alloc (.cells #[.slice a0 d.terms.length c0, .slice a1 d.nons.length c1, .int .i64 d.own, .slice (some ⟨bp, op, none⟩) d.prods.length c3] 34)).alloc (.cells #[.int .i64 P.left, .slice ai P.right.length ci, .string P.label, .int .i64 P.lev, .int .i64 P.asc] 114)).drew (w.heap.size + 1) 114 [.int .i64 P.left, .slice ai P.right.length ci, .string P.label, .int .i64 P.lev, .int .i64 P.asc]))
  have HB1 := (show Hid _ from hb1)
  have HU1 := (show Hid _ from u1)
  have kw : IntKind.i64.wrap ((P.right.length : Int) - 1) = (P.right.length : Int) - 1 := by simp [IntKind.wrap, IntKind.bits, IntKind.signed]; omega
  clear hbn hb1 hx u0 u1 q0 q1 q2 q3 q4 HS1
  go_enter Try.func45, Try.ntmps45
  go_upto_region 1 with fail
  go_cut [5, 6] from 10 to 23 (fun v u wx => v = .pointer (some ⟨w.heap.size + 1, 0, none⟩) ∧ u = .int .i64 ((P.right.length : Int) - 1) ∧ Hid (Below (w.alloc (.cells #[.slice a0 d.terms.length c0, .slice a1 d.nons.length c1, .int .i64 d.own, .slice (some ⟨bp, op, none⟩) d.prods.length c3] 34)).heap.size (w.alloc (.cells #[.slice a0 d.terms.length c0, .slice a1 d.nons.length c1, .int .i64 d.own, .slice (some ⟨bp, op, none⟩) d.prods.length c3] 34)) wx ∧ Box wx (w.heap.size + 1) 114 [.int .i64 P.left, .slice ai P.right.length ci, .string P.label, .int .i64 P.lev, .int .i64 P.asc]))
  case first =>
    clear IH HLB HKA HKD HKB HG HGK HGE HA0 HPR HX HB1 HU1
    · skip
      refine wp_region_held_drew (S := (fun w' => w'.cell? ⟨w.heap.size, 3, none⟩ = some (.slice (some ⟨bp, op, none⟩) d.prods.length c3) ∧ w'.cell? ⟨g, 0, none⟩ = some (.int .i64 (k : Nat)) ∧ w'.cell? ⟨g, 1, none⟩ = some (.slice ka P.right.length kc) ∧ w'.cell? ⟨bp, op + k * 5, none⟩ = some (.int .i64 P.left) ∧ w'.cell? ⟨bp, op + k * 5 + 1, none⟩ = some (.slice ai P.right.length ci) ∧ w'.cell? ⟨bp, op + k * 5 + 2, none⟩ = some (.string P.label) ∧ w'.cell? ⟨bp, op + k * 5 + 3, none⟩ = some (.int .i64 P.lev) ∧ w'.cell? ⟨bp, op + k * 5 + 4, none⟩ = some (.int .i64 P.asc))) (by kernel_rfl) hS0 (fun hHeld => ?_)
      refine wpAnyH_take (i := 0) (oi := { dst := some 10, op := Go.Op.fieldAddr 34 (Go.Operand.tmp 3) 3, type := 0, pos := "l06_parsing.go:363", after := #[], guard := none }) (v := ?v1) rfl (by kernel_rfl) (by kernel_rfl) (by kernel_rfl) (fun _ _ _ h => h) (Or.inl ⟨by rfl, ?h1⟩) hHeld ?r1
      case h1 => (intro w hSw; (try dsimp only at hSw); go_simp; try with_reducible rfl)
      try simp only [Act.put, List.setIfInBounds_toArray, List.set_cons_zero, List.set_cons_succ]
      refine wpAnyH_take (i := 1) (oi := { dst := some 11, op := Go.Op.load 32 (Go.Operand.tmp 10), type := 32, pos := "l06_parsing.go:363", after := #[{ on := 0, ground := Go.Ground.data }], guard := none }) (v := ?v2) rfl (by kernel_rfl) (by kernel_rfl) (by kernel_rfl) (fun _ _ _ h => h) (Or.inl ⟨by rfl, ?h2⟩) hHeld ?r2
      case h2 => (intro w hSw; (try dsimp only at hSw); go_simp; try with_reducible rfl)
      try simp only [Act.put, List.setIfInBounds_toArray, List.set_cons_zero, List.set_cons_succ]
      refine wpAnyH_take (i := 2) (oi := { dst := some 12, op := Go.Op.move (Go.Operand.tmp 0), type := 71, pos := "l06_parsing.go:363", after := #[], guard := none }) (v := ?v3) rfl (by kernel_rfl) (by kernel_rfl) (by kernel_rfl) (fun _ _ _ h => h) (Or.inl ⟨by rfl, ?h3⟩) hHeld ?r3
      case h3 => (intro w hSw; (try dsimp only at hSw); go_simp; try with_reducible rfl)
      try simp only [Act.put, List.setIfInBounds_toArray, List.set_cons_zero, List.set_cons_succ]
      refine wpAnyH_take (i := 3) (oi := { dst := some 13, op := Go.Op.nilCheck (Go.Operand.tmp 12), type := 0, pos := "l06_parsing.go:363", after := #[{ on := 2, ground := Go.Ground.data }], guard := none }) (v := ?v4) rfl (by kernel_rfl) (by kernel_rfl) (by kernel_rfl) (fun _ _ _ h => h) (Or.inl ⟨by rfl, ?h4⟩) hHeld ?r4
      case h4 => (intro w hSw; (try dsimp only at hSw); go_simp; try with_reducible rfl)
      try simp only [Act.put, List.setIfInBounds_toArray, List.set_cons_zero, List.set_cons_succ]
      refine wpAnyH_take (i := 4) (oi := { dst := some 14, op := Go.Op.fieldAddr 127 (Go.Operand.tmp 13) 0, type := 0, pos := "l06_parsing.go:363", after := #[{ on := 3, ground := Go.Ground.data }], guard := none }) (v := ?v5) rfl (by kernel_rfl) (by kernel_rfl) (by kernel_rfl) (fun _ _ _ h => h) (Or.inl ⟨by rfl, ?h5⟩) hHeld ?r5
      case h5 => (intro w hSw; (try dsimp only at hSw); go_simp; try with_reducible rfl)
      try simp only [Act.put, List.setIfInBounds_toArray, List.set_cons_zero, List.set_cons_succ]
      refine wpAnyH_take (i := 5) (oi := { dst := some 15, op := Go.Op.load 3 (Go.Operand.tmp 14), type := 3, pos := "l06_parsing.go:363", after := #[{ on := 4, ground := Go.Ground.data }], guard := none }) (v := ?v6) rfl (by kernel_rfl) (by kernel_rfl) (by kernel_rfl) (fun _ _ _ h => h) (Or.inl ⟨by rfl, ?h6⟩) hHeld ?r6
      case h6 => (intro w hSw; (try dsimp only at hSw); go_simp; try with_reducible rfl)
      try simp only [Act.put, List.setIfInBounds_toArray, List.set_cons_zero, List.set_cons_succ]
      refine wpAnyH_take (i := 6) (oi := { dst := some 16, op := Go.Op.indexAddr 32 (Go.Operand.tmp 11) (Go.Operand.tmp 15), type := 0, pos := "l06_parsing.go:363", after := #[{ on := 1, ground := Go.Ground.data }, { on := 5, ground := Go.Ground.data }], guard := none }) (v := ?v7) rfl (by kernel_rfl) (by kernel_rfl) (by kernel_rfl) (fun _ _ _ h => h) (Or.inl ⟨by rfl, ?h7⟩) hHeld ?r7
      case h7 => (intro w hSw; (try dsimp only at hSw); go_simp; try with_reducible rfl)
      try simp only [Act.put, List.setIfInBounds_toArray, List.set_cons_zero, List.set_cons_succ]
      refine wpAnyH_take (i := 7) (oi := { dst := some 17, op := Go.Op.load 114 (Go.Operand.tmp 16), type := 114, pos := "l06_parsing.go:363", after := #[{ on := 6, ground := Go.Ground.data }], guard := none }) (v := ?v8) rfl (by kernel_rfl) (by kernel_rfl) (by kernel_rfl) (fun _ _ _ h => h) (Or.inl ⟨by rfl, ?h8⟩) hHeld ?r8
      case h8 => (intro w hSw; (try dsimp only at hSw); go_simp; try with_reducible rfl)
      try simp only [Act.put, List.setIfInBounds_toArray, List.set_cons_zero, List.set_cons_succ]
      refine wpAnyH_take (i := 8) (oi := { dst := some 18, op := Go.Op.move (Go.Operand.tmp 0), type := 71, pos := "l06_parsing.go:363", after := #[], guard := none }) (v := ?v9) rfl (by kernel_rfl) (by kernel_rfl) (by kernel_rfl) (fun _ _ _ h => h) (Or.inl ⟨by rfl, ?h9⟩) hHeld ?r9
      case h9 => (intro w hSw; (try dsimp only at hSw); go_simp; try with_reducible rfl)
      try simp only [Act.put, List.setIfInBounds_toArray, List.set_cons_zero, List.set_cons_succ]
      refine wpAnyH_take (i := 9) (oi := { dst := some 19, op := Go.Op.nilCheck (Go.Operand.tmp 18), type := 0, pos := "l06_parsing.go:363", after := #[{ on := 8, ground := Go.Ground.data }], guard := none }) (v := ?v10) rfl (by kernel_rfl) (by kernel_rfl) (by kernel_rfl) (fun _ _ _ h => h) (Or.inl ⟨by rfl, ?h10⟩) hHeld ?r10
      case h10 => (intro w hSw; (try dsimp only at hSw); go_simp; try with_reducible rfl)
      try simp only [Act.put, List.setIfInBounds_toArray, List.set_cons_zero, List.set_cons_succ]
      refine wpAnyH_take (i := 10) (oi := { dst := some 20, op := Go.Op.fieldAddr 127 (Go.Operand.tmp 19) 1, type := 0, pos := "l06_parsing.go:363", after := #[{ on := 9, ground := Go.Ground.data }], guard := none }) (v := ?v11) rfl (by kernel_rfl) (by kernel_rfl) (by kernel_rfl) (fun _ _ _ h => h) (Or.inl ⟨by rfl, ?h11⟩) hHeld ?r11
      case h11 => (intro w hSw; (try dsimp only at hSw); go_simp; try with_reducible rfl)
      try simp only [Act.put, List.setIfInBounds_toArray, List.set_cons_zero, List.set_cons_succ]
      refine wpAnyH_take (i := 11) (oi := { dst := some 21, op := Go.Op.load 125 (Go.Operand.tmp 20), type := 125, pos := "l06_parsing.go:363", after := #[{ on := 10, ground := Go.Ground.data }], guard := none }) (v := ?v12) rfl (by kernel_rfl) (by kernel_rfl) (by kernel_rfl) (fun _ _ _ h => h) (Or.inl ⟨by rfl, ?h12⟩) hHeld ?r12
      case h12 => (intro w hSw; (try dsimp only at hSw); go_simp; try with_reducible rfl)
      try simp only [Act.put, List.setIfInBounds_toArray, List.set_cons_zero, List.set_cons_succ]
      refine wpAnyH_take (i := 12) (oi := { dst := some 22, op := Go.Op.call { callee := Go.Callee.builtin Go.Builtin.len, args := #[Go.Operand.tmp 21], argTypes := #[125] }, type := 3, pos := "l06_parsing.go:363", after := #[{ on := 11, ground := Go.Ground.data }], guard := none }) (v := ?v13) rfl (by kernel_rfl) (by kernel_rfl) (by kernel_rfl) (fun _ _ _ h => h) (Or.inl ⟨by rfl, ?h13⟩) hHeld ?r13
      case h13 => (intro w hSw; (try dsimp only at hSw); go_simp; try with_reducible rfl)
      try simp only [Act.put, List.setIfInBounds_toArray, List.set_cons_zero, List.set_cons_succ]
      refine wpAnyH_take (i := 13) (oi := { dst := some 23, op := Go.Op.binOp Go.BinOp.sub 3 (Go.Operand.tmp 22) (Go.Operand.const (Go.Value.int Go.IntKind.i64 1)) 3, type := 3, pos := "l06_parsing.go:363", after := #[{ on := 12, ground := Go.Ground.data }, { on := 15, ground := Go.Ground.gcOnly Go.Departure.lateStores }], guard := none }) (v := ?v14) rfl (by kernel_rfl) (by kernel_rfl) (by kernel_rfl) (fun _ _ _ h => h) (Or.inl ⟨by rfl, ?h14⟩) hHeld ?r14
      case h14 => (intro w hSw; (try dsimp only at hSw); go_simp; try with_reducible rfl)
      try simp only [Act.put, List.setIfInBounds_toArray, List.set_cons_zero, List.set_cons_succ]
      refine wpAnyH_ready (rs := [14]) (by kernel_rfl) (by simp) ?_
      refine AllReadyH.cons (o := { dst := some 5, op := Go.Op.alloc 114, type := 0, pos := "l06_parsing.go:363", after := #[], guard := none }) rfl (fun K hK => ?_) AllReadyH.nil
      go_simp
      clear hHeld
      refine hK.out _ _ hS1 (fun hHeld => ?_)
      clear hK K
      try simp only [Act.put, List.setIfInBounds_toArray, List.set_cons_zero, List.set_cons_succ]
      refine wpAnyH_ready (rs := [15]) (by kernel_rfl) (by simp) ?_
      refine AllReadyH.cons (o := { dst := none, op := Go.Op.store 114 (Go.Operand.tmp 5) (Go.Operand.tmp 17), type := 0, pos := "l06_parsing.go:363", after := #[{ on := 14, ground := Go.Ground.data }, { on := 7, ground := Go.Ground.data }, { on := 0, ground := Go.Ground.phase }, { on := 1, ground := Go.Ground.phase }, { on := 2, ground := Go.Ground.phase }, { on := 3, ground := Go.Ground.phase }, { on := 4, ground := Go.Ground.phase }, { on := 5, ground := Go.Ground.phase }, { on := 6, ground := Go.Ground.phase }, { on := 7, ground := Go.Ground.phase }, { on := 8, ground := Go.Ground.textOnly Go.Departure.lateStores }, { on := 9, ground := Go.Ground.textOnly Go.Departure.lateStores }, { on := 10, ground := Go.Ground.textOnly Go.Departure.lateStores }, { on := 11, ground := Go.Ground.textOnly Go.Departure.lateStores }, { on := 12, ground := Go.Ground.textOnly Go.Departure.lateStoresUnsure }, { on := 13, ground := Go.Ground.textOnly Go.Departure.lateStores }, { on := 14, ground := Go.Ground.phase }], guard := none }) rfl (fun K hK => ?_) AllReadyH.nil
      go_simp
      clear hHeld
      refine hK.out _ _ hS2 (fun hHeld => ?_)
      clear hK K
      try simp only [Act.put, List.setIfInBounds_toArray, List.set_cons_zero, List.set_cons_succ]
      refine wpAnyH_take (i := 16) (oi := { dst := some 6, op := Go.Op.assign (Go.Operand.tmp 23), type := 3, pos := "l06_parsing.go:363", after := #[{ on := 13, ground := Go.Ground.data }, { on := 15, ground := Go.Ground.chain }, { on := 0, ground := Go.Ground.phase }, { on := 1, ground := Go.Ground.phase }, { on := 2, ground := Go.Ground.phase }, { on := 3, ground := Go.Ground.phase }, { on := 4, ground := Go.Ground.phase }, { on := 5, ground := Go.Ground.phase }, { on := 6, ground := Go.Ground.phase }, { on := 7, ground := Go.Ground.phase }, { on := 8, ground := Go.Ground.phase }, { on := 9, ground := Go.Ground.phase }, { on := 10, ground := Go.Ground.phase }, { on := 11, ground := Go.Ground.phase }, { on := 12, ground := Go.Ground.phase }, { on := 13, ground := Go.Ground.phase }, { on := 14, ground := Go.Ground.phase }, { on := 15, ground := Go.Ground.phase }], guard := none }) (v := ?v15) rfl (by kernel_rfl) (by kernel_rfl) (by kernel_rfl) (fun _ _ _ h => h) (Or.inl ⟨by rfl, ?h15⟩) hHeld ?r15
      case h15 => (intro w hSw; (try dsimp only at hSw); go_simp; try with_reducible rfl)
      try simp only [Act.put, List.setIfInBounds_toArray, List.set_cons_zero, List.set_cons_succ]
      refine wpAnyH_done (by kernel_rfl) ?_ _
      go_wp2_with fail
      go_meet
      exact ⟨rfl, rfl, HB2⟩
  case rest =>
    obtain ⟨w2, rfl⟩ : ∃ w2, w2 = wc := ⟨_, rfl⟩
    obtain ⟨rfl, rfl, HC2⟩ := hcut
    clear hS0 hS1 hS2 HB2
    have HC := (show Hid _ from fun (w' : World) (hb : Below w2.heap.size w2 w') => (show Below w.heap.size w w' ∧ w'.cell? ⟨w.heap.size, 0, none⟩ = some (.slice a0 d.terms.length c0) ∧ w'.cell? ⟨w.heap.size, 1, none⟩ = some (.slice a1 d.nons.length c1) ∧ w'.cell? ⟨w.heap.size, 2, none⟩ = some (.int .i64 d.own) ∧ w'.cell? ⟨w.heap.size, 3, none⟩ = some (.slice (some ⟨bp, op, none⟩) d.prods.length c3) ∧ w'.cell? ⟨w.heap.size + 1, 0, none⟩ = some (.int .i64 P.left) ∧ w'.cell? ⟨w.heap.size + 1, 1, none⟩ = some (.slice ai P.right.length ci) ∧ w'.cell? ⟨w.heap.size + 1, 2, none⟩ = some (.string P.label) ∧ w'.cell? ⟨w.heap.size + 1, 3, none⟩ = some (.int .i64 P.lev) ∧ w'.cell? ⟨w.heap.size + 1, 4, none⟩ = some (.int .i64 P.asc) ∧ w'.cell? ⟨g, 1, none⟩ = some (.slice ka P.right.length kc) from by
      have h1 := bel_trans HC2.out.1 hb
      have h2 := bel_trans HB1.out h1
      have h3 := HC2.out.2.still hb
      exact ⟨h2, (Four.still HX.out h1).1, (Four.still HX.out h1).2.1, (Four.still HX.out h1).2.2.1, (Four.still HX.out h1).2.2.2, h3.cell 0 (by simp), h3.cell 1 (by simp), h3.cell 2 (by simp), h3.cell 3 (by simp), h3.cell 4 (by simp), (h2.cell (lt_of_cell HU1.out)).trans HU1.out⟩))
    have t1 := (HC.out w2 (Below.refl _ _)).2.2.2.2.2.2.2.2.2.2
    go_wp2_with fail
    go_loopw [29] (fun i wr => ∃ j x : Nat, i = .int .i64 j ∧ j ≤ P.right.length ∧ Hid (atP d L f a j = some x ∧ Below w2.heap.size w2 wr ∧ G = gk d L (rd d L f) (gd d L f) P j (P.right.drop j) x)) (fun i _ => P.right.length - (intOf i).toNat)
    case atStart => exact ⟨0, a + 1, rfl, Nat.zero_le _, HA0.out, Below.refl _ _, HG.out⟩
    case round =>
      obtain ⟨j, x, rfl, hj, HJ⟩ := hrel
      clear t1
      by_cases hlt : j < P.right.length
      · have hlt' := hlt
        obtain ⟨kd1, kd2, kd3, kd4⟩ := HKD.out j hlt'
        have hxa : ats j = x := by have := kd1.symm.trans HJ.out.1; simpa using this
        rw [hxa] at kd4
        obtain ⟨e1, hKk⟩ := HKB.out (by omega)
        subst e1
        have hbw := (HC.out wr HJ.out.2.1).1
        have c0' := (hbw.cell (lt_of_cell kd2)).trans kd2
        have gj := HJ.out.2.2.trans (HGK.out j x hlt')
        have kaj := HKA.out j x hlt' HJ.out.1
        have HBJ := (show Hid _ from HJ.out.2.1)
        generalize P.right[j] = X at *
        by_cases hyt : X < (d.terms.length : Int)
        · rw [kd3 hyt] at c0'
          rw [if_pos hyt] at gj
          have HN : Hid (atP d L f a (j + 1) = some x ∧ Below w2.heap.size w2 wr ∧ G = gk d L (rd d L f) (gd d L f) P (j + 1) (P.right.drop (j + 1)) x) := ⟨kaj.1 hyt, HBJ.out, gj⟩
          clear kd1 kd2 kd3 kd4 gj kaj hbw HJ
          go_wp2_with fail
          exact ⟨⟨j + 1, x, by go_num, by omega, HN⟩, by simp [intOf]; omega⟩
        · rw [if_neg hyt] at gj
          have hdp := kd4 (by omega)
          obtain ⟨c, hc, hc'⟩ := kaj.2 (by omega)
          obtain ⟨gq, hv, hg0⟩ := DP_form hdp
          rw [hv] at c0' hdp
          obtain ⟨kq, hkq, hnq, hpq, hlq, jk1⟩ := okAt_prod (rd_ok hc)
          obtain ⟨jk2, aq, cq, bq, oq, g0, g1, g2, g3, g4, jk3, jk4⟩ := HPR.out kq hkq
          clear jk1 jk2 jk3 jk4
          rw [hnq] at hg0
          rw [hc, hpq] at gj
          have HIH := (show Hid _ from fun (w' : World) (hb : Below w.heap.size w w') => IH.out x c X _ _ _ _ w' (HLB.out.still hb) (DP.keep (fun q _ hq => hb.block q hq) _ _ _ hdp) hc)
          have HGT : Hid (tw j P.right.length d.prods[kq] P = true → G = false) := fun h => by
            show G = false
            rw [gj, h]; rfl
          have HGF0 : Hid (tw j P.right.length d.prods[kq] P = false → gd d L f x = false → G = false) := fun h h2 => by
            show G = false
            rw [gj, h, h2]; rfl
          have HGG0 : Hid (tw j P.right.length d.prods[kq] P = false → gd d L f x = true → G = gk d L (rd d L f) (gd d L f) P (j + 1) (P.right.drop (j + 1)) c) := fun h h2 => by
            show G = _
            rw [gj, h, h2]; simp
          have HCC := (show Hid _ from hc')
          have hkq' : kq ≤ 120 := by omega
          have HS2 := (show Hid _ from fun (w' : World) (hb : Below wr.heap.size wr w') => (show w'.cell? ⟨w.heap.size, 3, none⟩ = some (.slice (some ⟨bp, op, none⟩) d.prods.length c3) ∧ w'.cell? ⟨gq, 0, none⟩ = some (.int .i64 (kq : Nat)) ∧ w'.cell? ⟨bp, op + kq * 5, none⟩ = some (.int .i64 d.prods[kq].left) ∧ w'.cell? ⟨bp, op + kq * 5 + 1, none⟩ = some (.slice aq d.prods[kq].right.length cq) ∧ w'.cell? ⟨bp, op + kq * 5 + 2, none⟩ = some (.string d.prods[kq].label) ∧ w'.cell? ⟨bp, op + kq * 5 + 3, none⟩ = some (.int .i64 d.prods[kq].lev) ∧ w'.cell? ⟨bp, op + kq * 5 + 4, none⟩ = some (.int .i64 d.prods[kq].asc) from by
            have h1 := bel_trans hbw hb
            exact ⟨(HC.out w' (bel_trans HBJ.out hb)).2.2.2.2.1, (h1.cell (lt_of_cell hg0)).trans hg0, (h1.cell (lt_of_cell g0)).trans g0, (h1.cell (lt_of_cell g1)).trans g1, (h1.cell (lt_of_cell g2)).trans g2, (h1.cell (lt_of_cell g3)).trans g3, (h1.cell (lt_of_cell g4)).trans g4⟩))
          clear kd1 kd2 kd3 kd4 gj kaj hbw HJ hdp hc hc' hv hg0 hnq hpq hlq g0 g1 g2 g3 g4 hxa hKk
          generalize d.prods[kq] = Q at *
          obtain ⟨wb, hwb⟩ : ∃ wb, wb = wr := ⟨_, rfl⟩
          go_upto_region 6 with fail
          go_cut [9] from 36 to 43 (fun v wx => v = .pointer (some ⟨wr.heap.size, 0, none⟩) ∧ Hid (Below wr.heap.size wr wx ∧ Box wx wr.heap.size 114 [.int .i64 Q.left, .slice aq Q.right.length cq, .string Q.label, .int .i64 Q.lev, .int .i64 Q.asc]))
          case first =>
            have hS0 := HS2.out wr (Below.refl _ _)
            have hS1 := HS2.out _ (bel_alloc wr (.cells #[.int .i64 0, .slice none 0 0, .string ⟨#[]⟩, .int .i64 0, .int .i64 0] 114))
            have hS2 := HS2.out _ (bel_alloc wr (.cells #[.int .i64 Q.left, .slice aq Q.right.length cq, .string Q.label, .int .i64 Q.lev, .int .i64 Q.asc] 114))
            have HB6 := (show Hid _ from (⟨(bel_alloc wr (.cells #[.int .i64 Q.left, .slice aq Q.right.length cq, .string Q.label, .int .i64 Q.lev, .int .i64 Q.asc] 114)).drew, (Box.new wr 114 [.int .i64 Q.left, .slice aq Q.right.length cq, .string Q.label, .int .i64 Q.lev, .int .i64 Q.asc]).keep rfl⟩ : Below wr.heap.size wr (wr.alloc (.cells #[.int .i64 Q.left, .slice aq Q.right.length cq, .string Q.label, .int .i64 Q.lev, .int .i64 Q.asc] 114)).drew ∧ Box (wr.alloc (.cells #[.int .i64 Q.left, .slice aq Q.right.length cq, .string Q.label, .int .i64 Q.lev, .int .i64 Q.asc] 114)).drew wr.heap.size 114 [.int .i64 Q.left, .slice aq Q.right.length cq, .string Q.label, .int .i64 Q.lev, .int .i64 Q.asc]))
            clear IH HLB HKA HKD HKB HG HGK HGE HA0 HPR HX HB1 HU1 HC HIH HGT HGF0 HGG0 HS2 HBJ HC2 HCC c0'
            refine wp_region_held_drew (S := (fun w' => w'.cell? ⟨w.heap.size, 3, none⟩ = some (.slice (some ⟨bp, op, none⟩) d.prods.length c3) ∧ w'.cell? ⟨gq, 0, none⟩ = some (.int .i64 (kq : Nat)) ∧ w'.cell? ⟨bp, op + kq * 5, none⟩ = some (.int .i64 Q.left) ∧ w'.cell? ⟨bp, op + kq * 5 + 1, none⟩ = some (.slice aq Q.right.length cq) ∧ w'.cell? ⟨bp, op + kq * 5 + 2, none⟩ = some (.string Q.label) ∧ w'.cell? ⟨bp, op + kq * 5 + 3, none⟩ = some (.int .i64 Q.lev) ∧ w'.cell? ⟨bp, op + kq * 5 + 4, none⟩ = some (.int .i64 Q.asc))) (by kernel_rfl) hS0 (fun hHeld => ?_)
            refine wpAnyH_take (i := 0) (oi := { dst := some 36, op := Go.Op.fieldAddr 34 (Go.Operand.tmp 3) 3, type := 0, pos := "l06_parsing.go:368", after := #[], guard := none }) (v := ?v16) rfl (by kernel_rfl) (by kernel_rfl) (by kernel_rfl) (fun _ _ _ h => h) (Or.inl ⟨by rfl, ?h16⟩) hHeld ?r16
            case h16 => (intro w hSw; (try dsimp only at hSw); go_simp; try with_reducible rfl)
            try simp only [Act.put, List.setIfInBounds_toArray, List.set_cons_zero, List.set_cons_succ]
            refine wpAnyH_take (i := 1) (oi := { dst := some 37, op := Go.Op.load 32 (Go.Operand.tmp 36), type := 32, pos := "l06_parsing.go:368", after := #[{ on := 0, ground := Go.Ground.data }], guard := none }) (v := ?v17) rfl (by kernel_rfl) (by kernel_rfl) (by kernel_rfl) (fun _ _ _ h => h) (Or.inl ⟨by rfl, ?h17⟩) hHeld ?r17
            case h17 => (intro w hSw; (try dsimp only at hSw); go_simp; try with_reducible rfl)
            try simp only [Act.put, List.setIfInBounds_toArray, List.set_cons_zero, List.set_cons_succ]
            refine wpAnyH_take (i := 2) (oi := { dst := some 38, op := Go.Op.move (Go.Operand.tmp 8), type := 71, pos := "l06_parsing.go:368", after := #[], guard := none }) (v := ?v18) rfl (by kernel_rfl) (by kernel_rfl) (by kernel_rfl) (fun _ _ _ h => h) (Or.inl ⟨by rfl, ?h18⟩) hHeld ?r18
            case h18 => (intro w hSw; (try dsimp only at hSw); go_simp; try with_reducible rfl)
            try simp only [Act.put, List.setIfInBounds_toArray, List.set_cons_zero, List.set_cons_succ]
            refine wpAnyH_take (i := 3) (oi := { dst := some 39, op := Go.Op.nilCheck (Go.Operand.tmp 38), type := 0, pos := "l06_parsing.go:368", after := #[{ on := 2, ground := Go.Ground.data }], guard := none }) (v := ?v19) rfl (by kernel_rfl) (by kernel_rfl) (by kernel_rfl) (fun _ _ _ h => h) (Or.inl ⟨by rfl, ?h19⟩) hHeld ?r19
            case h19 => (intro w hSw; (try dsimp only at hSw); go_simp; try with_reducible rfl)
            try simp only [Act.put, List.setIfInBounds_toArray, List.set_cons_zero, List.set_cons_succ]
            refine wpAnyH_take (i := 4) (oi := { dst := some 40, op := Go.Op.fieldAddr 127 (Go.Operand.tmp 39) 0, type := 0, pos := "l06_parsing.go:368", after := #[{ on := 3, ground := Go.Ground.data }], guard := none }) (v := ?v20) rfl (by kernel_rfl) (by kernel_rfl) (by kernel_rfl) (fun _ _ _ h => h) (Or.inl ⟨by rfl, ?h20⟩) hHeld ?r20
            case h20 => (intro w hSw; (try dsimp only at hSw); go_simp; try with_reducible rfl)
            try simp only [Act.put, List.setIfInBounds_toArray, List.set_cons_zero, List.set_cons_succ]
            refine wpAnyH_take (i := 5) (oi := { dst := some 41, op := Go.Op.load 3 (Go.Operand.tmp 40), type := 3, pos := "l06_parsing.go:368", after := #[{ on := 4, ground := Go.Ground.data }], guard := none }) (v := ?v21) rfl (by kernel_rfl) (by kernel_rfl) (by kernel_rfl) (fun _ _ _ h => h) (Or.inl ⟨by rfl, ?h21⟩) hHeld ?r21
            case h21 => (intro w hSw; (try dsimp only at hSw); go_simp; try with_reducible rfl)
            try simp only [Act.put, List.setIfInBounds_toArray, List.set_cons_zero, List.set_cons_succ]
            refine wpAnyH_take (i := 6) (oi := { dst := some 42, op := Go.Op.indexAddr 32 (Go.Operand.tmp 37) (Go.Operand.tmp 41), type := 0, pos := "l06_parsing.go:368", after := #[{ on := 1, ground := Go.Ground.data }, { on := 5, ground := Go.Ground.data }], guard := none }) (v := ?v22) rfl (by kernel_rfl) (by kernel_rfl) (by kernel_rfl) (fun _ _ _ h => h) (Or.inl ⟨by rfl, ?h22⟩) hHeld ?r22
            case h22 => (intro w hSw; (try dsimp only at hSw); go_simp; try with_reducible rfl)
            try simp only [Act.put, List.setIfInBounds_toArray, List.set_cons_zero, List.set_cons_succ]
            refine wpAnyH_take (i := 7) (oi := { dst := some 43, op := Go.Op.load 114 (Go.Operand.tmp 42), type := 114, pos := "l06_parsing.go:368", after := #[{ on := 6, ground := Go.Ground.data }], guard := none }) (v := ?v23) rfl (by kernel_rfl) (by kernel_rfl) (by kernel_rfl) (fun _ _ _ h => h) (Or.inl ⟨by rfl, ?h23⟩) hHeld ?r23
            case h23 => (intro w hSw; (try dsimp only at hSw); go_simp; try with_reducible rfl)
            try simp only [Act.put, List.setIfInBounds_toArray, List.set_cons_zero, List.set_cons_succ]
            refine wpAnyH_ready (rs := [8]) (by kernel_rfl) (by simp) ?_
            refine AllReadyH.cons (o := { dst := some 9, op := Go.Op.alloc 114, type := 0, pos := "l06_parsing.go:368", after := #[], guard := none }) rfl (fun K hK => ?_) AllReadyH.nil
            go_simp
            clear hHeld
            refine hK.out _ _ hS1 (fun hHeld => ?_)
            clear hK K
            try simp only [Act.put, List.setIfInBounds_toArray, List.set_cons_zero, List.set_cons_succ]
            refine wpAnyH_ready (rs := [9]) (by kernel_rfl) (by simp) ?_
            refine AllReadyH.cons (o := { dst := none, op := Go.Op.store 114 (Go.Operand.tmp 9) (Go.Operand.tmp 43), type := 0, pos := "l06_parsing.go:368", after := #[{ on := 8, ground := Go.Ground.data }, { on := 7, ground := Go.Ground.data }, { on := 0, ground := Go.Ground.phase }, { on := 1, ground := Go.Ground.phase }, { on := 2, ground := Go.Ground.phase }, { on := 3, ground := Go.Ground.phase }, { on := 4, ground := Go.Ground.phase }, { on := 5, ground := Go.Ground.phase }, { on := 6, ground := Go.Ground.phase }, { on := 7, ground := Go.Ground.phase }, { on := 8, ground := Go.Ground.phase }], guard := none }) rfl (fun K hK => ?_) AllReadyH.nil
            go_simp
            clear hHeld
            refine hK.out _ _ hS2 (fun hHeld => ?_)
            clear hK K
            try simp only [Act.put, List.setIfInBounds_toArray, List.set_cons_zero, List.set_cons_succ]
            refine wpAnyH_done (by kernel_rfl) ?_ _
            go_wp2_with fail
            go_meet
            exact ⟨rfl, HB6⟩
          case rest =>
            obtain ⟨w6, rfl⟩ : ∃ w6, w6 = wc := ⟨_, rfl⟩
            obtain ⟨rfl, HC6⟩ := hcut
            have HB6 := (show Hid _ from bel_trans HBJ.out HC6.out.1)
            have m0 := HC6.out.2.cell 0 (by simp)
            have m1 := HC6.out.2.cell 1 (by simp)
            have m2 := HC6.out.2.cell 2 (by simp)
            have m3 := HC6.out.2.cell 3 (by simp)
            have m4 := HC6.out.2.cell 4 (by simp)
            simp only [List.getD_cons_zero, List.getD_cons_succ] at m0 m1 m2 m3 m4
            have HB7 := HB6
            obtain ⟨b0, b1, b2, b3, p0, p1, p2, p3, p4, t1⟩ := (HC.out w6 HB7.out).2
            clear HB7 HS2 HBJ c0' HC6 IH HLB HKA HKD HKB HG HGK HA0 HPR HX HB1 HU1 HC2
            rcases (by omega : j = 0 ∨ (0 < j ∧ j + 1 = P.right.length) ∨ (0 < j ∧ j + 1 ≠ P.right.length)) with hA | hB | hC
            · have i0 : ((j : Int) == 0) = true := by simp; omega
              have i1 : ¬ 0 < j := by omega
              have HWX := (show Hid _ from weak_i Q P (.slice aq Q.right.length cq) (.slice ai P.right.length ci) 1 w6)
              go_wp2_with fail
              refine Calls.mono HWX.out ?_
              rintro e w7 ⟨rfl, hb7⟩
              have HB7 := (show Hid _ from bel_trans HB6.out hb7)
              clear HWX b0 b1 b2 b3 p0 p1 p2 p3 p4 t1 m0 m1 m2 m3 m4 hb7
              cases hw : wk Q P 1
              · have HGF := (show Hid _ from HGF0.out (by unfold tw; rw [hw, hA]; simp))
                have HGG := (show Hid _ from HGG0.out (by unfold tw; rw [hw, hA]; simp))
                clear hw HGF0 HGG0 HGT
                obtain ⟨b0, b1, b2, b3, p0, p1, p2, p3, p4, t1⟩ := (HC.out w7 HB7.out).2
                have HIX := (show Hid _ from HIH.out w7 (HC.out w7 HB7.out).1)
                go_wp2_with fail
                refine Calls.mono HIX.out ?_
                rintro e w8 ⟨rfl, hb8⟩
                have HB8 := (show Hid _ from bel_trans HB7.out hb8)
                have HBW := (show Hid _ from (HC.out w8 HB8.out).1)
                clear hb8 HIX
                cases hg : gd d L f x
                · have HE : Hid (G = false) := HGF.out hg
                  clear hg
                  go_wp2_with fail
                  go_ret
                  exact ⟨by rw [HE.out]; rfl, HBW.out⟩
                · have HN : Hid (atP d L f a (j + 1) = some c ∧ Below w2.heap.size w2 w8 ∧ G = gk d L (rd d L f) (gd d L f) P (j + 1) (P.right.drop (j + 1)) c) := ⟨HCC.out, HB8.out, HGG.out hg⟩
                  clear hg
                  go_wp2_with fail
                  exact ⟨⟨j + 1, c, by go_num, by omega, HN⟩, by simp [intOf]; omega⟩
              · have HE : Hid (G = false) := HGT.out (by unfold tw; rw [hw, hA]; simp)
                have HBW := (show Hid _ from (HC.out w7 HB7.out).1)
                clear hw HGF0 HGG0 HGT
                go_wp2_with fail
                go_ret
                exact ⟨by rw [HE.out]; rfl, HBW.out⟩
            · have i0 : ((j : Int) == 0) = false := by simp; omega
              have i1 : 0 < j := by omega
              have i2 : ((j : Int) == (P.right.length : Int) - 1) = true := by simp; omega
              have HWX := (show Hid _ from weak_i Q P (.slice aq Q.right.length cq) (.slice ai P.right.length ci) 2 w6)
              go_wp2_with fail
              refine Calls.mono HWX.out ?_
              rintro e w7 ⟨rfl, hb7⟩
              have HB7 := (show Hid _ from bel_trans HB6.out hb7)
              clear HWX b0 b1 b2 b3 p0 p1 p2 p3 p4 t1 m0 m1 m2 m3 m4 hb7
              cases hw : wk Q P 2
              · have HGF := (show Hid _ from HGF0.out (by unfold tw; rw [hw, decide_eq_false (by omega)]; simp))
                have HGG := (show Hid _ from HGG0.out (by unfold tw; rw [hw, decide_eq_false (by omega)]; simp))
                clear hw HGF0 HGG0 HGT
                obtain ⟨b0, b1, b2, b3, p0, p1, p2, p3, p4, t1⟩ := (HC.out w7 HB7.out).2
                have HIX := (show Hid _ from HIH.out w7 (HC.out w7 HB7.out).1)
                go_wp2_with fail
                refine Calls.mono HIX.out ?_
                rintro e w8 ⟨rfl, hb8⟩
                have HB8 := (show Hid _ from bel_trans HB7.out hb8)
                have HBW := (show Hid _ from (HC.out w8 HB8.out).1)
                clear hb8 HIX
                cases hg : gd d L f x
                · have HE : Hid (G = false) := HGF.out hg
                  clear hg
                  go_wp2_with fail
                  go_ret
                  exact ⟨by rw [HE.out]; rfl, HBW.out⟩
                · have HN : Hid (atP d L f a (j + 1) = some c ∧ Below w2.heap.size w2 w8 ∧ G = gk d L (rd d L f) (gd d L f) P (j + 1) (P.right.drop (j + 1)) c) := ⟨HCC.out, HB8.out, HGG.out hg⟩
                  clear hg
                  go_wp2_with fail
                  exact ⟨⟨j + 1, c, by go_num, by omega, HN⟩, by simp [intOf]; omega⟩
              · have HE : Hid (G = false) := HGT.out (by unfold tw; rw [hw, decide_eq_true hB]; simp)
                have HBW := (show Hid _ from (HC.out w7 HB7.out).1)
                clear hw HGF0 HGG0 HGT
                go_wp2_with fail
                go_ret
                exact ⟨by rw [HE.out]; rfl, HBW.out⟩
            · have i0 : ((j : Int) == 0) = false := by simp; omega
              have i1 : 0 < j := by omega
              have i2 : ((j : Int) == (P.right.length : Int) - 1) = false := by simp; omega
              have HGF := (show Hid _ from HGF0.out (by unfold tw; rw [decide_eq_false (by omega), decide_eq_false (by omega)]; rfl))
              have HGG := (show Hid _ from HGG0.out (by unfold tw; rw [decide_eq_false (by omega), decide_eq_false (by omega)]; rfl))
              have HB7 := HB6
              clear HGF0 HGG0 HGT
              have HIX := (show Hid _ from HIH.out w6 (HC.out w6 HB7.out).1)
              go_wp2_with fail
              refine Calls.mono HIX.out ?_
              rintro e w8 ⟨rfl, hb8⟩
              have HB8 := (show Hid _ from bel_trans HB7.out hb8)
              have HBW := (show Hid _ from (HC.out w8 HB8.out).1)
              clear hb8 HIX
              cases hg : gd d L f x
              · have HE : Hid (G = false) := HGF.out hg
                clear hg
                go_wp2_with fail
                go_ret
                exact ⟨by rw [HE.out]; rfl, HBW.out⟩
              · have HN : Hid (atP d L f a (j + 1) = some c ∧ Below w2.heap.size w2 w8 ∧ G = gk d L (rd d L f) (gd d L f) P (j + 1) (P.right.drop (j + 1)) c) := ⟨HCC.out, HB8.out, HGG.out hg⟩
                clear hg
                go_wp2_with fail
                exact ⟨⟨j + 1, c, by go_num, by omega, HN⟩, by simp [intOf]; omega⟩
      · have HE : Hid (G = true) := HJ.out.2.2.trans (HGE.out j x (by omega))
        have HBW := (show Hid _ from (HC.out wr HJ.out.2.1).1)
        clear HJ
        go_wp2_with fail
        go_ret
        exact ⟨by rw [HE.out]; rfl, HBW.out⟩
end Go.Proofs.Ytpmlagenakcdfaa
