import Derived.Test.YtaimlmjgicmbeaaDf
import Derived.Test.YtaimlmjgicmbeaaDe0
import Derived.BigQuiet
import Derived.WalkLawsBesides
import Derived.BigRegion
import Derived.Deep.CutRange
import Derived.Deep.RegionHeld3
import Derived.Lib.MinMax
/-! The program: a Prod and its Kids are put together. -/
namespace Go.Proofs.Ytaimlmjgicmbeaa
open Go.RowKit Go.Deep
set_option linter.unusedVariables false
set_option maxRecDepth 100000
set_option linter.unusedSimpArgs false

theorem bel_drewN {B : Nat} {w w' : World} (h : Below B w w') (n : Nat) : Below B w (w'.drewN n) := ⟨h.os, h.tape, h.output, h.size, h.block⟩
/-- The slice of a row that is owned, and its cells. -/
theorem own_form {w : World} {B e : Nat} {u : Value} {n : Nat} {xs : List Value} (ho : w.ownsRow B e 1 u n xs) : ∃ (ka : Option Addr) (kc kb : Nat), u = .slice ka n kc ∧ n ≤ kc ∧ (0 < n → ka = some ⟨kb, 0, none⟩ ∧ u.ownBlock = some kb) := by
  rcases ho.2 with ⟨h0, h1⟩ | ⟨g, cp, cur, r1, r2, r3, r4, r5, r6⟩
  · exact ⟨none, 0, 0, by rw [h0, h1], by omega, fun h => by omega⟩
  · exact ⟨_, cp, g, r1, by omega, fun _ => ⟨rfl, by rw [r1]; rfl⟩⟩
theorem own_cell {w : World} {B e : Nat} {ka : Option Addr} {n kc kb : Nat} {xs : List Value} (ho : w.ownsRow B e 1 (.slice ka n kc) n xs) (hk : 0 < n → ka = some ⟨kb, 0, none⟩ ∧ (Value.slice ka n kc).ownBlock = some kb) (j : Nat) (hj : j < n) (hx : j < xs.length) : w.cell? ⟨kb, j, none⟩ = some xs[j] := by
  have c1 := World.ownsRow.cells ho (g := kb) (hk (by omega)).2 j xs[j] (by simp [hx])
  rw [add0] at c1
  exact c1
/-- What is needed of a Kid. -/
def KidOk (w : World) (v : Value) : Prop := v = .pointer none ∨ ∃ (g : Nat) (n : Int), v = .pointer (some ⟨g, 0, none⟩) ∧ w.cell? ⟨g, 2, none⟩ = some (.int .i64 n) ∧ 0 ≤ n ∧ n ≤ 1073741825
theorem KidOk.keep {w w' : World} {v : Value} (h : KidOk w v) (hb : ∀ b, b < w.heap.size → w'.heap[b]? = w.heap[b]?) : KidOk w' v := by
  rcases h with h | ⟨g, n, h1, h2, h3⟩
  · exact .inl h
  · exact .inr ⟨g, n, h1, (World.cell?_of_block (w := w) (hb g (lt_of_cell h2))).trans h2, h3⟩
theorem DP.kidOk {d : Bn} {L : List Int} {w : World} {K : Nat → Prop} {f a : Nat} {v : Value} (h : DP d L w K f a v) : KidOk w v := by
  cases f with
  | zero => exact h.elim
  | succ f =>
    obtain ⟨g, kb, kc, ka, vs, ats, h1, h2, h3, h4, h5, h6, h7, n, h8, h9⟩ := h
    exact .inr ⟨g, n, h1, h8, h9⟩
theorem DS.kidOk {d : Bn} {L : List Int} {w : World} {K : Nat → Prop} {f a i : Nat} {vs : List Value} (h : DS d L w K f a i vs) (hi : i ≤ (pa d L a).right.length) (j : Nat) (hj : j < vs.length) : KidOk w vs[j] := by
  have hl := h.len
  obtain ⟨h1, h2⟩ := h.all j (by omega) hj
  by_cases ht : (pa d L a).right[j]'(by omega) < (d.terms.length : Int)
  · exact .inl (h1 ht)
  · obtain ⟨y, _, h3⟩ := h2 ht
    exact h3.kidOk
set_option maxHeartbeats 6400000 in
theorem derivedBy_any (k : Int) (B : Nat) (u : Value) (n : Nat) (vs : List Value) (w : World) (ho : w.ownsRow B 55 1 u n vs) (hn : vs.length = n) (hm : n ≤ 12) (hk : ∀ j (hj : j < vs.length), KidOk w vs[j]) :
    Calls Try.prog 66 #[.int .i64 k, u] w fun e w' => e = .returned (.pointer (some ⟨w.heap.size, 0, none⟩)) ∧ Below w.heap.size w w' ∧ ∃ z : Int, 0 ≤ z ∧ z ≤ 1073741825 ∧ Box w' w.heap.size 91 [.int .i64 k, u, .int .i64 z, .bool false, .int .i64 0] := by
  obtain ⟨ka, kc, kb, rfl, hkc, hka⟩ := own_form ho
  have HC := (show Hid _ from fun (w' : World) (hb : Below w.heap.size w w') (j : Nat) (hj : j < n) (hx : j < vs.length) => (show ka = some ⟨kb, 0, none⟩ ∧ w'.cell? ⟨kb, j, none⟩ = some vs[j] from ⟨(hka (by omega)).1, by
    have h1 := own_cell ho hka j hj hx
    exact (World.cell?_of_block (w := w) (hb.block kb (lt_of_cell h1))).trans h1⟩))
  have HK := (show Hid _ from fun (w' : World) (hb : Below w.heap.size w w') (j : Nat) (hx : j < vs.length) => (show vs[j] = .pointer none ∨ ∃ (g : Nat) (m : Int), vs[j] = .pointer (some ⟨g, 0, none⟩) ∧ w'.cell? ⟨g, 2, none⟩ = some (.int .i64 m) ∧ 0 ≤ m ∧ m ≤ 1073741825 from (hk j hx).keep (fun b hb2 => hb.block b hb2)))
  have HN := (show Hid _ from hn)
  have hbn := Box.new w 91 [.int .i64 k, .slice ka n kc, .int .i64 1, .bool false, .int .i64 0]
  have HB0 : Hid (∀ q, Below w.heap.size w ((w.alloc (.cells #[.int .i64 k, .slice ka n kc, .int .i64 1, .bool false, .int .i64 0] 91)).drewN q) ∧ ∃ z : Int, 0 ≤ z ∧ z ≤ 1073741825 ∧ Box ((w.alloc (.cells #[.int .i64 k, .slice ka n kc, .int .i64 1, .bool false, .int .i64 0] 91)).drewN q) w.heap.size 91 [.int .i64 k, .slice ka n kc, .int .i64 z, .bool false, .int .i64 0]) := fun q => ⟨bel_drewN (bel_alloc w _) q, 1, by omega, by omega, hbn.keep rfl⟩
  clear ho hka hk hn hbn
  go_enter Try.func66, Try.ntmps66
  go_wp2_with fail
  go_loopw [14] (fun i wr => ∃ j : Nat, i = .int .i64 j ∧ j ≤ n ∧ Hid (Below w.heap.size w wr ∧ ∃ z : Int, 0 ≤ z ∧ z ≤ 1073741825 ∧ Box wr w.heap.size 91 [.int .i64 k, .slice ka n kc, .int .i64 z, .bool false, .int .i64 0])) (fun i _ => n - (intOf i).toNat)
  case atStart => exact ⟨0, rfl, Nat.zero_le _, HB0.out 0⟩
  case round =>
    obtain ⟨j, rfl, hj, HJ⟩ := hrel
    by_cases hlt : j < n
    · have hx : j < vs.length := by rw [HN.out]; exact hlt
      obtain ⟨hbel, z, hz0, hz1, hbx⟩ := HJ.out
      obtain ⟨e1, hc⟩ := HC.out wr hbel j hlt hx
      subst e1
      have hjm : j ≤ 12 := by omega
      rcases HK.out wr hbel j hx with hv | ⟨g, m, hv, hm2, hm0, hm1⟩
      · rw [hv] at hc
        clear hv hbel hbx HB0 HC HK HN hx
        go_wp2_with fail
        exact ⟨⟨j + 1, by go_num, by omega, HJ⟩, by simp [intOf]; omega⟩
      · rw [hv] at hc
        have b2 : wr.cell? ⟨w.heap.size, 2, none⟩ = some (.int .i64 z) := hbx.cell 2 (by simp)
        have z2 : wr.frozen? ⟨w.heap.size, 2, none⟩ = false := hbx.frozen 2
        have kw : IntKind.i64.wrap (z + m) = z + m := by simp [IntKind.wrap, IntKind.bits, IntKind.signed]; omega
        have HN : Hid (∀ q, Below w.heap.size w ((wr.setCell ⟨w.heap.size, 2, none⟩ (.int .i64 (min (z + m) 1073741825))).drewN q) ∧ ∃ y : Int, 0 ≤ y ∧ y ≤ 1073741825 ∧ Box ((wr.setCell ⟨w.heap.size, 2, none⟩ (.int .i64 (min (z + m) 1073741825))).drewN q) w.heap.size 91 [.int .i64 k, .slice (some ⟨kb, 0, none⟩) n kc, .int .i64 y, .bool false, .int .i64 0]) := fun q => ⟨bel_drewN (hbel.setCell (Nat.le_refl _) _) q, min (z + m) 1073741825, by omega, by omega, (hbx.set 2 _).keep rfl⟩
        clear hv hbel hbx HB0 HC HK hx HJ hz0 hz1 hm0 hm1
        go_upto_region 6 with fail
        refine wp_region_held_drew (S := fun _ => True) (by kernel_rfl) trivial (fun hHeld => ?_)
        refine wpAnyH_take (i := 0) (oi := { dst := some 20, op := Go.Op.move (Go.Operand.tmp 5), type := 55, pos := "l06_parsing.go:159", after := #[], guard := none }) (v := ?v1) rfl (by kernel_rfl) (by kernel_rfl) (by kernel_rfl) (fun _ _ _ h => h) (Or.inl ⟨by rfl, ?h1⟩) hHeld ?r1
        case h1 => (intro w hSw; (try dsimp only at hSw); go_simp; try with_reducible rfl)
        try simp only [Act.put, List.setIfInBounds_toArray, List.set_cons_zero, List.set_cons_succ]
        refine wpAnyH_take (i := 1) (oi := { dst := some 21, op := Go.Op.move (Go.Operand.tmp 5), type := 55, pos := "l06_parsing.go:159", after := #[], guard := none }) (v := ?v2) rfl (by kernel_rfl) (by kernel_rfl) (by kernel_rfl) (fun _ _ _ h => h) (Or.inl ⟨by rfl, ?h2⟩) hHeld ?r2
        case h2 => (intro w hSw; (try dsimp only at hSw); go_simp; try with_reducible rfl)
        try simp only [Act.put, List.setIfInBounds_toArray, List.set_cons_zero, List.set_cons_succ]
        refine wpAnyH_take (i := 2) (oi := { dst := some 22, op := Go.Op.nilCheck (Go.Operand.tmp 21), type := 0, pos := "l06_parsing.go:159", after := #[{ on := 1, ground := Go.Ground.data }], guard := none }) (v := ?v3) rfl (by kernel_rfl) (by kernel_rfl) (by kernel_rfl) (fun _ _ _ h => h) (Or.inl ⟨by rfl, ?h3⟩) hHeld ?r3
        case h3 => (intro w hSw; (try dsimp only at hSw); go_simp; try with_reducible rfl)
        try simp only [Act.put, List.setIfInBounds_toArray, List.set_cons_zero, List.set_cons_succ]
        refine wpAnyH_take (i := 3) (oi := { dst := some 23, op := Go.Op.fieldAddr 91 (Go.Operand.tmp 22) 2, type := 0, pos := "l06_parsing.go:159", after := #[{ on := 2, ground := Go.Ground.data }], guard := none }) (v := ?v4) rfl (by kernel_rfl) (by kernel_rfl) (by kernel_rfl) (fun _ _ _ h => h) (Or.inl ⟨by rfl, ?h4⟩) hHeld ?r4
        case h4 => (intro w hSw; (try dsimp only at hSw); go_simp; try with_reducible rfl)
        try simp only [Act.put, List.setIfInBounds_toArray, List.set_cons_zero, List.set_cons_succ]
        refine wpAnyH_take (i := 5) (oi := { dst := some 25, op := Go.Op.move (Go.Operand.tmp 7), type := 55, pos := "l06_parsing.go:159", after := #[], guard := none }) (v := ?v5) rfl (by kernel_rfl) (by kernel_rfl) (by kernel_rfl) (fun _ _ _ h => h) (Or.inl ⟨by rfl, ?h5⟩) hHeld ?r5
        case h5 => (intro w hSw; (try dsimp only at hSw); go_simp; try with_reducible rfl)
        try simp only [Act.put, List.setIfInBounds_toArray, List.set_cons_zero, List.set_cons_succ]
        refine wpAnyH_take (i := 6) (oi := { dst := some 26, op := Go.Op.nilCheck (Go.Operand.tmp 25), type := 0, pos := "l06_parsing.go:159", after := #[{ on := 5, ground := Go.Ground.data }], guard := none }) (v := ?v6) rfl (by kernel_rfl) (by kernel_rfl) (by kernel_rfl) (fun _ _ _ h => h) (Or.inl ⟨by rfl, ?h6⟩) hHeld ?r6
        case h6 => (intro w hSw; (try dsimp only at hSw); go_simp; try with_reducible rfl)
        try simp only [Act.put, List.setIfInBounds_toArray, List.set_cons_zero, List.set_cons_succ]
        refine wpAnyH_take (i := 7) (oi := { dst := some 27, op := Go.Op.fieldAddr 91 (Go.Operand.tmp 26) 2, type := 0, pos := "l06_parsing.go:159", after := #[{ on := 6, ground := Go.Ground.data }], guard := none }) (v := ?v7) rfl (by kernel_rfl) (by kernel_rfl) (by kernel_rfl) (fun _ _ _ h => h) (Or.inl ⟨by rfl, ?h7⟩) hHeld ?r7
        case h7 => (intro w hSw; (try dsimp only at hSw); go_simp; try with_reducible rfl)
        try simp only [Act.put, List.setIfInBounds_toArray, List.set_cons_zero, List.set_cons_succ]
        refine wpAnyH_ready (rs := [4, 8]) (by kernel_rfl) (by simp) ?_
        refine AllReadyH.cons (o := { dst := some 24, op := Go.Op.load 3 (Go.Operand.tmp 23), type := 3, pos := "l06_parsing.go:159", after := #[{ on := 3, ground := Go.Ground.data }], guard := none }) rfl (fun K hK => ?_) (AllReadyH.cons (o := { dst := some 28, op := Go.Op.load 3 (Go.Operand.tmp 27), type := 3, pos := "l06_parsing.go:159", after := #[{ on := 7, ground := Go.Ground.data }], guard := none }) rfl (fun K hK => ?_) AllReadyH.nil)
        · go_simp
          clear hHeld
          refine hK.out _ _ trivial (fun hHeld => ?_)
          clear hK K
          try simp only [Act.put, List.setIfInBounds_toArray, List.set_cons_zero, List.set_cons_succ]
          refine wpAnyH_ready (rs := [8]) (by kernel_rfl) (by simp) ?_
          refine AllReadyH.cons (o := { dst := some 28, op := Go.Op.load 3 (Go.Operand.tmp 27), type := 3, pos := "l06_parsing.go:159", after := #[{ on := 7, ground := Go.Ground.data }], guard := none }) rfl (fun K hK => ?_) AllReadyH.nil
          go_simp
          clear hHeld
          refine hK.out _ _ trivial (fun hHeld => ?_)
          clear hK K
          try simp only [Act.put, List.setIfInBounds_toArray, List.set_cons_zero, List.set_cons_succ]
          refine wpAnyH_take (i := 9) (oi := { dst := some 29, op := Go.Op.binOp Go.BinOp.add 3 (Go.Operand.tmp 24) (Go.Operand.tmp 28) 3, type := 3, pos := "l06_parsing.go:159", after := #[{ on := 4, ground := Go.Ground.data }, { on := 8, ground := Go.Ground.data }], guard := none }) (v := ?v8) rfl (by kernel_rfl) (by kernel_rfl) (by kernel_rfl) (fun _ _ _ h => h) (Or.inl ⟨by rfl, ?h8⟩) hHeld ?r8
          case h8 => (intro w hSw; (try dsimp only at hSw); go_simp; try with_reducible rfl)
          try simp only [Act.put, List.setIfInBounds_toArray, List.set_cons_zero, List.set_cons_succ]
          refine wpAnyH_ready (rs := [10]) (by kernel_rfl) (by simp) ?_
          refine AllReadyH.cons (o := { dst := some 30, op := Go.Op.call { callee := Go.Callee.builtin Go.Builtin.min, args := #[Go.Operand.tmp 29, Go.Operand.const (Go.Value.int Go.IntKind.i64 1073741825)], argTypes := #[3, 3] }, type := 3, pos := "l06_parsing.go:159", after := #[{ on := 9, ground := Go.Ground.data }], guard := none }) rfl (fun K hK => ?_) AllReadyH.nil
          go_simp
          clear hHeld
          refine hK.out _ _ trivial (fun hHeld => ?_)
          clear hK K
          try simp only [Act.put, List.setIfInBounds_toArray, List.set_cons_zero, List.set_cons_succ]
          refine wpAnyH_take (i := 11) (oi := { dst := some 31, op := Go.Op.nilCheck (Go.Operand.tmp 20), type := 0, pos := "l06_parsing.go:159", after := #[{ on := 0, ground := Go.Ground.data }, { on := 0, ground := Go.Ground.phase }, { on := 1, ground := Go.Ground.phase }, { on := 2, ground := Go.Ground.phase }, { on := 3, ground := Go.Ground.phase }, { on := 4, ground := Go.Ground.phase }, { on := 5, ground := Go.Ground.phase }, { on := 6, ground := Go.Ground.phase }, { on := 7, ground := Go.Ground.phase }, { on := 8, ground := Go.Ground.phase }, { on := 9, ground := Go.Ground.phase }, { on := 10, ground := Go.Ground.phase }], guard := none }) (v := ?v9) rfl (by kernel_rfl) (by kernel_rfl) (by kernel_rfl) (fun _ _ _ h => h) (Or.inl ⟨by rfl, ?h9⟩) hHeld ?r9
          case h9 => (intro w hSw; (try dsimp only at hSw); go_simp; try with_reducible rfl)
          try simp only [Act.put, List.setIfInBounds_toArray, List.set_cons_zero, List.set_cons_succ]
          refine wpAnyH_take (i := 12) (oi := { dst := some 32, op := Go.Op.fieldAddr 91 (Go.Operand.tmp 31) 2, type := 0, pos := "l06_parsing.go:159", after := #[{ on := 11, ground := Go.Ground.data }, { on := 0, ground := Go.Ground.phase }, { on := 1, ground := Go.Ground.phase }, { on := 2, ground := Go.Ground.phase }, { on := 3, ground := Go.Ground.phase }, { on := 4, ground := Go.Ground.phase }, { on := 5, ground := Go.Ground.phase }, { on := 6, ground := Go.Ground.phase }, { on := 7, ground := Go.Ground.phase }, { on := 8, ground := Go.Ground.phase }, { on := 9, ground := Go.Ground.phase }, { on := 10, ground := Go.Ground.phase }], guard := none }) (v := ?v10) rfl (by kernel_rfl) (by kernel_rfl) (by kernel_rfl) (fun _ _ _ h => h) (Or.inl ⟨by rfl, ?h10⟩) hHeld ?r10
          case h10 => (intro w hSw; (try dsimp only at hSw); go_simp; try with_reducible rfl)
          try simp only [Act.put, List.setIfInBounds_toArray, List.set_cons_zero, List.set_cons_succ]
          refine wpAnyH_ready (rs := [13]) (by kernel_rfl) (by simp) ?_
          refine AllReadyH.cons (o := { dst := none, op := Go.Op.store 3 (Go.Operand.tmp 32) (Go.Operand.tmp 30), type := 0, pos := "l06_parsing.go:159", after := #[{ on := 12, ground := Go.Ground.data }, { on := 10, ground := Go.Ground.data }, { on := 0, ground := Go.Ground.phase }, { on := 1, ground := Go.Ground.phase }, { on := 2, ground := Go.Ground.phase }, { on := 3, ground := Go.Ground.phase }, { on := 4, ground := Go.Ground.phase }, { on := 5, ground := Go.Ground.phase }, { on := 6, ground := Go.Ground.phase }, { on := 7, ground := Go.Ground.phase }, { on := 8, ground := Go.Ground.phase }, { on := 9, ground := Go.Ground.phase }, { on := 10, ground := Go.Ground.phase }], guard := none }) rfl (fun K hK => ?_) AllReadyH.nil
          go_simp
          clear hHeld
          refine hK.out _ _ trivial (fun hHeld => ?_)
          clear hK K
          try simp only [Act.put, List.setIfInBounds_toArray, List.set_cons_zero, List.set_cons_succ]
          refine wpAnyH_done (by kernel_rfl) ?_ _
          go_wp2_with fail
          exact ⟨⟨j + 1, by go_num, by omega, HN.out 1⟩, by simp [intOf]; omega⟩
        · go_simp
          clear hHeld
          refine hK.out _ _ trivial (fun hHeld => ?_)
          clear hK K
          try simp only [Act.put, List.setIfInBounds_toArray, List.set_cons_zero, List.set_cons_succ]
          refine wpAnyH_ready (rs := [4]) (by kernel_rfl) (by simp) ?_
          refine AllReadyH.cons (o := { dst := some 24, op := Go.Op.load 3 (Go.Operand.tmp 23), type := 3, pos := "l06_parsing.go:159", after := #[{ on := 3, ground := Go.Ground.data }], guard := none }) rfl (fun K hK => ?_) AllReadyH.nil
          go_simp
          clear hHeld
          refine hK.out _ _ trivial (fun hHeld => ?_)
          clear hK K
          try simp only [Act.put, List.setIfInBounds_toArray, List.set_cons_zero, List.set_cons_succ]
          refine wpAnyH_take (i := 9) (oi := { dst := some 29, op := Go.Op.binOp Go.BinOp.add 3 (Go.Operand.tmp 24) (Go.Operand.tmp 28) 3, type := 3, pos := "l06_parsing.go:159", after := #[{ on := 4, ground := Go.Ground.data }, { on := 8, ground := Go.Ground.data }], guard := none }) (v := ?v11) rfl (by kernel_rfl) (by kernel_rfl) (by kernel_rfl) (fun _ _ _ h => h) (Or.inl ⟨by rfl, ?h11⟩) hHeld ?r11
          case h11 => (intro w hSw; (try dsimp only at hSw); go_simp; try with_reducible rfl)
          try simp only [Act.put, List.setIfInBounds_toArray, List.set_cons_zero, List.set_cons_succ]
          refine wpAnyH_ready (rs := [10]) (by kernel_rfl) (by simp) ?_
          refine AllReadyH.cons (o := { dst := some 30, op := Go.Op.call { callee := Go.Callee.builtin Go.Builtin.min, args := #[Go.Operand.tmp 29, Go.Operand.const (Go.Value.int Go.IntKind.i64 1073741825)], argTypes := #[3, 3] }, type := 3, pos := "l06_parsing.go:159", after := #[{ on := 9, ground := Go.Ground.data }], guard := none }) rfl (fun K hK => ?_) AllReadyH.nil
          go_simp
          clear hHeld
          refine hK.out _ _ trivial (fun hHeld => ?_)
          clear hK K
          try simp only [Act.put, List.setIfInBounds_toArray, List.set_cons_zero, List.set_cons_succ]
          refine wpAnyH_take (i := 11) (oi := { dst := some 31, op := Go.Op.nilCheck (Go.Operand.tmp 20), type := 0, pos := "l06_parsing.go:159", after := #[{ on := 0, ground := Go.Ground.data }, { on := 0, ground := Go.Ground.phase }, { on := 1, ground := Go.Ground.phase }, { on := 2, ground := Go.Ground.phase }, { on := 3, ground := Go.Ground.phase }, { on := 4, ground := Go.Ground.phase }, { on := 5, ground := Go.Ground.phase }, { on := 6, ground := Go.Ground.phase }, { on := 7, ground := Go.Ground.phase }, { on := 8, ground := Go.Ground.phase }, { on := 9, ground := Go.Ground.phase }, { on := 10, ground := Go.Ground.phase }], guard := none }) (v := ?v12) rfl (by kernel_rfl) (by kernel_rfl) (by kernel_rfl) (fun _ _ _ h => h) (Or.inl ⟨by rfl, ?h12⟩) hHeld ?r12
          case h12 => (intro w hSw; (try dsimp only at hSw); go_simp; try with_reducible rfl)
          try simp only [Act.put, List.setIfInBounds_toArray, List.set_cons_zero, List.set_cons_succ]
          refine wpAnyH_take (i := 12) (oi := { dst := some 32, op := Go.Op.fieldAddr 91 (Go.Operand.tmp 31) 2, type := 0, pos := "l06_parsing.go:159", after := #[{ on := 11, ground := Go.Ground.data }, { on := 0, ground := Go.Ground.phase }, { on := 1, ground := Go.Ground.phase }, { on := 2, ground := Go.Ground.phase }, { on := 3, ground := Go.Ground.phase }, { on := 4, ground := Go.Ground.phase }, { on := 5, ground := Go.Ground.phase }, { on := 6, ground := Go.Ground.phase }, { on := 7, ground := Go.Ground.phase }, { on := 8, ground := Go.Ground.phase }, { on := 9, ground := Go.Ground.phase }, { on := 10, ground := Go.Ground.phase }], guard := none }) (v := ?v13) rfl (by kernel_rfl) (by kernel_rfl) (by kernel_rfl) (fun _ _ _ h => h) (Or.inl ⟨by rfl, ?h13⟩) hHeld ?r13
          case h13 => (intro w hSw; (try dsimp only at hSw); go_simp; try with_reducible rfl)
          try simp only [Act.put, List.setIfInBounds_toArray, List.set_cons_zero, List.set_cons_succ]
          refine wpAnyH_ready (rs := [13]) (by kernel_rfl) (by simp) ?_
          refine AllReadyH.cons (o := { dst := none, op := Go.Op.store 3 (Go.Operand.tmp 32) (Go.Operand.tmp 30), type := 0, pos := "l06_parsing.go:159", after := #[{ on := 12, ground := Go.Ground.data }, { on := 10, ground := Go.Ground.data }, { on := 0, ground := Go.Ground.phase }, { on := 1, ground := Go.Ground.phase }, { on := 2, ground := Go.Ground.phase }, { on := 3, ground := Go.Ground.phase }, { on := 4, ground := Go.Ground.phase }, { on := 5, ground := Go.Ground.phase }, { on := 6, ground := Go.Ground.phase }, { on := 7, ground := Go.Ground.phase }, { on := 8, ground := Go.Ground.phase }, { on := 9, ground := Go.Ground.phase }, { on := 10, ground := Go.Ground.phase }], guard := none }) rfl (fun K hK => ?_) AllReadyH.nil
          go_simp
          clear hHeld
          refine hK.out _ _ trivial (fun hHeld => ?_)
          clear hK K
          try simp only [Act.put, List.setIfInBounds_toArray, List.set_cons_zero, List.set_cons_succ]
          refine wpAnyH_done (by kernel_rfl) ?_ _
          go_wp2_with fail
          exact ⟨⟨j + 1, by go_num, by omega, HN.out 1⟩, by simp [intOf]; omega⟩
    · have HJ2 := HJ
      have hje : j = n := by omega
      clear HB0 HC HK HN
      go_wp2_with fail
      go_ret
      exact ⟨rfl, HJ2.out⟩
end Go.Proofs.Ytaimlmjgicmbeaa
