import Derived.Test.YtledclkmeikgdaaGDat
namespace Go.Proofs.Ytledclkmeikgdaa
open Go.RowKit Go.Deep
set_option linter.unusedVariables false
set_option maxRecDepth 100000
set_option linter.unusedSimpArgs false

theorem info74 : (Try.prog.info? 74).map (fun i => (i.zero, i.size, i.bytes)) = some (some (.agg #[.int .i64 0, .int .i64 0, .int .i64 0]), 3, 24) := by kernel_rfl
theorem run_makeSEdgeR (n : Nat) (hn : n ≤ 1048576) (w : World) :
    (Instr.makeSlice 24 (.int .i64 (n : Int)) (.int .i64 (n : Int))).run Try.prog w = .ok (.slice (some ⟨w.heap.size, 0, none⟩) n n) (w.alloc (.cells (madeCells #[.int .i64 0, .int .i64 0, .int .i64 0] (n * 3)) 74)) := by
  obtain ⟨i, hi, hzz⟩ := Option.map_eq_some_iff.1 info74
  simp only [Prod.mk.injEq] at hzz
  obtain ⟨hz, hs, hb⟩ := hzz
  have hr := run_make (P := Try.prog) w 24 74 i _ Try.underlying24 hi hz .i64 .i64 n n (by omega) (Int.le_refl _) (by rw [hb]; omega) (by omega)
  simp only [Int.toNat_natCast, hs] at hr
  exact hr
theorem info33 : (Try.prog.info? 33).map (fun i => (i.zero, i.size, i.bytes)) = some (some (.agg #[.int .i64 0, .string ByteArray.empty]), 2, 24) := by kernel_rfl
theorem run_makeSpotR (n : Nat) (hn : n ≤ 1048576) (w : World) :
    (Instr.makeSlice 25 (.int .i64 (n : Int)) (.int .i64 (n : Int))).run Try.prog w = .ok (.slice (some ⟨w.heap.size, 0, none⟩) n n) (w.alloc (.cells (madeCells #[.int .i64 0, .string ByteArray.empty] (n * 2)) 33)) := by
  obtain ⟨i, hi, hzz⟩ := Option.map_eq_some_iff.1 info33
  simp only [Prod.mk.injEq] at hzz
  obtain ⟨hz, hs, hb⟩ := hzz
  have hr := run_make (P := Try.prog) w 25 33 i _ Try.underlying25 hi hz .i64 .i64 n n (by omega) (Int.le_refl _) (by rw [hb]; omega) (by omega)
  simp only [Int.toNat_natCast, hs] at hr
  exact hr
end Go.Proofs.Ytledclkmeikgdaa

namespace Go.Proofs.Ytledclkmeikgdaa
open Go.RowKit Go.Deep
set_option linter.unusedVariables false
set_option maxRecDepth 100000
set_option linter.unusedSimpArgs false

set_option maxHeartbeats 3200000 in
theorem eqInts_any {S S' : Nat → Prop} (l : List Int) (v v' : Value) (w : World) (h : Ints w S l v) (h' : Ints w S' l v') :
    Calls Try.prog 65 #[v, v'] w fun e w' => e = .returned (.bool true) ∧ Below w.heap.size w w' := by
  obtain ⟨a, cap, b, off, rfl, hc, hm, ha, hcell⟩ := h
  have HC := (show Hid _ from hcell); clear hcell
  have HA := (show Hid _ from ha); clear ha
  obtain ⟨a', cap', b', off', rfl, hc', hm', ha', hcell'⟩ := h'
  have HC' := (show Hid _ from hcell'); clear hcell'
  have HA' := (show Hid _ from ha'); clear ha'
  unfold maxLen at hm hm'
  go_enter Try.func65, Try.ntmps65
  go_wp2_with fail
  go_loopw [5] (fun i wr => ∃ j : Nat, j ≤ l.length ∧ i = .int .i64 j ∧ Below w.heap.size w wr) (fun i _ => l.length - (intOf i).toNat)
  case atStart => exact ⟨0, Nat.zero_le _, rfl, Below.refl _ _⟩
  case round =>
    obtain ⟨j, hj, rfl, hbel⟩ := hrel
    by_cases hlt : j < l.length
    · obtain ⟨rfl, _⟩ := HA.out (by omega)
      obtain ⟨rfl, _⟩ := HA'.out (by omega)
      have c0 := HC.out j (by omega)
      rw [← hbel.cell (lt_of_cell c0)] at c0
      have d0 := HC'.out j (by omega)
      rw [← hbel.cell (lt_of_cell d0)] at d0
      have hbd := hbel.drew
      go_wp2_with fail
      go_region
      all_goals
        go_wp2_with fail
        exact ⟨⟨j + 1, by omega, by go_num, hbd⟩, by simp [intOf]; omega⟩
    · go_wp2_with fail
      go_ret
      exact ⟨rfl, hbel⟩
set_option maxHeartbeats 3200000 in
theorem eqIRws_any {S S' : Nat → Prop} (l : List (List Int)) (v v' : Value) (w : World) (h : IRws w S l v) (h' : IRws w S' l v') :
    Calls Try.prog 21 #[v, v'] w fun e w' => e = .returned (.bool true) ∧ Below w.heap.size w w' := by
  obtain ⟨a, cap, b, off, s0, rfl, hc, hm, ha, hcell, r0⟩ := h
  have HC := (show Hid _ from hcell); clear hcell
  have HA := (show Hid _ from ha); clear ha
  have HR0 := (show Hid _ from r0); clear r0
  obtain ⟨a', cap', b', off', s0', rfl, hc', hm', ha', hcell', r0'⟩ := h'
  have HC' := (show Hid _ from hcell'); clear hcell'
  have HA' := (show Hid _ from ha'); clear ha'
  have HR0' := (show Hid _ from r0'); clear r0'
  unfold maxLen at hm hm'
  go_enter Try.func21, Try.ntmps21
  go_wp2_with fail
  go_loopw [5] (fun i wr => ∃ j : Nat, j ≤ l.length ∧ i = .int .i64 j ∧ Below w.heap.size w wr) (fun i _ => l.length - (intOf i).toNat)
  case atStart => exact ⟨0, Nat.zero_le _, rfl, Below.refl _ _⟩
  case round =>
    obtain ⟨j, hj, rfl, hbel⟩ := hrel
    by_cases hlt : j < l.length
    · obtain ⟨rfl, _⟩ := HA.out (by omega)
      obtain ⟨rfl, _⟩ := HA'.out (by omega)
      have c0 := HC.out j (by omega)
      rw [← hbel.cell (lt_of_cell c0)] at c0
      have d0 := HC'.out j (by omega)
      rw [← hbel.cell (lt_of_cell d0)] at d0
      have hcl := eqInts_any l[j] _ _ wr.drew ((HR0.out j hlt).still hbel.drew) ((HR0'.out j hlt).still hbel.drew)
      obtain ⟨a0x, cap0x, e0x, _⟩ := (HR0.out j hlt).form
      obtain ⟨a0y, cap0y, e0y, _⟩ := (HR0'.out j hlt).form
      rw [e0x] at c0
      rw [e0y] at d0
      rw [e0x, e0y] at hcl
      clear e0x e0y
      have HCL := (show Hid _ from hcl); clear hcl
      go_wp2_with fail
      go_region_with (go_at_call 65; refine Calls.mono HCL.out ?_; rintro e w1 ⟨rfl, hb1⟩)
      all_goals
        have hbw : Below w.heap.size w w1 := bel_trans hbel.drew hb1
        clear c0 d0
        go_wp2_with fail
        exact ⟨⟨j + 1, by omega, by go_num, hbw⟩, by simp [intOf]; omega⟩
    · go_wp2_with fail
      go_ret
      exact ⟨rfl, hbel⟩
set_option maxHeartbeats 3200000 in
theorem eqSEdge_any (t : DSEdge) (w : World) :
    Calls Try.prog 104 #[.agg #[.int .i64 t.from_, .int .i64 t.to_, .int .i64 t.kind], .agg #[.int .i64 t.from_, .int .i64 t.to_, .int .i64 t.kind]] w fun e w' => e = .returned (.bool true) ∧ Below w.heap.size w w' := by
  go_enter Try.func104, Try.ntmps104
  go_wp2_with fail
  go_ret
  exact ⟨rfl, bel2 _ _ _⟩
set_option maxHeartbeats 3200000 in
theorem eqSEdgeR_any {S S' : Nat → Prop} (l : List DSEdge) (v v' : Value) (w : World) (h : SEdgeR w S l v) (h' : SEdgeR w S' l v') :
    Calls Try.prog 63 #[v, v'] w fun e w' => e = .returned (.bool true) ∧ Below w.heap.size w w' := by
  obtain ⟨a, cap, b, off, rfl, hc, hm, ha, hcell⟩ := h
  have HC := (show Hid _ from hcell); clear hcell
  have HA := (show Hid _ from ha); clear ha
  obtain ⟨a', cap', b', off', rfl, hc', hm', ha', hcell'⟩ := h'
  have HC' := (show Hid _ from hcell'); clear hcell'
  have HA' := (show Hid _ from ha'); clear ha'
  unfold maxLen at hm hm'
  go_enter Try.func63, Try.ntmps63
  go_wp2_with fail
  go_loopw [5] (fun i wr => ∃ j : Nat, j ≤ l.length ∧ i = .int .i64 j ∧ Below w.heap.size w wr) (fun i _ => l.length - (intOf i).toNat)
  case atStart => exact ⟨0, Nat.zero_le _, rfl, Below.refl _ _⟩
  case round =>
    obtain ⟨j, hj, rfl, hbel⟩ := hrel
    by_cases hlt : j < l.length
    · obtain ⟨rfl, _⟩ := HA.out (by omega)
      obtain ⟨rfl, _⟩ := HA'.out (by omega)
      obtain ⟨c0, c1, c2⟩ := HC.out j (by omega)
      rw [← hbel.cell (lt_of_cell c0)] at c0
      rw [← hbel.cell (lt_of_cell c1)] at c1
      rw [← hbel.cell (lt_of_cell c2)] at c2
      obtain ⟨d0, d1, d2⟩ := HC'.out j (by omega)
      rw [← hbel.cell (lt_of_cell d0)] at d0
      rw [← hbel.cell (lt_of_cell d1)] at d1
      rw [← hbel.cell (lt_of_cell d2)] at d2
      have hcl := eqSEdge_any l[j] wr.drew
      have HCL := (show Hid _ from hcl); clear hcl
      go_wp2_with fail
      go_region_with (go_at_call 104; refine Calls.mono HCL.out ?_; rintro e w1 ⟨rfl, hb1⟩)
      all_goals
        have hbw : Below w.heap.size w w1 := bel_trans hbel.drew hb1
        clear c0 d0 c1 d1 c2 d2
        go_wp2_with fail
        exact ⟨⟨j + 1, by omega, by go_num, hbw⟩, by simp [intOf]; omega⟩
    · go_wp2_with fail
      go_ret
      exact ⟨rfl, hbel⟩
set_option maxHeartbeats 3200000 in
theorem eqSpot_any (t : DSpot) (w : World) :
    Calls Try.prog 105 #[.agg #[.int .i64 t.scope, .string t.name], .agg #[.int .i64 t.scope, .string t.name]] w fun e w' => e = .returned (.bool true) ∧ Below w.heap.size w w' := by
  go_enter Try.func105, Try.ntmps105
  go_wp2_with fail
  go_ret
  exact ⟨rfl, bel2 _ _ _⟩
set_option maxHeartbeats 3200000 in
theorem eqSpotR_any {S S' : Nat → Prop} (l : List DSpot) (v v' : Value) (w : World) (h : SpotR w S l v) (h' : SpotR w S' l v') :
    Calls Try.prog 64 #[v, v'] w fun e w' => e = .returned (.bool true) ∧ Below w.heap.size w w' := by
  obtain ⟨a, cap, b, off, rfl, hc, hm, ha, hcell⟩ := h
  have HC := (show Hid _ from hcell); clear hcell
  have HA := (show Hid _ from ha); clear ha
  obtain ⟨a', cap', b', off', rfl, hc', hm', ha', hcell'⟩ := h'
  have HC' := (show Hid _ from hcell'); clear hcell'
  have HA' := (show Hid _ from ha'); clear ha'
  unfold maxLen at hm hm'
  go_enter Try.func64, Try.ntmps64
  go_wp2_with fail
  go_loopw [5] (fun i wr => ∃ j : Nat, j ≤ l.length ∧ i = .int .i64 j ∧ Below w.heap.size w wr) (fun i _ => l.length - (intOf i).toNat)
  case atStart => exact ⟨0, Nat.zero_le _, rfl, Below.refl _ _⟩
  case round =>
    obtain ⟨j, hj, rfl, hbel⟩ := hrel
    by_cases hlt : j < l.length
    · obtain ⟨rfl, _⟩ := HA.out (by omega)
      obtain ⟨rfl, _⟩ := HA'.out (by omega)
      obtain ⟨c0, c1, zc0⟩ := HC.out j (by omega)
      rw [← hbel.cell (lt_of_cell c0)] at c0
      rw [← hbel.cell (lt_of_cell c1)] at c1
      obtain ⟨d0, d1, zd0⟩ := HC'.out j (by omega)
      rw [← hbel.cell (lt_of_cell d0)] at d0
      rw [← hbel.cell (lt_of_cell d1)] at d1
      have hcl := eqSpot_any l[j] wr.drew
      have HCL := (show Hid _ from hcl); clear hcl
      go_wp2_with fail
      go_region_with (go_at_call 105; refine Calls.mono HCL.out ?_; rintro e w1 ⟨rfl, hb1⟩)
      all_goals
        have hbw : Below w.heap.size w w1 := bel_trans hbel.drew hb1
        clear c0 d0 c1 d1
        go_wp2_with fail
        exact ⟨⟨j + 1, by omega, by go_num, hbw⟩, by simp [intOf]; omega⟩
    · go_wp2_with fail
      go_ret
      exact ⟨rfl, hbel⟩
set_option maxHeartbeats 3200000 in
theorem eqSg_any {S S' : Nat → Prop} (t : DSg) (v1 x1 v2 x2 v3 x3 : Value) (w : World) (h : DSgL w S t v1 v2 v3) (h' : DSgL w S' t x1 x2 x3) :
    Calls Try.prog 20 #[.agg #[.int .i64 t.scopes, v1, v2, v3], .agg #[.int .i64 t.scopes, x1, x2, x3]] w fun e w' => e = .returned (.bool true) ∧ Below w.heap.size w w' := by
  have HF1 := (show Hid _ from fun (w' : World) (hb : Below w.heap.size w w') => eqSEdgeR_any t.edges v1 x1 w' (h.edges.still hb) (h'.edges.still hb))
  have HF2 := (show Hid _ from fun (w' : World) (hb : Below w.heap.size w w') => eqSpotR_any t.decls v2 x2 w' (h.decls.still hb) (h'.decls.still hb))
  have HF3 := (show Hid _ from fun (w' : World) (hb : Below w.heap.size w w') => eqSpotR_any t.refs v3 x3 w' (h.refs.still hb) (h'.refs.still hb))
  obtain ⟨a1, p1, rfl, _⟩ := h.edges.form
  obtain ⟨r1, s1, rfl, _⟩ := h'.edges.form
  obtain ⟨a2, p2, rfl, _⟩ := h.decls.form
  obtain ⟨r2, s2, rfl, _⟩ := h'.decls.form
  obtain ⟨a3, p3, rfl, _⟩ := h.refs.form
  obtain ⟨r3, s3, rfl, _⟩ := h'.refs.form
  clear h h'
  have hbA := Box.new w 27 [.int .i64 t.scopes, .slice a1 t.edges.length p1, .slice a2 t.decls.length p2, .slice a3 t.refs.length p3]
  have hbB := Box.new (w.alloc (.cells ([.int .i64 t.scopes, .slice a1 t.edges.length p1, .slice a2 t.decls.length p2, .slice a3 t.refs.length p3] : List Value).toArray 27)) 27 [.int .i64 t.scopes, .slice r1 t.edges.length s1, .slice r2 t.decls.length s2, .slice r3 t.refs.length s3]
  simp only [World.size_alloc] at hbB
  have HB := (show Hid _ from (⟨hbA.still (bel_alloc _ _), hbB, bel2 _ _ _⟩ : Box ((w.alloc (.cells ([.int .i64 t.scopes, .slice a1 t.edges.length p1, .slice a2 t.decls.length p2, .slice a3 t.refs.length p3] : List Value).toArray 27)).alloc (.cells ([.int .i64 t.scopes, .slice r1 t.edges.length s1, .slice r2 t.decls.length s2, .slice r3 t.refs.length s3] : List Value).toArray 27)) w.heap.size 27 [.int .i64 t.scopes, .slice a1 t.edges.length p1, .slice a2 t.decls.length p2, .slice a3 t.refs.length p3] ∧ Box ((w.alloc (.cells ([.int .i64 t.scopes, .slice a1 t.edges.length p1, .slice a2 t.decls.length p2, .slice a3 t.refs.length p3] : List Value).toArray 27)).alloc (.cells ([.int .i64 t.scopes, .slice r1 t.edges.length s1, .slice r2 t.decls.length s2, .slice r3 t.refs.length s3] : List Value).toArray 27)) (w.heap.size + 1) 27 [.int .i64 t.scopes, .slice r1 t.edges.length s1, .slice r2 t.decls.length s2, .slice r3 t.refs.length s3] ∧ Below w.heap.size w ((w.alloc (.cells ([.int .i64 t.scopes, .slice a1 t.edges.length p1, .slice a2 t.decls.length p2, .slice a3 t.refs.length p3] : List Value).toArray 27)).alloc (.cells ([.int .i64 t.scopes, .slice r1 t.edges.length s1, .slice r2 t.decls.length s2, .slice r3 t.refs.length s3] : List Value).toArray 27))))
  clear hbA hbB
  go_enter Try.func20, Try.ntmps20
  go_wp2_with fail
  refine Calls.mono (HF1.out _ HB.out.2.2) ?_
  rintro e w1 ⟨rfl, hb1⟩
  have HN1 := (show Hid _ from (⟨HB.out.1.still hb1, HB.out.2.1.still hb1, bel_trans HB.out.2.2 hb1⟩ : Box w1 w.heap.size 27 [.int .i64 t.scopes, .slice a1 t.edges.length p1, .slice a2 t.decls.length p2, .slice a3 t.refs.length p3] ∧ Box w1 (w.heap.size + 1) 27 [.int .i64 t.scopes, .slice r1 t.edges.length s1, .slice r2 t.decls.length s2, .slice r3 t.refs.length s3] ∧ Below w.heap.size w w1)); clear hb1
  have k2 : w1.cell? ⟨w.heap.size, 2, none⟩ = some (.slice a2 t.decls.length p2) := HN1.out.1.cell 2 (by simp)
  have m2 : w1.cell? ⟨w.heap.size + 1, 2, none⟩ = some (.slice r2 t.decls.length s2) := HN1.out.2.1.cell 2 (by simp)
  go_wp2_with fail
  refine Calls.mono (HF2.out _ HN1.out.2.2) ?_
  rintro e w2 ⟨rfl, hb2⟩
  clear k2 m2
  have HN2 := (show Hid _ from (⟨HN1.out.1.still hb2, HN1.out.2.1.still hb2, bel_trans HN1.out.2.2 hb2⟩ : Box w2 w.heap.size 27 [.int .i64 t.scopes, .slice a1 t.edges.length p1, .slice a2 t.decls.length p2, .slice a3 t.refs.length p3] ∧ Box w2 (w.heap.size + 1) 27 [.int .i64 t.scopes, .slice r1 t.edges.length s1, .slice r2 t.decls.length s2, .slice r3 t.refs.length s3] ∧ Below w.heap.size w w2)); clear hb2
  have k3 : w2.cell? ⟨w.heap.size, 3, none⟩ = some (.slice a3 t.refs.length p3) := HN2.out.1.cell 3 (by simp)
  have m3 : w2.cell? ⟨w.heap.size + 1, 3, none⟩ = some (.slice r3 t.refs.length s3) := HN2.out.2.1.cell 3 (by simp)
  go_wp2_with fail
  refine Calls.mono (HF3.out _ HN2.out.2.2) ?_
  rintro e w3 ⟨rfl, hb3⟩
  clear k3 m3
  have HN3 := (show Hid _ from (⟨HN2.out.1.still hb3, HN2.out.2.1.still hb3, bel_trans HN2.out.2.2 hb3⟩ : Box w3 w.heap.size 27 [.int .i64 t.scopes, .slice a1 t.edges.length p1, .slice a2 t.decls.length p2, .slice a3 t.refs.length p3] ∧ Box w3 (w.heap.size + 1) 27 [.int .i64 t.scopes, .slice r1 t.edges.length s1, .slice r2 t.decls.length s2, .slice r3 t.refs.length s3] ∧ Below w.heap.size w w3)); clear hb3
  go_wp2_with fail
  go_ret
  exact ⟨rfl, HN3.out.2.2⟩
end Go.Proofs.Ytledclkmeikgdaa
