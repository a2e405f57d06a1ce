import Derived.Test.YtnmdgbnbnpibhaaATo
namespace Go.Proofs.Ytnmdgbnbnpibhaa
open Go.RowKit Go.Deep
set_option linter.unusedVariables false
set_option maxRecDepth 100000
set_option linter.unusedSimpArgs false

set_option maxHeartbeats 3200000 in
theorem eqInts_anyG {S S' : Nat → Prop} (l : List Int) (v v' : Value) (w : World) (h : Ints w S l v) (h' : Ints w S' l v') :
    Calls Try.prog 81 #[v, v'] w fun e w' => e = .returned (.bool true) ∧ Below w.heap.size w w' := by
  obtain ⟨a, cap, b, off, rfl, hc, hm, ha, hcell⟩ := h
  have HC := (show Hid _ from hcell); clear hcell
  have HA := (show Hid _ from ha); clear ha
  obtain ⟨a', cap', b', off', rfl, hc', hm', ha', hcell'⟩ := h'
  have HC' := (show Hid _ from hcell'); clear hcell'
  have HA' := (show Hid _ from ha'); clear ha'
  unfold maxLen at hm hm'
  go_enter Try.func81, Try.ntmps81
  go_wp2_with fail
  go_loopw [5] (fun i wr => ∃ j : Nat, j ≤ l.length ∧ i = .int .i64 j ∧ Below w.heap.size w wr) (fun i _ => l.length - (intOf i).toNat)
  case atStart => exact ⟨0, Nat.zero_le _, rfl, Below.refl _ _⟩
  case round =>
    obtain ⟨j, hj, rfl, hbel⟩ := hrel
    by_cases hlt : j < l.length
    · obtain ⟨rfl, _⟩ := HA.out (by omega)
      obtain ⟨rfl, _⟩ := HA'.out (by omega)
      have c0 := HC.out j (by omega)
      rw [← hbel.cell (lt_of_cell c0)] at c0
      have d0 := HC'.out j (by omega)
      rw [← hbel.cell (lt_of_cell d0)] at d0
      have hbd := hbel.drew
      go_wp2_with fail
      go_region
      all_goals
        go_wp2_with fail
        exact ⟨⟨j + 1, by omega, by go_num, hbd⟩, by simp [intOf]; omega⟩
    · go_wp2_with fail
      go_ret
      exact ⟨rfl, hbel⟩
set_option maxHeartbeats 3200000 in
theorem eqStrs_anyG {S S' : Nat → Prop} (l : List ByteArray) (v v' : Value) (w : World) (h : StrsG w S l v) (h' : StrsG w S' l v') :
    Calls Try.prog 35 #[v, v'] w fun e w' => e = .returned (.bool true) ∧ Below w.heap.size w w' := by
  obtain ⟨a, cap, b, off, rfl, hc, hm, ha, hcell⟩ := h
  have HC := (show Hid _ from hcell); clear hcell
  have HA := (show Hid _ from ha); clear ha
  obtain ⟨a', cap', b', off', rfl, hc', hm', ha', hcell'⟩ := h'
  have HC' := (show Hid _ from hcell'); clear hcell'
  have HA' := (show Hid _ from ha'); clear ha'
  unfold maxLen at hm hm'
  go_enter Try.func35, Try.ntmps35
  go_wp2_with fail
  go_loopw [5] (fun i wr => ∃ j : Nat, j ≤ l.length ∧ i = .int .i64 j ∧ Below w.heap.size w wr) (fun i _ => l.length - (intOf i).toNat)
  case atStart => exact ⟨0, Nat.zero_le _, rfl, Below.refl _ _⟩
  case round =>
    obtain ⟨j, hj, rfl, hbel⟩ := hrel
    by_cases hlt : j < l.length
    · obtain ⟨rfl, _⟩ := HA.out (by omega)
      obtain ⟨rfl, _⟩ := HA'.out (by omega)
      obtain ⟨c0, zc0⟩ := HC.out j (by omega)
      rw [← hbel.cell (lt_of_cell c0)] at c0
      obtain ⟨d0, zd0⟩ := HC'.out j (by omega)
      rw [← hbel.cell (lt_of_cell d0)] at d0
      have hbd := hbel.drew
      go_wp2_with fail
      go_region
      all_goals
        go_wp2_with fail
        exact ⟨⟨j + 1, by omega, by go_num, hbd⟩, by simp [intOf]; omega⟩
    · go_wp2_with fail
      go_ret
      exact ⟨rfl, hbel⟩
set_option maxHeartbeats 3200000 in
theorem eqAttr_any (t : DAttr) (w : World) :
    Calls Try.prog 67 #[.agg #[.int .i64 t.non, .string t.name, .bool t.down], .agg #[.int .i64 t.non, .string t.name, .bool t.down]] w fun e w' => e = .returned (.bool true) ∧ Below w.heap.size w w' := by
  have hbdown : (t.down != t.down) = false := by simp
  go_enter Try.func67, Try.ntmps67
  go_wp2_with fail
  go_ret
  exact ⟨rfl, bel2G _ _ _⟩
set_option maxHeartbeats 3200000 in
theorem eqAttrR_any {S S' : Nat → Prop} (l : List DAttr) (v v' : Value) (w : World) (h : AttrR w S l v) (h' : AttrR w S' l v') :
    Calls Try.prog 37 #[v, v'] w fun e w' => e = .returned (.bool true) ∧ Below w.heap.size w w' := by
  obtain ⟨a, cap, b, off, rfl, hc, hm, ha, hcell⟩ := h
  have HC := (show Hid _ from hcell); clear hcell
  have HA := (show Hid _ from ha); clear ha
  obtain ⟨a', cap', b', off', rfl, hc', hm', ha', hcell'⟩ := h'
  have HC' := (show Hid _ from hcell'); clear hcell'
  have HA' := (show Hid _ from ha'); clear ha'
  unfold maxLen at hm hm'
  go_enter Try.func37, Try.ntmps37
  go_wp2_with fail
  go_loopw [5] (fun i wr => ∃ j : Nat, j ≤ l.length ∧ i = .int .i64 j ∧ Below w.heap.size w wr) (fun i _ => l.length - (intOf i).toNat)
  case atStart => exact ⟨0, Nat.zero_le _, rfl, Below.refl _ _⟩
  case round =>
    obtain ⟨j, hj, rfl, hbel⟩ := hrel
    by_cases hlt : j < l.length
    · obtain ⟨rfl, _⟩ := HA.out (by omega)
      obtain ⟨rfl, _⟩ := HA'.out (by omega)
      obtain ⟨c0, c1, c2, zc0⟩ := HC.out j (by omega)
      rw [← hbel.cell (lt_of_cell c0)] at c0
      rw [← hbel.cell (lt_of_cell c1)] at c1
      rw [← hbel.cell (lt_of_cell c2)] at c2
      obtain ⟨d0, d1, d2, zd0⟩ := HC'.out j (by omega)
      rw [← hbel.cell (lt_of_cell d0)] at d0
      rw [← hbel.cell (lt_of_cell d1)] at d1
      rw [← hbel.cell (lt_of_cell d2)] at d2
      have hcl := eqAttr_any l[j] wr.drew
      have HCL := (show Hid _ from hcl); clear hcl
      go_wp2_with fail
      go_region_with (go_at_call 67; refine Calls.mono HCL.out ?_; rintro e w1 ⟨rfl, hb1⟩)
      all_goals
        have hbw : Below w.heap.size w w1 := bel_trans hbel.drew hb1
        clear c0 d0 c1 d1 c2 d2
        go_wp2_with fail
        exact ⟨⟨j + 1, by omega, by go_num, hbw⟩, by simp [intOf]; omega⟩
    · go_wp2_with fail
      go_ret
      exact ⟨rfl, hbel⟩
set_option maxHeartbeats 3200000 in
theorem eqRef_any (t : DRef) (w : World) :
    Calls Try.prog 87 #[.agg #[.int .i64 t.pos, .int .i64 t.attr, .int .i64 t.n], .agg #[.int .i64 t.pos, .int .i64 t.attr, .int .i64 t.n]] w fun e w' => e = .returned (.bool true) ∧ Below w.heap.size w w' := by
  go_enter Try.func87, Try.ntmps87
  go_wp2_with fail
  go_ret
  exact ⟨rfl, bel2G _ _ _⟩
set_option maxHeartbeats 3200000 in
theorem eqRefR_any {S S' : Nat → Prop} (l : List DRef) (v v' : Value) (w : World) (h : RefR w S l v) (h' : RefR w S' l v') :
    Calls Try.prog 82 #[v, v'] w fun e w' => e = .returned (.bool true) ∧ Below w.heap.size w w' := by
  obtain ⟨a, cap, b, off, rfl, hc, hm, ha, hcell⟩ := h
  have HC := (show Hid _ from hcell); clear hcell
  have HA := (show Hid _ from ha); clear ha
  obtain ⟨a', cap', b', off', rfl, hc', hm', ha', hcell'⟩ := h'
  have HC' := (show Hid _ from hcell'); clear hcell'
  have HA' := (show Hid _ from ha'); clear ha'
  unfold maxLen at hm hm'
  go_enter Try.func82, Try.ntmps82
  go_wp2_with fail
  go_loopw [5] (fun i wr => ∃ j : Nat, j ≤ l.length ∧ i = .int .i64 j ∧ Below w.heap.size w wr) (fun i _ => l.length - (intOf i).toNat)
  case atStart => exact ⟨0, Nat.zero_le _, rfl, Below.refl _ _⟩
  case round =>
    obtain ⟨j, hj, rfl, hbel⟩ := hrel
    by_cases hlt : j < l.length
    · obtain ⟨rfl, _⟩ := HA.out (by omega)
      obtain ⟨rfl, _⟩ := HA'.out (by omega)
      obtain ⟨c0, c1, c2⟩ := HC.out j (by omega)
      rw [← hbel.cell (lt_of_cell c0)] at c0
      rw [← hbel.cell (lt_of_cell c1)] at c1
      rw [← hbel.cell (lt_of_cell c2)] at c2
      obtain ⟨d0, d1, d2⟩ := HC'.out j (by omega)
      rw [← hbel.cell (lt_of_cell d0)] at d0
      rw [← hbel.cell (lt_of_cell d1)] at d1
      rw [← hbel.cell (lt_of_cell d2)] at d2
      have hcl := eqRef_any l[j] wr.drew
      have HCL := (show Hid _ from hcl); clear hcl
      go_wp2_with fail
      go_region_with (go_at_call 87; refine Calls.mono HCL.out ?_; rintro e w1 ⟨rfl, hb1⟩)
      all_goals
        have hbw : Below w.heap.size w w1 := bel_trans hbel.drew hb1
        clear c0 d0 c1 d1 c2 d2
        go_wp2_with fail
        exact ⟨⟨j + 1, by omega, by go_num, hbw⟩, by simp [intOf]; omega⟩
    · go_wp2_with fail
      go_ret
      exact ⟨rfl, hbel⟩
set_option maxHeartbeats 3200000 in
theorem eqEq_any {S S' : Nat → Prop} (t : DEq) (v4 x4 : Value) (w : World) (h : DEqL w S t v4) (h' : DEqL w S' t x4) :
    Calls Try.prog 68 #[.agg #[.int .i64 t.prod, .int .i64 t.pos, .int .i64 t.attr, .int .i64 t.op, v4], .agg #[.int .i64 t.prod, .int .i64 t.pos, .int .i64 t.attr, .int .i64 t.op, x4]] w fun e w' => e = .returned (.bool true) ∧ Below w.heap.size w w' := by
  have HF4 := (show Hid _ from fun (w' : World) (hb : Below w.heap.size w w') => eqRefR_any t.args v4 x4 w' (h.args.still hb) (h'.args.still hb))
  obtain ⟨a4, p4, rfl, _⟩ := h.args.form
  obtain ⟨r4, s4, rfl, _⟩ := h'.args.form
  clear h h'
  have hbA := Box.new w 59 [.int .i64 t.prod, .int .i64 t.pos, .int .i64 t.attr, .int .i64 t.op, .slice a4 t.args.length p4]
  have hbB := Box.new (w.alloc (.cells ([.int .i64 t.prod, .int .i64 t.pos, .int .i64 t.attr, .int .i64 t.op, .slice a4 t.args.length p4] : List Value).toArray 59)) 59 [.int .i64 t.prod, .int .i64 t.pos, .int .i64 t.attr, .int .i64 t.op, .slice r4 t.args.length s4]
  simp only [World.size_alloc] at hbB
  have HB := (show Hid _ from (⟨hbA.still (bel_alloc _ _), hbB, bel2G _ _ _⟩ : Box ((w.alloc (.cells ([.int .i64 t.prod, .int .i64 t.pos, .int .i64 t.attr, .int .i64 t.op, .slice a4 t.args.length p4] : List Value).toArray 59)).alloc (.cells ([.int .i64 t.prod, .int .i64 t.pos, .int .i64 t.attr, .int .i64 t.op, .slice r4 t.args.length s4] : List Value).toArray 59)) w.heap.size 59 [.int .i64 t.prod, .int .i64 t.pos, .int .i64 t.attr, .int .i64 t.op, .slice a4 t.args.length p4] ∧ Box ((w.alloc (.cells ([.int .i64 t.prod, .int .i64 t.pos, .int .i64 t.attr, .int .i64 t.op, .slice a4 t.args.length p4] : List Value).toArray 59)).alloc (.cells ([.int .i64 t.prod, .int .i64 t.pos, .int .i64 t.attr, .int .i64 t.op, .slice r4 t.args.length s4] : List Value).toArray 59)) (w.heap.size + 1) 59 [.int .i64 t.prod, .int .i64 t.pos, .int .i64 t.attr, .int .i64 t.op, .slice r4 t.args.length s4] ∧ Below w.heap.size w ((w.alloc (.cells ([.int .i64 t.prod, .int .i64 t.pos, .int .i64 t.attr, .int .i64 t.op, .slice a4 t.args.length p4] : List Value).toArray 59)).alloc (.cells ([.int .i64 t.prod, .int .i64 t.pos, .int .i64 t.attr, .int .i64 t.op, .slice r4 t.args.length s4] : List Value).toArray 59))))
  clear hbA hbB
  go_enter Try.func68, Try.ntmps68
  go_wp2_with fail
  refine Calls.mono (HF4.out _ HB.out.2.2) ?_
  rintro e w4 ⟨rfl, hb4⟩
  have HN4 := (show Hid _ from (⟨HB.out.1.still hb4, HB.out.2.1.still hb4, bel_trans HB.out.2.2 hb4⟩ : Box w4 w.heap.size 59 [.int .i64 t.prod, .int .i64 t.pos, .int .i64 t.attr, .int .i64 t.op, .slice a4 t.args.length p4] ∧ Box w4 (w.heap.size + 1) 59 [.int .i64 t.prod, .int .i64 t.pos, .int .i64 t.attr, .int .i64 t.op, .slice r4 t.args.length s4] ∧ Below w.heap.size w w4)); clear hb4
  go_wp2_with fail
  go_ret
  exact ⟨rfl, HN4.out.2.2⟩
set_option maxHeartbeats 3200000 in
theorem eqEqR_any {S S' : Nat → Prop} (l : List DEq) (v v' : Value) (w : World) (h : EqR w S l v) (h' : EqR w S' l v') :
    Calls Try.prog 38 #[v, v'] w fun e w' => e = .returned (.bool true) ∧ Below w.heap.size w w' := by
  obtain ⟨a, cap, b, off, s4, rfl, hc, hm, ha, hcell, r4⟩ := h
  have HC := (show Hid _ from hcell); clear hcell
  have HA := (show Hid _ from ha); clear ha
  have HR4 := (show Hid _ from r4); clear r4
  obtain ⟨a', cap', b', off', s4', rfl, hc', hm', ha', hcell', r4'⟩ := h'
  have HC' := (show Hid _ from hcell'); clear hcell'
  have HA' := (show Hid _ from ha'); clear ha'
  have HR4' := (show Hid _ from r4'); clear r4'
  unfold maxLen at hm hm'
  go_enter Try.func38, Try.ntmps38
  go_wp2_with fail
  go_loopw [5] (fun i wr => ∃ j : Nat, j ≤ l.length ∧ i = .int .i64 j ∧ Below w.heap.size w wr) (fun i _ => l.length - (intOf i).toNat)
  case atStart => exact ⟨0, Nat.zero_le _, rfl, Below.refl _ _⟩
  case round =>
    obtain ⟨j, hj, rfl, hbel⟩ := hrel
    by_cases hlt : j < l.length
    · obtain ⟨rfl, _⟩ := HA.out (by omega)
      obtain ⟨rfl, _⟩ := HA'.out (by omega)
      obtain ⟨c0, c1, c2, c3, c4⟩ := HC.out j (by omega)
      rw [← hbel.cell (lt_of_cell c0)] at c0
      rw [← hbel.cell (lt_of_cell c1)] at c1
      rw [← hbel.cell (lt_of_cell c2)] at c2
      rw [← hbel.cell (lt_of_cell c3)] at c3
      rw [← hbel.cell (lt_of_cell c4)] at c4
      obtain ⟨d0, d1, d2, d3, d4⟩ := HC'.out j (by omega)
      rw [← hbel.cell (lt_of_cell d0)] at d0
      rw [← hbel.cell (lt_of_cell d1)] at d1
      rw [← hbel.cell (lt_of_cell d2)] at d2
      rw [← hbel.cell (lt_of_cell d3)] at d3
      rw [← hbel.cell (lt_of_cell d4)] at d4
      have hcl := eqEq_any l[j] _ _ wr.drew ⟨(HR4.out j hlt).still hbel.drew⟩ ⟨(HR4'.out j hlt).still hbel.drew⟩
      obtain ⟨a4x, cap4x, e4x, _⟩ := (HR4.out j hlt).form
      obtain ⟨a4y, cap4y, e4y, _⟩ := (HR4'.out j hlt).form
      rw [e4x] at c4
      rw [e4y] at d4
      rw [e4x, e4y] at hcl
      clear e4x e4y
      have HCL := (show Hid _ from hcl); clear hcl
      go_wp2_with fail
      go_region_with (go_at_call 68; refine Calls.mono HCL.out ?_; rintro e w1 ⟨rfl, hb1⟩)
      all_goals
        have hbw : Below w.heap.size w w1 := bel_trans hbel.drew hb1
        clear c0 d0 c1 d1 c2 d2 c3 d3 c4 d4
        go_wp2_with fail
        exact ⟨⟨j + 1, by omega, by go_num, hbw⟩, by simp [intOf]; omega⟩
    · go_wp2_with fail
      go_ret
      exact ⟨rfl, hbel⟩
set_option maxHeartbeats 3200000 in
theorem eqAg_any {S S' : Nat → Prop} (t : DAg) (v0 x0 v1 x1 : Value) (w : World) (h : DAgL w S t v0 v1) (h' : DAgL w S' t x0 x1) :
    Calls Try.prog 11 #[.agg #[v0, v1], .agg #[x0, x1]] w fun e w' => e = .returned (.bool true) ∧ Below w.heap.size w w' := by
  have HF0 := (show Hid _ from fun (w' : World) (hb : Below w.heap.size w w') => eqAttrR_any t.attrs v0 x0 w' (h.attrs.still hb) (h'.attrs.still hb))
  have HF1 := (show Hid _ from fun (w' : World) (hb : Below w.heap.size w w') => eqEqR_any t.eqs v1 x1 w' (h.eqs.still hb) (h'.eqs.still hb))
  obtain ⟨a0, p0, rfl, _⟩ := h.attrs.form
  obtain ⟨r0, s0, rfl, _⟩ := h'.attrs.form
  obtain ⟨a1, p1, rfl, _⟩ := h.eqs.form
  obtain ⟨r1, s1, rfl, _⟩ := h'.eqs.form
  clear h h'
  have hbA := Box.new w 42 [.slice a0 t.attrs.length p0, .slice a1 t.eqs.length p1]
  have hbB := Box.new (w.alloc (.cells ([.slice a0 t.attrs.length p0, .slice a1 t.eqs.length p1] : List Value).toArray 42)) 42 [.slice r0 t.attrs.length s0, .slice r1 t.eqs.length s1]
  simp only [World.size_alloc] at hbB
  have HB := (show Hid _ from (⟨hbA.still (bel_alloc _ _), hbB, bel2G _ _ _⟩ : Box ((w.alloc (.cells ([.slice a0 t.attrs.length p0, .slice a1 t.eqs.length p1] : List Value).toArray 42)).alloc (.cells ([.slice r0 t.attrs.length s0, .slice r1 t.eqs.length s1] : List Value).toArray 42)) w.heap.size 42 [.slice a0 t.attrs.length p0, .slice a1 t.eqs.length p1] ∧ Box ((w.alloc (.cells ([.slice a0 t.attrs.length p0, .slice a1 t.eqs.length p1] : List Value).toArray 42)).alloc (.cells ([.slice r0 t.attrs.length s0, .slice r1 t.eqs.length s1] : List Value).toArray 42)) (w.heap.size + 1) 42 [.slice r0 t.attrs.length s0, .slice r1 t.eqs.length s1] ∧ Below w.heap.size w ((w.alloc (.cells ([.slice a0 t.attrs.length p0, .slice a1 t.eqs.length p1] : List Value).toArray 42)).alloc (.cells ([.slice r0 t.attrs.length s0, .slice r1 t.eqs.length s1] : List Value).toArray 42))))
  clear hbA hbB
  go_enter Try.func11, Try.ntmps11
  go_wp2_with fail
  refine Calls.mono (HF0.out _ HB.out.2.2) ?_
  rintro e w0 ⟨rfl, hb0⟩
  have HN0 := (show Hid _ from (⟨HB.out.1.still hb0, HB.out.2.1.still hb0, bel_trans HB.out.2.2 hb0⟩ : Box w0 w.heap.size 42 [.slice a0 t.attrs.length p0, .slice a1 t.eqs.length p1] ∧ Box w0 (w.heap.size + 1) 42 [.slice r0 t.attrs.length s0, .slice r1 t.eqs.length s1] ∧ Below w.heap.size w w0)); clear hb0
  have k1 : w0.cell? ⟨w.heap.size, 1, none⟩ = some (.slice a1 t.eqs.length p1) := HN0.out.1.cell 1 (by simp)
  have m1 : w0.cell? ⟨w.heap.size + 1, 1, none⟩ = some (.slice r1 t.eqs.length s1) := HN0.out.2.1.cell 1 (by simp)
  go_wp2_with fail
  refine Calls.mono (HF1.out _ HN0.out.2.2) ?_
  rintro e w1 ⟨rfl, hb1⟩
  clear k1 m1
  have HN1 := (show Hid _ from (⟨HN0.out.1.still hb1, HN0.out.2.1.still hb1, bel_trans HN0.out.2.2 hb1⟩ : Box w1 w.heap.size 42 [.slice a0 t.attrs.length p0, .slice a1 t.eqs.length p1] ∧ Box w1 (w.heap.size + 1) 42 [.slice r0 t.attrs.length s0, .slice r1 t.eqs.length s1] ∧ Below w.heap.size w w1)); clear hb1
  go_wp2_with fail
  go_ret
  exact ⟨rfl, HN1.out.2.2⟩
end Go.Proofs.Ytnmdgbnbnpibhaa
