import Derived.Test.YtgjnlhidbjpdkajGreatTo
namespace Go.Proofs.YtgjnlhidbjpdkajGreat
open Go.RowKit Go.Deep
set_option linter.unusedVariables false
set_option maxRecDepth 100000
set_option linter.unusedSimpArgs false

set_option maxHeartbeats 3200000 in
theorem eqInts_any {S S' : Nat → Prop} (l : List Int) (v v' : Value) (w : World) (h : Ints w S l v) (h' : Ints w S' l v') :
    Calls Tryz.prog 108 #[v, v'] w fun e w' => e = .returned (.bool true) ∧ Below w.heap.size w w' := by
  obtain ⟨a, cap, b, off, rfl, hc, hm, ha, hcell⟩ := h
  have HC := (show Hid _ from hcell); clear hcell
  have HA := (show Hid _ from ha); clear ha
  obtain ⟨a', cap', b', off', rfl, hc', hm', ha', hcell'⟩ := h'
  have HC' := (show Hid _ from hcell'); clear hcell'
  have HA' := (show Hid _ from ha'); clear ha'
  unfold maxLen at hm hm'
  go_enter Tryz.func108, Tryz.ntmps108
  go_wp2_with fail
  go_loopw [5] (fun i wr => ∃ j : Nat, j ≤ l.length ∧ i = .int .i64 j ∧ Below w.heap.size w wr) (fun i _ => l.length - (intOf i).toNat)
  case atStart => exact ⟨0, Nat.zero_le _, rfl, Below.refl _ _⟩
  case round =>
    obtain ⟨j, hj, rfl, hbel⟩ := hrel
    by_cases hlt : j < l.length
    · obtain ⟨rfl, _⟩ := HA.out (by omega)
      obtain ⟨rfl, _⟩ := HA'.out (by omega)
      have c0 := HC.out j (by omega)
      rw [← hbel.cell (lt_of_cell c0)] at c0
      have d0 := HC'.out j (by omega)
      rw [← hbel.cell (lt_of_cell d0)] at d0
      have hbd := hbel.drew
      go_wp2_with fail
      go_region
      all_goals
        go_wp2_with fail
        exact ⟨⟨j + 1, by omega, by go_num, hbd⟩, by simp [intOf]; omega⟩
    · go_wp2_with fail
      go_ret
      exact ⟨rfl, hbel⟩
set_option maxHeartbeats 3200000 in
theorem eqStrs_any {S S' : Nat → Prop} (l : List ByteArray) (v v' : Value) (w : World) (h : Strs w S l v) (h' : Strs w S' l v') :
    Calls Tryz.prog 89 #[v, v'] w fun e w' => e = .returned (.bool true) ∧ Below w.heap.size w w' := by
  obtain ⟨a, cap, b, off, rfl, hc, hm, ha, hcell⟩ := h
  have HC := (show Hid _ from hcell); clear hcell
  have HA := (show Hid _ from ha); clear ha
  obtain ⟨a', cap', b', off', rfl, hc', hm', ha', hcell'⟩ := h'
  have HC' := (show Hid _ from hcell'); clear hcell'
  have HA' := (show Hid _ from ha'); clear ha'
  unfold maxLen at hm hm'
  go_enter Tryz.func89, Tryz.ntmps89
  go_wp2_with fail
  go_loopw [5] (fun i wr => ∃ j : Nat, j ≤ l.length ∧ i = .int .i64 j ∧ Below w.heap.size w wr) (fun i _ => l.length - (intOf i).toNat)
  case atStart => exact ⟨0, Nat.zero_le _, rfl, Below.refl _ _⟩
  case round =>
    obtain ⟨j, hj, rfl, hbel⟩ := hrel
    by_cases hlt : j < l.length
    · obtain ⟨rfl, _⟩ := HA.out (by omega)
      obtain ⟨rfl, _⟩ := HA'.out (by omega)
      obtain ⟨c0, zc0⟩ := HC.out j (by omega)
      rw [← hbel.cell (lt_of_cell c0)] at c0
      obtain ⟨d0, zd0⟩ := HC'.out j (by omega)
      rw [← hbel.cell (lt_of_cell d0)] at d0
      have hbd := hbel.drew
      go_wp2_with fail
      go_region
      all_goals
        go_wp2_with fail
        exact ⟨⟨j + 1, by omega, by go_num, hbd⟩, by simp [intOf]; omega⟩
    · go_wp2_with fail
      go_ret
      exact ⟨rfl, hbel⟩
set_option maxHeartbeats 3200000 in
theorem eqIRws_any {S S' : Nat → Prop} (l : List (List Int)) (v v' : Value) (w : World) (h : IRws w S l v) (h' : IRws w S' l v') :
    Calls Tryz.prog 91 #[v, v'] w fun e w' => e = .returned (.bool true) ∧ Below w.heap.size w w' := by
  obtain ⟨a, cap, b, off, s0, rfl, hc, hm, ha, hcell, r0⟩ := h
  have HC := (show Hid _ from hcell); clear hcell
  have HA := (show Hid _ from ha); clear ha
  have HR0 := (show Hid _ from r0); clear r0
  obtain ⟨a', cap', b', off', s0', rfl, hc', hm', ha', hcell', r0'⟩ := h'
  have HC' := (show Hid _ from hcell'); clear hcell'
  have HA' := (show Hid _ from ha'); clear ha'
  have HR0' := (show Hid _ from r0'); clear r0'
  unfold maxLen at hm hm'
  go_enter Tryz.func91, Tryz.ntmps91
  go_wp2_with fail
  go_loopw [5] (fun i wr => ∃ j : Nat, j ≤ l.length ∧ i = .int .i64 j ∧ Below w.heap.size w wr) (fun i _ => l.length - (intOf i).toNat)
  case atStart => exact ⟨0, Nat.zero_le _, rfl, Below.refl _ _⟩
  case round =>
    obtain ⟨j, hj, rfl, hbel⟩ := hrel
    by_cases hlt : j < l.length
    · obtain ⟨rfl, _⟩ := HA.out (by omega)
      obtain ⟨rfl, _⟩ := HA'.out (by omega)
      have c0 := HC.out j (by omega)
      rw [← hbel.cell (lt_of_cell c0)] at c0
      have d0 := HC'.out j (by omega)
      rw [← hbel.cell (lt_of_cell d0)] at d0
      have hcl := eqInts_any l[j] _ _ wr.drew ((HR0.out j hlt).still hbel.drew) ((HR0'.out j hlt).still hbel.drew)
      obtain ⟨a0x, cap0x, e0x, _⟩ := (HR0.out j hlt).form
      obtain ⟨a0y, cap0y, e0y, _⟩ := (HR0'.out j hlt).form
      rw [e0x] at c0
      rw [e0y] at d0
      rw [e0x, e0y] at hcl
      clear e0x e0y
      have HCL := (show Hid _ from hcl); clear hcl
      go_wp2_with fail
      go_region_with (go_at_call 108; refine Calls.mono HCL.out ?_; rintro e w1 ⟨rfl, hb1⟩)
      all_goals
        have hbw : Below w.heap.size w w1 := bel_trans hbel.drew hb1
        clear c0 d0
        go_wp2_with fail
        exact ⟨⟨j + 1, by omega, by go_num, hbw⟩, by simp [intOf]; omega⟩
    · go_wp2_with fail
      go_ret
      exact ⟨rfl, hbel⟩
set_option maxHeartbeats 3200000 in
theorem eqToken_any (t : DToken) (w : World) :
    Calls Tryz.prog 61 #[.agg #[.string t.name, .string t.rx, .bool t.skip], .agg #[.string t.name, .string t.rx, .bool t.skip]] w fun e w' => e = .returned (.bool true) ∧ Below w.heap.size w w' := by
  have hbskip : (t.skip != t.skip) = false := by simp
  go_enter Tryz.func61, Tryz.ntmps61
  go_wp2_with fail
  go_ret
  exact ⟨rfl, bel2 _ _ _⟩
set_option maxHeartbeats 3200000 in
theorem eqTokenR_any {S S' : Nat → Prop} (l : List DToken) (v v' : Value) (w : World) (h : TokenR w S l v) (h' : TokenR w S' l v') :
    Calls Tryz.prog 22 #[v, v'] w fun e w' => e = .returned (.bool true) ∧ Below w.heap.size w w' := by
  obtain ⟨a, cap, b, off, rfl, hc, hm, ha, hcell⟩ := h
  have HC := (show Hid _ from hcell); clear hcell
  have HA := (show Hid _ from ha); clear ha
  obtain ⟨a', cap', b', off', rfl, hc', hm', ha', hcell'⟩ := h'
  have HC' := (show Hid _ from hcell'); clear hcell'
  have HA' := (show Hid _ from ha'); clear ha'
  unfold maxLen at hm hm'
  go_enter Tryz.func22, Tryz.ntmps22
  go_wp2_with fail
  go_loopw [5] (fun i wr => ∃ j : Nat, j ≤ l.length ∧ i = .int .i64 j ∧ Below w.heap.size w wr) (fun i _ => l.length - (intOf i).toNat)
  case atStart => exact ⟨0, Nat.zero_le _, rfl, Below.refl _ _⟩
  case round =>
    obtain ⟨j, hj, rfl, hbel⟩ := hrel
    by_cases hlt : j < l.length
    · obtain ⟨rfl, _⟩ := HA.out (by omega)
      obtain ⟨rfl, _⟩ := HA'.out (by omega)
      obtain ⟨c0, c1, c2, zc0, zc1⟩ := HC.out j (by omega)
      rw [← hbel.cell (lt_of_cell c0)] at c0
      rw [← hbel.cell (lt_of_cell c1)] at c1
      rw [← hbel.cell (lt_of_cell c2)] at c2
      obtain ⟨d0, d1, d2, zd0, zd1⟩ := HC'.out j (by omega)
      rw [← hbel.cell (lt_of_cell d0)] at d0
      rw [← hbel.cell (lt_of_cell d1)] at d1
      rw [← hbel.cell (lt_of_cell d2)] at d2
      have hcl := eqToken_any l[j] wr.drew
      have HCL := (show Hid _ from hcl); clear hcl
      go_wp2_with fail
      go_region_with (go_at_call 61; refine Calls.mono HCL.out ?_; rintro e w1 ⟨rfl, hb1⟩)
      all_goals
        have hbw : Below w.heap.size w w1 := bel_trans hbel.drew hb1
        clear c0 d0 c1 d1 c2 d2
        go_wp2_with fail
        exact ⟨⟨j + 1, by omega, by go_num, hbw⟩, by simp [intOf]; omega⟩
    · go_wp2_with fail
      go_ret
      exact ⟨rfl, hbel⟩
set_option maxHeartbeats 3200000 in
theorem eqLevel_any {S S' : Nat → Prop} (t : DLevel) (v1 x1 : Value) (w : World) (h : DLevelL w S t v1) (h' : DLevelL w S' t x1) :
    Calls Tryz.prog 62 #[.agg #[.int .i64 t.assoc, v1], .agg #[.int .i64 t.assoc, x1]] w fun e w' => e = .returned (.bool true) ∧ Below w.heap.size w w' := by
  have HF1 := (show Hid _ from fun (w' : World) (hb : Below w.heap.size w w') => eqStrs_any t.lits v1 x1 w' (h.lits.still hb) (h'.lits.still hb))
  obtain ⟨a1, p1, rfl, _⟩ := h.lits.form
  obtain ⟨r1, s1, rfl, _⟩ := h'.lits.form
  clear h h'
  have hbA := Box.new w 49 [.int .i64 t.assoc, .slice a1 t.lits.length p1]
  have hbB := Box.new (w.alloc (.cells ([.int .i64 t.assoc, .slice a1 t.lits.length p1] : List Value).toArray 49)) 49 [.int .i64 t.assoc, .slice r1 t.lits.length s1]
  simp only [World.size_alloc] at hbB
  have HB := (show Hid _ from (⟨hbA.still (bel_alloc _ _), hbB, bel2 _ _ _⟩ : Box ((w.alloc (.cells ([.int .i64 t.assoc, .slice a1 t.lits.length p1] : List Value).toArray 49)).alloc (.cells ([.int .i64 t.assoc, .slice r1 t.lits.length s1] : List Value).toArray 49)) w.heap.size 49 [.int .i64 t.assoc, .slice a1 t.lits.length p1] ∧ Box ((w.alloc (.cells ([.int .i64 t.assoc, .slice a1 t.lits.length p1] : List Value).toArray 49)).alloc (.cells ([.int .i64 t.assoc, .slice r1 t.lits.length s1] : List Value).toArray 49)) (w.heap.size + 1) 49 [.int .i64 t.assoc, .slice r1 t.lits.length s1] ∧ Below w.heap.size w ((w.alloc (.cells ([.int .i64 t.assoc, .slice a1 t.lits.length p1] : List Value).toArray 49)).alloc (.cells ([.int .i64 t.assoc, .slice r1 t.lits.length s1] : List Value).toArray 49))))
  clear hbA hbB
  go_enter Tryz.func62, Tryz.ntmps62
  go_wp2_with fail
  refine Calls.mono (HF1.out _ HB.out.2.2) ?_
  rintro e w1 ⟨rfl, hb1⟩
  have HN1 := (show Hid _ from (⟨HB.out.1.still hb1, HB.out.2.1.still hb1, bel_trans HB.out.2.2 hb1⟩ : Box w1 w.heap.size 49 [.int .i64 t.assoc, .slice a1 t.lits.length p1] ∧ Box w1 (w.heap.size + 1) 49 [.int .i64 t.assoc, .slice r1 t.lits.length s1] ∧ Below w.heap.size w w1)); clear hb1
  go_wp2_with fail
  go_ret
  exact ⟨rfl, HN1.out.2.2⟩
set_option maxHeartbeats 3200000 in
theorem eqLevelR_any {S S' : Nat → Prop} (l : List DLevel) (v v' : Value) (w : World) (h : LevelR w S l v) (h' : LevelR w S' l v') :
    Calls Tryz.prog 23 #[v, v'] w fun e w' => e = .returned (.bool true) ∧ Below w.heap.size w w' := by
  obtain ⟨a, cap, b, off, s1, rfl, hc, hm, ha, hcell, r1⟩ := h
  have HC := (show Hid _ from hcell); clear hcell
  have HA := (show Hid _ from ha); clear ha
  have HR1 := (show Hid _ from r1); clear r1
  obtain ⟨a', cap', b', off', s1', rfl, hc', hm', ha', hcell', r1'⟩ := h'
  have HC' := (show Hid _ from hcell'); clear hcell'
  have HA' := (show Hid _ from ha'); clear ha'
  have HR1' := (show Hid _ from r1'); clear r1'
  unfold maxLen at hm hm'
  go_enter Tryz.func23, Tryz.ntmps23
  go_wp2_with fail
  go_loopw [5] (fun i wr => ∃ j : Nat, j ≤ l.length ∧ i = .int .i64 j ∧ Below w.heap.size w wr) (fun i _ => l.length - (intOf i).toNat)
  case atStart => exact ⟨0, Nat.zero_le _, rfl, Below.refl _ _⟩
  case round =>
    obtain ⟨j, hj, rfl, hbel⟩ := hrel
    by_cases hlt : j < l.length
    · obtain ⟨rfl, _⟩ := HA.out (by omega)
      obtain ⟨rfl, _⟩ := HA'.out (by omega)
      obtain ⟨c0, c1⟩ := HC.out j (by omega)
      rw [← hbel.cell (lt_of_cell c0)] at c0
      rw [← hbel.cell (lt_of_cell c1)] at c1
      obtain ⟨d0, d1⟩ := HC'.out j (by omega)
      rw [← hbel.cell (lt_of_cell d0)] at d0
      rw [← hbel.cell (lt_of_cell d1)] at d1
      have hcl := eqLevel_any l[j] _ _ wr.drew ⟨(HR1.out j hlt).still hbel.drew⟩ ⟨(HR1'.out j hlt).still hbel.drew⟩
      obtain ⟨a1x, cap1x, e1x, _⟩ := (HR1.out j hlt).form
      obtain ⟨a1y, cap1y, e1y, _⟩ := (HR1'.out j hlt).form
      rw [e1x] at c1
      rw [e1y] at d1
      rw [e1x, e1y] at hcl
      clear e1x e1y
      have HCL := (show Hid _ from hcl); clear hcl
      go_wp2_with fail
      go_region_with (go_at_call 62; refine Calls.mono HCL.out ?_; rintro e w1 ⟨rfl, hb1⟩)
      all_goals
        have hbw : Below w.heap.size w w1 := bel_trans hbel.drew hb1
        clear c0 d0 c1 d1
        go_wp2_with fail
        exact ⟨⟨j + 1, by omega, by go_num, hbw⟩, by simp [intOf]; omega⟩
    · go_wp2_with fail
      go_ret
      exact ⟨rfl, hbel⟩
set_option maxHeartbeats 3200000 in
theorem eqGAlt_any {S S' : Nat → Prop} (t : DGAlt) (v0 x0 : Value) (w : World) (h : DGAltL w S t v0) (h' : DGAltL w S' t x0) :
    Calls Tryz.prog 107 #[.agg #[v0, .string t.label], .agg #[x0, .string t.label]] w fun e w' => e = .returned (.bool true) ∧ Below w.heap.size w w' := by
  have HF0 := (show Hid _ from fun (w' : World) (hb : Below w.heap.size w w') => eqInts_any t.items v0 x0 w' (h.items.still hb) (h'.items.still hb))
  obtain ⟨a0, p0, rfl, _⟩ := h.items.form
  obtain ⟨r0, s0, rfl, _⟩ := h'.items.form
  clear h h'
  have hbA := Box.new w 85 [.slice a0 t.items.length p0, .string t.label]
  have hbB := Box.new (w.alloc (.cells ([.slice a0 t.items.length p0, .string t.label] : List Value).toArray 85)) 85 [.slice r0 t.items.length s0, .string t.label]
  simp only [World.size_alloc] at hbB
  have HB := (show Hid _ from (⟨hbA.still (bel_alloc _ _), hbB, bel2 _ _ _⟩ : Box ((w.alloc (.cells ([.slice a0 t.items.length p0, .string t.label] : List Value).toArray 85)).alloc (.cells ([.slice r0 t.items.length s0, .string t.label] : List Value).toArray 85)) w.heap.size 85 [.slice a0 t.items.length p0, .string t.label] ∧ Box ((w.alloc (.cells ([.slice a0 t.items.length p0, .string t.label] : List Value).toArray 85)).alloc (.cells ([.slice r0 t.items.length s0, .string t.label] : List Value).toArray 85)) (w.heap.size + 1) 85 [.slice r0 t.items.length s0, .string t.label] ∧ Below w.heap.size w ((w.alloc (.cells ([.slice a0 t.items.length p0, .string t.label] : List Value).toArray 85)).alloc (.cells ([.slice r0 t.items.length s0, .string t.label] : List Value).toArray 85))))
  clear hbA hbB
  go_enter Tryz.func107, Tryz.ntmps107
  go_wp2_with fail
  refine Calls.mono (HF0.out _ HB.out.2.2) ?_
  rintro e w0 ⟨rfl, hb0⟩
  have HN0 := (show Hid _ from (⟨HB.out.1.still hb0, HB.out.2.1.still hb0, bel_trans HB.out.2.2 hb0⟩ : Box w0 w.heap.size 85 [.slice a0 t.items.length p0, .string t.label] ∧ Box w0 (w.heap.size + 1) 85 [.slice r0 t.items.length s0, .string t.label] ∧ Below w.heap.size w w0)); clear hb0
  have k1 : w0.cell? ⟨w.heap.size, 1, none⟩ = some (.string t.label) := HN0.out.1.cell 1 (by simp)
  have m1 : w0.cell? ⟨w.heap.size + 1, 1, none⟩ = some (.string t.label) := HN0.out.2.1.cell 1 (by simp)
  go_wp2_with fail
  go_ret
  exact ⟨rfl, HN0.out.2.2⟩
set_option maxHeartbeats 3200000 in
theorem eqGAltR_any {S S' : Nat → Prop} (l : List DGAlt) (v v' : Value) (w : World) (h : GAltR w S l v) (h' : GAltR w S' l v') :
    Calls Tryz.prog 90 #[v, v'] w fun e w' => e = .returned (.bool true) ∧ Below w.heap.size w w' := by
  obtain ⟨a, cap, b, off, s0, rfl, hc, hm, ha, hcell, r0⟩ := h
  have HC := (show Hid _ from hcell); clear hcell
  have HA := (show Hid _ from ha); clear ha
  have HR0 := (show Hid _ from r0); clear r0
  obtain ⟨a', cap', b', off', s0', rfl, hc', hm', ha', hcell', r0'⟩ := h'
  have HC' := (show Hid _ from hcell'); clear hcell'
  have HA' := (show Hid _ from ha'); clear ha'
  have HR0' := (show Hid _ from r0'); clear r0'
  unfold maxLen at hm hm'
  go_enter Tryz.func90, Tryz.ntmps90
  go_wp2_with fail
  go_loopw [5] (fun i wr => ∃ j : Nat, j ≤ l.length ∧ i = .int .i64 j ∧ Below w.heap.size w wr) (fun i _ => l.length - (intOf i).toNat)
  case atStart => exact ⟨0, Nat.zero_le _, rfl, Below.refl _ _⟩
  case round =>
    obtain ⟨j, hj, rfl, hbel⟩ := hrel
    by_cases hlt : j < l.length
    · obtain ⟨rfl, _⟩ := HA.out (by omega)
      obtain ⟨rfl, _⟩ := HA'.out (by omega)
      obtain ⟨c0, c1, zc0⟩ := HC.out j (by omega)
      rw [← hbel.cell (lt_of_cell c0)] at c0
      rw [← hbel.cell (lt_of_cell c1)] at c1
      obtain ⟨d0, d1, zd0⟩ := HC'.out j (by omega)
      rw [← hbel.cell (lt_of_cell d0)] at d0
      rw [← hbel.cell (lt_of_cell d1)] at d1
      have hcl := eqGAlt_any l[j] _ _ wr.drew ⟨(HR0.out j hlt).still hbel.drew⟩ ⟨(HR0'.out j hlt).still hbel.drew⟩
      obtain ⟨a0x, cap0x, e0x, _⟩ := (HR0.out j hlt).form
      obtain ⟨a0y, cap0y, e0y, _⟩ := (HR0'.out j hlt).form
      rw [e0x] at c0
      rw [e0y] at d0
      rw [e0x, e0y] at hcl
      clear e0x e0y
      have HCL := (show Hid _ from hcl); clear hcl
      go_wp2_with fail
      go_region_with (go_at_call 107; refine Calls.mono HCL.out ?_; rintro e w1 ⟨rfl, hb1⟩)
      all_goals
        have hbw : Below w.heap.size w w1 := bel_trans hbel.drew hb1
        clear c0 d0 c1 d1
        go_wp2_with fail
        exact ⟨⟨j + 1, by omega, by go_num, hbw⟩, by simp [intOf]; omega⟩
    · go_wp2_with fail
      go_ret
      exact ⟨rfl, hbel⟩
set_option maxHeartbeats 3200000 in
theorem eqGRule_any {S S' : Nat → Prop} (t : DGRule) (v1 x1 : Value) (w : World) (h : DGRuleL w S t v1) (h' : DGRuleL w S' t x1) :
    Calls Tryz.prog 63 #[.agg #[.string t.name, v1], .agg #[.string t.name, x1]] w fun e w' => e = .returned (.bool true) ∧ Below w.heap.size w w' := by
  have HF1 := (show Hid _ from fun (w' : World) (hb : Below w.heap.size w w') => eqGAltR_any t.alts v1 x1 w' (h.alts.still hb) (h'.alts.still hb))
  obtain ⟨a1, p1, rfl, _⟩ := h.alts.form
  obtain ⟨r1, s1, rfl, _⟩ := h'.alts.form
  clear h h'
  have hbA := Box.new w 54 [.string t.name, .slice a1 t.alts.length p1]
  have hbB := Box.new (w.alloc (.cells ([.string t.name, .slice a1 t.alts.length p1] : List Value).toArray 54)) 54 [.string t.name, .slice r1 t.alts.length s1]
  simp only [World.size_alloc] at hbB
  have HB := (show Hid _ from (⟨hbA.still (bel_alloc _ _), hbB, bel2 _ _ _⟩ : Box ((w.alloc (.cells ([.string t.name, .slice a1 t.alts.length p1] : List Value).toArray 54)).alloc (.cells ([.string t.name, .slice r1 t.alts.length s1] : List Value).toArray 54)) w.heap.size 54 [.string t.name, .slice a1 t.alts.length p1] ∧ Box ((w.alloc (.cells ([.string t.name, .slice a1 t.alts.length p1] : List Value).toArray 54)).alloc (.cells ([.string t.name, .slice r1 t.alts.length s1] : List Value).toArray 54)) (w.heap.size + 1) 54 [.string t.name, .slice r1 t.alts.length s1] ∧ Below w.heap.size w ((w.alloc (.cells ([.string t.name, .slice a1 t.alts.length p1] : List Value).toArray 54)).alloc (.cells ([.string t.name, .slice r1 t.alts.length s1] : List Value).toArray 54))))
  clear hbA hbB
  go_enter Tryz.func63, Tryz.ntmps63
  go_wp2_with fail
  refine Calls.mono (HF1.out _ HB.out.2.2) ?_
  rintro e w1 ⟨rfl, hb1⟩
  have HN1 := (show Hid _ from (⟨HB.out.1.still hb1, HB.out.2.1.still hb1, bel_trans HB.out.2.2 hb1⟩ : Box w1 w.heap.size 54 [.string t.name, .slice a1 t.alts.length p1] ∧ Box w1 (w.heap.size + 1) 54 [.string t.name, .slice r1 t.alts.length s1] ∧ Below w.heap.size w w1)); clear hb1
  go_wp2_with fail
  go_ret
  exact ⟨rfl, HN1.out.2.2⟩
set_option maxHeartbeats 3200000 in
theorem eqGRuleR_any {S S' : Nat → Prop} (l : List DGRule) (v v' : Value) (w : World) (h : GRuleR w S l v) (h' : GRuleR w S' l v') :
    Calls Tryz.prog 24 #[v, v'] w fun e w' => e = .returned (.bool true) ∧ Below w.heap.size w w' := by
  obtain ⟨a, cap, b, off, s1, rfl, hc, hm, ha, hcell, r1⟩ := h
  have HC := (show Hid _ from hcell); clear hcell
  have HA := (show Hid _ from ha); clear ha
  have HR1 := (show Hid _ from r1); clear r1
  obtain ⟨a', cap', b', off', s1', rfl, hc', hm', ha', hcell', r1'⟩ := h'
  have HC' := (show Hid _ from hcell'); clear hcell'
  have HA' := (show Hid _ from ha'); clear ha'
  have HR1' := (show Hid _ from r1'); clear r1'
  unfold maxLen at hm hm'
  go_enter Tryz.func24, Tryz.ntmps24
  go_wp2_with fail
  go_loopw [5] (fun i wr => ∃ j : Nat, j ≤ l.length ∧ i = .int .i64 j ∧ Below w.heap.size w wr) (fun i _ => l.length - (intOf i).toNat)
  case atStart => exact ⟨0, Nat.zero_le _, rfl, Below.refl _ _⟩
  case round =>
    obtain ⟨j, hj, rfl, hbel⟩ := hrel
    by_cases hlt : j < l.length
    · obtain ⟨rfl, _⟩ := HA.out (by omega)
      obtain ⟨rfl, _⟩ := HA'.out (by omega)
      obtain ⟨c0, c1, zc0⟩ := HC.out j (by omega)
      rw [← hbel.cell (lt_of_cell c0)] at c0
      rw [← hbel.cell (lt_of_cell c1)] at c1
      obtain ⟨d0, d1, zd0⟩ := HC'.out j (by omega)
      rw [← hbel.cell (lt_of_cell d0)] at d0
      rw [← hbel.cell (lt_of_cell d1)] at d1
      have hcl := eqGRule_any l[j] _ _ wr.drew ⟨(HR1.out j hlt).still hbel.drew⟩ ⟨(HR1'.out j hlt).still hbel.drew⟩
      obtain ⟨a1x, cap1x, e1x, _⟩ := (HR1.out j hlt).form
      obtain ⟨a1y, cap1y, e1y, _⟩ := (HR1'.out j hlt).form
      rw [e1x] at c1
      rw [e1y] at d1
      rw [e1x, e1y] at hcl
      clear e1x e1y
      have HCL := (show Hid _ from hcl); clear hcl
      go_wp2_with fail
      go_region_with (go_at_call 63; refine Calls.mono HCL.out ?_; rintro e w1 ⟨rfl, hb1⟩)
      all_goals
        have hbw : Below w.heap.size w w1 := bel_trans hbel.drew hb1
        clear c0 d0 c1 d1
        go_wp2_with fail
        exact ⟨⟨j + 1, by omega, by go_num, hbw⟩, by simp [intOf]; omega⟩
    · go_wp2_with fail
      go_ret
      exact ⟨rfl, hbel⟩
set_option maxHeartbeats 3200000 in
theorem eqPart_any {S S' : Nat → Prop} (t : DPart) (v2 x2 : Value) (w : World) (h : DPartL w S t v2) (h' : DPartL w S' t x2) :
    Calls Tryz.prog 64 #[.agg #[.int .i64 t.kind, .string t.s, v2], .agg #[.int .i64 t.kind, .string t.s, x2]] w fun e w' => e = .returned (.bool true) ∧ Below w.heap.size w w' := by
  have HF2 := (show Hid _ from fun (w' : World) (hb : Below w.heap.size w w') => eqIRws_any t.alts v2 x2 w' (h.alts.still hb) (h'.alts.still hb))
  obtain ⟨a2, p2, rfl, _⟩ := h.alts.form
  obtain ⟨r2, s2, rfl, _⟩ := h'.alts.form
  clear h h'
  have hbA := Box.new w 91 [.int .i64 t.kind, .string t.s, .slice a2 t.alts.length p2]
  have hbB := Box.new (w.alloc (.cells ([.int .i64 t.kind, .string t.s, .slice a2 t.alts.length p2] : List Value).toArray 91)) 91 [.int .i64 t.kind, .string t.s, .slice r2 t.alts.length s2]
  simp only [World.size_alloc] at hbB
  have HB := (show Hid _ from (⟨hbA.still (bel_alloc _ _), hbB, bel2 _ _ _⟩ : Box ((w.alloc (.cells ([.int .i64 t.kind, .string t.s, .slice a2 t.alts.length p2] : List Value).toArray 91)).alloc (.cells ([.int .i64 t.kind, .string t.s, .slice r2 t.alts.length s2] : List Value).toArray 91)) w.heap.size 91 [.int .i64 t.kind, .string t.s, .slice a2 t.alts.length p2] ∧ Box ((w.alloc (.cells ([.int .i64 t.kind, .string t.s, .slice a2 t.alts.length p2] : List Value).toArray 91)).alloc (.cells ([.int .i64 t.kind, .string t.s, .slice r2 t.alts.length s2] : List Value).toArray 91)) (w.heap.size + 1) 91 [.int .i64 t.kind, .string t.s, .slice r2 t.alts.length s2] ∧ Below w.heap.size w ((w.alloc (.cells ([.int .i64 t.kind, .string t.s, .slice a2 t.alts.length p2] : List Value).toArray 91)).alloc (.cells ([.int .i64 t.kind, .string t.s, .slice r2 t.alts.length s2] : List Value).toArray 91))))
  clear hbA hbB
  go_enter Tryz.func64, Tryz.ntmps64
  go_wp2_with fail
  refine Calls.mono (HF2.out _ HB.out.2.2) ?_
  rintro e w2 ⟨rfl, hb2⟩
  have HN2 := (show Hid _ from (⟨HB.out.1.still hb2, HB.out.2.1.still hb2, bel_trans HB.out.2.2 hb2⟩ : Box w2 w.heap.size 91 [.int .i64 t.kind, .string t.s, .slice a2 t.alts.length p2] ∧ Box w2 (w.heap.size + 1) 91 [.int .i64 t.kind, .string t.s, .slice r2 t.alts.length s2] ∧ Below w.heap.size w w2)); clear hb2
  go_wp2_with fail
  go_ret
  exact ⟨rfl, HN2.out.2.2⟩
set_option maxHeartbeats 3200000 in
theorem eqPartR_any {S S' : Nat → Prop} (l : List DPart) (v v' : Value) (w : World) (h : PartR w S l v) (h' : PartR w S' l v') :
    Calls Tryz.prog 25 #[v, v'] w fun e w' => e = .returned (.bool true) ∧ Below w.heap.size w w' := by
  obtain ⟨a, cap, b, off, s2, rfl, hc, hm, ha, hcell, r2⟩ := h
  have HC := (show Hid _ from hcell); clear hcell
  have HA := (show Hid _ from ha); clear ha
  have HR2 := (show Hid _ from r2); clear r2
  obtain ⟨a', cap', b', off', s2', rfl, hc', hm', ha', hcell', r2'⟩ := h'
  have HC' := (show Hid _ from hcell'); clear hcell'
  have HA' := (show Hid _ from ha'); clear ha'
  have HR2' := (show Hid _ from r2'); clear r2'
  unfold maxLen at hm hm'
  go_enter Tryz.func25, Tryz.ntmps25
  go_wp2_with fail
  go_loopw [5] (fun i wr => ∃ j : Nat, j ≤ l.length ∧ i = .int .i64 j ∧ Below w.heap.size w wr) (fun i _ => l.length - (intOf i).toNat)
  case atStart => exact ⟨0, Nat.zero_le _, rfl, Below.refl _ _⟩
  case round =>
    obtain ⟨j, hj, rfl, hbel⟩ := hrel
    by_cases hlt : j < l.length
    · obtain ⟨rfl, _⟩ := HA.out (by omega)
      obtain ⟨rfl, _⟩ := HA'.out (by omega)
      obtain ⟨c0, c1, c2, zc0⟩ := HC.out j (by omega)
      rw [← hbel.cell (lt_of_cell c0)] at c0
      rw [← hbel.cell (lt_of_cell c1)] at c1
      rw [← hbel.cell (lt_of_cell c2)] at c2
      obtain ⟨d0, d1, d2, zd0⟩ := HC'.out j (by omega)
      rw [← hbel.cell (lt_of_cell d0)] at d0
      rw [← hbel.cell (lt_of_cell d1)] at d1
      rw [← hbel.cell (lt_of_cell d2)] at d2
      have hcl := eqPart_any l[j] _ _ wr.drew ⟨(HR2.out j hlt).still hbel.drew⟩ ⟨(HR2'.out j hlt).still hbel.drew⟩
      obtain ⟨a2x, cap2x, e2x, _⟩ := (HR2.out j hlt).form
      obtain ⟨a2y, cap2y, e2y, _⟩ := (HR2'.out j hlt).form
      rw [e2x] at c2
      rw [e2y] at d2
      rw [e2x, e2y] at hcl
      clear e2x e2y
      have HCL := (show Hid _ from hcl); clear hcl
      go_wp2_with fail
      go_region_with (go_at_call 64; refine Calls.mono HCL.out ?_; rintro e w1 ⟨rfl, hb1⟩)
      all_goals
        have hbw : Below w.heap.size w w1 := bel_trans hbel.drew hb1
        clear c0 d0 c1 d1 c2 d2
        go_wp2_with fail
        exact ⟨⟨j + 1, by omega, by go_num, hbw⟩, by simp [intOf]; omega⟩
    · go_wp2_with fail
      go_ret
      exact ⟨rfl, hbel⟩
set_option maxHeartbeats 3200000 in
theorem eqGrammar_any {S S' : Nat → Prop} (t : DGrammar) (v1 x1 v2 x2 v3 x3 v4 x4 : Value) (w : World) (h : DGrammarL w S t v1 v2 v3 v4) (h' : DGrammarL w S' t x1 x2 x3 x4) :
    Calls Tryz.prog 8 #[.agg #[.string t.name, v1, v2, v3, v4], .agg #[.string t.name, x1, x2, x3, x4]] w fun e w' => e = .returned (.bool true) ∧ Below w.heap.size w w' := by
  have HF1 := (show Hid _ from fun (w' : World) (hb : Below w.heap.size w w') => eqTokenR_any t.tokens v1 x1 w' (h.tokens.still hb) (h'.tokens.still hb))
  have HF2 := (show Hid _ from fun (w' : World) (hb : Below w.heap.size w w') => eqLevelR_any t.levels v2 x2 w' (h.levels.still hb) (h'.levels.still hb))
  have HF3 := (show Hid _ from fun (w' : World) (hb : Below w.heap.size w w') => eqGRuleR_any t.rules v3 x3 w' (h.rules.still hb) (h'.rules.still hb))
  have HF4 := (show Hid _ from fun (w' : World) (hb : Below w.heap.size w w') => eqPartR_any t.parts v4 x4 w' (h.parts.still hb) (h'.parts.still hb))
  obtain ⟨a1, p1, rfl, _⟩ := h.tokens.form
  obtain ⟨r1, s1, rfl, _⟩ := h'.tokens.form
  obtain ⟨a2, p2, rfl, _⟩ := h.levels.form
  obtain ⟨r2, s2, rfl, _⟩ := h'.levels.form
  obtain ⟨a3, p3, rfl, _⟩ := h.rules.form
  obtain ⟨r3, s3, rfl, _⟩ := h'.rules.form
  obtain ⟨a4, p4, rfl, _⟩ := h.parts.form
  obtain ⟨r4, s4, rfl, _⟩ := h'.parts.form
  clear h h'
  have hbA := Box.new w 36 [.string t.name, .slice a1 t.tokens.length p1, .slice a2 t.levels.length p2, .slice a3 t.rules.length p3, .slice a4 t.parts.length p4]
  have hbB := Box.new (w.alloc (.cells ([.string t.name, .slice a1 t.tokens.length p1, .slice a2 t.levels.length p2, .slice a3 t.rules.length p3, .slice a4 t.parts.length p4] : List Value).toArray 36)) 36 [.string t.name, .slice r1 t.tokens.length s1, .slice r2 t.levels.length s2, .slice r3 t.rules.length s3, .slice r4 t.parts.length s4]
  simp only [World.size_alloc] at hbB
  have HB := (show Hid _ from (⟨hbA.still (bel_alloc _ _), hbB, bel2 _ _ _⟩ : Box ((w.alloc (.cells ([.string t.name, .slice a1 t.tokens.length p1, .slice a2 t.levels.length p2, .slice a3 t.rules.length p3, .slice a4 t.parts.length p4] : List Value).toArray 36)).alloc (.cells ([.string t.name, .slice r1 t.tokens.length s1, .slice r2 t.levels.length s2, .slice r3 t.rules.length s3, .slice r4 t.parts.length s4] : List Value).toArray 36)) w.heap.size 36 [.string t.name, .slice a1 t.tokens.length p1, .slice a2 t.levels.length p2, .slice a3 t.rules.length p3, .slice a4 t.parts.length p4] ∧ Box ((w.alloc (.cells ([.string t.name, .slice a1 t.tokens.length p1, .slice a2 t.levels.length p2, .slice a3 t.rules.length p3, .slice a4 t.parts.length p4] : List Value).toArray 36)).alloc (.cells ([.string t.name, .slice r1 t.tokens.length s1, .slice r2 t.levels.length s2, .slice r3 t.rules.length s3, .slice r4 t.parts.length s4] : List Value).toArray 36)) (w.heap.size + 1) 36 [.string t.name, .slice r1 t.tokens.length s1, .slice r2 t.levels.length s2, .slice r3 t.rules.length s3, .slice r4 t.parts.length s4] ∧ Below w.heap.size w ((w.alloc (.cells ([.string t.name, .slice a1 t.tokens.length p1, .slice a2 t.levels.length p2, .slice a3 t.rules.length p3, .slice a4 t.parts.length p4] : List Value).toArray 36)).alloc (.cells ([.string t.name, .slice r1 t.tokens.length s1, .slice r2 t.levels.length s2, .slice r3 t.rules.length s3, .slice r4 t.parts.length s4] : List Value).toArray 36))))
  clear hbA hbB
  go_enter Tryz.func8, Tryz.ntmps8
  go_wp2_with fail
  refine Calls.mono (HF1.out _ HB.out.2.2) ?_
  rintro e w1 ⟨rfl, hb1⟩
  have HN1 := (show Hid _ from (⟨HB.out.1.still hb1, HB.out.2.1.still hb1, bel_trans HB.out.2.2 hb1⟩ : Box w1 w.heap.size 36 [.string t.name, .slice a1 t.tokens.length p1, .slice a2 t.levels.length p2, .slice a3 t.rules.length p3, .slice a4 t.parts.length p4] ∧ Box w1 (w.heap.size + 1) 36 [.string t.name, .slice r1 t.tokens.length s1, .slice r2 t.levels.length s2, .slice r3 t.rules.length s3, .slice r4 t.parts.length s4] ∧ Below w.heap.size w w1)); clear hb1
  have k2 : w1.cell? ⟨w.heap.size, 2, none⟩ = some (.slice a2 t.levels.length p2) := HN1.out.1.cell 2 (by simp)
  have m2 : w1.cell? ⟨w.heap.size + 1, 2, none⟩ = some (.slice r2 t.levels.length s2) := HN1.out.2.1.cell 2 (by simp)
  go_wp2_with fail
  refine Calls.mono (HF2.out _ HN1.out.2.2) ?_
  rintro e w2 ⟨rfl, hb2⟩
  clear k2 m2
  have HN2 := (show Hid _ from (⟨HN1.out.1.still hb2, HN1.out.2.1.still hb2, bel_trans HN1.out.2.2 hb2⟩ : Box w2 w.heap.size 36 [.string t.name, .slice a1 t.tokens.length p1, .slice a2 t.levels.length p2, .slice a3 t.rules.length p3, .slice a4 t.parts.length p4] ∧ Box w2 (w.heap.size + 1) 36 [.string t.name, .slice r1 t.tokens.length s1, .slice r2 t.levels.length s2, .slice r3 t.rules.length s3, .slice r4 t.parts.length s4] ∧ Below w.heap.size w w2)); clear hb2
  have k3 : w2.cell? ⟨w.heap.size, 3, none⟩ = some (.slice a3 t.rules.length p3) := HN2.out.1.cell 3 (by simp)
  have m3 : w2.cell? ⟨w.heap.size + 1, 3, none⟩ = some (.slice r3 t.rules.length s3) := HN2.out.2.1.cell 3 (by simp)
  go_wp2_with fail
  refine Calls.mono (HF3.out _ HN2.out.2.2) ?_
  rintro e w3 ⟨rfl, hb3⟩
  clear k3 m3
  have HN3 := (show Hid _ from (⟨HN2.out.1.still hb3, HN2.out.2.1.still hb3, bel_trans HN2.out.2.2 hb3⟩ : Box w3 w.heap.size 36 [.string t.name, .slice a1 t.tokens.length p1, .slice a2 t.levels.length p2, .slice a3 t.rules.length p3, .slice a4 t.parts.length p4] ∧ Box w3 (w.heap.size + 1) 36 [.string t.name, .slice r1 t.tokens.length s1, .slice r2 t.levels.length s2, .slice r3 t.rules.length s3, .slice r4 t.parts.length s4] ∧ Below w.heap.size w w3)); clear hb3
  have k4 : w3.cell? ⟨w.heap.size, 4, none⟩ = some (.slice a4 t.parts.length p4) := HN3.out.1.cell 4 (by simp)
  have m4 : w3.cell? ⟨w.heap.size + 1, 4, none⟩ = some (.slice r4 t.parts.length s4) := HN3.out.2.1.cell 4 (by simp)
  go_wp2_with fail
  refine Calls.mono (HF4.out _ HN3.out.2.2) ?_
  rintro e w4 ⟨rfl, hb4⟩
  clear k4 m4
  have HN4 := (show Hid _ from (⟨HN3.out.1.still hb4, HN3.out.2.1.still hb4, bel_trans HN3.out.2.2 hb4⟩ : Box w4 w.heap.size 36 [.string t.name, .slice a1 t.tokens.length p1, .slice a2 t.levels.length p2, .slice a3 t.rules.length p3, .slice a4 t.parts.length p4] ∧ Box w4 (w.heap.size + 1) 36 [.string t.name, .slice r1 t.tokens.length s1, .slice r2 t.levels.length s2, .slice r3 t.rules.length s3, .slice r4 t.parts.length s4] ∧ Below w.heap.size w w4)); clear hb4
  go_wp2_with fail
  go_ret
  exact ⟨rfl, HN4.out.2.2⟩
end Go.Proofs.YtgjnlhidbjpdkajGreat
