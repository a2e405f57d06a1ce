import Derived.Test.YtokncahlcphhnaaTo
namespace Go.Proofs.Ytokncahlcphhnaa
open Go.RowKit Go.Deep
set_option linter.unusedVariables false
set_option maxRecDepth 100000
set_option linter.unusedSimpArgs false

set_option maxHeartbeats 3200000 in
theorem eqInts_any {S S' : Nat → Prop} (l : List Int) (v v' : Value) (w : World) (h : Ints w S l v) (h' : Ints w S' l v') :
    Calls Try.prog 37 #[v, v'] w fun e w' => e = .returned (.bool true) ∧ Below w.heap.size w w' := by
  obtain ⟨a, cap, b, off, rfl, hc, hm, ha, hcell⟩ := h
  have HC := (show Hid _ from hcell); clear hcell
  have HA := (show Hid _ from ha); clear ha
  obtain ⟨a', cap', b', off', rfl, hc', hm', ha', hcell'⟩ := h'
  have HC' := (show Hid _ from hcell'); clear hcell'
  have HA' := (show Hid _ from ha'); clear ha'
  unfold maxLen at hm hm'
  go_enter Try.func37, Try.ntmps37
  go_wp2_with fail
  go_loopw [5] (fun i wr => ∃ j : Nat, j ≤ l.length ∧ i = .int .i64 j ∧ Below w.heap.size w wr) (fun i _ => l.length - (intOf i).toNat)
  case atStart => exact ⟨0, Nat.zero_le _, rfl, Below.refl _ _⟩
  case round =>
    obtain ⟨j, hj, rfl, hbel⟩ := hrel
    by_cases hlt : j < l.length
    · obtain ⟨rfl, _⟩ := HA.out (by omega)
      obtain ⟨rfl, _⟩ := HA'.out (by omega)
      have c0 := HC.out j (by omega)
      rw [← hbel.cell (lt_of_cell c0)] at c0
      have d0 := HC'.out j (by omega)
      rw [← hbel.cell (lt_of_cell d0)] at d0
      have hbd := hbel.drew
      go_wp2_with fail
      go_region
      all_goals
        go_wp2_with fail
        exact ⟨⟨j + 1, by omega, by go_num, hbd⟩, by simp [intOf]; omega⟩
    · go_wp2_with fail
      go_ret
      exact ⟨rfl, hbel⟩
set_option maxHeartbeats 3200000 in
theorem eqLNode_any {S S' : Nat → Prop} (t : DLNode) (v3 x3 : Value) (w : World) (h : DLNodeL w S t v3) (h' : DLNodeL w S' t x3) :
    Calls Try.prog 26 #[.agg #[.int .i64 t.kind, .string t.s, .int .i64 t.n, v3], .agg #[.int .i64 t.kind, .string t.s, .int .i64 t.n, x3]] w fun e w' => e = .returned (.bool true) ∧ Below w.heap.size w w' := by
  have HF3 := (show Hid _ from fun (w' : World) (hb : Below w.heap.size w w') => eqInts_any t.kids v3 x3 w' (h.kids.still hb) (h'.kids.still hb))
  obtain ⟨a3, p3, rfl, _⟩ := h.kids.form
  obtain ⟨r3, s3, rfl, _⟩ := h'.kids.form
  clear h h'
  have hbA := Box.new w 44 [.int .i64 t.kind, .string t.s, .int .i64 t.n, .slice a3 t.kids.length p3]
  have hbB := Box.new (w.alloc (.cells ([.int .i64 t.kind, .string t.s, .int .i64 t.n, .slice a3 t.kids.length p3] : List Value).toArray 44)) 44 [.int .i64 t.kind, .string t.s, .int .i64 t.n, .slice r3 t.kids.length s3]
  simp only [World.size_alloc] at hbB
  have HB := (show Hid _ from (⟨hbA.still (bel_alloc _ _), hbB, bel2 _ _ _⟩ : Box ((w.alloc (.cells ([.int .i64 t.kind, .string t.s, .int .i64 t.n, .slice a3 t.kids.length p3] : List Value).toArray 44)).alloc (.cells ([.int .i64 t.kind, .string t.s, .int .i64 t.n, .slice r3 t.kids.length s3] : List Value).toArray 44)) w.heap.size 44 [.int .i64 t.kind, .string t.s, .int .i64 t.n, .slice a3 t.kids.length p3] ∧ Box ((w.alloc (.cells ([.int .i64 t.kind, .string t.s, .int .i64 t.n, .slice a3 t.kids.length p3] : List Value).toArray 44)).alloc (.cells ([.int .i64 t.kind, .string t.s, .int .i64 t.n, .slice r3 t.kids.length s3] : List Value).toArray 44)) (w.heap.size + 1) 44 [.int .i64 t.kind, .string t.s, .int .i64 t.n, .slice r3 t.kids.length s3] ∧ Below w.heap.size w ((w.alloc (.cells ([.int .i64 t.kind, .string t.s, .int .i64 t.n, .slice a3 t.kids.length p3] : List Value).toArray 44)).alloc (.cells ([.int .i64 t.kind, .string t.s, .int .i64 t.n, .slice r3 t.kids.length s3] : List Value).toArray 44))))
  clear hbA hbB
  go_enter Try.func26, Try.ntmps26
  go_wp2_with fail
  refine Calls.mono (HF3.out _ HB.out.2.2) ?_
  rintro e w3 ⟨rfl, hb3⟩
  have HN3 := (show Hid _ from (⟨HB.out.1.still hb3, HB.out.2.1.still hb3, bel_trans HB.out.2.2 hb3⟩ : Box w3 w.heap.size 44 [.int .i64 t.kind, .string t.s, .int .i64 t.n, .slice a3 t.kids.length p3] ∧ Box w3 (w.heap.size + 1) 44 [.int .i64 t.kind, .string t.s, .int .i64 t.n, .slice r3 t.kids.length s3] ∧ Below w.heap.size w w3)); clear hb3
  go_wp2_with fail
  go_ret
  exact ⟨rfl, HN3.out.2.2⟩
set_option maxHeartbeats 3200000 in
theorem eqLNodeR_any {S S' : Nat → Prop} (l : List DLNode) (v v' : Value) (w : World) (h : LNodeR w S l v) (h' : LNodeR w S' l v') :
    Calls Try.prog 10 #[v, v'] w fun e w' => e = .returned (.bool true) ∧ Below w.heap.size w w' := by
  obtain ⟨a, cap, b, off, s3, rfl, hc, hm, ha, hcell, r3⟩ := h
  have HC := (show Hid _ from hcell); clear hcell
  have HA := (show Hid _ from ha); clear ha
  have HR3 := (show Hid _ from r3); clear r3
  obtain ⟨a', cap', b', off', s3', rfl, hc', hm', ha', hcell', r3'⟩ := h'
  have HC' := (show Hid _ from hcell'); clear hcell'
  have HA' := (show Hid _ from ha'); clear ha'
  have HR3' := (show Hid _ from r3'); clear r3'
  unfold maxLen at hm hm'
  go_enter Try.func10, Try.ntmps10
  go_wp2_with fail
  go_loopw [5] (fun i wr => ∃ j : Nat, j ≤ l.length ∧ i = .int .i64 j ∧ Below w.heap.size w wr) (fun i _ => l.length - (intOf i).toNat)
  case atStart => exact ⟨0, Nat.zero_le _, rfl, Below.refl _ _⟩
  case round =>
    obtain ⟨j, hj, rfl, hbel⟩ := hrel
    by_cases hlt : j < l.length
    · obtain ⟨rfl, _⟩ := HA.out (by omega)
      obtain ⟨rfl, _⟩ := HA'.out (by omega)
      obtain ⟨c0, c1, c2, c3, zc0⟩ := HC.out j (by omega)
      rw [← hbel.cell (lt_of_cell c0)] at c0
      rw [← hbel.cell (lt_of_cell c1)] at c1
      rw [← hbel.cell (lt_of_cell c2)] at c2
      rw [← hbel.cell (lt_of_cell c3)] at c3
      obtain ⟨d0, d1, d2, d3, zd0⟩ := HC'.out j (by omega)
      rw [← hbel.cell (lt_of_cell d0)] at d0
      rw [← hbel.cell (lt_of_cell d1)] at d1
      rw [← hbel.cell (lt_of_cell d2)] at d2
      rw [← hbel.cell (lt_of_cell d3)] at d3
      have hcl := eqLNode_any l[j] _ _ wr.drew ⟨(HR3.out j hlt).still hbel.drew⟩ ⟨(HR3'.out j hlt).still hbel.drew⟩
      obtain ⟨a3x, cap3x, e3x, _⟩ := (HR3.out j hlt).form
      obtain ⟨a3y, cap3y, e3y, _⟩ := (HR3'.out j hlt).form
      rw [e3x] at c3
      rw [e3y] at d3
      rw [e3x, e3y] at hcl
      clear e3x e3y
      have HCL := (show Hid _ from hcl); clear hcl
      go_wp2_with fail
      go_region_with (go_at_call 26; refine Calls.mono HCL.out ?_; rintro e w1 ⟨rfl, hb1⟩)
      all_goals
        have hbw : Below w.heap.size w w1 := bel_trans hbel.drew hb1
        clear c0 d0 c1 d1 c2 d2 c3 d3
        go_wp2_with fail
        exact ⟨⟨j + 1, by omega, by go_num, hbw⟩, by simp [intOf]; omega⟩
    · go_wp2_with fail
      go_ret
      exact ⟨rfl, hbel⟩
end Go.Proofs.Ytokncahlcphhnaa
