import Derived.Test.YtjpjjfgdgieapaaDoorTo3
import Derived.Deep.RegionWith
namespace Go.Proofs.YtjpjjfgdgieapaaDoor
open Go.RowKit Go.Deep
set_option linter.unusedVariables false
set_option maxRecDepth 100000
set_option linter.unusedSimpArgs false

set_option maxHeartbeats 400000 in
theorem eqInts_any {S S' : Nat → Prop} (l : List Int) (v v' : Value) (w : World) (h : Ints w S l v) (h' : Ints w S' l v') :
    Calls Tryd.prog 29 #[v, v'] w fun e w' => e = .returned (.bool true) ∧ Below w.heap.size w w' := by
  obtain ⟨a, cap, b, off, rfl, hc, hm, ha, hcell⟩ := h
  obtain ⟨a', cap', b', off', rfl, hc', hm', ha', hcell'⟩ := h'
  have HC := (show Hid _ from hcell); clear hcell
  have HA := (show Hid _ from ha); clear ha
  have HC' := (show Hid _ from hcell'); clear hcell'
  have HA' := (show Hid _ from ha'); clear ha'
  unfold maxLen at hm hm'
  go_enter Tryd.func29, Tryd.ntmps29
  go_wp2_with fail
  go_loopw [5] (fun i wr => ∃ j : Nat, j ≤ l.length ∧ i = .int .i64 j ∧ Below w.heap.size w wr) (fun i _ => l.length - (intOf i).toNat)
  case atStart => exact ⟨0, Nat.zero_le _, rfl, Below.refl _ _⟩
  case round =>
    obtain ⟨j, hj, rfl, hbel⟩ := hrel
    by_cases hlt : j < l.length
    · obtain ⟨rfl, _⟩ := HA.out (by omega)
      obtain ⟨rfl, _⟩ := HA'.out (by omega)
      have c0 := HC.out j hlt
      rw [← hbel.cell (lt_of_cell c0)] at c0
      have c1 := HC'.out j hlt
      rw [← hbel.cell (lt_of_cell c1)] at c1
      have hbd := hbel.drew
      go_wp2_with fail
      go_region
      all_goals
        go_wp2_with fail
        exact ⟨⟨j + 1, by omega, by go_num, hbd⟩, by simp [intOf]; omega⟩
    · go_wp2_with fail
      go_ret
      exact ⟨rfl, hbel⟩
set_option maxHeartbeats 400000 in
theorem eqStrs_any {S S' : Nat → Prop} (l : List ByteArray) (v v' : Value) (w : World) (h : Strs w S l v) (h' : Strs w S' l v') :
    Calls Tryd.prog 32 #[v, v'] w fun e w' => e = .returned (.bool true) ∧ Below w.heap.size w w' := by
  obtain ⟨a, cap, b, off, rfl, hc, hm, ha, hcell⟩ := h
  obtain ⟨a', cap', b', off', rfl, hc', hm', ha', hcell'⟩ := h'
  have HC := (show Hid _ from hcell); clear hcell
  have HA := (show Hid _ from ha); clear ha
  have HC' := (show Hid _ from hcell'); clear hcell'
  have HA' := (show Hid _ from ha'); clear ha'
  unfold maxLen at hm hm'
  go_enter Tryd.func32, Tryd.ntmps32
  go_wp2_with fail
  go_loopw [5] (fun i wr => ∃ j : Nat, j ≤ l.length ∧ i = .int .i64 j ∧ Below w.heap.size w wr) (fun i _ => l.length - (intOf i).toNat)
  case atStart => exact ⟨0, Nat.zero_le _, rfl, Below.refl _ _⟩
  case round =>
    obtain ⟨j, hj, rfl, hbel⟩ := hrel
    by_cases hlt : j < l.length
    · obtain ⟨rfl, _⟩ := HA.out (by omega)
      obtain ⟨rfl, _⟩ := HA'.out (by omega)
      have c0 := (HC.out j hlt).1
      rw [← hbel.cell (lt_of_cell c0)] at c0
      have c1 := (HC'.out j hlt).1
      rw [← hbel.cell (lt_of_cell c1)] at c1
      have hbd := hbel.drew
      go_wp2_with fail
      go_region
      all_goals
        go_wp2_with fail
        exact ⟨⟨j + 1, by omega, by go_num, hbd⟩, by simp [intOf]; omega⟩
    · go_wp2_with fail
      go_ret
      exact ⟨rfl, hbel⟩
set_option maxHeartbeats 400000 in
theorem eqTerm_any (t : Tm) (w : World) :
    Calls Tryd.prog 73 #[.agg #[.string t.name, .int .i64 t.lev, .int .i64 t.asc], .agg #[.string t.name, .int .i64 t.lev, .int .i64 t.asc]] w fun e w' => e = .returned (.bool true) ∧ Below w.heap.size w w' := by
  go_enter Tryd.func73, Tryd.ntmps73
  go_wp2_with fail
  go_ret
  exact ⟨rfl, (bel_alloc _ _).alloc (by simp) _⟩
set_option maxHeartbeats 800000 in
theorem eqTerms_any {S S' : Nat → Prop} (l : List Tm) (v v' : Value) (w : World) (h : Tms w S l v) (h' : Tms w S' l v') :
    Calls Tryd.prog 31 #[v, v'] w fun e w' => e = .returned (.bool true) ∧ Below w.heap.size w w' := by
  obtain ⟨a, cap, b, off, rfl, hc, hm, ha, hcell⟩ := h
  obtain ⟨a', cap', b', off', rfl, hc', hm', ha', hcell'⟩ := h'
  have HC := (show Hid _ from hcell); clear hcell
  have HA := (show Hid _ from ha); clear ha
  have HC' := (show Hid _ from hcell'); clear hcell'
  have HA' := (show Hid _ from ha'); clear ha'
  unfold maxLen at hm hm'
  go_enter Tryd.func31, Tryd.ntmps31
  go_wp2_with fail
  go_loopw [5] (fun i wr => ∃ j : Nat, j ≤ l.length ∧ i = .int .i64 j ∧ Below w.heap.size w wr) (fun i _ => l.length - (intOf i).toNat)
  case atStart => exact ⟨0, Nat.zero_le _, rfl, Below.refl _ _⟩
  case round =>
    obtain ⟨j, hj, rfl, hbel⟩ := hrel
    by_cases hlt : j < l.length
    · obtain ⟨rfl, _⟩ := HA.out (by omega)
      obtain ⟨rfl, _⟩ := HA'.out (by omega)
      obtain ⟨c0, c1, c2, _⟩ := HC.out j hlt
      rw [← hbel.cell (lt_of_cell c0)] at c0
      rw [← hbel.cell (lt_of_cell c1)] at c1
      rw [← hbel.cell (lt_of_cell c2)] at c2
      obtain ⟨d0, d1, d2, _⟩ := HC'.out j hlt
      rw [← hbel.cell (lt_of_cell d0)] at d0
      rw [← hbel.cell (lt_of_cell d1)] at d1
      rw [← hbel.cell (lt_of_cell d2)] at d2
      have HCL := (show Hid _ from fun W => eqTerm_any l[j] W)
      go_wp2_with fail
      go_region_with (go_at_call 73; refine Calls.mono (HCL.out _) ?_; rintro e w1 ⟨rfl, hb1⟩)
      all_goals
        have hbw : Below w.heap.size w w1 := bel_trans hbel.drew hb1
        clear c0 c1 c2 d0 d1 d2
        go_wp2_with fail
        exact ⟨⟨j + 1, by omega, by go_num, hbw⟩, by simp [intOf]; omega⟩
    · go_wp2_with fail
      go_ret
      exact ⟨rfl, hbel⟩
set_option maxHeartbeats 800000 in
theorem eqProd_any {S S' : Nat → Prop} (t : Pd) (v v' : Value) (w : World) (h : Ints w S t.right v) (h' : Ints w S' t.right v') :
    Calls Tryd.prog 74 #[.agg #[.int .i64 t.left, v, .string t.label, .int .i64 t.lev, .int .i64 t.asc], .agg #[.int .i64 t.left, v', .string t.label, .int .i64 t.lev, .int .i64 t.asc]] w fun e w' => e = .returned (.bool true) ∧ Below w.heap.size w w' := by
  obtain ⟨a, cap, rfl, _⟩ := h.form
  obtain ⟨a', cap', rfl, _⟩ := h'.form
  have hbw : Below w.heap.size w ((w.alloc (.cells #[.int .i64 t.left, .slice a t.right.length cap, .string t.label, .int .i64 t.lev, .int .i64 t.asc] 82)).alloc (.cells #[.int .i64 t.left, .slice a' t.right.length cap', .string t.label, .int .i64 t.lev, .int .i64 t.asc] 82)) := (bel_alloc _ _).alloc (by simp) _
  have HI := (show Hid _ from eqInts_any t.right _ _ _ (h.still hbw) (h'.still hbw))
  have HB := (show Hid _ from hbw); clear h h' hbw
  go_enter Tryd.func74, Tryd.ntmps74
  go_wp2_with fail
  refine Calls.mono HI.out ?_
  rintro e w1 ⟨rfl, hb1⟩
  have A2 : w1.cell? ⟨w.heap.size, 2, none⟩ = some (.string t.label) := by rw [hb1.cell (by simp; omega)]; simp [go_sem]
  have A3 : w1.cell? ⟨w.heap.size, 3, none⟩ = some (.int .i64 t.lev) := by rw [hb1.cell (by simp; omega)]; simp [go_sem]
  have A4 : w1.cell? ⟨w.heap.size, 4, none⟩ = some (.int .i64 t.asc) := by rw [hb1.cell (by simp; omega)]; simp [go_sem]
  have B2 : w1.cell? ⟨w.heap.size + 1, 2, none⟩ = some (.string t.label) := by rw [hb1.cell (by simp)]; simp [go_sem]
  have B3 : w1.cell? ⟨w.heap.size + 1, 3, none⟩ = some (.int .i64 t.lev) := by rw [hb1.cell (by simp)]; simp [go_sem]
  have B4 : w1.cell? ⟨w.heap.size + 1, 4, none⟩ = some (.int .i64 t.asc) := by rw [hb1.cell (by simp)]; simp [go_sem]
  have HX := (show Hid _ from bel_trans HB.out hb1); clear hb1
  go_wp2_with fail
  go_ret
  exact ⟨rfl, HX.out⟩
set_option maxHeartbeats 1600000 in
theorem eqProds_any {S S' : Nat → Prop} (l : List Pd) (v v' : Value) (w : World) (h : Pds w S l v) (h' : Pds w S' l v') :
    Calls Tryd.prog 33 #[v, v'] w fun e w' => e = .returned (.bool true) ∧ Below w.heap.size w w' := by
  obtain ⟨a, cap, b, off, sv, rfl, hc, hm, ha, hcell, hr⟩ := h
  obtain ⟨a', cap', b', off', sv', rfl, hc', hm', ha', hcell', hr'⟩ := h'
  have HC := (show Hid _ from hcell); clear hcell
  have HA := (show Hid _ from ha); clear ha
  have HR := (show Hid _ from hr); clear hr
  have HC' := (show Hid _ from hcell'); clear hcell'
  have HA' := (show Hid _ from ha'); clear ha'
  have HR' := (show Hid _ from hr'); clear hr'
  unfold maxLen at hm hm'
  go_enter Tryd.func33, Tryd.ntmps33
  go_wp2_with fail
  go_loopw [5] (fun i wr => ∃ j : Nat, j ≤ l.length ∧ i = .int .i64 j ∧ Below w.heap.size w wr) (fun i _ => l.length - (intOf i).toNat)
  case atStart => exact ⟨0, Nat.zero_le _, rfl, Below.refl _ _⟩
  case round =>
    obtain ⟨j, hj, rfl, hbel⟩ := hrel
    by_cases hlt : j < l.length
    · obtain ⟨rfl, _⟩ := HA.out (by omega)
      obtain ⟨rfl, _⟩ := HA'.out (by omega)
      obtain ⟨c0, c1, c2, c3, c4, _⟩ := HC.out j hlt
      rw [← hbel.cell (lt_of_cell c0)] at c0
      rw [← hbel.cell (lt_of_cell c1)] at c1
      rw [← hbel.cell (lt_of_cell c2)] at c2
      rw [← hbel.cell (lt_of_cell c3)] at c3
      rw [← hbel.cell (lt_of_cell c4)] at c4
      obtain ⟨d0, d1, d2, d3, d4, _⟩ := HC'.out j hlt
      rw [← hbel.cell (lt_of_cell d0)] at d0
      rw [← hbel.cell (lt_of_cell d1)] at d1
      rw [← hbel.cell (lt_of_cell d2)] at d2
      rw [← hbel.cell (lt_of_cell d3)] at d3
      rw [← hbel.cell (lt_of_cell d4)] at d4
      have hcl : Calls Tryd.prog 74 #[.agg #[.int .i64 l[j].left, sv j, .string l[j].label, .int .i64 l[j].lev, .int .i64 l[j].asc], .agg #[.int .i64 l[j].left, sv' j, .string l[j].label, .int .i64 l[j].lev, .int .i64 l[j].asc]] wr.drew fun e w' => e = .returned (.bool true) ∧ Below wr.drew.heap.size wr.drew w' := eqProd_any l[j] _ _ _ ((HR.out j hlt).still hbel.drew) ((HR'.out j hlt).still hbel.drew)
      obtain ⟨a2, cap2, e2, _⟩ := (HR.out j hlt).form
      obtain ⟨a3, cap3, e3, _⟩ := (HR'.out j hlt).form
      rw [e2] at c1 hcl
      rw [e3] at d1 hcl
      have HCL := (show Hid _ from hcl); clear hcl e2 e3
      go_wp2_with fail
      go_region_with (go_at_call 74; refine Calls.mono HCL.out ?_; rintro e w1 ⟨rfl, hb1⟩)
      all_goals
        have hbw : Below w.heap.size w w1 := bel_trans hbel.drew hb1
        clear c0 c1 c2 c3 c4 d0 d1 d2 d3 d4
        go_wp2_with fail
        exact ⟨⟨j + 1, by omega, by go_num, hbw⟩, by simp [intOf]; omega⟩
    · go_wp2_with fail
      go_ret
      exact ⟨rfl, hbel⟩
set_option maxHeartbeats 1600000 in
theorem eqBnf_any {S S' : Nat → Prop} (d : Bn) (v0 v1 v3 u0 u1 u3 : Value) (w : World) (h : BLies w S d v0 v1 v3) (h' : BLies w S' d u0 u1 u3) :
    Calls Tryd.prog 9 #[.agg #[v0, v1, .int .i64 d.own, v3], .agg #[u0, u1, .int .i64 d.own, u3]] w fun e w' => e = .returned (.bool true) ∧ Below w.heap.size w w' := by
  obtain ⟨a0, p0, a1, p1, a3, p3, rfl, rfl, rfl⟩ := h.form
  obtain ⟨b0, r0, b1, r1, b3, r3, rfl, rfl, rfl⟩ := h'.form
  have hbw : Below w.heap.size w ((w.alloc (.cells #[.slice a0 d.terms.length p0, .slice a1 d.nons.length p1, .int .i64 d.own, .slice a3 d.prods.length p3] 38)).alloc (.cells #[.slice b0 d.terms.length r0, .slice b1 d.nons.length r1, .int .i64 d.own, .slice b3 d.prods.length r3] 38)) := (bel_alloc _ _).alloc (by simp) _
  have q1 := (Box4.new w 38 (.slice a0 d.terms.length p0) (.slice a1 d.nons.length p1) (.int .i64 d.own) (.slice a3 d.prods.length p3)).still (bel_alloc _ (.cells #[.slice b0 d.terms.length r0, .slice b1 d.nons.length r1, .int .i64 d.own, .slice b3 d.prods.length r3] 38))
  have q2 := Box4.new (w.alloc (.cells #[.slice a0 d.terms.length p0, .slice a1 d.nons.length p1, .int .i64 d.own, .slice a3 d.prods.length p3] 38)) 38 (.slice b0 d.terms.length r0) (.slice b1 d.nons.length r1) (.int .i64 d.own) (.slice b3 d.prods.length r3)
  simp only [World.size_alloc] at q2
  have HT := (show Hid _ from eqTerms_any d.terms _ _ _ (h.terms.still hbw) (h'.terms.still hbw))
  have H0 := (show Hid _ from (⟨hbw, q1, q2, h, h'⟩ : _ ∧ _ ∧ _ ∧ BLies w S d (.slice a0 d.terms.length p0) (.slice a1 d.nons.length p1) (.slice a3 d.prods.length p3) ∧ BLies w S' d (.slice b0 d.terms.length r0) (.slice b1 d.nons.length r1) (.slice b3 d.prods.length r3))); clear hbw q1 q2 h h'
  go_enter Tryd.func9, Tryd.ntmps9
  go_wp2_with fail
  refine Calls.mono HT.out ?_
  rintro e w1 ⟨rfl, hb1⟩
  obtain ⟨hbw, q1, q2, h, h'⟩ := H0.out
  have q1' := q1.still hb1
  have q2' := q2.still hb1
  have hb1' := bel_trans hbw hb1
  have HT2 := (show Hid _ from eqStrs_any d.nons _ _ w1 (h.nons.still hb1') (h'.nons.still hb1'))
  obtain ⟨x0, x1, x2, x3⟩ := q1'.cells
  obtain ⟨y0, y1, y2, y3⟩ := q2'.cells
  have H1 := (show Hid _ from (⟨hb1', q1', q2', h, h'⟩ : _ ∧ _ ∧ _ ∧ BLies w S d (.slice a0 d.terms.length p0) (.slice a1 d.nons.length p1) (.slice a3 d.prods.length p3) ∧ BLies w S' d (.slice b0 d.terms.length r0) (.slice b1 d.nons.length r1) (.slice b3 d.prods.length r3))); clear hbw q1 q2 h h' hb1 q1' q2' hb1' H0 HT
  go_wp2_with fail
  refine Calls.mono HT2.out ?_
  rintro e w2 ⟨rfl, hb2⟩
  obtain ⟨hbw, q1, q2, h, h'⟩ := H1.out
  have q1' := q1.still hb2
  have q2' := q2.still hb2
  have hb2' := bel_trans hbw hb2
  have HT3 := (show Hid _ from eqProds_any d.prods _ _ w2 (h.prods.still hb2') (h'.prods.still hb2'))
  clear x0 x1 x2 x3 y0 y1 y2 y3
  obtain ⟨x0, x1, x2, x3⟩ := q1'.cells
  obtain ⟨y0, y1, y2, y3⟩ := q2'.cells
  have HB2 := (show Hid _ from hb2'); clear hbw q1 q2 h h' hb2 q1' q2' hb2' H1 HT2
  go_wp2_with fail
  refine Calls.mono HT3.out ?_
  rintro e w3 ⟨rfl, hb3⟩
  have HX := (show Hid _ from bel_trans HB2.out hb3); clear hb3
  go_wp2_with fail
  go_ret
  exact ⟨rfl, HX.out⟩
end Go.Proofs.YtjpjjfgdgieapaaDoor
