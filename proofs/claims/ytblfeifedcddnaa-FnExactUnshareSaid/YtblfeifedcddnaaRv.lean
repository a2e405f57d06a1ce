import Derived.Test.YtblfeifedcddnaaRw
/-! A Dag that is given: copied whole, compared, marked. -/
namespace Go.Proofs.Ytblfeifedcddnaa
open Go.RowKit Go.Deep
set_option linter.unusedVariables false
set_option maxRecDepth 100000
set_option linter.unusedSimpArgs false

set_option maxHeartbeats 1600000 in
theorem eqRd61 {S S' : Nat → Prop} (x : Rd) (v v' : Value) (w : World) (h : Ints w S (x.ks) v) (h' : Ints w S' (x.ks) v') :
    Calls Try.prog 90 #[.agg #[.string x.nm, .string x.tx, .bool x.lf, v], .agg #[.string x.nm, .string x.tx, .bool x.lf, v']] w fun e w' => e = .returned (.bool true) ∧ Below w.heap.size w w' := by
  have hb2 : Below w.heap.size w ((w.alloc (.cells #[.string x.nm, .string x.tx, .bool x.lf, v] 93)).alloc (.cells #[.string x.nm, .string x.tx, .bool x.lf, v'] 93)) := (bel_alloc _ _).alloc (by simp) _
  have HB2 := (show Hid _ from hb2)
  have HS := (show Hid _ from eqInts_any (x.ks) v v' _ (h.still hb2) (h'.still hb2))
  obtain ⟨a1, l1, p1, rfl⟩ := h.form
  obtain ⟨a2, l2, p2, rfl⟩ := h'.form
  clear h h' hb2
  obtain ⟨xn, xt, xl, xk⟩ := x
  dsimp only at *
  have n1 := neq_refl_bytes xn
  have n2 := neq_refl_bytes xt
  have n3 : (xl != xl) = false := by simp
  go_enter Try.func90, Try.ntmps90
  go_wp2_with fail
  refine Calls.mono HS.out ?_
  rintro e w1 ⟨rfl, hb1⟩
  have HN := (show Hid _ from HB2.out.trans (hb1.mono HB2.out.size)); clear hb1
  go_wp2_with fail
  go_ret
  exact ⟨rfl, HN.out⟩
set_option maxHeartbeats 3200000 in
theorem eqRds37 {S S' : Nat → Prop} (ns : List Rd) (u u' : Value) (w : World) (h : Rds w S ns u) (h' : Rds w S' ns u') :
    Calls Try.prog 49 #[u, u'] w fun e w' => e = .returned (.bool true) ∧ Below w.heap.size w w' := by
  obtain ⟨a, cap, b, off, sv, rfl, hc, hm, ha, hcell, _, hr⟩ := h
  obtain ⟨a', cap', b', off', sv', rfl, hc', hm', ha', hcell', _, hr'⟩ := h'
  have HD := (show Hid _ from (⟨ha, hcell, hr⟩ : _ ∧ _ ∧ _)); clear ha hcell hr
  have HD' := (show Hid _ from (⟨ha', hcell', hr'⟩ : _ ∧ _ ∧ _)); clear ha' hcell' hr'
  unfold maxLen at hm hm'
  go_enter Try.func49, Try.ntmps49
  go_wp2_with fail
  go_loopw [5] (fun i wr => ∃ j : Nat, j ≤ ns.length ∧ i = .int .i64 j ∧ Hid (Below w.heap.size w wr)) (fun i _ => ns.length - (intOf i).toNat)
  case atStart => exact ⟨0, Nat.zero_le _, rfl, Below.refl _ _⟩
  case round =>
    obtain ⟨j, hj, rfl, HB⟩ := hrel
    by_cases hlt : j < ns.length
    · obtain ⟨rfl, _⟩ := HD.out.1 (by omega)
      obtain ⟨rfl, _⟩ := HD'.out.1 (by omega)
      obtain ⟨d0, d1, d2, d3⟩ := HD.out.2.1 j hlt
      obtain ⟨f0, f1, f2, f3⟩ := HD'.out.2.1 j hlt
      rw [← HB.out.cell (lt_of_cell d0)] at d0
      rw [← HB.out.cell (lt_of_cell d1)] at d1
      rw [← HB.out.cell (lt_of_cell d2)] at d2
      rw [← HB.out.cell (lt_of_cell d3)] at d3
      rw [← HB.out.cell (lt_of_cell f0)] at f0
      rw [← HB.out.cell (lt_of_cell f1)] at f1
      rw [← HB.out.cell (lt_of_cell f2)] at f2
      rw [← HB.out.cell (lt_of_cell f3)] at f3
      have hI4 := (HD.out.2.2 j hlt).still HB.out
      have hI5 := (HD'.out.2.2 j hlt).still HB.out
      obtain ⟨a4, l4, p4, e4⟩ := hI4.form
      obtain ⟨a5, l5, p5, e5⟩ := hI5.form
      rw [e4] at d3 hI4
      rw [e5] at f3 hI5
      have HC8 := (show Hid (∀ wq, Below wr.heap.size wr wq → (wq.cell? ⟨b, off + j * 4, none⟩ = some (.string ns[j].nm) ∧ wq.cell? ⟨b, off + j * 4 + 1, none⟩ = some (.string ns[j].tx) ∧ wq.cell? ⟨b, off + j * 4 + 2, none⟩ = some (.bool ns[j].lf) ∧ wq.cell? ⟨b, off + j * 4 + 3, none⟩ = some (.slice a4 l4 p4)) ∧ wq.cell? ⟨b', off' + j * 4, none⟩ = some (.string ns[j].nm) ∧ wq.cell? ⟨b', off' + j * 4 + 1, none⟩ = some (.string ns[j].tx) ∧ wq.cell? ⟨b', off' + j * 4 + 2, none⟩ = some (.bool ns[j].lf) ∧ wq.cell? ⟨b', off' + j * 4 + 3, none⟩ = some (.slice a5 l5 p5)) from fun wq hb => ⟨⟨(hb.cell (lt_of_cell d0)).trans d0, (hb.cell (lt_of_cell d1)).trans d1, (hb.cell (lt_of_cell d2)).trans d2, (hb.cell (lt_of_cell d3)).trans d3⟩, (hb.cell (lt_of_cell f0)).trans f0, (hb.cell (lt_of_cell f1)).trans f1, (hb.cell (lt_of_cell f2)).trans f2, (hb.cell (lt_of_cell f3)).trans f3⟩)
      have HCL := (show Hid (∀ wq, Below wr.heap.size wr wq → Calls Try.prog 90 #[.agg #[.string ns[j].nm, .string ns[j].tx, .bool ns[j].lf, .slice a4 l4 p4], .agg #[.string ns[j].nm, .string ns[j].tx, .bool ns[j].lf, .slice a5 l5 p5]] wq fun e w' => e = .returned (.bool true) ∧ Below wq.heap.size wq w') from fun wq hb => eqRd61 ns[j] _ _ wq (hI4.still hb) (hI5.still hb))
      have q1 : (0 : Int) ≤ (j : Int) := by omega
      have q2 : (j : Int) < (ns.length : Int) := by omega
      generalize ns[j].nm = y0 at *
      generalize ns[j].tx = y1 at *
      generalize ns[j].lf = y2 at *
      clear d0 d1 d2 d3 f0 f1 f2 f3 hI4 hI5
      go_wp2_with fail
      go_cut [26] from 17 to 25 (fun vv wx => vv = .bool false ∧ Hid (Below wr.heap.size wr wx))
      case first =>
        have hbd := (Below.refl wr.heap.size wr).drew
        have hS0 := HC8.out _ hbd
        go_region_held3 (fun wq => (wq.cell? ⟨b, off + j * 4, none⟩ = some (.string y0) ∧ wq.cell? ⟨b, off + j * 4 + 1, none⟩ = some (.string y1) ∧ wq.cell? ⟨b, off + j * 4 + 2, none⟩ = some (.bool y2) ∧ wq.cell? ⟨b, off + j * 4 + 3, none⟩ = some (.slice a4 l4 p4)) ∧ wq.cell? ⟨b', off' + j * 4, none⟩ = some (.string y0) ∧ wq.cell? ⟨b', off' + j * 4 + 1, none⟩ = some (.string y1) ∧ wq.cell? ⟨b', off' + j * 4 + 2, none⟩ = some (.bool y2) ∧ wq.cell? ⟨b', off' + j * 4 + 3, none⟩ = some (.slice a5 l5 p5)) (first | with_reducible exact hS0 | with_reducible exact hS1) ((go_at_call 90; refine Calls.mono (HCL.out _ hbd) ?_; rintro e w3 ⟨rfl, hb3⟩; have hB3 := bel_trans hbd hb3; have hS1 := HC8.out _ hB3))
        all_goals go_wp2_with fail
        all_goals go_meet
        all_goals exact ⟨rfl, hB3⟩
      case rest =>
        obtain ⟨rfl, HX⟩ := hcut
        have HN2 := (show Hid _ from bel_trans HB.out HX.out)
        clear HX HC8 HCL HB
        go_wp2_with fail
        exact ⟨⟨j + 1, by omega, by go_num, HN2⟩, by simp [intOf]; omega⟩
    · go_wp2_with fail
      go_ret
      exact ⟨rfl, HB.out⟩
set_option maxHeartbeats 1600000 in
theorem eqDagR {S S' T T' : Nat → Prop} (ns : List Rd) (rs : List Int) (u r u' r' : Value) (w : World) (h : Rds w S ns u) (h2 : Ints w T rs r) (h' : Rds w S' ns u') (h2' : Ints w T' rs r') :
    Calls Try.prog 13 #[.agg #[u, r], .agg #[u', r']] w fun e w' => e = .returned (.bool true) ∧ Below w.heap.size w w' := by
  have hb2 : Below w.heap.size w ((w.alloc (.cells #[u, r] 27)).alloc (.cells #[u', r'] 27)) := (bel_alloc _ _).alloc (by simp) _
  have HB2 := (show Hid _ from hb2)
  have HE1 : Hid (Calls Try.prog 49 #[u, u'] ((w.alloc (.cells #[u, r] 27)).alloc (.cells #[u', r'] 27)) fun e w' => e = .returned (.bool true) ∧ Below ((w.alloc (.cells #[u, r] 27)).alloc (.cells #[u', r'] 27)).heap.size ((w.alloc (.cells #[u, r] 27)).alloc (.cells #[u', r'] 27)) w') := eqRds37 ns _ _ _ (h.still hb2) (h'.still hb2)
  have HE2 : Hid (∀ wq, Below w.heap.size w wq → Calls Try.prog 50 #[r, r'] wq fun e w' => e = .returned (.bool true) ∧ Below wq.heap.size wq w') := fun wq hb => eqInts_any rs _ _ wq (h2.still hb) (h2'.still hb)
  obtain ⟨a1, c1, rfl, _⟩ := h.form
  obtain ⟨a3, c3, rfl, _⟩ := h'.form
  obtain ⟨a2, l2, c2, rfl⟩ := h2.form
  obtain ⟨a4, l4, c4, rfl⟩ := h2'.form
  clear h h' h2 h2' hb2
  have B1 := Box.new w 27 [.slice a1 ns.length c1, .slice a2 l2 c2]
  have B1' := B1.still (bel_alloc _ (.cells #[.slice a3 ns.length c3, .slice a4 l4 c4] 27))
  have B2 := Box.new (w.alloc (.cells #[.slice a1 ns.length c1, .slice a2 l2 c2] 27)) 27 [.slice a3 ns.length c3, .slice a4 l4 c4]
  have B2' : Box ((w.alloc (.cells #[.slice a1 ns.length c1, .slice a2 l2 c2] 27)).alloc (.cells #[.slice a3 ns.length c3, .slice a4 l4 c4] 27)) (w.heap.size + 1) 27 [.slice a3 ns.length c3, .slice a4 l4 c4] := by simpa using B2
  have HX := (show Hid _ from (⟨B1', B2'⟩ : _ ∧ _)); clear B1 B2 B1' B2'
  go_enter Try.func13, Try.ntmps13
  go_wp2_with fail
  refine Calls.mono HE1.out ?_
  rintro e w1 ⟨rfl, hb1⟩
  have x1 := HX.out.1.still hb1
  have x2 := HX.out.2.still hb1
  have T1 : w1.cell? ⟨w.heap.size, 1, none⟩ = some (.slice a2 l2 c2) := x1.cell 1 (by simp)
  have T2 : w1.cell? ⟨w.heap.size + 1, 1, none⟩ = some (.slice a4 l4 c4) := x2.cell 1 (by simp)
  have hbb := bel_trans HB2.out hb1
  have HC : Hid (Calls Try.prog 50 #[.slice a2 l2 c2, .slice a4 l4 c4] w1 fun e w' => e = .returned (.bool true) ∧ Below w1.heap.size w1 w') := HE2.out w1 hbb
  have HBB := (show Hid _ from hbb)
  clear hb1 hbb x1 x2 HE1 HE2
  go_wp2_with fail
  refine Calls.mono HC.out ?_
  rintro e w2 ⟨rfl, hb2⟩
  have HN := (show Hid _ from bel_trans HBB.out hb2); clear hb2
  go_wp2_with fail
  go_ret
  exact ⟨rfl, HN.out⟩
theorem RN.rds {B : Nat} {w : World} {u : Value} {ns : List Rd} {K : Nat → Prop} (h : RN B w u ns K) (hz : ∀ i (hi : i < ns.length), ns[i].nm.size ≤ maxLen ∧ ns[i].tx.size ≤ maxLen) : Rds w (fun _ => True) ns u := by
  obtain ⟨a, cap, hu, hc, hm⟩ := h.form
  obtain ⟨kv, kb, h⟩ := h
  rcases h.row.2 with ⟨e, e0⟩ | ⟨g, cp, cur, r1, r2⟩
  · exact ⟨a, cap, 0, 0, kv, hu, hc, hm, fun h0 => by omega, fun i hi => by omega, hz, fun i hi => by omega⟩
  · have hr := h.row
    rw [r1] at hr hu
    simp only [Value.slice.injEq] at hu
    refine ⟨some ⟨g, 0, none⟩, cp, g, 0, kv, r1, by omega, by omega, fun _ => ⟨rfl, trivial⟩, fun i hi => ?_, hz, fun i hi => ?_⟩
    · obtain ⟨q0, q1, q2, q3⟩ := rc_get ns kv ns.length i hi
      rw [rdn_eq hi] at q0 q1 q2
      refine ⟨?_, ?_, ?_, ?_⟩
      · rw [Nat.zero_add, World.ownsRow.cellAt hr _ (by omega)]; exact q0
      · rw [Nat.zero_add, World.ownsRow.cellAt hr _ (by omega)]; exact q1
      · rw [Nat.zero_add, World.ownsRow.cellAt hr _ (by omega)]; exact q2
      · rw [Nat.zero_add, World.ownsRow.cellAt hr _ (by omega)]; exact q3
    · have hk := h.kid i hi
      rw [rdn_eq hi] at hk
      obtain ⟨a, c, b, o, e1, e2, e3, e4, e5⟩ := hk.ints
      exact ⟨a, c, b, o, e1, e2, e3, fun hp => ⟨(e4 hp).1, trivial⟩, e5⟩
end Go.Proofs.Ytblfeifedcddnaa
