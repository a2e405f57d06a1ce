import Derived.Test.YtblfeifedcddnaaLs
/-! Nodes that are the same, compared. -/
namespace Go.Proofs.Ytblfeifedcddnaa
open Go.RowKit Go.Deep
set_option linter.unusedVariables false
set_option maxRecDepth 100000
set_option linter.unusedSimpArgs false

theorem neq_refl_bytes (a : ByteArray) : (a.toList != a.toList) = false := by simp
set_option maxHeartbeats 1600000 in
theorem eqNode61 {S S' : Nat → Prop} (x : Nd) (v v' : Value) (w : World) (h : Ints w S (ins x.ks) v) (h' : Ints w S' (ins x.ks) v') :
    Calls Try.prog 90 #[x.val v, x.val v'] w fun e w' => e = .returned (.bool true) ∧ Below w.heap.size w w' := by
  have hb2 : Below w.heap.size w ((w.alloc (.cells #[.string x.nm, .string x.tx, .bool x.lf, v] 93)).alloc (.cells #[.string x.nm, .string x.tx, .bool x.lf, v'] 93)) := (bel_alloc _ _).alloc (by simp) _
  have HB2 := (show Hid _ from hb2)
  have HS := (show Hid _ from eqInts_any (ins x.ks) v v' _ (h.still hb2) (h'.still hb2))
  obtain ⟨a1, l1, p1, rfl⟩ := h.form
  obtain ⟨a2, l2, p2, rfl⟩ := h'.form
  clear h h' hb2
  unfold Nd.val
  obtain ⟨xn, xt, xl, xk⟩ := x
  dsimp only at *
  have n1 := neq_refl_bytes xn
  have n2 := neq_refl_bytes xt
  have n3 : (xl != xl) = false := by simp
  go_enter Try.func90, Try.ntmps90
  go_wp2_with fail
  refine Calls.mono HS.out ?_
  rintro e w1 ⟨rfl, hb1⟩
  have HN := (show Hid _ from HB2.out.trans (hb1.mono HB2.out.size)); clear hb1
  go_wp2_with fail
  go_ret
  exact ⟨rfl, HN.out⟩
set_option maxHeartbeats 3200000 in
theorem eqNodes37 {B B' : Nat} {K K' : Nat → Prop} (ns : List Nd) (u u' : Value) (w : World) (h : DN B w u ns K) (h' : DN B' w u' ns K') :
    Calls Try.prog 49 #[u, u'] w fun e w' => e = .returned (.bool true) ∧ Below w.heap.size w w' := by
  have HD := (show Hid (DN B w u ns K) from h)
  have HD' := (show Hid (DN B' w u' ns K') from h')
  obtain ⟨a, cap, rfl, hc, hm⟩ := h.form
  obtain ⟨a', cap', rfl, hc', hm'⟩ := h'.form
  clear h h'
  unfold maxLen at hm hm'
  go_enter Try.func49, Try.ntmps49
  go_wp2_with fail
  go_loopw [5] (fun i wr => ∃ j : Nat, j ≤ ns.length ∧ i = .int .i64 j ∧ Hid (Below w.heap.size w wr)) (fun i _ => ns.length - (intOf i).toNat)
  case atStart => exact ⟨0, Nat.zero_le _, rfl, Below.refl _ _⟩
  case round =>
    obtain ⟨j, hj, rfl, HB⟩ := hrel
    by_cases hlt : j < ns.length
    · obtain ⟨g4, c4, v4, e4, hB4, d0, d1, d2, d3, hI4⟩ := (DN.still HD.out HB.out).node hlt
      obtain ⟨g5, c5, v5, e5, hB5, f0, f1, f2, f3, hI5⟩ := (DN.still HD'.out HB.out).node hlt
      simp only [Value.slice.injEq] at e4 e5
      obtain ⟨rfl, _, rfl⟩ := e4
      obtain ⟨rfl, _, rfl⟩ := e5
      obtain ⟨a4, l4, p4, rfl⟩ := hI4.form
      obtain ⟨a5, l5, p5, rfl⟩ := hI5.form
      have HC8 := (show Hid (∀ wq, Below wr.heap.size wr wq → (wq.cell? ⟨g4, j * 4, none⟩ = some (.string (nd ns j).nm) ∧ wq.cell? ⟨g4, j * 4 + 1, none⟩ = some (.string (nd ns j).tx) ∧ wq.cell? ⟨g4, j * 4 + 2, none⟩ = some (.bool (nd ns j).lf) ∧ wq.cell? ⟨g4, j * 4 + 3, none⟩ = some (.slice a4 l4 p4)) ∧ wq.cell? ⟨g5, j * 4, none⟩ = some (.string (nd ns j).nm) ∧ wq.cell? ⟨g5, j * 4 + 1, none⟩ = some (.string (nd ns j).tx) ∧ wq.cell? ⟨g5, j * 4 + 2, none⟩ = some (.bool (nd ns j).lf) ∧ wq.cell? ⟨g5, j * 4 + 3, none⟩ = some (.slice a5 l5 p5)) from fun wq hb => ⟨⟨(hb.cell (lt_of_cell d0)).trans d0, (hb.cell (lt_of_cell d1)).trans d1, (hb.cell (lt_of_cell d2)).trans d2, (hb.cell (lt_of_cell d3)).trans d3⟩, (hb.cell (lt_of_cell f0)).trans f0, (hb.cell (lt_of_cell f1)).trans f1, (hb.cell (lt_of_cell f2)).trans f2, (hb.cell (lt_of_cell f3)).trans f3⟩)
      have HCL := (show Hid (∀ wq, Below wr.heap.size wr wq → Calls Try.prog 90 #[.agg #[.string (nd ns j).nm, .string (nd ns j).tx, .bool (nd ns j).lf, .slice a4 l4 p4], .agg #[.string (nd ns j).nm, .string (nd ns j).tx, .bool (nd ns j).lf, .slice a5 l5 p5]] wq fun e w' => e = .returned (.bool true) ∧ Below wq.heap.size wq w') from fun wq hb => eqNode61 (nd ns j) _ _ wq (hI4.still hb) (hI5.still hb))
      have q1 : (0 : Int) ≤ (j : Int) := by omega
      have q2 : (j : Int) < (ns.length : Int) := by omega
      generalize (nd ns j).nm = y0 at *
      generalize (nd ns j).tx = y1 at *
      generalize (nd ns j).lf = y2 at *
      clear d0 d1 d2 d3 f0 f1 f2 f3 hI4 hI5 hB4 hB5
      go_wp2_with fail
      go_cut [26] from 17 to 25 (fun vv wx => vv = .bool false ∧ Hid (Below wr.heap.size wr wx))
      case first =>
        have hbd := (Below.refl wr.heap.size wr).drew
        have hS0 := HC8.out _ hbd
        go_region_held3 (fun wq => (wq.cell? ⟨g4, j * 4, none⟩ = some (.string y0) ∧ wq.cell? ⟨g4, j * 4 + 1, none⟩ = some (.string y1) ∧ wq.cell? ⟨g4, j * 4 + 2, none⟩ = some (.bool y2) ∧ wq.cell? ⟨g4, j * 4 + 3, none⟩ = some (.slice a4 l4 p4)) ∧ wq.cell? ⟨g5, j * 4, none⟩ = some (.string y0) ∧ wq.cell? ⟨g5, j * 4 + 1, none⟩ = some (.string y1) ∧ wq.cell? ⟨g5, j * 4 + 2, none⟩ = some (.bool y2) ∧ wq.cell? ⟨g5, j * 4 + 3, none⟩ = some (.slice a5 l5 p5)) (first | with_reducible exact hS0 | with_reducible exact hS1) ((go_at_call 90; refine Calls.mono (HCL.out _ hbd) ?_; rintro e w3 ⟨rfl, hb3⟩; have hB3 := bel_trans hbd hb3; have hS1 := HC8.out _ hB3))
        all_goals go_wp2_with fail
        all_goals go_meet
        all_goals exact ⟨rfl, hB3⟩
      case rest =>
        obtain ⟨rfl, HX⟩ := hcut
        have HN2 := (show Hid _ from bel_trans HB.out HX.out)
        clear HX HC8 HCL HB
        go_wp2_with fail
        exact ⟨⟨j + 1, by omega, by go_num, HN2⟩, by simp [intOf]; omega⟩
    · go_wp2_with fail
      go_ret
      exact ⟨rfl, HB.out⟩
set_option maxHeartbeats 1600000 in
theorem eqDag15 {B B' : Nat} (ns : List Nd) (rs : List Nat) (u r u' r' : Value) (w : World) (h : DgR B w ns rs u r) (h' : DgR B' w ns rs u' r') :
    Calls Try.prog 13 #[.agg #[u, r], .agg #[u', r']] w fun e w' => e = .returned (.bool true) ∧ Below w.heap.size w w' := by
  have hb2 : Below w.heap.size w ((w.alloc (.cells #[u, r] 27)).alloc (.cells #[u', r'] 27)) := (bel_alloc _ _).alloc (by simp) _
  have HB2 := (show Hid _ from hb2)
  obtain ⟨a1, c1, a2, c2, rfl, rfl, _, _⟩ := h.forms
  obtain ⟨a3, c3, a4, c4, rfl, rfl, _, _⟩ := h'.forms
  obtain ⟨K, d1, d2, d3⟩ := h
  obtain ⟨K', d4, d5, d6⟩ := h'
  have HE1 := (show Hid _ from eqNodes37 ns _ _ _ (d1.still hb2) (d4.still hb2))
  have HE2 := (show Hid (∀ wq, Below w.heap.size w wq → Calls Try.prog 50 #[.slice a2 rs.length c2, .slice a4 rs.length c4] wq fun e w' => e = .returned (.bool true) ∧ Below wq.heap.size wq w') from fun wq hb => eqInts_any (ins rs) _ _ wq (Ints.still (OwnI.ints (own_ints (by rw [ins_len]; exact d2))) hb) (Ints.still (OwnI.ints (own_ints (by rw [ins_len]; exact d5))) hb))
  clear d1 d2 d3 d4 d5 d6 hb2
  have B1 := Box.new w 27 [.slice a1 ns.length c1, .slice a2 rs.length c2]
  have B1' := B1.still (bel_alloc _ (.cells #[.slice a3 ns.length c3, .slice a4 rs.length c4] 27))
  have B2 := Box.new (w.alloc (.cells #[.slice a1 ns.length c1, .slice a2 rs.length c2] 27)) 27 [.slice a3 ns.length c3, .slice a4 rs.length c4]
  have B2' : Box ((w.alloc (.cells #[.slice a1 ns.length c1, .slice a2 rs.length c2] 27)).alloc (.cells #[.slice a3 ns.length c3, .slice a4 rs.length c4] 27)) (w.heap.size + 1) 27 [.slice a3 ns.length c3, .slice a4 rs.length c4] := by simpa using B2
  have HX := (show Hid _ from (⟨B1', B2'⟩ : _ ∧ _)); clear B1 B2 B1' B2'
  go_enter Try.func13, Try.ntmps13
  go_wp2_with fail
  refine Calls.mono HE1.out ?_
  rintro e w1 ⟨rfl, hb1⟩
  have x1 := HX.out.1.still hb1
  have x2 := HX.out.2.still hb1
  have T1 : w1.cell? ⟨w.heap.size, 1, none⟩ = some (.slice a2 rs.length c2) := x1.cell 1 (by simp)
  have T2 : w1.cell? ⟨w.heap.size + 1, 1, none⟩ = some (.slice a4 rs.length c4) := x2.cell 1 (by simp)
  have hbb := bel_trans HB2.out hb1
  have HC := (show Hid _ from HE2.out w1 hbb)
  have HBB := (show Hid _ from hbb)
  clear hb1 hbb x1 x2 HE1 HE2
  go_wp2_with fail
  refine Calls.mono HC.out ?_
  rintro e w2 ⟨rfl, hb2⟩
  have HN := (show Hid _ from bel_trans HBB.out hb2); clear hb2
  go_wp2_with fail
  go_ret
  exact ⟨rfl, HN.out⟩
end Go.Proofs.Ytblfeifedcddnaa
