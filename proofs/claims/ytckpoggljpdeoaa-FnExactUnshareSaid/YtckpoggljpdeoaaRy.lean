import Derived.Test.YtckpoggljpdeoaaRx
/-! A Dag that is given: its size whole. -/
namespace Go.Proofs.Ytckpoggljpdeoaa
open Go.RowKit Go.Deep
set_option linter.unusedVariables false
set_option maxRecDepth 100000
set_option linter.unusedSimpArgs false

set_option maxHeartbeats 3200000 in
theorem szNodes44 {S : Nat → Prop} (ns : List Rd) (v : Value) (w : World) (left : Int) (h : Rds w S ns v) (h0 : 0 ≤ left) (h1 : left ≤ 1048576) :
    Calls Try.prog 44 #[v, .int .i64 left] w fun e w' => e = .returned (.int .i64 (szR (ns.length + wns ns) left)) ∧ Below w.heap.size w w' := by
  obtain ⟨a, cap, b, off, sv, rfl, hc, hm, ha, hcell, hz, hr⟩ := h
  have HC := (show Hid _ from hcell); clear hcell
  have HA := (show Hid _ from ha); clear ha
  have HZ := (show Hid _ from hz); clear hz
  have HR := (show Hid _ from hr); clear hr
  unfold maxLen at hm
  have w1 : IntKind.i64.wrap (left - (ns.length : Int)) = left - (ns.length : Int) := by rw [IntKind.wrap_i64]; omega
  by_cases hl : (ns.length : Int) ≤ left
  case neg =>
    rw [szR_no (by omega)]
    have hd : decide (left - (ns.length : Int) < 0) = true := by simp; omega
    go_enter Try.func44, Try.ntmps44
    go_wp2_with fail
    go_ret
    exact ⟨rfl, Below.refl _ _⟩
  have hd : decide (left - (ns.length : Int) < 0) = false := by simp; omega
  generalize hRes : szR (ns.length + wns ns) left = R
  have HRes := (show Hid _ from hRes); clear hRes
  go_enter Try.func44, Try.ntmps44
  go_wp2_with fail
  go_loopw [1, 5] (fun l i wr => ∃ (j : Nat) (L : Int), j ≤ ns.length ∧ i = .int .i64 j ∧ l = .int .i64 L ∧ 0 ≤ L ∧ L ≤ 1048576 ∧ Hid (L = left - ns.length - wns (ns.take j)) ∧ Hid (Below w.heap.size w wr)) (fun _ i _ => ns.length - (intOf i).toNat)
  case atStart => exact ⟨0, left - ns.length, Nat.zero_le _, rfl, rfl, by omega, by omega, by show _ = _; simp [wns], Below.refl _ _⟩
  case round =>
    obtain ⟨j, L, hj, rfl, rfl, hL0, hL1, HL, HB⟩ := hrel
    by_cases hlt : j < ns.length
    · obtain ⟨rfl, _⟩ := HA.out (by omega)
      obtain ⟨c0, c1, c2, c3⟩ := HC.out j hlt
      rw [← HB.out.cell (lt_of_cell c0)] at c0
      rw [← HB.out.cell (lt_of_cell c1)] at c1
      rw [← HB.out.cell (lt_of_cell c2)] at c2
      rw [← HB.out.cell (lt_of_cell c3)] at c3
      have hi := (HR.out j hlt).still HB.out
      have hcl := szNode62 ns[j] (sv j) wr L hi (HZ.out j hlt) hL0 hL1
      obtain ⟨a3, l3, p3, e3⟩ := hi.form
      rw [e3] at c3 hcl
      have hts := wns_succ hlt
      have hle := wns_le ns (j + 1)
      have HT := (show Hid _ from (⟨hts, hle⟩ : _ ∧ _)); clear hts hle hi e3
      generalize ns[j].nm = y0 at *
      generalize ns[j].tx = y1 at *
      generalize ns[j].lf = y2 at *
      by_cases hw : (wn ns[j] : Int) ≤ L
      · rw [szR_yes hw] at hcl
        have HCL := (show Hid (Calls Try.prog 62 #[.agg #[.string y0, .string y1, .bool y2, .slice a3 l3 p3], .int .i64 L] wr fun e w' => e = .returned (.int .i64 (L - (wn ns[j] : Nat))) ∧ Below wr.heap.size wr w') from hcl)
        clear hcl
        have hd2 : decide (L - (wn ns[j] : Int) < 0) = false := by simp; omega
        have HN := (show Hid (L - (wn ns[j] : Int) = left - ns.length - wns (ns.take (j + 1))) from (by
          show _ = _
          rw [HT.out.1, HL.out]
          omega))
        generalize hL2 : L - (wn ns[j] : Int) = L2 at *
        have g0 : 0 ≤ L2 := by omega
        have g1 : L2 ≤ 1048576 := by omega
        clear hL2 hw
        go_wp2_with fail
        refine Calls.mono HCL.out ?_
        rintro e w3 ⟨rfl, hb3⟩
        have HB3 := (show Hid _ from bel_trans HB.out hb3); clear hb3 c0 c1 c2 c3 HCL HB
        go_wp2_with fail
        exact ⟨⟨j + 1, L2, by omega, by go_num, rfl, g0, g1, HN, HB3⟩, by simp [intOf]; omega⟩
      · rw [szR_no (by omega)] at hcl
        have HCL := (show Hid (Calls Try.prog 62 #[.agg #[.string y0, .string y1, .bool y2, .slice a3 l3 p3], .int .i64 L] wr fun e w' => e = .returned (.int .i64 (-1)) ∧ Below wr.heap.size wr w') from hcl)
        clear hcl
        have HF := (show Hid (R = -1) from (by
          show R = -1
          rw [← HRes.out, szR_no]
          have q1 := HT.out.1
          have q2 := HT.out.2
          have q3 := HL.out
          omega))
        go_wp2_with fail
        refine Calls.mono HCL.out ?_
        rintro e w3 ⟨rfl, hb3⟩
        have HB3 := (show Hid _ from bel_trans HB.out hb3); clear hb3 c0 c1 c2 c3 HCL HB
        go_wp2_with fail
        go_ret
        exact ⟨by rw [HF.out]; rfl, HB3.out⟩
    · obtain rfl : j = ns.length := by omega
      have HF := (show Hid (R = L) from (by
        show R = L
        have q3 := HL.out
        rw [List.take_length] at q3
        rw [← HRes.out, szR_yes (by omega)]
        omega))
      go_wp2_with fail
      go_ret
      exact ⟨by rw [HF.out]; rfl, HB.out⟩
set_option maxHeartbeats 1600000 in
theorem szDag20 {S S' : Nat → Prop} (ns : List Rd) (rs : List Int) (u r : Value) (w : World) (h : Rds w S ns u) (h' : Ints w S' rs r) :
    Calls Try.prog 20 #[.agg #[u, r], .int .i64 1048576] w fun e w' => e = .returned (.int .i64 (szR (ns.length + wns ns + rs.length) 1048576)) ∧ Below w.heap.size w w' := by
  have hb := bel_alloc w (.cells #[u, r] 47)
  have HB := (show Hid (Below w.heap.size w (w.alloc (.cells #[u, r] 47)) ∧ Box (w.alloc (.cells #[u, r] 47)) w.heap.size 47 [u, r]) from ⟨hb, Box.new _ _ _⟩)
  have HC1 : Hid (Calls Try.prog 44 #[u, .int .i64 1048576] (w.alloc (.cells #[u, r] 47)) fun e w' => e = .returned (.int .i64 (szR (ns.length + wns ns) 1048576)) ∧ Below (w.alloc (.cells #[u, r] 47)).heap.size (w.alloc (.cells #[u, r] 47)) w') := szNodes44 ns u _ 1048576 (h.still hb) (by omega) (Int.le_refl _)
  have HC2 : Hid (∀ (wq : World) (left : Int), Below w.heap.size w wq → 0 ≤ left → left ≤ 1048576 → Calls Try.prog 45 #[r, .int .i64 left] wq fun e w' => e = .returned (.int .i64 (szR rs.length left)) ∧ Below wq.heap.size wq w') := fun wq left g g0 g1 => szInts45 rs r wq left (h'.still g) g0 g1
  obtain ⟨a, cap, rfl, _⟩ := h.form
  obtain ⟨a2, l2, p2, rfl⟩ := h'.form
  clear h h' hb
  by_cases e1 : ((ns.length + wns ns : Nat) : Int) ≤ 1048576
  · rw [szR_yes e1] at HC1
    generalize hL : (1048576 : Int) - ((ns.length + wns ns : Nat) : Int) = L at *
    have d1 : decide (L < 0) = false := by simp; omega
    have g0 : 0 ≤ L := by omega
    have g1 : L ≤ 1048576 := by omega
    by_cases e2 : (rs.length : Int) ≤ L
    · have HR := (show Hid (szR (ns.length + wns ns + rs.length) 1048576 = L - (rs.length : Int)) from (by
        show szR _ _ = _
        rw [szR_yes (by omega)]
        omega))
      generalize hM : L - (rs.length : Int) = M at *
      have d2 : decide (M < 0) = false := by simp; omega
      go_enter Try.func20, Try.ntmps20
      go_wp2_with fail
      refine Calls.mono HC1.out ?_
      rintro e w1 ⟨rfl, hb1⟩
      have x1 := HB.out.2.still hb1
      have T1 : w1.cell? ⟨w.heap.size, 1, none⟩ = some (.slice a2 l2 p2) := x1.cell 1 (by simp)
      have HB1 := (show Hid _ from bel_trans HB.out.1 hb1)
      have C2 : Hid (Calls Try.prog 45 #[.slice a2 l2 p2, .int .i64 L] w1 fun e w' => e = .returned (.int .i64 M) ∧ Below w1.heap.size w1 w') := by
        have := HC2.out w1 L HB1.out g0 g1
        rw [szR_yes e2, hM] at this
        exact this
      clear x1 hb1 HC1 hL hM e1 e2
      go_wp2_with fail
      refine Calls.mono C2.out ?_
      rintro e w2 ⟨rfl, hb2⟩
      have HE := (show Hid _ from bel_trans HB1.out hb2); clear hb2
      go_wp2_with fail
      go_ret
      exact ⟨by rw [HR.out]; rfl, HE.out⟩
    · have HR := (show Hid (szR (ns.length + wns ns + rs.length) 1048576 = -1) from (by
        show szR _ _ = _
        rw [szR_no (by omega)]))
      go_enter Try.func20, Try.ntmps20
      go_wp2_with fail
      refine Calls.mono HC1.out ?_
      rintro e w1 ⟨rfl, hb1⟩
      have x1 := HB.out.2.still hb1
      have T1 : w1.cell? ⟨w.heap.size, 1, none⟩ = some (.slice a2 l2 p2) := x1.cell 1 (by simp)
      have HB1 := (show Hid _ from bel_trans HB.out.1 hb1)
      have C2 : Hid (Calls Try.prog 45 #[.slice a2 l2 p2, .int .i64 L] w1 fun e w' => e = .returned (.int .i64 (-1)) ∧ Below w1.heap.size w1 w') := by
        have := HC2.out w1 L HB1.out g0 g1
        rw [szR_no (by omega)] at this
        exact this
      clear x1 hb1 HC1 hL e1 e2
      go_wp2_with fail
      refine Calls.mono C2.out ?_
      rintro e w2 ⟨rfl, hb2⟩
      have HE := (show Hid _ from bel_trans HB1.out hb2); clear hb2
      go_wp2_with fail
      go_ret
      exact ⟨by rw [HR.out]; rfl, HE.out⟩
  · rw [szR_no (by omega)] at HC1
    have HR := (show Hid (szR (ns.length + wns ns + rs.length) 1048576 = -1) from (by
      show szR _ _ = _
      rw [szR_no (by omega)]))
    go_enter Try.func20, Try.ntmps20
    go_wp2_with fail
    refine Calls.mono HC1.out ?_
    rintro e w1 ⟨rfl, hb1⟩
    have HE := (show Hid _ from bel_trans HB.out.1 hb1); clear hb1
    go_wp2_with fail
    go_ret
    exact ⟨by rw [HR.out]; rfl, HE.out⟩
end Go.Proofs.Ytckpoggljpdeoaa
