import Derived.Test.YtblfeifedcddnaaRb
/-! A Dag that is given: its size, its copy. -/
namespace Go.Proofs.Ytblfeifedcddnaa
open Go.RowKit Go.Deep
set_option linter.unusedVariables false
set_option maxRecDepth 100000
set_option linter.unusedSimpArgs false

/-- Nodes that lie behind a slice, all in blocks of S. -/
def Rds (w : World) (S : Nat → Prop) (ns : List Rd) (v : Value) : Prop :=
  ∃ (a : Option Addr) (cap b off : Nat) (sv : Nat → Value), v = .slice a ns.length cap ∧ ns.length ≤ cap ∧ cap ≤ maxLen ∧ (0 < ns.length → a = some ⟨b, off, none⟩ ∧ S b) ∧
    (∀ i (hi : i < ns.length), w.cell? ⟨b, off + i * 4, none⟩ = some (.string ns[i].nm) ∧ w.cell? ⟨b, off + i * 4 + 1, none⟩ = some (.string ns[i].tx) ∧ w.cell? ⟨b, off + i * 4 + 2, none⟩ = some (.bool ns[i].lf) ∧ w.cell? ⟨b, off + i * 4 + 3, none⟩ = some (sv i)) ∧
    (∀ i (hi : i < ns.length), ns[i].nm.size ≤ maxLen ∧ ns[i].tx.size ≤ maxLen) ∧ ∀ i (hi : i < ns.length), Ints w S ns[i].ks (sv i)
theorem Rds.still {w w' : World} {S : Nat → Prop} {ns : List Rd} {v : Value} (h : Rds w S ns v) (hb : Below w.heap.size w w') : Rds w' S ns v := by
  obtain ⟨a, cap, b, off, sv, hv, hc, hm, ha, hcell, hz, hr⟩ := h
  refine ⟨a, cap, b, off, sv, hv, hc, hm, ha, fun i hi => ?_, hz, fun i hi => (hr i hi).still hb⟩
  obtain ⟨c0, c1, c2, c3⟩ := hcell i hi
  exact ⟨(hb.cell (lt_of_cell c0)).trans c0, (hb.cell (lt_of_cell c1)).trans c1, (hb.cell (lt_of_cell c2)).trans c2, (hb.cell (lt_of_cell c3)).trans c3⟩
theorem Rds.form {w : World} {S : Nat → Prop} {ns : List Rd} {v : Value} (h : Rds w S ns v) : ∃ a cap, v = .slice a ns.length cap ∧ ns.length ≤ maxLen := by
  obtain ⟨a, cap, b, off, sv, hv, hc, hm, _⟩ := h
  exact ⟨_, _, hv, by omega⟩
/-- How much a node holds. -/
def wn (n : Rd) : Nat := n.nm.size + n.tx.size + n.ks.length
def wns (ns : List Rd) : Nat := (ns.map wn).sum
theorem wns_succ {ns : List Rd} {i : Nat} (h : i < ns.length) : wns (ns.take (i + 1)) = wns (ns.take i) + wn ns[i] := by
  unfold wns
  rw [List.take_succ_eq_append_getElem h, List.map_append, List.sum_append]
  simp only [List.map_cons, List.map_nil, List.sum_cons, List.sum_nil, Nat.add_zero]
theorem wns_le (ns : List Rd) (i : Nat) : wns (ns.take i) ≤ wns ns := by
  have h : wns ns = wns (ns.take i) + wns (ns.drop i) := by
    unfold wns
    rw [← List.sum_append, ← List.map_append, List.take_append_drop]
  omega
theorem szInts45 {S : Nat → Prop} (l : List Int) (v : Value) (w : World) (left : Int) (h : Ints w S l v) (h0 : 0 ≤ left) (h1 : left ≤ 1048576) :
    Calls Try.prog 57 #[v, .int .i64 left] w fun e w' => e = .returned (.int .i64 (szR l.length left)) ∧ Below w.heap.size w w' := by
  obtain ⟨a, cap, b, off, rfl, hc, hm, _⟩ := h
  unfold maxLen at hm
  by_cases hl : (l.length : Int) ≤ left
  · rw [szR_yes hl]
    have hd : decide (left - (l.length : Int) < 0) = false := by simp; omega
    have hw : IntKind.i64.wrap (left - (l.length : Int)) = left - (l.length : Int) := by rw [IntKind.wrap_i64]; omega
    go_enter Try.func57, Try.ntmps57
    go_wp2_with fail
    go_ret
    exact ⟨rfl, Below.refl _ _⟩
  · rw [szR_no (by omega)]
    have hd : decide (left - (l.length : Int) < 0) = true := by simp; omega
    have hw : IntKind.i64.wrap (left - (l.length : Int)) = left - (l.length : Int) := by rw [IntKind.wrap_i64]; omega
    go_enter Try.func57, Try.ntmps57
    go_wp2_with fail
    go_ret
    exact ⟨rfl, Below.refl _ _⟩
set_option maxHeartbeats 1600000 in
theorem szNode62 {S : Nat → Prop} (n : Rd) (v : Value) (w : World) (left : Int) (h : Ints w S n.ks v) (hz : n.nm.size ≤ maxLen ∧ n.tx.size ≤ maxLen) (h0 : 0 ≤ left) (h1 : left ≤ 1048576) :
    Calls Try.prog 91 #[.agg #[.string n.nm, .string n.tx, .bool n.lf, v], .int .i64 left] w fun e w' => e = .returned (.int .i64 (szR (wn n) left)) ∧ Below w.heap.size w w' := by
  have hb := bel_alloc w (.cells #[.string n.nm, .string n.tx, .bool n.lf, v] 142)
  have HB := (show Hid _ from hb)
  have HC : Hid (∀ left' : Int, 0 ≤ left' → left' ≤ 1048576 → Calls Try.prog 57 #[v, .int .i64 left'] (w.alloc (.cells #[.string n.nm, .string n.tx, .bool n.lf, v] 142)) fun e w' => e = .returned (.int .i64 (szR n.ks.length left')) ∧ Below (w.alloc (.cells #[.string n.nm, .string n.tx, .bool n.lf, v] 142)).heap.size (w.alloc (.cells #[.string n.nm, .string n.tx, .bool n.lf, v] 142)) w') := fun left' g0 g1 => szInts45 n.ks v _ left' (h.still hb) g0 g1
  obtain ⟨a, l, p, rfl⟩ := h.form
  obtain ⟨nm, tx, lf, ks⟩ := n
  dsimp only at *
  unfold maxLen at hz
  obtain ⟨hz1, hz2⟩ := hz
  clear h hb
  have HW := (show Hid (wn ⟨nm, tx, lf, ks⟩ = nm.size + tx.size + ks.length) from rfl)
  have w1 : IntKind.i64.wrap (left - (nm.size : Int)) = left - (nm.size : Int) := by rw [IntKind.wrap_i64]; omega
  by_cases e1 : (nm.size : Int) ≤ left
  · have d1 : decide (left - (nm.size : Int) < 0) = false := by simp; omega
    have w2 : IntKind.i64.wrap (left - (nm.size : Int) - (tx.size : Int)) = left - (nm.size : Int) - (tx.size : Int) := by rw [IntKind.wrap_i64]; omega
    by_cases e2 : (tx.size : Int) ≤ left - (nm.size : Int)
    · have d2 : decide (left - (nm.size : Int) - (tx.size : Int) < 0) = false := by simp; omega
      have C1 := (show Hid (Calls Try.prog 57 #[.slice a l p, .int .i64 (left - (nm.size : Int) - (tx.size : Int))] (w.alloc (.cells #[.string nm, .string tx, .bool lf, .slice a l p] 142)) fun e w' => e = .returned (.int .i64 (szR ks.length (left - (nm.size : Int) - (tx.size : Int)))) ∧ Below (w.alloc (.cells #[.string nm, .string tx, .bool lf, .slice a l p] 142)).heap.size (w.alloc (.cells #[.string nm, .string tx, .bool lf, .slice a l p] 142)) w') from HC.out _ (by omega) (by omega))
      by_cases e3 : (ks.length : Int) ≤ left - (nm.size : Int) - (tx.size : Int)
      · rw [szR_yes e3] at C1
        have HR := (show Hid (szR (wn ⟨nm, tx, lf, ks⟩) left = left - (nm.size : Int) - (tx.size : Int) - (ks.length : Int)) from (by
          show szR _ _ = _
          rw [HW.out, szR_yes (by omega)]
          omega))
        generalize hL : left - (nm.size : Int) - (tx.size : Int) - (ks.length : Int) = L at *
        have d3 : decide (L < 0) = false := by simp; omega
        clear HC HW
        go_enter Try.func91, Try.ntmps91
        go_wp2_with fail
        refine Calls.mono C1.out ?_
        rintro e w3 ⟨rfl, hb3⟩
        have HE := (show Hid _ from bel_trans HB.out hb3); clear hb3
        clear hL
        go_wp2_with fail
        go_ret
        exact ⟨by rw [HR.out]; rfl, HE.out⟩
      · rw [szR_no (by omega)] at C1
        have HR := (show Hid (szR (wn ⟨nm, tx, lf, ks⟩) left = -1) from (by
          show szR _ _ = _
          rw [HW.out, szR_no (by omega)]))
        clear HC HW
        go_enter Try.func91, Try.ntmps91
        go_wp2_with fail
        refine Calls.mono C1.out ?_
        rintro e w3 ⟨rfl, hb3⟩
        have HE := (show Hid _ from bel_trans HB.out hb3); clear hb3
        go_wp2_with fail
        go_ret
        exact ⟨by rw [HR.out]; rfl, HE.out⟩
    · have d2 : decide (left - (nm.size : Int) - (tx.size : Int) < 0) = true := by simp; omega
      have HR := (show Hid (szR (wn ⟨nm, tx, lf, ks⟩) left = -1) from (by
        show szR _ _ = _
        rw [HW.out, szR_no (by omega)]))
      clear HC HW
      go_enter Try.func91, Try.ntmps91
      go_wp2_with fail
      go_ret
      exact ⟨by rw [HR.out]; rfl, HB.out⟩
  · have d1 : decide (left - (nm.size : Int) < 0) = true := by simp; omega
    have HR := (show Hid (szR (wn ⟨nm, tx, lf, ks⟩) left = -1) from (by
      show szR _ _ = _
      rw [HW.out, szR_no (by omega)]))
    clear HC HW
    go_enter Try.func91, Try.ntmps91
    go_wp2_with fail
    go_ret
    exact ⟨by rw [HR.out]; rfl, HB.out⟩
end Go.Proofs.Ytblfeifedcddnaa

/-! A Dag that is given: its size whole. -/
namespace Go.Proofs.Ytblfeifedcddnaa
open Go.RowKit Go.Deep
set_option linter.unusedVariables false
set_option maxRecDepth 100000
set_option linter.unusedSimpArgs false

set_option maxHeartbeats 3200000 in
theorem szNodes44 {S : Nat → Prop} (ns : List Rd) (v : Value) (w : World) (left : Int) (h : Rds w S ns v) (h0 : 0 ≤ left) (h1 : left ≤ 1048576) :
    Calls Try.prog 56 #[v, .int .i64 left] w fun e w' => e = .returned (.int .i64 (szR (ns.length + wns ns) left)) ∧ Below w.heap.size w w' := by
  obtain ⟨a, cap, b, off, sv, rfl, hc, hm, ha, hcell, hz, hr⟩ := h
  have HC := (show Hid _ from hcell); clear hcell
  have HA := (show Hid _ from ha); clear ha
  have HZ := (show Hid _ from hz); clear hz
  have HR := (show Hid _ from hr); clear hr
  unfold maxLen at hm
  have w1 : IntKind.i64.wrap (left - (ns.length : Int)) = left - (ns.length : Int) := by rw [IntKind.wrap_i64]; omega
  by_cases hl : (ns.length : Int) ≤ left
  case neg =>
    rw [szR_no (by omega)]
    have hd : decide (left - (ns.length : Int) < 0) = true := by simp; omega
    go_enter Try.func56, Try.ntmps56
    go_wp2_with fail
    go_ret
    exact ⟨rfl, Below.refl _ _⟩
  have hd : decide (left - (ns.length : Int) < 0) = false := by simp; omega
  generalize hRes : szR (ns.length + wns ns) left = R
  have HRes := (show Hid _ from hRes); clear hRes
  go_enter Try.func56, Try.ntmps56
  go_wp2_with fail
  go_loopw [1, 5] (fun l i wr => ∃ (j : Nat) (L : Int), j ≤ ns.length ∧ i = .int .i64 j ∧ l = .int .i64 L ∧ 0 ≤ L ∧ L ≤ 1048576 ∧ Hid (L = left - ns.length - wns (ns.take j)) ∧ Hid (Below w.heap.size w wr)) (fun _ i _ => ns.length - (intOf i).toNat)
  case atStart => exact ⟨0, left - ns.length, Nat.zero_le _, rfl, rfl, by omega, by omega, by show _ = _; simp [wns], Below.refl _ _⟩
  case round =>
    obtain ⟨j, L, hj, rfl, rfl, hL0, hL1, HL, HB⟩ := hrel
    by_cases hlt : j < ns.length
    · obtain ⟨rfl, _⟩ := HA.out (by omega)
      obtain ⟨c0, c1, c2, c3⟩ := HC.out j hlt
      rw [← HB.out.cell (lt_of_cell c0)] at c0
      rw [← HB.out.cell (lt_of_cell c1)] at c1
      rw [← HB.out.cell (lt_of_cell c2)] at c2
      rw [← HB.out.cell (lt_of_cell c3)] at c3
      have hi := (HR.out j hlt).still HB.out
      have hcl := szNode62 ns[j] (sv j) wr L hi (HZ.out j hlt) hL0 hL1
      obtain ⟨a3, l3, p3, e3⟩ := hi.form
      rw [e3] at c3 hcl
      have hts := wns_succ hlt
      have hle := wns_le ns (j + 1)
      have HT := (show Hid _ from (⟨hts, hle⟩ : _ ∧ _)); clear hts hle hi e3
      generalize ns[j].nm = y0 at *
      generalize ns[j].tx = y1 at *
      generalize ns[j].lf = y2 at *
      by_cases hw : (wn ns[j] : Int) ≤ L
      · rw [szR_yes hw] at hcl
        have HCL := (show Hid (Calls Try.prog 91 #[.agg #[.string y0, .string y1, .bool y2, .slice a3 l3 p3], .int .i64 L] wr fun e w' => e = .returned (.int .i64 (L - (wn ns[j] : Nat))) ∧ Below wr.heap.size wr w') from hcl)
        clear hcl
        have hd2 : decide (L - (wn ns[j] : Int) < 0) = false := by simp; omega
        have HN := (show Hid (L - (wn ns[j] : Int) = left - ns.length - wns (ns.take (j + 1))) from (by
          show _ = _
          rw [HT.out.1, HL.out]
          omega))
        generalize hL2 : L - (wn ns[j] : Int) = L2 at *
        have g0 : 0 ≤ L2 := by omega
        have g1 : L2 ≤ 1048576 := by omega
        clear hL2 hw
        go_wp2_with fail
        refine Calls.mono HCL.out ?_
        rintro e w3 ⟨rfl, hb3⟩
        have HB3 := (show Hid _ from bel_trans HB.out hb3); clear hb3 c0 c1 c2 c3 HCL HB
        go_wp2_with fail
        exact ⟨⟨j + 1, L2, by omega, by go_num, rfl, g0, g1, HN, HB3⟩, by simp [intOf]; omega⟩
      · rw [szR_no (by omega)] at hcl
        have HCL := (show Hid (Calls Try.prog 91 #[.agg #[.string y0, .string y1, .bool y2, .slice a3 l3 p3], .int .i64 L] wr fun e w' => e = .returned (.int .i64 (-1)) ∧ Below wr.heap.size wr w') from hcl)
        clear hcl
        have HF := (show Hid (R = -1) from (by
          show R = -1
          rw [← HRes.out, szR_no]
          have q1 := HT.out.1
          have q2 := HT.out.2
          have q3 := HL.out
          omega))
        go_wp2_with fail
        refine Calls.mono HCL.out ?_
        rintro e w3 ⟨rfl, hb3⟩
        have HB3 := (show Hid _ from bel_trans HB.out hb3); clear hb3 c0 c1 c2 c3 HCL HB
        go_wp2_with fail
        go_ret
        exact ⟨by rw [HF.out]; rfl, HB3.out⟩
    · obtain rfl : j = ns.length := by omega
      have HF := (show Hid (R = L) from (by
        show R = L
        have q3 := HL.out
        rw [List.take_length] at q3
        rw [← HRes.out, szR_yes (by omega)]
        omega))
      go_wp2_with fail
      go_ret
      exact ⟨by rw [HF.out]; rfl, HB.out⟩
set_option maxHeartbeats 1600000 in
theorem szDag20 {S S' : Nat → Prop} (ns : List Rd) (rs : List Int) (u r : Value) (w : World) (h : Rds w S ns u) (h' : Ints w S' rs r) :
    Calls Try.prog 18 #[.agg #[u, r], .int .i64 1048576] w fun e w' => e = .returned (.int .i64 (szR (ns.length + wns ns + rs.length) 1048576)) ∧ Below w.heap.size w w' := by
  have hb := bel_alloc w (.cells #[u, r] 39)
  have HB := (show Hid (Below w.heap.size w (w.alloc (.cells #[u, r] 39)) ∧ Box (w.alloc (.cells #[u, r] 39)) w.heap.size 39 [u, r]) from ⟨hb, Box.new _ _ _⟩)
  have HC1 : Hid (Calls Try.prog 56 #[u, .int .i64 1048576] (w.alloc (.cells #[u, r] 39)) fun e w' => e = .returned (.int .i64 (szR (ns.length + wns ns) 1048576)) ∧ Below (w.alloc (.cells #[u, r] 39)).heap.size (w.alloc (.cells #[u, r] 39)) w') := szNodes44 ns u _ 1048576 (h.still hb) (by omega) (Int.le_refl _)
  have HC2 : Hid (∀ (wq : World) (left : Int), Below w.heap.size w wq → 0 ≤ left → left ≤ 1048576 → Calls Try.prog 57 #[r, .int .i64 left] wq fun e w' => e = .returned (.int .i64 (szR rs.length left)) ∧ Below wq.heap.size wq w') := fun wq left g g0 g1 => szInts45 rs r wq left (h'.still g) g0 g1
  obtain ⟨a, cap, rfl, _⟩ := h.form
  obtain ⟨a2, l2, p2, rfl⟩ := h'.form
  clear h h' hb
  by_cases e1 : ((ns.length + wns ns : Nat) : Int) ≤ 1048576
  · rw [szR_yes e1] at HC1
    generalize hL : (1048576 : Int) - ((ns.length + wns ns : Nat) : Int) = L at *
    have d1 : decide (L < 0) = false := by simp; omega
    have g0 : 0 ≤ L := by omega
    have g1 : L ≤ 1048576 := by omega
    by_cases e2 : (rs.length : Int) ≤ L
    · have HR := (show Hid (szR (ns.length + wns ns + rs.length) 1048576 = L - (rs.length : Int)) from (by
        show szR _ _ = _
        rw [szR_yes (by omega)]
        omega))
      generalize hM : L - (rs.length : Int) = M at *
      have d2 : decide (M < 0) = false := by simp; omega
      go_enter Try.func18, Try.ntmps18
      go_wp2_with fail
      refine Calls.mono HC1.out ?_
      rintro e w1 ⟨rfl, hb1⟩
      have x1 := HB.out.2.still hb1
      have T1 : w1.cell? ⟨w.heap.size, 1, none⟩ = some (.slice a2 l2 p2) := x1.cell 1 (by simp)
      have HB1 := (show Hid _ from bel_trans HB.out.1 hb1)
      have C2 : Hid (Calls Try.prog 57 #[.slice a2 l2 p2, .int .i64 L] w1 fun e w' => e = .returned (.int .i64 M) ∧ Below w1.heap.size w1 w') := by
        have := HC2.out w1 L HB1.out g0 g1
        rw [szR_yes e2, hM] at this
        exact this
      clear x1 hb1 HC1 hL hM e1 e2
      go_wp2_with fail
      refine Calls.mono C2.out ?_
      rintro e w2 ⟨rfl, hb2⟩
      have HE := (show Hid _ from bel_trans HB1.out hb2); clear hb2
      go_wp2_with fail
      go_ret
      exact ⟨by rw [HR.out]; rfl, HE.out⟩
    · have HR := (show Hid (szR (ns.length + wns ns + rs.length) 1048576 = -1) from (by
        show szR _ _ = _
        rw [szR_no (by omega)]))
      go_enter Try.func18, Try.ntmps18
      go_wp2_with fail
      refine Calls.mono HC1.out ?_
      rintro e w1 ⟨rfl, hb1⟩
      have x1 := HB.out.2.still hb1
      have T1 : w1.cell? ⟨w.heap.size, 1, none⟩ = some (.slice a2 l2 p2) := x1.cell 1 (by simp)
      have HB1 := (show Hid _ from bel_trans HB.out.1 hb1)
      have C2 : Hid (Calls Try.prog 57 #[.slice a2 l2 p2, .int .i64 L] w1 fun e w' => e = .returned (.int .i64 (-1)) ∧ Below w1.heap.size w1 w') := by
        have := HC2.out w1 L HB1.out g0 g1
        rw [szR_no (by omega)] at this
        exact this
      clear x1 hb1 HC1 hL e1 e2
      go_wp2_with fail
      refine Calls.mono C2.out ?_
      rintro e w2 ⟨rfl, hb2⟩
      have HE := (show Hid _ from bel_trans HB1.out hb2); clear hb2
      go_wp2_with fail
      go_ret
      exact ⟨by rw [HR.out]; rfl, HE.out⟩
  · rw [szR_no (by omega)] at HC1
    have HR := (show Hid (szR (ns.length + wns ns + rs.length) 1048576 = -1) from (by
      show szR _ _ = _
      rw [szR_no (by omega)]))
    go_enter Try.func18, Try.ntmps18
    go_wp2_with fail
    refine Calls.mono HC1.out ?_
    rintro e w1 ⟨rfl, hb1⟩
    have HE := (show Hid _ from bel_trans HB.out.1 hb1); clear hb1
    go_wp2_with fail
    go_ret
    exact ⟨by rw [HR.out]; rfl, HE.out⟩
end Go.Proofs.Ytblfeifedcddnaa
