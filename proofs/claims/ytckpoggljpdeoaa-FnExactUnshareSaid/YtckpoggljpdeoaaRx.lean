import Derived.Test.YtckpoggljpdeoaaRb
/-! A Dag that is given: its size, its copy. -/
namespace Go.Proofs.Ytckpoggljpdeoaa
open Go.RowKit Go.Deep
set_option linter.unusedVariables false
set_option maxRecDepth 100000
set_option linter.unusedSimpArgs false

/-- Nodes that lie behind a slice, all in blocks of S. -/
def Rds (w : World) (S : Nat → Prop) (ns : List Rd) (v : Value) : Prop :=
  ∃ (a : Option Addr) (cap b off : Nat) (sv : Nat → Value), v = .slice a ns.length cap ∧ ns.length ≤ cap ∧ cap ≤ maxLen ∧ (0 < ns.length → a = some ⟨b, off, none⟩ ∧ S b) ∧
    (∀ i (hi : i < ns.length), w.cell? ⟨b, off + i * 4, none⟩ = some (.string ns[i].nm) ∧ w.cell? ⟨b, off + i * 4 + 1, none⟩ = some (.string ns[i].tx) ∧ w.cell? ⟨b, off + i * 4 + 2, none⟩ = some (.bool ns[i].lf) ∧ w.cell? ⟨b, off + i * 4 + 3, none⟩ = some (sv i)) ∧
    (∀ i (hi : i < ns.length), ns[i].nm.size ≤ maxLen ∧ ns[i].tx.size ≤ maxLen) ∧ ∀ i (hi : i < ns.length), Ints w S ns[i].ks (sv i)
theorem Rds.still {w w' : World} {S : Nat → Prop} {ns : List Rd} {v : Value} (h : Rds w S ns v) (hb : Below w.heap.size w w') : Rds w' S ns v := by
  obtain ⟨a, cap, b, off, sv, hv, hc, hm, ha, hcell, hz, hr⟩ := h
  refine ⟨a, cap, b, off, sv, hv, hc, hm, ha, fun i hi => ?_, hz, fun i hi => (hr i hi).still hb⟩
  obtain ⟨c0, c1, c2, c3⟩ := hcell i hi
  exact ⟨(hb.cell (lt_of_cell c0)).trans c0, (hb.cell (lt_of_cell c1)).trans c1, (hb.cell (lt_of_cell c2)).trans c2, (hb.cell (lt_of_cell c3)).trans c3⟩
theorem Rds.form {w : World} {S : Nat → Prop} {ns : List Rd} {v : Value} (h : Rds w S ns v) : ∃ a cap, v = .slice a ns.length cap ∧ ns.length ≤ maxLen := by
  obtain ⟨a, cap, b, off, sv, hv, hc, hm, _⟩ := h
  exact ⟨_, _, hv, by omega⟩
/-- How much a node holds. -/
def wn (n : Rd) : Nat := n.nm.size + n.tx.size + n.ks.length
def wns (ns : List Rd) : Nat := (ns.map wn).sum
theorem wns_succ {ns : List Rd} {i : Nat} (h : i < ns.length) : wns (ns.take (i + 1)) = wns (ns.take i) + wn ns[i] := by
  unfold wns
  rw [List.take_succ_eq_append_getElem h, List.map_append, List.sum_append]
  simp only [List.map_cons, List.map_nil, List.sum_cons, List.sum_nil, Nat.add_zero]
theorem wns_le (ns : List Rd) (i : Nat) : wns (ns.take i) ≤ wns ns := by
  have h : wns ns = wns (ns.take i) + wns (ns.drop i) := by
    unfold wns
    rw [← List.sum_append, ← List.map_append, List.take_append_drop]
  omega
theorem szInts45 {S : Nat → Prop} (l : List Int) (v : Value) (w : World) (left : Int) (h : Ints w S l v) (h0 : 0 ≤ left) (h1 : left ≤ 1048576) :
    Calls Try.prog 45 #[v, .int .i64 left] w fun e w' => e = .returned (.int .i64 (szR l.length left)) ∧ Below w.heap.size w w' := by
  obtain ⟨a, cap, b, off, rfl, hc, hm, _⟩ := h
  unfold maxLen at hm
  by_cases hl : (l.length : Int) ≤ left
  · rw [szR_yes hl]
    have hd : decide (left - (l.length : Int) < 0) = false := by simp; omega
    have hw : IntKind.i64.wrap (left - (l.length : Int)) = left - (l.length : Int) := by rw [IntKind.wrap_i64]; omega
    go_enter Try.func45, Try.ntmps45
    go_wp2_with fail
    go_ret
    exact ⟨rfl, Below.refl _ _⟩
  · rw [szR_no (by omega)]
    have hd : decide (left - (l.length : Int) < 0) = true := by simp; omega
    have hw : IntKind.i64.wrap (left - (l.length : Int)) = left - (l.length : Int) := by rw [IntKind.wrap_i64]; omega
    go_enter Try.func45, Try.ntmps45
    go_wp2_with fail
    go_ret
    exact ⟨rfl, Below.refl _ _⟩
set_option maxHeartbeats 1600000 in
theorem szNode62 {S : Nat → Prop} (n : Rd) (v : Value) (w : World) (left : Int) (h : Ints w S n.ks v) (hz : n.nm.size ≤ maxLen ∧ n.tx.size ≤ maxLen) (h0 : 0 ≤ left) (h1 : left ≤ 1048576) :
    Calls Try.prog 62 #[.agg #[.string n.nm, .string n.tx, .bool n.lf, v], .int .i64 left] w fun e w' => e = .returned (.int .i64 (szR (wn n) left)) ∧ Below w.heap.size w w' := by
  have hb := bel_alloc w (.cells #[.string n.nm, .string n.tx, .bool n.lf, v] 107)
  have HB := (show Hid _ from hb)
  have HC : Hid (∀ left' : Int, 0 ≤ left' → left' ≤ 1048576 → Calls Try.prog 45 #[v, .int .i64 left'] (w.alloc (.cells #[.string n.nm, .string n.tx, .bool n.lf, v] 107)) fun e w' => e = .returned (.int .i64 (szR n.ks.length left')) ∧ Below (w.alloc (.cells #[.string n.nm, .string n.tx, .bool n.lf, v] 107)).heap.size (w.alloc (.cells #[.string n.nm, .string n.tx, .bool n.lf, v] 107)) w') := fun left' g0 g1 => szInts45 n.ks v _ left' (h.still hb) g0 g1
  obtain ⟨a, l, p, rfl⟩ := h.form
  obtain ⟨nm, tx, lf, ks⟩ := n
  dsimp only at *
  unfold maxLen at hz
  obtain ⟨hz1, hz2⟩ := hz
  clear h hb
  have HW := (show Hid (wn ⟨nm, tx, lf, ks⟩ = nm.size + tx.size + ks.length) from rfl)
  have w1 : IntKind.i64.wrap (left - (nm.size : Int)) = left - (nm.size : Int) := by rw [IntKind.wrap_i64]; omega
  by_cases e1 : (nm.size : Int) ≤ left
  · have d1 : decide (left - (nm.size : Int) < 0) = false := by simp; omega
    have w2 : IntKind.i64.wrap (left - (nm.size : Int) - (tx.size : Int)) = left - (nm.size : Int) - (tx.size : Int) := by rw [IntKind.wrap_i64]; omega
    by_cases e2 : (tx.size : Int) ≤ left - (nm.size : Int)
    · have d2 : decide (left - (nm.size : Int) - (tx.size : Int) < 0) = false := by simp; omega
      have C1 := (show Hid (Calls Try.prog 45 #[.slice a l p, .int .i64 (left - (nm.size : Int) - (tx.size : Int))] (w.alloc (.cells #[.string nm, .string tx, .bool lf, .slice a l p] 107)) fun e w' => e = .returned (.int .i64 (szR ks.length (left - (nm.size : Int) - (tx.size : Int)))) ∧ Below (w.alloc (.cells #[.string nm, .string tx, .bool lf, .slice a l p] 107)).heap.size (w.alloc (.cells #[.string nm, .string tx, .bool lf, .slice a l p] 107)) w') from HC.out _ (by omega) (by omega))
      by_cases e3 : (ks.length : Int) ≤ left - (nm.size : Int) - (tx.size : Int)
      · rw [szR_yes e3] at C1
        have HR := (show Hid (szR (wn ⟨nm, tx, lf, ks⟩) left = left - (nm.size : Int) - (tx.size : Int) - (ks.length : Int)) from (by
          show szR _ _ = _
          rw [HW.out, szR_yes (by omega)]
          omega))
        generalize hL : left - (nm.size : Int) - (tx.size : Int) - (ks.length : Int) = L at *
        have d3 : decide (L < 0) = false := by simp; omega
        clear HC HW
        go_enter Try.func62, Try.ntmps62
        go_wp2_with fail
        refine Calls.mono C1.out ?_
        rintro e w3 ⟨rfl, hb3⟩
        have HE := (show Hid _ from bel_trans HB.out hb3); clear hb3
        clear hL
        go_wp2_with fail
        go_ret
        exact ⟨by rw [HR.out]; rfl, HE.out⟩
      · rw [szR_no (by omega)] at C1
        have HR := (show Hid (szR (wn ⟨nm, tx, lf, ks⟩) left = -1) from (by
          show szR _ _ = _
          rw [HW.out, szR_no (by omega)]))
        clear HC HW
        go_enter Try.func62, Try.ntmps62
        go_wp2_with fail
        refine Calls.mono C1.out ?_
        rintro e w3 ⟨rfl, hb3⟩
        have HE := (show Hid _ from bel_trans HB.out hb3); clear hb3
        go_wp2_with fail
        go_ret
        exact ⟨by rw [HR.out]; rfl, HE.out⟩
    · have d2 : decide (left - (nm.size : Int) - (tx.size : Int) < 0) = true := by simp; omega
      have HR := (show Hid (szR (wn ⟨nm, tx, lf, ks⟩) left = -1) from (by
        show szR _ _ = _
        rw [HW.out, szR_no (by omega)]))
      clear HC HW
      go_enter Try.func62, Try.ntmps62
      go_wp2_with fail
      go_ret
      exact ⟨by rw [HR.out]; rfl, HB.out⟩
  · have d1 : decide (left - (nm.size : Int) < 0) = true := by simp; omega
    have HR := (show Hid (szR (wn ⟨nm, tx, lf, ks⟩) left = -1) from (by
      show szR _ _ = _
      rw [HW.out, szR_no (by omega)]))
    clear HC HW
    go_enter Try.func62, Try.ntmps62
    go_wp2_with fail
    go_ret
    exact ⟨by rw [HR.out]; rfl, HB.out⟩
end Go.Proofs.Ytckpoggljpdeoaa
