import Derived.Test.YtaimlmjgicmbeaaDat
namespace Go.Proofs.Ytaimlmjgicmbeaa
open Go.RowKit Go.Deep
set_option linter.unusedVariables false
set_option maxRecDepth 100000
set_option linter.unusedSimpArgs false

set_option maxHeartbeats 400000 in
theorem szStrs_any {S : Nat → Prop} (l : List ByteArray) (v : Value) (w : World) (n : Nat) (h : Strs w S l v) (hn : n ≤ 1048576) :
    Calls Try.prog 18 #[v, .int .i64 n] w fun e w' => Left n (l.length ≤ 1048576) e ∧ Below w.heap.size w w' := by
  obtain ⟨a, cap, b, off, rfl, hc, hm, ha, hcell⟩ := h
  have HC := (show Hid _ from hcell); clear hcell
  have HA := (show Hid _ from ha); clear ha
  unfold maxLen at hm
  by_cases hlt : (n : Int) - l.length < 0
  · go_enter Try.func18, Try.ntmps18
    go_wp2_with fail
    go_ret
    exact ⟨.inl rfl, Below.refl _ _⟩
  · go_enter Try.func18, Try.ntmps18
    go_wp2_with fail
    go_loopw [1, 5] (fun u i wr => ∃ (j m : Nat), j ≤ l.length ∧ i = .int .i64 j ∧ u = .int .i64 m ∧ m ≤ n ∧ Below w.heap.size w wr) (fun _ i _ => l.length - (intOf i).toNat)
    case atStart => exact ⟨0, n - l.length, Nat.zero_le _, rfl, by go_num, by omega, Below.refl _ _⟩
    case round =>
      obtain ⟨j, m, hj, rfl, rfl, hmn, hbel⟩ := hrel
      by_cases hjl : j < l.length
      · obtain ⟨rfl, _⟩ := HA.out (by omega)
        obtain ⟨c0, hs⟩ := HC.out j (by omega)
        unfold maxLen at hs
        rw [← hbel.cell (lt_of_cell c0)] at c0
        by_cases hlt2 : (m : Int) - l[j].size < 0
        · go_wp2_with fail
          go_ret
          exact ⟨.inl rfl, hbel⟩
        · go_wp2_with fail
          exact ⟨⟨j + 1, m - l[j].size, by omega, by go_num, by go_num, by omega, hbel⟩, by simp [intOf]; omega⟩
      · obtain rfl : j = l.length := by omega
        go_wp2_with fail
        go_ret
        exact ⟨.inr ⟨m, rfl, hmn, by omega⟩, hbel⟩
set_option maxHeartbeats 400000 in
theorem szProd_any {S : Nat → Prop} (t : Pd) (v : Value) (w : World) (n : Nat) (h : Ints w S t.right v) (hs : t.label.size ≤ maxLen) (hn : n ≤ 1048576) :
    Calls Try.prog 41 #[.agg #[.int .i64 t.left, v, .string t.label, .int .i64 t.lev, .int .i64 t.asc], .int .i64 n] w fun e w' => Left n (t.right.length ≤ 1048576) e ∧ Below w.heap.size w w' := by
  unfold maxLen at hs
  have HI := (show Hid _ from fun (o : Obj) => szInts_any t.right v (w.alloc o) n (h.still (bel_alloc _ _)) hn)
  obtain ⟨a, cap, rfl, _⟩ := h.form
  clear h
  go_enter Try.func41, Try.ntmps41
  go_wp2_with fail
  refine Calls.mono (HI.out _) ?_
  rintro e w1 ⟨rfl | ⟨m1, rfl, hm1, hl1⟩, hb1⟩
  · have hbw := bel_box hb1
    go_wp2_with fail
    go_ret
    exact ⟨.inl rfl, hbw⟩
  · have hbw := bel_box hb1
    have c2 : w1.cell? ⟨w.heap.size, 2, none⟩ = some (.string t.label) := by
      rw [hb1.cell (by show w.heap.size < (w.alloc _).heap.size; simp)]
      simp [go_sem]
    clear hb1
    by_cases hlt2 : (m1 : Int) - t.label.size < 0
    · go_wp2_with fail
      go_ret
      exact ⟨.inl rfl, hbw⟩
    · go_wp2_with fail
      go_ret
      exact ⟨.inr ⟨m1 - t.label.size, by rw [show ((m1 - t.label.size : Nat) : Int) = (m1 : Int) - t.label.size by omega]; rfl, by omega, hl1⟩, hbw⟩
set_option maxHeartbeats 400000 in
theorem szProds_any {S : Nat → Prop} (l : List Pd) (v : Value) (w : World) (n : Nat) (h : Pds w S l v) (hn : n ≤ 1048576) :
    Calls Try.prog 19 #[v, .int .i64 n] w fun e w' => Left n (l.length ≤ 1048576 ∧ ∀ i (hi : i < l.length), l[i].right.length ≤ 1048576) e ∧ Below w.heap.size w w' := by
  obtain ⟨a, cap, b, off, sv, rfl, hc, hm, ha, hcell, hr⟩ := h
  have HC := (show Hid _ from hcell); clear hcell
  have HA := (show Hid _ from ha); clear ha
  have HR := (show Hid _ from hr); clear hr
  unfold maxLen at hm
  by_cases hlt : (n : Int) - l.length < 0
  · go_enter Try.func19, Try.ntmps19
    go_wp2_with fail
    go_ret
    exact ⟨.inl rfl, Below.refl _ _⟩
  · go_enter Try.func19, Try.ntmps19
    go_wp2_with fail
    go_loopw [1, 5] (fun u i wr => ∃ (j m : Nat), j ≤ l.length ∧ i = .int .i64 j ∧ u = .int .i64 m ∧ m ≤ n ∧ Below w.heap.size w wr ∧ Hid (∀ i (hi : i < l.length), i < j → l[i].right.length ≤ 1048576)) (fun _ i _ => l.length - (intOf i).toNat)
    case atStart => exact ⟨0, n - l.length, Nat.zero_le _, rfl, by go_num, by omega, Below.refl _ _, fun i hi h0 => absurd h0 (Nat.not_lt_zero _)⟩
    case round =>
      obtain ⟨j, m, hj, rfl, rfl, hmn, hbel, HX⟩ := hrel
      by_cases hjl : j < l.length
      · obtain ⟨rfl, _⟩ := HA.out (by omega)
        obtain ⟨c0, c1, c2, c3, c4, hs⟩ := HC.out j (by omega)
        rw [← hbel.cell (lt_of_cell c0)] at c0
        rw [← hbel.cell (lt_of_cell c1)] at c1
        rw [← hbel.cell (lt_of_cell c2)] at c2
        rw [← hbel.cell (lt_of_cell c3)] at c3
        rw [← hbel.cell (lt_of_cell c4)] at c4
        have hcl := szProd_any l[j] _ wr m ((HR.out j hjl).still hbel) hs (by omega)
        obtain ⟨a2, cap2, e2, _⟩ := (HR.out j hjl).form
        rw [e2] at c1 hcl
        have HCL := (show Hid _ from hcl); clear hcl e2
        go_wp2_with fail
        refine Calls.mono HCL.out ?_
        rintro e w1 ⟨rfl | ⟨m1, rfl, hm1, hl1⟩, hb1⟩
        · have hbw := bel_trans hbel hb1
          go_wp2_with fail
          go_ret
          exact ⟨.inl rfl, hbw⟩
        · have hbw := bel_trans hbel hb1
          have HN := (show Hid (∀ i (hi : i < l.length), i < j + 1 → l[i].right.length ≤ 1048576) from fun i hi hij => by
            by_cases e : i = j
            · subst e; exact hl1
            · exact HX.out i hi (by omega))
          clear hl1 c0 c1 c2 c3 c4
          go_wp2_with fail
          exact ⟨⟨j + 1, m1, by omega, by go_num, rfl, by omega, hbw, HN⟩, by simp [intOf]; omega⟩
      · obtain rfl : j = l.length := by omega
        go_wp2_with fail
        go_ret
        exact ⟨.inr ⟨m, rfl, hmn, by omega, fun i hi => HX.out i hi hi⟩, hbel⟩
/-- Four cells of a box. -/
def Four (w : World) (g : Nat) (c0 c1 c2 c3 : Value) : Prop := w.cell? ⟨g, 0, none⟩ = some c0 ∧ w.cell? ⟨g, 1, none⟩ = some c1 ∧ w.cell? ⟨g, 2, none⟩ = some c2 ∧ w.cell? ⟨g, 3, none⟩ = some c3
theorem four_box (w : World) (c0 c1 c2 c3 : Value) (T : TypeId) : Four (w.alloc (.cells #[c0, c1, c2, c3] T)) w.heap.size c0 c1 c2 c3 := by
  simp [Four, go_sem]
theorem Four.still {w w' : World} {g : Nat} {c0 c1 c2 c3 : Value} (h : Four w g c0 c1 c2 c3) (hb : Below w.heap.size w w') : Four w' g c0 c1 c2 c3 :=
  ⟨(hb.cell (lt_of_cell h.1)).trans h.1, (hb.cell (lt_of_cell h.2.1)).trans h.2.1, (hb.cell (lt_of_cell h.2.2.1)).trans h.2.2.1, (hb.cell (lt_of_cell h.2.2.2)).trans h.2.2.2⟩
set_option maxHeartbeats 800000 in
theorem szBnf_any {S : Nat → Prop} (d : Bn) (v0 v1 v3 : Value) (w : World) (n : Nat) (h : BLies w S d v0 v1 v3) (hn : n ≤ 1048576) :
    Calls Try.prog 5 #[.agg #[v0, v1, .int .i64 d.own, v3], .int .i64 n] w fun e w' => Left n d.Small e ∧ Below w.heap.size w w' := by
  obtain ⟨a0, p0, a1, p1, a3, p3, rfl, rfl, rfl⟩ := h.form
  have hf := four_box w (.slice a0 d.terms.length p0) (.slice a1 d.nons.length p1) (.int .i64 d.own) (.slice a3 d.prods.length p3) 26
  have hL := h.still (bel_alloc w (.cells #[.slice a0 d.terms.length p0, .slice a1 d.nons.length p1, .int .i64 d.own, .slice a3 d.prods.length p3] 26))
  have HT := (show Hid _ from szTerms_any d.terms _ _ n hL.terms hn)
  have HL := (show Hid _ from hL); clear h hL
  have HFF := (show Hid _ from hf)
  obtain ⟨x0, x1, x2, x3⟩ := hf
  go_enter Try.func5, Try.ntmps5
  go_wp2_with fail
  refine Calls.mono HT.out ?_
  rintro e w1 ⟨rfl | ⟨m1, rfl, hm1, hl1⟩, hb1⟩
  · have hbw := bel_box hb1
    go_wp2_with fail
    go_ret
    exact ⟨.inl rfl, hbw⟩
  clear x0 x1 x2 x3
  obtain ⟨x0, x1, x2, x3⟩ := Four.still HFF.out hb1
  have HT2 := (show Hid _ from szStrs_any d.nons _ w1 m1 (HL.out.nons.still hb1) (by omega))
  have HB1 := (show Hid _ from (⟨bel_box hb1, hb1⟩ : _ ∧ _)); clear hb1
  go_wp2_with fail
  refine Calls.mono HT2.out ?_
  rintro e w2 ⟨rfl | ⟨m2, rfl, hm2, hl2⟩, hb2⟩
  · have hbw := bel_trans HB1.out.1 hb2
    go_wp2_with fail
    go_ret
    exact ⟨.inl rfl, hbw⟩
  clear x0 x1 x2 x3
  obtain ⟨x0, x1, x2, x3⟩ := (Four.still HFF.out HB1.out.2).still hb2
  have HT3 := (show Hid _ from szProds_any d.prods _ w2 m2 ((HL.out.prods.still HB1.out.2).still hb2) (by omega))
  have HB2 := (show Hid _ from bel_trans HB1.out.1 hb2); clear hb2
  go_wp2_with fail
  refine Calls.mono HT3.out ?_
  rintro e w3 ⟨rfl | ⟨m3, rfl, hm3, hl3, hl4⟩, hb3⟩
  · have hbw := bel_trans HB2.out hb3
    go_wp2_with fail
    go_ret
    exact ⟨.inl rfl, hbw⟩
  have hbw := bel_trans HB2.out hb3
  go_wp2_with fail
  go_ret
  exact ⟨.inr ⟨m3, rfl, by omega, ⟨hl1, hl2, hl3, hl4⟩⟩, hbw⟩
end Go.Proofs.Ytaimlmjgicmbeaa
