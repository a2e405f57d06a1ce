import Derived.Test.YtnmdgbnbnpibhaaADat
namespace Go.Proofs.Ytnmdgbnbnpibhaa
open Go.RowKit Go.Deep
set_option linter.unusedVariables false
set_option maxRecDepth 100000
set_option linter.unusedSimpArgs false

theorem szInts_anyG {S : Nat → Prop} (l : List Int) (v : Value) (w : World) (n : Nat) (h : Ints w S l v) (hn : n ≤ 1048576) :
    Calls Try.prog 69 #[v, .int .i64 n] w fun e w' => LeftG n (Ints.Sm l) e ∧ Below w.heap.size w w' := by
  obtain ⟨a, cap, rfl, hm⟩ := h.form
  unfold maxLen at hm
  clear h
  unfold Ints.Sm
  generalize l.length = len at *
  by_cases hlt : (n : Int) - len < 0
  · go_enter Try.func69, Try.ntmps69
    go_wp2_with fail
    go_ret
    exact ⟨.inl rfl, Below.refl _ _⟩
  · go_enter Try.func69, Try.ntmps69
    go_wp2_with fail
    go_ret
    exact ⟨.inr ⟨n - len, by rw [show ((n - len : Nat) : Int) = (n : Int) - len by omega]; rfl, by omega, by omega⟩, Below.refl _ _⟩
set_option maxHeartbeats 1600000 in
theorem szStrs_anyG {S : Nat → Prop} (l : List ByteArray) (v : Value) (w : World) (n : Nat) (h : StrsG w S l v) (hn : n ≤ 1048576) :
    Calls Try.prog 13 #[v, .int .i64 n] w fun e w' => LeftG n (StrsG.Sm l) e ∧ Below w.heap.size w w' := by
  obtain ⟨a, cap, b, off, rfl, hc, hm, ha, hcell⟩ := h
  have HC := (show Hid _ from hcell); clear hcell
  have HA := (show Hid _ from ha); clear ha
  unfold maxLen at hm
  by_cases hlt : (n : Int) - l.length < 0
  · go_enter Try.func13, Try.ntmps13
    go_wp2_with fail
    go_ret
    exact ⟨.inl rfl, Below.refl _ _⟩
  · go_enter Try.func13, Try.ntmps13
    go_wp2_with fail
    go_loopw [1, 5] (fun u i wr => ∃ (j m : Nat), j ≤ l.length ∧ i = .int .i64 j ∧ u = .int .i64 m ∧ m ≤ n ∧ Below w.heap.size w wr ∧ Hid (∀ i (hi : i < l.length), i < j → l[i].size ≤ 1048576)) (fun _ i _ => l.length - (intOf i).toNat)
    case atStart => exact ⟨0, n - l.length, Nat.zero_le _, rfl, by go_num, by omega, Below.refl _ _, fun i hi h0 => absurd h0 (Nat.not_lt_zero _)⟩
    case round =>
      obtain ⟨j, m, hj, rfl, rfl, hmn, hbel, HX⟩ := hrel
      by_cases hjl : j < l.length
      · obtain ⟨rfl, _⟩ := HA.out (by omega)
        obtain ⟨c0, zc0⟩ := HC.out j (by omega)
        rw [← hbel.cell (lt_of_cell c0)] at c0
        unfold maxLen at zc0
        by_cases hlt2 : (m : Int) - l[j].size < 0
        · go_wp2_with fail
          go_ret
          exact ⟨.inl rfl, hbel⟩
        · have HN := (show Hid (∀ i (hi : i < l.length), i < j + 1 → l[i].size ≤ 1048576) from fun i hi hij => by
            by_cases e : i = j
            · subst e; omega
            · exact HX.out i hi (by omega))
          go_wp2_with fail
          exact ⟨⟨j + 1, m - l[j].size, by omega, by go_num, by go_num, by omega, hbel, HN⟩, by simp [intOf]; omega⟩
      · have hle : l.length ≤ 1048576 := by omega
        obtain rfl : j = l.length := by omega
        go_wp2_with fail
        go_ret
        exact ⟨.inr ⟨m, rfl, hmn, hle, fun i hi => HX.out i hi hi⟩, hbel⟩
set_option maxHeartbeats 1600000 in
theorem szAttr_any (t : DAttr) (w : World) (n : Nat) (hs0 : t.name.size ≤ maxLen) (hn : n ≤ 1048576) :
    Calls Try.prog 41 #[.agg #[.int .i64 t.non, .string t.name, .bool t.down], .int .i64 n] w fun e w' => LeftG n t.Sm e ∧ Below w.heap.size w w' := by
  unfold maxLen at hs0
  have hbw0 := bel_alloc w (.cells ([.int .i64 t.non, .string t.name, .bool t.down] : List Value).toArray 91)
  by_cases h1 : (n : Int) - t.name.size < 0
  · go_enter Try.func41, Try.ntmps41
    go_wp2_with fail
    go_ret
    exact ⟨.inl rfl, hbw0⟩
  go_enter Try.func41, Try.ntmps41
  go_wp2_with fail
  go_ret
  exact ⟨.inr ⟨n - t.name.size, by rw [show ((n - t.name.size : Nat) : Int) = (n : Int) - t.name.size by omega]; rfl, by omega, ⟨by omega⟩⟩, hbw0⟩
set_option maxHeartbeats 1600000 in
theorem szAttrR_any {S : Nat → Prop} (l : List DAttr) (v : Value) (w : World) (n : Nat) (h : AttrR w S l v) (hn : n ≤ 1048576) :
    Calls Try.prog 15 #[v, .int .i64 n] w fun e w' => LeftG n (AttrR.Sm l) e ∧ Below w.heap.size w w' := by
  obtain ⟨a, cap, b, off, rfl, hc, hm, ha, hcell⟩ := h
  have HC := (show Hid _ from hcell); clear hcell
  have HA := (show Hid _ from ha); clear ha
  unfold maxLen at hm
  by_cases hlt : (n : Int) - l.length < 0
  · go_enter Try.func15, Try.ntmps15
    go_wp2_with fail
    go_ret
    exact ⟨.inl rfl, Below.refl _ _⟩
  · go_enter Try.func15, Try.ntmps15
    go_wp2_with fail
    go_loopw [1, 5] (fun u i wr => ∃ (j m : Nat), j ≤ l.length ∧ i = .int .i64 j ∧ u = .int .i64 m ∧ m ≤ n ∧ Below w.heap.size w wr ∧ Hid (∀ i (hi : i < l.length), i < j → l[i].Sm)) (fun _ i _ => l.length - (intOf i).toNat)
    case atStart => exact ⟨0, n - l.length, Nat.zero_le _, rfl, by go_num, by omega, Below.refl _ _, fun i hi h0 => absurd h0 (Nat.not_lt_zero _)⟩
    case round =>
      obtain ⟨j, m, hj, rfl, rfl, hmn, hbel, HX⟩ := hrel
      by_cases hjl : j < l.length
      · obtain ⟨rfl, _⟩ := HA.out (by omega)
        obtain ⟨c0, c1, c2, zc0⟩ := HC.out j (by omega)
        rw [← hbel.cell (lt_of_cell c0)] at c0
        rw [← hbel.cell (lt_of_cell c1)] at c1
        rw [← hbel.cell (lt_of_cell c2)] at c2
        have hcl := szAttr_any l[j] wr m zc0 (by omega)
        have HCL := (show Hid _ from hcl); clear hcl
        go_wp2_with fail
        refine Calls.mono HCL.out ?_
        rintro e w1 ⟨rfl | ⟨m1, rfl, hm1, hl1⟩, hb1⟩
        · have hbw := bel_trans hbel hb1
          clear c0 c1 c2
          go_wp2_with fail
          go_ret
          exact ⟨.inl rfl, hbw⟩
        · have hbw := bel_trans hbel hb1
          have HN := (show Hid (∀ i (hi : i < l.length), i < j + 1 → l[i].Sm) from fun i hi hij => by
            by_cases e : i = j
            · subst e; exact hl1
            · exact HX.out i hi (by omega))
          clear hl1 c0 c1 c2
          go_wp2_with fail
          exact ⟨⟨j + 1, m1, by omega, by go_num, rfl, by omega, hbw, HN⟩, by simp [intOf]; omega⟩
      · have hle : l.length ≤ 1048576 := by omega
        obtain rfl : j = l.length := by omega
        go_wp2_with fail
        go_ret
        exact ⟨.inr ⟨m, rfl, hmn, hle, fun i hi => HX.out i hi hi⟩, hbel⟩
set_option maxHeartbeats 1600000 in
theorem szRefR_any {S : Nat → Prop} (l : List DRef) (v : Value) (w : World) (n : Nat) (h : RefR w S l v) (hn : n ≤ 1048576) :
    Calls Try.prog 70 #[v, .int .i64 n] w fun e w' => LeftG n (RefR.Sm l) e ∧ Below w.heap.size w w' := by
  obtain ⟨a, cap, b, off, rfl, hc, hm, ha, hcell⟩ := h
  have HC := (show Hid _ from hcell); clear hcell
  have HA := (show Hid _ from ha); clear ha
  unfold maxLen at hm
  by_cases hlt : (n : Int) - l.length < 0
  · go_enter Try.func70, Try.ntmps70
    go_wp2_with fail
    go_ret
    exact ⟨.inl rfl, Below.refl _ _⟩
  · go_enter Try.func70, Try.ntmps70
    go_wp2_with fail
    go_ret
    exact ⟨.inr ⟨n - l.length, by rw [show ((n - l.length : Nat) : Int) = (n : Int) - l.length by omega]; rfl, by omega, ⟨by omega, fun i hi => ⟨⟩⟩⟩, Below.refl _ _⟩
set_option maxHeartbeats 1600000 in
theorem szEq_any {S : Nat → Prop} (t : DEq) (v4 : Value) (w : World) (n : Nat) (h : DEqL w S t v4) (hn : n ≤ 1048576) :
    Calls Try.prog 42 #[.agg #[.int .i64 t.prod, .int .i64 t.pos, .int .i64 t.attr, .int .i64 t.op, v4], .int .i64 n] w fun e w' => LeftG n t.Sm e ∧ Below w.heap.size w w' := by
  have HF4 := (show Hid _ from fun (w' : World) (m : Nat) (hb : Below w.heap.size w w') (hm : m ≤ 1048576) => szRefR_any t.args v4 w' m (h.args.still hb) hm)
  obtain ⟨a4, p4, rfl, _⟩ := h.args.form
  clear h
  have hbw0 := bel_alloc w (.cells ([.int .i64 t.prod, .int .i64 t.pos, .int .i64 t.attr, .int .i64 t.op, .slice a4 t.args.length p4] : List Value).toArray 95)
  have HB0 := (show Hid _ from Box.new w 95 [.int .i64 t.prod, .int .i64 t.pos, .int .i64 t.attr, .int .i64 t.op, .slice a4 t.args.length p4])
  go_enter Try.func42, Try.ntmps42
  have hcl4 := HF4.out (w.alloc (.cells ([.int .i64 t.prod, .int .i64 t.pos, .int .i64 t.attr, .int .i64 t.op, .slice a4 t.args.length p4] : List Value).toArray 95)) n (hbw0) (by omega)
  have HCL4 := (show Hid _ from hcl4); clear hcl4
  go_wp2_with fail
  refine Calls.mono HCL4.out ?_
  rintro e w4 ⟨rfl | ⟨m4, rfl, hm4, sm4⟩, hb4⟩
  · have hbw := bel_trans hbw0 hb4
    go_wp2_with fail
    go_ret
    exact ⟨.inl rfl, hbw⟩
  have hbw5 := bel_trans hbw0 hb4
  have HB5 := (show Hid _ from Box.still HB0.out hb4)
  clear hb4 HCL4
  have SM4 := (show Hid _ from sm4); clear sm4
  go_wp2_with fail
  go_ret
  exact ⟨.inr ⟨m4, rfl, by omega, ⟨SM4.out⟩⟩, hbw5⟩
set_option maxHeartbeats 1600000 in
theorem szEqR_any {S : Nat → Prop} (l : List DEq) (v : Value) (w : World) (n : Nat) (h : EqR w S l v) (hn : n ≤ 1048576) :
    Calls Try.prog 16 #[v, .int .i64 n] w fun e w' => LeftG n (EqR.Sm l) e ∧ Below w.heap.size w w' := by
  obtain ⟨a, cap, b, off, s4, rfl, hc, hm, ha, hcell, r4⟩ := h
  have HC := (show Hid _ from hcell); clear hcell
  have HA := (show Hid _ from ha); clear ha
  have HR4 := (show Hid _ from r4); clear r4
  unfold maxLen at hm
  by_cases hlt : (n : Int) - l.length < 0
  · go_enter Try.func16, Try.ntmps16
    go_wp2_with fail
    go_ret
    exact ⟨.inl rfl, Below.refl _ _⟩
  · go_enter Try.func16, Try.ntmps16
    go_wp2_with fail
    go_loopw [1, 5] (fun u i wr => ∃ (j m : Nat), j ≤ l.length ∧ i = .int .i64 j ∧ u = .int .i64 m ∧ m ≤ n ∧ Below w.heap.size w wr ∧ Hid (∀ i (hi : i < l.length), i < j → l[i].Sm)) (fun _ i _ => l.length - (intOf i).toNat)
    case atStart => exact ⟨0, n - l.length, Nat.zero_le _, rfl, by go_num, by omega, Below.refl _ _, fun i hi h0 => absurd h0 (Nat.not_lt_zero _)⟩
    case round =>
      obtain ⟨j, m, hj, rfl, rfl, hmn, hbel, HX⟩ := hrel
      by_cases hjl : j < l.length
      · obtain ⟨rfl, _⟩ := HA.out (by omega)
        obtain ⟨c0, c1, c2, c3, c4⟩ := HC.out j (by omega)
        rw [← hbel.cell (lt_of_cell c0)] at c0
        rw [← hbel.cell (lt_of_cell c1)] at c1
        rw [← hbel.cell (lt_of_cell c2)] at c2
        rw [← hbel.cell (lt_of_cell c3)] at c3
        rw [← hbel.cell (lt_of_cell c4)] at c4
        have hcl := szEq_any l[j] _ wr m ⟨(HR4.out j hjl).still hbel⟩ (by omega)
        obtain ⟨a4x, cap4x, e4x, _⟩ := (HR4.out j hjl).form
        rw [e4x] at c4 hcl
        clear e4x
        have HCL := (show Hid _ from hcl); clear hcl
        go_wp2_with fail
        refine Calls.mono HCL.out ?_
        rintro e w1 ⟨rfl | ⟨m1, rfl, hm1, hl1⟩, hb1⟩
        · have hbw := bel_trans hbel hb1
          clear c0 c1 c2 c3 c4
          go_wp2_with fail
          go_ret
          exact ⟨.inl rfl, hbw⟩
        · have hbw := bel_trans hbel hb1
          have HN := (show Hid (∀ i (hi : i < l.length), i < j + 1 → l[i].Sm) from fun i hi hij => by
            by_cases e : i = j
            · subst e; exact hl1
            · exact HX.out i hi (by omega))
          clear hl1 c0 c1 c2 c3 c4
          go_wp2_with fail
          exact ⟨⟨j + 1, m1, by omega, by go_num, rfl, by omega, hbw, HN⟩, by simp [intOf]; omega⟩
      · have hle : l.length ≤ 1048576 := by omega
        obtain rfl : j = l.length := by omega
        go_wp2_with fail
        go_ret
        exact ⟨.inr ⟨m, rfl, hmn, hle, fun i hi => HX.out i hi hi⟩, hbel⟩
set_option maxHeartbeats 1600000 in
theorem szAg_any {S : Nat → Prop} (t : DAg) (v0 v1 : Value) (w : World) (n : Nat) (h : DAgL w S t v0 v1) (hn : n ≤ 1048576) :
    Calls Try.prog 5 #[.agg #[v0, v1], .int .i64 n] w fun e w' => LeftG n t.Sm e ∧ Below w.heap.size w w' := by
  have HF0 := (show Hid _ from fun (w' : World) (m : Nat) (hb : Below w.heap.size w w') (hm : m ≤ 1048576) => szAttrR_any t.attrs v0 w' m (h.attrs.still hb) hm)
  have HF1 := (show Hid _ from fun (w' : World) (m : Nat) (hb : Below w.heap.size w w') (hm : m ≤ 1048576) => szEqR_any t.eqs v1 w' m (h.eqs.still hb) hm)
  obtain ⟨a0, p0, rfl, _⟩ := h.attrs.form
  obtain ⟨a1, p1, rfl, _⟩ := h.eqs.form
  clear h
  have hbw0 := bel_alloc w (.cells ([.slice a0 t.attrs.length p0, .slice a1 t.eqs.length p1] : List Value).toArray 30)
  have HB0 := (show Hid _ from Box.new w 30 [.slice a0 t.attrs.length p0, .slice a1 t.eqs.length p1])
  go_enter Try.func5, Try.ntmps5
  have hcl0 := HF0.out (w.alloc (.cells ([.slice a0 t.attrs.length p0, .slice a1 t.eqs.length p1] : List Value).toArray 30)) n (hbw0) (by omega)
  have HCL0 := (show Hid _ from hcl0); clear hcl0
  go_wp2_with fail
  refine Calls.mono HCL0.out ?_
  rintro e w0 ⟨rfl | ⟨m0, rfl, hm0, sm0⟩, hb0⟩
  · have hbw := bel_trans hbw0 hb0
    go_wp2_with fail
    go_ret
    exact ⟨.inl rfl, hbw⟩
  have hbw1 := bel_trans hbw0 hb0
  have HB1 := (show Hid _ from Box.still HB0.out hb0)
  clear hb0 HCL0
  have x1 : w0.cell? ⟨w.heap.size, 1, none⟩ = some (.slice a1 t.eqs.length p1) := HB1.out.cell 1 (by simp)
  have SM0 := (show Hid _ from sm0); clear sm0
  have hcl1 := HF1.out (w0) m0 (hbw1) (by omega)
  have HCL1 := (show Hid _ from hcl1); clear hcl1
  go_wp2_with fail
  refine Calls.mono HCL1.out ?_
  rintro e w1 ⟨rfl | ⟨m1, rfl, hm1, sm1⟩, hb1⟩
  · have hbw := bel_trans hbw1 hb1
    go_wp2_with fail
    go_ret
    exact ⟨.inl rfl, hbw⟩
  have hbw2 := bel_trans hbw1 hb1
  have HB2 := (show Hid _ from Box.still HB1.out hb1)
  clear hb1 HCL1 x1
  have SM1 := (show Hid _ from sm1); clear sm1
  go_wp2_with fail
  go_ret
  exact ⟨.inr ⟨m1, rfl, by omega, ⟨SM0.out, SM1.out⟩⟩, hbw2⟩
end Go.Proofs.Ytnmdgbnbnpibhaa
