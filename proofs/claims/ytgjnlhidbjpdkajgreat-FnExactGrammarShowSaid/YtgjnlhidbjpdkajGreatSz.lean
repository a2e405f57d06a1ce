import Derived.Test.YtgjnlhidbjpdkajGreatDat
namespace Go.Proofs.YtgjnlhidbjpdkajGreat
open Go.RowKit Go.Deep
set_option linter.unusedVariables false
set_option maxRecDepth 100000
set_option linter.unusedSimpArgs false

theorem szInts_any {S : Nat → Prop} (l : List Int) (v : Value) (w : World) (n : Nat) (h : Ints w S l v) (hn : n ≤ 1048576) :
    Calls Tryz.prog 93 #[v, .int .i64 n] w fun e w' => Left n (Ints.Sm l) e ∧ Below w.heap.size w w' := by
  obtain ⟨a, cap, rfl, hm⟩ := h.form
  unfold maxLen at hm
  clear h
  unfold Ints.Sm
  generalize l.length = len at *
  by_cases hlt : (n : Int) - len < 0
  · go_enter Tryz.func93, Tryz.ntmps93
    go_wp2_with fail
    go_ret
    exact ⟨.inl rfl, Below.refl _ _⟩
  · go_enter Tryz.func93, Tryz.ntmps93
    go_wp2_with fail
    go_ret
    exact ⟨.inr ⟨n - len, by rw [show ((n - len : Nat) : Int) = (n : Int) - len by omega]; rfl, by omega, by omega⟩, Below.refl _ _⟩
set_option maxHeartbeats 1600000 in
theorem szStrs_any {S : Nat → Prop} (l : List ByteArray) (v : Value) (w : World) (n : Nat) (h : Strs w S l v) (hn : n ≤ 1048576) :
    Calls Tryz.prog 65 #[v, .int .i64 n] w fun e w' => Left n (Strs.Sm l) e ∧ Below w.heap.size w w' := by
  obtain ⟨a, cap, b, off, rfl, hc, hm, ha, hcell⟩ := h
  have HC := (show Hid _ from hcell); clear hcell
  have HA := (show Hid _ from ha); clear ha
  unfold maxLen at hm
  by_cases hlt : (n : Int) - l.length < 0
  · go_enter Tryz.func65, Tryz.ntmps65
    go_wp2_with fail
    go_ret
    exact ⟨.inl rfl, Below.refl _ _⟩
  · go_enter Tryz.func65, Tryz.ntmps65
    go_wp2_with fail
    go_loopw [1, 5] (fun u i wr => ∃ (j m : Nat), j ≤ l.length ∧ i = .int .i64 j ∧ u = .int .i64 m ∧ m ≤ n ∧ Below w.heap.size w wr ∧ Hid (∀ i (hi : i < l.length), i < j → l[i].size ≤ 1048576)) (fun _ i _ => l.length - (intOf i).toNat)
    case atStart => exact ⟨0, n - l.length, Nat.zero_le _, rfl, by go_num, by omega, Below.refl _ _, fun i hi h0 => absurd h0 (Nat.not_lt_zero _)⟩
    case round =>
      obtain ⟨j, m, hj, rfl, rfl, hmn, hbel, HX⟩ := hrel
      by_cases hjl : j < l.length
      · obtain ⟨rfl, _⟩ := HA.out (by omega)
        obtain ⟨c0, zc0⟩ := HC.out j (by omega)
        rw [← hbel.cell (lt_of_cell c0)] at c0
        unfold maxLen at zc0
        by_cases hlt2 : (m : Int) - l[j].size < 0
        · go_wp2_with fail
          go_ret
          exact ⟨.inl rfl, hbel⟩
        · have HN := (show Hid (∀ i (hi : i < l.length), i < j + 1 → l[i].size ≤ 1048576) from fun i hi hij => by
            by_cases e : i = j
            · subst e; omega
            · exact HX.out i hi (by omega))
          go_wp2_with fail
          exact ⟨⟨j + 1, m - l[j].size, by omega, by go_num, by go_num, by omega, hbel, HN⟩, by simp [intOf]; omega⟩
      · have hle : l.length ≤ 1048576 := by omega
        obtain rfl : j = l.length := by omega
        go_wp2_with fail
        go_ret
        exact ⟨.inr ⟨m, rfl, hmn, hle, fun i hi => HX.out i hi hi⟩, hbel⟩
set_option maxHeartbeats 1600000 in
theorem szIRws_any {S : Nat → Prop} (l : List (List Int)) (v : Value) (w : World) (n : Nat) (h : IRws w S l v) (hn : n ≤ 1048576) :
    Calls Tryz.prog 67 #[v, .int .i64 n] w fun e w' => Left n (IRws.Sm l) e ∧ Below w.heap.size w w' := by
  obtain ⟨a, cap, b, off, s0, rfl, hc, hm, ha, hcell, r0⟩ := h
  have HC := (show Hid _ from hcell); clear hcell
  have HA := (show Hid _ from ha); clear ha
  have HR0 := (show Hid _ from r0); clear r0
  unfold maxLen at hm
  by_cases hlt : (n : Int) - l.length < 0
  · go_enter Tryz.func67, Tryz.ntmps67
    go_wp2_with fail
    go_ret
    exact ⟨.inl rfl, Below.refl _ _⟩
  · go_enter Tryz.func67, Tryz.ntmps67
    go_wp2_with fail
    go_loopw [1, 5] (fun u i wr => ∃ (j m : Nat), j ≤ l.length ∧ i = .int .i64 j ∧ u = .int .i64 m ∧ m ≤ n ∧ Below w.heap.size w wr ∧ Hid (∀ i (hi : i < l.length), i < j → Ints.Sm l[i])) (fun _ i _ => l.length - (intOf i).toNat)
    case atStart => exact ⟨0, n - l.length, Nat.zero_le _, rfl, by go_num, by omega, Below.refl _ _, fun i hi h0 => absurd h0 (Nat.not_lt_zero _)⟩
    case round =>
      obtain ⟨j, m, hj, rfl, rfl, hmn, hbel, HX⟩ := hrel
      by_cases hjl : j < l.length
      · obtain ⟨rfl, _⟩ := HA.out (by omega)
        have c0 := HC.out j (by omega)
        rw [← hbel.cell (lt_of_cell c0)] at c0
        have hcl := szInts_any l[j] _ wr m ((HR0.out j hjl).still hbel) (by omega)
        obtain ⟨a0x, cap0x, e0x, _⟩ := (HR0.out j hjl).form
        rw [e0x] at c0 hcl
        clear e0x
        have HCL := (show Hid _ from hcl); clear hcl
        go_wp2_with fail
        refine Calls.mono HCL.out ?_
        rintro e w1 ⟨rfl | ⟨m1, rfl, hm1, hl1⟩, hb1⟩
        · have hbw := bel_trans hbel hb1
          clear c0
          go_wp2_with fail
          go_ret
          exact ⟨.inl rfl, hbw⟩
        · have hbw := bel_trans hbel hb1
          have HN := (show Hid (∀ i (hi : i < l.length), i < j + 1 → Ints.Sm l[i]) from fun i hi hij => by
            by_cases e : i = j
            · subst e; exact hl1
            · exact HX.out i hi (by omega))
          clear hl1 c0
          go_wp2_with fail
          exact ⟨⟨j + 1, m1, by omega, by go_num, rfl, by omega, hbw, HN⟩, by simp [intOf]; omega⟩
      · have hle : l.length ≤ 1048576 := by omega
        obtain rfl : j = l.length := by omega
        go_wp2_with fail
        go_ret
        exact ⟨.inr ⟨m, rfl, hmn, hle, fun i hi => HX.out i hi hi⟩, hbel⟩
set_option maxHeartbeats 1600000 in
theorem szToken_any (t : DToken) (w : World) (n : Nat) (hs0 : t.name.size ≤ maxLen) (hs1 : t.rx.size ≤ maxLen) (hn : n ≤ 1048576) :
    Calls Tryz.prog 26 #[.agg #[.string t.name, .string t.rx, .bool t.skip], .int .i64 n] w fun e w' => Left n t.Sm e ∧ Below w.heap.size w w' := by
  unfold maxLen at hs0 hs1
  have hbw0 := bel_alloc w (.cells ([.string t.name, .string t.rx, .bool t.skip] : List Value).toArray 67)
  by_cases h0 : (n : Int) - t.name.size < 0
  · go_enter Tryz.func26, Tryz.ntmps26
    go_wp2_with fail
    go_ret
    exact ⟨.inl rfl, hbw0⟩
  by_cases h1 : (n : Int) - t.name.size - t.rx.size < 0
  · go_enter Tryz.func26, Tryz.ntmps26
    go_wp2_with fail
    go_ret
    exact ⟨.inl rfl, hbw0⟩
  go_enter Tryz.func26, Tryz.ntmps26
  go_wp2_with fail
  go_ret
  exact ⟨.inr ⟨n - t.name.size - t.rx.size, by rw [show ((n - t.name.size - t.rx.size : Nat) : Int) = (n : Int) - t.name.size - t.rx.size by omega]; rfl, by omega, ⟨by omega, by omega⟩⟩, hbw0⟩
set_option maxHeartbeats 1600000 in
theorem szTokenR_any {S : Nat → Prop} (l : List DToken) (v : Value) (w : World) (n : Nat) (h : TokenR w S l v) (hn : n ≤ 1048576) :
    Calls Tryz.prog 9 #[v, .int .i64 n] w fun e w' => Left n (TokenR.Sm l) e ∧ Below w.heap.size w w' := by
  obtain ⟨a, cap, b, off, rfl, hc, hm, ha, hcell⟩ := h
  have HC := (show Hid _ from hcell); clear hcell
  have HA := (show Hid _ from ha); clear ha
  unfold maxLen at hm
  by_cases hlt : (n : Int) - l.length < 0
  · go_enter Tryz.func9, Tryz.ntmps9
    go_wp2_with fail
    go_ret
    exact ⟨.inl rfl, Below.refl _ _⟩
  · go_enter Tryz.func9, Tryz.ntmps9
    go_wp2_with fail
    go_loopw [1, 5] (fun u i wr => ∃ (j m : Nat), j ≤ l.length ∧ i = .int .i64 j ∧ u = .int .i64 m ∧ m ≤ n ∧ Below w.heap.size w wr ∧ Hid (∀ i (hi : i < l.length), i < j → l[i].Sm)) (fun _ i _ => l.length - (intOf i).toNat)
    case atStart => exact ⟨0, n - l.length, Nat.zero_le _, rfl, by go_num, by omega, Below.refl _ _, fun i hi h0 => absurd h0 (Nat.not_lt_zero _)⟩
    case round =>
      obtain ⟨j, m, hj, rfl, rfl, hmn, hbel, HX⟩ := hrel
      by_cases hjl : j < l.length
      · obtain ⟨rfl, _⟩ := HA.out (by omega)
        obtain ⟨c0, c1, c2, zc0, zc1⟩ := HC.out j (by omega)
        rw [← hbel.cell (lt_of_cell c0)] at c0
        rw [← hbel.cell (lt_of_cell c1)] at c1
        rw [← hbel.cell (lt_of_cell c2)] at c2
        have hcl := szToken_any l[j] wr m zc0 zc1 (by omega)
        have HCL := (show Hid _ from hcl); clear hcl
        go_wp2_with fail
        refine Calls.mono HCL.out ?_
        rintro e w1 ⟨rfl | ⟨m1, rfl, hm1, hl1⟩, hb1⟩
        · have hbw := bel_trans hbel hb1
          clear c0 c1 c2
          go_wp2_with fail
          go_ret
          exact ⟨.inl rfl, hbw⟩
        · have hbw := bel_trans hbel hb1
          have HN := (show Hid (∀ i (hi : i < l.length), i < j + 1 → l[i].Sm) from fun i hi hij => by
            by_cases e : i = j
            · subst e; exact hl1
            · exact HX.out i hi (by omega))
          clear hl1 c0 c1 c2
          go_wp2_with fail
          exact ⟨⟨j + 1, m1, by omega, by go_num, rfl, by omega, hbw, HN⟩, by simp [intOf]; omega⟩
      · have hle : l.length ≤ 1048576 := by omega
        obtain rfl : j = l.length := by omega
        go_wp2_with fail
        go_ret
        exact ⟨.inr ⟨m, rfl, hmn, hle, fun i hi => HX.out i hi hi⟩, hbel⟩
set_option maxHeartbeats 1600000 in
theorem szLevel_any {S : Nat → Prop} (t : DLevel) (v1 : Value) (w : World) (n : Nat) (h : DLevelL w S t v1) (hn : n ≤ 1048576) :
    Calls Tryz.prog 27 #[.agg #[.int .i64 t.assoc, v1], .int .i64 n] w fun e w' => Left n t.Sm e ∧ Below w.heap.size w w' := by
  have HF1 := (show Hid _ from fun (w' : World) (m : Nat) (hb : Below w.heap.size w w') (hm : m ≤ 1048576) => szStrs_any t.lits v1 w' m (h.lits.still hb) hm)
  obtain ⟨a1, p1, rfl, _⟩ := h.lits.form
  clear h
  have hbw0 := bel_alloc w (.cells ([.int .i64 t.assoc, .slice a1 t.lits.length p1] : List Value).toArray 69)
  have HB0 := (show Hid _ from Box.new w 69 [.int .i64 t.assoc, .slice a1 t.lits.length p1])
  go_enter Tryz.func27, Tryz.ntmps27
  have hcl1 := HF1.out (w.alloc (.cells ([.int .i64 t.assoc, .slice a1 t.lits.length p1] : List Value).toArray 69)) n (hbw0) (by omega)
  have HCL1 := (show Hid _ from hcl1); clear hcl1
  go_wp2_with fail
  refine Calls.mono HCL1.out ?_
  rintro e w1 ⟨rfl | ⟨m1, rfl, hm1, sm1⟩, hb1⟩
  · have hbw := bel_trans hbw0 hb1
    go_wp2_with fail
    go_ret
    exact ⟨.inl rfl, hbw⟩
  have hbw2 := bel_trans hbw0 hb1
  have HB2 := (show Hid _ from Box.still HB0.out hb1)
  clear hb1 HCL1
  have SM1 := (show Hid _ from sm1); clear sm1
  go_wp2_with fail
  go_ret
  exact ⟨.inr ⟨m1, rfl, by omega, ⟨SM1.out⟩⟩, hbw2⟩
set_option maxHeartbeats 1600000 in
theorem szLevelR_any {S : Nat → Prop} (l : List DLevel) (v : Value) (w : World) (n : Nat) (h : LevelR w S l v) (hn : n ≤ 1048576) :
    Calls Tryz.prog 10 #[v, .int .i64 n] w fun e w' => Left n (LevelR.Sm l) e ∧ Below w.heap.size w w' := by
  obtain ⟨a, cap, b, off, s1, rfl, hc, hm, ha, hcell, r1⟩ := h
  have HC := (show Hid _ from hcell); clear hcell
  have HA := (show Hid _ from ha); clear ha
  have HR1 := (show Hid _ from r1); clear r1
  unfold maxLen at hm
  by_cases hlt : (n : Int) - l.length < 0
  · go_enter Tryz.func10, Tryz.ntmps10
    go_wp2_with fail
    go_ret
    exact ⟨.inl rfl, Below.refl _ _⟩
  · go_enter Tryz.func10, Tryz.ntmps10
    go_wp2_with fail
    go_loopw [1, 5] (fun u i wr => ∃ (j m : Nat), j ≤ l.length ∧ i = .int .i64 j ∧ u = .int .i64 m ∧ m ≤ n ∧ Below w.heap.size w wr ∧ Hid (∀ i (hi : i < l.length), i < j → l[i].Sm)) (fun _ i _ => l.length - (intOf i).toNat)
    case atStart => exact ⟨0, n - l.length, Nat.zero_le _, rfl, by go_num, by omega, Below.refl _ _, fun i hi h0 => absurd h0 (Nat.not_lt_zero _)⟩
    case round =>
      obtain ⟨j, m, hj, rfl, rfl, hmn, hbel, HX⟩ := hrel
      by_cases hjl : j < l.length
      · obtain ⟨rfl, _⟩ := HA.out (by omega)
        obtain ⟨c0, c1⟩ := HC.out j (by omega)
        rw [← hbel.cell (lt_of_cell c0)] at c0
        rw [← hbel.cell (lt_of_cell c1)] at c1
        have hcl := szLevel_any l[j] _ wr m ⟨(HR1.out j hjl).still hbel⟩ (by omega)
        obtain ⟨a1x, cap1x, e1x, _⟩ := (HR1.out j hjl).form
        rw [e1x] at c1 hcl
        clear e1x
        have HCL := (show Hid _ from hcl); clear hcl
        go_wp2_with fail
        refine Calls.mono HCL.out ?_
        rintro e w1 ⟨rfl | ⟨m1, rfl, hm1, hl1⟩, hb1⟩
        · have hbw := bel_trans hbel hb1
          clear c0 c1
          go_wp2_with fail
          go_ret
          exact ⟨.inl rfl, hbw⟩
        · have hbw := bel_trans hbel hb1
          have HN := (show Hid (∀ i (hi : i < l.length), i < j + 1 → l[i].Sm) from fun i hi hij => by
            by_cases e : i = j
            · subst e; exact hl1
            · exact HX.out i hi (by omega))
          clear hl1 c0 c1
          go_wp2_with fail
          exact ⟨⟨j + 1, m1, by omega, by go_num, rfl, by omega, hbw, HN⟩, by simp [intOf]; omega⟩
      · have hle : l.length ≤ 1048576 := by omega
        obtain rfl : j = l.length := by omega
        go_wp2_with fail
        go_ret
        exact ⟨.inr ⟨m, rfl, hmn, hle, fun i hi => HX.out i hi hi⟩, hbel⟩
set_option maxHeartbeats 1600000 in
theorem szGAlt_any {S : Nat → Prop} (t : DGAlt) (v0 : Value) (w : World) (n : Nat) (h : DGAltL w S t v0) (hs0 : t.label.size ≤ maxLen) (hn : n ≤ 1048576) :
    Calls Tryz.prog 92 #[.agg #[v0, .string t.label], .int .i64 n] w fun e w' => Left n t.Sm e ∧ Below w.heap.size w w' := by
  unfold maxLen at hs0
  have HF0 := (show Hid _ from fun (w' : World) (m : Nat) (hb : Below w.heap.size w w') (hm : m ≤ 1048576) => szInts_any t.items v0 w' m (h.items.still hb) hm)
  obtain ⟨a0, p0, rfl, _⟩ := h.items.form
  clear h
  have hbw0 := bel_alloc w (.cells ([.slice a0 t.items.length p0, .string t.label] : List Value).toArray 135)
  have HB0 := (show Hid _ from Box.new w 135 [.slice a0 t.items.length p0, .string t.label])
  go_enter Tryz.func92, Tryz.ntmps92
  have hcl0 := HF0.out (w.alloc (.cells ([.slice a0 t.items.length p0, .string t.label] : List Value).toArray 135)) n (hbw0) (by omega)
  have HCL0 := (show Hid _ from hcl0); clear hcl0
  go_wp2_with fail
  refine Calls.mono HCL0.out ?_
  rintro e w0 ⟨rfl | ⟨m0, rfl, hm0, sm0⟩, hb0⟩
  · have hbw := bel_trans hbw0 hb0
    go_wp2_with fail
    go_ret
    exact ⟨.inl rfl, hbw⟩
  have hbw1 := bel_trans hbw0 hb0
  have HB1 := (show Hid _ from Box.still HB0.out hb0)
  clear hb0 HCL0
  have x1 : w0.cell? ⟨w.heap.size, 1, none⟩ = some (.string t.label) := HB1.out.cell 1 (by simp)
  have SM0 := (show Hid _ from sm0); clear sm0
  by_cases h1 : (m0 : Int) - t.label.size < 0
  · skip
    go_wp2_with fail
    go_ret
    exact ⟨.inl rfl, hbw1⟩
  go_wp2_with fail
  go_ret
  exact ⟨.inr ⟨m0 - t.label.size, by rw [show ((m0 - t.label.size : Nat) : Int) = (m0 : Int) - t.label.size by omega]; rfl, by omega, ⟨SM0.out, by omega⟩⟩, hbw1⟩
set_option maxHeartbeats 1600000 in
theorem szGAltR_any {S : Nat → Prop} (l : List DGAlt) (v : Value) (w : World) (n : Nat) (h : GAltR w S l v) (hn : n ≤ 1048576) :
    Calls Tryz.prog 66 #[v, .int .i64 n] w fun e w' => Left n (GAltR.Sm l) e ∧ Below w.heap.size w w' := by
  obtain ⟨a, cap, b, off, s0, rfl, hc, hm, ha, hcell, r0⟩ := h
  have HC := (show Hid _ from hcell); clear hcell
  have HA := (show Hid _ from ha); clear ha
  have HR0 := (show Hid _ from r0); clear r0
  unfold maxLen at hm
  by_cases hlt : (n : Int) - l.length < 0
  · go_enter Tryz.func66, Tryz.ntmps66
    go_wp2_with fail
    go_ret
    exact ⟨.inl rfl, Below.refl _ _⟩
  · go_enter Tryz.func66, Tryz.ntmps66
    go_wp2_with fail
    go_loopw [1, 5] (fun u i wr => ∃ (j m : Nat), j ≤ l.length ∧ i = .int .i64 j ∧ u = .int .i64 m ∧ m ≤ n ∧ Below w.heap.size w wr ∧ Hid (∀ i (hi : i < l.length), i < j → l[i].Sm)) (fun _ i _ => l.length - (intOf i).toNat)
    case atStart => exact ⟨0, n - l.length, Nat.zero_le _, rfl, by go_num, by omega, Below.refl _ _, fun i hi h0 => absurd h0 (Nat.not_lt_zero _)⟩
    case round =>
      obtain ⟨j, m, hj, rfl, rfl, hmn, hbel, HX⟩ := hrel
      by_cases hjl : j < l.length
      · obtain ⟨rfl, _⟩ := HA.out (by omega)
        obtain ⟨c0, c1, zc0⟩ := HC.out j (by omega)
        rw [← hbel.cell (lt_of_cell c0)] at c0
        rw [← hbel.cell (lt_of_cell c1)] at c1
        have hcl := szGAlt_any l[j] _ wr m ⟨(HR0.out j hjl).still hbel⟩ zc0 (by omega)
        obtain ⟨a0x, cap0x, e0x, _⟩ := (HR0.out j hjl).form
        rw [e0x] at c0 hcl
        clear e0x
        have HCL := (show Hid _ from hcl); clear hcl
        go_wp2_with fail
        refine Calls.mono HCL.out ?_
        rintro e w1 ⟨rfl | ⟨m1, rfl, hm1, hl1⟩, hb1⟩
        · have hbw := bel_trans hbel hb1
          clear c0 c1
          go_wp2_with fail
          go_ret
          exact ⟨.inl rfl, hbw⟩
        · have hbw := bel_trans hbel hb1
          have HN := (show Hid (∀ i (hi : i < l.length), i < j + 1 → l[i].Sm) from fun i hi hij => by
            by_cases e : i = j
            · subst e; exact hl1
            · exact HX.out i hi (by omega))
          clear hl1 c0 c1
          go_wp2_with fail
          exact ⟨⟨j + 1, m1, by omega, by go_num, rfl, by omega, hbw, HN⟩, by simp [intOf]; omega⟩
      · have hle : l.length ≤ 1048576 := by omega
        obtain rfl : j = l.length := by omega
        go_wp2_with fail
        go_ret
        exact ⟨.inr ⟨m, rfl, hmn, hle, fun i hi => HX.out i hi hi⟩, hbel⟩
set_option maxHeartbeats 1600000 in
theorem szGRule_any {S : Nat → Prop} (t : DGRule) (v1 : Value) (w : World) (n : Nat) (h : DGRuleL w S t v1) (hs0 : t.name.size ≤ maxLen) (hn : n ≤ 1048576) :
    Calls Tryz.prog 28 #[.agg #[.string t.name, v1], .int .i64 n] w fun e w' => Left n t.Sm e ∧ Below w.heap.size w w' := by
  unfold maxLen at hs0
  have HF1 := (show Hid _ from fun (w' : World) (m : Nat) (hb : Below w.heap.size w w') (hm : m ≤ 1048576) => szGAltR_any t.alts v1 w' m (h.alts.still hb) hm)
  obtain ⟨a1, p1, rfl, _⟩ := h.alts.form
  clear h
  have hbw0 := bel_alloc w (.cells ([.string t.name, .slice a1 t.alts.length p1] : List Value).toArray 73)
  have HB0 := (show Hid _ from Box.new w 73 [.string t.name, .slice a1 t.alts.length p1])
  by_cases h0 : (n : Int) - t.name.size < 0
  · go_enter Tryz.func28, Tryz.ntmps28
    go_wp2_with fail
    go_ret
    exact ⟨.inl rfl, hbw0⟩
  go_enter Tryz.func28, Tryz.ntmps28
  have hcl1 := HF1.out (w.alloc (.cells ([.string t.name, .slice a1 t.alts.length p1] : List Value).toArray 73)) (n - t.name.size) (hbw0) (by omega)
  rw [show ((n - t.name.size : Nat) : Int) = (n : Int) - t.name.size by omega] at hcl1
  have HCL1 := (show Hid _ from hcl1); clear hcl1
  go_wp2_with fail
  refine Calls.mono HCL1.out ?_
  rintro e w1 ⟨rfl | ⟨m1, rfl, hm1, sm1⟩, hb1⟩
  · have hbw := bel_trans hbw0 hb1
    go_wp2_with fail
    go_ret
    exact ⟨.inl rfl, hbw⟩
  have hbw2 := bel_trans hbw0 hb1
  have HB2 := (show Hid _ from Box.still HB0.out hb1)
  clear hb1 HCL1
  have SM1 := (show Hid _ from sm1); clear sm1
  go_wp2_with fail
  go_ret
  exact ⟨.inr ⟨m1, rfl, by omega, ⟨by omega, SM1.out⟩⟩, hbw2⟩
set_option maxHeartbeats 1600000 in
theorem szGRuleR_any {S : Nat → Prop} (l : List DGRule) (v : Value) (w : World) (n : Nat) (h : GRuleR w S l v) (hn : n ≤ 1048576) :
    Calls Tryz.prog 11 #[v, .int .i64 n] w fun e w' => Left n (GRuleR.Sm l) e ∧ Below w.heap.size w w' := by
  obtain ⟨a, cap, b, off, s1, rfl, hc, hm, ha, hcell, r1⟩ := h
  have HC := (show Hid _ from hcell); clear hcell
  have HA := (show Hid _ from ha); clear ha
  have HR1 := (show Hid _ from r1); clear r1
  unfold maxLen at hm
  by_cases hlt : (n : Int) - l.length < 0
  · go_enter Tryz.func11, Tryz.ntmps11
    go_wp2_with fail
    go_ret
    exact ⟨.inl rfl, Below.refl _ _⟩
  · go_enter Tryz.func11, Tryz.ntmps11
    go_wp2_with fail
    go_loopw [1, 5] (fun u i wr => ∃ (j m : Nat), j ≤ l.length ∧ i = .int .i64 j ∧ u = .int .i64 m ∧ m ≤ n ∧ Below w.heap.size w wr ∧ Hid (∀ i (hi : i < l.length), i < j → l[i].Sm)) (fun _ i _ => l.length - (intOf i).toNat)
    case atStart => exact ⟨0, n - l.length, Nat.zero_le _, rfl, by go_num, by omega, Below.refl _ _, fun i hi h0 => absurd h0 (Nat.not_lt_zero _)⟩
    case round =>
      obtain ⟨j, m, hj, rfl, rfl, hmn, hbel, HX⟩ := hrel
      by_cases hjl : j < l.length
      · obtain ⟨rfl, _⟩ := HA.out (by omega)
        obtain ⟨c0, c1, zc0⟩ := HC.out j (by omega)
        rw [← hbel.cell (lt_of_cell c0)] at c0
        rw [← hbel.cell (lt_of_cell c1)] at c1
        have hcl := szGRule_any l[j] _ wr m ⟨(HR1.out j hjl).still hbel⟩ zc0 (by omega)
        obtain ⟨a1x, cap1x, e1x, _⟩ := (HR1.out j hjl).form
        rw [e1x] at c1 hcl
        clear e1x
        have HCL := (show Hid _ from hcl); clear hcl
        go_wp2_with fail
        refine Calls.mono HCL.out ?_
        rintro e w1 ⟨rfl | ⟨m1, rfl, hm1, hl1⟩, hb1⟩
        · have hbw := bel_trans hbel hb1
          clear c0 c1
          go_wp2_with fail
          go_ret
          exact ⟨.inl rfl, hbw⟩
        · have hbw := bel_trans hbel hb1
          have HN := (show Hid (∀ i (hi : i < l.length), i < j + 1 → l[i].Sm) from fun i hi hij => by
            by_cases e : i = j
            · subst e; exact hl1
            · exact HX.out i hi (by omega))
          clear hl1 c0 c1
          go_wp2_with fail
          exact ⟨⟨j + 1, m1, by omega, by go_num, rfl, by omega, hbw, HN⟩, by simp [intOf]; omega⟩
      · have hle : l.length ≤ 1048576 := by omega
        obtain rfl : j = l.length := by omega
        go_wp2_with fail
        go_ret
        exact ⟨.inr ⟨m, rfl, hmn, hle, fun i hi => HX.out i hi hi⟩, hbel⟩
set_option maxHeartbeats 1600000 in
theorem szPart_any {S : Nat → Prop} (t : DPart) (v2 : Value) (w : World) (n : Nat) (h : DPartL w S t v2) (hs0 : t.s.size ≤ maxLen) (hn : n ≤ 1048576) :
    Calls Tryz.prog 29 #[.agg #[.int .i64 t.kind, .string t.s, v2], .int .i64 n] w fun e w' => Left n t.Sm e ∧ Below w.heap.size w w' := by
  unfold maxLen at hs0
  have HF2 := (show Hid _ from fun (w' : World) (m : Nat) (hb : Below w.heap.size w w') (hm : m ≤ 1048576) => szIRws_any t.alts v2 w' m (h.alts.still hb) hm)
  obtain ⟨a2, p2, rfl, _⟩ := h.alts.form
  clear h
  have hbw0 := bel_alloc w (.cells ([.int .i64 t.kind, .string t.s, .slice a2 t.alts.length p2] : List Value).toArray 77)
  have HB0 := (show Hid _ from Box.new w 77 [.int .i64 t.kind, .string t.s, .slice a2 t.alts.length p2])
  by_cases h1 : (n : Int) - t.s.size < 0
  · go_enter Tryz.func29, Tryz.ntmps29
    go_wp2_with fail
    go_ret
    exact ⟨.inl rfl, hbw0⟩
  go_enter Tryz.func29, Tryz.ntmps29
  have hcl2 := HF2.out (w.alloc (.cells ([.int .i64 t.kind, .string t.s, .slice a2 t.alts.length p2] : List Value).toArray 77)) (n - t.s.size) (hbw0) (by omega)
  rw [show ((n - t.s.size : Nat) : Int) = (n : Int) - t.s.size by omega] at hcl2
  have HCL2 := (show Hid _ from hcl2); clear hcl2
  go_wp2_with fail
  refine Calls.mono HCL2.out ?_
  rintro e w2 ⟨rfl | ⟨m2, rfl, hm2, sm2⟩, hb2⟩
  · have hbw := bel_trans hbw0 hb2
    go_wp2_with fail
    go_ret
    exact ⟨.inl rfl, hbw⟩
  have hbw3 := bel_trans hbw0 hb2
  have HB3 := (show Hid _ from Box.still HB0.out hb2)
  clear hb2 HCL2
  have SM2 := (show Hid _ from sm2); clear sm2
  go_wp2_with fail
  go_ret
  exact ⟨.inr ⟨m2, rfl, by omega, ⟨by omega, SM2.out⟩⟩, hbw3⟩
set_option maxHeartbeats 1600000 in
theorem szPartR_any {S : Nat → Prop} (l : List DPart) (v : Value) (w : World) (n : Nat) (h : PartR w S l v) (hn : n ≤ 1048576) :
    Calls Tryz.prog 12 #[v, .int .i64 n] w fun e w' => Left n (PartR.Sm l) e ∧ Below w.heap.size w w' := by
  obtain ⟨a, cap, b, off, s2, rfl, hc, hm, ha, hcell, r2⟩ := h
  have HC := (show Hid _ from hcell); clear hcell
  have HA := (show Hid _ from ha); clear ha
  have HR2 := (show Hid _ from r2); clear r2
  unfold maxLen at hm
  by_cases hlt : (n : Int) - l.length < 0
  · go_enter Tryz.func12, Tryz.ntmps12
    go_wp2_with fail
    go_ret
    exact ⟨.inl rfl, Below.refl _ _⟩
  · go_enter Tryz.func12, Tryz.ntmps12
    go_wp2_with fail
    go_loopw [1, 5] (fun u i wr => ∃ (j m : Nat), j ≤ l.length ∧ i = .int .i64 j ∧ u = .int .i64 m ∧ m ≤ n ∧ Below w.heap.size w wr ∧ Hid (∀ i (hi : i < l.length), i < j → l[i].Sm)) (fun _ i _ => l.length - (intOf i).toNat)
    case atStart => exact ⟨0, n - l.length, Nat.zero_le _, rfl, by go_num, by omega, Below.refl _ _, fun i hi h0 => absurd h0 (Nat.not_lt_zero _)⟩
    case round =>
      obtain ⟨j, m, hj, rfl, rfl, hmn, hbel, HX⟩ := hrel
      by_cases hjl : j < l.length
      · obtain ⟨rfl, _⟩ := HA.out (by omega)
        obtain ⟨c0, c1, c2, zc0⟩ := HC.out j (by omega)
        rw [← hbel.cell (lt_of_cell c0)] at c0
        rw [← hbel.cell (lt_of_cell c1)] at c1
        rw [← hbel.cell (lt_of_cell c2)] at c2
        have hcl := szPart_any l[j] _ wr m ⟨(HR2.out j hjl).still hbel⟩ zc0 (by omega)
        obtain ⟨a2x, cap2x, e2x, _⟩ := (HR2.out j hjl).form
        rw [e2x] at c2 hcl
        clear e2x
        have HCL := (show Hid _ from hcl); clear hcl
        go_wp2_with fail
        refine Calls.mono HCL.out ?_
        rintro e w1 ⟨rfl | ⟨m1, rfl, hm1, hl1⟩, hb1⟩
        · have hbw := bel_trans hbel hb1
          clear c0 c1 c2
          go_wp2_with fail
          go_ret
          exact ⟨.inl rfl, hbw⟩
        · have hbw := bel_trans hbel hb1
          have HN := (show Hid (∀ i (hi : i < l.length), i < j + 1 → l[i].Sm) from fun i hi hij => by
            by_cases e : i = j
            · subst e; exact hl1
            · exact HX.out i hi (by omega))
          clear hl1 c0 c1 c2
          go_wp2_with fail
          exact ⟨⟨j + 1, m1, by omega, by go_num, rfl, by omega, hbw, HN⟩, by simp [intOf]; omega⟩
      · have hle : l.length ≤ 1048576 := by omega
        obtain rfl : j = l.length := by omega
        go_wp2_with fail
        go_ret
        exact ⟨.inr ⟨m, rfl, hmn, hle, fun i hi => HX.out i hi hi⟩, hbel⟩
set_option maxHeartbeats 1600000 in
theorem szGrammar_any {S : Nat → Prop} (t : DGrammar) (v1 v2 v3 v4 : Value) (w : World) (n : Nat) (h : DGrammarL w S t v1 v2 v3 v4) (hs0 : t.name.size ≤ maxLen) (hn : n ≤ 1048576) :
    Calls Tryz.prog 4 #[.agg #[.string t.name, v1, v2, v3, v4], .int .i64 n] w fun e w' => Left n t.Sm e ∧ Below w.heap.size w w' := by
  unfold maxLen at hs0
  have HF1 := (show Hid _ from fun (w' : World) (m : Nat) (hb : Below w.heap.size w w') (hm : m ≤ 1048576) => szTokenR_any t.tokens v1 w' m (h.tokens.still hb) hm)
  have HF2 := (show Hid _ from fun (w' : World) (m : Nat) (hb : Below w.heap.size w w') (hm : m ≤ 1048576) => szLevelR_any t.levels v2 w' m (h.levels.still hb) hm)
  have HF3 := (show Hid _ from fun (w' : World) (m : Nat) (hb : Below w.heap.size w w') (hm : m ≤ 1048576) => szGRuleR_any t.rules v3 w' m (h.rules.still hb) hm)
  have HF4 := (show Hid _ from fun (w' : World) (m : Nat) (hb : Below w.heap.size w w') (hm : m ≤ 1048576) => szPartR_any t.parts v4 w' m (h.parts.still hb) hm)
  obtain ⟨a1, p1, rfl, _⟩ := h.tokens.form
  obtain ⟨a2, p2, rfl, _⟩ := h.levels.form
  obtain ⟨a3, p3, rfl, _⟩ := h.rules.form
  obtain ⟨a4, p4, rfl, _⟩ := h.parts.form
  clear h
  have hbw0 := bel_alloc w (.cells ([.string t.name, .slice a1 t.tokens.length p1, .slice a2 t.levels.length p2, .slice a3 t.rules.length p3, .slice a4 t.parts.length p4] : List Value).toArray 27)
  have HB0 := (show Hid _ from Box.new w 27 [.string t.name, .slice a1 t.tokens.length p1, .slice a2 t.levels.length p2, .slice a3 t.rules.length p3, .slice a4 t.parts.length p4])
  by_cases h0 : (n : Int) - t.name.size < 0
  · go_enter Tryz.func4, Tryz.ntmps4
    go_wp2_with fail
    go_ret
    exact ⟨.inl rfl, hbw0⟩
  go_enter Tryz.func4, Tryz.ntmps4
  have hcl1 := HF1.out (w.alloc (.cells ([.string t.name, .slice a1 t.tokens.length p1, .slice a2 t.levels.length p2, .slice a3 t.rules.length p3, .slice a4 t.parts.length p4] : List Value).toArray 27)) (n - t.name.size) (hbw0) (by omega)
  rw [show ((n - t.name.size : Nat) : Int) = (n : Int) - t.name.size by omega] at hcl1
  have HCL1 := (show Hid _ from hcl1); clear hcl1
  go_wp2_with fail
  refine Calls.mono HCL1.out ?_
  rintro e w1 ⟨rfl | ⟨m1, rfl, hm1, sm1⟩, hb1⟩
  · have hbw := bel_trans hbw0 hb1
    go_wp2_with fail
    go_ret
    exact ⟨.inl rfl, hbw⟩
  have hbw2 := bel_trans hbw0 hb1
  have HB2 := (show Hid _ from Box.still HB0.out hb1)
  clear hb1 HCL1
  have x2 : w1.cell? ⟨w.heap.size, 2, none⟩ = some (.slice a2 t.levels.length p2) := HB2.out.cell 2 (by simp)
  have x3 : w1.cell? ⟨w.heap.size, 3, none⟩ = some (.slice a3 t.rules.length p3) := HB2.out.cell 3 (by simp)
  have x4 : w1.cell? ⟨w.heap.size, 4, none⟩ = some (.slice a4 t.parts.length p4) := HB2.out.cell 4 (by simp)
  have SM1 := (show Hid _ from sm1); clear sm1
  have hcl2 := HF2.out (w1) m1 (hbw2) (by omega)
  have HCL2 := (show Hid _ from hcl2); clear hcl2
  go_wp2_with fail
  refine Calls.mono HCL2.out ?_
  rintro e w2 ⟨rfl | ⟨m2, rfl, hm2, sm2⟩, hb2⟩
  · have hbw := bel_trans hbw2 hb2
    go_wp2_with fail
    go_ret
    exact ⟨.inl rfl, hbw⟩
  have hbw3 := bel_trans hbw2 hb2
  have HB3 := (show Hid _ from Box.still HB2.out hb2)
  clear hb2 HCL2 x2 x3 x4
  have x3 : w2.cell? ⟨w.heap.size, 3, none⟩ = some (.slice a3 t.rules.length p3) := HB3.out.cell 3 (by simp)
  have x4 : w2.cell? ⟨w.heap.size, 4, none⟩ = some (.slice a4 t.parts.length p4) := HB3.out.cell 4 (by simp)
  have SM2 := (show Hid _ from sm2); clear sm2
  have hcl3 := HF3.out (w2) m2 (hbw3) (by omega)
  have HCL3 := (show Hid _ from hcl3); clear hcl3
  go_wp2_with fail
  refine Calls.mono HCL3.out ?_
  rintro e w3 ⟨rfl | ⟨m3, rfl, hm3, sm3⟩, hb3⟩
  · have hbw := bel_trans hbw3 hb3
    go_wp2_with fail
    go_ret
    exact ⟨.inl rfl, hbw⟩
  have hbw4 := bel_trans hbw3 hb3
  have HB4 := (show Hid _ from Box.still HB3.out hb3)
  clear hb3 HCL3 x3 x4
  have x4 : w3.cell? ⟨w.heap.size, 4, none⟩ = some (.slice a4 t.parts.length p4) := HB4.out.cell 4 (by simp)
  have SM3 := (show Hid _ from sm3); clear sm3
  have hcl4 := HF4.out (w3) m3 (hbw4) (by omega)
  have HCL4 := (show Hid _ from hcl4); clear hcl4
  go_wp2_with fail
  refine Calls.mono HCL4.out ?_
  rintro e w4 ⟨rfl | ⟨m4, rfl, hm4, sm4⟩, hb4⟩
  · have hbw := bel_trans hbw4 hb4
    go_wp2_with fail
    go_ret
    exact ⟨.inl rfl, hbw⟩
  have hbw5 := bel_trans hbw4 hb4
  have HB5 := (show Hid _ from Box.still HB4.out hb4)
  clear hb4 HCL4 x4
  have SM4 := (show Hid _ from sm4); clear sm4
  go_wp2_with fail
  go_ret
  exact ⟨.inr ⟨m4, rfl, by omega, ⟨by omega, SM1.out, SM2.out, SM3.out, SM4.out⟩⟩, hbw5⟩
end Go.Proofs.YtgjnlhidbjpdkajGreat
