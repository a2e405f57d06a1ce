import Derived.Test.YtokncahlcphhnaaDat
namespace Go.Proofs.Ytokncahlcphhnaa
open Go.RowKit Go.Deep
set_option linter.unusedVariables false
set_option maxRecDepth 100000
set_option linter.unusedSimpArgs false

theorem szInts_any {S : Nat → Prop} (l : List Int) (v : Value) (w : World) (n : Nat) (h : Ints w S l v) (hn : n ≤ 1048576) :
    Calls Try.prog 33 #[v, .int .i64 n] w fun e w' => Left n (Ints.Sm l) e ∧ Below w.heap.size w w' := by
  obtain ⟨a, cap, rfl, hm⟩ := h.form
  unfold maxLen at hm
  clear h
  unfold Ints.Sm
  generalize l.length = len at *
  by_cases hlt : (n : Int) - len < 0
  · go_enter Try.func33, Try.ntmps33
    go_wp2_with fail
    go_ret
    exact ⟨.inl rfl, Below.refl _ _⟩
  · go_enter Try.func33, Try.ntmps33
    go_wp2_with fail
    go_ret
    exact ⟨.inr ⟨n - len, by rw [show ((n - len : Nat) : Int) = (n : Int) - len by omega]; rfl, by omega, by omega⟩, Below.refl _ _⟩
set_option maxHeartbeats 1600000 in
theorem szLNode_any {S : Nat → Prop} (t : DLNode) (v3 : Value) (w : World) (n : Nat) (h : DLNodeL w S t v3) (hs0 : t.s.size ≤ maxLen) (hn : n ≤ 1048576) :
    Calls Try.prog 17 #[.agg #[.int .i64 t.kind, .string t.s, .int .i64 t.n, v3], .int .i64 n] w fun e w' => Left n t.Sm e ∧ Below w.heap.size w w' := by
  unfold maxLen at hs0
  have HF3 := (show Hid _ from fun (w' : World) (m : Nat) (hb : Below w.heap.size w w') (hm : m ≤ 1048576) => szInts_any t.kids v3 w' m (h.kids.still hb) hm)
  obtain ⟨a3, p3, rfl, _⟩ := h.kids.form
  clear h
  have hbw0 := bel_alloc w (.cells ([.int .i64 t.kind, .string t.s, .int .i64 t.n, .slice a3 t.kids.length p3] : List Value).toArray 41)
  have HB0 := (show Hid _ from Box.new w 41 [.int .i64 t.kind, .string t.s, .int .i64 t.n, .slice a3 t.kids.length p3])
  by_cases h1 : (n : Int) - t.s.size < 0
  · go_enter Try.func17, Try.ntmps17
    go_wp2_with fail
    go_ret
    exact ⟨.inl rfl, hbw0⟩
  go_enter Try.func17, Try.ntmps17
  have hcl3 := HF3.out (w.alloc (.cells ([.int .i64 t.kind, .string t.s, .int .i64 t.n, .slice a3 t.kids.length p3] : List Value).toArray 41)) (n - t.s.size) (hbw0) (by omega)
  rw [show ((n - t.s.size : Nat) : Int) = (n : Int) - t.s.size by omega] at hcl3
  have HCL3 := (show Hid _ from hcl3); clear hcl3
  go_wp2_with fail
  refine Calls.mono HCL3.out ?_
  rintro e w3 ⟨rfl | ⟨m3, rfl, hm3, sm3⟩, hb3⟩
  · have hbw := bel_trans hbw0 hb3
    go_wp2_with fail
    go_ret
    exact ⟨.inl rfl, hbw⟩
  have hbw4 := bel_trans hbw0 hb3
  have HB4 := (show Hid _ from Box.still HB0.out hb3)
  clear hb3 HCL3
  have SM3 := (show Hid _ from sm3); clear sm3
  go_wp2_with fail
  go_ret
  exact ⟨.inr ⟨m3, rfl, by omega, ⟨by omega, SM3.out⟩⟩, hbw4⟩
set_option maxHeartbeats 1600000 in
theorem szLNodeR_any {S : Nat → Prop} (l : List DLNode) (v : Value) (w : World) (n : Nat) (h : LNodeR w S l v) (hn : n ≤ 1048576) :
    Calls Try.prog 6 #[v, .int .i64 n] w fun e w' => Left n (LNodeR.Sm l) e ∧ Below w.heap.size w w' := by
  obtain ⟨a, cap, b, off, s3, rfl, hc, hm, ha, hcell, r3⟩ := h
  have HC := (show Hid _ from hcell); clear hcell
  have HA := (show Hid _ from ha); clear ha
  have HR3 := (show Hid _ from r3); clear r3
  unfold maxLen at hm
  by_cases hlt : (n : Int) - l.length < 0
  · go_enter Try.func6, Try.ntmps6
    go_wp2_with fail
    go_ret
    exact ⟨.inl rfl, Below.refl _ _⟩
  · go_enter Try.func6, Try.ntmps6
    go_wp2_with fail
    go_loopw [1, 5] (fun u i wr => ∃ (j m : Nat), j ≤ l.length ∧ i = .int .i64 j ∧ u = .int .i64 m ∧ m ≤ n ∧ Below w.heap.size w wr ∧ Hid (∀ i (hi : i < l.length), i < j → l[i].Sm)) (fun _ i _ => l.length - (intOf i).toNat)
    case atStart => exact ⟨0, n - l.length, Nat.zero_le _, rfl, by go_num, by omega, Below.refl _ _, fun i hi h0 => absurd h0 (Nat.not_lt_zero _)⟩
    case round =>
      obtain ⟨j, m, hj, rfl, rfl, hmn, hbel, HX⟩ := hrel
      by_cases hjl : j < l.length
      · obtain ⟨rfl, _⟩ := HA.out (by omega)
        obtain ⟨c0, c1, c2, c3, zc0⟩ := HC.out j (by omega)
        rw [← hbel.cell (lt_of_cell c0)] at c0
        rw [← hbel.cell (lt_of_cell c1)] at c1
        rw [← hbel.cell (lt_of_cell c2)] at c2
        rw [← hbel.cell (lt_of_cell c3)] at c3
        have hcl := szLNode_any l[j] _ wr m ⟨(HR3.out j hjl).still hbel⟩ zc0 (by omega)
        obtain ⟨a3x, cap3x, e3x, _⟩ := (HR3.out j hjl).form
        rw [e3x] at c3 hcl
        clear e3x
        have HCL := (show Hid _ from hcl); clear hcl
        go_wp2_with fail
        refine Calls.mono HCL.out ?_
        rintro e w1 ⟨rfl | ⟨m1, rfl, hm1, hl1⟩, hb1⟩
        · have hbw := bel_trans hbel hb1
          clear c0 c1 c2 c3
          go_wp2_with fail
          go_ret
          exact ⟨.inl rfl, hbw⟩
        · have hbw := bel_trans hbel hb1
          have HN := (show Hid (∀ i (hi : i < l.length), i < j + 1 → l[i].Sm) from fun i hi hij => by
            by_cases e : i = j
            · subst e; exact hl1
            · exact HX.out i hi (by omega))
          clear hl1 c0 c1 c2 c3
          go_wp2_with fail
          exact ⟨⟨j + 1, m1, by omega, by go_num, rfl, by omega, hbw, HN⟩, by simp [intOf]; omega⟩
      · have hle : l.length ≤ 1048576 := by omega
        obtain rfl : j = l.length := by omega
        go_wp2_with fail
        go_ret
        exact ⟨.inr ⟨m, rfl, hmn, hle, fun i hi => HX.out i hi hi⟩, hbel⟩
end Go.Proofs.Ytokncahlcphhnaa
