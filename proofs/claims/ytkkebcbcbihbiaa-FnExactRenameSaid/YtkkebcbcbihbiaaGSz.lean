import Derived.Test.YtkkebcbcbihbiaaGDat
namespace Go.Proofs.Ytkkebcbcbihbiaa
open Go.RowKit Go.Deep
set_option linter.unusedVariables false
set_option maxRecDepth 100000
set_option linter.unusedSimpArgs false

set_option maxHeartbeats 1600000 in
theorem szSEdgeR_any {S : Nat → Prop} (l : List DSEdge) (v : Value) (w : World) (n : Nat) (h : SEdgeR w S l v) (hn : n ≤ 1048576) :
    Calls Try.prog 36 #[v, .int .i64 n] w fun e w' => Left n (SEdgeR.Sm l) e ∧ Below w.heap.size w w' := by
  obtain ⟨a, cap, b, off, rfl, hc, hm, ha, hcell⟩ := h
  have HC := (show Hid _ from hcell); clear hcell
  have HA := (show Hid _ from ha); clear ha
  unfold maxLen at hm
  by_cases hlt : (n : Int) - l.length < 0
  · go_enter Try.func36, Try.ntmps36
    go_wp2_with fail
    go_ret
    exact ⟨.inl rfl, Below.refl _ _⟩
  · go_enter Try.func36, Try.ntmps36
    go_wp2_with fail
    go_ret
    exact ⟨.inr ⟨n - l.length, by rw [show ((n - l.length : Nat) : Int) = (n : Int) - l.length by omega]; rfl, by omega, ⟨by omega, fun i hi => ⟨⟩⟩⟩, Below.refl _ _⟩
set_option maxHeartbeats 1600000 in
theorem szSpot_any (t : DSpot) (w : World) (n : Nat) (hs0 : t.name.size ≤ maxLen) (hn : n ≤ 1048576) :
    Calls Try.prog 76 #[.agg #[.int .i64 t.scope, .string t.name], .int .i64 n] w fun e w' => Left n t.Sm e ∧ Below w.heap.size w w' := by
  unfold maxLen at hs0
  have hbw0 := bel_alloc w (.cells ([.int .i64 t.scope, .string t.name] : List Value).toArray 104)
  by_cases h1 : (n : Int) - t.name.size < 0
  · go_enter Try.func76, Try.ntmps76
    go_wp2_with fail
    go_ret
    exact ⟨.inl rfl, hbw0⟩
  go_enter Try.func76, Try.ntmps76
  go_wp2_with fail
  go_ret
  exact ⟨.inr ⟨n - t.name.size, by rw [show ((n - t.name.size : Nat) : Int) = (n : Int) - t.name.size by omega]; rfl, by omega, ⟨by omega⟩⟩, hbw0⟩
set_option maxHeartbeats 1600000 in
theorem szSpotR_any {S : Nat → Prop} (l : List DSpot) (v : Value) (w : World) (n : Nat) (h : SpotR w S l v) (hn : n ≤ 1048576) :
    Calls Try.prog 37 #[v, .int .i64 n] w fun e w' => Left n (SpotR.Sm l) e ∧ Below w.heap.size w w' := by
  obtain ⟨a, cap, b, off, rfl, hc, hm, ha, hcell⟩ := h
  have HC := (show Hid _ from hcell); clear hcell
  have HA := (show Hid _ from ha); clear ha
  unfold maxLen at hm
  by_cases hlt : (n : Int) - l.length < 0
  · go_enter Try.func37, Try.ntmps37
    go_wp2_with fail
    go_ret
    exact ⟨.inl rfl, Below.refl _ _⟩
  · go_enter Try.func37, Try.ntmps37
    go_wp2_with fail
    go_loopw [1, 5] (fun u i wr => ∃ (j m : Nat), j ≤ l.length ∧ i = .int .i64 j ∧ u = .int .i64 m ∧ m ≤ n ∧ Below w.heap.size w wr ∧ Hid (∀ i (hi : i < l.length), i < j → l[i].Sm)) (fun _ i _ => l.length - (intOf i).toNat)
    case atStart => exact ⟨0, n - l.length, Nat.zero_le _, rfl, by go_num, by omega, Below.refl _ _, fun i hi h0 => absurd h0 (Nat.not_lt_zero _)⟩
    case round =>
      obtain ⟨j, m, hj, rfl, rfl, hmn, hbel, HX⟩ := hrel
      by_cases hjl : j < l.length
      · obtain ⟨rfl, _⟩ := HA.out (by omega)
        obtain ⟨c0, c1, zc0⟩ := HC.out j (by omega)
        rw [← hbel.cell (lt_of_cell c0)] at c0
        rw [← hbel.cell (lt_of_cell c1)] at c1
        have hcl := szSpot_any l[j] wr m zc0 (by omega)
        have HCL := (show Hid _ from hcl); clear hcl
        go_wp2_with fail
        refine Calls.mono HCL.out ?_
        rintro e w1 ⟨rfl | ⟨m1, rfl, hm1, hl1⟩, hb1⟩
        · have hbw := bel_trans hbel hb1
          clear c0 c1
          go_wp2_with fail
          go_ret
          exact ⟨.inl rfl, hbw⟩
        · have hbw := bel_trans hbel hb1
          have HN := (show Hid (∀ i (hi : i < l.length), i < j + 1 → l[i].Sm) from fun i hi hij => by
            by_cases e : i = j
            · subst e; exact hl1
            · exact HX.out i hi (by omega))
          clear hl1 c0 c1
          go_wp2_with fail
          exact ⟨⟨j + 1, m1, by omega, by go_num, rfl, by omega, hbw, HN⟩, by simp [intOf]; omega⟩
      · have hle : l.length ≤ 1048576 := by omega
        obtain rfl : j = l.length := by omega
        go_wp2_with fail
        go_ret
        exact ⟨.inr ⟨m, rfl, hmn, hle, fun i hi => HX.out i hi hi⟩, hbel⟩
set_option maxHeartbeats 1600000 in
theorem szSg_any {S : Nat → Prop} (t : DSg) (v1 v2 v3 : Value) (w : World) (n : Nat) (h : DSgL w S t v1 v2 v3) (hn : n ≤ 1048576) :
    Calls Try.prog 9 #[.agg #[.int .i64 t.scopes, v1, v2, v3], .int .i64 n] w fun e w' => Left n t.Sm e ∧ Below w.heap.size w w' := by
  have HF1 := (show Hid _ from fun (w' : World) (m : Nat) (hb : Below w.heap.size w w') (hm : m ≤ 1048576) => szSEdgeR_any t.edges v1 w' m (h.edges.still hb) hm)
  have HF2 := (show Hid _ from fun (w' : World) (m : Nat) (hb : Below w.heap.size w w') (hm : m ≤ 1048576) => szSpotR_any t.decls v2 w' m (h.decls.still hb) hm)
  have HF3 := (show Hid _ from fun (w' : World) (m : Nat) (hb : Below w.heap.size w w') (hm : m ≤ 1048576) => szSpotR_any t.refs v3 w' m (h.refs.still hb) hm)
  obtain ⟨a1, p1, rfl, _⟩ := h.edges.form
  obtain ⟨a2, p2, rfl, _⟩ := h.decls.form
  obtain ⟨a3, p3, rfl, _⟩ := h.refs.form
  clear h
  have hbw0 := bel_alloc w (.cells ([.int .i64 t.scopes, .slice a1 t.edges.length p1, .slice a2 t.decls.length p2, .slice a3 t.refs.length p3] : List Value).toArray 25)
  have HB0 := (show Hid _ from Box.new w 25 [.int .i64 t.scopes, .slice a1 t.edges.length p1, .slice a2 t.decls.length p2, .slice a3 t.refs.length p3])
  go_enter Try.func9, Try.ntmps9
  have hcl1 := HF1.out (w.alloc (.cells ([.int .i64 t.scopes, .slice a1 t.edges.length p1, .slice a2 t.decls.length p2, .slice a3 t.refs.length p3] : List Value).toArray 25)) n (hbw0) (by omega)
  have HCL1 := (show Hid _ from hcl1); clear hcl1
  go_wp2_with fail
  refine Calls.mono HCL1.out ?_
  rintro e w1 ⟨rfl | ⟨m1, rfl, hm1, sm1⟩, hb1⟩
  · have hbw := bel_trans hbw0 hb1
    go_wp2_with fail
    go_ret
    exact ⟨.inl rfl, hbw⟩
  have hbw2 := bel_trans hbw0 hb1
  have HB2 := (show Hid _ from Box.still HB0.out hb1)
  clear hb1 HCL1
  have x2 : w1.cell? ⟨w.heap.size, 2, none⟩ = some (.slice a2 t.decls.length p2) := HB2.out.cell 2 (by simp)
  have x3 : w1.cell? ⟨w.heap.size, 3, none⟩ = some (.slice a3 t.refs.length p3) := HB2.out.cell 3 (by simp)
  have SM1 := (show Hid _ from sm1); clear sm1
  have hcl2 := HF2.out (w1) m1 (hbw2) (by omega)
  have HCL2 := (show Hid _ from hcl2); clear hcl2
  go_wp2_with fail
  refine Calls.mono HCL2.out ?_
  rintro e w2 ⟨rfl | ⟨m2, rfl, hm2, sm2⟩, hb2⟩
  · have hbw := bel_trans hbw2 hb2
    go_wp2_with fail
    go_ret
    exact ⟨.inl rfl, hbw⟩
  have hbw3 := bel_trans hbw2 hb2
  have HB3 := (show Hid _ from Box.still HB2.out hb2)
  clear hb2 HCL2 x2 x3
  have x3 : w2.cell? ⟨w.heap.size, 3, none⟩ = some (.slice a3 t.refs.length p3) := HB3.out.cell 3 (by simp)
  have SM2 := (show Hid _ from sm2); clear sm2
  have hcl3 := HF3.out (w2) m2 (hbw3) (by omega)
  have HCL3 := (show Hid _ from hcl3); clear hcl3
  go_wp2_with fail
  refine Calls.mono HCL3.out ?_
  rintro e w3 ⟨rfl | ⟨m3, rfl, hm3, sm3⟩, hb3⟩
  · have hbw := bel_trans hbw3 hb3
    go_wp2_with fail
    go_ret
    exact ⟨.inl rfl, hbw⟩
  have hbw4 := bel_trans hbw3 hb3
  have HB4 := (show Hid _ from Box.still HB3.out hb3)
  clear hb3 HCL3 x3
  have SM3 := (show Hid _ from sm3); clear sm3
  go_wp2_with fail
  go_ret
  exact ⟨.inr ⟨m3, rfl, by omega, ⟨SM1.out, SM2.out, SM3.out⟩⟩, hbw4⟩
end Go.Proofs.Ytkkebcbcbihbiaa
