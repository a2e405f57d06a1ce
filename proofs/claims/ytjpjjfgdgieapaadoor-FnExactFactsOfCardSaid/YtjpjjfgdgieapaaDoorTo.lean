import Derived.Test.YtjpjjfgdgieapaaDoorDat
namespace Go.Proofs.YtjpjjfgdgieapaaDoor
open Go.RowKit Go.Deep
set_option linter.unusedVariables false
set_option maxRecDepth 100000
set_option linter.unusedSimpArgs false

set_option maxHeartbeats 400000 in
theorem szStrs_any {S : Nat → Prop} (l : List ByteArray) (v : Value) (w : World) (n : Nat) (h : Strs w S l v) (hn : n ≤ 1048576) :
    Calls Tryd.prog 14 #[v, .int .i64 n] w fun e w' => Left n (l.length ≤ 1048576) e ∧ Below w.heap.size w w' := by
  obtain ⟨a, cap, b, off, rfl, hc, hm, ha, hcell⟩ := h
  have HC := (show Hid _ from hcell); clear hcell
  have HA := (show Hid _ from ha); clear ha
  unfold maxLen at hm
  by_cases hlt : (n : Int) - l.length < 0
  · go_enter Tryd.func14, Tryd.ntmps14
    go_wp2_with fail
    go_ret
    exact ⟨.inl rfl, Below.refl _ _⟩
  · go_enter Tryd.func14, Tryd.ntmps14
    go_wp2_with fail
    go_loopw [1, 5] (fun u i wr => ∃ (j m : Nat), j ≤ l.length ∧ i = .int .i64 j ∧ u = .int .i64 m ∧ m ≤ n ∧ Below w.heap.size w wr) (fun _ i _ => l.length - (intOf i).toNat)
    case atStart => exact ⟨0, n - l.length, Nat.zero_le _, rfl, by go_num, by omega, Below.refl _ _⟩
    case round =>
      obtain ⟨j, m, hj, rfl, rfl, hmn, hbel⟩ := hrel
      by_cases hjl : j < l.length
      · obtain ⟨rfl, _⟩ := HA.out (by omega)
        obtain ⟨c0, hs⟩ := HC.out j (by omega)
        unfold maxLen at hs
        rw [← hbel.cell (lt_of_cell c0)] at c0
        by_cases hlt2 : (m : Int) - l[j].size < 0
        · go_wp2_with fail
          go_ret
          exact ⟨.inl rfl, hbel⟩
        · go_wp2_with fail
          exact ⟨⟨j + 1, m - l[j].size, by omega, by go_num, by go_num, by omega, hbel⟩, by simp [intOf]; omega⟩
      · obtain rfl : j = l.length := by omega
        go_wp2_with fail
        go_ret
        exact ⟨.inr ⟨m, rfl, hmn, by omega⟩, hbel⟩
set_option maxHeartbeats 400000 in
theorem szProd_any {S : Nat → Prop} (t : Pd) (v : Value) (w : World) (n : Nat) (h : Ints w S t.right v) (hs : t.label.size ≤ maxLen) (hn : n ≤ 1048576) :
    Calls Tryd.prog 44 #[.agg #[.int .i64 t.left, v, .string t.label, .int .i64 t.lev, .int .i64 t.asc], .int .i64 n] w fun e w' => Left n (t.right.length ≤ 1048576) e ∧ Below w.heap.size w w' := by
  unfold maxLen at hs
  have HI := (show Hid _ from fun (o : Obj) => szInts_any t.right v (w.alloc o) n (h.still (bel_alloc _ _)) hn)
  obtain ⟨a, cap, rfl, _⟩ := h.form
  clear h
  go_enter Tryd.func44, Tryd.ntmps44
  go_wp2_with fail
  refine Calls.mono (HI.out _) ?_
  rintro e w1 ⟨rfl | ⟨m1, rfl, hm1, hl1⟩, hb1⟩
  · have hbw := bel_box hb1
    go_wp2_with fail
    go_ret
    exact ⟨.inl rfl, hbw⟩
  · have hbw := bel_box hb1
    have c2 : w1.cell? ⟨w.heap.size, 2, none⟩ = some (.string t.label) := by
      rw [hb1.cell (by show w.heap.size < (w.alloc _).heap.size; simp)]
      simp [go_sem]
    clear hb1
    by_cases hlt2 : (m1 : Int) - t.label.size < 0
    · go_wp2_with fail
      go_ret
      exact ⟨.inl rfl, hbw⟩
    · go_wp2_with fail
      go_ret
      exact ⟨.inr ⟨m1 - t.label.size, by rw [show ((m1 - t.label.size : Nat) : Int) = (m1 : Int) - t.label.size by omega]; rfl, by omega, hl1⟩, hbw⟩
set_option maxHeartbeats 400000 in
theorem szProds_any {S : Nat → Prop} (l : List Pd) (v : Value) (w : World) (n : Nat) (h : Pds w S l v) (hn : n ≤ 1048576) :
    Calls Tryd.prog 15 #[v, .int .i64 n] w fun e w' => Left n (l.length ≤ 1048576 ∧ ∀ i (hi : i < l.length), l[i].right.length ≤ 1048576) e ∧ Below w.heap.size w w' := by
  obtain ⟨a, cap, b, off, sv, rfl, hc, hm, ha, hcell, hr⟩ := h
  have HC := (show Hid _ from hcell); clear hcell
  have HA := (show Hid _ from ha); clear ha
  have HR := (show Hid _ from hr); clear hr
  unfold maxLen at hm
  by_cases hlt : (n : Int) - l.length < 0
  · go_enter Tryd.func15, Tryd.ntmps15
    go_wp2_with fail
    go_ret
    exact ⟨.inl rfl, Below.refl _ _⟩
  · go_enter Tryd.func15, Tryd.ntmps15
    go_wp2_with fail
    go_loopw [1, 5] (fun u i wr => ∃ (j m : Nat), j ≤ l.length ∧ i = .int .i64 j ∧ u = .int .i64 m ∧ m ≤ n ∧ Below w.heap.size w wr ∧ Hid (∀ i (hi : i < l.length), i < j → l[i].right.length ≤ 1048576)) (fun _ i _ => l.length - (intOf i).toNat)
    case atStart => exact ⟨0, n - l.length, Nat.zero_le _, rfl, by go_num, by omega, Below.refl _ _, fun i hi h0 => absurd h0 (Nat.not_lt_zero _)⟩
    case round =>
      obtain ⟨j, m, hj, rfl, rfl, hmn, hbel, HX⟩ := hrel
      by_cases hjl : j < l.length
      · obtain ⟨rfl, _⟩ := HA.out (by omega)
        obtain ⟨c0, c1, c2, c3, c4, hs⟩ := HC.out j (by omega)
        rw [← hbel.cell (lt_of_cell c0)] at c0
        rw [← hbel.cell (lt_of_cell c1)] at c1
        rw [← hbel.cell (lt_of_cell c2)] at c2
        rw [← hbel.cell (lt_of_cell c3)] at c3
        rw [← hbel.cell (lt_of_cell c4)] at c4
        have hcl := szProd_any l[j] _ wr m ((HR.out j hjl).still hbel) hs (by omega)
        obtain ⟨a2, cap2, e2, _⟩ := (HR.out j hjl).form
        rw [e2] at c1 hcl
        have HCL := (show Hid _ from hcl); clear hcl e2
        go_wp2_with fail
        refine Calls.mono HCL.out ?_
        rintro e w1 ⟨rfl | ⟨m1, rfl, hm1, hl1⟩, hb1⟩
        · have hbw := bel_trans hbel hb1
          go_wp2_with fail
          go_ret
          exact ⟨.inl rfl, hbw⟩
        · have hbw := bel_trans hbel hb1
          have HN := (show Hid (∀ i (hi : i < l.length), i < j + 1 → l[i].right.length ≤ 1048576) from fun i hi hij => by
            by_cases e : i = j
            · subst e; exact hl1
            · exact HX.out i hi (by omega))
          clear hl1 c0 c1 c2 c3 c4
          go_wp2_with fail
          exact ⟨⟨j + 1, m1, by omega, by go_num, rfl, by omega, hbw, HN⟩, by simp [intOf]; omega⟩
      · obtain rfl : j = l.length := by omega
        go_wp2_with fail
        go_ret
        exact ⟨.inr ⟨m, rfl, hmn, by omega, fun i hi => HX.out i hi hi⟩, hbel⟩
/-- Four cells of a box. -/
def Four (w : World) (g : Nat) (c0 c1 c2 c3 : Value) : Prop := w.cell? ⟨g, 0, none⟩ = some c0 ∧ w.cell? ⟨g, 1, none⟩ = some c1 ∧ w.cell? ⟨g, 2, none⟩ = some c2 ∧ w.cell? ⟨g, 3, none⟩ = some c3
theorem four_box (w : World) (c0 c1 c2 c3 : Value) (T : TypeId) : Four (w.alloc (.cells #[c0, c1, c2, c3] T)) w.heap.size c0 c1 c2 c3 := by
  simp [Four, go_sem]
theorem Four.still {w w' : World} {g : Nat} {c0 c1 c2 c3 : Value} (h : Four w g c0 c1 c2 c3) (hb : Below w.heap.size w w') : Four w' g c0 c1 c2 c3 :=
  ⟨(hb.cell (lt_of_cell h.1)).trans h.1, (hb.cell (lt_of_cell h.2.1)).trans h.2.1, (hb.cell (lt_of_cell h.2.2.1)).trans h.2.2.1, (hb.cell (lt_of_cell h.2.2.2)).trans h.2.2.2⟩
set_option maxHeartbeats 800000 in
theorem szBnf_any {S : Nat → Prop} (d : Bn) (v0 v1 v3 : Value) (w : World) (n : Nat) (h : BLies w S d v0 v1 v3) (hn : n ≤ 1048576) :
    Calls Tryd.prog 4 #[.agg #[v0, v1, .int .i64 d.own, v3], .int .i64 n] w fun e w' => Left n d.Small e ∧ Below w.heap.size w w' := by
  obtain ⟨a0, p0, a1, p1, a3, p3, rfl, rfl, rfl⟩ := h.form
  have hf := four_box w (.slice a0 d.terms.length p0) (.slice a1 d.nons.length p1) (.int .i64 d.own) (.slice a3 d.prods.length p3) 26
  have hL := h.still (bel_alloc w (.cells #[.slice a0 d.terms.length p0, .slice a1 d.nons.length p1, .int .i64 d.own, .slice a3 d.prods.length p3] 26))
  have HT := (show Hid _ from szTerms_any d.terms _ _ n hL.terms hn)
  have HL := (show Hid _ from hL); clear h hL
  have HFF := (show Hid _ from hf)
  obtain ⟨x0, x1, x2, x3⟩ := hf
  go_enter Tryd.func4, Tryd.ntmps4
  go_wp2_with fail
  refine Calls.mono HT.out ?_
  rintro e w1 ⟨rfl | ⟨m1, rfl, hm1, hl1⟩, hb1⟩
  · have hbw := bel_box hb1
    go_wp2_with fail
    go_ret
    exact ⟨.inl rfl, hbw⟩
  clear x0 x1 x2 x3
  obtain ⟨x0, x1, x2, x3⟩ := Four.still HFF.out hb1
  have HT2 := (show Hid _ from szStrs_any d.nons _ w1 m1 (HL.out.nons.still hb1) (by omega))
  have HB1 := (show Hid _ from (⟨bel_box hb1, hb1⟩ : _ ∧ _)); clear hb1
  go_wp2_with fail
  refine Calls.mono HT2.out ?_
  rintro e w2 ⟨rfl | ⟨m2, rfl, hm2, hl2⟩, hb2⟩
  · have hbw := bel_trans HB1.out.1 hb2
    go_wp2_with fail
    go_ret
    exact ⟨.inl rfl, hbw⟩
  clear x0 x1 x2 x3
  obtain ⟨x0, x1, x2, x3⟩ := (Four.still HFF.out HB1.out.2).still hb2
  have HT3 := (show Hid _ from szProds_any d.prods _ w2 m2 ((HL.out.prods.still HB1.out.2).still hb2) (by omega))
  have HB2 := (show Hid _ from bel_trans HB1.out.1 hb2); clear hb2
  go_wp2_with fail
  refine Calls.mono HT3.out ?_
  rintro e w3 ⟨rfl | ⟨m3, rfl, hm3, hl3, hl4⟩, hb3⟩
  · have hbw := bel_trans HB2.out hb3
    go_wp2_with fail
    go_ret
    exact ⟨.inl rfl, hbw⟩
  have hbw := bel_trans HB2.out hb3
  go_wp2_with fail
  go_ret
  exact ⟨.inr ⟨m3, rfl, by omega, ⟨hl1, hl2, hl3, hl4⟩⟩, hbw⟩
end Go.Proofs.YtjpjjfgdgieapaaDoor

namespace Go.Proofs.YtjpjjfgdgieapaaDoor
open Go.RowKit Go.Deep
set_option linter.unusedVariables false
set_option maxRecDepth 100000
set_option linter.unusedSimpArgs false

set_option maxHeartbeats 400000 in
theorem toTerm_any (t : Tm) (w : World) :
    Calls Tryd.prog 54 #[.agg #[.string t.name, .int .i64 t.lev, .int .i64 t.asc]] w fun e w' => e = .returned (.agg #[.string t.name, .int .i64 t.lev, .int .i64 t.asc]) ∧ Below w.heap.size w w' := by
  go_enter Tryd.func54, Tryd.ntmps54
  go_wp2_with fail
  exact bodyPost_ret (v := .agg #[.string t.name, .int .i64 t.lev, .int .i64 t.asc]) (by simp [results, Tryd.results54, go_sem]) rfl ⟨rfl, ((bel_alloc _ _).alloc (by simp) _).alloc (by simp; omega) _⟩
theorem info3i : (Tryd.prog.info? 3).map (fun i => (i.zero, i.size, i.bytes)) = some (some (.int .i64 0), 1, 8) := by kernel_rfl
theorem run_makeInts (n : Nat) (hn : n ≤ 1048576) (w : World) :
    (Instr.makeSlice 29 (.int .i64 (n : Int)) (.int .i64 (n : Int))).run Tryd.prog w = .ok (.slice (some ⟨w.heap.size, 0, none⟩) n n) (w.alloc (.cells (madeCells #[.int .i64 0] n) 3)) := by
  obtain ⟨i, hi, hz, hs, hb⟩ := info_parts info3i
  have hr := run_make (P := Tryd.prog) w 29 3 i _ Tryd.underlying29 hi hz .i64 .i64 n n (by omega) (Int.le_refl _) (by rw [hb]; omega) (by omega)
  simp only [Int.toNat_natCast, hs, Nat.mul_one] at hr
  exact hr
theorem info9i : (Tryd.prog.info? 9).map (fun i => (i.zero, i.size, i.bytes)) = some (some (.string ByteArray.empty), 1, 16) := by kernel_rfl
theorem run_makeStrs (n : Nat) (hn : n ≤ 1048576) (w : World) :
    (Instr.makeSlice 23 (.int .i64 (n : Int)) (.int .i64 (n : Int))).run Tryd.prog w = .ok (.slice (some ⟨w.heap.size, 0, none⟩) n n) (w.alloc (.cells (madeCells #[.string ByteArray.empty] n) 9)) := by
  obtain ⟨i, hi, hz, hs, hb⟩ := info_parts info9i
  have hr := run_make (P := Tryd.prog) w 23 9 i _ Tryd.underlying23 hi hz .i64 .i64 n n (by omega) (Int.le_refl _) (by rw [hb]; omega) (by omega)
  simp only [Int.toNat_natCast, hs, Nat.mul_one] at hr
  exact hr
theorem info80 : (Tryd.prog.info? 80).map (fun i => (i.zero, i.size, i.bytes)) = some (some (.agg #[.string ByteArray.empty, .int .i64 0, .int .i64 0]), 3, 32) := by kernel_rfl
theorem run_makeTms (n : Nat) (hn : n ≤ 1048576) (w : World) :
    (Instr.makeSlice 35 (.int .i64 (n : Int)) (.int .i64 (n : Int))).run Tryd.prog w = .ok (.slice (some ⟨w.heap.size, 0, none⟩) n n) (w.alloc (.cells (madeCells #[.string ByteArray.empty, .int .i64 0, .int .i64 0] (n * 3)) 80)) := by
  obtain ⟨i, hi, hzz⟩ := Option.map_eq_some_iff.1 info80
  simp only [Prod.mk.injEq] at hzz
  obtain ⟨hz, hs, hb⟩ := hzz
  have hr := run_make (P := Tryd.prog) w 35 80 i _ Tryd.underlying35 hi hz .i64 .i64 n n (by omega) (Int.le_refl _) (by rw [hb]; omega) (by omega)
  simp only [Int.toNat_natCast, hs] at hr
  exact hr
theorem info82 : (Tryd.prog.info? 82).map (fun i => (i.zero, i.size, i.bytes)) = some (some (.agg #[.int .i64 0, .slice none 0 0, .string ByteArray.empty, .int .i64 0, .int .i64 0]), 5, 64) := by kernel_rfl
theorem run_makePds (n : Nat) (hn : n ≤ 1048576) (w : World) :
    (Instr.makeSlice 36 (.int .i64 (n : Int)) (.int .i64 (n : Int))).run Tryd.prog w = .ok (.slice (some ⟨w.heap.size, 0, none⟩) n n) (w.alloc (.cells (madeCells #[.int .i64 0, .slice none 0 0, .string ByteArray.empty, .int .i64 0, .int .i64 0] (n * 5)) 82)) := by
  obtain ⟨i, hi, hzz⟩ := Option.map_eq_some_iff.1 info82
  simp only [Prod.mk.injEq] at hzz
  obtain ⟨hz, hs, hb⟩ := hzz
  have hr := run_make (P := Tryd.prog) w 36 82 i _ Tryd.underlying36 hi hz .i64 .i64 n n (by omega) (Int.le_refl _) (by rw [hb]; omega) (by omega)
  simp only [Int.toNat_natCast, hs] at hr
  exact hr

set_option maxHeartbeats 400000 in
theorem toInts_any {S : Nat → Prop} (l : List Int) (v : Value) (w : World) (h : Ints w S l v) (hlen : l.length ≤ 1048576) :
    Calls Tryd.prog 80 #[v] w fun e w' => e = .returned (.slice (some ⟨w.heap.size, 0, none⟩) l.length l.length) ∧ Below w.heap.size w w' ∧ IRow w' w.heap.size l := by
  obtain ⟨a, cap, b, off, rfl, hc, hm, ha, hcell⟩ := h
  have HC := (show Hid _ from hcell); clear hcell
  have HA := (show Hid _ from ha); clear ha
  unfold maxLen at hm
  have hmk := run_makeInts l.length hlen
  go_enter Tryd.func80, Tryd.ntmps80
  go_wp2_with fail
  go_loopw [4] (fun i wr => ∃ j : Nat, j ≤ l.length ∧ i = .int .i64 j ∧ Below w.heap.size w wr ∧ Hid (∃ f, wr.rowIs w.heap.size 3 l.length f ∧ ∀ i (_ : i < j) (hi : i < l.length), f i = .int .i64 l[i])) (fun i _ => l.length - (intOf i).toNat)
  case atStart =>
    obtain ⟨f, hf⟩ := row_made w #[.int .i64 0] l.length 3
    exact ⟨0, Nat.zero_le _, rfl, bel_alloc _ _, f, hf, fun i hi => absurd hi (Nat.not_lt_zero _)⟩
  case round =>
    obtain ⟨j, hj, rfl, hbel, HM⟩ := hrel
    obtain ⟨f, hrow, hf⟩ := HM.out
    by_cases hlt : j < l.length
    · obtain ⟨rfl, _⟩ := HA.out (by omega)
      have c0 := HC.out j hlt
      rw [← hbel.cell (lt_of_cell c0)] at c0
      have e0 := hrow.cell (i := j) (by omega)
      have z0 := hrow.frozen j
      have HR := (show Hid _ from (⟨hrow, hf⟩ : _ ∧ _)); clear hrow hf
      go_wp2_with fail
      refine ⟨⟨j + 1, by omega, by go_num, hbel.setCell (Nat.le_refl _) _, _, World.rowIs.set HR.out.1 j (.int .i64 l[j]), fun i hi hl => ?_⟩, by simp [intOf]; omega⟩
      by_cases e : i = j
      · subst e; simp
      · rw [if_neg e]; exact HR.out.2 i (by omega) hl
    · go_wp2_with fail
      go_ret
      refine ⟨rfl, hbel, ?_⟩
      obtain ⟨cs, h1, h2, h3⟩ := hrow
      refine ⟨cs, h1, h2, fun i hi => ?_⟩
      rw [h3 i hi, hf i (by omega) hi]
      simp [List.getD_eq_getElem?_getD, hi]
set_option maxHeartbeats 400000 in
theorem toStrs_any {S : Nat → Prop} (l : List ByteArray) (v : Value) (w : World) (h : Strs w S l v) (hlen : l.length ≤ 1048576) :
    Calls Tryd.prog 23 #[v] w fun e w' => ∃ v', e = .returned v' ∧ Below w.heap.size w w' ∧ Strs w' (fun b => w.heap.size ≤ b) l v' := by
  obtain ⟨a, cap, b, off, rfl, hc, hm, ha, hcell⟩ := h
  have HC := (show Hid _ from hcell); clear hcell
  have HA := (show Hid _ from ha); clear ha
  unfold maxLen at hm
  have hmk := run_makeStrs l.length hlen
  go_enter Tryd.func23, Tryd.ntmps23
  go_wp2_with fail
  go_loopw [4] (fun i wr => ∃ j : Nat, j ≤ l.length ∧ i = .int .i64 j ∧ Below w.heap.size w wr ∧ Hid (∃ f, wr.rowIs w.heap.size 9 l.length f ∧ ∀ i (_ : i < j) (hi : i < l.length), f i = .string l[i])) (fun i _ => l.length - (intOf i).toNat)
  case atStart =>
    obtain ⟨f, hf⟩ := row_made w #[.string ByteArray.empty] l.length 9
    exact ⟨0, Nat.zero_le _, rfl, bel_alloc _ _, f, hf, fun i hi => absurd hi (Nat.not_lt_zero _)⟩
  case round =>
    obtain ⟨j, hj, rfl, hbel, HM⟩ := hrel
    obtain ⟨f, hrow, hf⟩ := HM.out
    by_cases hlt : j < l.length
    · obtain ⟨rfl, _⟩ := HA.out (by omega)
      have c0 := (HC.out j hlt).1
      rw [← hbel.cell (lt_of_cell c0)] at c0
      have e0 := hrow.cell (i := j) (by omega)
      have z0 := hrow.frozen j
      have HR := (show Hid _ from (⟨hrow, hf⟩ : _ ∧ _)); clear hrow hf
      go_wp2_with fail
      refine ⟨⟨j + 1, by omega, by go_num, hbel.setCell (Nat.le_refl _) _, _, World.rowIs.set HR.out.1 j (.string l[j]), fun i hi hl => ?_⟩, by simp [intOf]; omega⟩
      by_cases e : i = j
      · subst e; simp
      · rw [if_neg e]; exact HR.out.2 i (by omega) hl
    · go_wp2_with fail
      go_ret
      exact ⟨_, rfl, hbel, _, _, w.heap.size, 0, rfl, Nat.le_refl _, by unfold maxLen; omega, fun _ => ⟨rfl, Nat.le_refl _⟩, fun i hi => ⟨by rw [Nat.zero_add, hrow.cell hi, hf i (by omega) hi], (HC.out i hi).2⟩⟩
set_option maxHeartbeats 800000 in
theorem toTerms_any {S : Nat → Prop} (l : List Tm) (v : Value) (w : World) (h : Tms w S l v) (hlen : l.length ≤ 1048576) :
    Calls Tryd.prog 22 #[v] w fun e w' => ∃ v', e = .returned v' ∧ Below w.heap.size w w' ∧ Tms w' (fun b => w.heap.size ≤ b) l v' := by
  obtain ⟨a, cap, b, off, rfl, hc, hm, ha, hcell⟩ := h
  have HC := (show Hid _ from hcell); clear hcell
  have HA := (show Hid _ from ha); clear ha
  unfold maxLen at hm
  have hmk := run_makeTms l.length hlen
  go_enter Tryd.func22, Tryd.ntmps22
  go_wp2_with fail
  go_loopw [4] (fun i wr => ∃ j : Nat, j ≤ l.length ∧ i = .int .i64 j ∧ Below w.heap.size w wr ∧ Hid (∃ f, wr.rowIs w.heap.size 80 (l.length * 3) f ∧ ∀ i (_ : i < j) (hi : i < l.length), f (i * 3) = .string l[i].name ∧ f (i * 3 + 1) = .int .i64 l[i].lev ∧ f (i * 3 + 2) = .int .i64 l[i].asc)) (fun i _ => l.length - (intOf i).toNat)
  case atStart =>
    obtain ⟨f, hf⟩ := row_made w #[.string ByteArray.empty, .int .i64 0, .int .i64 0] (l.length * 3) 80
    exact ⟨0, Nat.zero_le _, rfl, bel_alloc _ _, f, hf, fun i hi => absurd hi (Nat.not_lt_zero _)⟩
  case round =>
    obtain ⟨j, hj, rfl, hbel, HM⟩ := hrel
    by_cases hlt : j < l.length
    · obtain ⟨rfl, _⟩ := HA.out (by omega)
      obtain ⟨c0, c1, c2, _⟩ := HC.out j hlt
      rw [← hbel.cell (lt_of_cell c0)] at c0
      rw [← hbel.cell (lt_of_cell c1)] at c1
      rw [← hbel.cell (lt_of_cell c2)] at c2
      have HCL := (show Hid _ from toTerm_any l[j] wr)
      go_wp2_with fail
      refine Calls.mono HCL.out ?_
      rintro e w1 ⟨rfl, hb1⟩
      obtain ⟨f, hrow, hf⟩ := HM.out
      have hrow1 := World.rowIs.of_block hrow (hb1.block _ (World.rowIs.lt hrow))
      have hbw := bel_trans hbel hb1
      have e0 := hrow1.cell (i := j * 3) (by omega)
      have e1 := hrow1.cell (i := j * 3 + 1) (by omega)
      have e2 := hrow1.cell (i := j * 3 + 2) (by omega)
      have z0 := hrow1.frozen (j * 3)
      have z1 := hrow1.frozen (j * 3 + 1)
      have z2 := hrow1.frozen (j * 3 + 2)
      have HN := (show Hid _ from (⟨hrow1, hf⟩ : _ ∧ _)); clear hrow hf hrow1 HM c0 c1 c2
      go_wp2_with fail
      refine ⟨⟨j + 1, by omega, by go_num, ((hbw.setCell (Nat.le_refl _) _).setCell (Nat.le_refl _) _).setCell (Nat.le_refl _) _, _, World.rowIs.set (World.rowIs.set (World.rowIs.set HN.out.1 (j * 3) _) (j * 3 + 1) _) (j * 3 + 2) _, fun i hi hl => ?_⟩, by simp [intOf]; omega⟩
      by_cases e : i = j
      · subst e; simp
      · obtain ⟨g0, g1, g2⟩ := HN.out.2 i (by omega) hl
        refine ⟨?_, ?_, ?_⟩
        · rw [if_neg (by omega), if_neg (by omega), if_neg (by omega)]; exact g0
        · rw [if_neg (by omega), if_neg (by omega), if_neg (by omega)]; exact g1
        · rw [if_neg (by omega), if_neg (by omega), if_neg (by omega)]; exact g2
    · go_wp2_with fail
      go_ret
      obtain ⟨f, hrow, hf⟩ := HM.out
      refine ⟨_, rfl, hbel, _, _, w.heap.size, 0, rfl, Nat.le_refl _, by unfold maxLen; omega, fun _ => ⟨rfl, Nat.le_refl _⟩, fun i hi => ?_⟩
      obtain ⟨g0, g1, g2⟩ := hf i (by omega) hi
      exact ⟨by rw [Nat.zero_add, hrow.cell (by omega), g0], by rw [Nat.zero_add, hrow.cell (by omega), g1], by rw [Nat.zero_add, hrow.cell (by omega), g2], (HC.out i hi).2.2.2⟩
end Go.Proofs.YtjpjjfgdgieapaaDoor
