import Derived.Test.YteomgkcgjkbppaaKh
/-! The program: all rules are right. -/
namespace Go.Proofs.Yteomgkcgjkbppaa
open Go.RowKit Go.Deep Go.Maps Go.WideMaps Go.ChangeMaps Go.Lib
set_option linter.unusedVariables false
set_option maxRecDepth 100000
set_option linter.unusedSimpArgs false

set_option maxHeartbeats 1600000 in
theorem all101 (rl : List Rw) (v : Value) (w : World) (h : RLy w rl v) :
    Calls Try.prog 101 #[v, .func (.func 102) #[] #[]] w fun e w' => e = .returned (.bool (rl.all rulB)) ∧ Below w.heap.size w w' := by
  obtain ⟨a, cap, b, off, sv, tv, rfl, hc, hm, ha, hx, hcell, hk, hk'⟩ := h
  have HX := (show Hid _ from hx); clear hx
  unfold maxLen at hm
  have HC := (show Hid _ from hcell); clear hcell
  have HK := (show Hid _ from hk); clear hk
  have HK' := (show Hid _ from hk'); clear hk'
  have HA := (show Hid _ from ha); clear ha
  have HAL := (show Hid (∀ j (hj : j < rl.length), rulB rl[j] = false → rl.all rulB = false) from fun j hj h => by
    rw [List.all_eq_false]
    exact ⟨rl[j], List.getElem_mem hj, by rw [h]; simp⟩)
  have HAT := (show Hid ((∀ j (hj : j < rl.length), rulB rl[j] = true) → rl.all rulB = true) from fun h => by
    rw [List.all_eq_true]
    intro x hx
    obtain ⟨i, hi, rfl⟩ := List.mem_iff_getElem.1 hx
    exact h i hi)
  generalize rl.all rulB = R at *
  go_enter Try.func101, Try.ntmps101
  go_wp2_with fail
  go_loopw [9] (fun i wr => ∃ j : Nat, i = .int .i64 j ∧ j ≤ rl.length ∧ Hid (Below w.heap.size w wr) ∧ Hid (∀ i (hi : i < rl.length), i < j → rulB rl[i] = true)) (fun i _ => rl.length - (intOf i).toNat)
  case atStart => exact ⟨0, rfl, Nat.zero_le _, Below.refl _ _, fun i _ h => absurd h (Nat.not_lt_zero _)⟩
  case round =>
    obtain ⟨j, rfl, hj, HB, HJ⟩ := hrel
    by_cases hlt : j < rl.length
    · have q1 : (j : Int) < (rl.length : Int) := by omega
      have q0 : (0 : Int) ≤ (j : Int) := by omega
      have hbel := HB.out
      obtain rfl := HA.out (by omega)
      obtain ⟨c0, c1, c2, c3, c4, c5, c6, c7, c8⟩ := HC.out j hlt
      rw [← hbel.cell (lt_of_cell c0)] at c0
      rw [← hbel.cell (lt_of_cell c1)] at c1
      rw [← hbel.cell (lt_of_cell c2)] at c2
      rw [← hbel.cell (lt_of_cell c3)] at c3
      rw [← hbel.cell (lt_of_cell c4)] at c4
      rw [← hbel.cell (lt_of_cell c5)] at c5
      rw [← hbel.cell (lt_of_cell c6)] at c6
      rw [← hbel.cell (lt_of_cell c7)] at c7
      rw [← hbel.cell (lt_of_cell c8)] at c8
      have hl1 := HK.out j hlt
      have hl2 := HK'.out j hlt
      obtain ⟨a4, l4, p4, e4⟩ := hl1.form
      obtain ⟨a5, l5, p5, e5⟩ := hl2.form
      rw [e4] at c4 hl1
      rw [e5] at c8 hl2
      have hb2 : Below w.heap.size w (wr.alloc (.cells #[.string rl[j].name, .string rl[j].left.name, .string rl[j].left.text, .bool rl[j].left.leaf, .slice a4 l4 p4, .string rl[j].right.name, .string rl[j].right.text, .bool rl[j].right.leaf, .slice a5 l5 p5] 98)) := bel_trans hbel (bel_alloc _ _)
      have HCL := (show Hid _ from ruleR102 rl[j] a4 a5 l4 p4 l5 p5 (wr.alloc (.cells #[.string rl[j].name, .string rl[j].left.name, .string rl[j].left.text, .bool rl[j].left.leaf, .slice a4 l4 p4, .string rl[j].right.name, .string rl[j].right.text, .bool rl[j].right.leaf, .slice a5 l5 p5] 98)) (hl1.still hb2) (hl2.still hb2) (HX.out j hlt))
      have HB2 := (show Hid _ from hb2)
      have HNX := (show Hid (rulB rl[j] = true → ∀ i (hi : i < rl.length), i < j + 1 → rulB rl[i] = true) from fun h i hi hij => by
        by_cases e : i = j
        · subst e; exact h
        · exact HJ.out i hi (by omega))
      have HFX := (show Hid (rulB rl[j] = false → R = false) from HAL.out j hlt)
      clear hbel e4 e5 HJ HB hl1 hl2 hb2
      generalize rulB rl[j] = r at *
      generalize rl[j].name = y0 at *
      generalize rl[j].left.name = y1 at *
      generalize rl[j].left.text = y2 at *
      generalize rl[j].left.leaf = y3 at *
      generalize rl[j].right.name = y5 at *
      generalize rl[j].right.text = y6 at *
      generalize rl[j].right.leaf = y7 at *
      go_wp2_with fail
      refine Calls.mono HCL.out ?_
      rintro e w1 ⟨rfl, hb1⟩
      have HB3 := (show Hid (Below w.heap.size w w1) from bel_trans HB2.out hb1)
      clear hb1 HB2 HCL
      clear c0 c1 c2 c3 c4 c5 c6 c7 c8
      cases r
      · have HF := (show Hid _ from HFX.out rfl)
        clear HNX HFX
        go_wp2_with fail
        go_ret
        exact ⟨by rw [HF.out]; rfl, HB3.out⟩
      · have HF := (show Hid _ from HNX.out rfl)
        clear HNX HFX
        go_wp2_with fail
        exact ⟨⟨j + 1, by go_num, by omega, HB3, HF⟩, by simp [intOf]; omega⟩
    · have q1 : ¬ ((j : Int) < (rl.length : Int)) := by omega
      have HF := (show Hid (R = true) from HAT.out (fun i hi => HJ.out i hi (by omega)))
      go_wp2_with fail
      go_ret
      exact ⟨by rw [HF.out]; rfl, HB.out⟩
/-- The names of the first j rules, as keys. -/
def kyN (rl : List Rw) (j : Nat) : List Value := (nms (rl.take j)).map Value.string
theorem nms_len (rl : List Rw) : (nms rl).length = rl.length := by simp [nms]
theorem kyN_len {rl : List Rw} {j : Nat} (h : j ≤ rl.length) : (kyN rl j).length = j := by
  unfold kyN
  rw [List.length_map, nms_len, List.length_take]
  omega
theorem nms_take_succ {rl : List Rw} {j : Nat} (h : j < rl.length) : nms (rl.take (j + 1)) = nms (rl.take j) ++ [rl[j].name] := by
  unfold nms
  rw [List.take_succ_eq_append_getElem h, List.map_append]
  rfl
theorem kyN_succ {rl : List Rw} {j : Nat} (h : j < rl.length) : kyN rl (j + 1) = kyN rl j ++ [.string rl[j].name] := by
  unfold kyN
  rw [nms_take_succ h, List.map_append]
  rfl
theorem kyN_mem {rl : List Rw} {j : Nat} {s : ByteArray} : Value.string s ∈ kyN rl j ↔ hasS (nms (rl.take j)) s = true := by
  unfold kyN
  rw [List.mem_map]
  constructor
  · rintro ⟨y, h1, h2⟩
    injection h2 with h2
    subst h2
    unfold hasS
    rw [List.any_eq_true]
    exact ⟨y, h1, eqS_refl y⟩
  · intro h
    exact ⟨s, hasS_mem h, rfl⟩
theorem nms_get {rl : List Rw} {j : Nat} (h : j < rl.length) : (nms rl)[j]'(by rw [nms_len]; exact h) = rl[j].name := by
  unfold nms
  rw [List.getElem_map]
set_option maxHeartbeats 1600000 in
theorem first112 (rl : List Rw) (v : Value) (w : World) (h : SRow w (nms rl) v) (hx : ∀ i (hi : i < rl.length), rl[i].name.size ≤ maxLen) (hlen : rl.length ≤ 20) :
    Calls Try.prog 117 #[v] w fun e w' => ∃ s, e = .returned (.tuple #[.string s, .bool (!(onJ rl rl.length))]) ∧ Below w.heap.size w w' := by
  obtain ⟨a, cap, b, off, rfl, hc, hm, ha, hcell⟩ := h
  rw [nms_len] at ha hc ⊢
  have HC := (show Hid (∀ i (hi : i < rl.length), w.cell? ⟨b, off + i, none⟩ = some (.string rl[i].name)) from fun i hi => by
    rw [hcell i (by rw [nms_len]; exact hi), nms_get hi]); clear hcell
  have HA := (show Hid _ from ha); clear ha
  have HX := (show Hid _ from hx); clear hx hm
  have HNO := (show Hid (∀ j (hj : j < rl.length), hasS (nms (rl.take j)) rl[j].name = true → onJ rl rl.length = false) from fun j hj h => onJ_false rl rl.length (i := j + 1) (by omega) (by rw [onJ_succ hj, h]; simp))
  have HYS := (show Hid (∀ j (hj : j < rl.length), onJ rl j = true → hasS (nms (rl.take j)) rl[j].name = false → onJ rl (j + 1) = true) from fun j hj h1 h2 => by rw [onJ_succ hj, h1, h2]; rfl)
  have HEQ := (show Hid (∀ j, j = rl.length → onJ rl j = true → onJ rl rl.length = true) from fun j h h1 => by rw [← h]; exact h1)
  generalize hD : onJ rl rl.length = D at *
  clear hD
  have hmk := fun w => run_makeMap (P := Try.prog) 65 w
  go_enter Try.func117, Try.ntmps117
  go_wp2_with fail
  go_loopw [10] (fun i wr => ∃ j : Nat, i = .int .i64 j ∧ j ≤ rl.length ∧ Hid (onJ rl j = true) ∧ Hid (Below w.heap.size w wr ∧ w.heap.size < wr.heap.size ∧ Mn wr w.heap.size 9 (kyN rl j))) (fun i _ => rl.length - (intOf i).toNat)
  case atStart => exact ⟨0, rfl, Nat.zero_le _, (rfl : onJ rl 0 = true), bel_alloc _ _, by simp, Mn.new w 9⟩
  case round =>
    obtain ⟨j, rfl, hj, HJ, HI⟩ := hrel
    by_cases hlt : j < rl.length
    · have q1 : (j : Int) < (rl.length : Int) := by omega
      have q0 : (0 : Int) ≤ (j : Int) := by omega
      obtain rfl := HA.out (by omega)
      have c0 := HC.out j hlt
      rw [← HI.out.1.cell (lt_of_cell c0)] at c0
      have HKL := (show Hid _ from kyN_len hj)
      have HNU := (show Hid _ from number81 w.heap.size (kyN rl j) rl[j].name _ wr (keyOf_string_mk (P := Try.prog) Try.underlying9 (HX.out j hlt)) HI.out.2.2 (by rw [HKL.out]; omega))
      have HMM := (show Hid (Value.string rl[j].name ∈ kyN rl j ↔ hasS (nms (rl.take j)) rl[j].name = true) from kyN_mem)
      have HKT := (show Hid _ from kyN_succ hlt)
      have HN := (show Hid _ from HNO.out j hlt)
      have HY := (show Hid _ from HYS.out j hlt HJ.out)
      unfold NoR at HNU
      clear HJ
      generalize rl[j].name = x0 at *
      generalize hasS (nms (rl.take j)) x0 = al at *
      go_wp2_with fail
      refine Calls.mono HNU.out ?_
      rintro e w4 ⟨n, rfl, hk4, hor⟩
      have HB4 := (show Hid (Below w.heap.size w w4 ∧ w.heap.size < w4.heap.size) from (by
        obtain ⟨h1, h2, _⟩ := HI.out
        exact ⟨⟨hk4.os.trans h1.os, hk4.tape.trans h1.tape, hk4.output.trans h1.output, Nat.le_trans h1.size hk4.size, fun q hq => (hk4.block q (by omega) (by omega)).trans (h1.block q hq)⟩, Nat.lt_of_lt_of_le h2 hk4.size⟩))
      cases al
      · obtain ⟨hn, hmn⟩ : n = j ∧ Mn w4 w.heap.size 9 (kyN rl (j + 1)) := by
          rcases hor with ⟨h1, h2⟩ | ⟨_, h1, h2⟩
          · have := HMM.out.1 (List.mem_of_getElem? h1)
            cases this
          · rw [HKL.out] at h1
            rw [HKT.out]
            exact ⟨h1, h2⟩
        have HF := (show Hid _ from HY.out rfl)
        have hij : ((n : Int) != (j : Int)) = false := by simp; omega
        have HI4 := (show Hid (Below w.heap.size w w4 ∧ w.heap.size < w4.heap.size ∧ Mn w4 w.heap.size 9 (kyN rl (j + 1))) from ⟨HB4.out.1, HB4.out.2, hmn⟩)
        clear hor hk4 hmn hn HNU HMM HKT HKL HN HY HI c0 HB4
        go_wp2_with fail
        exact ⟨⟨j + 1, by go_num, by omega, HF, HI4⟩, by simp [intOf]; omega⟩
      · have hn : n < j := by
          rcases hor with ⟨h1, h2⟩ | ⟨h1, _⟩
          · have := (List.getElem?_eq_some_iff.1 h1).1
            rw [HKL.out] at this
            exact this
          · exact absurd (HMM.out.2 rfl) h1
        have HF := (show Hid _ from HN.out rfl)
        have hij : ((n : Int) != (j : Int)) = true := by simp; omega
        clear hor hk4 hn HNU HMM HKT HKL HN HY HI c0
        go_wp2_with fail
        go_ret2
        exact ⟨_, by rw [HF.out]; rfl, HB4.out.1⟩
    · have q1 : ¬ ((j : Int) < (rl.length : Int)) := by omega
      have HF := (show Hid (D = true) from HEQ.out j (by omega) HJ.out)
      go_wp2_with fail
      go_ret2
      first | exact ⟨by rw [HF.out]; rfl, HI.out.1⟩ | exact ⟨by simp [HF.out], HI.out.1⟩
theorem apart103 (rl : List Rw) (v : Value) (w : World) (h : SRow w (nms rl) v) (hx : ∀ i (hi : i < rl.length), rl[i].name.size ≤ maxLen) (hlen : rl.length ≤ 20) :
    Calls Try.prog 112 #[v] w fun e w' => e = .returned (.bool (onJ rl rl.length)) ∧ Below w.heap.size w w' := by
  have HC := (show Hid _ from first112 rl v w h hx hlen)
  obtain ⟨a, cap, b, off, rfl, _⟩ := h
  generalize onJ rl rl.length = D at *
  go_enter Try.func112, Try.ntmps112
  go_wp2_with fail
  refine Calls.mono HC.out ?_
  rintro e w1 ⟨s, rfl, hb1⟩
  have HB := (show Hid _ from hb1)
  clear hb1 HC
  go_wp2_with fail
  go_ret
  exact ⟨by cases D <;> rfl, HB.out⟩
end Go.Proofs.Yteomgkcgjkbppaa

/-! The program: rwRulesRight. -/
namespace Go.Proofs.Yteomgkcgjkbppaa
open Go.RowKit Go.Deep Go.Maps Go.WideMaps Go.ChangeMaps Go.Lib
set_option linter.unusedVariables false
set_option maxRecDepth 100000
set_option linter.unusedSimpArgs false

theorem strs_len (l : List ByteArray) : (strs l).length = l.length := by simp [strs]
set_option maxHeartbeats 3200000 in
theorem named103 (rl : List Rw) (v : Value) (w : World) (h : RLy w rl v) (hl : rl.length ≤ 20) :
    Calls Try.prog 103 #[v] w fun e w' => e = .returned (.bool (onJ rl rl.length)) ∧ Below w.heap.size w w' := by
  obtain ⟨a, cap, b, off, sv, tv, rfl, hc, hm, ha, hx, hcell, hk, hk'⟩ := h
  have HC := (show Hid _ from hcell); clear hcell
  have HK := (show Hid _ from hk); clear hk
  have HK' := (show Hid _ from hk'); clear hk'
  have HA := (show Hid _ from ha); clear ha
  have HX := (show Hid _ from hx); clear hx
  unfold maxLen at hm
  have HAP := (show Hid (∀ (u : Value) (wq : World), SRow wq (nms rl) u → rl.length ≤ 20 → Calls Try.prog 112 #[u] wq fun e w' => e = .returned (.bool (onJ rl rl.length)) ∧ Below wq.heap.size wq w') from fun u wq h1 h2 => apart103 rl u wq h1 HX.out h2)
  generalize onJ rl rl.length = ON at *
  obtain ⟨i9, hi9, hz0, hz1, hz2⟩ := info_parts info9s
  go_enter Try.func103, Try.ntmps103
  go_wp2_with fail
  go_loopw [3, 8] (fun u i wr => ∃ (j : Nat) (la : Option Addr) (lc : Nat), i = .int .i64 j ∧ j ≤ rl.length ∧ u = .slice la j lc ∧ Hid (Below w.heap.size w wr) ∧ Hid (wr.ownsRow w.heap.size 9 1 (.slice la j lc) j (strs (nms (rl.take j))))) (fun _ i _ => rl.length - (intOf i).toNat)
  case atStart => exact ⟨0, none, 0, rfl, Nat.zero_le _, rfl, Below.refl _ _, own_nil _ _ _ _⟩
  case round =>
    obtain ⟨j, la, lc, rfl, hj, rfl, HB, HO⟩ := hrel
    by_cases hlt : j < rl.length
    · have q2 : (j : Int) < (rl.length : Int) := by omega
      have q0 : (0 : Int) ≤ (j : Int) := by omega
      have hbel := HB.out
      obtain rfl := HA.out (by omega)
      obtain ⟨c0, c1, c2, c3, c4, c5, c6, c7, c8⟩ := HC.out j hlt
      rw [← hbel.cell (lt_of_cell c0)] at c0
      rw [← hbel.cell (lt_of_cell c1)] at c1
      rw [← hbel.cell (lt_of_cell c2)] at c2
      rw [← hbel.cell (lt_of_cell c3)] at c3
      rw [← hbel.cell (lt_of_cell c4)] at c4
      rw [← hbel.cell (lt_of_cell c5)] at c5
      rw [← hbel.cell (lt_of_cell c6)] at c6
      rw [← hbel.cell (lt_of_cell c7)] at c7
      rw [← hbel.cell (lt_of_cell c8)] at c8
      obtain ⟨a4, l4, p4, e4⟩ := (HK.out j hlt).form
      obtain ⟨a5, l5, p5, e5⟩ := (HK'.out j hlt).form
      rw [e4] at c4
      rw [e5] at c8
      have HSX := (show Hid _ from nms_take_succ hlt)
      have HOB := (show Hid (wr.ownsRow w.heap.size 9 1 (.slice la j lc) j (strs (nms (rl.take j)))) from HO.out)
      clear hbel e4 e5 HO
      generalize rl[j].name = y0 at *
      generalize rl[j].left.name = y1 at *
      generalize rl[j].left.text = y2 at *
      generalize rl[j].left.leaf = y3 at *
      generalize rl[j].right.name = y5 at *
      generalize rl[j].right.text = y6 at *
      generalize rl[j].right.leaf = y7 at *
      have hb2 : Below w.heap.size w ((wr.alloc (.cells #[.string y0, .string y1, .string y2, .bool y3, .slice a4 l4 p4, .string y5, .string y6, .bool y7, .slice a5 l5 p5] 98)).alloc (.cells #[.string y0] 9)) := bel_trans (bel_trans HB.out (bel_alloc _ _)) (bel_alloc _ _)
      have HO2 := (show Hid _ from own_still (own_still HOB.out (bel_alloc wr (.cells #[.string y0, .string y1, .string y2, .bool y3, .slice a4 l4 p4, .string y5, .string y6, .bool y7, .slice a5 l5 p5] 98))) (bel_alloc (wr.alloc (.cells #[.string y0, .string y1, .string y2, .bool y3, .slice a4 l4 p4, .string y5, .string y6, .bool y7, .slice a5 l5 p5] 98)) (.cells #[.string y0] 9)))
      have HB2 := (show Hid _ from hb2)
      clear hb2
      go_wp2_with (at_builtin; refine wpList_append_lies _ rfl (.tmp 12) (.tmp 15) 79 rfl w.heap.size 9 i9 _ 1 16 Try.underlying79 hi9 hz0 hz1 hz2 rfl (by decide) _ j (strs (nms (rl.take j))) rfl HO2.out ⟨(wr.alloc (.cells #[.string y0, .string y1, .string y2, .bool y3, .slice a4 l4 p4, .string y5, .string y6, .bool y7, .slice a5 l5 p5] 98)).heap.size, 0, none⟩ 1 1 [.string y0] (by simp [Act.eval]) rfl (World.news_of_block (cs := #[.string y0]) (blk_alloc_new _ _)) ?c2 (by decide) ?c3 (by omega) ?c5 _ rfl ?nx)
      case c2 => first | rfl | (intro u hu; simp at hu; subst hu; rfl)
      case c3 => unfold maxLen; omega
      case c5 => have hz := HB2.out.size; simp at hz ⊢; omega
      case nx =>
        intro g4 cap4 w5 hown4 hgr4 hat4 hlt4
        have HB5 := (show Hid (Below w.heap.size w w5) from HB2.out.grown hgr4 HB2.out.size (fun q hq => (World.ownsRow.lt HOB.out q hq).1))
        have HO5 := (show Hid (w5.ownsRow w.heap.size 9 1 (.slice (some ⟨g4, 0, none⟩) (j + 1) cap4) (j + 1) (strs (nms (rl.take (j + 1))))) from (by
          show w5.ownsRow w.heap.size 9 1 (.slice (some ⟨g4, 0, none⟩) (j + 1) cap4) (j + 1) (strs (nms (rl.take (j + 1))))
          rw [HSX.out]
          simpa [strs] using hown4))
        clear hown4 hgr4 hat4 hlt4 HB HB2 HO2 HOB HSX
        clear c0 c1 c2 c3 c4 c5 c6 c7 c8
        go_wp2_with fail
        exact ⟨⟨j + 1, some ⟨g4, 0, none⟩, cap4, by go_num, by omega, rfl, HB5, HO5⟩, by simp [intOf]; omega⟩
    · have q2 : ¬ ((j : Int) < (rl.length : Int)) := by omega
      have hje : j = rl.length := by omega
      subst hje
      have hs : SRow wr (nms rl) (.slice la rl.length lc) := own_srow (B := w.heap.size) (by
        have := HO.out
        rw [List.take_length] at this
        rw [nms_len]
        exact this)
      have HCL := (show Hid _ from HAP.out _ wr hs hl)
      clear hs HAP HO
      go_wp2_with fail
      refine Calls.mono HCL.out ?_
      rintro e w2 ⟨rfl, hb2⟩
      have HE := (show Hid _ from bel_trans HB.out hb2)
      clear hb2 HB HCL
      go_wp2_with fail
      go_ret
      exact ⟨rfl, HE.out⟩
set_option maxHeartbeats 1600000 in
theorem rules91 (rl : List Rw) (v : Value) (w : World) (h : RLy w rl v) :
    Calls Try.prog 91 #[v] w fun e w' => e = .returned (.bool (rlsB rl)) ∧ Below w.heap.size w w' := by
  have HALL := (show Hid _ from all101 rl v w h)
  have HNA := (show Hid (∀ wq, Below w.heap.size w wq → rl.length ≤ 20 → Calls Try.prog 103 #[v] wq fun e w' => e = .returned (.bool (onJ rl rl.length)) ∧ Below wq.heap.size wq w') from fun wq hq hl => named103 rl v wq (h.still hq) hl)
  obtain ⟨a, cap, b, off, sv, tv, rfl, hc, hm, ha, hx, hcell, hk, hk'⟩ := h
  clear hx hcell hk hk' ha
  unfold maxLen at hm
  have HR := (show Hid (rlsB rl = (decide (rl.length ≤ 20) && (rl.all rulB && onJ rl rl.length))) from rfl)
  generalize rlsB rl = R at *
  by_cases hl : rl.length ≤ 20
  case neg =>
    have HF := (show Hid (R = false) from (by show R = false; rw [HR.out, decide_eq_false hl]; rfl))
    have q1 : ¬ ((rl.length : Int) ≤ (20 : Int)) := by omega
    clear HALL HNA HR
    go_enter Try.func91, Try.ntmps91
    go_wp2_with fail
    go_ret
    exact ⟨by rw [HF.out]; rfl, Below.refl _ _⟩
  have q1 : (rl.length : Int) ≤ (20 : Int) := by omega
  rw [decide_eq_true hl] at HR
  generalize hAL : rl.all rulB = AL at *
  clear hAL
  cases AL
  case false =>
    have HF := (show Hid (R = false) from HR.out)
    clear HNA HR
    go_enter Try.func91, Try.ntmps91
    go_wp2_with fail
    refine Calls.mono HALL.out ?_
    rintro e w1 ⟨rfl, hb1⟩
    have HB := (show Hid _ from hb1)
    clear hb1
    go_wp2_with fail
    go_ret
    exact ⟨by rw [HF.out]; rfl, HB.out⟩
  have HF := (show Hid (R = onJ rl rl.length) from HR.out)
  generalize onJ rl rl.length = ON at *
  clear HR
  go_enter Try.func91, Try.ntmps91
  go_wp2_with fail
  refine Calls.mono HALL.out ?_
  rintro e w1 ⟨rfl, hb1⟩
  have HB1 := (show Hid _ from hb1)
  have HC2 := (show Hid _ from HNA.out w1 hb1 hl)
  clear hb1 HALL HNA
  go_wp2_with fail
  refine Calls.mono HC2.out ?_
  rintro e w2 ⟨rfl, hb2⟩
  have HE := (show Hid _ from bel_trans HB1.out hb2)
  clear hb2 HB1 HC2
  go_wp2_with fail
  go_ret
  exact ⟨by rw [HF.out]; rfl, HE.out⟩
end Go.Proofs.Yteomgkcgjkbppaa
