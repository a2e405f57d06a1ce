import Derived.Test.YtboffildchoelaaKi
/-! The program: rwRulesRight. -/
namespace Go.Proofs.Ytboffildchoelaa
open Go.RowKit Go.Deep Go.Maps Go.WideMaps Go.ChangeMaps Go.Lib
set_option linter.unusedVariables false
set_option maxRecDepth 100000
set_option linter.unusedSimpArgs false

theorem strs_len (l : List ByteArray) : (strs l).length = l.length := by simp [strs]
set_option maxHeartbeats 3200000 in
theorem named103 (rl : List Rw) (v : Value) (w : World) (h : RLy w rl v) (hl : rl.length ≤ 20) :
    Calls Try.prog 46 #[v] w fun e w' => e = .returned (.bool (onJ rl rl.length)) ∧ Below w.heap.size w w' := by
  obtain ⟨a, cap, b, off, sv, tv, rfl, hc, hm, ha, hx, hcell, hk, hk'⟩ := h
  have HC := (show Hid _ from hcell); clear hcell
  have HK := (show Hid _ from hk); clear hk
  have HK' := (show Hid _ from hk'); clear hk'
  have HA := (show Hid _ from ha); clear ha
  have HX := (show Hid _ from hx); clear hx
  unfold maxLen at hm
  have HAP := (show Hid (∀ (u : Value) (wq : World), SRow wq (nms rl) u → rl.length ≤ 20 → Calls Try.prog 59 #[u] wq fun e w' => e = .returned (.bool (onJ rl rl.length)) ∧ Below wq.heap.size wq w') from fun u wq h1 h2 => apart103 rl u wq h1 HX.out h2)
  generalize onJ rl rl.length = ON at *
  obtain ⟨i9, hi9, hz0, hz1, hz2⟩ := info_parts info9s
  go_enter Try.func46, Try.ntmps46
  go_wp2_with fail
  go_loopw [3, 8] (fun u i wr => ∃ (j : Nat) (la : Option Addr) (lc : Nat), i = .int .i64 j ∧ j ≤ rl.length ∧ u = .slice la j lc ∧ Hid (Below w.heap.size w wr) ∧ Hid (wr.ownsRow w.heap.size 9 1 (.slice la j lc) j (strs (nms (rl.take j))))) (fun _ i _ => rl.length - (intOf i).toNat)
  case atStart => exact ⟨0, none, 0, rfl, Nat.zero_le _, rfl, Below.refl _ _, own_nil _ _ _ _⟩
  case round =>
    obtain ⟨j, la, lc, rfl, hj, rfl, HB, HO⟩ := hrel
    by_cases hlt : j < rl.length
    · have q2 : (j : Int) < (rl.length : Int) := by omega
      have q0 : (0 : Int) ≤ (j : Int) := by omega
      have hbel := HB.out
      obtain rfl := HA.out (by omega)
      obtain ⟨c0, c1, c2, c3, c4, c5, c6, c7, c8⟩ := HC.out j hlt
      rw [← hbel.cell (lt_of_cell c0)] at c0
      rw [← hbel.cell (lt_of_cell c1)] at c1
      rw [← hbel.cell (lt_of_cell c2)] at c2
      rw [← hbel.cell (lt_of_cell c3)] at c3
      rw [← hbel.cell (lt_of_cell c4)] at c4
      rw [← hbel.cell (lt_of_cell c5)] at c5
      rw [← hbel.cell (lt_of_cell c6)] at c6
      rw [← hbel.cell (lt_of_cell c7)] at c7
      rw [← hbel.cell (lt_of_cell c8)] at c8
      obtain ⟨a4, l4, p4, e4⟩ := (HK.out j hlt).form
      obtain ⟨a5, l5, p5, e5⟩ := (HK'.out j hlt).form
      rw [e4] at c4
      rw [e5] at c8
      have HSX := (show Hid _ from nms_take_succ hlt)
      have HOB := (show Hid (wr.ownsRow w.heap.size 9 1 (.slice la j lc) j (strs (nms (rl.take j)))) from HO.out)
      clear hbel e4 e5 HO
      generalize rl[j].name = y0 at *
      generalize rl[j].left.name = y1 at *
      generalize rl[j].left.text = y2 at *
      generalize rl[j].left.leaf = y3 at *
      generalize rl[j].right.name = y5 at *
      generalize rl[j].right.text = y6 at *
      generalize rl[j].right.leaf = y7 at *
      have hb2 : Below w.heap.size w ((wr.alloc (.cells #[.string y0, .string y1, .string y2, .bool y3, .slice a4 l4 p4, .string y5, .string y6, .bool y7, .slice a5 l5 p5] 44)).alloc (.cells #[.string y0] 9)) := bel_trans (bel_trans HB.out (bel_alloc _ _)) (bel_alloc _ _)
      have HO2 := (show Hid _ from own_still (own_still HOB.out (bel_alloc wr (.cells #[.string y0, .string y1, .string y2, .bool y3, .slice a4 l4 p4, .string y5, .string y6, .bool y7, .slice a5 l5 p5] 44))) (bel_alloc (wr.alloc (.cells #[.string y0, .string y1, .string y2, .bool y3, .slice a4 l4 p4, .string y5, .string y6, .bool y7, .slice a5 l5 p5] 44)) (.cells #[.string y0] 9)))
      have HB2 := (show Hid _ from hb2)
      clear hb2
      go_wp2_with (at_builtin; refine wpList_append_lies _ rfl (.tmp 12) (.tmp 15) 69 rfl w.heap.size 9 i9 _ 1 16 Try.underlying69 hi9 hz0 hz1 hz2 rfl (by decide) _ j (strs (nms (rl.take j))) rfl HO2.out ⟨(wr.alloc (.cells #[.string y0, .string y1, .string y2, .bool y3, .slice a4 l4 p4, .string y5, .string y6, .bool y7, .slice a5 l5 p5] 44)).heap.size, 0, none⟩ 1 1 [.string y0] (by simp [Act.eval]) rfl (World.news_of_block (cs := #[.string y0]) (blk_alloc_new _ _)) ?c2 (by decide) ?c3 (by omega) ?c5 _ rfl ?nx)
      case c2 => first | rfl | (intro u hu; simp at hu; subst hu; rfl)
      case c3 => unfold maxLen; omega
      case c5 => have hz := HB2.out.size; simp at hz ⊢; omega
      case nx =>
        intro g4 cap4 w5 hown4 hgr4 hat4 hlt4
        have HB5 := (show Hid (Below w.heap.size w w5) from HB2.out.grown hgr4 HB2.out.size (fun q hq => (World.ownsRow.lt HOB.out q hq).1))
        have HO5 := (show Hid (w5.ownsRow w.heap.size 9 1 (.slice (some ⟨g4, 0, none⟩) (j + 1) cap4) (j + 1) (strs (nms (rl.take (j + 1))))) from (by
          show w5.ownsRow w.heap.size 9 1 (.slice (some ⟨g4, 0, none⟩) (j + 1) cap4) (j + 1) (strs (nms (rl.take (j + 1))))
          rw [HSX.out]
          simpa [strs] using hown4))
        clear hown4 hgr4 hat4 hlt4 HB HB2 HO2 HOB HSX
        clear c0 c1 c2 c3 c4 c5 c6 c7 c8
        go_wp2_with fail
        exact ⟨⟨j + 1, some ⟨g4, 0, none⟩, cap4, by go_num, by omega, rfl, HB5, HO5⟩, by simp [intOf]; omega⟩
    · have q2 : ¬ ((j : Int) < (rl.length : Int)) := by omega
      have hje : j = rl.length := by omega
      subst hje
      have hs : SRow wr (nms rl) (.slice la rl.length lc) := own_srow (B := w.heap.size) (by
        have := HO.out
        rw [List.take_length] at this
        rw [nms_len]
        exact this)
      have HCL := (show Hid _ from HAP.out _ wr hs hl)
      clear hs HAP HO
      go_wp2_with fail
      refine Calls.mono HCL.out ?_
      rintro e w2 ⟨rfl, hb2⟩
      have HE := (show Hid _ from bel_trans HB.out hb2)
      clear hb2 HB HCL
      go_wp2_with fail
      go_ret
      exact ⟨rfl, HE.out⟩
end Go.Proofs.Ytboffildchoelaa
