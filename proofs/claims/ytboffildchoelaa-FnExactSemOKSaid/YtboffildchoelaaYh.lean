import Derived.Test.YtboffildchoelaaYg
import Derived.Test.YtboffildchoelaaXf
/-! The program: eachRight of rules, of values and of contexts; all Shapes are right. -/
namespace Go.Proofs.Ytboffildchoelaa
open Go.RowKit Go.Deep Go.Maps Go.WideMaps Go.ChangeMaps Go.Lib
set_option linter.unusedVariables false
set_option maxRecDepth 100000
set_option linter.unusedSimpArgs false

theorem info89s : (Try.prog.info? 89).map (fun i => (i.zero, i.size, i.bytes)) = some (some (.agg #[.pointer none, .slice none 0 0, .slice none 0 0, .pointer none]), 4, 64) := by kernel_rfl
theorem info95s : (Try.prog.info? 95).map (fun i => (i.zero, i.size, i.bytes)) = some (some (.agg #[.pointer none, .slice none 0 0, .slice none 0 0]), 3, 56) := by kernel_rfl
theorem info100s : (Try.prog.info? 100).map (fun i => (i.zero, i.size, i.bytes)) = some (some (.agg #[.pointer none, .slice none 0 0, .slice none 0 0]), 3, 56) := by kernel_rfl
set_option maxHeartbeats 3200000 in
theorem each40 (l : List Rw) (v : Value) (w : World) (h : RLy w l v) (hlen : l.length ≤ 20) :
    Calls Try.prog 40 #[v, .func (.func 41) #[] #[]] w fun e w' => ∃ (la : Option Addr) (ln lc : Nat), e = .returned (.tuple #[.slice la ln lc, .bool (l.all r6B)]) ∧ Below w.heap.size w w' := by
  obtain ⟨a, cap, b, off, sv, tv, rfl, hc, hm, ha, hx, hcell, hk, hk'⟩ := h
  have HX := (show Hid _ from hx); clear hx
  unfold maxLen at hm
  have HC := (show Hid _ from hcell); clear hcell
  have HK := (show Hid _ from hk); clear hk
  have HK' := (show Hid _ from hk'); clear hk'
  have HA := (show Hid _ from ha); clear ha
  have HAL := (show Hid (∀ j (hj : j < l.length), r6B l[j] = false → l.all r6B = false) from fun j hj h => all_no hj h)
  have HAT := (show Hid ((∀ j (hj : j < l.length), r6B l[j] = true) → l.all r6B = true) from fun h => all_yes h)
  generalize l.all r6B = RR at *
  obtain ⟨ie, hie, hz0, hz1, hz2⟩ := info_parts info89s
  go_enter Try.func40, Try.ntmps40
  go_wp2_with fail
  go_loopw [6, 13] (fun u i wr => ∃ (j : Nat) (la : Option Addr) (lc : Nat) (xs : List Value), i = .int .i64 j ∧ j ≤ l.length ∧ u = .slice la j lc ∧ Hid (Below w.heap.size w wr) ∧ Hid (wr.ownsRow w.heap.size 89 4 (.slice la j lc) j xs) ∧ Hid (∀ i (hi : i < l.length), i < j → r6B l[i] = true)) (fun _ i _ => l.length - (intOf i).toNat)
  case atStart => exact ⟨0, none, 0, [], rfl, Nat.zero_le _, rfl, Below.refl _ _, own_nil _ _ _ _, fun i _ h => absurd h (Nat.not_lt_zero _)⟩
  case round =>
    obtain ⟨j, la, lc, xs, rfl, hj, rfl, HB, HO, HJ⟩ := hrel
    by_cases hlt : j < l.length
    · have q1 : (j : Int) < (l.length : Int) := by omega
      have q0 : (0 : Int) ≤ (j : Int) := by omega
      have hbel := HB.out
      obtain rfl := HA.out (by omega)
      obtain ⟨c0, c1, c2, c3, c4, c5, c6, c7, c8⟩ := HC.out j hlt
      rw [← hbel.cell (lt_of_cell c0)] at c0
      rw [← hbel.cell (lt_of_cell c1)] at c1
      rw [← hbel.cell (lt_of_cell c2)] at c2
      rw [← hbel.cell (lt_of_cell c3)] at c3
      rw [← hbel.cell (lt_of_cell c4)] at c4
      rw [← hbel.cell (lt_of_cell c5)] at c5
      rw [← hbel.cell (lt_of_cell c6)] at c6
      rw [← hbel.cell (lt_of_cell c7)] at c7
      rw [← hbel.cell (lt_of_cell c8)] at c8
      have hl1 := HK.out j hlt
      have hl2 := HK'.out j hlt
      obtain ⟨a4, l4, p4, e4⟩ := hl1.form
      obtain ⟨a5, l5, p5, e5⟩ := hl2.form
      rw [e4] at c4 hl1
      rw [e5] at c8 hl2
      have hb2 : Below w.heap.size w (wr.alloc (.cells #[.string l[j].name, .string l[j].left.name, .string l[j].left.text, .bool l[j].left.leaf, .slice a4 l4 p4, .string l[j].right.name, .string l[j].right.text, .bool l[j].right.leaf, .slice a5 l5 p5] 44)) := bel_trans hbel (bel_alloc _ _)
      have HCL := (show Hid _ from rrul41 l[j] a4 a5 l4 p4 l5 p5 (wr.alloc (.cells #[.string l[j].name, .string l[j].left.name, .string l[j].left.text, .bool l[j].left.leaf, .slice a4 l4 p4, .string l[j].right.name, .string l[j].right.text, .bool l[j].right.leaf, .slice a5 l5 p5] 44)) (hl1.still hb2) (hl2.still hb2) (HX.out j hlt))
      have HB2 := (show Hid _ from hb2)
      have HO2 := (show Hid _ from own_still HO.out (bel_alloc wr (.cells #[.string l[j].name, .string l[j].left.name, .string l[j].left.text, .bool l[j].left.leaf, .slice a4 l4 p4, .string l[j].right.name, .string l[j].right.text, .bool l[j].right.leaf, .slice a5 l5 p5] 44)))
      clear hbel e4 e5 hl1 hl2 hb2
      have HNX := (show Hid (r6B l[j] = true → ∀ i (hi : i < l.length), i < j + 1 → r6B l[i] = true) from fun h i hi hij => by
        by_cases e : i = j
        · subst e; exact h
        · exact HJ.out i hi (by omega))
      have HFX := (show Hid (r6B l[j] = false → RR = false) from HAL.out j hlt)
      unfold RlA at HCL
      generalize r6B l[j] = r at *
      generalize l[j].name = y0 at *
      generalize l[j].left.name = y1 at *
      generalize l[j].left.text = y2 at *
      generalize l[j].left.leaf = y3 at *
      generalize l[j].right.name = y5 at *
      generalize l[j].right.text = y6 at *
      generalize l[j].right.leaf = y7 at *
      go_wp2_with fail
      refine Calls.mono HCL.out ?_
      rintro e w1 ⟨pa, va, ha, pb, vl, vc, hl, hc, R, rfl, hb1, hR⟩
      have HB1 := (show Hid (Below w.heap.size w w1) from bel_trans HB2.out hb1)
      have HO1 := (show Hid (w1.ownsRow w.heap.size 89 4 (.slice la j lc) j xs) from own_still HO2.out hb1)
      clear hb1 HCL HB2 HO2 HB HO c0 c1 c2 c3 c4 c5 c6 c7 c8
      cases R
      · have HF := (show Hid (RR = false) from HFX.out hR.symm)
        have HE := (show Hid (Below w.heap.size w (w1.alloc (.cells #[.pointer pa, .slice va vl vc, .slice ha hl hc, .pointer pb] 89))) from bel_trans HB1.out (bel_alloc _ _))
        clear HNX HFX HJ hR
        go_wp2_with fail
        go_ret2
        exact ⟨none, 0, 0, by rw [HF.out]; rfl, HE.out⟩
      · have HG := (show Hid _ from HNX.out hR.symm)
        have HBA := (show Hid (Below w.heap.size w ((w1.alloc (.cells #[.pointer pa, .slice va vl vc, .slice ha hl hc, .pointer pb] 89)).alloc (.cells #[.pointer pa, .slice va vl vc, .slice ha hl hc, .pointer pb] 89))) from bel_trans (bel_trans HB1.out (bel_alloc _ _)) (bel_alloc _ _))
        have HOA := (show Hid _ from own_still (own_still HO1.out (bel_alloc w1 (.cells #[.pointer pa, .slice va vl vc, .slice ha hl hc, .pointer pb] 89))) (bel_alloc (w1.alloc (.cells #[.pointer pa, .slice va vl vc, .slice ha hl hc, .pointer pb] 89)) (.cells #[.pointer pa, .slice va vl vc, .slice ha hl hc, .pointer pb] 89)))
        clear HNX HFX HJ hR
        go_wp2_with (at_builtin; refine wpList_append_lies _ rfl (.tmp 25) (.tmp 27) 80 rfl w.heap.size 89 ie _ 4 64 Try.underlying80 hie hz0 hz1 hz2 rfl (by decide) _ j xs rfl HOA.out ⟨(w1.alloc (.cells #[.pointer pa, .slice va vl vc, .slice ha hl hc, .pointer pb] 89)).heap.size, 0, none⟩ 1 1 [.pointer pa, .slice va vl vc, .slice ha hl hc, .pointer pb] (by simp [Act.eval]) rfl (World.news_of_block (cs := #[.pointer pa, .slice va vl vc, .slice ha hl hc, .pointer pb]) (blk_alloc_new _ _)) ?c2 (by decide) ?c3 (by omega) ?c5 _ rfl ?nx)
        case c2 => first | rfl | (intro u hu; simp at hu; rcases hu with rfl | rfl | rfl | rfl <;> rfl) | (intro u hu; simp at hu; rcases hu with rfl | rfl | rfl <;> rfl)
        case c3 => unfold maxLen; omega
        case c5 => have hz := HBA.out.size; simp at hz ⊢; omega
        case nx =>
          intro g4 cap4 w5 hown4 hgr4 hat4 hlt4
          have HB5 := (show Hid (Below w.heap.size w w5) from HBA.out.grown hgr4 HBA.out.size (fun q hq => (World.ownsRow.lt HO1.out q hq).1))
          have HO5 := (show Hid _ from hown4)
          clear hown4 hgr4 hat4 hlt4 HBA HOA HB1 HO1
          go_wp2_with fail
          exact ⟨⟨j + 1, some ⟨g4, 0, none⟩, cap4, _, by go_num, by omega, rfl, HB5, HO5, HG⟩, by simp [intOf]; omega⟩
    · have q1 : ¬ ((j : Int) < (l.length : Int)) := by omega
      have HF := (show Hid (RR = true) from HAT.out (fun i hi => HJ.out i hi (by omega)))
      clear HJ HAL HAT
      obtain rfl := HF.out
      go_wp2_with fail
      go_ret2
      first | exact ⟨⟨_, _, _, rfl⟩, HB.out⟩ | exact ⟨_, _, _, rfl, HB.out⟩
set_option maxHeartbeats 3200000 in
theorem each42 {S : Nat → Prop} (l : List Tr) (v : Value) (w : World) (h : Trs w S l v) (hlen : l.length ≤ 20) :
    Calls Try.prog 42 #[v, .func (.func 43) #[] #[]] w fun e w' => ∃ (la : Option Addr) (ln lc : Nat), e = .returned (.tuple #[.slice la ln lc, .bool (l.all vaB)]) ∧ Below w.heap.size w w' := by
  obtain ⟨a, cap, b, off, sv, rfl, hc, hm, ha, hcell, hr⟩ := h
  unfold maxLen at hm
  have HC := (show Hid _ from hcell); clear hcell
  have HK := (show Hid _ from hr); clear hr
  have HA := (show Hid _ from ha); clear ha
  have HAL := (show Hid (∀ j (hj : j < l.length), vaB l[j] = false → l.all vaB = false) from fun j hj h => all_no hj h)
  have HAT := (show Hid ((∀ j (hj : j < l.length), vaB l[j] = true) → l.all vaB = true) from fun h => all_yes h)
  generalize l.all vaB = RR at *
  obtain ⟨ie, hie, hz0, hz1, hz2⟩ := info_parts info95s
  go_enter Try.func42, Try.ntmps42
  go_wp2_with fail
  go_loopw [6, 13] (fun u i wr => ∃ (j : Nat) (la : Option Addr) (lc : Nat) (xs : List Value), i = .int .i64 j ∧ j ≤ l.length ∧ u = .slice la j lc ∧ Hid (Below w.heap.size w wr) ∧ Hid (wr.ownsRow w.heap.size 95 3 (.slice la j lc) j xs) ∧ Hid (∀ i (hi : i < l.length), i < j → vaB l[i] = true)) (fun _ i _ => l.length - (intOf i).toNat)
  case atStart => exact ⟨0, none, 0, [], rfl, Nat.zero_le _, rfl, Below.refl _ _, own_nil _ _ _ _, fun i _ h => absurd h (Nat.not_lt_zero _)⟩
  case round =>
    obtain ⟨j, la, lc, xs, rfl, hj, rfl, HB, HO, HJ⟩ := hrel
    by_cases hlt : j < l.length
    · have q1 : (j : Int) < (l.length : Int) := by omega
      have q0 : (0 : Int) ≤ (j : Int) := by omega
      have hbel := HB.out
      obtain ⟨rfl, _⟩ := HA.out (by omega)
      obtain ⟨c0, c1, c2, c3⟩ := HC.out j hlt
      rw [← hbel.cell (lt_of_cell c0)] at c0
      rw [← hbel.cell (lt_of_cell c1)] at c1
      rw [← hbel.cell (lt_of_cell c2)] at c2
      rw [← hbel.cell (lt_of_cell c3)] at c3
      have hl1 := HK.out j hlt
      obtain ⟨a4, l4, p4, e4⟩ := hl1.form
      rw [e4] at c3 hl1
      have hb2 : Below w.heap.size w (wr.alloc (.cells #[.string l[j].name, .string l[j].text, .bool l[j].leaf, .slice a4 l4 p4] 42)) := bel_trans hbel (bel_alloc _ _)
      have HCL := (show Hid _ from rval43 l[j] (.slice a4 l4 p4) (wr.alloc (.cells #[.string l[j].name, .string l[j].text, .bool l[j].leaf, .slice a4 l4 p4] 42)) (hl1.still hb2))
      simp only [Tr.val] at HCL
      have HB2 := (show Hid _ from hb2)
      have HO2 := (show Hid _ from own_still HO.out (bel_alloc wr (.cells #[.string l[j].name, .string l[j].text, .bool l[j].leaf, .slice a4 l4 p4] 42)))
      clear hbel e4 hl1 hb2
      have HNX := (show Hid (vaB l[j] = true → ∀ i (hi : i < l.length), i < j + 1 → vaB l[i] = true) from fun h i hi hij => by
        by_cases e : i = j
        · subst e; exact h
        · exact HJ.out i hi (by omega))
      have HFX := (show Hid (vaB l[j] = false → RR = false) from HAL.out j hlt)
      unfold VlA at HCL
      generalize vaB l[j] = r at *
      generalize l[j].name = y0 at *
      generalize l[j].text = y1 at *
      generalize l[j].leaf = y2 at *
      go_wp2_with fail
      refine Calls.mono HCL.out ?_
      rintro e w1 ⟨pa, va, ha, vl, vc, hl, hc, R, rfl, hb1, hR⟩
      have HB1 := (show Hid (Below w.heap.size w w1) from bel_trans HB2.out hb1)
      have HO1 := (show Hid (w1.ownsRow w.heap.size 95 3 (.slice la j lc) j xs) from own_still HO2.out hb1)
      clear hb1 HCL HB2 HO2 HB HO c0 c1 c2 c3
      cases R
      · have HF := (show Hid (RR = false) from HFX.out hR.symm)
        have HE := (show Hid (Below w.heap.size w (w1.alloc (.cells #[.pointer pa, .slice va vl vc, .slice ha hl hc] 95))) from bel_trans HB1.out (bel_alloc _ _))
        clear HNX HFX HJ hR
        go_wp2_with fail
        go_ret2
        exact ⟨none, 0, 0, by rw [HF.out]; rfl, HE.out⟩
      · have HG := (show Hid _ from HNX.out hR.symm)
        have HBA := (show Hid (Below w.heap.size w ((w1.alloc (.cells #[.pointer pa, .slice va vl vc, .slice ha hl hc] 95)).alloc (.cells #[.pointer pa, .slice va vl vc, .slice ha hl hc] 95))) from bel_trans (bel_trans HB1.out (bel_alloc _ _)) (bel_alloc _ _))
        have HOA := (show Hid _ from own_still (own_still HO1.out (bel_alloc w1 (.cells #[.pointer pa, .slice va vl vc, .slice ha hl hc] 95))) (bel_alloc (w1.alloc (.cells #[.pointer pa, .slice va vl vc, .slice ha hl hc] 95)) (.cells #[.pointer pa, .slice va vl vc, .slice ha hl hc] 95)))
        clear HNX HFX HJ hR
        go_wp2_with (at_builtin; refine wpList_append_lies _ rfl (.tmp 25) (.tmp 27) 91 rfl w.heap.size 95 ie _ 3 56 Try.underlying91 hie hz0 hz1 hz2 rfl (by decide) _ j xs rfl HOA.out ⟨(w1.alloc (.cells #[.pointer pa, .slice va vl vc, .slice ha hl hc] 95)).heap.size, 0, none⟩ 1 1 [.pointer pa, .slice va vl vc, .slice ha hl hc] (by simp [Act.eval]) rfl (World.news_of_block (cs := #[.pointer pa, .slice va vl vc, .slice ha hl hc]) (blk_alloc_new _ _)) ?c2 (by decide) ?c3 (by omega) ?c5 _ rfl ?nx)
        case c2 => first | rfl | (intro u hu; simp at hu; rcases hu with rfl | rfl | rfl | rfl <;> rfl) | (intro u hu; simp at hu; rcases hu with rfl | rfl | rfl <;> rfl)
        case c3 => unfold maxLen; omega
        case c5 => have hz := HBA.out.size; simp at hz ⊢; omega
        case nx =>
          intro g4 cap4 w5 hown4 hgr4 hat4 hlt4
          have HB5 := (show Hid (Below w.heap.size w w5) from HBA.out.grown hgr4 HBA.out.size (fun q hq => (World.ownsRow.lt HO1.out q hq).1))
          have HO5 := (show Hid _ from hown4)
          clear hown4 hgr4 hat4 hlt4 HBA HOA HB1 HO1
          go_wp2_with fail
          exact ⟨⟨j + 1, some ⟨g4, 0, none⟩, cap4, _, by go_num, by omega, rfl, HB5, HO5, HG⟩, by simp [intOf]; omega⟩
    · have q1 : ¬ ((j : Int) < (l.length : Int)) := by omega
      have HF := (show Hid (RR = true) from HAT.out (fun i hi => HJ.out i hi (by omega)))
      clear HJ HAL HAT
      obtain rfl := HF.out
      go_wp2_with fail
      go_ret2
      first | exact ⟨⟨_, _, _, rfl⟩, HB.out⟩ | exact ⟨_, _, _, rfl, HB.out⟩
set_option maxHeartbeats 3200000 in
theorem each44 {S : Nat → Prop} (l : List Tr) (v : Value) (w : World) (h : Trs w S l v) (hlen : l.length ≤ 20) :
    Calls Try.prog 44 #[v, .func (.func 45) #[] #[]] w fun e w' => ∃ (la : Option Addr) (ln lc : Nat), e = .returned (.tuple #[.slice la ln lc, .bool (l.all cxB)]) ∧ Below w.heap.size w w' := by
  obtain ⟨a, cap, b, off, sv, rfl, hc, hm, ha, hcell, hr⟩ := h
  unfold maxLen at hm
  have HC := (show Hid _ from hcell); clear hcell
  have HK := (show Hid _ from hr); clear hr
  have HA := (show Hid _ from ha); clear ha
  have HAL := (show Hid (∀ j (hj : j < l.length), cxB l[j] = false → l.all cxB = false) from fun j hj h => all_no hj h)
  have HAT := (show Hid ((∀ j (hj : j < l.length), cxB l[j] = true) → l.all cxB = true) from fun h => all_yes h)
  generalize l.all cxB = RR at *
  obtain ⟨ie, hie, hz0, hz1, hz2⟩ := info_parts info100s
  go_enter Try.func44, Try.ntmps44
  go_wp2_with fail
  go_loopw [6, 13] (fun u i wr => ∃ (j : Nat) (la : Option Addr) (lc : Nat) (xs : List Value), i = .int .i64 j ∧ j ≤ l.length ∧ u = .slice la j lc ∧ Hid (Below w.heap.size w wr) ∧ Hid (wr.ownsRow w.heap.size 100 3 (.slice la j lc) j xs) ∧ Hid (∀ i (hi : i < l.length), i < j → cxB l[i] = true)) (fun _ i _ => l.length - (intOf i).toNat)
  case atStart => exact ⟨0, none, 0, [], rfl, Nat.zero_le _, rfl, Below.refl _ _, own_nil _ _ _ _, fun i _ h => absurd h (Nat.not_lt_zero _)⟩
  case round =>
    obtain ⟨j, la, lc, xs, rfl, hj, rfl, HB, HO, HJ⟩ := hrel
    by_cases hlt : j < l.length
    · have q1 : (j : Int) < (l.length : Int) := by omega
      have q0 : (0 : Int) ≤ (j : Int) := by omega
      have hbel := HB.out
      obtain ⟨rfl, _⟩ := HA.out (by omega)
      obtain ⟨c0, c1, c2, c3⟩ := HC.out j hlt
      rw [← hbel.cell (lt_of_cell c0)] at c0
      rw [← hbel.cell (lt_of_cell c1)] at c1
      rw [← hbel.cell (lt_of_cell c2)] at c2
      rw [← hbel.cell (lt_of_cell c3)] at c3
      have hl1 := HK.out j hlt
      obtain ⟨a4, l4, p4, e4⟩ := hl1.form
      rw [e4] at c3 hl1
      have hb2 : Below w.heap.size w (wr.alloc (.cells #[.string l[j].name, .string l[j].text, .bool l[j].leaf, .slice a4 l4 p4] 42)) := bel_trans hbel (bel_alloc _ _)
      have HCL := (show Hid _ from rctx45 l[j] (.slice a4 l4 p4) (wr.alloc (.cells #[.string l[j].name, .string l[j].text, .bool l[j].leaf, .slice a4 l4 p4] 42)) (hl1.still hb2))
      simp only [Tr.val] at HCL
      have HB2 := (show Hid _ from hb2)
      have HO2 := (show Hid _ from own_still HO.out (bel_alloc wr (.cells #[.string l[j].name, .string l[j].text, .bool l[j].leaf, .slice a4 l4 p4] 42)))
      clear hbel e4 hl1 hb2
      have HNX := (show Hid (cxB l[j] = true → ∀ i (hi : i < l.length), i < j + 1 → cxB l[i] = true) from fun h i hi hij => by
        by_cases e : i = j
        · subst e; exact h
        · exact HJ.out i hi (by omega))
      have HFX := (show Hid (cxB l[j] = false → RR = false) from HAL.out j hlt)
      unfold VlA at HCL
      generalize cxB l[j] = r at *
      generalize l[j].name = y0 at *
      generalize l[j].text = y1 at *
      generalize l[j].leaf = y2 at *
      go_wp2_with fail
      refine Calls.mono HCL.out ?_
      rintro e w1 ⟨pa, va, ha, vl, vc, hl, hc, R, rfl, hb1, hR⟩
      have HB1 := (show Hid (Below w.heap.size w w1) from bel_trans HB2.out hb1)
      have HO1 := (show Hid (w1.ownsRow w.heap.size 100 3 (.slice la j lc) j xs) from own_still HO2.out hb1)
      clear hb1 HCL HB2 HO2 HB HO c0 c1 c2 c3
      cases R
      · have HF := (show Hid (RR = false) from HFX.out hR.symm)
        have HE := (show Hid (Below w.heap.size w (w1.alloc (.cells #[.pointer pa, .slice va vl vc, .slice ha hl hc] 100))) from bel_trans HB1.out (bel_alloc _ _))
        clear HNX HFX HJ hR
        go_wp2_with fail
        go_ret2
        exact ⟨none, 0, 0, by rw [HF.out]; rfl, HE.out⟩
      · have HG := (show Hid _ from HNX.out hR.symm)
        have HBA := (show Hid (Below w.heap.size w ((w1.alloc (.cells #[.pointer pa, .slice va vl vc, .slice ha hl hc] 100)).alloc (.cells #[.pointer pa, .slice va vl vc, .slice ha hl hc] 100))) from bel_trans (bel_trans HB1.out (bel_alloc _ _)) (bel_alloc _ _))
        have HOA := (show Hid _ from own_still (own_still HO1.out (bel_alloc w1 (.cells #[.pointer pa, .slice va vl vc, .slice ha hl hc] 100))) (bel_alloc (w1.alloc (.cells #[.pointer pa, .slice va vl vc, .slice ha hl hc] 100)) (.cells #[.pointer pa, .slice va vl vc, .slice ha hl hc] 100)))
        clear HNX HFX HJ hR
        go_wp2_with (at_builtin; refine wpList_append_lies _ rfl (.tmp 25) (.tmp 27) 97 rfl w.heap.size 100 ie _ 3 56 Try.underlying97 hie hz0 hz1 hz2 rfl (by decide) _ j xs rfl HOA.out ⟨(w1.alloc (.cells #[.pointer pa, .slice va vl vc, .slice ha hl hc] 100)).heap.size, 0, none⟩ 1 1 [.pointer pa, .slice va vl vc, .slice ha hl hc] (by simp [Act.eval]) rfl (World.news_of_block (cs := #[.pointer pa, .slice va vl vc, .slice ha hl hc]) (blk_alloc_new _ _)) ?c2 (by decide) ?c3 (by omega) ?c5 _ rfl ?nx)
        case c2 => first | rfl | (intro u hu; simp at hu; rcases hu with rfl | rfl | rfl | rfl <;> rfl) | (intro u hu; simp at hu; rcases hu with rfl | rfl | rfl <;> rfl)
        case c3 => unfold maxLen; omega
        case c5 => have hz := HBA.out.size; simp at hz ⊢; omega
        case nx =>
          intro g4 cap4 w5 hown4 hgr4 hat4 hlt4
          have HB5 := (show Hid (Below w.heap.size w w5) from HBA.out.grown hgr4 HBA.out.size (fun q hq => (World.ownsRow.lt HO1.out q hq).1))
          have HO5 := (show Hid _ from hown4)
          clear hown4 hgr4 hat4 hlt4 HBA HOA HB1 HO1
          go_wp2_with fail
          exact ⟨⟨j + 1, some ⟨g4, 0, none⟩, cap4, _, by go_num, by omega, rfl, HB5, HO5, HG⟩, by simp [intOf]; omega⟩
    · have q1 : ¬ ((j : Int) < (l.length : Int)) := by omega
      have HF := (show Hid (RR = true) from HAT.out (fun i hi => HJ.out i hi (by omega)))
      clear HJ HAL HAT
      obtain rfl := HF.out
      go_wp2_with fail
      go_ret2
      first | exact ⟨⟨_, _, _, rfl⟩, HB.out⟩ | exact ⟨_, _, _, rfl, HB.out⟩
set_option maxHeartbeats 1600000 in
theorem shap39 (s : Shp) (w : World) (hx : s.name.size ≤ maxLen) (hy : s.text.size ≤ maxLen) :
    Calls Try.prog 39 #[.agg #[.string s.name, .string s.text, .bool s.leaf, .int .i64 s.kids]] w fun e w' => e = .returned (.bool (shB s)) ∧ Below w.heap.size w w' := by
  have HN := (show Hid (∀ wq : World, Calls Try.prog 53 #[.string s.name] wq fun e w' => e = .returned (.bool (nmB s.name)) ∧ w' = wq) from fun wq => iName _ hx wq)
  have HSB := (show Hid (shB s = (nmB s.name && (if s.leaf = true then decide (s.kids = 0) && decide (s.text.size ≤ 200) else emB s.text && (decide (0 ≤ s.kids) && decide (s.kids ≤ 3))))) from rfl)
  unfold maxLen at hy
  clear hx
  generalize shB s = SB at *
  generalize nmB s.name = NB at *
  generalize s.name = y0 at *
  generalize s.text = y1 at *
  generalize s.leaf = y2 at *
  generalize s.kids = y3 at *
  have HB := (show Hid (Below w.heap.size w (w.alloc (.cells #[.string y0, .string y1, .bool y2, .int .i64 y3] 49))) from bel_alloc _ _)
  cases NB
  case false =>
    have HF := (show Hid (SB = false) from HSB.out)
    clear HSB
    go_enter Try.func39, Try.ntmps39
    go_wp2_with fail
    refine Calls.mono (HN.out _) ?_
    rintro e wz ⟨rfl, rfl⟩
    go_wp2_with fail
    go_ret
    exact ⟨by first | (rw [HF.out]; rfl) | (rw [HF.out]; simp [*, go_sem]), HB.out⟩
  cases y2
  case true =>
    by_cases u2 : y3 = 0
    case neg =>
      have u2' : (y3 == 0) = false := by simp [u2]
      have HF := (show Hid (SB = false) from (by show SB = false; rw [HSB.out, decide_eq_false u2]; simp))
      clear HSB u2
      go_enter Try.func39, Try.ntmps39
      go_wp2_with fail
      refine Calls.mono (HN.out _) ?_
      rintro e wz ⟨rfl, rfl⟩
      go_wp2_with fail
      go_ret
      exact ⟨by first | (rw [HF.out]; rfl) | (rw [HF.out]; simp [*, go_sem]) , HB.out⟩
    subst u2
    by_cases u1 : y1.size ≤ 200
    · have u1' : (y1.size : Int) ≤ (200 : Int) := by omega
      have HF := (show Hid (SB = true) from (by show SB = true; rw [HSB.out, decide_eq_true u1]; simp))
      clear HSB
      go_enter Try.func39, Try.ntmps39
      go_wp2_with fail
      refine Calls.mono (HN.out _) ?_
      rintro e wz ⟨rfl, rfl⟩
      go_wp2_with fail
      go_ret
      exact ⟨by first | (rw [HF.out]; rfl) | (rw [HF.out]; simp [*, go_sem]) , HB.out⟩
    · have u1' : ¬ ((y1.size : Int) ≤ (200 : Int)) := by omega
      have HF := (show Hid (SB = false) from (by show SB = false; rw [HSB.out, decide_eq_false u1]; simp))
      clear HSB
      go_enter Try.func39, Try.ntmps39
      go_wp2_with fail
      refine Calls.mono (HN.out _) ?_
      rintro e wz ⟨rfl, rfl⟩
      go_wp2_with fail
      go_ret
      exact ⟨by first | (rw [HF.out]; rfl) | (rw [HF.out]; simp [*, go_sem]) , HB.out⟩
  cases u3 : y1.toList.isEmpty
  case false =>
    have HF := (show Hid (SB = false) from (by
      show SB = false
      rw [HSB.out]
      unfold emB
      rw [← isEmpty_iff, u3]
      simp))
    clear HSB
    go_enter Try.func39, Try.ntmps39
    go_wp2_with fail
    refine Calls.mono (HN.out _) ?_
    rintro e wz ⟨rfl, rfl⟩
    go_wp2_with fail
    go_ret
    exact ⟨by first | (rw [HF.out]; rfl) | (rw [HF.out]; simp [*, go_sem]), HB.out⟩
  have HSD := (show Hid (SB = (decide (0 ≤ y3) && decide (y3 ≤ 3))) from by
    show SB = _
    rw [HSB.out]
    unfold emB
    rw [← isEmpty_iff, u3]
    simp)
  clear HSB
  by_cases u4 : 0 ≤ y3
  case neg =>
    have HF := (show Hid (SB = false) from (by show SB = false; rw [HSD.out, decide_eq_false u4]; rfl))
    clear HSD
    go_enter Try.func39, Try.ntmps39
    go_wp2_with fail
    refine Calls.mono (HN.out _) ?_
    rintro e wz ⟨rfl, rfl⟩
    go_wp2_with fail
    go_ret
    exact ⟨by first | (rw [HF.out]; rfl) | (rw [HF.out]; simp [*, go_sem]), HB.out⟩
  by_cases u5 : y3 ≤ 3
  · have HF := (show Hid (SB = true) from (by show SB = true; rw [HSD.out, decide_eq_true u4, decide_eq_true u5]; rfl))
    clear HSD
    go_enter Try.func39, Try.ntmps39
    go_wp2_with fail
    refine Calls.mono (HN.out _) ?_
    rintro e wz ⟨rfl, rfl⟩
    go_wp2_with fail
    go_ret
    exact ⟨by first | (rw [HF.out]; rfl) | (rw [HF.out]; simp [*, go_sem]), HB.out⟩
  · have HF := (show Hid (SB = false) from (by show SB = false; rw [HSD.out, decide_eq_false u5]; simp))
    clear HSD
    go_enter Try.func39, Try.ntmps39
    go_wp2_with fail
    refine Calls.mono (HN.out _) ?_
    rintro e wz ⟨rfl, rfl⟩
    go_wp2_with fail
    go_ret
    exact ⟨by first | (rw [HF.out]; rfl) | (rw [HF.out]; simp [*, go_sem]), HB.out⟩
set_option maxHeartbeats 1600000 in
theorem all38 (l : List Shp) (v : Value) (w : World) (h : ShLy w l v) :
    Calls Try.prog 38 #[v, .func (.func 39) #[] #[]] w fun e w' => e = .returned (.bool (l.all shB)) ∧ Below w.heap.size w w' := by
  obtain ⟨a, cap, b, off, rfl, hc, hm, ha, hx, hcell⟩ := h
  have HX := (show Hid _ from hx); clear hx
  unfold maxLen at hm
  have HC := (show Hid _ from hcell); clear hcell
  have HA := (show Hid _ from ha); clear ha
  have HAL := (show Hid (∀ j (hj : j < l.length), shB l[j] = false → l.all shB = false) from fun j hj h => all_no hj h)
  have HAT := (show Hid ((∀ j (hj : j < l.length), shB l[j] = true) → l.all shB = true) from fun h => all_yes h)
  generalize l.all shB = R at *
  go_enter Try.func38, Try.ntmps38
  go_wp2_with fail
  go_loopw [9] (fun i wr => ∃ j : Nat, i = .int .i64 j ∧ j ≤ l.length ∧ Hid (Below w.heap.size w wr) ∧ Hid (∀ i (hi : i < l.length), i < j → shB l[i] = true)) (fun i _ => l.length - (intOf i).toNat)
  case atStart => exact ⟨0, rfl, Nat.zero_le _, Below.refl _ _, fun i _ h => absurd h (Nat.not_lt_zero _)⟩
  case round =>
    obtain ⟨j, rfl, hj, HB, HJ⟩ := hrel
    by_cases hlt : j < l.length
    · have q1 : (j : Int) < (l.length : Int) := by omega
      have q0 : (0 : Int) ≤ (j : Int) := by omega
      have hbel := HB.out
      obtain rfl := HA.out (by omega)
      obtain ⟨c0, c1, c2, c3⟩ := HC.out j hlt
      rw [← hbel.cell (lt_of_cell c0)] at c0
      rw [← hbel.cell (lt_of_cell c1)] at c1
      rw [← hbel.cell (lt_of_cell c2)] at c2
      rw [← hbel.cell (lt_of_cell c3)] at c3
      have hb2 : Below w.heap.size w (wr.alloc (.cells #[.string l[j].name, .string l[j].text, .bool l[j].leaf, .int .i64 l[j].kids] 49)) := bel_trans hbel (bel_alloc _ _)
      have HCL := (show Hid _ from shap39 l[j] (wr.alloc (.cells #[.string l[j].name, .string l[j].text, .bool l[j].leaf, .int .i64 l[j].kids] 49)) (HX.out j hlt).1 (HX.out j hlt).2)
      have HB2 := (show Hid _ from hb2)
      have HNX := (show Hid (shB l[j] = true → ∀ i (hi : i < l.length), i < j + 1 → shB l[i] = true) from fun h i hi hij => by
        by_cases e : i = j
        · subst e; exact h
        · exact HJ.out i hi (by omega))
      have HFX := (show Hid (shB l[j] = false → R = false) from HAL.out j hlt)
      clear hbel HJ HB hb2
      generalize shB l[j] = r at *
      generalize l[j].name = y0 at *
      generalize l[j].text = y1 at *
      generalize l[j].leaf = y2 at *
      generalize l[j].kids = y3 at *
      go_wp2_with fail
      refine Calls.mono HCL.out ?_
      rintro e w1 ⟨rfl, hb1⟩
      have HB3 := (show Hid (Below w.heap.size w w1) from bel_trans HB2.out hb1)
      clear hb1 HB2 HCL
      clear c0 c1 c2 c3
      cases r
      · have HF := (show Hid _ from HFX.out rfl)
        clear HNX HFX
        go_wp2_with fail
        go_ret
        exact ⟨by rw [HF.out]; rfl, HB3.out⟩
      · have HF := (show Hid _ from HNX.out rfl)
        clear HNX HFX
        go_wp2_with fail
        exact ⟨⟨j + 1, by go_num, by omega, HB3, HF⟩, by simp [intOf]; omega⟩
    · have q1 : ¬ ((j : Int) < (l.length : Int)) := by omega
      have HF := (show Hid (R = true) from HAT.out (fun i hi => HJ.out i hi (by omega)))
      go_wp2_with fail
      go_ret
      exact ⟨by first | (rw [HF.out]; rfl) | (rw [HF.out]; simp [*, go_sem]) , HB.out⟩
end Go.Proofs.Ytboffildchoelaa
