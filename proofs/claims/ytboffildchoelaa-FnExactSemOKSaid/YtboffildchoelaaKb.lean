import Derived.Test.YtboffildchoelaaKa
import Derived.Test.YtboffildchoelaaBxs
import Derived.Test.YtboffildchoelaaTo
import Derived.Test.YtboffildchoelaaEq
/-! The law: rules that came in are measured. -/
namespace Go.Proofs.Ytboffildchoelaa
open Go.RowKit Go.Deep Go.Lib Go.ChangeShapes Go.WideShapes
set_option linter.unusedVariables false
set_option maxRecDepth 100000
set_option linter.unusedSimpArgs false

/-- How much rules hold. -/
def rw1 (r : Rw) : Nat := r.name.size + r.left.wt + r.right.wt
def rwL (rl : List Rw) : Nat := (rl.map rw1).sum
def rwt (rl : List Rw) : Nat := rl.length + rwL rl
theorem rwL_append (a b : List Rw) : rwL (a ++ b) = rwL a + rwL b := by simp [rwL]
theorem rwL_take_succ (rl : List Rw) (i : Nat) (h : i < rl.length) : rwL (rl.take (i + 1)) = rwL (rl.take i) + rw1 rl[i] := by
  rw [List.take_succ_eq_append_getElem h, rwL_append]; simp [rwL]
theorem rwL_take_le (rl : List Rw) (i : Nat) : rwL (rl.take i) ≤ rwL rl := by
  have h := rwL_append (rl.take i) (rl.drop i)
  rw [List.take_append_drop] at h; omega
theorem rwL_mem (rl : List Rw) (i : Nat) (h : i < rl.length) : rw1 rl[i] ≤ rwL rl := by
  have h1 := rwL_take_succ rl i h
  have h2 := rwL_take_le rl (i + 1)
  omega
set_option maxHeartbeats 1600000 in
theorem szRule61 (r : Rw) (v v' : Value) (w : World) (left : Int) (ht : Lies w (fun _ => True) r.left v) (ht' : Lies w (fun _ => True) r.right v') (hx : r.name.size ≤ maxLen) (h0 : 0 ≤ left) (h1 : left ≤ 1048576) :
    Calls Try.prog 25 #[.agg #[.string r.name, .string r.left.name, .string r.left.text, .bool r.left.leaf, v, .string r.right.name, .string r.right.text, .bool r.right.leaf, v'], .int .i64 left] w fun e w' => e = .returned (.int .i64 (szR (rw1 r) left)) ∧ Below w.heap.size w w' := by
  have HS := (show Hid (∀ lf : Int, 0 ≤ lf → lf ≤ 1048576 → Calls Try.prog 26 #[r.left.val v, .int .i64 lf] (w.alloc (.cells #[.string r.name, .string r.left.name, .string r.left.text, .bool r.left.leaf, v, .string r.right.name, .string r.right.text, .bool r.right.leaf, v'] 65)) fun e w' => e = .returned (.int .i64 (szR r.left.wt lf)) ∧ Below (w.alloc (.cells #[.string r.name, .string r.left.name, .string r.left.text, .bool r.left.leaf, v, .string r.right.name, .string r.right.text, .bool r.right.leaf, v'] 65)).heap.size (w.alloc (.cells #[.string r.name, .string r.left.name, .string r.left.text, .bool r.left.leaf, v, .string r.right.name, .string r.right.text, .bool r.right.leaf, v'] 65)) w') from fun lf g0 g1 => sz_any r.left v _ lf (ht.still (bel_alloc _ _)) g0 g1)
  have HS' := (show Hid (∀ (w1 : World) (lf : Int), Below (w.alloc (.cells #[.string r.name, .string r.left.name, .string r.left.text, .bool r.left.leaf, v, .string r.right.name, .string r.right.text, .bool r.right.leaf, v'] 65)).heap.size (w.alloc (.cells #[.string r.name, .string r.left.name, .string r.left.text, .bool r.left.leaf, v, .string r.right.name, .string r.right.text, .bool r.right.leaf, v'] 65)) w1 → 0 ≤ lf → lf ≤ 1048576 → Calls Try.prog 26 #[r.right.val v', .int .i64 lf] w1 fun e w' => e = .returned (.int .i64 (szR r.right.wt lf)) ∧ Below w1.heap.size w1 w') from fun w1 lf hb g0 g1 => sz_any r.right v' _ lf (ht'.still (bel_box hb)) g0 g1)
  obtain ⟨a1, m1, c1, rfl⟩ := ht.form
  obtain ⟨a2, m2, c2, rfl⟩ := ht'.form
  simp only [Tr.val] at HS HS'
  clear ht ht'
  unfold rw1
  generalize r.name = x at *
  generalize r.left.name = n0 at *
  generalize r.left.text = x0 at *
  generalize r.left.leaf = l0 at *
  generalize r.right.name = n1 at *
  generalize r.right.text = x1 at *
  generalize r.right.leaf = l1 at *
  generalize r.left.wt = W at *
  generalize r.right.wt = W' at *
  unfold maxLen at hx
  by_cases h2 : (x.size : Int) ≤ left
  · go_enter Try.func25, Try.ntmps25
    go_wp2_with fail
    refine Calls.mono (HS.out _ (by omega) (by omega)) ?_
    rintro e w1 ⟨rfl, hb1⟩
    obtain ⟨hcc, hff⟩ := bcell hb1
    have HB2 := (show Hid _ from hb1)
    clear hb1 HS
    by_cases h4 : (W : Int) ≤ left - x.size
    · rw [szR_yes h4]
      go_wp2_with fail
      refine Calls.mono (HS'.out _ _ HB2.out (by omega) (by omega)) ?_
      rintro e w2 ⟨rfl, hb2⟩
      have HB3 := (show Hid _ from bel_trans (bel_box HB2.out) hb2)
      clear hb2 HS' HB2 hcc hff
      by_cases h5 : (W' : Int) ≤ left - x.size - W
      · rw [szR_yes h5]
        go_wp2_with fail
        go_ret
        exact ⟨ret_int (by rw [szR_yes (by omega)]; omega), HB3.out⟩
      · rw [szR_no (by omega)]
        go_wp2_with fail
        go_ret
        exact ⟨ret_int (by rw [szR_no (by omega)]), HB3.out⟩
    · rw [szR_no (by omega)]
      clear hcc hff
      go_wp2_with fail
      go_ret
      exact ⟨ret_int (by rw [szR_no (by omega)]), bel_box HB2.out⟩
  · go_enter Try.func25, Try.ntmps25
    go_wp2_with fail
    go_ret
    exact ⟨ret_int (by rw [szR_no (by omega)]), (Below.refl _ _).alloc (Nat.le_refl _) _⟩
set_option maxHeartbeats 1600000 in
theorem szRules26 (rl : List Rw) (v : Value) (w : World) (left : Int) (h : RLy w rl v) (h0 : 0 ≤ left) (h1 : left ≤ 1048576) :
    Calls Try.prog 9 #[v, .int .i64 left] w fun e w' => e = .returned (.int .i64 (szR (rwt rl) left)) ∧ Below w.heap.size w w' := by
  obtain ⟨a, cap, b, off, sv, tv, rfl, hc, hm, ha, hx, hcell, hk, hk'⟩ := h
  have HX := (show Hid _ from hx); clear hx
  unfold maxLen at hm
  have HC := (show Hid _ from hcell); clear hcell
  have HK := (show Hid _ from hk); clear hk
  have HK' := (show Hid _ from hk'); clear hk'
  have HA := (show Hid _ from ha); clear ha
  by_cases hl : (rl.length : Int) ≤ left
  · go_enter Try.func9, Try.ntmps9
    go_wp2_with fail
    go_loopw [1, 5] (fun l i wr => ∃ j : Nat, j ≤ rl.length ∧ i = .int .i64 j ∧ 0 ≤ left - rl.length - rwL (rl.take j) ∧ l = .int .i64 (left - rl.length - rwL (rl.take j)) ∧ Hid (Below w.heap.size w wr)) (fun _ i _ => rl.length - (intOf i).toNat)
    case atStart => exact ⟨0, Nat.zero_le _, rfl, by simp [rwL]; omega, by simp [rwL], Below.refl _ _⟩
    case round =>
      obtain ⟨j, hj, rfl, hp, rfl, HB⟩ := hrel
      by_cases hlt : j < rl.length
      · have hbel := HB.out
        obtain rfl := HA.out (by omega)
        obtain ⟨c0, c1, c2, c3, c4, c5, c6, c7, c8⟩ := HC.out j hlt
        rw [← hbel.cell (lt_of_cell c0)] at c0
        rw [← hbel.cell (lt_of_cell c1)] at c1
        rw [← hbel.cell (lt_of_cell c2)] at c2
        rw [← hbel.cell (lt_of_cell c3)] at c3
        rw [← hbel.cell (lt_of_cell c4)] at c4
        rw [← hbel.cell (lt_of_cell c5)] at c5
        rw [← hbel.cell (lt_of_cell c6)] at c6
        rw [← hbel.cell (lt_of_cell c7)] at c7
        rw [← hbel.cell (lt_of_cell c8)] at c8
        obtain ⟨a4, l4, p4, e4⟩ := (HK.out j hlt).form
        obtain ⟨a5, l5, p5, e5⟩ := (HK'.out j hlt).form
        rw [e4] at c4
        rw [e5] at c8
        have HT := (show Hid _ from rwL_take_succ rl j hlt)
        have hle := rwL_take_le rl (j + 1)
        rw [HT.out] at hle
        have HCL := (show Hid _ from szRule61 rl[j] (sv j) (tv j) wr (left - rl.length - rwL (rl.take j)) ((HK.out j hlt).still hbel) ((HK'.out j hlt).still hbel) (HX.out j hlt) hp (by omega))
        rw [e4, e5] at HCL
        have q1 : (j : Int) < (rl.length : Int) := by omega
        clear hbel e4 e5
        generalize rw1 rl[j] = W at *
        generalize rl[j].name = y0 at *
        generalize rl[j].left.name = y1 at *
        generalize rl[j].left.text = y2 at *
        generalize rl[j].left.leaf = y3 at *
        generalize rl[j].right.name = y5 at *
        generalize rl[j].right.text = y6 at *
        generalize rl[j].right.leaf = y7 at *
        generalize hD : rwL (rl.take j) = D at *
        clear hD
        go_wp2_with fail
        refine Calls.mono HCL.out ?_
        rintro e w1 ⟨rfl, hb1⟩
        have HB2 := (show Hid _ from bel_trans HB.out hb1)
        clear hb1 HCL c0 c1 c2 c3 c4 c5 c6 c7 c8
        by_cases hw : (W : Int) ≤ left - rl.length - D
        · rw [szR_yes hw]
          go_wp2_with fail
          refine ⟨⟨j + 1, by omega, by go_num, ?_, ?_, HB2⟩, by simp [intOf]; omega⟩
          · rw [HT.out]; omega
          · rw [HT.out]; exact val_int (by omega)
        · rw [szR_no (by omega)]
          go_wp2_with fail
          go_ret
          exact ⟨ret_int (by unfold rwt; rw [szR_no (by omega)]), HB2.out⟩
      · have q1 : ¬ ((j : Int) < (rl.length : Int)) := by omega
        go_wp2_with fail
        go_ret
        have : j = rl.length := by omega
        subst this
        rw [List.take_length] at hp ⊢
        exact ⟨ret_int (by unfold rwt; rw [szR_yes (by omega)]; omega), HB.out⟩
  · go_enter Try.func9, Try.ntmps9
    go_wp2_with fail
    go_ret
    exact ⟨ret_int (by unfold rwt; rw [szR_no (by omega)]), Below.refl _ _⟩
end Go.Proofs.Ytboffildchoelaa
