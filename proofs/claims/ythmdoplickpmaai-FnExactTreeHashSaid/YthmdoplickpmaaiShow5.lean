import Derived.Test.YthmdoplickpmaaiShow4
namespace Go.Proofs.Ythmdoplickpmaai
open Go.RowKit Go.Deep Go.Lib
set_option linter.unusedVariables false
set_option maxRecDepth 100000
set_option linter.unusedSimpArgs false

set_option maxHeartbeats 1600000 in
theorem sShowOf {S : Nat → Prop} (t : Tr) : ∀ (v : Value) (w : World), Lies w S t v → t.wt ≤ 1048576 → t.cnt ≤ 1048577 →
    Calls Try.prog 37 #[t.val v] w fun e w' => e = .returned (.string (bs t.sh)) ∧ Below w.heap.size w w' := by
  refine Tr.ind (P := fun t => ∀ (v : Value) (w : World), Lies w S t v → t.wt ≤ 1048576 → t.cnt ≤ 1048577 →
    Calls Try.prog 37 #[t.val v] w fun e w' => e = .returned (.string (bs t.sh)) ∧ Below w.heap.size w w') ?_ t
  intro n x l k ih v w hlies hwt hct
  rw [Tr.wt_mk] at hwt
  rw [Tr.cnt_mk] at hct
  obtain ⟨a, cap, b, off, sv, rfl, hn, hx, hc, hm, ha, hcell, hk⟩ := hlies.out
  dsimp only at hn hx hc ha hcell hk ⊢
  unfold maxLen at hm hx hn
  have HI := (show Hid _ from ih); clear ih
  have HC := (show Hid _ from hcell); clear hcell
  have HK := (show Hid _ from hk); clear hk
  have HA := (show Hid _ from ha); clear ha
  simp only [Tr.val]
  cases l
  · rw [Tr.sh_node]
    have hnl : n.data.toList.length = n.size := rfl
    go_enter Try.func37, Try.ntmps37
    go_wp2_with fail
    go_loopw [3, 4] (fun u i wr => ∃ j : Nat, j ≤ k.length ∧ i = .int .i64 j ∧ u = .string (bs (40 :: (n.data.toList ++ Tr.shL (k.take j)))) ∧ wr.cell? ⟨w.heap.size, 3, none⟩ = some (.slice a k.length cap) ∧ Below w.heap.size w wr) (fun _ i _ => k.length - (intOf i).toNat)
    case atStart =>
      refine ⟨0, Nat.zero_le _, rfl, ?_, by simp [go_sem], bel_alloc _ _⟩
      have e0 : bs (40 :: (n.data.toList ++ Tr.shL (k.take 0))) = bs [40] ++ n := by
        have : (40 : UInt8) :: (n.data.toList ++ Tr.shL (k.take 0)) = [40] ++ n.data.toList := by simp [Tr.shL]
        rw [this, ← bs_append, bs_data]
      rw [e0]; rfl
    case round =>
      obtain ⟨j, hj, rfl, rfl, cK, hbw⟩ := hrel
      have hl1 := Tr.shL_len (k.take j) (fun i hi => Tr.sh_len _)
      have hw2 := Tr.wtL_take_le k j
      have hc2 := Tr.cntL_take_le k j
      have htl : (k.take j).length ≤ j := List.length_take_le _ _
      have hs1 : (bs (40 :: (n.data.toList ++ Tr.shL (k.take j)))).size ≤ 16777216 := by
        rw [bs_size, List.length_cons, List.length_append]; omega
      by_cases hlt : j < k.length
      · obtain ⟨rfl, _⟩ := HA.out (by omega)
        obtain ⟨c0, c1, c2, c3⟩ := HC.out j hlt
        rw [← hbw.cell (lt_of_cell c0)] at c0
        rw [← hbw.cell (lt_of_cell c1)] at c1
        rw [← hbw.cell (lt_of_cell c2)] at c2
        rw [← hbw.cell (lt_of_cell c3)] at c3
        have g1 := Tr.shL_take_succ k j hlt
        have g3 := Tr.sh_len k[j]
        have g4 := Tr.wt_mem k j hlt
        have g5 : k[j].cnt ≤ Tr.cntL k := by
          have h1 := Tr.cntL_take_succ k j hlt
          have h2 := Tr.cntL_take_le k (j + 1)
          omega
        have hs2 : (bs k[j].sh).size ≤ 16777216 := by rw [bs_size]; omega
        have hcl := lt_of_cell cK
        have eL : bs (40 :: (n.data.toList ++ Tr.shL (k.take j))) ++ bs [32] ++ bs k[j].sh = bs (40 :: (n.data.toList ++ Tr.shL (k.take (j + 1)))) := by
          rw [bs_append, bs_append, g1]; simp
        generalize hS : bs (40 :: (n.data.toList ++ Tr.shL (k.take j))) = sA at *
        generalize hT : bs k[j].sh = sB at *
        have HT := (show Hid _ from hT); clear hT
        have HL := (show Hid _ from eL); clear eL hS hl1 hw2 hc2 g1
        have hsz32 : (⟨#[32]⟩ : ByteArray).size = 1 := rfl
        go_wp2_with fail
        refine Calls.mono (HI.out j hlt _ wr ((HK.out j hlt).still hbw) (by omega) (by omega)) ?_
        rintro e w2 ⟨rfl, hb1⟩
        rw [HT.out]
        have cK2 : w2.cell? ⟨w.heap.size, 3, none⟩ = some (.slice (some ⟨b, off, none⟩) k.length cap) := by rw [hb1.cell hcl]; exact cK
        have hb2 := bel_trans hbw hb1
        go_wp2_with fail
        refine ⟨⟨j + 1, by omega, by go_num, ?_, cK2, hb2⟩, by simp [intOf]; omega⟩
        rw [← HL.out]; rfl
      · go_wp2_with fail
        go_ret
        refine ⟨?_, hbw⟩
        have e1 : bs (40 :: (n.data.toList ++ (Tr.shL k ++ [41]))) = bs (40 :: (n.data.toList ++ Tr.shL (k.take j))) ++ bs [41] := by
          rw [bs_append, List.take_of_length_le (by omega)]; simp
        rw [e1]; rfl
  · rw [Tr.sh_leaf]
    have h46 := fun w' => quote_any x (by omega) w'
    have hql := quo_len x.data.toList
    have hxl : x.data.toList.length = x.size := rfl
    have hqs : (bs (quo x.data.toList)).size ≤ 4194306 := by rw [bs_size]; omega
    have eQ : bs (n.data.toList ++ quo x.data.toList) = n ++ bs (quo x.data.toList) := by rw [← bs_append, bs_data]
    have HE := (show Hid _ from eQ); clear eQ hql
    generalize hQ : bs (quo x.data.toList) = sQ at *
    clear hQ
    have H46 := (show Hid _ from h46); clear h46
    go_enter Try.func37, Try.ntmps37
    go_wp2_with fail
    have FX : Hid (Four (w.alloc (.cells #[.string n, .string x, .bool true, .slice a k.length cap] 29)).drew w.heap.size (.string n) (.string x) (.bool true) (.slice a k.length cap)) := four_box _ _ _ _ _ _
    go_region_with (go_at_call 48; refine Calls.mono (H46.out _) ?_; rintro e w2 ⟨rfl, hb2⟩; obtain ⟨Y0, Y1, Y2, Y3⟩ := Four.still FX.out hb2)
    all_goals
      go_wp2_with fail
      go_ret
      exact ⟨by rw [HE.out]; rfl, ((bel_alloc _ _).drew).trans (hb2.mono (by simp))⟩

end Go.Proofs.Ythmdoplickpmaai
