import Derived.Test.YtlidkcdhjbokdaaAp
/-! The specification's Apply. -/
namespace Go.Proofs.Ytlidkcdhjbokdaa
open Go.RowKit Go.Deep
set_option linter.unusedVariables false
set_option maxRecDepth 100000
set_option linter.unusedSimpArgs false

set_option maxHeartbeats 400000 in
theorem between_any (n a b : Int) (w : World) :
    Calls Try.prog 14 #[.int .i64 n, .int .i64 a, .int .i64 b] w fun e w' => e = .returned (.bool (decide (a ≤ n ∧ n ≤ b))) ∧ w' = w := by
  by_cases h1 : a ≤ n
  · have e1 : decide (n ≥ a) = true := by simp; omega
    go_enter Try.func14, Try.ntmps14
    go_wp2_with fail
    go_ret
    exact ⟨by simp [h1], rfl⟩
  · have e1 : decide (n ≥ a) = false := by simp; omega
    go_enter Try.func14, Try.ntmps14
    go_wp2_with fail
    go_ret
    exact ⟨by simp [h1], rfl⟩
set_option maxHeartbeats 3200000 in
theorem sAp {S1 S2 : Nat → Prop} (W : List Int) (E : List (Int × Int)) (v1 v2 : Value) (w : World) (h1 : Ints w S1 W v1) (h2 : Eds w S2 E v2) (hE : E.length ≤ 1048576) :
    Calls Try.prog 5 #[v1, v2] w (YAns (apR W E) w) := by
  obtain ⟨a2, cap2, b2, o2, rfl, hc2, hm2, ha2, hcell2⟩ := h2
  have HC := (show Hid _ from hcell2); clear hcell2
  have HA := (show Hid _ from ha2); clear ha2
  obtain ⟨a1, cap1, b1, o1, rfl, hc1, hm1, ha1, hcell1⟩ := h1
  have HC1 := (show Hid _ from hcell1); clear hcell1
  have HA1 := (show Hid _ from ha1); clear ha1
  unfold maxLen at hm2 hm1
  obtain ⟨i3, hi3, hzz⟩ := Option.map_eq_some_iff.1 info3y
  simp only [Prod.mk.injEq] at hzz
  obtain ⟨hz0, hz1, hz2⟩ := hzz
  have HAR := (show Hid (apR W E = apG W (E.drop 0) [] 0) from rfl)
  generalize apR W E = R at *
  have HW0 := (show Hid ((w.alloc (.cells #[] 3)).ownsRow w.heap.size 3 1 (.slice (some ⟨w.heap.size, 0, none⟩) 0 0) 0 []) from World.ownsRow_lit (base := w.heap.size) (e := 3) (size := 1) w #[] 0 (Nat.le_refl _) (by unfold maxLen; omega) rfl)
  go_enter Try.func5, Try.ntmps5
  go_wp2_with fail
  go_loopw [6, 7, 8] (fun u p i wr => ∃ (j a : Nat) (o : List Int), j ≤ E.length ∧ i = .int .i64 j ∧ p = .int .i64 a ∧ a ≤ W.length ∧ Hid (R = apG W (E.drop j) o a ∧ o.length ≤ j ∧ wr.ownsRow w.heap.size 3 1 u o.length (iv o) ∧ Below w.heap.size w wr)) (fun _ _ i _ => E.length - (intOf i).toNat)
  case atStart =>
    exact ⟨0, 0, [], Nat.zero_le _, rfl, rfl, Nat.zero_le _, HAR.out, Nat.le_refl _, HW0.out, bel_alloc _ _⟩
  case round =>
    obtain ⟨j, a, o, hj, rfl, rfl, haW, HJ⟩ := hrel
    by_cases hlt : j < E.length
    · obtain ⟨rfl, hjk⟩ := HA.out (by omega)
      clear hjk
      obtain ⟨c0, c1⟩ := HC.out j hlt
      rw [← HJ.out.2.2.2.cell (lt_of_cell c0)] at c0
      rw [← HJ.out.2.2.2.cell (lt_of_cell c1)] at c1
      have HD := (show Hid _ from drop_get E j hlt)
      generalize E[j] = ej at *
      obtain ⟨k, t⟩ := ej
      dsimp only at c0 c1
      have hba := bel_alloc wr (.cells #[.int .i64 k, .int .i64 t] 36)
      have HB2 := (show Hid _ from (⟨bel_trans HJ.out.2.2.2 hba, own_still HJ.out.2.2.1 hba⟩ : _ ∧ _))
      have y0 : (wr.alloc (.cells #[.int .i64 k, .int .i64 t] 36)).cell? ⟨wr.heap.size, 0, none⟩ = some (.int .i64 k) := by simp [go_sem]
      have y1 : (wr.alloc (.cells #[.int .i64 k, .int .i64 t] 36)).cell? ⟨wr.heap.size, 1, none⟩ = some (.int .i64 t) := by simp [go_sem]
      have HST := (show Hid (apG W (E.drop j) o a = apG W ((k, t) :: E.drop (j + 1)) o a) from congrArg (fun z => apG W z o a) HD.out)
      clear hba
      have HBT := (show Hid _ from between_any k 1 3 (wr.alloc (.cells #[.int .i64 k, .int .i64 t] 36)))
      go_wp2_with fail
      refine Calls.mono HBT.out ?_
      rintro e w3 ⟨rfl, rfl⟩
      clear c0 c1 HBT
      generalize hw1 : wr.alloc (.cells #[.int .i64 k, .int .i64 t] 36) = wb at *
      clear hw1
      by_cases hk : 1 ≤ k ∧ k ≤ 3
      case neg =>
        have hR : R = ([], 10) := by
          rw [HJ.out.1, HST.out]
          refine apG_none ?_
          unfold stp
          by_cases ht : t < 0
          · rw [if_pos ht]
          · rw [if_neg ht, if_neg (by omega), if_neg (by omega), if_neg (by omega)]
        have HR := (show Hid _ from hR); clear hR
        have hd : decide (1 ≤ k ∧ k ≤ 3) = false := decide_eq_false hk
        go_wp2_with fail
        refine bodyPost_ret (v := .tuple #[.slice (some ⟨wb.heap.size, 0, none⟩) 0 0, .int .i64 10]) (by simp [results, Try.results5, go_sem]) rfl ?_
        rw [HR.out]
        exact YAns.nil (bel_trans HB2.out.1 (bel_alloc _ _))

      have hd : decide (1 ≤ k ∧ k ≤ 3) = true := decide_eq_true hk
      by_cases ht : t < 0
      · have hR : R = ([], 10) := by
          rw [HJ.out.1, HST.out]
          exact apG_none (by simp [stp, ht])
        have HR := (show Hid _ from hR); clear hR
        have ht' : decide (t < 0) = true := by simp [ht]
        clear hk
        go_wp2_with fail
        refine bodyPost_ret (v := .tuple #[.slice (some ⟨wb.heap.size, 0, none⟩) 0 0, .int .i64 10]) (by simp [results, Try.results5, go_sem]) rfl ?_
        rw [HR.out]
        exact YAns.nil (bel_trans HB2.out.1 (bel_alloc _ _))

      have ht' : decide (t < 0) = false := by simp; omega
      by_cases hk3 : k = 3
      · subst hk3
        have hR : R = apG W (E.drop (j + 1)) (o ++ [t]) a := by
          rw [HJ.out.1, HST.out]
          exact apG_some (by simp [stp, ht])
        have HR := (show Hid _ from hR); clear hR
        have hba := bel_alloc wb (.cells #[.int .i64 t] 3)
        have HO := (show Hid _ from own_still HB2.out.2 hba)
        have HB3 := (show Hid _ from bel_trans HB2.out.1 hba)
        have HLN := (show Hid _ from HJ.out.2.1)
        clear hba
        go_wp2_with (at_builtin; refine wpList_append_lies _ rfl (.tmp 53) (.tmp 56) 22 rfl w.heap.size 3 i3 _ 1 8 Try.underlying22 hi3 hz0 hz1 hz2 rfl (by decide) _ o.length _ rfl HO.out ⟨wb.heap.size, 0, none⟩ 1 1 [.int .i64 t] rfl rfl ?c1 ?c2 (by decide) ?c3 ?c5 ?c4 _ rfl ?nx)
        case c1 =>
          intro q u hu
          cases q with
          | zero => simp at hu; subst hu; simp [go_sem, Addr.add]
          | succ q => simp at hu
        case c2 => intro u hu; simp at hu; subst hu; rfl
        case c3 => have := HLN.out; unfold maxLen; omega
        case c5 => have := HLN.out; omega
        case c4 => exact HB3.out.size
        case nx =>
          intro g7 cap7 w7 hown7 hgr7 hat7 hlt7
          have HF : Hid (w7.ownsRow w.heap.size 3 1 (.slice (some ⟨g7, 0, none⟩) (o.length + 1) cap7) (o ++ [t]).length (iv (o ++ [t])) ∧ Below w.heap.size w w7) := by
            refine ⟨?_, grown_below HB3.out HO.out (Nat.le_refl _) hgr7⟩
            simpa [iv] using hown7
          clear hown7 hgr7 hat7 hlt7
          go_wp2_with fail
          exact ⟨⟨j + 1, a, o ++ [t], by omega, by go_num, rfl, haW, HR.out, by have := HLN.out; simp; omega, HF.out.1, HF.out.2⟩, by simp [intOf]; omega⟩
      have hk3' : (k != 3) = true := by simp [hk3]
      go_wp2_with fail
      go_cut [46] from 34 to 45 (fun v wx => ∃ B : Bool, v = .bool B ∧ Hid (B = decide (¬ W[a]? = some t)) ∧ Hid (Below wb.heap.size wb wx))
      case first =>
        by_cases hal : a < W.length
        · obtain ⟨rfl, hjk⟩ := HA1.out (by omega)
          have e2 := HC1.out a hal
          have hy : W[a]? = some W[a] := List.getElem?_eq_getElem hal
          generalize W[a] = y at *
          rw [← HB2.out.1.cell (lt_of_cell e2)] at e2
          have HY := (show Hid _ from hy)
          have hd0 : decide (W.length ≤ a) = false := by simp; omega
          clear hy
          by_cases hyt : y = t
          · have hd1 : decide (y = t) = true := by simp [hyt]
            have hd2 : (y != t) = false := by simp [hyt]
            go_quiet (fail)
            go_wp2_with fail
            go_meet
            exact ⟨_, rfl, (show _ = decide (¬ W[a]? = some t) by rw [HY.out]; simp [hyt]), ⟨rfl, rfl, rfl, Nat.le_refl _, fun _ _ => rfl⟩⟩
          · have hd1 : decide (y = t) = false := by simp [hyt]
            have hd2 : (y != t) = true := by simp [hyt]
            go_quiet (fail)
            go_wp2_with fail
            go_meet
            exact ⟨_, rfl, (show _ = decide (¬ W[a]? = some t) by rw [HY.out]; simp [hyt]), ⟨rfl, rfl, rfl, Nat.le_refl _, fun _ _ => rfl⟩⟩
        · have hd0 : decide (W.length ≤ a) = true := by simp; omega
          have hnone : W[a]? = none := by
            rw [List.getElem?_eq_none]
            omega
          go_quiet (fail)
          go_wp2_with fail
          go_meet
          exact ⟨_, rfl, (show _ = decide (¬ W[a]? = some t) by rw [hnone]; simp), ⟨rfl, rfl, rfl, Nat.le_refl _, fun _ _ => rfl⟩⟩
      case rest =>
        obtain ⟨B, rfl, HBB, HX⟩ := hcut
        have x0 := (HX.out.cell (lt_of_cell y0)).trans y0
        have x1 := (HX.out.cell (lt_of_cell y1)).trans y1
        have HB4 := (show Hid _ from (⟨bel_trans HB2.out.1 HX.out, own_still HB2.out.2 HX.out⟩ : _ ∧ _))
        clear HB2 y0 y1 HX
        cases B with
        | true =>
          have hnx : ¬ W[a]? = some t := of_decide_eq_true HBB.out.symm
          have hR : R = ([], 10) := by
            rw [HJ.out.1, HST.out]
            exact apG_none (by simp [stp, ht, hk3, hnx])
          have HR := (show Hid _ from hR); clear hR hnx
          go_wp2_with fail
          refine bodyPost_ret (v := .tuple #[.slice (some ⟨wc.heap.size, 0, none⟩) 0 0, .int .i64 10]) (by simp [results, Try.results5, go_sem]) rfl ?_
          rw [HR.out]
          exact YAns.nil (bel_trans HB4.out.1 (bel_alloc _ _))
        | false =>
        have hnx : W[a]? = some t := by
          have h := of_decide_eq_false HBB.out.symm
          exact Decidable.not_not.1 h
        obtain ⟨hal, hat⟩ := List.getElem?_eq_some_iff.1 hnx
        clear hat
        by_cases hk1 : k = 1
        · subst hk1
          have hR : R = apG W (E.drop (j + 1)) (o ++ [t]) (a + 1) := by
            rw [HJ.out.1, HST.out]
            exact apG_some (by simp [stp, ht, hnx])
          clear hnx
          have HR := (show Hid _ from hR); clear hR
          have hba := bel_alloc wc (.cells #[.int .i64 t] 3)
          have HO := (show Hid _ from own_still HB4.out.2 hba)
          have HB3 := (show Hid _ from bel_trans HB4.out.1 hba)
          have HLN := (show Hid _ from HJ.out.2.1)
          clear hba
          go_wp2_with (at_builtin; refine wpList_append_lies _ rfl (.tmp 53) (.tmp 56) 22 rfl w.heap.size 3 i3 _ 1 8 Try.underlying22 hi3 hz0 hz1 hz2 rfl (by decide) _ o.length _ rfl HO.out ⟨wc.heap.size, 0, none⟩ 1 1 [.int .i64 t] rfl rfl ?c1 ?c2 (by decide) ?c3 ?c5 ?c4 _ rfl ?nx)
          case c1 =>
            intro q u hu
            cases q with
            | zero => simp at hu; subst hu; simp [go_sem, Addr.add]
            | succ q => simp at hu
          case c2 => intro u hu; simp at hu; subst hu; rfl
          case c3 => have := HLN.out; unfold maxLen; omega
          case c5 => have := HLN.out; omega
          case c4 => exact HB3.out.size
          case nx =>
            intro g7 cap7 w7 hown7 hgr7 hat7 hlt7
            have HF : Hid (w7.ownsRow w.heap.size 3 1 (.slice (some ⟨g7, 0, none⟩) (o.length + 1) cap7) (o ++ [t]).length (iv (o ++ [t])) ∧ Below w.heap.size w w7) := by
              refine ⟨?_, grown_below HB3.out HO.out (Nat.le_refl _) hgr7⟩
              simpa [iv] using hown7
            clear hown7 hgr7 hat7 hlt7
            go_wp2_with fail
            exact ⟨⟨j + 1, a + 1, o ++ [t], by omega, by go_num, by go_num, hal, HR.out, by have := HLN.out; simp; omega, HF.out.1, HF.out.2⟩, by simp [intOf]; omega⟩
        · obtain rfl : k = 2 := by omega
          have hR : R = apG W (E.drop (j + 1)) o (a + 1) := by
            rw [HJ.out.1, HST.out]
            exact apG_some (by simp [stp, ht, hnx])
          have HR := (show Hid _ from hR); clear hR hnx
          go_wp2_with fail
          exact ⟨⟨j + 1, a + 1, o, by omega, by go_num, by go_num, hal, HR.out, by have := HJ.out.2.1; omega, HB4.out.2, HB4.out.1⟩, by simp [intOf]; omega⟩
    · have hje : E.drop j = [] := by rw [List.drop_eq_nil_iff]; omega
      have hR : R = if a = W.length then (o, 0) else ([], 10) := by
        rw [HJ.out.1, hje]
        rfl
      have HR := (show Hid _ from hR); clear hR hje
      by_cases hn0 : a = W.length
      · have hRR : R = (o, 0) := by rw [HR.out, if_pos hn0]
        have HRR := (show Hid _ from hRR); clear hRR
        have hd : ((a : Int) != (W.length : Int)) = false := by simp [hn0]
        have hd' : (a != W.length) = false := by simp [hn0]
        clear hn0
        go_wp2_with fail
        refine bodyPost_ret (v := .tuple #[u6, .int .i64 0]) (by simp [results, Try.results5, go_sem]) rfl ?_
        rw [HRR.out]
        exact YAns.of HJ.out.2.2.1 (Nat.le_refl _) HJ.out.2.2.2
      · have hRR : R = ([], 10) := by rw [HR.out, if_neg hn0]
        have HRR := (show Hid _ from hRR); clear hRR
        have hd : ((a : Int) != (W.length : Int)) = true := by simp; omega
        clear hn0
        go_wp2_with fail
        refine bodyPost_ret (v := .tuple #[.slice (some ⟨wr.heap.size, 0, none⟩) 0 0, .int .i64 10]) (by simp [results, Try.results5, go_sem]) rfl ?_
        rw [HRR.out]
        exact YAns.nil (bel_trans HJ.out.2.2.2 (bel_alloc _ _))
end Go.Proofs.Ytlidkcdhjbokdaa
