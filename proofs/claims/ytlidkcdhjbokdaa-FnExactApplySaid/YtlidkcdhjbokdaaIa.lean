import Derived.Test.YtlidkcdhjbokdaaAp
/-! The program's Apply. -/
namespace Go.Proofs.Ytlidkcdhjbokdaa
open Go.RowKit Go.Deep
set_option linter.unusedVariables false
set_option maxRecDepth 100000
set_option linter.unusedSimpArgs false

set_option maxHeartbeats 3200000 in
theorem iAp {S1 S2 : Nat → Prop} (W : List Int) (E : List (Int × Int)) (v1 v2 : Value) (w : World) (h1 : Ints w S1 W v1) (h2 : Eds w S2 E v2) (hE : E.length ≤ 1048576) :
    Calls Try.prog 8 #[v1, v2] w (YAns (apR W E) w) := by
  obtain ⟨a2, cap2, b2, o2, rfl, hc2, hm2, ha2, hcell2⟩ := h2
  have HC := (show Hid _ from hcell2); clear hcell2
  have HA := (show Hid _ from ha2); clear ha2
  have HI := (show Hid _ from h1)
  obtain ⟨a1, cap1, rfl, hl1⟩ := h1.form
  clear h1
  unfold maxLen at hm2 hl1
  obtain ⟨i3, hi3, hzz⟩ := Option.map_eq_some_iff.1 info3y
  simp only [Prod.mk.injEq] at hzz
  obtain ⟨hz0, hz1, hz2⟩ := hzz
  have HAR := (show Hid (apR W E = apG W (E.drop 0) [] 0) from rfl)
  generalize apR W E = R at *
  go_enter Try.func8, Try.ntmps8
  go_wp2_with fail
  go_loopw [0, 6, 12] (fun v u i wr => ∃ (j a : Nat) (o : List Int) (av : Option Addr) (n cv : Nat), j ≤ E.length ∧ i = .int .i64 j ∧ v = .slice av n cv ∧ n ≤ W.length ∧ Hid (Ints w S1 (W.drop a) (.slice av n cv) ∧ a ≤ W.length ∧ R = apG W (E.drop j) o a ∧ o.length ≤ j ∧ wr.ownsRow w.heap.size 3 1 u o.length (iv o) ∧ Below w.heap.size w wr)) (fun _ _ i _ => E.length - (intOf i).toNat)
  case atStart =>
    refine ⟨0, 0, [], a1, W.length, cap1, Nat.zero_le _, rfl, rfl, Nat.le_refl _, ?_, Nat.zero_le _, HAR.out, Nat.le_refl _, ⟨rfl, .inl ⟨rfl, rfl⟩⟩, Below.refl _ _⟩
    rw [List.drop_zero]
    exact HI.out
  case round =>
    obtain ⟨j, a, o, av, n, cv, hj, rfl, rfl, hn, HJ⟩ := hrel
    by_cases hlt : j < E.length
    · obtain ⟨rfl, hjk⟩ := HA.out (by omega)
      clear hjk
      obtain ⟨c0, c1⟩ := HC.out j hlt
      rw [← HJ.out.2.2.2.2.2.cell (lt_of_cell c0)] at c0
      rw [← HJ.out.2.2.2.2.2.cell (lt_of_cell c1)] at c1
      have HD := (show Hid _ from drop_get E j hlt)
      generalize E[j] = ej at *
      obtain ⟨k, t⟩ := ej
      dsimp only at c0 c1
      have hba := bel_alloc wr (.cells #[.int .i64 k, .int .i64 t] 36)
      have HB1 := (show Hid _ from (⟨hba, bel_trans HJ.out.2.2.2.2.2 hba, own_still HJ.out.2.2.2.2.1 hba⟩ : _ ∧ _ ∧ _))
      have x0 : (wr.alloc (.cells #[.int .i64 k, .int .i64 t] 36)).cell? ⟨wr.heap.size, 0, none⟩ = some (.int .i64 k) := by simp [go_sem]
      have x1 : (wr.alloc (.cells #[.int .i64 k, .int .i64 t] 36)).cell? ⟨wr.heap.size, 1, none⟩ = some (.int .i64 t) := by simp [go_sem]
      clear hba
      go_wp2_with fail
      generalize hw1 : wr.alloc (.cells #[.int .i64 k, .int .i64 t] 36) = w1 at *
      have hnl : n = (W.drop a).length := by
        obtain ⟨_, _, hh, _⟩ := HJ.out.1.form
        simp only [Value.slice.injEq] at hh
        exact hh.2.1
      have HNL := (show Hid _ from hnl); clear hnl c0 c1
      go_cut [9] from 16 to 26 (fun v wx => ∃ B : Bool, v = .bool B ∧ Hid (B = decide (W[a]? = some t)) ∧ Hid (Below w1.heap.size w1 wx))
      case first =>
        by_cases hn0 : 0 < n
        · obtain ⟨a9, c9, b9, o9, h9, _, _, h10, h11⟩ := HJ.out.1
          obtain ⟨e1, _⟩ := h10 (by rw [← HNL.out]; exact hn0)
          have e2 := h11 0 (by rw [← HNL.out]; exact hn0)
          simp only [Value.slice.injEq] at h9
          obtain ⟨e3, jk1, jk2⟩ := h9
          clear jk1 jk2
          rw [e1] at e3
          subst e3
          have hd0 : decide (0 < n) = true := by simp [hn0]
          have hy : W[a]? = some ((W.drop a)[0]'(by rw [← HNL.out]; exact hn0)) := by simp
          generalize (W.drop a)[0]'(by rw [← HNL.out]; exact hn0) = y at *
          rw [← HB1.out.2.1.cell (lt_of_cell e2)] at e2
          have HY := (show Hid _ from hy)
          clear hy h10 h11 e1
          rw [Nat.add_zero] at e2
          by_cases hyt : y = t
          · have hd : decide (y = t) = true := by simp [hyt]
            have hd2 : (y == t) = true := by simp [hyt]
            go_quiet (fail)
            go_wp2_with fail
            go_meet
            exact ⟨_, rfl, (show _ = decide (W[a]? = some t) by rw [HY.out]; simp [hyt]), ⟨rfl, rfl, rfl, Nat.le_refl _, fun _ _ => rfl⟩⟩
          · have hd : decide (y = t) = false := by simp [hyt]
            have hd2 : (y == t) = false := by simp [hyt]
            go_quiet (fail)
            go_wp2_with fail
            go_meet
            exact ⟨_, rfl, (show _ = decide (W[a]? = some t) by rw [HY.out]; simp [hyt]), ⟨rfl, rfl, rfl, Nat.le_refl _, fun _ _ => rfl⟩⟩
        · have hd : decide (0 < n) = false := by simp; omega
          have hnone : W[a]? = none := by
            have h1 := HNL.out
            rw [List.length_drop] at h1
            rw [List.getElem?_eq_none]
            omega
          go_quiet (fail)
          go_wp2_with fail
          go_meet
          exact ⟨_, rfl, (show _ = decide (W[a]? = some t) by rw [hnone]; simp), ⟨rfl, rfl, rfl, Nat.le_refl _, fun _ _ => rfl⟩⟩
      case rest =>
        obtain ⟨B, rfl, HBB, HX⟩ := hcut
        have y0 := (HX.out.cell (lt_of_cell x0)).trans x0
        have y1 := (HX.out.cell (lt_of_cell x1)).trans x1
        have HB2 := (show Hid _ from (⟨bel_trans HB1.out.2.1 HX.out, own_still HB1.out.2.2 HX.out⟩ : _ ∧ _))
        clear HB1 x0 x1 hw1 HX
        have HST := (show Hid (apG W (E.drop j) o a = apG W ((k, t) :: E.drop (j + 1)) o a) from congrArg (fun z => apG W z o a) HD.out)
        by_cases ht : t < 0
        · have hR : R = ([], 10) := by
            rw [HJ.out.2.2.1, HST.out]
            exact apG_none (by simp [stp, ht])
          have HR := (show Hid _ from hR); clear hR
          go_wp2_with fail
          refine bodyPost_ret (v := .tuple #[.slice none 0 0, .int .i64 10]) (by simp [results, Try.results8, go_sem]) rfl ?_
          rw [HR.out]
          exact YAns.nil HB2.out.1
        have ht' : decide (t < 0) = false := by simp; omega
        by_cases hk3 : k = 3
        · subst hk3
          have hR : R = apG W (E.drop (j + 1)) (o ++ [t]) a := by
            rw [HJ.out.2.2.1, HST.out]
            exact apG_some (by simp [stp, ht])
          have HR := (show Hid _ from hR); clear hR
          have hba := bel_alloc wc (.cells #[.int .i64 t] 3)
          have HO := (show Hid _ from own_still HB2.out.2 hba)
          have HB3 := (show Hid _ from bel_trans HB2.out.1 hba)
          have HLN := (show Hid _ from HJ.out.2.2.2.1)
          clear hba
          go_wp2_with (at_builtin; refine wpList_append_lies _ rfl (.tmp 35) (.tmp 38) 22 rfl w.heap.size 3 i3 _ 1 8 Try.underlying22 hi3 hz0 hz1 hz2 rfl (by decide) _ o.length _ rfl HO.out ⟨wc.heap.size, 0, none⟩ 1 1 [.int .i64 t] rfl rfl ?c1 ?c2 (by decide) ?c3 ?c5 ?c4 _ rfl ?nx)
          case c2 => rfl
          case c3 => have := HLN.out; unfold maxLen; omega
          case c5 => have := HLN.out; omega
          case c4 => have := HB3.out.size; simp only [World.size_alloc] at this; exact this
          case nx =>
            intro g7 cap7 w7 hown7 hgr7 hat7 hlt7
            have HF : Hid (w7.ownsRow w.heap.size 3 1 (.slice (some ⟨g7, 0, none⟩) (o.length + 1) cap7) (o ++ [t]).length (iv (o ++ [t])) ∧ Below w.heap.size w w7) := by
              refine ⟨?_, grown_below HB3.out HO.out (Nat.le_refl _) hgr7⟩
              simpa [iv] using hown7
            clear hown7 hgr7 hat7 hlt7
            go_wp2_with fail
            exact ⟨⟨j + 1, a, o ++ [t], av, n, cv, by omega, by go_num, rfl, hn, HJ.out.1, HJ.out.2.1, HR.out, by have := HLN.out; simp; omega, HF.out.1, HF.out.2⟩, by simp [intOf]; omega⟩
        have hk3' : (k == 3) = false := by simp [hk3]
        cases B with
        | false =>
          have hnx : ¬ W[a]? = some t := of_decide_eq_false HBB.out.symm
          have hR : R = ([], 10) := by
            rw [HJ.out.2.2.1, HST.out]
            exact apG_none (by simp [stp, ht, hk3, hnx])
          have HR := (show Hid _ from hR); clear hR
          clear hnx
          by_cases hk1 : k = 1
          · subst hk1
            go_wp2_with fail
            refine bodyPost_ret (v := .tuple #[.slice none 0 0, .int .i64 10]) (by simp [results, Try.results8, go_sem]) rfl ?_
            rw [HR.out]
            exact YAns.nil HB2.out.1
          have hk1' : (k == 1) = false := by simp [hk1]
          by_cases hk2 : k = 2
          · subst hk2
            go_wp2_with fail
            refine bodyPost_ret (v := .tuple #[.slice none 0 0, .int .i64 10]) (by simp [results, Try.results8, go_sem]) rfl ?_
            rw [HR.out]
            exact YAns.nil HB2.out.1
          have hk2' : (k == 2) = false := by simp [hk2]
          go_wp2_with fail
          refine bodyPost_ret (v := .tuple #[.slice none 0 0, .int .i64 10]) (by simp [results, Try.results8, go_sem]) rfl ?_
          rw [HR.out]
          exact YAns.nil HB2.out.1
        | true =>
        have hnx : W[a]? = some t := of_decide_eq_true HBB.out.symm
        obtain ⟨hal, hat⟩ := List.getElem?_eq_some_iff.1 hnx
        have hdr : W.drop a = t :: W.drop (a + 1) := by rw [List.drop_eq_getElem_cons hal, hat]
        obtain ⟨a9, c9, b9, o9, h9, hc9, _, h10, _⟩ := HJ.out.1
        simp only [Value.slice.injEq] at h9
        obtain ⟨e3, e4, e5⟩ := h9
        obtain ⟨e1, _⟩ := h10 (by rw [hdr]; simp)
        rw [e1] at e3
        subst e3 e5
        have hn1 : 1 ≤ n := by rw [e4, hdr]; simp
        have hnc : n ≤ cv := by rw [e4]; exact hc9
        have HTL := (show Hid _ from Ints.cut (hdr ▸ HJ.out.1))
        have hcv : cv ≤ 2 ^ 63 - 1 := by
          obtain ⟨_, _, _, _, h9, _, h12, _, _⟩ := HJ.out.1
          simp only [Value.slice.injEq] at h9
          unfold maxLen at h12
          omega
        clear h10 hc9 e1 e4 hdr hat
        by_cases hk1 : k = 1
        · subst hk1
          have hR : R = apG W (E.drop (j + 1)) (o ++ [t]) (a + 1) := by
            rw [HJ.out.2.2.1, HST.out]
            exact apG_some (by simp [stp, ht, hnx])
          clear hnx
          have HR := (show Hid _ from hR); clear hR
          have hba := bel_alloc wc (.cells #[.int .i64 t] 3)
          have HO := (show Hid _ from own_still HB2.out.2 hba)
          have HB3 := (show Hid _ from bel_trans HB2.out.1 hba)
          have HLN := (show Hid _ from HJ.out.2.2.2.1)
          clear hba
          go_wp2_with (at_builtin; refine wpList_append_lies _ rfl (.tmp 47) (.tmp 50) 22 rfl w.heap.size 3 i3 _ 1 8 Try.underlying22 hi3 hz0 hz1 hz2 rfl (by decide) _ o.length _ rfl HO.out ⟨wc.heap.size, 0, none⟩ 1 1 [.int .i64 t] rfl rfl ?c1 ?c2 (by decide) ?c3 ?c5 ?c4 _ rfl ?nx)
          case c2 => rfl
          case c3 => have := HLN.out; unfold maxLen; omega
          case c5 => have := HLN.out; omega
          case c4 => have := HB3.out.size; simp only [World.size_alloc] at this; exact this
          case nx =>
            intro g7 cap7 w7 hown7 hgr7 hat7 hlt7
            have HF : Hid (w7.ownsRow w.heap.size 3 1 (.slice (some ⟨g7, 0, none⟩) (o.length + 1) cap7) (o ++ [t]).length (iv (o ++ [t])) ∧ Below w.heap.size w w7) := by
              refine ⟨?_, grown_below HB3.out HO.out (Nat.le_refl _) hgr7⟩
              simpa [iv] using hown7
            clear hown7 hgr7 hat7 hlt7
            go_wp2_with fail
            exact ⟨⟨j + 1, a + 1, o ++ [t], _, n - 1, cv - 1, by omega, by go_num, rfl, by omega, HTL.out, hal, HR.out, by have := HLN.out; simp; omega, HF.out.1, HF.out.2⟩, by simp [intOf]; omega⟩
        have hk1' : (k == 1) = false := by simp [hk1]
        by_cases hk2 : k = 2
        · subst hk2
          have hR : R = apG W (E.drop (j + 1)) o (a + 1) := by
            rw [HJ.out.2.2.1, HST.out]
            exact apG_some (by simp [stp, ht, hnx])
          have HR := (show Hid _ from hR); clear hR hnx
          go_wp2_with fail
          exact ⟨⟨j + 1, a + 1, o, _, n - 1, cv - 1, by omega, by go_num, rfl, by omega, HTL.out, hal, HR.out, by have := HJ.out.2.2.2.1; omega, HB2.out.2, HB2.out.1⟩, by simp [intOf]; omega⟩
        have hk2' : (k == 2) = false := by simp [hk2]
        · have hR : R = ([], 10) := by
            rw [HJ.out.2.2.1, HST.out]
            exact apG_none (by simp [stp, ht, hk3, hk1, hk2])
          have HR := (show Hid _ from hR); clear hR
          clear hnx
          go_wp2_with fail
          refine bodyPost_ret (v := .tuple #[.slice none 0 0, .int .i64 10]) (by simp [results, Try.results8, go_sem]) rfl ?_
          rw [HR.out]
          exact YAns.nil HB2.out.1
    · have hje : E.drop j = [] := by rw [List.drop_eq_nil_iff]; omega
      have hR : R = if a = W.length then (o, 0) else ([], 10) := by
        rw [HJ.out.2.2.1, hje]
        rfl
      have hnl : n = W.length - a := by
        obtain ⟨_, _, hh, _⟩ := HJ.out.1.form
        simp only [Value.slice.injEq, List.length_drop] at hh
        exact hh.2.1
      have hal := HJ.out.2.1
      have HR := (show Hid _ from hR); clear hR hje
      by_cases hn0 : 0 < n
      · have hRR : R = ([], 10) := by rw [HR.out, if_neg (by omega)]
        have HRR := (show Hid _ from hRR); clear hRR
        clear hnl
        go_wp2_with fail
        refine bodyPost_ret (v := .tuple #[.slice none 0 0, .int .i64 10]) (by simp [results, Try.results8, go_sem]) rfl ?_
        rw [HRR.out]
        exact YAns.nil HJ.out.2.2.2.2.2
      · have hRR : R = (o, 0) := by rw [HR.out, if_pos (by omega)]
        have HRR := (show Hid _ from hRR); clear hRR
        clear hnl
        have hd : decide (0 < n) = false := by simp; omega
        go_wp2_with fail
        refine bodyPost_ret (v := .tuple #[u6, .int .i64 0]) (by simp [results, Try.results8, go_sem]) rfl ?_
        rw [HRR.out]
        exact YAns.of HJ.out.2.2.2.2.1 (Nat.le_refl _) HJ.out.2.2.2.2.2
end Go.Proofs.Ytlidkcdhjbokdaa
