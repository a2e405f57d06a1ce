import Derived.Test.YthmdoplickpmaahScan2
namespace Go.Proofs.Ythmdoplickpmaah
open Go.RowKit Go.Deep Go.Lib
set_option linter.unusedVariables false
set_option maxRecDepth 100000
set_option linter.unusedSimpArgs false

theorem ix0 (w : World) : (Instr.index 91 (.agg #[.int .i64 100, .int .i64 10, .int .i64 1]) (.int .i64 0)).run Try.prog w = .ok (.int .i64 100) w := by kernel_rfl
theorem ix1 (w : World) : (Instr.index 91 (.agg #[.int .i64 100, .int .i64 10, .int .i64 1]) (.int .i64 1)).run Try.prog w = .ok (.int .i64 10) w := by kernel_rfl
theorem ix2 (w : World) : (Instr.index 91 (.agg #[.int .i64 100, .int .i64 10, .int .i64 1]) (.int .i64 2)).run Try.prog w = .ok (.int .i64 1) w := by kernel_rfl
theorem pNum_bad {s : ByteArray} {m k n : Nat} (h : (decide (k < s.size) && digB (s.get! k).toNat) = false) : pNum s (m + 1) k n = .error k := by rw [pNum, if_neg (by rw [h]; simp)]
theorem pNum_no {s : ByteArray} {m k n n' : Nat} (h : (decide (k < s.size) && digB (s.get! k).toNat) = true) (hn : n * 10 + ((s.get! k).toNat - 48) = n') (hb : begins n' m = false) : pNum s (m + 1) k n = .error k := by
  rw [pNum, if_pos h, hn, if_neg (by rw [hb]; simp)]
theorem pNum_go {s : ByteArray} {m k n n' : Nat} (h : (decide (k < s.size) && digB (s.get! k).toNat) = true) (hn : n * 10 + ((s.get! k).toNat - 48) = n') (hb : begins n' m = true) : pNum s (m + 1) k n = pNum s m (k + 1) n' := by
  rw [pNum, if_pos h, hn, if_pos hb]

set_option maxHeartbeats 3200000 in
theorem numbered_any {p k : Nat} {s : ByteArray} (w : World) (h : Scn w p s k) :
    Calls Try.prog 73 #[.pointer (some ⟨p, 0, none⟩)] w fun e w' => Out p (p + 1) w w' ∧ Got (pNum s 3 k 0) p s e w' := by
  have hs := h.2.1
  have HS := (show Hid _ from h); clear h
  go_enter Try.func73, Try.ntmps73
  go_wp2_with fail
  go_loopw [3, 7] (fun n i wr => ∃ (j D K : Nat), j ≤ 3 ∧ i = .int .i64 j ∧ n = .int .i64 (D * 10 ^ (3 - j) : Nat) ∧ D ≤ 1000 ∧ K ≤ s.size ∧ Hid (Out p (p + 1) w wr ∧ Scn wr p s K ∧ pNum s 3 k 0 = pNum s (3 - j) K D ∧ (j = 3 → D ≤ 255))) (fun _ i _ => 3 - (intOf i).toNat)
  case atStart => exact ⟨0, 0, k, Nat.zero_le _, rfl, rfl, Nat.zero_le _, HS.out.1, Out.refl _ _ _, HS.out, rfl, fun h => absurd h (by omega)⟩
  case round =>
    obtain ⟨j, D, K, hj, rfl, rfl, hD, hK, HR⟩ := hrel
    have hSD := seesDigit_any wr HR.out.2.1
    have HSD := (show Hid _ from hSD); clear hSD
    by_cases h3 : j = 3
    · subst h3
      have hD' := HR.out.2.2.2 rfl
      have hq : pNum s 3 k 0 = .ok (UInt8.ofNat D, K) := HR.out.2.2.1
      have HQ := (show Hid _ from hq); clear hq
      have hmod : (D : Int) % 256 = D := by omega
      simp only [Nat.sub_self, Nat.pow_zero, Nat.mul_one]
      go_wp2_with fail
      go_ret
      rw [HQ.out]
      refine ⟨HR.out.1, ?_, HR.out.2.1⟩
      have e1 : ((UInt8.ofNat D).toNat : Int) = D := by simp; omega
      dsimp only
      rw [e1]
      rfl
    have hj2 : j = 0 ∨ j = 1 ∨ j = 2 := by omega
    have hix0 := ix0 wr
    have hix1 := ix1 wr
    have hix2 := ix2 wr
    rcases hj2 with rfl | rfl | rfl
    · have hnum : ((D * 10 ^ (3 - 0) : Nat) : Int) = 1000 * (D : Int) := by
        show ((D * 1000 : Nat) : Int) = _
        omega
      rw [hnum]
      cases hsd : (decide (K < s.size) && digB (s.get! K).toNat)
      · rw [hsd] at HSD
        have hq : pNum s 3 k 0 = .error K := HR.out.2.2.1.trans (pNum_bad (m := 2) hsd)
        have HQ := (show Hid _ from hq); clear hq hsd hnum
        go_wp2_with fail
        refine Calls.mono HSD.out ?_
        rintro e w1 ⟨rfl, ho1, hs1⟩
        have HF := (show Hid _ from fault_any w1 hs1)
        have HO := (show Hid _ from HR.out.1.trans ho1); clear ho1 hs1
        go_wp2_with fail
        refine Calls.mono HF.out ?_
        rintro e w2 ⟨rfl, hb2⟩
        go_wp2_with fail
        rw [HQ.out]
        exact ⟨rfl, Out.trans HO.out (Out.of_below hb2), rfl⟩
      rw [hsd] at HSD
      have hlt : K < s.size := by simp at hsd; exact hsd.1
      have hg := get!_eq s K hlt
      have hdg : digB s[K].toNat = true := by rw [← hg]; simp at hsd; exact hsd.2
      unfold digB at hdg
      simp at hdg
      have hb1 : (48 : Int) ≤ s[K].toNat := hdg.1
      have hb2 : (s[K].toNat : Int) ≤ 57 := hdg.2
      have hlt' : (K : Int) < s.size := by omega
      have hn : D * 10 + ((s.get! K).toNat - 48) = D * 10 + (s[K].toNat - 48) := by rw [hg]
      have HN := (show Hid _ from (⟨hsd, hn⟩ : _ ∧ _)); clear hsd hn hg hdg hnum
      have HSM := (show Hid _ from fun w => some_any (1000 * (D : Int) + 100 * ((s[K].toNat : Int) - 48)) (1000 * (D : Int) + 100 * ((s[K].toNat : Int) - 48) + 100 - 1) w)
      have hbg : begins (D * 10 + (s[K].toNat - 48)) 2 = decide (1000 * (D : Int) + 100 * ((s[K].toNat : Int) - 48) < 32 ∨ (126 < 1000 * (D : Int) + 100 * ((s[K].toNat : Int) - 48) + 100 - 1 ∧ 1000 * (D : Int) + 100 * ((s[K].toNat : Int) - 48) ≤ 255)) := by
        unfold begins
        simp only [Nat.reducePow]
        rw [decide_eq_decide]
        omega
      have HBG := (show Hid _ from hbg); clear hbg
      generalize hbv : decide (1000 * (D : Int) + 100 * ((s[K].toNat : Int) - 48) < 32 ∨ (126 < 1000 * (D : Int) + 100 * ((s[K].toNat : Int) - 48) + 100 - 1 ∧ 1000 * (D : Int) + 100 * ((s[K].toNat : Int) - 48) ≤ 255)) = bv at *
      have HBV := (show Hid _ from hbv); clear hbv
      go_wp2_with fail
      refine Calls.mono HSD.out ?_
      rintro e w1 ⟨rfl, ho1, hs1⟩
      obtain ⟨x0, x1, y1⟩ := hs1.cells
      have HO := (show Hid _ from (⟨HR.out.1.trans ho1, hs1⟩ : _ ∧ _)); clear ho1 hs1
      go_wp2_with fail
      go_quiet (fail)
      go_wp2_with fail
      refine Calls.mono (HSM.out _) ?_
      rintro e w2 ⟨rfl, rfl⟩
      have HO2 := (show Hid _ from (⟨Out.drewN HO.out.1 nq, Scn.keep (w := w1) (w' := w1.drewN nq) HO.out.2 rfl⟩ : _ ∧ _))
      clear x0 x1 y1
      generalize w1.drewN nq = w3 at *
      obtain ⟨x0, x1, y1⟩ := Scn.cells HO2.out.2
      cases bv
      · have hq : pNum s 3 k 0 = .error K := HR.out.2.2.1.trans (pNum_no (m := 2) HN.out.1 HN.out.2 HBG.out)
        have HQ := (show Hid _ from hq); clear hq
        have HF := (show Hid _ from fault_any w3 HO2.out.2)
        go_wp2_with fail
        refine Calls.mono HF.out ?_
        rintro e w4 ⟨rfl, hb4⟩
        go_wp2_with fail
        rw [HQ.out]
        exact ⟨rfl, Out.trans HO2.out.1 (Out.of_below hb4), rfl⟩
      · have hq := HR.out.2.2.1.trans (pNum_go (m := 2) HN.out.1 HN.out.2 HBG.out)
        have hbd := of_decide_eq_true HBV.out
        have H5 := (show Hid _ from (⟨Out.trans HO2.out.1 (Out.set (o := 1) w3 (.int .i64 ((K : Int) + 1)) (Nat.le_refl p) (Nat.lt_succ_self p)), Scn.next HO2.out.2 hlt, hq, fun _ => by omega⟩ : Out p (p + 1) w (w3.setCell ⟨p, 1, none⟩ (.int .i64 ((K : Int) + 1))) ∧ Scn (w3.setCell ⟨p, 1, none⟩ (.int .i64 ((K : Int) + 1))) p s (K + 1) ∧ _ ∧ (1 = 3 → D * 10 + (s[K].toNat - 48) ≤ 255)))
        have hD5 : D * 10 + (s[K].toNat - 48) ≤ 1000 := by omega
        have hN5 : 1000 * (D : Int) + 100 * ((s[K].toNat : Int) - 48) = (((D * 10 + (s[K].toNat - 48)) * 10 ^ (3 - 1) : Nat) : Int) := by
          show _ = (((D * 10 + (s[K].toNat - 48)) * 100 : Nat) : Int)
          omega
        have HN5 := (show Hid _ from hN5); clear hq hN5 hbd
        go_wp2_with fail
        exact ⟨⟨1, D * 10 + (s[K].toNat - 48), K + 1, by omega, by go_num, val_int HN5.out, hD5, hlt, H5.out⟩, by simp [intOf]⟩
    · have hnum : ((D * 10 ^ (3 - 1) : Nat) : Int) = 100 * (D : Int) := by
        show ((D * 100 : Nat) : Int) = _
        omega
      rw [hnum]
      cases hsd : (decide (K < s.size) && digB (s.get! K).toNat)
      · rw [hsd] at HSD
        have hq : pNum s 3 k 0 = .error K := HR.out.2.2.1.trans (pNum_bad (m := 1) hsd)
        have HQ := (show Hid _ from hq); clear hq hsd hnum
        go_wp2_with fail
        refine Calls.mono HSD.out ?_
        rintro e w1 ⟨rfl, ho1, hs1⟩
        have HF := (show Hid _ from fault_any w1 hs1)
        have HO := (show Hid _ from HR.out.1.trans ho1); clear ho1 hs1
        go_wp2_with fail
        refine Calls.mono HF.out ?_
        rintro e w2 ⟨rfl, hb2⟩
        go_wp2_with fail
        rw [HQ.out]
        exact ⟨rfl, Out.trans HO.out (Out.of_below hb2), rfl⟩
      rw [hsd] at HSD
      have hlt : K < s.size := by simp at hsd; exact hsd.1
      have hg := get!_eq s K hlt
      have hdg : digB s[K].toNat = true := by rw [← hg]; simp at hsd; exact hsd.2
      unfold digB at hdg
      simp at hdg
      have hb1 : (48 : Int) ≤ s[K].toNat := hdg.1
      have hb2 : (s[K].toNat : Int) ≤ 57 := hdg.2
      have hlt' : (K : Int) < s.size := by omega
      have hn : D * 10 + ((s.get! K).toNat - 48) = D * 10 + (s[K].toNat - 48) := by rw [hg]
      have HN := (show Hid _ from (⟨hsd, hn⟩ : _ ∧ _)); clear hsd hn hg hdg hnum
      have HSM := (show Hid _ from fun w => some_any (100 * (D : Int) + 10 * ((s[K].toNat : Int) - 48)) (100 * (D : Int) + 10 * ((s[K].toNat : Int) - 48) + 10 - 1) w)
      have hbg : begins (D * 10 + (s[K].toNat - 48)) 1 = decide (100 * (D : Int) + 10 * ((s[K].toNat : Int) - 48) < 32 ∨ (126 < 100 * (D : Int) + 10 * ((s[K].toNat : Int) - 48) + 10 - 1 ∧ 100 * (D : Int) + 10 * ((s[K].toNat : Int) - 48) ≤ 255)) := by
        unfold begins
        simp only [Nat.reducePow]
        rw [decide_eq_decide]
        omega
      have HBG := (show Hid _ from hbg); clear hbg
      generalize hbv : decide (100 * (D : Int) + 10 * ((s[K].toNat : Int) - 48) < 32 ∨ (126 < 100 * (D : Int) + 10 * ((s[K].toNat : Int) - 48) + 10 - 1 ∧ 100 * (D : Int) + 10 * ((s[K].toNat : Int) - 48) ≤ 255)) = bv at *
      have HBV := (show Hid _ from hbv); clear hbv
      go_wp2_with fail
      refine Calls.mono HSD.out ?_
      rintro e w1 ⟨rfl, ho1, hs1⟩
      obtain ⟨x0, x1, y1⟩ := hs1.cells
      have HO := (show Hid _ from (⟨HR.out.1.trans ho1, hs1⟩ : _ ∧ _)); clear ho1 hs1
      go_wp2_with fail
      go_quiet (fail)
      go_wp2_with fail
      refine Calls.mono (HSM.out _) ?_
      rintro e w2 ⟨rfl, rfl⟩
      have HO2 := (show Hid _ from (⟨Out.drewN HO.out.1 nq, Scn.keep (w := w1) (w' := w1.drewN nq) HO.out.2 rfl⟩ : _ ∧ _))
      clear x0 x1 y1
      generalize w1.drewN nq = w3 at *
      obtain ⟨x0, x1, y1⟩ := Scn.cells HO2.out.2
      cases bv
      · have hq : pNum s 3 k 0 = .error K := HR.out.2.2.1.trans (pNum_no (m := 1) HN.out.1 HN.out.2 HBG.out)
        have HQ := (show Hid _ from hq); clear hq
        have HF := (show Hid _ from fault_any w3 HO2.out.2)
        go_wp2_with fail
        refine Calls.mono HF.out ?_
        rintro e w4 ⟨rfl, hb4⟩
        go_wp2_with fail
        rw [HQ.out]
        exact ⟨rfl, Out.trans HO2.out.1 (Out.of_below hb4), rfl⟩
      · have hq := HR.out.2.2.1.trans (pNum_go (m := 1) HN.out.1 HN.out.2 HBG.out)
        have hbd := of_decide_eq_true HBV.out
        have H5 := (show Hid _ from (⟨Out.trans HO2.out.1 (Out.set (o := 1) w3 (.int .i64 ((K : Int) + 1)) (Nat.le_refl p) (Nat.lt_succ_self p)), Scn.next HO2.out.2 hlt, hq, fun _ => by omega⟩ : Out p (p + 1) w (w3.setCell ⟨p, 1, none⟩ (.int .i64 ((K : Int) + 1))) ∧ Scn (w3.setCell ⟨p, 1, none⟩ (.int .i64 ((K : Int) + 1))) p s (K + 1) ∧ _ ∧ (2 = 3 → D * 10 + (s[K].toNat - 48) ≤ 255)))
        have hD5 : D * 10 + (s[K].toNat - 48) ≤ 1000 := by omega
        have hN5 : 100 * (D : Int) + 10 * ((s[K].toNat : Int) - 48) = (((D * 10 + (s[K].toNat - 48)) * 10 ^ (3 - 2) : Nat) : Int) := by
          show _ = (((D * 10 + (s[K].toNat - 48)) * 10 : Nat) : Int)
          omega
        have HN5 := (show Hid _ from hN5); clear hq hN5 hbd
        go_wp2_with fail
        exact ⟨⟨2, D * 10 + (s[K].toNat - 48), K + 1, by omega, by go_num, val_int HN5.out, hD5, hlt, H5.out⟩, by simp [intOf]⟩
    · have hnum : ((D * 10 ^ (3 - 2) : Nat) : Int) = 10 * (D : Int) := by
        show ((D * 10 : Nat) : Int) = _
        omega
      rw [hnum]
      cases hsd : (decide (K < s.size) && digB (s.get! K).toNat)
      · rw [hsd] at HSD
        have hq : pNum s 3 k 0 = .error K := HR.out.2.2.1.trans (pNum_bad (m := 0) hsd)
        have HQ := (show Hid _ from hq); clear hq hsd hnum
        go_wp2_with fail
        refine Calls.mono HSD.out ?_
        rintro e w1 ⟨rfl, ho1, hs1⟩
        have HF := (show Hid _ from fault_any w1 hs1)
        have HO := (show Hid _ from HR.out.1.trans ho1); clear ho1 hs1
        go_wp2_with fail
        refine Calls.mono HF.out ?_
        rintro e w2 ⟨rfl, hb2⟩
        go_wp2_with fail
        rw [HQ.out]
        exact ⟨rfl, Out.trans HO.out (Out.of_below hb2), rfl⟩
      rw [hsd] at HSD
      have hlt : K < s.size := by simp at hsd; exact hsd.1
      have hg := get!_eq s K hlt
      have hdg : digB s[K].toNat = true := by rw [← hg]; simp at hsd; exact hsd.2
      unfold digB at hdg
      simp at hdg
      have hb1 : (48 : Int) ≤ s[K].toNat := hdg.1
      have hb2 : (s[K].toNat : Int) ≤ 57 := hdg.2
      have hlt' : (K : Int) < s.size := by omega
      have hn : D * 10 + ((s.get! K).toNat - 48) = D * 10 + (s[K].toNat - 48) := by rw [hg]
      have HN := (show Hid _ from (⟨hsd, hn⟩ : _ ∧ _)); clear hsd hn hg hdg hnum
      have HSM := (show Hid _ from fun w => some_any (10 * (D : Int) + ((s[K].toNat : Int) - 48)) (10 * (D : Int) + ((s[K].toNat : Int) - 48)) w)
      have hbg : begins (D * 10 + (s[K].toNat - 48)) 0 = decide (10 * (D : Int) + ((s[K].toNat : Int) - 48) < 32 ∨ (126 < 10 * (D : Int) + ((s[K].toNat : Int) - 48) ∧ 10 * (D : Int) + ((s[K].toNat : Int) - 48) ≤ 255)) := by
        unfold begins
        simp only [Nat.reducePow]
        rw [decide_eq_decide]
        omega
      have HBG := (show Hid _ from hbg); clear hbg
      generalize hbv : decide (10 * (D : Int) + ((s[K].toNat : Int) - 48) < 32 ∨ (126 < 10 * (D : Int) + ((s[K].toNat : Int) - 48) ∧ 10 * (D : Int) + ((s[K].toNat : Int) - 48) ≤ 255)) = bv at *
      have HBV := (show Hid _ from hbv); clear hbv
      go_wp2_with fail
      refine Calls.mono HSD.out ?_
      rintro e w1 ⟨rfl, ho1, hs1⟩
      obtain ⟨x0, x1, y1⟩ := hs1.cells
      have HO := (show Hid _ from (⟨HR.out.1.trans ho1, hs1⟩ : _ ∧ _)); clear ho1 hs1
      go_wp2_with fail
      go_quiet (fail)
      go_wp2_with fail
      refine Calls.mono (HSM.out _) ?_
      rintro e w2 ⟨rfl, rfl⟩
      have HO2 := (show Hid _ from (⟨Out.drewN HO.out.1 nq, Scn.keep (w := w1) (w' := w1.drewN nq) HO.out.2 rfl⟩ : _ ∧ _))
      clear x0 x1 y1
      generalize w1.drewN nq = w3 at *
      obtain ⟨x0, x1, y1⟩ := Scn.cells HO2.out.2
      cases bv
      · have hq : pNum s 3 k 0 = .error K := HR.out.2.2.1.trans (pNum_no (m := 0) HN.out.1 HN.out.2 HBG.out)
        have HQ := (show Hid _ from hq); clear hq
        have HF := (show Hid _ from fault_any w3 HO2.out.2)
        go_wp2_with fail
        refine Calls.mono HF.out ?_
        rintro e w4 ⟨rfl, hb4⟩
        go_wp2_with fail
        rw [HQ.out]
        exact ⟨rfl, Out.trans HO2.out.1 (Out.of_below hb4), rfl⟩
      · have hq := HR.out.2.2.1.trans (pNum_go (m := 0) HN.out.1 HN.out.2 HBG.out)
        have hbd := of_decide_eq_true HBV.out
        have H5 := (show Hid _ from (⟨Out.trans HO2.out.1 (Out.set (o := 1) w3 (.int .i64 ((K : Int) + 1)) (Nat.le_refl p) (Nat.lt_succ_self p)), Scn.next HO2.out.2 hlt, hq, fun _ => by omega⟩ : Out p (p + 1) w (w3.setCell ⟨p, 1, none⟩ (.int .i64 ((K : Int) + 1))) ∧ Scn (w3.setCell ⟨p, 1, none⟩ (.int .i64 ((K : Int) + 1))) p s (K + 1) ∧ _ ∧ (3 = 3 → D * 10 + (s[K].toNat - 48) ≤ 255)))
        have hD5 : D * 10 + (s[K].toNat - 48) ≤ 1000 := by omega
        have hN5 : 10 * (D : Int) + ((s[K].toNat : Int) - 48) = (((D * 10 + (s[K].toNat - 48)) * 10 ^ (3 - 3) : Nat) : Int) := by
          show _ = (((D * 10 + (s[K].toNat - 48)) * 1 : Nat) : Int)
          omega
        have HN5 := (show Hid _ from hN5); clear hq hN5 hbd
        go_wp2_with fail
        exact ⟨⟨3, D * 10 + (s[K].toNat - 48), K + 1, by omega, by go_num, val_int HN5.out, hD5, hlt, H5.out.1, H5.out.2.1, H5.out.2.2.1, fun _ => H5.out.2.2.2 trivial⟩, by simp [intOf]⟩
end Go.Proofs.Ythmdoplickpmaah
