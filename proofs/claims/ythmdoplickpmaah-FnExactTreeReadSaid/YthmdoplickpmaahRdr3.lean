import Derived.Test.YthmdoplickpmaahRdr2
import Derived.Test.YthmdoplickpmaahScan4
namespace Go.Proofs.Ythmdoplickpmaah
open Go.RowKit Go.Deep Go.Lib
set_option linter.unusedVariables false
set_option maxRecDepth 100000
set_option linter.unusedSimpArgs false

set_option maxHeartbeats 1600000 in
theorem begins_any (n m : Nat) (hm : m ≤ 2) (w : World) :
    Calls Try.prog 64 #[.int .i64 n, .int .i64 m] w fun e w' => e = .returned (.bool (begins n m)) ∧ w' = w := by
  have hR : ∃ R, begins n m = R := ⟨_, rfl⟩
  obtain ⟨R, hR⟩ := hR
  rw [hR]
  have HR := (show Hid _ from hR); clear hR
  go_enter Try.func64, Try.ntmps64
  go_wp2_with fail
  go_loopw [5] (fun b wr => ∃ j : Nat, j ≤ 256 ∧ b = .int .i64 j ∧ wr = w ∧ Hid (∀ b, b < j → ¬ (b / 10 ^ m = n ∧ (b < 32 ∨ 126 < b)))) (fun b _ => 256 - (intOf b).toNat)
  case atStart => exact ⟨0, by omega, rfl, by trivial, fun b hb => absurd hb (Nat.not_lt_zero _)⟩
  case round =>
    obtain ⟨j, hj, rfl, rfl, HX⟩ := hrel
    by_cases hlt : j < 256
    case neg =>
      have hE : R = false := HR.out.symm.trans (begins_no hm (fun b hb => HX.out b (by omega)))
      subst hE
      go_wp2_with fail
      go_ret
      exact ⟨rfl, rfl⟩
    go_wp2_with fail
    go_loopw [6, 7] (fun k i wr' => ∃ q x : Nat, q ≤ m ∧ i = .int .i64 q ∧ k = .int .i64 x ∧ wr' = wr ∧ x < 256 ∧ Hid (x = j / 10 ^ q)) (fun _ i _ => m - (intOf i).toNat)
    case atStart => exact ⟨0, j, Nat.zero_le _, rfl, rfl, by trivial, hlt, (show j = j / 10 ^ 0 by simp)⟩
    case round =>
      obtain ⟨q, x, hq, rfl, rfl, rfl, hx, HQ⟩ := hrel
      by_cases hqm : q < m
      · have hnx : x / 10 = j / 10 ^ (q + 1) := by rw [HQ.out, Nat.div_div_eq_div_mul, Nat.pow_succ]
        have HNX := (show Hid _ from hnx); clear hnx
        have hdv : IntKind.i64.wrap ((x : Int).tdiv 10) = ((x / 10 : Nat) : Int) := by
          rw [show (x : Int).tdiv 10 = ((x / 10 : Nat) : Int) from rfl]
          rw [IntKind.wrap_i64]
          omega
        go_wp2_with fail
        exact ⟨⟨q + 1, x / 10, by omega, by go_num, by first | rfl | exact val_int (by omega), by trivial, by omega, HNX.out⟩, by simp [intOf]; omega⟩
      · obtain rfl : q = m := by omega
        by_cases hxn : x = n
        case neg =>
          have hb : ((x : Int) == n) = false := by simp; omega
          have HN := (show Hid (∀ b, b < j + 1 → ¬ (b / 10 ^ q = n ∧ (b < 32 ∨ 126 < b))) from fun b hb => by
            by_cases e : b = j
            · subst e; rw [← HQ.out]; exact fun h => hxn h.1
            · exact HX.out b (by omega))
          go_wp2_with fail
          exact ⟨⟨j + 1, by omega, by go_num, by trivial, HN⟩, by simp [intOf]; omega⟩
        have hb : ((x : Int) == n) = true := by simp; omega
        by_cases h32 : j < 32
        · have hE : R = true := HR.out.symm.trans (begins_of hm hlt (by rw [← HQ.out]; exact hxn) (.inl h32))
          subst hE
          go_wp2_with fail
          go_ret
          exact ⟨rfl, rfl⟩
        by_cases h126 : 126 < j
        · have hE : R = true := HR.out.symm.trans (begins_of hm hlt (by rw [← HQ.out]; exact hxn) (.inr h126))
          subst hE
          go_wp2_with fail
          go_ret
          exact ⟨rfl, rfl⟩
        · have HN := (show Hid (∀ b, b < j + 1 → ¬ (b / 10 ^ q = n ∧ (b < 32 ∨ 126 < b))) from fun b hb => by
            by_cases e : b = j
            · subst e; exact fun h => by omega
            · exact HX.out b (by omega))
          go_wp2_with fail
          exact ⟨⟨j + 1, by omega, by go_num, by trivial, HN⟩, by simp [intOf]; omega⟩

/-- A byte was read by the specification, or it is a fault. -/
def SGot (r : Except Nat (UInt8 × Nat)) (p : Nat) (s : ByteArray) (e : Ending) (w' : World) : Prop := match r with
  | .ok a => e = .returned (.int .u8 a.1.toNat) ∧ Rdr w' p s a.2
  | .error j => e = .returned (.int .u8 0) ∧ Bad w' p s j

set_option maxHeartbeats 6400000 in
theorem escapeS_any {p k : Nat} {s : ByteArray} (w : World) (h : Rdr w p s k) (hk92 : k < s.size) :
    Calls Try.prog 57 #[.pointer (some ⟨p, 0, none⟩)] w fun e w' => Out p (p + 1) w w' ∧ SGot (pEsc s (k + 1)) p s e w' := by
  obtain ⟨x0, x1, x2, y1, y2⟩ := h.2.2.cells
  have hs := h.2.1
  have HW0 := (⟨Out.set (o := 1) w (.int .i64 ((k : Int) + 1)) (Nat.le_refl p) (Nat.lt_succ_self p), h.next hk92⟩ : Out p (p + 1) w (w.setCell ⟨p, 1, none⟩ (.int .i64 ((k : Int) + 1))) ∧ Rdr (w.setCell ⟨p, 1, none⟩ (.int .i64 ((k : Int) + 1))) p s (k + 1)); clear h
  obtain ⟨K, hK⟩ : ∃ K, k + 1 = K := ⟨_, rfl⟩
  rw [hK] at HW0 ⊢
  have HW := (show Hid _ from HW0); clear HW0
  have hKs : K ≤ s.size := by omega
  clear hK
  by_cases hq : (seesB s K 34 || seesB s K 92) = true
  · have hlt : K < s.size := by
      rcases (Bool.or_eq_true _ _).mp hq with h | h
      · exact seesB_lt h
      · exact seesB_lt h
    have hr : pEsc s K = .ok (s[K], K + 1) := by unfold pEsc; rw [if_pos hq, get!_eq s K hlt]
    rw [hr]
    have hg := get!_eq s K hlt
    have hlt' : (K : Int) < s.size := by omega
    have hor : s[K].toNat = 34 ∨ s[K].toNat = 92 := by
      unfold seesB at hq
      rw [hg] at hq
      simp [hlt] at hq
      rcases hq with h | h
      · exact .inl (by rw [h]; rfl)
      · exact .inr (by rw [h]; rfl)
    clear hr hq hg
    have H3 := (show Hid _ from fun (W : World) (hW : Out p (p + 1) w W ∧ Rdr W p s K) (n : Nat) => (⟨Out.trans (Out.drewN hW.1 n) (Out.set (o := 1) (W.drewN n) (.int .i64 ((K : Int) + 1)) (Nat.le_refl p) (Nat.lt_succ_self p)), Rdr.next (Rdr.keep (w := W) (w' := W.drewN n) hW.2 rfl) hlt⟩ : Out p (p + 1) w ((W.drewN n).setCell ⟨p, 1, none⟩ (.int .i64 ((K : Int) + 1))) ∧ Rdr ((W.drewN n).setCell ⟨p, 1, none⟩ (.int .i64 ((K : Int) + 1))) p s (K + 1)))
    by_cases h34 : s[K].toNat = 34
    · have hb1 : ((s[K].toNat : Int) == 34) = true := by simp; omega
      clear hor h34
      go_enter Try.func57, Try.ntmps57
      go_wp2_with fail
      clear x0 x1 x2 y1 y2
      generalize w.setCell ⟨p, 1, none⟩ (.int .i64 ((k : Int) + 1)) = W at *
      obtain ⟨x0, x1, x2, y1, y2⟩ := RdB.cells HW.out.2.2.2
      have HM := (show Hid _ from fun n => more_any (W.drewN n) (p := p) (k := K) (s := s) (Rdr.keep (w := W) HW.out.2 rfl))
      rw [decide_eq_true hlt] at HM
      go_quiet ((go_at_call 47; refine Calls.quiet_of (HM.out _)))
      go_wp2_with fail
      have HY := (show Hid _ from H3.out W HW.out nq)
      clear x0 x1 x2 y1 y2 H3
      generalize (W.drewN nq).setCell ⟨p, 1, none⟩ (.int .i64 ((K : Int) + 1)) = V at *
      obtain ⟨x0, x1, x2, y1, y2⟩ := RdB.cells' HY.out.2.2.2
      go_quiet (fail)
      go_wp2_with fail
      go_ret
      exact ⟨Out.drewN HY.out.1 _, rfl, Rdr.keep (w := V) HY.out.2 rfl⟩
    · have hb1 : ((s[K].toNat : Int) == 34) = false := by simp; omega
      have hb2 : ((s[K].toNat : Int) == 92) = true := by simp; omega
      clear hor h34
      go_enter Try.func57, Try.ntmps57
      go_wp2_with fail
      clear x0 x1 x2 y1 y2
      generalize w.setCell ⟨p, 1, none⟩ (.int .i64 ((k : Int) + 1)) = W at *
      obtain ⟨x0, x1, x2, y1, y2⟩ := RdB.cells HW.out.2.2.2
      have HM := (show Hid _ from fun n => more_any (W.drewN n) (p := p) (k := K) (s := s) (Rdr.keep (w := W) HW.out.2 rfl))
      rw [decide_eq_true hlt] at HM
      go_quiet ((go_at_call 47; refine Calls.quiet_of (HM.out _)))
      go_wp2_with fail
      have HY := (show Hid _ from H3.out W HW.out nq)
      clear x0 x1 x2 y1 y2 H3
      generalize (W.drewN nq).setCell ⟨p, 1, none⟩ (.int .i64 ((K : Int) + 1)) = V at *
      obtain ⟨x0, x1, x2, y1, y2⟩ := RdB.cells' HY.out.2.2.2
      go_quiet (fail)
      go_wp2_with fail
      go_ret
      exact ⟨Out.drewN HY.out.1 _, rfl, Rdr.keep (w := V) HY.out.2 rfl⟩
  have hr : pEsc s K = pNum s 3 K 0 := by unfold pEsc; rw [if_neg hq]
  rw [hr]
  clear hr
  have hT : ∃ T, pNum s 3 K 0 = T := ⟨_, rfl⟩
  obtain ⟨T, hT⟩ := hT
  rw [hT]
  have HT := (show Hid _ from hT); clear hT
  go_enter Try.func57, Try.ntmps57
  go_wp2_with fail
  clear x0 x1 x2 y1 y2
  generalize w.setCell ⟨p, 1, none⟩ (.int .i64 ((k : Int) + 1)) = W at *
  obtain ⟨x0, x1, x2, y1, y2⟩ := RdB.cells HW.out.2.2.2
  have HM := (show Hid _ from fun n => more_any (W.drewN n) (p := p) (k := K) (s := s) (Rdr.keep (w := W) HW.out.2 rfl))
  by_cases hlt : K < s.size
  · rw [decide_eq_true hlt] at HM
    have hg := get!_eq s K hlt
    have hlt' : (K : Int) < s.size := by omega
    have hne : s[K].toNat ≠ 34 ∧ s[K].toNat ≠ 92 := by
      unfold seesB at hq
      rw [hg] at hq
      simp [hlt] at hq
      exact ⟨fun e => hq.1 (UInt8.toNat_inj.1 e), fun e => hq.2 (UInt8.toNat_inj.1 e)⟩
    have hb1 : ((s[K].toNat : Int) == 34) = false := by simp; omega
    have hb2 : ((s[K].toNat : Int) == 92) = false := by simp; omega
    clear hne hq hg
    go_quiet ((go_at_call 47; refine Calls.quiet_of (HM.out _)))
    go_wp2_with fail
    clear hb1 hb2
    clear x0 x1 x2 y1 y2 HM
    go_loopw [3, 4] (fun n i wr => ∃ (j D J : Nat), j ≤ 3 ∧ i = .int .i64 j ∧ n = .int .i64 D ∧ D ≤ 1000 ∧ J ≤ s.size ∧ Hid (Out p (p + 1) w wr ∧ Rdr wr p s J ∧ pNum s (3 - j) J D = T ∧ (j = 3 → D ≤ 255))) (fun _ i _ => 3 - (intOf i).toNat)
    case atStart => exact ⟨0, 0, K, Nat.zero_le _, rfl, rfl, Nat.zero_le _, hKs, Out.drewN HW.out.1 _, Rdr.keep (w := W) HW.out.2 rfl, HT.out, fun h => absurd h (by omega)⟩
    case round =>
      obtain ⟨j, D, J, hj, rfl, rfl, hD, hJ, HR⟩ := hrel
      obtain ⟨x0, x1, x2, y1, y2⟩ := RdB.cells HR.out.2.1.2.2
      have HMJ := (show Hid _ from fun n => more_any (wr.drewN n) (p := p) (k := J) (s := s) (Rdr.keep (w := wr) HR.out.2.1 rfl))
      have HFJ := (show Hid _ from fun n => fail_any (wr.drewN n) (p := p) (k := J) (s := s) (Rdr.keep (w := wr) HR.out.2.1 rfl))
      by_cases h3 : j = 3
      · subst h3
        have hD' := HR.out.2.2.2 rfl
        have HQ := (show Hid (T = .ok (UInt8.ofNat D, J)) from HR.out.2.2.1.symm)
        have hmod : (D : Int) % 256 = D := by omega
        go_wp2_with fail
        go_ret
        rw [HQ.out]
        refine ⟨HR.out.1, ?_, HR.out.2.1⟩
        have e1 : ((UInt8.ofNat D).toNat : Int) = D := by simp; omega
        dsimp only
        rw [e1]
        rfl
      have hj3 : j < 3 := by omega
      obtain ⟨m, hm⟩ : ∃ m, 3 - j = m + 1 := ⟨2 - j, by omega⟩
      have hm2 : m = 2 - j := by omega
      have hmle : m ≤ 2 := by omega
      rw [hm] at HR
      clear h3
      by_cases hjs : J < s.size
      case neg =>
        rw [decide_eq_false hjs] at HMJ
        have HQ := (show Hid (T = .error J) from HR.out.2.2.1.symm.trans (pNum_bad (by simp [hjs])))
        go_wp2_with fail
        go_quiet ((go_at_call 47; refine Calls.quiet_of (HMJ.out _)))
        go_wp2_with fail
        refine Calls.mono (HFJ.out nq) ?_
        rintro e w2 ⟨rfl, ho2, hb2⟩
        have HX := (show Hid _ from (⟨Out.trans (Out.drewN HR.out.1 _) ho2, hb2⟩ : _ ∧ _)); clear ho2 hb2
        go_wp2_with fail
        go_ret
        rw [HQ.out]
        exact ⟨HX.out.1, rfl, HX.out.2⟩
      rw [decide_eq_true hjs] at HMJ
      have hjs' : (J : Int) < s.size := by omega
      have hgj := get!_eq s J hjs
      have hdg := fun w => sDigit (s[J].toNat : Int) w
      cases hb : digB s[J].toNat
      · rw [hb] at hdg
        have HDG := (show Hid _ from hdg)
        have HQ := (show Hid (T = .error J) from HR.out.2.2.1.symm.trans (pNum_bad (by rw [hgj, hb]; simp)))
        clear hdg hb hgj
        go_wp2_with fail
        go_quiet ((first | (go_at_call 47; refine Calls.quiet_of (HMJ.out _)) | (go_at_call 61; refine Calls.quiet_of_same (HDG.out _))))
        go_wp2_with fail
        refine Calls.mono (HFJ.out nq) ?_
        rintro e w2 ⟨rfl, ho2, hb2⟩
        have HX := (show Hid _ from (⟨Out.trans (Out.drewN HR.out.1 _) ho2, hb2⟩ : _ ∧ _)); clear ho2 hb2
        go_wp2_with fail
        go_ret
        rw [HQ.out]
        exact ⟨HX.out.1, rfl, HX.out.2⟩
      rw [hb] at hdg
      have HDG := (show Hid _ from hdg)
      have hsd : (decide (J < s.size) && digB (s.get! J).toNat) = true := by rw [hgj, hb]; simp [hjs]
      unfold digB at hb
      simp at hb
      have hb1 : (48 : Int) ≤ s[J].toNat := hb.1
      have hb2 : (s[J].toNat : Int) ≤ 57 := hb.2
      have hn : D * 10 + ((s.get! J).toNat - 48) = D * 10 + (s[J].toNat - 48) := by rw [hgj]
      have hno := fun (hbg : begins (D * 10 + (s[J].toNat - 48)) m = false) => HR.out.2.2.1.symm.trans (pNum_no (m := m) (n' := D * 10 + (s[J].toNat - 48)) hsd hn hbg)
      have hgo := fun (hbg : begins (D * 10 + (s[J].toNat - 48)) m = true) => HR.out.2.2.1.symm.trans (pNum_go (m := m) (n' := D * 10 + (s[J].toNat - 48)) hsd hn hbg)
      have hbc : ∀ w, Calls Try.prog 64 #[.int .i64 ((D : Int) * 10 + (s[J].toNat : Int) - 48), .int .i64 (2 - (j : Int))] w fun e w' => e = .returned (.bool (begins (D * 10 + (s[J].toNat - 48)) m)) ∧ w' = w := fun w => by
        have q := begins_any (D * 10 + (s[J].toNat - 48)) m hmle w
        rw [show ((D * 10 + (s[J].toNat - 48) : Nat) : Int) = (D : Int) * 10 + (s[J].toNat : Int) - 48 by omega, show ((m : Nat) : Int) = 2 - (j : Int) by omega] at q
        exact q
      have hbd : begins (D * 10 + (s[J].toNat - 48)) m = true → j + 1 = 3 → D * 10 + (s[J].toNat - 48) ≤ 255 := fun h e => by
        have hm0 : m = 0 := by omega
        rw [hm0] at h
        unfold begins at h
        simp at h
        omega
      have hD5 : D * 10 + (s[J].toNat - 48) ≤ 1000 ∨ 1000 < D * 10 + (s[J].toNat - 48) := by omega
      have hD6 : begins (D * 10 + (s[J].toNat - 48)) m = true → D * 10 + (s[J].toNat - 48) ≤ 255 := fun h => by
        unfold begins at h
        have := Nat.pow_pos (n := m) (show 0 < 10 by omega)
        have h2 := Nat.le_mul_of_pos_right (D * 10 + (s[J].toNat - 48)) this
        simp at h
        omega
      generalize begins (D * 10 + (s[J].toNat - 48)) m = bv at *
      have HBC := (show Hid _ from hbc); clear hbc hD5 hsd hn
      have HNO := (show Hid _ from hno); clear hno
      have HGO := (show Hid _ from hgo); clear hgo
      have HBD := (show Hid _ from (⟨hbd, hD6⟩ : _ ∧ _)); clear hbd hD6 hdg hb hgj
      have HY := (show Hid _ from fun n => (⟨Out.drewN HR.out.1 n, Rdr.keep (w := wr) (w' := wr.drewN n) HR.out.2.1 rfl⟩ : _ ∧ _))
      go_wp2_with fail
      go_quiet ((first | (go_at_call 47; refine Calls.quiet_of (HMJ.out _)) | (go_at_call 61; refine Calls.quiet_of_same (HDG.out _))))
      go_wp2_with fail
      have HV := (show Hid _ from HY.out nq)
      clear x0 x1 x2 y1 y2 HY HFJ HMJ
      generalize wr.drewN nq = V at *
      obtain ⟨x0, x1, x2, y1, y2⟩ := RdB.cells HV.out.2.2.2
      go_quiet (fail)
      go_wp2_with fail
      have HU := (show Hid _ from (⟨Out.drewN HV.out.1 nq, Rdr.keep (w := V) (w' := V.drewN nq) HV.out.2 rfl⟩ : _ ∧ _))
      clear x0 x1 x2 y1 y2
      generalize V.drewN nq = U at *
      obtain ⟨x0, x1, x2, y1, y2⟩ := RdB.cells HU.out.2.2.2
      refine Calls.mono (HBC.out _) ?_
      rintro e w4 ⟨rfl, rfl⟩
      cases bv
      · have HQ := (show Hid (T = .error J) from HNO.out rfl)
        have HFU := (show Hid _ from fail_any _ HU.out.2)
        go_wp2_with fail
        refine Calls.mono HFU.out ?_
        rintro e w2 ⟨rfl, ho2, hb2⟩
        have HX := (show Hid _ from (⟨Out.trans HU.out.1 ho2, hb2⟩ : _ ∧ _)); clear ho2 hb2
        go_wp2_with fail
        go_ret
        rw [HQ.out]
        exact ⟨HX.out.1, rfl, HX.out.2⟩
      · have HQ := (show Hid _ from HGO.out rfl)
        have h255 := HBD.out.2 rfl
        have H5 := (show Hid _ from (⟨Out.trans HU.out.1 (Out.set (o := 1) _ (.int .i64 ((J : Int) + 1)) (Nat.le_refl p) (Nat.lt_succ_self p)), Rdr.next HU.out.2 hjs⟩ : _ ∧ _))
        go_wp2_with fail
        exact ⟨⟨j + 1, D * 10 + (s[J].toNat - 48), J + 1, by omega, by go_num, val_int (by omega), by omega, hjs, H5.out.1, H5.out.2, by rw [show 3 - (j + 1) = m by omega]; exact HQ.out.symm, fun _ => h255⟩, by simp [intOf]; omega⟩
  · rw [decide_eq_false hlt] at HM
    clear hq
    go_quiet ((go_at_call 47; refine Calls.quiet_of (HM.out _)))
    go_wp2_with fail
    clear x0 x1 x2 y1 y2 HM
    go_loopw [3, 4] (fun n i wr => ∃ (j D J : Nat), j ≤ 3 ∧ i = .int .i64 j ∧ n = .int .i64 D ∧ D ≤ 1000 ∧ J ≤ s.size ∧ Hid (Out p (p + 1) w wr ∧ Rdr wr p s J ∧ pNum s (3 - j) J D = T ∧ (j = 3 → D ≤ 255))) (fun _ i _ => 3 - (intOf i).toNat)
    case atStart => exact ⟨0, 0, K, Nat.zero_le _, rfl, rfl, Nat.zero_le _, hKs, Out.drewN HW.out.1 _, Rdr.keep (w := W) HW.out.2 rfl, HT.out, fun h => absurd h (by omega)⟩
    case round =>
      obtain ⟨j, D, J, hj, rfl, rfl, hD, hJ, HR⟩ := hrel
      obtain ⟨x0, x1, x2, y1, y2⟩ := RdB.cells HR.out.2.1.2.2
      have HMJ := (show Hid _ from fun n => more_any (wr.drewN n) (p := p) (k := J) (s := s) (Rdr.keep (w := wr) HR.out.2.1 rfl))
      have HFJ := (show Hid _ from fun n => fail_any (wr.drewN n) (p := p) (k := J) (s := s) (Rdr.keep (w := wr) HR.out.2.1 rfl))
      by_cases h3 : j = 3
      · subst h3
        have hD' := HR.out.2.2.2 rfl
        have HQ := (show Hid (T = .ok (UInt8.ofNat D, J)) from HR.out.2.2.1.symm)
        have hmod : (D : Int) % 256 = D := by omega
        go_wp2_with fail
        go_ret
        rw [HQ.out]
        refine ⟨HR.out.1, ?_, HR.out.2.1⟩
        have e1 : ((UInt8.ofNat D).toNat : Int) = D := by simp; omega
        dsimp only
        rw [e1]
        rfl
      have hj3 : j < 3 := by omega
      obtain ⟨m, hm⟩ : ∃ m, 3 - j = m + 1 := ⟨2 - j, by omega⟩
      have hm2 : m = 2 - j := by omega
      have hmle : m ≤ 2 := by omega
      rw [hm] at HR
      clear h3
      by_cases hjs : J < s.size
      case neg =>
        rw [decide_eq_false hjs] at HMJ
        have HQ := (show Hid (T = .error J) from HR.out.2.2.1.symm.trans (pNum_bad (by simp [hjs])))
        go_wp2_with fail
        go_quiet ((go_at_call 47; refine Calls.quiet_of (HMJ.out _)))
        go_wp2_with fail
        refine Calls.mono (HFJ.out nq) ?_
        rintro e w2 ⟨rfl, ho2, hb2⟩
        have HX := (show Hid _ from (⟨Out.trans (Out.drewN HR.out.1 _) ho2, hb2⟩ : _ ∧ _)); clear ho2 hb2
        go_wp2_with fail
        go_ret
        rw [HQ.out]
        exact ⟨HX.out.1, rfl, HX.out.2⟩
      rw [decide_eq_true hjs] at HMJ
      have hjs' : (J : Int) < s.size := by omega
      have hgj := get!_eq s J hjs
      have hdg := fun w => sDigit (s[J].toNat : Int) w
      cases hb : digB s[J].toNat
      · rw [hb] at hdg
        have HDG := (show Hid _ from hdg)
        have HQ := (show Hid (T = .error J) from HR.out.2.2.1.symm.trans (pNum_bad (by rw [hgj, hb]; simp)))
        clear hdg hb hgj
        go_wp2_with fail
        go_quiet ((first | (go_at_call 47; refine Calls.quiet_of (HMJ.out _)) | (go_at_call 61; refine Calls.quiet_of_same (HDG.out _))))
        go_wp2_with fail
        refine Calls.mono (HFJ.out nq) ?_
        rintro e w2 ⟨rfl, ho2, hb2⟩
        have HX := (show Hid _ from (⟨Out.trans (Out.drewN HR.out.1 _) ho2, hb2⟩ : _ ∧ _)); clear ho2 hb2
        go_wp2_with fail
        go_ret
        rw [HQ.out]
        exact ⟨HX.out.1, rfl, HX.out.2⟩
      rw [hb] at hdg
      have HDG := (show Hid _ from hdg)
      have hsd : (decide (J < s.size) && digB (s.get! J).toNat) = true := by rw [hgj, hb]; simp [hjs]
      unfold digB at hb
      simp at hb
      have hb1 : (48 : Int) ≤ s[J].toNat := hb.1
      have hb2 : (s[J].toNat : Int) ≤ 57 := hb.2
      have hn : D * 10 + ((s.get! J).toNat - 48) = D * 10 + (s[J].toNat - 48) := by rw [hgj]
      have hno := fun (hbg : begins (D * 10 + (s[J].toNat - 48)) m = false) => HR.out.2.2.1.symm.trans (pNum_no (m := m) (n' := D * 10 + (s[J].toNat - 48)) hsd hn hbg)
      have hgo := fun (hbg : begins (D * 10 + (s[J].toNat - 48)) m = true) => HR.out.2.2.1.symm.trans (pNum_go (m := m) (n' := D * 10 + (s[J].toNat - 48)) hsd hn hbg)
      have hbc : ∀ w, Calls Try.prog 64 #[.int .i64 ((D : Int) * 10 + (s[J].toNat : Int) - 48), .int .i64 (2 - (j : Int))] w fun e w' => e = .returned (.bool (begins (D * 10 + (s[J].toNat - 48)) m)) ∧ w' = w := fun w => by
        have q := begins_any (D * 10 + (s[J].toNat - 48)) m hmle w
        rw [show ((D * 10 + (s[J].toNat - 48) : Nat) : Int) = (D : Int) * 10 + (s[J].toNat : Int) - 48 by omega, show ((m : Nat) : Int) = 2 - (j : Int) by omega] at q
        exact q
      have hbd : begins (D * 10 + (s[J].toNat - 48)) m = true → j + 1 = 3 → D * 10 + (s[J].toNat - 48) ≤ 255 := fun h e => by
        have hm0 : m = 0 := by omega
        rw [hm0] at h
        unfold begins at h
        simp at h
        omega
      have hD5 : D * 10 + (s[J].toNat - 48) ≤ 1000 ∨ 1000 < D * 10 + (s[J].toNat - 48) := by omega
      have hD6 : begins (D * 10 + (s[J].toNat - 48)) m = true → D * 10 + (s[J].toNat - 48) ≤ 255 := fun h => by
        unfold begins at h
        have := Nat.pow_pos (n := m) (show 0 < 10 by omega)
        have h2 := Nat.le_mul_of_pos_right (D * 10 + (s[J].toNat - 48)) this
        simp at h
        omega
      generalize begins (D * 10 + (s[J].toNat - 48)) m = bv at *
      have HBC := (show Hid _ from hbc); clear hbc hD5 hsd hn
      have HNO := (show Hid _ from hno); clear hno
      have HGO := (show Hid _ from hgo); clear hgo
      have HBD := (show Hid _ from (⟨hbd, hD6⟩ : _ ∧ _)); clear hbd hD6 hdg hb hgj
      have HY := (show Hid _ from fun n => (⟨Out.drewN HR.out.1 n, Rdr.keep (w := wr) (w' := wr.drewN n) HR.out.2.1 rfl⟩ : _ ∧ _))
      go_wp2_with fail
      go_quiet ((first | (go_at_call 47; refine Calls.quiet_of (HMJ.out _)) | (go_at_call 61; refine Calls.quiet_of_same (HDG.out _))))
      go_wp2_with fail
      have HV := (show Hid _ from HY.out nq)
      clear x0 x1 x2 y1 y2 HY HFJ HMJ
      generalize wr.drewN nq = V at *
      obtain ⟨x0, x1, x2, y1, y2⟩ := RdB.cells HV.out.2.2.2
      go_quiet (fail)
      go_wp2_with fail
      have HU := (show Hid _ from (⟨Out.drewN HV.out.1 nq, Rdr.keep (w := V) (w' := V.drewN nq) HV.out.2 rfl⟩ : _ ∧ _))
      clear x0 x1 x2 y1 y2
      generalize V.drewN nq = U at *
      obtain ⟨x0, x1, x2, y1, y2⟩ := RdB.cells HU.out.2.2.2
      refine Calls.mono (HBC.out _) ?_
      rintro e w4 ⟨rfl, rfl⟩
      cases bv
      · have HQ := (show Hid (T = .error J) from HNO.out rfl)
        have HFU := (show Hid _ from fail_any _ HU.out.2)
        go_wp2_with fail
        refine Calls.mono HFU.out ?_
        rintro e w2 ⟨rfl, ho2, hb2⟩
        have HX := (show Hid _ from (⟨Out.trans HU.out.1 ho2, hb2⟩ : _ ∧ _)); clear ho2 hb2
        go_wp2_with fail
        go_ret
        rw [HQ.out]
        exact ⟨HX.out.1, rfl, HX.out.2⟩
      · have HQ := (show Hid _ from HGO.out rfl)
        have h255 := HBD.out.2 rfl
        have H5 := (show Hid _ from (⟨Out.trans HU.out.1 (Out.set (o := 1) _ (.int .i64 ((J : Int) + 1)) (Nat.le_refl p) (Nat.lt_succ_self p)), Rdr.next HU.out.2 hjs⟩ : _ ∧ _))
        go_wp2_with fail
        exact ⟨⟨j + 1, D * 10 + (s[J].toNat - 48), J + 1, by omega, by go_num, val_int (by omega), by omega, hjs, H5.out.1, H5.out.2, by rw [show 3 - (j + 1) = m by omega]; exact HQ.out.symm, fun _ => h255⟩, by simp [intOf]; omega⟩
end Go.Proofs.Ythmdoplickpmaah
