import Derived.Test.YthmdoplickpmaaiRxOne
namespace Go.Proofs.Ythmdoplickpmaai
open Go.RowKit Go.Deep Go.Lib
set_option linter.unusedVariables false
set_option maxRecDepth 100000
set_option linter.unusedSimpArgs false

theorem Scn.drewN {w : World} {p q k : Nat} {s : ByteArray} (h : Scn w p q s k) (n : Nat) : Scn (w.drewN n) p q s k := h.keep rfl
theorem Got.ok {r : Except Nat (UInt8 × Nat)} {p q : Nat} {s : ByteArray} {e : Ending} {w' : World} (h : Got r p q s e w') : (∃ b k, r = .ok (b, k) ∧ e = .returned (.int .u8 b.toNat) ∧ Scn w' p q s k) ∨ ∃ j, r = .error j ∧ e = .panicked [flt j] := by
  cases r with
  | error j => exact .inr ⟨j, rfl, h⟩
  | ok a => obtain ⟨b, k⟩ := a; exact .inl ⟨b, k, rfl, h.1, h.2⟩

set_option maxHeartbeats 1600000 in
theorem esc_any {p q k : Nat} {s : ByteArray} (w : World) (h : Scn w p q s k) :
    Calls Try.prog 100 #[.pointer (some ⟨p, 0, none⟩)] w fun e w' => Out p (p + 1) w w' ∧ Got (xEsc s k) p q s e w' := by
  have hk := h.1
  have hs := h.2.1
  have hc1 := sees_any 110 w h
  cases h1 : seesB s k 110
  case true =>
    have hlt := seesB_lt h1
    rw [h1] at hc1
    have hr : xEsc s k = .ok (10, k + 1) := by unfold xEsc; rw [if_pos h1]
    rw [hr]
    clear h hr h1
    have HC1 := (show Hid _ from hc1); clear hc1
    go_enter Try.func100, Try.ntmps100
    go_wp2_with fail
    refine Calls.mono HC1.out ?_
    rintro e w1 ⟨rfl, ho1, hs1⟩
    obtain ⟨x0, x1, y1⟩ := hs1.cells
    have H2 := (show Hid _ from (⟨Out.trans ho1 (Out.set (o := 1) w1 (.int .i64 ((k : Int) + 1)) (Nat.le_refl p) (Nat.lt_succ_self p)), hs1.next hlt⟩ : _ ∧ _)); clear hs1 ho1
    go_wp2_with fail
    go_ret
    exact ⟨H2.out.1, rfl, H2.out.2⟩
  rw [h1] at hc1
  have HC1 := (show Hid _ from hc1); clear hc1
  have hc2 : ∀ w', Scn w' p q s k → _ := fun w' h' => sees_any 116 w' h'
  cases h2 : seesB s k 116
  case true =>
    have hlt := seesB_lt h2
    have hr : xEsc s k = .ok (9, k + 1) := by unfold xEsc; rw [if_neg (by rw [h1]; simp), if_pos h2]
    rw [h2] at hc2
    rw [hr]
    clear h hr h1 h2
    have HC2 := (show Hid _ from hc2); clear hc2
    go_enter Try.func100, Try.ntmps100
    go_wp2_with fail
    refine Calls.mono HC1.out ?_
    rintro e w1 ⟨rfl, ho1, hs1⟩
    have HC3 := (show Hid _ from HC2.out w1 hs1); clear hs1
    have HO := (show Hid _ from ho1); clear ho1
    go_wp2_with fail
    refine Calls.mono HC3.out ?_
    rintro e w2 ⟨rfl, ho2, hs2⟩
    obtain ⟨x0, x1, y1⟩ := hs2.cells
    have H2 := (show Hid _ from (⟨Out.trans (Out.trans HO.out ho2) (Out.set (o := 1) w2 (.int .i64 ((k : Int) + 1)) (Nat.le_refl p) (Nat.lt_succ_self p)), hs2.next hlt⟩ : _ ∧ _)); clear hs2 ho2
    go_wp2_with fail
    go_ret
    exact ⟨H2.out.1, rfl, H2.out.2⟩
  rw [h2] at hc2
  have HC2 := (show Hid _ from hc2); clear hc2
  have hc3 : ∀ w', Scn w' p q s k → _ := fun w' h' => seesQ 32 w' h'
  have HPL : Hid (∀ w', Scn w' p q s k → Calls Try.prog 102 #[.pointer (some ⟨p, 0, none⟩)] w' fun e w'' => Out p (p + 1) w' w'' ∧ Got (xPlain s k) p q s e w'') := fun w' h' => plain_any w' h'
  have HFL : Hid (∀ w', Scn w' p q s k → Calls Try.prog 59 #[.pointer (some ⟨p, 0, none⟩)] w' fun e w'' => e = .returned (.agg #[.int .i64 2, .int .i64 k]) ∧ Below w'.heap.size w' w'') := fun w' h' => fault_any w' h'
  cases h3 : seesB s k 32
  case true =>
    have hr : xEsc s k = .error k := by unfold xEsc; rw [if_neg (by rw [h1]; simp), if_neg (by rw [h2]; simp), if_pos (by rw [h3]; rfl)]
    rw [h3] at hc3
    rw [hr]
    have HC3 := (show Hid _ from hc3); clear hc3
    clear h hr h1 h2 h3
    go_enter Try.func100, Try.ntmps100
    go_wp2_with fail
    refine Calls.mono HC1.out ?_
    rintro e w1 ⟨rfl, ho1, hs1⟩
    have HC := (show Hid _ from HC2.out w1 hs1); clear hs1
    have HO := (show Hid _ from ho1); clear ho1
    go_wp2_with fail
    refine Calls.mono HC.out ?_
    rintro e w2 ⟨rfl, ho2, hs2⟩
    obtain ⟨x0, x1, y1⟩ := hs2.cells
    have HQ := (show Hid _ from fun n => HC3.out (w2.drewN n) (Scn.drewN hs2 n))
    have HF := (show Hid _ from fun n => HFL.out (w2.drewN n) (Scn.drewN hs2 n))
    have HO2 := (show Hid _ from Out.trans HO.out ho2); clear ho2 hs2
    go_wp2_with fail
    go_quiet ((go_at_call 65; refine Calls.quiet_of (HQ.out _)))
    go_wp2_with fail
    refine Calls.mono (HF.out _) ?_
    rintro e w3 ⟨rfl, hb3⟩
    go_wp2_with fail
    exact ⟨rfl, Out.trans (Out.drewN HO2.out _) (Out.of_below hb3), rfl⟩
  rw [h3] at hc3
  have HC3 := (show Hid _ from hc3); clear hc3
  by_cases hlt : k < s.size
  case neg =>
    have hr : xEsc s k = xPlain s k := by unfold xEsc; rw [if_neg (by rw [h1]; simp), if_neg (by rw [h2]; simp), if_neg (by rw [h3]; simp [hlt])]
    rw [hr]
    have hd : decide ((k : Int) < s.size) = false := by simp; omega
    clear h hr h1 h2 h3
    generalize xPlain s k = r at *
    go_enter Try.func100, Try.ntmps100
    go_wp2_with fail
    refine Calls.mono HC1.out ?_
    rintro e w1 ⟨rfl, ho1, hs1⟩
    have HC := (show Hid _ from HC2.out w1 hs1); clear hs1
    have HO := (show Hid _ from ho1); clear ho1
    go_wp2_with fail
    refine Calls.mono HC.out ?_
    rintro e w2 ⟨rfl, ho2, hs2⟩
    obtain ⟨x0, x1, y1⟩ := hs2.cells
    have HQ := (show Hid _ from fun n => HC3.out (w2.drewN n) (Scn.drewN hs2 n))
    have HF := (show Hid _ from fun n => HPL.out (w2.drewN n) (Scn.drewN hs2 n))
    have HO2 := (show Hid _ from Out.trans HO.out ho2); clear ho2 hs2
    go_wp2_with fail
    go_quiet ((go_at_call 65; refine Calls.quiet_of (HQ.out _)))
    go_wp2_with fail
    refine Calls.mono (HF.out _) ?_
    rintro e w3 ⟨ho3, hg3⟩
    have HO3 := (show Hid _ from Out.trans (Out.drewN HO2.out _) ho3)
    rcases hg3.ok with ⟨b, k', rfl, rfl, hs3⟩ | ⟨j, rfl, rfl⟩
    · go_wp2_with fail
      go_ret
      exact ⟨HO3.out, rfl, hs3⟩
    · go_wp2_with fail
      exact ⟨rfl, HO3.out, rfl⟩
  have hlt' : (k : Int) < s.size := by omega
  have hg := get!_eq s k hlt
  have HL := (show Hid _ from fun w => iLetter (s[k].toNat : Int) w)
  have HDg := (show Hid _ from fun w => iDigit (s[k].toNat : Int) w)
  cases h4 : letB s[k].toNat || digB s[k].toNat
  case true =>
    have hr : xEsc s k = .error k := by unfold xEsc; rw [if_neg (by rw [h1]; simp), if_neg (by rw [h2]; simp), if_pos (by rw [hg, h4]; simp [hlt])]
    rw [hr]
    clear h hr h1 h2 h3 hg
    go_enter Try.func100, Try.ntmps100
    go_wp2_with fail
    refine Calls.mono HC1.out ?_
    rintro e w1 ⟨rfl, ho1, hs1⟩
    have HC := (show Hid _ from HC2.out w1 hs1); clear hs1
    have HO := (show Hid _ from ho1); clear ho1
    go_wp2_with fail
    refine Calls.mono HC.out ?_
    rintro e w2 ⟨rfl, ho2, hs2⟩
    obtain ⟨x0, x1, y1⟩ := hs2.cells
    have HQ := (show Hid _ from fun n => HC3.out (w2.drewN n) (Scn.drewN hs2 n))
    have HF := (show Hid _ from fun n => HFL.out (w2.drewN n) (Scn.drewN hs2 n))
    have HO2 := (show Hid _ from Out.trans HO.out ho2); clear ho2 hs2
    cases h5 : letB s[k].toNat
    case true =>
      rw [h5] at HL
      go_wp2_with fail
      go_quiet ((first | (go_at_call 65; refine Calls.quiet_of (HQ.out _)) | (go_at_call 77; refine Calls.quiet_of_same (HL.out _)) | (go_at_call 88; refine Calls.quiet_of_same (HDg.out _))))
      go_wp2_with fail
      refine Calls.mono (HF.out _) ?_
      rintro e w3 ⟨rfl, hb3⟩
      go_wp2_with fail
      exact ⟨rfl, Out.trans (Out.drewN HO2.out _) (Out.of_below hb3), rfl⟩
    rw [h5, Bool.false_or] at h4
    rw [h5] at HL
    rw [h4] at HDg
    go_wp2_with fail
    go_quiet ((first | (go_at_call 65; refine Calls.quiet_of (HQ.out _)) | (go_at_call 77; refine Calls.quiet_of_same (HL.out _)) | (go_at_call 88; refine Calls.quiet_of_same (HDg.out _))))
    go_wp2_with fail
    refine Calls.mono (HF.out _) ?_
    rintro e w3 ⟨rfl, hb3⟩
    go_wp2_with fail
    exact ⟨rfl, Out.trans (Out.drewN HO2.out _) (Out.of_below hb3), rfl⟩
  have hr : xEsc s k = xPlain s k := by unfold xEsc; rw [if_neg (by rw [h1]; simp), if_neg (by rw [h2]; simp), if_neg (by rw [h3, hg, h4]; simp)]
  rw [hr]
  rw [Bool.or_eq_false_iff] at h4
  rw [h4.1] at HL
  rw [h4.2] at HDg
  clear h hr h1 h2 h3 hg h4
  generalize xPlain s k = r at *
  go_enter Try.func100, Try.ntmps100
  go_wp2_with fail
  refine Calls.mono HC1.out ?_
  rintro e w1 ⟨rfl, ho1, hs1⟩
  have HC := (show Hid _ from HC2.out w1 hs1); clear hs1
  have HO := (show Hid _ from ho1); clear ho1
  go_wp2_with fail
  refine Calls.mono HC.out ?_
  rintro e w2 ⟨rfl, ho2, hs2⟩
  obtain ⟨x0, x1, y1⟩ := hs2.cells
  have HQ := (show Hid _ from fun n => HC3.out (w2.drewN n) (Scn.drewN hs2 n))
  have HF := (show Hid _ from fun n => HPL.out (w2.drewN n) (Scn.drewN hs2 n))
  have HO2 := (show Hid _ from Out.trans HO.out ho2); clear ho2 hs2
  go_wp2_with fail
  go_quiet ((first | (go_at_call 65; refine Calls.quiet_of (HQ.out _)) | (go_at_call 77; refine Calls.quiet_of_same (HL.out _)) | (go_at_call 88; refine Calls.quiet_of_same (HDg.out _))))
  go_wp2_with fail
  refine Calls.mono (HF.out _) ?_
  rintro e w3 ⟨ho3, hg3⟩
  have HO3 := (show Hid _ from Out.trans (Out.drewN HO2.out _) ho3)
  rcases hg3.ok with ⟨b, k', rfl, rfl, hs3⟩ | ⟨j, rfl, rfl⟩
  · go_wp2_with fail
    go_ret
    exact ⟨HO3.out, rfl, hs3⟩
  · go_wp2_with fail
    exact ⟨rfl, HO3.out, rfl⟩
end Go.Proofs.Ythmdoplickpmaai
