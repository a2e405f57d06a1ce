import Derived.Test.YthmdoplickpmaaiRxRep
namespace Go.Proofs.Ythmdoplickpmaai
open Go.RowKit Go.Deep Go.Lib
set_option linter.unusedVariables false
set_option maxRecDepth 100000
set_option linter.unusedSimpArgs false

theorem CDoes.mono {pC : Nat → Except Nat Nat} {L p q k k1 : Nat} {s : ByteArray} (h : CDoes pC L p q s k) (hk : k ≤ k1) : CDoes pC L p q s k1 := fun k' w c h1 h2 h3 => h k' w c (by omega) h2 h3
theorem seesQ_is {L p q k c : Nat} {s : ByteArray} (b : UInt8) {r : Bool} (hb : seesB s k b = r) (w' : World) (h' : St w' L p q s k c) (n : Nat) :
    Calls Try.prog 65 #[.pointer (some ⟨p, 0, none⟩), .int .u8 b.toNat] (w'.drewN n) fun e w'' => e = .returned (.bool r) ∧ ∃ m, w'' = (w'.drewN n).drewN m :=
  (seesQ b (w'.drewN n) (h'.scn.drewN n)).mono fun e w'' ⟨h1, h2⟩ => ⟨by rw [h1, hb], h2⟩
theorem belDrewN {L : Nat} {w w' : World} (h : Below L w w') (n : Nat) : Below L w (w'.drewN n) := ⟨h.os, h.tape, h.output, h.size, h.block⟩

set_option maxHeartbeats 1600000 in
theorem cat_any {pC : Nat → Except Nat Nat} {L p q k c : Nat} {s : ByteArray} (w : World) (hC : CDoes pC L p q s k) (hg : RxGood s k pC) (h : St w L p q s k c) (hc : c ≤ 1000) :
    Calls Try.prog 64 #[.pointer (some ⟨p, 0, none⟩)] w fun e w' => Below L w w' ∧ CGot (cat pC s k) L p q s c e w' := by
  have hs := h.scn.2.1
  have hk := h.scn.1
  generalize hR : cat pC s k = R
  have H0 := (show Hid _ from (⟨Below.refl _ _, h, hR⟩ : Below L w w ∧ St w L p q s k c ∧ cat pC s k = R)); clear hR h
  have HG := (show Hid _ from (⟨hC, hg⟩ : CDoes pC L p q s k ∧ RxGood s k pC)); clear hC hg
  go_enter Try.func64, Try.ntmps64
  go_wp2_with fail
  go_loopw [3] (fun v wr => ∃ (k' f : Nat) (cc : Array Value), v = .func (.func f) #[] cc ∧ k' ≤ s.size ∧ k ≤ k' ∧ Hid (Below L w wr ∧ St wr L p q s k' c ∧ cat pC s k' = R)) (fun _ wr => s.size - (intOf ((wr.cell? ⟨p, 1, none⟩).getD (.bool false))).toNat)
  case atStart => exact ⟨k, 71, #[], rfl, hk, Nat.le_refl _, H0⟩
  case round =>
    clear H0
    obtain ⟨k', f', cc', rfl, hk', hkk, HR⟩ := hrel
    obtain ⟨x0, x1, y1⟩ := Scn.cells HR.out.2.1.1
    have HM2 := (show Hid _ from x1)
    by_cases hlt : k' < s.size
    case neg =>
      have hd : decide ((k' : Int) < s.size) = false := by simp; omega
      have hgo : goes s k' = false := by unfold goes; simp [hlt]
      have HE : Hid (R = .ok k') := HR.out.2.2.symm.trans (cat_stop hgo)
      clear hgo
      go_wp2_with fail
      go_quiet (fail)
      go_wp2_with fail
      go_ret
      refine ⟨belDrewN HR.out.1 _, ?_⟩
      rw [HE.out]
      exact ⟨⟨_, rfl, _, _, rfl⟩, HR.out.2.1.drewN _⟩
    have hd : decide ((k' : Int) < s.size) = true := by simp; omega
    have hlt' : (k' : Int) < s.size := by omega
    cases h124 : seesB s k' 124
    case true =>
      have HQ : Hid (∀ n, Calls Try.prog 65 #[.pointer (some ⟨p, 0, none⟩), .int .u8 124] (wr.drewN n) fun e w'' => e = .returned (.bool true) ∧ ∃ m, w'' = (wr.drewN n).drewN m) := fun n => seesQ_is 124 h124 wr HR.out.2.1 n
      have hgo : goes s k' = false := by unfold goes; simp [h124]
      have HE : Hid (R = .ok k') := HR.out.2.2.symm.trans (cat_stop hgo)
      clear hgo h124
      go_wp2_with fail
      go_quiet ((go_at_call 65; refine Calls.quiet_of (HQ.out _)))
      go_wp2_with fail
      go_ret
      refine ⟨belDrewN HR.out.1 _, ?_⟩
      rw [HE.out]
      exact ⟨⟨_, rfl, _, _, rfl⟩, HR.out.2.1.drewN _⟩
    have HQ : Hid (∀ n, Calls Try.prog 65 #[.pointer (some ⟨p, 0, none⟩), .int .u8 124] (wr.drewN n) fun e w'' => e = .returned (.bool false) ∧ ∃ m, w'' = (wr.drewN n).drewN m) := fun n => seesQ_is 124 h124 wr HR.out.2.1 n
    cases h41 : seesB s k' 41
    case true =>
      have HQ2 : Hid (∀ n, Calls Try.prog 65 #[.pointer (some ⟨p, 0, none⟩), .int .u8 41] (wr.drewN n) fun e w'' => e = .returned (.bool true) ∧ ∃ m, w'' = (wr.drewN n).drewN m) := fun n => seesQ_is 41 h41 wr HR.out.2.1 n
      have hgo : goes s k' = false := by unfold goes; simp [h41]
      have HE : Hid (R = .ok k') := HR.out.2.2.symm.trans (cat_stop hgo)
      clear hgo h124 h41
      go_wp2_with fail
      go_quiet ((first | (go_at_call 65; with_reducible refine Calls.quiet_of (HQ.out _)) | (go_at_call 65; with_reducible refine Calls.quiet_of (HQ2.out _))))
      go_wp2_with fail
      go_ret
      refine ⟨belDrewN HR.out.1 _, ?_⟩
      rw [HE.out]
      exact ⟨⟨_, rfl, _, _, rfl⟩, HR.out.2.1.drewN _⟩
    have HQ2 : Hid (∀ n, Calls Try.prog 65 #[.pointer (some ⟨p, 0, none⟩), .int .u8 41] (wr.drewN n) fun e w'' => e = .returned (.bool false) ∧ ∃ m, w'' = (wr.drewN n).drewN m) := fun n => seesQ_is 41 h41 wr HR.out.2.1 n
    have hgo : goes s k' = true := by unfold goes; simp [h41, h124, hlt]
    have hst := HR.out.2.2.symm.trans (cat_step (HG.out.2.mono hkk) hgo)
    have hin := xRep_in (HG.out.2.mono hkk) hk'
    have HRP : Hid (∀ n, Calls Try.prog 73 #[.pointer (some ⟨p, 0, none⟩)] (wr.drewN n) fun e w' => Below L (wr.drewN n) w' ∧ CGot (xRep pC s k') L p q s c e w') := fun n => rep_any (wr.drewN n) (HG.out.1.mono hkk) (HG.out.2.mono hkk) (HR.out.2.1.drewN n) hc
    have HB := (show Hid _ from fun n => belDrewN HR.out.1 n)
    clear hgo h124 h41
    generalize xRep pC s k' = r at *
    cases r with
    | error j =>
      have HE : Hid (R = .error j) := hst
      clear hst hin
      go_wp2_with fail
      go_quiet ((first | (go_at_call 65; with_reducible refine Calls.quiet_of (HQ.out _)) | (go_at_call 65; with_reducible refine Calls.quiet_of (HQ2.out _))))
      go_wp2_with fail
      refine Calls.mono (HRP.out _) ?_
      rintro e w4 ⟨hb4, rfl⟩
      have HB4 := (show Hid _ from (HB.out _).trans hb4); clear hb4
      go_wp2_with fail
      exact ⟨rfl, HB4.out, by rw [HE.out]; exact rfl⟩
    | ok k1 =>
      have HE : Hid (R = cat pC s k1) := hst
      have hk1a : k' + 1 ≤ k1 := hin.1
      have hk1 : k1 ≤ s.size := hin.2
      clear hst hin
      go_wp2_with fail
      go_quiet ((first | (go_at_call 65; with_reducible refine Calls.quiet_of (HQ.out _)) | (go_at_call 65; with_reducible refine Calls.quiet_of (HQ2.out _))))
      go_wp2_with fail
      refine Calls.mono (HRP.out _) ?_
      rintro e w4 ⟨hb4, ⟨v, rfl, f4, c4, rfl⟩, hs4⟩
      have HB4 := (show Hid _ from (HB.out _).trans hb4); clear hb4
      have HSQ := (show Hid _ from sequence_st hs4 (v1 := .func (.func f') #[] cc') (v2 := .func (.func f4) #[] c4) ⟨_, _, rfl⟩ ⟨_, _, rfl⟩); clear hs4
      go_wp2_with fail
      refine Calls.mono HSQ.out ?_
      rintro e w5 ⟨⟨v, rfl, f5, c5, rfl⟩, hb5, hs5⟩
      have HB5 := (show Hid _ from (⟨HB4.out.trans hb5, hs5⟩ : _ ∧ _)); clear hb5 hs5
      go_wp2_with fail
      refine ⟨⟨k1, f5, c5, rfl, hk1, by omega, HB5.out.1, HB5.out.2, HE.out.symm⟩, ?_⟩
      have m1 := (Scn.cells HB5.out.2.1).2.1
      rw [m1, HM2.out]
      simp [intOf]
      omega
end Go.Proofs.Ythmdoplickpmaai
