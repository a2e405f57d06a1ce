import Derived.Test.YthmdoplickpmaahRdr
namespace Go.Proofs.Ythmdoplickpmaah
open Go.RowKit Go.Deep Go.Lib
set_option linter.unusedVariables false
set_option maxRecDepth 100000
set_option linter.unusedSimpArgs false

/-- One byte too many behind a name. -/
def tooLong (s : ByteArray) (k k1 : Nat) : Bool := decide (k1 = k + 24) && (decide (k1 < s.size) && nbB (s.get! k1).toNat)
theorem tooLong_no {s : ByteArray} {k k1 : Nat} (h : (decide (k1 < s.size) && nbB (s.get! k1).toNat) = false) : tooLong s k k1 = false := by unfold tooLong; rw [h]; simp
theorem tooLong_yes {s : ByteArray} {k k1 : Nat} (h1 : k1 = k + 24) (h : (decide (k1 < s.size) && nbB (s.get! k1).toNat) = true) : tooLong s k k1 = true := by unfold tooLong; rw [h]; simp [h1]
/-- What the specification's name answers. -/
def SNGot (r : Except Nat (ByteArray × Nat)) (p : Nat) (s : ByteArray) (k : Nat) (e : Ending) (w' : World) : Prop := match r with
  | .error j => e = .returned (.string ByteArray.empty) ∧ Bad w' p s j
  | .ok a => (tooLong s k a.2 = true ∧ e = .returned (.string ByteArray.empty) ∧ Bad w' p s a.2) ∨ (tooLong s k a.2 = false ∧ e = .returned (.string a.1) ∧ Rdr w' p s a.2)

set_option maxHeartbeats 3200000 in
theorem nameS_any {p k : Nat} {s : ByteArray} (w : World) (h : Rdr w p s k) :
    Calls Try.prog 48 #[.pointer (some ⟨p, 0, none⟩)] w fun e w' => Out p (p + 1) w w' ∧ SNGot (pName s k) p s k e w' := by
  obtain ⟨x0, x1, x2, y1, y2⟩ := h.2.2.cells
  have hk := h.1
  have hs := h.2.1
  have HS := (show Hid _ from h); clear h
  have HM := (show Hid _ from fun n => more_any (w.drewN n) (p := p) (k := k) (s := s) (Rdr.keep (w := w) HS.out rfl))
  have HF := (show Hid _ from fun n => fail_any (w.drewN n) (p := p) (k := k) (s := s) (Rdr.keep (w := w) HS.out rfl))
  by_cases hlt : k < s.size
  case neg =>
    rw [decide_eq_false hlt] at HM
    have hr : pName s k = .error k := by unfold pName; simp [hlt]
    rw [hr]
    clear hr
    go_enter Try.func48, Try.ntmps48
    go_wp2_with fail
    go_quiet ((go_at_call 47; refine Calls.quiet_of (HM.out _)))
    go_wp2_with fail
    refine Calls.mono (HF.out nq) ?_
    rintro e w2 ⟨rfl, ho2, hb2⟩
    have HE := (show Hid _ from (⟨Out.trans (Out.drewN (Out.refl _ _ _) _) ho2, hb2⟩ : _ ∧ _)); clear ho2 hb2
    go_wp2_with fail
    go_ret
    exact ⟨HE.out.1, rfl, HE.out.2⟩
  rw [decide_eq_true hlt] at HM
  have hg := get!_eq s k hlt
  have hlt' : (k : Int) < s.size := by omega
  have hil := fun w => sLetter (s[k].toNat : Int) w
  cases hlb : letB s[k].toNat
  · have hr : pName s k = .error k := by unfold pName; rw [hg, hlb]; simp
    rw [hr]
    rw [hlb] at hil
    have HIL := (show Hid _ from hil); clear hil hlb hr hg
    go_enter Try.func48, Try.ntmps48
    go_wp2_with fail
    go_quiet ((first | (go_at_call 47; refine Calls.quiet_of (HM.out _)) | (go_at_call 54; refine Calls.quiet_of_same (HIL.out _))))
    go_wp2_with fail
    refine Calls.mono (HF.out nq) ?_
    rintro e w2 ⟨rfl, ho2, hb2⟩
    have HE := (show Hid _ from (⟨Out.trans (Out.drewN (Out.refl _ _ _) _) ho2, hb2⟩ : _ ∧ _)); clear ho2 hb2
    go_wp2_with fail
    go_ret
    exact ⟨HE.out.1, rfl, HE.out.2⟩
  have hr : pName s k = .ok (s.extract k (nmEnd s 24 k), nmEnd s 24 k) := by unfold pName; rw [hg, hlb]; simp [hlt]
  rw [hr]
  rw [hlb] at hil
  have HIL := (show Hid _ from hil); clear hil hlb hr hg
  have HS0 := (show Hid _ from fun n => Rdr.keep (w := w) (w' := w.drewN n) HS.out rfl)
  generalize hE : nmEnd s 24 k = E at *
  have HE := (show Hid _ from hE); clear hE
  go_enter Try.func48, Try.ntmps48
  go_wp2_with fail
  go_quiet ((first | (go_at_call 47; refine Calls.quiet_of (HM.out _)) | (go_at_call 54; refine Calls.quiet_of_same (HIL.out _))))
  go_wp2_with fail
  clear x0 x1 x2 y1 y2
  go_loopw [] (fun wr => ∃ j : Nat, k ≤ j ∧ j ≤ s.size ∧ j ≤ k + 24 ∧ Hid (Out p (p + 1) w wr ∧ Rdr wr p s j ∧ nmEnd s (24 - (j - k)) j = E)) (fun wr => s.size - (intOf ((wr.cell? ⟨p, 1, none⟩).getD (.bool false))).toNat)
  case atStart => exact ⟨k, Nat.le_refl _, hk, by omega, Out.drewN (Out.refl _ _ _) _, HS0.out _, by rw [Nat.sub_self]; exact HE.out⟩
  case round =>
    obtain ⟨j, hkj, hj, hj24, HR⟩ := hrel
    obtain ⟨x0, x1, x2, y1, y2⟩ := RdB.cells HR.out.2.1.2.2
    have HMJ := (show Hid _ from fun n => more_any (wr.drewN n) (p := p) (k := j) (s := s) (Rdr.keep (w := wr) HR.out.2.1 rfl))
    have HFJ := (show Hid _ from fun n => fail_any (wr.drewN n) (p := p) (k := j) (s := s) (Rdr.keep (w := wr) HR.out.2.1 rfl))
    clear HM HF
    by_cases hjs : j < s.size
    case neg =>
      rw [decide_eq_false hjs] at HMJ
      have hE : j = E := (nmEnd_stop (by simp [hjs])).symm.trans HR.out.2.2
      subst hE
      have HTL := (show Hid (tooLong s k j = false) from tooLong_no (by simp [hjs]))
      go_wp2_with fail
      go_quiet ((go_at_call 47; refine Calls.quiet_of (HMJ.out _)))
      go_wp2_with fail
      go_quiet (fail)
      go_wp2_with fail
      go_ret
      exact ⟨⟨HR.out.1.1, HR.out.1.2.1, HR.out.1.2.2.1, HR.out.1.2.2.2.1, HR.out.1.2.2.2.2⟩, .inr ⟨HTL.out, rfl, Rdr.keep (w := wr) HR.out.2.1 rfl⟩⟩
    rw [decide_eq_true hjs] at HMJ
    have hjs' : (j : Int) < s.size := by omega
    have hnb := fun w => sNameByte (s[j].toNat : Int) w
    have hgj := get!_eq s j hjs
    cases hb : nbB s[j].toNat
    · rw [hb] at hnb
      have HNB := (show Hid _ from hnb)
      have hE : j = E := (nmEnd_stop (by rw [hgj, hb]; simp)).symm.trans HR.out.2.2
      subst hE
      have HTL := (show Hid (tooLong s k j = false) from tooLong_no (by rw [hgj, hb]; simp))
      clear hnb hb hgj
      go_wp2_with fail
      go_quiet ((first | (go_at_call 47; refine Calls.quiet_of (HMJ.out _)) | (go_at_call 55; refine Calls.quiet_of_same (HNB.out _))))
      go_wp2_with fail
      go_quiet (fail)
      go_wp2_with fail
      go_ret
      exact ⟨⟨HR.out.1.1, HR.out.1.2.1, HR.out.1.2.2.1, HR.out.1.2.2.2.1, HR.out.1.2.2.2.2⟩, .inr ⟨HTL.out, rfl, Rdr.keep (w := wr) HR.out.2.1 rfl⟩⟩
    rw [hb] at hnb
    have HNB := (show Hid _ from hnb)
    by_cases h24 : j - k < 24
    case neg =>
      have hq : ((j : Int) - k == 24) = true := by simp; omega
      have hE : j = E := by rw [← HR.out.2.2, show 24 - (j - k) = 0 by omega]; rfl
      subst hE
      have HTL := (show Hid (tooLong s k j = true) from tooLong_yes (by omega) (by rw [hgj, hb]; simp [hjs]))
      clear hnb hb hgj
      go_wp2_with fail
      go_quiet ((first | (go_at_call 47; refine Calls.quiet_of (HMJ.out _)) | (go_at_call 55; refine Calls.quiet_of_same (HNB.out _))))
      go_wp2_with fail
      refine Calls.mono (HFJ.out nq) ?_
      rintro e w2 ⟨rfl, ho2, hb2⟩
      have HX := (show Hid _ from (⟨Out.trans (Out.drewN HR.out.1 _) ho2, hb2⟩ : _ ∧ _)); clear ho2 hb2
      go_wp2_with fail
      go_ret
      exact ⟨HX.out.1, .inl ⟨HTL.out, rfl, HX.out.2⟩⟩
    · have hq : ((j : Int) - k == 24) = false := by simp; omega
      have hE : nmEnd s (24 - (j + 1 - k)) (j + 1) = E := by
        rw [← HR.out.2.2, show 24 - (j - k) = (24 - (j + 1 - k)) + 1 by omega, nmEnd_go (by rw [hgj, hb]; simp [hjs])]
      have HE2 := (show Hid _ from hE); clear hE
      have H3 := (show Hid _ from fun n => (⟨Out.trans (Out.drewN HR.out.1 n) (Out.set (o := 1) (wr.drewN n) (.int .i64 ((j : Int) + 1)) (Nat.le_refl p) (Nat.lt_succ_self p)), Rdr.next (Rdr.keep (w := wr) (w' := wr.drewN n) HR.out.2.1 rfl) hjs, HE2.out⟩ : _ ∧ _ ∧ _))
      have HM2 := (show Hid _ from x1)
      clear hnb hb hgj
      go_wp2_with fail
      go_quiet ((first | (go_at_call 47; refine Calls.quiet_of (HMJ.out _)) | (go_at_call 55; refine Calls.quiet_of_same (HNB.out _))))
      go_wp2_with fail
      refine ⟨⟨j + 1, by omega, hjs, by omega, H3.out nq⟩, ?_⟩
      have m1 := (RdB.cells' (H3.out nq).2.1.2.2).2.1
      rw [m1, HM2.out]
      simp [intOf]
      omega

theorem begins_of {n m b : Nat} (hm : m ≤ 2) (h : b < 256) (hb : b / 10 ^ m = n) (hp : b < 32 ∨ 126 < b) : begins n m = true := by
  unfold begins
  have : m = 0 ∨ m = 1 ∨ m = 2 := by omega
  rcases this with rfl | rfl | rfl <;> simp only [Nat.reducePow, decide_eq_true_eq] at * <;> omega
theorem begins_no {n m : Nat} (hm : m ≤ 2) (h : ∀ b, b < 256 → ¬ (b / 10 ^ m = n ∧ (b < 32 ∨ 126 < b))) : begins n m = false := by
  unfold begins
  rw [decide_eq_false_iff_not]
  have h3 : m = 0 ∨ m = 1 ∨ m = 2 := by omega
  rintro (h1 | ⟨h1, h2⟩)
  · refine h (n * 10 ^ m) (by omega) ⟨Nat.mul_div_cancel _ (Nat.pow_pos (by omega)), .inl h1⟩
  · rcases h3 with rfl | rfl | rfl <;> simp only [Nat.reducePow] at h1 h2 h
    · exact h n (by omega) ⟨by omega, by omega⟩
    · by_cases hc : n * 10 < 127
      · exact h 127 (by omega) ⟨by omega, by omega⟩
      · exact h (n * 10) (by omega) ⟨by omega, by omega⟩
    · by_cases hc : n * 100 < 127
      · exact h 127 (by omega) ⟨by omega, by omega⟩
      · exact h (n * 100) (by omega) ⟨by omega, by omega⟩
end Go.Proofs.Ythmdoplickpmaah
