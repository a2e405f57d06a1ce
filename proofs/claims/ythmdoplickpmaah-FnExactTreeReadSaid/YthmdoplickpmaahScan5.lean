import Derived.Test.YthmdoplickpmaahScan4
namespace Go.Proofs.Ythmdoplickpmaah
open Go.RowKit Go.Deep Go.Lib
set_option linter.unusedVariables false
set_option maxRecDepth 100000
set_option linter.unusedSimpArgs false

/-- A name was read, or it is a fault. -/
def NGot (r : Except Nat (ByteArray × Nat)) (p : Nat) (s : ByteArray) (e : Ending) (w' : World) : Prop := match r with
  | .ok a => e = .returned (.string a.1) ∧ Scn w' p s a.2
  | .error j => e = .panicked [flt j]
theorem nmEnd_stop {s : ByteArray} {f k : Nat} (h : (decide (k < s.size) && nbB (s.get! k).toNat) = false) : nmEnd s f k = k := by
  cases f with
  | zero => rfl
  | succ f => rw [nmEnd, if_neg (by rw [h]; simp)]
theorem nmEnd_go {s : ByteArray} {f k : Nat} (h : (decide (k < s.size) && nbB (s.get! k).toNat) = true) : nmEnd s (f + 1) k = nmEnd s f (k + 1) := by
  rw [nmEnd, if_pos h]

set_option maxHeartbeats 3200000 in
theorem name_any {p k : Nat} {s : ByteArray} (w : World) (h : Scn w p s k) :
    Calls Try.prog 66 #[.pointer (some ⟨p, 0, none⟩)] w fun e w' => Out p (p + 1) w w' ∧ NGot (pName s k) p s e w' := by
  obtain ⟨x0, x1, y1⟩ := h.cells
  have hk := h.1
  have hs := h.2.1
  have HS := (show Hid _ from h); clear h
  by_cases hlt : k < s.size
  case neg =>
    have hq : ((k : Int) == (s.size : Int)) = true := by simp; omega
    have hr : pName s k = .error k := by unfold pName; simp [hlt]
    rw [hr]
    have HF := (show Hid _ from fun n => fault_any (w.drewN n) (Scn.keep (w := w) HS.out rfl))
    clear hr
    go_enter Try.func66, Try.ntmps66
    go_wp2_with fail
    go_quiet (fail)
    go_wp2_with fail
    refine Calls.mono (HF.out _) ?_
    rintro e w2 ⟨rfl, hb2⟩
    go_wp2_with fail
    exact ⟨rfl, Out.trans (Out.drewN (Out.refl _ _ _) _) (Out.of_below hb2), rfl⟩
  have hq : ((k : Int) == (s.size : Int)) = false := by simp; omega
  have hg := get!_eq s k hlt
  have hlt' : (k : Int) < s.size := by omega
  have hil := fun w => iLetter (s[k].toNat : Int) w
  cases hlb : letB s[k].toNat
  · have hr : pName s k = .error k := by unfold pName; rw [hg, hlb]; simp
    rw [hr]
    rw [hlb] at hil
    have HIL := (show Hid _ from hil); clear hil hlb hr hg
    have HF := (show Hid _ from fun n => fault_any (w.drewN n) (Scn.keep (w := w) HS.out rfl))
    go_enter Try.func66, Try.ntmps66
    go_wp2_with fail
    go_quiet ((go_at_call 62; refine Calls.quiet_of_same (HIL.out _)))
    go_wp2_with fail
    refine Calls.mono (HF.out _) ?_
    rintro e w2 ⟨rfl, hb2⟩
    go_wp2_with fail
    exact ⟨rfl, Out.trans (Out.drewN (Out.refl _ _ _) _) (Out.of_below hb2), rfl⟩
  have hr : pName s k = .ok (s.extract k (nmEnd s 24 k), nmEnd s 24 k) := by unfold pName; rw [hg, hlb]; simp [hlt]
  rw [hr]
  rw [hlb] at hil
  have HIL := (show Hid _ from hil); clear hil hlb hr hg
  have HS0 := (show Hid _ from fun n => Scn.keep (w := w) (w' := w.drewN n) HS.out rfl)
  generalize hE : nmEnd s 24 k = E at *
  have HE := (show Hid _ from hE); clear hE
  go_enter Try.func66, Try.ntmps66
  go_wp2_with fail
  go_quiet ((go_at_call 62; refine Calls.quiet_of_same (HIL.out _)))
  go_wp2_with fail
  clear x0 x1 y1
  go_loopw [] (fun wr => ∃ j : Nat, k ≤ j ∧ j ≤ s.size ∧ j ≤ k + 24 ∧ Hid (Out p (p + 1) w wr ∧ Scn wr p s j ∧ nmEnd s (24 - (j - k)) j = E)) (fun wr => s.size - (intOf ((wr.cell? ⟨p, 1, none⟩).getD (.bool false))).toNat)
  case atStart => exact ⟨k, Nat.le_refl _, hk, by omega, Out.drewN (Out.refl _ _ _) _, HS0.out _, by rw [Nat.sub_self]; exact HE.out⟩
  case round =>
    obtain ⟨j, hkj, hj, hj24, HR⟩ := hrel
    obtain ⟨x0, x1, y1⟩ := Scn.cells HR.out.2.1
    have HB := (show Hid _ from fun n => (⟨Out.drewN HR.out.1 n, Scn.keep (w := wr) (w' := wr.drewN n) HR.out.2.1 rfl⟩ : _ ∧ _))
    by_cases hjs : j < s.size
    case neg =>
      have hd : decide ((j : Int) < s.size) = false := by simp; omega
      have hE : j = E := (nmEnd_stop (by simp [hjs])).symm.trans HR.out.2.2
      subst hE
      go_wp2_with fail
      go_quiet (fail)
      go_wp2_with fail
      go_quiet (fail)
      go_wp2_with fail
      go_ret
      exact ⟨⟨HR.out.1.1, HR.out.1.2.1, HR.out.1.2.2.1, HR.out.1.2.2.2.1, HR.out.1.2.2.2.2⟩, rfl, Scn.keep (w := wr) HR.out.2.1 rfl⟩
    have hd : decide ((j : Int) < s.size) = true := by simp; omega
    have hjs' : (j : Int) < s.size := by omega
    by_cases h24 : j - k < 24
    case neg =>
      have hd2 : decide ((j : Int) - k < 24) = false := by simp; omega
      have hE : j = E := by rw [← HR.out.2.2, show 24 - (j - k) = 0 by omega]; rfl
      subst hE
      go_wp2_with fail
      go_quiet (fail)
      go_wp2_with fail
      go_quiet (fail)
      go_wp2_with fail
      go_ret
      exact ⟨⟨HR.out.1.1, HR.out.1.2.1, HR.out.1.2.2.1, HR.out.1.2.2.2.1, HR.out.1.2.2.2.2⟩, rfl, Scn.keep (w := wr) HR.out.2.1 rfl⟩
    have hd2 : decide ((j : Int) - k < 24) = true := by simp; omega
    have hnb := fun w => iNameByte (s[j].toNat : Int) w
    have hgj := get!_eq s j hjs
    cases hb : nbB s[j].toNat
    · rw [hb] at hnb
      have HNB := (show Hid _ from hnb)
      have hE : j = E := (nmEnd_stop (by rw [hgj, hb]; simp)).symm.trans HR.out.2.2
      subst hE
      clear hnb hb hgj
      go_wp2_with fail
      go_quiet ((go_at_call 63; refine Calls.quiet_of_same (HNB.out _)))
      go_wp2_with fail
      go_quiet (fail)
      go_wp2_with fail
      go_ret
      exact ⟨⟨HR.out.1.1, HR.out.1.2.1, HR.out.1.2.2.1, HR.out.1.2.2.2.1, HR.out.1.2.2.2.2⟩, rfl, Scn.keep (w := wr) HR.out.2.1 rfl⟩
    · rw [hb] at hnb
      have HNB := (show Hid _ from hnb)
      have hE : nmEnd s (24 - (j + 1 - k)) (j + 1) = E := by
        rw [← HR.out.2.2, show 24 - (j - k) = (24 - (j + 1 - k)) + 1 by omega, nmEnd_go (by rw [hgj, hb]; simp [hjs])]
      have HE2 := (show Hid _ from hE); clear hE
      have H3 := (show Hid _ from fun n => (⟨Out.trans (Out.drewN HR.out.1 n) (Out.set (o := 1) (wr.drewN n) (.int .i64 ((j : Int) + 1)) (Nat.le_refl p) (Nat.lt_succ_self p)), Scn.next (Scn.keep (w := wr) (w' := wr.drewN n) HR.out.2.1 rfl) hjs, HE2.out⟩ : _ ∧ _ ∧ _))
      have hm2 := (Scn.cells HR.out.2.1).2.1
      have HM2 := (show Hid _ from hm2)
      clear hnb hb hgj hm2
      go_wp2_with fail
      go_quiet ((go_at_call 63; refine Calls.quiet_of_same (HNB.out _)))
      go_wp2_with fail
      refine ⟨⟨j + 1, by omega, hjs, by omega, H3.out nq⟩, ?_⟩
      have m1 := (Scn.cells' (H3.out nq).2.1).2.1
      rw [m1, HM2.out]
      simp [intOf]
      omega
end Go.Proofs.Ythmdoplickpmaah
