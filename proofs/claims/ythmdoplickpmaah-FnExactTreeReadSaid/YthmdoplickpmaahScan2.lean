import Derived.Test.YthmdoplickpmaahScan
namespace Go.Proofs.Ythmdoplickpmaah
open Go.RowKit Go.Deep Go.Lib
set_option linter.unusedVariables false
set_option maxRecDepth 100000
set_option linter.unusedSimpArgs false

theorem Out.drewN {lo hi : Nat} {w w' : World} (h : Out lo hi w w') (n : Nat) : Out lo hi w (w'.drewN n) := ⟨h.1, h.2.1, h.2.2.1, h.2.2.2.1, h.2.2.2.2⟩
theorem Scn.next {w : World} {p k : Nat} {s : ByteArray} (h : Scn w p s k) (hk : k < s.size) : Scn (w.setCell ⟨p, 1, none⟩ (.int .i64 ((k : Int) + 1))) p s (k + 1) := Scn.set (k' := k + 1) h hk
theorem Scn.cells' {w : World} {p k : Nat} {s : ByteArray} (h : Scn w p s (k + 1)) : w.cell? ⟨p, 0, none⟩ = some (.string s) ∧ w.cell? ⟨p, 1, none⟩ = some (.int .i64 ((k : Int) + 1)) ∧ w.frozen? ⟨p, 1, none⟩ = false := h.cells
/-- A byte was read, or it is a fault. -/
def Got (r : Except Nat (UInt8 × Nat)) (p : Nat) (s : ByteArray) (e : Ending) (w' : World) : Prop := match r with
  | .ok a => e = .returned (.int .u8 a.1.toNat) ∧ Scn w' p s a.2
  | .error j => e = .panicked [flt j]
/-- What plain reads. -/
def pPlain (s : ByteArray) (k : Nat) : Except Nat (UInt8 × Nat) := if plainB s k then .ok (s.get! k, k + 1) else .error k

set_option maxHeartbeats 1600000 in
theorem plain_any {p k : Nat} {s : ByteArray} (w : World) (h : Scn w p s k) :
    Calls Try.prog 72 #[.pointer (some ⟨p, 0, none⟩)] w fun e w' => Out p (p + 1) w w' ∧ Got (pPlain s k) p s e w' := by
  obtain ⟨x0, x1, y1⟩ := h.cells
  have hk := h.1
  have hs := h.2.1
  have HS := (show Hid _ from h); clear h
  by_cases hlt : k < s.size
  case neg =>
    have hq : ((k : Int) == (s.size : Int)) = true := by simp; omega
    have hr : pPlain s k = .error k := by unfold pPlain plainB; simp [hlt]
    rw [hr]
    have HF := (show Hid _ from fun n => fault_any (w.drewN n) (Scn.keep (w := w) HS.out rfl))
    clear hr
    go_enter Try.func72, Try.ntmps72
    go_wp2_with fail
    go_quiet (fail)
    go_wp2_with fail
    refine Calls.mono (HF.out _) ?_
    rintro e w2 ⟨rfl, hb2⟩
    go_wp2_with fail
    exact ⟨rfl, Out.trans (Out.drewN (Out.refl _ _ _) _) (Out.of_below hb2), rfl⟩
  have hq : ((k : Int) == (s.size : Int)) = false := by simp; omega
  have hg := get!_eq s k hlt
  have hlt' : (k : Int) < s.size := by omega
  by_cases h1 : s[k].toNat < 32
  · have hd1 : decide ((s[k].toNat : Int) < 32) = true := by simp; omega
    have hr : pPlain s k = .error k := by unfold pPlain plainB; rw [hg]; simp [hlt]; omega
    rw [hr]
    have HF := (show Hid _ from fun n => fault_any (w.drewN n) (Scn.keep (w := w) HS.out rfl))
    clear hr hg
    go_enter Try.func72, Try.ntmps72
    go_wp2_with fail
    go_quiet (fail)
    go_wp2_with fail
    refine Calls.mono (HF.out _) ?_
    rintro e w2 ⟨rfl, hb2⟩
    go_wp2_with fail
    exact ⟨rfl, Out.trans (Out.drewN (Out.refl _ _ _) _) (Out.of_below hb2), rfl⟩
  have hd1 : decide ((s[k].toNat : Int) < 32) = false := by simp; omega
  by_cases h2 : 126 < s[k].toNat
  · have hd2 : decide ((126 : Int) < s[k].toNat) = true := by simp; omega
    have hr : pPlain s k = .error k := by unfold pPlain plainB; rw [hg]; simp [hlt]; omega
    rw [hr]
    have HF := (show Hid _ from fun n => fault_any (w.drewN n) (Scn.keep (w := w) HS.out rfl))
    clear hr hg
    go_enter Try.func72, Try.ntmps72
    go_wp2_with fail
    go_quiet (fail)
    go_wp2_with fail
    refine Calls.mono (HF.out _) ?_
    rintro e w2 ⟨rfl, hb2⟩
    go_wp2_with fail
    exact ⟨rfl, Out.trans (Out.drewN (Out.refl _ _ _) _) (Out.of_below hb2), rfl⟩
  · have hd2 : decide ((126 : Int) < s[k].toNat) = false := by simp; omega
    have hr : pPlain s k = .ok (s[k], k + 1) := by unfold pPlain plainB; rw [hg]; simp [hlt]; omega
    rw [hr]
    clear hr hg
    have H3 := (show Hid _ from fun n => Scn.next (Scn.keep (w := w) (w' := w.drewN n) HS.out rfl) hlt)
    have H4 := (show Hid _ from fun n => Out.trans (Out.drewN (Out.refl p (p + 1) w) n) (Out.set (o := 1) (w.drewN n) (.int .i64 ((k : Int) + 1)) (Nat.le_refl p) (Nat.lt_succ_self p)))
    go_enter Try.func72, Try.ntmps72
    go_wp2_with fail
    go_quiet (fail)
    go_wp2_with fail
    have HW := (show Hid _ from H3.out nq)
    have HO := (show Hid _ from H4.out nq)
    clear H3 H4 x0 x1 y1 hd1 hd2
    generalize (w.drewN nq).setCell ⟨p, 1, none⟩ (.int .i64 ((k : Int) + 1)) = W at *
    obtain ⟨x0, x1, y1⟩ := Scn.cells' HW.out
    go_quiet (fail)
    go_wp2_with fail
    go_ret
    exact ⟨Out.drewN HO.out _, rfl, Scn.keep (w := W) HW.out rfl⟩

set_option maxHeartbeats 1600000 in
theorem seesDigit_any {p k : Nat} {s : ByteArray} (w : World) (h : Scn w p s k) :
    Calls Try.prog 74 #[.pointer (some ⟨p, 0, none⟩)] w fun e w' => e = .returned (.bool (decide (k < s.size) && digB (s.get! k).toNat)) ∧ Out p (p + 1) w w' ∧ Scn w' p s k := by
  obtain ⟨x0, x1, y1⟩ := h.cells
  have hk := h.1
  have hs := h.2.1
  have HS := (show Hid _ from h); clear h
  by_cases hlt : k < s.size
  · have e : (decide (k < s.size) && digB (s.get! k).toNat) = digB s[k].toNat := by rw [get!_eq s k hlt]; simp [hlt]
    rw [e]
    have hlt' : (k : Int) < s.size := by omega
    have HD := (show Hid _ from fun w => iDigit (s[k].toNat : Int) w)
    generalize digB s[k].toNat = r at *
    clear e
    go_enter Try.func74, Try.ntmps74
    go_wp2_with fail
    go_quiet ((go_at_call 70; refine Calls.quiet_of_same (HD.out _)))
    go_wp2_with fail
    go_ret
    exact ⟨rfl, Out.drewN (Out.refl _ _ _) _, Scn.keep (w := w) HS.out rfl⟩
  · have e : (decide (k < s.size) && digB (s.get! k).toNat) = false := by simp [hlt]
    rw [e]
    have hd : decide ((k : Int) < s.size) = false := by simp; omega
    clear e
    go_enter Try.func74, Try.ntmps74
    go_wp2_with fail
    go_quiet (fail)
    go_wp2_with fail
    go_ret
    exact ⟨rfl, Out.drewN (Out.refl _ _ _) _, Scn.keep (w := w) HS.out rfl⟩

theorem some_any (a b : Int) (w : World) : Calls Try.prog 75 #[.int .i64 a, .int .i64 b] w fun e w' => e = .returned (.bool (decide (a < 32 ∨ (126 < b ∧ a ≤ 255)))) ∧ w' = w := by
  by_cases h1 : a < 32
  · rw [decide_eq_true (Or.inl h1)]
    go_enter Try.func75, Try.ntmps75
    go_wp2_with fail
    go_ret
    exact ⟨rfl, rfl⟩
  by_cases h2 : 126 < b
  · by_cases h3 : a ≤ 255
    · rw [decide_eq_true (Or.inr ⟨h2, h3⟩)]
      go_enter Try.func75, Try.ntmps75
      go_wp2_with fail
      go_ret
      exact ⟨rfl, rfl⟩
    · rw [decide_eq_false (by omega)]
      go_enter Try.func75, Try.ntmps75
      go_wp2_with fail
      go_ret
      exact ⟨rfl, rfl⟩
  · rw [decide_eq_false (by omega)]
    go_enter Try.func75, Try.ntmps75
    go_wp2_with fail
    go_ret
    exact ⟨rfl, rfl⟩
end Go.Proofs.Ythmdoplickpmaah
