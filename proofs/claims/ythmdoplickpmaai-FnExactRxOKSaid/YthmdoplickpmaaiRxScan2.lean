import Derived.Test.YthmdoplickpmaaiRxScan
namespace Go.Proofs.Ythmdoplickpmaai
open Go.RowKit Go.Deep Go.Lib
set_option linter.unusedVariables false
set_option maxRecDepth 100000
set_option linter.unusedSimpArgs false

theorem Out.drewN {lo hi : Nat} {w w' : World} (h : Out lo hi w w') (n : Nat) : Out lo hi w (w'.drewN n) := ⟨h.1, h.2.1, h.2.2.1, h.2.2.2.1, h.2.2.2.2⟩
theorem Scn.next {w : World} {p q k : Nat} {s : ByteArray} (h : Scn w p q s k) (hk : k < s.size) : Scn (w.setCell ⟨p, 1, none⟩ (.int .i64 ((k : Int) + 1))) p q s (k + 1) := Scn.set (k' := k + 1) h hk
theorem Scn.cells' {w : World} {p q k : Nat} {s : ByteArray} (h : Scn w p q s (k + 1)) : w.cell? ⟨p, 0, none⟩ = some (.string s) ∧ w.cell? ⟨p, 1, none⟩ = some (.int .i64 ((k : Int) + 1)) ∧ w.frozen? ⟨p, 1, none⟩ = false := h.cells
/-- A byte was read, or it is a fault. -/
def Got (r : Except Nat (UInt8 × Nat)) (p q : Nat) (s : ByteArray) (e : Ending) (w' : World) : Prop := match r with
  | .ok a => e = .returned (.int .u8 a.1.toNat) ∧ Scn w' p q s a.2
  | .error j => e = .panicked [flt j]

set_option maxHeartbeats 1600000 in
theorem plain_any {p q k : Nat} {s : ByteArray} (w : World) (h : Scn w p q s k) :
    Calls Try.prog 102 #[.pointer (some ⟨p, 0, none⟩)] w fun e w' => Out p (p + 1) w w' ∧ Got (xPlain s k) p q s e w' := by
  obtain ⟨x0, x1, y1⟩ := h.cells
  have hk := h.1
  have hs := h.2.1
  have HS := (show Hid _ from h); clear h
  by_cases hlt : k < s.size
  case neg =>
    have hq : ((k : Int) == (s.size : Int)) = true := by simp; omega
    have hr : xPlain s k = .error k := by unfold xPlain; simp [hlt]
    rw [hr]
    have HF := (show Hid _ from fun n => fault_any (w.drewN n) (Scn.keep (w := w) HS.out rfl))
    clear hr
    go_enter Try.func102, Try.ntmps102
    go_wp2_with fail
    go_quiet (fail)
    go_wp2_with fail
    refine Calls.mono (HF.out _) ?_
    rintro e w2 ⟨rfl, hb2⟩
    go_wp2_with fail
    exact ⟨rfl, Out.trans (Out.drewN (Out.refl _ _ _) _) (Out.of_below hb2), rfl⟩
  have hq : ((k : Int) == (s.size : Int)) = false := by simp; omega
  have hg := get!_eq s k hlt
  have hlt' : (k : Int) < s.size := by omega
  by_cases h1 : s[k].toNat < 32
  · have hd1 : decide ((s[k].toNat : Int) < 32) = true := by simp; omega
    have hr : xPlain s k = .error k := by unfold xPlain; rw [hg]; simp [hlt]; omega
    rw [hr]
    have HF := (show Hid _ from fun n => fault_any (w.drewN n) (Scn.keep (w := w) HS.out rfl))
    clear hr hg
    go_enter Try.func102, Try.ntmps102
    go_wp2_with fail
    go_quiet (fail)
    go_wp2_with fail
    refine Calls.mono (HF.out _) ?_
    rintro e w2 ⟨rfl, hb2⟩
    go_wp2_with fail
    exact ⟨rfl, Out.trans (Out.drewN (Out.refl _ _ _) _) (Out.of_below hb2), rfl⟩
  have hd1 : decide ((s[k].toNat : Int) < 32) = false := by simp; omega
  by_cases h2 : 126 < s[k].toNat
  · have hd2 : decide ((126 : Int) < s[k].toNat) = true := by simp; omega
    have hr : xPlain s k = .error k := by unfold xPlain; rw [hg]; simp [hlt]; omega
    rw [hr]
    have HF := (show Hid _ from fun n => fault_any (w.drewN n) (Scn.keep (w := w) HS.out rfl))
    clear hr hg
    go_enter Try.func102, Try.ntmps102
    go_wp2_with fail
    go_quiet (fail)
    go_wp2_with fail
    refine Calls.mono (HF.out _) ?_
    rintro e w2 ⟨rfl, hb2⟩
    go_wp2_with fail
    exact ⟨rfl, Out.trans (Out.drewN (Out.refl _ _ _) _) (Out.of_below hb2), rfl⟩
  · have hd2 : decide ((126 : Int) < s[k].toNat) = false := by simp; omega
    have hr : xPlain s k = .ok (s[k], k + 1) := by unfold xPlain; rw [hg]; simp [hlt]; omega
    rw [hr]
    clear hr hg
    have H3 := (show Hid _ from fun n => Scn.next (Scn.keep (w := w) (w' := w.drewN n) HS.out rfl) hlt)
    have H4 := (show Hid _ from fun n => Out.trans (Out.drewN (Out.refl p (p + 1) w) n) (Out.set (o := 1) (w.drewN n) (.int .i64 ((k : Int) + 1)) (Nat.le_refl p) (Nat.lt_succ_self p)))
    go_enter Try.func102, Try.ntmps102
    go_wp2_with fail
    go_quiet (fail)
    go_wp2_with fail
    have HW := (show Hid _ from H3.out nq)
    have HO := (show Hid _ from H4.out nq)
    clear H3 H4 x0 x1 y1 hd1 hd2
    generalize (w.drewN nq).setCell ⟨p, 1, none⟩ (.int .i64 ((k : Int) + 1)) = W at *
    obtain ⟨x0, x1, y1⟩ := Scn.cells' HW.out
    go_quiet (fail)
    go_wp2_with fail
    go_ret
    exact ⟨Out.drewN HO.out _, rfl, Scn.keep (w := W) HW.out rfl⟩

end Go.Proofs.Ythmdoplickpmaai
