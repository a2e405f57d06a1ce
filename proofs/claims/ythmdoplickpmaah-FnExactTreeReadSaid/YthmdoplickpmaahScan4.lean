import Derived.Test.YthmdoplickpmaahScan3
namespace Go.Proofs.Ythmdoplickpmaah
open Go.RowKit Go.Deep Go.Lib
set_option linter.unusedVariables false
set_option maxRecDepth 100000
set_option linter.unusedSimpArgs false

set_option maxHeartbeats 3200000 in
theorem escaped_any {p k : Nat} {s : ByteArray} (w : World) (h : Scn w p s k) :
    Calls Try.prog 71 #[.pointer (some ⟨p, 0, none⟩)] w fun e w' => Out p (p + 1) w w' ∧ Got (pEsc s k) p s e w' := by
  have hs := h.2.1
  have HCL := (show Hid _ from sees_any 34 w h); clear h
  cases h34 : seesB s k 34
  · rw [h34] at HCL
    have hcl2 := fun w1 (h1 : Scn w1 p s k) => sees_any 92 w1 h1
    have HCL2 := (show Hid _ from hcl2); clear hcl2
    cases h92 : seesB s k 92
    · rw [h92] at HCL2
      have hr : pEsc s k = pNum s 3 k 0 := by unfold pEsc; rw [h34, h92]; rfl
      rw [hr]
      clear h34 h92 hr
      have HP := (show Hid _ from fun w1 (h1 : Scn w1 p s k) => numbered_any w1 h1)
      generalize pNum s 3 k 0 = r at *
      go_enter Try.func71, Try.ntmps71
      go_wp2_with fail
      refine Calls.mono HCL.out ?_
      rintro e w1 ⟨rfl, ho1, hs1⟩
      have H2 := (show Hid _ from HCL2.out w1 hs1)
      have HO := (show Hid _ from ho1); clear ho1 hs1
      go_wp2_with fail
      refine Calls.mono H2.out ?_
      rintro e w2 ⟨rfl, ho2, hs2⟩
      have H3 := (show Hid _ from HP.out w2 hs2)
      have HO2 := (show Hid _ from Out.trans HO.out ho2); clear ho2 hs2
      go_wp2_with fail
      refine Calls.mono H3.out ?_
      rintro e w3 ⟨ho3, hg3⟩
      cases r with
      | error j =>
        obtain rfl : e = .panicked [flt j] := hg3
        have HO3 := (show Hid _ from Out.trans HO2.out ho3); clear ho3
        go_wp2_with fail
        exact ⟨rfl, HO3.out, rfl⟩
      | ok a =>
        obtain ⟨rfl, hs3⟩ := hg3
        have HO3 := (show Hid _ from (⟨Out.trans HO2.out ho3, hs3⟩ : _ ∧ _)); clear ho3 hs3
        go_wp2_with fail
        go_ret
        exact ⟨HO3.out.1, rfl, HO3.out.2⟩
    · rw [h92] at HCL2
      have hlt := seesB_lt h92
      have hr : pEsc s k = .ok (s[k], k + 1) := by unfold pEsc; rw [h34, h92, get!_eq s k hlt]; rfl
      rw [hr]
      clear h34 h92 hr
      go_enter Try.func71, Try.ntmps71
      go_wp2_with fail
      refine Calls.mono HCL.out ?_
      rintro e w1 ⟨rfl, ho1, hs1⟩
      have H2 := (show Hid _ from HCL2.out w1 hs1)
      have HO := (show Hid _ from ho1); clear ho1 hs1
      go_wp2_with fail
      refine Calls.mono H2.out ?_
      rintro e w2 ⟨rfl, ho2, hs2⟩
      have HO2 := (show Hid _ from (⟨Out.trans HO.out ho2, hs2⟩ : _ ∧ _)); clear ho2 hs2
      obtain ⟨x0, x1, y1⟩ := Scn.cells HO2.out.2
      have H3 := (show Hid _ from (⟨Out.trans HO2.out.1 (Out.set (o := 1) w2 (.int .i64 ((k : Int) + 1)) (Nat.le_refl p) (Nat.lt_succ_self p)), Scn.next HO2.out.2 hlt⟩ : _ ∧ _))
      go_wp2_with fail
      clear x0 x1 y1
      generalize w2.setCell ⟨p, 1, none⟩ (.int .i64 ((k : Int) + 1)) = W at *
      obtain ⟨x0, x1, y1⟩ := Scn.cells' H3.out.2
      go_quiet (fail)
      go_wp2_with fail
      go_ret
      exact ⟨Out.drewN H3.out.1 _, rfl, Scn.keep (w := W) H3.out.2 rfl⟩
  · rw [h34] at HCL
    have hlt := seesB_lt h34
    have hr : pEsc s k = .ok (s[k], k + 1) := by unfold pEsc; rw [h34, get!_eq s k hlt]; rfl
    rw [hr]
    clear h34 hr
    go_enter Try.func71, Try.ntmps71
    go_wp2_with fail
    refine Calls.mono HCL.out ?_
    rintro e w2 ⟨rfl, ho2, hs2⟩
    have HO2 := (show Hid _ from (⟨ho2, hs2⟩ : _ ∧ _)); clear ho2 hs2
    obtain ⟨x0, x1, y1⟩ := Scn.cells HO2.out.2
    have H3 := (show Hid _ from (⟨Out.trans HO2.out.1 (Out.set (o := 1) w2 (.int .i64 ((k : Int) + 1)) (Nat.le_refl p) (Nat.lt_succ_self p)), Scn.next HO2.out.2 hlt⟩ : _ ∧ _))
    go_wp2_with fail
    clear x0 x1 y1
    generalize w2.setCell ⟨p, 1, none⟩ (.int .i64 ((k : Int) + 1)) = W at *
    obtain ⟨x0, x1, y1⟩ := Scn.cells' H3.out.2
    go_quiet (fail)
    go_wp2_with fail
    go_ret
    exact ⟨Out.drewN H3.out.1 _, rfl, Scn.keep (w := W) H3.out.2 rfl⟩

set_option maxHeartbeats 1600000 in
theorem shown_any {p k : Nat} {s : ByteArray} (w : World) (h : Scn w p s k) :
    Calls Try.prog 69 #[.pointer (some ⟨p, 0, none⟩)] w fun e w' => Out p (p + 1) w w' ∧ Got (pByte s k) p s e w' := by
  have hs := h.2.1
  have HCL := (show Hid _ from sees_any 92 w h); clear h
  cases h92 : seesB s k 92
  · rw [h92] at HCL
    have hr : pByte s k = pPlain s k := by unfold pByte pPlain; rw [h92]; rfl
    rw [hr]
    clear h92 hr
    have HP := (show Hid _ from fun w1 (h1 : Scn w1 p s k) => plain_any w1 h1)
    generalize pPlain s k = r at *
    go_enter Try.func69, Try.ntmps69
    go_wp2_with fail
    refine Calls.mono HCL.out ?_
    rintro e w1 ⟨rfl, ho1, hs1⟩
    have H2 := (show Hid _ from HP.out w1 hs1)
    have HO2 := (show Hid _ from ho1); clear ho1 hs1
    go_wp2_with fail
    refine Calls.mono H2.out ?_
    rintro e w3 ⟨ho3, hg3⟩
    cases r with
    | error j =>
      obtain rfl : e = .panicked [flt j] := hg3
      have HO3 := (show Hid _ from Out.trans HO2.out ho3); clear ho3
      go_wp2_with fail
      exact ⟨rfl, HO3.out, rfl⟩
    | ok a =>
      obtain ⟨rfl, hs3⟩ := hg3
      have HO3 := (show Hid _ from (⟨Out.trans HO2.out ho3, hs3⟩ : _ ∧ _)); clear ho3 hs3
      go_wp2_with fail
      go_ret
      exact ⟨HO3.out.1, rfl, HO3.out.2⟩
  · rw [h92] at HCL
    have hlt := seesB_lt h92
    have hr : pByte s k = pEsc s (k + 1) := by unfold pByte; rw [h92]; rfl
    rw [hr]
    clear h92 hr
    have HP := (show Hid _ from fun w1 (h1 : Scn w1 p s (k + 1)) => escaped_any w1 h1)
    generalize pEsc s (k + 1) = r at *
    go_enter Try.func69, Try.ntmps69
    go_wp2_with fail
    refine Calls.mono HCL.out ?_
    rintro e w2 ⟨rfl, ho2, hs2⟩
    obtain ⟨x0, x1, y1⟩ := Scn.cells hs2
    have H3 := (show Hid _ from (⟨Out.trans ho2 (Out.set (o := 1) w2 (.int .i64 ((k : Int) + 1)) (Nat.le_refl p) (Nat.lt_succ_self p)), Scn.next hs2 hlt⟩ : _ ∧ _)); clear ho2 hs2
    go_wp2_with fail
    clear x0 x1 y1
    generalize w2.setCell ⟨p, 1, none⟩ (.int .i64 ((k : Int) + 1)) = W at *
    have H4 := (show Hid _ from HP.out W H3.out.2)
    refine Calls.mono H4.out ?_
    rintro e w3 ⟨ho3, hg3⟩
    cases r with
    | error j =>
      obtain rfl : e = .panicked [flt j] := hg3
      have HO3 := (show Hid _ from Out.trans H3.out.1 ho3); clear ho3
      go_wp2_with fail
      exact ⟨rfl, HO3.out, rfl⟩
    | ok a =>
      obtain ⟨rfl, hs3⟩ := hg3
      have HO3 := (show Hid _ from (⟨Out.trans H3.out.1 ho3, hs3⟩ : _ ∧ _)); clear ho3 hs3
      go_wp2_with fail
      go_ret
      exact ⟨HO3.out.1, rfl, HO3.out.2⟩
end Go.Proofs.Ythmdoplickpmaah
