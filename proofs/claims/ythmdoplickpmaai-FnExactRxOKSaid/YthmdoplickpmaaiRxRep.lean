import Derived.Test.YthmdoplickpmaaiRxAtom
namespace Go.Proofs.Ythmdoplickpmaai
open Go.RowKit Go.Deep Go.Lib
set_option linter.unusedVariables false
set_option maxRecDepth 100000
set_option linter.unusedSimpArgs false

theorem St.next {w : World} {L p q k c : Nat} {s : ByteArray} (h : St w L p q s k (c + 1)) (hlt : k < s.size) : St (w.setCell ⟨p, 1, none⟩ (.int .i64 ((k : Int) + 1))) L p q s (k + 1) c :=
  h.out (Out.set (o := 1) w (.int .i64 ((k : Int) + 1)) (Nat.le_refl p) (Nat.lt_succ_self p)) (h.1.next hlt) (by omega)
theorem St.nextLow {w : World} {L p q k c : Nat} {s : ByteArray} (h : St w L p q s k c) : Below L w (w.setCell ⟨p, 1, none⟩ (.int .i64 ((k : Int) + 1))) :=
  Out.low (Out.set (o := 1) w (.int .i64 ((k : Int) + 1)) (Nat.le_refl p) (Nat.lt_succ_self p)) h.low
/-- What is seen, said of a world to come. -/
theorem sees_is {L p q k c : Nat} {s : ByteArray} (b : UInt8) {r : Bool} (hb : seesB s k b = r) (w' : World) (h' : St w' L p q s k c) :
    Calls Try.prog 65 #[.pointer (some ⟨p, 0, none⟩), .int .u8 b.toNat] w' fun e w'' => e = .returned (.bool r) ∧ Below L w' w'' ∧ St w'' L p q s k c :=
  (sees_st b h').mono fun e w'' ⟨h1, h2, h3⟩ => ⟨by rw [h1, hb], h2.low h'.low, h3⟩

set_option maxHeartbeats 1600000 in
theorem rep_any {pC : Nat → Except Nat Nat} {L p q k c : Nat} {s : ByteArray} (w : World) (hC : CDoes pC L p q s k) (hg : RxGood s k pC) (h : St w L p q s k c) (hc : c ≤ 1000) :
    Calls Try.prog 73 #[.pointer (some ⟨p, 0, none⟩)] w fun e w' => Below L w w' ∧ CGot (xRep pC s k) L p q s c e w' := by
  have hs := h.scn.2.1
  have ha := atom_any w hC hg h hc
  have hin := xAtom_in hg h.scn.1
  have hr : xRep pC s k = (match xAtom pC s k with
    | .error j => .error j
    | .ok k1 => .ok (reps s k1)) := by unfold xRep; cases xAtom pC s k <;> rfl
  rw [hr]
  clear hr hC hg h
  have HA := (show Hid _ from ha); clear ha
  generalize xAtom pC s k = r at *
  cases r with
  | error j =>
    dsimp only
    clear hin
    go_enter Try.func73, Try.ntmps73
    go_wp2_with fail
    refine Calls.mono HA.out ?_
    rintro e w1 ⟨hb1, rfl⟩
    go_wp2_with fail
    exact ⟨rfl, hb1, rfl⟩
  | ok k1 =>
    dsimp only
    have hk1 : k1 ≤ s.size := hin.2
    clear hin
    generalize hR : reps s k1 = R
    have HR0 := (show Hid _ from hR); clear hR
    go_enter Try.func73, Try.ntmps73
    go_wp2_with fail
    refine Calls.mono HA.out ?_
    rintro e w1 ⟨hb1, ⟨v, rfl, f, cc, rfl⟩, hs1⟩
    have H1 := (show Hid _ from (⟨hb1, hs1, HR0.out⟩ : Below L w w1 ∧ St w1 L p q s k1 c ∧ reps s k1 = R)); clear hb1 hs1
    go_wp2_with fail
    go_loopw [3] (fun v wr => ∃ (k' f : Nat) (cc : Array Value), v = .func (.func f) #[] cc ∧ k' ≤ s.size ∧ Hid (Below L w wr ∧ St wr L p q s k' c ∧ reps s k' = R)) (fun _ wr => s.size - (intOf ((wr.cell? ⟨p, 1, none⟩).getD (.bool false))).toNat)
    case atStart => exact ⟨k1, f, cc, rfl, hk1, H1⟩
    case round =>
      clear H1 HA HR0 hk1
      obtain ⟨k', f', cc', rfl, hk', HR⟩ := hrel
      have hm2 := (Scn.cells HR.out.2.1.1).2.1
      have HM2 := (show Hid _ from hm2); clear hm2
      have HX0 := (show Hid _ from (⟨HR.out.1, HR.out.2.1⟩ : Below L w wr ∧ St wr L p q s k' c))
      have HRR := (show Hid _ from HR.out.2.2); clear HR
      cases h42 : seesB s k' 42
      case true =>
        have hlt := seesB_lt h42
        have HST : Hid (reps s (k' + 1) = R) := by rw [← reps_step (by rw [h42]; rfl)]; exact HRR.out
        have HS1 := (show Hid _ from sees_is 42 h42 wr HX0.out.2)
        clear h42
        go_wp2_with fail
        refine Calls.mono HS1.out ?_
        rintro e v1 ⟨rfl, hb1, hs1⟩
        have HX1 := (show Hid _ from (⟨HX0.out.1.trans hb1, hs1⟩ : Below L w v1 ∧ St v1 L p q s k' c)); clear hb1 hs1
        have hnet := Scn.net HX1.out.2.1
        have HT := (show Hid _ from anyTimes_st HX1.out.2 (by omega) (v1 := .func (.func f') #[] cc') ⟨_, _, rfl⟩)
        go_wp2_with fail
        refine Calls.mono HT.out ?_
        rintro e w5 ⟨⟨v, rfl, f5, c5, rfl⟩, hb5, hs5⟩
        obtain ⟨x0, x1, y1⟩ := hs5.1.cells
        have HX5 := (show Hid _ from (⟨(HX1.out.1.trans hb5).trans hs5.nextLow, hs5.next hlt⟩ : Below L w (w5.setCell ⟨p, 1, none⟩ (.int .i64 ((k' : Int) + 1))) ∧ St _ L p q s (k' + 1) c)); clear hb5 hs5
        go_wp2_with fail
        refine ⟨⟨k' + 1, f5, c5, rfl, hlt, HX5.out.1, HX5.out.2, HST.out⟩, ?_⟩
        have m1 := (Scn.cells' HX5.out.2.1).2.1
        rw [m1, HM2.out]
        simp [intOf]
        omega
      have HS1 := (show Hid _ from sees_is 42 h42 wr HX0.out.2)
      cases h43 : seesB s k' 43
      case true =>
        have hlt := seesB_lt h43
        have HST : Hid (reps s (k' + 1) = R) := by rw [← reps_step (by rw [h42, h43]; rfl)]; exact HRR.out
        have HS2' : Hid (∀ w', St w' L p q s k' c → Calls Try.prog 65 #[.pointer (some ⟨p, 0, none⟩), .int .u8 43] w' fun e w'' => e = .returned (.bool true) ∧ Below L w' w'' ∧ St w'' L p q s k' c) := fun w' h' => sees_is 43 h43 w' h'
        clear h42 h43
        go_wp2_with fail
        refine Calls.mono HS1.out ?_
        rintro e v1 ⟨rfl, hb1, hs1⟩
        have HX1 := (show Hid _ from (⟨HX0.out.1.trans hb1, hs1⟩ : Below L w v1 ∧ St v1 L p q s k' c)); clear hb1 hs1
        have HS2 := (show Hid _ from HS2'.out v1 HX1.out.2)
        go_wp2_with fail
        refine Calls.mono HS2.out ?_
        rintro e v2 ⟨rfl, hb2, hs2⟩
        have HX2 := (show Hid _ from (⟨HX1.out.1.trans hb2, hs2⟩ : Below L w v2 ∧ St v2 L p q s k' c)); clear hb2 hs2
        have hnet := Scn.net HX2.out.2.1
        have HT := (show Hid _ from onceOrMore_st HX2.out.2 (by omega) (v1 := .func (.func f') #[] cc') ⟨_, _, rfl⟩)
        go_wp2_with fail
        refine Calls.mono HT.out ?_
        rintro e w5 ⟨⟨v, rfl, f5, c5, rfl⟩, hb5, hs5⟩
        obtain ⟨x0, x1, y1⟩ := hs5.1.cells
        have HX5 := (show Hid _ from (⟨(HX2.out.1.trans hb5).trans hs5.nextLow, hs5.next hlt⟩ : Below L w (w5.setCell ⟨p, 1, none⟩ (.int .i64 ((k' : Int) + 1))) ∧ St _ L p q s (k' + 1) c)); clear hb5 hs5
        go_wp2_with fail
        refine ⟨⟨k' + 1, f5, c5, rfl, hlt, HX5.out.1, HX5.out.2, HST.out⟩, ?_⟩
        have m1 := (Scn.cells' HX5.out.2.1).2.1
        rw [m1, HM2.out]
        simp [intOf]
        omega
      have HS2' : Hid (∀ w', St w' L p q s k' c → Calls Try.prog 65 #[.pointer (some ⟨p, 0, none⟩), .int .u8 43] w' fun e w'' => e = .returned (.bool false) ∧ Below L w' w'' ∧ St w'' L p q s k' c) := fun w' h' => sees_is 43 h43 w' h'
      cases h63 : seesB s k' 63
      case true =>
        have hlt := seesB_lt h63
        have HST : Hid (reps s (k' + 1) = R) := by rw [← reps_step (by rw [h42, h43, h63]; rfl)]; exact HRR.out
        have HS3' : Hid (∀ w', St w' L p q s k' c → Calls Try.prog 65 #[.pointer (some ⟨p, 0, none⟩), .int .u8 63] w' fun e w'' => e = .returned (.bool true) ∧ Below L w' w'' ∧ St w'' L p q s k' c) := fun w' h' => sees_is 63 h63 w' h'
        clear h42 h43 h63
        go_wp2_with fail
        refine Calls.mono HS1.out ?_
        rintro e v1 ⟨rfl, hb1, hs1⟩
        have HX1 := (show Hid _ from (⟨HX0.out.1.trans hb1, hs1⟩ : Below L w v1 ∧ St v1 L p q s k' c)); clear hb1 hs1
        have HS2 := (show Hid _ from HS2'.out v1 HX1.out.2)
        go_wp2_with fail
        refine Calls.mono HS2.out ?_
        rintro e v2 ⟨rfl, hb2, hs2⟩
        have HX2 := (show Hid _ from (⟨HX1.out.1.trans hb2, hs2⟩ : Below L w v2 ∧ St v2 L p q s k' c)); clear hb2 hs2
        have HS3 := (show Hid _ from HS3'.out v2 HX2.out.2)
        go_wp2_with fail
        refine Calls.mono HS3.out ?_
        rintro e v3 ⟨rfl, hb3, hs3⟩
        have HX3 := (show Hid _ from (⟨HX2.out.1.trans hb3, hs3⟩ : Below L w v3 ∧ St v3 L p q s k' c)); clear hb3 hs3
        have hnet := Scn.net HX3.out.2.1
        have HT := (show Hid _ from either_st HX3.out.2 (by omega) (v1 := .func (.func f') #[] cc') (v2 := .func (.func 71) #[] #[]) ⟨_, _, rfl⟩ ⟨_, _, rfl⟩)
        go_wp2_with fail
        refine Calls.mono HT.out ?_
        rintro e w5 ⟨⟨v, rfl, f5, c5, rfl⟩, hb5, hs5⟩
        obtain ⟨x0, x1, y1⟩ := hs5.1.cells
        have HX5 := (show Hid _ from (⟨(HX3.out.1.trans hb5).trans hs5.nextLow, hs5.next hlt⟩ : Below L w (w5.setCell ⟨p, 1, none⟩ (.int .i64 ((k' : Int) + 1))) ∧ St _ L p q s (k' + 1) c)); clear hb5 hs5
        go_wp2_with fail
        refine ⟨⟨k' + 1, f5, c5, rfl, hlt, HX5.out.1, HX5.out.2, HST.out⟩, ?_⟩
        have m1 := (Scn.cells' HX5.out.2.1).2.1
        rw [m1, HM2.out]
        simp [intOf]
        omega
      have HST : Hid (k' = R) := by rw [← HRR.out, reps_stop (by rw [h42, h43, h63]; rfl)]; exact rfl
      have HS3' : Hid (∀ w', St w' L p q s k' c → Calls Try.prog 65 #[.pointer (some ⟨p, 0, none⟩), .int .u8 63] w' fun e w'' => e = .returned (.bool false) ∧ Below L w' w'' ∧ St w'' L p q s k' c) := fun w' h' => sees_is 63 h63 w' h'
      clear h42 h43 h63
      go_wp2_with fail
      refine Calls.mono HS1.out ?_
      rintro e v1 ⟨rfl, hb1, hs1⟩
      have HX1 := (show Hid _ from (⟨HX0.out.1.trans hb1, hs1⟩ : Below L w v1 ∧ St v1 L p q s k' c)); clear hb1 hs1
      have HS2 := (show Hid _ from HS2'.out v1 HX1.out.2)
      go_wp2_with fail
      refine Calls.mono HS2.out ?_
      rintro e v2 ⟨rfl, hb2, hs2⟩
      have HX2 := (show Hid _ from (⟨HX1.out.1.trans hb2, hs2⟩ : Below L w v2 ∧ St v2 L p q s k' c)); clear hb2 hs2
      have HS3 := (show Hid _ from HS3'.out v2 HX2.out.2)
      go_wp2_with fail
      refine Calls.mono HS3.out ?_
      rintro e v3 ⟨rfl, hb3, hs3⟩
      have HX3 := (show Hid _ from (⟨HX2.out.1.trans hb3, hs3⟩ : Below L w v3 ∧ St v3 L p q s k' c)); clear hb3 hs3
      go_wp2_with fail
      go_ret
      exact ⟨HX3.out.1, ⟨_, rfl, _, _, rfl⟩, by rw [← HST.out]; exact HX3.out.2⟩
end Go.Proofs.Ythmdoplickpmaai
