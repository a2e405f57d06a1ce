import Derived.Test.YthmdoplickpmaaiRxSet
namespace Go.Proofs.Ythmdoplickpmaai
open Go.RowKit Go.Deep Go.Lib
set_option linter.unusedVariables false
set_option maxRecDepth 100000
set_option linter.unusedSimpArgs false

/-- All but two blocks is as it was. -/
def Out2 (p b : Nat) (w w' : World) : Prop := w'.os = w.os ∧ w'.tape = w.tape ∧ w'.output = w.output ∧ w.heap.size ≤ w'.heap.size ∧ ∀ k, k < w.heap.size → k ≠ p → k ≠ b → w'.heap[k]? = w.heap[k]?
theorem Out2.of1 {p b : Nat} {w w' : World} (h : Out p (p + 1) w w') : Out2 p b w w' := ⟨h.1, h.2.1, h.2.2.1, h.2.2.2.1, fun k hk h1 h2 => h.2.2.2.2 k hk (by omega)⟩
theorem Out2.of2 {p b : Nat} {w w' : World} (h : Out b (b + 1) w w') : Out2 p b w w' := ⟨h.1, h.2.1, h.2.2.1, h.2.2.2.1, fun k hk h1 h2 => h.2.2.2.2 k hk (by omega)⟩
theorem Out2.refl (p b : Nat) (w : World) : Out2 p b w w := ⟨rfl, rfl, rfl, Nat.le_refl _, fun _ _ _ _ => rfl⟩
theorem Out2.trans {p b : Nat} {w w' w'' : World} (h : Out2 p b w w') (g : Out2 p b w' w'') : Out2 p b w w'' :=
  ⟨g.1.trans h.1, g.2.1.trans h.2.1, g.2.2.1.trans h.2.2.1, Nat.le_trans h.2.2.2.1 g.2.2.2.1, fun k hk h1 h2 => (g.2.2.2.2 k (Nat.lt_of_lt_of_le hk h.2.2.2.1) h1 h2).trans (h.2.2.2.2 k hk h1 h2)⟩
theorem BSet.out {w w' : World} {b p : Nat} (h : BSet w b) (ho : Out p (p + 1) w w') (hb : p ≠ b) : BSet w' b := h.keep (ho.2.2.2.2 b h.lt (by omega))
theorem Scn.out {w w' : World} {b p q k : Nat} {s : ByteArray} (h : Scn w p q s k) (ho : Out b (b + 1) w w') (hb : p ≠ b) : Scn w' p q s k := h.keep (ho.2.2.2.2 p h.lt (by omega))
/-- An item was read, or it is a fault. -/
def IGot (r : Except Nat Nat) (p q b : Nat) (s : ByteArray) (e : Ending) (w' : World) : Prop := match r with
  | .ok k => e = .returned (.tuple #[]) ∧ Scn w' p q s k ∧ BSet w' b
  | .error j => e = .panicked [flt j]

set_option maxHeartbeats 1600000 in
theorem item_any {p q b k : Nat} {s : ByteArray} (w : World) (h : Scn w p q s k) (hb : BSet w b) (hpb : p ≠ b) :
    Calls Try.prog 99 #[.pointer (some ⟨p, 0, none⟩), .pointer (some ⟨b, 0, none⟩)] w fun e w' => Out2 p b w w' ∧ IGot (xItem s k) p q b s e w' := by
  have hs := h.2.1
  have hc : ∀ (k : Nat) (w' : World), Scn w' p q s k → Calls Try.prog 93 #[.pointer (some ⟨p, 0, none⟩), .string ⟨#[93, 45, 92, 94]⟩] w' fun e w'' => Out p (p + 1) w' w'' ∧ Got (xOne sIn s k) p q s e w'' := fun k w' h' => one_any ⟨#[93, 45, 92, 94]⟩ w' h'
  have hc1 := hc k w h
  have HC := (show Hid _ from hc); clear hc
  have HB := (show Hid _ from hb); clear hb
  cases hr1 : xOne sIn s k with
  | error j =>
    have hr : xItem s k = .error j := by unfold xItem; rw [hr1]
    rw [hr]
    rw [hr1] at hc1
    have HC1 := (show Hid _ from hc1); clear hc1 hr hr1 h
    go_enter Try.func99, Try.ntmps99
    go_wp2_with fail
    refine Calls.mono HC1.out ?_
    rintro e w1 ⟨ho1, rfl⟩
    go_wp2_with fail
    exact ⟨rfl, Out2.of1 ho1, rfl⟩
  | ok r =>
    obtain ⟨lo, k1⟩ := r
    rw [hr1] at hc1
    have HC1 := (show Hid _ from hc1); clear hc1
    have hk1 := (show InB s k (.ok (lo, k1)) from hr1 ▸ xOne_in (l := sIn) h.1).2
    dsimp only at hk1
    clear h
    cases h45 : seesB s k1 45
    case false =>
      have hr : xItem s k = .ok k1 := by unfold xItem; rw [hr1]; dsimp only; rw [if_neg (by rw [h45]; simp)]
      rw [hr]
      have HS : Hid (∀ w', Scn w' p q s k1 → Calls Try.prog 65 #[.pointer (some ⟨p, 0, none⟩), .int .u8 45] w' fun e w'' => e = .returned (.bool false) ∧ Out p (p + 1) w' w'' ∧ Scn w'' p q s k1) := fun w' h' => by
        have := sees_any 45 w' h'
        rwa [h45] at this
      clear hr hr1 h45
      go_enter Try.func99, Try.ntmps99
      go_wp2_with fail
      refine Calls.mono HC1.out ?_
      rintro e w1 ⟨ho1, rfl, hs1⟩
      dsimp only at hs1
      have HQ := (show Hid _ from HS.out w1 hs1); clear hs1
      have HX1 := (show Hid _ from (⟨Out2.of1 ho1, BSet.out HB.out ho1 hpb⟩ : Out2 p b w w1 ∧ BSet w1 b)); clear ho1
      go_wp2_with fail
      refine Calls.mono HQ.out ?_
      rintro e w2 ⟨rfl, ho2, hs2⟩
      have hb2 := BSet.out HX1.out.2 ho2 hpb
      have HA := (show Hid _ from addAll_any lo lo w2 hb2)
      have HX2 := (show Hid _ from (⟨Out2.trans HX1.out.1 (Out2.of1 ho2), hs2⟩ : Out2 p b w w2 ∧ _)); clear ho2 hs2 hb2
      go_wp2_with fail
      refine Calls.mono HA.out ?_
      rintro e w3 ⟨rfl, ho3, hb3⟩
      have HX3 := (show Hid _ from (⟨Out2.trans HX2.out.1 (Out2.of2 ho3), Scn.out HX2.out.2 ho3 hpb, hb3⟩ : Out2 p b w w3 ∧ _ ∧ _)); clear ho3 hb3
      go_wp2_with fail
      go_end0
      exact ⟨HX3.out.1, rfl, HX3.out.2.1, HX3.out.2.2⟩
    have hlt := seesB_lt h45
    have HS : Hid (∀ w', Scn w' p q s k1 → Calls Try.prog 65 #[.pointer (some ⟨p, 0, none⟩), .int .u8 45] w' fun e w'' => e = .returned (.bool true) ∧ Out p (p + 1) w' w'' ∧ Scn w'' p q s k1) := fun w' h' => by
      have := sees_any 45 w' h'
      rwa [h45] at this
    have hc2 := fun w' h' => HC.out (k1 + 1) w' h'
    cases hr2 : xOne sIn s (k1 + 1) with
    | error j =>
      have hr : xItem s k = .error j := by unfold xItem; rw [hr1]; dsimp only; rw [if_pos h45, hr2]
      rw [hr]
      rw [hr2] at hc2
      have HC2 := (show Hid _ from hc2); clear hc2 hr hr1 hr2 h45 HC
      go_enter Try.func99, Try.ntmps99
      go_wp2_with fail
      refine Calls.mono HC1.out ?_
      rintro e w1 ⟨ho1, rfl, hs1⟩
      dsimp only at hs1
      have HQ := (show Hid _ from HS.out w1 hs1); clear hs1
      have HX1 := (show Hid _ from (⟨Out2.of1 ho1, BSet.out HB.out ho1 hpb⟩ : Out2 p b w w1 ∧ BSet w1 b)); clear ho1
      go_wp2_with fail
      refine Calls.mono HQ.out ?_
      rintro e w2 ⟨rfl, ho2, hs2⟩
      obtain ⟨x0, x1, y1⟩ := hs2.cells
      have HN := (show Hid _ from HC2.out _ (hs2.next hlt))
      have HX2 := (show Hid _ from (Out2.trans HX1.out.1 (Out2.of1 (Out.trans ho2 (Out.set (o := 1) w2 (.int .i64 ((k1 : Int) + 1)) (Nat.le_refl p) (Nat.lt_succ_self p)))) : Out2 p b w _)); clear ho2 hs2
      go_wp2_with fail
      refine Calls.mono HN.out ?_
      rintro e w3 ⟨ho3, rfl⟩
      go_wp2_with fail
      exact ⟨rfl, Out2.trans HX2.out (Out2.of1 ho3), rfl⟩
    | ok r =>
      obtain ⟨hi, k2⟩ := r
      rw [hr2] at hc2
      have HC2 := (show Hid _ from hc2); clear hc2 HC
      by_cases hcmp : hi.toNat < lo.toNat
      · have hr : xItem s k = .error (k1 + 1) := by unfold xItem; rw [hr1]; dsimp only; rw [if_pos h45, hr2]; dsimp only; rw [if_pos hcmp]
        rw [hr]
        have hcmp' : (hi.toNat : Int) < lo.toNat := by omega
        clear hr hr1 hr2 h45
        go_enter Try.func99, Try.ntmps99
        go_wp2_with fail
        refine Calls.mono HC1.out ?_
        rintro e w1 ⟨ho1, rfl, hs1⟩
        dsimp only at hs1
        have HQ := (show Hid _ from HS.out w1 hs1); clear hs1
        have HX1 := (show Hid _ from (⟨Out2.of1 ho1, BSet.out HB.out ho1 hpb⟩ : Out2 p b w w1 ∧ BSet w1 b)); clear ho1
        go_wp2_with fail
        refine Calls.mono HQ.out ?_
        rintro e w2 ⟨rfl, ho2, hs2⟩
        obtain ⟨x0, x1, y1⟩ := hs2.cells
        have HN := (show Hid _ from HC2.out _ (hs2.next hlt))
        have HX2 := (show Hid _ from (Out2.trans HX1.out.1 (Out2.of1 (Out.trans ho2 (Out.set (o := 1) w2 (.int .i64 ((k1 : Int) + 1)) (Nat.le_refl p) (Nat.lt_succ_self p)))) : Out2 p b w _)); clear ho2 hs2
        go_wp2_with fail
        refine Calls.mono HN.out ?_
        rintro e w3 ⟨ho3, rfl, hs3⟩
        have HX3 := (show Hid _ from Out2.trans HX2.out (Out2.of1 ho3)); clear ho3 hs3
        go_wp2_with fail
        exact ⟨rfl, HX3.out, rfl⟩
      · have hr : xItem s k = .ok k2 := by unfold xItem; rw [hr1]; dsimp only; rw [if_pos h45, hr2]; dsimp only; rw [if_neg hcmp]
        rw [hr]
        have hcmp' : (lo.toNat : Int) ≤ hi.toNat := by omega
        clear hr hr1 hr2 h45
        go_enter Try.func99, Try.ntmps99
        go_wp2_with fail
        refine Calls.mono HC1.out ?_
        rintro e w1 ⟨ho1, rfl, hs1⟩
        dsimp only at hs1
        have HQ := (show Hid _ from HS.out w1 hs1); clear hs1
        have HX1 := (show Hid _ from (⟨Out2.of1 ho1, BSet.out HB.out ho1 hpb⟩ : Out2 p b w w1 ∧ BSet w1 b)); clear ho1
        go_wp2_with fail
        refine Calls.mono HQ.out ?_
        rintro e w2 ⟨rfl, ho2, hs2⟩
        obtain ⟨x0, x1, y1⟩ := hs2.cells
        have HN := (show Hid _ from HC2.out _ (hs2.next hlt))
        have ho2' := Out.trans ho2 (Out.set (o := 1) w2 (.int .i64 ((k1 : Int) + 1)) (Nat.le_refl p) (Nat.lt_succ_self p))
        have HX2 := (show Hid _ from (⟨Out2.trans HX1.out.1 (Out2.of1 ho2'), BSet.out HX1.out.2 ho2' hpb⟩ : Out2 p b w _ ∧ BSet _ b)); clear ho2 hs2 ho2'
        go_wp2_with fail
        refine Calls.mono HN.out ?_
        rintro e w3 ⟨ho3, rfl, hs3⟩
        dsimp only at hs3
        have hb3 := BSet.out HX2.out.2 ho3 hpb
        have HA := (show Hid _ from addAll_any lo hi w3 hb3)
        have HX3 := (show Hid _ from (⟨Out2.trans HX2.out.1 (Out2.of1 ho3), hs3⟩ : Out2 p b w w3 ∧ _)); clear ho3 hs3 hb3
        go_wp2_with fail
        refine Calls.mono HA.out ?_
        rintro e w4 ⟨rfl, ho4, hb4⟩
        have HX4 := (show Hid _ from (⟨Out2.trans HX3.out.1 (Out2.of2 ho4), Scn.out HX3.out.2 ho4 hpb, hb4⟩ : Out2 p b w w4 ∧ _ ∧ _)); clear ho4 hb4
        go_wp2_with fail
        go_end0
        exact ⟨HX4.out.1, rfl, HX4.out.2.1, HX4.out.2.2⟩
end Go.Proofs.Ythmdoplickpmaai
