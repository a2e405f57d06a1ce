import Derived.Test.YthmdoplickpmaaiRxCat
namespace Go.Proofs.Ythmdoplickpmaai
open Go.RowKit Go.Deep Go.Lib
set_option linter.unusedVariables false
set_option maxRecDepth 100000
set_option linter.unusedSimpArgs false

set_option maxHeartbeats 1600000 in
theorem or_step {L p q d k c : Nat} {s : ByteArray} (w : World) (hC : CDoes (xOr s d) L p q s k) (h : St w L p q s k c) (hc : c ≤ 1000) :
    Calls Try.prog 58 #[.pointer (some ⟨p, 0, none⟩)] w fun e w' => Below L w w' ∧ CGot (xOr s (d + 1) k) L p q s c e w' := by
  have hs := h.scn.2.1
  have hk := h.scn.1
  have hc0 := h.pos
  have hg := xOr_good s d k
  have HCT0 := (show Hid _ from cat_any w hC hg h hc)
  have hin := cat_in hg hk
  have hr : xOr s (d + 1) k = (match cat (xOr s d) s k with
    | .error j => .error j
    | .ok k1 => alts (xOr s d) s k1) := by rw [xOr]; cases cat (xOr s d) s k <;> rfl
  rw [hr]
  have HG := (show Hid _ from hC); clear hC hg hr h
  generalize cat (xOr s d) s k = r at *
  cases r with
  | error j =>
    clear hin
    dsimp only
    go_enter Try.func58, Try.ntmps58
    go_wp2_with fail
    refine Calls.mono HCT0.out ?_
    rintro e w1 ⟨hb1, rfl⟩
    go_wp2_with fail
    exact ⟨rfl, hb1, rfl⟩
  | ok k1 =>
    have hk1a : k ≤ k1 := hin.1
    have hk1 : k1 ≤ s.size := hin.2
    clear hin
    dsimp only
    generalize hR : alts (xOr s d) s k1 = R
    have HR0 := (show Hid _ from hR); clear hR
    go_enter Try.func58, Try.ntmps58
    go_wp2_with fail
    refine Calls.mono HCT0.out ?_
    rintro e w1 ⟨hb1, ⟨v, rfl, f, cc, rfl⟩, hs1⟩
    have H1 := (show Hid _ from (⟨hb1, hs1, HR0.out⟩ : Below L w w1 ∧ St w1 L p q s k1 c ∧ alts (xOr s d) s k1 = R)); clear hb1 hs1
    go_wp2_with fail
    go_loopw [3] (fun v wr => ∃ (k' f : Nat) (cc : Array Value), v = .func (.func f) #[] cc ∧ k' ≤ s.size ∧ k ≤ k' ∧ Hid (Below L w wr ∧ St wr L p q s k' c ∧ alts (xOr s d) s k' = R)) (fun _ wr => s.size - (intOf ((wr.cell? ⟨p, 1, none⟩).getD (.bool false))).toNat)
    case atStart => exact ⟨k1, f, cc, rfl, hk1, hk1a, H1⟩
    case round =>
      clear H1 HCT0 HR0 hk1 hk1a
      obtain ⟨k', f', cc', rfl, hk', hkk, HR⟩ := hrel
      have HM2 := (show Hid _ from (Scn.cells HR.out.2.1.1).2.1)
      cases h124 : seesB s k' 124
      case false =>
        have HE : Hid (R = .ok k') := HR.out.2.2.symm.trans (alts_stop h124)
        have HS1 := (show Hid _ from sees_is 124 h124 wr HR.out.2.1)
        clear h124
        go_wp2_with fail
        refine Calls.mono HS1.out ?_
        rintro e w2 ⟨rfl, hb2, hs2⟩
        have HX2 := (show Hid _ from (⟨HR.out.1.trans hb2, hs2⟩ : _ ∧ _)); clear hb2 hs2
        go_wp2_with fail
        go_ret
        refine ⟨HX2.out.1, ?_⟩
        rw [HE.out]
        exact ⟨⟨_, rfl, _, _, rfl⟩, HX2.out.2⟩
      have hlt := seesB_lt h124
      have hst := HR.out.2.2.symm.trans (alts_step (xOr_good s d k') h124)
      have HS1 := (show Hid _ from sees_is 124 h124 wr HR.out.2.1)
      have hin := cat_in (xOr_good s d (k' + 1)) hlt
      have HCT : Hid (∀ w', St w' L p q s (k' + 1) (c - 1) → Calls Try.prog 64 #[.pointer (some ⟨p, 0, none⟩)] w' fun e w'' => Below L w' w'' ∧ CGot (cat (xOr s d) s (k' + 1)) L p q s (c - 1) e w'') := fun w' h' => cat_any w' (CDoes.mono HG.out (by omega)) (xOr_good s d (k' + 1)) h' (by omega)
      clear h124
      generalize cat (xOr s d) s (k' + 1) = r at *
      cases r with
      | error j =>
        have HE : Hid (R = .error j) := hst
        clear hst hin
        go_wp2_with fail
        refine Calls.mono HS1.out ?_
        rintro e w2 ⟨rfl, hb2, hs2⟩
        have hs2' : St w2 L p q s k' (c - 1 + 1) := by rw [Nat.sub_add_cancel hc0]; exact hs2
        obtain ⟨x0, x1, y1⟩ := hs2.1.cells
        have hs3 := hs2'.next hlt
        have hnet := hs3.1.net
        have HX2 := (show Hid _ from belDrew ((HR.out.1.trans hb2).trans hs2.nextLow))
        have HCX := (show Hid _ from HCT.out _ (hs3.drewN 1))
        clear hb2 hs2 hs2' hs3
        go_wp2_with fail
        generalize w2.setCell ⟨p, 1, none⟩ (.int .i64 ((k' : Int) + 1)) = W at *
        refine wp_region_any (by kernel_rfl) ?_
        change wpAny _ _ _ _ _ _ _ (World.drew _)
        refine wpAny_take (i := 0) (v := .pointer (some ⟨p, 0, none⟩)) rfl (by kernel_rfl) (by kernel_rfl) (by kernel_rfl) (fun _ _ _ h => h) (Or.inl ⟨by rfl, by intro w; go_simp⟩) ?_
        refine wpAny_take (i := 1) (v := .pointer (some ⟨p, 0, none⟩)) rfl (by kernel_rfl) (by kernel_rfl) (by kernel_rfl) (fun _ _ _ h => h) (Or.inl ⟨by rfl, by intro w; go_simp⟩) ?_
        refine wpAny_take (i := 2) (v := .pointer (some ⟨p, 2, none⟩)) rfl (by kernel_rfl) (by kernel_rfl) (by kernel_rfl) (fun _ _ _ h => h) (Or.inl ⟨by rfl, by intro w; go_simp⟩) ?_
        refine wpAny_take (i := 4) (v := .func (.func f') #[] cc') rfl (by kernel_rfl) (by kernel_rfl) (by kernel_rfl) (fun _ _ _ h => h) (Or.inl ⟨by rfl, by intro w; go_simp⟩) ?_
        refine wpAny_take (i := 5) (v := .pointer (some ⟨p, 0, none⟩)) rfl (by kernel_rfl) (by kernel_rfl) (by kernel_rfl) (fun _ _ _ h => h) (Or.inl ⟨by rfl, by intro w; go_simp⟩) ?_
        refine wpAny_ready (rs := [3, 6]) (by kernel_rfl) (by simp) ?_
        refine AllReady.cons rfl (fun K hK => ?_) (AllReady.cons rfl (fun K hK => ?_) AllReady.nil)
        · go_simp
          refine hK _ _ ?_
          clear hK K
          refine wpAny_ready (rs := [6]) (by kernel_rfl) (by simp) ?_
          refine AllReady.cons rfl (fun K hK => ?_) AllReady.nil
          go_simp
          go_wp2_with (go_at_call 64; refine Calls.mono HCX.out ?_; rintro e w4 ⟨hb4, rfl⟩)
          exact ⟨rfl, HX2.out.trans hb4, by rw [HE.out]; exact rfl⟩
        · go_simp
          go_wp2_with (go_at_call 64; refine Calls.mono HCX.out ?_; rintro e w4 ⟨hb4, rfl⟩)
          exact ⟨rfl, HX2.out.trans hb4, by rw [HE.out]; exact rfl⟩
      | ok k2 =>
        have HE : Hid (R = alts (xOr s d) s k2) := hst
        have hk2a : k' + 1 ≤ k2 := hin.1
        have hk2 : k2 ≤ s.size := hin.2
        clear hst hin
        go_wp2_with fail
        refine Calls.mono HS1.out ?_
        rintro e w2 ⟨rfl, hb2, hs2⟩
        have hs2' : St w2 L p q s k' (c - 1 + 1) := by rw [Nat.sub_add_cancel hc0]; exact hs2
        obtain ⟨x0, x1, y1⟩ := hs2.1.cells
        have hs3 := hs2'.next hlt
        have hnet := hs3.1.net
        have HX2 := (show Hid _ from belDrew ((HR.out.1.trans hb2).trans hs2.nextLow))
        have HCX := (show Hid _ from HCT.out _ (hs3.drewN 1))
        clear hb2 hs2 hs2' hs3
        go_wp2_with fail
        generalize w2.setCell ⟨p, 1, none⟩ (.int .i64 ((k' : Int) + 1)) = W at *
        go_region_with (first | (go_at_call 64; refine Calls.mono HCX.out ?_; rintro e w4 ⟨hb4, ⟨v, rfl, f4, c4, rfl⟩, hs4⟩; have hn4 := Scn.net hs4.1) | (go_at_call 66; refine Calls.mono (either_st hs4 (by omega) (v1 := .func (.func f') #[] cc') (v2 := .func (.func f4) #[] c4) ⟨_, _, rfl⟩ ⟨_, _, rfl⟩) ?_; rintro e w5 ⟨⟨v, rfl, f5, c5, rfl⟩, hb5, hs5⟩))
        all_goals
          have hs5' : St w5 L p q s k2 c := hs5.mono (by omega)
          have HB5 := (show Hid _ from (⟨(HX2.out.trans hb4).trans hb5, hs5'⟩ : _ ∧ _)); clear hb5 hs5 hb4 hs4 hs5' hn4
          go_wp2_with fail
          refine ⟨⟨.func (.func f5) #[] c5, _, _, _, _, _, _, _, _, _, _, _, _, _, _, _, _, _, _, _, _, _, ⟨k2, f5, c5, rfl, hk2, by omega, HB5.out.1, HB5.out.2, HE.out.symm⟩, rfl⟩, ?_⟩
          have m1 := (Scn.cells HB5.out.2.1).2.1
          rw [m1, HM2.out]
          simp [intOf]
          omega
end Go.Proofs.Ythmdoplickpmaai
