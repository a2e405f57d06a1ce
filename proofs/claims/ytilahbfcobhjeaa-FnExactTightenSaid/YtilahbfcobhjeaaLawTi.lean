import Derived.Test.YtilahbfcobhjeaaTv
import Derived.Deep.CutRange
/-! The law FnExactTighten, walked. -/
namespace Go.Proofs.Ytilahbfcobhjeaa
open Go.RowKit Go.Deep
set_option linter.unusedVariables false
set_option maxRecDepth 100000
set_option linter.unusedSimpArgs false

theorem iTi {S : Nat → Prop} (l : List DIns) (v : Value) (w : World) (h : InsR w S l v) : Calls Try.prog 29 #[v] w (TiA l w) :=
  iTi29 l v w h (fun hp g c wq hx => by
    have hin : ∀ i (hi : i < l.length), inB l.length l[i] = true := fun i hi => (pg_at hp hi).1
    have hn := pg_len hp
    have hll := led_len l
    have h71 := stay71 (led l) g c wq hx (by omega) (by omega) (fun i hi => by
      rw [led_get hi, ldX_op]
      have := in_facts (hin i (by omega))
      exact ⟨this.1, this.2.1⟩) (led_to hin) (fun i hi hg => by have := gs_next hp hi hg; omega)
    rw [hll] at h71
    exact h71)
/-- What Tighten leaves, by its answer. -/
def TiB (R : List DIns) (C : Int) (w : World) (e : Ending) (w' : World) : Prop :=
  ∃ (v : Value) (b : Nat), e = .returned (.tuple #[v, .int .i64 C]) ∧ Below w.heap.size w w' ∧ OwnX w' b R v ∧ (0 < R.length → w.heap.size ≤ b)
theorem ti_ex (l : List DIns) : ∃ (R : List DIns) (C : Int), R.length ≤ 50000 ∧ ∀ w e w', TiA l w e w' → TiB R C w e w' := by
  by_cases hx : ∃ (r : List DIns) (c : Int), (pgB l = true → TgR l r ∧ c = 0) ∧ (pgB l = false → r = [] ∧ c = 1)
  · obtain ⟨R, C, h1, h2⟩ := hx
    refine ⟨R, C, ?_, ?_⟩
    · cases hp : pgB l
      · rw [(h2 hp).1]; exact Nat.zero_le _
      · obtain ⟨bs, ls, _, _, hr⟩ := (h1 hp).1
        have h3 := wtO_len ls (led l) (led l).length
        have h4 := pg_len hp
        rw [hr]
        rw [led_len] at h3 ⊢
        omega
    · rintro w e w' ⟨v, c, r, b, he, hb, ho, hw, k1, k2⟩
      have hrc : r = R ∧ c = C := by
        cases hp : pgB l
        · exact ⟨(k2 hp).1.trans (h2 hp).1.symm, (k2 hp).2.trans (h2 hp).2.symm⟩
        · exact ⟨(k1 hp).1.uniq (h1 hp).1, (k1 hp).2.trans (h1 hp).2.symm⟩
      obtain ⟨rfl, rfl⟩ := hrc
      exact ⟨v, b, he, hb, ho, hw⟩
  · exact ⟨[], 0, Nat.zero_le _, fun w e w' h => by
      obtain ⟨v, c, r, b, he, hb, ho, hw, k1, k2⟩ := h
      exact absurd ⟨r, c, k1, k2⟩ hx⟩
theorem TiB.high {R : List DIns} {C : Int} {w w' : World} {e : Ending} (h : TiB R C w e w') : ∃ v0 b0, e = .returned (.tuple #[v0, .int .i64 C]) ∧ Below w.heap.size w w' ∧ OwnX w' b0 R v0 ∧ w.heap.size ≤ b0 := by
  obtain ⟨v, b, he, hb, ho, hw⟩ := h
  by_cases c0 : 0 < R.length
  · exact ⟨v, b, he, hb, ho, hw c0⟩
  · exact ⟨v, w.heap.size, he, hb, ho.any c0 _, Nat.le_refl _⟩
theorem TiB.low {R : List DIns} {C : Int} {w w' : World} {e : Ending} (h : TiB R C w e w') (c : Nat) (hc : c < w'.heap.size) : ∃ v0 b0, e = .returned (.tuple #[v0, .int .i64 C]) ∧ Below w.heap.size w w' ∧ OwnX w' b0 R v0 ∧ b0 < w'.heap.size := by
  obtain ⟨v, b, he, hb, ho, hw⟩ := h
  by_cases c0 : 0 < R.length
  · exact ⟨v, b, he, hb, ho, ho.lt c0⟩
  · exact ⟨v, c, he, hb, ho.any c0 _, hc⟩
/-- What lies there ahead of the marks. -/
structure LSt (w : World) (l R1 : List DIns) (bx b0 c0 : Nat) (p0 g0 : Value) (Z : World) : Prop where
  x0 : XO Z bx l
  p0 : OwnX Z b0 R1 p0
  g0 : OwnX Z c0 R1 g0
  bel : Below w.heap.size w Z
theorem LSt.still {w : World} {l R1 : List DIns} {bx b0 c0 : Nat} {p0 g0 : Value} {Z Z' : World} (h : LSt w l R1 bx b0 c0 p0 g0 Z) (hb : Below Z.heap.size Z Z') : LSt w l R1 bx b0 c0 p0 g0 Z' :=
  ⟨h.x0.still hb, h.p0.still hb, h.g0.still hb, bel_trans h.bel hb⟩
set_option maxHeartbeats 12800000 in
theorem lawTi {S : Nat → Prop} (l : List DIns) (vl : Value) (w : World) (hl : InsR w S l vl) :
    Calls Try.prog 7 #[vl] w fun e w' => e = .returned (.bool true) ∧ Below w.heap.size w w' := by
  have HSZ := (show Hid _ from szInsR_any l vl w 1048576 hl (Nat.le_refl _))
  have HTX := (show Hid _ from fun w' (hb : Below w.heap.size w w') (hs : InsR.Sm l) => toX_any l vl w' (hl.still hb) hs)
  obtain ⟨R1, C, hRl, hTi⟩ := ti_ex l
  have HSP := (show Hid _ from fun (S1 : Nat → Prop) (y : Value) (w' : World) (h1 : InsR w' S1 l y) => (sTi28 l y w' h1).mono (fun e w2 h => hTi _ _ _ h))
  have HIM := (show Hid _ from fun (S1 : Nat → Prop) (y : Value) (w' : World) (h1 : InsR w' S1 l y) => (iTi l y w' h1).mono (fun e w2 h => hTi _ _ _ h))
  have HRL := (show Hid _ from hRl); clear hRl hTi
  have hneC : ((C : Int) != C) = false := by simp
  obtain ⟨ae, ce, rfl, hem⟩ := hl.form
  unfold maxLen at hem
  clear hl
  go_enter Try.func7, Try.ntmps7
  go_wp2_with fail
  refine Calls.mono HSZ.out ?_
  rintro e w2 ⟨hz, hb2⟩
  rcases hz with rfl | ⟨m1, rfl, _, hsm1⟩
  · go_wp2_with fail
    go_ret
    exact ⟨rfl, hb2⟩
  have HB2 := (show Hid _ from hb2); clear hb2
  have HSM := (show Hid _ from hsm1)
  have hln : l.length ≤ 1048576 := hsm1.1
  clear HSZ hsm1
  go_wp2_with fail
  refine Calls.mono (HTX.out _ HB2.out HSM.out) ?_
  rintro e w4 ⟨bt, rfl, hb4, hW4, _, hlt4⟩
  have HB4 := (show Hid _ from bel_trans HB2.out hb4)
  have H5 := (show Hid _ from HSP.out _ _ w4 (XO.ins hW4))
  have HS4 := (show Hid _ from hlt4)
  clear hb4 hW4 HSP hlt4
  go_wp2_with fail
  refine Calls.mono H5.out ?_
  rintro e w5 h5
  obtain ⟨q0, b0, rfl, hb5, o0, k0⟩ := h5.low bt (by
    obtain ⟨_, _, _, hb, _⟩ := h5
    have h1 := hb.size
    have h2 := HS4.out
    omega)
  obtain ⟨aq0, cq0, rfl, _⟩ := o0.form
  have HB5 := (show Hid _ from bel_trans HB4.out hb5)
  have HQ5 := (show Hid _ from (⟨o0, k0⟩ : _ ∧ _))
  clear h5 H5 hb5 o0 k0 HB2 HB4 HS4
  dsimp only
  go_wp2_with fail
  refine Calls.mono (HTX.out _ HB5.out HSM.out) ?_
  rintro e w8 ⟨bx, rfl, hb6, hW6, hge6, hlt6⟩
  have HX8 := (show Hid (XO w8 bx l ∧ w5.heap.size ≤ bx ∧ bx < w8.heap.size) from ⟨hW6, hge6, hlt6⟩)
  have HQ8 := (show Hid _ from (⟨HQ5.out.1.still hb6, HQ5.out.2⟩ : _ ∧ _))
  have HB8 := (show Hid _ from bel_trans HB5.out hb6)
  have HZ5 := (show Hid _ from HB5.out.size)
  have H9 := (show Hid _ from HIM.out _ _ w8 (XO.ins hW6))
  clear hb6 hW6 HQ5 HB5 hge6 hlt6
  go_wp2_with fail
  refine Calls.mono H9.out ?_
  rintro e w9 h9
  obtain ⟨g0, c0, rfl, hb9, o0, k0⟩ := h9.high
  obtain ⟨ag0, cg0, rfl, _⟩ := o0.form
  have HL9 := (show Hid (LSt w l R1 bx b0 c0 (.slice aq0 R1.length cq0) (.slice ag0 R1.length cg0) w9) from ⟨HX8.out.1.still hb9, HQ8.out.1.still hb9, o0, bel_trans HB8.out hb9⟩)
  have HN := (show Hid _ from (⟨HZ5.out, HX8.out.2.1, HX8.out.2.2, HQ8.out.2, k0, hb9.size⟩ : w.heap.size ≤ w5.heap.size ∧ w5.heap.size ≤ bx ∧ bx < w8.heap.size ∧ b0 < w5.heap.size ∧ w8.heap.size ≤ c0 ∧ w8.heap.size ≤ w9.heap.size))
  clear hb9 o0 k0 h9 H9 HB8 HQ8 HX8 HZ5
  dsimp only
  go_wp2_with fail
  refine Calls.mono (eqInsR_any R1 _ _ _ HL9.out.g0.ins HL9.out.p0.ins) ?_
  rintro e w11 ⟨rfl, hb11⟩
  have HL11 := (show Hid _ from HL9.out.still hb11)
  have HZ11 := (show Hid _ from hb11.size)
  clear hb11
  go_wp2_with fail
  refine Calls.mono (HTX.out _ HL11.out.bel HSM.out) ?_
  rintro e w12 ⟨by1, rfl, hb12, hW12, _, _⟩
  have HL12 := (show Hid _ from HL11.out.still hb12)
  have HZ12 := (show Hid _ from Nat.le_trans HZ11.out hb12.size)
  have HW12 := (show Hid (XO w12 by1 l) from hW12)
  clear hW12 hb12 HL11 HZ11 HL9
  go_wp2_with fail
  refine Calls.mono (eqInsR_any l _ _ w12 HL12.out.x0.ins (XO.ins HW12.out)) ?_
  rintro e w15 ⟨rfl, hb13⟩
  have HL15 := (show Hid _ from HL12.out.still hb13)
  have HZ15 := (show Hid _ from Nat.le_trans HZ12.out hb13.size)
  clear hb13 HL12 HZ12 HW12
  go_wp2_with fail
  refine Calls.mono (markIns_any l.length bx 1 w15 HL15.out.x0.row hln (by omega)) ?_
  rintro e w17 ⟨rfl, ho16⟩
  have HP17 := (show Hid _ from (⟨HL15.out.p0.out ho16 (by have := HN.out; omega), HL15.out.g0.out ho16 (by have := HN.out; omega)⟩ : _ ∧ _))
  have HB17 := (show Hid _ from (⟨out_below HL15.out.bel ho16 (by have := HN.out; omega) HL15.out.bel.size, Nat.le_trans HZ15.out ho16.2.2.2.1⟩ : Below w.heap.size w w17 ∧ w9.heap.size ≤ w17.heap.size))
  clear ho16 HL15 HZ15
  generalize hK : 1 + l.length * 3 = K at *
  have hK0 : ¬ ((K : Int) < 0) := by omega
  clear hK
  go_wp2_with fail
  refine Calls.mono (eqInsR_any R1 _ _ _ HP17.out.2.ins HP17.out.1.ins) ?_
  rintro e w18 ⟨rfl, hb18⟩
  have HP18 := (show Hid _ from (⟨HP17.out.1.still hb18, HP17.out.2.still hb18, bel_trans HB17.out.1 hb18⟩ : OwnX w18 b0 R1 (.slice aq0 R1.length cq0) ∧ OwnX w18 c0 R1 (.slice ag0 R1.length cg0) ∧ Below w.heap.size w w18))
  clear hb18 HP17 HB17
  have hRl : R1.length ≤ 50000 := HRL.out
  have HM0 := (show Hid _ from markX_any R1 c0 1 _ w18 HP18.out.2.1 (by omega) (by omega))
  have HH0 := (show Hid (∀ (Z : World), OwnX Z c0 (cntX 1 R1.length) (.slice ag0 R1.length cg0) → Calls Try.prog 30 #[.slice ag0 R1.length cg0, .int .i64 1] Z fun e w' => e = .returned (.int .i64 (1 + R1.length * 3 : Nat)) ∧ Below Z.heap.size Z w') from fun Z hZ => heldX_any c0 1 R1.length _ Z hZ (by omega) (by omega))
  generalize hN1 : 1 + R1.length * 3 = N1 at *
  have hN10 : ¬ ((N1 : Int) < 0) := by omega
  have hN1n : ((N1 : Int) != N1) = false := by simp
  have hN1' : N1 ≤ 1048577 := by omega
  clear hN1 hRl
  go_wp2_with fail
  refine Calls.mono HM0.out ?_
  rintro e w20 ⟨rfl, ho20, hg20⟩
  have HP20 := (show Hid _ from (⟨HP18.out.1.out ho20 (by have := HN.out; omega), hg20, out_below HP18.out.2.2 ho20 (by have := HN.out; omega) HP18.out.2.2.size⟩ : OwnX w20 b0 R1 (.slice aq0 R1.length cq0) ∧ OwnX w20 c0 (cntX 1 R1.length) (.slice ag0 R1.length cg0) ∧ Below w.heap.size w w20))
  clear ho20 hg20 HP18 HM0
  go_wp2_with fail
  refine Calls.mono (HH0.out _ HP20.out.2.1) ?_
  rintro e w22 ⟨rfl, hb22⟩
  have HX22 := (show Hid _ from hb22); clear hb22
  go_wp2_with fail
  refine Calls.mono (HTX.out _ (bel_trans HP20.out.2.2 HX22.out) HSM.out) ?_
  rintro e w24 ⟨bz1, rfl, hb23, hW23, _, _⟩
  have HX24 := (show Hid _ from bel_trans HX22.out hb23)
  have H25 := (show Hid _ from HIM.out _ _ w24 (XO.ins hW23))
  clear hW23 hb23 HX22
  go_wp2_with fail
  refine Calls.mono H25.out ?_
  rintro e w25 h25
  obtain ⟨z0, s0, rfl, hb25, o0, _⟩ := h25.high
  obtain ⟨_, _, rfl, _⟩ := o0.form
  have HX25 := (show Hid _ from bel_trans HX24.out hb25)
  have HO25 := (show Hid _ from o0)
  clear o0 hb25 h25 H25 HX24
  dsimp only
  go_wp2_with fail
  refine Calls.mono (eqInsR_any R1 _ _ _ (OwnX.ins HO25.out) (OwnX.ins (OwnX.still HP20.out.1 HX25.out))) ?_
  rintro e w27 ⟨rfl, hb27⟩
  have HX27 := (show Hid _ from bel_trans HX25.out hb27); clear hb27 HX25 HO25
  go_wp2_with fail
  refine Calls.mono (HH0.out _ (OwnX.still HP20.out.2.1 HX27.out)) ?_
  rintro e w29 ⟨rfl, hb29⟩
  have HX29 := (show Hid _ from bel_trans HP20.out.2.2 (bel_trans HX27.out hb29)); clear hb29 HX27
  go_wp2_with fail
  go_ret
  exact ⟨rfl, HX29.out⟩
end Go.Proofs.Ytilahbfcobhjeaa
