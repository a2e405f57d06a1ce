import Derived.Test.YtaimlmjgicmbeaaWi
/-! The program: Upwards. -/
namespace Go.Proofs.Ytaimlmjgicmbeaa
open Go.RowKit Go.Deep
set_option linter.unusedVariables false
set_option maxRecDepth 100000
set_option linter.unusedSimpArgs false

theorem upR_len (d : Bn) (non : Int) (L : List Int) : (upR d non L).1.length ≤ 4000 := by
  by_cases hcd : cdR d non L.length = 0
  · obtain ⟨g1, g2, _⟩ := goodR_rd hcd
    rw [upR_rd hcd]
    by_cases hrd : rd d L (L.length + 1) (d.terms.length + non) 0 = some L.length
    · rw [if_pos hrd]
      have := up_len _ _ _ _ hrd
      dsimp only
      omega
    · rw [if_neg hrd]
      exact Nat.zero_le _
  · rw [upR_cd hcd]
    exact Nat.zero_le _
set_option maxHeartbeats 3200000 in
theorem iUp {S : Nat → Prop} (d : Bn) (L : List Int) (v0 v1 v3 vd : Value) (non : Int) (w : World) (h : BLies w S d v0 v1 v3) (hd : Ints w S L vd) (hS : ∀ b, S b → b < w.heap.size) :
    Calls Try.prog 9 #[.agg #[v0, v1, .int .i64 d.own, v3], .int .i64 non, vd] w fun e w' => YAns (upR d non L) w e w' := by
  obtain ⟨r, hr⟩ : ∃ r, upR d non L = r := ⟨_, rfl⟩
  rw [hr]
  have HGR := (show Hid _ from hr)
  clear hr
  have hb0 := bel_alloc w (.cells #[v0, v1, .int .i64 d.own, v3] 34)
  have HCL := (show Hid _ from iReadD d L v0 v1 v3 vd non _ (h.still hb0) (hd.still hb0) (fun b hb => Nat.lt_of_lt_of_le (hS b hb) hb0.size))
  have hx := Box.new w 34 [v0, v1, .int .i64 d.own, v3]
  obtain ⟨a0, c0, a1, c1, a3, c3, rfl, rfl, rfl⟩ := h.form
  obtain ⟨ad, cd, rfl, _⟩ := hd.form
  have HX := (show Hid _ from hx)
  have HB0 := (show Hid _ from hb0)
  have HLB := (show Hid _ from h)
  have HSS := (show Hid _ from hS)
  have x0 := hx.cell 0 (by simp)
  have x1 := hx.cell 1 (by simp)
  have x2 := hx.cell 2 (by simp)
  have x3 := hx.cell 3 (by simp)
  simp only [List.getD_cons_zero, List.getD_cons_succ] at x0 x1 x2 x3
  clear hx h hd hS hb0
  go_enter Try.func9, Try.ntmps9
  go_wp2_with fail
  refine Calls.mono HCL.out ?_
  rintro e w1 ⟨hb1, hc1, hc2⟩
  have HB1 := (show Hid _ from bel_trans HB0.out hb1)
  have HX1 := (show Hid _ from Box.still HX.out hb1)
  clear x0 x1 x2 x3
  by_cases hcd : cdR d non L.length = 0
  · obtain ⟨g1, g2, g3, g4, jk⟩ := goodR_rd hcd
    clear jk
    have g5 := upR_rd hcd
    by_cases hrd : rd d L (L.length + 1) (d.terms.length + non) 0 = some L.length
    · obtain ⟨pv, rfl, hdp⟩ := (hc2 hcd).1 hrd
      rw [if_pos hrd] at g5
      have HR5 := (show Hid _ from HGR.out.symm.trans g5)
      have HGD := (show Hid _ from up_i (B := w1.heap.size) d L g1 (fun q hq => hq.2) (L.length + 1) 0 L.length (d.terms.length + non) _ (.slice none 0 0) [] w1 (DP.top _ _ _ hdp) hrd (Nat.le_refl _) (World.ownsRow_nil _ _ _ _) (by simp; omega))
      have x0 := HX1.out.cell 0 (by simp)
      have x1 := HX1.out.cell 1 (by simp)
      have x2 := HX1.out.cell 2 (by simp)
      have x3 := HX1.out.cell 3 (by simp)
      simp only [List.getD_cons_zero, List.getD_cons_succ] at x0 x1 x2 x3
      clear hc1 hc2 hcd hrd hdp g1 g2 g3 g4 g5 hb1 HCL
      go_wp2_with fail
      refine Calls.mono HGD.out ?_
      rintro e w2 ⟨u2, rfl, hg2, ho2⟩
      rw [List.nil_append] at ho2
      have HB2 := (show Hid _ from bel_trans HB1.out (hg2.below rfl))
      obtain ⟨ka, kc, kb, rfl, _, _⟩ := own_form ho2
      have HO2 := (show Hid _ from ho2)
      clear hg2 ho2 x0 x1 x2 x3 HGD
      generalize up d L (L.length + 1) 0 = W at *
      go_wp2_with fail
      refine bodyPost_ret (v := .tuple #[.slice ka W.length kc, .int .i64 0]) (by simp [results, Try.results9, go_sem]) rfl ?_
      rw [HR5.out]
      exact YAns.of HO2.out HB1.out.size HB2.out
    · obtain rfl := (hc2 hcd).2 hrd
      rw [if_neg hrd] at g5
      have HR5 := (show Hid _ from HGR.out.symm.trans g5)
      clear hc1 hc2 hcd hrd g1 g2 g3 g4 g5 hb1 HCL
      go_wp2_with fail
      refine bodyPost_ret (v := .tuple #[.slice none 0 0, .int .i64 2]) (by simp [results, Try.results9, go_sem]) rfl ?_
      rw [HR5.out]
      exact YAns.nil HB1.out
  · obtain rfl := hc1 hcd
    have HR5 := (show Hid _ from HGR.out.symm.trans (upR_cd hcd))
    have i0 : (cdR d non L.length != 0) = true := by simp [hcd]
    clear hc1 hc2 hb1 HCL
    generalize cdR d non L.length = C at *
    go_wp2_with fail
    refine bodyPost_ret (v := .tuple #[.slice none 0 0, .int .i64 C]) (by simp [results, Try.results9, go_sem]) rfl ?_
    rw [HR5.out]
    exact YAns.nil HB1.out
end Go.Proofs.Ytaimlmjgicmbeaa
