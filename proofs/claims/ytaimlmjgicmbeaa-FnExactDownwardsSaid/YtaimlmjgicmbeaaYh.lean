import Derived.Test.YtaimlmjgicmbeaaWs
import Derived.Test.YtaimlmjgicmbeaaYg
/-! The specification: Upwards. -/
namespace Go.Proofs.Ytaimlmjgicmbeaa
open Go.RowKit Go.Deep
set_option linter.unusedVariables false
set_option maxRecDepth 100000
set_option linter.unusedSimpArgs false

set_option maxHeartbeats 3200000 in
theorem sUp {S : Nat → Prop} (d : Bn) (L : List Int) (v0 v1 v3 vd : Value) (non : Int) (w : World) (h : BLies w S d v0 v1 v3) (hd : Ints w S L vd) (hS : ∀ b, S b → b < w.heap.size) :
    Calls Try.prog 6 #[.agg #[v0, v1, .int .i64 d.own, v3], .int .i64 non, vd] w fun e w' => YAns (upR d non L) w e w' := by
  obtain ⟨r, hr⟩ : ∃ r, upR d non L = r := ⟨_, rfl⟩
  rw [hr]
  have HGR := (show Hid _ from hr)
  clear hr
  have hb0 := bel_alloc w (.cells #[v0, v1, .int .i64 d.own, v3] 34)
  obtain ⟨ad, cd, rfl, hdm⟩ := hd.form
  have HCD := (show Hid _ from codes_s d v0 v1 v3 non ad L.length cd _ (h.still hb0) hdm)
  have HSR := (show Hid _ from fun (w' : World) (hb : Below w.heap.size w w') (h1 : bnB d = true) (h2 : L.length ≤ 4000) (h3 : 0 ≤ non) (h4 : non < (d.nons.length : Int)) => sRead d L v0 v1 v3 (.slice ad L.length cd) non w' h1 h2 (h.still hb) (hd.still hb) (fun b hb2 => Nat.lt_of_lt_of_le (hS b hb2) hb.size) h3 h4)
  have hx := Box.new w 34 [v0, v1, .int .i64 d.own, v3]
  obtain ⟨a0, c0, a1, c1, a3, c3, rfl, rfl, rfl⟩ := h.form
  have HX := (show Hid _ from hx)
  have HB0 := (show Hid _ from hb0)
  have HLB := (show Hid _ from h)
  have x0 := hx.cell 0 (by simp)
  have x1 := hx.cell 1 (by simp)
  have x2 := hx.cell 2 (by simp)
  have x3 := hx.cell 3 (by simp)
  simp only [List.getD_cons_zero, List.getD_cons_succ] at x0 x1 x2 x3
  clear hx h hd hS hb0
  go_enter Try.func6, Try.ntmps6
  go_wp2_with fail
  refine Calls.mono HCD.out ?_
  rintro e w1 ⟨rfl, hb1⟩
  have HB1 := (show Hid _ from bel_trans HB0.out hb1)
  have HX1 := (show Hid _ from Box.still HX.out hb1)
  clear x0 x1 x2 x3 hb1 HCD
  by_cases hcd : cdR d non L.length = 0
  · obtain ⟨g1, g2, g3, g4, jk⟩ := goodR_rd hcd
    clear jk
    have g5 := upR_rd hcd
    have HSX := (show Hid _ from HSR.out w1 HB1.out g1 g2 g3 g4)
    have HOK := (show Hid _ from (⟨g1, g2⟩ : _ ∧ _))
    have HG5 := (show Hid _ from HGR.out.symm.trans g5)
    have x0 := HX1.out.cell 0 (by simp)
    have x1 := HX1.out.cell 1 (by simp)
    have x2 := HX1.out.cell 2 (by simp)
    have x3 := HX1.out.cell 3 (by simp)
    simp only [List.getD_cons_zero, List.getD_cons_succ] at x0 x1 x2 x3
    rw [hcd]
    clear hcd g1 g2 g3 g4 g5 HSR
    go_wp2_with fail
    refine Calls.mono HSX.out ?_
    rintro e w2 ⟨hb2, hy, hn⟩
    have HB2 := (show Hid _ from bel_trans HB1.out hb2)
    have HX2 := (show Hid _ from Box.still HX1.out hb2)
    clear x0 x1 x2 x3 hb2 HSX
    by_cases hrd : rd d L (L.length + 1) (d.terms.length + non) 0 = some L.length
    · obtain ⟨p, q, c, rfl, hsp⟩ := hy hrd
      have HR5 := (show Hid _ from HG5.out.trans (if_pos hrd))
      have hb3 := bel_alloc w2 (.cells #[.int .i64 (numAt L 0), .slice p q c] 48)
      have HB3 := (show Hid _ from bel_trans HB2.out hb3)
      have HGD := (show Hid _ from up_s d L HOK.out.1 (L.length + 1) 0 L.length (d.terms.length + non) _ _ (SP.keep (fun t _ ht => hb3.block t ht) _ _ _ hsp) hrd (by have := HOK.out.2; omega))
      have hbx := Box.still HX2.out hb3
      have hbo := Box.new w2 48 [.int .i64 (numAt L 0), .slice p q c]
      have x0 := hbx.cell 0 (by simp)
      have x1 := hbx.cell 1 (by simp)
      have x2 := hbx.cell 2 (by simp)
      have x3 := hbx.cell 3 (by simp)
      have t0 := hbo.cell 0 (by simp)
      have t1 := hbo.cell 1 (by simp)
      simp only [List.getD_cons_zero, List.getD_cons_succ] at x0 x1 x2 x3 t0 t1
      clear hy hn hrd hsp hb3 hbx hbo HG5
      go_wp2_with fail
      refine Calls.mono HGD.out ?_
      rintro e w4 ⟨g4, c4, rfl, hb4, ho4⟩
      have HB4 := (show Hid _ from bel_trans HB3.out hb4)
      have HO4 := (show Hid _ from ho4)
      clear hb4 ho4 x0 x1 x2 x3 t0 t1 HGD
      generalize up d L (L.length + 1) 0 = W at *
      go_wp2_with fail
      refine bodyPost_ret (v := .tuple #[.slice (some ⟨g4, 0, none⟩) W.length c4, .int .i64 0]) (by simp [results, Try.results6, go_sem]) rfl ?_
      rw [HR5.out]
      exact YAns.of HO4.out HB3.out.size HB4.out
    · obtain ⟨n, p, q, c, rfl⟩ := hn hrd
      have HR5 := (show Hid _ from HG5.out.trans (if_neg hrd))
      have HB3 := (show Hid _ from bel_trans (bel_trans HB2.out (bel_alloc w2 (.cells #[.int .i64 n, .slice p q c] 48))) (bel_alloc _ (.cells #[] 3)))
      clear hy hn hrd HG5
      go_wp2_with fail
      refine bodyPost_ret (v := .tuple #[.slice (some ⟨w2.heap.size + 1, 0, none⟩) 0 0, .int .i64 2]) (by simp [results, Try.results6, go_sem]) rfl ?_
      rw [HR5.out]
      exact YAns.nil HB3.out
  · have HR5 := (show Hid _ from HGR.out.symm.trans (upR_cd hcd))
    have i0 : (cdR d non L.length != 0) = true := by simp [hcd]
    have HB2 := (show Hid _ from bel_trans HB1.out (bel_alloc w1 (.cells #[] 3)))
    clear HSR
    generalize cdR d non L.length = C at *
    go_wp2_with fail
    refine bodyPost_ret (v := .tuple #[.slice (some ⟨w1.heap.size, 0, none⟩) 0 0, .int .i64 C]) (by simp [results, Try.results6, go_sem]) rfl ?_
    rw [HR5.out]
    exact YAns.nil HB2.out
end Go.Proofs.Ytaimlmjgicmbeaa
