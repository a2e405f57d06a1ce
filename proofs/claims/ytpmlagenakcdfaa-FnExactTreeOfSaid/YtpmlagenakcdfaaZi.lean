import Derived.Test.YtpmlagenakcdfaaZh
/-! The program: TreeOf. -/
namespace Go.Proofs.Ytpmlagenakcdfaa
open Go.RowKit Go.Deep
set_option linter.unusedVariables false
set_option maxRecDepth 100000
set_option linter.unusedSimpArgs false

theorem treR_bad {d : Bn} {L : List Int} {ws : List Wd} (h : (tmR d ws).2.2 ≠ 0 ∨ 4000 < L.length) : treR d L ws = (T.zt, 1) := by
  unfold treR
  rw [if_pos h]
theorem treR_none {d : Bn} {L : List Int} {ws : List Wd} (h : (tmR d ws).2.2 = 0) (hl : L.length ≤ 4000) (hr : ¬ (rd d L (L.length + 1) (d.terms.length + 0) 0 = some L.length ∧ wd d L (L.length + 1) 0 = (tmR d ws).1)) : treR d L ws = (T.zt, 2) := by
  unfold treR
  rw [if_neg (by omega), if_neg hr]
theorem treR_some {d : Bn} {L : List Int} {ws : List Wd} (h : (tmR d ws).2.2 = 0) (hl : L.length ≤ 4000) (hr : rd d L (L.length + 1) (d.terms.length + 0) 0 = some L.length ∧ wd d L (L.length + 1) 0 = (tmR d ws).1) : treR d L ws = (if (trT d L ws).ok = true then (trT d L ws, 0) else (T.zt, 3)) := by
  unfold treR
  rw [if_neg (by omega), if_pos hr]
theorem cdR_zero {d : Bn} {n : Nat} (h : bnB d = true) (hl : n ≤ 4000) : cdR d 0 n = 0 := by
  have hz := szB_of h
  unfold cdR
  rw [if_neg (by rw [h]; simp; omega), if_neg]
  unfold wiB
  simp
  omega
theorem cdR_one {d : Bn} {n : Nat} (hl : 4000 < n) : cdR d 0 n = 1 := by
  unfold cdR
  rw [if_pos (.inr hl)]
/-- A row of Kids, past the block that is made next. -/
theorem GrF.hole {k : List T.Tr} {B : Nat} {v : Value} {w : World} (h : T.Grw k B k.length v w) (o : Obj) : GrF (fun q => q = w.heap.size) k B v (w.alloc o) := by
  have hb := bel_alloc w o
  obtain ⟨fs, l, hh, h1, h2, h3, h4⟩ := h
  refine ⟨fs, l, hh, own_keep1 h1 (fun q hq => hb.block q (World.ownsRow.lt h1 q hq).2), fun i hi => (h2 i hi).still hb, fun i hi => ⟨(h3 i hi).1, by have := (h3 i hi).2.1; have := hb.size; omega, (h3 i hi).2.2⟩, h4, fun q hq => ?_⟩
  subst hq
  refine ⟨by simp, fun e => by have := (World.ownsRow.lt h1 _ e).2; omega, fun i hi => .inr (h3 i hi).2.1⟩
/-- The zero tree and a code. -/
theorem TAn.zero {w w' : World} {C : Int} (hb : Below w.heap.size w w') : TAn (T.zt, C) w (.returned (.tuple #[.agg #[.string ⟨#[]⟩, .string ⟨#[]⟩, .bool false, .slice none 0 0], .int .i64 C])) w' := ⟨none, 0, 0, rfl, hb, T.zt_own _ _ _⟩
set_option maxHeartbeats 25600000 in
theorem iTreeOf {S S' : Nat → Prop} (d : Bn) (L : List Int) (ws : List Wd) (v0 v1 v3 vd vl : Value) (w : World) (h : BLies w S d v0 v1 v3) (hd : Ints w S L vd) (hl : Wds w S' ws vl) (hs : ∀ i (hi : i < ws.length), ws[i].name.size ≤ 1048576 ∧ ws[i].text.size ≤ 1048576 ∧ ws[i].modes.size ≤ 1048576) (hS : ∀ b, S b → b < w.heap.size) (hS' : ∀ b, S' b → b < w.heap.size) :
    Calls Try.prog 21 #[.agg #[v0, v1, .int .i64 d.own, v3], vd, vl] w fun e w' => TAn (treR d L ws) w e w' := by
  obtain ⟨r, hr⟩ : ∃ r, treR d L ws = r := ⟨_, rfl⟩
  rw [hr]
  have HGR := (show Hid _ from hr)
  clear hr
  have HLB := (show Hid _ from h)
  have HDI := (show Hid _ from hd)
  have HWD := (show Hid _ from hl)
  have HSS := (show Hid _ from hS)
  have HSS' := (show Hid _ from hS')
  obtain ⟨a0, c0, a1, c1, a3, c3, rfl, rfl, rfl⟩ := h.form
  obtain ⟨ad, cd, rfl, -⟩ := hd.form
  obtain ⟨al, cl, rfl, -⟩ := hl.form
  obtain ⟨W0, hW0⟩ : ∃ W0, (w.alloc (.cells #[.slice a0 d.terms.length c0, .slice a1 d.nons.length c1, .int .i64 d.own, .slice a3 d.prods.length c3] 34)).alloc (.cells #[.string ⟨#[]⟩, .string ⟨#[]⟩, .bool false, .slice none 0 0] 48) = W0 := ⟨_, rfl⟩
  have hb0 : Below w.heap.size w W0 := by rw [← hW0]; exact bel_trans (bel_alloc _ _) (bel_alloc _ _)
  have hz0 : W0.heap.size = w.heap.size + 2 := by rw [← hW0]; simp
  have hx0 : Box W0 w.heap.size 34 [.slice a0 d.terms.length c0, .slice a1 d.nons.length c1, .int .i64 d.own, .slice a3 d.prods.length c3] := by rw [← hW0]; exact (Box.new w 34 _).still (bel_alloc _ _)
  have hy0 : Box W0 (w.heap.size + 1) 48 [.string ⟨#[]⟩, .string ⟨#[]⟩, .bool false, .slice none 0 0] := by
    rw [← hW0]
    have := Box.new (w.alloc (.cells #[.slice a0 d.terms.length c0, .slice a1 d.nons.length c1, .int .i64 d.own, .slice a3 d.prods.length c3] 34)) 48 [.string ⟨#[]⟩, .string ⟨#[]⟩, .bool false, .slice none 0 0]
    simpa using this
  -- what is known of a world that keeps the first blocks
  have HB := (show Hid (∀ w', (∀ q, q < w.heap.size + 2 → w'.heap[q]? = W0.heap[q]?) → Box w' w.heap.size 34 [.slice a0 d.terms.length c0, .slice a1 d.nons.length c1, .int .i64 d.own, .slice a3 d.prods.length c3] ∧ Box w' (w.heap.size + 1) 48 [.string ⟨#[]⟩, .string ⟨#[]⟩, .bool false, .slice none 0 0]) from fun w' hq => ⟨hx0.keep (hq _ (by omega)), hy0.keep (hq _ (by omega))⟩)
  have HZ0 := (show Hid (Below w.heap.size w W0 ∧ W0.heap.size = w.heap.size + 2) from ⟨hb0, hz0⟩)
  -- what is answered when nothing else comes
  have HZERO := (show Hid (∀ (w' : World) (C : Int), Below W0.heap.size W0 w' → TAn (T.zt, C) w (.returned (.tuple #[.agg #[.string ⟨#[]⟩, .string ⟨#[]⟩, .bool false, .slice none 0 0], .int .i64 C])) ((((w'.setCell ⟨w.heap.size + 1, 0, none⟩ (.string ⟨#[]⟩)).setCell ⟨w.heap.size + 1, 1, none⟩ (.string ⟨#[]⟩)).setCell ⟨w.heap.size + 1, 2, none⟩ (.bool false)).setCell ⟨w.heap.size + 1, 3, none⟩ (.slice none 0 0))) from fun w' C hb => TAn.zero (((((bel_trans hb0 hb).setCell (by show w.heap.size ≤ w.heap.size + 1; omega) _).setCell (by show w.heap.size ≤ w.heap.size + 1; omega) _).setCell (by show w.heap.size ≤ w.heap.size + 1; omega) _).setCell (by show w.heap.size ≤ w.heap.size + 1; omega) _))
  have HTM := (show Hid _ from iTm_any d ws _ _ _ _ W0 (h.still hb0) (hl.still hb0) hs)
  have x0 := hx0.cell 0 (by simp)
  have x1 := hx0.cell 1 (by simp)
  have x2 := hx0.cell 2 (by simp)
  have x3 := hx0.cell 3 (by simp)
  simp only [List.getD_cons_zero, List.getD_cons_succ] at x0 x1 x2 x3
  clear h hd hl hs hS hS' hb0 hz0 hx0 hy0
  go_enter Try.func21, Try.ntmps21
  go_wp2_with fail
  clear hW0
  refine Calls.mono HTM.out ?_
  rintro e w1 h1
  obtain ⟨t0, t1, b0, b1, rfl, hb1, o0, o1, -, -, -⟩ := h1
  obtain ⟨at0, ct0, rfl, -⟩ := o0.form
  obtain ⟨at1, ct1, rfl, -⟩ := o1.form
  have HB1 := (show Hid _ from hb1)
  have HO1 := (show Hid _ from o0)
  obtain ⟨hbx, hby⟩ := HB.out w1 (fun q hq => hb1.block q (by have := HZ0.out.2; omega))
  have y0 := hby.cell 0 (by simp)
  have y1 := hby.cell 1 (by simp)
  have y2 := hby.cell 2 (by simp)
  have y3 := hby.cell 3 (by simp)
  have f0 := hby.frozen 0
  have f1 := hby.frozen 1
  have f2 := hby.frozen 2
  have f3 := hby.frozen 3
  simp only [List.getD_cons_zero, List.getD_cons_succ] at y0 y1 y2 y3
  clear x0 x1 x2 x3 o0 o1 hb1 HTM
  by_cases hc : (tmR d ws).2.2 = 0
  · obtain ⟨hok, hwl⟩ := tmR_ok hc
    have HRD := (show Hid _ from iReadD d L _ _ _ _ 0 w1 (HLB.out.still (bel_trans HZ0.out.1 HB1.out)) (Ints.still HDI.out (bel_trans HZ0.out.1 HB1.out)) (fun b hb => Nat.lt_of_lt_of_le (HSS.out b hb) (bel_trans HZ0.out.1 HB1.out).size))
    have x0 := hbx.cell 0 (by simp)
    have x1 := hbx.cell 1 (by simp)
    have x2 := hbx.cell 2 (by simp)
    have x3 := hbx.cell 3 (by simp)
    simp only [List.getD_cons_zero, List.getD_cons_succ] at x0 x1 x2 x3
    have HC := (show Hid _ from hc)
    have HOKH := (show Hid (bnB d = true ∧ ws.length ≤ 1000) from ⟨hok, hwl⟩)
    rw [hc]
    generalize hTM : (tmR d ws).1 = TM at *
    have HTE := (show Hid _ from hTM)
    clear hTM
    clear hc hbx hby y0 y1 y2 y3 f0 f1 f2 f3
    go_wp2_with fail
    refine Calls.mono HRD.out ?_
    rintro e w2 ⟨hb2, hc1, hc2⟩
    have HB2 := (show Hid (Below W0.heap.size W0 w2) from bel_trans HB1.out hb2)
    obtain ⟨hbx, hby⟩ := HB.out w2 (fun q hq => HB2.out.block q (by have := HZ0.out.2; omega))
    have y0 := hby.cell 0 (by simp)
    have y1 := hby.cell 1 (by simp)
    have y2 := hby.cell 2 (by simp)
    have y3 := hby.cell 3 (by simp)
    have f0 := hby.frozen 0
    have f1 := hby.frozen 1
    have f2 := hby.frozen 2
    have f3 := hby.frozen 3
    simp only [List.getD_cons_zero, List.getD_cons_succ] at y0 y1 y2 y3
    clear x0 x1 x2 x3 HRD
    by_cases hL : L.length ≤ 4000
    · have hcd := cdR_zero (n := L.length) hok hL
      by_cases hrd : rd d L (L.length + 1) (d.terms.length + 0) 0 = some L.length
      · obtain ⟨pv, rfl, hdp⟩ := (hc2 hcd).1 hrd
        have hdp2 := DP.top _ _ _ hdp
        have HWI := (show Hid _ from word_i (B := w2.heap.size) d L hok (fun q hq => Nat.lt_of_lt_of_le (HSS.out q hq) (bel_trans HZ0.out.1 HB2.out).size) (fun q hq => hq.2) (L.length + 1) 0 L.length (d.terms.length + 0) _ _ _ _ (.slice none 0 0) [] w2 (HLB.out.still (bel_trans HZ0.out.1 HB2.out)) hdp2 hrd (Nat.le_refl _) (World.ownsRow_nil _ _ _ _) (by simp; omega))
        have x0 := hbx.cell 0 (by simp)
        have x1 := hbx.cell 1 (by simp)
        have x2 := hbx.cell 2 (by simp)
        have x3 := hbx.cell 3 (by simp)
        simp only [List.getD_cons_zero, List.getD_cons_succ] at x0 x1 x2 x3
        have HDP := (show Hid (DP d L w2 (fun q => w1.heap.size ≤ q ∧ q < w2.heap.size) (L.length + 1) 0 (.pointer pv)) from hdp2)
        have HHRD := (show Hid _ from hrd)
        clear hc1 hc2 hcd hrd hdp hdp2 hbx hby y0 y1 y2 y3 f0 f1 f2 f3
        go_wp2_with fail
        refine Calls.mono HWI.out ?_
        rintro e w3 ⟨u3, rfl, hg3, ho3⟩
        rw [List.nil_append] at ho3
        obtain ⟨WD, hWD⟩ : ∃ WD, wd d L (L.length + 1) 0 = WD := ⟨_, rfl⟩
        rw [hWD] at ho3
        have HWDE := (show Hid _ from hWD)
        clear hWD
        obtain ⟨ka3, kc3, kb3, rfl, -, -⟩ := own_form ho3
        obtain ⟨b3, hoi3, -⟩ := own_ints ho3
        have hb3 := hg3.below rfl
        have HSM := (show Hid _ from same_i WD TM _ _ w3 hoi3.ints (OwnI.ints (OwnI.still HO1.out (bel_trans hb2 hb3))))
        have hA3 : Below W0.heap.size W0 w3 := bel_trans HB2.out hb3
        have HB3 : Hid (Below W0.heap.size W0 w3 ∧ Below w2.heap.size w2 w3) := ⟨hA3, hb3⟩
        clear hA3 hg3 ho3 hoi3 hb3 x0 x1 x2 x3 HWI
        go_wp2_with fail
        refine Calls.mono HSM.out ?_
        rintro e w4 ⟨rfl, hb4⟩
        have hA4 : Below W0.heap.size W0 w4 := bel_trans HB3.out.1 hb4
        have hA5 : Below w2.heap.size w2 w4 := bel_trans HB3.out.2 hb4
        have HB4 : Hid (Below W0.heap.size W0 w4 ∧ Below w2.heap.size w2 w4) := ⟨hA4, hA5⟩
        obtain ⟨hbx, hby⟩ := HB.out w4 (fun q hq => HB4.out.1.block q (by have := HZ0.out.2; omega))
        clear hb4 HB3 HSM hA4 hA5
        by_cases heq : WD = TM
        · have hdq : decide (WD = TM) = true := by simp [heq]
          rw [hdq]
          have HR := (show Hid _ from HGR.out.symm.trans (treR_some HC.out hL ⟨HHRD.out, HWDE.out.trans (heq.trans HTE.out.symm)⟩))
          have x0 := hbx.cell 0 (by simp)
          have x1 := hbx.cell 1 (by simp)
          have x2 := hbx.cell 2 (by simp)
          have x3 := hbx.cell 3 (by simp)
          simp only [List.getD_cons_zero, List.getD_cons_succ] at x0 x1 x2 x3
          have hbw4 : Below w.heap.size w w4 := bel_trans HZ0.out.1 HB4.out.1
          have hba := bel_alloc w4 (.cells #[.slice a0 d.terms.length c0, .slice a1 d.nons.length c1, .int .i64 d.own, .slice a3 d.prods.length c3, .slice al ws.length cl] 96)
          have hz4 : w.heap.size + 2 ≤ w4.heap.size := by have h1 := HB4.out.1.size; have h2 := HZ0.out.2; omega
          have htw : TwI d S S' w4.heap.size (.slice a0 d.terms.length c0) (.slice a1 d.nons.length c1) (.slice a3 d.prods.length c3) (w4.alloc (.cells #[.slice a0 d.terms.length c0, .slice a1 d.nons.length c1, .int .i64 d.own, .slice a3 d.prods.length c3, .slice al ws.length cl] 96)) ws := ⟨⟨_, Box.new w4 96 [.slice a0 d.terms.length c0, .slice a1 d.nons.length c1, .int .i64 d.own, .slice a3 d.prods.length c3, .slice al ws.length cl], Wds.still HWD.out (bel_trans hbw4 hba)⟩, HLB.out.still (bel_trans hbw4 hba), fun b hb => Nat.lt_of_lt_of_le (HSS.out b hb) hbw4.size, fun b hb => Nat.lt_of_lt_of_le (HSS'.out b hb) hbw4.size⟩
          have hdp5 := DP.keep (w' := w4.alloc (.cells #[.slice a0 d.terms.length c0, .slice a1 d.nons.length c1, .int .i64 d.own, .slice a3 d.prods.length c3, .slice al ws.length cl] 96)) (K := fun q => w1.heap.size ≤ q ∧ q < w2.heap.size) (fun q _ hq => (bel_trans HB4.out.2 hba).block q hq) (L.length + 1) 0 (.pointer pv) HDP.out
          have hKR : ∀ q, (w1.heap.size ≤ q ∧ q < w2.heap.size) → q < w4.heap.size := fun q hq => by have := HB4.out.2.size; omega
          have HND := (show Hid _ from node_i hok L.length 0 L.length (d.terms.length + 0) _ ws _ htw hdp5 HHRD.out hKR (fun W hW hDW => by
            have h1 := kids_i hok hKR (L.length + 1) 0 L.length _ _ (.slice none 0 0) ws [] W W.heap.size hW hDW HHRD.out hW.lt (Nat.le_refl _) (T.Grw.nil _ _ _) (by simp; omega)
            simpa [kdf] using h1))
          have HBW4 := (show Hid _ from hbw4)
          have HZ4 := (show Hid _ from hz4)
          clear hdq heq htw hdp5 hba hbw4 hz4 hbx hKR HDP hby
          go_wp2_with fail
          refine Calls.mono HND.out ?_
          rintro e w6 ⟨u6, rfl, hk6, ht6, ho6, B6, hB1, hB2, hg6⟩
          obtain ⟨au, mu, cu, rfl⟩ := hg6.form
          have hz5 : (w4.alloc (.cells #[.slice a0 d.terms.length c0, .slice a1 d.nons.length c1, .int .i64 d.own, .slice a3 d.prods.length c3, .slice al ws.length cl] 96)).heap.size = w4.heap.size + 1 := by simp
          rw [hz5] at hk6 hB1
          have hlen6 : (kd d L L.length 0 ws).1.length + (kd d L L.length 0 ws).2.length ≤ 1000000 := by
            have e1 : atP d L L.length 0 (pa d L 0).right.length = some L.length := (rd_succ HHRD.out).2
            have h1 := (tp_len (ws := ws) e1).2
            have h2 := hwl
            show (tp d L L.length 0 (pa d L 0).right.length ws).1.length + (tp d L L.length 0 (pa d L 0).right.length ws).2.length ≤ 1000000
            omega
          have hba6 := bel_alloc w6 (.cells #[.string (ndN d (pa d L 0)), .string ByteArray.empty, .bool false, .slice au mu cu] 48)
          have HLV := (show Hid _ from leaves_i (F := fun q => q = w6.heap.size) (R := w4.heap.size) (B := B6) (fun q hq => by have := hk6.size; omega) d (kd d L L.length 0 ws).2 (kd d L L.length 0 ws).1 (.slice au mu cu) _ (ht6.still hba6) (by omega) (by have := hba6.size; omega) (GrF.hole hg6 _) hlen6)
          have hbX6 := Box.new w6 48 [.string (ndN d (pa d L 0)), .string ByteArray.empty, .bool false, .slice au mu cu]
          have q3 := hbX6.cell 3 (by simp)
          simp only [List.getD_cons_zero, List.getD_cons_succ] at q3
          have HNS6 := (show Hid ((ndN d (pa d L 0)).size ≤ maxLen) from by
            obtain ⟨_, _, _, _, _, _, _, hh, _⟩ := ho6.out
            exact hh)
          have HK6 := (show Hid (∀ q, q < w4.heap.size → (w6.alloc (.cells #[.string (ndN d (pa d L 0)), .string ByteArray.empty, .bool false, .slice au mu cu] 48)).heap[q]? = w4.heap[q]?) from fun q hq => by
            rw [hba6.block q (by have := hk6.size; omega), hk6.block q (by omega) (by omega)]
            exact Below.heap_alloc _ _ _ hq)
          have HOT := (show Hid ((w6.alloc (.cells #[.string (ndN d (pa d L 0)), .string ByteArray.empty, .bool false, .slice au mu cu] 48)).os = w4.os ∧ (w6.alloc (.cells #[.string (ndN d (pa d L 0)), .string ByteArray.empty, .bool false, .slice au mu cu] 48)).tape = w4.tape ∧ (w6.alloc (.cells #[.string (ndN d (pa d L 0)), .string ByteArray.empty, .bool false, .slice au mu cu] 48)).output = w4.output) from ⟨hk6.os, hk6.tape, hk6.output⟩)
          have HB6 := (show Hid (w4.heap.size + 1 ≤ B6 ∧ B6 ≤ w6.heap.size) from ⟨hB1, hB2⟩)
          have HBX6 := (show Hid _ from hbX6)
          clear hk6 ht6 ho6 hg6 hB1 hB2 hz5 hlen6 hba6 hbX6 HND x0 x1 x2 x3
          go_wp2_with fail
          refine Calls.mono HLV.out ?_
          rintro e w8 ⟨u8, rfl, hL8⟩
          obtain ⟨a8, m8, c8, rfl⟩ := hL8.gr.form
          have hbX : Box w8 w6.heap.size 48 [.string (ndN d (pa d L 0)), .string ByteArray.empty, .bool false, .slice au mu cu] := HBX6.out.keep (hL8.kf _ rfl)
          have hgf9 := hL8.gf.carry (w' := w8.setCell ⟨w6.heap.size, 3, none⟩ (.slice a8 m8 c8)) (by simp [World.setCell]) (fun q _ _ hf => Below.heap_setCell _ _ _ _ (by show q ≠ w6.heap.size; exact hf)) (fun _ _ _ _ => trivial)
          have hown9 := T.Grw.done (n := ndN d (pa d L 0)) (x := ByteArray.empty) (le := false) hgf9.grw HNS6.out (by show (0 : Nat) ≤ _; exact Nat.zero_le _)
          have HOW9 := (show Hid (T.Own (w8.setCell ⟨w6.heap.size, 3, none⟩ (.slice a8 m8 c8)) B6 (w8.setCell ⟨w6.heap.size, 3, none⟩ (.slice a8 m8 c8)).heap.size (trT d L ws) (.slice a8 m8 c8)) from hown9)
          have HIOK := (show Hid (Calls Try.prog 57 #[.agg #[.string (ndN d (pa d L 0)), .string ByteArray.empty, .bool false, .slice a8 m8 c8]] (w8.setCell ⟨w6.heap.size, 3, none⟩ (.slice a8 m8 c8)) fun e w' => e = .returned (.bool (trT d L ws).ok) ∧ Below (w8.setCell ⟨w6.heap.size, 3, none⟩ (.slice a8 m8 c8)).heap.size (w8.setCell ⟨w6.heap.size, 3, none⟩ (.slice a8 m8 c8)) w') from T.iOK_any (trT d L ws) (.slice a8 m8 c8) _ (T.Own.lies hown9))
          have hkw8 : ∀ q, q < w4.heap.size → (w8.setCell ⟨w6.heap.size, 3, none⟩ (.slice a8 m8 c8)).heap[q]? = w4.heap[q]? := fun q hq => by
            rw [Below.heap_setCell _ _ _ _ (by show q ≠ w6.heap.size; have := HB6.out; omega), hL8.kp.block q (by have := HB6.out; omega) (by omega), HK6.out q hq]
          have HBEL9 := (show Hid (Below w4.heap.size w4 (w8.setCell ⟨w6.heap.size, 3, none⟩ (.slice a8 m8 c8))) from ⟨hL8.kp.os.trans HOT.out.1, hL8.kp.tape.trans HOT.out.2.1, hL8.kp.output.trans HOT.out.2.2, by have h1 := hL8.kp.size; have h2 := HB6.out; simp [World.setCell] at h1 ⊢; omega, hkw8⟩)
          have HBX9 := (show Hid (Box (w8.setCell ⟨w6.heap.size, 3, none⟩ (.slice a8 m8 c8)) w6.heap.size 48 [.string (ndN d (pa d L 0)), .string ByteArray.empty, .bool false, .slice a8 m8 c8]) from hbX.set 3 _)
          have q0 : w8.cell? ⟨w6.heap.size, 0, none⟩ = some (.string (ndN d (pa d L 0))) := hbX.cell 0 (by simp)
          have q1 : w8.cell? ⟨w6.heap.size, 1, none⟩ = some (.string ByteArray.empty) := hbX.cell 1 (by simp)
          have q2 : w8.cell? ⟨w6.heap.size, 2, none⟩ = some (.bool false) := hbX.cell 2 (by simp)
          have q3' : w8.cell? ⟨w6.heap.size, 3, none⟩ = some (.slice au mu cu) := hbX.cell 3 (by simp)
          have fz3 : w8.frozen? ⟨w6.heap.size, 3, none⟩ = false := hbX.frozen 3
          clear hL8 hbX hgf9 hown9 hkw8 HLV q3 HNS6 HK6 HOT HBX6
          go_wp2_with fail
          refine Calls.mono HIOK.out ?_
          rintro e w10 ⟨rfl, hb10⟩
          have HB10 := (show Hid (Below w4.heap.size w4 w10) from bel_trans HBEL9.out hb10)
          obtain ⟨_, hby⟩ := HB.out w10 (fun q hq => (HB10.out.block q (by have := HZ4.out; omega)).trans (HB4.out.1.block q (by have := HZ0.out.2; omega)))
          have hbX := HBX9.out.still hb10
          have hown10 := T.Own.still HOW9.out hb10
          have y0 := hby.cell 0 (by simp)
          have y1 := hby.cell 1 (by simp)
          have y2 := hby.cell 2 (by simp)
          have y3 := hby.cell 3 (by simp)
          have f0 := hby.frozen 0
          have f1 := hby.frozen 1
          have f2 := hby.frozen 2
          have f3 := hby.frozen 3
          simp only [List.getD_cons_zero, List.getD_cons_succ] at y0 y1 y2 y3
          have p0 : w10.cell? ⟨w6.heap.size, 0, none⟩ = some (.string (ndN d (pa d L 0))) := hbX.cell 0 (by simp)
          have p1 : w10.cell? ⟨w6.heap.size, 1, none⟩ = some (.string ByteArray.empty) := hbX.cell 1 (by simp)
          have p2 : w10.cell? ⟨w6.heap.size, 2, none⟩ = some (.bool false) := hbX.cell 2 (by simp)
          have p3 : w10.cell? ⟨w6.heap.size, 3, none⟩ = some (.slice a8 m8 c8) := hbX.cell 3 (by simp)
          by_cases hk : (trT d L ws).ok = true
          · have HR2 := (show Hid _ from HR.out.trans (if_pos hk))
            have HF : Hid (TAn (trT d L ws, 0) w (.returned (.tuple #[.agg #[.string (ndN d (pa d L 0)), .string ByteArray.empty, .bool false, .slice a8 m8 c8], .int .i64 0])) ((((w10.setCell ⟨w.heap.size + 1, 0, none⟩ (.string (ndN d (pa d L 0)))).setCell ⟨w.heap.size + 1, 1, none⟩ (.string ByteArray.empty)).setCell ⟨w.heap.size + 1, 2, none⟩ (.bool false)).setCell ⟨w.heap.size + 1, 3, none⟩ (.slice a8 m8 c8))) := by
              have hlo : w.heap.size + 2 ≤ B6 := by have h1 := HB6.out; have h2 := HZ4.out; omega
              refine ⟨a8, m8, c8, rfl, ((((bel_trans HBW4.out HB10.out).setCell (by show w.heap.size ≤ w.heap.size + 1; omega) _).setCell (by show w.heap.size ≤ w.heap.size + 1; omega) _).setCell (by show w.heap.size ≤ w.heap.size + 1; omega) _).setCell (by show w.heap.size ≤ w.heap.size + 1; omega) _, ?_⟩
              have h1 := (((hown10.past (g := w.heap.size + 1) (o := 0) (u := .string (ndN d (pa d L 0))) (.inl (by omega))).past (g := w.heap.size + 1) (o := 1) (u := .string ByteArray.empty) (.inl (by omega))).past (g := w.heap.size + 1) (o := 2) (u := .bool false) (.inl (by omega))).past (g := w.heap.size + 1) (o := 3) (u := .slice a8 m8 c8) (.inl (by omega))
              exact h1.keep (by omega) (by have h2 := hb10.size; simp [World.setCell] at h2 ⊢; omega) (fun _ _ _ _ => rfl)
            rw [hk]
            clear hby hbX hown10 HOW9 HB HIOK q0 q1 q2 q3' fz3
            go_wp2_with fail
            refine bodyPost_ret (v := .tuple #[.agg #[.string (ndN d (pa d L 0)), .string ByteArray.empty, .bool false, .slice a8 m8 c8], .int .i64 0]) (by simp [results, Try.results21, go_sem, y0, y1, y2, y3, f0, f1, f2, f3]) rfl ?_
            rw [HR2.out]
            exact HF.out
          · have HR2 := (show Hid _ from HR.out.trans (if_neg hk))
            have hkf : (trT d L ws).ok = false := by cases e : (trT d L ws).ok; rfl; exact absurd e hk
            have HF := (show Hid _ from HZERO.out w10 3 (bel_trans HB4.out.1 HB10.out))
            rw [hkf]
            clear hby hbX hown10 HOW9 HB HIOK q0 q1 q2 q3' fz3
            go_wp2_with fail
            refine bodyPost_ret (v := .tuple #[.agg #[.string ⟨#[]⟩, .string ⟨#[]⟩, .bool false, .slice none 0 0], .int .i64 3]) (by simp [results, Try.results21, go_sem, y0, y1, y2, y3, f0, f1, f2, f3]) rfl ?_
            rw [HR2.out]
            exact HF.out
        · have hdq : decide (WD = TM) = false := by simp [heq]
          rw [hdq]
          have HR := (show Hid _ from HGR.out.symm.trans (treR_none HC.out hL (fun hh => heq (HWDE.out.symm.trans (hh.2.trans HTE.out)))))
          have HF := (show Hid _ from HZERO.out w4 2 HB4.out.1)
          have y0 := hby.cell 0 (by simp)
          have y1 := hby.cell 1 (by simp)
          have y2 := hby.cell 2 (by simp)
          have y3 := hby.cell 3 (by simp)
          have f0 := hby.frozen 0
          have f1 := hby.frozen 1
          have f2 := hby.frozen 2
          have f3 := hby.frozen 3
          simp only [List.getD_cons_zero, List.getD_cons_succ] at y0 y1 y2 y3
          clear hbx hby HB hdq heq
          go_wp2_with fail
          refine bodyPost_ret (v := .tuple #[.agg #[.string ⟨#[]⟩, .string ⟨#[]⟩, .bool false, .slice none 0 0], .int .i64 2]) (by simp [results, Try.results21, go_sem, y0, y1, y2, y3, f0, f1, f2, f3]) rfl ?_
          rw [HR.out]
          exact HF.out
      · obtain rfl := (hc2 hcd).2 hrd
        have HR := (show Hid _ from HGR.out.symm.trans (treR_none HC.out hL (fun hh => hrd hh.1)))
        have HF := (show Hid _ from HZERO.out w2 2 HB2.out)
        clear hc1 hc2 hcd hrd hbx hby HB
        go_wp2_with fail
        refine bodyPost_ret (v := .tuple #[.agg #[.string ⟨#[]⟩, .string ⟨#[]⟩, .bool false, .slice none 0 0], .int .i64 2]) (by simp [results, Try.results21, go_sem, y0, y1, y2, y3, f0, f1, f2, f3]) rfl ?_
        rw [HR.out]
        exact HF.out
    · have hcd := cdR_one (d := d) (n := L.length) (by omega)
      have hce := hc1 (by rw [hcd]; decide)
      rw [hcd] at hce
      obtain rfl := hce
      have HR := (show Hid _ from HGR.out.symm.trans (treR_bad (.inr (by omega))))
      have HF := (show Hid _ from HZERO.out w2 1 HB2.out)
      clear hc1 hc2 hcd hbx hby HB
      go_wp2_with fail
      refine bodyPost_ret (v := .tuple #[.agg #[.string ⟨#[]⟩, .string ⟨#[]⟩, .bool false, .slice none 0 0], .int .i64 1]) (by simp [results, Try.results21, go_sem, y0, y1, y2, y3, f0, f1, f2, f3]) rfl ?_
      rw [HR.out]
      exact HF.out
  · have i0 : ((tmR d ws).2.2 != 0) = true := by simp [hc]
    have HR := (show Hid _ from HGR.out.symm.trans (treR_bad (.inl hc)))
    have HF := (show Hid _ from HZERO.out w1 1 HB1.out)
    generalize (tmR d ws).2.2 = C at *
    clear hbx hby HB
    go_wp2_with fail
    refine bodyPost_ret (v := .tuple #[.agg #[.string ⟨#[]⟩, .string ⟨#[]⟩, .bool false, .slice none 0 0], .int .i64 1]) (by simp [results, Try.results21, go_sem, y0, y1, y2, y3, f0, f1, f2, f3]) rfl ?_
    rw [HR.out]
    exact HF.out
end Go.Proofs.Ytpmlagenakcdfaa
