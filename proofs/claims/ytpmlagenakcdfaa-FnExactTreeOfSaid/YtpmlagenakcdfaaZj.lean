import Derived.Test.YtpmlagenakcdfaaZi
import Derived.Test.YtpmlagenakcdfaaYc
import Derived.Test.YtpmlagenakcdfaaDi
/-! The specification: TreeOf. -/
namespace Go.Proofs.Ytpmlagenakcdfaa
open Go.RowKit Go.Deep
set_option linter.unusedVariables false
set_option maxRecDepth 100000
set_option linter.unusedSimpArgs false

theorem SP.top {d : Bn} {L : List Int} {w : World} {K : Nat → Prop} : ∀ (f a : Nat) (v : Value), SP d L w K f a v → SP d L w (fun q => K q ∧ q < w.heap.size) f a v
  | 0, _, _, h => h
  | f + 1, a, v, h => by
    obtain ⟨kb, kc, ka, sv, ats, h1, h2, h3, h4⟩ := h
    refine ⟨kb, kc, ka, sv, ats, h1, h2, fun h0 => ⟨(h3 h0).1, (h3 h0).2, ?_⟩, fun i hi => ⟨(h4 i hi).1, fun hn => ⟨((h4 i hi).2 hn).1, ((h4 i hi).2 hn).2.1, SP.top f _ _ ((h4 i hi).2 hn).2.2⟩⟩⟩
    unfold cn at h0
    rw [List.countP_pos_iff] at h0
    obtain ⟨s, hs, hd⟩ := h0
    obtain ⟨i, hi, rfl⟩ := List.getElem_of_mem hs
    exact lt_of_cell ((h4 i hi).2 (by simpa using hd)).1
/-- Past a block that is none of theirs. -/
theorem SGs.past {w : World} {B : Nat} {k : List T.Tr} {g c : Nat} {fs : Nat → Value} {K : Nat → Prop} (h : SGs w B k g c fs K) {r o : Nat} (u : Value) (hg : r ≠ g) (hK : ∀ q, K q → q ≠ r) : SGs (w.setCell ⟨r, o, none⟩ u) B k g c fs K :=
  ⟨own_keep1 h.own (fun q hq => by
      have e : g = q := by simpa [Value.ownBlock] using hq
      exact Below.heap_setCell _ _ _ _ (by show q ≠ r; omega)), fun i hi => (h.lies i hi).keep (fun q hq => Below.heap_setCell _ _ _ _ (hK q hq)), fun q hq => ⟨(h.kk q hq).1, by have := (h.kk q hq).2.1; simpa [World.setCell] using this, (h.kk q hq).2.2⟩⟩
theorem TAn.ln {R : T.Tr × Int} {w w' : World} {e : Ending} (h : TAn R w e w') : TLn R w e w' := by
  obtain ⟨a, m, c, h1, h2, h3⟩ := h
  exact ⟨a, m, c, h1, h2, h3.lies⟩
theorem ndN_size {w : World} {S : Nat → Prop} {d : Bn} {v0 v1 v3 : Value} (h : BLies w S d v0 v1 v3) {p : Pd} (hp : p.label.size ≤ maxLen) : (ndN d p).size ≤ maxLen := by
  unfold ndN
  split
  · obtain ⟨an, cn', bn, on, hvn, hcn, hmn, han, hcelln⟩ := h.nons
    rw [List.getD_eq_getElem?_getD]
    by_cases hi : (p.left - d.terms.length).toNat < d.nons.length
    · rw [List.getElem?_eq_getElem hi]
      exact (hcelln _ hi).2
    · rw [List.getElem?_eq_none (by omega)]
      exact Nat.zero_le _
  · exact hp
/-- The tree, by the words that are Skip at the end. -/
theorem trT_sks {d : Bn} {L : List Int} {ws : List Wd} (h : nsk (kd d L L.length 0 ws).2 = 0) : trT d L ws = ⟨ndN d (pa d L 0), ByteArray.empty, false, (kd d L L.length 0 ws).1 ++ (sks (kd d L L.length 0 ws).2).1⟩ := by
  unfold trT
  rw [(lvs_sks _).2 ((sks_nsk _).2.2 h)]
set_option maxHeartbeats 25600000 in
theorem sTreeOf {S S' : Nat → Prop} (d : Bn) (L : List Int) (ws : List Wd) (v0 v1 v3 vd vl : Value) (w : World) (h : BLies w S d v0 v1 v3) (hd : Ints w S L vd) (hl : Wds w S' ws vl) (hs : ∀ i (hi : i < ws.length), ws[i].name.size ≤ 1048576 ∧ ws[i].text.size ≤ 1048576 ∧ ws[i].modes.size ≤ 1048576) (hS : ∀ b, S b → b < w.heap.size) (hS' : ∀ b, S' b → b < w.heap.size) :
    Calls Try.prog 19 #[.agg #[v0, v1, .int .i64 d.own, v3], vd, vl] w fun e w' => TLn (treR d L ws) w e w' := by
  obtain ⟨r, hr⟩ : ∃ r, treR d L ws = r := ⟨_, rfl⟩
  rw [hr]
  have HGR := (show Hid _ from hr)
  clear hr
  have HLB := (show Hid _ from h)
  have HDI := (show Hid _ from hd)
  have HWD := (show Hid _ from hl)
  have HSS := (show Hid _ from hS)
  have HSS' := (show Hid _ from hS')
  obtain ⟨a0, c0, a1, c1, a3, c3, rfl, rfl, rfl⟩ := h.form
  obtain ⟨ad, cd, rfl, -⟩ := hd.form
  obtain ⟨al, cl, rfl, -⟩ := hl.form
  obtain ⟨W0, hW0⟩ : ∃ W0, (w.alloc (.cells #[.slice a0 d.terms.length c0, .slice a1 d.nons.length c1, .int .i64 d.own, .slice a3 d.prods.length c3] 34)).alloc (.cells #[.string ⟨#[]⟩, .string ⟨#[]⟩, .bool false, .slice none 0 0] 48) = W0 := ⟨_, rfl⟩
  have hb0 : Below w.heap.size w W0 := by rw [← hW0]; exact bel_trans (bel_alloc _ _) (bel_alloc _ _)
  have hz0 : W0.heap.size = w.heap.size + 2 := by rw [← hW0]; simp
  have hx0 : Box W0 w.heap.size 34 [.slice a0 d.terms.length c0, .slice a1 d.nons.length c1, .int .i64 d.own, .slice a3 d.prods.length c3] := by rw [← hW0]; exact (Box.new w 34 _).still (bel_alloc _ _)
  have hy0 : Box W0 (w.heap.size + 1) 48 [.string ⟨#[]⟩, .string ⟨#[]⟩, .bool false, .slice none 0 0] := by
    rw [← hW0]
    have := Box.new (w.alloc (.cells #[.slice a0 d.terms.length c0, .slice a1 d.nons.length c1, .int .i64 d.own, .slice a3 d.prods.length c3] 34)) 48 [.string ⟨#[]⟩, .string ⟨#[]⟩, .bool false, .slice none 0 0]
    simpa using this
  -- what is known of a world that keeps the first blocks
  have HB := (show Hid (∀ w', (∀ q, q < w.heap.size + 2 → w'.heap[q]? = W0.heap[q]?) → Box w' w.heap.size 34 [.slice a0 d.terms.length c0, .slice a1 d.nons.length c1, .int .i64 d.own, .slice a3 d.prods.length c3] ∧ Box w' (w.heap.size + 1) 48 [.string ⟨#[]⟩, .string ⟨#[]⟩, .bool false, .slice none 0 0]) from fun w' hq => ⟨hx0.keep (hq _ (by omega)), hy0.keep (hq _ (by omega))⟩)
  have HZ0 := (show Hid (Below w.heap.size w W0 ∧ W0.heap.size = w.heap.size + 2) from ⟨hb0, hz0⟩)
  -- what is answered when nothing else comes
  have HZERO := (show Hid (∀ (w' : World) (C : Int), Below W0.heap.size W0 w' → TLn (T.zt, C) w (.returned (.tuple #[.agg #[.string ⟨#[]⟩, .string ⟨#[]⟩, .bool false, .slice none 0 0], .int .i64 C])) ((((w'.setCell ⟨w.heap.size + 1, 0, none⟩ (.string ⟨#[]⟩)).setCell ⟨w.heap.size + 1, 1, none⟩ (.string ⟨#[]⟩)).setCell ⟨w.heap.size + 1, 2, none⟩ (.bool false)).setCell ⟨w.heap.size + 1, 3, none⟩ (.slice none 0 0))) from fun w' C hb => TAn.ln (TAn.zero (((((bel_trans hb0 hb).setCell (by show w.heap.size ≤ w.heap.size + 1; omega) _).setCell (by show w.heap.size ≤ w.heap.size + 1; omega) _).setCell (by show w.heap.size ≤ w.heap.size + 1; omega) _).setCell (by show w.heap.size ≤ w.heap.size + 1; omega) _)))
  have HTM := (show Hid _ from sTm_any d ws _ _ _ _ W0 (h.still hb0) (hl.still hb0) hs)
  have x0 := hx0.cell 0 (by simp)
  have x1 := hx0.cell 1 (by simp)
  have x2 := hx0.cell 2 (by simp)
  have x3 := hx0.cell 3 (by simp)
  simp only [List.getD_cons_zero, List.getD_cons_succ] at x0 x1 x2 x3
  clear h hd hl hs hS hS' hb0 hz0 hx0 hy0
  go_enter Try.func19, Try.ntmps19
  go_wp2_with fail
  clear hW0
  refine Calls.mono HTM.out ?_
  rintro e w1 h1
  obtain ⟨t0, t1, b0, b1, rfl, hb1, o0, o1, -, -, -⟩ := h1
  obtain ⟨at0, ct0, rfl, -⟩ := o0.form
  obtain ⟨at1, ct1, rfl, -⟩ := o1.form
  have HB1 := (show Hid _ from hb1)
  have HO1 := (show Hid _ from o0)
  obtain ⟨hbx, hby⟩ := HB.out w1 (fun q hq => hb1.block q (by have := HZ0.out.2; omega))
  have y0 := hby.cell 0 (by simp)
  have y1 := hby.cell 1 (by simp)
  have y2 := hby.cell 2 (by simp)
  have y3 := hby.cell 3 (by simp)
  have f0 := hby.frozen 0
  have f1 := hby.frozen 1
  have f2 := hby.frozen 2
  have f3 := hby.frozen 3
  simp only [List.getD_cons_zero, List.getD_cons_succ] at y0 y1 y2 y3
  clear x0 x1 x2 x3 o0 o1 hb1 HTM
  by_cases hc : (tmR d ws).2.2 = 0
  · by_cases hL : L.length ≤ 4000
    · obtain ⟨hok, hwl⟩ := tmR_ok hc
      have hnk := tmR_nsk hc
      have hno := szB_of hok
      have HRD := (show Hid _ from sRead d L _ _ _ _ 0 w1 hok hL (HLB.out.still (bel_trans HZ0.out.1 HB1.out)) (Ints.still HDI.out (bel_trans HZ0.out.1 HB1.out)) (fun b hb => Nat.lt_of_lt_of_le (HSS.out b hb) (bel_trans HZ0.out.1 HB1.out).size) (Int.le_refl _) (by omega))
      have HOWN := (show Hid (1 ≤ d.own) from hno.2.2.2.1)
      have x0 := hbx.cell 0 (by simp)
      have x1 := hbx.cell 1 (by simp)
      have x2 := hbx.cell 2 (by simp)
      have x3 := hbx.cell 3 (by simp)
      simp only [List.getD_cons_zero, List.getD_cons_succ] at x0 x1 x2 x3
      have HC := (show Hid _ from hc)
      rw [hc]
      have i0 : ¬ (4000 : Int) < (L.length : Int) := by omega
      generalize hTM : (tmR d ws).1 = TM at *
      have HTE := (show Hid ((tmR d ws).1 = TM ∧ TM.length = nsk ws) from ⟨hTM, hnk⟩)
      clear hc hbx hby y0 y1 y2 y3 f0 f1 f2 f3 hTM hnk hno
      go_wp2_with fail
      refine Calls.mono HRD.out ?_
      rintro e w2 ⟨hb2, hy, hn⟩
      have hB2 : Below W0.heap.size W0 w2 := bel_trans HB1.out hb2
      have HB2 := (show Hid (Below W0.heap.size W0 w2) from hB2)
      have HB12 := (show Hid (Below w1.heap.size w1 w2) from hb2)
      clear x0 x1 x2 x3 HRD hb2
      by_cases hrd : rd d L (L.length + 1) (d.terms.length + 0) 0 = some L.length
      · obtain ⟨p, q, c, rfl, hsp⟩ := hy hrd
        have hsp2 := SP.top _ _ _ hsp
        have hba2 := bel_alloc w2 (.cells #[.int .i64 (numAt L 0), .slice p q c] 64)
        have hB3 : Below W0.heap.size W0 (w2.alloc (.cells #[.int .i64 (numAt L 0), .slice p q c] 64)) := bel_trans hB2 hba2
        have hsp3 := SP.keep (w' := w2.alloc (.cells #[.int .i64 (numAt L 0), .slice p q c] 64)) (fun t _ ht => hba2.block t ht) _ _ _ hsp2
        have HGD := (show Hid _ from word_s d L hok (L.length + 1) 0 L.length (d.terms.length + 0) _ _ _ _ _ (HLB.out.still (bel_trans HZ0.out.1 hB3)) hsp3 hrd (by omega))
        obtain ⟨hbx, hby⟩ := HB.out _ (fun q hq => hB3.block q (by have := HZ0.out.2; omega))
        have hbo := Box.new w2 64 [.int .i64 (numAt L 0), .slice p q c]
        have x0 := hbx.cell 0 (by simp)
        have x1 := hbx.cell 1 (by simp)
        have x2 := hbx.cell 2 (by simp)
        have x3 := hbx.cell 3 (by simp)
        simp only [List.getD_cons_zero, List.getD_cons_succ] at x0 x1 x2 x3
        have t0 := hbo.cell 0 (by simp)
        have t1 := hbo.cell 1 (by simp)
        simp only [List.getD_cons_zero, List.getD_cons_succ] at t0 t1
        have HSP := (show Hid (SP d L (w2.alloc (.cells #[.int .i64 (numAt L 0), .slice p q c] 64)) (fun t => w1.heap.size ≤ t ∧ t < w2.heap.size) (L.length + 1) 0 (.slice p q c)) from hsp3)
        have HHRD := (show Hid _ from hrd)
        have HB3 := (show Hid (Below W0.heap.size W0 (w2.alloc (.cells #[.int .i64 (numAt L 0), .slice p q c] 64))) from hB3)
        have HBO := (show Hid _ from hbo)
        clear hy hn hrd hsp hsp2 hsp3 hba2 hbx hby hB2 hB3 hbo
        go_wp2_with fail
        refine Calls.mono HGD.out ?_
        rintro e w4 ⟨g4, c4, rfl, hb4, ho4⟩
        obtain ⟨WD, hWD⟩ : ∃ WD, wd d L (L.length + 1) 0 = WD := ⟨_, rfl⟩
        rw [hWD] at ho4
        rw [hWD]
        have HWDE := (show Hid _ from hWD)
        clear hWD
        obtain ⟨b4, hoi4, -⟩ := own_ints ho4
        have hba2 := bel_alloc w2 (.cells #[.int .i64 (numAt L 0), .slice p q c] 64)
        have h14 : Below w1.heap.size w1 w4 := bel_trans (bel_trans HB12.out hba2) hb4
        have HSM := (show Hid _ from same_s WD TM _ _ w4 hoi4.ints (OwnI.ints (OwnI.still HO1.out h14)))
        have hB4 : Below W0.heap.size W0 w4 := bel_trans HB3.out hb4
        have HB4 := (show Hid (Below W0.heap.size W0 w4) from hB4)
        have HB34 := (show Hid (Below (w2.alloc (.cells #[.int .i64 (numAt L 0), .slice p q c] 64)).heap.size (w2.alloc (.cells #[.int .i64 (numAt L 0), .slice p q c] 64)) w4) from hb4)
        clear hb4 ho4 hoi4 h14 hB4 hba2 x0 x1 x2 x3 t0 t1 HGD
        go_wp2_with fail
        refine Calls.mono HSM.out ?_
        rintro e w5 ⟨rfl, hb5⟩
        have hB5 : Below W0.heap.size W0 w5 := bel_trans HB4.out hb5
        have hB35 : Below (w2.alloc (.cells #[.int .i64 (numAt L 0), .slice p q c] 64)).heap.size (w2.alloc (.cells #[.int .i64 (numAt L 0), .slice p q c] 64)) w5 := bel_trans HB34.out hb5
        have HB5 := (show Hid (Below W0.heap.size W0 w5) from hB5)
        have HB35 := (show Hid (Below (w2.alloc (.cells #[.int .i64 (numAt L 0), .slice p q c] 64)).heap.size (w2.alloc (.cells #[.int .i64 (numAt L 0), .slice p q c] 64)) w5) from hB35)
        obtain ⟨hbx, hby⟩ := HB.out w5 (fun q hq => hB5.block q (by have := HZ0.out.2; omega))
        clear hb5 hB5 hB35 HB4 HB34 HSM
        by_cases heq : WD = TM
        · have hdq : decide (WD = TM) = true := by simp [heq]
          rw [hdq]
          have HR := (show Hid _ from HGR.out.symm.trans (treR_some HC.out hL ⟨HHRD.out, HWDE.out.trans (heq.trans HTE.out.1.symm)⟩))
          have x0 := hbx.cell 0 (by simp)
          have x1 := hbx.cell 1 (by simp)
          have x2 := hbx.cell 2 (by simp)
          have x3 := hbx.cell 3 (by simp)
          simp only [List.getD_cons_zero, List.getD_cons_succ] at x0 x1 x2 x3
          have hbw5 : Below w.heap.size w w5 := bel_trans HZ0.out.1 HB5.out
          have hba := bel_alloc w5 (.cells #[.slice a0 d.terms.length c0, .slice a1 d.nons.length c1, .int .i64 d.own, .slice a3 d.prods.length c3, .slice al ws.length cl, .int .i64 0] 89)
          have hz5 : w.heap.size + 2 ≤ w5.heap.size := by have h1 := HB5.out.size; have h2 := HZ0.out.2; omega
          have hbw6 : Below w.heap.size w (w5.alloc (.cells #[.slice a0 d.terms.length c0, .slice a1 d.nons.length c1, .int .i64 d.own, .slice a3 d.prods.length c3, .slice al ws.length cl, .int .i64 0] 89)) := bel_trans hbw5 hba
          have htg : TgI d S S' w5.heap.size (.slice a0 d.terms.length c0) (.slice a1 d.nons.length c1) (.slice a3 d.prods.length c3) (.slice al ws.length cl) ws (w5.alloc (.cells #[.slice a0 d.terms.length c0, .slice a1 d.nons.length c1, .int .i64 d.own, .slice a3 d.prods.length c3, .slice al ws.length cl, .int .i64 0] 89)) 0 := ⟨Box.new w5 89 [.slice a0 d.terms.length c0, .slice a1 d.nons.length c1, .int .i64 d.own, .slice a3 d.prods.length c3, .slice al ws.length cl, .int .i64 0], Wds.still HWD.out hbw6, HLB.out.still hbw6, fun b hb => Nat.lt_of_lt_of_le (HSS.out b hb) hbw5.size, fun b hb => Nat.lt_of_lt_of_le (HSS'.out b hb) hbw5.size, Nat.zero_le _⟩
          have hz35 := HB35.out.size
          have hz3 : (w2.alloc (.cells #[.int .i64 (numAt L 0), .slice p q c] 64)).heap.size = w2.heap.size + 1 := by simp
          have hsp6 := SP.keep (K := fun t => w1.heap.size ≤ t ∧ t < w2.heap.size) (w' := w5.alloc (.cells #[.slice a0 d.terms.length c0, .slice a1 d.nons.length c1, .int .i64 d.own, .slice a3 d.prods.length c3, .slice al ws.length cl, .int .i64 0] 89)) (fun q _ hq => (bel_trans HB35.out hba).block q hq) (L.length + 1) 0 (.slice p q c) HSP.out
          have hKR : ∀ q, (w1.heap.size ≤ q ∧ q < w2.heap.size) → q < w5.heap.size := fun q hq => by omega
          have HGV := (show Hid _ from give_s hok hwl hKR (L.length + 1) 0 L.length (d.terms.length + 0) (.slice p q c) _ 0 htg hsp6 HHRD.out (by omega) (by rw [List.drop_zero, HWDE.out, heq]; exact Nat.le_of_eq HTE.out.2))
          have t0 : (w5.alloc (.cells #[.slice a0 d.terms.length c0, .slice a1 d.nons.length c1, .int .i64 d.own, .slice a3 d.prods.length c3, .slice al ws.length cl, .int .i64 0] 89)).cell? ⟨w2.heap.size, 0, none⟩ = some (.int .i64 (numAt L 0)) := ((HBO.out.still HB35.out).still hba).cell 0 (by simp)
          have t1 : (w5.alloc (.cells #[.slice a0 d.terms.length c0, .slice a1 d.nons.length c1, .int .i64 d.own, .slice a3 d.prods.length c3, .slice al ws.length cl, .int .i64 0] 89)).cell? ⟨w2.heap.size, 1, none⟩ = some (.slice p q c) := ((HBO.out.still HB35.out).still hba).cell 1 (by simp)
          have HBW5 := (show Hid (Below w.heap.size w w5) from hbw5)
          have HZ5 := (show Hid (w.heap.size + 2 ≤ w5.heap.size) from hz5)
          have HNS := (show Hid (nsk (kd d L L.length 0 ws).2 = 0) from by
            have h1 := (tp_nsk (ws := ws) (rd_succ HHRD.out).2).1
            have h2 := wp_all d L L.length 0
            have h3 : (wd d L (L.length + 1) 0).length = nsk ws := by rw [HWDE.out, heq]; exact HTE.out.2
            rw [← h2] at h3
            show nsk (tp d L L.length 0 (pa d L 0).right.length ws).2 = 0
            omega)
          have HGD0 := (show Hid ((gv d L (L.length + 1) 0 ws).2 = (kd d L L.length 0 ws).2 ∧ (pa d L 0).left - d.terms.length < d.own) from by
            obtain ⟨k, hk, _, hpa, hleft, _⟩ := okAt_prod (rd_succ HHRD.out).1
            have h1 : (pa d L 0).left - d.terms.length < d.own := by
              have h2 := HOWN.out
              rw [hpa, hleft]
              omega
            refine ⟨?_, h1⟩
            rw [gv_succ, if_pos h1])
          have HKL := (show Hid ((kd d L L.length 0 ws).1.length + (kd d L L.length 0 ws).2.length ≤ 1000000) from by
            have e1 : atP d L L.length 0 (pa d L 0).right.length = some L.length := (rd_succ HHRD.out).2
            have h1 := (tp_len (ws := ws) e1).2
            have h2 := hwl
            show (tp d L L.length 0 (pa d L 0).right.length ws).1.length + (tp d L L.length 0 (pa d L 0).right.length ws).2.length ≤ 1000000
            omega)
          have HWL := (show Hid _ from hwl)
          obtain ⟨i48, hi48, hzz⟩ := Option.map_eq_some_iff.1 info48y
          simp only [Prod.mk.injEq] at hzz
          have HZZ := (show Hid _ from hzz)
          have HI48 := (show Hid _ from hi48)
          clear hzz hi48 hdq heq htg hsp6 hbx hby hKR hba hbw5 hbw6 hz5 hz35 hz3 HSP HBO
          go_wp2_with fail
          refine Calls.mono HGV.out ?_
          rintro e w7 ⟨u7, t7, rfl, hk7, ht7, hd7, -, hsn⟩
          rw [List.drop_zero] at hd7 hsn
          obtain ⟨g, c7, gn, fs, K7, rfl, hsg, hbn, hgn, hgs⟩ := hsn HGD0.out.2
          rw [HGD0.out.1] at hd7
          have hz6 : (w5.alloc (.cells #[.slice a0 d.terms.length c0, .slice a1 d.nons.length c1, .int .i64 d.own, .slice a3 d.prods.length c3, .slice al ws.length cl, .int .i64 0] 89)).heap.size = w5.heap.size + 1 := by simp
          rw [hz6] at hsg hk7
          have hsg : SGs w7 (w5.heap.size + 1) (kd d L L.length 0 ws).1 g c7 fs K7 := hsg
          have hbn : Box w7 gn 48 [.string (ndN d (pa d L 0)), .string ⟨#[]⟩, .bool false, .slice (some ⟨g, 0, none⟩) (kd d L L.length 0 ws).1.length c7] := hbn
          have HTR := (show Hid _ from trT_sks HNS.out)
          rw [← hd7] at HTR
          obtain ⟨kk, hkk⟩ : ∃ kk, (kd d L L.length 0 ws).1 = kk := ⟨_, rfl⟩
          rw [hkk] at hsg hbn HTR HKL
          obtain ⟨SL, hSL⟩ : ∃ SL, (sks (ws.drop t7)).1 = SL := ⟨_, rfl⟩
          rw [hSL] at HTR
          have hSLl : SL.length ≤ 1000 := by
            have h1 := sks_len (ws.drop t7)
            have h2 : (ws.drop t7).length ≤ ws.length := by simp
            rw [hSL] at h1
            have h3 := HWL.out
            omega
          have hkkl : kk.length ≤ 1000000 := by have := HKL.out; omega
          obtain ⟨nm, hnm⟩ : ∃ nm, ndN d (pa d L 0) = nm := ⟨_, rfl⟩
          rw [hnm] at hbn HTR
          have hnms : Hid (nm.size ≤ maxLen) := by
            rw [← hnm]
            obtain ⟨k, hk, _, hpa, hleft, _⟩ := okAt_prod (rd_succ HHRD.out).1
            exact ndN_size HLB.out (by rw [hpa]; exact lab_size HLB.out hk)
          have n0 := hbn.cell 0 (by simp)
          have n1 := hbn.cell 1 (by simp)
          have n2 := hbn.cell 2 (by simp)
          have n3 := hbn.cell 3 (by simp)
          simp only [List.getD_cons_zero, List.getD_cons_succ] at n0 n1 n2 n3
          have hba7 := bel_alloc w7 (.cells #[.string nm, .string ⟨#[]⟩, .bool false, .slice (some ⟨g, 0, none⟩) kk.length c7] 48)
          have ht8 := ht7.still hba7
          have HSK := (show Hid _ from skips_s d ws t7 (w7.alloc (.cells #[.string nm, .string ⟨#[]⟩, .bool false, .slice (some ⟨g, 0, none⟩) kk.length c7] 48)).drew (ht8.keep (fun _ _ => rfl)) HWL.out)
          have hb8 := Box.new w7 48 [.string nm, .string ⟨#[]⟩, .bool false, .slice (some ⟨g, 0, none⟩) kk.length c7]
          have hsg8 := hsg.keep hba7.size (fun q _ hq => hba7.block q hq)
          have hR7 := ht7.box.lt
          have HSL := (show Hid _ from hSL)
          have HSG8 := (show Hid _ from hsg8)
          have HSG7 := (show Hid _ from hsg)
          have HB8 := (show Hid _ from hb8)
          have hgl := hsg.lt
          have HK7 := (show Hid (Kp (w5.heap.size + 1) w5.heap.size (w5.alloc (.cells #[.slice a0 d.terms.length c0, .slice a1 d.nons.length c1, .int .i64 d.own, .slice a3 d.prods.length c3, .slice al ws.length cl, .int .i64 0] 89)) w7) from hk7)
          have hz7 : w5.heap.size + 1 ≤ w7.heap.size := by have := hk7.size; omega
          have HB57 := (show Hid (Below w5.heap.size w5 w7) from ⟨hk7.os, hk7.tape, hk7.output, by omega, fun q hq => (hk7.block q (by omega) (by omega)).trans (Below.heap_alloc _ _ _ hq)⟩)
          have hf8 := hb8.frozen 3
          have hc8 := hb8.cell 3 (by simp)
          simp only [List.getD_cons_zero, List.getD_cons_succ] at hc8
          have HT7 := (show Hid _ from ht7)
          clear hk7 ht7 ht8 hd7 hsg hsg8 hbn hba7 hb8 hkk hSL hnm hsn x0 x1 x2 x3 t0 t1 HGV
          go_upto_region 9 with fail
          clear n0 n1 n2 n3
          have hi48 := HI48.out
          obtain ⟨hz0, hz1, hz2⟩ := HZZ.out
          go_region_law (first
            | (refine step_append_g _ rfl (.tmp 57) (.tmp 59) 46 rfl (w5.heap.size + 1) 48 i48 _ 4 64 Try.underlying46 hi48 hz0 hz1 hz2 rfl (by decide) g c7 kk.length (T.kc kk fs kk.length) (by simp [Act.eval, Act.put]) HO9.out.own ⟨g9, 0, none⟩ SL.length c9 (T.kc SL fs9 SL.length) (by simp [Act.eval, Act.put]) (T.kc_len _ _ _) HS9.out.cells HS9.out.one (by unfold maxLen; omega) (by omega) (by omega) ?_; intro g10 c10 w10 hown10 hgr10 hat10; have B10 := B9.keep (hgr10.block _ (by omega) (fun e => by injection e with e; omega)); have V10 := B10.cell 3 (by simp); simp only [List.getD_cons_zero, List.getD_cons_succ] at V10; have f10 := B10.frozen 3)
            | (go_simp; go_at_call 50; refine Calls.mono HSK.out ?_; rintro e w9 ⟨u9, t9, rfl, hk9, ht9, hd9, fs9, K9, g9, c9, rfl, hs9⟩; rw [HSL.out] at hs9; rw [HSL.out]; have hs9' : w7.heap.size + 1 ≤ w9.heap.size := (by have := hk9.size; simpa using this); have B9 : Box w9 w7.heap.size 48 [.string nm, .string ⟨#[]⟩, .bool false, .slice (some ⟨g, 0, none⟩) kk.length c7] := HB8.out.keep (hk9.block _ (by simp) (by omega)); have V9 := B9.cell 3 (by simp); simp only [List.getD_cons_zero, List.getD_cons_succ] at V9; have HO9 := (show Hid _ from HSG8.out.keep (w' := w9) (by have := hk9.size; simpa using this) (fun q hq1 hq2 => hk9.block q (by simpa using hq2) (by omega))); have HS9 := (show Hid _ from hs9); have HK9 := (show Hid _ from hk9); clear hk9 ht9 hd9 hs9))
          all_goals
            have hsj := HO9.out.join HS9.out (by simp; omega) (by simp; omega) hown10 hgr10 (hat10.imp (fun e => by injection e) id)
            have hgne : w7.heap.size ≠ g10 := by
              rcases hat10 with e | e
              · injection e with e; omega
              · omega
            have hs11 := hsj.past (r := w7.heap.size) (o := 3) (.slice (some ⟨g10, 0, none⟩) (kk.length + SL.length) c10) hgne (fun q hq => by
              rcases hq with hq | hq
              · have := (HSG7.out.kk q hq).2.1; omega
              · have := (HS9.out.kk q hq).1; simp at this; omega)
            have hb11 : Box (w10.setCell ⟨w7.heap.size, 3, none⟩ (.slice (some ⟨g10, 0, none⟩) (kk.length + SL.length) c10)) w7.heap.size 48 [.string nm, .string ⟨#[]⟩, .bool false, (.slice (some ⟨g10, 0, none⟩) (kk.length + SL.length) c10)] := B10.set 3 (.slice (some ⟨g10, 0, none⟩) (kk.length + SL.length) c10)
            have hl11 : T.Lies (w10.setCell ⟨w7.heap.size, 3, none⟩ (.slice (some ⟨g10, 0, none⟩) (kk.length + SL.length) c10)) (fun q => (K7 q ∨ K9 q) ∨ q = g10) (trT d L ws) (.slice (some ⟨g10, 0, none⟩) (kk.length + SL.length) c10) := by
              rw [HTR.out]
              have := hs11.node nm ByteArray.empty false hnms.out (by show (0 : Nat) ≤ _; exact Nat.zero_le _)
              rw [List.length_append] at this
              exact this
            have HIOK : Hid (Calls Try.prog 51 #[.agg #[.string nm, .string ⟨#[]⟩, .bool false, .slice (some ⟨g10, 0, none⟩) (kk.length + SL.length) c10]] (w10.setCell ⟨w7.heap.size, 3, none⟩ (.slice (some ⟨g10, 0, none⟩) (kk.length + SL.length) c10)) fun e w' => e = .returned (.bool (trT d L ws).ok) ∧ Below (w10.setCell ⟨w7.heap.size, 3, none⟩ (.slice (some ⟨g10, 0, none⟩) (kk.length + SL.length) c10)).heap.size (w10.setCell ⟨w7.heap.size, 3, none⟩ (.slice (some ⟨g10, 0, none⟩) (kk.length + SL.length) c10)) w') := by
              have h := T.sOK_any (trT d L ws) _ _ hl11
              have e : (trT d L ws).val (.slice (some ⟨g10, 0, none⟩) (kk.length + SL.length) c10) = .agg #[.string nm, .string ⟨#[]⟩, .bool false, .slice (some ⟨g10, 0, none⟩) (kk.length + SL.length) c10] := by rw [HTR.out]; rfl
              rw [e] at h
              exact h
            have HKQ := (show Hid (∀ q, ((K7 q ∨ K9 q) ∨ q = g10) → w5.heap.size + 1 ≤ q ∧ q < (w10.setCell ⟨w7.heap.size, 3, none⟩ (.slice (some ⟨g10, 0, none⟩) (kk.length + SL.length) c10)).heap.size) from fun q hq => by
              rcases hq with hq | rfl
              · exact ⟨(hs11.kk q hq).1, (hs11.kk q hq).2.1⟩
              · exact hs11.lt)
            have hB9 : Below w5.heap.size w5 w9 := ⟨HK9.out.os.trans HB57.out.os, HK9.out.tape.trans HB57.out.tape, HK9.out.output.trans HB57.out.output, by omega, fun q hq => (HK9.out.block q (by simp; omega) (by omega)).trans ((Below.heap_alloc _ _ _ (by omega)).trans (HB57.out.block q hq))⟩
            have hB10 : Below w5.heap.size w5 w10 := ⟨hgr10.os.trans hB9.os, hgr10.tape.trans hB9.tape, hgr10.output.trans hB9.output, by have := hgr10.size; omega, fun q hq => (hgr10.block q (by omega) (fun e => by injection e with e; omega)).trans (hB9.block q hq)⟩
            have HB11 := (show Hid (Below w5.heap.size w5 (w10.setCell ⟨w7.heap.size, 3, none⟩ (.slice (some ⟨g10, 0, none⟩) (kk.length + SL.length) c10))) from hB10.setCell (p := ⟨w7.heap.size, 3, none⟩) (by show w5.heap.size ≤ w7.heap.size; omega) (.slice (some ⟨g10, 0, none⟩) (kk.length + SL.length) c10))
            have HL11 := (show Hid _ from hl11)
            have HBX11 := (show Hid _ from hb11)
            have V0 := B10.cell 0 (by simp)
            have V1 := B10.cell 1 (by simp)
            have V2 := B10.cell 2 (by simp)
            simp only [List.getD_cons_zero, List.getD_cons_succ] at V0 V1 V2
            clear hsj hs11 hb11 hl11 hB9 hB10 hown10 hgr10 hat10 B10 B9 V9 hc8 hf8 hz0 hz1 hz2 hi48 HSK HO9 HS9 HK9
            go_wp2_with fail
            refine Calls.mono HIOK.out ?_
            rintro e w12 ⟨rfl, hb12⟩
            have hB12 : Below w5.heap.size w5 w12 := HB11.out.trans (hb12.mono HB11.out.size)
            have hbX := HBX11.out.still hb12
            have hl12 := T.Lies.still HL11.out hb12
            obtain ⟨_, hby⟩ := HB.out w12 (fun q hq => (hB12.block q (by have := HZ5.out; omega)).trans (HB5.out.block q (by have := HZ0.out.2; omega)))
            have y0 := hby.cell 0 (by simp)
            have y1 := hby.cell 1 (by simp)
            have y2 := hby.cell 2 (by simp)
            have y3 := hby.cell 3 (by simp)
            have f0 := hby.frozen 0
            have f1 := hby.frozen 1
            have f2 := hby.frozen 2
            have f3 := hby.frozen 3
            simp only [List.getD_cons_zero, List.getD_cons_succ] at y0 y1 y2 y3
            have p0 := hbX.cell 0 (by simp)
            have p1 := hbX.cell 1 (by simp)
            have p2 := hbX.cell 2 (by simp)
            have p3 := hbX.cell 3 (by simp)
            simp only [List.getD_cons_zero, List.getD_cons_succ] at p0 p1 p2 p3
            by_cases hk : (trT d L ws).ok = true
            · have HR2 := (show Hid _ from HR.out.trans (if_pos hk))
              have HF : Hid (TLn (trT d L ws, 0) w (.returned (.tuple #[.agg #[.string nm, .string ⟨#[]⟩, .bool false, .slice (some ⟨g10, 0, none⟩) (kk.length + SL.length) c10], .int .i64 0])) ((((w12.setCell ⟨w.heap.size + 1, 0, none⟩ (.string nm)).setCell ⟨w.heap.size + 1, 1, none⟩ (.string ⟨#[]⟩)).setCell ⟨w.heap.size + 1, 2, none⟩ (.bool false)).setCell ⟨w.heap.size + 1, 3, none⟩ (.slice (some ⟨g10, 0, none⟩) (kk.length + SL.length) c10))) := by
                refine ⟨some ⟨g10, 0, none⟩, kk.length + SL.length, c10, by rw [HTR.out]; rfl, (((((HBW5.out.trans (hB12.mono HBW5.out.size)).setCell (by show w.heap.size ≤ w.heap.size + 1; omega) _).setCell (by show w.heap.size ≤ w.heap.size + 1; omega) _).setCell (by show w.heap.size ≤ w.heap.size + 1; omega) _).setCell (by show w.heap.size ≤ w.heap.size + 1; omega) _), ?_⟩
                have h1 := T.Lies.keep (w' := ((((w12.setCell ⟨w.heap.size + 1, 0, none⟩ (.string nm)).setCell ⟨w.heap.size + 1, 1, none⟩ (.string ⟨#[]⟩)).setCell ⟨w.heap.size + 1, 2, none⟩ (.bool false)).setCell ⟨w.heap.size + 1, 3, none⟩ (.slice (some ⟨g10, 0, none⟩) (kk.length + SL.length) c10))) (fun q hq => by
                  have h2 := (HKQ.out q hq).1
                  have h3 := HZ5.out
                  have h4 : q ≠ w.heap.size + 1 := by omega
                  exact (((Below.heap_setCell _ _ _ _ h4).trans (Below.heap_setCell _ _ _ _ h4)).trans (Below.heap_setCell _ _ _ _ h4)).trans (Below.heap_setCell _ _ _ _ h4)) hl12
                refine T.Lies.mono (fun q hq => ?_) h1
                have h2 := HKQ.out q hq
                have h3 := HZ5.out
                have h4 := hb12.size
                simp [World.setCell] at h2 h4 ⊢
                omega
              rw [hk]
              clear hby hbX hl12 hB12 HL11 HBX11 HB HIOK V0 V1 V2 V10 f10
              go_wp2_with fail
              refine bodyPost_ret (v := .tuple #[.agg #[.string nm, .string ⟨#[]⟩, .bool false, .slice (some ⟨g10, 0, none⟩) (kk.length + SL.length) c10], .int .i64 0]) (by simp [results, Try.results19, go_sem, y0, y1, y2, y3, f0, f1, f2, f3]) rfl ?_
              rw [HR2.out]
              exact HF.out
            · have HR2 := (show Hid _ from HR.out.trans (if_neg hk))
              have hkf : (trT d L ws).ok = false := by cases e : (trT d L ws).ok; rfl; exact absurd e hk
              have hB012 : Below W0.heap.size W0 w12 := HB5.out.trans (hB12.mono HB5.out.size)
              have HF := (show Hid _ from HZERO.out w12 3 hB012)
              rw [hkf]
              clear hby hbX hl12 hB12 hB012 HL11 HBX11 HB HIOK V0 V1 V2 V10 f10
              go_wp2_with fail
              refine bodyPost_ret (v := .tuple #[.agg #[.string ⟨#[]⟩, .string ⟨#[]⟩, .bool false, .slice none 0 0], .int .i64 3]) (by simp [results, Try.results19, go_sem, y0, y1, y2, y3, f0, f1, f2, f3]) rfl ?_
              rw [HR2.out]
              exact HF.out
        · have hdq : decide (WD = TM) = false := by simp [heq]
          rw [hdq]
          have HR := (show Hid _ from HGR.out.symm.trans (treR_none HC.out hL (fun hh => heq (HWDE.out.symm.trans (hh.2.trans HTE.out.1)))))
          have HF := (show Hid _ from HZERO.out w5 2 HB5.out)
          have y0 := hby.cell 0 (by simp)
          have y1 := hby.cell 1 (by simp)
          have y2 := hby.cell 2 (by simp)
          have y3 := hby.cell 3 (by simp)
          have f0 := hby.frozen 0
          have f1 := hby.frozen 1
          have f2 := hby.frozen 2
          have f3 := hby.frozen 3
          simp only [List.getD_cons_zero, List.getD_cons_succ] at y0 y1 y2 y3
          clear hbx hby HB hdq heq
          go_wp2_with fail
          refine bodyPost_ret (v := .tuple #[.agg #[.string ⟨#[]⟩, .string ⟨#[]⟩, .bool false, .slice none 0 0], .int .i64 2]) (by simp [results, Try.results19, go_sem, y0, y1, y2, y3, f0, f1, f2, f3]) rfl ?_
          rw [HR.out]
          exact HF.out
      · obtain ⟨n, p, q, c, rfl⟩ := hn hrd
        have HR := (show Hid _ from HGR.out.symm.trans (treR_none HC.out hL (fun hh => hrd hh.1)))
        have hB3 : Below W0.heap.size W0 (w2.alloc (.cells #[.int .i64 n, .slice p q c] 64)) := bel_trans hB2 (bel_alloc _ _)
        have HF := (show Hid _ from HZERO.out _ 2 hB3)
        obtain ⟨hbx, hby⟩ := HB.out _ (fun q hq => hB3.block q (by have := HZ0.out.2; omega))
        have y0 := hby.cell 0 (by simp)
        have y1 := hby.cell 1 (by simp)
        have y2 := hby.cell 2 (by simp)
        have y3 := hby.cell 3 (by simp)
        have f0 := hby.frozen 0
        have f1 := hby.frozen 1
        have f2 := hby.frozen 2
        have f3 := hby.frozen 3
        simp only [List.getD_cons_zero, List.getD_cons_succ] at y0 y1 y2 y3
        clear hy hn hrd hbx hby HB hB2 hB3
        go_wp2_with fail
        refine bodyPost_ret (v := .tuple #[.agg #[.string ⟨#[]⟩, .string ⟨#[]⟩, .bool false, .slice none 0 0], .int .i64 2]) (by simp [results, Try.results19, go_sem, y0, y1, y2, y3, f0, f1, f2, f3]) rfl ?_
        rw [HR.out]
        exact HF.out
    · have i0 : (4000 : Int) < (L.length : Int) := by omega
      have HR := (show Hid _ from HGR.out.symm.trans (treR_bad (.inr (by omega))))
      have HF := (show Hid _ from HZERO.out w1 1 HB1.out)
      rw [hc]
      clear hbx hby HB hc
      go_wp2_with fail
      refine bodyPost_ret (v := .tuple #[.agg #[.string ⟨#[]⟩, .string ⟨#[]⟩, .bool false, .slice none 0 0], .int .i64 1]) (by simp [results, Try.results19, go_sem, y0, y1, y2, y3, f0, f1, f2, f3]) rfl ?_
      rw [HR.out]
      exact HF.out
  · have i0 : ((tmR d ws).2.2 != 0) = true := by simp [hc]
    have HR := (show Hid _ from HGR.out.symm.trans (treR_bad (.inl hc)))
    have HF := (show Hid _ from HZERO.out w1 1 HB1.out)
    generalize (tmR d ws).2.2 = C at *
    clear hbx hby HB
    go_wp2_with fail
    refine bodyPost_ret (v := .tuple #[.agg #[.string ⟨#[]⟩, .string ⟨#[]⟩, .bool false, .slice none 0 0], .int .i64 1]) (by simp [results, Try.results19, go_sem, y0, y1, y2, y3, f0, f1, f2, f3]) rfl ?_
    rw [HR.out]
    exact HF.out
end Go.Proofs.Ytpmlagenakcdfaa
