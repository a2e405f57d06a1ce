import Derived.Test.YtpmlagenakcdfaaDk
import Derived.Test.YtpmlagenakcdfaaDl
import Derived.Test.YtpmlagenakcdfaaYb
import Derived.Test.YtpmlagenakcdfaaZg
/-! The program: Good. -/
namespace Go.Proofs.Ytpmlagenakcdfaa
open Go.RowKit Go.Deep
set_option linter.unusedVariables false
set_option maxRecDepth 100000
set_option linter.unusedSimpArgs false

theorem goodR_cd {d : Bn} {non : Int} {L : List Int} (h : cdR d non L.length ≠ 0) : goodR d non L = (false, cdR d non L.length) := by
  unfold cdR at h ⊢
  unfold goodR
  split
  · rfl
  · rename_i h1
    rw [if_neg h1] at h
    split
    · rfl
    · rename_i h2
      rw [if_neg h2] at h
      exact absurd rfl h
theorem goodR_rd {d : Bn} {non : Int} {L : List Int} (h : cdR d non L.length = 0) : bnB d = true ∧ L.length ≤ 4000 ∧ 0 ≤ non ∧ non < (d.nons.length : Int) ∧ goodR d non L = (if rd d L (L.length + 1) (d.terms.length + non) 0 = some L.length then (gd d L (L.length + 1) 0, 0) else (false, 2)) := by
  unfold cdR at h
  unfold goodR
  split at h
  · cases h
  · rename_i h1
    split at h
    · cases h
    · rename_i h2
      rw [if_neg h1, if_neg h2]
      have h3 : wiB non 0 ((d.nons.length : Int) - 1) = true := by cases e : wiB non 0 ((d.nons.length : Int) - 1); (exact absurd e h2); rfl
      unfold wiB at h3
      simp only [decide_eq_true_eq] at h3
      refine ⟨by cases e : bnB d; (exact absurd (.inl e) h1); rfl, by omega, h3.1, by omega, rfl⟩
set_option maxHeartbeats 3200000 in
theorem iGood {S : Nat → Prop} (d : Bn) (L : List Int) (v0 v1 v3 vd : Value) (non : Int) (w : World) (h : BLies w S d v0 v1 v3) (hd : Ints w S L vd) (hS : ∀ b, S b → b < w.heap.size) :
    Calls Try.prog 17 #[.agg #[v0, v1, .int .i64 d.own, v3], .int .i64 non, vd] w fun e w' => e = .returned (.tuple #[.bool (goodR d non L).1, .int .i64 (goodR d non L).2]) ∧ Below w.heap.size w w' := by
  obtain ⟨r, hr⟩ : ∃ r, goodR d non L = r := ⟨_, rfl⟩
  rw [hr]
  have HGR := (show Hid _ from hr)
  clear hr
  have hb0 := bel_alloc w (.cells #[v0, v1, .int .i64 d.own, v3] 34)
  have HCL := (show Hid _ from iReadD d L v0 v1 v3 vd non _ (h.still hb0) (hd.still hb0) (fun b hb => Nat.lt_of_lt_of_le (hS b hb) hb0.size))
  have hx := Box.new w 34 [v0, v1, .int .i64 d.own, v3]
  obtain ⟨a0, c0, a1, c1, a3, c3, rfl, rfl, rfl⟩ := h.form
  obtain ⟨ad, cd, rfl, _⟩ := hd.form
  have HX := (show Hid _ from hx)
  have HB0 := (show Hid _ from hb0)
  have HLB := (show Hid _ from h)
  have x0 := hx.cell 0 (by simp)
  have x1 := hx.cell 1 (by simp)
  have x2 := hx.cell 2 (by simp)
  have x3 := hx.cell 3 (by simp)
  simp only [List.getD_cons_zero, List.getD_cons_succ] at x0 x1 x2 x3
  clear hx h hd hS hb0
  go_enter Try.func17, Try.ntmps17
  go_wp2_with fail
  refine Calls.mono HCL.out ?_
  rintro e w1 ⟨hb1, hc1, hc2⟩
  have HB1 := (show Hid _ from bel_trans HB0.out hb1)
  have HX1 := (show Hid _ from Box.still HX.out hb1)
  clear x0 x1 x2 x3
  by_cases hcd : cdR d non L.length = 0
  · obtain ⟨g1, g2, g3, g4, g5⟩ := goodR_rd hcd
    by_cases hrd : rd d L (L.length + 1) (d.terms.length + non) 0 = some L.length
    · obtain ⟨pv, rfl, hdp⟩ := (hc2 hcd).1 hrd
      rw [if_pos hrd] at g5
      have HR5 := (show Hid _ from HGR.out.symm.trans g5)
      have HGD := (show Hid _ from good_i d L g1 (L.length + 1) 0 L.length (d.terms.length + non) _ _ _ _ w1 (HLB.out.still HB1.out) hdp hrd)
      have x0 := HX1.out.cell 0 (by simp)
      have x1 := HX1.out.cell 1 (by simp)
      have x2 := HX1.out.cell 2 (by simp)
      have x3 := HX1.out.cell 3 (by simp)
      simp only [List.getD_cons_zero, List.getD_cons_succ] at x0 x1 x2 x3
      clear hc1 hc2 hcd hrd hdp g1 g2 g3 g4 g5 hb1 HCL
      go_wp2_with fail
      refine Calls.mono HGD.out ?_
      rintro e w2 ⟨rfl, hb2⟩
      have HB2 := (show Hid _ from bel_trans HB1.out hb2)
      clear hb2 x0 x1 x2 x3
      go_wp2_with fail
      refine bodyPost_ret (v := .tuple #[.bool (gd d L (L.length + 1) 0), .int .i64 0]) (by simp [results, Try.results17, go_sem]) rfl ?_
      exact ⟨by rw [HR5.out], HB2.out⟩
    · obtain rfl := (hc2 hcd).2 hrd
      rw [if_neg hrd] at g5
      have HR5 := (show Hid _ from HGR.out.symm.trans g5)
      clear hc1 hc2 hcd hrd g1 g2 g3 g4 g5 hb1 HCL
      go_wp2_with fail
      refine bodyPost_ret (v := .tuple #[.bool false, .int .i64 2]) (by simp [results, Try.results17, go_sem]) rfl ?_
      exact ⟨by rw [HR5.out], HB1.out⟩
  · obtain rfl := hc1 hcd
    have HR5 := (show Hid _ from HGR.out.symm.trans (goodR_cd hcd))
    have i0 : (cdR d non L.length != 0) = true := by simp [hcd]
    clear hc1 hc2 hb1 HCL
    generalize cdR d non L.length = C at *
    go_wp2_with fail
    refine bodyPost_ret (v := .tuple #[.bool false, .int .i64 C]) (by simp [results, Try.results17, go_sem]) rfl ?_
    exact ⟨by rw [HR5.out], HB1.out⟩
end Go.Proofs.Ytpmlagenakcdfaa

/-! The program: Yield. -/
namespace Go.Proofs.Ytpmlagenakcdfaa
open Go.RowKit Go.Deep
set_option linter.unusedVariables false
set_option maxRecDepth 100000
set_option linter.unusedSimpArgs false

theorem yldR_cd {d : Bn} {non : Int} {L : List Int} (h : cdR d non L.length ≠ 0) : yldR d non L = ([], cdR d non L.length) := by
  unfold yldR
  rw [if_pos h]
theorem yldR_rd {d : Bn} {non : Int} {L : List Int} (h : cdR d non L.length = 0) : yldR d non L = (if rd d L (L.length + 1) (d.terms.length + non) 0 = some L.length then (if 200 < (wd d L (L.length + 1) 0).length then ([], 3) else (wd d L (L.length + 1) 0, 0)) else ([], 2)) := by
  unfold yldR
  rw [if_neg (by omega)]
theorem DP.top {d : Bn} {L : List Int} {w : World} {K : Nat → Prop} : ∀ (f a : Nat) (v : Value), DP d L w K f a v → DP d L w (fun q => K q ∧ q < w.heap.size) f a v
  | 0, _, _, h => h
  | f + 1, a, v, h => by
    obtain ⟨g, kb, kc, ka, vs, ats, h1, h2, h3, h4, h5, h6, h7, h8⟩ := h
    refine ⟨g, kb, kc, ka, vs, ats, h1, ⟨h2, lt_of_cell h3⟩, h3, h4, h5, fun h0 => ⟨(h6 h0).1, (h6 h0).2, lt_of_cell (h7 0 h0).2.1⟩, fun i hi => ?_, h8⟩
    obtain ⟨k1, k2, k3, k4⟩ := h7 i hi
    exact ⟨k1, k2, k3, fun hn => DP.top f _ _ (k4 hn)⟩
theorem GW.below {w w' : World} {u u' : Value} (h : GW w w' u u') (hn : u.ownBlock = none) : Below w.heap.size w w' := by
  refine ⟨h.g.os, h.g.tape, h.g.output, h.g.size, fun k hk => h.g.block k hk (fun e => ?_)⟩
  rw [hn] at e
  cases e
set_option maxHeartbeats 3200000 in
theorem iYield {S : Nat → Prop} (d : Bn) (L : List Int) (v0 v1 v3 vd : Value) (non : Int) (w : World) (h : BLies w S d v0 v1 v3) (hd : Ints w S L vd) (hS : ∀ b, S b → b < w.heap.size) :
    Calls Try.prog 10 #[.agg #[v0, v1, .int .i64 d.own, v3], .int .i64 non, vd] w fun e w' => YAns (yldR d non L) w e w' := by
  obtain ⟨r, hr⟩ : ∃ r, yldR d non L = r := ⟨_, rfl⟩
  rw [hr]
  have HGR := (show Hid _ from hr)
  clear hr
  have hb0 := bel_alloc w (.cells #[v0, v1, .int .i64 d.own, v3] 34)
  have HCL := (show Hid _ from iReadD d L v0 v1 v3 vd non _ (h.still hb0) (hd.still hb0) (fun b hb => Nat.lt_of_lt_of_le (hS b hb) hb0.size))
  have hx := Box.new w 34 [v0, v1, .int .i64 d.own, v3]
  obtain ⟨a0, c0, a1, c1, a3, c3, rfl, rfl, rfl⟩ := h.form
  obtain ⟨ad, cd, rfl, _⟩ := hd.form
  have HX := (show Hid _ from hx)
  have HB0 := (show Hid _ from hb0)
  have HLB := (show Hid _ from h)
  have HSS := (show Hid _ from hS)
  have x0 := hx.cell 0 (by simp)
  have x1 := hx.cell 1 (by simp)
  have x2 := hx.cell 2 (by simp)
  have x3 := hx.cell 3 (by simp)
  simp only [List.getD_cons_zero, List.getD_cons_succ] at x0 x1 x2 x3
  clear hx h hd hS hb0
  go_enter Try.func10, Try.ntmps10
  go_wp2_with fail
  refine Calls.mono HCL.out ?_
  rintro e w1 ⟨hb1, hc1, hc2⟩
  have HB1 := (show Hid _ from bel_trans HB0.out hb1)
  have HX1 := (show Hid _ from Box.still HX.out hb1)
  clear x0 x1 x2 x3
  by_cases hcd : cdR d non L.length = 0
  · obtain ⟨g1, g2, g3, g4, jk⟩ := goodR_rd hcd
    clear jk
    have g5 := yldR_rd hcd
    by_cases hrd : rd d L (L.length + 1) (d.terms.length + non) 0 = some L.length
    · obtain ⟨pv, rfl, hdp⟩ := (hc2 hcd).1 hrd
      rw [if_pos hrd] at g5
      have HR5 := (show Hid _ from HGR.out.symm.trans g5)
      have HGD := (show Hid _ from word_i (B := w1.heap.size) d L g1 (fun q hq => Nat.lt_of_lt_of_le (HSS.out q hq) HB1.out.size) (fun q hq => hq.2) (L.length + 1) 0 L.length (d.terms.length + non) _ _ _ _ (.slice none 0 0) [] w1 (HLB.out.still HB1.out) (DP.top _ _ _ hdp) hrd (Nat.le_refl _) (World.ownsRow_nil _ _ _ _) (by simp; omega))
      have x0 := HX1.out.cell 0 (by simp)
      have x1 := HX1.out.cell 1 (by simp)
      have x2 := HX1.out.cell 2 (by simp)
      have x3 := HX1.out.cell 3 (by simp)
      simp only [List.getD_cons_zero, List.getD_cons_succ] at x0 x1 x2 x3
      clear hc1 hc2 hcd hrd hdp g1 g2 g3 g4 g5 hb1 HCL
      go_wp2_with fail
      refine Calls.mono HGD.out ?_
      rintro e w2 ⟨u2, rfl, hg2, ho2⟩
      rw [List.nil_append] at ho2
      have HB2 := (show Hid _ from bel_trans HB1.out (hg2.below rfl))
      obtain ⟨ka, kc, kb, rfl, _, _⟩ := own_form ho2
      have HO2 := (show Hid _ from ho2)
      clear hg2 ho2 x0 x1 x2 x3 HGD
      generalize wd d L (L.length + 1) 0 = W at *
      by_cases h200 : 200 < W.length
      · have HR6 := (show Hid _ from HR5.out.trans (if_pos h200))
        have i0 : (200 : Int) < (W.length : Int) := by omega
        go_wp2_with fail
        refine bodyPost_ret (v := .tuple #[.slice none 0 0, .int .i64 3]) (by simp [results, Try.results10, go_sem]) rfl ?_
        rw [HR6.out]
        exact YAns.nil HB2.out
      · have HR6 := (show Hid _ from HR5.out.trans (if_neg h200))
        have i0 : ¬ (200 : Int) < (W.length : Int) := by omega
        go_wp2_with fail
        refine bodyPost_ret (v := .tuple #[.slice ka W.length kc, .int .i64 0]) (by simp [results, Try.results10, go_sem]) rfl ?_
        rw [HR6.out]
        exact YAns.of HO2.out HB1.out.size HB2.out
    · obtain rfl := (hc2 hcd).2 hrd
      rw [if_neg hrd] at g5
      have HR5 := (show Hid _ from HGR.out.symm.trans g5)
      clear hc1 hc2 hcd hrd g1 g2 g3 g4 g5 hb1 HCL
      go_wp2_with fail
      refine bodyPost_ret (v := .tuple #[.slice none 0 0, .int .i64 2]) (by simp [results, Try.results10, go_sem]) rfl ?_
      rw [HR5.out]
      exact YAns.nil HB1.out
  · obtain rfl := hc1 hcd
    have HR5 := (show Hid _ from HGR.out.symm.trans (yldR_cd hcd))
    have i0 : (cdR d non L.length != 0) = true := by simp [hcd]
    clear hc1 hc2 hb1 HCL
    generalize cdR d non L.length = C at *
    go_wp2_with fail
    refine bodyPost_ret (v := .tuple #[.slice none 0 0, .int .i64 C]) (by simp [results, Try.results10, go_sem]) rfl ?_
    rw [HR5.out]
    exact YAns.nil HB1.out
end Go.Proofs.Ytpmlagenakcdfaa

/-! Rows of numbers that are the same; what TreeOf answers. -/
namespace Go.Proofs.Ytpmlagenakcdfaa
open Go.RowKit Go.Deep
set_option linter.unusedVariables false
set_option maxRecDepth 100000
set_option linter.unusedSimpArgs false

theorem same_all {l l' : List Int} (h : l.length = l'.length) (ha : ∀ i (h1 : i < l.length) (h2 : i < l'.length), l[i] = l'[i]) : decide (l = l') = true := by
  rw [decide_eq_true_eq]
  exact List.ext_getElem h ha
set_option maxHeartbeats 3200000 in
theorem same_i {S S' : Nat → Prop} (l l' : List Int) (v v' : Value) (w : World) (h : Ints w S l v) (h' : Ints w S' l' v') :
    Calls Try.prog 54 #[v, v'] w fun e w' => e = .returned (.bool (decide (l = l'))) ∧ Below w.heap.size w w' := by
  obtain ⟨a, cap, b, off, rfl, hc, hm, ha, hcell⟩ := h
  obtain ⟨a', cap', b', off', rfl, hc', hm', ha', hcell'⟩ := h'
  unfold maxLen at hm hm'
  by_cases hlen : l.length = l'.length
  · have i0 : ((l.length : Int) != (l'.length : Int)) = false := by simp; omega
    have HCE := (show Hid _ from (⟨hcell, hcell', ha, ha'⟩ : _ ∧ _ ∧ _ ∧ _))
    have HL := (show Hid _ from hlen)
    have HSA := (show Hid _ from fun ha => same_all hlen ha)
    obtain ⟨RB, hRB⟩ : ∃ RB, decide (l = l') = RB := ⟨_, rfl⟩
    rw [hRB] at HSA ⊢
    have HRB := (show Hid _ from hRB)
    clear hcell hcell' ha ha' hlen hRB
    go_enter Try.func54, Try.ntmps54
    go_wp2_with fail
    go_loopw [13] (fun i wr => ∃ j : Nat, i = .int .i64 j ∧ j ≤ l.length ∧ Hid (Below w.heap.size w wr ∧ ∀ i (h1 : i < l.length) (h2 : i < l'.length), i < j → l[i] = l'[i])) (fun i _ => l.length - (intOf i).toNat)
    case atStart => exact ⟨0, rfl, Nat.zero_le _, Below.refl _ _, fun i _ _ h => absurd h (Nat.not_lt_zero _)⟩
    case round =>
      obtain ⟨j, rfl, hj, HJ⟩ := hrel
      by_cases hlt : j < l.length
      · have hlt' : j < l'.length := by rw [← HL.out]; exact hlt
        obtain ⟨q1, q2, q3, q4⟩ := HCE.out
        have c1 := q1 j hlt
        have c2 := q2 j hlt'
        obtain ⟨rfl, _⟩ := q3 (by omega)
        obtain ⟨rfl, _⟩ := q4 (by omega)
        have c1' := (World.cell?_of_block (w := w) (HJ.out.1.block _ (lt_of_cell c1))).trans c1
        have c2' := (World.cell?_of_block (w := w) (HJ.out.1.block _ (lt_of_cell c2))).trans c2
        have hi1 : (0 : Int) ≤ (j : Int) ∧ (j : Int) < (l.length : Int) := by omega
        have hi2 : (0 : Int) ≤ (j : Int) ∧ (j : Int) < (l'.length : Int) := by omega
        have hjb : j < 9223372036854775807 := by omega
        by_cases hx : l[j] = l'[j]
        · have i1 : (l[j] != l'[j]) = false := by simp [hx]
          have HN := (show Hid (∀ n, Below w.heap.size w (wr.drewN n) ∧ ∀ i (h1 : i < l.length) (h2 : i < l'.length), i < j + 1 → l[i] = l'[i]) from fun n => ⟨bel_drewN HJ.out.1 n, fun i h1 h2 h3 => by
            by_cases e : i = j
            · subst e; exact hx
            · exact HJ.out.2 i h1 h2 (by omega)⟩)
          clear hx q1 q2 q3 q4 c1 c2 HJ
          generalize l[j] = y1 at *
          generalize l'[j] = y2 at *
          go_upto_region 6 with fail
          go_quiet (fail)
          go_wp2_with fail
          exact ⟨⟨j + 1, by go_num, by omega, HN.out _⟩, by simp [intOf]; omega⟩
        · have i1 : (l[j] != l'[j]) = true := by simp [hx]
          have HN := (show Hid (RB = false ∧ ∀ n, Below w.heap.size w (wr.drewN n)) from ⟨by rw [← HRB.out]; simp; intro e; subst e; exact hx rfl, fun n => bel_drewN HJ.out.1 n⟩)
          clear hx q1 q2 q3 q4 c1 c2 HJ
          generalize l[j] = y1 at *
          generalize l'[j] = y2 at *
          go_upto_region 6 with fail
          go_quiet (fail)
          go_wp2_with fail
          go_ret
          exact ⟨by rw [HN.out.1]; rfl, HN.out.2 _⟩
      · have HN := (show Hid (RB = true ∧ Below w.heap.size w wr) from ⟨HSA.out (fun i h1 h2 => HJ.out.2 i h1 h2 (by omega)), HJ.out.1⟩)
        go_wp2_with fail
        go_ret
        exact ⟨by rw [HN.out.1]; rfl, HN.out.2⟩
  · have i0 : ((l.length : Int) != (l'.length : Int)) = true := by simp; omega
    have HN := (show Hid (decide (l = l') = false) from by show _ = _; simp; intro e; subst e; exact hlen rfl)
    clear hcell hcell' ha ha' hlen
    go_enter Try.func54, Try.ntmps54
    go_wp2_with fail
    go_ret
    exact ⟨by rw [HN.out]; rfl, Below.refl _ _⟩
set_option maxHeartbeats 3200000 in
theorem same_s {S S' : Nat → Prop} (l l' : List Int) (v v' : Value) (w : World) (h : Ints w S l v) (h' : Ints w S' l' v') :
    Calls Try.prog 48 #[v, v'] w fun e w' => e = .returned (.bool (decide (l = l'))) ∧ Below w.heap.size w w' := by
  obtain ⟨a, cap, b, off, rfl, hc, hm, ha, hcell⟩ := h
  obtain ⟨a', cap', b', off', rfl, hc', hm', ha', hcell'⟩ := h'
  unfold maxLen at hm hm'
  by_cases hlen : l.length = l'.length
  · have i0 : ((l.length : Int) != (l'.length : Int)) = false := by simp; omega
    have HCE := (show Hid _ from (⟨hcell, hcell', ha, ha'⟩ : _ ∧ _ ∧ _ ∧ _))
    have HL := (show Hid _ from hlen)
    have HSA := (show Hid _ from fun ha => same_all hlen ha)
    obtain ⟨RB, hRB⟩ : ∃ RB, decide (l = l') = RB := ⟨_, rfl⟩
    rw [hRB] at HSA ⊢
    have HRB := (show Hid _ from hRB)
    clear hcell hcell' ha ha' hlen hRB
    go_enter Try.func48, Try.ntmps48
    go_wp2_with fail
    go_loopw [5] (fun i wr => ∃ j : Nat, i = .int .i64 j ∧ j ≤ l.length ∧ Hid (Below w.heap.size w wr ∧ ∀ i (h1 : i < l.length) (h2 : i < l'.length), i < j → l[i] = l'[i])) (fun i _ => l.length - (intOf i).toNat)
    case atStart => exact ⟨0, rfl, Nat.zero_le _, Below.refl _ _, fun i _ _ h => absurd h (Nat.not_lt_zero _)⟩
    case round =>
      obtain ⟨j, rfl, hj, HJ⟩ := hrel
      by_cases hlt : j < l.length
      · have hlt' : j < l'.length := by rw [← HL.out]; exact hlt
        obtain ⟨q1, q2, q3, q4⟩ := HCE.out
        have c1 := q1 j hlt
        have c2 := q2 j hlt'
        obtain ⟨rfl, _⟩ := q3 (by omega)
        obtain ⟨rfl, _⟩ := q4 (by omega)
        have c1' := (World.cell?_of_block (w := w) (HJ.out.1.block _ (lt_of_cell c1))).trans c1
        have c2' := (World.cell?_of_block (w := w) (HJ.out.1.block _ (lt_of_cell c2))).trans c2
        have hi1 : (0 : Int) ≤ (j : Int) ∧ (j : Int) < (l.length : Int) := by omega
        have hi2 : (0 : Int) ≤ (j : Int) ∧ (j : Int) < (l'.length : Int) := by omega
        have hjb : j < 9223372036854775807 := by omega
        by_cases hx : l[j] = l'[j]
        · have i1 : (l[j] != l'[j]) = false := by simp [hx]
          have HN := (show Hid (∀ n, Below w.heap.size w (wr.drewN n) ∧ ∀ i (h1 : i < l.length) (h2 : i < l'.length), i < j + 1 → l[i] = l'[i]) from fun n => ⟨bel_drewN HJ.out.1 n, fun i h1 h2 h3 => by
            by_cases e : i = j
            · subst e; exact hx
            · exact HJ.out.2 i h1 h2 (by omega)⟩)
          clear hx q1 q2 q3 q4 c1 c2 HJ
          generalize l[j] = y1 at *
          generalize l'[j] = y2 at *
          go_upto_region 6 with fail
          go_quiet (fail)
          go_wp2_with fail
          exact ⟨⟨j + 1, by go_num, by omega, HN.out _⟩, by simp [intOf]; omega⟩
        · have i1 : (l[j] != l'[j]) = true := by simp [hx]
          have HN := (show Hid (RB = false ∧ ∀ n, Below w.heap.size w (wr.drewN n)) from ⟨by rw [← HRB.out]; simp; intro e; subst e; exact hx rfl, fun n => bel_drewN HJ.out.1 n⟩)
          clear hx q1 q2 q3 q4 c1 c2 HJ
          generalize l[j] = y1 at *
          generalize l'[j] = y2 at *
          go_upto_region 6 with fail
          go_quiet (fail)
          go_wp2_with fail
          go_ret
          exact ⟨by rw [HN.out.1]; rfl, HN.out.2 _⟩
      · have HN := (show Hid (RB = true ∧ Below w.heap.size w wr) from ⟨HSA.out (fun i h1 h2 => HJ.out.2 i h1 h2 (by omega)), HJ.out.1⟩)
        go_wp2_with fail
        go_ret
        exact ⟨by rw [HN.out.1]; rfl, HN.out.2⟩
  · have i0 : ((l.length : Int) != (l'.length : Int)) = true := by simp; omega
    have HN := (show Hid (decide (l = l') = false) from by show _ = _; simp; intro e; subst e; exact hlen rfl)
    clear hcell hcell' ha ha' hlen
    go_enter Try.func48, Try.ntmps48
    go_wp2_with fail
    go_ret
    exact ⟨by rw [HN.out]; rfl, Below.refl _ _⟩
/-- The tree. -/
def trT (d : Bn) (L : List Int) (ws : List Wd) : T.Tr := ⟨ndN d (pa d L 0), ByteArray.empty, false, (kd d L L.length 0 ws).1 ++ (lvs (kd d L L.length 0 ws).2).1⟩
/-- What TreeOf answers. -/
def treR (d : Bn) (L : List Int) (ws : List Wd) : T.Tr × Int :=
  if (tmR d ws).2.2 ≠ 0 ∨ 4000 < L.length then (T.zt, 1)
  else if rd d L (L.length + 1) (d.terms.length + 0) 0 = some L.length ∧ wd d L (L.length + 1) 0 = (tmR d ws).1 then (if (trT d L ws).ok = true then (trT d L ws, 0) else (T.zt, 3))
  else (T.zt, 2)
theorem tmR_ok {d : Bn} {ws : List Wd} (h : (tmR d ws).2.2 = 0) : bnB d = true ∧ ws.length ≤ 1000 := by
  unfold tmR at h
  split at h
  · assumption
  · cases h
theorem tmGo_nsk {nm : List ByteArray} : ∀ (l : List Wd) (p : Nat) (ts ps : List Int), (tmGo nm l p ts ps).2.2 = 0 → (tmGo nm l p ts ps).1.length = ts.length + nsk l := by
  intro l
  induction l with
  | nil => intro p ts ps _; simp [tmGo, nsk]
  | cons x r ih =>
    intro p ts ps h
    unfold tmGo at h ⊢
    split
    · rename_i hs
      rw [if_pos hs] at h
      rw [ih (p + 1) ts ps h]
      simp [nsk, List.countP_cons, hs]
    · rename_i hs
      rw [if_neg hs] at h
      split
      · rename_i e
        rw [e] at h
        cases h
      · rename_i i e
        rw [e] at h
        dsimp only at h
        rw [ih _ _ _ h]
        simp [nsk, List.countP_cons, hs]
        omega
theorem tmR_nsk {d : Bn} {ws : List Wd} (h : (tmR d ws).2.2 = 0) : (tmR d ws).1.length = nsk ws := by
  have h2 := tmR_ok h
  unfold tmR at h ⊢
  rw [if_pos h2] at h ⊢
  have := tmGo_nsk ws 0 [] [] h
  simpa using this
/-- What a call leaves that answers a tree and a code. -/
def TAn (R : T.Tr × Int) (w : World) (e : Ending) (w' : World) : Prop :=
  ∃ (a : Option Addr) (m c : Nat), e = .returned (.tuple #[.agg #[.string R.1.name, .string R.1.text, .bool R.1.leaf, .slice a m c], .int .i64 R.2]) ∧ Below w.heap.size w w' ∧ T.Own w' w.heap.size w'.heap.size R.1 (.slice a m c)
/-- .. where it need not be owned. -/
def TLn (R : T.Tr × Int) (w : World) (e : Ending) (w' : World) : Prop :=
  ∃ (a : Option Addr) (m c : Nat), e = .returned (.tuple #[.agg #[.string R.1.name, .string R.1.text, .bool R.1.leaf, .slice a m c], .int .i64 R.2]) ∧ Below w.heap.size w w' ∧ T.Lies w' (fun q => w.heap.size ≤ q ∧ q < w'.heap.size) R.1 (.slice a m c)
end Go.Proofs.Ytpmlagenakcdfaa
