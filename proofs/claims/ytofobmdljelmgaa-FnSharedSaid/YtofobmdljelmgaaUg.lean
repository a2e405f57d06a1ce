import Derived.Test.YtofobmdljelmgaaUv
import Derived.BigQuiet
/-! The program's sameDag: rows of numbers, nodes. -/
namespace Go.Proofs.Ytofobmdljelmgaa
open Go.RowKit Go.Deep
set_option linter.unusedVariables false
set_option maxRecDepth 100000
set_option linter.unusedSimpArgs false

theorem bel_drewU {B : Nat} {a w : World} (h : Below B a w) (n : Nat) : Below B a (w.drewN n) := h.trans ⟨rfl, rfl, rfl, Nat.le_refl _, fun _ _ => rfl⟩
theorem same_allU {l l' : List Int} (h : l.length = l'.length) (ha : ∀ i (h1 : i < l.length) (h2 : i < l'.length), l[i] = l'[i]) : decide (l = l') = true := by
  rw [decide_eq_true_eq]
  exact List.ext_getElem h ha
set_option maxHeartbeats 3200000 in
theorem equal64 {S S' : Nat → Prop} (l l' : List Int) (v v' : Value) (w : World) (h : Ints w S l v) (h' : Ints w S' l' v') :
    Calls Try.prog 63 #[v, v'] w fun e w' => e = .returned (.bool (decide (l = l'))) ∧ Below w.heap.size w w' := by
  obtain ⟨a, cap, b, off, rfl, hc, hm, ha, hcell⟩ := h
  obtain ⟨a', cap', b', off', rfl, hc', hm', ha', hcell'⟩ := h'
  unfold maxLen at hm hm'
  by_cases hlen : l.length = l'.length
  · have i0 : ((l.length : Int) != (l'.length : Int)) = false := by simp; omega
    have HCE := (show Hid _ from (⟨hcell, hcell', ha, ha'⟩ : _ ∧ _ ∧ _ ∧ _))
    have HL := (show Hid _ from hlen)
    have HSA := (show Hid _ from fun ha => same_allU hlen ha)
    obtain ⟨RB, hRB⟩ : ∃ RB, decide (l = l') = RB := ⟨_, rfl⟩
    rw [hRB] at HSA ⊢
    have HRB := (show Hid _ from hRB)
    clear hcell hcell' ha ha' hlen hRB
    go_enter Try.func63, Try.ntmps63
    go_wp2_with fail
    go_loopw [13] (fun i wr => ∃ j : Nat, i = .int .i64 j ∧ j ≤ l.length ∧ Hid (Below w.heap.size w wr ∧ ∀ i (h1 : i < l.length) (h2 : i < l'.length), i < j → l[i] = l'[i])) (fun i _ => l.length - (intOf i).toNat)
    case atStart => exact ⟨0, rfl, Nat.zero_le _, Below.refl _ _, fun i _ _ h => absurd h (Nat.not_lt_zero _)⟩
    case round =>
      obtain ⟨j, rfl, hj, HJ⟩ := hrel
      by_cases hlt : j < l.length
      · have hlt' : j < l'.length := by rw [← HL.out]; exact hlt
        obtain ⟨q1, q2, q3, q4⟩ := HCE.out
        have c1 := q1 j hlt
        have c2 := q2 j hlt'
        obtain ⟨rfl, _⟩ := q3 (by omega)
        obtain ⟨rfl, _⟩ := q4 (by omega)
        have c1' := (World.cell?_of_block (w := w) (HJ.out.1.block _ (lt_of_cell c1))).trans c1
        have c2' := (World.cell?_of_block (w := w) (HJ.out.1.block _ (lt_of_cell c2))).trans c2
        have hi1 : (0 : Int) ≤ (j : Int) ∧ (j : Int) < (l.length : Int) := by omega
        have hi2 : (0 : Int) ≤ (j : Int) ∧ (j : Int) < (l'.length : Int) := by omega
        have hjb : j < 9223372036854775807 := by omega
        by_cases hx : l[j] = l'[j]
        · have i1 : (l[j] != l'[j]) = false := by simp [hx]
          have HN := (show Hid (∀ n, Below w.heap.size w (wr.drewN n) ∧ ∀ i (h1 : i < l.length) (h2 : i < l'.length), i < j + 1 → l[i] = l'[i]) from fun n => ⟨bel_drewU HJ.out.1 n, fun i h1 h2 h3 => by
            by_cases e : i = j
            · subst e; exact hx
            · exact HJ.out.2 i h1 h2 (by omega)⟩)
          clear hx q1 q2 q3 q4 c1 c2 HJ
          generalize l[j] = y1 at *
          generalize l'[j] = y2 at *
          go_upto_region 6 with fail
          go_quiet (fail)
          go_wp2_with fail
          exact ⟨⟨j + 1, by go_num, by omega, HN.out _⟩, by simp [intOf]; omega⟩
        · have i1 : (l[j] != l'[j]) = true := by simp [hx]
          have HN := (show Hid (RB = false ∧ ∀ n, Below w.heap.size w (wr.drewN n)) from ⟨by rw [← HRB.out]; simp; intro e; subst e; exact hx rfl, fun n => bel_drewU HJ.out.1 n⟩)
          clear hx q1 q2 q3 q4 c1 c2 HJ
          generalize l[j] = y1 at *
          generalize l'[j] = y2 at *
          go_upto_region 6 with fail
          go_quiet (fail)
          go_wp2_with fail
          go_ret
          exact ⟨by rw [HN.out.1]; rfl, HN.out.2 _⟩
      · have HN := (show Hid (RB = true ∧ Below w.heap.size w wr) from ⟨HSA.out (fun i h1 h2 => HJ.out.2 i h1 h2 (by omega)), HJ.out.1⟩)
        go_wp2_with fail
        go_ret
        exact ⟨by rw [HN.out.1]; rfl, HN.out.2⟩
  · have i0 : ((l.length : Int) != (l'.length : Int)) = true := by simp; omega
    have HN := (show Hid (decide (l = l') = false) from by show _ = _; simp; intro e; subst e; exact hlen rfl)
    clear hcell hcell' ha ha' hlen
    go_enter Try.func63, Try.ntmps63
    go_wp2_with fail
    go_ret
    exact ⟨by rw [HN.out]; rfl, Below.refl _ _⟩
/-- The same node. -/
def rdB (x y : Rd) : Bool := decide (x.nm = y.nm) && (decide (x.tx = y.tx) && (decide (x.lf = y.lf) && decide (x.ks = y.ks)))
theorem rdB_iff {x y : Rd} : rdB x y = true ↔ x = y := by
  obtain ⟨a, b, c, d⟩ := x
  obtain ⟨a', b', c', d'⟩ := y
  simp [rdB]
set_option maxHeartbeats 1600000 in
theorem sameNode66 {S S' : Nat → Prop} (x y : Rd) (v v' : Value) (w : World) (h : Ints w S x.ks v) (h' : Ints w S' y.ks v') :
    Calls Try.prog 65 #[.agg #[.string x.nm, .string x.tx, .bool x.lf, v], .agg #[.string y.nm, .string y.tx, .bool y.lf, v']] w fun e w' => e = .returned (.bool (rdB x y)) ∧ Below w.heap.size w w' := by
  have hb2 : Below w.heap.size w ((w.alloc (.cells #[.string x.nm, .string x.tx, .bool x.lf, v] 34)).alloc (.cells #[.string y.nm, .string y.tx, .bool y.lf, v'] 34)) := (bel_alloc _ _).alloc (by simp) _
  have HB2 := (show Hid _ from hb2)
  have HS := (show Hid _ from equal64 x.ks y.ks v v' _ (h.still hb2) (h'.still hb2))
  have HE := (show Hid (rdB x y = (decide (x.nm = y.nm) && (decide (x.tx = y.tx) && (decide (x.lf = y.lf) && decide (x.ks = y.ks))))) from rfl)
  obtain ⟨a1, l1, p1, rfl⟩ := h.form
  obtain ⟨a2, l2, p2, rfl⟩ := h'.form
  clear h h' hb2
  generalize rdB x y = R at *
  generalize decide (x.ks = y.ks) = K at *
  obtain ⟨xn, xt, xl, xk⟩ := x
  obtain ⟨yn, yt, yl, yk⟩ := y
  dsimp only at *
  by_cases e1 : xn = yn
  · subst e1
    by_cases e2 : xt = yt
    · subst e2
      by_cases e3 : xl = yl
      · subst e3
        have HF := (show Hid (R = K) from (by show R = K; rw [HE.out]; simp))
        go_enter Try.func65, Try.ntmps65
        go_wp2_with fail
        refine Calls.mono HS.out ?_
        rintro e w1 ⟨rfl, hb1⟩
        have HN := (show Hid _ from HB2.out.trans (hb1.mono HB2.out.size)); clear hb1
        go_wp2_with fail
        go_ret
        exact ⟨by rw [HF.out]; rfl, HN.out⟩
      · have HF := (show Hid (R = false) from (by show R = false; rw [HE.out]; simp [e3]))
        have hd : (xl == yl) = false := by simpa using e3
        go_enter Try.func65, Try.ntmps65
        go_wp2_with fail
        go_ret
        exact ⟨by rw [HF.out]; rfl, HB2.out⟩
    · have HF := (show Hid (R = false) from (by show R = false; rw [HE.out]; simp [e2]))
      have hd2 := ne_bytes e2
      go_enter Try.func65, Try.ntmps65
      go_wp2_with fail
      go_ret
      exact ⟨by rw [HF.out]; rfl, HB2.out⟩
  · have HF := (show Hid (R = false) from (by show R = false; rw [HE.out]; simp [e1]))
    have hd2 := ne_bytes e1
    go_enter Try.func65, Try.ntmps65
    go_wp2_with fail
    go_ret
    exact ⟨by rw [HF.out]; rfl, HB2.out⟩
end Go.Proofs.Ytofobmdljelmgaa

/-! The program's sameDag: nodes by slices.EqualFunc. -/
namespace Go.Proofs.Ytofobmdljelmgaa
open Go.RowKit Go.Deep
set_option linter.unusedVariables false
set_option maxRecDepth 100000
set_option linter.unusedSimpArgs false

set_option maxHeartbeats 3200000 in
theorem equalF65 {S S' : Nat → Prop} (l l' : List Rd) (v v' : Value) (w : World) (h : Rds w S l v) (h' : Rds w S' l' v') (B : Bool) (hT : B = true ↔ l = l') :
    Calls Try.prog 64 #[v, v', .func (.func 65) #[] #[]] w fun e w' => e = .returned (.bool B) ∧ Below w.heap.size w w' := by
  obtain ⟨a, cap, b, off, sv, rfl, hc, hm, ha, hcell, hz, hr⟩ := h
  obtain ⟨a', cap', b', off', sv', rfl, hc', hm', ha', hcell', hz', hr'⟩ := h'
  unfold maxLen at hm hm'
  have HT := (show Hid _ from hT); clear hT
  by_cases hlen : l.length = l'.length
  · have i0 : ((l.length : Int) != (l'.length : Int)) = false := by simp; omega
    have HD := (show Hid _ from (⟨ha, hcell, hr⟩ : _ ∧ _ ∧ _)); clear ha hcell hr hz
    have HD' := (show Hid _ from (⟨ha', hcell', hr'⟩ : _ ∧ _ ∧ _)); clear ha' hcell' hr' hz'
    have HL := (show Hid _ from hlen)
    clear hlen
    go_enter Try.func64, Try.ntmps64
    go_wp2_with fail
    go_loopw [17] (fun i wr => ∃ j : Nat, i = .int .i64 j ∧ j ≤ l.length ∧ Hid (Below w.heap.size w wr ∧ ∀ i (h1 : i < l.length) (h2 : i < l'.length), i < j → l[i] = l'[i])) (fun i _ => l.length - (intOf i).toNat)
    case atStart => exact ⟨0, rfl, Nat.zero_le _, Below.refl _ _, fun i _ _ h => absurd h (Nat.not_lt_zero _)⟩
    case round =>
      obtain ⟨j, rfl, hj, HJ⟩ := hrel
      by_cases hlt : j < l.length
      · have hlt' : j < l'.length := by rw [← HL.out]; exact hlt
        obtain ⟨rfl, _⟩ := HD.out.1 (by omega)
        obtain ⟨rfl, _⟩ := HD'.out.1 (by omega)
        obtain ⟨d0, d1, d2, d3⟩ := HD.out.2.1 j hlt
        obtain ⟨f0, f1, f2, f3⟩ := HD'.out.2.1 j hlt'
        rw [← HJ.out.1.cell (lt_of_cell d0)] at d0
        rw [← HJ.out.1.cell (lt_of_cell d1)] at d1
        rw [← HJ.out.1.cell (lt_of_cell d2)] at d2
        rw [← HJ.out.1.cell (lt_of_cell d3)] at d3
        rw [← HJ.out.1.cell (lt_of_cell f0)] at f0
        rw [← HJ.out.1.cell (lt_of_cell f1)] at f1
        rw [← HJ.out.1.cell (lt_of_cell f2)] at f2
        rw [← HJ.out.1.cell (lt_of_cell f3)] at f3
        have hI4 := (HD.out.2.2 j hlt).still HJ.out.1
        have hI5 := (HD'.out.2.2 j hlt').still HJ.out.1
        obtain ⟨a4, l4, p4, e4⟩ := hI4.form
        obtain ⟨a5, l5, p5, e5⟩ := hI5.form
        rw [e4] at d3 hI4
        rw [e5] at f3 hI5
        have HCL := (show Hid (∀ wq, Below wr.heap.size wr wq → Calls Try.prog 65 #[.agg #[.string l[j].nm, .string l[j].tx, .bool l[j].lf, .slice a4 l4 p4], .agg #[.string l'[j].nm, .string l'[j].tx, .bool l'[j].lf, .slice a5 l5 p5]] wq fun e w' => e = .returned (.bool (rdB l[j] l'[j])) ∧ Below wq.heap.size wq w') from fun wq hb => sameNode66 l[j] l'[j] _ _ wq (hI4.still hb) (hI5.still hb))
        have HE1 : Hid (rdB l[j] l'[j] = true → ∀ i (h1 : i < l.length) (h2 : i < l'.length), i < j + 1 → l[i] = l'[i]) := fun h i h1 h2 h3 => by
          by_cases e : i = j
          · subst e; exact rdB_iff.1 h
          · exact HJ.out.2 i h1 h2 (by omega)
        have HE2 : Hid (rdB l[j] l'[j] = false → B = false) := fun h => by
          cases hB : B with
          | false => rfl
          | true =>
            have e := HT.out.1 hB
            subst e
            have : rdB l[j] l[j] = true := rdB_iff.2 rfl
            rw [h] at this
            exact absurd this Bool.false_ne_true
        have hg : (((wr.alloc (.cells #[.string l[j].nm, .string l[j].tx, .bool l[j].lf, .slice a4 l4 p4] 34)).cell? ⟨b', off' + j * 4, none⟩ = some (.string l'[j].nm)) ∧ ((wr.alloc (.cells #[.string l[j].nm, .string l[j].tx, .bool l[j].lf, .slice a4 l4 p4] 34)).cell? ⟨b', off' + j * 4 + 1, none⟩ = some (.string l'[j].tx)) ∧ ((wr.alloc (.cells #[.string l[j].nm, .string l[j].tx, .bool l[j].lf, .slice a4 l4 p4] 34)).cell? ⟨b', off' + j * 4 + 2, none⟩ = some (.bool l'[j].lf)) ∧ (wr.alloc (.cells #[.string l[j].nm, .string l[j].tx, .bool l[j].lf, .slice a4 l4 p4] 34)).cell? ⟨b', off' + j * 4 + 3, none⟩ = some (.slice a5 l5 p5)) := by
          have hba := bel_alloc wr (.cells #[.string l[j].nm, .string l[j].tx, .bool l[j].lf, .slice a4 l4 p4] 34)
          exact ⟨(hba.cell (lt_of_cell f0)).trans f0, (hba.cell (lt_of_cell f1)).trans f1, (hba.cell (lt_of_cell f2)).trans f2, (hba.cell (lt_of_cell f3)).trans f3⟩
        obtain ⟨g0, g1, g2, g3⟩ := hg
        have q1 : (0 : Int) ≤ (j : Int) := by omega
        have q2 : (j : Int) < (l.length : Int) := by omega
        have q3 : (j : Int) < (l'.length : Int) := by omega
        have HJb := (show Hid _ from HJ.out.1)
        clear hI4 hI5 f0 f1 f2 f3 HJ e4 e5
        generalize rdB l[j] l'[j] = bq at *
        generalize l[j].nm = y0 at *
        generalize l[j].tx = y1 at *
        generalize l[j].lf = y2 at *
        generalize l'[j].nm = z0 at *
        generalize l'[j].tx = z1 at *
        generalize l'[j].lf = z2 at *
        go_wp2_with fail
        refine Calls.mono (HCL.out _ ((bel_alloc _ _).alloc (by simp) _)) ?_
        rintro e w1 ⟨rfl, hb1⟩
        have HB1 := (show Hid _ from bel_trans (bel_trans HJb.out ((bel_alloc wr (.cells #[.string y0, .string y1, .bool y2, .slice a4 l4 p4] 34)).alloc (by simp) (.cells #[.string z0, .string z1, .bool z2, .slice a5 l5 p5] 34))) hb1)
        clear hb1 g0 g1 g2 g3 d0 d1 d2 d3 HCL
        cases bq with
        | false =>
          have HF := (show Hid _ from HE2.out rfl)
          go_wp2_with fail
          go_ret
          exact ⟨by rw [HF.out]; rfl, HB1.out⟩
        | true =>
          go_wp2_with fail
          exact ⟨⟨j + 1, by go_num, by omega, HB1.out, (by first | exact HE1.out rfl | exact HE1.out trivial)⟩, by simp [intOf]; omega⟩
      · have HN := (show Hid (B = true) from HT.out.2 (List.ext_getElem HL.out (fun i h1 h2 => HJ.out.2 i h1 h2 (by omega))))
        have HB1 := (show Hid _ from HJ.out.1)
        go_wp2_with fail
        go_ret
        exact ⟨by rw [HN.out]; rfl, HB1.out⟩
  · have i0 : ((l.length : Int) != (l'.length : Int)) = true := by simp; omega
    have HN := (show Hid (B = false) from by
      show B = false
      cases hB : B with
      | false => rfl
      | true => have e := HT.out.1 hB; subst e; exact absurd rfl hlen)
    clear hcell hcell' ha ha' hlen hr hr' hz hz'
    go_enter Try.func64, Try.ntmps64
    go_wp2_with fail
    go_ret
    exact ⟨by rw [HN.out]; rfl, Below.refl _ _⟩
end Go.Proofs.Ytofobmdljelmgaa

/-! The program's sameDag. -/
namespace Go.Proofs.Ytofobmdljelmgaa
open Go.RowKit Go.Deep
set_option linter.unusedVariables false
set_option maxRecDepth 100000
set_option linter.unusedSimpArgs false

set_option maxHeartbeats 1600000 in
theorem sameDag54 {S S' T T' : Nat → Prop} (ns ns' : List Rd) (rs rs' : List Int) (u r u' r' : Value) (w : World) (h : Rds w S ns u) (h2 : Ints w T rs r) (h' : Rds w S' ns' u') (h2' : Ints w T' rs' r') (B : Bool) (hB : B = true ↔ ns = ns') :
    Calls Try.prog 37 #[.agg #[u, r], .agg #[u', r']] w fun e w' => e = .returned (.bool (decide (rs = rs') && B)) ∧ Below w.heap.size w w' := by
  have hb2 : Below w.heap.size w ((w.alloc (.cells #[u, r] 27)).alloc (.cells #[u', r'] 27)) := (bel_alloc _ _).alloc (by simp) _
  have HB2 := (show Hid _ from hb2)
  have HE1 : Hid (Calls Try.prog 63 #[r, r'] ((w.alloc (.cells #[u, r] 27)).alloc (.cells #[u', r'] 27)) fun e w' => e = .returned (.bool (decide (rs = rs'))) ∧ Below ((w.alloc (.cells #[u, r] 27)).alloc (.cells #[u', r'] 27)).heap.size ((w.alloc (.cells #[u, r] 27)).alloc (.cells #[u', r'] 27)) w') := equal64 rs rs' _ _ _ (h2.still hb2) (h2'.still hb2)
  have HE2 : Hid (∀ wq, Below w.heap.size w wq → Calls Try.prog 64 #[u, u', .func (.func 65) #[] #[]] wq fun e w' => e = .returned (.bool B) ∧ Below wq.heap.size wq w') := fun wq hb => equalF65 ns ns' _ _ wq (h.still hb) (h'.still hb) B hB
  have b1 : Box ((w.alloc (.cells #[u, r] 27)).alloc (.cells #[u', r'] 27)) w.heap.size 27 [u, r] := (Box.new w 27 [u, r]).still (bel_alloc _ _)
  have b2 : Box ((w.alloc (.cells #[u, r] 27)).alloc (.cells #[u', r'] 27)) (w.heap.size + 1) 27 [u', r'] := by
    have := Box.new (w.alloc (.cells #[u, r] 27)) 27 [u', r']
    simpa using this
  have HX := (show Hid _ from (⟨b1, b2⟩ : _ ∧ _)); clear b1 b2
  obtain ⟨a1, c1, rfl, _⟩ := h.form
  obtain ⟨a3, c3, rfl, _⟩ := h'.form
  obtain ⟨a2, l2, c2, rfl⟩ := h2.form
  obtain ⟨a4, l4, c4, rfl⟩ := h2'.form
  clear h h' h2 h2' hb2
  generalize decide (rs = rs') = D at *
  go_enter Try.func37, Try.ntmps37
  go_wp2_with fail
  refine Calls.mono HE1.out ?_
  rintro e w1 ⟨rfl, hb1⟩
  have x1 := HX.out.1.still hb1
  have x2 := HX.out.2.still hb1
  have t0 : w1.cell? ⟨w.heap.size, 0, none⟩ = some (.slice a1 ns.length c1) := x1.cell 0 (by simp)
  have t1 : w1.cell? ⟨w.heap.size + 1, 0, none⟩ = some (.slice a3 ns'.length c3) := x2.cell 0 (by simp)
  have HB1 := (show Hid _ from bel_trans HB2.out hb1)
  clear x1 x2 hb1
  cases D with
  | false =>
    go_wp2_with fail
    go_ret
    exact ⟨rfl, HB1.out⟩
  | true =>
    go_wp2_with fail
    refine Calls.mono (HE2.out w1 HB1.out) ?_
    rintro e w3 ⟨rfl, hb3⟩
    have HB3 := (show Hid _ from bel_trans HB1.out hb3)
    clear hb3
    go_wp2_with fail
    go_ret
    exact ⟨by simp, HB3.out⟩
end Go.Proofs.Ytofobmdljelmgaa
