import Derived.Test.YtkkcdkfmlamgcaaUe
/-! The program's sameDag: nodes by slices.EqualFunc. -/
namespace Go.Proofs.Ytkkcdkfmlamgcaa
open Go.RowKit Go.Deep
set_option linter.unusedVariables false
set_option maxRecDepth 100000
set_option linter.unusedSimpArgs false

set_option maxHeartbeats 3200000 in
theorem equalF65 {S S' : Nat → Prop} (l l' : List Rd) (v v' : Value) (w : World) (h : Rds w S l v) (h' : Rds w S' l' v') (B : Bool) (hT : B = true ↔ l = l') :
    Calls Try.prog 38 #[v, v', .func (.func 39) #[] #[]] w fun e w' => e = .returned (.bool B) ∧ Below w.heap.size w w' := by
  obtain ⟨a, cap, b, off, sv, rfl, hc, hm, ha, hcell, hz, hr⟩ := h
  obtain ⟨a', cap', b', off', sv', rfl, hc', hm', ha', hcell', hz', hr'⟩ := h'
  unfold maxLen at hm hm'
  have HT := (show Hid _ from hT); clear hT
  by_cases hlen : l.length = l'.length
  · have i0 : ((l.length : Int) != (l'.length : Int)) = false := by simp; omega
    have HD := (show Hid _ from (⟨ha, hcell, hr⟩ : _ ∧ _ ∧ _)); clear ha hcell hr hz
    have HD' := (show Hid _ from (⟨ha', hcell', hr'⟩ : _ ∧ _ ∧ _)); clear ha' hcell' hr' hz'
    have HL := (show Hid _ from hlen)
    clear hlen
    go_enter Try.func38, Try.ntmps38
    go_wp2_with fail
    go_loopw [17] (fun i wr => ∃ j : Nat, i = .int .i64 j ∧ j ≤ l.length ∧ Hid (Below w.heap.size w wr ∧ ∀ i (h1 : i < l.length) (h2 : i < l'.length), i < j → l[i] = l'[i])) (fun i _ => l.length - (intOf i).toNat)
    case atStart => exact ⟨0, rfl, Nat.zero_le _, Below.refl _ _, fun i _ _ h => absurd h (Nat.not_lt_zero _)⟩
    case round =>
      obtain ⟨j, rfl, hj, HJ⟩ := hrel
      by_cases hlt : j < l.length
      · have hlt' : j < l'.length := by rw [← HL.out]; exact hlt
        obtain ⟨rfl, _⟩ := HD.out.1 (by omega)
        obtain ⟨rfl, _⟩ := HD'.out.1 (by omega)
        obtain ⟨d0, d1, d2, d3⟩ := HD.out.2.1 j hlt
        obtain ⟨f0, f1, f2, f3⟩ := HD'.out.2.1 j hlt'
        rw [← HJ.out.1.cell (lt_of_cell d0)] at d0
        rw [← HJ.out.1.cell (lt_of_cell d1)] at d1
        rw [← HJ.out.1.cell (lt_of_cell d2)] at d2
        rw [← HJ.out.1.cell (lt_of_cell d3)] at d3
        rw [← HJ.out.1.cell (lt_of_cell f0)] at f0
        rw [← HJ.out.1.cell (lt_of_cell f1)] at f1
        rw [← HJ.out.1.cell (lt_of_cell f2)] at f2
        rw [← HJ.out.1.cell (lt_of_cell f3)] at f3
        have hI4 := (HD.out.2.2 j hlt).still HJ.out.1
        have hI5 := (HD'.out.2.2 j hlt').still HJ.out.1
        obtain ⟨a4, l4, p4, e4⟩ := hI4.form
        obtain ⟨a5, l5, p5, e5⟩ := hI5.form
        rw [e4] at d3 hI4
        rw [e5] at f3 hI5
        have HCL := (show Hid (∀ wq, Below wr.heap.size wr wq → Calls Try.prog 39 #[.agg #[.string l[j].nm, .string l[j].tx, .bool l[j].lf, .slice a4 l4 p4], .agg #[.string l'[j].nm, .string l'[j].tx, .bool l'[j].lf, .slice a5 l5 p5]] wq fun e w' => e = .returned (.bool (rdB l[j] l'[j])) ∧ Below wq.heap.size wq w') from fun wq hb => sameNode66 l[j] l'[j] _ _ wq (hI4.still hb) (hI5.still hb))
        have HE1 : Hid (rdB l[j] l'[j] = true → ∀ i (h1 : i < l.length) (h2 : i < l'.length), i < j + 1 → l[i] = l'[i]) := fun h i h1 h2 h3 => by
          by_cases e : i = j
          · subst e; exact rdB_iff.1 h
          · exact HJ.out.2 i h1 h2 (by omega)
        have HE2 : Hid (rdB l[j] l'[j] = false → B = false) := fun h => by
          cases hB : B with
          | false => rfl
          | true =>
            have e := HT.out.1 hB
            subst e
            have : rdB l[j] l[j] = true := rdB_iff.2 rfl
            rw [h] at this
            exact absurd this Bool.false_ne_true
        have hg : (((wr.alloc (.cells #[.string l[j].nm, .string l[j].tx, .bool l[j].lf, .slice a4 l4 p4] 34)).cell? ⟨b', off' + j * 4, none⟩ = some (.string l'[j].nm)) ∧ ((wr.alloc (.cells #[.string l[j].nm, .string l[j].tx, .bool l[j].lf, .slice a4 l4 p4] 34)).cell? ⟨b', off' + j * 4 + 1, none⟩ = some (.string l'[j].tx)) ∧ ((wr.alloc (.cells #[.string l[j].nm, .string l[j].tx, .bool l[j].lf, .slice a4 l4 p4] 34)).cell? ⟨b', off' + j * 4 + 2, none⟩ = some (.bool l'[j].lf)) ∧ (wr.alloc (.cells #[.string l[j].nm, .string l[j].tx, .bool l[j].lf, .slice a4 l4 p4] 34)).cell? ⟨b', off' + j * 4 + 3, none⟩ = some (.slice a5 l5 p5)) := by
          have hba := bel_alloc wr (.cells #[.string l[j].nm, .string l[j].tx, .bool l[j].lf, .slice a4 l4 p4] 34)
          exact ⟨(hba.cell (lt_of_cell f0)).trans f0, (hba.cell (lt_of_cell f1)).trans f1, (hba.cell (lt_of_cell f2)).trans f2, (hba.cell (lt_of_cell f3)).trans f3⟩
        obtain ⟨g0, g1, g2, g3⟩ := hg
        have q1 : (0 : Int) ≤ (j : Int) := by omega
        have q2 : (j : Int) < (l.length : Int) := by omega
        have q3 : (j : Int) < (l'.length : Int) := by omega
        have HJb := (show Hid _ from HJ.out.1)
        clear hI4 hI5 f0 f1 f2 f3 HJ e4 e5
        generalize rdB l[j] l'[j] = bq at *
        generalize l[j].nm = y0 at *
        generalize l[j].tx = y1 at *
        generalize l[j].lf = y2 at *
        generalize l'[j].nm = z0 at *
        generalize l'[j].tx = z1 at *
        generalize l'[j].lf = z2 at *
        go_wp2_with fail
        refine Calls.mono (HCL.out _ ((bel_alloc _ _).alloc (by simp) _)) ?_
        rintro e w1 ⟨rfl, hb1⟩
        have HB1 := (show Hid _ from bel_trans (bel_trans HJb.out ((bel_alloc wr (.cells #[.string y0, .string y1, .bool y2, .slice a4 l4 p4] 34)).alloc (by simp) (.cells #[.string z0, .string z1, .bool z2, .slice a5 l5 p5] 34))) hb1)
        clear hb1 g0 g1 g2 g3 d0 d1 d2 d3 HCL
        cases bq with
        | false =>
          have HF := (show Hid _ from HE2.out rfl)
          go_wp2_with fail
          go_ret
          exact ⟨by rw [HF.out]; rfl, HB1.out⟩
        | true =>
          go_wp2_with fail
          exact ⟨⟨j + 1, by go_num, by omega, HB1.out, (by first | exact HE1.out rfl | exact HE1.out trivial)⟩, by simp [intOf]; omega⟩
      · have HN := (show Hid (B = true) from HT.out.2 (List.ext_getElem HL.out (fun i h1 h2 => HJ.out.2 i h1 h2 (by omega))))
        have HB1 := (show Hid _ from HJ.out.1)
        go_wp2_with fail
        go_ret
        exact ⟨by rw [HN.out]; rfl, HB1.out⟩
  · have i0 : ((l.length : Int) != (l'.length : Int)) = true := by simp; omega
    have HN := (show Hid (B = false) from by
      show B = false
      cases hB : B with
      | false => rfl
      | true => have e := HT.out.1 hB; subst e; exact absurd rfl hlen)
    clear hcell hcell' ha ha' hlen hr hr' hz hz'
    go_enter Try.func38, Try.ntmps38
    go_wp2_with fail
    go_ret
    exact ⟨by rw [HN.out]; rfl, Below.refl _ _⟩
end Go.Proofs.Ytkkcdkfmlamgcaa

/-! The program's sameDag. -/
namespace Go.Proofs.Ytkkcdkfmlamgcaa
open Go.RowKit Go.Deep
set_option linter.unusedVariables false
set_option maxRecDepth 100000
set_option linter.unusedSimpArgs false

set_option maxHeartbeats 1600000 in
theorem sameDag54 {S S' T T' : Nat → Prop} (ns ns' : List Rd) (rs rs' : List Int) (u r u' r' : Value) (w : World) (h : Rds w S ns u) (h2 : Ints w T rs r) (h' : Rds w S' ns' u') (h2' : Ints w T' rs' r') (B : Bool) (hB : B = true ↔ ns = ns') :
    Calls Try.prog 26 #[.agg #[u, r], .agg #[u', r']] w fun e w' => e = .returned (.bool (decide (rs = rs') && B)) ∧ Below w.heap.size w w' := by
  have hb2 : Below w.heap.size w ((w.alloc (.cells #[u, r] 27)).alloc (.cells #[u', r'] 27)) := (bel_alloc _ _).alloc (by simp) _
  have HB2 := (show Hid _ from hb2)
  have HE1 : Hid (Calls Try.prog 37 #[r, r'] ((w.alloc (.cells #[u, r] 27)).alloc (.cells #[u', r'] 27)) fun e w' => e = .returned (.bool (decide (rs = rs'))) ∧ Below ((w.alloc (.cells #[u, r] 27)).alloc (.cells #[u', r'] 27)).heap.size ((w.alloc (.cells #[u, r] 27)).alloc (.cells #[u', r'] 27)) w') := equal64 rs rs' _ _ _ (h2.still hb2) (h2'.still hb2)
  have HE2 : Hid (∀ wq, Below w.heap.size w wq → Calls Try.prog 38 #[u, u', .func (.func 39) #[] #[]] wq fun e w' => e = .returned (.bool B) ∧ Below wq.heap.size wq w') := fun wq hb => equalF65 ns ns' _ _ wq (h.still hb) (h'.still hb) B hB
  have b1 : Box ((w.alloc (.cells #[u, r] 27)).alloc (.cells #[u', r'] 27)) w.heap.size 27 [u, r] := (Box.new w 27 [u, r]).still (bel_alloc _ _)
  have b2 : Box ((w.alloc (.cells #[u, r] 27)).alloc (.cells #[u', r'] 27)) (w.heap.size + 1) 27 [u', r'] := by
    have := Box.new (w.alloc (.cells #[u, r] 27)) 27 [u', r']
    simpa using this
  have HX := (show Hid _ from (⟨b1, b2⟩ : _ ∧ _)); clear b1 b2
  obtain ⟨a1, c1, rfl, _⟩ := h.form
  obtain ⟨a3, c3, rfl, _⟩ := h'.form
  obtain ⟨a2, l2, c2, rfl⟩ := h2.form
  obtain ⟨a4, l4, c4, rfl⟩ := h2'.form
  clear h h' h2 h2' hb2
  generalize decide (rs = rs') = D at *
  go_enter Try.func26, Try.ntmps26
  go_wp2_with fail
  refine Calls.mono HE1.out ?_
  rintro e w1 ⟨rfl, hb1⟩
  have x1 := HX.out.1.still hb1
  have x2 := HX.out.2.still hb1
  have t0 : w1.cell? ⟨w.heap.size, 0, none⟩ = some (.slice a1 ns.length c1) := x1.cell 0 (by simp)
  have t1 : w1.cell? ⟨w.heap.size + 1, 0, none⟩ = some (.slice a3 ns'.length c3) := x2.cell 0 (by simp)
  have HB1 := (show Hid _ from bel_trans HB2.out hb1)
  clear x1 x2 hb1
  cases D with
  | false =>
    go_wp2_with fail
    go_ret
    exact ⟨rfl, HB1.out⟩
  | true =>
    go_wp2_with fail
    refine Calls.mono (HE2.out w1 HB1.out) ?_
    rintro e w3 ⟨rfl, hb3⟩
    have HB3 := (show Hid _ from bel_trans HB1.out hb3)
    clear hb3
    go_wp2_with fail
    go_ret
    exact ⟨by simp, HB3.out⟩
end Go.Proofs.Ytkkcdkfmlamgcaa
