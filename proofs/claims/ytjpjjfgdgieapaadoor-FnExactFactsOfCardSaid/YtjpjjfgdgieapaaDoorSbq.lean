import Derived.Test.YtjpjjfgdgieapaaDoorSbo
/-! The specification's BnfOK: what its loops tell; the place of a text, at its very number. -/
namespace Go.Proofs.YtjpjjfgdgieapaaDoor
open Go.RowKit Go.Deep
set_option linter.unusedVariables false
set_option maxRecDepth 100000
set_option linter.unusedSimpArgs false

theorem first_of (P : Nat → Prop) : ∀ n, P n → ∃ r, r ≤ n ∧ P r ∧ ∀ i, i < r → ¬ P i := by
  intro n
  induction n using Nat.strongRecOn with
  | _ n ih =>
    intro hn
    by_cases h : ∃ i, i < n ∧ P i
    · obtain ⟨i, hi, hp⟩ := h
      obtain ⟨r, hr, h1, h2⟩ := ih i hi hp
      exact ⟨r, by omega, h1, h2⟩
    · exact ⟨n, Nat.le_refl _, hn, fun i hi hp => h ⟨i, hi, hp⟩⟩
/-- The first place of what stands at j. -/
structure FstB (l : List ByteArray) (j r : Nat) : Prop where
  le : r ≤ j
  eq : l.getD r ByteArray.empty = l.getD j ByteArray.empty
  min : ∀ i, i < r → l.getD i ByteArray.empty ≠ l.getD j ByteArray.empty
theorem FstB.ex (l : List ByteArray) (j : Nat) : ∃ r, FstB l j r := by
  obtain ⟨r, h1, h2, h3⟩ := first_of (fun i => l.getD i ByteArray.empty = l.getD j ByteArray.empty) j rfl
  exact ⟨r, h1, h2, h3⟩
theorem FstB.again {l : List ByteArray} {j r : Nat} (h : FstB l j r) (hj : j < l.length) (hr : r ≠ j) : l[j] ∈ l.take j := by
  have h1 := h.le
  have h2 := h.eq
  rw [getD_lt _ _ hj, getD_lt _ _ (by omega)] at h2
  rw [← h2]
  exact List.mem_iff_getElem.2 ⟨r, by rw [List.length_take]; omega, by rw [List.getElem_take]⟩
theorem FstB.new {l : List ByteArray} {j r : Nat} (h : FstB l j r) (hj : j < l.length) (hr : r = j) : l[j] ∉ l.take j := by
  subst hr
  intro hm
  obtain ⟨i, hi, e⟩ := List.mem_iff_getElem.1 hm
  rw [List.length_take] at hi
  rw [List.getElem_take] at e
  have := h.min i (by omega)
  rw [getD_lt _ _ hj, getD_lt _ _ (by omega)] at this
  exact this e
set_option maxHeartbeats 800000 in
theorem l03At_is {S : Nat → Prop} (l : List ByteArray) (v : Value) (w : World) (h : Strs w S l v) (j : Nat) (hj : j < l.length) (r : Nat) (hf : FstB l j r) :
    Calls Tryd.prog 47 #[v, .string l[j]] w fun e w' => e = .returned (.int .i64 r) ∧ w' = w := by
  obtain ⟨a, cap, b, off, rfl, hc, hm, ha, hcell⟩ := h
  have HC := (show Hid _ from hcell); clear hcell
  have HA := (show Hid _ from ha); clear ha
  have HF := (show Hid _ from hf)
  have hrj := hf.le
  clear hf
  unfold maxLen at hm
  go_enter Tryd.func47, Tryd.ntmps47
  go_wp2_with fail
  go_loopw [5] (fun i wr => ∃ k : Nat, i = .int .i64 k ∧ k ≤ r ∧ wr = w) (fun i _ => l.length - (intOf i).toNat)
  case atStart => exact ⟨0, rfl, Nat.zero_le _, rfl⟩
  case round =>
    obtain ⟨k, rfl, hk, rfl⟩ := hrel
    have hkl : k < l.length := by omega
    obtain ⟨rfl, _⟩ := HA.out (by omega)
    have c0 := (HC.out k hkl).1
    by_cases he : l[k] = l[j]
    · have HP : Hid (k = r) := by
        show k = r
        refine Decidable.byContradiction fun hne => ?_
        have := HF.out.min k (by omega)
        rw [getD_lt _ _ hj, getD_lt _ _ hkl] at this
        exact this he
      rw [he] at c0
      clear he
      go_wp2_with fail
      go_ret
      exact ⟨by rw [HP.out]; rfl, rfl⟩
    · have hkr : k < r := by
        refine Nat.lt_of_le_of_ne hk fun e => he ?_
        have := HF.out.eq
        rw [getD_lt _ _ hj, getD_lt _ _ (by omega)] at this
        subst e; exact this
      have hbe := ne_bytes he
      clear he
      go_wp2_with fail
      exact ⟨⟨k + 1, by go_num, by omega, trivial⟩, by simp [intOf]; omega⟩

theorem bn_no_st {d : Bn} (i : Nat) (hi : i < d.terms.length) (h : stB d.terms[i].lev d.terms[i].asc = false) : bnB d = false := by
  have : d.terms.all (fun t => stB t.lev t.asc) = false := List.all_eq_false.2 ⟨d.terms[i], List.getElem_mem hi, by simp [h]⟩
  unfold bnB
  simp [this]
theorem bn_no_ap {d : Bn} (k i : Nat) (hk : k < i) (hi : i < d.terms.length) (e : d.terms[k].name = d.terms[i].name) : bnB d = false := by
  have : apB (d.terms.map (·.name)) = false := by
    unfold apB
    rw [decide_eq_false_iff_not]
    intro hn
    have := List.pairwise_iff_getElem.1 hn k i (by simp; omega) (by simpa using hi) hk
    simp only [List.getElem_map] at this
    exact this e
  unfold bnB
  simp [this]
theorem bn_no_nn {d : Bn} (j : Nat) (hj : j < d.nons.length) (h : d.nons[j] ∈ d.nons.take j) : bnB d = false := by
  have : apB d.nons = false := by
    unfold apB
    rw [decide_eq_false_iff_not]
    intro hn
    obtain ⟨i, hi, e⟩ := List.mem_iff_getElem.1 h
    rw [List.length_take] at hi
    rw [List.getElem_take] at e
    exact List.pairwise_iff_getElem.1 hn i j (by omega) hj (by omega) e
  unfold bnB
  simp [this]
theorem bn_no_pd {d : Bn} (i : Nat) (hi : i < d.prods.length) (h : pdB d.terms.length d.nons.length d.prods[i] = false) : bnB d = false := by
  have : d.prods.all (pdB d.terms.length d.nons.length) = false := List.all_eq_false.2 ⟨d.prods[i], List.getElem_mem hi, by simp [h]⟩
  unfold bnB
  simp [this]
theorem bn_yes {d : Bn} (hz : szB d = true) (h1 : ∀ i (hi : i < d.terms.length), stB d.terms[i].lev d.terms[i].asc = true) (h2 : ∀ k i (hk : k < i) (hi : i < d.terms.length), d.terms[k].name ≠ d.terms[i].name)
    (h3 : ∀ j (hj : j < d.nons.length), d.nons[j] ∉ d.nons.take j) (h4 : ∀ i (hi : i < d.prods.length), pdB d.terms.length d.nons.length d.prods[i] = true) : bnB d = true := by
  have e1 : d.terms.all (fun t => stB t.lev t.asc) = true := by
    rw [List.all_eq_true]
    intro x hx
    obtain ⟨i, hi, rfl⟩ := List.mem_iff_getElem.1 hx
    exact h1 i hi
  have e2 : apB (d.terms.map (·.name)) = true := by
    unfold apB
    rw [decide_eq_true_iff]
    refine List.pairwise_iff_getElem.2 fun k i hk hi hki => ?_
    simp only [List.getElem_map]
    exact h2 k i hki (by simpa using hi)
  have e3 : apB d.nons = true := by
    unfold apB
    rw [decide_eq_true_iff]
    refine List.pairwise_iff_getElem.2 fun k i hk hi hki e => h3 i hi ?_
    rw [← e]
    exact List.mem_iff_getElem.2 ⟨k, by rw [List.length_take]; omega, by rw [List.getElem_take]⟩
  have e4 : d.prods.all (pdB d.terms.length d.nons.length) = true := by
    rw [List.all_eq_true]
    intro x hx
    obtain ⟨i, hi, rfl⟩ := List.mem_iff_getElem.1 hx
    exact h4 i hi
  unfold bnB
  rw [hz, e1, e2, e3, e4]
  rfl
end Go.Proofs.YtjpjjfgdgieapaaDoor

/-! The specification's BnfOK, whole. -/
namespace Go.Proofs.YtjpjjfgdgieapaaDoor
open Go.RowKit Go.Deep
set_option linter.unusedVariables false
set_option maxRecDepth 100000
set_option linter.unusedSimpArgs false

theorem bel_drewS {B : Nat} {a w : World} (h : Below B a w) (n : Nat) : Below B a (w.drewN n) := h.trans ⟨rfl, rfl, rfl, Nat.le_refl _, fun _ _ => rfl⟩
set_option maxHeartbeats 3200000 in
theorem sBnf_yes {S : Nat → Prop} (d : Bn) (v0 v1 v3 : Value) (w : World) (h : BLies w S d v0 v1 v3) (hz : szB d = true) :
    Calls Tryd.prog 16 #[.agg #[v0, v1, .int .i64 d.own, v3]] w fun e w' => e = .returned (.bool (bnB d)) ∧ Below w.heap.size w w' := by
  have HB := (show Hid _ from fun (x a b : Int) (w : World) => between_any x a b w)
  have HST := (show Hid _ from fun (l a : Int) (w : World) => strength_s l a w)
  have hq := four_box w v0 v1 (.int .i64 d.own) v3 38
  have hb0 := bel_alloc w (.cells #[v0, v1, .int .i64 d.own, v3] 38)
  have h' := h.still hb0
  have HNS := (show Hid _ from h'.nons)
  obtain ⟨a0, p0, b0, o0, rfl, hc0, hm0, ha0, hcell0⟩ := h'.terms
  obtain ⟨a1, p1, b1, o1, rfl, hc1, hm1, ha1, hcell1⟩ := h'.nons
  obtain ⟨a3, p3, b3, o3, sv, rfl, hc3, hm3, ha3, hcell3, hr3⟩ := h'.prods
  have H0 := (show Hid _ from (⟨ha0, hcell0⟩ : _ ∧ _))
  have H1 := (show Hid _ from (⟨ha1, hcell1⟩ : _ ∧ _))
  have H3 := (show Hid _ from (⟨ha3, hcell3, hr3⟩ : _ ∧ _ ∧ _))
  have HQ := (show Hid _ from hq)
  have HB0 := (show Hid _ from hb0)
  obtain ⟨q0, q1, q2, q3⟩ := hq
  clear h h' ha0 hcell0 ha1 hcell1 ha3 hcell3 hr3 hb0
  unfold maxLen at hm0 hm1 hm3
  have HZ := (show Hid _ from hz)
  simp only [szB, decide_eq_true_eq] at hz
  obtain ⟨k1, k2, k3, k4, k5, k6⟩ := hz
  have e2 : wiB d.nons.length 1 100 = true := by simp [wiB]; omega
  have e3 : wiB d.own 1 d.nons.length = true := by simp [wiB]; omega
  generalize hW : w.alloc (.cells #[.slice a0 d.terms.length p0, .slice a1 d.nons.length p1, .int .i64 d.own, .slice a3 d.prods.length p3] 38) = W at *
  have HW := (show Hid _ from hW)
  rw [← hW] at q0 q1 q2 q3
  clear hW
  go_enter Tryd.func16, Tryd.ntmps16
  go_wp2_with fail
  refine Calls.mono (HB.out _ _ _ _) ?_
  rintro e w1 ⟨rfl, rfl⟩
  rw [e2]
  go_wp2_with fail
  refine Calls.mono (HB.out _ _ _ _) ?_
  rintro e w1 ⟨rfl, rfl⟩
  rw [e3]
  go_wp2_with fail
  clear q0 q1 q2 q3 e2 e3
  go_loopw [3, 4] (fun i k wr => ∃ j : Nat, i = .int .i64 j ∧ j ≤ d.terms.length ∧ Below W.heap.size W wr ∧
    Hid ((∀ i (hi : i < d.terms.length), i < j → stB d.terms[i].lev d.terms[i].asc = true) ∧ ∀ k i (hk : k < i) (hi : i < d.terms.length), i < j → d.terms[k].name ≠ d.terms[i].name)) (fun i _ _ => d.terms.length - (intOf i).toNat)
  case atStart =>
    exact ⟨0, rfl, Nat.zero_le _, by rw [HW.out]; exact Below.refl _ _, fun i hi h0 => absurd h0 (Nat.not_lt_zero _), fun k i hk hi h0 => absurd h0 (Nat.not_lt_zero _)⟩
  case round =>
    obtain ⟨j, rfl, hj, hbel, HX⟩ := hrel
    obtain ⟨q0, q1, q2, q3⟩ := Four.still HQ.out hbel
    by_cases hlt : j < d.terms.length
    · obtain ⟨rfl, _⟩ := H0.out.1 (by omega)
      obtain ⟨c0, c1, c2, hs⟩ := H0.out.2 j hlt
      rw [← hbel.cell (lt_of_cell c0)] at c0
      rw [← hbel.cell (lt_of_cell c1)] at c1
      rw [← hbel.cell (lt_of_cell c2)] at c2
      have HSJ := (show Hid _ from fun w => HST.out d.terms[j].lev d.terms[j].asc w)
      have hbb : ∀ m, Below w.heap.size w (wr.drewN m) := fun m => bel_drewS (bel_trans HB0.out hbel) m
      cases hst : stB d.terms[j].lev d.terms[j].asc
      · have HF := (show Hid _ from bn_no_st j hlt hst)
        rw [hst] at HSJ
        clear hst
        go_wp2_with fail
        go_quiet ((go_at_call 46; refine Calls.quiet_of_same (HSJ.out _)))
        go_wp2_with fail
        go_ret
        exact ⟨by rw [HF.out]; rfl, hbb _⟩
      · rw [hst] at HSJ
        have HS1 := (show Hid _ from hst)
        clear hst
        go_wp2_with fail
        go_quiet ((go_at_call 46; refine Calls.quiet_of_same (HSJ.out _)))
        have hbW : ∀ m, Below W.heap.size W (wr.drewN m) := fun m => bel_drewS hbel m
        go_wp2_with fail
        clear q0 q1 q2 q3 c0 c1 c2 hbb
        go_loopw [4] (fun i wq => ∃ k : Nat, i = .int .i64 k ∧ k ≤ j ∧ Below W.heap.size W wq ∧ Hid (∀ i (hi : i < d.terms.length), i < k → d.terms[i].name ≠ d.terms[j].name)) (fun i _ => j - (intOf i).toNat)
        case atStart => exact ⟨0, rfl, Nat.zero_le _, hbW _, fun i hi h0 => absurd h0 (Nat.not_lt_zero _)⟩
        case round =>
          clear hbW hbel
          obtain ⟨k, rfl, hk, hbq, HK⟩ := hrel
          obtain ⟨q0, q1, q2, q3⟩ := Four.still HQ.out hbq
          by_cases hkj : k < j
          · obtain ⟨c0, c1, c2, hs⟩ := H0.out.2 j hlt
            rw [← hbq.cell (lt_of_cell c0)] at c0
            have hkl : k < d.terms.length := by omega
            obtain ⟨y0, _, _, _⟩ := H0.out.2 k hkl
            rw [← hbq.cell (lt_of_cell y0)] at y0
            clear c1 c2
            have hbb : ∀ m, Below w.heap.size w (wr.drewN m) := fun m => bel_drewS (bel_trans HB0.out hbq) m
            have hbW : ∀ m, Below W.heap.size W (wr.drewN m) := fun m => bel_drewS hbq m
            by_cases he : d.terms[k].name = d.terms[j].name
            · have HF := (show Hid _ from bn_no_ap k j hkj hlt he)
              rw [he] at y0
              clear he
              go_wp2_with fail
              go_quiet (fail)
              go_wp2_with fail
              go_ret
              exact ⟨by rw [HF.out]; rfl, hbb _⟩
            · have HN : Hid (∀ i (hi : i < d.terms.length), i < k + 1 → d.terms[i].name ≠ d.terms[j].name) := fun i hi hik => by
                by_cases e : i = k
                · subst e; exact he
                · exact HK.out i hi (by omega)
              have hbe := ne_bytes he
              clear he
              go_wp2_with fail
              go_quiet (fail)
              go_wp2_with fail
              exact ⟨⟨k + 1, by go_num, by omega, hbW _, HN⟩, by simp [intOf]; omega⟩
          · have hkj' : k = j := by omega
            have HN : Hid ((∀ i (hi : i < d.terms.length), i < j + 1 → stB d.terms[i].lev d.terms[i].asc = true) ∧ ∀ k i (hk : k < i) (hi : i < d.terms.length), i < j + 1 → d.terms[k].name ≠ d.terms[i].name) := by
              refine ⟨fun i hi hij => ?_, fun q i hq hi hij => ?_⟩
              · by_cases e : i = j
                · subst e; exact HS1.out
                · exact HX.out.1 i hi (by omega)
              · by_cases e : i = j
                · subst e; exact HK.out q (by omega) (by omega)
                · exact HX.out.2 q i hq hi (by omega)
            clear hkj'
            go_wp2_with fail
            exact ⟨⟨j + 1, by go_num, by omega, hbq, HN⟩, by simp [intOf]; omega⟩
    · have HT1 := (show Hid _ from fun i hi => HX.out.1 i hi (by omega))
      have HT2 := (show Hid _ from fun k i hk hi => HX.out.2 k i hk hi (by omega))
      clear HX
      go_wp2_with fail
      clear q0 q1 q2 q3
      go_loopw [5] (fun i wr => ∃ j : Nat, i = .int .i64 j ∧ j ≤ d.nons.length ∧ Below W.heap.size W wr ∧ Hid (∀ i (hi : i < d.nons.length), i < j → d.nons[i] ∉ d.nons.take i)) (fun i _ => d.nons.length - (intOf i).toNat)
      case atStart => exact ⟨0, rfl, Nat.zero_le _, hbel, fun i hi h0 => absurd h0 (Nat.not_lt_zero _)⟩
      case round =>
        clear hbel
        obtain ⟨n, rfl, hn, hbel, HX⟩ := hrel
        obtain ⟨q0, q1, q2, q3⟩ := Four.still HQ.out hbel
        by_cases hln : n < d.nons.length
        · have hln' := hln
          obtain ⟨rfl, _⟩ := H1.out.1 (by omega)
          obtain ⟨c0, _⟩ := H1.out.2 n hln'
          rw [← hbel.cell (lt_of_cell c0)] at c0
          obtain ⟨r, hfr⟩ := FstB.ex d.nons n
          have HAT := (show Hid _ from fun (m : Nat) => l03At_is d.nons _ (wr.drewN m) (Strs.still HNS.out (bel_drewS hbel m)) n hln' r hfr)
          have hbb : ∀ m, Below w.heap.size w (wr.drewN m) := fun m => bel_drewS (bel_trans HB0.out hbel) m
          have hbW : ∀ m, Below W.heap.size W (wr.drewN m) := fun m => bel_drewS hbel m
          by_cases he : r = n
          · have HN : Hid (∀ i (hi : i < d.nons.length), i < n + 1 → d.nons[i] ∉ d.nons.take i) := fun i hi hik => by
              by_cases e : i = n
              · subst e; exact hfr.new hi he
              · exact HX.out i hi (by omega)
            have hne : ((r : Int) != n) = false := by simp; omega
            clear hfr he
            go_wp2_with fail
            go_quiet ((go_at_call 47; refine Calls.quiet_of_same (HAT.out _)))
            go_wp2_with fail
            exact ⟨⟨n + 1, by go_num, by omega, hbW _, HN⟩, by simp [intOf]; omega⟩
          · have HF := (show Hid _ from bn_no_nn n hln' (hfr.again hln' he))
            have hne : ((r : Int) != n) = true := by simp; omega
            clear hfr he
            go_wp2_with fail
            go_quiet ((go_at_call 47; refine Calls.quiet_of_same (HAT.out _)))
            go_wp2_with fail
            go_ret
            exact ⟨by rw [HF.out]; rfl, hbb _⟩
        · have HN1 := (show Hid _ from fun i hi => HX.out i hi (by omega))
          clear HX
          go_wp2_with fail
          clear q0 q1 q2 q3
          go_loopw [7] (fun i wr => ∃ j : Nat, i = .int .i64 j ∧ j ≤ d.prods.length ∧ Below W.heap.size W wr ∧ Hid (∀ i (hi : i < d.prods.length), i < j → pdB d.terms.length d.nons.length d.prods[i] = true)) (fun i _ => d.prods.length - (intOf i).toNat)
          case atStart => exact ⟨0, rfl, Nat.zero_le _, hbel, fun i hi h0 => absurd h0 (Nat.not_lt_zero _)⟩
          case round =>
            clear hbel
            obtain ⟨p, rfl, hp, hbel, HX⟩ := hrel
            obtain ⟨q0, q1, q2, q3⟩ := Four.still HQ.out hbel
            by_cases hlp : p < d.prods.length
            · have hlp' := hlp
              obtain ⟨rfl, _⟩ := H3.out.1 (by omega)
              obtain ⟨c0, c1, c2, c3, c4, hs⟩ := H3.out.2.1 p hlp'
              rw [← hbel.cell (lt_of_cell c0)] at c0
              rw [← hbel.cell (lt_of_cell c1)] at c1
              rw [← hbel.cell (lt_of_cell c2)] at c2
              rw [← hbel.cell (lt_of_cell c3)] at c3
              rw [← hbel.cell (lt_of_cell c4)] at c4
              have hI := (H3.out.2.2 p hlp').still hbel
              have hF : Hid (pdB d.terms.length d.nons.length d.prods[p] = false → bnB d = false) := fun hh => bn_no_pd p hlp' hh
              have HN : Hid (pdB d.terms.length d.nons.length d.prods[p] = true → ∀ i (hi : i < d.prods.length), i < p + 1 → pdB d.terms.length d.nons.length d.prods[i] = true) := fun hh i hi hik => by
                by_cases e : i = p
                · subst e; exact hh
                · exact HX.out i hi (by omega)
              generalize d.prods[p] = P at *
              obtain ⟨ar, cr, br, orr, e2, hcr, hmr, har, hcellr⟩ := hI
              rw [e2] at c1
              have HR := (show Hid _ from (⟨har, hcellr⟩ : _ ∧ _)); clear har hcellr e2
              have HM := (show Hid _ from fun (w' : World) => sName P.label hs w')
              have HS := (show Hid _ from fun (w' : World) => strength_s P.lev P.asc w')
              have HL := (show Hid _ from fun (w' : World) => between_any P.left d.terms.length ((d.terms.length : Int) + d.nons.length - 1) w')
              have hE := isEmpty_iff P.label
              have HBW := (show Hid _ from (⟨fun o => bel_trans hbel (bel_alloc wr o), fun o => bel_trans (bel_trans HB0.out hbel) (bel_alloc wr o)⟩ : (∀ o, Below W.heap.size W (wr.alloc o)) ∧ ∀ o, Below w.heap.size w (wr.alloc o)))
              obtain ⟨z0, z1, z2, z3⟩ := (Four.still HQ.out hbel).still (bel_alloc wr (.cells #[.int .i64 P.left, .slice ar P.right.length cr, .string P.label, .int .i64 P.lev, .int .i64 P.asc] 82))
              clear hbel
              unfold maxLen at hmr
              by_cases d1 : wiB P.left d.terms.length ((d.terms.length : Int) + d.nons.length - 1) = true
              case neg =>
                have HNo : Hid (pdB d.terms.length d.nons.length P = false) := by
                  show pdB _ _ P = false
                  unfold pdB
                  rw [Bool.eq_false_iff.2 d1, Bool.false_and]
                rw [Bool.eq_false_iff.2 d1] at HL
                clear d1
                go_wp2_with fail
                refine Calls.mono (HL.out _) ?_
                rintro e w1 ⟨rfl, rfl⟩
                go_wp2_with fail
                go_ret
                exact ⟨by rw [hF.out HNo.out]; rfl, HBW.out.2 _⟩
              have D1 := (show Hid _ from d1)
              rw [d1] at HL
              clear d1
              by_cases d2 : P.right.length ≤ 12
              case neg =>
                have HNo : Hid (pdB d.terms.length d.nons.length P = false) := by
                  show pdB _ _ P = false
                  unfold pdB
                  rw [decide_eq_false d2, Bool.false_and, Bool.and_false]
                go_wp2_with fail
                refine Calls.mono (HL.out _) ?_
                rintro e w1 ⟨rfl, rfl⟩
                go_wp2_with fail
                go_ret
                exact ⟨by rw [hF.out HNo.out]; rfl, HBW.out.2 _⟩
              by_cases d3 : P.label.size = 0
              · have LAB : Hid ((decide (P.label.size = 0) || nmB P.label) = true) := by
                  show (decide (P.label.size = 0) || nmB P.label) = true
                  rw [decide_eq_true d3, Bool.true_or]
                rw [decide_eq_true d3] at hE
                clear d3
                cases hst : stB P.lev P.asc
                · have HNo : Hid (pdB d.terms.length d.nons.length P = false) := by
                    show pdB _ _ P = false
                    unfold pdB
                    rw [hst]
                    simp only [Bool.and_false]
                  rw [hst] at HS
                  clear hst
                  go_wp2_with fail
                  refine Calls.mono (HL.out _) ?_
                  rintro e w1 ⟨rfl, rfl⟩
                  go_wp2_with fail

                  refine Calls.mono (HS.out _) ?_
                  rintro e w1 ⟨rfl, rfl⟩
                  go_wp2_with fail
                  go_ret
                  exact ⟨by rw [hF.out HNo.out]; rfl, HBW.out.2 _⟩
                · have D5 := (show Hid _ from hst)
                  rw [hst] at HS
                  clear hst
                  go_wp2_with fail
                  refine Calls.mono (HL.out _) ?_
                  rintro e w1 ⟨rfl, rfl⟩
                  go_wp2_with fail

                  refine Calls.mono (HS.out _) ?_
                  rintro e w1 ⟨rfl, rfl⟩
                  go_wp2_with fail
                  go_loopw [9] (fun i wq => ∃ k : Nat, i = .int .i64 k ∧ k ≤ P.right.length ∧ wq = wr.alloc (.cells #[.int .i64 P.left, .slice ar P.right.length cr, .string P.label, .int .i64 P.lev, .int .i64 P.asc] 82) ∧ Hid (∀ i (hi : i < P.right.length), i < k → wiB P.right[i] 0 ((d.terms.length : Int) + d.nons.length - 1) = true)) (fun i _ => P.right.length - (intOf i).toNat)
                  case atStart => exact ⟨0, rfl, Nat.zero_le _, by trivial, fun i hi h0 => absurd h0 (Nat.not_lt_zero _)⟩
                  case round =>
                    obtain ⟨k, rfl, hk, rfl, HK⟩ := hrel
                    by_cases hlk : k < P.right.length
                    · have hlk' := hlk
                      obtain ⟨rfl, _⟩ := HR.out.1 (by omega)
                      have y0 := HR.out.2 k hlk'
                      have y1 := ((bel_alloc wr (.cells #[.int .i64 P.left, .slice (some ⟨br, orr, none⟩) P.right.length cr, .string P.label, .int .i64 P.lev, .int .i64 P.asc] 82)).cell (lt_of_cell y0)).trans y0
                      have HLK := (show Hid _ from fun (w' : World) => between_any P.right[k] 0 ((d.terms.length : Int) + d.nons.length - 1) w')
                      cases hwi : wiB P.right[k] 0 ((d.terms.length : Int) + d.nons.length - 1)
                      · have HNo : Hid (pdB d.terms.length d.nons.length P = false) := by
                          show pdB _ _ P = false
                          have : P.right.all (fun x => wiB x 0 ((d.terms.length : Int) + d.nons.length - 1)) = false := List.all_eq_false.2 ⟨P.right[k], List.getElem_mem hlk', by simp [hwi]⟩
                          unfold pdB
                          rw [this, Bool.false_and, Bool.and_false, Bool.and_false]
                        rw [hwi] at HLK
                        clear hwi
                        go_wp2_with fail
                        refine Calls.mono (HLK.out _) ?_
                        rintro e w1 ⟨rfl, rfl⟩
                        go_wp2_with fail
                        go_ret
                        exact ⟨by rw [hF.out HNo.out]; rfl, HBW.out.2 _⟩
                      · have HK2 : Hid (∀ i (hi : i < P.right.length), i < k + 1 → wiB P.right[i] 0 ((d.terms.length : Int) + d.nons.length - 1) = true) := fun i hi hik => by
                          by_cases e : i = k
                          · subst e; exact hwi
                          · exact HK.out i hi (by omega)
                        rw [hwi] at HLK
                        clear hwi
                        go_wp2_with fail
                        refine Calls.mono (HLK.out _) ?_
                        rintro e w1 ⟨rfl, rfl⟩
                        go_wp2_with fail
                        exact ⟨⟨k + 1, by go_num, by omega, by trivial, HK2⟩, by simp [intOf]; omega⟩
                    · have HYes : Hid (pdB d.terms.length d.nons.length P = true) := by
                        show pdB _ _ P = true
                        have : P.right.all (fun x => wiB x 0 ((d.terms.length : Int) + d.nons.length - 1)) = true := by
                          rw [List.all_eq_true]
                          intro x hx
                          obtain ⟨i, hi, rfl⟩ := List.mem_iff_getElem.1 hx
                          exact HK.out i hi (by omega)
                        unfold pdB
                        rw [this, D1.out, decide_eq_true d2, LAB.out, D5.out]
                        rfl
                      go_wp2_with fail
                      exact ⟨⟨p + 1, by go_num, by omega, HBW.out.1 _, HN.out HYes.out⟩, by simp [intOf]; omega⟩
              · rw [decide_eq_false d3] at hE
                cases hnm : nmB P.label
                · have HNo : Hid (pdB d.terms.length d.nons.length P = false) := by
                    show pdB _ _ P = false
                    unfold pdB
                    rw [hnm, decide_eq_false d3]
                    simp only [Bool.or_self, Bool.false_and, Bool.and_false]
                  rw [hnm] at HM
                  clear hnm d3
                  go_wp2_with fail
                  refine Calls.mono (HL.out _) ?_
                  rintro e w1 ⟨rfl, rfl⟩
                  go_wp2_with fail
                  refine Calls.mono (HM.out _) ?_
                  rintro e w1 ⟨rfl, rfl⟩
                  go_wp2_with fail
                  go_ret
                  exact ⟨by rw [hF.out HNo.out]; rfl, HBW.out.2 _⟩
                · have LAB : Hid ((decide (P.label.size = 0) || nmB P.label) = true) := by
                    show (decide (P.label.size = 0) || nmB P.label) = true
                    rw [hnm, Bool.or_true]
                  rw [hnm] at HM
                  clear hnm d3
                  cases hst : stB P.lev P.asc
                  · have HNo : Hid (pdB d.terms.length d.nons.length P = false) := by
                      show pdB _ _ P = false
                      unfold pdB
                      rw [hst]
                      simp only [Bool.and_false]
                    rw [hst] at HS
                    clear hst
                    go_wp2_with fail
                    refine Calls.mono (HL.out _) ?_
                    rintro e w1 ⟨rfl, rfl⟩
                    go_wp2_with fail
                    refine Calls.mono (HM.out _) ?_
                    rintro e w1 ⟨rfl, rfl⟩
                    go_wp2_with fail
                    refine Calls.mono (HS.out _) ?_
                    rintro e w1 ⟨rfl, rfl⟩
                    go_wp2_with fail
                    go_ret
                    exact ⟨by rw [hF.out HNo.out]; rfl, HBW.out.2 _⟩
                  · have D5 := (show Hid _ from hst)
                    rw [hst] at HS
                    clear hst
                    go_wp2_with fail
                    refine Calls.mono (HL.out _) ?_
                    rintro e w1 ⟨rfl, rfl⟩
                    go_wp2_with fail
                    refine Calls.mono (HM.out _) ?_
                    rintro e w1 ⟨rfl, rfl⟩
                    go_wp2_with fail
                    refine Calls.mono (HS.out _) ?_
                    rintro e w1 ⟨rfl, rfl⟩
                    go_wp2_with fail
                    go_loopw [9] (fun i wq => ∃ k : Nat, i = .int .i64 k ∧ k ≤ P.right.length ∧ wq = wr.alloc (.cells #[.int .i64 P.left, .slice ar P.right.length cr, .string P.label, .int .i64 P.lev, .int .i64 P.asc] 82) ∧ Hid (∀ i (hi : i < P.right.length), i < k → wiB P.right[i] 0 ((d.terms.length : Int) + d.nons.length - 1) = true)) (fun i _ => P.right.length - (intOf i).toNat)
                    case atStart => exact ⟨0, rfl, Nat.zero_le _, by trivial, fun i hi h0 => absurd h0 (Nat.not_lt_zero _)⟩
                    case round =>
                      obtain ⟨k, rfl, hk, rfl, HK⟩ := hrel
                      by_cases hlk : k < P.right.length
                      · have hlk' := hlk
                        obtain ⟨rfl, _⟩ := HR.out.1 (by omega)
                        have y0 := HR.out.2 k hlk'
                        have y1 := ((bel_alloc wr (.cells #[.int .i64 P.left, .slice (some ⟨br, orr, none⟩) P.right.length cr, .string P.label, .int .i64 P.lev, .int .i64 P.asc] 82)).cell (lt_of_cell y0)).trans y0
                        have HLK := (show Hid _ from fun (w' : World) => between_any P.right[k] 0 ((d.terms.length : Int) + d.nons.length - 1) w')
                        cases hwi : wiB P.right[k] 0 ((d.terms.length : Int) + d.nons.length - 1)
                        · have HNo : Hid (pdB d.terms.length d.nons.length P = false) := by
                            show pdB _ _ P = false
                            have : P.right.all (fun x => wiB x 0 ((d.terms.length : Int) + d.nons.length - 1)) = false := List.all_eq_false.2 ⟨P.right[k], List.getElem_mem hlk', by simp [hwi]⟩
                            unfold pdB
                            rw [this, Bool.false_and, Bool.and_false, Bool.and_false]
                          rw [hwi] at HLK
                          clear hwi
                          go_wp2_with fail
                          refine Calls.mono (HLK.out _) ?_
                          rintro e w1 ⟨rfl, rfl⟩
                          go_wp2_with fail
                          go_ret
                          exact ⟨by rw [hF.out HNo.out]; rfl, HBW.out.2 _⟩
                        · have HK2 : Hid (∀ i (hi : i < P.right.length), i < k + 1 → wiB P.right[i] 0 ((d.terms.length : Int) + d.nons.length - 1) = true) := fun i hi hik => by
                            by_cases e : i = k
                            · subst e; exact hwi
                            · exact HK.out i hi (by omega)
                          rw [hwi] at HLK
                          clear hwi
                          go_wp2_with fail
                          refine Calls.mono (HLK.out _) ?_
                          rintro e w1 ⟨rfl, rfl⟩
                          go_wp2_with fail
                          exact ⟨⟨k + 1, by go_num, by omega, by trivial, HK2⟩, by simp [intOf]; omega⟩
                      · have HYes : Hid (pdB d.terms.length d.nons.length P = true) := by
                          show pdB _ _ P = true
                          have : P.right.all (fun x => wiB x 0 ((d.terms.length : Int) + d.nons.length - 1)) = true := by
                            rw [List.all_eq_true]
                            intro x hx
                            obtain ⟨i, hi, rfl⟩ := List.mem_iff_getElem.1 hx
                            exact HK.out i hi (by omega)
                          unfold pdB
                          rw [this, D1.out, decide_eq_true d2, LAB.out, D5.out]
                          rfl
                        go_wp2_with fail
                        exact ⟨⟨p + 1, by go_num, by omega, HBW.out.1 _, HN.out HYes.out⟩, by simp [intOf]; omega⟩
            · have HY : Hid (bnB d = true) := bn_yes HZ.out HT1.out HT2.out HN1.out (fun i hi => HX.out i hi (by omega))
              have hbw := bel_trans HB0.out hbel
              go_wp2_with fail
              go_ret
              exact ⟨by rw [HY.out]; rfl, hbw⟩
end Go.Proofs.YtjpjjfgdgieapaaDoor
