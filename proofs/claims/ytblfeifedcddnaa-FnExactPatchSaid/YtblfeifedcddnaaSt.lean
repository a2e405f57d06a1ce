import Derived.Test.YtblfeifedcddnaaPn
/-! The program: sameTree. -/
namespace Go.Proofs.Ytblfeifedcddnaa
open Go.RowKit Go.Deep Go.Lib
set_option linter.unusedVariables false
set_option maxRecDepth 100000
set_option linter.unusedSimpArgs false

/-- Two rows of trees, by slices.EqualFunc with sameTree. -/
theorem equalF98 {S S' : Nat → Prop} (k k' : List Tr) (a1 a2 : Option Addr) (cap1 cap2 b1 off1 b2 off2 : Nat) (sv1 sv2 : Nat → Value) (w : World)
    (hm1 : k.length ≤ 9223372036854775807) (hm2 : k'.length ≤ 9223372036854775807) (ha1 : 0 < k.length → a1 = some ⟨b1, off1, none⟩) (ha2 : 0 < k'.length → a2 = some ⟨b2, off2, none⟩)
    (hc1 : ∀ i (hi : i < k.length), w.cell? ⟨b1, off1 + i * 4, none⟩ = some (.string k[i].name) ∧ w.cell? ⟨b1, off1 + i * 4 + 1, none⟩ = some (.string k[i].text) ∧ w.cell? ⟨b1, off1 + i * 4 + 2, none⟩ = some (.bool k[i].leaf) ∧ w.cell? ⟨b1, off1 + i * 4 + 3, none⟩ = some (sv1 i))
    (hc2 : ∀ i (hi : i < k'.length), w.cell? ⟨b2, off2 + i * 4, none⟩ = some (.string k'[i].name) ∧ w.cell? ⟨b2, off2 + i * 4 + 1, none⟩ = some (.string k'[i].text) ∧ w.cell? ⟨b2, off2 + i * 4 + 2, none⟩ = some (.bool k'[i].leaf) ∧ w.cell? ⟨b2, off2 + i * 4 + 3, none⟩ = some (sv2 i))
    (hk1 : ∀ i (hi : i < k.length), Lies w S k[i] (sv1 i)) (hk2 : ∀ i (hi : i < k'.length), Lies w S' k'[i] (sv2 i))
    (ih : ∀ i (hi : i < k.length) (u : Tr) (v v' : Value) (w : World), Lies w S k[i] v → Lies w S' u v' → Calls Try.prog 126 #[k[i].val v, u.val v'] w fun e w' => e = .returned (.bool (eqT k[i] u)) ∧ Below w.heap.size w w') (B : Bool) (hT : B = true ↔ k = k') :
    Calls Try.prog 142 #[.slice a1 k.length cap1, .slice a2 k'.length cap2, .func (.func 126) #[] #[]] w fun e w' => e = .returned (.bool B) ∧ Below w.heap.size w w' := by
  have HT := (show Hid _ from hT); clear hT
  have HI := (show Hid _ from ih); clear ih
  by_cases hlen : k.length = k'.length
  · have i0 : ((k.length : Int) != (k'.length : Int)) = false := by simp; omega
    have HD := (show Hid _ from (⟨ha1, hc1, hk1⟩ : _ ∧ _ ∧ _)); clear ha1 hc1 hk1
    have HD' := (show Hid _ from (⟨ha2, hc2, hk2⟩ : _ ∧ _ ∧ _)); clear ha2 hc2 hk2
    have HL := (show Hid _ from hlen)
    clear hlen
    go_enter Try.func142, Try.ntmps142
    go_wp2_with fail
    go_loopw [17] (fun i wr => ∃ j : Nat, i = .int .i64 j ∧ j ≤ k.length ∧ Hid (Below w.heap.size w wr ∧ ∀ i (h1 : i < k.length) (h2 : i < k'.length), i < j → k[i] = k'[i])) (fun i _ => k.length - (intOf i).toNat)
    case atStart => exact ⟨0, rfl, Nat.zero_le _, Below.refl _ _, fun i _ _ h => absurd h (Nat.not_lt_zero _)⟩
    case round =>
      obtain ⟨j, rfl, hj, HJ⟩ := hrel
      by_cases hlt : j < k.length
      · have hlt' : j < k'.length := by rw [← HL.out]; exact hlt
        obtain rfl := HD.out.1 (by omega)
        obtain rfl := HD'.out.1 (by omega)
        obtain ⟨d0, d1, d2, d3⟩ := HD.out.2.1 j hlt
        obtain ⟨f0, f1, f2, f3⟩ := HD'.out.2.1 j hlt'
        rw [← HJ.out.1.cell (lt_of_cell d0)] at d0
        rw [← HJ.out.1.cell (lt_of_cell d1)] at d1
        rw [← HJ.out.1.cell (lt_of_cell d2)] at d2
        rw [← HJ.out.1.cell (lt_of_cell d3)] at d3
        rw [← HJ.out.1.cell (lt_of_cell f0)] at f0
        rw [← HJ.out.1.cell (lt_of_cell f1)] at f1
        rw [← HJ.out.1.cell (lt_of_cell f2)] at f2
        rw [← HJ.out.1.cell (lt_of_cell f3)] at f3
        have hI4 := (HD.out.2.2 j hlt).still HJ.out.1
        have hI5 := (HD'.out.2.2 j hlt').still HJ.out.1
        obtain ⟨a4, l4, p4, e4⟩ := hI4.form
        obtain ⟨a5, l5, p5, e5⟩ := hI5.form
        rw [e4] at d3 hI4
        rw [e5] at f3 hI5
        have HCL := (show Hid (∀ wq, Below wr.heap.size wr wq → Calls Try.prog 126 #[.agg #[.string k[j].name, .string k[j].text, .bool k[j].leaf, .slice a4 l4 p4], .agg #[.string k'[j].name, .string k'[j].text, .bool k'[j].leaf, .slice a5 l5 p5]] wq fun e w' => e = .returned (.bool (eqT k[j] k'[j])) ∧ Below wq.heap.size wq w') from fun wq hb => HI.out j hlt k'[j] _ _ wq (hI4.still hb) (hI5.still hb))
        have HE1 : Hid (eqT k[j] k'[j] = true → ∀ i (h1 : i < k.length) (h2 : i < k'.length), i < j + 1 → k[i] = k'[i]) := fun h i h1 h2 h3 => by
          by_cases e : i = j
          · subst e; exact (eqT_iff _ _).1 h
          · exact HJ.out.2 i h1 h2 (by omega)
        have HE2 : Hid (eqT k[j] k'[j] = false → B = false) := fun h => by
          cases hB : B with
          | false => rfl
          | true =>
            have e := HT.out.1 hB
            subst e
            have : eqT k[j] k[j] = true := (eqT_iff _ _).2 rfl
            rw [h] at this
            exact absurd this Bool.false_ne_true
        have hg : (((wr.alloc (.cells #[.string k[j].name, .string k[j].text, .bool k[j].leaf, .slice a4 l4 p4] 51)).cell? ⟨b2, off2 + j * 4, none⟩ = some (.string k'[j].name)) ∧ ((wr.alloc (.cells #[.string k[j].name, .string k[j].text, .bool k[j].leaf, .slice a4 l4 p4] 51)).cell? ⟨b2, off2 + j * 4 + 1, none⟩ = some (.string k'[j].text)) ∧ ((wr.alloc (.cells #[.string k[j].name, .string k[j].text, .bool k[j].leaf, .slice a4 l4 p4] 51)).cell? ⟨b2, off2 + j * 4 + 2, none⟩ = some (.bool k'[j].leaf)) ∧ (wr.alloc (.cells #[.string k[j].name, .string k[j].text, .bool k[j].leaf, .slice a4 l4 p4] 51)).cell? ⟨b2, off2 + j * 4 + 3, none⟩ = some (.slice a5 l5 p5)) := by
          have hba := bel_alloc wr (.cells #[.string k[j].name, .string k[j].text, .bool k[j].leaf, .slice a4 l4 p4] 51)
          exact ⟨(hba.cell (lt_of_cell f0)).trans f0, (hba.cell (lt_of_cell f1)).trans f1, (hba.cell (lt_of_cell f2)).trans f2, (hba.cell (lt_of_cell f3)).trans f3⟩
        obtain ⟨g0, g1, g2, g3⟩ := hg
        have q1 : (0 : Int) ≤ (j : Int) := by omega
        have q2 : (j : Int) < (k.length : Int) := by omega
        have q3 : (j : Int) < (k'.length : Int) := by omega
        have HJb := (show Hid _ from HJ.out.1)
        clear hI4 hI5 f0 f1 f2 f3 HJ e4 e5
        generalize eqT k[j] k'[j] = bq at *
        generalize k[j].name = y0 at *
        generalize k[j].text = y1 at *
        generalize k[j].leaf = y2 at *
        generalize k'[j].name = z0 at *
        generalize k'[j].text = z1 at *
        generalize k'[j].leaf = z2 at *
        go_wp2_with fail
        refine Calls.mono (HCL.out _ ((bel_alloc _ _).alloc (by simp) _)) ?_
        rintro e w1 ⟨rfl, hb1⟩
        have HB1 := (show Hid _ from bel_trans (bel_trans HJb.out ((bel_alloc wr (.cells #[.string y0, .string y1, .bool y2, .slice a4 l4 p4] 51)).alloc (by simp) (.cells #[.string z0, .string z1, .bool z2, .slice a5 l5 p5] 51))) hb1)
        clear hb1 g0 g1 g2 g3 d0 d1 d2 d3 HCL
        cases bq with
        | false =>
          have HF := (show Hid _ from HE2.out rfl)
          go_wp2_with fail
          go_ret
          exact ⟨by rw [HF.out]; rfl, HB1.out⟩
        | true =>
          go_wp2_with fail
          exact ⟨⟨j + 1, by go_num, by omega, HB1.out, (by first | exact HE1.out rfl | exact HE1.out trivial)⟩, by simp [intOf]; omega⟩
      · have HN := (show Hid (B = true) from HT.out.2 (List.ext_getElem HL.out (fun i h1 h2 => HJ.out.2 i h1 h2 (by omega))))
        have HB1 := (show Hid _ from HJ.out.1)
        go_wp2_with fail
        go_ret
        exact ⟨by rw [HN.out]; rfl, HB1.out⟩
  · have i0 : ((k.length : Int) != (k'.length : Int)) = true := by simp; omega
    have HN := (show Hid (B = false) from by
      show B = false
      cases hB : B with
      | false => rfl
      | true => have e := HT.out.1 hB; subst e; exact absurd rfl hlen)
    clear hc1 hc2 ha1 ha2 hlen hk1 hk2
    go_enter Try.func142, Try.ntmps142
    go_wp2_with fail
    go_ret
    exact ⟨by rw [HN.out]; rfl, Below.refl _ _⟩
set_option maxHeartbeats 1600000 in
theorem same109 {S S' : Nat → Prop} (t : Tr) : ∀ (u : Tr) (v v' : Value) (w : World), Lies w S t v → Lies w S' u v' →
    Calls Try.prog 126 #[t.val v, u.val v'] w fun e w' => e = .returned (.bool (eqT t u)) ∧ Below w.heap.size w w' := by
  refine Tr.ind (P := fun t => ∀ (u : Tr) (v v' : Value) (w : World), Lies w S t v → Lies w S' u v' → Calls Try.prog 126 #[t.val v, u.val v'] w fun e w' => e = .returned (.bool (eqT t u)) ∧ Below w.heap.size w w') ?_ t
  intro n x l k ih u v v' w h1 h2
  obtain ⟨n', x', l', k'⟩ := u
  have HEQ := (show Hid (eqT ⟨n, x, l, k⟩ ⟨n', x', l', k'⟩ = true ↔ (⟨n, x, l, k⟩ : Tr) = ⟨n', x', l', k'⟩) from eqT_iff _ _)
  have HNO := (show Hid (¬ (n = n' ∧ x = x' ∧ l = l' ∧ k = k') → eqT ⟨n, x, l, k⟩ ⟨n', x', l', k'⟩ = false) from fun h => eqT_no (fun e => h (by simpa [Tr.mk.injEq] using e)))
  obtain ⟨a1, cap1, b1, off1, sv1, rfl, _, _, hc1, hm1, ha1, hcell1, hk1⟩ := h1.out
  obtain ⟨a2, cap2, b2, off2, sv2, rfl, _, _, hc2, hm2, ha2, hcell2, hk2⟩ := h2.out
  dsimp only at hc1 ha1 hcell1 hk1 hc2 ha2 hcell2 hk2 ⊢
  unfold maxLen at hm1 hm2
  simp only [Tr.val]
  have hb2 : Below w.heap.size w ((w.alloc (.cells #[.string n, .string x, .bool l, .slice a1 k.length cap1] 51)).alloc (.cells #[.string n', .string x', .bool l', .slice a2 k'.length cap2] 51)) := (bel_alloc _ _).alloc (by simp) _
  have HB2 := (show Hid _ from hb2)
  have HC := (show Hid (∀ B : Bool, (B = true ↔ k = k') → ∀ wq : World, Below w.heap.size w wq → Calls Try.prog 142 #[.slice a1 k.length cap1, .slice a2 k'.length cap2, .func (.func 126) #[] #[]] wq fun e w' => e = .returned (.bool B) ∧ Below wq.heap.size wq w') from fun B hB wq hb => by
    have mv : ∀ {b o : Nat} {v : Value}, w.cell? ⟨b, o, none⟩ = some v → wq.cell? ⟨b, o, none⟩ = some v := fun h => (hb.cell (lt_of_cell h)).trans h
    refine equalF98 k k' a1 a2 cap1 cap2 b1 off1 b2 off2 sv1 sv2 wq (by omega) (by omega) (fun h => (ha1 h).1) (fun h => (ha2 h).1) (fun i hi => ?_) (fun i hi => ?_) (fun i hi => (hk1 i hi).still hb) (fun i hi => (hk2 i hi).still hb) ih B hB
    · obtain ⟨c0, c1, c2, c3⟩ := hcell1 i hi
      exact ⟨mv c0, mv c1, mv c2, mv c3⟩
    · obtain ⟨c0, c1, c2, c3⟩ := hcell2 i hi
      exact ⟨mv c0, mv c1, mv c2, mv c3⟩)
  clear h1 h2 hb2 ih hcell1 hcell2 hk1 hk2 ha1 ha2
  generalize eqT ⟨n, x, l, k⟩ ⟨n', x', l', k'⟩ = R at *
  by_cases e1 : n = n'
  case neg =>
    have hd := ne_bytes e1
    have HF := (show Hid (R = false) from HNO.out (fun h => e1 h.1))
    clear e1 HNO HEQ HC
    go_enter Try.func126, Try.ntmps126
    go_wp2_with fail
    go_ret
    exact ⟨by rw [HF.out]; rfl, HB2.out⟩
  subst e1
  by_cases e2 : x = x'
  case neg =>
    have hd := ne_bytes e2
    have HF := (show Hid (R = false) from HNO.out (fun h => e2 h.2.1))
    clear e2 HNO HEQ HC
    go_enter Try.func126, Try.ntmps126
    go_wp2_with fail
    go_ret
    exact ⟨by rw [HF.out]; rfl, HB2.out⟩
  subst e2
  by_cases e3 : l = l'
  case neg =>
    have hd : (l == l') = false := by simpa using e3
    have HF := (show Hid (R = false) from HNO.out (fun h => e3 h.2.2.1))
    clear e3 HNO HEQ HC
    go_enter Try.func126, Try.ntmps126
    go_wp2_with fail
    go_ret
    exact ⟨by rw [HF.out]; rfl, HB2.out⟩
  subst e3
  have HCC := (show Hid _ from HC.out R (HEQ.out.trans (by simp)) _ HB2.out)
  clear HC HEQ HNO
  go_enter Try.func126, Try.ntmps126
  go_wp2_with fail
  refine Calls.mono HCC.out ?_
  rintro e w1 ⟨rfl, hb1⟩
  have HE := (show Hid _ from bel_trans HB2.out hb1)
  clear hb1 HCC
  go_wp2_with fail
  go_ret
  exact ⟨rfl, HE.out⟩
end Go.Proofs.Ytblfeifedcddnaa
