import Derived.Test.YtgjnlhidbjpdkajGreatG9
/-! The specification's GrammarOK. -/
namespace Go.Proofs.YtgjnlhidbjpdkajGreat
open Go.RowKit Go.Deep
set_option linter.unusedVariables false
set_option maxRecDepth 100000
set_option linter.unusedSimpArgs false

set_option maxHeartbeats 800000 in
theorem items_off {S : Nat → Prop} (nm v1 v2 v3 vp : Value) (g : Nat) (items : List Int) (v : Value) (below : Int) (e : Nat) (w : World) (hI : Ints w S items v) (hB : WBx w g nm v1 v2 v3 vp e false) :
    Calls Tryz.prog 35 #[.pointer (some ⟨g, 0, none⟩), v, .int .i64 below] w fun en w' => en = .returned (.tuple #[]) ∧ w' = w := by
  obtain ⟨a, cap, rfl, hm⟩ := hI.form
  have x6 : w.cell? ⟨g, 6, none⟩ = some (.bool false) := hB.cell 6 (by simp)
  clear hI hB
  unfold maxLen at hm
  go_enter Tryz.func35, Tryz.ntmps35
  go_wp2_with fail
  go_loopw [6] (fun i wr => i = .int .i64 ((0 : Nat) : Int) ∧ wr = w) (fun i _ => 0)
  case atStart => exact ⟨rfl, rfl⟩
  case round =>
    obtain ⟨rfl, rfl⟩ := hrel
    by_cases hl : 0 < items.length
    · go_wp2_with fail
      refine bodyPost_end (v := .tuple #[]) (by simp [results, Tryz.results35]) rfl ?_
      exact ⟨rfl, rfl⟩
    · go_wp2_with fail
      refine bodyPost_end (v := .tuple #[]) (by simp [results, Tryz.results35]) rfl ?_
      exact ⟨rfl, rfl⟩
theorem itemsC {S : Nat → Prop} (parts : List DPart) (nm v1 v2 v3 vp : Value) (g : Nat) (hS : ∀ b, S b → b ≠ g) (hpl : parts.length ≤ 200) (items : List Int) (v : Value) (e : Nat) (ok : Bool) (w : World) (hI : Ints w S items v) (hP : PartR w S parts vp) (hB : WBx w g nm v1 v2 v3 vp e ok) (he : ok = true → e ≤ 200) :
    Calls Tryz.prog 35 #[.pointer (some ⟨g, 0, none⟩), v, .int .i64 parts.length] w fun en w' => en = .returned (.tuple #[]) ∧ Bt g w w' ∧ ∃ (e' : Nat) (ok' : Bool), WBx w' g nm v1 v2 v3 vp e' ok' ∧ (ok' = true → ok = true ∧ its parts parts.length items parts.length e = some e' ∧ e' ≤ 200) ∧ (ok' = false → ok = false ∨ its parts parts.length items parts.length e = none) := by
  cases ok
  · refine (items_off nm v1 v2 v3 vp g items v parts.length e w hI hB).mono ?_
    rintro en w' ⟨rfl, rfl⟩
    exact ⟨rfl, Bt.refl _ _, e, false, hB, fun h => (by cases h), fun _ => .inl rfl⟩
  · refine (items_any parts nm v1 v2 v3 vp g hS hpl parts.length items v parts.length e w (by omega) (by omega) (by omega) hI hP hB (he rfl)).mono ?_
    rintro en w' ⟨rfl, hA, ht, hl⟩
    rcases hA with ⟨e', hr, hb⟩ | ⟨hr, z, _, hb⟩
    · exact ⟨rfl, ht, e', true, hb, fun _ => ⟨rfl, hr, hl e' hr⟩, fun h => by cases h⟩
    · exact ⟨rfl, ht, z, false, hb, fun h => (by cases h), fun _ => .inr hr⟩
theorem sp_no_tok {d : DGrammar} {j : Nat} (h : j < d.tokens.length) (hb : tokB d.tokens[j] = false) : spB d = false := by
  have : d.tokens.all tokB = false := List.all_eq_false.2 ⟨_, List.getElem_mem h, by simp [hb]⟩
  unfold spB
  simp [this]
theorem sp_no_lev {d : DGrammar} {j : Nat} (h : j < d.levels.length) (hb : levB d.levels[j] = false) : spB d = false := by
  have : d.levels.all levB = false := List.all_eq_false.2 ⟨_, List.getElem_mem h, by simp [hb]⟩
  unfold spB
  simp [this]
theorem sp_no_rul {d : DGrammar} {j : Nat} (h : j < d.rules.length) (hb : rulB d.rules[j] = false) : spB d = false := by
  have : d.rules.all rulB = false := List.all_eq_false.2 ⟨_, List.getElem_mem h, by simp [hb]⟩
  unfold spB
  simp [this]
theorem sp_is {d : DGrammar} (h0 : fitB d = true) (h1 : ownB d.name = true) (h2 : ∀ i (hi : i < d.tokens.length), tokB d.tokens[i] = true) (h3 : ∀ i (hi : i < d.levels.length), levB d.levels[i] = true) (h4 : ∀ i (hi : i < d.rules.length), rulB d.rules[i] = true) : spB d = decide (sRules d.parts d.rules 0 = some d.parts.length) := by
  have q2 : d.tokens.all tokB = true := List.all_eq_true.2 fun x hx => by obtain ⟨i, hi, rfl⟩ := List.mem_iff_getElem.1 hx; exact h2 i hi
  have q3 : d.levels.all levB = true := List.all_eq_true.2 fun x hx => by obtain ⟨i, hi, rfl⟩ := List.mem_iff_getElem.1 hx; exact h3 i hi
  have q4 : d.rules.all rulB = true := List.all_eq_true.2 fun x hx => by obtain ⟨i, hi, rfl⟩ := List.mem_iff_getElem.1 hx; exact h4 i hi
  unfold spB
  rw [h0, h1, q2, q3, q4]
  simp
set_option maxHeartbeats 12800000 in
theorem sGr_any {S : Nat → Prop} (d : DGrammar) (v1 v2 v3 v4 : Value) (w : World) (h : DGrammarL w S d v1 v2 v3 v4) (hnm : d.name.size ≤ maxLen) :
    Calls Tryz.prog 13 #[.agg #[.string d.name, v1, v2, v3, v4]] w fun e w' => e = .returned (.bool (spB d)) ∧ Below w.heap.size w w' := by
  have h' := h.top
  have HPL := (show Hid _ from fun (s : ByteArray) (hs : s.size ≤ maxLen) (w : World) => plain_any s hs w)
  have HRX := (show Hid _ from fun (s : ByteArray) (hs : s.size ≤ maxLen) (w : World) => sRx_any s hs w)
  have HLT := (show Hid _ from fun (s : ByteArray) (hs : s.size ≤ maxLen) (w : World) => sLit_any s hs w)
  have HBT := (show Hid _ from fun (x a b : Int) (w : World) => between_any x a b w)
  have HP := (show Hid _ from h'.parts)
  obtain ⟨a4, p4, rfl, m4⟩ := h.parts.form
  obtain ⟨a1, p1, b1, o1, rfl, hc1, hm1, ha1, hcell1⟩ := h'.tokens
  obtain ⟨a2, p2, b2, o2, s21, rfl, hc2, hm2, ha2, hcell2, r21⟩ := h'.levels
  obtain ⟨a3, p3, b3, o3, s31, rfl, hc3, hm3, ha3, hcell3, r31⟩ := h'.rules
  have HSM := (show Hid _ from fun (w' : World) => small_any d a1 a2 a3 a4 p1 p2 p3 p4 w' (by omega) (by omega) (by omega) m4)
  have H1 := (show Hid _ from (⟨ha1, hcell1⟩ : _ ∧ _))
  have H2 := (show Hid _ from (⟨ha2, hcell2, r21⟩ : _ ∧ _ ∧ _))
  have H3 := (show Hid _ from (⟨ha3, hcell3, r31⟩ : _ ∧ _ ∧ _))
  clear h h' ha1 hcell1 ha2 hcell2 r21 ha3 hcell3 r31
  unfold maxLen at hm1 hm2 hm3 m4
  obtain ⟨W, HW⟩ : ∃ W, Hid (W = w.alloc (.cells #[.string d.name, .slice a1 d.tokens.length p1, .slice a2 d.levels.length p2, .slice a3 d.rules.length p3, .slice a4 d.parts.length p4] 36)) := ⟨_, rfl⟩
  have HB := (show Hid (Box W w.heap.size 36 [.string d.name, .slice a1 d.tokens.length p1, .slice a2 d.levels.length p2, .slice a3 d.rules.length p3, .slice a4 d.parts.length p4] ∧ Below w.heap.size w W ∧ W.heap.size = w.heap.size + 1) from by
    rw [HW.out]
    exact ⟨Box.new w 36 _, bel_alloc _ _, by simp⟩)
  by_cases hfit : fitB d = true
  case neg =>
    have HNo : Hid (spB d = false) := by
      show spB d = false
      unfold spB
      rw [Bool.eq_false_iff.2 hfit, Bool.false_and]
    rw [Bool.eq_false_iff.2 hfit] at HSM
    clear hfit
    go_enter Tryz.func13, Tryz.ntmps13
    go_wp2_with fail
    refine Calls.mono (HSM.out _) ?_
    rintro e x1 ⟨rfl, hb1⟩
    have HB1 := (show Hid _ from bel_trans (bel_alloc _ _) hb1); clear hb1
    go_wp2_with fail
    go_ret
    exact ⟨by rw [HNo.out]; rfl, HB1.out⟩
  have HF := (show Hid _ from hfit)
  have hpl : d.parts.length ≤ 200 := (of_decide_eq_true hfit).2.2.2
  rw [hfit] at HSM
  clear hfit
  have HN0 := (show Hid _ from fun w => HPL.out d.name hnm w)
  by_cases hown : ownB d.name = true
  case neg =>
    have HNo : Hid (spB d = false) := by
      show spB d = false
      unfold spB
      rw [Bool.eq_false_iff.2 hown, Bool.false_and, Bool.and_false]
    rw [Bool.eq_false_iff.2 hown] at HN0
    clear hown
    go_enter Tryz.func13, Tryz.ntmps13
    go_wp2_with fail
    refine Calls.mono (HSM.out _) ?_
    rintro e x1 ⟨rfl, hb1⟩
    have y0 : x1.cell? ⟨w.heap.size, 0, none⟩ = some (.string d.name) := ((Box.new w 36 [.string d.name, .slice a1 d.tokens.length p1, .slice a2 d.levels.length p2, .slice a3 d.rules.length p3, .slice a4 d.parts.length p4]).still hb1).cell 0 (by simp)
    have HB1 := (show Hid _ from bel_trans (bel_alloc _ _) hb1); clear hb1
    go_wp2_with fail
    refine Calls.mono (HN0.out _) ?_
    rintro e x2 ⟨rfl, hb2⟩
    have HB2 := (show Hid _ from bel_trans HB1.out hb2); clear hb2 y0
    go_wp2_with fail
    go_ret
    exact ⟨by rw [HNo.out]; rfl, HB2.out⟩
  have HO := (show Hid _ from hown)
  rw [hown] at HN0
  clear hown
  go_enter Tryz.func13, Tryz.ntmps13
  go_wp2_with fail
  rw [← HW.out]
  refine Calls.mono (HSM.out _) ?_
  rintro e x1 ⟨rfl, hb1⟩
  have y0 : x1.cell? ⟨w.heap.size, 0, none⟩ = some (.string d.name) := (HB.out.1.still hb1).cell 0 (by simp)
  have HB1 := (show Hid _ from hb1); clear hb1
  go_wp2_with fail
  refine Calls.mono (HN0.out _) ?_
  rintro e x2 ⟨rfl, hb2⟩
  have HB2 := (show Hid _ from bel_trans HB1.out hb2); clear hb2 y0
  go_wp2_with fail
  go_loopw [3] (fun i wr => ∃ j : Nat, i = .int .i64 j ∧ j ≤ d.tokens.length ∧ Hid (Below W.heap.size W wr ∧ ∀ i (hi : i < d.tokens.length), i < j → tokB d.tokens[i] = true)) (fun i _ => d.tokens.length - (intOf i).toNat)
  case atStart => exact ⟨0, rfl, Nat.zero_le _, HB2.out, fun i hi h0 => absurd h0 (Nat.not_lt_zero _)⟩
  case round =>
    obtain ⟨j, rfl, hj, HX⟩ := hrel
    have q1 : wr.cell? ⟨w.heap.size, 1, none⟩ = some (.slice a1 d.tokens.length p1) := (HB.out.1.still HX.out.1).cell 1 (by simp)
    by_cases hjl : j < d.tokens.length
    · have hjl' := hjl
      obtain ⟨rfl, hS1⟩ := H1.out.1 (by omega)
      obtain ⟨c0, c1, c2, z0, z1⟩ := H1.out.2 j hjl'
      have hbw := bel_trans HB.out.2.1 HX.out.1
      have e1 := c1
      rw [← hbw.cell (lt_of_cell c0)] at c0
      rw [← hbw.cell (lt_of_cell c1)] at c1
      have HPN := (show Hid _ from fun w => HPL.out d.tokens[j].name z0 w)
      have HPR := (show Hid _ from fun w => HRX.out d.tokens[j].rx z1 w)
      have HE1 := (show Hid _ from e1)
      have HBW := (show Hid _ from hbw)
      clear c2 z0 z1 hS1 e1 hbw
      cases hn1 : ownB d.tokens[j].name
      · have HNo : Hid (spB d = false) := sp_no_tok hjl' (by unfold tokB; rw [hn1]; rfl)
        rw [hn1] at HPN
        clear hn1
        go_wp2_with fail
        refine Calls.mono (HPN.out _) ?_
        rintro e x3 ⟨rfl, hb3⟩
        have HB3 := (show Hid _ from bel_trans HBW.out hb3); clear hb3 q1 c0 c1
        go_wp2_with fail
        go_ret
        exact ⟨by rw [HNo.out]; rfl, HB3.out⟩
      · rw [hn1] at HPN
        cases hn2 : patB d.tokens[j].rx
        · have HNo : Hid (spB d = false) := sp_no_tok hjl' (by unfold tokB; rw [hn2, Bool.and_false])
          rw [hn2] at HPR
          clear hn1 hn2
          go_wp2_with fail
          refine Calls.mono (HPN.out _) ?_
          rintro e x3 ⟨rfl, hb3⟩
          clear q1 c0 c1
          have q1 : x3.cell? ⟨w.heap.size, 1, none⟩ = some (.slice (some ⟨b1, o1, none⟩) d.tokens.length p1) := ((HB.out.1.still HX.out.1).still hb3).cell 1 (by simp)
          have c1 := HE1.out
          rw [← (bel_trans HBW.out hb3).cell (lt_of_cell c1)] at c1
          have HB3 := (show Hid _ from bel_trans HBW.out hb3); clear hb3
          go_wp2_with fail
          refine Calls.mono (HPR.out _) ?_
          rintro e x4 ⟨rfl, rfl⟩
          go_wp2_with fail
          go_ret
          exact ⟨by rw [HNo.out]; rfl, HB3.out⟩
        · have HN : Hid (∀ i (hi : i < d.tokens.length), i < j + 1 → tokB d.tokens[i] = true) := fun i hi hij => by
            by_cases e : i = j
            · subst e; unfold tokB; rw [hn1, hn2]; rfl
            · exact HX.out.2 i hi (by omega)
          rw [hn2] at HPR
          clear hn1 hn2
          go_wp2_with fail
          refine Calls.mono (HPN.out _) ?_
          rintro e x3 ⟨rfl, hb3⟩
          clear q1 c0 c1
          have q1 : x3.cell? ⟨w.heap.size, 1, none⟩ = some (.slice (some ⟨b1, o1, none⟩) d.tokens.length p1) := ((HB.out.1.still HX.out.1).still hb3).cell 1 (by simp)
          have c1 := HE1.out
          rw [← (bel_trans HBW.out hb3).cell (lt_of_cell c1)] at c1
          have HB3 := (show Hid _ from bel_trans HX.out.1 hb3); clear hb3
          go_wp2_with fail
          refine Calls.mono (HPR.out _) ?_
          rintro e x4 ⟨rfl, rfl⟩
          clear q1 c1
          go_wp2_with fail
          exact ⟨⟨j + 1, by go_num, by omega, HB3.out, HN.out⟩, by simp [intOf]; omega⟩
    · have HTK := (show Hid _ from fun i hi => HX.out.2 i hi (by omega))
      have HBa := (show Hid _ from HX.out.1)
      clear HX
      go_wp2_with fail
      clear q1
      go_loopw [4] (fun i wr => ∃ j : Nat, i = .int .i64 j ∧ j ≤ d.levels.length ∧ Hid (Below W.heap.size W wr ∧ ∀ i (hi : i < d.levels.length), i < j → levB d.levels[i] = true)) (fun i _ => d.levels.length - (intOf i).toNat)
      case atStart => exact ⟨0, rfl, Nat.zero_le _, HBa.out, fun i hi h0 => absurd h0 (Nat.not_lt_zero _)⟩
      case round =>
        clear HBa
        obtain ⟨n, rfl, hn, HX⟩ := hrel
        have q2 : wr.cell? ⟨w.heap.size, 2, none⟩ = some (.slice a2 d.levels.length p2) := (HB.out.1.still HX.out.1).cell 2 (by simp)
        by_cases hnl : n < d.levels.length
        · have hnl' := hnl
          obtain ⟨rfl, hS2⟩ := H2.out.1 (by omega)
          obtain ⟨c0, c1⟩ := H2.out.2.1 n hnl'
          have hbw := bel_trans HB.out.2.1 HX.out.1
          rw [← hbw.cell (lt_of_cell c0)] at c0
          rw [← hbw.cell (lt_of_cell c1)] at c1
          have hLI := H2.out.2.2 n hnl'
          obtain ⟨al, cl, bl, ol, el, hcl, hml, hal, hcelll⟩ := hLI
          rw [el] at c1
          have HCL := (show Hid _ from (⟨hal, hcelll⟩ : _ ∧ _)); clear hal hcelll
          have HBW := (show Hid _ from hbw); clear hbw el hS2
          unfold maxLen at hml
          have HBS := (show Hid _ from fun w => HBT.out d.levels[n].assoc 1 3 w)
          have HNO : Hid (levB d.levels[n] = false → spB d = false) := fun hh => sp_no_lev hnl' hh
          have HNX : Hid (levB d.levels[n] = true → ∀ i (hi : i < d.levels.length), i < n + 1 → levB d.levels[i] = true) := fun hh i hi hij => by
            by_cases e : i = n
            · subst e; exact hh
            · exact HX.out.2 i hi (by omega)
          have HBl := (show Hid _ from (⟨fun o => bel_trans HX.out.1 (bel_alloc wr o), fun o => bel_trans HBW.out (bel_alloc wr o)⟩ : (∀ o, Below W.heap.size W (wr.alloc o)) ∧ ∀ o, Below w.heap.size w (wr.alloc o)))
          clear HX
          generalize d.levels[n] = LV at *
          by_cases hw : wiB LV.assoc 1 3 = true
          case neg =>
            have HNo : Hid (spB d = false) := HNO.out (by unfold levB; rw [Bool.eq_false_iff.2 hw, Bool.false_and])
            rw [Bool.eq_false_iff.2 hw] at HBS
            clear hw
            go_wp2_with fail
            refine Calls.mono (HBS.out _) ?_
            rintro e x4 ⟨rfl, rfl⟩
            go_wp2_with fail
            go_ret
            exact ⟨by rw [HNo.out]; rfl, HBl.out.2 _⟩
          have HWI := (show Hid _ from hw)
          rw [hw] at HBS
          clear hw
          by_cases hz : 0 < LV.lits.length
          case neg =>
            have HNo : Hid (spB d = false) := HNO.out (by unfold levB; rw [decide_eq_false hz, Bool.false_and, Bool.and_false])
            have hz2 : ((LV.lits.length : Int) == 0) = true := by rw [beq_iff_eq]; omega
            clear hz
            go_wp2_with fail
            refine Calls.mono (HBS.out _) ?_
            rintro e x4 ⟨rfl, rfl⟩
            go_wp2_with fail
            go_ret
            exact ⟨by rw [HNo.out]; rfl, HBl.out.2 _⟩
          have hz2 : ((LV.lits.length : Int) == 0) = false := by rw [beq_eq_false_iff_ne]; omega
          go_wp2_with fail
          refine Calls.mono (HBS.out _) ?_
          rintro e x4 ⟨rfl, rfl⟩
          go_wp2_with fail
          go_loopw [6] (fun i wq => ∃ k : Nat, i = .int .i64 k ∧ k ≤ LV.lits.length ∧ wq = wr.alloc (.cells #[.int .i64 LV.assoc, .slice al LV.lits.length cl] 49) ∧ Hid (∀ i (hi : i < LV.lits.length), i < k → litB LV.lits[i] = true)) (fun i _ => LV.lits.length - (intOf i).toNat)
          case atStart => exact ⟨0, rfl, Nat.zero_le _, by trivial, fun i hi h0 => absurd h0 (Nat.not_lt_zero _)⟩
          case round =>
            obtain ⟨k, rfl, hk, rfl, HK⟩ := hrel
            by_cases hkl : k < LV.lits.length
            · have hkl' := hkl
              obtain ⟨rfl, hSl⟩ := HCL.out.1 (by omega)
              obtain ⟨f0, zf⟩ := HCL.out.2 k hkl'
              have f1 := f0
              rw [← HBW.out.cell (lt_of_cell f0)] at f0
              rw [← (bel_trans HBW.out (bel_alloc wr (.cells #[.int .i64 LV.assoc, .slice (some ⟨bl, ol, none⟩) LV.lits.length cl] 49))).cell (lt_of_cell f1)] at f1
              have HLI := (show Hid _ from fun w => HLT.out LV.lits[k] zf w)
              clear hSl zf f0 c0 c1 q2
              cases hl1 : litB LV.lits[k]
              · have HNo : Hid (spB d = false) := HNO.out (by
                  have : LV.lits.all litB = false := List.all_eq_false.2 ⟨_, List.getElem_mem hkl', by simp [hl1]⟩
                  unfold levB; rw [this, Bool.and_false, Bool.and_false])
                rw [hl1] at HLI
                clear hl1
                go_wp2_with fail
                refine Calls.mono (HLI.out _) ?_
                rintro e x5 ⟨rfl, rfl⟩
                go_wp2_with fail
                go_ret
                exact ⟨by rw [HNo.out]; rfl, HBl.out.2 _⟩
              · have HN : Hid (∀ i (hi : i < LV.lits.length), i < k + 1 → litB LV.lits[i] = true) := fun i hi hik => by
                  by_cases e : i = k
                  · subst e; exact hl1
                  · exact HK.out i hi (by omega)
                rw [hl1] at HLI
                clear hl1
                go_wp2_with fail
                refine Calls.mono (HLI.out _) ?_
                rintro e x5 ⟨rfl, rfl⟩
                go_wp2_with fail
                exact ⟨⟨k + 1, by go_num, by omega, by trivial, HN⟩, by simp [intOf]; omega⟩
            · have HYes : Hid (levB LV = true) := by
                show levB LV = true
                have : LV.lits.all litB = true := List.all_eq_true.2 fun x hx => by obtain ⟨i, hi, rfl⟩ := List.mem_iff_getElem.1 hx; exact HK.out i hi (by omega)
                unfold levB
                rw [HWI.out, this, decide_eq_true hz]
                rfl
              clear c0 c1 q2
              go_wp2_with fail
              exact ⟨⟨n + 1, by go_num, by omega, HBl.out.1 _, HNX.out HYes.out⟩, by simp [intOf]; omega⟩
        · have HLV := (show Hid _ from fun i hi => HX.out.2 i hi (by omega))
          obtain ⟨r0, r1, r2, r3, r4⟩ : wr.cell? ⟨w.heap.size, 0, none⟩ = some (.string d.name) ∧ wr.cell? ⟨w.heap.size, 1, none⟩ = some (.slice a1 d.tokens.length p1) ∧ wr.cell? ⟨w.heap.size, 2, none⟩ = some (.slice a2 d.levels.length p2) ∧ wr.cell? ⟨w.heap.size, 3, none⟩ = some (.slice a3 d.rules.length p3) ∧ wr.cell? ⟨w.heap.size, 4, none⟩ = some (.slice a4 d.parts.length p4) := ⟨(HB.out.1.still HX.out.1).cell 0 (by simp), (HB.out.1.still HX.out.1).cell 1 (by simp), (HB.out.1.still HX.out.1).cell 2 (by simp), (HB.out.1.still HX.out.1).cell 3 (by simp), (HB.out.1.still HX.out.1).cell 4 (by simp)⟩
          clear q2
          go_wp2_with fail
          obtain ⟨G, hG⟩ : ∃ G, wr.heap.size = G := ⟨_, rfl⟩
          obtain ⟨V, HV⟩ : ∃ V, Hid (V = wr.alloc (.cells #[.string d.name, .slice a1 d.tokens.length p1, .slice a2 d.levels.length p2, .slice a3 d.rules.length p3, .slice a4 d.parts.length p4, .int .i64 0, .bool true] 82)) := ⟨_, rfl⟩
          have HVB := (show Hid (WBx V G (.string d.name) (.slice a1 d.tokens.length p1) (.slice a2 d.levels.length p2) (.slice a3 d.rules.length p3) (.slice a4 d.parts.length p4) 0 true ∧ Box V w.heap.size 36 [.string d.name, .slice a1 d.tokens.length p1, .slice a2 d.levels.length p2, .slice a3 d.rules.length p3, .slice a4 d.parts.length p4] ∧ Below w.heap.size w V ∧ w.heap.size < G ∧ V.heap.size = G + 1) from by
            have h1 : W.heap.size ≤ wr.heap.size := HX.out.1.size
            have h2 := HB.out.2.2
            rw [HV.out, ← hG]
            exact ⟨Box.new wr 82 _, (HB.out.1.still HX.out.1).still (bel_alloc _ _), bel_trans (bel_trans HB.out.2.1 HX.out.1) (bel_alloc _ _), by omega, by simp⟩)
          clear HX r0 r1 r2 r3 r4
          rw [← HV.out, hG]
          clear hG
          go_loopw [8] (fun i wr => ∃ (j e1 : Nat) (ok : Bool), i = .int .i64 j ∧ j ≤ d.rules.length ∧ (ok = true → e1 ≤ 200) ∧ Hid (Bt G V wr ∧ WBx wr G (.string d.name) (.slice a1 d.tokens.length p1) (.slice a2 d.levels.length p2) (.slice a3 d.rules.length p3) (.slice a4 d.parts.length p4) e1 ok ∧ (∀ i (hi : i < d.rules.length), i < j → rulB d.rules[i] = true) ∧ (if ok then sRules d.parts (d.rules.drop j) e1 = sRules d.parts d.rules 0 else sRules d.parts d.rules 0 = none))) (fun i _ => d.rules.length - (intOf i).toNat)
          case atStart => exact ⟨0, 0, true, rfl, Nat.zero_le _, fun _ => Nat.zero_le _, Bt.refl _ _, HVB.out.1, fun i hi h0 => absurd h0 (Nat.not_lt_zero _), by rw [List.drop_zero]; simp⟩
          case round =>
            obtain ⟨u, e1, ok, rfl, hu, hok, HX⟩ := hrel
            have hB46 := HVB.out.2.1.keep (HX.out.1.block w.heap.size HVB.out.2.1.lt (by have := HVB.out.2.2.2.1; omega))
            have q3 : wr.cell? ⟨w.heap.size, 3, none⟩ = some (.slice a3 d.rules.length p3) := hB46.cell 3 (by simp)
            by_cases hul : u < d.rules.length
            · have hul' := hul
              obtain ⟨rfl, hS3⟩ := H3.out.1 (by omega)
              obtain ⟨c0, c1, z0⟩ := H3.out.2.1 u hul'
              have hvs := HVB.out.2.2.1.size
              have hkb : wr.heap[b3]? = w.heap[b3]? := (HX.out.1.block b3 (by have := hS3.2; omega) (by have := hS3.2; have := HVB.out.2.2.2.1; omega)).trans (HVB.out.2.2.1.block b3 hS3.2)
              rw [← World.cell?_of_block (w := w) hkb] at c0 c1
              have hGR := H3.out.2.2 u hul'
              obtain ⟨a5, c5, b5, o5, s50, e5, hc5, hm5, ha5, hcell5, r5⟩ := hGR
              rw [e5] at c1
              have HC5 := (show Hid _ from (⟨ha5, hcell5, r5⟩ : _ ∧ _ ∧ _)); clear ha5 hcell5 r5
              have HPN := (show Hid _ from fun w => HPL.out d.rules[u].name z0 w)
              have HNO : Hid (rulB d.rules[u] = false → spB d = false) := fun hh => sp_no_rul hul' hh
              have HNX : Hid (rulB d.rules[u] = true → ∀ i (hi : i < d.rules.length), i < u + 1 → rulB d.rules[i] = true) := fun hh i hi hij => by
                by_cases e : i = u
                · subst e; exact hh
                · exact HX.out.2.2.1 i hi (by omega)
              have HT0 : Hid (ok = true → ∀ e', sAlts d.parts d.rules[u].alts e1 = some e' → sRules d.parts (d.rules.drop (u + 1)) e' = sRules d.parts d.rules 0) := fun hk e' hh => by
                have h4 := HX.out.2.2.2
                rw [hk] at h4
                exact (sRules_some hul' hh).symm.trans (by simpa using h4)
              have HTN : Hid (ok = true → sAlts d.parts d.rules[u].alts e1 = none → sRules d.parts d.rules 0 = none) := fun hk hh => by
                have h4 := HX.out.2.2.2
                rw [hk] at h4
                have h5 : sRules d.parts (d.rules.drop u) e1 = sRules d.parts d.rules 0 := by simpa using h4
                exact h5.symm.trans (sRules_none hul' hh)
              have HTF : Hid (ok = false → sRules d.parts d.rules 0 = none) := fun hk => by
                have h4 := HX.out.2.2.2
                rw [hk] at h4
                simpa using h4
              generalize d.rules[u] = RU at *
              have HBX := (show Hid _ from (⟨HX.out.1, HX.out.2.1⟩ : Bt G V wr ∧ WBx wr G (.string d.name) (.slice a1 d.tokens.length p1) (.slice a2 d.levels.length p2) (.slice (some ⟨b3, o3, none⟩) d.rules.length p3) (.slice a4 d.parts.length p4) e1 ok))
              clear HX hkb hS3 z0 e5 hB46
              unfold maxLen at hm5
              obtain ⟨B9, hB9⟩ : ∃ B9, wr.heap.size = B9 := ⟨_, rfl⟩
              have HB9 := (show Hid (w.heap.size < B9 ∧ G < B9) from by
                rw [← hB9]
                have h1 := HBX.out.1.size
                have h2 := HVB.out.2.2.2.2
                have h3 := HVB.out.2.2.2.1
                exact ⟨by omega, by omega⟩)
              have HA0 := (show Hid (∀ x, Below (wr.alloc (.cells #[.string RU.name, .slice a5 RU.alts.length c5] 54)).heap.size (wr.alloc (.cells #[.string RU.name, .slice a5 RU.alts.length c5] 54)) x → Bt G V x ∧ WBx x G (.string d.name) (.slice a1 d.tokens.length p1) (.slice a2 d.levels.length p2) (.slice (some ⟨b3, o3, none⟩) d.rules.length p3) (.slice a4 d.parts.length p4) e1 ok ∧ Box x B9 54 [.string RU.name, .slice a5 RU.alts.length c5]) from fun x hx => by
                rw [← hB9]
                exact ⟨(HBX.out.1.trans (Bt.of_below (bel_alloc _ _))).trans (Bt.of_below hx), (HBX.out.2.still (bel_alloc _ _)).still hx, (Box.new wr 54 _).still hx⟩)
              have HBB := (show Hid (∀ x, Bt G V x → Below w.heap.size w x) from fun x hx => bel_bt HVB.out.2.2.1 hx (by have := HVB.out.2.2.2.1; omega) (by have := HVB.out.2.2.1.size; omega))
              cases hn1 : ownB RU.name
              · have HNo : Hid (spB d = false) := HNO.out (by unfold rulB; rw [hn1]; rfl)
                rw [hn1] at HPN
                clear hn1
                go_wp2_with fail
                refine Calls.mono (HPN.out _) ?_
                rintro e x4 ⟨rfl, hb4⟩
                have HE := (show Hid _ from HBB.out _ (HA0.out _ hb4).1); clear hb4 c0 c1 q3
                go_wp2_with fail
                go_ret
                exact ⟨by rw [HNo.out]; rfl, HE.out⟩
              rw [hn1] at HPN
              have HN1 := (show Hid _ from hn1); clear hn1
              by_cases hz : 0 < RU.alts.length
              case neg =>
                have HNo : Hid (spB d = false) := HNO.out (by unfold rulB; rw [decide_eq_false hz, Bool.false_and, Bool.and_false])
                have hz2 : ((RU.alts.length : Int) == 0) = true := by rw [beq_iff_eq]; omega
                clear hz
                go_wp2_with fail
                refine Calls.mono (HPN.out _) ?_
                rintro e x4 ⟨rfl, hb4⟩
                have HE := (show Hid _ from HBB.out _ (HA0.out _ hb4).1)
                have y1 : x4.cell? ⟨B9, 1, none⟩ = some (.slice a5 RU.alts.length c5) := (HA0.out _ hb4).2.2.cell 1 (by simp)
                clear hb4 c0 c1 q3
                go_wp2_with fail
                go_ret
                exact ⟨by rw [HNo.out]; rfl, HE.out⟩
              have hz2 : ((RU.alts.length : Int) == 0) = false := by rw [beq_eq_false_iff_ne]; omega
              go_wp2_with fail
              refine Calls.mono (HPN.out _) ?_
              rintro e x4 ⟨rfl, hb4⟩
              have HE4 := (show Hid _ from HA0.out _ hb4)
              have y1 : x4.cell? ⟨B9, 1, none⟩ = some (.slice a5 RU.alts.length c5) := (HA0.out _ hb4).2.2.cell 1 (by simp)
              clear hb4 c0 c1 q3 HA0 HBX
              go_wp2_with fail
              clear y1
              go_loopw [10] (fun i wq => ∃ (k e2 : Nat) (ok2 : Bool), i = .int .i64 k ∧ k ≤ RU.alts.length ∧ (ok2 = true → e2 ≤ 200) ∧ Hid (Bt G V wq ∧ WBx wq G (.string d.name) (.slice a1 d.tokens.length p1) (.slice a2 d.levels.length p2) (.slice (some ⟨b3, o3, none⟩) d.rules.length p3) (.slice a4 d.parts.length p4) e2 ok2 ∧ Box wq B9 54 [.string RU.name, .slice a5 RU.alts.length c5] ∧ (∀ i (hi : i < RU.alts.length), i < k → altB RU.alts[i] = true) ∧ (if ok2 then ok = true ∧ sAlts d.parts (RU.alts.drop k) e2 = sAlts d.parts RU.alts e1 else sRules d.parts d.rules 0 = none))) (fun i _ => RU.alts.length - (intOf i).toNat)
              case atStart =>
                refine ⟨0, e1, ok, rfl, Nat.zero_le _, hok, HE4.out.1, HE4.out.2.1, HE4.out.2.2, fun i hi h0 => absurd h0 (Nat.not_lt_zero _), ?_⟩
                cases ok
                · simpa using HTF.out rfl
                · simp
              case round =>
                clear HE4
                obtain ⟨k, e2, ok2, rfl, hk, hok2, HX⟩ := hrel
                have y1 : wr.cell? ⟨B9, 1, none⟩ = some (.slice a5 RU.alts.length c5) := HX.out.2.2.1.cell 1 (by simp)
                by_cases hkl : k < RU.alts.length
                · have hkl' := hkl
                  obtain ⟨rfl, hS5⟩ := HC5.out.1 (by omega)
                  obtain ⟨f0, f1, zl⟩ := HC5.out.2.1 k hkl'
                  have hvs := HVB.out.2.2.1.size
                  have hk5 : wr.heap[b5]? = w.heap[b5]? := (HX.out.1.block b5 (by have := hS5.2; omega) (by have := hS5.2; have := HVB.out.2.2.2.1; omega)).trans (HVB.out.2.2.1.block b5 hS5.2)
                  rw [← World.cell?_of_block (w := w) hk5] at f0 f1
                  obtain ⟨a6, c6, e6, _⟩ := (HC5.out.2.2 k hkl').form
                  rw [e6] at f0
                  have hEm := isEmpty_iff RU.alts[k].label
                  have HPA := (show Hid _ from fun w => HPL.out RU.alts[k].label zl w)
                  clear hk5 hS5 zl
                  by_cases hl0 : RU.alts[k].label.size = 0
                  · rw [decide_eq_true hl0] at hEm
                    have HK1 : Hid (∀ i (hi : i < RU.alts.length), i < k + 1 → altB RU.alts[i] = true) := fun i hi hik => by
                      by_cases e : i = k
                      · subst e; unfold altB; rw [decide_eq_true hl0]; rfl
                      · exact HX.out.2.2.2.1 i hi (by omega)
                    clear hl0
                    have hb46 : Box wr w.heap.size 36 [.string d.name, .slice a1 d.tokens.length p1, .slice a2 d.levels.length p2, .slice (some ⟨b3, o3, none⟩) d.rules.length p3, .slice a4 d.parts.length p4] := HVB.out.2.1.keep (HX.out.1.block w.heap.size HVB.out.2.1.lt (by have := HVB.out.2.2.2.1; omega))
                    have q4 : wr.cell? ⟨w.heap.size, 4, none⟩ = some (.slice a4 d.parts.length p4) := hb46.cell 4 (by simp)
                    have hkeep : ∀ q, (S q ∧ q < w.heap.size) → q < w.heap.size → wr.drew.heap[q]? = w.heap[q]? := fun q h1 h2 => (HX.out.1.block q (by have := HVB.out.2.2.1.size; omega) (by have := HVB.out.2.2.2.1; omega)).trans (HVB.out.2.2.1.block q h2)
                    have hcl := itemsC (S := fun b => S b ∧ b < w.heap.size) d.parts _ _ _ _ _ G (fun b hb => by have := hb.2; have := HVB.out.2.2.2.1; omega) hpl RU.alts[k].items (s50 k) e2 ok2 wr.drew ((HC5.out.2.2 k hkl').keep hkeep) (PartR.keep HP.out hkeep) HX.out.2.1.drew hok2
                    rw [e6] at hcl
                    have HCL := (show Hid _ from hcl)
                    have HYY := (show Hid _ from (⟨HX.out.1, HX.out.2.2.1⟩ : Bt G V wr ∧ Box wr B9 54 [.string RU.name, .slice (some ⟨b5, o5, none⟩) RU.alts.length c5]))
                    clear hcl hkeep hb46
                    go_wp2_with fail
                    go_region_with (go_at_call 35; refine Calls.mono HCL.out ?_; rintro en w9 ⟨rfl, ht9, e3, ok3, hb3, hy3, hn3⟩)
                    all_goals
                      have hst9 : (if ok3 then ok = true ∧ sAlts d.parts (RU.alts.drop (k + 1)) e3 = sAlts d.parts RU.alts e1 else sRules d.parts d.rules 0 = none) := by
                        have h4 := HX.out.2.2.2.2
                        cases ok3
                        · cases ok2
                          · simpa using h4
                          · have h5 : ok = true ∧ sAlts d.parts (RU.alts.drop k) e2 = sAlts d.parts RU.alts e1 := by simpa using h4
                            rcases hn3 rfl with h6 | h6
                            · cases h6
                            · simpa using HTN.out h5.1 (h5.2.symm.trans (sAlts_none hkl' h6))
                        · obtain ⟨h6, h7, _⟩ := hy3 rfl
                          rw [h6] at h4
                          have h5 : ok = true ∧ sAlts d.parts (RU.alts.drop k) e2 = sAlts d.parts RU.alts e1 := by simpa using h4
                          simpa using (⟨h5.1, (sAlts_some hkl' h7).symm.trans h5.2⟩ : _ ∧ _)
                      have hbt9 : Bt G V w9 := HYY.out.1.drew.trans ht9
                      have hbx9 : Box w9 B9 54 [.string RU.name, .slice (some ⟨b5, o5, none⟩) RU.alts.length c5] := HYY.out.2.drew.keep (ht9.block B9 (Box.lt HYY.out.2.drew) (by have := HB9.out.2; omega))
                      have HN := (show Hid (Bt G V w9 ∧ WBx w9 G (.string d.name) (.slice a1 d.tokens.length p1) (.slice a2 d.levels.length p2) (.slice (some ⟨b3, o3, none⟩) d.rules.length p3) (.slice a4 d.parts.length p4) e3 ok3 ∧ Box w9 B9 54 [.string RU.name, .slice (some ⟨b5, o5, none⟩) RU.alts.length c5] ∧ (∀ i (hi : i < RU.alts.length), i < k + 1 → altB RU.alts[i] = true) ∧ (if ok3 then ok = true ∧ sAlts d.parts (RU.alts.drop (k + 1)) e3 = sAlts d.parts RU.alts e1 else sRules d.parts d.rules 0 = none)) from ⟨hbt9, hb3, hbx9, HK1.out, hst9⟩)
                      have hok3 : ok3 = true → e3 ≤ 200 := fun h => (hy3 h).2.2
                      clear hst9 hbt9 hbx9 hb3 hy3 hn3 ht9 f0 f1 y1 q4
                      go_wp2_with fail
                      exact ⟨⟨k + 1, e3, ok3, by go_num, by omega, hok3, HN⟩, by simp [intOf]; omega⟩
                  · rw [decide_eq_false hl0] at hEm
                    cases hn2 : ownB RU.alts[k].label
                    · have HNo : Hid (spB d = false) := HNO.out (by
                        have : RU.alts.all altB = false := List.all_eq_false.2 ⟨_, List.getElem_mem hkl', by unfold altB; rw [decide_eq_false hl0, hn2]; simp⟩
                        unfold rulB; rw [this, Bool.and_false, Bool.and_false])
                      rw [hn2] at HPA
                      clear hn2 hl0
                      go_wp2_with fail
                      refine Calls.mono (HPA.out _) ?_
                      rintro e x5 ⟨rfl, hb5⟩
                      have HE := (show Hid _ from HBB.out _ (HX.out.1.trans (Bt.of_below hb5))); clear hb5 f0 f1 y1
                      go_wp2_with fail
                      go_ret
                      exact ⟨by rw [HNo.out]; rfl, HE.out⟩
                    · have HK1 : Hid (∀ i (hi : i < RU.alts.length), i < k + 1 → altB RU.alts[i] = true) := fun i hi hik => by
                        by_cases e : i = k
                        · subst e; unfold altB; rw [hn2, Bool.or_true]
                        · exact HX.out.2.2.2.1 i hi (by omega)
                      rw [hn2] at HPA
                      clear hn2 hl0
                      go_wp2_with fail
                      refine Calls.mono (HPA.out _) ?_
                      rintro e x5 ⟨rfl, hb5⟩
                      have g0 := f0
                      rw [← hb5.cell (lt_of_cell f0)] at g0
                      have hbt5 : Bt G V x5 := HX.out.1.trans (Bt.of_below hb5)
                      have hwb5 : WBx x5 G (.string d.name) (.slice a1 d.tokens.length p1) (.slice a2 d.levels.length p2) (.slice (some ⟨b3, o3, none⟩) d.rules.length p3) (.slice a4 d.parts.length p4) e2 ok2 := HX.out.2.1.still hb5
                      have hbx5 : Box x5 B9 54 [.string RU.name, .slice (some ⟨b5, o5, none⟩) RU.alts.length c5] := HX.out.2.2.1.still hb5
                      clear y1 f0 f1 hb5
                      have y1 : x5.cell? ⟨B9, 1, none⟩ = some (.slice (some ⟨b5, o5, none⟩) RU.alts.length c5) := hbx5.cell 1 (by simp)
                      have hb46 : Box x5 w.heap.size 36 [.string d.name, .slice a1 d.tokens.length p1, .slice a2 d.levels.length p2, .slice (some ⟨b3, o3, none⟩) d.rules.length p3, .slice a4 d.parts.length p4] := HVB.out.2.1.keep (hbt5.block w.heap.size HVB.out.2.1.lt (by have := HVB.out.2.2.2.1; omega))
                      have q4 : x5.cell? ⟨w.heap.size, 4, none⟩ = some (.slice a4 d.parts.length p4) := hb46.cell 4 (by simp)
                      have hkeep : ∀ q, (S q ∧ q < w.heap.size) → q < w.heap.size → x5.drew.heap[q]? = w.heap[q]? := fun q h1 h2 => (hbt5.block q (by have := HVB.out.2.2.1.size; omega) (by have := HVB.out.2.2.2.1; omega)).trans (HVB.out.2.2.1.block q h2)
                      have hcl := itemsC (S := fun b => S b ∧ b < w.heap.size) d.parts _ _ _ _ _ G (fun b hb => by have := hb.2; have := HVB.out.2.2.2.1; omega) hpl RU.alts[k].items (s50 k) e2 ok2 x5.drew ((HC5.out.2.2 k hkl').keep hkeep) (PartR.keep HP.out hkeep) hwb5.drew hok2
                      rw [e6] at hcl
                      have HCL := (show Hid _ from hcl)
                      have HYY := (show Hid _ from (⟨hbt5, hbx5⟩ : Bt G V x5 ∧ Box x5 B9 54 [.string RU.name, .slice (some ⟨b5, o5, none⟩) RU.alts.length c5]))
                      clear hcl hkeep hb46
                      go_wp2_with fail
                      go_region_with (go_at_call 35; refine Calls.mono HCL.out ?_; rintro en w9 ⟨rfl, ht9, e3, ok3, hb3, hy3, hn3⟩)
                      all_goals
                        have hst9 : (if ok3 then ok = true ∧ sAlts d.parts (RU.alts.drop (k + 1)) e3 = sAlts d.parts RU.alts e1 else sRules d.parts d.rules 0 = none) := by
                          have h4 := HX.out.2.2.2.2
                          cases ok3
                          · cases ok2
                            · simpa using h4
                            · have h5 : ok = true ∧ sAlts d.parts (RU.alts.drop k) e2 = sAlts d.parts RU.alts e1 := by simpa using h4
                              rcases hn3 rfl with h6 | h6
                              · cases h6
                              · simpa using HTN.out h5.1 (h5.2.symm.trans (sAlts_none hkl' h6))
                          · obtain ⟨h6, h7, _⟩ := hy3 rfl
                            rw [h6] at h4
                            have h5 : ok = true ∧ sAlts d.parts (RU.alts.drop k) e2 = sAlts d.parts RU.alts e1 := by simpa using h4
                            simpa using (⟨h5.1, (sAlts_some hkl' h7).symm.trans h5.2⟩ : _ ∧ _)
                        have hbt9 : Bt G V w9 := HYY.out.1.drew.trans ht9
                        have hbx9 : Box w9 B9 54 [.string RU.name, .slice (some ⟨b5, o5, none⟩) RU.alts.length c5] := HYY.out.2.drew.keep (ht9.block B9 (Box.lt HYY.out.2.drew) (by have := HB9.out.2; omega))
                        have HN := (show Hid (Bt G V w9 ∧ WBx w9 G (.string d.name) (.slice a1 d.tokens.length p1) (.slice a2 d.levels.length p2) (.slice (some ⟨b3, o3, none⟩) d.rules.length p3) (.slice a4 d.parts.length p4) e3 ok3 ∧ Box w9 B9 54 [.string RU.name, .slice (some ⟨b5, o5, none⟩) RU.alts.length c5] ∧ (∀ i (hi : i < RU.alts.length), i < k + 1 → altB RU.alts[i] = true) ∧ (if ok3 then ok = true ∧ sAlts d.parts (RU.alts.drop (k + 1)) e3 = sAlts d.parts RU.alts e1 else sRules d.parts d.rules 0 = none)) from ⟨hbt9, hb3, hbx9, HK1.out, hst9⟩)
                        have hok3 : ok3 = true → e3 ≤ 200 := fun h => (hy3 h).2.2
                        clear hst9 hbt9 hbx9 hb3 hy3 hn3 ht9 g0 y1 q4 hbt5 hwb5 hbx5
                        go_wp2_with fail
                        exact ⟨⟨k + 1, e3, ok3, by go_num, by omega, hok3, HN⟩, by simp [intOf]; omega⟩
                · have hall : RU.alts.all altB = true := List.all_eq_true.2 fun x hx => by obtain ⟨i, hi, rfl⟩ := List.mem_iff_getElem.1 hx; exact HX.out.2.2.2.1 i hi (by omega)
                  have hru : rulB RU = true := by unfold rulB; rw [HN1.out, hall, decide_eq_true hz]; rfl
                  have hst : (if ok2 then sRules d.parts (d.rules.drop (u + 1)) e2 = sRules d.parts d.rules 0 else sRules d.parts d.rules 0 = none) := by
                    have h4 := HX.out.2.2.2.2
                    cases ok2
                    · simpa using h4
                    · have h5 : ok = true ∧ sAlts d.parts (RU.alts.drop k) e2 = sAlts d.parts RU.alts e1 := by simpa using h4
                      have h6 : sAlts d.parts RU.alts e1 = some e2 := h5.2.symm.trans (sAlts_end (by omega))
                      simpa using HT0.out h5.1 e2 h6
                  have HN := (show Hid (Bt G V wr ∧ WBx wr G (.string d.name) (.slice a1 d.tokens.length p1) (.slice a2 d.levels.length p2) (.slice (some ⟨b3, o3, none⟩) d.rules.length p3) (.slice a4 d.parts.length p4) e2 ok2 ∧ (∀ i (hi : i < d.rules.length), i < u + 1 → rulB d.rules[i] = true) ∧ (if ok2 then sRules d.parts (d.rules.drop (u + 1)) e2 = sRules d.parts d.rules 0 else sRules d.parts d.rules 0 = none)) from ⟨HX.out.1, HX.out.2.1, HNX.out hru, hst⟩)
                  clear hall hru hst HX
                  go_wp2_with fail
                  exact ⟨⟨u + 1, e2, ok2, by go_num, by omega, hok2, HN⟩, by simp [intOf]; omega⟩
            · cases ok
              · have hst : sRules d.parts d.rules 0 = none := by have := HX.out.2.2.2; simpa using this
                have HR := (show Hid (spB d = false ∧ ∀ m, Below w.heap.size w (wr.drewN m)) from ⟨by rw [sp_is HF.out HO.out HTK.out HLV.out (fun i hi => HX.out.2.2.1 i hi (by omega)), hst]; rfl, fun m => bel_drewN (bel_bt HVB.out.2.2.1 HX.out.1 (by have := HVB.out.2.2.2.1; omega) (by have := HVB.out.2.2.1.size; omega)) m⟩)
                have x6 : wr.cell? ⟨G, 6, none⟩ = some (.bool false) := HX.out.2.1.cell 6 (by simp)
                clear hst hB46
                go_wp2_with fail
                go_quiet (fail)
                go_wp2_with fail
                go_ret
                exact ⟨by rw [HR.out.1]; rfl, HR.out.2 _⟩
              · have hst : some e1 = sRules d.parts d.rules 0 := by have := HX.out.2.2.2; rw [sRules_end (by omega)] at this; simpa using this
                have HR := (show Hid (spB d = ((e1 : Int) == d.parts.length) ∧ ∀ m, Below w.heap.size w (wr.drewN m)) from ⟨by
                  rw [sp_is HF.out HO.out HTK.out HLV.out (fun i hi => HX.out.2.2.1 i hi (by omega)), ← hst]
                  by_cases h2 : e1 = d.parts.length
                  · subst h2; simp
                  · have h3 : ¬ (e1 : Int) = d.parts.length := by omega
                    simp [h2, h3], fun m => bel_drewN (bel_bt HVB.out.2.2.1 HX.out.1 (by have := HVB.out.2.2.2.1; omega) (by have := HVB.out.2.2.1.size; omega)) m⟩)
                have x6 : wr.cell? ⟨G, 6, none⟩ = some (.bool true) := HX.out.2.1.cell 6 (by simp)
                have x5 : wr.cell? ⟨G, 5, none⟩ = some (.int .i64 e1) := HX.out.2.1.cell 5 (by simp)
                have q4 : wr.cell? ⟨w.heap.size, 4, none⟩ = some (.slice a4 d.parts.length p4) := hB46.cell 4 (by simp)
                clear hst hB46
                go_wp2_with fail
                go_quiet (fail)
                go_wp2_with fail
                go_ret
                exact ⟨by rw [HR.out.1]; rfl, HR.out.2 _⟩
end Go.Proofs.YtgjnlhidbjpdkajGreat
