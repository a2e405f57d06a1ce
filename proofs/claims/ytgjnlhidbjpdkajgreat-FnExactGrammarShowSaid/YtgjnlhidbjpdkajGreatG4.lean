import Derived.Test.YtgjnlhidbjpdkajGreatG3
/-! What is right of a grammar, part by part: the program. -/
namespace Go.Proofs.YtgjnlhidbjpdkajGreat
open Go.RowKit Go.Deep
set_option linter.unusedVariables false
set_option maxRecDepth 100000
set_option linter.unusedSimpArgs false

def tokB (t : DToken) : Bool := ownB t.name && patB t.rx
def levB (t : DLevel) : Bool := wiB t.assoc 1 3 && (decide (0 < t.lits.length) && t.lits.all litB)
def altB (t : DGAlt) : Bool := decide (t.label.size = 0) || ownB t.label
def rulB (t : DGRule) : Bool := ownB t.name && (decide (0 < t.alts.length) && t.alts.all altB)
def parB (t : DPart) : Bool := if t.kind = 1 then ownB t.s && decide (t.alts.length = 0) else if t.kind = 2 then litB t.s && decide (t.alts.length = 0) else wiB t.kind 3 5 && (decide (t.s.size = 0) && decide (0 < t.alts.length))

set_option maxHeartbeats 1600000 in
theorem allLit {S : Nat → Prop} (l : List ByteArray) (v : Value) (w : World) (h : Strs w S l v) :
    Calls Tryz.prog 79 #[v, .func (.func 80) #[] #[]] w fun e w' => e = .returned (.bool (l.all litB)) ∧ Below w.heap.size w w' := by
  obtain ⟨a, cap, b, off, rfl, hc, hm, ha, hcell⟩ := h
  have HC := (show Hid _ from hcell); clear hcell
  have HA := (show Hid _ from ha); clear ha
  unfold maxLen at hm
  generalize hRes : l.all litB = R
  have HRes := (show Hid _ from hRes); clear hRes
  go_enter Tryz.func79, Tryz.ntmps79
  go_wp2_with fail
  go_loopw [9] (fun i wr => ∃ j : Nat, i = .int .i64 j ∧ j ≤ l.length ∧ Hid (∀ i (hi : i < l.length), i < j → litB l[i] = true) ∧ Below w.heap.size w wr) (fun i _ => l.length - (intOf i).toNat)
  case atStart => exact ⟨0, rfl, Nat.zero_le _, fun i hi h0 => absurd h0 (Nat.not_lt_zero _), Below.refl _ _⟩
  case round =>
    obtain ⟨j, rfl, hj, HJ, hbel⟩ := hrel
    by_cases hjl : j < l.length
    · have hjl' := hjl
      obtain ⟨rfl, _⟩ := HA.out (by omega)
      obtain ⟨c0, z0⟩ := HC.out j hjl'
      rw [← hbel.cell (lt_of_cell c0)] at c0
      have hcl := fun (w' : World) (hb : Below w.heap.size w w') => isLit_any l[j] z0 w'
      have HCL := (show Hid _ from hcl); clear hcl
      generalize hB : litB l[j] = B at HCL
      have HB := (show Hid _ from hB); clear hB
      cases B
      · have HF : Hid (R = false) := by
          show R = false
          rw [← HRes.out, List.all_eq_false]
          exact ⟨l[j], List.getElem_mem hjl', by rw [HB.out]; simp⟩
        go_wp2_with fail
        go_at_call 80
        refine Calls.mono (HCL.out _ hbel) ?_
        rintro e w1 ⟨rfl, hb1⟩
        have HE := (show Hid _ from bel_trans hbel hb1); clear hb1 c0 hbel
        go_wp2_with fail
        go_ret
        exact ⟨by rw [HF.out]; rfl, HE.out⟩
      · have HN : Hid (∀ i (hi : i < l.length), i < j + 1 → litB l[i] = true) := fun i hi hij => by
          by_cases e : i = j
          · subst e; exact HB.out
          · exact HJ.out i hi (by omega)
        go_wp2_with fail
        go_at_call 80
        refine Calls.mono (HCL.out _ hbel) ?_
        rintro e w1 ⟨rfl, hb1⟩
        have HE := (show Hid _ from bel_trans hbel hb1); clear hb1 c0 hbel
        go_wp2_with fail
        exact ⟨⟨j + 1, by go_num, by omega, HN, HE.out⟩, by simp [intOf]; omega⟩
    · have HF : Hid (R = true) := by
        show R = true
        rw [← HRes.out, List.all_eq_true]
        intro x hx
        obtain ⟨i, hi, rfl⟩ := List.mem_iff_getElem.1 hx
        exact HJ.out i hi (by omega)
      go_wp2_with fail
      go_ret
      exact ⟨by rw [HF.out]; rfl, hbel⟩
set_option maxHeartbeats 800000 in
theorem isToken_any (t : DToken) (w : World) (h0 : t.name.size ≤ maxLen) (h1 : t.rx.size ≤ maxLen) : Calls Tryz.prog 44 #[.agg #[.string t.name, .string t.rx, .bool t.skip]] w fun e w' => e = .returned (.bool (tokB t)) ∧ Below w.heap.size w w' := by
  have HN := (show Hid _ from fun w => isOwn_any t.name h0 w)
  have HP := (show Hid _ from fun w => isPattern_any t.rx h1 w)
  have HE := (show Hid _ from fun o => bel_alloc w o)
  unfold tokB
  cases hn : ownB t.name
  · rw [hn] at HN
    clear hn
    go_enter Tryz.func44, Tryz.ntmps44
    go_wp2_with fail
    refine Calls.mono (HN.out _) ?_
    rintro e w1 ⟨rfl, rfl⟩
    go_wp2_with fail
    go_ret
    exact ⟨rfl, HE.out _⟩
  · rw [hn] at HN
    clear hn
    generalize patB t.rx = K at *
    go_enter Tryz.func44, Tryz.ntmps44
    go_wp2_with fail
    refine Calls.mono (HN.out _) ?_
    rintro e w1 ⟨rfl, rfl⟩
    go_wp2_with fail
    refine Calls.mono (HP.out _) ?_
    rintro e w2 ⟨rfl, hb2⟩
    have HB := (show Hid _ from bel_trans (HE.out _) hb2); clear hb2
    go_wp2_with fail
    go_ret
    exact ⟨by cases K <;> rfl, HB.out⟩
set_option maxHeartbeats 800000 in
theorem isLevel_any {S : Nat → Prop} (t : DLevel) (v : Value) (w : World) (h : Strs w S t.lits v) : Calls Tryz.prog 46 #[.agg #[.int .i64 t.assoc, v]] w fun e w' => e = .returned (.bool (levB t)) ∧ Below w.heap.size w w' := by
  have HL := (show Hid _ from fun (w' : World) (hb : Below w.heap.size w w') => allLit t.lits v w' (h.still hb))
  have HE := (show Hid _ from fun o => bel_alloc w o)
  obtain ⟨a, cap, rfl, hm⟩ := h.form
  clear h
  unfold maxLen at hm
  unfold levB
  by_cases c1 : 1 ≤ t.assoc
  · by_cases c2 : t.assoc ≤ 3
    · have e1 : wiB t.assoc 1 3 = true := by simp [wiB]; omega
      rw [e1]
      clear e1
      by_cases c3 : 0 < t.lits.length
      · rw [decide_eq_true c3]
        generalize t.lits.all litB = K at *
        generalize t.lits.length = n at *
        go_enter Tryz.func46, Tryz.ntmps46
        go_wp2_with fail
        refine Calls.mono (HL.out _ (HE.out _)) ?_
        rintro e w2 ⟨rfl, hb2⟩
        have HB := (show Hid _ from bel_trans (HE.out _) hb2); clear hb2
        go_wp2_with fail
        go_ret
        exact ⟨by cases K <;> rfl, HB.out⟩
      · rw [decide_eq_false c3]
        generalize t.lits.length = n at *
        go_enter Tryz.func46, Tryz.ntmps46
        go_wp2_with fail
        go_ret
        exact ⟨rfl, HE.out _⟩
    · have e1 : wiB t.assoc 1 3 = false := by simp [wiB]; omega
      rw [e1]
      clear e1
      go_enter Tryz.func46, Tryz.ntmps46
      go_wp2_with fail
      go_ret
      exact ⟨rfl, HE.out _⟩
  · have e1 : wiB t.assoc 1 3 = false := by simp [wiB]; omega
    rw [e1]
    clear e1
    go_enter Tryz.func46, Tryz.ntmps46
    go_wp2_with fail
    go_ret
    exact ⟨rfl, HE.out _⟩
set_option maxHeartbeats 800000 in
theorem isAlt_any (t : DGAlt) (v : Value) (w : World) (h0 : t.label.size ≤ maxLen) : Calls Tryz.prog 82 #[.agg #[v, .string t.label]] w fun e w' => e = .returned (.bool (altB t)) ∧ Below w.heap.size w w' := by
  have HN := (show Hid _ from fun w => isOwn_any t.label h0 w)
  have HE := (show Hid _ from fun o => bel_alloc w o)
  have hE := isEmpty_iff t.label
  unfold altB
  by_cases c1 : t.label.size = 0
  · rw [decide_eq_true c1] at hE
    rw [decide_eq_true c1]
    clear c1
    go_enter Tryz.func82, Tryz.ntmps82
    go_wp2_with fail
    go_ret
    exact ⟨rfl, HE.out _⟩
  · rw [decide_eq_false c1] at hE
    rw [decide_eq_false c1]
    clear c1
    generalize ownB t.label = K at *
    go_enter Tryz.func82, Tryz.ntmps82
    go_wp2_with fail
    refine Calls.mono (HN.out _) ?_
    rintro e w1 ⟨rfl, rfl⟩
    go_wp2_with fail
    go_ret
    exact ⟨by cases K <;> rfl, HE.out _⟩
set_option maxHeartbeats 1600000 in
theorem allAlt {S : Nat → Prop} (l : List DGAlt) (v : Value) (w : World) (h : GAltR w S l v) :
    Calls Tryz.prog 81 #[v, .func (.func 82) #[] #[]] w fun e w' => e = .returned (.bool (l.all altB)) ∧ Below w.heap.size w w' := by
  obtain ⟨a, cap, b, off, s0, rfl, hc, hm, ha, hcell, r0⟩ := h
  have HC := (show Hid _ from hcell); clear hcell
  have HA := (show Hid _ from ha); clear ha
  have HR0 := (show Hid _ from r0); clear r0
  unfold maxLen at hm
  generalize hRes : l.all altB = R
  have HRes := (show Hid _ from hRes); clear hRes
  go_enter Tryz.func81, Tryz.ntmps81
  go_wp2_with fail
  go_loopw [9] (fun i wr => ∃ j : Nat, i = .int .i64 j ∧ j ≤ l.length ∧ Hid (∀ i (hi : i < l.length), i < j → altB l[i] = true) ∧ Below w.heap.size w wr) (fun i _ => l.length - (intOf i).toNat)
  case atStart => exact ⟨0, rfl, Nat.zero_le _, fun i hi h0 => absurd h0 (Nat.not_lt_zero _), Below.refl _ _⟩
  case round =>
    obtain ⟨j, rfl, hj, HJ, hbel⟩ := hrel
    by_cases hjl : j < l.length
    · have hjl' := hjl
      obtain ⟨rfl, _⟩ := HA.out (by omega)
      obtain ⟨c0, c1, z0⟩ := HC.out j hjl'
      rw [← hbel.cell (lt_of_cell c0)] at c0
      rw [← hbel.cell (lt_of_cell c1)] at c1
      have hcl := fun (w' : World) (hb : Below w.heap.size w w') => isAlt_any l[j] (s0 j) w' z0
      obtain ⟨a0x, cap0x, e0x, _⟩ := (HR0.out j hjl').form
      rw [e0x] at c0 hcl
      clear e0x
      have HCL := (show Hid _ from hcl); clear hcl
      generalize hB : altB l[j] = B at HCL
      have HB := (show Hid _ from hB); clear hB
      cases B
      · have HF : Hid (R = false) := by
          show R = false
          rw [← HRes.out, List.all_eq_false]
          exact ⟨l[j], List.getElem_mem hjl', by rw [HB.out]; simp⟩
        go_wp2_with fail
        go_at_call 82
        refine Calls.mono (HCL.out _ (hbel.alloc hbel.size _)) ?_
        rintro e w1 ⟨rfl, hb1⟩
        have HE := (show Hid _ from bel_trans (hbel.alloc hbel.size _) hb1); clear hb1 c0 c1 hbel
        go_wp2_with fail
        go_ret
        exact ⟨by rw [HF.out]; rfl, HE.out⟩
      · have HN : Hid (∀ i (hi : i < l.length), i < j + 1 → altB l[i] = true) := fun i hi hij => by
          by_cases e : i = j
          · subst e; exact HB.out
          · exact HJ.out i hi (by omega)
        go_wp2_with fail
        go_at_call 82
        refine Calls.mono (HCL.out _ (hbel.alloc hbel.size _)) ?_
        rintro e w1 ⟨rfl, hb1⟩
        have HE := (show Hid _ from bel_trans (hbel.alloc hbel.size _) hb1); clear hb1 c0 c1 hbel
        go_wp2_with fail
        exact ⟨⟨j + 1, by go_num, by omega, HN, HE.out⟩, by simp [intOf]; omega⟩
    · have HF : Hid (R = true) := by
        show R = true
        rw [← HRes.out, List.all_eq_true]
        intro x hx
        obtain ⟨i, hi, rfl⟩ := List.mem_iff_getElem.1 hx
        exact HJ.out i hi (by omega)
      go_wp2_with fail
      go_ret
      exact ⟨by rw [HF.out]; rfl, hbel⟩
set_option maxHeartbeats 800000 in
theorem isRule_any {S : Nat → Prop} (t : DGRule) (v : Value) (w : World) (h : GAltR w S t.alts v) (h0 : t.name.size ≤ maxLen) : Calls Tryz.prog 48 #[.agg #[.string t.name, v]] w fun e w' => e = .returned (.bool (rulB t)) ∧ Below w.heap.size w w' := by
  have HN := (show Hid _ from fun w => isOwn_any t.name h0 w)
  have HL := (show Hid _ from fun (w' : World) (hb : Below w.heap.size w w') => allAlt t.alts v w' (h.still hb))
  have HE := (show Hid _ from fun o => bel_alloc w o)
  obtain ⟨a, cap, rfl, hm⟩ := h.form
  clear h
  unfold maxLen at hm
  unfold rulB
  cases hn : ownB t.name
  · rw [hn] at HN
    clear hn
    go_enter Tryz.func48, Tryz.ntmps48
    go_wp2_with fail
    refine Calls.mono (HN.out _) ?_
    rintro e w1 ⟨rfl, rfl⟩
    go_wp2_with fail
    go_ret
    exact ⟨rfl, HE.out _⟩
  · rw [hn] at HN
    clear hn
    by_cases c3 : 0 < t.alts.length
    · rw [decide_eq_true c3]
      generalize t.alts.all altB = K at *
      generalize t.alts.length = n at *
      go_enter Tryz.func48, Tryz.ntmps48
      go_wp2_with fail
      refine Calls.mono (HN.out _) ?_
      rintro e w1 ⟨rfl, rfl⟩
      go_wp2_with fail
      refine Calls.mono (HL.out _ (HE.out _)) ?_
      rintro e w2 ⟨rfl, hb2⟩
      have HB := (show Hid _ from bel_trans (HE.out _) hb2); clear hb2
      go_wp2_with fail
      go_ret
      exact ⟨by cases K <;> rfl, HB.out⟩
    · rw [decide_eq_false c3]
      generalize t.alts.length = n at *
      go_enter Tryz.func48, Tryz.ntmps48
      go_wp2_with fail
      refine Calls.mono (HN.out _) ?_
      rintro e w1 ⟨rfl, rfl⟩
      go_wp2_with fail
      go_ret
      exact ⟨rfl, HE.out _⟩
theorem isBracket_any (k : Int) (w : World) : Calls Tryz.prog 83 #[.int .i64 k] w fun e w' => e = .returned (.bool (wiB k 3 5)) ∧ w' = w := by
  by_cases h1 : 3 ≤ k <;> by_cases h2 : k ≤ 5
  all_goals
    go_enter Tryz.func83, Tryz.ntmps83
    go_wp2_with fail
    go_ret
    exact ⟨ret_bool (by simp [wiB]; try omega), rfl⟩
set_option maxHeartbeats 1600000 in
theorem isPart_any (t : DPart) (a : Option Addr) (n cap : Nat) (w : World) (h0 : t.s.size ≤ maxLen) (hn : t.alts.length = n) (hm : n ≤ maxLen) : Calls Tryz.prog 50 #[.agg #[.int .i64 t.kind, .string t.s, .slice a n cap]] w fun e w' => e = .returned (.bool (parB t)) ∧ Below w.heap.size w w' := by
  have HN := (show Hid _ from fun w => isOwn_any t.s h0 w)
  have HL := (show Hid _ from fun w => isLit_any t.s h0 w)
  have HK := (show Hid _ from fun w => isBracket_any t.kind w)
  have HE := (show Hid _ from fun o => bel_alloc w o)
  have hE := isEmpty_iff t.s
  unfold maxLen at hm
  unfold parB
  rw [hn]
  clear hn
  by_cases k1 : t.kind = 1
  · rw [if_pos k1, k1]
    clear k1 HK
    cases ho : ownB t.s
    · rw [ho] at HN
      clear ho
      go_enter Tryz.func50, Tryz.ntmps50
      go_wp2_with fail
      refine Calls.mono (HN.out _) ?_
      rintro e w1 ⟨rfl, rfl⟩
      go_wp2_with fail
      go_ret
      exact ⟨rfl, HE.out _⟩
    · rw [ho] at HN
      clear ho
      by_cases hz : n = 0
      · subst hz
        go_enter Tryz.func50, Tryz.ntmps50
        go_wp2_with fail
        refine Calls.mono (HN.out _) ?_
        rintro e w1 ⟨rfl, rfl⟩
        go_wp2_with fail
        go_ret
        exact ⟨rfl, HE.out _⟩
      · rw [decide_eq_false hz]
        have hz2 : ((n : Int) == 0) = false := by simpa using hz
        go_enter Tryz.func50, Tryz.ntmps50
        go_wp2_with fail
        refine Calls.mono (HN.out _) ?_
        rintro e w1 ⟨rfl, rfl⟩
        go_wp2_with fail
        go_ret
        exact ⟨ret_bool (by simp [hz]), HE.out _⟩
  · rw [if_neg k1]
    have k1' : (t.kind == 1) = false := by simpa using k1
    by_cases k2 : t.kind = 2
    · rw [if_pos k2, k2]
      clear k1 k1' k2 HK
      cases ho : litB t.s
      · rw [ho] at HL
        clear ho
        go_enter Tryz.func50, Tryz.ntmps50
        go_wp2_with fail
        refine Calls.mono (HL.out _) ?_
        rintro e w1 ⟨rfl, hb1⟩
        have HB := (show Hid _ from bel_trans (HE.out _) hb1); clear hb1
        go_wp2_with fail
        go_ret
        exact ⟨rfl, HB.out⟩
      · rw [ho] at HL
        clear ho
        have hB := Box.new w 91 [.int .i64 2, .string t.s, .slice a n cap]
        have HBX := (show Hid _ from hB); clear hB
        by_cases hz : n = 0
        · subst hz
          go_enter Tryz.func50, Tryz.ntmps50
          go_wp2_with fail
          refine Calls.mono (HL.out _) ?_
          rintro e w1 ⟨rfl, hb1⟩
          have HB := (show Hid _ from bel_trans (HE.out _) hb1)
          have x2 : w1.cell? ⟨w.heap.size, 2, none⟩ = some (.slice a 0 cap) := (HBX.out.still hb1).cell 2 (by simp)
          clear hb1
          go_wp2_with fail
          go_ret
          exact ⟨rfl, HB.out⟩
        · rw [decide_eq_false hz]
          have hz2 : ((n : Int) == 0) = false := by simpa using hz
          go_enter Tryz.func50, Tryz.ntmps50
          go_wp2_with fail
          refine Calls.mono (HL.out _) ?_
          rintro e w1 ⟨rfl, hb1⟩
          have HB := (show Hid _ from bel_trans (HE.out _) hb1)
          have x2 : w1.cell? ⟨w.heap.size, 2, none⟩ = some (.slice a n cap) := (HBX.out.still hb1).cell 2 (by simp)
          clear hb1
          go_wp2_with fail
          go_ret
          exact ⟨ret_bool (by simp [hz]), HB.out⟩
    · rw [if_neg k2]
      have k2' : (t.kind == 2) = false := by simpa using k2
      cases hw : wiB t.kind 3 5
      · rw [hw] at HK
        clear hw
        go_enter Tryz.func50, Tryz.ntmps50
        go_wp2_with fail
        refine Calls.mono (HK.out _) ?_
        rintro e w1 ⟨rfl, rfl⟩
        go_wp2_with fail
        go_ret
        exact ⟨rfl, HE.out _⟩
      · rw [hw] at HK
        clear hw
        by_cases c1 : t.s.size = 0
        · rw [decide_eq_true c1] at hE
          rw [decide_eq_true c1]
          clear c1
          by_cases hz : 0 < n
          · rw [decide_eq_true hz]
            go_enter Tryz.func50, Tryz.ntmps50
            go_wp2_with fail
            refine Calls.mono (HK.out _) ?_
            rintro e w1 ⟨rfl, rfl⟩
            go_wp2_with fail
            go_ret
            exact ⟨ret_bool (by simp; try omega), HE.out _⟩
          · rw [decide_eq_false hz]
            go_enter Tryz.func50, Tryz.ntmps50
            go_wp2_with fail
            refine Calls.mono (HK.out _) ?_
            rintro e w1 ⟨rfl, rfl⟩
            go_wp2_with fail
            go_ret
            exact ⟨ret_bool (by simp; try omega), HE.out _⟩
        · rw [decide_eq_false c1] at hE
          rw [decide_eq_false c1]
          clear c1
          go_enter Tryz.func50, Tryz.ntmps50
          go_wp2_with fail
          refine Calls.mono (HK.out _) ?_
          rintro e w1 ⟨rfl, rfl⟩
          go_wp2_with fail
          go_ret
          exact ⟨rfl, HE.out _⟩
set_option maxHeartbeats 1600000 in
theorem allToken {S : Nat → Prop} (l : List DToken) (v : Value) (w : World) (h : TokenR w S l v) :
    Calls Tryz.prog 43 #[v, .func (.func 44) #[] #[]] w fun e w' => e = .returned (.bool (l.all tokB)) ∧ Below w.heap.size w w' := by
  obtain ⟨a, cap, b, off, rfl, hc, hm, ha, hcell⟩ := h
  have HC := (show Hid _ from hcell); clear hcell
  have HA := (show Hid _ from ha); clear ha
  unfold maxLen at hm
  generalize hRes : l.all tokB = R
  have HRes := (show Hid _ from hRes); clear hRes
  go_enter Tryz.func43, Tryz.ntmps43
  go_wp2_with fail
  go_loopw [9] (fun i wr => ∃ j : Nat, i = .int .i64 j ∧ j ≤ l.length ∧ Hid (∀ i (hi : i < l.length), i < j → tokB l[i] = true) ∧ Below w.heap.size w wr) (fun i _ => l.length - (intOf i).toNat)
  case atStart => exact ⟨0, rfl, Nat.zero_le _, fun i hi h0 => absurd h0 (Nat.not_lt_zero _), Below.refl _ _⟩
  case round =>
    obtain ⟨j, rfl, hj, HJ, hbel⟩ := hrel
    by_cases hjl : j < l.length
    · have hjl' := hjl
      obtain ⟨rfl, _⟩ := HA.out (by omega)
      obtain ⟨c0, c1, c2, z0, z1⟩ := HC.out j hjl'
      rw [← hbel.cell (lt_of_cell c0)] at c0
      rw [← hbel.cell (lt_of_cell c1)] at c1
      rw [← hbel.cell (lt_of_cell c2)] at c2
      have hcl := fun (w' : World) (hb : Below w.heap.size w w') => isToken_any l[j] w' z0 z1
      have HCL := (show Hid _ from hcl); clear hcl
      generalize hB : tokB l[j] = B at HCL
      have HB := (show Hid _ from hB); clear hB
      cases B
      · have HF : Hid (R = false) := by
          show R = false
          rw [← HRes.out, List.all_eq_false]
          exact ⟨l[j], List.getElem_mem hjl', by rw [HB.out]; simp⟩
        go_wp2_with fail
        go_at_call 44
        refine Calls.mono (HCL.out _ (hbel.alloc hbel.size _)) ?_
        rintro e w1 ⟨rfl, hb1⟩
        have HE := (show Hid _ from bel_trans (hbel.alloc hbel.size _) hb1); clear hb1 c0 c1 c2 hbel
        go_wp2_with fail
        go_ret
        exact ⟨by rw [HF.out]; rfl, HE.out⟩
      · have HN : Hid (∀ i (hi : i < l.length), i < j + 1 → tokB l[i] = true) := fun i hi hij => by
          by_cases e : i = j
          · subst e; exact HB.out
          · exact HJ.out i hi (by omega)
        go_wp2_with fail
        go_at_call 44
        refine Calls.mono (HCL.out _ (hbel.alloc hbel.size _)) ?_
        rintro e w1 ⟨rfl, hb1⟩
        have HE := (show Hid _ from bel_trans (hbel.alloc hbel.size _) hb1); clear hb1 c0 c1 c2 hbel
        go_wp2_with fail
        exact ⟨⟨j + 1, by go_num, by omega, HN, HE.out⟩, by simp [intOf]; omega⟩
    · have HF : Hid (R = true) := by
        show R = true
        rw [← HRes.out, List.all_eq_true]
        intro x hx
        obtain ⟨i, hi, rfl⟩ := List.mem_iff_getElem.1 hx
        exact HJ.out i hi (by omega)
      go_wp2_with fail
      go_ret
      exact ⟨by rw [HF.out]; rfl, hbel⟩
set_option maxHeartbeats 1600000 in
theorem allLevel {S : Nat → Prop} (l : List DLevel) (v : Value) (w : World) (h : LevelR w S l v) :
    Calls Tryz.prog 45 #[v, .func (.func 46) #[] #[]] w fun e w' => e = .returned (.bool (l.all levB)) ∧ Below w.heap.size w w' := by
  obtain ⟨a, cap, b, off, s1, rfl, hc, hm, ha, hcell, r1⟩ := h
  have HC := (show Hid _ from hcell); clear hcell
  have HA := (show Hid _ from ha); clear ha
  have HR1 := (show Hid _ from r1); clear r1
  unfold maxLen at hm
  generalize hRes : l.all levB = R
  have HRes := (show Hid _ from hRes); clear hRes
  go_enter Tryz.func45, Tryz.ntmps45
  go_wp2_with fail
  go_loopw [9] (fun i wr => ∃ j : Nat, i = .int .i64 j ∧ j ≤ l.length ∧ Hid (∀ i (hi : i < l.length), i < j → levB l[i] = true) ∧ Below w.heap.size w wr) (fun i _ => l.length - (intOf i).toNat)
  case atStart => exact ⟨0, rfl, Nat.zero_le _, fun i hi h0 => absurd h0 (Nat.not_lt_zero _), Below.refl _ _⟩
  case round =>
    obtain ⟨j, rfl, hj, HJ, hbel⟩ := hrel
    by_cases hjl : j < l.length
    · have hjl' := hjl
      obtain ⟨rfl, _⟩ := HA.out (by omega)
      obtain ⟨c0, c1⟩ := HC.out j hjl'
      rw [← hbel.cell (lt_of_cell c0)] at c0
      rw [← hbel.cell (lt_of_cell c1)] at c1
      have hcl := fun (w' : World) (hb : Below w.heap.size w w') => isLevel_any l[j] (s1 j) w' ((HR1.out j hjl').still hb)
      obtain ⟨a1x, cap1x, e1x, _⟩ := (HR1.out j hjl').form
      rw [e1x] at c1 hcl
      clear e1x
      have HCL := (show Hid _ from hcl); clear hcl
      generalize hB : levB l[j] = B at HCL
      have HB := (show Hid _ from hB); clear hB
      cases B
      · have HF : Hid (R = false) := by
          show R = false
          rw [← HRes.out, List.all_eq_false]
          exact ⟨l[j], List.getElem_mem hjl', by rw [HB.out]; simp⟩
        go_wp2_with fail
        go_at_call 46
        refine Calls.mono (HCL.out _ (hbel.alloc hbel.size _)) ?_
        rintro e w1 ⟨rfl, hb1⟩
        have HE := (show Hid _ from bel_trans (hbel.alloc hbel.size _) hb1); clear hb1 c0 c1 hbel
        go_wp2_with fail
        go_ret
        exact ⟨by rw [HF.out]; rfl, HE.out⟩
      · have HN : Hid (∀ i (hi : i < l.length), i < j + 1 → levB l[i] = true) := fun i hi hij => by
          by_cases e : i = j
          · subst e; exact HB.out
          · exact HJ.out i hi (by omega)
        go_wp2_with fail
        go_at_call 46
        refine Calls.mono (HCL.out _ (hbel.alloc hbel.size _)) ?_
        rintro e w1 ⟨rfl, hb1⟩
        have HE := (show Hid _ from bel_trans (hbel.alloc hbel.size _) hb1); clear hb1 c0 c1 hbel
        go_wp2_with fail
        exact ⟨⟨j + 1, by go_num, by omega, HN, HE.out⟩, by simp [intOf]; omega⟩
    · have HF : Hid (R = true) := by
        show R = true
        rw [← HRes.out, List.all_eq_true]
        intro x hx
        obtain ⟨i, hi, rfl⟩ := List.mem_iff_getElem.1 hx
        exact HJ.out i hi (by omega)
      go_wp2_with fail
      go_ret
      exact ⟨by rw [HF.out]; rfl, hbel⟩
set_option maxHeartbeats 1600000 in
theorem allRule {S : Nat → Prop} (l : List DGRule) (v : Value) (w : World) (h : GRuleR w S l v) :
    Calls Tryz.prog 47 #[v, .func (.func 48) #[] #[]] w fun e w' => e = .returned (.bool (l.all rulB)) ∧ Below w.heap.size w w' := by
  obtain ⟨a, cap, b, off, s1, rfl, hc, hm, ha, hcell, r1⟩ := h
  have HC := (show Hid _ from hcell); clear hcell
  have HA := (show Hid _ from ha); clear ha
  have HR1 := (show Hid _ from r1); clear r1
  unfold maxLen at hm
  generalize hRes : l.all rulB = R
  have HRes := (show Hid _ from hRes); clear hRes
  go_enter Tryz.func47, Tryz.ntmps47
  go_wp2_with fail
  go_loopw [9] (fun i wr => ∃ j : Nat, i = .int .i64 j ∧ j ≤ l.length ∧ Hid (∀ i (hi : i < l.length), i < j → rulB l[i] = true) ∧ Below w.heap.size w wr) (fun i _ => l.length - (intOf i).toNat)
  case atStart => exact ⟨0, rfl, Nat.zero_le _, fun i hi h0 => absurd h0 (Nat.not_lt_zero _), Below.refl _ _⟩
  case round =>
    obtain ⟨j, rfl, hj, HJ, hbel⟩ := hrel
    by_cases hjl : j < l.length
    · have hjl' := hjl
      obtain ⟨rfl, _⟩ := HA.out (by omega)
      obtain ⟨c0, c1, z0⟩ := HC.out j hjl'
      rw [← hbel.cell (lt_of_cell c0)] at c0
      rw [← hbel.cell (lt_of_cell c1)] at c1
      have hcl := fun (w' : World) (hb : Below w.heap.size w w') => isRule_any l[j] (s1 j) w' ((HR1.out j hjl').still hb) z0
      obtain ⟨a1x, cap1x, e1x, _⟩ := (HR1.out j hjl').form
      rw [e1x] at c1 hcl
      clear e1x
      have HCL := (show Hid _ from hcl); clear hcl
      generalize hB : rulB l[j] = B at HCL
      have HB := (show Hid _ from hB); clear hB
      cases B
      · have HF : Hid (R = false) := by
          show R = false
          rw [← HRes.out, List.all_eq_false]
          exact ⟨l[j], List.getElem_mem hjl', by rw [HB.out]; simp⟩
        go_wp2_with fail
        go_at_call 48
        refine Calls.mono (HCL.out _ (hbel.alloc hbel.size _)) ?_
        rintro e w1 ⟨rfl, hb1⟩
        have HE := (show Hid _ from bel_trans (hbel.alloc hbel.size _) hb1); clear hb1 c0 c1 hbel
        go_wp2_with fail
        go_ret
        exact ⟨by rw [HF.out]; rfl, HE.out⟩
      · have HN : Hid (∀ i (hi : i < l.length), i < j + 1 → rulB l[i] = true) := fun i hi hij => by
          by_cases e : i = j
          · subst e; exact HB.out
          · exact HJ.out i hi (by omega)
        go_wp2_with fail
        go_at_call 48
        refine Calls.mono (HCL.out _ (hbel.alloc hbel.size _)) ?_
        rintro e w1 ⟨rfl, hb1⟩
        have HE := (show Hid _ from bel_trans (hbel.alloc hbel.size _) hb1); clear hb1 c0 c1 hbel
        go_wp2_with fail
        exact ⟨⟨j + 1, by go_num, by omega, HN, HE.out⟩, by simp [intOf]; omega⟩
    · have HF : Hid (R = true) := by
        show R = true
        rw [← HRes.out, List.all_eq_true]
        intro x hx
        obtain ⟨i, hi, rfl⟩ := List.mem_iff_getElem.1 hx
        exact HJ.out i hi (by omega)
      go_wp2_with fail
      go_ret
      exact ⟨by rw [HF.out]; rfl, hbel⟩
end Go.Proofs.YtgjnlhidbjpdkajGreat
