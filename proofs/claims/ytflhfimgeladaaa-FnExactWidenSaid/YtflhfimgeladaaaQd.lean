import Derived.Test.YtflhfimgeladaaaQb
import Derived.Test.YtflhfimgeladaaaSs
/-! The program: whether rows are of one length. -/
namespace Go.Proofs.Ytflhfimgeladaaa
open Go.RowKit Go.Deep
set_option linter.unusedVariables false
set_option maxRecDepth 100000
set_option linter.unusedSimpArgs false

set_option maxHeartbeats 800000 in
theorem lenCloA {S S' : Nat → Prop} (ls : List (List (Int × Int))) (l : List (Int × Int)) (v u : Value) (g : Nat) (w : World) (h : ARows w S ls v) (h' : Acs w S' l u) (hg : w.cell? ⟨g, 0, none⟩ = some v) (h0 : 0 < ls.length) :
    Calls Try.prog 90 #[u, .pointer (some ⟨g, 0, none⟩)] w fun e w' => e = .returned (.bool (decide (l.length = (ls.getD 0 []).length))) ∧ Below w.heap.size w w' := by
  obtain ⟨a, cap, b, off, sv, rfl, hc, hm, ha, hcell, hr⟩ := h
  obtain ⟨rfl, _⟩ := ha h0
  have k0 := hcell 0 h0
  obtain ⟨a2, cap2, e2, hm2⟩ := (hr 0 h0).form
  rw [e2, Nat.add_zero] at k0
  obtain ⟨a3, cap3, rfl, hm3⟩ := h'.form
  have e9 : ls.getD 0 [] = ls[0] := by simp [List.getD_eq_getElem?_getD, h0]
  rw [e9]
  unfold maxLen at hm hm2 hm3
  clear hcell hr h' ha e2 e9
  generalize ls[0].length = n0 at *
  by_cases he : l.length = n0
  · rw [decide_eq_true he]
    have he' : ((l.length : Int) == (n0 : Int)) = true := by simp; omega
    clear he
    go_enter Try.func90, Try.ntmps90
    go_wp2_with fail
    go_ret
    exact ⟨rfl, Below.refl _ _⟩
  · rw [decide_eq_false he]
    have he' : ((l.length : Int) == (n0 : Int)) = false := by simp; omega
    clear he
    go_enter Try.func90, Try.ntmps90
    go_wp2_with fail
    go_ret
    exact ⟨rfl, Below.refl _ _⟩
set_option maxHeartbeats 1600000 in
theorem allLenA_any {S : Nat → Prop} (ls : List (List (Int × Int))) (v : Value) (g : Nat) (w : World) (h : ARows w S ls v) (hg : w.cell? ⟨g, 0, none⟩ = some v) :
    Calls Try.prog 40 #[v, .func (.func 90) #[] #[.pointer (some ⟨g, 0, none⟩)]] w fun e w' => e = .returned (.bool (ls.all (fun r => decide (r.length = (ls.getD 0 []).length)))) ∧ Below w.heap.size w w' := by
  have HD := (show Hid _ from fun (j : Nat) (hj : j < ls.length) (sv : Value) (hs : Acs w S ls[j] sv) (w' : World) (hb : Below w.heap.size w w') => lenCloA ls ls[j] v sv g w' (h.still hb) (hs.still hb) ((hb.cell (lt_of_cell hg)).trans hg) (by omega))
  obtain ⟨a, cap, b, off, sv, rfl, hc, hm, ha, hcell, hr⟩ := h
  have HC := (show Hid _ from hcell); clear hcell
  have HA := (show Hid _ from ha); clear ha
  have HR := (show Hid _ from hr); clear hr
  unfold maxLen at hm
  clear hg
  generalize hRes : ls.all (fun r => decide (r.length = (ls.getD 0 []).length)) = R
  have HRes := (show Hid _ from hRes); clear hRes
  go_enter Try.func40, Try.ntmps40
  go_wp2_with fail
  go_loopw [9] (fun i wr => ∃ j : Nat, i = .int .i64 j ∧ j ≤ ls.length ∧ Hid (∀ i (hi : i < ls.length), i < j → ls[i].length = (ls.getD 0 []).length) ∧ Below w.heap.size w wr) (fun i _ => ls.length - (intOf i).toNat)
  case atStart => exact ⟨0, rfl, Nat.zero_le _, fun i hi h0 => absurd h0 (Nat.not_lt_zero _), Below.refl _ _⟩
  case round =>
    obtain ⟨j, rfl, hj, HJ, hbel⟩ := hrel
    by_cases hjl : j < ls.length
    · have hjl' := hjl
      obtain ⟨rfl, _⟩ := HA.out (by omega)
      have k0 := HC.out j hjl'
      rw [← hbel.cell (lt_of_cell k0)] at k0
      have hcl := HD.out j hjl' (sv j) (HR.out j hjl') wr hbel
      obtain ⟨a2, cap2, e2, _⟩ := (HR.out j hjl').form
      rw [e2] at k0 hcl
      have HCL := (show Hid _ from hcl); clear hcl e2
      by_cases he : ls[j].length = (ls.getD 0 []).length
      · rw [decide_eq_true he] at HCL
        have HN : Hid (∀ i (hi : i < ls.length), i < j + 1 → ls[i].length = (ls.getD 0 []).length) := fun i hi hij => by
          by_cases e : i = j
          · subst e; exact he
          · exact HJ.out i hi (by omega)
        clear he
        go_wp2_with fail
        go_at_call 90
        refine Calls.mono HCL.out ?_
        rintro e w1 ⟨rfl, hb1⟩
        have HE := (show Hid _ from bel_trans hbel hb1); clear hb1 k0 hbel
        go_wp2_with fail
        exact ⟨⟨j + 1, by go_num, by omega, HN, HE.out⟩, by simp [intOf]; omega⟩
      · have HF : Hid (R = false) := by
          show R = false
          rw [← HRes.out]
          exact all_false_at j hjl' (decide_eq_false he)
        rw [decide_eq_false he] at HCL
        clear he
        go_wp2_with fail
        go_at_call 90
        refine Calls.mono HCL.out ?_
        rintro e w1 ⟨rfl, hb1⟩
        have HE := (show Hid _ from bel_trans hbel hb1); clear hb1 k0 hbel
        go_wp2_with fail
        go_ret
        exact ⟨by rw [HF.out]; rfl, HE.out⟩
    · have HF : Hid (R = true) := by
        show R = true
        rw [← HRes.out]
        exact all_true_of (fun i hi => decide_eq_true (HJ.out i hi (by omega)))
      go_wp2_with fail
      go_ret
      exact ⟨by rw [HF.out]; rfl, hbel⟩
set_option maxHeartbeats 800000 in
theorem sameLenA_any {S : Nat → Prop} (ls : List (List (Int × Int))) (v : Value) (w : World) (h : ARows w S ls v) :
    Calls Try.prog 53 #[v] w fun e w' => e = .returned (.bool (ls.all (fun r => decide (r.length = (ls.getD 0 []).length)))) ∧ Below w.heap.size w w' := by
  have hb0 := bel_alloc w (.cells #[v] 39)
  have HC := (show Hid _ from allLenA_any ls v w.heap.size (w.alloc (.cells #[v] 39)) (h.still hb0) (by simp [go_sem]))
  have HB0 := (show Hid _ from hb0)
  obtain ⟨a, cap, rfl, _⟩ := h.form
  clear h hb0
  generalize ls.all (fun r => decide (r.length = (ls.getD 0 []).length)) = R at *
  go_enter Try.func53, Try.ntmps53
  go_wp2_with fail
  refine Calls.mono HC.out ?_
  rintro e w1 ⟨rfl, hb⟩
  have HB := (show Hid _ from bel_trans HB0.out hb); clear hb
  go_wp2_with fail
  go_ret
  exact ⟨rfl, HB.out⟩
set_option maxHeartbeats 800000 in
theorem lenCloI {S S' : Nat → Prop} (ls : List (List Int)) (l : List Int) (v u : Value) (g : Nat) (w : World) (h : IRows w S ls v) (h' : Ints w S' l u) (hg : w.cell? ⟨g, 0, none⟩ = some v) (h0 : 0 < ls.length) :
    Calls Try.prog 91 #[u, .pointer (some ⟨g, 0, none⟩)] w fun e w' => e = .returned (.bool (decide (l.length = (ls.getD 0 []).length))) ∧ Below w.heap.size w w' := by
  obtain ⟨a, cap, b, off, sv, rfl, hc, hm, ha, hcell, hr⟩ := h
  obtain ⟨rfl, _⟩ := ha h0
  have k0 := hcell 0 h0
  obtain ⟨a2, cap2, e2, hm2⟩ := (hr 0 h0).form
  rw [e2, Nat.add_zero] at k0
  obtain ⟨a3, cap3, rfl, hm3⟩ := h'.form
  have e9 : ls.getD 0 [] = ls[0] := by simp [List.getD_eq_getElem?_getD, h0]
  rw [e9]
  unfold maxLen at hm hm2 hm3
  clear hcell hr h' ha e2 e9
  generalize ls[0].length = n0 at *
  by_cases he : l.length = n0
  · rw [decide_eq_true he]
    have he' : ((l.length : Int) == (n0 : Int)) = true := by simp; omega
    clear he
    go_enter Try.func91, Try.ntmps91
    go_wp2_with fail
    go_ret
    exact ⟨rfl, Below.refl _ _⟩
  · rw [decide_eq_false he]
    have he' : ((l.length : Int) == (n0 : Int)) = false := by simp; omega
    clear he
    go_enter Try.func91, Try.ntmps91
    go_wp2_with fail
    go_ret
    exact ⟨rfl, Below.refl _ _⟩
set_option maxHeartbeats 1600000 in
theorem allLenI_any {S : Nat → Prop} (ls : List (List Int)) (v : Value) (g : Nat) (w : World) (h : IRows w S ls v) (hg : w.cell? ⟨g, 0, none⟩ = some v) :
    Calls Try.prog 43 #[v, .func (.func 91) #[] #[.pointer (some ⟨g, 0, none⟩)]] w fun e w' => e = .returned (.bool (ls.all (fun r => decide (r.length = (ls.getD 0 []).length)))) ∧ Below w.heap.size w w' := by
  have HD := (show Hid _ from fun (j : Nat) (hj : j < ls.length) (sv : Value) (hs : Ints w S ls[j] sv) (w' : World) (hb : Below w.heap.size w w') => lenCloI ls ls[j] v sv g w' (h.still hb) (hs.still hb) ((hb.cell (lt_of_cell hg)).trans hg) (by omega))
  obtain ⟨a, cap, b, off, sv, rfl, hc, hm, ha, hcell, hr⟩ := h
  have HC := (show Hid _ from hcell); clear hcell
  have HA := (show Hid _ from ha); clear ha
  have HR := (show Hid _ from hr); clear hr
  unfold maxLen at hm
  clear hg
  generalize hRes : ls.all (fun r => decide (r.length = (ls.getD 0 []).length)) = R
  have HRes := (show Hid _ from hRes); clear hRes
  go_enter Try.func43, Try.ntmps43
  go_wp2_with fail
  go_loopw [9] (fun i wr => ∃ j : Nat, i = .int .i64 j ∧ j ≤ ls.length ∧ Hid (∀ i (hi : i < ls.length), i < j → ls[i].length = (ls.getD 0 []).length) ∧ Below w.heap.size w wr) (fun i _ => ls.length - (intOf i).toNat)
  case atStart => exact ⟨0, rfl, Nat.zero_le _, fun i hi h0 => absurd h0 (Nat.not_lt_zero _), Below.refl _ _⟩
  case round =>
    obtain ⟨j, rfl, hj, HJ, hbel⟩ := hrel
    by_cases hjl : j < ls.length
    · have hjl' := hjl
      obtain ⟨rfl, _⟩ := HA.out (by omega)
      have k0 := HC.out j hjl'
      rw [← hbel.cell (lt_of_cell k0)] at k0
      have hcl := HD.out j hjl' (sv j) (HR.out j hjl') wr hbel
      obtain ⟨a2, cap2, e2, _⟩ := (HR.out j hjl').form
      rw [e2] at k0 hcl
      have HCL := (show Hid _ from hcl); clear hcl e2
      by_cases he : ls[j].length = (ls.getD 0 []).length
      · rw [decide_eq_true he] at HCL
        have HN : Hid (∀ i (hi : i < ls.length), i < j + 1 → ls[i].length = (ls.getD 0 []).length) := fun i hi hij => by
          by_cases e : i = j
          · subst e; exact he
          · exact HJ.out i hi (by omega)
        clear he
        go_wp2_with fail
        go_at_call 91
        refine Calls.mono HCL.out ?_
        rintro e w1 ⟨rfl, hb1⟩
        have HE := (show Hid _ from bel_trans hbel hb1); clear hb1 k0 hbel
        go_wp2_with fail
        exact ⟨⟨j + 1, by go_num, by omega, HN, HE.out⟩, by simp [intOf]; omega⟩
      · have HF : Hid (R = false) := by
          show R = false
          rw [← HRes.out]
          exact all_false_at j hjl' (decide_eq_false he)
        rw [decide_eq_false he] at HCL
        clear he
        go_wp2_with fail
        go_at_call 91
        refine Calls.mono HCL.out ?_
        rintro e w1 ⟨rfl, hb1⟩
        have HE := (show Hid _ from bel_trans hbel hb1); clear hb1 k0 hbel
        go_wp2_with fail
        go_ret
        exact ⟨by rw [HF.out]; rfl, HE.out⟩
    · have HF : Hid (R = true) := by
        show R = true
        rw [← HRes.out]
        exact all_true_of (fun i hi => decide_eq_true (HJ.out i hi (by omega)))
      go_wp2_with fail
      go_ret
      exact ⟨by rw [HF.out]; rfl, hbel⟩
set_option maxHeartbeats 800000 in
theorem sameLenI_any {S : Nat → Prop} (ls : List (List Int)) (v : Value) (w : World) (h : IRows w S ls v) :
    Calls Try.prog 54 #[v] w fun e w' => e = .returned (.bool (ls.all (fun r => decide (r.length = (ls.getD 0 []).length)))) ∧ Below w.heap.size w w' := by
  have hb0 := bel_alloc w (.cells #[v] 28)
  have HC := (show Hid _ from allLenI_any ls v w.heap.size (w.alloc (.cells #[v] 28)) (h.still hb0) (by simp [go_sem]))
  have HB0 := (show Hid _ from hb0)
  obtain ⟨a, cap, rfl, _⟩ := h.form
  clear h hb0
  generalize ls.all (fun r => decide (r.length = (ls.getD 0 []).length)) = R at *
  go_enter Try.func54, Try.ntmps54
  go_wp2_with fail
  refine Calls.mono HC.out ?_
  rintro e w1 ⟨rfl, hb⟩
  have HB := (show Hid _ from bel_trans HB0.out hb); clear hb
  go_wp2_with fail
  go_ret
  exact ⟨rfl, HB.out⟩
end Go.Proofs.Ytflhfimgeladaaa
