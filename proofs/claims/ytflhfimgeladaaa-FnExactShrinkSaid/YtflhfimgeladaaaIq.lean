import Derived.Test.YtflhfimgeladaaaIp
/-! The program: the Gotos of TableOK. -/
namespace Go.Proofs.Ytflhfimgeladaaa
open Go.RowKit Go.Deep
set_option linter.unusedVariables false
set_option maxRecDepth 100000
set_option linter.unusedSimpArgs false

set_option maxHeartbeats 1600000 in
theorem dollar2_any {S : Nat → Prop} (d : Bn) (l : List (Int × Int)) (v : Value) (a0 a1 a3 : Option Addr) (c0 c1 c3 n : Nat) (w : World) (gb gs gf : Nat) (h : Env w d (.slice a0 d.terms.length c0) (.slice a1 d.nons.length c1) (.slice a3 d.prods.length c3) gb gs gf n) (hl : Acs w S l v) (hP : d.prods.length ≤ 120) (hT : d.terms.length ≤ 60) :
    Calls Try.prog 41 #[v, .pointer (some ⟨gb, 0, none⟩), .pointer (some ⟨gf, 0, none⟩)] w fun e w' => e = .returned (.bool (rAB n d.prods.length d.terms.length l)) ∧ Below w.heap.size w w' := by
  have HP := (show Hid _ from allAct_any d l v a0 a1 a3 c0 c1 c3 n w gb gs gf h hl hP)
  obtain ⟨q, _, q2⟩ := h
  obtain ⟨x0, x1, x2, x3⟩ := q.cells
  obtain ⟨a, cap, rfl, hm⟩ := hl.form
  unfold maxLen at hm
  clear q hl
  generalize hR : rAB n d.prods.length d.terms.length l = R
  unfold rAB at hR
  generalize l.all (acB n d.prods.length) = B at *
  have hw : IntKind.i64.wrap ((d.terms.length : Int) + 1) = (d.terms.length : Int) + 1 := by simp [IntKind.wrap, IntKind.bits, IntKind.signed]; omega
  by_cases he : l.length = d.terms.length + 1
  · obtain rfl : B = R := by rw [← hR]; simp [he]
    have he' : ((l.length : Int) == (d.terms.length : Int) + 1) = true := by simp; omega
    clear hR he
    go_enter Try.func41, Try.ntmps41
    go_wp2_with fail
    refine Calls.mono HP.out ?_
    rintro e w1 ⟨rfl, hb⟩
    have HB := (show Hid _ from hb); clear hb x0 x1 x2 x3 q2
    go_wp2_with fail
    go_ret
    exact ⟨rfl, HB.out⟩
  · obtain rfl : R = false := by rw [← hR]; simp [he]
    have he' : ((l.length : Int) == (d.terms.length : Int) + 1) = false := by simp; omega
    clear hR HP he
    go_enter Try.func41, Try.ntmps41
    go_wp2_with fail
    go_ret
    exact ⟨rfl, Below.refl _ _⟩
set_option maxHeartbeats 1600000 in
theorem allActs_any {S : Nat → Prop} (d : Bn) (l : List (List (Int × Int))) (v : Value) (a0 a1 a3 : Option Addr) (c0 c1 c3 n : Nat) (w : World) (gb gs gf : Nat) (h : Env w d (.slice a0 d.terms.length c0) (.slice a1 d.nons.length c1) (.slice a3 d.prods.length c3) gb gs gf n) (hl : ARows w S l v) (hP : d.prods.length ≤ 120) (hT : d.terms.length ≤ 60) :
    Calls Try.prog 40 #[v, .func (.func 41) #[] #[.pointer (some ⟨gb, 0, none⟩), .pointer (some ⟨gf, 0, none⟩)]] w fun e w' => e = .returned (.bool (l.all (rAB n d.prods.length d.terms.length))) ∧ Below w.heap.size w w' := by
  have HD := (show Hid _ from fun (j : Nat) (hj : j < l.length) (sv : Value) (hs : Acs w S l[j] sv) (w' : World) (hb : Below w.heap.size w w') => dollar2_any d l[j] sv a0 a1 a3 c0 c1 c3 n w' gb gs gf (h.still hb) (hs.still hb) hP hT)
  obtain ⟨a, cap, b, off, sv, rfl, hc, hm, ha, hcell, hr⟩ := hl
  have HC := (show Hid _ from hcell); clear hcell
  have HA := (show Hid _ from ha); clear ha
  have HR := (show Hid _ from hr); clear hr
  unfold maxLen at hm
  clear h
  generalize hRes : l.all (rAB n d.prods.length d.terms.length) = R
  have HRes := (show Hid _ from hRes); clear hRes
  go_enter Try.func40, Try.ntmps40
  go_wp2_with fail
  go_loopw [9] (fun i wr => ∃ j : Nat, i = .int .i64 j ∧ j ≤ l.length ∧ Hid (∀ i (hi : i < l.length), i < j → rAB n d.prods.length d.terms.length l[i] = true) ∧ Below w.heap.size w wr) (fun i _ => l.length - (intOf i).toNat)
  case atStart => exact ⟨0, rfl, Nat.zero_le _, fun i hi h0 => absurd h0 (Nat.not_lt_zero _), Below.refl _ _⟩
  case round =>
    obtain ⟨j, rfl, hj, HJ, hbel⟩ := hrel
    by_cases hjl : j < l.length
    · have hjl' := hjl
      obtain ⟨rfl, _⟩ := HA.out (by omega)
      have k0 := HC.out j hjl'
      rw [← hbel.cell (lt_of_cell k0)] at k0
      have hcl := HD.out j hjl' (sv j) (HR.out j hjl')
      obtain ⟨a2, cap2, e2, _⟩ := (HR.out j hjl').form
      rw [e2] at k0 hcl
      have HCL := (show Hid _ from hcl); clear hcl e2
      generalize hB : rAB n d.prods.length d.terms.length l[j] = B at HCL
      have HB := (show Hid _ from hB); clear hB
      cases B
      · have HF : Hid (R = false) := by
          show R = false
          rw [← HRes.out, List.all_eq_false]
          exact ⟨l[j], List.getElem_mem hjl', by rw [HB.out]; simp⟩
        go_wp2_with fail
        go_at_call 41
        refine Calls.mono (HCL.out _ hbel) ?_
        rintro e w1 ⟨rfl, hb1⟩
        have HE := (show Hid _ from bel_trans hbel hb1); clear hb1 k0 hbel
        go_wp2_with fail
        go_ret
        exact ⟨by rw [HF.out]; rfl, HE.out⟩
      · have HN : Hid (∀ i (hi : i < l.length), i < j + 1 → rAB n d.prods.length d.terms.length l[i] = true) := fun i hi hij => by
          by_cases e : i = j
          · subst e; exact HB.out
          · exact HJ.out i hi (by omega)
        go_wp2_with fail
        go_at_call 41
        refine Calls.mono (HCL.out _ hbel) ?_
        rintro e w1 ⟨rfl, hb1⟩
        have HE := (show Hid _ from bel_trans hbel hb1); clear hb1 k0 hbel
        go_wp2_with fail
        exact ⟨⟨j + 1, by go_num, by omega, HN, HE.out⟩, by simp [intOf]; omega⟩
    · have HF : Hid (R = true) := by
        show R = true
        rw [← HRes.out, List.all_eq_true]
        intro x hx
        obtain ⟨i, hi, rfl⟩ := List.mem_iff_getElem.1 hx
        exact HJ.out i hi (by omega)
      go_wp2_with fail
      go_ret
      exact ⟨by rw [HF.out]; rfl, hbel⟩
end Go.Proofs.Ytflhfimgeladaaa
