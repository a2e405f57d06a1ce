import Derived.Test.YtflhfimgeladaaaTc
import Derived.Test.YtflhfimgeladaaaIbo
/-! The program: TableOK. -/
namespace Go.Proofs.Ytflhfimgeladaaa
open Go.RowKit Go.Deep
set_option linter.unusedVariables false
set_option maxRecDepth 100000
set_option linter.unusedSimpArgs false

/-- An Act is one of those told. -/
def acB (n p : Int) (a : Int × Int) : Bool := if a.1 = 0 ∨ a.1 = 3 then decide (a.2 = 0) else if a.1 = 1 then decide (0 ≤ a.2) && decide (a.2 < n) else if a.1 = 2 then decide (0 ≤ a.2) && decide (a.2 < p) else false
/-- A row of Acts is right. -/
def rAB (n p t : Nat) (l : List (Int × Int)) : Bool := decide (l.length = t + 1) && l.all (acB n p)
/-- A number between two. -/
def wnB (a b x : Int) : Bool := decide (a ≤ x) && decide (x ≤ b)
/-- A row of Gotos is right. -/
def rGB (n m : Nat) (l : List Int) : Bool := decide (l.length = m) && l.all (wnB (-1) ((n : Int) - 1))
/-- What TableOK answers. -/
def tbB (d : Bn) (t : Tb) : Bool := bnB d && (decide (1 ≤ t.acts.length ∧ t.acts.length ≤ 250 ∧ t.gotos.length = t.acts.length) && (t.acts.all (rAB t.acts.length d.prods.length d.terms.length) && t.gotos.all (rGB t.acts.length d.nons.length)))
/-- What the closures reach. -/
structure Env (w : World) (d : Bn) (v0 v1 v3 : Value) (gb gs gf n : Nat) : Prop where
  box : Box4 w gb 37 v0 v1 (.int .i64 d.own) v3
  st : w.cell? ⟨gs, 0, none⟩ = some (.int .i64 n)
  fn : w.cell? ⟨gf, 0, none⟩ = some (.func (.func 38) #[] #[.pointer (some ⟨gs, 0, none⟩), .pointer (some ⟨gb, 0, none⟩)])
theorem Env.still {w w' : World} {d : Bn} {v0 v1 v3 : Value} {gb gs gf n : Nat} (h : Env w d v0 v1 v3 gb gs gf n) (hb : Below w.heap.size w w') : Env w' d v0 v1 v3 gb gs gf n :=
  ⟨h.box.still hb, (hb.cell (lt_of_cell h.st)).trans h.st, (hb.cell (lt_of_cell h.fn)).trans h.fn⟩

set_option maxHeartbeats 1600000 in
theorem actRight_any (a : Int × Int) (n p : Int) (w : World) :
    Calls Try.prog 39 #[.agg #[.int .i64 a.1, .int .i64 a.2], .int .i64 n, .int .i64 p] w fun e w' => e = .returned (.bool (acB n p a)) ∧ Below w.heap.size w w' := by
  obtain ⟨k, m⟩ := a
  generalize hR : acB n p (k, m) = R
  unfold acB at hR
  simp only at hR
  have HB := (show Hid _ from bel_alloc w (.cells #[.int .i64 k, .int .i64 m] 71))
  by_cases h0 : k = 0
  · by_cases hm : m = 0
    · subst h0 hm
      obtain rfl : R = true := by rw [← hR]; simp
      clear hR
      go_enter Try.func39, Try.ntmps39
      go_wp2_with fail
      go_ret
      exact ⟨rfl, HB.out⟩
    · subst h0
      obtain rfl : R = false := by rw [← hR]; simp [hm]
      have hmb : (m == 0) = false := by simp [hm]
      clear hR
      go_enter Try.func39, Try.ntmps39
      go_wp2_with fail
      go_ret
      exact ⟨rfl, HB.out⟩
  by_cases h3 : k = 3
  · by_cases hm : m = 0
    · subst h3 hm
      obtain rfl : R = true := by rw [← hR]; simp
      clear hR
      go_enter Try.func39, Try.ntmps39
      go_wp2_with fail
      go_ret
      exact ⟨rfl, HB.out⟩
    · subst h3
      obtain rfl : R = false := by rw [← hR]; simp [hm]
      have hmb : (m == 0) = false := by simp [hm]
      clear hR
      go_enter Try.func39, Try.ntmps39
      go_wp2_with fail
      go_ret
      exact ⟨rfl, HB.out⟩
  by_cases h1 : k = 1
  · subst h1
    by_cases hm : 0 ≤ m
    · by_cases hl : m < n
      · obtain rfl : R = true := by rw [← hR]; simp [hm, hl]
        clear hR h0 h3
        go_enter Try.func39, Try.ntmps39
        go_wp2_with fail
        go_ret
        exact ⟨rfl, HB.out⟩
      · obtain rfl : R = false := by rw [← hR]; simp [hm, hl]
        clear hR h0 h3
        go_enter Try.func39, Try.ntmps39
        go_wp2_with fail
        go_ret
        exact ⟨rfl, HB.out⟩
    · obtain rfl : R = false := by rw [← hR]; simp [hm]
      clear hR h0 h3
      go_enter Try.func39, Try.ntmps39
      go_wp2_with fail
      go_ret
      exact ⟨rfl, HB.out⟩
  by_cases h2 : k = 2
  · subst h2
    by_cases hm : 0 ≤ m
    · by_cases hl : m < p
      · obtain rfl : R = true := by rw [← hR]; simp [hm, hl]
        clear hR h0 h3
        go_enter Try.func39, Try.ntmps39
        go_wp2_with fail
        go_ret
        exact ⟨rfl, HB.out⟩
      · obtain rfl : R = false := by rw [← hR]; simp [hm, hl]
        clear hR h0 h3
        go_enter Try.func39, Try.ntmps39
        go_wp2_with fail
        go_ret
        exact ⟨rfl, HB.out⟩
    · obtain rfl : R = false := by rw [← hR]; simp [hm]
      clear hR h0 h3
      go_enter Try.func39, Try.ntmps39
      go_wp2_with fail
      go_ret
      exact ⟨rfl, HB.out⟩
  obtain rfl : R = false := by rw [← hR]; simp [h0, h1, h2, h3]
  clear hR
  go_enter Try.func39, Try.ntmps39
  go_wp2_with fail
  go_ret
  exact ⟨rfl, HB.out⟩
set_option maxHeartbeats 1600000 in
theorem dollar1_any (d : Bn) (a : Int × Int) (a0 a1 a3 : Option Addr) (c0 c1 c3 n : Nat) (w : World) (gb gs gf : Nat) (h : Env w d (.slice a0 d.terms.length c0) (.slice a1 d.nons.length c1) (.slice a3 d.prods.length c3) gb gs gf n) (hP : d.prods.length ≤ 120) :
    Calls Try.prog 38 #[.agg #[.int .i64 a.1, .int .i64 a.2], .pointer (some ⟨gs, 0, none⟩), .pointer (some ⟨gb, 0, none⟩)] w fun e w' => e = .returned (.bool (acB n d.prods.length a)) ∧ Below w.heap.size w w' := by
  have HP := (show Hid _ from fun (w' : World) => actRight_any a n d.prods.length w')
  obtain ⟨q, q1, _⟩ := h.still (bel_alloc w (.cells #[.int .i64 a.1, .int .i64 a.2] 71))
  obtain ⟨x0, x1, x2, x3⟩ := q.cells
  clear q h
  generalize acB n d.prods.length a = R at *
  go_enter Try.func38, Try.ntmps38
  go_wp2_with fail
  refine Calls.mono (HP.out _) ?_
  rintro e w1 ⟨rfl, hb⟩
  have HB := (show Hid _ from bel_trans (bel_alloc _ _) hb); clear hb x0 x1 x2 x3
  go_wp2_with fail
  go_ret
  exact ⟨rfl, HB.out⟩
set_option maxHeartbeats 1600000 in
theorem allAct_any {S : Nat → Prop} (d : Bn) (l : List (Int × Int)) (v : Value) (a0 a1 a3 : Option Addr) (c0 c1 c3 n : Nat) (w : World) (gb gs gf : Nat) (h : Env w d (.slice a0 d.terms.length c0) (.slice a1 d.nons.length c1) (.slice a3 d.prods.length c3) gb gs gf n) (hl : Acs w S l v) (hP : d.prods.length ≤ 120) :
    Calls Try.prog 42 #[v, .func (.func 38) #[] #[.pointer (some ⟨gs, 0, none⟩), .pointer (some ⟨gb, 0, none⟩)]] w fun e w' => e = .returned (.bool (l.all (acB n d.prods.length))) ∧ Below w.heap.size w w' := by
  have HD := (show Hid _ from fun (j : Nat) (hj : j < l.length) (w' : World) (hb : Below w.heap.size w w') => dollar1_any d l[j] a0 a1 a3 c0 c1 c3 n w' gb gs gf (h.still hb) hP)
  obtain ⟨a, cap, b, off, rfl, hc, hm, ha, hcell⟩ := hl
  have HC := (show Hid _ from hcell); clear hcell
  have HA := (show Hid _ from ha); clear ha
  unfold maxLen at hm
  clear h
  generalize hRes : l.all (acB n d.prods.length) = R
  have HRes := (show Hid _ from hRes); clear hRes
  go_enter Try.func42, Try.ntmps42
  go_wp2_with fail
  go_loopw [9] (fun i wr => ∃ j : Nat, i = .int .i64 j ∧ j ≤ l.length ∧ Hid (∀ i (hi : i < l.length), i < j → acB n d.prods.length l[i] = true) ∧ Below w.heap.size w wr) (fun i _ => l.length - (intOf i).toNat)
  case atStart => exact ⟨0, rfl, Nat.zero_le _, fun i hi h0 => absurd h0 (Nat.not_lt_zero _), Below.refl _ _⟩
  case round =>
    obtain ⟨j, rfl, hj, HJ, hbel⟩ := hrel
    by_cases hjl : j < l.length
    · have hjl' := hjl
      obtain ⟨rfl, _⟩ := HA.out (by omega)
      obtain ⟨k0, k1⟩ := HC.out j hjl'
      rw [← hbel.cell (lt_of_cell k0)] at k0
      rw [← hbel.cell (lt_of_cell k1)] at k1
      have HCL := (show Hid _ from HD.out j hjl')
      generalize hB : acB n d.prods.length l[j] = B at HCL
      have HB := (show Hid _ from hB); clear hB
      cases B
      · have HF : Hid (R = false) := by
          show R = false
          rw [← HRes.out, List.all_eq_false]
          exact ⟨l[j], List.getElem_mem hjl', by rw [HB.out]; simp⟩
        go_wp2_with fail
        go_at_call 38
        refine Calls.mono (HCL.out _ (hbel.alloc hbel.size _)) ?_
        rintro e w1 ⟨rfl, hb1⟩
        have HE := (show Hid _ from bel_trans (hbel.alloc hbel.size _) hb1); clear hb1 k0 k1 hbel
        go_wp2_with fail
        go_ret
        exact ⟨by rw [HF.out]; rfl, HE.out⟩
      · have HN : Hid (∀ i (hi : i < l.length), i < j + 1 → acB n d.prods.length l[i] = true) := fun i hi hij => by
          by_cases e : i = j
          · subst e; exact HB.out
          · exact HJ.out i hi (by omega)
        go_wp2_with fail
        go_at_call 38
        refine Calls.mono (HCL.out _ (hbel.alloc hbel.size _)) ?_
        rintro e w1 ⟨rfl, hb1⟩
        have HE := (show Hid _ from bel_trans (hbel.alloc hbel.size _) hb1); clear hb1 k0 k1 hbel
        go_wp2_with fail
        exact ⟨⟨j + 1, by go_num, by omega, HN, HE.out⟩, by simp [intOf]; omega⟩
    · have HF : Hid (R = true) := by
        show R = true
        rw [← HRes.out, List.all_eq_true]
        intro x hx
        obtain ⟨i, hi, rfl⟩ := List.mem_iff_getElem.1 hx
        exact HJ.out i hi (by omega)
      go_wp2_with fail
      go_ret
      exact ⟨by rw [HF.out]; rfl, hbel⟩
end Go.Proofs.Ytflhfimgeladaaa

/-! The program: the Gotos of TableOK. -/
namespace Go.Proofs.Ytflhfimgeladaaa
open Go.RowKit Go.Deep
set_option linter.unusedVariables false
set_option maxRecDepth 100000
set_option linter.unusedSimpArgs false

set_option maxHeartbeats 1600000 in
theorem dollar2_any {S : Nat → Prop} (d : Bn) (l : List (Int × Int)) (v : Value) (a0 a1 a3 : Option Addr) (c0 c1 c3 n : Nat) (w : World) (gb gs gf : Nat) (h : Env w d (.slice a0 d.terms.length c0) (.slice a1 d.nons.length c1) (.slice a3 d.prods.length c3) gb gs gf n) (hl : Acs w S l v) (hP : d.prods.length ≤ 120) (hT : d.terms.length ≤ 60) :
    Calls Try.prog 41 #[v, .pointer (some ⟨gb, 0, none⟩), .pointer (some ⟨gf, 0, none⟩)] w fun e w' => e = .returned (.bool (rAB n d.prods.length d.terms.length l)) ∧ Below w.heap.size w w' := by
  have HP := (show Hid _ from allAct_any d l v a0 a1 a3 c0 c1 c3 n w gb gs gf h hl hP)
  obtain ⟨q, _, q2⟩ := h
  obtain ⟨x0, x1, x2, x3⟩ := q.cells
  obtain ⟨a, cap, rfl, hm⟩ := hl.form
  unfold maxLen at hm
  clear q hl
  generalize hR : rAB n d.prods.length d.terms.length l = R
  unfold rAB at hR
  generalize l.all (acB n d.prods.length) = B at *
  have hw : IntKind.i64.wrap ((d.terms.length : Int) + 1) = (d.terms.length : Int) + 1 := by simp [IntKind.wrap, IntKind.bits, IntKind.signed]; omega
  by_cases he : l.length = d.terms.length + 1
  · obtain rfl : B = R := by rw [← hR]; simp [he]
    have he' : ((l.length : Int) == (d.terms.length : Int) + 1) = true := by simp; omega
    clear hR he
    go_enter Try.func41, Try.ntmps41
    go_wp2_with fail
    refine Calls.mono HP.out ?_
    rintro e w1 ⟨rfl, hb⟩
    have HB := (show Hid _ from hb); clear hb x0 x1 x2 x3 q2
    go_wp2_with fail
    go_ret
    exact ⟨rfl, HB.out⟩
  · obtain rfl : R = false := by rw [← hR]; simp [he]
    have he' : ((l.length : Int) == (d.terms.length : Int) + 1) = false := by simp; omega
    clear hR HP he
    go_enter Try.func41, Try.ntmps41
    go_wp2_with fail
    go_ret
    exact ⟨rfl, Below.refl _ _⟩
set_option maxHeartbeats 1600000 in
theorem allActs_any {S : Nat → Prop} (d : Bn) (l : List (List (Int × Int))) (v : Value) (a0 a1 a3 : Option Addr) (c0 c1 c3 n : Nat) (w : World) (gb gs gf : Nat) (h : Env w d (.slice a0 d.terms.length c0) (.slice a1 d.nons.length c1) (.slice a3 d.prods.length c3) gb gs gf n) (hl : ARows w S l v) (hP : d.prods.length ≤ 120) (hT : d.terms.length ≤ 60) :
    Calls Try.prog 40 #[v, .func (.func 41) #[] #[.pointer (some ⟨gb, 0, none⟩), .pointer (some ⟨gf, 0, none⟩)]] w fun e w' => e = .returned (.bool (l.all (rAB n d.prods.length d.terms.length))) ∧ Below w.heap.size w w' := by
  have HD := (show Hid _ from fun (j : Nat) (hj : j < l.length) (sv : Value) (hs : Acs w S l[j] sv) (w' : World) (hb : Below w.heap.size w w') => dollar2_any d l[j] sv a0 a1 a3 c0 c1 c3 n w' gb gs gf (h.still hb) (hs.still hb) hP hT)
  obtain ⟨a, cap, b, off, sv, rfl, hc, hm, ha, hcell, hr⟩ := hl
  have HC := (show Hid _ from hcell); clear hcell
  have HA := (show Hid _ from ha); clear ha
  have HR := (show Hid _ from hr); clear hr
  unfold maxLen at hm
  clear h
  generalize hRes : l.all (rAB n d.prods.length d.terms.length) = R
  have HRes := (show Hid _ from hRes); clear hRes
  go_enter Try.func40, Try.ntmps40
  go_wp2_with fail
  go_loopw [9] (fun i wr => ∃ j : Nat, i = .int .i64 j ∧ j ≤ l.length ∧ Hid (∀ i (hi : i < l.length), i < j → rAB n d.prods.length d.terms.length l[i] = true) ∧ Below w.heap.size w wr) (fun i _ => l.length - (intOf i).toNat)
  case atStart => exact ⟨0, rfl, Nat.zero_le _, fun i hi h0 => absurd h0 (Nat.not_lt_zero _), Below.refl _ _⟩
  case round =>
    obtain ⟨j, rfl, hj, HJ, hbel⟩ := hrel
    by_cases hjl : j < l.length
    · have hjl' := hjl
      obtain ⟨rfl, _⟩ := HA.out (by omega)
      have k0 := HC.out j hjl'
      rw [← hbel.cell (lt_of_cell k0)] at k0
      have hcl := HD.out j hjl' (sv j) (HR.out j hjl')
      obtain ⟨a2, cap2, e2, _⟩ := (HR.out j hjl').form
      rw [e2] at k0 hcl
      have HCL := (show Hid _ from hcl); clear hcl e2
      generalize hB : rAB n d.prods.length d.terms.length l[j] = B at HCL
      have HB := (show Hid _ from hB); clear hB
      cases B
      · have HF : Hid (R = false) := by
          show R = false
          rw [← HRes.out, List.all_eq_false]
          exact ⟨l[j], List.getElem_mem hjl', by rw [HB.out]; simp⟩
        go_wp2_with fail
        go_at_call 41
        refine Calls.mono (HCL.out _ hbel) ?_
        rintro e w1 ⟨rfl, hb1⟩
        have HE := (show Hid _ from bel_trans hbel hb1); clear hb1 k0 hbel
        go_wp2_with fail
        go_ret
        exact ⟨by rw [HF.out]; rfl, HE.out⟩
      · have HN : Hid (∀ i (hi : i < l.length), i < j + 1 → rAB n d.prods.length d.terms.length l[i] = true) := fun i hi hij => by
          by_cases e : i = j
          · subst e; exact HB.out
          · exact HJ.out i hi (by omega)
        go_wp2_with fail
        go_at_call 41
        refine Calls.mono (HCL.out _ hbel) ?_
        rintro e w1 ⟨rfl, hb1⟩
        have HE := (show Hid _ from bel_trans hbel hb1); clear hb1 k0 hbel
        go_wp2_with fail
        exact ⟨⟨j + 1, by go_num, by omega, HN, HE.out⟩, by simp [intOf]; omega⟩
    · have HF : Hid (R = true) := by
        show R = true
        rw [← HRes.out, List.all_eq_true]
        intro x hx
        obtain ⟨i, hi, rfl⟩ := List.mem_iff_getElem.1 hx
        exact HJ.out i hi (by omega)
      go_wp2_with fail
      go_ret
      exact ⟨by rw [HF.out]; rfl, hbel⟩
end Go.Proofs.Ytflhfimgeladaaa

/-! The program: the Gotos of TableOK. -/
namespace Go.Proofs.Ytflhfimgeladaaa
open Go.RowKit Go.Deep
set_option linter.unusedVariables false
set_option maxRecDepth 100000
set_option linter.unusedSimpArgs false

set_option maxHeartbeats 1600000 in
theorem wthn_any {S : Nat → Prop} (l : List Int) (lo hi : Int) (v : Value) (w : World) (h : Ints w S l v) :
    Calls Try.prog 45 #[v, .int .i64 lo, .int .i64 hi] w fun e w' => e = .returned (.bool (l.all (wnB lo hi))) ∧ Below w.heap.size w w' := by
  obtain ⟨a, cap, b, off, rfl, hc, hm, ha, hcell⟩ := h
  have HC := (show Hid _ from hcell); clear hcell
  have HA := (show Hid _ from ha); clear ha
  unfold maxLen at hm
  generalize hRes : l.all (wnB lo hi) = R
  have HRes := (show Hid _ from hRes); clear hRes
  go_enter Try.func45, Try.ntmps45
  go_wp2_with fail
  go_loopw [11] (fun i wr => ∃ j : Nat, i = .int .i64 j ∧ j ≤ l.length ∧ Hid (∀ i (hi' : i < l.length), i < j → wnB lo hi l[i] = true) ∧ Below w.heap.size w wr) (fun i _ => l.length - (intOf i).toNat)
  case atStart => exact ⟨0, rfl, Nat.zero_le _, fun i hi h0 => absurd h0 (Nat.not_lt_zero _), Below.refl _ _⟩
  case round =>
    obtain ⟨j, rfl, hj, HJ, hbel⟩ := hrel
    by_cases hjl : j < l.length
    · have hjl' := hjl
      obtain ⟨rfl, _⟩ := HA.out (by omega)
      have k0 := HC.out j hjl'
      rw [← hbel.cell (lt_of_cell k0)] at k0
      have HX : Hid (∀ R', wnB lo hi l[j] = R' → R' = false → R = false) := fun R' e1 e2 => by
        show R = false
        rw [← HRes.out, List.all_eq_false]
        exact ⟨l[j], List.getElem_mem hjl', by rw [e1, e2]; simp⟩
      have HY : Hid (wnB lo hi l[j] = true → ∀ i (hi' : i < l.length), i < j + 1 → wnB lo hi l[i] = true) := fun e0 i hi' hij => by
        by_cases e : i = j
        · subst e; exact e0
        · exact HJ.out i hi' (by omega)
      have hB : wnB lo hi l[j] = (decide (lo ≤ l[j]) && decide (l[j] ≤ hi)) := rfl
      generalize l[j] = x at *
      by_cases h1 : x < lo
      · have HF : Hid (R = false) := HX.out _ hB (by simp; omega)
        clear HX HY hB HJ
        go_wp2_with fail
        go_ret
        exact ⟨by rw [HF.out]; rfl, hbel⟩
      · by_cases h2 : x > hi
        · have HF : Hid (R = false) := HX.out _ hB (by simp; omega)
          clear HX HY hB HJ
          go_wp2_with fail
          go_ret
          exact ⟨by rw [HF.out]; rfl, hbel⟩
        · have HN := (show Hid _ from HY.out (by rw [hB]; simp; omega))
          clear HX HY hB HJ
          go_wp2_with fail
          exact ⟨⟨j + 1, by go_num, by omega, HN, hbel⟩, by simp [intOf]; omega⟩
    · have HF : Hid (R = true) := by
        show R = true
        rw [← HRes.out, List.all_eq_true]
        intro x hx
        obtain ⟨i, hi, rfl⟩ := List.mem_iff_getElem.1 hx
        exact HJ.out i hi (by omega)
      go_wp2_with fail
      go_ret
      exact ⟨by rw [HF.out]; rfl, hbel⟩
set_option maxHeartbeats 1600000 in
theorem dollar3_any {S : Nat → Prop} (d : Bn) (l : List Int) (v : Value) (a0 a1 a3 : Option Addr) (c0 c1 c3 n : Nat) (w : World) (gb gs gf : Nat) (h : Env w d (.slice a0 d.terms.length c0) (.slice a1 d.nons.length c1) (.slice a3 d.prods.length c3) gb gs gf n) (hl : Ints w S l v) (hn : n ≤ 250) (hN : d.nons.length ≤ 100) :
    Calls Try.prog 44 #[v, .pointer (some ⟨gb, 0, none⟩), .pointer (some ⟨gs, 0, none⟩)] w fun e w' => e = .returned (.bool (rGB n d.nons.length l)) ∧ Below w.heap.size w w' := by
  have HP := (show Hid _ from wthn_any l (-1) ((n : Int) - 1) v w hl)
  obtain ⟨q, q1, _⟩ := h
  obtain ⟨x0, x1, x2, x3⟩ := q.cells
  obtain ⟨a, cap, rfl, hm⟩ := hl.form
  unfold maxLen at hm
  clear q hl
  generalize hR : rGB n d.nons.length l = R
  unfold rGB at hR
  generalize l.all (wnB (-1) ((n : Int) - 1)) = B at *
  by_cases he : l.length = d.nons.length
  · obtain rfl : B = R := by rw [← hR]; simp [he]
    have he' : ((l.length : Int) == (d.nons.length : Int)) = true := by simp; omega
    clear hR he
    go_enter Try.func44, Try.ntmps44
    go_wp2_with fail
    refine Calls.mono HP.out ?_
    rintro e w1 ⟨rfl, hb⟩
    have HB := (show Hid _ from hb); clear hb x0 x1 x2 x3 q1
    go_wp2_with fail
    go_ret
    exact ⟨rfl, HB.out⟩
  · obtain rfl : R = false := by rw [← hR]; simp [he]
    have he' : ((l.length : Int) == (d.nons.length : Int)) = false := by simp; omega
    clear hR HP he
    go_enter Try.func44, Try.ntmps44
    go_wp2_with fail
    go_ret
    exact ⟨rfl, Below.refl _ _⟩
set_option maxHeartbeats 1600000 in
theorem allGotos_any {S : Nat → Prop} (d : Bn) (l : List (List Int)) (v : Value) (a0 a1 a3 : Option Addr) (c0 c1 c3 n : Nat) (w : World) (gb gs gf : Nat) (h : Env w d (.slice a0 d.terms.length c0) (.slice a1 d.nons.length c1) (.slice a3 d.prods.length c3) gb gs gf n) (hl : IRows w S l v) (hn : n ≤ 250) (hN : d.nons.length ≤ 100) :
    Calls Try.prog 43 #[v, .func (.func 44) #[] #[.pointer (some ⟨gb, 0, none⟩), .pointer (some ⟨gs, 0, none⟩)]] w fun e w' => e = .returned (.bool (l.all (rGB n d.nons.length))) ∧ Below w.heap.size w w' := by
  have HD := (show Hid _ from fun (j : Nat) (hj : j < l.length) (sv : Value) (hs : Ints w S l[j] sv) (w' : World) (hb : Below w.heap.size w w') => dollar3_any d l[j] sv a0 a1 a3 c0 c1 c3 n w' gb gs gf (h.still hb) (hs.still hb) hn hN)
  obtain ⟨a, cap, b, off, sv, rfl, hc, hm, ha, hcell, hr⟩ := hl
  have HC := (show Hid _ from hcell); clear hcell
  have HA := (show Hid _ from ha); clear ha
  have HR := (show Hid _ from hr); clear hr
  unfold maxLen at hm
  clear h
  generalize hRes : l.all (rGB n d.nons.length) = R
  have HRes := (show Hid _ from hRes); clear hRes
  go_enter Try.func43, Try.ntmps43
  go_wp2_with fail
  go_loopw [9] (fun i wr => ∃ j : Nat, i = .int .i64 j ∧ j ≤ l.length ∧ Hid (∀ i (hi : i < l.length), i < j → rGB n d.nons.length l[i] = true) ∧ Below w.heap.size w wr) (fun i _ => l.length - (intOf i).toNat)
  case atStart => exact ⟨0, rfl, Nat.zero_le _, fun i hi h0 => absurd h0 (Nat.not_lt_zero _), Below.refl _ _⟩
  case round =>
    obtain ⟨j, rfl, hj, HJ, hbel⟩ := hrel
    by_cases hjl : j < l.length
    · have hjl' := hjl
      obtain ⟨rfl, _⟩ := HA.out (by omega)
      have k0 := HC.out j hjl'
      rw [← hbel.cell (lt_of_cell k0)] at k0
      have hcl := HD.out j hjl' (sv j) (HR.out j hjl')
      obtain ⟨a2, cap2, e2, _⟩ := (HR.out j hjl').form
      rw [e2] at k0 hcl
      have HCL := (show Hid _ from hcl); clear hcl e2
      generalize hB : rGB n d.nons.length l[j] = B at HCL
      have HB := (show Hid _ from hB); clear hB
      cases B
      · have HF : Hid (R = false) := by
          show R = false
          rw [← HRes.out, List.all_eq_false]
          exact ⟨l[j], List.getElem_mem hjl', by rw [HB.out]; simp⟩
        go_wp2_with fail
        go_at_call 44
        refine Calls.mono (HCL.out _ hbel) ?_
        rintro e w1 ⟨rfl, hb1⟩
        have HE := (show Hid _ from bel_trans hbel hb1); clear hb1 k0 hbel
        go_wp2_with fail
        go_ret
        exact ⟨by rw [HF.out]; rfl, HE.out⟩
      · have HN : Hid (∀ i (hi : i < l.length), i < j + 1 → rGB n d.nons.length l[i] = true) := fun i hi hij => by
          by_cases e : i = j
          · subst e; exact HB.out
          · exact HJ.out i hi (by omega)
        go_wp2_with fail
        go_at_call 44
        refine Calls.mono (HCL.out _ hbel) ?_
        rintro e w1 ⟨rfl, hb1⟩
        have HE := (show Hid _ from bel_trans hbel hb1); clear hb1 k0 hbel
        go_wp2_with fail
        exact ⟨⟨j + 1, by go_num, by omega, HN, HE.out⟩, by simp [intOf]; omega⟩
    · have HF : Hid (R = true) := by
        show R = true
        rw [← HRes.out, List.all_eq_true]
        intro x hx
        obtain ⟨i, hi, rfl⟩ := List.mem_iff_getElem.1 hx
        exact HJ.out i hi (by omega)
      go_wp2_with fail
      go_ret
      exact ⟨by rw [HF.out]; rfl, hbel⟩
end Go.Proofs.Ytflhfimgeladaaa
