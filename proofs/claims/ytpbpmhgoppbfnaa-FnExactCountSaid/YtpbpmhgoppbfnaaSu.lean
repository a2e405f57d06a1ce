import Derived.Test.YtpbpmhgoppbfnaaEq
import Derived.Test.YtpbpmhgoppbfnaaNm
import Derived.Test.YtpbpmhgoppbfnaaLt
import Derived.Test.YtpbpmhgoppbfnaaTo
/-! Which plain rules are right. -/
namespace Go.Proofs.Ytpbpmhgoppbfnaa
open Go.RowKit Go.Deep
set_option linter.unusedVariables false
set_option maxRecDepth 100000
set_option linter.unusedSimpArgs false

def stB (l a : Int) : Bool := decide (l = 0 ∧ a = 0 ∨ 0 < l ∧ l ≤ 8 ∧ 1 ≤ a ∧ a ≤ 3)
def wiB (x a b : Int) : Bool := decide (a ≤ x ∧ x ≤ b)
/-- .. a Prod; T and N: how many Terms and Nons. -/
def pdB (T N : Nat) (p : Pd) : Bool := wiB p.left T (T + N - 1) && (decide (p.right.length ≤ 12) && (p.right.all (fun x => wiB x 0 (T + N - 1)) && ((decide (p.label.size = 0) || nmB p.label) && stB p.lev p.asc)))
def szB (d : Bn) : Bool := decide (d.terms.length ≤ 60 ∧ 1 ≤ d.nons.length ∧ d.nons.length ≤ 100 ∧ 1 ≤ d.own ∧ d.own ≤ d.nons.length ∧ d.prods.length ≤ 120)
def bnB (d : Bn) : Bool := szB d && ((d.terms.all (fun t => stB t.lev t.asc) && apB (d.terms.map (·.name))) && (apB d.nons && d.prods.all (pdB d.terms.length d.nons.length)))

theorem between_any (x a b : Int) (w : World) : Calls Try.prog 24 #[.int .i64 x, .int .i64 a, .int .i64 b] w fun e w' => e = .returned (.bool (wiB x a b)) ∧ w' = w := by
  by_cases h1 : a ≤ x <;> by_cases h2 : x ≤ b
  all_goals
    go_enter Try.func24, Try.ntmps24
    go_wp2_with fail
    go_ret
    exact ⟨ret_bool (by simp [wiB]; try omega), rfl⟩
set_option maxHeartbeats 800000 in
theorem strength_s (l a : Int) (w : World) : Calls Try.prog 53 #[.int .i64 l, .int .i64 a] w fun e w' => e = .returned (.bool (stB l a)) ∧ w' = w := by
  have HB := (show Hid _ from fun (x a b : Int) (w : World) => between_any x a b w)
  by_cases h1 : 0 ≤ l ∧ l ≤ 8
  · have e1 : wiB l 0 8 = true := by simp [wiB]; omega
    by_cases h2 : l = 0
    · by_cases h3 : a = 0
      · subst h2 h3
        go_enter Try.func53, Try.ntmps53
        go_wp2_with fail
        refine Calls.mono (HB.out _ _ _ _) ?_
        rintro e w1 ⟨rfl, rfl⟩
        rw [e1]
        go_wp2_with fail
        go_ret
        exact ⟨ret_bool (by simp [stB]), rfl⟩
      · subst h2
        go_enter Try.func53, Try.ntmps53
        go_wp2_with fail
        refine Calls.mono (HB.out _ _ _ _) ?_
        rintro e w1 ⟨rfl, rfl⟩
        rw [e1]
        go_wp2_with fail
        go_ret
        exact ⟨ret_bool (by simp [stB, h3]), rfl⟩
    · have h4 : 0 < l := by omega
      have e2 : stB l a = wiB a 1 3 := decide_eq_decide.2 (by omega)
      rw [e2]
      go_enter Try.func53, Try.ntmps53
      go_wp2_with fail
      refine Calls.mono (HB.out _ _ _ _) ?_
      rintro e w1 ⟨rfl, rfl⟩
      rw [e1]
      go_wp2_with fail
      refine Calls.mono (HB.out _ _ _ _) ?_
      rintro e w1 ⟨rfl, rfl⟩
      go_wp2_with fail
      go_ret
      exact ⟨rfl, rfl⟩
  · have e1 : wiB l 0 8 = false := by simp [wiB]; omega
    have e2 : stB l a = false := by unfold stB; simp; omega
    rw [e2]
    go_enter Try.func53, Try.ntmps53
    go_wp2_with fail
    refine Calls.mono (HB.out _ _ _ _) ?_
    rintro e w1 ⟨rfl, rfl⟩
    rw [e1]
    go_wp2_with fail
    go_ret
    exact ⟨rfl, rfl⟩
set_option maxHeartbeats 800000 in
theorem strength_i (l a : Int) (w : World) : Calls Try.prog 88 #[.int .i64 l, .int .i64 a] w fun e w' => e = .returned (.bool (stB l a)) ∧ w' = w := by
  by_cases h0 : l = 0
  · subst h0
    by_cases h3 : a = 0
    · subst h3
      go_enter Try.func88, Try.ntmps88
      go_wp2_with fail
      go_ret
      exact ⟨ret_bool (by simp [stB]), rfl⟩
    · go_enter Try.func88, Try.ntmps88
      go_wp2_with fail
      go_ret
      exact ⟨ret_bool (by simp [stB, h3]), rfl⟩
  · by_cases h1 : 0 < l <;> by_cases h2 : l ≤ 8 <;> by_cases h3 : 1 ≤ a <;> by_cases h4 : a ≤ 3 <;> first | (exfalso; omega) | skip
    all_goals
      go_enter Try.func88, Try.ntmps88
      go_wp2_with fail
      go_ret
      exact ⟨ret_bool (by simp [stB]; try omega), rfl⟩
set_option maxHeartbeats 800000 in
theorem within_any {S : Nat → Prop} (l : List Int) (a b : Int) (v : Value) (w : World) (h : Ints w S l v) : Calls Try.prog 80 #[v, .int .i64 a, .int .i64 b] w fun e w' => e = .returned (.bool (l.all (fun x => wiB x a b))) ∧ w' = w := by
  obtain ⟨ad, cap, bb, off, rfl, hc, hm, ha, hcell⟩ := h
  have HC := (show Hid _ from hcell); clear hcell
  have HA := (show Hid _ from ha); clear ha
  unfold maxLen at hm
  generalize hR : l.all (fun x => wiB x a b) = R
  have HR := (show Hid _ from hR); clear hR
  go_enter Try.func80, Try.ntmps80
  go_wp2_with fail
  go_loopw [11] (fun i wr => ∃ j : Nat, i = .int .i64 j ∧ j ≤ l.length ∧ Hid (∀ i (hi : i < l.length), i < j → wiB l[i] a b = true) ∧ wr = w) (fun i _ => l.length - (intOf i).toNat)
  case atStart => exact ⟨0, rfl, Nat.zero_le _, fun i hi h0 => absurd h0 (Nat.not_lt_zero _), rfl⟩
  case round =>
    obtain ⟨j, rfl, hj, HJ, rfl⟩ := hrel
    by_cases hjl : j < l.length
    · obtain ⟨rfl, _⟩ := HA.out (by omega)
      have c0 := HC.out j hjl
      cases hw : wiB l[j] a b
      · have HF : Hid (R = false) := by
          show R = false
          rw [← HR.out, List.all_eq_false]
          exact ⟨l[j], List.getElem_mem hjl, by rw [hw]; simp⟩
        by_cases h1 : l[j] < a
        · clear hw
          go_wp2_with fail
          go_ret
          exact ⟨by rw [HF.out]; rfl, rfl⟩
        · have h2 : b < l[j] := by
            simp [wiB] at hw
            omega
          clear hw
          go_wp2_with fail
          go_ret
          exact ⟨by rw [HF.out]; rfl, rfl⟩
      · have h1 : a ≤ l[j] ∧ l[j] ≤ b := by simpa [wiB] using hw
        have HN : Hid (∀ i (hi : i < l.length), i < j + 1 → wiB l[i] a b = true) := fun i hi hij => by
          by_cases e : i = j
          · subst e; exact hw
          · exact HJ.out i hi (by omega)
        obtain ⟨h2, h3⟩ := h1
        clear hw
        go_wp2_with fail
        exact ⟨⟨j + 1, by go_num, by omega, HN, trivial⟩, by simp [intOf]; omega⟩
    · have hje : j = l.length := by omega
      have HF : Hid (R = true) := by
        show R = true
        rw [← HR.out, List.all_eq_true]
        intro x hx
        obtain ⟨i, hi, rfl⟩ := List.mem_iff_getElem.1 hx
        exact HJ.out i hi (by omega)
      clear hje
      go_wp2_with fail
      go_ret
      exact ⟨by rw [HF.out]; rfl, rfl⟩
end Go.Proofs.Ytpbpmhgoppbfnaa

/-! The program: the study of plain rules. -/
namespace Go.Proofs.Ytpbpmhgoppbfnaa
open Go.RowKit Go.Deep
set_option linter.unusedVariables false
set_option maxRecDepth 100000
set_option linter.unusedSimpArgs false

/-- What is known of right plain rules. -/
structure Bok (d : Bn) : Prop where
  nt : d.terms.length ≤ 60
  nn : 1 ≤ d.nons.length ∧ d.nons.length ≤ 100
  np : d.prods.length ≤ 120
  left : ∀ i (hi : i < d.prods.length), (d.terms.length : Int) ≤ d.prods[i].left ∧ d.prods[i].left < ((d.terms.length + d.nons.length : Nat) : Int)
  len : ∀ i (hi : i < d.prods.length), d.prods[i].right.length ≤ 12
  right : ∀ i (hi : i < d.prods.length) j (hj : j < d.prods[i].right.length), 0 ≤ d.prods[i].right[j] ∧ d.prods[i].right[j] < ((d.terms.length + d.nons.length : Nat) : Int)
theorem bnB_ok {d : Bn} (h : bnB d = true) : Bok d := by
  unfold bnB szB at h
  simp only [Bool.and_eq_true, decide_eq_true_eq, List.all_eq_true] at h
  obtain ⟨h1, _, _, h4⟩ := h
  have hp : ∀ i (hi : i < d.prods.length), pdB d.terms.length d.nons.length d.prods[i] = true := fun i hi => h4 _ (List.getElem_mem hi)
  refine ⟨h1.1, ⟨h1.2.1, h1.2.2.1⟩, h1.2.2.2.2.2, fun i hi => ?_, fun i hi => ?_, fun i hi j hj => ?_⟩
  · have := hp i hi
    unfold pdB wiB at this
    simp only [Bool.and_eq_true, decide_eq_true_eq] at this
    have := this.1
    omega
  · have := hp i hi
    unfold pdB wiB at this
    simp only [Bool.and_eq_true, decide_eq_true_eq] at this
    exact this.2.1
  · have := hp i hi
    unfold pdB wiB at this
    simp only [Bool.and_eq_true, decide_eq_true_eq, List.all_eq_true] at this
    have := this.2.2.1 _ (List.getElem_mem hj)
    omega
def bps (d : Bn) : List (Nat × List Nat) := d.prods.map pN
/-- At first: one byte for each terminal; nothing for others. -/
def ini (nt N j : Nat) : List Int := (List.range N).map fun i => if i < j then (if i < nt then 1 else -1) else 0
theorem ini_len (nt N j : Nat) : (ini nt N j).length = N := by simp [ini]
theorem ini_get {nt N j i : Nat} (h : i < N) : (ini nt N j)[i]'(by rw [ini_len]; exact h) = if i < j then (if i < nt then 1 else -1) else 0 := by simp [ini]
theorem ini_next {nt N j : Nat} (h : j < N) : (ini nt N j).set j (if j < nt then 1 else -1) = ini nt N (j + 1) := by
  apply List.ext_getElem
  · simp [ini_len]
  · intro i h1 h2
    rw [ini_len] at h2
    rw [List.getElem_set]
    by_cases e : j = i
    · subst e; rw [if_pos rfl, ini_get h, if_pos (Nat.lt_succ_self _)]
    · rw [if_neg e, ini_get h2, ini_get h2]
      have : (i < j) ↔ (i < j + 1) := by omega
      simp [this]
theorem ini_snd (nt : Nat) (ps : List (Nat × List Nat)) (N : Nat) (hN : nt ≤ N) : Snd nt ps (Lf (ini nt N N)) := by
  have key : ∀ x, Lf (ini nt N N) x = if x < nt then 1 else -1 := by
    intro x
    by_cases hx : x < N
    · rw [Lf_lt (by rw [ini_len]; exact hx), ini_get hx, if_pos hx]
    · have : ¬ x < nt := by omega
      rw [if_neg this]
      simp [Lf, List.getD_eq_getElem?_getD, ini_len, Nat.le_of_not_lt hx]
  refine ⟨fun x => ?_, fun x => ?_, fun x hx => ?_, fun x hx => ?_⟩
  · rw [key]; split <;> omega
  · rw [key]; split <;> omega
  · rw [key, if_pos hx]
  · rw [key] at hx ⊢
    by_cases h : x < nt
    · rw [if_pos h]; exact Lens.term h Lens.nil
    · rw [if_neg h] at hx; omega
/-- How much shorter they may become. -/
def wgt (v : Int) : Nat := if v = -1 then 1001 else v.toNat
def wts (L : List Int) : Nat := (L.map wgt).sum
theorem wts_set {L : List Int} {x : Nat} (h : x < L.length) {u : Int} (hu : wgt u < wgt L[x]) : wts (L.set x u) < wts L := by
  induction L generalizing x with
  | nil => exact absurd h (Nat.not_lt_zero _)
  | cons y r ih =>
    cases x with
    | zero =>
      simp only [List.getElem_cons_zero] at hu
      simp only [wts, List.set_cons_zero, List.map_cons, List.sum_cons]
      omega
    | succ x =>
      simp only [List.getElem_cons_succ] at hu
      have := ih (by simpa using h) hu
      unfold wts at this ⊢
      simp only [List.set_cons_succ, List.map_cons, List.sum_cons]
      omega
theorem IRow.uniq {w : World} {b : Nat} {L M : List Int} (h : IRow w b L) (k : IRow w b M) (hl : L.length = M.length) : L = M := by
  apply List.ext_getElem hl
  intro i h1 h2
  have e1 := World.rowIs.cell h h1
  have e2 := World.rowIs.cell k h2
  rw [e1] at e2
  simp [List.getD_eq_getElem?_getD, h1, h2] at e2
  exact e2
theorem lnew_less {L : List Int} {p : Nat × List Nat} (hx : p.1 < L.length) (hlo : ∀ x, -1 ≤ Lf L x) (h : lnew (Lf L) p = true) : wgt (lof (Lf L) p.2) < wgt L[p.1] := by
  obtain ⟨h1, h2⟩ := lof_range hlo p.2
  have hf := Lf_lt hx
  unfold lnew at h
  rw [hf] at h
  simp only [Bool.not_eq_true', Bool.or_eq_false_iff, beq_eq_false_iff_ne, ne_eq, Bool.and_eq_false_iff, bne_eq_false_iff_eq, decide_eq_false_iff_not] at h
  unfold wgt
  rw [if_neg h.1]
  have h3 := hlo p.1
  rw [hf] at h3
  rcases h.2 with e | e
  · rw [if_pos e]; omega
  · by_cases e' : L[p.1] = -1
    · rw [if_pos e']; omega
    · rw [if_neg e']; omega
end Go.Proofs.Ytpbpmhgoppbfnaa
