import Derived.Test.YtaimlmjgicmbeaaEq
import Derived.Test.YtaimlmjgicmbeaaNm
/-! Which plain rules are right. -/
namespace Go.Proofs.Ytaimlmjgicmbeaa
open Go.RowKit Go.Deep
set_option linter.unusedVariables false
set_option maxRecDepth 100000
set_option linter.unusedSimpArgs false

def stB (l a : Int) : Bool := decide (l = 0 ∧ a = 0 ∨ 0 < l ∧ l ≤ 8 ∧ 1 ≤ a ∧ a ≤ 3)
def wiB (x a b : Int) : Bool := decide (a ≤ x ∧ x ≤ b)
/-- .. a Prod; T and N: how many Terms and Nons. -/
def pdB (T N : Nat) (p : Pd) : Bool := wiB p.left T (T + N - 1) && (decide (p.right.length ≤ 12) && (p.right.all (fun x => wiB x 0 (T + N - 1)) && ((decide (p.label.size = 0) || nmB p.label) && stB p.lev p.asc)))
def szB (d : Bn) : Bool := decide (d.terms.length ≤ 60 ∧ 1 ≤ d.nons.length ∧ d.nons.length ≤ 100 ∧ 1 ≤ d.own ∧ d.own ≤ d.nons.length ∧ d.prods.length ≤ 120)
def bnB (d : Bn) : Bool := szB d && ((d.terms.all (fun t => stB t.lev t.asc) && apB (d.terms.map (·.name))) && (apB d.nons && d.prods.all (pdB d.terms.length d.nons.length)))

theorem between_any (x a b : Int) (w : World) : Calls Try.prog 34 #[.int .i64 x, .int .i64 a, .int .i64 b] w fun e w' => e = .returned (.bool (wiB x a b)) ∧ w' = w := by
  by_cases h1 : a ≤ x <;> by_cases h2 : x ≤ b
  all_goals
    go_enter Try.func34, Try.ntmps34
    go_wp2_with fail
    go_ret
    exact ⟨ret_bool (by simp [wiB]; try omega), rfl⟩
set_option maxHeartbeats 800000 in
theorem strength_s (l a : Int) (w : World) : Calls Try.prog 57 #[.int .i64 l, .int .i64 a] w fun e w' => e = .returned (.bool (stB l a)) ∧ w' = w := by
  have HB := (show Hid _ from fun (x a b : Int) (w : World) => between_any x a b w)
  by_cases h1 : 0 ≤ l ∧ l ≤ 8
  · have e1 : wiB l 0 8 = true := by simp [wiB]; omega
    by_cases h2 : l = 0
    · by_cases h3 : a = 0
      · subst h2 h3
        go_enter Try.func57, Try.ntmps57
        go_wp2_with fail
        refine Calls.mono (HB.out _ _ _ _) ?_
        rintro e w1 ⟨rfl, rfl⟩
        rw [e1]
        go_wp2_with fail
        go_ret
        exact ⟨ret_bool (by simp [stB]), rfl⟩
      · subst h2
        go_enter Try.func57, Try.ntmps57
        go_wp2_with fail
        refine Calls.mono (HB.out _ _ _ _) ?_
        rintro e w1 ⟨rfl, rfl⟩
        rw [e1]
        go_wp2_with fail
        go_ret
        exact ⟨ret_bool (by simp [stB, h3]), rfl⟩
    · have h4 : 0 < l := by omega
      have e2 : stB l a = wiB a 1 3 := decide_eq_decide.2 (by omega)
      rw [e2]
      go_enter Try.func57, Try.ntmps57
      go_wp2_with fail
      refine Calls.mono (HB.out _ _ _ _) ?_
      rintro e w1 ⟨rfl, rfl⟩
      rw [e1]
      go_wp2_with fail
      refine Calls.mono (HB.out _ _ _ _) ?_
      rintro e w1 ⟨rfl, rfl⟩
      go_wp2_with fail
      go_ret
      exact ⟨rfl, rfl⟩
  · have e1 : wiB l 0 8 = false := by simp [wiB]; omega
    have e2 : stB l a = false := by unfold stB; simp; omega
    rw [e2]
    go_enter Try.func57, Try.ntmps57
    go_wp2_with fail
    refine Calls.mono (HB.out _ _ _ _) ?_
    rintro e w1 ⟨rfl, rfl⟩
    rw [e1]
    go_wp2_with fail
    go_ret
    exact ⟨rfl, rfl⟩
set_option maxHeartbeats 800000 in
theorem strength_i (l a : Int) (w : World) : Calls Try.prog 69 #[.int .i64 l, .int .i64 a] w fun e w' => e = .returned (.bool (stB l a)) ∧ w' = w := by
  by_cases h0 : l = 0
  · subst h0
    by_cases h3 : a = 0
    · subst h3
      go_enter Try.func69, Try.ntmps69
      go_wp2_with fail
      go_ret
      exact ⟨ret_bool (by simp [stB]), rfl⟩
    · go_enter Try.func69, Try.ntmps69
      go_wp2_with fail
      go_ret
      exact ⟨ret_bool (by simp [stB, h3]), rfl⟩
  · by_cases h1 : 0 < l <;> by_cases h2 : l ≤ 8 <;> by_cases h3 : 1 ≤ a <;> by_cases h4 : a ≤ 3 <;> first | (exfalso; omega) | skip
    all_goals
      go_enter Try.func69, Try.ntmps69
      go_wp2_with fail
      go_ret
      exact ⟨ret_bool (by simp [stB]; try omega), rfl⟩
set_option maxHeartbeats 800000 in
theorem within_any {S : Nat → Prop} (l : List Int) (a b : Int) (v : Value) (w : World) (h : Ints w S l v) : Calls Try.prog 65 #[v, .int .i64 a, .int .i64 b] w fun e w' => e = .returned (.bool (l.all (fun x => wiB x a b))) ∧ w' = w := by
  obtain ⟨ad, cap, bb, off, rfl, hc, hm, ha, hcell⟩ := h
  have HC := (show Hid _ from hcell); clear hcell
  have HA := (show Hid _ from ha); clear ha
  unfold maxLen at hm
  generalize hR : l.all (fun x => wiB x a b) = R
  have HR := (show Hid _ from hR); clear hR
  go_enter Try.func65, Try.ntmps65
  go_wp2_with fail
  go_loopw [11] (fun i wr => ∃ j : Nat, i = .int .i64 j ∧ j ≤ l.length ∧ Hid (∀ i (hi : i < l.length), i < j → wiB l[i] a b = true) ∧ wr = w) (fun i _ => l.length - (intOf i).toNat)
  case atStart => exact ⟨0, rfl, Nat.zero_le _, fun i hi h0 => absurd h0 (Nat.not_lt_zero _), rfl⟩
  case round =>
    obtain ⟨j, rfl, hj, HJ, rfl⟩ := hrel
    by_cases hjl : j < l.length
    · obtain ⟨rfl, _⟩ := HA.out (by omega)
      have c0 := HC.out j hjl
      cases hw : wiB l[j] a b
      · have HF : Hid (R = false) := by
          show R = false
          rw [← HR.out, List.all_eq_false]
          exact ⟨l[j], List.getElem_mem hjl, by rw [hw]; simp⟩
        by_cases h1 : l[j] < a
        · clear hw
          go_wp2_with fail
          go_ret
          exact ⟨by rw [HF.out]; rfl, rfl⟩
        · have h2 : b < l[j] := by
            simp [wiB] at hw
            omega
          clear hw
          go_wp2_with fail
          go_ret
          exact ⟨by rw [HF.out]; rfl, rfl⟩
      · have h1 : a ≤ l[j] ∧ l[j] ≤ b := by simpa [wiB] using hw
        have HN : Hid (∀ i (hi : i < l.length), i < j + 1 → wiB l[i] a b = true) := fun i hi hij => by
          by_cases e : i = j
          · subst e; exact hw
          · exact HJ.out i hi (by omega)
        obtain ⟨h2, h3⟩ := h1
        clear hw
        go_wp2_with fail
        exact ⟨⟨j + 1, by go_num, by omega, HN, trivial⟩, by simp [intOf]; omega⟩
    · have hje : j = l.length := by omega
      have HF : Hid (R = true) := by
        show R = true
        rw [← HR.out, List.all_eq_true]
        intro x hx
        obtain ⟨i, hi, rfl⟩ := List.mem_iff_getElem.1 hx
        exact HJ.out i hi (by omega)
      clear hje
      go_wp2_with fail
      go_ret
      exact ⟨by rw [HF.out]; rfl, rfl⟩
end Go.Proofs.Ytaimlmjgicmbeaa
