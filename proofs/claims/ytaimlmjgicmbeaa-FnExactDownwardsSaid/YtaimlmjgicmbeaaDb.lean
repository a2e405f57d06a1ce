import Derived.Test.YtaimlmjgicmbeaaDa
import Derived.Test.YtaimlmjgicmbeaaSbq
import Derived.Test.YtaimlmjgicmbeaaIbo
/-! Small functions: codes, Nons, levels. -/
namespace Go.Proofs.Ytaimlmjgicmbeaa
open Go.RowKit Go.Deep
set_option linter.unusedVariables false
set_option maxRecDepth 100000
set_option linter.unusedSimpArgs false

theorem sBnf_all {S : Nat → Prop} (d : Bn) (v0 v1 v3 : Value) (w : World) (h : BLies w S d v0 v1 v3) :
    Calls Try.prog 42 #[.agg #[v0, v1, .int .i64 d.own, v3]] w fun e w' => e = .returned (.bool (bnB d)) ∧ Below w.heap.size w w' := by
  cases hz : szB d
  · have : bnB d = false := by unfold bnB; rw [hz]; rfl
    rw [this]
    exact sBnf_no d v0 v1 v3 w h (by rw [hz]; simp)
  · exact sBnf_yes d v0 v1 v3 w h hz

/-- l04Non. -/
theorem non_s (a0 : Option Addr) (n0 c0 : Nat) (v1 v2 v3 : Value) (x : Int) (w : World) (h0 : 0 ≤ x) (h1 : x ≤ 1000) (hn : n0 ≤ 1000) :
    Calls Try.prog 35 #[.agg #[.slice a0 n0 c0, v1, v2, v3], .int .i64 x] w fun e w' => e = .returned (.int .i64 (x - n0)) ∧ w' = w.alloc (.cells #[.slice a0 n0 c0, v1, v2, v3] 34) := by
  go_enter Try.func35, Try.ntmps35
  go_wp2_with fail
  go_ret
  exact ⟨rfl, rfl⟩
/-- hasNon. -/
theorem hasNon_i (v0 : Value) (a1 : Option Addr) (n1 c1 : Nat) (v2 v3 : Value) (x : Int) (w : World) (hn : n1 ≤ 1000) :
    Calls Try.prog 49 #[.agg #[v0, .slice a1 n1 c1, v2, v3], .int .i64 x] w fun e w' => e = .returned (.bool (wiB x 0 ((n1 : Int) - 1))) ∧ w' = w.alloc (.cells #[v0, .slice a1 n1 c1, v2, v3] 34) := by
  by_cases h1 : 0 ≤ x <;> by_cases h2 : x < n1
  all_goals
    go_enter Try.func49, Try.ntmps49
    go_wp2_with fail
    go_ret
    exact ⟨ret_bool (by simp [wiB]; try omega), rfl⟩
set_option maxHeartbeats 800000 in
/-- The codes of Yield. -/
def cdR (d : Bn) (non : Int) (n : Nat) : Int := if bnB d = false ∨ 4000 < n then 1 else if wiB non 0 ((d.nons.length : Int) - 1) = false then 4 else 0
theorem szB_of {d : Bn} (h : bnB d = true) : d.terms.length ≤ 60 ∧ 1 ≤ d.nons.length ∧ d.nons.length ≤ 100 ∧ 1 ≤ d.own ∧ d.own ≤ d.nons.length ∧ d.prods.length ≤ 120 := by
  unfold bnB at h
  simp only [Bool.and_eq_true] at h
  have h := h.1
  unfold szB at h
  simpa using h
set_option maxHeartbeats 1600000 in
/-- l06Codes. -/
theorem codes_s {S : Nat → Prop} (d : Bn) (v0 v1 v3 : Value) (non : Int) (ad : Option Addr) (n cd : Nat) (w : World) (h : BLies w S d v0 v1 v3) (hn : n ≤ maxLen) :
    Calls Try.prog 20 #[.agg #[v0, v1, .int .i64 d.own, v3], .int .i64 non, .slice ad n cd] w fun e w' => e = .returned (.int .i64 (cdR d non n)) ∧ Below w.heap.size w w' := by
  have hb0 := bel_alloc w (.cells #[v0, v1, .int .i64 d.own, v3] 34)
  have HBN := (show Hid _ from sBnf_all d _ _ _ _ (h.still hb0))
  obtain ⟨a0, c0, a1, c1, a3, c3, rfl, rfl, rfl⟩ := h.form
  have hm1 : d.nons.length ≤ maxLen := by obtain ⟨_, _, _, hh⟩ := h.nons.form; exact hh
  have HB := (show Hid _ from fun (x a b : Int) (w : World) => between_any x a b w)
  have HB0 := (show Hid _ from hb0)
  have hB4 := Box4.new w 34 (.slice a0 d.terms.length c0) (.slice a1 d.nons.length c1) (.int .i64 d.own) (.slice a3 d.prods.length c3)
  have HB4 := (show Hid _ from hB4)
  obtain ⟨p0, p1, p2, p3⟩ := hB4.cells
  unfold maxLen at hn hm1
  have HR := (show Hid (cdR d non n = if bnB d = false ∨ 4000 < n then 1 else if wiB non 0 ((d.nons.length : Int) - 1) = false then 4 else 0) from rfl)
  clear h hb0 hB4
  go_enter Try.func20, Try.ntmps20
  go_wp2_with fail
  refine Calls.mono HBN.out ?_
  rintro e w1 ⟨rfl, hb1⟩
  have HB1 := (show Hid _ from bel_trans HB0.out hb1)
  obtain ⟨_, q1, _, _⟩ := (HB4.out.still hb1).cells
  clear hb1 p0 p1 p2 p3
  cases hbn : bnB d
  · go_wp2_with fail
    go_ret
    exact ⟨by rw [HR.out, if_pos (.inl hbn)]; rfl, HB1.out⟩
  · by_cases h4 : 4000 < n
    · go_wp2_with fail
      go_ret
      exact ⟨by rw [HR.out, if_pos (.inr h4)]; rfl, HB1.out⟩
    · have HN := (show Hid _ from (fun h => by rcases h with h | h; (rw [hbn] at h; cases h); (exact h4 h) : ¬ (bnB d = false ∨ 4000 < n)))
      have h5 : n ≤ 4000 := by omega
      go_wp2_with fail
      refine Calls.mono (HB.out _ _ _ _) ?_
      rintro e w2 ⟨rfl, rfl⟩
      cases hw : wiB non 0 ((d.nons.length : Int) - 1)
      · go_wp2_with fail
        go_ret
        exact ⟨by rw [HR.out, if_neg HN.out, if_pos hw]; rfl, HB1.out⟩
      · go_wp2_with fail
        go_ret
        exact ⟨by rw [HR.out, if_neg HN.out, if_neg (by rw [hw]; simp)]; rfl, HB1.out⟩
end Go.Proofs.Ytaimlmjgicmbeaa
