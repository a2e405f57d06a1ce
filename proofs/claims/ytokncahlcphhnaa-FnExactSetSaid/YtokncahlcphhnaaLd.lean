import Derived.Test.YtokncahlcphhnaaLc
/-! Layouts that are right: a node alone, all of them, and the groups, by the program. -/
namespace Go.Proofs.Ytokncahlcphhnaa
open Go.RowKit Go.Deep
set_option linter.unusedVariables false
set_option maxRecDepth 100000
set_option linter.unusedSimpArgs false

set_option maxHeartbeats 3200000 in
theorem node24 (t : DLNode) (v3 : Value) (a3 : Option Addr) (p3 : Nat) (w : World) (hv : v3 = .slice a3 t.kids.length p3) (hs : t.s.size ≤ maxLen) :
    Calls Try.prog 24 #[.agg #[.int .i64 t.kind, .string t.s, .int .i64 t.n, v3]] w fun e w' => e = .returned (.bool (ndB t)) ∧ Below w.heap.size w w' := by
  subst hv
  have HB := (show Hid _ from bel_alloc w (.cells #[.int .i64 t.kind, .string t.s, .int .i64 t.n, .slice a3 t.kids.length p3] 44))
  have HC := (show Hid _ from fun (w' : World) => cont35 t.s w')
  have hE := isEmpty_iff t.s
  unfold maxLen at hs
  have HD := (show Hid (ndB t = _) from rfl)
  unfold ndB at HD ⊢
  generalize in10 t.s = I at *
  generalize t.kind = k at *
  generalize t.n = n at *
  generalize t.kids.length = m at *
  by_cases k1 : k = 1
  · subst k1
    by_cases c1 : t.s.size ≤ 200
    · cases I
      · by_cases c2 : n = 0
        · by_cases c3 : m = 0
          · subst c2 c3
            go_enter Try.func24, Try.ntmps24
            go_wp2_with fail
            refine Calls.mono (HC.out _) ?_
            rintro e w1 ⟨rfl, rfl⟩
            go_wp2_with fail
            go_ret
            exact ⟨ret_bool (by simp [c1]), HB.out⟩
          · have d3 : ¬ (m : Int) = 0 := by omega
            subst c2
            go_enter Try.func24, Try.ntmps24
            go_wp2_with fail
            refine Calls.mono (HC.out _) ?_
            rintro e w1 ⟨rfl, rfl⟩
            go_wp2_with fail
            go_ret
            exact ⟨ret_bool (by simp [c3]), HB.out⟩
        · go_enter Try.func24, Try.ntmps24
          go_wp2_with fail
          refine Calls.mono (HC.out _) ?_
          rintro e w1 ⟨rfl, rfl⟩
          go_wp2_with fail
          go_ret
          exact ⟨ret_bool (by simp [c2]), HB.out⟩
      · go_enter Try.func24, Try.ntmps24
        go_wp2_with fail
        refine Calls.mono (HC.out _) ?_
        rintro e w1 ⟨rfl, rfl⟩
        go_wp2_with fail
        go_ret
        exact ⟨ret_bool (by simp), HB.out⟩
    · go_enter Try.func24, Try.ntmps24
      go_wp2_with fail
      go_ret
      exact ⟨ret_bool (by simp [c1]), HB.out⟩
  clear HC
  by_cases k7 : k = 2 ∨ k = 3 ∨ k = 4 ∨ k = 5 ∨ k = 6 ∨ k = 7
  case neg =>
    have e2 : ¬ k = 2 := by omega
    have e3 : ¬ k = 3 := by omega
    have e4 : ¬ k = 4 := by omega
    have e5 : ¬ k = 5 := by omega
    have e6 : ¬ k = 6 := by omega
    have e7 : ¬ k = 7 := by omega
    clear k7
    go_enter Try.func24, Try.ntmps24
    go_wp2_with fail
    go_ret
    exact ⟨ret_bool (by simp [k1, e2, e3, e4, e5, e6, e7]), HB.out⟩
  by_cases c0 : t.s.size = 0
  case neg =>
    rw [decide_eq_false c0] at hE
    rcases k7 with rfl | rfl | rfl | rfl | rfl | rfl
    all_goals
      go_enter Try.func24, Try.ntmps24
      go_wp2_with fail
      go_ret
      exact ⟨ret_bool (by simp [c0]), HB.out⟩
  rw [decide_eq_true c0] at hE
  rcases k7 with rfl | rfl | rfl | rfl | rfl | rfl
  case inl | inr.inl | inr.inr.inl =>
    all_goals
      by_cases c2 : n = 0
      · subst c2
        by_cases c3 : m = 0
        · subst c3
          go_enter Try.func24, Try.ntmps24
          go_wp2_with fail
          go_ret
          exact ⟨ret_bool (by simp [c0]), HB.out⟩
        · have d3 : ¬ (m : Int) = 0 := by omega
          go_enter Try.func24, Try.ntmps24
          go_wp2_with fail
          go_ret
          exact ⟨ret_bool (by simp [c0, c3]), HB.out⟩
      · go_enter Try.func24, Try.ntmps24
        go_wp2_with fail
        go_ret
        exact ⟨ret_bool (by simp [c0, c2]), HB.out⟩
  · by_cases c1 : 0 ≤ n
    · by_cases c2 : n ≤ 20
      · by_cases c3 : m = 1
        · subst c3
          go_enter Try.func24, Try.ntmps24
          go_wp2_with fail
          go_ret
          exact ⟨ret_bool (by simp [c0, c1, c2] <;> (intros; omega)), HB.out⟩
        · have d3 : ¬ (m : Int) = 1 := by omega
          go_enter Try.func24, Try.ntmps24
          go_wp2_with fail
          go_ret
          exact ⟨ret_bool (by simp [c0, c1, c2, c3] <;> (intros; omega)), HB.out⟩
      · go_enter Try.func24, Try.ntmps24
        go_wp2_with fail
        go_ret
        exact ⟨ret_bool (by simp [c0, c1, c2] <;> (intros; omega)), HB.out⟩
    · go_enter Try.func24, Try.ntmps24
      go_wp2_with fail
      go_ret
      exact ⟨ret_bool (by simp [c0, c1] <;> (intros; omega)), HB.out⟩
  · by_cases c2 : n = 0
    · subst c2
      by_cases c3 : m = 1
      · subst c3
        go_enter Try.func24, Try.ntmps24
        go_wp2_with fail
        go_ret
        exact ⟨ret_bool (by simp [c0] <;> (intros; omega)), HB.out⟩
      · have d3 : ¬ (m : Int) = 1 := by omega
        go_enter Try.func24, Try.ntmps24
        go_wp2_with fail
        go_ret
        exact ⟨ret_bool (by simp [c0, c3] <;> (intros; omega)), HB.out⟩
    · go_enter Try.func24, Try.ntmps24
      go_wp2_with fail
      go_ret
      exact ⟨ret_bool (by simp [c0, c2] <;> (intros; omega)), HB.out⟩
  · by_cases c2 : n = 0
    · subst c2
      go_enter Try.func24, Try.ntmps24
      go_wp2_with fail
      go_ret
      exact ⟨ret_bool (by simp [c0] <;> (intros; omega)), HB.out⟩
    · go_enter Try.func24, Try.ntmps24
      go_wp2_with fail
      go_ret
      exact ⟨ret_bool (by simp [c0, c2] <;> (intros; omega)), HB.out⟩
end Go.Proofs.Ytokncahlcphhnaa
