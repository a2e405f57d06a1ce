import Derived.Test.YtanbdfeoijflaaaDoorDat
/-! Programs that are right: what is said; the small functions of the specification. -/
namespace Go.Proofs.YtanbdfeoijflaaaDoor
open Go.RowKit Go.Deep
set_option linter.unusedVariables false
set_option maxRecDepth 100000
set_option linter.unusedSimpArgs false

def btB (x a b : Int) : Bool := decide (a ≤ x) && decide (x ≤ b)
def htB (op : Int) : Bool := btB op 5 8
def hnB (op : Int) : Bool := btB op 1 3 || (decide (op = 6) || decide (op = 8))
def gsB (op : Int) : Bool := decide (op ≠ 5) && (decide (op ≠ 9) && decide (op ≠ 10))
/-- The highest To. -/
def mxT (op : Int) (n : Nat) : Int := if htB op = true then (n : Int) - 1 else 0
/-- N is right. -/
def nnB (x : DIns) : Bool := if x.op = 10 then decide (x.n = 2) || decide (x.n = 4) else if hnB x.op = true then btB x.n 0 1000 else decide (x.n = 0)
/-- An instruction of a program of n is right. -/
def inB (n : Nat) (x : DIns) : Bool := btB x.op 1 10 && (btB x.to_ 0 (mxT x.op n) && nnB x)
/-- The last one's Op. -/
def lsO (l : List DIns) : Int := match l.getLast? with | some x => x.op | none => 0
def pgB (l : List DIns) : Bool := btB l.length 1 50000 && (l.all (inB l.length) && !gsB (lsO l))
theorem lsO_at {l : List DIns} (h : 0 < l.length) : lsO l = (l[l.length - 1]'(by omega)).op := by
  unfold lsO
  rw [List.getLast?_eq_getElem?, List.getElem?_eq_getElem (by omega)]

theorem bet31 (x a b : Int) (w : World) : Calls Tryd.prog 25 #[.int .i64 x, .int .i64 a, .int .i64 b] w fun e w' => e = .returned (.bool (btB x a b)) ∧ w' = w := by
  by_cases h1 : a ≤ x <;> by_cases h2 : x ≤ b
  all_goals
    go_enter Tryd.func25, Tryd.ntmps25
    go_wp2_with fail
    go_ret
    exact ⟨ret_bool (by simp [btB, h1, h2]), rfl⟩
theorem hasTo32 (x : Int) (w : World) : Calls Tryd.prog 26 #[.int .i64 x] w fun e w' => e = .returned (.bool (htB x)) ∧ w' = w := by
  have H := (show Hid _ from bet31 x 5 8 w)
  unfold htB
  generalize btB x 5 8 = B at *
  go_enter Tryd.func26, Tryd.ntmps26
  go_wp2_with fail
  refine Calls.mono H.out ?_
  rintro e w1 ⟨rfl, rfl⟩
  go_wp2_with fail
  go_ret
  exact ⟨rfl, rfl⟩
theorem hasN33 (x : Int) (w : World) : Calls Tryd.prog 27 #[.int .i64 x] w fun e w' => e = .returned (.bool (hnB x)) ∧ w' = w := by
  have H := (show Hid _ from bet31 x 1 3 w)
  unfold hnB
  generalize btB x 1 3 = B at *
  cases B
  · by_cases h1 : x = 6
    · subst h1
      go_enter Tryd.func27, Tryd.ntmps27
      go_wp2_with fail
      refine Calls.mono H.out ?_
      rintro e w1 ⟨rfl, rfl⟩
      go_wp2_with fail
      go_ret
      exact ⟨rfl, rfl⟩
    · have q1 : (x == 6) = false := by simpa using h1
      by_cases h2 : x = 8
      · subst h2
        go_enter Tryd.func27, Tryd.ntmps27
        go_wp2_with fail
        refine Calls.mono H.out ?_
        rintro e w1 ⟨rfl, rfl⟩
        go_wp2_with fail
        go_ret
        exact ⟨rfl, rfl⟩
      · have q2 : (x == 8) = false := by simpa using h2
        rw [decide_eq_false h1, decide_eq_false h2]
        clear h1 h2
        go_enter Tryd.func27, Tryd.ntmps27
        go_wp2_with fail
        refine Calls.mono H.out ?_
        rintro e w1 ⟨rfl, rfl⟩
        go_wp2_with fail
        go_ret
        exact ⟨rfl, rfl⟩
  · go_enter Tryd.func27, Tryd.ntmps27
    go_wp2_with fail
    refine Calls.mono H.out ?_
    rintro e w1 ⟨rfl, rfl⟩
    go_wp2_with fail
    go_ret
    exact ⟨rfl, rfl⟩
theorem goes34 (x : Int) (w : World) : Calls Tryd.prog 28 #[.int .i64 x] w fun e w' => e = .returned (.bool (gsB x)) ∧ w' = w := by
  unfold gsB
  by_cases h1 : x = 5
  · subst h1
    go_enter Tryd.func28, Tryd.ntmps28
    go_wp2_with fail
    go_ret
    exact ⟨rfl, rfl⟩
  have q1 : (x != 5) = true := by simpa using h1
  by_cases h2 : x = 9
  · subst h2
    go_enter Tryd.func28, Tryd.ntmps28
    go_wp2_with fail
    go_ret
    exact ⟨rfl, rfl⟩
  have q2 : (x != 9) = true := by simpa using h2
  by_cases h3 : x = 10
  · subst h3
    go_enter Tryd.func28, Tryd.ntmps28
    go_wp2_with fail
    go_ret
    exact ⟨rfl, rfl⟩
  have q3 : (x != 10) = true := by simpa using h3
  rw [decide_eq_true h1, decide_eq_true h2, decide_eq_true h3]
  clear h1 h2 h3
  go_enter Tryd.func28, Tryd.ntmps28
  go_wp2_with fail
  go_ret
  exact ⟨rfl, rfl⟩
end Go.Proofs.YtanbdfeoijflaaaDoor
