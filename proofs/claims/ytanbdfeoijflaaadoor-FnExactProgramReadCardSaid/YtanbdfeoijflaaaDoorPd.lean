import Derived.Test.YtanbdfeoijflaaaDoorPc
import Derived.Test.YtanbdfeoijflaaaDoorKit
import Derived.Outline
import Derived.BigQuiet
import Derived.Deep.RegionWith
/-! Programs that are right: a row allows an instruction. -/
namespace Go.Proofs.YtanbdfeoijflaaaDoor
open Go.RowKit Go.Deep
set_option linter.unusedVariables false
set_option maxRecDepth 100000
set_option linter.unusedSimpArgs false

/-- What a row tells: its word, what N may be, what is done. -/
def rwS (k : Nat) : ByteArray := if k = 1 then ⟨#[112, 117, 115, 104]⟩ else if k = 2 then ⟨#[100, 114, 111, 112]⟩ else if k = 3 then ⟨#[116, 101, 108, 108]⟩ else if k = 4 then ⟨#[112, 97, 115, 115]⟩ else if k = 5 then ⟨#[106, 117, 109, 112]⟩ else if k = 6 then ⟨#[105, 102, 110, 101, 120, 116]⟩ else if k = 7 then ⟨#[105, 102, 101, 110, 100]⟩ else if k = 8 then ⟨#[105, 102, 116, 111, 112]⟩ else if k = 9 then ⟨#[100, 111, 110, 101]⟩ else if k = 10 then ⟨#[102, 97, 105, 108]⟩ else ⟨#[]⟩
def rwN (k : Nat) : Value := if k = 10 then .func (.func 44) #[] #[] else if hnB k = true then .func (.func 34) #[] #[] else .nilFunc
def rwD (k : Nat) : Value := if k = 1 then .func (.func 35) #[] #[] else if k = 2 then .func (.func 36) #[] #[] else if k = 3 then .func (.func 37) #[] #[] else if k = 4 then .func (.func 38) #[] #[] else if k = 5 then .func (.func 39) #[] #[] else if k = 6 then .func (.func 40) #[] #[] else if k = 7 then .func (.func 41) #[] #[] else if k = 8 then .func (.func 42) #[] #[] else if k = 9 then .func (.func 43) #[] #[] else if k = 10 then .func (.func 45) #[] #[] else .nilFunc
theorem tb_row (k : Nat) (h : k ≤ 10) : tbA[k * 5]? = some (.string (rwS k)) ∧ tbA[k * 5 + 1]? = some (rwN k) ∧ tbA[k * 5 + 2]? = some (.bool (htB k)) ∧ tbA[k * 5 + 3]? = some (.bool (!gsB k)) ∧ tbA[k * 5 + 4]? = some (rwD k) := by
  have hk : k = 0 ∨ k = 1 ∨ k = 2 ∨ k = 3 ∨ k = 4 ∨ k = 5 ∨ k = 6 ∨ k = 7 ∨ k = 8 ∨ k = 9 ∨ k = 10 := by omega
  rcases hk with rfl | rfl | rfl | rfl | rfl | rfl | rfl | rfl | rfl | rfl | rfl <;> exact ⟨rfl, rfl, rfl, rfl, rfl⟩
/-- The rows lie in block g. -/
structure TbL (w : World) (g : Nat) : Prop where
  ex : w.heap[g]? = some (.cells tbA 46 (0, 0))
theorem TbL.new (w : World) : TbL (w.alloc (.cells tbA 46)) w.heap.size := ⟨heap_alloc_last _ _⟩
theorem TbL.lt {w : World} {g : Nat} (h : TbL w g) : g < w.heap.size := by
  apply Decidable.byContradiction
  intro hn
  have e : w.heap[g]? = none := by simp; omega
  have := h.ex
  rw [e] at this
  cases this
theorem TbL.keep {w w' : World} {g : Nat} (h : TbL w g) (hb : w'.heap[g]? = w.heap[g]?) : TbL w' g := ⟨hb.trans h.ex⟩
theorem TbL.still {w w' : World} {g : Nat} (h : TbL w g) (hb : Below w.heap.size w w') : TbL w' g := h.keep (hb.block g h.lt)
theorem TbL.cell {w : World} {g : Nat} (h : TbL w g) (i : Nat) : w.cell? ⟨g, i, none⟩ = tbA[i]? := cell_of_row w g i tbA 46 (0, 0) h.ex
theorem TbL.row {w : World} {g : Nat} (h : TbL w g) (k : Nat) (hk : k ≤ 10) : w.cell? ⟨g, k * 5, none⟩ = some (.string (rwS k)) ∧ w.cell? ⟨g, k * 5 + 1, none⟩ = some (rwN k) ∧ w.cell? ⟨g, k * 5 + 2, none⟩ = some (.bool (htB k)) ∧ w.cell? ⟨g, k * 5 + 3, none⟩ = some (.bool (!gsB k)) ∧ w.cell? ⟨g, k * 5 + 4, none⟩ = some (rwD k) := by
  obtain ⟨h0, h1, h2, h3, h4⟩ := tb_row k hk
  exact ⟨(h.cell _).trans h0, (h.cell _).trans h1, (h.cell _).trans h2, (h.cell _).trans h3, (h.cell _).trans h4⟩
theorem isNum72 (x : Int) (w : World) : Calls Tryd.prog 34 #[.int .i64 x] w fun e w' => e = .returned (.bool (btB x 0 1000)) ∧ w' = w := by
  by_cases h1 : 0 ≤ x <;> by_cases h2 : x ≤ 1000
  all_goals
    go_enter Tryd.func34, Tryd.ntmps34
    go_wp2_with fail
    go_ret
    exact ⟨ret_bool (by simp [btB, h1, h2]), rfl⟩
theorem isFail82 (x : Int) (w : World) : Calls Tryd.prog 44 #[.int .i64 x] w fun e w' => e = .returned (.bool (decide (x = 2) || decide (x = 4))) ∧ w' = w := by
  by_cases h1 : x = 2
  · subst h1
    go_enter Tryd.func44, Tryd.ntmps44
    go_wp2_with fail
    go_ret
    exact ⟨rfl, rfl⟩
  by_cases h2 : x = 4
  · subst h2
    go_enter Tryd.func44, Tryd.ntmps44
    go_wp2_with fail
    go_ret
    exact ⟨rfl, rfl⟩
  have q1 : (x == 2) = false := by simpa using h1
  have q2 : (x == 4) = false := by simpa using h2
  rw [decide_eq_false h1, decide_eq_false h2]
  clear h1 h2
  go_enter Tryd.func44, Tryd.ntmps44
  go_wp2_with fail
  go_ret
  exact ⟨rfl, rfl⟩
theorem eqf82 (w : World) : (binOp .eql 41 (.func (.func 44) #[] #[]) .nilFunc).run Tryd.prog w = .ok (.bool false) w := by kernel_rfl
theorem eqf72 (w : World) : (binOp .eql 41 (.func (.func 34) #[] #[]) .nilFunc).run Tryd.prog w = .ok (.bool false) w := by kernel_rfl
theorem eqfnil (w : World) : (binOp .eql 41 .nilFunc .nilFunc).run Tryd.prog w = .ok (.bool true) w := by kernel_rfl
set_option maxHeartbeats 3200000 in
theorem allows38 (s : ByteArray) (d : Value) (m : Bool) (x : DIns) (k n : Nat) (hx : x.op = k) (hn : n ≤ 50000) (w : World) :
    Calls Tryd.prog 32 #[.agg #[.string s, rwN k, .bool (htB k), .bool m, d], .agg #[.int .i64 x.op, .int .i64 x.n, .int .i64 x.to_], .int .i64 n] w fun e w' => e = .returned (.bool (btB x.to_ 0 (mxT x.op n) && nnB x)) ∧ Below w.heap.size w w' := by
  have HR := (show Hid ((btB x.to_ 0 (mxT x.op n) && nnB x) = (btB x.to_ 0 (if htB k = true then (n : Int) - 1 else 0) && (if k = 10 then decide (x.n = 2) || decide (x.n = 4) else if hnB k = true then btB x.n 0 1000 else decide (x.n = 0)))) from by
    unfold mxT nnB
    rw [hx]
    congr 1
    by_cases e : k = 10
    · rw [if_pos e, if_pos (by omega)]
    · rw [if_neg e, if_neg (by omega)])
  generalize (btB x.to_ 0 (mxT x.op n) && nnB x) = R at *
  have e82 := eqf82
  have e72 := eqf72
  have enl := eqfnil
  have H7 := (show Hid _ from fun (w' : World) => isNum72 x.n w')
  have H8 := (show Hid _ from fun (w' : World) => isFail82 x.n w')
  clear hx
  obtain ⟨xo, xn, xt⟩ := x
  dsimp only at *
  have kw : IntKind.i64.wrap ((n : Int) - 1) = (n : Int) - 1 := by simp [IntKind.wrap, IntKind.bits, IntKind.signed]; omega
  unfold rwN
  have HB := (show Hid _ from fun (v : Value) => bel2 w (.cells #[.string s, v, .bool (htB k), .bool m, d] 44) (.cells #[.int .i64 xo, .int .i64 xn, .int .i64 xt] 38))
  generalize htB k = A at *
  generalize hnB k = N at *
  cases A
  case false =>
    rw [if_neg (by decide : ¬ (false = true))] at HR
    by_cases t1 : xt < 0
    · have HF := (show Hid (R = false) from by show R = _; rw [HR.out]; unfold btB; rw [decide_eq_false (p := 0 ≤ xt) (by omega)]; rfl)
      by_cases e : k = 10
      · rw [if_pos e]
        go_enter Tryd.func32, Tryd.ntmps32
        go_wp2_with fail
        go_ret
        exact ⟨ret_bool HF.out.symm, HB.out _⟩
      rw [if_neg e]
      cases N <;> simp only [if_true, if_false, Bool.false_eq_true]
      all_goals
        go_enter Tryd.func32, Tryd.ntmps32
        go_wp2_with fail
        go_ret
        exact ⟨ret_bool HF.out.symm, HB.out _⟩
    by_cases t2 : 0 < xt
    · have HF := (show Hid (R = false) from by show R = _; rw [HR.out]; unfold btB; rw [decide_eq_false (p := xt ≤ 0) (by omega)]; simp)
      by_cases e : k = 10
      · rw [if_pos e]
        go_enter Tryd.func32, Tryd.ntmps32
        go_wp2_with fail
        go_ret
        exact ⟨ret_bool HF.out.symm, HB.out _⟩
      rw [if_neg e]
      cases N <;> simp only [if_true, if_false, Bool.false_eq_true]
      all_goals
        go_enter Tryd.func32, Tryd.ntmps32
        go_wp2_with fail
        go_ret
        exact ⟨ret_bool HF.out.symm, HB.out _⟩
    rw [show btB xt 0 0 = true from by unfold btB; rw [decide_eq_true (p := 0 ≤ xt) (by omega), decide_eq_true (p := xt ≤ 0) (by omega)]; rfl] at HR
    by_cases e : k = 10
    · have HF := (show Hid (R = (decide (xn = 2) || decide (xn = 4))) from by show R = _; rw [HR.out, if_pos e]; rfl)
      rw [if_pos e]
      generalize (decide (xn = 2) || decide (xn = 4)) = E at *
      go_enter Tryd.func32, Tryd.ntmps32
      go_wp2_with fail
      go_at_call 44
      refine Calls.mono (H8.out _) ?_
      rintro e w1 ⟨rfl, rfl⟩
      go_wp2_with fail
      go_ret
      exact ⟨ret_bool HF.out.symm, HB.out _⟩
    rw [if_neg e] at HR ⊢
    cases N
    · simp only [if_false, Bool.false_eq_true]
      by_cases n0 : xn = 0
      · have HF := (show Hid (R = true) from by show R = _; rw [HR.out]; simp [n0])
        subst n0
        go_enter Tryd.func32, Tryd.ntmps32
        go_wp2_with fail
        go_ret
        exact ⟨ret_bool HF.out.symm, HB.out _⟩
      have HF := (show Hid (R = false) from by show R = _; rw [HR.out]; simp [n0])
      have q0 : (xn == 0) = false := by simpa using n0
      clear n0
      go_enter Tryd.func32, Tryd.ntmps32
      go_wp2_with fail
      go_ret
      exact ⟨ret_bool HF.out.symm, HB.out _⟩
    simp only [if_true]
    have HF := (show Hid (R = btB xn 0 1000) from by show R = _; rw [HR.out]; rfl)
    generalize btB xn 0 1000 = E at *
    go_enter Tryd.func32, Tryd.ntmps32
    go_wp2_with fail
    go_at_call 34
    refine Calls.mono (H7.out _) ?_
    rintro e w1 ⟨rfl, rfl⟩
    go_wp2_with fail
    go_ret
    exact ⟨ret_bool HF.out.symm, HB.out _⟩
  case true =>
    rw [if_pos (rfl : true = true)] at HR
    by_cases t1 : xt < 0
    · have HF := (show Hid (R = false) from by show R = _; rw [HR.out]; unfold btB; rw [decide_eq_false (p := 0 ≤ xt) (by omega)]; rfl)
      by_cases e : k = 10
      · rw [if_pos e]
        go_enter Tryd.func32, Tryd.ntmps32
        go_wp2_with fail
        go_ret
        exact ⟨ret_bool HF.out.symm, HB.out _⟩
      rw [if_neg e]
      cases N <;> simp only [if_true, if_false, Bool.false_eq_true]
      all_goals
        go_enter Tryd.func32, Tryd.ntmps32
        go_wp2_with fail
        go_ret
        exact ⟨ret_bool HF.out.symm, HB.out _⟩
    by_cases t2 : ((n : Int) - 1) < xt
    · have HF := (show Hid (R = false) from by show R = _; rw [HR.out]; unfold btB; rw [decide_eq_false (p := xt ≤ ((n : Int) - 1)) (by omega)]; simp)
      by_cases e : k = 10
      · rw [if_pos e]
        go_enter Tryd.func32, Tryd.ntmps32
        go_wp2_with fail
        go_ret
        exact ⟨ret_bool HF.out.symm, HB.out _⟩
      rw [if_neg e]
      cases N <;> simp only [if_true, if_false, Bool.false_eq_true]
      all_goals
        go_enter Tryd.func32, Tryd.ntmps32
        go_wp2_with fail
        go_ret
        exact ⟨ret_bool HF.out.symm, HB.out _⟩
    rw [show btB xt 0 ((n : Int) - 1) = true from by unfold btB; rw [decide_eq_true (p := 0 ≤ xt) (by omega), decide_eq_true (p := xt ≤ ((n : Int) - 1)) (by omega)]; rfl] at HR
    by_cases e : k = 10
    · have HF := (show Hid (R = (decide (xn = 2) || decide (xn = 4))) from by show R = _; rw [HR.out, if_pos e]; rfl)
      rw [if_pos e]
      generalize (decide (xn = 2) || decide (xn = 4)) = E at *
      go_enter Tryd.func32, Tryd.ntmps32
      go_wp2_with fail
      go_at_call 44
      refine Calls.mono (H8.out _) ?_
      rintro e w1 ⟨rfl, rfl⟩
      go_wp2_with fail
      go_ret
      exact ⟨ret_bool HF.out.symm, HB.out _⟩
    rw [if_neg e] at HR ⊢
    cases N
    · simp only [if_false, Bool.false_eq_true]
      by_cases n0 : xn = 0
      · have HF := (show Hid (R = true) from by show R = _; rw [HR.out]; simp [n0])
        subst n0
        go_enter Tryd.func32, Tryd.ntmps32
        go_wp2_with fail
        go_ret
        exact ⟨ret_bool HF.out.symm, HB.out _⟩
      have HF := (show Hid (R = false) from by show R = _; rw [HR.out]; simp [n0])
      have q0 : (xn == 0) = false := by simpa using n0
      clear n0
      go_enter Tryd.func32, Tryd.ntmps32
      go_wp2_with fail
      go_ret
      exact ⟨ret_bool HF.out.symm, HB.out _⟩
    simp only [if_true]
    have HF := (show Hid (R = btB xn 0 1000) from by show R = _; rw [HR.out]; rfl)
    generalize btB xn 0 1000 = E at *
    go_enter Tryd.func32, Tryd.ntmps32
    go_wp2_with fail
    go_at_call 34
    refine Calls.mono (H7.out _) ?_
    rintro e w1 ⟨rfl, rfl⟩
    go_wp2_with fail
    go_ret
    exact ⟨ret_bool HF.out.symm, HB.out _⟩
end Go.Proofs.YtanbdfeoijflaaaDoor
