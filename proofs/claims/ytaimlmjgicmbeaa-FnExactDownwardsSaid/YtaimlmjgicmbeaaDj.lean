import Derived.Test.YtaimlmjgicmbeaaDg
import Derived.Defers
import Derived.Recover
import Derived.KernelRfl
/-! The program: readDerivation. -/
namespace Go.Proofs.Ytaimlmjgicmbeaa
open Go.RowKit Go.Deep
set_option linter.unusedVariables false
set_option maxRecDepth 100000
set_option linter.unusedSimpArgs false

theorem assert_fault (c a : Int) (w : World) : (Instr.typeAssert (.iface 83 (.agg #[.int .i64 c, .int .i64 a])) 20 83 true).run Try.prog w = .ok (.tuple #[.agg #[.int .i64 c, .int .i64 a], .bool true]) w := by kernel_rfl
theorem field_fault (c a : Int) (w : World) : (Instr.field 83 (.agg #[.int .i64 c, .int .i64 a]) 0).run Try.prog w = .ok (.int .i64 c) w := by kernel_rfl
theorem make_func (fn : Fn) (first cap : Array Value) (w : World) : (Instr.makeFunc fn first cap).run Try.prog w = .ok (.func fn first cap) w := rfl
set_option maxHeartbeats 400000 in
theorem faultIn_any (c a : Int) (w : World) :
    Calls Try.prog 47 #[.iface 83 (.agg #[.int .i64 c, .int .i64 a])] w fun e w' => e = .returned (.agg #[.int .i64 c, .int .i64 a]) ∧ Below w.heap.size w w' := by
  have hta := assert_fault c a
  go_enter Try.func47, Try.ntmps47
  go_wp2_with fail
  exact bodyPost_ret (v := .agg #[.int .i64 c, .int .i64 a]) (by simp [results, Try.results47, go_sem]) rfl ⟨rfl, (bel_alloc _ _).alloc (by simp) _⟩
set_option maxHeartbeats 400000 in
theorem catchR_panicking (p0 p1 : Nat) (c a : Int) (older : List PanicEntry) (w : World) (u0 u1 : Value)
    (h0 : w.cell? ⟨p0, 0, none⟩ = some u0) (h1 : w.cell? ⟨p1, 0, none⟩ = some u1)
    (z0 : w.frozen? ⟨p0, 0, none⟩ = false) (z1 : w.frozen? ⟨p1, 0, none⟩ = false) (n01 : p0 ≠ p1) :
    CallsD Try.prog 46 #[.pointer (some ⟨p0, 0, none⟩), .pointer (some ⟨p1, 0, none⟩)] (.panicking ({ v := .iface 83 (.agg #[.int .i64 c, .int .i64 a]), recovered := false } :: older)) w fun e u' w' =>
      e = .returned (.tuple #[]) ∧ u' = .panicking ({ v := .iface 83 (.agg #[.int .i64 c, .int .i64 a]), recovered := true } :: older) ∧
        ∃ w1, Below w.heap.size w w1 ∧ w' = (w1.setCell ⟨p0, 0, none⟩ (.pointer none)).setCell ⟨p1, 0, none⟩ (.int .i64 c) := by
  have q0 := lt_of_cell h0
  have q1 := lt_of_cell h1
  refine callsD_of_wpS Try.func46 rfl fun c₀ cs hu => ?_
  apply wpS_seq
  apply wpS_region
  simp [wpOpsS, go_sem, recoverD, hu, Try.ntmps46, Exit.thenS]
  refine wpS_of_wp ?_
  go_wp2_with fail
  refine Calls.mono (faultIn_any c a w) ?_
  rintro e w1 ⟨rfl, hb1⟩
  rw [← hb1.cell (lt_of_cell h0)] at h0
  rw [← hb1.cell (lt_of_cell h1)] at h1
  rw [← hb1.frozen (by assumption)] at z0
  rw [← hb1.frozen (by assumption)] at z1
  have hfd := field_fault c a
  go_wp2_with fail
  exact ⟨rfl, _, rfl, _, by simp [results, Try.results46], rfl, rfl, w1, hb1, rfl⟩
set_option maxHeartbeats 400000 in
theorem catchR_idle (p0 p1 : Nat) (w : World) :
    CallsD Try.prog 46 #[.pointer (some ⟨p0, 0, none⟩), .pointer (some ⟨p1, 0, none⟩)] .returning w fun e u' w' =>
      e = .returned (.tuple #[]) ∧ u' = .returning ∧ w' = w := by
  refine callsD_of_wpS Try.func46 rfl fun c₀ cs hu => ?_
  apply wpS_seq
  apply wpS_region
  simp [wpOpsS, go_sem, recoverD, hu, Try.ntmps46, Exit.thenS]
  refine wpS_of_wp ?_
  go_wp2_with fail
  cases c₀
  simp_all [bodyPostS, results, Try.results46]
end Go.Proofs.Ytaimlmjgicmbeaa
