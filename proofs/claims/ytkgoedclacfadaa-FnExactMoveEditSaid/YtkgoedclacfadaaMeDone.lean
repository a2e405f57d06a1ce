import Derived.Test.YtkgoedclacfadaaRows
import Derived.Test.YtkgoedclacfadaaLawMe
import Derived.ProofKit
import Derived.OpenShut
import Derived.ShutString
import Derived.ChangeOld
/-! The statement of FnExactMoveEdit. -/
namespace Go.Proofs.Ytkgoedclacfadaa
open Go.ChangeShapes Go.WideShapes Go.ChangeAt Go.RowKit Go.Deep
set_option linter.unusedVariables false

theorem cells3e : Try.prog.cellsOf 3 = 1 := by kernel_rfl
theorem cells9e : Try.prog.cellsOf 9 = 1 := by kernel_rfl
theorem cells23e : Try.prog.cellsOf 23 = 3 := by kernel_rfl
theorem list3e {α : Type} {l : List α} (h : l.length = 3) : ∃ a b c, l = [a, b, c] := by
  match l, h with
  | [a, b, c], _ => exact ⟨a, b, c, rfl⟩
section
variable {H : Type} {enc : TypeId × Value → H} {w : World} {base : Nat} {spare : Nat → Bool} {held : Bool}
theorem read_ed (m : Nat) (cs : List Value) (x : DataW H × List MemPlace) (h : DataW.trod enc Try.prog w base spare held m 23 cs = some x) :
    ∃ (a d : Int) (s : ByteArray), cs = [.int .i64 a, .int .i64 d, .string s] ∧ s.size ≤ maxLen ∧ (-9223372036854775808 ≤ a ∧ a ≤ 9223372036854775807) ∧ (-9223372036854775808 ≤ d ∧ d ≤ 9223372036854775807) := by
  obtain ⟨xs, n, rfl, rfl, hl, hlen, hf⟩ := DataW.trod_struct Try.underlying23 h
  rw [cells23e] at hl
  obtain ⟨c0, c1, c2, rfl⟩ := list3e hl
  obtain ⟨y0, y1, y2, rfl⟩ := list3e (l := xs) hlen
  have f0 := hf 0 _ rfl
  have f1 := hf 1 _ rfl
  have f2 := hf 2 _ rfl
  simp [cells3e, cells9e] at f0 f1 f2
  obtain ⟨n0, e0, _, r0⟩ := DataW.trod_int Try.underlying3 f0
  obtain ⟨n1, e1, _, r1⟩ := DataW.trod_int Try.underlying3 f1
  obtain ⟨s, e2, _, hs⟩ := DataW.trod_string Try.underlying9 f2
  simp at e0 e1 e2
  subst e0 e1 e2
  simp [Lit.wf, IntKind.min, IntKind.max, IntKind.bits, IntKind.signed] at r0 r1
  exact ⟨n0, n1, s, rfl, hs, r0, r1⟩
end
theorem ownEd : ownKnob Try.prog.godebug = none := by kernel_rfl
theorem laidOutEd : laidOutB Try.prog = true := by kernel_rfl

set_option maxRecDepth 100000 in
theorem meLifted (os : Os) (started : os.Started) (H : Type) (enc : TypeId × Value → H) :
    ReturnsInHanded {} Try.checked os 3 .any (Rows.fnExactMoveEditSpec.pre6 enc Try.prog Try.f3 Rows.fnExactMoveEditRow.domain false) (Rows.fnExactMoveEditSpec.post enc Try.prog Try.f3 false true false false) := by
  refine returnsInHanded_of_change (C := Try.checked) ownEd started (by kernel_rfl) Try.func3
    (ChangeSpec.witness6 (enc := enc) (C := Try.checked) false ⟨#[], #[.agg #[.int .i64 0, .int .i64 0, .string ByteArray.empty], .agg #[.int .i64 0, .int .i64 0, .string ByteArray.empty]], []⟩ 8 (by kernel_rfl) (by kernel_rfl) (by kernel_rfl) (by kernel_rfl)) ?_
  intro W base args ds gs before hval0 hW hcnd _
  have hval : ∀ (j : Nat) t v, Try.f3.params[j]? = some t → args[j]? = some v → Value.okWide Try.prog W .any base t v := hval0
  have hW' := hW
  obtain ⟨p, q, hA0, hV, rfl, hfz, hnd⟩ := hW
  have hA : DataW.TrodAll enc Try.prog W 0 (fun _ => true) true Try.f3.params.toList args.toList ds p := hA0
  rw [Try.params3] at hA hval
  obtain ⟨v0, vs0, d0, ds0, p0, q0, hargs, rfl, rfl, h0, r0⟩ := trodAll_cons hA
  obtain ⟨v1, vs1, d1, ds1, p1, q1, rfl, rfl, rfl, h1, r1⟩ := trodAll_cons r0
  obtain ⟨rfl, rfl, rfl⟩ := trodAll_nil r1
  obtain rfl : args = #[v0, v1] := by cases args; simp_all
  obtain ⟨rfl, rfl⟩ := trodVars_none hV
  obtain ⟨cs, rfl, hcs⟩ := okWide_struct Try.underlying23 (hval 0 23 v0 rfl rfl)
  obtain ⟨ct, rfl, hct⟩ := okWide_struct Try.underlying23 (hval 1 23 v1 rfl rfl)
  have k0 := h0
  have k1 := h1
  have lt0 : ∀ x ∈ p0, x.block < W.heap.size := by obtain ⟨m, hm⟩ := k0; exact DataW.trod_lt m _ _ _ hm
  have lt1 : ∀ x ∈ p1, x.block < W.heap.size := by obtain ⟨m, hm⟩ := k1; exact DataW.trod_lt m _ _ _ hm
  obtain ⟨ax, dx, sx, rfl, hsx, _, _⟩ : ∃ (a d : Int) (s : ByteArray), cs = #[.int .i64 a, .int .i64 d, .string s] ∧ s.size ≤ maxLen ∧ (-9223372036854775808 ≤ a ∧ a ≤ 9223372036854775807) ∧ (-9223372036854775808 ≤ d ∧ d ≤ 9223372036854775807) := by
    obtain ⟨fuel, hf⟩ := h0
    obtain ⟨a, d, s, hl, hq⟩ := read_ed fuel _ _ hf
    refine ⟨a, d, s, ?_, hq⟩
    simp only [Value.cells] at hl
    cases cs
    simp_all
  obtain ⟨ay, dy, sy, rfl, hsy, _, _⟩ : ∃ (a d : Int) (s : ByteArray), ct = #[.int .i64 a, .int .i64 d, .string s] ∧ s.size ≤ maxLen ∧ (-9223372036854775808 ≤ a ∧ a ≤ 9223372036854775807) ∧ (-9223372036854775808 ≤ d ∧ d ≤ 9223372036854775807) := by
    obtain ⟨fuel, hf⟩ := h1
    obtain ⟨a, d, s, hl, hq⟩ := read_ed fuel _ _ hf
    refine ⟨a, d, s, ?_, hq⟩
    simp only [Value.cells] at hl
    cases ct
    simp_all
  clear hA0 hval0
  refine (lawMe ax dx sx ay dy sy W hsy hsx).mono fun e W' ⟨he, bel⟩ => ?_
  subst he
  exact ⟨_, rfl, _, _, _, [], _, [], hW', trodAll_mk1 (shut_bool Try.underlying4 _), (trodAll_cons_mk (Below.trod laidOutEd (by kernel_rfl) (of_decide_eq_true (by kernel_rfl)) k0 bel lt0) (trodAll_cons_mk (Below.trod laidOutEd (by kernel_rfl) (of_decide_eq_true (by kernel_rfl)) k1 bel lt1) trodAll_mk0)), rfl, bel.frame _, fun h => by cases h⟩

theorem meOver : Rows.fnExactMoveEditRow.holds Try.pinned (OpenSpec.ofChange Rows.fnExactMoveEditSpec) :=
  OpenClaim.holds_of_wide 3 Try.f3 rfl rfl rfl rfl rfl rfl rfl ⟨rfl, rfl, rfl, rfl, rfl⟩ rfl rfl rfl rfl rfl (by kernel_rfl) Try.func3 (by kernel_rfl)
    (of_decide_eq_true (by kernel_rfl)) (by unfold Func.isWrapper; first | (rw [if_pos (by decide +kernel)]; kernel_rfl) | (rw [if_neg (by decide +kernel)]; exact ⟨rfl, rfl⟩))
    (fun os started H enc _ => meLifted os started H enc)

theorem exactMoveEdit_holds : Rows.FnExactMoveEditSaid := meOver
#print axioms exactMoveEdit_holds
end Go.Proofs.Ytkgoedclacfadaa
