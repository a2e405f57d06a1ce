import Derived.Test.YtilahbfcobhjeaaRows
import Derived.Test.YtilahbfcobhjeaaLawTi
import Derived.Test.YtilahbfcobhjeaaRd
/-! The statement of FnExactTighten. -/
namespace Go.Proofs.Ytilahbfcobhjeaa
open Go.ChangeShapes Go.WideShapes Go.ChangeAt Go.RowKit Go.Deep
set_option linter.unusedVariables false

theorem ownAtT : ownKnob Try.prog.godebug = none := by kernel_rfl
theorem laidOutAtT : laidOutB Try.prog = true := by kernel_rfl

set_option maxRecDepth 100000 in
theorem tiLifted (os : Os) (started : os.Started) (H : Type) (enc : TypeId × Value → H) :
    ReturnsInHanded {} Try.checked os 7 .any (Rows.fnExactTightenSpec.pre6 enc Try.prog Try.f7 Rows.fnExactTightenRow.domain false) (Rows.fnExactTightenSpec.post enc Try.prog Try.f7 false true false false) := by
  refine returnsInHanded_of_change (C := Try.checked) ownAtT started (by kernel_rfl) Try.func7
    (ChangeSpec.witness6 (enc := enc) (C := Try.checked) false ⟨#[], #[.slice none 0 0], []⟩ 8 (by kernel_rfl) (by kernel_rfl) (by kernel_rfl) (by kernel_rfl)) ?_
  intro W base args ds gs before hval0 hW hcnd _
  have hval : ∀ (j : Nat) t v, Try.f7.params[j]? = some t → args[j]? = some v → Value.okWide Try.prog W .any base t v := hval0
  have hW' := hW
  obtain ⟨p, q, hA0, hV, rfl, hfz, hnd⟩ := hW
  have hA : DataW.TrodAll enc Try.prog W 0 (fun _ => true) true Try.f7.params.toList args.toList ds p := hA0
  rw [Try.params7] at hA hval
  obtain ⟨v0, vs0, d0, ds0, p0, q0, hargs, rfl, rfl, h0, r0⟩ := trodAll_cons hA
  obtain ⟨rfl, rfl, rfl⟩ := trodAll_nil r0
  obtain rfl : args = #[v0] := by cases args; simp_all
  obtain ⟨rfl, rfl⟩ := trodVars_none hV
  have k0 := h0
  have lt0 : ∀ x ∈ p0, x.block < W.heap.size := by obtain ⟨m, hm⟩ := k0; exact DataW.trod_lt m _ _ _ hm
  obtain ⟨a0, m0, c0, rfl⟩ := okWide_slice Try.underlying22 (hval 0 22 v0 rfl rfl)
  obtain ⟨l, hil⟩ : ∃ l : List DIns, InsR W (fun _ => True) l (.slice a0 m0 c0) := by
    obtain ⟨fuel, hf⟩ := h0
    obtain ⟨l, v, hl, hi⟩ := read_pg fuel _ _ hf
    refine ⟨l, ?_⟩
    have hv : v = .slice a0 m0 c0 := by simp [Value.cells] at hl; exact hl.symm
    rw [← hv]; exact hi
  clear hA0 hval0
  refine (lawTi l _ W hil).mono fun e W' ⟨he, bel⟩ => ?_
  subst he
  exact ⟨_, rfl, _, _, _, [], _, [], hW', trodAll_mk1 (shut_bool Try.underlying4 _), (trodAll_cons_mk (Below.trod laidOutAtT (by kernel_rfl) (of_decide_eq_true (by kernel_rfl)) k0 bel lt0) trodAll_mk0), rfl, bel.frame _, fun h => by cases h⟩

theorem tiOver : Rows.fnExactTightenRow.holds Try.pinned (OpenSpec.ofChange Rows.fnExactTightenSpec) :=
  OpenClaim.holds_of_wide 7 Try.f7 rfl rfl rfl rfl rfl rfl rfl ⟨rfl, rfl, rfl, rfl, rfl⟩ rfl rfl rfl rfl rfl (by kernel_rfl) Try.func7 (by kernel_rfl)
    (of_decide_eq_true (by kernel_rfl)) (by unfold Func.isWrapper; first | (rw [if_pos (by decide +kernel)]; kernel_rfl) | (rw [if_neg (by decide +kernel)]; exact ⟨rfl, rfl⟩))
    (fun os started H enc _ => tiLifted os started H enc)

theorem exactTighten_holds : Rows.FnExactTightenSaid := tiOver
#print axioms exactTighten_holds
end Go.Proofs.Ytilahbfcobhjeaa
