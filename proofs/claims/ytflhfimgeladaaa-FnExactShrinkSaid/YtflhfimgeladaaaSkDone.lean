import Derived.Test.YtflhfimgeladaaaRows
import Derived.Test.YtflhfimgeladaaaLawSk
import Derived.Test.YtflhfimgeladaaaRead
/-! The statement of FnExactShrink. -/
namespace Go.Proofs.Ytflhfimgeladaaa
open Go.ChangeShapes Go.WideShapes Go.ChangeAt Go.RowKit Go.Deep
set_option linter.unusedVariables false

theorem ownAt : ownKnob Try.prog.godebug = none := by kernel_rfl
theorem laidOutAt : laidOutB Try.prog = true := by kernel_rfl

set_option maxRecDepth 100000 in
theorem skLifted (os : Os) (started : os.Started) (H : Type) (enc : TypeId × Value → H) :
    ReturnsInHanded {} Try.checked os 4 .any (Rows.fnExactShrinkSpec.pre6 enc Try.prog Try.f4 Rows.fnExactShrinkRow.domain false) (Rows.fnExactShrinkSpec.post enc Try.prog Try.f4 false true false false) := by
  refine returnsInHanded_of_change (C := Try.checked) ownAt started (by kernel_rfl) Try.func4
    (ChangeSpec.witness6 (enc := enc) (C := Try.checked) false ⟨#[], #[.agg #[.slice none 0 0, .slice none 0 0]], []⟩ 8 (by kernel_rfl) (by kernel_rfl) (by kernel_rfl) (by kernel_rfl)) ?_
  intro W base args ds gs before hval0 hW hcnd _
  have hval : ∀ (j : Nat) t v, Try.f4.params[j]? = some t → args[j]? = some v → Value.okWide Try.prog W .any base t v := hval0
  have hW' := hW
  obtain ⟨p, q, hA0, hV, rfl, hfz, hnd⟩ := hW
  have hA : DataW.TrodAll enc Try.prog W 0 (fun _ => true) true Try.f4.params.toList args.toList ds p := hA0
  rw [Try.params4] at hA hval
  obtain ⟨v0, vs0, d0, ds0, p0, q0, hargs, rfl, rfl, h0, r0⟩ := trodAll_cons hA
  obtain ⟨rfl, rfl, rfl⟩ := trodAll_nil r0
  obtain rfl : args = #[v0] := by cases args; simp_all
  obtain ⟨rfl, rfl⟩ := trodVars_none hV
  obtain ⟨ct, rfl, hct⟩ := okWide_struct Try.underlying30 (hval 0 30 v0 rfl rfl)
  have k0 := h0
  have lt0 : ∀ x ∈ p0, x.block < W.heap.size := by obtain ⟨m, hm⟩ := k0; exact DataW.trod_lt m _ _ _ hm
  obtain ⟨t, z0, z1, rfl, htl⟩ : ∃ (t : Tb) (z0 z1 : Value), ct = #[z0, z1] ∧ TLies W (fun _ => True) t z0 z1 := by
    obtain ⟨fuel, hf⟩ := h0
    obtain ⟨t, z0, z1, hl, htl⟩ := read_table fuel _ _ hf
    refine ⟨t, z0, z1, ?_, htl⟩
    simp only [Value.cells] at hl
    cases ct
    simp_all
  clear hA0 hval0
  refine (lawSk t _ _ W htl).mono fun e W' ⟨he, bel⟩ => ?_
  subst he
  exact ⟨_, rfl, _, _, _, [], _, [], hW', trodAll_mk1 (shut_bool Try.underlying4 _), (trodAll_cons_mk (Below.trod laidOutAt (by kernel_rfl) (of_decide_eq_true (by kernel_rfl)) k0 bel lt0) trodAll_mk0), rfl, bel.frame _, fun h => by cases h⟩

theorem skOver : Rows.fnExactShrinkRow.holds Try.pinned (OpenSpec.ofChange Rows.fnExactShrinkSpec) :=
  OpenClaim.holds_of_wide 4 Try.f4 rfl rfl rfl rfl rfl rfl rfl ⟨rfl, rfl, rfl, rfl, rfl⟩ rfl rfl rfl rfl rfl (by kernel_rfl) Try.func4 (by kernel_rfl)
    (of_decide_eq_true (by kernel_rfl)) (by unfold Func.isWrapper; first | (rw [if_pos (by decide +kernel)]; kernel_rfl) | (rw [if_neg (by decide +kernel)]; exact ⟨rfl, rfl⟩))
    (fun os started H enc _ => skLifted os started H enc)

theorem exactShrink_holds : Rows.FnExactShrinkSaid := skOver
#print axioms exactShrink_holds
end Go.Proofs.Ytflhfimgeladaaa
