import Derived.Test.YtkkebcbcbihbiaaRows
import Derived.Test.YtkkebcbcbihbiaaLawUn
import Derived.Test.YtkkebcbcbihbiaaGRd
/-! The statement of FnExactUnused. -/
namespace Go.Proofs.Ytkkebcbcbihbiaa
open Go.ChangeShapes Go.WideShapes Go.ChangeAt Go.RowKit Go.Deep
set_option linter.unusedVariables false

theorem ownUn : ownKnob Try.prog.godebug = none := by kernel_rfl
theorem laidUn : laidOutB Try.prog = true := by kernel_rfl

set_option maxRecDepth 100000 in
theorem unLifted (os : Os) (started : os.Started) (H : Type) (enc : TypeId × Value → H) :
    ReturnsInHanded {} Try.checked os 5 .any (Rows.fnExactUnusedSpec.pre6 enc Try.prog Try.f5 Rows.fnExactUnusedRow.domain false) (Rows.fnExactUnusedSpec.post enc Try.prog Try.f5 false true false false) := by
  refine returnsInHanded_of_change (C := Try.checked) ownUn started (by kernel_rfl) Try.func5
    (ChangeSpec.witness6 (enc := enc) (C := Try.checked) false ⟨#[], #[.agg #[.int .i64 0, .slice none 0 0, .slice none 0 0, .slice none 0 0]], []⟩ 8 (by kernel_rfl) (by kernel_rfl) (by kernel_rfl) (by kernel_rfl)) ?_
  intro W base args ds gs before hval0 hW hcnd _
  have hval : ∀ (j : Nat) t v, Try.f5.params[j]? = some t → args[j]? = some v → Value.okWide Try.prog W .any base t v := hval0
  have hW' := hW
  obtain ⟨p, q, hA0, hV, rfl, hfz, hnd⟩ := hW
  have hA : DataW.TrodAll enc Try.prog W 0 (fun _ => true) true Try.f5.params.toList args.toList ds p := hA0
  rw [Try.params5] at hA hval
  obtain ⟨v0, vs0, d0, ds0, p0, q0, hargs, rfl, rfl, h0, r0⟩ := trodAll_cons hA
  obtain ⟨rfl, rfl, rfl⟩ := trodAll_nil r0
  obtain rfl : args = #[v0] := by cases args; simp_all
  obtain ⟨rfl, rfl⟩ := trodVars_none hV
  obtain ⟨cs, rfl, hcs⟩ := okWide_struct Try.underlying25 (hval 0 25 v0 rfl rfl)
  have k0 := h0
  have lt0 : ∀ x ∈ p0, x.block < W.heap.size := by obtain ⟨m, hm⟩ := k0; exact DataW.trod_lt m _ _ _ hm
  obtain ⟨d, x1, x2, x3, rfl, hlies⟩ : ∃ (d : DSg) (x1 x2 x3 : Value), cs = #[.int .i64 d.scopes, x1, x2, x3] ∧ DSgL W (fun _ => True) d x1 x2 x3 := by
    obtain ⟨fuel, hf⟩ := h0
    obtain ⟨d, x1, x2, x3, hl, hlies⟩ := read_sg fuel _ _ hf
    refine ⟨d, x1, x2, x3, ?_, hlies⟩
    simp only [Value.cells] at hl
    cases cs
    simp_all
  clear hA0 hval0
  refine (lawUn d _ _ _ W hlies).mono fun e W' ⟨he, bel⟩ => ?_
  subst he
  exact ⟨_, rfl, _, _, _, [], _, [], hW', trodAll_mk1 (shut_bool Try.underlying4 _), (trodAll_cons_mk (Below.trod laidUn (by kernel_rfl) (of_decide_eq_true (by kernel_rfl)) k0 bel lt0) trodAll_mk0), rfl, bel.frame _, fun h => by cases h⟩

theorem unOver : Rows.fnExactUnusedRow.holds Try.pinned (OpenSpec.ofChange Rows.fnExactUnusedSpec) :=
  OpenClaim.holds_of_wide 5 Try.f5 rfl rfl rfl rfl rfl rfl rfl ⟨rfl, rfl, rfl, rfl, rfl⟩ rfl rfl rfl rfl rfl (by kernel_rfl) Try.func5 (by kernel_rfl)
    (of_decide_eq_true (by kernel_rfl)) (by unfold Func.isWrapper; first | (rw [if_pos (by decide +kernel)]; kernel_rfl) | (rw [if_neg (by decide +kernel)]; exact ⟨rfl, rfl⟩))
    (fun os started H enc _ => unLifted os started H enc)

theorem exactUnused_holds : Rows.FnExactUnusedSaid := unOver
#print axioms exactUnused_holds
end Go.Proofs.Ytkkebcbcbihbiaa
