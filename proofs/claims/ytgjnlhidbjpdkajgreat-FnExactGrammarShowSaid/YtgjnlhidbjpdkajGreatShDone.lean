import Derived.Test.YtgjnlhidbjpdkajGreatRows
import Derived.Test.YtgjnlhidbjpdkajGreatLawSh
import Derived.Test.YtgjnlhidbjpdkajGreatRead
/-! The statement of FnExactGrammarShow. -/
namespace Go.Proofs.YtgjnlhidbjpdkajGreat
open Go.ChangeShapes Go.WideShapes Go.ChangeAt Go.RowKit Go.Deep
set_option linter.unusedVariables false

theorem ownAt : ownKnob Tryz.prog.godebug = none := by kernel_rfl
theorem laidOutAt : laidOutB Tryz.prog = true := by kernel_rfl

set_option maxRecDepth 100000 in
theorem shLifted (os : Os) (started : os.Started) (H : Type) (enc : TypeId × Value → H) :
    ReturnsInHanded {} Tryz.checked os 3 .any (Rows.fnExactGrammarShowSpec.pre6 enc Tryz.prog Tryz.f3 Rows.fnExactGrammarShowRow.domain false) (Rows.fnExactGrammarShowSpec.post enc Tryz.prog Tryz.f3 false true false false) := by
  refine returnsInHanded_of_change (C := Tryz.checked) ownAt started (by kernel_rfl) Tryz.func3
    (ChangeSpec.witness6 (enc := enc) (C := Tryz.checked) false ⟨#[], #[.agg #[.string ByteArray.empty, .slice none 0 0, .slice none 0 0, .slice none 0 0, .slice none 0 0]], []⟩ 8 (by kernel_rfl) (by kernel_rfl) (by kernel_rfl) (by kernel_rfl)) ?_
  intro W base args ds gs before hval0 hW hcnd _
  have hval : ∀ (j : Nat) t v, Tryz.f3.params[j]? = some t → args[j]? = some v → Value.okWide Tryz.prog W .any base t v := hval0
  have hW' := hW
  obtain ⟨p, q, hA0, hV, rfl, hfz, hnd⟩ := hW
  have hA : DataW.TrodAll enc Tryz.prog W 0 (fun _ => true) true Tryz.f3.params.toList args.toList ds p := hA0
  rw [Tryz.params3] at hA hval
  obtain ⟨v0, vs0, d0, ds0, p0, q0, hargs, rfl, rfl, h0, r0⟩ := trodAll_cons hA
  obtain ⟨rfl, rfl, rfl⟩ := trodAll_nil r0
  obtain rfl : args = #[v0] := by cases args; simp_all
  obtain ⟨rfl, rfl⟩ := trodVars_none hV
  obtain ⟨cs, rfl, hcs⟩ := okWide_struct Tryz.underlying27 (hval 0 27 v0 rfl rfl)
  have k0 := h0
  have lt0 : ∀ x ∈ p0, x.block < W.heap.size := by obtain ⟨m, hm⟩ := k0; exact DataW.trod_lt m _ _ _ hm
  obtain ⟨d, x1, x2, x3, x4, rfl, hnm, hlies⟩ : ∃ (d : DGrammar) (x1 x2 x3 x4 : Value), cs = #[.string d.name, x1, x2, x3, x4] ∧ d.name.size ≤ maxLen ∧ DGrammarL W (fun _ => True) d x1 x2 x3 x4 := by
    obtain ⟨fuel, hf⟩ := h0
    obtain ⟨d, x1, x2, x3, x4, hl, hnm, hlies⟩ := read_grammar fuel _ _ hf
    refine ⟨d, x1, x2, x3, x4, ?_, hnm, hlies⟩
    simp only [Value.cells] at hl
    cases cs
    simp_all
  clear hA0 hval0
  refine (lawSh d _ _ _ _ W hlies hnm).mono fun e W' ⟨he, bel⟩ => ?_
  subst he
  exact ⟨_, rfl, _, _, _, [], _, [], hW', trodAll_mk1 (shut_bool Tryz.underlying4 _), (trodAll_cons_mk (Below.trod laidOutAt (by kernel_rfl) (of_decide_eq_true (by kernel_rfl)) k0 bel lt0) trodAll_mk0), rfl, bel.frame _, fun h => by cases h⟩

theorem shOver : Rows.fnExactGrammarShowRow.holds Tryz.pinned (OpenSpec.ofChange Rows.fnExactGrammarShowSpec) :=
  OpenClaim.holds_of_wide 3 Tryz.f3 rfl rfl rfl rfl rfl rfl rfl ⟨rfl, rfl, rfl, rfl, rfl⟩ rfl rfl rfl rfl rfl (by kernel_rfl) Tryz.func3 (by kernel_rfl)
    (of_decide_eq_true (by kernel_rfl)) (by unfold Func.isWrapper; first | (rw [if_pos (by decide +kernel)]; kernel_rfl) | (rw [if_neg (by decide +kernel)]; exact ⟨rfl, rfl⟩))
    (fun os started H enc _ => shLifted os started H enc)

theorem exactGrammarShow_holds : Rows.FnExactGrammarShowSaid := shOver
#print axioms exactGrammarShow_holds
end Go.Proofs.YtgjnlhidbjpdkajGreat
