import Derived.Test.YthmdoplickpmaaiRows
import Derived.Test.YthmdoplickpmaaiLawHash
import Derived.Test.YthmdoplickpmaaiRead
import Derived.ProofKit
import Derived.OpenShut
import Derived.ShutString
import Derived.ChangeOld
/-! The statement of FnExactTreeHash. -/
namespace Go.Proofs.Ythmdoplickpmaai
open Go.ChangeShapes Go.WideShapes Go.ChangeAt Go.RowKit
set_option linter.unusedVariables false
set_option maxRecDepth 100000

theorem ownHash : ownKnob Try.prog.godebug = none := by kernel_rfl
theorem laidOutHash : laidOutB Try.prog = true := by kernel_rfl

set_option maxRecDepth 100000 in
theorem hashLifted (os : Os) (started : os.Started) (H : Type) (enc : TypeId × Value → H) :
    ReturnsInHanded {} Try.checked os 5 .any (Rows.fnExactTreeHashSpec.pre6 enc Try.prog Try.f5 Rows.fnExactTreeHashRow.domain false) (Rows.fnExactTreeHashSpec.post enc Try.prog Try.f5 false true false false) := by
  refine returnsInHanded_of_change (C := Try.checked) ownHash started (by kernel_rfl) Try.func5
    (ChangeSpec.witness6 (enc := enc) (C := Try.checked) false ⟨#[], #[.agg #[.string ByteArray.empty, .string ByteArray.empty, .bool false, .slice none 0 0]], []⟩ 8 (by kernel_rfl) (by kernel_rfl) (by kernel_rfl) (by kernel_rfl)) ?_
  intro W base args ds gs before hval0 hW hcnd _
  have hval : ∀ (j : Nat) t v, Try.f5.params[j]? = some t → args[j]? = some v → Value.okWide Try.prog W .any base t v := hval0
  have hW' := hW
  obtain ⟨p, q, hA0, hV, rfl, hfz, hnd⟩ := hW
  have hA : DataW.TrodAll enc Try.prog W 0 (fun _ => true) true Try.f5.params.toList args.toList ds p := hA0
  rw [Try.params5] at hA hval
  obtain ⟨v0, vs0, d0, ds0, p0, q0, hargs, rfl, rfl, h0, r0⟩ := trodAll_cons hA
  obtain ⟨rfl, rfl, rfl⟩ := trodAll_nil r0
  obtain rfl : args = #[v0] := by cases args; simp_all
  obtain ⟨rfl, rfl⟩ := trodVars_none hV
  obtain ⟨cs, rfl, hcs⟩ := okWide_struct Try.underlying24 (hval 0 24 v0 rfl rfl)
  have k0 := h0
  have lt0 : ∀ x ∈ p0, x.block < W.heap.size := by obtain ⟨m, hm⟩ := k0; exact DataW.trod_lt m _ _ _ hm
  obtain ⟨t, v, rfl, hlies⟩ : ∃ (t : Tr) (v : Value), cs = #[.string t.name, .string t.text, .bool t.leaf, v] ∧ Lies W (fun _ => True) t v := by
    obtain ⟨fuel, hf⟩ := h0
    obtain ⟨t, v, hl, hlies⟩ := read_tree fuel _ _ hf
    refine ⟨t, v, ?_, hlies⟩
    simp only [Value.cells] at hl
    cases cs
    simp_all
  clear hA0 hval0
  refine (lawHash t v W hlies).mono fun e W' ⟨he, bel⟩ => ?_
  subst he
  exact ⟨_, rfl, _, _, _, [], _, [], hW', trodAll_mk1 (shut_bool Try.underlying4 _), (trodAll_cons_mk (Below.trod laidOutHash (by kernel_rfl) (of_decide_eq_true (by kernel_rfl)) k0 bel lt0) trodAll_mk0), rfl, bel.frame _, fun h => by cases h⟩

theorem hashOver : Rows.fnExactTreeHashRow.holds Try.pinned (OpenSpec.ofChange Rows.fnExactTreeHashSpec) :=
  OpenClaim.holds_of_wide 5 Try.f5 rfl rfl rfl rfl rfl rfl rfl ⟨rfl, rfl, rfl, rfl, rfl⟩ rfl rfl rfl rfl rfl (by kernel_rfl) Try.func5 (by kernel_rfl)
    (of_decide_eq_true (by kernel_rfl)) (by unfold Func.isWrapper; first | (rw [if_pos (by decide +kernel)]; kernel_rfl) | (rw [if_neg (by decide +kernel)]; exact ⟨rfl, rfl⟩))
    (fun os started H enc _ => hashLifted os started H enc)

theorem exactTreeHash_holds : Rows.FnExactTreeHashSaid := hashOver
#print axioms exactTreeHash_holds
end Go.Proofs.Ythmdoplickpmaai
