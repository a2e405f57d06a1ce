import Derived.Test.YtkkhdkfmaopmfaaRows
import Derived.Test.YtkkhdkfmaopmfaaLawPl
import Derived.Test.YtkkhdkfmaopmfaaRdt
import Derived.ProofKit
import Derived.OpenShut
import Derived.ShutString
import Derived.ChangeOld
/-! The statement of FnExactPlaces. -/
namespace Go.Proofs.Ytkkhdkfmaopmfaa
open Go.ChangeShapes Go.WideShapes Go.ChangeAt Go.RowKit
set_option linter.unusedVariables false

theorem ownPl : ownKnob Try.prog.godebug = none := by kernel_rfl
theorem laidOutPl : laidOutB Try.prog = true := by kernel_rfl

set_option maxRecDepth 100000 in
theorem plLifted (os : Os) (started : os.Started) (H : Type) (enc : TypeId × Value → H) :
    ReturnsInHanded {} Try.checked os 5 .any (Rows.fnExactPlacesSpec.pre6 enc Try.prog Try.f5 Rows.fnExactPlacesRow.domain false) (Rows.fnExactPlacesSpec.post enc Try.prog Try.f5 false true false false) := by
  refine returnsInHanded_of_change (C := Try.checked) ownPl started (by kernel_rfl) Try.func5
    (ChangeSpec.witness6 (enc := enc) (C := Try.checked) false ⟨#[], #[.agg #[.string ByteArray.empty, .string ByteArray.empty, .bool false, .slice none 0 0], .agg #[.string ByteArray.empty, .string ByteArray.empty, .bool false, .slice none 0 0]], []⟩ 8 (by kernel_rfl) (by kernel_rfl) (by kernel_rfl) (by kernel_rfl)) ?_
  intro W base args ds gs before hval0 hW hcnd _
  have hval : ∀ (j : Nat) t v, Try.f5.params[j]? = some t → args[j]? = some v → Value.okWide Try.prog W .any base t v := hval0
  have hW' := hW
  obtain ⟨p, q, hA0, hV, rfl, hfz, hnd⟩ := hW
  have hA : DataW.TrodAll enc Try.prog W 0 (fun _ => true) true Try.f5.params.toList args.toList ds p := hA0
  rw [Try.params5] at hA hval
  obtain ⟨v0, vs0, d0, ds0, p0, q0, hargs, rfl, rfl, h0, r0⟩ := trodAll_cons hA
  obtain ⟨v1, vs1, d1, ds1, p1, q1, rfl, rfl, rfl, h1, r1⟩ := trodAll_cons r0
  obtain ⟨rfl, rfl, rfl⟩ := trodAll_nil r1
  obtain rfl : args = #[v0, v1] := by cases args; simp_all
  obtain ⟨rfl, rfl⟩ := trodVars_none hV
  obtain ⟨cs, rfl, hcs⟩ := okWide_struct Try.underlying24 (hval 0 24 v0 rfl rfl)
  obtain ⟨ct, rfl, hct⟩ := okWide_struct Try.underlying24 (hval 1 24 v1 rfl rfl)
  have k0 := h0
  have k1 := h1
  have lt0 : ∀ x ∈ p0, x.block < W.heap.size := by obtain ⟨m, hm⟩ := k0; exact DataW.trod_lt m _ _ _ hm
  have lt1 : ∀ x ∈ p1, x.block < W.heap.size := by obtain ⟨m, hm⟩ := k1; exact DataW.trod_lt m _ _ _ hm
  obtain ⟨t, v, rfl, hlies⟩ : ∃ (t : Tr) (v : Value), cs = #[.string t.name, .string t.text, .bool t.leaf, v] ∧ Lies W (fun _ => True) t v := by
    obtain ⟨fuel, hf⟩ := h0
    obtain ⟨t, v, hl, hlies⟩ := read_tree fuel _ _ hf
    refine ⟨t, v, ?_, hlies⟩
    simp only [Value.cells] at hl
    cases cs
    simp_all
  obtain ⟨t', v', rfl, hlies'⟩ : ∃ (t : Tr) (v : Value), ct = #[.string t.name, .string t.text, .bool t.leaf, v] ∧ Lies W (fun _ => True) t v := by
    obtain ⟨fuel, hf⟩ := h1
    obtain ⟨t, v, hl, hlies⟩ := read_tree fuel _ _ hf
    refine ⟨t, v, ?_, hlies⟩
    simp only [Value.cells] at hl
    cases ct
    simp_all
  clear hA0 hval0
  refine (lawPl t t' v v' W hlies hlies').mono fun e W' ⟨he, bel⟩ => ?_
  subst he
  exact ⟨_, rfl, _, _, _, [], _, [], hW', trodAll_mk1 (shut_bool Try.underlying4 _), (trodAll_cons_mk (Below.trod laidOutPl (by kernel_rfl) (of_decide_eq_true (by kernel_rfl)) k0 bel lt0) (trodAll_cons_mk (Below.trod laidOutPl (by kernel_rfl) (of_decide_eq_true (by kernel_rfl)) k1 bel lt1) trodAll_mk0)), rfl, bel.frame _, fun h => by cases h⟩

theorem plOver : Rows.fnExactPlacesRow.holds Try.pinned (OpenSpec.ofChange Rows.fnExactPlacesSpec) :=
  OpenClaim.holds_of_wide 5 Try.f5 rfl rfl rfl rfl rfl rfl rfl ⟨rfl, rfl, rfl, rfl, rfl⟩ rfl rfl rfl rfl rfl (by kernel_rfl) Try.func5 (by kernel_rfl)
    (of_decide_eq_true (by kernel_rfl)) (by unfold Func.isWrapper; first | (rw [if_pos (by decide +kernel)]; kernel_rfl) | (rw [if_neg (by decide +kernel)]; exact ⟨rfl, rfl⟩))
    (fun os started H enc _ => plLifted os started H enc)

theorem exactPlaces_holds : Rows.FnExactPlacesSaid := plOver
#print axioms exactPlaces_holds
end Go.Proofs.Ytkkhdkfmaopmfaa
