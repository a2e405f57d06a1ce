import Derived.Test.YtnmdgbnbnpibhaaRows
import Derived.Test.YtnmdgbnbnpibhaaLawAg
import Derived.Test.YtnmdgbnbnpibhaaARd
/-! The statement of FnExactAgOK. -/
namespace Go.Proofs.Ytnmdgbnbnpibhaa
open Go.ChangeShapes Go.WideShapes Go.ChangeAt Go.RowKit
set_option linter.unusedVariables false

theorem ownAg : ownKnob Try.prog.godebug = none := by kernel_rfl
theorem laidOutAg : laidOutB Try.prog = true := by kernel_rfl

set_option maxRecDepth 100000 in
theorem agLifted (os : Os) (started : os.Started) (H : Type) (enc : TypeId × Value → H) :
    ReturnsInHanded {} Try.checked os 3 .any (Rows.fnExactAgOKSpec.pre6 enc Try.prog Try.f3 Rows.fnExactAgOKRow.domain false) (Rows.fnExactAgOKSpec.post enc Try.prog Try.f3 false true false false) := by
  refine returnsInHanded_of_change (C := Try.checked) ownAg started (by kernel_rfl) Try.func3
    (ChangeSpec.witness6 (enc := enc) (C := Try.checked) false ⟨#[], #[.agg #[.slice none 0 0, .slice none 0 0, .int .i64 0, .slice none 0 0], .agg #[.slice none 0 0, .slice none 0 0]], []⟩ 8 (by kernel_rfl) (by kernel_rfl) (by kernel_rfl) (by kernel_rfl)) ?_
  intro W base args ds gs before hval0 hW hcnd _
  have hval : ∀ (j : Nat) t v, Try.f3.params[j]? = some t → args[j]? = some v → Value.okWide Try.prog W .any base t v := hval0
  have hW' := hW
  obtain ⟨p, q, hA0, hV, rfl, hfz, hnd⟩ := hW
  have hA : DataW.TrodAll enc Try.prog W 0 (fun _ => true) true Try.f3.params.toList args.toList ds p := hA0
  rw [Try.params3] at hA hval
  obtain ⟨v0, vs0, d0, ds0, p0, q0, hargs, rfl, rfl, h0, r0⟩ := trodAll_cons hA
  obtain ⟨v1, vs1, d1, ds1, p1, q1, rfl, rfl, rfl, h1, r1⟩ := trodAll_cons r0
  obtain ⟨rfl, rfl, rfl⟩ := trodAll_nil r1
  obtain rfl : args = #[v0, v1] := by cases args; simp_all
  obtain ⟨rfl, rfl⟩ := trodVars_none hV
  obtain ⟨cs, rfl, hcs⟩ := okWide_struct Try.underlying26 (hval 0 26 v0 rfl rfl)
  obtain ⟨ct, rfl, hct⟩ := okWide_struct Try.underlying30 (hval 1 30 v1 rfl rfl)
  have k0 := h0
  have k1 := h1
  have lt0 : ∀ x ∈ p0, x.block < W.heap.size := by obtain ⟨m, hm⟩ := k0; exact DataW.trod_lt m _ _ _ hm
  have lt1 : ∀ x ∈ p1, x.block < W.heap.size := by obtain ⟨m, hm⟩ := k1; exact DataW.trod_lt m _ _ _ hm
  obtain ⟨d, x0, x1, x3, rfl, hlies⟩ : ∃ (d : Bn) (x0 x1 x3 : Value), cs = #[x0, x1, .int .i64 d.own, x3] ∧ BLies W (fun _ => True) d x0 x1 x3 := by
    obtain ⟨fuel, hf⟩ := h0
    obtain ⟨d, x0, x1, x3, hl, hlies⟩ := read_bnf fuel _ _ hf
    refine ⟨d, x0, x1, x3, ?_, hlies⟩
    simp only [Value.cells] at hl
    cases cs
    simp_all
  obtain ⟨g, z0, z1, rfl, hlies'⟩ : ∃ (g : DAg) (z0 z1 : Value), ct = #[z0, z1] ∧ DAgL W (fun _ => True) g z0 z1 := by
    obtain ⟨fuel, hf⟩ := h1
    obtain ⟨g, z0, z1, hl, hlies⟩ := readG_ag fuel _ _ hf
    refine ⟨g, z0, z1, ?_, hlies⟩
    simp only [Value.cells] at hl
    cases ct
    simp_all
  clear hA0 hval0
  refine (lawAg d g _ _ _ _ _ W hlies hlies').mono fun e W' ⟨he, bel⟩ => ?_
  subst he
  exact ⟨_, rfl, _, _, _, [], _, [], hW', trodAll_mk1 (shut_bool Try.underlying4 _), (trodAll_cons_mk (Below.trod laidOutAg (by kernel_rfl) (of_decide_eq_true (by kernel_rfl)) k0 bel lt0) (trodAll_cons_mk (Below.trod laidOutAg (by kernel_rfl) (of_decide_eq_true (by kernel_rfl)) k1 bel lt1) trodAll_mk0)), rfl, bel.frame _, fun h => by cases h⟩

theorem agOver : Rows.fnExactAgOKRow.holds Try.pinned (OpenSpec.ofChange Rows.fnExactAgOKSpec) :=
  OpenClaim.holds_of_wide 3 Try.f3 rfl rfl rfl rfl rfl rfl rfl ⟨rfl, rfl, rfl, rfl, rfl⟩ rfl rfl rfl rfl rfl (by kernel_rfl) Try.func3 (by kernel_rfl)
    (of_decide_eq_true (by kernel_rfl)) (by unfold Func.isWrapper; first | (rw [if_pos (by decide +kernel)]; kernel_rfl) | (rw [if_neg (by decide +kernel)]; exact ⟨rfl, rfl⟩))
    (fun os started H enc _ => agLifted os started H enc)

theorem exactAgOK_holds : Rows.FnExactAgOKSaid := agOver
#print axioms exactAgOK_holds
end Go.Proofs.Ytnmdgbnbnpibhaa
