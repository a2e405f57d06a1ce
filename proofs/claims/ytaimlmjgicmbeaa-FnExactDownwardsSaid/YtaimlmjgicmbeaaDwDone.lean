import Derived.Test.YtaimlmjgicmbeaaRows
import Derived.Test.YtaimlmjgicmbeaaLawDw
import Derived.Test.YtaimlmjgicmbeaaRead
/-! The statement of FnExactDownwards. -/
namespace Go.Proofs.Ytaimlmjgicmbeaa
open Go.ChangeShapes Go.WideShapes Go.ChangeAt Go.RowKit Go.Deep
set_option linter.unusedVariables false

theorem ownAtDw : ownKnob Try.prog.godebug = none := by kernel_rfl
theorem laidOutAtDw : laidOutB Try.prog = true := by kernel_rfl

set_option maxRecDepth 100000 in
theorem dwLifted (os : Os) (started : os.Started) (H : Type) (enc : TypeId × Value → H) :
    ReturnsInHanded {} Try.checked os 4 .any (Rows.fnExactDownwardsSpec.pre6 enc Try.prog Try.f4 Rows.fnExactDownwardsRow.domain false) (Rows.fnExactDownwardsSpec.post enc Try.prog Try.f4 false true false false) := by
  refine returnsInHanded_of_change (C := Try.checked) ownAtDw started (by kernel_rfl) Try.func4
    (ChangeSpec.witness6 (enc := enc) (C := Try.checked) false ⟨#[], #[.agg #[.slice none 0 0, .slice none 0 0, .int .i64 0, .slice none 0 0], .int .i64 0, .slice none 0 0], []⟩ 8 (by kernel_rfl) (by kernel_rfl) (by kernel_rfl) (by kernel_rfl)) ?_
  intro W base args ds gs before hval0 hW hcnd _
  have hval : ∀ (j : Nat) t v, Try.f4.params[j]? = some t → args[j]? = some v → Value.okWide Try.prog W .any base t v := hval0
  have hW' := hW
  obtain ⟨p, q, hA0, hV, rfl, hfz, hnd⟩ := hW
  have hA : DataW.TrodAll enc Try.prog W 0 (fun _ => true) true Try.f4.params.toList args.toList ds p := hA0
  rw [Try.params4] at hA hval
  obtain ⟨v0, vs0, d0, ds0, p0, q0, hargs, rfl, rfl, h0, r0⟩ := trodAll_cons hA
  obtain ⟨v1, vs1, d1, ds1, p1, q1, rfl, rfl, rfl, h1, r1⟩ := trodAll_cons r0
  obtain ⟨v2, vs2, d2, ds2, p2, q2, rfl, rfl, rfl, h2, r2⟩ := trodAll_cons r1
  obtain ⟨rfl, rfl, rfl⟩ := trodAll_nil r2
  obtain rfl : args = #[v0, v1, v2] := by cases args; simp_all
  obtain ⟨rfl, rfl⟩ := trodVars_none hV
  obtain ⟨cs, rfl, hcs⟩ := okWide_struct Try.underlying26 (hval 0 26 v0 rfl rfl)
  have k0 := h0
  have k1 := h1
  have k2 := h2
  have lt0 : ∀ x ∈ p0, x.block < W.heap.size := by obtain ⟨m, hm⟩ := k0; exact DataW.trod_lt m _ _ _ hm
  have lt1 : ∀ x ∈ p1, x.block < W.heap.size := by obtain ⟨m, hm⟩ := k1; exact DataW.trod_lt m _ _ _ hm
  have lt2 : ∀ x ∈ p2, x.block < W.heap.size := by obtain ⟨m, hm⟩ := k2; exact DataW.trod_lt m _ _ _ hm
  obtain ⟨d, x0, x1, x3, rfl, hlies⟩ : ∃ (d : Bn) (x0 x1 x3 : Value), cs = #[x0, x1, .int .i64 d.own, x3] ∧ BLies W (fun _ => True) d x0 x1 x3 := by
    obtain ⟨fuel, hf⟩ := h0
    obtain ⟨d, x0, x1, x3, hl, hlies⟩ := read_bnf fuel _ _ hf
    refine ⟨d, x0, x1, x3, ?_, hlies⟩
    simp only [Value.cells] at hl
    cases cs
    simp_all
  obtain ⟨non, rfl, _⟩ := okWide_int Try.underlying3 (hval 1 3 v1 rfl rfl)
  obtain ⟨a2, m2, c2, rfl⟩ := okWide_slice Try.underlying27 (hval 2 27 v2 rfl rfl)
  obtain ⟨L, hil⟩ : ∃ L : List Int, Ints W (fun _ => True) L (.slice a2 m2 c2) := by
    obtain ⟨fuel, hf⟩ := h2
    obtain ⟨l, v, hl, hi⟩ := read_ints fuel _ _ hf
    refine ⟨l, ?_⟩
    have hv : v = .slice a2 m2 c2 := by simp [Value.cells] at hl; exact hl.symm
    rw [← hv]; exact hi
  clear hA0 hval0
  refine (lawDw d L _ _ _ _ non W hlies hil).mono fun e W' ⟨he, bel⟩ => ?_
  subst he
  exact ⟨_, rfl, _, _, _, [], _, [], hW', trodAll_mk1 (shut_bool Try.underlying4 _), (trodAll_cons_mk (Below.trod laidOutAtDw (by kernel_rfl) (of_decide_eq_true (by kernel_rfl)) k0 bel lt0) (trodAll_cons_mk (Below.trod laidOutAtDw (by kernel_rfl) (of_decide_eq_true (by kernel_rfl)) k1 bel lt1) (trodAll_cons_mk (Below.trod laidOutAtDw (by kernel_rfl) (of_decide_eq_true (by kernel_rfl)) k2 bel lt2) trodAll_mk0))), rfl, bel.frame _, fun h => by cases h⟩

theorem dwOver : Rows.fnExactDownwardsRow.holds Try.pinned (OpenSpec.ofChange Rows.fnExactDownwardsSpec) :=
  OpenClaim.holds_of_wide 4 Try.f4 rfl rfl rfl rfl rfl rfl rfl ⟨rfl, rfl, rfl, rfl, rfl⟩ rfl rfl rfl rfl rfl (by kernel_rfl) Try.func4 (by kernel_rfl)
    (of_decide_eq_true (by kernel_rfl)) (by unfold Func.isWrapper; first | (rw [if_pos (by decide +kernel)]; kernel_rfl) | (rw [if_neg (by decide +kernel)]; exact ⟨rfl, rfl⟩))
    (fun os started H enc _ => dwLifted os started H enc)

theorem exactDownwards_holds : Rows.FnExactDownwardsSaid := dwOver
#print axioms exactDownwards_holds
end Go.Proofs.Ytaimlmjgicmbeaa
