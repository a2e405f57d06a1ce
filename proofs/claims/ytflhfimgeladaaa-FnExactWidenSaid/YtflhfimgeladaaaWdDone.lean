import Derived.Test.YtflhfimgeladaaaRows
import Derived.Test.YtflhfimgeladaaaLawWd
import Derived.Test.YtflhfimgeladaaaRead
/-! The statement of FnExactWiden. -/
namespace Go.Proofs.Ytflhfimgeladaaa
open Go.ChangeShapes Go.WideShapes Go.ChangeAt Go.RowKit Go.Deep
set_option linter.unusedVariables false

theorem cells56 : Try.prog.cellsOf 56 = 4 := by kernel_rfl
theorem read_packed {H : Type} {enc : TypeId × Value → H} {w : World} {base : Nat} {spare : Nat → Bool} {held : Bool} (fuel : Nat) (cs : List Value) (x : DataW H × List MemPlace) (h : DataW.trod enc Try.prog w base spare held fuel 56 cs = some x) :
    ∃ (R : PkD) (v0 v1 v2 v3 : Value), cs = [v0, v1, v2, v3] ∧ PL w (fun _ => True) R v0 v1 v2 v3 := by
  obtain ⟨xs, n, rfl, rfl, hl, hlen, hf⟩ := DataW.trod_struct Try.underlying56 h
  rw [cells56] at hl
  obtain ⟨c0, c1, c2, c3, rfl⟩ := list4 hl
  obtain ⟨y0, y1, y2, y3, rfl⟩ := list4 (l := xs) hlen
  have f0 := hf 0 _ rfl
  have f1 := hf 1 _ rfl
  have f2 := hf 2 _ rfl
  have f3 := hf 3 _ rfl
  simp [cells27, cells28, cells46] at f0 f1 f2 f3
  obtain ⟨l0, u0, e0, h0⟩ := read_actss _ _ _ f0
  obtain ⟨l1, u1, e1, h1⟩ := read_intss _ _ _ f1
  obtain ⟨l2, u2, e2, h2⟩ := read_ints _ _ _ f2
  obtain ⟨l3, u3, e3, h3⟩ := read_ints _ _ _ f3
  simp at e0 e1 e2 e3
  subst e0 e1 e2 e3
  exact ⟨(l0, l1, l2, l3), _, _, _, _, rfl, h0, h1, h2, h3⟩
theorem ownAt : ownKnob Try.prog.godebug = none := by kernel_rfl
theorem laidOutAt : laidOutB Try.prog = true := by kernel_rfl

set_option maxRecDepth 100000 in
theorem wdLifted (os : Os) (started : os.Started) (H : Type) (enc : TypeId × Value → H) :
    ReturnsInHanded {} Try.checked os 5 .any (Rows.fnExactWidenSpec.pre6 enc Try.prog Try.f5 Rows.fnExactWidenRow.domain false) (Rows.fnExactWidenSpec.post enc Try.prog Try.f5 false true false false) := by
  refine returnsInHanded_of_change (C := Try.checked) ownAt started (by kernel_rfl) Try.func5
    (ChangeSpec.witness6 (enc := enc) (C := Try.checked) false ⟨#[], #[.agg #[.slice none 0 0, .slice none 0 0, .slice none 0 0, .slice none 0 0]], []⟩ 8 (by kernel_rfl) (by kernel_rfl) (by kernel_rfl) (by kernel_rfl)) ?_
  intro W base args ds gs before hval0 hW hcnd _
  have hval : ∀ (j : Nat) t v, Try.f5.params[j]? = some t → args[j]? = some v → Value.okWide Try.prog W .any base t v := hval0
  have hW' := hW
  obtain ⟨p, q, hA0, hV, rfl, hfz, hnd⟩ := hW
  have hA : DataW.TrodAll enc Try.prog W 0 (fun _ => true) true Try.f5.params.toList args.toList ds p := hA0
  rw [Try.params5] at hA hval
  obtain ⟨v0, vs0, d0, ds0, p0, q0, hargs, rfl, rfl, h0, r0⟩ := trodAll_cons hA
  obtain ⟨rfl, rfl, rfl⟩ := trodAll_nil r0
  obtain rfl : args = #[v0] := by cases args; simp_all
  obtain ⟨rfl, rfl⟩ := trodVars_none hV
  obtain ⟨ct, rfl, hct⟩ := okWide_struct Try.underlying56 (hval 0 56 v0 rfl rfl)
  have k0 := h0
  have lt0 : ∀ x ∈ p0, x.block < W.heap.size := by obtain ⟨m, hm⟩ := k0; exact DataW.trod_lt m _ _ _ hm
  obtain ⟨R, z0, z1, z2, z3, rfl, htl⟩ : ∃ (R : PkD) (z0 z1 z2 z3 : Value), ct = #[z0, z1, z2, z3] ∧ PL W (fun _ => True) R z0 z1 z2 z3 := by
    obtain ⟨fuel, hf⟩ := h0
    obtain ⟨R, z0, z1, z2, z3, hl, htl⟩ := read_packed fuel _ _ hf
    refine ⟨R, z0, z1, z2, z3, ?_, htl⟩
    simp only [Value.cells] at hl
    cases ct
    simp_all
  clear hA0 hval0
  refine (lawWd R _ _ _ _ W htl).mono fun e W' ⟨he, bel⟩ => ?_
  subst he
  exact ⟨_, rfl, _, _, _, [], _, [], hW', trodAll_mk1 (shut_bool Try.underlying4 _), (trodAll_cons_mk (Below.trod laidOutAt (by kernel_rfl) (of_decide_eq_true (by kernel_rfl)) k0 bel lt0) trodAll_mk0), rfl, bel.frame _, fun h => by cases h⟩

theorem wdOver : Rows.fnExactWidenRow.holds Try.pinned (OpenSpec.ofChange Rows.fnExactWidenSpec) :=
  OpenClaim.holds_of_wide 5 Try.f5 rfl rfl rfl rfl rfl rfl rfl ⟨rfl, rfl, rfl, rfl, rfl⟩ rfl rfl rfl rfl rfl (by kernel_rfl) Try.func5 (by kernel_rfl)
    (of_decide_eq_true (by kernel_rfl)) (by unfold Func.isWrapper; first | (rw [if_pos (by decide +kernel)]; kernel_rfl) | (rw [if_neg (by decide +kernel)]; exact ⟨rfl, rfl⟩))
    (fun os started H enc _ => wdLifted os started H enc)

theorem exactWiden_holds : Rows.FnExactWidenSaid := wdOver
#print axioms exactWiden_holds
end Go.Proofs.Ytflhfimgeladaaa
