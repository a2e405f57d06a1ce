import Derived.Test.YtboffildchoelaaRows
import Derived.Test.YtboffildchoelaaLawSm
import Derived.ProofKit
import Derived.OpenShut
import Derived.ShutString
import Derived.ChangeOld
/-! The statement of FnExactSemOK. -/
namespace Go.Proofs.Ytboffildchoelaa
open Go.ChangeShapes Go.WideShapes Go.ChangeAt Go.RowKit
set_option linter.unusedVariables false

theorem ownSm : ownKnob Try.prog.godebug = none := by kernel_rfl
theorem laidOutSm : laidOutB Try.prog = true := by kernel_rfl
theorem cells22 : Try.prog.cellsOf 22 = 1 := by kernel_rfl
theorem cells23 : Try.prog.cellsOf 23 = 1 := by kernel_rfl
theorem cells24 : Try.prog.cellsOf 24 = 1 := by kernel_rfl
theorem cells26 : Try.prog.cellsOf 26 = 4 := by kernel_rfl
theorem read_sem {H : Type} {enc : TypeId × Value → H} {w : World} {base : Nat} {spare : Nat → Bool} {held : Bool} (fuel : Nat) (cs : List Value) (x : DataW H × List MemPlace) (h : DataW.trod enc Try.prog w base spare held fuel 26 cs = some x) :
    ∃ (s : Se) (r1 v1 c1 h1 : Option Addr) (r2 v2 c2 h2 : Nat), cs = [.slice r1 s.rl.length r2, .slice v1 s.vs.length v2, .slice c1 s.cs.length c2, .slice h1 s.hs.length h2] ∧ SLy w s r1 v1 c1 h1 r2 v2 c2 h2 := by
  obtain ⟨xs, n, rfl, rfl, hl, hlen, hf⟩ := DataW.trod_struct Try.underlying26 h
  rw [cells26] at hl
  obtain ⟨d0, d1, d2, d3, rfl⟩ := list4 hl
  obtain ⟨y0, y1, y2, y3, rfl⟩ := list4 (l := xs) hlen
  have f0 := hf 0 _ rfl
  have f1 := hf 1 _ rfl
  have f2 := hf 2 _ rfl
  have f3 := hf 3 _ rfl
  simp [cells22, cells23, cells24] at f0 f1 f2 f3
  obtain ⟨rl, a0, e0, g0⟩ := read_rules _ _ _ f0
  obtain ⟨vs, a1, e1, g1⟩ := read_trs _ _ _ f1
  obtain ⟨cs, a2, e2, g2⟩ := read_trs _ _ _ f2
  obtain ⟨hs, a3, e3, g3⟩ := read_shapes _ _ _ f3
  simp at e0 e1 e2 e3
  subst e0 e1 e2 e3
  obtain ⟨r1, r2, rfl⟩ := g0.form
  obtain ⟨v1, v2, rfl, _⟩ := g1.form
  obtain ⟨c1, c2, rfl, _⟩ := g2.form
  obtain ⟨h1, h2, rfl⟩ := g3.form
  exact ⟨⟨rl, vs, cs, hs⟩, r1, v1, c1, h1, r2, v2, c2, h2, rfl, ⟨g0, g1, g2, g3⟩⟩

set_option maxRecDepth 100000 in
theorem smLifted (os : Os) (started : os.Started) (H : Type) (enc : TypeId × Value → H) :
    ReturnsInHanded {} Try.checked os 3 .any (Rows.fnExactSemOKSpec.pre6 enc Try.prog Try.f3 Rows.fnExactSemOKRow.domain false) (Rows.fnExactSemOKSpec.post enc Try.prog Try.f3 false true false false) := by
  refine returnsInHanded_of_change (C := Try.checked) ownSm started (by kernel_rfl) Try.func3
    (ChangeSpec.witness6 (enc := enc) (C := Try.checked) false ⟨#[], #[.agg #[.slice none 0 0, .slice none 0 0, .slice none 0 0, .slice none 0 0]], []⟩ 8 (by kernel_rfl) (by kernel_rfl) (by kernel_rfl) (by kernel_rfl)) ?_
  intro W base args ds gs before hval0 hW hcnd _
  have hval : ∀ (j : Nat) t v, Try.f3.params[j]? = some t → args[j]? = some v → Value.okWide Try.prog W .any base t v := hval0
  have hW' := hW
  obtain ⟨p, q, hA0, hV, rfl, hfz, hnd⟩ := hW
  have hA : DataW.TrodAll enc Try.prog W 0 (fun _ => true) true Try.f3.params.toList args.toList ds p := hA0
  rw [Try.params3] at hA hval
  obtain ⟨v0, vs0, d0, ds0, p0, q0, hargs, rfl, rfl, h0, r0⟩ := trodAll_cons hA
  obtain ⟨rfl, rfl, rfl⟩ := trodAll_nil r0
  obtain rfl : args = #[v0] := by cases args; simp_all
  obtain ⟨rfl, rfl⟩ := trodVars_none hV
  have k0 := h0
  have lt0 : ∀ x ∈ p0, x.block < W.heap.size := by obtain ⟨m, hm⟩ := k0; exact DataW.trod_lt m _ _ _ hm
  obtain ⟨s, r1, v1, c1, h1, r2, v2, c2, h2, rfl, hsl⟩ : ∃ (s : Se) (r1 v1 c1 h1 : Option Addr) (r2 v2 c2 h2 : Nat), v0 = .agg #[.slice r1 s.rl.length r2, .slice v1 s.vs.length v2, .slice c1 s.cs.length c2, .slice h1 s.hs.length h2] ∧ SLy W s r1 v1 c1 h1 r2 v2 c2 h2 := by
    obtain ⟨fuel, hf⟩ := h0
    obtain ⟨s, r1, v1, c1, h1, r2, v2, c2, h2, hl, hw⟩ := read_sem fuel _ _ hf
    refine ⟨s, r1, v1, c1, h1, r2, v2, c2, h2, ?_, hw⟩
    obtain ⟨xs, rfl, _⟩ := okWide_struct Try.underlying26 (hval 0 26 v0 rfl rfl)
    simp only [Value.cells] at hl
    congr 1
    exact Array.toList_inj.mp (by simpa using hl)
  clear hA0 hval0
  refine (lawSm s r1 v1 c1 h1 r2 v2 c2 h2 W hsl).mono fun e W' ⟨he, bel⟩ => ?_
  subst he
  exact ⟨_, rfl, _, _, _, [], _, [], hW', trodAll_mk1 (shut_bool Try.underlying4 _), (trodAll_cons_mk (Below.trod laidOutSm (by kernel_rfl) (of_decide_eq_true (by kernel_rfl)) k0 bel lt0) trodAll_mk0), rfl, bel.frame _, fun h => by cases h⟩

theorem smOver : Rows.fnExactSemOKRow.holds Try.pinned (OpenSpec.ofChange Rows.fnExactSemOKSpec) :=
  OpenClaim.holds_of_wide 3 Try.f3 rfl rfl rfl rfl rfl rfl rfl ⟨rfl, rfl, rfl, rfl, rfl⟩ rfl rfl rfl rfl rfl (by kernel_rfl) Try.func3 (by kernel_rfl)
    (of_decide_eq_true (by kernel_rfl)) (by unfold Func.isWrapper; first | (rw [if_pos (by decide +kernel)]; kernel_rfl) | (rw [if_neg (by decide +kernel)]; exact ⟨rfl, rfl⟩))
    (fun os started H enc _ => smLifted os started H enc)

theorem exactSemOK_holds : Rows.FnExactSemOKSaid := smOver
#print axioms exactSemOK_holds
end Go.Proofs.Ytboffildchoelaa
