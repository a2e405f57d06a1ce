import Derived.Test.YtokncahlcphhnaaRows
import Derived.Test.YtokncahlcphhnaaLawSe
import Derived.Test.YtokncahlcphhnaaRd
/-! The statement of FnExactSet. -/
namespace Go.Proofs.Ytokncahlcphhnaa
open Go.ChangeShapes Go.WideShapes Go.ChangeAt Go.RowKit Go.Deep
set_option linter.unusedVariables false

theorem ownSe : ownKnob Try.prog.godebug = none := by kernel_rfl
theorem laidOutSe : laidOutB Try.prog = true := by kernel_rfl
theorem read_bls {H : Type} {enc : TypeId × Value → H} {w : World} {base : Nat} {spare : Nat → Bool} {held : Bool} (fuel : Nat) (cs : List Value) (x : DataW H × List MemPlace) (h : DataW.trod enc Try.prog w base spare held fuel 29 cs = some x) :
    ∃ (l : List Bool) (v : Value), cs = [v] ∧ Bls w (fun _ => True) l v := by
  obtain ⟨l, a, cap, b, off, rfl, h1, h2, h3, h4⟩ := @read_row H Bool ⟨false⟩ enc w base spare held _ _ 1 Try.underlying29 cells4 (by omega) _ read_bool fuel cs x h
  refine ⟨l, _, rfl, a, cap, b, off, rfl, h1, h2, fun h0 => ⟨h3 h0, trivial⟩, fun i hi => ?_⟩
  obtain ⟨c, _, rfl, hc⟩ := h4 i hi
  have q0 := hc 0 (by omega)
  simpa using q0

set_option maxRecDepth 100000 in
theorem seLifted (os : Os) (started : os.Started) (H : Type) (enc : TypeId × Value → H) :
    ReturnsInHanded {} Try.checked os 4 .any (Rows.fnExactSetSpec.pre6 enc Try.prog Try.f4 Rows.fnExactSetRow.domain false) (Rows.fnExactSetSpec.post enc Try.prog Try.f4 false true false false) := by
  refine returnsInHanded_of_change (C := Try.checked) ownSe started (by kernel_rfl) Try.func4
    (ChangeSpec.witness6 (enc := enc) (C := Try.checked) false ⟨#[], #[.slice none 0 0, .slice none 0 0], []⟩ 8 (by kernel_rfl) (by kernel_rfl) (by kernel_rfl) (by kernel_rfl)) ?_
  intro W base args ds gs before hval0 hW hcnd _
  have hval : ∀ (j : Nat) t v, Try.f4.params[j]? = some t → args[j]? = some v → Value.okWide Try.prog W .any base t v := hval0
  have hW' := hW
  obtain ⟨p, q, hA0, hV, rfl, hfz, hnd⟩ := hW
  have hA : DataW.TrodAll enc Try.prog W 0 (fun _ => true) true Try.f4.params.toList args.toList ds p := hA0
  rw [Try.params4] at hA hval
  obtain ⟨v0, vs0, d0, ds0, p0, q0, hargs, rfl, rfl, h0, r0⟩ := trodAll_cons hA
  obtain ⟨v1, vs1, d1, ds1, p1, q1, rfl, rfl, rfl, h1, r1⟩ := trodAll_cons r0
  obtain ⟨rfl, rfl, rfl⟩ := trodAll_nil r1
  obtain rfl : args = #[v0, v1] := by cases args; simp_all
  obtain ⟨rfl, rfl⟩ := trodVars_none hV
  have k0 := h0
  have k1 := h1
  have lt0 : ∀ x ∈ p0, x.block < W.heap.size := by obtain ⟨m, hm⟩ := k0; exact DataW.trod_lt m _ _ _ hm
  have lt1 : ∀ x ∈ p1, x.block < W.heap.size := by obtain ⟨m, hm⟩ := k1; exact DataW.trod_lt m _ _ _ hm
  obtain ⟨l, hlies⟩ : ∃ (l : List DLNode), LNodeR W (fun _ => True) l v0 := by
    obtain ⟨a, len, cap, rfl⟩ := okWide_slice Try.underlying22 (hval 0 22 v0 rfl rfl)
    obtain ⟨fuel, hf⟩ := h0
    obtain ⟨l, v, hl, hw⟩ := read_nodes fuel _ _ hf
    refine ⟨l, ?_⟩
    simp only [Value.cells] at hl
    have e : v = .slice a len cap := by simpa using hl.symm
    rw [← e]
    exact hw
  obtain ⟨br, hbr⟩ : ∃ (br : List Bool), Bls W (fun _ => True) br v1 := by
    obtain ⟨a, len, cap, rfl⟩ := okWide_slice Try.underlying29 (hval 1 29 v1 rfl rfl)
    obtain ⟨fuel, hf⟩ := h1
    obtain ⟨l, v, hl, hw⟩ := read_bls fuel _ _ hf
    refine ⟨l, ?_⟩
    simp only [Value.cells] at hl
    have e : v = .slice a len cap := by simpa using hl.symm
    rw [← e]
    exact hw
  clear hA0 hval0
  refine (lawSe l br _ _ W hlies hbr).mono fun e W' ⟨he, bel⟩ => ?_
  subst he
  exact ⟨_, rfl, _, _, _, [], _, [], hW', trodAll_mk1 (shut_bool Try.underlying4 _), (trodAll_cons_mk (Below.trod laidOutSe (by kernel_rfl) (of_decide_eq_true (by kernel_rfl)) k0 bel lt0) (trodAll_cons_mk (Below.trod laidOutSe (by kernel_rfl) (of_decide_eq_true (by kernel_rfl)) k1 bel lt1) trodAll_mk0)), rfl, bel.frame _, fun h => by cases h⟩

theorem seOver : Rows.fnExactSetRow.holds Try.pinned (OpenSpec.ofChange Rows.fnExactSetSpec) :=
  OpenClaim.holds_of_wide 4 Try.f4 rfl rfl rfl rfl rfl rfl rfl ⟨rfl, rfl, rfl, rfl, rfl⟩ rfl rfl rfl rfl rfl (by kernel_rfl) Try.func4 (by kernel_rfl)
    (of_decide_eq_true (by kernel_rfl)) (by unfold Func.isWrapper; first | (rw [if_pos (by decide +kernel)]; kernel_rfl) | (rw [if_neg (by decide +kernel)]; exact ⟨rfl, rfl⟩))
    (fun os started H enc _ => seLifted os started H enc)

theorem exactSet_holds : Rows.FnExactSetSaid := seOver
#print axioms exactSet_holds
end Go.Proofs.Ytokncahlcphhnaa
