import Derived.Test.YtkkhdkfmaopmfaaRows
import Derived.Test.YtkkhdkfmaopmfaaLawFi
import Derived.Test.YtkkhdkfmaopmfaaRdb
import Derived.ProofKit
import Derived.OpenShut
import Derived.ShutString
import Derived.ChangeOld
/-! The statement of FnExactFill. -/
namespace Go.Proofs.Ytkkhdkfmaopmfaa
open Go.ChangeShapes Go.WideShapes Go.ChangeAt Go.RowKit
set_option linter.unusedVariables false

theorem ownFi : ownKnob Try.prog.godebug = none := by kernel_rfl
theorem laidOutFi : laidOutB Try.prog = true := by kernel_rfl

set_option maxRecDepth 100000 in
theorem fiLifted (os : Os) (started : os.Started) (H : Type) (enc : TypeId × Value → H) :
    ReturnsInHanded {} Try.checked os 4 .any (Rows.fnExactFillSpec.pre6 enc Try.prog Try.f4 Rows.fnExactFillRow.domain false) (Rows.fnExactFillSpec.post enc Try.prog Try.f4 false true false false) := by
  refine returnsInHanded_of_change (C := Try.checked) ownFi started (by kernel_rfl) Try.func4
    (ChangeSpec.witness6 (enc := enc) (C := Try.checked) false ⟨#[], #[.agg #[.string ByteArray.empty, .string ByteArray.empty, .bool false, .slice none 0 0], .slice none 0 0], []⟩ 8 (by kernel_rfl) (by kernel_rfl) (by kernel_rfl) (by kernel_rfl)) ?_
  intro W base args ds gs before hval0 hW hcnd _
  have hval : ∀ (j : Nat) t v, Try.f4.params[j]? = some t → args[j]? = some v → Value.okWide Try.prog W .any base t v := hval0
  have hW' := hW
  obtain ⟨p, q, hA0, hV, rfl, hfz, hnd⟩ := hW
  have hA : DataW.TrodAll enc Try.prog W 0 (fun _ => true) true Try.f4.params.toList args.toList ds p := hA0
  rw [Try.params4] at hA hval
  obtain ⟨v0, vs0, d0, ds0, p0, q0, hargs, rfl, rfl, h0, r0⟩ := trodAll_cons hA
  obtain ⟨v1, vs1, d1, ds1, p1, q1, rfl, rfl, rfl, h1, r1⟩ := trodAll_cons r0
  obtain ⟨rfl, rfl, rfl⟩ := trodAll_nil r1
  obtain rfl : args = #[v0, v1] := by cases args; simp_all
  obtain ⟨rfl, rfl⟩ := trodVars_none hV
  obtain ⟨cs, rfl, hcs⟩ := okWide_struct Try.underlying24 (hval 0 24 v0 rfl rfl)
  have k0 := h0
  have k1 := h1
  have lt0 : ∀ x ∈ p0, x.block < W.heap.size := by obtain ⟨m, hm⟩ := k0; exact DataW.trod_lt m _ _ _ hm
  have lt1 : ∀ x ∈ p1, x.block < W.heap.size := by obtain ⟨m, hm⟩ := k1; exact DataW.trod_lt m _ _ _ hm
  obtain ⟨t, v, rfl, hlies⟩ : ∃ (t : Tr) (v : Value), cs = #[.string t.name, .string t.text, .bool t.leaf, v] ∧ Lies W (fun _ => True) t v := by
    obtain ⟨fuel, hf⟩ := h0
    obtain ⟨t, v, hl, hlies⟩ := read_tree fuel _ _ hf
    refine ⟨t, v, ?_, hlies⟩
    simp only [Value.cells] at hl
    cases cs
    simp_all
  obtain ⟨bl, hbl⟩ : ∃ (bl : List (ByteArray × Tr)), BLy W bl v1 := by
    obtain ⟨a, len, cap, rfl⟩ := okWide_slice Try.underlying38 (hval 1 38 v1 rfl rfl)
    obtain ⟨fuel, hf⟩ := h1
    obtain ⟨bl, v, hl, hw⟩ := read_binds fuel _ _ hf
    refine ⟨bl, ?_⟩
    simp only [Value.cells] at hl
    have e : v = .slice a len cap := by simpa using hl.symm
    rw [← e]
    exact hw
  clear hA0 hval0
  refine (lawFi t bl v v1 W hlies hbl).mono fun e W' ⟨he, bel⟩ => ?_
  subst he
  exact ⟨_, rfl, _, _, _, [], _, [], hW', trodAll_mk1 (shut_bool Try.underlying4 _), (trodAll_cons_mk (Below.trod laidOutFi (by kernel_rfl) (of_decide_eq_true (by kernel_rfl)) k0 bel lt0) (trodAll_cons_mk (Below.trod laidOutFi (by kernel_rfl) (of_decide_eq_true (by kernel_rfl)) k1 bel lt1) trodAll_mk0)), rfl, bel.frame _, fun h => by cases h⟩

theorem fiOver : Rows.fnExactFillRow.holds Try.pinned (OpenSpec.ofChange Rows.fnExactFillSpec) :=
  OpenClaim.holds_of_wide 4 Try.f4 rfl rfl rfl rfl rfl rfl rfl ⟨rfl, rfl, rfl, rfl, rfl⟩ rfl rfl rfl rfl rfl (by kernel_rfl) Try.func4 (by kernel_rfl)
    (of_decide_eq_true (by kernel_rfl)) (by unfold Func.isWrapper; first | (rw [if_pos (by decide +kernel)]; kernel_rfl) | (rw [if_neg (by decide +kernel)]; exact ⟨rfl, rfl⟩))
    (fun os started H enc _ => fiLifted os started H enc)

theorem exactFill_holds : Rows.FnExactFillSaid := fiOver
#print axioms exactFill_holds
end Go.Proofs.Ytkkhdkfmaopmfaa
