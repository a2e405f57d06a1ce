import Derived.Test.YthmdoplickpmaaiRows
import Derived.Test.YthmdoplickpmaaiLawAt
import Derived.Test.YthmdoplickpmaaiRead
import Derived.ProofKit
import Derived.OpenShut
import Derived.ShutString
import Derived.ChangeOld
/-! The statement of FnExactTreeAt. -/
namespace Go.Proofs.Ythmdoplickpmaai
open Go.ChangeShapes Go.WideShapes Go.ChangeAt Go.RowKit Go.Deep
set_option linter.unusedVariables false
set_option maxRecDepth 100000

theorem ownAt : ownKnob Try.prog.godebug = none := by kernel_rfl
theorem laidOutAt : laidOutB Try.prog = true := by kernel_rfl
theorem cells3 : Try.prog.cellsOf 3 = 1 := by kernel_rfl

theorem read_ints {H : Type} {enc : TypeId × Value → H} {w : World} {base : Nat} {spare : Nat → Bool} {held : Bool} (fuel : Nat) (cs : List Value) (x : DataW H × List MemPlace) (h : DataW.trod enc Try.prog w base spare held fuel 25 cs = some x) :
    ∃ (l : List Int) (v : Value), cs = [v] ∧ Ints w (fun _ => True) l v := by
  rcases DataW.trod_slice Try.underlying25 h with ⟨e3, _⟩ | ⟨a, len, cap, elems, rest, m, rfl, e3, _, hb, hlc, hcm, hel, hels, _, _⟩
  · subst e3
    exact ⟨[], _, rfl, none, 0, 0, 0, rfl, Nat.le_refl _, Nat.zero_le _, fun h => absurd h (Nat.not_lt_zero _), fun i hi => absurd hi (Nat.not_lt_zero _)⟩
  · subst e3
    rw [cells3] at hels
    have hall : ∀ i, i < len → ∃ x : Int, w.cell? (a.add i) = some (.int .i64 x) := by
      intro i hi
      have h1 := hels i hi
      rw [List.getElem?_eq_getElem (by omega)] at h1
      obtain ⟨cs', h2, h3⟩ := Option.bind_eq_some_iff.1 h1
      obtain ⟨n, rfl, _⟩ := DataW.trod_int Try.underlying3 h3
      obtain ⟨_, _, hc⟩ := World.cells?_some h2
      have h4 := hc 0 (by omega)
      have e : (a.add (i * 1)).add 0 = a.add i := by simp [Addr.add]
      rw [e] at h4
      exact ⟨n, by simpa using h4⟩
    obtain ⟨F, hF⟩ := @choose_lt Int ⟨0⟩ len _ hall
    obtain ⟨bb, off, spot⟩ := a
    have hsp : 0 < len → spot = none := fun h0 => by
      have := World.cell?_spot (hF 0 h0)
      simpa [Addr.add] using this
    have hlk : ((List.range len).map F).length = len := by simp
    refine ⟨(List.range len).map F, _, rfl, some ⟨bb, off, spot⟩, cap, bb, off, by rw [hlk], by rw [hlk]; exact hlc, hcm, fun h0 => ?_, fun i hi => ?_⟩
    · rw [hlk] at h0
      rw [hsp h0]
      exact ⟨rfl, trivial⟩
    · rw [hlk] at hi
      have q0 := hF i hi
      rw [hsp (by omega)] at q0
      simp only [add_plain] at q0
      simp only [List.getElem_map, List.getElem_range]
      exact q0

set_option maxRecDepth 100000 in
theorem atLifted (os : Os) (started : os.Started) (H : Type) (enc : TypeId × Value → H) :
    ReturnsInHanded {} Try.checked os 3 .any (Rows.fnExactTreeAtSpec.pre6 enc Try.prog Try.f3 Rows.fnExactTreeAtRow.domain false) (Rows.fnExactTreeAtSpec.post enc Try.prog Try.f3 false true false false) := by
  refine returnsInHanded_of_change (C := Try.checked) ownAt started (by kernel_rfl) Try.func3
    (ChangeSpec.witness6 (enc := enc) (C := Try.checked) false ⟨#[], #[.agg #[.string ByteArray.empty, .string ByteArray.empty, .bool false, .slice none 0 0], .slice none 0 0], []⟩ 8 (by kernel_rfl) (by kernel_rfl) (by kernel_rfl) (by kernel_rfl)) ?_
  intro W base args ds gs before hval0 hW hcnd _
  have hval : ∀ (j : Nat) t v, Try.f3.params[j]? = some t → args[j]? = some v → Value.okWide Try.prog W .any base t v := hval0
  have hW' := hW
  obtain ⟨p, q, hA0, hV, rfl, hfz, hnd⟩ := hW
  have hA : DataW.TrodAll enc Try.prog W 0 (fun _ => true) true Try.f3.params.toList args.toList ds p := hA0
  rw [Try.params3] at hA hval
  obtain ⟨v0, vs0, d0, ds0, p0, q0, hargs, rfl, rfl, h0, r0⟩ := trodAll_cons hA
  obtain ⟨v1, vs1, d1, ds1, p1, q1, rfl, rfl, rfl, h1, r1⟩ := trodAll_cons r0
  obtain ⟨rfl, rfl, rfl⟩ := trodAll_nil r1
  obtain rfl : args = #[v0, v1] := by cases args; simp_all
  obtain ⟨rfl, rfl⟩ := trodVars_none hV
  obtain ⟨cs, rfl, hcs⟩ := okWide_struct Try.underlying24 (hval 0 24 v0 rfl rfl)
  obtain ⟨a1, m1, c1, rfl⟩ := okWide_slice Try.underlying25 (hval 1 25 v1 rfl rfl)
  have k0 := h0
  have k1 := h1
  have lt0 : ∀ x ∈ p0, x.block < W.heap.size := by obtain ⟨m, hm⟩ := k0; exact DataW.trod_lt m _ _ _ hm
  have lt1 : ∀ x ∈ p1, x.block < W.heap.size := by obtain ⟨m, hm⟩ := k1; exact DataW.trod_lt m _ _ _ hm
  obtain ⟨t, v, rfl, hlies⟩ : ∃ (t : Tr) (v : Value), cs = #[.string t.name, .string t.text, .bool t.leaf, v] ∧ Lies W (fun _ => True) t v := by
    obtain ⟨fuel, hf⟩ := h0
    obtain ⟨t, v, hl, hlies⟩ := read_tree fuel _ _ hf
    refine ⟨t, v, ?_, hlies⟩
    simp only [Value.cells] at hl
    cases cs
    simp_all
  obtain ⟨l, hints⟩ : ∃ l : List Int, Ints W (fun _ => True) l (.slice a1 m1 c1) := by
    obtain ⟨fuel, hf⟩ := h1
    obtain ⟨l, v, hl, hints⟩ := read_ints fuel _ _ hf
    simp only [Value.cells] at hl
    have hv : Value.slice a1 m1 c1 = v := by simpa using hl
    rw [hv]
    exact ⟨l, hints⟩
  clear hA0 hval0
  refine (lawAt t l v _ W hlies hints).mono fun e W' ⟨he, bel⟩ => ?_
  subst he
  exact ⟨_, rfl, _, _, _, [], _, [], hW', trodAll_mk1 (shut_bool Try.underlying4 _), (trodAll_cons_mk (Below.trod laidOutAt (by kernel_rfl) (of_decide_eq_true (by kernel_rfl)) k0 bel lt0) (trodAll_cons_mk (Below.trod laidOutAt (by kernel_rfl) (of_decide_eq_true (by kernel_rfl)) k1 bel lt1) trodAll_mk0)), rfl, bel.frame _, fun h => by cases h⟩

theorem atOver : Rows.fnExactTreeAtRow.holds Try.pinned (OpenSpec.ofChange Rows.fnExactTreeAtSpec) :=
  OpenClaim.holds_of_wide 3 Try.f3 rfl rfl rfl rfl rfl rfl rfl ⟨rfl, rfl, rfl, rfl, rfl⟩ rfl rfl rfl rfl rfl (by kernel_rfl) Try.func3 (by kernel_rfl)
    (of_decide_eq_true (by kernel_rfl)) (by unfold Func.isWrapper; first | (rw [if_pos (by decide +kernel)]; kernel_rfl) | (rw [if_neg (by decide +kernel)]; exact ⟨rfl, rfl⟩))
    (fun os started H enc _ => atLifted os started H enc)

theorem exactTreeAt_holds : Rows.FnExactTreeAtSaid := atOver
#print axioms exactTreeAt_holds
end Go.Proofs.Ythmdoplickpmaai
