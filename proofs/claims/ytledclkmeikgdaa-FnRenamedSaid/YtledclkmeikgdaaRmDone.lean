import Derived.Test.YtledclkmeikgdaaRows
import Derived.Test.YtledclkmeikgdaaLawRm
import Derived.ProofKit
import Derived.OpenShut
import Derived.ShutString
import Derived.ChangeOld
/-! The statement of FnRenamed. -/
namespace Go.Proofs.Ytledclkmeikgdaa
open Go.ChangeShapes Go.WideShapes Go.ChangeAt Go.RowKit Go.Deep
set_option linter.unusedVariables false

theorem ownRm : ownKnob Try.prog.godebug = none := by kernel_rfl
theorem laidOutRm : laidOutB Try.prog = true := by kernel_rfl
theorem cells5 : Try.prog.cellsOf 5 = 1 := by kernel_rfl
theorem addPlain (b off i : Nat) : (⟨b, off, none⟩ : Addr).add i = ⟨b, off + i, none⟩ := by
  cases i <;> simp [Addr.add]
theorem choose_upto {α : Type} (d : α) (n : Nat) {P : Nat → α → Prop} (h : ∀ i, i < n → ∃ x, P i x) : ∃ f : Nat → α, ∀ i, i < n → P i (f i) :=
  ⟨fun i => if hi : i < n then Classical.choose (h i hi) else d, fun i hi => by dsimp only; rw [dif_pos hi]; exact Classical.choose_spec (h i hi)⟩

theorem read_bytes {H : Type} {enc : TypeId × Value → H} {w : World} {base : Nat} {spare : Nat → Bool} {held : Bool} (fuel : Nat) (cs : List Value) (x : DataW H × List MemPlace) (h : DataW.trod enc Try.prog w base spare held fuel 22 cs = some x) :
    ∃ (l : List UInt8) (a : Option Addr) (cap b off : Nat), cs = [.slice a l.length cap] ∧ l.length ≤ cap ∧ cap ≤ maxLen ∧ b < w.heap.size + 2 ∧ (0 < l.length → a = some ⟨b, off, none⟩) ∧ T.Byts w l b off := by
  rcases DataW.trod_slice Try.underlying22 h with ⟨e3, _⟩ | ⟨a, len, cap, elems, rest, m, rfl, e3, _, hb, hlc, hcm, hel, hels, _, _⟩
  · subst e3
    exact ⟨[], none, 0, 0, 0, rfl, Nat.le_refl _, Nat.zero_le _, by omega, fun h => absurd h (Nat.not_lt_zero _), fun i hi => absurd hi (Nat.not_lt_zero _)⟩
  · subst e3
    rw [cells5] at hels
    have hall : ∀ i, i < len → ∃ y : UInt8, w.cell? (a.add i) = some (.int .u8 y.toNat) := by
      intro i hi
      have h1 := hels i hi
      rw [List.getElem?_eq_getElem (by omega)] at h1
      obtain ⟨cs', h2, h3⟩ := Option.bind_eq_some_iff.1 h1
      obtain ⟨n, rfl, _, hn⟩ := DataW.trod_int Try.underlying5 h3
      obtain ⟨_, _, hc⟩ := World.cells?_some h2
      have h4 := hc 0 (by omega)
      have e : (a.add (i * 1)).add 0 = a.add i := by simp [Addr.add]
      rw [e] at h4
      have hr : 0 ≤ n ∧ n < 256 := by
        have u1 : IntKind.u8.min = 0 := by decide
        have u2 : IntKind.u8.max = 255 := by decide
        simp [Lit.wf, go_sem] at hn
        omega
      refine ⟨UInt8.ofNat n.toNat, ?_⟩
      rw [h4]
      have e2 : ((UInt8.ofNat n.toNat).toNat : Int) = n := by
        rw [UInt8.toNat_ofNat']
        omega
      rw [e2]
      rfl
    by_cases hl0 : len = 0
    · subst hl0
      exact ⟨[], some a, cap, 0, 0, rfl, Nat.zero_le _, hcm, by omega, fun h => absurd h (Nat.not_lt_zero _), fun i hi => absurd hi (Nat.not_lt_zero _)⟩
    · obtain ⟨F, hF⟩ := choose_upto (0 : UInt8) len hall
      obtain ⟨bb, off, spot⟩ := a
      have hsp : spot = none := by
        have := World.cell?_spot (hF 0 (by omega))
        simpa [Addr.add] using this
      subst hsp
      have hlk : ((List.range len).map F).length = len := by simp
      have h0 := hF 0 (by omega)
      rw [addPlain] at h0
      refine ⟨(List.range len).map F, some ⟨bb, off, none⟩, cap, bb, off, by rw [hlk], by rw [hlk]; exact hlc, hcm, by have := lt_of_cell h0; dsimp only at this; omega, fun _ => rfl, fun i hi => ?_⟩
      rw [hlk] at hi
      have q0 := hF i hi
      rw [addPlain] at q0
      simp only [List.getElem_map, List.getElem_range]
      exact q0

set_option maxRecDepth 100000 in
theorem rmLifted (os : Os) (started : os.Started) (H : Type) (enc : TypeId × Value → H) :
    ReturnsInHanded {} Try.checked os 3 .any (Rows.fnRenamedSpec.pre6 enc Try.prog Try.f3 Rows.fnRenamedRow.domain false) (Rows.fnRenamedSpec.post enc Try.prog Try.f3 false true false false) := by
  refine returnsInHanded_of_change (C := Try.checked) ownRm started (by kernel_rfl) Try.func3
    (ChangeSpec.witness6 (enc := enc) (C := Try.checked) false ⟨#[], #[.slice none 0 0], []⟩ 8 (by kernel_rfl) (by kernel_rfl) (by kernel_rfl) (by kernel_rfl)) ?_
  intro W base args ds gs before hval0 hW hcnd _
  have hval : ∀ (j : Nat) t v, Try.f3.params[j]? = some t → args[j]? = some v → Value.okWide Try.prog W .any base t v := hval0
  have hW' := hW
  obtain ⟨p, q, hA0, hV, rfl, hfz, hnd⟩ := hW
  have hA : DataW.TrodAll enc Try.prog W 0 (fun _ => true) true Try.f3.params.toList args.toList ds p := hA0
  rw [Try.params3] at hA hval
  obtain ⟨v0, vs0, d0, ds0, p0, q0, hargs, rfl, rfl, h0, r0⟩ := trodAll_cons hA
  obtain ⟨rfl, rfl, rfl⟩ := trodAll_nil r0
  obtain rfl : args = #[v0] := by cases args; simp_all
  obtain ⟨rfl, rfl⟩ := trodVars_none hV
  obtain ⟨a1, m1, c1, rfl⟩ := okWide_slice Try.underlying22 (hval 0 22 v0 rfl rfl)
  have k0 := h0
  have lt0 : ∀ x ∈ p0, x.block < W.heap.size := by obtain ⟨m, hm⟩ := k0; exact DataW.trod_lt m _ _ _ hm
  obtain ⟨l, bb, off, rfl, hlc, hcm, hbb, hla, hby⟩ : ∃ (l : List UInt8) (bb off : Nat), m1 = l.length ∧ l.length ≤ c1 ∧ c1 ≤ maxLen ∧ bb < W.heap.size + 2 ∧ (0 < l.length → a1 = some ⟨bb, off, none⟩) ∧ T.Byts W l bb off := by
    obtain ⟨fuel, hf⟩ := h0
    obtain ⟨l, a, cap, bb, off, hl, h1, h2, h3, h4, h5⟩ := read_bytes fuel _ _ hf
    simp only [Value.cells] at hl
    have hv : Value.slice a1 m1 c1 = .slice a l.length cap := by simpa using hl
    cases hv
    exact ⟨l, bb, off, rfl, h1, h2, h3, h4, h5⟩
  clear hA0 hval0
  refine (lawRm W hlc (by unfold maxLen at hcm; exact hcm) hla hby).mono fun e W' ⟨he, bel⟩ => ?_
  subst he
  exact ⟨_, rfl, _, _, _, [], _, [], hW', trodAll_mk1 (shut_bool Try.underlying4 _), (trodAll_cons_mk (Below.trod laidOutRm (by kernel_rfl) (of_decide_eq_true (by kernel_rfl)) k0 bel lt0) trodAll_mk0), rfl, bel.frame _, fun h => by cases h⟩

theorem rmOver : Rows.fnRenamedRow.holds Try.pinned (OpenSpec.ofChange Rows.fnRenamedSpec) :=
  OpenClaim.holds_of_wide 3 Try.f3 rfl rfl rfl rfl rfl rfl rfl ⟨rfl, rfl, rfl, rfl, rfl⟩ rfl rfl rfl rfl rfl (by kernel_rfl) Try.func3 (by kernel_rfl)
    (of_decide_eq_true (by kernel_rfl)) (by unfold Func.isWrapper; first | (rw [if_pos (by decide +kernel)]; kernel_rfl) | (rw [if_neg (by decide +kernel)]; exact ⟨rfl, rfl⟩))
    (fun os started H enc _ => rmLifted os started H enc)

theorem renamed_holds : Rows.FnRenamedSaid := rmOver
#print axioms renamed_holds
end Go.Proofs.Ytledclkmeikgdaa
