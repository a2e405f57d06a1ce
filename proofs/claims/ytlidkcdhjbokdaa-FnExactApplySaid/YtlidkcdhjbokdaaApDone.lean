import Derived.Test.YtlidkcdhjbokdaaRows
import Derived.Test.YtlidkcdhjbokdaaLawAp
import Derived.ProofKit
import Derived.OpenShut
import Derived.ShutString
import Derived.ChangeOld
/-! The statement of FnExactApply. -/
namespace Go.Proofs.Ytlidkcdhjbokdaa
open Go.ChangeShapes Go.WideShapes Go.ChangeAt Go.RowKit Go.Deep
set_option linter.unusedVariables false

/-- A slice whose elements read so: its cells, element by element. -/
theorem read_row {H α : Type} [Inhabited α] {enc : TypeId × Value → H} {w : World} {base : Nat} {spare : Nat → Bool} {held : Bool} {t e k : Nat} (ht : Try.prog.underlying t = some (.slice e)) (hk : Try.prog.cellsOf e = k) (hk0 : 0 < k)
    {R : α → List Value → Prop} (hR : ∀ (m : Nat) (cs : List Value) (x : DataW H × List MemPlace), DataW.trod enc Try.prog w base spare held m e cs = some x → ∃ a, R a cs)
    (fuel : Nat) (cs : List Value) (x : DataW H × List MemPlace) (h : DataW.trod enc Try.prog w base spare held fuel t cs = some x) :
    ∃ (l : List α) (a : Option Addr) (cap b off : Nat), cs = [.slice a l.length cap] ∧ l.length ≤ cap ∧ cap ≤ maxLen ∧ (0 < l.length → a = some ⟨b, off, none⟩) ∧
      ∀ i (hi : i < l.length), ∃ c : List Value, c.length = k ∧ R l[i] c ∧ ∀ q, q < k → w.cell? ⟨b, off + i * k + q, none⟩ = c[q]? := by
  rcases DataW.trod_slice ht h with ⟨e3, _⟩ | ⟨a, len, cap, elems, rest, m, rfl, e3, _, hb, hlc, hcm, hel, hels, _, _⟩
  · subst e3
    exact ⟨[], none, 0, 0, 0, rfl, Nat.le_refl _, Nat.zero_le _, fun h => absurd h (Nat.not_lt_zero _), fun i hi => absurd hi (Nat.not_lt_zero _)⟩
  · subst e3
    rw [hk] at hels
    have hall : ∀ i, i < len → ∃ p : α × List Value, p.2.length = k ∧ R p.1 p.2 ∧ ∀ q, q < k → w.cell? ((a.add (i * k)).add q) = p.2[q]? := by
      intro i hi
      have h1 := hels i hi
      rw [List.getElem?_eq_getElem (by omega)] at h1
      obtain ⟨cs', h2, h3⟩ := Option.bind_eq_some_iff.1 h1
      obtain ⟨y, hy⟩ := hR _ _ _ h3
      obtain ⟨_, hl, hc⟩ := World.cells?_some h2
      exact ⟨(y, cs'), hl, hy, hc⟩
    obtain ⟨F, hF⟩ := @choose_lt (α × List Value) ⟨(default, [])⟩ len _ hall
    obtain ⟨bb, off, spot⟩ := a
    have hsp : 0 < len → spot = none := fun h0 => by
      obtain ⟨hl, _, hc⟩ := hF 0 h0
      have h4 := hc 0 hk0
      rw [List.getElem?_eq_getElem (by omega)] at h4
      have := World.cell?_spot h4
      simpa [Addr.add] using this
    have hlk : ((List.range len).map fun i => (F i).1).length = len := by simp
    refine ⟨(List.range len).map fun i => (F i).1, some ⟨bb, off, spot⟩, cap, bb, off, by rw [hlk], by rw [hlk]; exact hlc, hcm, fun h0 => ?_, fun i hi => ?_⟩
    · rw [hlk] at h0
      rw [hsp h0]
    · rw [hlk] at hi
      obtain ⟨hl, hy, hc⟩ := hF i hi
      refine ⟨(F i).2, hl, by simpa using hy, fun q hq => ?_⟩
      have h4 := hc q hq
      rw [hsp (by omega)] at h4
      simp only [add_plain] at h4
      exact h4

theorem cells3 : Try.prog.cellsOf 3 = 1 := by kernel_rfl
theorem cells39 : Try.prog.cellsOf 39 = 2 := by kernel_rfl
theorem list2 {α : Type} {l : List α} (h : l.length = 2) : ∃ a b, l = [a, b] := by
  match l, h with
  | [a, b], _ => exact ⟨a, b, rfl⟩
section
variable {H : Type} {enc : TypeId × Value → H} {w : World} {base : Nat} {spare : Nat → Bool} {held : Bool}

theorem read_int (m : Nat) (cs : List Value) (x : DataW H × List MemPlace) (h : DataW.trod enc Try.prog w base spare held m 3 cs = some x) : ∃ n : Int, cs = [.int .i64 n] := by
  obtain ⟨n, e, _⟩ := DataW.trod_int Try.underlying3 h
  exact ⟨n, e⟩
theorem read_ints (fuel : Nat) (cs : List Value) (x : DataW H × List MemPlace) (h : DataW.trod enc Try.prog w base spare held fuel 22 cs = some x) :
    ∃ (l : List Int) (v : Value), cs = [v] ∧ Ints w (fun _ => True) l v := by
  obtain ⟨l, a, cap, b, off, rfl, h1, h2, h3, h4⟩ := read_row (k := 1) Try.underlying22 cells3 (by omega) (R := fun n cs => cs = [.int .i64 n]) read_int fuel cs x h
  refine ⟨l, _, rfl, a, cap, b, off, rfl, h1, h2, fun h0 => ⟨h3 h0, trivial⟩, fun i hi => ?_⟩
  obtain ⟨c, _, rfl, hc⟩ := h4 i hi
  have := hc 0 (by omega)
  rw [Nat.mul_one, Nat.add_zero] at this
  exact this
theorem read_edit (m : Nat) (cs : List Value) (x : DataW H × List MemPlace) (h : DataW.trod enc Try.prog w base spare held m 39 cs = some x) :
    ∃ t : Int × Int, cs = [.int .i64 t.1, .int .i64 t.2] := by
  obtain ⟨xs, n, rfl, rfl, hl, hlen, hf⟩ := DataW.trod_struct Try.underlying39 h
  rw [cells39] at hl
  obtain ⟨c0, c1, rfl⟩ := list2 hl
  obtain ⟨y0, y1, rfl⟩ := list2 (l := xs) hlen
  have f0 := hf 0 _ rfl
  have f1 := hf 1 _ rfl
  simp [cells3] at f0 f1
  obtain ⟨n0, e0⟩ := read_int _ _ _ f0
  obtain ⟨n1, e1⟩ := read_int _ _ _ f1
  simp at e0 e1
  subst e0 e1
  exact ⟨(n0, n1), rfl⟩
theorem read_edits (fuel : Nat) (cs : List Value) (x : DataW H × List MemPlace) (h : DataW.trod enc Try.prog w base spare held fuel 23 cs = some x) :
    ∃ (l : List (Int × Int)) (v : Value), cs = [v] ∧ Eds w (fun _ => True) l v := by
  obtain ⟨l, a, cap, b, off, rfl, h1, h2, h3, h4⟩ := read_row (k := 2) Try.underlying23 cells39 (by omega) (R := fun (t : Int × Int) cs => cs = [.int .i64 t.1, .int .i64 t.2]) read_edit fuel cs x h
  refine ⟨l, _, rfl, a, cap, b, off, rfl, h1, h2, fun h0 => ⟨h3 h0, trivial⟩, fun i hi => ?_⟩
  obtain ⟨c, _, rfl, hc⟩ := h4 i hi
  have q0 := hc 0 (by omega)
  have q1 := hc 1 (by omega)
  rw [Nat.add_zero] at q0
  exact ⟨q0, q1⟩
end
theorem ownAtA : ownKnob Try.prog.godebug = none := by kernel_rfl
theorem laidOutAtA : laidOutB Try.prog = true := by kernel_rfl

set_option maxRecDepth 100000 in
theorem apLifted (os : Os) (started : os.Started) (H : Type) (enc : TypeId × Value → H) :
    ReturnsInHanded {} Try.checked os 3 .any (Rows.fnExactApplySpec.pre6 enc Try.prog Try.f3 Rows.fnExactApplyRow.domain false) (Rows.fnExactApplySpec.post enc Try.prog Try.f3 false true false false) := by
  refine returnsInHanded_of_change (C := Try.checked) ownAtA started (by kernel_rfl) Try.func3
    (ChangeSpec.witness6 (enc := enc) (C := Try.checked) false ⟨#[], #[.slice none 0 0, .slice none 0 0], []⟩ 8 (by kernel_rfl) (by kernel_rfl) (by kernel_rfl) (by kernel_rfl)) ?_
  intro W base args ds gs before hval0 hW hcnd _
  have hval : ∀ (j : Nat) t v, Try.f3.params[j]? = some t → args[j]? = some v → Value.okWide Try.prog W .any base t v := hval0
  have hW' := hW
  obtain ⟨p, q, hA0, hV, rfl, hfz, hnd⟩ := hW
  have hA : DataW.TrodAll enc Try.prog W 0 (fun _ => true) true Try.f3.params.toList args.toList ds p := hA0
  rw [Try.params3] at hA hval
  obtain ⟨v0, vs0, d0, ds0, p0, q0, hargs, rfl, rfl, h0, r0⟩ := trodAll_cons hA
  obtain ⟨v1, vs1, d1, ds1, p1, q1, rfl, rfl, rfl, h1, r1⟩ := trodAll_cons r0
  obtain ⟨rfl, rfl, rfl⟩ := trodAll_nil r1
  obtain rfl : args = #[v0, v1] := by cases args; simp_all
  obtain ⟨rfl, rfl⟩ := trodVars_none hV
  have k0 := h0
  have k1 := h1
  have lt0 : ∀ x ∈ p0, x.block < W.heap.size := by obtain ⟨m, hm⟩ := k0; exact DataW.trod_lt m _ _ _ hm
  have lt1 : ∀ x ∈ p1, x.block < W.heap.size := by obtain ⟨m, hm⟩ := k1; exact DataW.trod_lt m _ _ _ hm
  obtain ⟨a0, m0, c0, rfl⟩ := okWide_slice Try.underlying22 (hval 0 22 v0 rfl rfl)
  obtain ⟨a1, m1, c1, rfl⟩ := okWide_slice Try.underlying23 (hval 1 23 v1 rfl rfl)
  obtain ⟨L, hil⟩ : ∃ L : List Int, Ints W (fun _ => True) L (.slice a0 m0 c0) := by
    obtain ⟨fuel, hf⟩ := h0
    obtain ⟨l, v, hl, hi⟩ := read_ints fuel _ _ hf
    refine ⟨l, ?_⟩
    have hv : v = .slice a0 m0 c0 := by simp [Value.cells] at hl; exact hl.symm
    rw [← hv]; exact hi
  obtain ⟨E, hie⟩ : ∃ E : List (Int × Int), Eds W (fun _ => True) E (.slice a1 m1 c1) := by
    obtain ⟨fuel, hf⟩ := h1
    obtain ⟨l, v, hl, hi⟩ := read_edits fuel _ _ hf
    refine ⟨l, ?_⟩
    have hv : v = .slice a1 m1 c1 := by simp [Value.cells] at hl; exact hl.symm
    rw [← hv]; exact hi
  clear hA0 hval0
  refine (lawAp L E _ _ W hil hie).mono fun e W' ⟨he, bel⟩ => ?_
  subst he
  exact ⟨_, rfl, _, _, _, [], _, [], hW', trodAll_mk1 (shut_bool Try.underlying4 _), (trodAll_cons_mk (Below.trod laidOutAtA (by kernel_rfl) (of_decide_eq_true (by kernel_rfl)) k0 bel lt0) (trodAll_cons_mk (Below.trod laidOutAtA (by kernel_rfl) (of_decide_eq_true (by kernel_rfl)) k1 bel lt1) trodAll_mk0)), rfl, bel.frame _, fun h => by cases h⟩

theorem apOver : Rows.fnExactApplyRow.holds Try.pinned (OpenSpec.ofChange Rows.fnExactApplySpec) :=
  OpenClaim.holds_of_wide 3 Try.f3 rfl rfl rfl rfl rfl rfl rfl ⟨rfl, rfl, rfl, rfl, rfl⟩ rfl rfl rfl rfl rfl (by kernel_rfl) Try.func3 (by kernel_rfl)
    (of_decide_eq_true (by kernel_rfl)) (by unfold Func.isWrapper; first | (rw [if_pos (by decide +kernel)]; kernel_rfl) | (rw [if_neg (by decide +kernel)]; exact ⟨rfl, rfl⟩))
    (fun os started H enc _ => apLifted os started H enc)

theorem exactApply_holds : Rows.FnExactApplySaid := apOver
#print axioms exactApply_holds
end Go.Proofs.Ytlidkcdhjbokdaa
