import Derived.Test.YtpmlagenakcdfaaRows
import Derived.Test.YtpmlagenakcdfaaLawTo
import Derived.Test.YtpmlagenakcdfaaRead
/-! The statement of FnExactTreeOf. -/
namespace Go.Proofs.Ytpmlagenakcdfaa
open Go.ChangeShapes Go.WideShapes Go.ChangeAt Go.RowKit Go.Deep
set_option linter.unusedVariables false

theorem ownAtT : ownKnob Try.prog.godebug = none := by kernel_rfl
theorem laidOutAtT : laidOutB Try.prog = true := by kernel_rfl

theorem cells4 : Try.prog.cellsOf 4 = 1 := by kernel_rfl
theorem cells84 : Try.prog.cellsOf 84 = 6 := by kernel_rfl
theorem list6 {α : Type} {l : List α} (h : l.length = 6) : ∃ a b c d e f, l = [a, b, c, d, e, f] := by
  match l, h with
  | [a, b, c, d, e, f], _ => exact ⟨a, b, c, d, e, f, rfl⟩
section
variable {H : Type} {enc : TypeId × Value → H} {w : World} {base : Nat} {spare : Nat → Bool} {held : Bool}

theorem read_bool (m : Nat) (cs : List Value) (x : DataW H × List MemPlace) (h : DataW.trod enc Try.prog w base spare held m 4 cs = some x) : ∃ b : Bool, cs = [.bool b] := by
  obtain ⟨n, e, _⟩ := DataW.trod_bool Try.underlying4 h
  exact ⟨n, e⟩
theorem read_word (m : Nat) (cs : List Value) (x : DataW H × List MemPlace) (h : DataW.trod enc Try.prog w base spare held m 84 cs = some x) :
    ∃ t : Wd, cs = [.string t.name, .string t.text, .int .i64 t.at_, .int .i64 t.reach, .bool t.skip, .string t.modes] ∧ t.name.size ≤ maxLen ∧ t.text.size ≤ maxLen ∧ t.modes.size ≤ maxLen := by
  obtain ⟨xs, n, rfl, rfl, hl, hlen, hf⟩ := DataW.trod_struct Try.underlying84 h
  rw [cells84] at hl
  obtain ⟨c0, c1, c2, c3, c4, c5, rfl⟩ := list6 hl
  obtain ⟨y0, y1, y2, y3, y4, y5, rfl⟩ := list6 (l := xs) hlen
  have f0 := hf 0 _ rfl
  have f1 := hf 1 _ rfl
  have f2 := hf 2 _ rfl
  have f3 := hf 3 _ rfl
  have f4 := hf 4 _ rfl
  have f5 := hf 5 _ rfl
  simp [cells3, cells9, cells4] at f0 f1 f2 f3 f4 f5
  obtain ⟨s0, e0, hs0⟩ := read_str _ _ _ f0
  obtain ⟨s1, e1, hs1⟩ := read_str _ _ _ f1
  obtain ⟨n2, e2⟩ := read_int _ _ _ f2
  obtain ⟨n3, e3⟩ := read_int _ _ _ f3
  obtain ⟨b4, e4⟩ := read_bool _ _ _ f4
  obtain ⟨s5, e5, hs5⟩ := read_str _ _ _ f5
  simp at e0 e1 e2 e3 e4 e5
  subst e0 e1 e2 e3 e4 e5
  exact ⟨⟨s0, s1, n2, n3, b4, s5⟩, rfl, hs0, hs1, hs5⟩
theorem read_words (fuel : Nat) (cs : List Value) (x : DataW H × List MemPlace) (h : DataW.trod enc Try.prog w base spare held fuel 44 cs = some x) :
    ∃ (l : List Wd) (v : Value), cs = [v] ∧ Wds w (fun _ => True) l v := by
  obtain ⟨l, a, cap, b, off, rfl, h1, h2, h3, h4⟩ := @read_row H Wd ⟨⟨ByteArray.empty, ByteArray.empty, 0, 0, false, ByteArray.empty⟩⟩ enc w base spare held _ _ 6 Try.underlying44 cells84 (by omega) _ read_word fuel cs x h
  refine ⟨l, _, rfl, a, cap, b, off, rfl, h1, h2, fun h0 => ⟨h3 h0, trivial⟩, fun i hi => ?_⟩
  obtain ⟨c, _, ⟨rfl, hs⟩, hc⟩ := h4 i hi
  have q0 := hc 0 (by omega)
  rw [Nat.add_zero] at q0
  exact ⟨q0, hc 1 (by omega), hc 2 (by omega), hc 3 (by omega), hc 4 (by omega), hc 5 (by omega), hs⟩
end
set_option maxRecDepth 100000 in
theorem toLifted (os : Os) (started : os.Started) (H : Type) (enc : TypeId × Value → H) :
    ReturnsInHanded {} Try.checked os 5 .any (Rows.fnExactTreeOfSpec.pre6 enc Try.prog Try.f5 Rows.fnExactTreeOfRow.domain false) (Rows.fnExactTreeOfSpec.post enc Try.prog Try.f5 false true false false) := by
  refine returnsInHanded_of_change (C := Try.checked) ownAtT started (by kernel_rfl) Try.func5
    (ChangeSpec.witness6 (enc := enc) (C := Try.checked) false ⟨#[], #[.agg #[.slice none 0 0, .slice none 0 0, .int .i64 0, .slice none 0 0], .slice none 0 0, .slice none 0 0], []⟩ 8 (by kernel_rfl) (by kernel_rfl) (by kernel_rfl) (by kernel_rfl)) ?_
  intro W base args ds gs before hval0 hW hcnd _
  have hval : ∀ (j : Nat) t v, Try.f5.params[j]? = some t → args[j]? = some v → Value.okWide Try.prog W .any base t v := hval0
  have hW' := hW
  obtain ⟨p, q, hA0, hV, rfl, hfz, hnd⟩ := hW
  have hA : DataW.TrodAll enc Try.prog W 0 (fun _ => true) true Try.f5.params.toList args.toList ds p := hA0
  rw [Try.params5] at hA hval
  obtain ⟨v0, vs0, d0, ds0, p0, q0, hargs, rfl, rfl, h0, r0⟩ := trodAll_cons hA
  obtain ⟨v1, vs1, d1, ds1, p1, q1, rfl, rfl, rfl, h1, r1⟩ := trodAll_cons r0
  obtain ⟨v2, vs2, d2, ds2, p2, q2, rfl, rfl, rfl, h2, r2⟩ := trodAll_cons r1
  obtain ⟨rfl, rfl, rfl⟩ := trodAll_nil r2
  obtain rfl : args = #[v0, v1, v2] := by cases args; simp_all
  obtain ⟨rfl, rfl⟩ := trodVars_none hV
  obtain ⟨cs, rfl, hcs⟩ := okWide_struct Try.underlying26 (hval 0 26 v0 rfl rfl)
  have k0 := h0
  have k1 := h1
  have k2 := h2
  have lt0 : ∀ x ∈ p0, x.block < W.heap.size := by obtain ⟨m, hm⟩ := k0; exact DataW.trod_lt m _ _ _ hm
  have lt1 : ∀ x ∈ p1, x.block < W.heap.size := by obtain ⟨m, hm⟩ := k1; exact DataW.trod_lt m _ _ _ hm
  have lt2 : ∀ x ∈ p2, x.block < W.heap.size := by obtain ⟨m, hm⟩ := k2; exact DataW.trod_lt m _ _ _ hm
  obtain ⟨d, x0, x1, x3, rfl, hlies⟩ : ∃ (d : Bn) (x0 x1 x3 : Value), cs = #[x0, x1, .int .i64 d.own, x3] ∧ BLies W (fun _ => True) d x0 x1 x3 := by
    obtain ⟨fuel, hf⟩ := h0
    obtain ⟨d, x0, x1, x3, hl, hlies⟩ := read_bnf fuel _ _ hf
    refine ⟨d, x0, x1, x3, ?_, hlies⟩
    simp only [Value.cells] at hl
    cases cs
    simp_all
  obtain ⟨a2, m2, c2, rfl⟩ := okWide_slice Try.underlying27 (hval 1 27 v1 rfl rfl)
  obtain ⟨L, hil⟩ : ∃ L : List Int, Ints W (fun _ => True) L (.slice a2 m2 c2) := by
    obtain ⟨fuel, hf⟩ := h1
    obtain ⟨l, v, hl, hi⟩ := read_ints fuel _ _ hf
    refine ⟨l, ?_⟩
    have hv : v = .slice a2 m2 c2 := by simp [Value.cells] at hl; exact hl.symm
    rw [← hv]; exact hi
  obtain ⟨l, hwords⟩ : ∃ l : List Wd, Wds W (fun _ => True) l v2 := by
    obtain ⟨a, len, cap, rfl⟩ := okWide_slice Try.underlying44 (hval 2 44 v2 rfl rfl)
    obtain ⟨fuel, hf⟩ := h2
    obtain ⟨l, v, hl, hw⟩ := read_words fuel _ _ hf
    refine ⟨l, ?_⟩
    simp only [Value.cells] at hl
    simp at hl
    rw [hl]
    exact hw
  clear hA0 hval0
  refine (lawTo d L l _ _ _ _ _ W hlies hil hwords).mono fun e W' ⟨he, bel⟩ => ?_
  subst he
  exact ⟨_, rfl, _, _, _, [], _, [], hW', trodAll_mk1 (shut_bool Try.underlying4 _), (trodAll_cons_mk (Below.trod laidOutAtT (by kernel_rfl) (of_decide_eq_true (by kernel_rfl)) k0 bel lt0) (trodAll_cons_mk (Below.trod laidOutAtT (by kernel_rfl) (of_decide_eq_true (by kernel_rfl)) k1 bel lt1) (trodAll_cons_mk (Below.trod laidOutAtT (by kernel_rfl) (of_decide_eq_true (by kernel_rfl)) k2 bel lt2) trodAll_mk0))), rfl, bel.frame _, fun h => by cases h⟩

theorem toOver : Rows.fnExactTreeOfRow.holds Try.pinned (OpenSpec.ofChange Rows.fnExactTreeOfSpec) :=
  OpenClaim.holds_of_wide 5 Try.f5 rfl rfl rfl rfl rfl rfl rfl ⟨rfl, rfl, rfl, rfl, rfl⟩ rfl rfl rfl rfl rfl (by kernel_rfl) Try.func5 (by kernel_rfl)
    (of_decide_eq_true (by kernel_rfl)) (by unfold Func.isWrapper; first | (rw [if_pos (by decide +kernel)]; kernel_rfl) | (rw [if_neg (by decide +kernel)]; exact ⟨rfl, rfl⟩))
    (fun os started H enc _ => toLifted os started H enc)

theorem exactTreeOf_holds : Rows.FnExactTreeOfSaid := toOver
#print axioms exactTreeOf_holds
end Go.Proofs.Ytpmlagenakcdfaa
