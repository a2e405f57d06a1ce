import Derived.Test.YtblfeifedcddnaaRows
import Derived.Test.YtblfeifedcddnaaLawPa
import Derived.Test.YtblfeifedcddnaaRdt
import Derived.ProofKit
import Derived.OpenShut
import Derived.ShutString
import Derived.ChangeOld
/-! The statement of FnExactPatch. -/
namespace Go.Proofs.Ytblfeifedcddnaa
open Go.RowKit Go.Deep Go.ChangeShapes Go.WideShapes Go.ChangeAt
set_option linter.unusedVariables false
set_option linter.unusedSimpArgs false

theorem cells65 : Try.prog.cellsOf 65 = 6 := by kernel_rfl
theorem cells63 : Try.prog.cellsOf 63 = 1 := by kernel_rfl
theorem cells3 : Try.prog.cellsOf 3 = 1 := by kernel_rfl
theorem list6 {α : Type} {l : List α} (h : l.length = 6) : ∃ a b c d e f, l = [a, b, c, d, e, f] := by
  match l, h with
  | [a, b, c, d, e, f], _ => exact ⟨a, b, c, d, e, f, rfl⟩
theorem list3 {α : Type} {l : List α} (h : l.length = 3) : ∃ a b c, l = [a, b, c] := by
  match l, h with
  | [a, b, c], _ => exact ⟨a, b, c, rfl⟩
theorem read_delta {H : Type} {enc : TypeId × Value → H} {w : World} {base : Nat} {spare : Nat → Bool} {held : Bool} (fuel : Nat) : ∀ (cs : List Value) (x : DataW H × List MemPlace), DataW.trod enc Try.prog w base spare held fuel 65 cs = some x →
    ∃ (d : De) (tv kv : Value), cs = [.int .i64 d.kind, .string d.tree.name, .string d.tree.text, .bool d.tree.leaf, tv, kv] ∧ DLies w (fun _ => True) d tv kv := by
  induction fuel using Nat.strongRecOn with
  | ind fuel ih =>
    intro cs x h
    obtain ⟨xs, n, rfl, rfl, hl, hlen, hf⟩ := DataW.trod_struct Try.underlying65 h
    rw [cells65] at hl
    obtain ⟨c0, c1, c2, c3, c4, c5, rfl⟩ := list6 hl
    obtain ⟨y0, y1, y2, rfl⟩ := list3 (l := xs) hlen
    have f0 := hf 0 _ rfl
    have f1 := hf 1 _ rfl
    have f2 := hf 2 _ rfl
    simp [cells3, cells54, cells63] at f0 f1 f2
    obtain ⟨i0, e0, _⟩ := DataW.trod_int Try.underlying3 f0
    obtain ⟨t, tv, e1, hlt⟩ := read_tree _ _ _ f1
    simp at e0 e1
    obtain ⟨rfl, rfl, rfl, rfl⟩ := e1
    subst e0
    rcases DataW.trod_slice Try.underlying63 f2 with ⟨e3, _⟩ | ⟨a, len, cap, elems, rest, m, rfl, e3, _, hb, hlc, hcm, hel, hels, _, _⟩
    · simp at e3
      subst e3
      exact ⟨⟨i0, t, []⟩, _, _, rfl, DLies.shut ⟨hlt, none, 0, 0, 0, fun _ => .bool false, fun _ => .bool false, rfl, Nat.le_refl _, Nat.zero_le _, fun h => absurd h (by simp), fun i hi => absurd hi (by simp), fun i hi => absurd hi (by simp)⟩⟩
    · simp at e3
      subst e3
      rw [cells65] at hels
      have hall : ∀ i, i < len → ∃ p : De × Value × Value, (w.cell? ((a.add (i * 6)).add 0) = some (.int .i64 p.1.kind) ∧ w.cell? ((a.add (i * 6)).add 1) = some (.string p.1.tree.name) ∧ w.cell? ((a.add (i * 6)).add 2) = some (.string p.1.tree.text) ∧ w.cell? ((a.add (i * 6)).add 3) = some (.bool p.1.tree.leaf) ∧ w.cell? ((a.add (i * 6)).add 4) = some p.2.1 ∧ w.cell? ((a.add (i * 6)).add 5) = some p.2.2) ∧ DLies w (fun _ => True) p.1 p.2.1 p.2.2 := by
        intro i hi
        have h1 := hels i hi
        rw [List.getElem?_eq_getElem (by omega)] at h1
        obtain ⟨cs', h2, h3⟩ := Option.bind_eq_some_iff.1 h1
        obtain ⟨d, tv', kv', rfl, hlies⟩ := ih m (by omega) cs' _ h3
        obtain ⟨_, _, hc⟩ := World.cells?_some h2
        exact ⟨(d, tv', kv'), ⟨hc 0 (by omega), hc 1 (by omega), hc 2 (by omega), hc 3 (by omega), hc 4 (by omega), hc 5 (by omega)⟩, hlies⟩
      obtain ⟨F, hF⟩ := @choose_lt (De × Value × Value) ⟨(⟨0, noTr, []⟩, .bool false, .bool false)⟩ len _ hall
      obtain ⟨bb, off, spot⟩ := a
      have hsp : 0 < len → spot = none := fun h0 => by
        have := World.cell?_spot (hF 0 h0).1.1
        simpa [Addr.add] using this
      have hlk : ((List.range len).map fun i => (F i).1).length = len := by simp
      refine ⟨⟨i0, t, (List.range len).map fun i => (F i).1⟩, _, _, rfl, DLies.shut ⟨hlt, some ⟨bb, off, spot⟩, cap, bb, off, fun i => (F i).2.1, fun i => (F i).2.2, by rw [hlk], by rw [hlk]; exact hlc, hcm, fun h0 => ?_, fun i hi => ?_, fun i hi => ?_⟩⟩
      · rw [hlk] at h0
        rw [hsp h0]
        exact ⟨rfl, trivial⟩
      · dsimp only at hi ⊢
        rw [hlk] at hi
        obtain ⟨⟨q0, q1, q2, q3, q4, q5⟩, _⟩ := hF i hi
        rw [hsp (by omega)] at q0 q1 q2 q3 q4 q5
        simp only [add_plain] at q0 q1 q2 q3 q4 q5
        simp only [List.getElem_map, List.getElem_range]
        exact ⟨q0, q1, q2, q3, q4, q5⟩
      · dsimp only at hi ⊢
        rw [hlk] at hi
        simp only [List.getElem_map, List.getElem_range]
        exact (hF i hi).2
theorem ownPa : ownKnob Try.prog.godebug = none := by kernel_rfl
theorem laidOutPa : laidOutB Try.prog = true := by kernel_rfl
set_option maxRecDepth 100000 in
theorem paLifted (os : Os) (started : os.Started) (H : Type) (enc : TypeId × Value → H) :
    ReturnsInHanded {} Try.checked os 7 .any (Rows.fnExactPatchSpec.pre6 enc Try.prog Try.f7 Rows.fnExactPatchRow.domain false) (Rows.fnExactPatchSpec.post enc Try.prog Try.f7 false true false false) := by
  refine returnsInHanded_of_change (C := Try.checked) ownPa started (by kernel_rfl) Try.func7
    (ChangeSpec.witness6 (enc := enc) (C := Try.checked) false ⟨#[], #[.agg #[.string ByteArray.empty, .string ByteArray.empty, .bool false, .slice none 0 0], .agg #[.int .i64 0, .string ByteArray.empty, .string ByteArray.empty, .bool false, .slice none 0 0, .slice none 0 0]], []⟩ 8 (by kernel_rfl) (by kernel_rfl) (by kernel_rfl) (by kernel_rfl)) ?_
  intro W base args ds gs before hval0 hW hcnd _
  have hval : ∀ (j : Nat) t v, Try.f7.params[j]? = some t → args[j]? = some v → Value.okWide Try.prog W .any base t v := hval0
  have hW' := hW
  obtain ⟨p, q, hA0, hV, rfl, hfz, hnd⟩ := hW
  have hA : DataW.TrodAll enc Try.prog W 0 (fun _ => true) true Try.f7.params.toList args.toList ds p := hA0
  rw [Try.params7] at hA hval
  obtain ⟨v0, vs0, d0, ds0, p0, q0, hargs, rfl, rfl, h0, r0⟩ := trodAll_cons hA
  obtain ⟨v1, vs1, d1, ds1, p1, q1, rfl, rfl, rfl, h1, r1⟩ := trodAll_cons r0
  obtain ⟨rfl, rfl, rfl⟩ := trodAll_nil r1
  obtain rfl : args = #[v0, v1] := by cases args; simp_all
  obtain ⟨rfl, rfl⟩ := trodVars_none hV
  obtain ⟨cs, rfl, hcs⟩ := okWide_struct Try.underlying46 (hval 0 46 v0 rfl rfl)
  obtain ⟨ct, rfl, hct⟩ := okWide_struct Try.underlying65 (hval 1 65 v1 rfl rfl)
  have k0 := h0
  have k1 := h1
  have lt0 : ∀ x ∈ p0, x.block < W.heap.size := by obtain ⟨m, hm⟩ := k0; exact DataW.trod_lt m _ _ _ hm
  have lt1 : ∀ x ∈ p1, x.block < W.heap.size := by obtain ⟨m, hm⟩ := k1; exact DataW.trod_lt m _ _ _ hm
  obtain ⟨t, v, rfl, hlies⟩ : ∃ (t : Tr) (v : Value), cs = #[.string t.name, .string t.text, .bool t.leaf, v] ∧ Lies W (fun _ => True) t v := by
    obtain ⟨fuel, hf⟩ := h0
    obtain ⟨t, v, hl, hlies⟩ := read_tree fuel _ _ hf
    refine ⟨t, v, ?_, hlies⟩
    simp only [Value.cells] at hl
    cases cs
    simp_all
  obtain ⟨d, tv, kv, rfl, hlies'⟩ : ∃ (d : De) (tv kv : Value), ct = #[.int .i64 d.kind, .string d.tree.name, .string d.tree.text, .bool d.tree.leaf, tv, kv] ∧ DLies W (fun _ => True) d tv kv := by
    obtain ⟨fuel, hf⟩ := h1
    obtain ⟨d, tv, kv, hl, hlies⟩ := read_delta fuel _ _ hf
    refine ⟨d, tv, kv, ?_, hlies⟩
    simp only [Value.cells] at hl
    cases ct
    simp_all
  clear hA0 hval0
  refine (lawPa t d v tv kv W hlies hlies').mono fun e W' ⟨he, bel⟩ => ?_
  subst he
  exact ⟨_, rfl, _, _, _, [], _, [], hW', trodAll_mk1 (shut_bool Try.underlying4 _), (trodAll_cons_mk (Below.trod laidOutPa (by kernel_rfl) (of_decide_eq_true (by kernel_rfl)) k0 bel lt0) (trodAll_cons_mk (Below.trod laidOutPa (by kernel_rfl) (of_decide_eq_true (by kernel_rfl)) k1 bel lt1) trodAll_mk0)), rfl, bel.frame _, fun h => by cases h⟩
theorem paOver : Rows.fnExactPatchRow.holds Try.pinned (OpenSpec.ofChange Rows.fnExactPatchSpec) :=
  OpenClaim.holds_of_wide 7 Try.f7 rfl rfl rfl rfl rfl rfl rfl ⟨rfl, rfl, rfl, rfl, rfl⟩ rfl rfl rfl rfl rfl (by kernel_rfl) Try.func7 (by kernel_rfl)
    (of_decide_eq_true (by kernel_rfl)) (by unfold Func.isWrapper; first | (rw [if_pos (by decide +kernel)]; kernel_rfl) | (rw [if_neg (by decide +kernel)]; exact ⟨rfl, rfl⟩))
    (fun os started H enc _ => paLifted os started H enc)
theorem exactPatch_holds : Rows.FnExactPatchSaid := paOver
#print axioms exactPatch_holds
end Go.Proofs.Ytblfeifedcddnaa
