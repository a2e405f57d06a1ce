import Derived.Test.YtblfeifedcddnaaRows
import Derived.Test.YtblfeifedcddnaaLawUn
import Derived.Test.YtblfeifedcddnaaRdt
import Derived.ProofKit
import Derived.OpenShut
import Derived.ShutString
import Derived.ChangeOld
/-! The statement of FnExactUnshare. -/
namespace Go.Proofs.Ytblfeifedcddnaa
open Go.ChangeShapes Go.WideShapes Go.ChangeAt Go.RowKit Go.Deep
set_option linter.unusedVariables false

/-- A slice whose elements read so: its cells, element by element. -/
theorem read_row {H α : Type} [Inhabited α] {enc : TypeId × Value → H} {w : World} {base : Nat} {spare : Nat → Bool} {held : Bool} {t e k : Nat} (ht : Try.prog.underlying t = some (.slice e)) (hk : Try.prog.cellsOf e = k) (hk0 : 0 < k)
    {R : α → List Value → Prop} (hR : ∀ (m : Nat) (cs : List Value) (x : DataW H × List MemPlace), DataW.trod enc Try.prog w base spare held m e cs = some x → ∃ a, R a cs)
    (fuel : Nat) (cs : List Value) (x : DataW H × List MemPlace) (h : DataW.trod enc Try.prog w base spare held fuel t cs = some x) :
    ∃ (l : List α) (a : Option Addr) (cap b off : Nat), cs = [.slice a l.length cap] ∧ l.length ≤ cap ∧ cap ≤ maxLen ∧ (0 < l.length → a = some ⟨b, off, none⟩) ∧
      ∀ i (hi : i < l.length), ∃ c : List Value, c.length = k ∧ R l[i] c ∧ ∀ q, q < k → w.cell? ⟨b, off + i * k + q, none⟩ = c[q]? := by
  rcases DataW.trod_slice ht h with ⟨e3, _⟩ | ⟨a, len, cap, elems, rest, m, rfl, e3, _, hb, hlc, hcm, hel, hels, _, _⟩
  · subst e3
    exact ⟨[], none, 0, 0, 0, rfl, Nat.le_refl _, Nat.zero_le _, fun h => absurd h (Nat.not_lt_zero _), fun i hi => absurd hi (Nat.not_lt_zero _)⟩
  · subst e3
    rw [hk] at hels
    have hall : ∀ i, i < len → ∃ p : α × List Value, p.2.length = k ∧ R p.1 p.2 ∧ ∀ q, q < k → w.cell? ((a.add (i * k)).add q) = p.2[q]? := by
      intro i hi
      have h1 := hels i hi
      rw [List.getElem?_eq_getElem (by omega)] at h1
      obtain ⟨cs', h2, h3⟩ := Option.bind_eq_some_iff.1 h1
      obtain ⟨y, hy⟩ := hR _ _ _ h3
      obtain ⟨_, hl, hc⟩ := World.cells?_some h2
      exact ⟨(y, cs'), hl, hy, hc⟩
    obtain ⟨F, hF⟩ := @choose_lt (α × List Value) ⟨(default, [])⟩ len _ hall
    obtain ⟨bb, off, spot⟩ := a
    have hsp : 0 < len → spot = none := fun h0 => by
      obtain ⟨hl, _, hc⟩ := hF 0 h0
      have h4 := hc 0 hk0
      rw [List.getElem?_eq_getElem (by omega)] at h4
      have := World.cell?_spot h4
      simpa [Addr.add] using this
    have hlk : ((List.range len).map fun i => (F i).1).length = len := by simp
    refine ⟨(List.range len).map fun i => (F i).1, some ⟨bb, off, spot⟩, cap, bb, off, by rw [hlk], by rw [hlk]; exact hlc, hcm, fun h0 => ?_, fun i hi => ?_⟩
    · rw [hlk] at h0
      rw [hsp h0]
    · rw [hlk] at hi
      obtain ⟨hl, hy, hc⟩ := hF i hi
      refine ⟨(F i).2, hl, by simpa using hy, fun q hq => ?_⟩
      have h4 := hc q hq
      rw [hsp (by omega)] at h4
      simp only [add_plain] at h4
      exact h4

theorem cells3 : Try.prog.cellsOf 3 = 1 := by kernel_rfl
theorem cells33 : Try.prog.cellsOf 25 = 1 := by kernel_rfl
theorem cells45 : Try.prog.cellsOf 37 = 1 := by kernel_rfl
theorem cells47 : Try.prog.cellsOf 39 = 2 := by kernel_rfl
theorem cells107 : Try.prog.cellsOf 142 = 4 := by kernel_rfl
theorem list2 {α : Type} {l : List α} (h : l.length = 2) : ∃ a b, l = [a, b] := by
  match l, h with
  | [a, b], _ => exact ⟨a, b, rfl⟩
section
variable {H : Type} {enc : TypeId × Value → H} {w : World} {base : Nat} {spare : Nat → Bool} {held : Bool}
theorem read_int (m : Nat) (cs : List Value) (x : DataW H × List MemPlace) (h : DataW.trod enc Try.prog w base spare held m 3 cs = some x) : ∃ n : Int, cs = [.int .i64 n] := by
  obtain ⟨n, e, _⟩ := DataW.trod_int Try.underlying3 h
  exact ⟨n, e⟩
theorem read_ints (fuel : Nat) (cs : List Value) (x : DataW H × List MemPlace) (h : DataW.trod enc Try.prog w base spare held fuel 25 cs = some x) :
    ∃ (l : List Int) (v : Value), cs = [v] ∧ Ints w (fun _ => True) l v := by
  obtain ⟨l, a, cap, b, off, rfl, h1, h2, h3, h4⟩ := read_row (k := 1) Try.underlying25 cells3 (by omega) (R := fun n cs => cs = [.int .i64 n]) read_int fuel cs x h
  refine ⟨l, _, rfl, a, cap, b, off, rfl, h1, h2, fun h0 => ⟨h3 h0, trivial⟩, fun i hi => ?_⟩
  obtain ⟨c, _, rfl, hc⟩ := h4 i hi
  have := hc 0 (by omega)
  rw [Nat.mul_one, Nat.add_zero] at this
  exact this
theorem read_node (fuel : Nat) (cs : List Value) (x : DataW H × List MemPlace) (h : DataW.trod enc Try.prog w base spare held fuel 142 cs = some x) :
    ∃ p : Rd × Value, cs = [.string p.1.nm, .string p.1.tx, .bool p.1.lf, p.2] ∧ Ints w (fun _ => True) p.1.ks p.2 ∧ p.1.nm.size ≤ maxLen ∧ p.1.tx.size ≤ maxLen := by
  obtain ⟨xs, n, rfl, rfl, hl, hlen, hf⟩ := DataW.trod_struct Try.underlying142 h
  rw [cells107] at hl
  obtain ⟨c0, c1, c2, c3, rfl⟩ := list4 hl
  obtain ⟨y0, y1, y2, y3, rfl⟩ := list4 (l := xs) hlen
  have f0 := hf 0 _ rfl
  have f1 := hf 1 _ rfl
  have f2 := hf 2 _ rfl
  have f3 := hf 3 _ rfl
  simp [cells9, cells4, cells33] at f0 f1 f2 f3
  obtain ⟨s0, e0, _, hs0⟩ := DataW.trod_string Try.underlying9 f0
  obtain ⟨s1, e1, _, hs1⟩ := DataW.trod_string Try.underlying9 f1
  obtain ⟨b2, e2, _⟩ := DataW.trod_bool Try.underlying4 f2
  obtain ⟨l, v, e3, hi⟩ := read_ints _ _ _ f3
  simp at e0 e1 e2 e3
  subst e0 e1 e2 e3
  exact ⟨(⟨s0, s1, b2, l⟩, c3), rfl, hi, hs0, hs1⟩
theorem read_rds (fuel : Nat) (cs : List Value) (x : DataW H × List MemPlace) (h : DataW.trod enc Try.prog w base spare held fuel 37 cs = some x) :
    ∃ (ns : List Rd) (v : Value), cs = [v] ∧ Rds w (fun _ => True) ns v := by
  obtain ⟨l, a, cap, b, off, rfl, h1, h2, h3, h4⟩ := @read_row H (Rd × Value) ⟨(⟨ByteArray.empty, ByteArray.empty, false, []⟩, .bool false)⟩ enc w base spare held _ _ 4 Try.underlying37 cells107 (by omega) (fun p cs => cs = [.string p.1.nm, .string p.1.tx, .bool p.1.lf, p.2] ∧ Ints w (fun _ => True) p.1.ks p.2 ∧ p.1.nm.size ≤ maxLen ∧ p.1.tx.size ≤ maxLen) read_node fuel cs x h
  have hl : (l.map Prod.fst).length = l.length := by simp
  refine ⟨l.map Prod.fst, _, rfl, a, cap, b, off, fun i => ((l[i]?).map Prod.snd).getD (.bool false), by rw [hl], by rw [hl]; exact h1, h2, fun h0 => ⟨h3 (by omega), trivial⟩, fun i hi => ?_, fun i hi => ?_, fun i hi => ?_⟩
  · rw [hl] at hi
    obtain ⟨c, _, ⟨rfl, _⟩, hc⟩ := h4 i hi
    have q0 := hc 0 (by omega)
    have q1 := hc 1 (by omega)
    have q2 := hc 2 (by omega)
    have q3 := hc 3 (by omega)
    simp only [Nat.add_zero, List.getElem?_cons_zero, List.getElem?_cons_succ] at q0 q1 q2 q3
    rw [List.getElem_map]
    dsimp only
    rw [List.getElem?_eq_getElem hi]
    exact ⟨q0, q1, q2, q3⟩
  · rw [hl] at hi
    obtain ⟨c, _, ⟨_, _, g2⟩, hc⟩ := h4 i hi
    rw [List.getElem_map]
    exact g2
  · rw [hl] at hi
    obtain ⟨c, _, ⟨_, g1, _⟩, hc⟩ := h4 i hi
    rw [List.getElem_map]
    dsimp only
    rw [List.getElem?_eq_getElem hi]
    exact g1
theorem read_dag (fuel : Nat) (cs : List Value) (x : DataW H × List MemPlace) (h : DataW.trod enc Try.prog w base spare held fuel 39 cs = some x) :
    ∃ (ns : List Rd) (rs : List Int) (u r : Value), cs = [u, r] ∧ Rds w (fun _ => True) ns u ∧ Ints w (fun _ => True) rs r := by
  obtain ⟨xs, n, rfl, rfl, hl, hlen, hf⟩ := DataW.trod_struct Try.underlying39 h
  rw [cells47] at hl
  obtain ⟨c0, c1, rfl⟩ := list2 hl
  obtain ⟨y0, y1, rfl⟩ := list2 (l := xs) hlen
  have f0 := hf 0 _ rfl
  have f1 := hf 1 _ rfl
  simp [cells45, cells33] at f0 f1
  obtain ⟨ns, u, e0, h0⟩ := read_rds _ _ _ f0
  obtain ⟨rs, r, e1, h1⟩ := read_ints _ _ _ f1
  simp at e0 e1
  subst e0 e1
  exact ⟨ns, rs, c0, c1, rfl, h0, h1⟩
end
theorem ownUn : ownKnob Try.prog.godebug = none := by kernel_rfl
theorem laidOutUn : laidOutB Try.prog = true := by kernel_rfl

set_option maxRecDepth 100000 in
theorem unLifted (os : Os) (started : os.Started) (H : Type) (enc : TypeId × Value → H) :
    ReturnsInHanded {} Try.checked os 4 .any (Rows.fnExactUnshareSpec.pre6 enc Try.prog Try.f4 Rows.fnExactUnshareRow.domain false) (Rows.fnExactUnshareSpec.post enc Try.prog Try.f4 false true false false) := by
  refine returnsInHanded_of_change (C := Try.checked) ownUn started (by kernel_rfl) Try.func4
    (ChangeSpec.witness6 (enc := enc) (C := Try.checked) false ⟨#[], #[.agg #[.slice none 0 0, .slice none 0 0]], []⟩ 8 (by kernel_rfl) (by kernel_rfl) (by kernel_rfl) (by kernel_rfl)) ?_
  intro W base args ds gs before hval0 hW hcnd _
  have hval : ∀ (j : Nat) t v, Try.f4.params[j]? = some t → args[j]? = some v → Value.okWide Try.prog W .any base t v := hval0
  have hW' := hW
  obtain ⟨p, q, hA0, hV, rfl, hfz, hnd⟩ := hW
  have hA : DataW.TrodAll enc Try.prog W 0 (fun _ => true) true Try.f4.params.toList args.toList ds p := hA0
  rw [Try.params4] at hA hval
  obtain ⟨v0, vs0, d0, ds0, p0, q0, hargs, rfl, rfl, h0, r0⟩ := trodAll_cons hA
  obtain ⟨rfl, rfl, rfl⟩ := trodAll_nil r0
  obtain rfl : args = #[v0] := by cases args; simp_all
  obtain ⟨rfl, rfl⟩ := trodVars_none hV
  obtain ⟨cs, rfl, hcs⟩ := okWide_struct Try.underlying39 (hval 0 39 v0 rfl rfl)
  have k0 := h0
  have lt0 : ∀ x ∈ p0, x.block < W.heap.size := by obtain ⟨m, hm⟩ := k0; exact DataW.trod_lt m _ _ _ hm
  obtain ⟨ns, rs, u, r, rfl, hn, hr⟩ : ∃ (ns : List Rd) (rs : List Int) (u r : Value), cs = #[u, r] ∧ Rds W (fun _ => True) ns u ∧ Ints W (fun _ => True) rs r := by
    obtain ⟨fuel, hf⟩ := h0
    obtain ⟨ns, rs, u, r, hl, hn, hr⟩ := read_dag fuel _ _ hf
    refine ⟨ns, rs, u, r, ?_, hn, hr⟩
    obtain ⟨a1, c1, e1, _⟩ := hn.form
    obtain ⟨a2, l2, c2, e2⟩ := hr.form
    simp only [Value.cells] at hl
    cases cs
    simp_all
  clear hA0 hval0
  refine (lawUn ns rs u r W hn hr).mono fun e W' ⟨he, bel⟩ => ?_
  subst he
  exact ⟨_, rfl, _, _, _, [], _, [], hW', trodAll_mk1 (shut_bool Try.underlying4 _), (trodAll_cons_mk (Below.trod laidOutUn (by kernel_rfl) (of_decide_eq_true (by kernel_rfl)) k0 bel lt0) trodAll_mk0), rfl, bel.frame _, fun h => by cases h⟩

theorem unOver : Rows.fnExactUnshareRow.holds Try.pinned (OpenSpec.ofChange Rows.fnExactUnshareSpec) :=
  OpenClaim.holds_of_wide 4 Try.f4 rfl rfl rfl rfl rfl rfl rfl ⟨rfl, rfl, rfl, rfl, rfl⟩ rfl rfl rfl rfl rfl (by kernel_rfl) Try.func4 (by kernel_rfl)
    (of_decide_eq_true (by kernel_rfl)) (by unfold Func.isWrapper; first | (rw [if_pos (by decide +kernel)]; kernel_rfl) | (rw [if_neg (by decide +kernel)]; exact ⟨rfl, rfl⟩))
    (fun os started H enc _ => unLifted os started H enc)

theorem exactUnshare_holds : Rows.FnExactUnshareSaid := unOver
#print axioms exactUnshare_holds
end Go.Proofs.Ytblfeifedcddnaa
