import Derived.Test.YtledclkmeikgdaaChecked
import Derived.Test.YtledclkmeikgdaaXBase
import Derived.Test.YtledclkmeikgdaaXRt
import Derived.ProofKit
import Derived.Deep.Slices
import Derived.KernelRfl
/-! A Tree that came in, read as data, lies in memory. -/
namespace Go.Proofs.Ytledclkmeikgdaa.T
open Go.RowKit Go.Deep Go.ChangeShapes Go.WideShapes
set_option linter.unusedVariables false
set_option linter.unusedSimpArgs false

theorem cells54 : Try.prog.cellsOf 51 = 4 := by kernel_rfl
theorem cells9 : Try.prog.cellsOf 9 = 1 := by kernel_rfl
theorem cells4 : Try.prog.cellsOf 4 = 1 := by kernel_rfl
theorem cells30 : Try.prog.cellsOf 49 = 1 := by kernel_rfl

theorem list4 {α : Type} {l : List α} (h : l.length = 4) : ∃ a b c d, l = [a, b, c, d] := by
  match l, h with
  | [a, b, c, d], _ => exact ⟨a, b, c, d, rfl⟩

theorem read_tree {H : Type} {enc : TypeId × Value → H} {w : World} {base : Nat} {spare : Nat → Bool} {held : Bool} (fuel : Nat) : ∀ (cs : List Value) (x : DataW H × List MemPlace), DataW.trod enc Try.prog w base spare held fuel 51 cs = some x →
    ∃ (t : Tr) (v : Value), cs = [.string t.name, .string t.text, .bool t.leaf, v] ∧ Lies w (fun _ => True) t v := by
  induction fuel using Nat.strongRecOn with
  | ind fuel ih =>
    intro cs x h
    obtain ⟨xs, n, rfl, rfl, hl, hlen, hf⟩ := DataW.trod_struct Try.underlying51 h
    rw [cells54] at hl
    obtain ⟨c0, c1, c2, c3, rfl⟩ := list4 hl
    obtain ⟨y0, y1, y2, y3, rfl⟩ := list4 (l := xs) hlen
    have f0 := hf 0 _ rfl
    have f1 := hf 1 _ rfl
    have f2 := hf 2 _ rfl
    have f3 := hf 3 _ rfl
    simp [cells9, cells4, cells30] at f0 f1 f2 f3
    obtain ⟨s0, e0, _, hs0⟩ := DataW.trod_string Try.underlying9 f0
    obtain ⟨s1, e1, _, hs1⟩ := DataW.trod_string Try.underlying9 f1
    obtain ⟨b2, e2, _⟩ := DataW.trod_bool Try.underlying4 f2
    simp at e0 e1 e2
    subst e0 e1 e2
    rcases DataW.trod_slice Try.underlying49 f3 with ⟨e3, _⟩ | ⟨a, len, cap, elems, rest, m, rfl, e3, _, hb, hlc, hcm, hel, hels, _, _⟩
    · simp at e3
      subst e3
      exact ⟨⟨s0, s1, b2, []⟩, _, rfl, Lies.shut ⟨none, 0, 0, 0, fun _ => .bool false, rfl, hs0, hs1, Nat.le_refl _, Nat.zero_le _, fun h => absurd h (by simp), fun i hi => absurd hi (by simp), fun i hi => absurd hi (by simp)⟩⟩
    · simp at e3
      subst e3
      rw [cells54] at hels
      have hall : ∀ i, i < len → ∃ p : Tr × Value, (w.cell? ((a.add (i * 4)).add 0) = some (.string p.1.name) ∧ w.cell? ((a.add (i * 4)).add 1) = some (.string p.1.text) ∧ w.cell? ((a.add (i * 4)).add 2) = some (.bool p.1.leaf) ∧ w.cell? ((a.add (i * 4)).add 3) = some p.2) ∧ Lies w (fun _ => True) p.1 p.2 := by
        intro i hi
        have h1 := hels i hi
        rw [List.getElem?_eq_getElem (by omega)] at h1
        obtain ⟨cs', h2, h3⟩ := Option.bind_eq_some_iff.1 h1
        obtain ⟨t, v, rfl, hlies⟩ := ih m (by omega) cs' _ h3
        obtain ⟨_, _, hc⟩ := World.cells?_some h2
        exact ⟨(t, v), ⟨hc 0 (by omega), hc 1 (by omega), hc 2 (by omega), hc 3 (by omega)⟩, hlies⟩
      obtain ⟨F, hF⟩ := @choose_lt (Tr × Value) ⟨(⟨ByteArray.empty, ByteArray.empty, false, []⟩, .bool false)⟩ len _ hall
      obtain ⟨bb, off, spot⟩ := a
      have hsp : 0 < len → spot = none := fun h0 => by
        have := World.cell?_spot (hF 0 h0).1.1
        simpa [Addr.add] using this
      have hlk : ((List.range len).map fun i => (F i).1).length = len := by simp
      refine ⟨⟨s0, s1, b2, (List.range len).map fun i => (F i).1⟩, _, rfl, Lies.shut ⟨some ⟨bb, off, spot⟩, cap, bb, off, fun i => (F i).2, by rw [hlk], hs0, hs1, by rw [hlk]; exact hlc, hcm, fun h0 => ?_, fun i hi => ?_, fun i hi => ?_⟩⟩
      · rw [hlk] at h0
        rw [hsp h0]
        exact ⟨rfl, trivial⟩
      · dsimp only at hi ⊢
        rw [hlk] at hi
        obtain ⟨⟨q0, q1, q2, q3⟩, _⟩ := hF i hi
        rw [hsp (by omega)] at q0 q1 q2 q3
        simp only [add_plain] at q0 q1 q2 q3
        simp only [List.getElem_map, List.getElem_range]
        exact ⟨q0, q1, q2, q3⟩
      · dsimp only at hi ⊢
        rw [hlk] at hi
        simp only [List.getElem_map, List.getElem_range]
        exact (hF i hi).2
theorem read_trs {H : Type} {enc : TypeId × Value → H} {w : World} {base : Nat} {spare : Nat → Bool} {held : Bool} (fuel : Nat) (cs : List Value) (x : DataW H × List MemPlace) (h : DataW.trod enc Try.prog w base spare held fuel 49 cs = some x) :
    ∃ (k : List Tr) (v : Value), cs = [v] ∧ Trs w (fun _ => True) k v := by
  rcases DataW.trod_slice Try.underlying49 h with ⟨e3, _⟩ | ⟨a, len, cap, elems, rest, m, rfl, e3, _, hb, hlc, hcm, hel, hels, _, _⟩
  · exact ⟨[], _, e3, none, 0, 0, 0, fun _ => .bool false, rfl, Nat.le_refl _, Nat.zero_le _, fun h => absurd h (by simp), fun i hi => absurd hi (by simp), fun i hi => absurd hi (by simp)⟩
  · rw [cells54] at hels
    have hall : ∀ i, i < len → ∃ p : Tr × Value, (w.cell? ((a.add (i * 4)).add 0) = some (.string p.1.name) ∧ w.cell? ((a.add (i * 4)).add 1) = some (.string p.1.text) ∧ w.cell? ((a.add (i * 4)).add 2) = some (.bool p.1.leaf) ∧ w.cell? ((a.add (i * 4)).add 3) = some p.2) ∧ Lies w (fun _ => True) p.1 p.2 := by
      intro i hi
      have h1 := hels i hi
      rw [List.getElem?_eq_getElem (by omega)] at h1
      obtain ⟨cs', h2, h3⟩ := Option.bind_eq_some_iff.1 h1
      obtain ⟨t, v, rfl, hlies⟩ := read_tree m cs' _ h3
      obtain ⟨_, _, hc⟩ := World.cells?_some h2
      exact ⟨(t, v), ⟨hc 0 (by omega), hc 1 (by omega), hc 2 (by omega), hc 3 (by omega)⟩, hlies⟩
    obtain ⟨F, hF⟩ := @choose_lt (Tr × Value) ⟨(⟨ByteArray.empty, ByteArray.empty, false, []⟩, .bool false)⟩ len _ hall
    obtain ⟨bb, off, spot⟩ := a
    have hsp : 0 < len → spot = none := fun h0 => by
      have := World.cell?_spot (hF 0 h0).1.1
      simpa [Addr.add] using this
    have hlk : ((List.range len).map fun i => (F i).1).length = len := by simp
    refine ⟨(List.range len).map fun i => (F i).1, _, e3, some ⟨bb, off, spot⟩, cap, bb, off, fun i => (F i).2, by rw [hlk], by rw [hlk]; exact hlc, hcm, fun h0 => ?_, fun i hi => ?_, fun i hi => ?_⟩
    · rw [hlk] at h0
      rw [hsp h0]
      exact ⟨rfl, trivial⟩
    · rw [hlk] at hi
      obtain ⟨⟨q0, q1, q2, q3⟩, _⟩ := hF i hi
      rw [hsp (by omega)] at q0 q1 q2 q3
      simp only [add_plain] at q0 q1 q2 q3
      simp only [List.getElem_map, List.getElem_range]
      exact ⟨q0, q1, q2, q3⟩
    · rw [hlk] at hi
      simp only [List.getElem_map, List.getElem_range]
      exact (hF i hi).2
end Go.Proofs.Ytledclkmeikgdaa.T
