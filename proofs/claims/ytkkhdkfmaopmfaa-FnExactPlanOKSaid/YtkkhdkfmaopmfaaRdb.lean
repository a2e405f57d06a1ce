import Derived.Test.YtkkhdkfmaopmfaaRdt
/-! Binds that came in, read as data, lie in memory. -/
namespace Go.Proofs.Ytkkhdkfmaopmfaa
open Go.RowKit Go.Deep Go.ChangeShapes Go.WideShapes
set_option linter.unusedVariables false
set_option linter.unusedSimpArgs false

/-- Binds as they came in: five cells each. -/
def BLy (w : World) (bl : List (ByteArray × Tr)) (v : Value) : Prop :=
  ∃ (a : Option Addr) (cap b off : Nat) (sv : Nat → Value), v = .slice a bl.length cap ∧ bl.length ≤ cap ∧ cap ≤ maxLen ∧ (0 < bl.length → a = some ⟨b, off, none⟩) ∧ (∀ i (hi : i < bl.length), bl[i].1.size ≤ maxLen) ∧
    (∀ i (hi : i < bl.length), w.cell? ⟨b, off + i * 5, none⟩ = some (.string bl[i].1) ∧ w.cell? ⟨b, off + i * 5 + 1, none⟩ = some (.string bl[i].2.name) ∧ w.cell? ⟨b, off + i * 5 + 2, none⟩ = some (.string bl[i].2.text) ∧ w.cell? ⟨b, off + i * 5 + 3, none⟩ = some (.bool bl[i].2.leaf) ∧ w.cell? ⟨b, off + i * 5 + 4, none⟩ = some (sv i)) ∧
    ∀ i (hi : i < bl.length), Lies w (fun _ => True) bl[i].2 (sv i)
theorem BLy.still {w w' : World} {bl : List (ByteArray × Tr)} {v : Value} (h : BLy w bl v) (hb : Below w.heap.size w w') : BLy w' bl v := by
  obtain ⟨a, cap, b, off, sv, h1, h2, h3, h4, h5, h6, h7⟩ := h
  have mv : ∀ {b o : Nat} {v : Value}, w.cell? ⟨b, o, none⟩ = some v → w'.cell? ⟨b, o, none⟩ = some v := fun h => (hb.cell (lt_of_cell h)).trans h
  refine ⟨a, cap, b, off, sv, h1, h2, h3, h4, h5, fun i hi => ?_, fun i hi => (h7 i hi).still hb⟩
  obtain ⟨c0, c1, c2, c3, c4⟩ := h6 i hi
  exact ⟨mv c0, mv c1, mv c2, mv c3, mv c4⟩
theorem BLy.form {w : World} {bl : List (ByteArray × Tr)} {v : Value} (h : BLy w bl v) : ∃ a cap, v = .slice a bl.length cap := by
  obtain ⟨a, cap, b, off, sv, h1, _⟩ := h
  exact ⟨a, cap, h1⟩

theorem cells76 : Try.prog.cellsOf 76 = 5 := by kernel_rfl
theorem list5 {α : Type} {l : List α} (h : l.length = 5) : ∃ a b c d e, l = [a, b, c, d, e] := by
  match l, h with
  | [a, b, c, d, e], _ => exact ⟨a, b, c, d, e, rfl⟩
theorem list2 {α : Type} {l : List α} (h : l.length = 2) : ∃ a b, l = [a, b] := by
  match l, h with
  | [a, b], _ => exact ⟨a, b, rfl⟩
theorem read_bind {H : Type} {enc : TypeId × Value → H} {w : World} {base : Nat} {spare : Nat → Bool} {held : Bool} (fuel : Nat) (cs : List Value) (x : DataW H × List MemPlace) (h : DataW.trod enc Try.prog w base spare held fuel 76 cs = some x) :
    ∃ (s : ByteArray) (t : Tr) (v : Value), cs = [.string s, .string t.name, .string t.text, .bool t.leaf, v] ∧ s.size ≤ maxLen ∧ Lies w (fun _ => True) t v := by
  obtain ⟨xs, n, rfl, rfl, hl, hlen, hf⟩ := DataW.trod_struct Try.underlying76 h
  rw [cells76] at hl
  obtain ⟨c0, c1, c2, c3, c4, rfl⟩ := list5 hl
  obtain ⟨y0, y1, rfl⟩ := list2 (l := xs) hlen
  have f0 := hf 0 _ rfl
  have f1 := hf 1 _ rfl
  simp [cells9, cells54] at f0 f1
  obtain ⟨s0, e0, _, hs0⟩ := DataW.trod_string Try.underlying9 f0
  simp at e0
  subst e0
  obtain ⟨t, v, e1, hlies⟩ := read_tree _ _ _ f1
  simp at e1
  obtain ⟨rfl, rfl, rfl, rfl⟩ := e1
  exact ⟨s0, t, _, rfl, hs0, hlies⟩
theorem read_binds {H : Type} {enc : TypeId × Value → H} {w : World} {base : Nat} {spare : Nat → Bool} {held : Bool} (fuel : Nat) (cs : List Value) (x : DataW H × List MemPlace) (h : DataW.trod enc Try.prog w base spare held fuel 38 cs = some x) :
    ∃ (bl : List (ByteArray × Tr)) (v : Value), cs = [v] ∧ BLy w bl v := by
  rcases DataW.trod_slice Try.underlying38 h with ⟨e3, _⟩ | ⟨a, len, cap, elems, rest, m, rfl, e3, _, hb, hlc, hcm, hel, hels, _, _⟩
  · exact ⟨[], _, e3, none, 0, 0, 0, fun _ => .bool false, rfl, Nat.le_refl _, Nat.zero_le _, fun h => absurd h (by simp), fun i hi => absurd hi (by simp), fun i hi => absurd hi (by simp), fun i hi => absurd hi (by simp)⟩
  · rw [cells76] at hels
    have hall : ∀ i, i < len → ∃ p : (ByteArray × Tr) × Value, (w.cell? ((a.add (i * 5)).add 0) = some (.string p.1.1) ∧ w.cell? ((a.add (i * 5)).add 1) = some (.string p.1.2.name) ∧ w.cell? ((a.add (i * 5)).add 2) = some (.string p.1.2.text) ∧ w.cell? ((a.add (i * 5)).add 3) = some (.bool p.1.2.leaf) ∧ w.cell? ((a.add (i * 5)).add 4) = some p.2) ∧ p.1.1.size ≤ maxLen ∧ Lies w (fun _ => True) p.1.2 p.2 := by
      intro i hi
      have h1 := hels i hi
      rw [List.getElem?_eq_getElem (by omega)] at h1
      obtain ⟨cs', h2, h3⟩ := Option.bind_eq_some_iff.1 h1
      obtain ⟨s, t, v, rfl, hs, hlies⟩ := read_bind m cs' _ h3
      obtain ⟨_, _, hc⟩ := World.cells?_some h2
      exact ⟨((s, t), v), ⟨hc 0 (by omega), hc 1 (by omega), hc 2 (by omega), hc 3 (by omega), hc 4 (by omega)⟩, hs, hlies⟩
    obtain ⟨F, hF⟩ := @choose_lt ((ByteArray × Tr) × Value) ⟨((ByteArray.empty, ⟨ByteArray.empty, ByteArray.empty, false, []⟩), .bool false)⟩ len _ hall
    obtain ⟨bb, off, spot⟩ := a
    have hsp : 0 < len → spot = none := fun h0 => by
      have := World.cell?_spot (hF 0 h0).1.1
      simpa [Addr.add] using this
    have hlk : ((List.range len).map fun i => (F i).1).length = len := by simp
    refine ⟨(List.range len).map fun i => (F i).1, _, e3, some ⟨bb, off, spot⟩, cap, bb, off, fun i => (F i).2, by rw [hlk], by rw [hlk]; exact hlc, hcm, fun h0 => ?_, fun i hi => ?_, fun i hi => ?_, fun i hi => ?_⟩
    · rw [hlk] at h0
      rw [hsp h0]
    · rw [hlk] at hi
      simp only [List.getElem_map, List.getElem_range]
      exact (hF i hi).2.1
    · rw [hlk] at hi
      obtain ⟨⟨q0, q1, q2, q3, q4⟩, _⟩ := hF i hi
      rw [hsp (by omega)] at q0 q1 q2 q3 q4
      simp only [add_plain] at q0 q1 q2 q3 q4
      simp only [List.getElem_map, List.getElem_range]
      exact ⟨q0, q1, q2, q3, q4⟩
    · rw [hlk] at hi
      simp only [List.getElem_map, List.getElem_range]
      exact (hF i hi).2.2
end Go.Proofs.Ytkkhdkfmaopmfaa
