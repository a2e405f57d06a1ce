import Derived.Test.YtboffildchoelaaRdt
/-! Rules that came in, read as data, lie in memory. -/
namespace Go.Proofs.Ytboffildchoelaa
open Go.RowKit Go.Deep Go.Lib Go.ChangeShapes Go.WideShapes
set_option linter.unusedVariables false
set_option maxRecDepth 100000
set_option linter.unusedSimpArgs false

/-- A rule for trees. -/
structure Rw where
  name : ByteArray
  left : Tr
  right : Tr

/-- Rules as they came in: nine cells each. -/
def RLy (w : World) (rl : List Rw) (v : Value) : Prop :=
  ∃ (a : Option Addr) (cap b off : Nat) (sv tv : Nat → Value), v = .slice a rl.length cap ∧ rl.length ≤ cap ∧ cap ≤ maxLen ∧ (0 < rl.length → a = some ⟨b, off, none⟩) ∧ (∀ i (hi : i < rl.length), rl[i].name.size ≤ maxLen) ∧
    (∀ i (hi : i < rl.length), w.cell? ⟨b, off + i * 9, none⟩ = some (.string rl[i].name) ∧ w.cell? ⟨b, off + i * 9 + 1, none⟩ = some (.string rl[i].left.name) ∧ w.cell? ⟨b, off + i * 9 + 2, none⟩ = some (.string rl[i].left.text) ∧ w.cell? ⟨b, off + i * 9 + 3, none⟩ = some (.bool rl[i].left.leaf) ∧ w.cell? ⟨b, off + i * 9 + 4, none⟩ = some ((sv i)) ∧ w.cell? ⟨b, off + i * 9 + 5, none⟩ = some (.string rl[i].right.name) ∧ w.cell? ⟨b, off + i * 9 + 6, none⟩ = some (.string rl[i].right.text) ∧ w.cell? ⟨b, off + i * 9 + 7, none⟩ = some (.bool rl[i].right.leaf) ∧ w.cell? ⟨b, off + i * 9 + 8, none⟩ = some ((tv i))) ∧
    (∀ i (hi : i < rl.length), Lies w (fun _ => True) rl[i].left (sv i)) ∧ ∀ i (hi : i < rl.length), Lies w (fun _ => True) rl[i].right (tv i)
theorem RLy.still {w w' : World} {rl : List Rw} {v : Value} (h : RLy w rl v) (hb : Below w.heap.size w w') : RLy w' rl v := by
  obtain ⟨a, cap, b, off, sv, tv, h1, h2, h3, h4, h5, h6, h7, h8⟩ := h
  have mv : ∀ {b o : Nat} {v : Value}, w.cell? ⟨b, o, none⟩ = some v → w'.cell? ⟨b, o, none⟩ = some v := fun h => (hb.cell (lt_of_cell h)).trans h
  refine ⟨a, cap, b, off, sv, tv, h1, h2, h3, h4, h5, fun i hi => ?_, fun i hi => (h7 i hi).still hb, fun i hi => (h8 i hi).still hb⟩
  obtain ⟨c0, c1, c2, c3, c4, c5, c6, c7, c8⟩ := h6 i hi
  exact ⟨mv c0, mv c1, mv c2, mv c3, mv c4, mv c5, mv c6, mv c7, mv c8⟩
theorem RLy.form {w : World} {rl : List Rw} {v : Value} (h : RLy w rl v) : ∃ a cap, v = .slice a rl.length cap := by
  obtain ⟨a, cap, b, off, sv, tv, h1, _⟩ := h
  exact ⟨a, cap, h1⟩

theorem cells95 : Try.prog.cellsOf 65 = 9 := by kernel_rfl
theorem list9 {α : Type} {l : List α} (h : l.length = 9) : ∃ a b c d e f g i j, l = [a, b, c, d, e, f, g, i, j] := by
  match l, h with
  | [a, b, c, d, e, f, g, i, j], _ => exact ⟨a, b, c, d, e, f, g, i, j, rfl⟩
theorem list3 {α : Type} {l : List α} (h : l.length = 3) : ∃ a b c, l = [a, b, c] := by
  match l, h with
  | [a, b, c], _ => exact ⟨a, b, c, rfl⟩
theorem read_rule {H : Type} {enc : TypeId × Value → H} {w : World} {base : Nat} {spare : Nat → Bool} {held : Bool} (fuel : Nat) (cs : List Value) (x : DataW H × List MemPlace) (h : DataW.trod enc Try.prog w base spare held fuel 65 cs = some x) :
    ∃ (r : Rw) (v v' : Value), cs = [.string r.name, .string r.left.name, .string r.left.text, .bool r.left.leaf, v, .string r.right.name, .string r.right.text, .bool r.right.leaf, v'] ∧ r.name.size ≤ maxLen ∧ Lies w (fun _ => True) r.left v ∧ Lies w (fun _ => True) r.right v' := by
  obtain ⟨xs, n, rfl, rfl, hl, hlen, hf⟩ := DataW.trod_struct Try.underlying65 h
  rw [cells95] at hl
  obtain ⟨c0, c1, c2, c3, c4, c5, c6, c7, c8, rfl⟩ := list9 hl
  obtain ⟨y0, y1, y2, rfl⟩ := list3 (l := xs) hlen
  have f0 := hf 0 _ rfl
  have f1 := hf 1 _ rfl
  have f2 := hf 2 _ rfl
  simp [cells9, cells54] at f0 f1 f2
  obtain ⟨s0, e0, _, hs0⟩ := DataW.trod_string Try.underlying9 f0
  simp at e0
  subst e0
  obtain ⟨t, v, e1, hlies⟩ := read_tree _ _ _ f1
  simp at e1
  obtain ⟨rfl, rfl, rfl, rfl⟩ := e1
  obtain ⟨t', v', e2, hlies'⟩ := read_tree _ _ _ f2
  simp at e2
  obtain ⟨rfl, rfl, rfl, rfl⟩ := e2
  exact ⟨⟨s0, t, t'⟩, _, _, rfl, hs0, hlies, hlies'⟩
theorem read_rules {H : Type} {enc : TypeId × Value → H} {w : World} {base : Nat} {spare : Nat → Bool} {held : Bool} (fuel : Nat) (cs : List Value) (x : DataW H × List MemPlace) (h : DataW.trod enc Try.prog w base spare held fuel 22 cs = some x) :
    ∃ (rl : List Rw) (v : Value), cs = [v] ∧ RLy w rl v := by
  rcases DataW.trod_slice Try.underlying22 h with ⟨e3, _⟩ | ⟨a, len, cap, elems, rest, m, rfl, e3, _, hb, hlc, hcm, hel, hels, _, _⟩
  · exact ⟨[], _, e3, none, 0, 0, 0, fun _ => .bool false, fun _ => .bool false, rfl, Nat.le_refl _, Nat.zero_le _, fun h => absurd h (by simp), fun i hi => absurd hi (by simp), fun i hi => absurd hi (by simp), fun i hi => absurd hi (by simp), fun i hi => absurd hi (by simp)⟩
  · rw [cells95] at hels
    have hall : ∀ i, i < len → ∃ p : Rw × Value × Value, (w.cell? ((a.add (i * 9)).add 0) = some (.string p.1.name) ∧ w.cell? ((a.add (i * 9)).add 1) = some (.string p.1.left.name) ∧ w.cell? ((a.add (i * 9)).add 2) = some (.string p.1.left.text) ∧ w.cell? ((a.add (i * 9)).add 3) = some (.bool p.1.left.leaf) ∧ w.cell? ((a.add (i * 9)).add 4) = some (p.2.1) ∧ w.cell? ((a.add (i * 9)).add 5) = some (.string p.1.right.name) ∧ w.cell? ((a.add (i * 9)).add 6) = some (.string p.1.right.text) ∧ w.cell? ((a.add (i * 9)).add 7) = some (.bool p.1.right.leaf) ∧ w.cell? ((a.add (i * 9)).add 8) = some (p.2.2)) ∧ p.1.name.size ≤ maxLen ∧ Lies w (fun _ => True) p.1.left p.2.1 ∧ Lies w (fun _ => True) p.1.right p.2.2 := by
      intro i hi
      have h1 := hels i hi
      rw [List.getElem?_eq_getElem (by omega)] at h1
      obtain ⟨cs', h2, h3⟩ := Option.bind_eq_some_iff.1 h1
      obtain ⟨r, v, v', rfl, hs, hlies, hlies'⟩ := read_rule m cs' _ h3
      obtain ⟨_, _, hc⟩ := World.cells?_some h2
      exact ⟨(r, v, v'), ⟨hc 0 (by omega), hc 1 (by omega), hc 2 (by omega), hc 3 (by omega), hc 4 (by omega), hc 5 (by omega), hc 6 (by omega), hc 7 (by omega), hc 8 (by omega)⟩, hs, hlies, hlies'⟩
    obtain ⟨F, hF⟩ := @choose_lt (Rw × Value × Value) ⟨(⟨ByteArray.empty, ⟨ByteArray.empty, ByteArray.empty, false, []⟩, ⟨ByteArray.empty, ByteArray.empty, false, []⟩⟩, .bool false, .bool false)⟩ len _ hall
    obtain ⟨bb, off, spot⟩ := a
    have hsp : 0 < len → spot = none := fun h0 => by
      have := World.cell?_spot (hF 0 h0).1.1
      simpa [Addr.add] using this
    have hlk : ((List.range len).map fun i => (F i).1).length = len := by simp
    refine ⟨(List.range len).map fun i => (F i).1, _, e3, some ⟨bb, off, spot⟩, cap, bb, off, fun i => (F i).2.1, fun i => (F i).2.2, by rw [hlk], by rw [hlk]; exact hlc, hcm, fun h0 => ?_, fun i hi => ?_, fun i hi => ?_, fun i hi => ?_, fun i hi => ?_⟩
    · rw [hlk] at h0
      rw [hsp h0]
    · rw [hlk] at hi
      simp only [List.getElem_map, List.getElem_range]
      exact (hF i hi).2.1
    · rw [hlk] at hi
      obtain ⟨⟨q0, q1, q2, q3, q4, q5, q6, q7, q8⟩, _⟩ := hF i hi
      rw [hsp (by omega)] at q0 q1 q2 q3 q4 q5 q6 q7 q8
      simp only [add_plain] at q0 q1 q2 q3 q4 q5 q6 q7 q8
      simp only [List.getElem_map, List.getElem_range]
      exact ⟨q0, q1, q2, q3, q4, q5, q6, q7, q8⟩
    · rw [hlk] at hi
      simp only [List.getElem_map, List.getElem_range]
      exact (hF i hi).2.2.1
    · rw [hlk] at hi
      simp only [List.getElem_map, List.getElem_range]
      exact (hF i hi).2.2.2
end Go.Proofs.Ytboffildchoelaa
