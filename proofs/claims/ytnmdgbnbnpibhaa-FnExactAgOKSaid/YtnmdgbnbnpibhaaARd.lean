import Derived.Test.YtnmdgbnbnpibhaaRead
import Derived.Test.YtnmdgbnbnpibhaaADat
/-! An argument that reads as attributes. -/
namespace Go.Proofs.Ytnmdgbnbnpibhaa
open Go.ChangeShapes Go.WideShapes Go.ChangeAt Go.RowKit Go.Deep
set_option linter.unusedVariables false

theorem cellsG4 : Try.prog.cellsOf 4 = 1 := by kernel_rfl
theorem cellsG27 : Try.prog.cellsOf 27 = 1 := by kernel_rfl
theorem cellsG28 : Try.prog.cellsOf 28 = 1 := by kernel_rfl
theorem cellsG30 : Try.prog.cellsOf 30 = 2 := by kernel_rfl
theorem cellsG91 : Try.prog.cellsOf 91 = 3 := by kernel_rfl
theorem cellsG93 : Try.prog.cellsOf 93 = 1 := by kernel_rfl
theorem cellsG95 : Try.prog.cellsOf 95 = 5 := by kernel_rfl
theorem cellsG135 : Try.prog.cellsOf 135 = 3 := by kernel_rfl
section
variable {H : Type} {enc : TypeId × Value → H} {w : World} {base : Nat} {spare : Nat → Bool} {held : Bool}
theorem readG_bool (m : Nat) (cs : List Value) (x : DataW H × List MemPlace) (h : DataW.trod enc Try.prog w base spare held m 4 cs = some x) : ∃ n : Bool, cs = [.bool n] := by
  obtain ⟨n, e, _⟩ := DataW.trod_bool Try.underlying4 h
  exact ⟨n, e⟩
theorem readG_attr (m : Nat) (cs : List Value) (x : DataW H × List MemPlace) (h : DataW.trod enc Try.prog w base spare held m 91 cs = some x) :
    ∃ t : DAttr, cs = [.int .i64 t.non, .string t.name, .bool t.down] ∧ t.name.size ≤ maxLen := by
  obtain ⟨xs, n, rfl, rfl, hl, hlen, hf⟩ := DataW.trod_struct Try.underlying91 h
  rw [cellsG91] at hl
  obtain ⟨c0, c1, c2, rfl⟩ := list3 hl
  obtain ⟨y0, y1, y2, rfl⟩ := list3 (l := xs) hlen
  have f0 := hf 0 _ rfl
  have f1 := hf 1 _ rfl
  have f2 := hf 2 _ rfl
  simp [cells3, cells9, cellsG4] at f0 f1 f2
  obtain ⟨n0, e0⟩ := read_int _ _ _ f0
  obtain ⟨s, e1, hs⟩ := read_str _ _ _ f1
  obtain ⟨n2, e2⟩ := readG_bool _ _ _ f2
  simp at e0 e1 e2
  subst e0 e1 e2
  exact ⟨⟨n0, s, n2⟩, rfl, hs⟩
theorem readG_ref (m : Nat) (cs : List Value) (x : DataW H × List MemPlace) (h : DataW.trod enc Try.prog w base spare held m 135 cs = some x) :
    ∃ t : DRef, cs = [.int .i64 t.pos, .int .i64 t.attr, .int .i64 t.n] := by
  obtain ⟨xs, n, rfl, rfl, hl, hlen, hf⟩ := DataW.trod_struct Try.underlying135 h
  rw [cellsG135] at hl
  obtain ⟨c0, c1, c2, rfl⟩ := list3 hl
  obtain ⟨y0, y1, y2, rfl⟩ := list3 (l := xs) hlen
  have f0 := hf 0 _ rfl
  have f1 := hf 1 _ rfl
  have f2 := hf 2 _ rfl
  simp [cells3] at f0 f1 f2
  obtain ⟨n0, e0⟩ := read_int _ _ _ f0
  obtain ⟨n1, e1⟩ := read_int _ _ _ f1
  obtain ⟨n2, e2⟩ := read_int _ _ _ f2
  simp at e0 e1 e2
  subst e0 e1 e2
  exact ⟨⟨n0, n1, n2⟩, rfl⟩
theorem readG_refs (fuel : Nat) (cs : List Value) (x : DataW H × List MemPlace) (h : DataW.trod enc Try.prog w base spare held fuel 93 cs = some x) :
    ∃ (l : List DRef) (v : Value), cs = [v] ∧ RefR w (fun _ => True) l v := by
  obtain ⟨l, a, cap, b, off, rfl, h1, h2, h3, h4⟩ := @read_row H DRef ⟨⟨0, 0, 0⟩⟩ enc w base spare held _ _ 3 Try.underlying93 cellsG135 (by omega) _ readG_ref fuel cs x h
  refine ⟨l, _, rfl, a, cap, b, off, rfl, h1, h2, fun h0 => ⟨h3 h0, trivial⟩, fun i hi => ?_⟩
  obtain ⟨c, _, rfl, hc⟩ := h4 i hi
  have q0 := hc 0 (by omega)
  have q1 := hc 1 (by omega)
  have q2 := hc 2 (by omega)
  rw [Nat.add_zero] at q0
  exact ⟨q0, q1, q2⟩
theorem readG_attrs (fuel : Nat) (cs : List Value) (x : DataW H × List MemPlace) (h : DataW.trod enc Try.prog w base spare held fuel 27 cs = some x) :
    ∃ (l : List DAttr) (v : Value), cs = [v] ∧ AttrR w (fun _ => True) l v := by
  obtain ⟨l, a, cap, b, off, rfl, h1, h2, h3, h4⟩ := @read_row H DAttr ⟨⟨0, ByteArray.empty, false⟩⟩ enc w base spare held _ _ 3 Try.underlying27 cellsG91 (by omega) _ readG_attr fuel cs x h
  refine ⟨l, _, rfl, a, cap, b, off, rfl, h1, h2, fun h0 => ⟨h3 h0, trivial⟩, fun i hi => ?_⟩
  obtain ⟨c, _, ⟨rfl, hs⟩, hc⟩ := h4 i hi
  have q0 := hc 0 (by omega)
  have q1 := hc 1 (by omega)
  have q2 := hc 2 (by omega)
  rw [Nat.add_zero] at q0
  exact ⟨q0, q1, q2, hs⟩
theorem readG_eq (m : Nat) (cs : List Value) (x : DataW H × List MemPlace) (h : DataW.trod enc Try.prog w base spare held m 95 cs = some x) :
    ∃ p : DEq × Value, cs = [.int .i64 p.1.prod, .int .i64 p.1.pos, .int .i64 p.1.attr, .int .i64 p.1.op, p.2] ∧ RefR w (fun _ => True) p.1.args p.2 := by
  obtain ⟨xs, n, rfl, rfl, hl, hlen, hf⟩ := DataW.trod_struct Try.underlying95 h
  rw [cellsG95] at hl
  obtain ⟨c0, c1, c2, c3, c4, rfl⟩ := list5 hl
  obtain ⟨y0, y1, y2, y3, y4, rfl⟩ := list5 (l := xs) hlen
  have f0 := hf 0 _ rfl
  have f1 := hf 1 _ rfl
  have f2 := hf 2 _ rfl
  have f3 := hf 3 _ rfl
  have f4 := hf 4 _ rfl
  simp [cells3, cellsG93] at f0 f1 f2 f3 f4
  obtain ⟨n0, e0⟩ := read_int _ _ _ f0
  obtain ⟨n1, e1⟩ := read_int _ _ _ f1
  obtain ⟨n2, e2⟩ := read_int _ _ _ f2
  obtain ⟨n3, e3⟩ := read_int _ _ _ f3
  obtain ⟨l4, v4, e4, h4⟩ := readG_refs _ _ _ f4
  simp at e0 e1 e2 e3 e4
  subst e0 e1 e2 e3 e4
  exact ⟨(⟨n0, n1, n2, n3, l4⟩, _), rfl, h4⟩
theorem readG_eqs (fuel : Nat) (cs : List Value) (x : DataW H × List MemPlace) (h : DataW.trod enc Try.prog w base spare held fuel 28 cs = some x) :
    ∃ (l : List DEq) (v : Value), cs = [v] ∧ EqR w (fun _ => True) l v := by
  obtain ⟨l, a, cap, b, off, rfl, h1, h2, h3, h4⟩ := @read_row H (DEq × Value) ⟨(⟨0, 0, 0, 0, []⟩, .bool false)⟩ enc w base spare held _ _ 5 Try.underlying28 cellsG95 (by omega) _ readG_eq fuel cs x h
  have hlk : (l.map (·.1)).length = l.length := by simp
  refine ⟨l.map (·.1), _, rfl, a, cap, b, off, fun i => (l.getD i (⟨0, 0, 0, 0, []⟩, .bool false)).2, by rw [hlk], by rw [hlk]; exact h1, h2, fun h0 => ⟨h3 (by rw [hlk] at h0; exact h0), trivial⟩, fun i hi => ?_, fun i hi => ?_⟩
  · rw [hlk] at hi
    obtain ⟨c, _, ⟨rfl, hI⟩, hc⟩ := h4 i hi
    have q0 := hc 0 (by omega)
    have q1 := hc 1 (by omega)
    have q2 := hc 2 (by omega)
    have q3 := hc 3 (by omega)
    have q4 := hc 4 (by omega)
    rw [Nat.add_zero] at q0
    simp only [List.getElem_map, getD_lt _ _ hi]
    exact ⟨q0, q1, q2, q3, q4⟩
  · rw [hlk] at hi
    obtain ⟨c, _, ⟨rfl, hI⟩, hc⟩ := h4 i hi
    simp only [List.getElem_map, getD_lt _ _ hi]
    exact hI
theorem listG2 {α : Type} {l : List α} (h : l.length = 2) : ∃ a b, l = [a, b] := by
  match l, h with
  | [a, b], _ => exact ⟨a, b, rfl⟩
theorem readG_ag (fuel : Nat) (cs : List Value) (x : DataW H × List MemPlace) (h : DataW.trod enc Try.prog w base spare held fuel 30 cs = some x) :
    ∃ (g : DAg) (u0 u1 : Value), cs = [u0, u1] ∧ DAgL w (fun _ => True) g u0 u1 := by
  obtain ⟨xs, n, rfl, rfl, hl, hlen, hf⟩ := DataW.trod_struct Try.underlying30 h
  rw [cellsG30] at hl
  obtain ⟨c0, c1, rfl⟩ := listG2 hl
  obtain ⟨y0, y1, rfl⟩ := listG2 (l := xs) hlen
  have f0 := hf 0 _ rfl
  have f1 := hf 1 _ rfl
  simp [cellsG27, cellsG28] at f0 f1
  obtain ⟨l0, v0, e0, h0⟩ := readG_attrs _ _ _ f0
  obtain ⟨l1, v1, e1, h1⟩ := readG_eqs _ _ _ f1
  simp at e0 e1
  subst e0 e1
  exact ⟨⟨l0, l1⟩, _, _, rfl, ⟨h0, h1⟩⟩
end
end Go.Proofs.Ytnmdgbnbnpibhaa
