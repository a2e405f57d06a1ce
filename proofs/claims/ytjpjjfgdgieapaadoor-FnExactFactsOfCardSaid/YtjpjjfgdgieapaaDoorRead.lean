import Derived.Test.YtjpjjfgdgieapaaDoorDat
import Derived.ProofKit
import Derived.OpenShut
import Derived.ShutString
import Derived.ChangeOld
/-! An argument that reads as data: rows, texts, Terms, Prods, plain rules. -/
namespace Go.Proofs.YtjpjjfgdgieapaaDoor
open Go.ChangeShapes Go.WideShapes Go.ChangeAt Go.RowKit Go.Deep
set_option linter.unusedVariables false

/-- A slice whose elements read so: its cells, element by element. -/
theorem read_row {H α : Type} [Inhabited α] {enc : TypeId × Value → H} {w : World} {base : Nat} {spare : Nat → Bool} {held : Bool} {t e k : Nat} (ht : Tryd.prog.underlying t = some (.slice e)) (hk : Tryd.prog.cellsOf e = k) (hk0 : 0 < k)
    {R : α → List Value → Prop} (hR : ∀ (m : Nat) (cs : List Value) (x : DataW H × List MemPlace), DataW.trod enc Tryd.prog w base spare held m e cs = some x → ∃ a, R a cs)
    (fuel : Nat) (cs : List Value) (x : DataW H × List MemPlace) (h : DataW.trod enc Tryd.prog w base spare held fuel t cs = some x) :
    ∃ (l : List α) (a : Option Addr) (cap b off : Nat), cs = [.slice a l.length cap] ∧ l.length ≤ cap ∧ cap ≤ maxLen ∧ (0 < l.length → a = some ⟨b, off, none⟩) ∧
      ∀ i (hi : i < l.length), ∃ c : List Value, c.length = k ∧ R l[i] c ∧ ∀ q, q < k → w.cell? ⟨b, off + i * k + q, none⟩ = c[q]? := by
  rcases DataW.trod_slice ht h with ⟨e3, _⟩ | ⟨a, len, cap, elems, rest, m, rfl, e3, _, hb, hlc, hcm, hel, hels, _, _⟩
  · subst e3
    exact ⟨[], none, 0, 0, 0, rfl, Nat.le_refl _, Nat.zero_le _, fun h => absurd h (Nat.not_lt_zero _), fun i hi => absurd hi (Nat.not_lt_zero _)⟩
  · subst e3
    rw [hk] at hels
    have hall : ∀ i, i < len → ∃ p : α × List Value, p.2.length = k ∧ R p.1 p.2 ∧ ∀ q, q < k → w.cell? ((a.add (i * k)).add q) = p.2[q]? := by
      intro i hi
      have h1 := hels i hi
      rw [List.getElem?_eq_getElem (by omega)] at h1
      obtain ⟨cs', h2, h3⟩ := Option.bind_eq_some_iff.1 h1
      obtain ⟨y, hy⟩ := hR _ _ _ h3
      obtain ⟨_, hl, hc⟩ := World.cells?_some h2
      exact ⟨(y, cs'), hl, hy, hc⟩
    obtain ⟨F, hF⟩ := @choose_lt (α × List Value) ⟨(default, [])⟩ len _ hall
    obtain ⟨bb, off, spot⟩ := a
    have hsp : 0 < len → spot = none := fun h0 => by
      obtain ⟨hl, _, hc⟩ := hF 0 h0
      have h4 := hc 0 hk0
      rw [List.getElem?_eq_getElem (by omega)] at h4
      have := World.cell?_spot h4
      simpa [Addr.add] using this
    have hlk : ((List.range len).map fun i => (F i).1).length = len := by simp
    refine ⟨(List.range len).map fun i => (F i).1, some ⟨bb, off, spot⟩, cap, bb, off, by rw [hlk], by rw [hlk]; exact hlc, hcm, fun h0 => ?_, fun i hi => ?_⟩
    · rw [hlk] at h0
      rw [hsp h0]
    · rw [hlk] at hi
      obtain ⟨hl, hy, hc⟩ := hF i hi
      refine ⟨(F i).2, hl, by simpa using hy, fun q hq => ?_⟩
      have h4 := hc q hq
      rw [hsp (by omega)] at h4
      simp only [add_plain] at h4
      exact h4

theorem cells3 : Tryd.prog.cellsOf 3 = 1 := by kernel_rfl
theorem cells9 : Tryd.prog.cellsOf 9 = 1 := by kernel_rfl
theorem cells22 : Tryd.prog.cellsOf 22 = 1 := by kernel_rfl
theorem cells23 : Tryd.prog.cellsOf 23 = 1 := by kernel_rfl
theorem cells24 : Tryd.prog.cellsOf 24 = 1 := by kernel_rfl
theorem cells26 : Tryd.prog.cellsOf 26 = 4 := by kernel_rfl
theorem cells28 : Tryd.prog.cellsOf 29 = 1 := by kernel_rfl
theorem cells105 : Tryd.prog.cellsOf 74 = 3 := by kernel_rfl
theorem cells107 : Tryd.prog.cellsOf 77 = 5 := by kernel_rfl
section
variable {H : Type} {enc : TypeId × Value → H} {w : World} {base : Nat} {spare : Nat → Bool} {held : Bool}

theorem read_int (m : Nat) (cs : List Value) (x : DataW H × List MemPlace) (h : DataW.trod enc Tryd.prog w base spare held m 3 cs = some x) : ∃ n : Int, cs = [.int .i64 n] := by
  obtain ⟨n, e, _⟩ := DataW.trod_int Tryd.underlying3 h
  exact ⟨n, e⟩
theorem read_str (m : Nat) (cs : List Value) (x : DataW H × List MemPlace) (h : DataW.trod enc Tryd.prog w base spare held m 9 cs = some x) : ∃ s : ByteArray, cs = [.string s] ∧ s.size ≤ maxLen := by
  obtain ⟨s, e, _, hs⟩ := DataW.trod_string Tryd.underlying9 h
  exact ⟨s, e, hs⟩
theorem read_ints (fuel : Nat) (cs : List Value) (x : DataW H × List MemPlace) (h : DataW.trod enc Tryd.prog w base spare held fuel 29 cs = some x) :
    ∃ (l : List Int) (v : Value), cs = [v] ∧ Ints w (fun _ => True) l v := by
  obtain ⟨l, a, cap, b, off, rfl, h1, h2, h3, h4⟩ := read_row (k := 1) Tryd.underlying29 cells3 (by omega) (R := fun n cs => cs = [.int .i64 n]) read_int fuel cs x h
  refine ⟨l, _, rfl, a, cap, b, off, rfl, h1, h2, fun h0 => ⟨h3 h0, trivial⟩, fun i hi => ?_⟩
  obtain ⟨c, _, rfl, hc⟩ := h4 i hi
  have := hc 0 (by omega)
  rw [Nat.mul_one, Nat.add_zero] at this
  exact this
theorem read_strs (fuel : Nat) (cs : List Value) (x : DataW H × List MemPlace) (h : DataW.trod enc Tryd.prog w base spare held fuel 23 cs = some x) :
    ∃ (l : List ByteArray) (v : Value), cs = [v] ∧ Strs w (fun _ => True) l v := by
  obtain ⟨l, a, cap, b, off, rfl, h1, h2, h3, h4⟩ := @read_row H ByteArray ⟨ByteArray.empty⟩ enc w base spare held _ _ 1 Tryd.underlying23 cells9 (by omega) (fun s cs => cs = [.string s] ∧ s.size ≤ maxLen) read_str fuel cs x h
  refine ⟨l, _, rfl, a, cap, b, off, rfl, h1, h2, fun h0 => ⟨h3 h0, trivial⟩, fun i hi => ?_⟩
  obtain ⟨c, _, ⟨rfl, hs⟩, hc⟩ := h4 i hi
  have := hc 0 (by omega)
  rw [Nat.mul_one, Nat.add_zero] at this
  exact ⟨this, hs⟩
theorem list3 {α : Type} {l : List α} (h : l.length = 3) : ∃ a b c, l = [a, b, c] := by
  match l, h with
  | [a, b, c], _ => exact ⟨a, b, c, rfl⟩
theorem list4 {α : Type} {l : List α} (h : l.length = 4) : ∃ a b c d, l = [a, b, c, d] := by
  match l, h with
  | [a, b, c, d], _ => exact ⟨a, b, c, d, rfl⟩
theorem list5 {α : Type} {l : List α} (h : l.length = 5) : ∃ a b c d e, l = [a, b, c, d, e] := by
  match l, h with
  | [a, b, c, d, e], _ => exact ⟨a, b, c, d, e, rfl⟩
theorem read_term (m : Nat) (cs : List Value) (x : DataW H × List MemPlace) (h : DataW.trod enc Tryd.prog w base spare held m 74 cs = some x) :
    ∃ t : Tm, cs = [.string t.name, .int .i64 t.lev, .int .i64 t.asc] ∧ t.name.size ≤ maxLen := by
  obtain ⟨xs, n, rfl, rfl, hl, hlen, hf⟩ := DataW.trod_struct Tryd.underlying74 h
  rw [cells105] at hl
  obtain ⟨c0, c1, c2, rfl⟩ := list3 hl
  obtain ⟨y0, y1, y2, rfl⟩ := list3 (l := xs) hlen
  have f0 := hf 0 _ rfl
  have f1 := hf 1 _ rfl
  have f2 := hf 2 _ rfl
  simp [cells3, cells9] at f0 f1 f2
  obtain ⟨s, e0, hs⟩ := read_str _ _ _ f0
  obtain ⟨n1, e1⟩ := read_int _ _ _ f1
  obtain ⟨n2, e2⟩ := read_int _ _ _ f2
  simp at e0 e1 e2
  subst e0 e1 e2
  exact ⟨⟨s, n1, n2⟩, rfl, hs⟩
theorem read_prod (m : Nat) (cs : List Value) (x : DataW H × List MemPlace) (h : DataW.trod enc Tryd.prog w base spare held m 77 cs = some x) :
    ∃ p : Pd × Value, cs = [.int .i64 p.1.left, p.2, .string p.1.label, .int .i64 p.1.lev, .int .i64 p.1.asc] ∧ p.1.label.size ≤ maxLen ∧ Ints w (fun _ => True) p.1.right p.2 := by
  obtain ⟨xs, n, rfl, rfl, hl, hlen, hf⟩ := DataW.trod_struct Tryd.underlying77 h
  rw [cells107] at hl
  obtain ⟨c0, c1, c2, c3, c4, rfl⟩ := list5 hl
  obtain ⟨y0, y1, y2, y3, y4, rfl⟩ := list5 (l := xs) hlen
  have f0 := hf 0 _ rfl
  have f1 := hf 1 _ rfl
  have f2 := hf 2 _ rfl
  have f3 := hf 3 _ rfl
  have f4 := hf 4 _ rfl
  simp [cells3, cells9, cells28] at f0 f1 f2 f3 f4
  obtain ⟨n0, e0⟩ := read_int _ _ _ f0
  obtain ⟨l1, v1, e1, h1⟩ := read_ints _ _ _ f1
  obtain ⟨s, e2, hs⟩ := read_str _ _ _ f2
  obtain ⟨n3, e3⟩ := read_int _ _ _ f3
  obtain ⟨n4, e4⟩ := read_int _ _ _ f4
  simp at e0 e1 e2 e3 e4
  subst e0 e1 e2 e3 e4
  exact ⟨(⟨n0, l1, s, n3, n4⟩, _), rfl, hs, h1⟩
theorem read_terms (fuel : Nat) (cs : List Value) (x : DataW H × List MemPlace) (h : DataW.trod enc Tryd.prog w base spare held fuel 22 cs = some x) :
    ∃ (l : List Tm) (v : Value), cs = [v] ∧ Tms w (fun _ => True) l v := by
  obtain ⟨l, a, cap, b, off, rfl, h1, h2, h3, h4⟩ := @read_row H Tm ⟨⟨ByteArray.empty, 0, 0⟩⟩ enc w base spare held _ _ 3 Tryd.underlying22 cells105 (by omega) _ read_term fuel cs x h
  refine ⟨l, _, rfl, a, cap, b, off, rfl, h1, h2, fun h0 => ⟨h3 h0, trivial⟩, fun i hi => ?_⟩
  obtain ⟨c, _, ⟨rfl, hs⟩, hc⟩ := h4 i hi
  have q0 := hc 0 (by omega)
  have q1 := hc 1 (by omega)
  have q2 := hc 2 (by omega)
  rw [Nat.add_zero] at q0
  exact ⟨q0, q1, q2, hs⟩
theorem read_prods (fuel : Nat) (cs : List Value) (x : DataW H × List MemPlace) (h : DataW.trod enc Tryd.prog w base spare held fuel 24 cs = some x) :
    ∃ (l : List Pd) (v : Value), cs = [v] ∧ Pds w (fun _ => True) l v := by
  obtain ⟨l, a, cap, b, off, rfl, h1, h2, h3, h4⟩ := @read_row H (Pd × Value) ⟨(⟨0, [], ByteArray.empty, 0, 0⟩, .bool false)⟩ enc w base spare held _ _ 5 Tryd.underlying24 cells107 (by omega) _ read_prod fuel cs x h
  have hlk : (l.map (·.1)).length = l.length := by simp
  refine ⟨l.map (·.1), _, rfl, a, cap, b, off, fun i => (l.getD i (⟨0, [], ByteArray.empty, 0, 0⟩, .bool false)).2, by rw [hlk], by rw [hlk]; exact h1, h2, fun h0 => ⟨h3 (by rw [hlk] at h0; exact h0), trivial⟩, fun i hi => ?_, fun i hi => ?_⟩
  · rw [hlk] at hi
    obtain ⟨c, _, ⟨rfl, hs, hI⟩, hc⟩ := h4 i hi
    have q0 := hc 0 (by omega)
    have q1 := hc 1 (by omega)
    have q2 := hc 2 (by omega)
    have q3 := hc 3 (by omega)
    have q4 := hc 4 (by omega)
    rw [Nat.add_zero] at q0
    simp only [List.getElem_map, getD_lt _ _ hi]
    exact ⟨q0, q1, q2, q3, q4, hs⟩
  · rw [hlk] at hi
    obtain ⟨c, _, ⟨rfl, hs, hI⟩, hc⟩ := h4 i hi
    simp only [List.getElem_map, getD_lt _ _ hi]
    exact hI
theorem read_bnf (fuel : Nat) (cs : List Value) (x : DataW H × List MemPlace) (h : DataW.trod enc Tryd.prog w base spare held fuel 26 cs = some x) :
    ∃ (d : Bn) (v0 v1 v3 : Value), cs = [v0, v1, .int .i64 d.own, v3] ∧ BLies w (fun _ => True) d v0 v1 v3 := by
  obtain ⟨xs, n, rfl, rfl, hl, hlen, hf⟩ := DataW.trod_struct Tryd.underlying26 h
  rw [cells26] at hl
  obtain ⟨c0, c1, c2, c3, rfl⟩ := list4 hl
  obtain ⟨y0, y1, y2, y3, rfl⟩ := list4 (l := xs) hlen
  have f0 := hf 0 _ rfl
  have f1 := hf 1 _ rfl
  have f2 := hf 2 _ rfl
  have f3 := hf 3 _ rfl
  simp [cells22, cells23, cells24, cells3] at f0 f1 f2 f3
  obtain ⟨l0, v0, e0, h0⟩ := read_terms _ _ _ f0
  obtain ⟨l1, v1, e1, h1⟩ := read_strs _ _ _ f1
  obtain ⟨n2, e2⟩ := read_int _ _ _ f2
  obtain ⟨l3, v3, e3, h3⟩ := read_prods _ _ _ f3
  simp at e0 e1 e2 e3
  subst e0 e1 e2 e3
  exact ⟨⟨l0, l1, n2, l3⟩, _, _, _, rfl, h0, h1, h3⟩
end
end Go.Proofs.YtjpjjfgdgieapaaDoor
