import Derived.Test.YtgjnlhidbjpdkajGreatDat
import Derived.ProofKit
import Derived.OpenShut
import Derived.ShutString
import Derived.ChangeOld
/-! An argument that reads as a grammar. -/
namespace Go.Proofs.YtgjnlhidbjpdkajGreat
open Go.ChangeShapes Go.WideShapes Go.ChangeAt Go.RowKit Go.Deep
set_option linter.unusedVariables false

/-- A slice whose elements read so: its cells, element by element. -/
theorem read_row {H α : Type} [Inhabited α] {enc : TypeId × Value → H} {w : World} {base : Nat} {spare : Nat → Bool} {held : Bool} {t e k : Nat} (ht : Tryz.prog.underlying t = some (.slice e)) (hk : Tryz.prog.cellsOf e = k) (hk0 : 0 < k)
    {R : α → List Value → Prop} (hR : ∀ (m : Nat) (cs : List Value) (x : DataW H × List MemPlace), DataW.trod enc Tryz.prog w base spare held m e cs = some x → ∃ a, R a cs)
    (fuel : Nat) (cs : List Value) (x : DataW H × List MemPlace) (h : DataW.trod enc Tryz.prog w base spare held fuel t cs = some x) :
    ∃ (l : List α) (a : Option Addr) (cap b off : Nat), cs = [.slice a l.length cap] ∧ l.length ≤ cap ∧ cap ≤ maxLen ∧ (0 < l.length → a = some ⟨b, off, none⟩) ∧
      ∀ i (hi : i < l.length), ∃ c : List Value, c.length = k ∧ R l[i] c ∧ ∀ q, q < k → w.cell? ⟨b, off + i * k + q, none⟩ = c[q]? := by
  rcases DataW.trod_slice ht h with ⟨e3, _⟩ | ⟨a, len, cap, elems, rest, m, rfl, e3, _, hb, hlc, hcm, hel, hels, _, _⟩
  · subst e3
    exact ⟨[], none, 0, 0, 0, rfl, Nat.le_refl _, Nat.zero_le _, fun h => absurd h (Nat.not_lt_zero _), fun i hi => absurd hi (Nat.not_lt_zero _)⟩
  · subst e3
    rw [hk] at hels
    have hall : ∀ i, i < len → ∃ p : α × List Value, p.2.length = k ∧ R p.1 p.2 ∧ ∀ q, q < k → w.cell? ((a.add (i * k)).add q) = p.2[q]? := by
      intro i hi
      have h1 := hels i hi
      rw [List.getElem?_eq_getElem (by omega)] at h1
      obtain ⟨cs', h2, h3⟩ := Option.bind_eq_some_iff.1 h1
      obtain ⟨y, hy⟩ := hR _ _ _ h3
      obtain ⟨_, hl, hc⟩ := World.cells?_some h2
      exact ⟨(y, cs'), hl, hy, hc⟩
    obtain ⟨F, hF⟩ := @choose_lt (α × List Value) ⟨(default, [])⟩ len _ hall
    obtain ⟨bb, off, spot⟩ := a
    have hsp : 0 < len → spot = none := fun h0 => by
      obtain ⟨hl, _, hc⟩ := hF 0 h0
      have h4 := hc 0 hk0
      rw [List.getElem?_eq_getElem (by omega)] at h4
      have := World.cell?_spot h4
      simpa [Addr.add] using this
    have hlk : ((List.range len).map fun i => (F i).1).length = len := by simp
    refine ⟨(List.range len).map fun i => (F i).1, some ⟨bb, off, spot⟩, cap, bb, off, by rw [hlk], by rw [hlk]; exact hlc, hcm, fun h0 => ?_, fun i hi => ?_⟩
    · rw [hlk] at h0
      rw [hsp h0]
    · rw [hlk] at hi
      obtain ⟨hl, hy, hc⟩ := hF i hi
      refine ⟨(F i).2, hl, by simpa using hy, fun q hq => ?_⟩
      have h4 := hc q hq
      rw [hsp (by omega)] at h4
      simp only [add_plain] at h4
      exact h4

theorem cells3 : Tryz.prog.cellsOf 3 = 1 := by kernel_rfl
theorem cells4 : Tryz.prog.cellsOf 4 = 1 := by kernel_rfl
theorem cells9 : Tryz.prog.cellsOf 9 = 1 := by kernel_rfl
theorem cells83 : Tryz.prog.cellsOf 83 = 1 := by kernel_rfl
theorem cells75 : Tryz.prog.cellsOf 75 = 1 := by kernel_rfl
theorem cells22 : Tryz.prog.cellsOf 22 = 1 := by kernel_rfl
theorem cells23 : Tryz.prog.cellsOf 23 = 1 := by kernel_rfl
theorem cells24 : Tryz.prog.cellsOf 24 = 1 := by kernel_rfl
theorem cells25 : Tryz.prog.cellsOf 25 = 1 := by kernel_rfl
theorem cells27 : Tryz.prog.cellsOf 27 = 5 := by kernel_rfl
theorem cells47 : Tryz.prog.cellsOf 47 = 1 := by kernel_rfl
theorem cells67 : Tryz.prog.cellsOf 67 = 3 := by kernel_rfl
theorem cells69 : Tryz.prog.cellsOf 69 = 2 := by kernel_rfl
theorem cells71 : Tryz.prog.cellsOf 71 = 1 := by kernel_rfl
theorem cells73 : Tryz.prog.cellsOf 73 = 2 := by kernel_rfl
theorem cells77 : Tryz.prog.cellsOf 77 = 3 := by kernel_rfl
theorem cells135 : Tryz.prog.cellsOf 135 = 2 := by kernel_rfl
section
variable {H : Type} {enc : TypeId × Value → H} {w : World} {base : Nat} {spare : Nat → Bool} {held : Bool}

theorem read_int (m : Nat) (cs : List Value) (x : DataW H × List MemPlace) (h : DataW.trod enc Tryz.prog w base spare held m 3 cs = some x) : ∃ n : Int, cs = [.int .i64 n] := by
  obtain ⟨n, e, _⟩ := DataW.trod_int Tryz.underlying3 h
  exact ⟨n, e⟩
theorem read_str (m : Nat) (cs : List Value) (x : DataW H × List MemPlace) (h : DataW.trod enc Tryz.prog w base spare held m 9 cs = some x) : ∃ s : ByteArray, cs = [.string s] ∧ s.size ≤ maxLen := by
  obtain ⟨s, e, _, hs⟩ := DataW.trod_string Tryz.underlying9 h
  exact ⟨s, e, hs⟩
theorem read_ints (fuel : Nat) (cs : List Value) (x : DataW H × List MemPlace) (h : DataW.trod enc Tryz.prog w base spare held fuel 83 cs = some x) :
    ∃ (l : List Int) (v : Value), cs = [v] ∧ Ints w (fun _ => True) l v := by
  obtain ⟨l, a, cap, b, off, rfl, h1, h2, h3, h4⟩ := read_row (k := 1) Tryz.underlying83 cells3 (by omega) (R := fun n cs => cs = [.int .i64 n]) read_int fuel cs x h
  refine ⟨l, _, rfl, a, cap, b, off, rfl, h1, h2, fun h0 => ⟨h3 h0, trivial⟩, fun i hi => ?_⟩
  obtain ⟨c, _, rfl, hc⟩ := h4 i hi
  have := hc 0 (by omega)
  rw [Nat.mul_one, Nat.add_zero] at this
  exact this
theorem read_strs (fuel : Nat) (cs : List Value) (x : DataW H × List MemPlace) (h : DataW.trod enc Tryz.prog w base spare held fuel 47 cs = some x) :
    ∃ (l : List ByteArray) (v : Value), cs = [v] ∧ Strs w (fun _ => True) l v := by
  obtain ⟨l, a, cap, b, off, rfl, h1, h2, h3, h4⟩ := @read_row H ByteArray ⟨ByteArray.empty⟩ enc w base spare held _ _ 1 Tryz.underlying47 cells9 (by omega) (fun s cs => cs = [.string s] ∧ s.size ≤ maxLen) read_str fuel cs x h
  refine ⟨l, _, rfl, a, cap, b, off, rfl, h1, h2, fun h0 => ⟨h3 h0, trivial⟩, fun i hi => ?_⟩
  obtain ⟨c, _, ⟨rfl, hs⟩, hc⟩ := h4 i hi
  have := hc 0 (by omega)
  rw [Nat.mul_one, Nat.add_zero] at this
  exact ⟨this, hs⟩
theorem list2 {α : Type} {l : List α} (h : l.length = 2) : ∃ a b, l = [a, b] := by
  match l, h with
  | [a, b], _ => exact ⟨a, b, rfl⟩
theorem list3 {α : Type} {l : List α} (h : l.length = 3) : ∃ a b c, l = [a, b, c] := by
  match l, h with
  | [a, b, c], _ => exact ⟨a, b, c, rfl⟩
theorem list5 {α : Type} {l : List α} (h : l.length = 5) : ∃ a b c d e, l = [a, b, c, d, e] := by
  match l, h with
  | [a, b, c, d, e], _ => exact ⟨a, b, c, d, e, rfl⟩
theorem read_bool (m : Nat) (cs : List Value) (x : DataW H × List MemPlace) (h : DataW.trod enc Tryz.prog w base spare held m 4 cs = some x) : ∃ b : Bool, cs = [.bool b] := by
  obtain ⟨b, e, _⟩ := DataW.trod_bool Tryz.underlying4 h
  exact ⟨b, e⟩
theorem read_irws (fuel : Nat) (cs : List Value) (x : DataW H × List MemPlace) (h : DataW.trod enc Tryz.prog w base spare held fuel 75 cs = some x) :
    ∃ (l : List (List Int)) (v : Value), cs = [v] ∧ IRws w (fun _ => True) l v := by
  obtain ⟨l, a, cap, b, off, rfl, h1, h2, h3, h4⟩ := @read_row H (List Int × Value) ⟨([], .bool false)⟩ enc w base spare held _ _ 1 Tryz.underlying75 cells83 (by omega) (fun p cs => cs = [p.2] ∧ Ints w (fun _ => True) p.1 p.2) (fun m cs x h => by obtain ⟨l, v, h1, h2⟩ := read_ints m cs x h; exact ⟨(l, v), h1, h2⟩) fuel cs x h
  have hlk : (l.map (·.1)).length = l.length := by simp
  refine ⟨l.map (·.1), _, rfl, a, cap, b, off, fun i => (l.getD i ([], .bool false)).2, by rw [hlk], by rw [hlk]; exact h1, h2, fun h0 => ⟨h3 (by rw [hlk] at h0; exact h0), trivial⟩, fun i hi => ?_, fun i hi => ?_⟩
  · rw [hlk] at hi
    obtain ⟨c, _, ⟨rfl, hI⟩, hc⟩ := h4 i hi
    have q0 := hc 0 (by omega)
    rw [Nat.mul_one, Nat.add_zero] at q0
    simp only [getD_lt _ _ hi]
    exact q0
  · rw [hlk] at hi
    obtain ⟨c, _, ⟨rfl, hI⟩, hc⟩ := h4 i hi
    simp only [List.getElem_map, getD_lt _ _ hi]
    exact hI
theorem read_token (m : Nat) (cs : List Value) (x : DataW H × List MemPlace) (h : DataW.trod enc Tryz.prog w base spare held m 67 cs = some x) :
    ∃ p : DToken, cs = [.string p.name, .string p.rx, .bool p.skip] ∧ p.name.size ≤ maxLen ∧ p.rx.size ≤ maxLen := by
  obtain ⟨xs, n, rfl, rfl, hl, hlen, hf⟩ := DataW.trod_struct Tryz.underlying67 h
  rw [cells67] at hl
  obtain ⟨c0, c1, c2, rfl⟩ := list3 hl
  obtain ⟨y0, y1, y2, rfl⟩ := list3 (l := xs) hlen
  have f0 := hf 0 _ rfl
  have f1 := hf 1 _ rfl
  have f2 := hf 2 _ rfl
  simp [cells4, cells9] at f0 f1 f2
  obtain ⟨n0, e0, z0⟩ := read_str _ _ _ f0
  obtain ⟨n1, e1, z1⟩ := read_str _ _ _ f1
  obtain ⟨n2, e2⟩ := read_bool _ _ _ f2
  simp at e0 e1 e2
  subst e0 e1 e2
  exact ⟨⟨n0, n1, n2⟩, rfl, z0, z1⟩
theorem read_tokens (fuel : Nat) (cs : List Value) (x : DataW H × List MemPlace) (h : DataW.trod enc Tryz.prog w base spare held fuel 22 cs = some x) :
    ∃ (l : List DToken) (v : Value), cs = [v] ∧ TokenR w (fun _ => True) l v := by
  obtain ⟨l, a, cap, b, off, rfl, h1, h2, h3, h4⟩ := @read_row H (DToken) ⟨⟨ByteArray.empty, ByteArray.empty, false⟩⟩ enc w base spare held _ _ 3 Tryz.underlying22 cells67 (by omega) _ read_token fuel cs x h
  refine ⟨l, _, rfl, a, cap, b, off, rfl, h1, h2, fun h0 => ⟨h3 h0, trivial⟩, fun i hi => ?_⟩
  obtain ⟨c, _, ⟨rfl, z0, z1⟩, hc⟩ := h4 i hi
  have q0 := hc 0 (by omega)
  have q1 := hc 1 (by omega)
  have q2 := hc 2 (by omega)
  rw [Nat.add_zero] at q0
  exact ⟨q0, q1, q2, z0, z1⟩
theorem read_level (m : Nat) (cs : List Value) (x : DataW H × List MemPlace) (h : DataW.trod enc Tryz.prog w base spare held m 69 cs = some x) :
    ∃ p : DLevel × Value, cs = [.int .i64 p.1.assoc, p.2] ∧ Strs w (fun _ => True) p.1.lits p.2 := by
  obtain ⟨xs, n, rfl, rfl, hl, hlen, hf⟩ := DataW.trod_struct Tryz.underlying69 h
  rw [cells69] at hl
  obtain ⟨c0, c1, rfl⟩ := list2 hl
  obtain ⟨y0, y1, rfl⟩ := list2 (l := xs) hlen
  have f0 := hf 0 _ rfl
  have f1 := hf 1 _ rfl
  simp [cells3, cells47] at f0 f1
  obtain ⟨n0, e0⟩ := read_int _ _ _ f0
  obtain ⟨n1, v1, e1, r1⟩ := read_strs _ _ _ f1
  simp at e0 e1
  subst e0 e1
  exact ⟨(⟨n0, n1⟩, _), rfl, r1⟩
theorem read_levels (fuel : Nat) (cs : List Value) (x : DataW H × List MemPlace) (h : DataW.trod enc Tryz.prog w base spare held fuel 23 cs = some x) :
    ∃ (l : List DLevel) (v : Value), cs = [v] ∧ LevelR w (fun _ => True) l v := by
  obtain ⟨l, a, cap, b, off, rfl, h1, h2, h3, h4⟩ := @read_row H (DLevel × Value) ⟨(⟨0, []⟩, .bool false)⟩ enc w base spare held _ _ 2 Tryz.underlying23 cells69 (by omega) _ read_level fuel cs x h
  have hlk : (l.map (·.1)).length = l.length := by simp
  refine ⟨l.map (·.1), _, rfl, a, cap, b, off, fun i => (l.getD i (⟨0, []⟩, .bool false)).2, by rw [hlk], by rw [hlk]; exact h1, h2, fun h0 => ⟨h3 (by rw [hlk] at h0; exact h0), trivial⟩, fun i hi => ?_, fun i hi => ?_⟩
  · rw [hlk] at hi
    obtain ⟨c, _, ⟨rfl, hI⟩, hc⟩ := h4 i hi
    have q0 := hc 0 (by omega)
    have q1 := hc 1 (by omega)
    rw [Nat.add_zero] at q0
    simp only [List.getElem_map, getD_lt _ _ hi]
    exact ⟨q0, q1⟩
  · rw [hlk] at hi
    obtain ⟨c, _, ⟨rfl, hI⟩, hc⟩ := h4 i hi
    simp only [List.getElem_map, getD_lt _ _ hi]
    exact hI
theorem read_galt (m : Nat) (cs : List Value) (x : DataW H × List MemPlace) (h : DataW.trod enc Tryz.prog w base spare held m 135 cs = some x) :
    ∃ p : DGAlt × Value, cs = [p.2, .string p.1.label] ∧ p.1.label.size ≤ maxLen ∧ Ints w (fun _ => True) p.1.items p.2 := by
  obtain ⟨xs, n, rfl, rfl, hl, hlen, hf⟩ := DataW.trod_struct Tryz.underlying135 h
  rw [cells135] at hl
  obtain ⟨c0, c1, rfl⟩ := list2 hl
  obtain ⟨y0, y1, rfl⟩ := list2 (l := xs) hlen
  have f0 := hf 0 _ rfl
  have f1 := hf 1 _ rfl
  simp [cells9, cells83] at f0 f1
  obtain ⟨n0, v0, e0, r0⟩ := read_ints _ _ _ f0
  obtain ⟨n1, e1, z1⟩ := read_str _ _ _ f1
  simp at e0 e1
  subst e0 e1
  exact ⟨(⟨n0, n1⟩, _), rfl, z1, r0⟩
theorem read_galts (fuel : Nat) (cs : List Value) (x : DataW H × List MemPlace) (h : DataW.trod enc Tryz.prog w base spare held fuel 71 cs = some x) :
    ∃ (l : List DGAlt) (v : Value), cs = [v] ∧ GAltR w (fun _ => True) l v := by
  obtain ⟨l, a, cap, b, off, rfl, h1, h2, h3, h4⟩ := @read_row H (DGAlt × Value) ⟨(⟨[], ByteArray.empty⟩, .bool false)⟩ enc w base spare held _ _ 2 Tryz.underlying71 cells135 (by omega) _ read_galt fuel cs x h
  have hlk : (l.map (·.1)).length = l.length := by simp
  refine ⟨l.map (·.1), _, rfl, a, cap, b, off, fun i => (l.getD i (⟨[], ByteArray.empty⟩, .bool false)).2, by rw [hlk], by rw [hlk]; exact h1, h2, fun h0 => ⟨h3 (by rw [hlk] at h0; exact h0), trivial⟩, fun i hi => ?_, fun i hi => ?_⟩
  · rw [hlk] at hi
    obtain ⟨c, _, ⟨rfl, z1, hI⟩, hc⟩ := h4 i hi
    have q0 := hc 0 (by omega)
    have q1 := hc 1 (by omega)
    rw [Nat.add_zero] at q0
    simp only [List.getElem_map, getD_lt _ _ hi]
    exact ⟨q0, q1, z1⟩
  · rw [hlk] at hi
    obtain ⟨c, _, ⟨rfl, z1, hI⟩, hc⟩ := h4 i hi
    simp only [List.getElem_map, getD_lt _ _ hi]
    exact hI
theorem read_grule (m : Nat) (cs : List Value) (x : DataW H × List MemPlace) (h : DataW.trod enc Tryz.prog w base spare held m 73 cs = some x) :
    ∃ p : DGRule × Value, cs = [.string p.1.name, p.2] ∧ p.1.name.size ≤ maxLen ∧ GAltR w (fun _ => True) p.1.alts p.2 := by
  obtain ⟨xs, n, rfl, rfl, hl, hlen, hf⟩ := DataW.trod_struct Tryz.underlying73 h
  rw [cells73] at hl
  obtain ⟨c0, c1, rfl⟩ := list2 hl
  obtain ⟨y0, y1, rfl⟩ := list2 (l := xs) hlen
  have f0 := hf 0 _ rfl
  have f1 := hf 1 _ rfl
  simp [cells9, cells71] at f0 f1
  obtain ⟨n0, e0, z0⟩ := read_str _ _ _ f0
  obtain ⟨n1, v1, e1, r1⟩ := read_galts _ _ _ f1
  simp at e0 e1
  subst e0 e1
  exact ⟨(⟨n0, n1⟩, _), rfl, z0, r1⟩
theorem read_grules (fuel : Nat) (cs : List Value) (x : DataW H × List MemPlace) (h : DataW.trod enc Tryz.prog w base spare held fuel 24 cs = some x) :
    ∃ (l : List DGRule) (v : Value), cs = [v] ∧ GRuleR w (fun _ => True) l v := by
  obtain ⟨l, a, cap, b, off, rfl, h1, h2, h3, h4⟩ := @read_row H (DGRule × Value) ⟨(⟨ByteArray.empty, []⟩, .bool false)⟩ enc w base spare held _ _ 2 Tryz.underlying24 cells73 (by omega) _ read_grule fuel cs x h
  have hlk : (l.map (·.1)).length = l.length := by simp
  refine ⟨l.map (·.1), _, rfl, a, cap, b, off, fun i => (l.getD i (⟨ByteArray.empty, []⟩, .bool false)).2, by rw [hlk], by rw [hlk]; exact h1, h2, fun h0 => ⟨h3 (by rw [hlk] at h0; exact h0), trivial⟩, fun i hi => ?_, fun i hi => ?_⟩
  · rw [hlk] at hi
    obtain ⟨c, _, ⟨rfl, z0, hI⟩, hc⟩ := h4 i hi
    have q0 := hc 0 (by omega)
    have q1 := hc 1 (by omega)
    rw [Nat.add_zero] at q0
    simp only [List.getElem_map, getD_lt _ _ hi]
    exact ⟨q0, q1, z0⟩
  · rw [hlk] at hi
    obtain ⟨c, _, ⟨rfl, z0, hI⟩, hc⟩ := h4 i hi
    simp only [List.getElem_map, getD_lt _ _ hi]
    exact hI
theorem read_part (m : Nat) (cs : List Value) (x : DataW H × List MemPlace) (h : DataW.trod enc Tryz.prog w base spare held m 77 cs = some x) :
    ∃ p : DPart × Value, cs = [.int .i64 p.1.kind, .string p.1.s, p.2] ∧ p.1.s.size ≤ maxLen ∧ IRws w (fun _ => True) p.1.alts p.2 := by
  obtain ⟨xs, n, rfl, rfl, hl, hlen, hf⟩ := DataW.trod_struct Tryz.underlying77 h
  rw [cells77] at hl
  obtain ⟨c0, c1, c2, rfl⟩ := list3 hl
  obtain ⟨y0, y1, y2, rfl⟩ := list3 (l := xs) hlen
  have f0 := hf 0 _ rfl
  have f1 := hf 1 _ rfl
  have f2 := hf 2 _ rfl
  simp [cells3, cells9, cells75] at f0 f1 f2
  obtain ⟨n0, e0⟩ := read_int _ _ _ f0
  obtain ⟨n1, e1, z1⟩ := read_str _ _ _ f1
  obtain ⟨n2, v2, e2, r2⟩ := read_irws _ _ _ f2
  simp at e0 e1 e2
  subst e0 e1 e2
  exact ⟨(⟨n0, n1, n2⟩, _), rfl, z1, r2⟩
theorem read_parts (fuel : Nat) (cs : List Value) (x : DataW H × List MemPlace) (h : DataW.trod enc Tryz.prog w base spare held fuel 25 cs = some x) :
    ∃ (l : List DPart) (v : Value), cs = [v] ∧ PartR w (fun _ => True) l v := by
  obtain ⟨l, a, cap, b, off, rfl, h1, h2, h3, h4⟩ := @read_row H (DPart × Value) ⟨(⟨0, ByteArray.empty, []⟩, .bool false)⟩ enc w base spare held _ _ 3 Tryz.underlying25 cells77 (by omega) _ read_part fuel cs x h
  have hlk : (l.map (·.1)).length = l.length := by simp
  refine ⟨l.map (·.1), _, rfl, a, cap, b, off, fun i => (l.getD i (⟨0, ByteArray.empty, []⟩, .bool false)).2, by rw [hlk], by rw [hlk]; exact h1, h2, fun h0 => ⟨h3 (by rw [hlk] at h0; exact h0), trivial⟩, fun i hi => ?_, fun i hi => ?_⟩
  · rw [hlk] at hi
    obtain ⟨c, _, ⟨rfl, z1, hI⟩, hc⟩ := h4 i hi
    have q0 := hc 0 (by omega)
    have q1 := hc 1 (by omega)
    have q2 := hc 2 (by omega)
    rw [Nat.add_zero] at q0
    simp only [List.getElem_map, getD_lt _ _ hi]
    exact ⟨q0, q1, q2, z1⟩
  · rw [hlk] at hi
    obtain ⟨c, _, ⟨rfl, z1, hI⟩, hc⟩ := h4 i hi
    simp only [List.getElem_map, getD_lt _ _ hi]
    exact hI
theorem read_grammar (fuel : Nat) (cs : List Value) (x : DataW H × List MemPlace) (h : DataW.trod enc Tryz.prog w base spare held fuel 27 cs = some x) :
    ∃ (d : DGrammar) (v1 v2 v3 v4 : Value), cs = [.string d.name, v1, v2, v3, v4] ∧ d.name.size ≤ maxLen ∧ DGrammarL w (fun _ => True) d v1 v2 v3 v4 := by
  obtain ⟨xs, n, rfl, rfl, hl, hlen, hf⟩ := DataW.trod_struct Tryz.underlying27 h
  rw [cells27] at hl
  obtain ⟨c0, c1, c2, c3, c4, rfl⟩ := list5 hl
  obtain ⟨y0, y1, y2, y3, y4, rfl⟩ := list5 (l := xs) hlen
  have f0 := hf 0 _ rfl
  have f1 := hf 1 _ rfl
  have f2 := hf 2 _ rfl
  have f3 := hf 3 _ rfl
  have f4 := hf 4 _ rfl
  simp [cells9, cells22, cells23, cells24, cells25] at f0 f1 f2 f3 f4
  obtain ⟨s, e0, hs⟩ := read_str _ _ _ f0
  obtain ⟨l1, v1, e1, h1⟩ := read_tokens _ _ _ f1
  obtain ⟨l2, v2, e2, h2⟩ := read_levels _ _ _ f2
  obtain ⟨l3, v3, e3, h3⟩ := read_grules _ _ _ f3
  obtain ⟨l4, v4, e4, h4⟩ := read_parts _ _ _ f4
  simp at e0 e1 e2 e3 e4
  subst e0 e1 e2 e3 e4
  exact ⟨⟨s, l1, l2, l3, l4⟩, _, _, _, _, rfl, hs, h1, h2, h3, h4⟩
end
end Go.Proofs.YtgjnlhidbjpdkajGreat
