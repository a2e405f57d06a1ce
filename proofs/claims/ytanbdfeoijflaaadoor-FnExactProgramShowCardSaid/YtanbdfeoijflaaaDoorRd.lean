import Derived.Test.YtanbdfeoijflaaaDoorDat
import Derived.ProofKit
import Derived.OpenShut
import Derived.ShutString
import Derived.ChangeOld
/-! An argument that reads as a program. -/
namespace Go.Proofs.YtanbdfeoijflaaaDoor
open Go.ChangeShapes Go.WideShapes Go.ChangeAt Go.RowKit Go.Deep
set_option linter.unusedVariables false

/-- A slice whose elements read so: its cells, element by element. -/
theorem read_row {H α : Type} [Inhabited α] {enc : TypeId × Value → H} {w : World} {base : Nat} {spare : Nat → Bool} {held : Bool} {t e k : Nat} (ht : Tryd.prog.underlying t = some (.slice e)) (hk : Tryd.prog.cellsOf e = k) (hk0 : 0 < k)
    {R : α → List Value → Prop} (hR : ∀ (m : Nat) (cs : List Value) (x : DataW H × List MemPlace), DataW.trod enc Tryd.prog w base spare held m e cs = some x → ∃ a, R a cs)
    (fuel : Nat) (cs : List Value) (x : DataW H × List MemPlace) (h : DataW.trod enc Tryd.prog w base spare held fuel t cs = some x) :
    ∃ (l : List α) (a : Option Addr) (cap b off : Nat), cs = [.slice a l.length cap] ∧ l.length ≤ cap ∧ cap ≤ maxLen ∧ (0 < l.length → a = some ⟨b, off, none⟩) ∧
      ∀ i (hi : i < l.length), ∃ c : List Value, c.length = k ∧ R l[i] c ∧ ∀ q, q < k → w.cell? ⟨b, off + i * k + q, none⟩ = c[q]? := by
  rcases DataW.trod_slice ht h with ⟨e3, _⟩ | ⟨a, len, cap, elems, rest, m, rfl, e3, _, hb, hlc, hcm, hel, hels, _, _⟩
  · subst e3
    exact ⟨[], none, 0, 0, 0, rfl, Nat.le_refl _, Nat.zero_le _, fun h => absurd h (Nat.not_lt_zero _), fun i hi => absurd hi (Nat.not_lt_zero _)⟩
  · subst e3
    rw [hk] at hels
    have hall : ∀ i, i < len → ∃ p : α × List Value, p.2.length = k ∧ R p.1 p.2 ∧ ∀ q, q < k → w.cell? ((a.add (i * k)).add q) = p.2[q]? := by
      intro i hi
      have h1 := hels i hi
      rw [List.getElem?_eq_getElem (by omega)] at h1
      obtain ⟨cs', h2, h3⟩ := Option.bind_eq_some_iff.1 h1
      obtain ⟨y, hy⟩ := hR _ _ _ h3
      obtain ⟨_, hl, hc⟩ := World.cells?_some h2
      exact ⟨(y, cs'), hl, hy, hc⟩
    obtain ⟨F, hF⟩ := @choose_lt (α × List Value) ⟨(default, [])⟩ len _ hall
    obtain ⟨bb, off, spot⟩ := a
    have hsp : 0 < len → spot = none := fun h0 => by
      obtain ⟨hl, _, hc⟩ := hF 0 h0
      have h4 := hc 0 hk0
      rw [List.getElem?_eq_getElem (by omega)] at h4
      have := World.cell?_spot h4
      simpa [Addr.add] using this
    have hlk : ((List.range len).map fun i => (F i).1).length = len := by simp
    refine ⟨(List.range len).map fun i => (F i).1, some ⟨bb, off, spot⟩, cap, bb, off, by rw [hlk], by rw [hlk]; exact hlc, hcm, fun h0 => ?_, fun i hi => ?_⟩
    · rw [hlk] at h0
      rw [hsp h0]
    · rw [hlk] at hi
      obtain ⟨hl, hy, hc⟩ := hF i hi
      refine ⟨(F i).2, hl, by simpa using hy, fun q hq => ?_⟩
      have h4 := hc q hq
      rw [hsp (by omega)] at h4
      simp only [add_plain] at h4
      exact h4

theorem cells3 : Tryd.prog.cellsOf 3 = 1 := by kernel_rfl
theorem cells60 : Tryd.prog.cellsOf 40 = 3 := by kernel_rfl
section
variable {H : Type} {enc : TypeId × Value → H} {w : World} {base : Nat} {spare : Nat → Bool} {held : Bool}

theorem read_int (m : Nat) (cs : List Value) (x : DataW H × List MemPlace) (h : DataW.trod enc Tryd.prog w base spare held m 3 cs = some x) : ∃ n : Int, cs = [.int .i64 n] := by
  obtain ⟨n, e, _⟩ := DataW.trod_int Tryd.underlying3 h
  exact ⟨n, e⟩
theorem listG3 {α : Type} {l : List α} (h : l.length = 3) : ∃ a b c, l = [a, b, c] := by
  match l, h with
  | [a, b, c], _ => exact ⟨a, b, c, rfl⟩
theorem read_ins (m : Nat) (cs : List Value) (x : DataW H × List MemPlace) (h : DataW.trod enc Tryd.prog w base spare held m 40 cs = some x) :
    ∃ p : DIns, cs = [.int .i64 p.op, .int .i64 p.n, .int .i64 p.to_] := by
  obtain ⟨xs, n, rfl, rfl, hl, hlen, hf⟩ := DataW.trod_struct Tryd.underlying40 h
  rw [cells60] at hl
  obtain ⟨c0, c1, c2, rfl⟩ := listG3 hl
  obtain ⟨y0, y1, y2, rfl⟩ := listG3 (l := xs) hlen
  have f0 := hf 0 _ rfl
  have f1 := hf 1 _ rfl
  have f2 := hf 2 _ rfl
  simp [cells3] at f0 f1 f2
  obtain ⟨n0, e0⟩ := read_int _ _ _ f0
  obtain ⟨n1, e1⟩ := read_int _ _ _ f1
  obtain ⟨n2, e2⟩ := read_int _ _ _ f2
  simp at e0 e1 e2
  subst e0 e1 e2
  exact ⟨⟨n0, n1, n2⟩, rfl⟩
theorem read_pg (fuel : Nat) (cs : List Value) (x : DataW H × List MemPlace) (h : DataW.trod enc Tryd.prog w base spare held fuel 22 cs = some x) :
    ∃ (l : List DIns) (v : Value), cs = [v] ∧ InsR w (fun _ => True) l v := by
  obtain ⟨l, a, cap, b, off, rfl, h1, h2, h3, h4⟩ := @read_row H DIns ⟨⟨0, 0, 0⟩⟩ enc w base spare held _ _ 3 Tryd.underlying22 cells60 (by omega) _ read_ins fuel cs x h
  refine ⟨l, _, rfl, a, cap, b, off, rfl, h1, h2, fun h0 => ⟨h3 h0, trivial⟩, fun i hi => ?_⟩
  obtain ⟨c, _, e, hc⟩ := h4 i hi
  subst e
  have q0 := hc 0 (by omega)
  have q1 := hc 1 (by omega)
  have q2 := hc 2 (by omega)
  exact ⟨by simpa using q0, by simpa using q1, by simpa using q2⟩
end
end Go.Proofs.YtanbdfeoijflaaaDoor
