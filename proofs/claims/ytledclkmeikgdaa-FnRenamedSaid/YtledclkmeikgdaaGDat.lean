import Derived.Test.YtledclkmeikgdaaChecked
import Derived.Test.YtledclkmeikgdaaGBase
import Derived.KernelRfl
import Derived.Outline
import Derived.BigQuiet
import Derived.Deep.RegionWith
import Derived.Deep.CutRange
namespace Go.Proofs.Ytledclkmeikgdaa
open Go.RowKit Go.Deep
set_option linter.unusedVariables false
set_option maxRecDepth 100000
set_option linter.unusedSimpArgs false

/-- A box whose cells may be written. -/
structure Box (w : World) (g T : Nat) (cs : List Value) : Prop where
  ex : w.rowIs g T cs.length (fun i => cs.getD i .nilFunc)
theorem Box.new (w : World) (T : Nat) (cs : List Value) : Box (w.alloc (.cells cs.toArray T)) w.heap.size T cs :=
  ⟨cs.toArray, blk_alloc_new _ _, by simp, fun i hi => by simp [List.getD_eq_getElem?_getD, hi]⟩
theorem Box.lt {w : World} {g T : Nat} {cs : List Value} (h : Box w g T cs) : g < w.heap.size := World.rowIs.lt h.ex
theorem Box.keep {w w' : World} {g T : Nat} {cs : List Value} (h : Box w g T cs) (hb : w'.heap[g]? = w.heap[g]?) : Box w' g T cs := ⟨World.rowIs.of_block h.ex hb⟩
theorem Box.still {w w' : World} {g T : Nat} {cs : List Value} (h : Box w g T cs) (hb : Below w.heap.size w w') : Box w' g T cs := h.keep (hb.block g h.lt)
theorem Box.cell {w : World} {g T : Nat} {cs : List Value} (h : Box w g T cs) (i : Nat) (hi : i < cs.length) : w.cell? ⟨g, i, none⟩ = some (cs.getD i .nilFunc) := h.ex.cell hi
theorem Box.frozen {w : World} {g T : Nat} {cs : List Value} (h : Box w g T cs) (i : Nat) : w.frozen? ⟨g, i, none⟩ = false := h.ex.frozen i
theorem Box.set {w : World} {g T : Nat} {cs : List Value} (h : Box w g T cs) (i : Nat) (u : Value) : Box (w.setCell ⟨g, i, none⟩ u) g T (cs.set i u) := by
  obtain ⟨c, h1, h2, h3⟩ := World.rowIs.set h.ex i u
  refine ⟨c, h1, by simpa using h2, fun j hj => ?_⟩
  rw [List.length_set] at hj
  rw [h3 j hj]
  by_cases e : j = i
  · subst e; simp [List.getD_eq_getElem?_getD, hj]
  · have e2 : (cs.set i u)[j]? = cs[j]? := List.getElem?_set_ne (fun h : i = j => e h.symm)
    simp [List.getD_eq_getElem?_getD, e, e2]
theorem Box.past {w : World} {g T q o : Nat} {cs : List Value} {u : Value} (h : Box w g T cs) (hq : g ≠ q) : Box (w.setCell ⟨q, o, none⟩ u) g T cs := h.keep (blk_setCell_other _ _ _ _ (by exact hq))
theorem bel2 (w : World) (o o' : Obj) : Below w.heap.size w ((w.alloc o).alloc o') := (bel_alloc _ _).alloc (by simp) _
end Go.Proofs.Ytledclkmeikgdaa

namespace Go.Proofs.Ytledclkmeikgdaa
open Go.RowKit Go.Deep
set_option linter.unusedVariables false
set_option maxRecDepth 100000
set_option linter.unusedSimpArgs false

structure DSEdge where
  from_ : Int
  to_ : Int
  kind : Int
def SEdgeR (w : World) (S : Nat → Prop) (l : List DSEdge) (v : Value) : Prop :=
  ∃ (a : Option Addr) (cap b off : Nat), v = .slice a l.length cap ∧ l.length ≤ cap ∧ cap ≤ maxLen ∧ (0 < l.length → a = some ⟨b, off, none⟩ ∧ S b) ∧ (∀ i (hi : i < l.length), w.cell? ⟨b, off + i * 3, none⟩ = some (.int .i64 l[i].from_) ∧ w.cell? ⟨b, off + i * 3 + 1, none⟩ = some (.int .i64 l[i].to_) ∧ w.cell? ⟨b, off + i * 3 + 2, none⟩ = some (.int .i64 l[i].kind))
theorem SEdgeR.keep {w w' : World} {S : Nat → Prop} {l : List DSEdge} {v : Value} (h : SEdgeR w S l v) (hb : ∀ b, S b → b < w.heap.size → w'.heap[b]? = w.heap[b]?) : SEdgeR w' S l v := by
  obtain ⟨a, cap, b, off, hv, hc, hm, ha, hcell⟩ := h
  refine ⟨a, cap, b, off, hv, hc, hm, ha, fun i hi => ?_⟩
  obtain ⟨c0, c1, c2⟩ := hcell i hi
  have hbk := hb b (ha (by omega)).2 (lt_of_cell c0)
  exact ⟨(World.cell?_of_block (w := w) hbk).trans c0, (World.cell?_of_block (w := w) hbk).trans c1, (World.cell?_of_block (w := w) hbk).trans c2⟩
theorem SEdgeR.still {w w' : World} {S : Nat → Prop} {l : List DSEdge} {v : Value} (h : SEdgeR w S l v) (hb : Below w.heap.size w w') : SEdgeR w' S l v := h.keep (fun b _ hlt => hb.block b hlt)
theorem SEdgeR.mono {w : World} {S S' : Nat → Prop} {l : List DSEdge} {v : Value} (h : SEdgeR w S l v) (hS : ∀ b, S b → S' b) : SEdgeR w S' l v := by
  obtain ⟨a, cap, b, off, hv, hc, hm, ha, hcell⟩ := h
  exact ⟨a, cap, b, off, hv, hc, hm, fun h0 => ⟨(ha h0).1, hS _ (ha h0).2⟩, hcell⟩
theorem SEdgeR.form {w : World} {S : Nat → Prop} {l : List DSEdge} {v : Value} (h : SEdgeR w S l v) : ∃ a cap, v = .slice a l.length cap ∧ l.length ≤ maxLen := by
  obtain ⟨a, cap, b, off, hv, hc, hm, _⟩ := h
  exact ⟨_, _, hv, by omega⟩
structure DSpot where
  scope : Int
  name : ByteArray
def SpotR (w : World) (S : Nat → Prop) (l : List DSpot) (v : Value) : Prop :=
  ∃ (a : Option Addr) (cap b off : Nat), v = .slice a l.length cap ∧ l.length ≤ cap ∧ cap ≤ maxLen ∧ (0 < l.length → a = some ⟨b, off, none⟩ ∧ S b) ∧ (∀ i (hi : i < l.length), w.cell? ⟨b, off + i * 2, none⟩ = some (.int .i64 l[i].scope) ∧ w.cell? ⟨b, off + i * 2 + 1, none⟩ = some (.string l[i].name) ∧ l[i].name.size ≤ maxLen)
theorem SpotR.keep {w w' : World} {S : Nat → Prop} {l : List DSpot} {v : Value} (h : SpotR w S l v) (hb : ∀ b, S b → b < w.heap.size → w'.heap[b]? = w.heap[b]?) : SpotR w' S l v := by
  obtain ⟨a, cap, b, off, hv, hc, hm, ha, hcell⟩ := h
  refine ⟨a, cap, b, off, hv, hc, hm, ha, fun i hi => ?_⟩
  obtain ⟨c0, c1, z0⟩ := hcell i hi
  have hbk := hb b (ha (by omega)).2 (lt_of_cell c0)
  exact ⟨(World.cell?_of_block (w := w) hbk).trans c0, (World.cell?_of_block (w := w) hbk).trans c1, z0⟩
theorem SpotR.still {w w' : World} {S : Nat → Prop} {l : List DSpot} {v : Value} (h : SpotR w S l v) (hb : Below w.heap.size w w') : SpotR w' S l v := h.keep (fun b _ hlt => hb.block b hlt)
theorem SpotR.mono {w : World} {S S' : Nat → Prop} {l : List DSpot} {v : Value} (h : SpotR w S l v) (hS : ∀ b, S b → S' b) : SpotR w S' l v := by
  obtain ⟨a, cap, b, off, hv, hc, hm, ha, hcell⟩ := h
  exact ⟨a, cap, b, off, hv, hc, hm, fun h0 => ⟨(ha h0).1, hS _ (ha h0).2⟩, hcell⟩
theorem SpotR.form {w : World} {S : Nat → Prop} {l : List DSpot} {v : Value} (h : SpotR w S l v) : ∃ a cap, v = .slice a l.length cap ∧ l.length ≤ maxLen := by
  obtain ⟨a, cap, b, off, hv, hc, hm, _⟩ := h
  exact ⟨_, _, hv, by omega⟩
structure DSg where
  scopes : Int
  edges : List DSEdge
  decls : List DSpot
  refs : List DSpot
/-- Its slices. -/
structure DSgL (w : World) (S : Nat → Prop) (t : DSg) (v1 v2 v3 : Value) : Prop where
  edges : SEdgeR w S t.edges v1
  decls : SpotR w S t.decls v2
  refs : SpotR w S t.refs v3
theorem DSgL.keep {w w' : World} {S : Nat → Prop} {t : DSg} {v1 v2 v3 : Value} (h : DSgL w S t v1 v2 v3) (hb : ∀ b, S b → b < w.heap.size → w'.heap[b]? = w.heap[b]?) : DSgL w' S t v1 v2 v3 := ⟨h.edges.keep hb, h.decls.keep hb, h.refs.keep hb⟩
theorem DSgL.still {w w' : World} {S : Nat → Prop} {t : DSg} {v1 v2 v3 : Value} (h : DSgL w S t v1 v2 v3) (hb : Below w.heap.size w w') : DSgL w' S t v1 v2 v3 := ⟨h.edges.still hb, h.decls.still hb, h.refs.still hb⟩
theorem DSgL.mono {w : World} {S S' : Nat → Prop} {t : DSg} {v1 v2 v3 : Value} (h : DSgL w S t v1 v2 v3) (hS : ∀ b, S b → S' b) : DSgL w S' t v1 v2 v3 := ⟨h.edges.mono hS, h.decls.mono hS, h.refs.mono hS⟩
end Go.Proofs.Ytledclkmeikgdaa
