import Derived.Test.YtledclkmeikgdaaChecked
import Derived.Test.YtledclkmeikgdaaGBase
import Derived.KernelRfl
import Derived.Outline
import Derived.BigQuiet
import Derived.Deep.RegionWith
import Derived.Deep.CutRange
namespace Go.Proofs.Ytledclkmeikgdaa
open Go.RowKit Go.Deep
set_option linter.unusedVariables false
set_option maxRecDepth 100000
set_option linter.unusedSimpArgs false

/-- A box whose cells may be written. -/
structure Box (w : World) (g T : Nat) (cs : List Value) : Prop where
  ex : w.rowIs g T cs.length (fun i => cs.getD i .nilFunc)
theorem Box.new (w : World) (T : Nat) (cs : List Value) : Box (w.alloc (.cells cs.toArray T)) w.heap.size T cs :=
  ⟨cs.toArray, blk_alloc_new _ _, by simp, fun i hi => by simp [List.getD_eq_getElem?_getD, hi]⟩
theorem Box.lt {w : World} {g T : Nat} {cs : List Value} (h : Box w g T cs) : g < w.heap.size := World.rowIs.lt h.ex
theorem Box.keep {w w' : World} {g T : Nat} {cs : List Value} (h : Box w g T cs) (hb : w'.heap[g]? = w.heap[g]?) : Box w' g T cs := ⟨World.rowIs.of_block h.ex hb⟩
theorem Box.still {w w' : World} {g T : Nat} {cs : List Value} (h : Box w g T cs) (hb : Below w.heap.size w w') : Box w' g T cs := h.keep (hb.block g h.lt)
theorem Box.cell {w : World} {g T : Nat} {cs : List Value} (h : Box w g T cs) (i : Nat) (hi : i < cs.length) : w.cell? ⟨g, i, none⟩ = some (cs.getD i .nilFunc) := h.ex.cell hi
theorem Box.frozen {w : World} {g T : Nat} {cs : List Value} (h : Box w g T cs) (i : Nat) : w.frozen? ⟨g, i, none⟩ = false := h.ex.frozen i
theorem Box.set {w : World} {g T : Nat} {cs : List Value} (h : Box w g T cs) (i : Nat) (u : Value) : Box (w.setCell ⟨g, i, none⟩ u) g T (cs.set i u) := by
  obtain ⟨c, h1, h2, h3⟩ := World.rowIs.set h.ex i u
  refine ⟨c, h1, by simpa using h2, fun j hj => ?_⟩
  rw [List.length_set] at hj
  rw [h3 j hj]
  by_cases e : j = i
  · subst e; simp [List.getD_eq_getElem?_getD, hj]
  · have e2 : (cs.set i u)[j]? = cs[j]? := List.getElem?_set_ne (fun h : i = j => e h.symm)
    simp [List.getD_eq_getElem?_getD, e, e2]
theorem Box.past {w : World} {g T q o : Nat} {cs : List Value} {u : Value} (h : Box w g T cs) (hq : g ≠ q) : Box (w.setCell ⟨q, o, none⟩ u) g T cs := h.keep (blk_setCell_other _ _ _ _ (by exact hq))
/-- How much is left. -/
def Left (n : Nat) (P : Prop) (e : Ending) : Prop := e = .returned (.int .i64 (-1)) ∨ ∃ m : Nat, e = .returned (.int .i64 m) ∧ m ≤ n ∧ P
theorem bel2 (w : World) (o o' : Obj) : Below w.heap.size w ((w.alloc o).alloc o') := (bel_alloc _ _).alloc (by simp) _
theorem bel3 (w : World) (o o' o'' : Obj) : Below w.heap.size w (((w.alloc o).alloc o').alloc o'') := ((bel_alloc _ _).alloc (by simp) _).alloc (by simp; omega) _
theorem bel_drewN {B : Nat} {a w : World} (h : Below B a w) (n : Nat) : Below B a (w.drewN n) := h.trans ⟨rfl, rfl, rfl, Nat.le_refl _, fun _ _ => rfl⟩
end Go.Proofs.Ytledclkmeikgdaa

namespace Go.Proofs.Ytledclkmeikgdaa
open Go.RowKit Go.Deep
set_option linter.unusedVariables false
set_option maxRecDepth 100000
set_option linter.unusedSimpArgs false

/-- Numbers in a row of their own. -/
def IntsO (w : World) (S : Nat → Prop) (l : List Int) (v : Value) : Prop :=
  ∃ (b : Nat) (f : Nat → Value), v = .slice (some ⟨b, 0, none⟩) l.length l.length ∧ S b ∧ l.length ≤ 1048576 ∧ w.rowIs b 3 l.length f ∧ (∀ i (hi : i < l.length), f (i) = .int .i64 l[i])
theorem IntsO.keep {w w' : World} {S : Nat → Prop} {l : List Int} {v : Value} (h : IntsO w S l v) (hb : ∀ b, S b → b < w.heap.size → w'.heap[b]? = w.heap[b]?) : IntsO w' S l v := by
  obtain ⟨b, f, hv, hS, hn, hr, hf⟩ := h
  exact ⟨b, f, hv, hS, hn, World.rowIs.of_block hr (hb b hS (World.rowIs.lt hr)), hf⟩
theorem IntsO.still {w w' : World} {S : Nat → Prop} {l : List Int} {v : Value} (h : IntsO w S l v) (hb : Below w.heap.size w w') : IntsO w' S l v := h.keep (fun b _ hlt => hb.block b hlt)
theorem IntsO.mono {w : World} {S S' : Nat → Prop} {l : List Int} {v : Value} (h : IntsO w S l v) (hS : ∀ b, S b → S' b) : IntsO w S' l v := by
  obtain ⟨b, f, hv, h1, hn, hr, hf⟩ := h
  exact ⟨b, f, hv, hS _ h1, hn, hr, hf⟩
theorem IntsO.form {w : World} {S : Nat → Prop} {l : List Int} {v : Value} (h : IntsO w S l v) : ∃ a cap, v = .slice a l.length cap ∧ l.length ≤ maxLen := by
  obtain ⟨b, f, hv, h1, hn, _⟩ := h
  exact ⟨_, _, hv, by unfold maxLen; omega⟩
theorem IntsO.top {w : World} {S : Nat → Prop} {l : List Int} {v : Value} (h : IntsO w S l v) : IntsO w (fun b => S b ∧ b < w.heap.size) l v := by
  obtain ⟨b, f, hv, h1, hn, hr, hf⟩ := h
  exact ⟨b, f, hv, ⟨h1, World.rowIs.lt hr⟩, hn, hr, hf⟩
theorem IntsO.lies {w : World} {S : Nat → Prop} {l : List Int} {v : Value} (h : IntsO w S l v) : Ints w S l v := by
  obtain ⟨b, f, hv, h1, hn, hr, hf⟩ := h
  refine ⟨_, _, b, 0, hv, Nat.le_refl _, by unfold maxLen; omega, fun _ => ⟨rfl, h1⟩, fun i hi => ?_⟩
  have g0 := hf i hi
  exact by rw [Nat.zero_add, hr.cell (by omega), g0]
def Strs (w : World) (S : Nat → Prop) (l : List ByteArray) (v : Value) : Prop :=
  ∃ (a : Option Addr) (cap b off : Nat), v = .slice a l.length cap ∧ l.length ≤ cap ∧ cap ≤ maxLen ∧ (0 < l.length → a = some ⟨b, off, none⟩ ∧ S b) ∧ (∀ i (hi : i < l.length), w.cell? ⟨b, off + i, none⟩ = some (.string l[i]) ∧ l[i].size ≤ maxLen)
theorem Strs.keep {w w' : World} {S : Nat → Prop} {l : List ByteArray} {v : Value} (h : Strs w S l v) (hb : ∀ b, S b → b < w.heap.size → w'.heap[b]? = w.heap[b]?) : Strs w' S l v := by
  obtain ⟨a, cap, b, off, hv, hc, hm, ha, hcell⟩ := h
  refine ⟨a, cap, b, off, hv, hc, hm, ha, fun i hi => ?_⟩
  obtain ⟨c0, z0⟩ := hcell i hi
  have hbk := hb b (ha (by omega)).2 (lt_of_cell c0)
  exact ⟨(World.cell?_of_block (w := w) hbk).trans c0, z0⟩
theorem Strs.still {w w' : World} {S : Nat → Prop} {l : List ByteArray} {v : Value} (h : Strs w S l v) (hb : Below w.heap.size w w') : Strs w' S l v := h.keep (fun b _ hlt => hb.block b hlt)
theorem Strs.mono {w : World} {S S' : Nat → Prop} {l : List ByteArray} {v : Value} (h : Strs w S l v) (hS : ∀ b, S b → S' b) : Strs w S' l v := by
  obtain ⟨a, cap, b, off, hv, hc, hm, ha, hcell⟩ := h
  exact ⟨a, cap, b, off, hv, hc, hm, fun h0 => ⟨(ha h0).1, hS _ (ha h0).2⟩, hcell⟩
theorem Strs.form {w : World} {S : Nat → Prop} {l : List ByteArray} {v : Value} (h : Strs w S l v) : ∃ a cap, v = .slice a l.length cap ∧ l.length ≤ maxLen := by
  obtain ⟨a, cap, b, off, hv, hc, hm, _⟩ := h
  exact ⟨_, _, hv, by omega⟩
/-- .. in rows of their own, in blocks of S. -/
def StrsO (w : World) (S : Nat → Prop) (l : List ByteArray) (v : Value) : Prop :=
  ∃ (b : Nat) (f : Nat → Value), v = .slice (some ⟨b, 0, none⟩) l.length l.length ∧ S b ∧ l.length ≤ 1048576 ∧ w.rowIs b 9 (l.length) f ∧ (∀ i (hi : i < l.length), f (i) = .string l[i] ∧ l[i].size ≤ maxLen)
theorem StrsO.keep {w w' : World} {S : Nat → Prop} {l : List ByteArray} {v : Value} (h : StrsO w S l v) (hb : ∀ b, S b → b < w.heap.size → w'.heap[b]? = w.heap[b]?) : StrsO w' S l v := by
  obtain ⟨b, f, hv, hS, hn, hr, hf⟩ := h
  exact ⟨b, f, hv, hS, hn, World.rowIs.of_block hr (hb b hS (World.rowIs.lt hr)), hf⟩
theorem StrsO.still {w w' : World} {S : Nat → Prop} {l : List ByteArray} {v : Value} (h : StrsO w S l v) (hb : Below w.heap.size w w') : StrsO w' S l v := h.keep (fun b _ hlt => hb.block b hlt)
theorem StrsO.mono {w : World} {S S' : Nat → Prop} {l : List ByteArray} {v : Value} (h : StrsO w S l v) (hS : ∀ b, S b → S' b) : StrsO w S' l v := by
  obtain ⟨b, f, hv, h1, hn, hr, hf⟩ := h
  exact ⟨b, f, hv, hS _ h1, hn, hr, hf⟩
theorem StrsO.form {w : World} {S : Nat → Prop} {l : List ByteArray} {v : Value} (h : StrsO w S l v) : ∃ a cap, v = .slice a l.length cap ∧ l.length ≤ maxLen := by
  obtain ⟨b, f, hv, h1, hn, _⟩ := h
  exact ⟨_, _, hv, by unfold maxLen; omega⟩
theorem StrsO.top {w : World} {S : Nat → Prop} {l : List ByteArray} {v : Value} (h : StrsO w S l v) : StrsO w (fun b => S b ∧ b < w.heap.size) l v := by
  obtain ⟨b, f, hv, h1, hn, hr, hf⟩ := h
  exact ⟨b, f, hv, ⟨h1, World.rowIs.lt hr⟩, hn, hr, hf⟩
theorem StrsO.lies {w : World} {S : Nat → Prop} {l : List ByteArray} {v : Value} (h : StrsO w S l v) : Strs w S l v := by
  obtain ⟨b, f, hv, h1, hn, hr, hf⟩ := h
  refine ⟨_, _, b, 0, hv, Nat.le_refl _, by unfold maxLen; omega, fun _ => ⟨rfl, h1⟩, fun i hi => ?_⟩
  obtain ⟨g0, z0⟩ := hf i hi
  exact ⟨by rw [Nat.zero_add, hr.cell (by omega), g0], z0⟩
def IRws (w : World) (S : Nat → Prop) (l : List (List Int)) (v : Value) : Prop :=
  ∃ (a : Option Addr) (cap b off : Nat) (s0 : Nat → Value), v = .slice a l.length cap ∧ l.length ≤ cap ∧ cap ≤ maxLen ∧ (0 < l.length → a = some ⟨b, off, none⟩ ∧ S b) ∧ (∀ i (hi : i < l.length), w.cell? ⟨b, off + i, none⟩ = some (s0 i)) ∧ (∀ i (hi : i < l.length), Ints w S l[i] (s0 i))
theorem IRws.keep {w w' : World} {S : Nat → Prop} {l : List (List Int)} {v : Value} (h : IRws w S l v) (hb : ∀ b, S b → b < w.heap.size → w'.heap[b]? = w.heap[b]?) : IRws w' S l v := by
  obtain ⟨a, cap, b, off, s0, hv, hc, hm, ha, hcell, r0⟩ := h
  refine ⟨a, cap, b, off, s0, hv, hc, hm, ha, fun i hi => ?_, fun i hi => (r0 i hi).keep hb⟩
  have c0 := hcell i hi
  exact (World.cell?_of_block (w := w) (hb b (ha (by omega)).2 (lt_of_cell c0))).trans c0
theorem IRws.still {w w' : World} {S : Nat → Prop} {l : List (List Int)} {v : Value} (h : IRws w S l v) (hb : Below w.heap.size w w') : IRws w' S l v := h.keep (fun b _ hlt => hb.block b hlt)
theorem IRws.mono {w : World} {S S' : Nat → Prop} {l : List (List Int)} {v : Value} (h : IRws w S l v) (hS : ∀ b, S b → S' b) : IRws w S' l v := by
  obtain ⟨a, cap, b, off, s0, hv, hc, hm, ha, hcell, r0⟩ := h
  exact ⟨a, cap, b, off, s0, hv, hc, hm, fun h0 => ⟨(ha h0).1, hS _ (ha h0).2⟩, hcell, fun i hi => (r0 i hi).mono hS⟩
theorem IRws.form {w : World} {S : Nat → Prop} {l : List (List Int)} {v : Value} (h : IRws w S l v) : ∃ a cap, v = .slice a l.length cap ∧ l.length ≤ maxLen := by
  obtain ⟨a, cap, b, off, _, hv, hc, hm, _⟩ := h
  exact ⟨_, _, hv, by omega⟩
/-- .. in rows of their own, in blocks of S. -/
def IRwsO (w : World) (S : Nat → Prop) (l : List (List Int)) (v : Value) : Prop :=
  ∃ (b : Nat) (f : Nat → Value), v = .slice (some ⟨b, 0, none⟩) l.length l.length ∧ S b ∧ l.length ≤ 1048576 ∧ w.rowIs b 34 (l.length) f ∧ (∀ i (hi : i < l.length), IntsO w S l[i] (f (i)))
theorem IRwsO.keep {w w' : World} {S : Nat → Prop} {l : List (List Int)} {v : Value} (h : IRwsO w S l v) (hb : ∀ b, S b → b < w.heap.size → w'.heap[b]? = w.heap[b]?) : IRwsO w' S l v := by
  obtain ⟨b, f, hv, hS, hn, hr, r0⟩ := h
  exact ⟨b, f, hv, hS, hn, World.rowIs.of_block hr (hb b hS (World.rowIs.lt hr)), fun i hi => (r0 i hi).keep hb⟩
theorem IRwsO.still {w w' : World} {S : Nat → Prop} {l : List (List Int)} {v : Value} (h : IRwsO w S l v) (hb : Below w.heap.size w w') : IRwsO w' S l v := h.keep (fun b _ hlt => hb.block b hlt)
theorem IRwsO.mono {w : World} {S S' : Nat → Prop} {l : List (List Int)} {v : Value} (h : IRwsO w S l v) (hS : ∀ b, S b → S' b) : IRwsO w S' l v := by
  obtain ⟨b, f, hv, h1, hn, hr, r0⟩ := h
  exact ⟨b, f, hv, hS _ h1, hn, hr, fun i hi => (r0 i hi).mono hS⟩
theorem IRwsO.form {w : World} {S : Nat → Prop} {l : List (List Int)} {v : Value} (h : IRwsO w S l v) : ∃ a cap, v = .slice a l.length cap ∧ l.length ≤ maxLen := by
  obtain ⟨b, f, hv, h1, hn, _⟩ := h
  exact ⟨_, _, hv, by unfold maxLen; omega⟩
theorem IRwsO.top {w : World} {S : Nat → Prop} {l : List (List Int)} {v : Value} (h : IRwsO w S l v) : IRwsO w (fun b => S b ∧ b < w.heap.size) l v := by
  obtain ⟨b, f, hv, h1, hn, hr, r0⟩ := h
  exact ⟨b, f, hv, ⟨h1, World.rowIs.lt hr⟩, hn, hr, fun i hi => (r0 i hi).top⟩
theorem IRwsO.lies {w : World} {S : Nat → Prop} {l : List (List Int)} {v : Value} (h : IRwsO w S l v) : IRws w S l v := by
  obtain ⟨b, f, hv, h1, hn, hr, r0⟩ := h
  refine ⟨_, _, b, 0, fun i => f (i), hv, Nat.le_refl _, by unfold maxLen; omega, fun _ => ⟨rfl, h1⟩, fun i hi => ?_, fun i hi => (r0 i hi).lies⟩
  exact by rw [Nat.zero_add, hr.cell (by omega)]
structure DSEdge where
  from_ : Int
  to_ : Int
  kind : Int
def SEdgeR (w : World) (S : Nat → Prop) (l : List DSEdge) (v : Value) : Prop :=
  ∃ (a : Option Addr) (cap b off : Nat), v = .slice a l.length cap ∧ l.length ≤ cap ∧ cap ≤ maxLen ∧ (0 < l.length → a = some ⟨b, off, none⟩ ∧ S b) ∧ (∀ i (hi : i < l.length), w.cell? ⟨b, off + i * 3, none⟩ = some (.int .i64 l[i].from_) ∧ w.cell? ⟨b, off + i * 3 + 1, none⟩ = some (.int .i64 l[i].to_) ∧ w.cell? ⟨b, off + i * 3 + 2, none⟩ = some (.int .i64 l[i].kind))
theorem SEdgeR.keep {w w' : World} {S : Nat → Prop} {l : List DSEdge} {v : Value} (h : SEdgeR w S l v) (hb : ∀ b, S b → b < w.heap.size → w'.heap[b]? = w.heap[b]?) : SEdgeR w' S l v := by
  obtain ⟨a, cap, b, off, hv, hc, hm, ha, hcell⟩ := h
  refine ⟨a, cap, b, off, hv, hc, hm, ha, fun i hi => ?_⟩
  obtain ⟨c0, c1, c2⟩ := hcell i hi
  have hbk := hb b (ha (by omega)).2 (lt_of_cell c0)
  exact ⟨(World.cell?_of_block (w := w) hbk).trans c0, (World.cell?_of_block (w := w) hbk).trans c1, (World.cell?_of_block (w := w) hbk).trans c2⟩
theorem SEdgeR.still {w w' : World} {S : Nat → Prop} {l : List DSEdge} {v : Value} (h : SEdgeR w S l v) (hb : Below w.heap.size w w') : SEdgeR w' S l v := h.keep (fun b _ hlt => hb.block b hlt)
theorem SEdgeR.mono {w : World} {S S' : Nat → Prop} {l : List DSEdge} {v : Value} (h : SEdgeR w S l v) (hS : ∀ b, S b → S' b) : SEdgeR w S' l v := by
  obtain ⟨a, cap, b, off, hv, hc, hm, ha, hcell⟩ := h
  exact ⟨a, cap, b, off, hv, hc, hm, fun h0 => ⟨(ha h0).1, hS _ (ha h0).2⟩, hcell⟩
theorem SEdgeR.form {w : World} {S : Nat → Prop} {l : List DSEdge} {v : Value} (h : SEdgeR w S l v) : ∃ a cap, v = .slice a l.length cap ∧ l.length ≤ maxLen := by
  obtain ⟨a, cap, b, off, hv, hc, hm, _⟩ := h
  exact ⟨_, _, hv, by omega⟩
/-- .. in rows of their own, in blocks of S. -/
def SEdgeRO (w : World) (S : Nat → Prop) (l : List DSEdge) (v : Value) : Prop :=
  ∃ (b : Nat) (f : Nat → Value), v = .slice (some ⟨b, 0, none⟩) l.length l.length ∧ S b ∧ l.length ≤ 1048576 ∧ w.rowIs b 74 (l.length * 3) f ∧ (∀ i (hi : i < l.length), f (i * 3) = .int .i64 l[i].from_ ∧ f (i * 3 + 1) = .int .i64 l[i].to_ ∧ f (i * 3 + 2) = .int .i64 l[i].kind)
theorem SEdgeRO.keep {w w' : World} {S : Nat → Prop} {l : List DSEdge} {v : Value} (h : SEdgeRO w S l v) (hb : ∀ b, S b → b < w.heap.size → w'.heap[b]? = w.heap[b]?) : SEdgeRO w' S l v := by
  obtain ⟨b, f, hv, hS, hn, hr, hf⟩ := h
  exact ⟨b, f, hv, hS, hn, World.rowIs.of_block hr (hb b hS (World.rowIs.lt hr)), hf⟩
theorem SEdgeRO.still {w w' : World} {S : Nat → Prop} {l : List DSEdge} {v : Value} (h : SEdgeRO w S l v) (hb : Below w.heap.size w w') : SEdgeRO w' S l v := h.keep (fun b _ hlt => hb.block b hlt)
theorem SEdgeRO.mono {w : World} {S S' : Nat → Prop} {l : List DSEdge} {v : Value} (h : SEdgeRO w S l v) (hS : ∀ b, S b → S' b) : SEdgeRO w S' l v := by
  obtain ⟨b, f, hv, h1, hn, hr, hf⟩ := h
  exact ⟨b, f, hv, hS _ h1, hn, hr, hf⟩
theorem SEdgeRO.form {w : World} {S : Nat → Prop} {l : List DSEdge} {v : Value} (h : SEdgeRO w S l v) : ∃ a cap, v = .slice a l.length cap ∧ l.length ≤ maxLen := by
  obtain ⟨b, f, hv, h1, hn, _⟩ := h
  exact ⟨_, _, hv, by unfold maxLen; omega⟩
theorem SEdgeRO.top {w : World} {S : Nat → Prop} {l : List DSEdge} {v : Value} (h : SEdgeRO w S l v) : SEdgeRO w (fun b => S b ∧ b < w.heap.size) l v := by
  obtain ⟨b, f, hv, h1, hn, hr, hf⟩ := h
  exact ⟨b, f, hv, ⟨h1, World.rowIs.lt hr⟩, hn, hr, hf⟩
theorem SEdgeRO.lies {w : World} {S : Nat → Prop} {l : List DSEdge} {v : Value} (h : SEdgeRO w S l v) : SEdgeR w S l v := by
  obtain ⟨b, f, hv, h1, hn, hr, hf⟩ := h
  refine ⟨_, _, b, 0, hv, Nat.le_refl _, by unfold maxLen; omega, fun _ => ⟨rfl, h1⟩, fun i hi => ?_⟩
  obtain ⟨g0, g1, g2⟩ := hf i hi
  exact ⟨by rw [Nat.zero_add, hr.cell (by omega), g0], by rw [Nat.zero_add, hr.cell (by omega), g1], by rw [Nat.zero_add, hr.cell (by omega), g2]⟩
structure DSpot where
  scope : Int
  name : ByteArray
def SpotR (w : World) (S : Nat → Prop) (l : List DSpot) (v : Value) : Prop :=
  ∃ (a : Option Addr) (cap b off : Nat), v = .slice a l.length cap ∧ l.length ≤ cap ∧ cap ≤ maxLen ∧ (0 < l.length → a = some ⟨b, off, none⟩ ∧ S b) ∧ (∀ i (hi : i < l.length), w.cell? ⟨b, off + i * 2, none⟩ = some (.int .i64 l[i].scope) ∧ w.cell? ⟨b, off + i * 2 + 1, none⟩ = some (.string l[i].name) ∧ l[i].name.size ≤ maxLen)
theorem SpotR.keep {w w' : World} {S : Nat → Prop} {l : List DSpot} {v : Value} (h : SpotR w S l v) (hb : ∀ b, S b → b < w.heap.size → w'.heap[b]? = w.heap[b]?) : SpotR w' S l v := by
  obtain ⟨a, cap, b, off, hv, hc, hm, ha, hcell⟩ := h
  refine ⟨a, cap, b, off, hv, hc, hm, ha, fun i hi => ?_⟩
  obtain ⟨c0, c1, z0⟩ := hcell i hi
  have hbk := hb b (ha (by omega)).2 (lt_of_cell c0)
  exact ⟨(World.cell?_of_block (w := w) hbk).trans c0, (World.cell?_of_block (w := w) hbk).trans c1, z0⟩
theorem SpotR.still {w w' : World} {S : Nat → Prop} {l : List DSpot} {v : Value} (h : SpotR w S l v) (hb : Below w.heap.size w w') : SpotR w' S l v := h.keep (fun b _ hlt => hb.block b hlt)
theorem SpotR.mono {w : World} {S S' : Nat → Prop} {l : List DSpot} {v : Value} (h : SpotR w S l v) (hS : ∀ b, S b → S' b) : SpotR w S' l v := by
  obtain ⟨a, cap, b, off, hv, hc, hm, ha, hcell⟩ := h
  exact ⟨a, cap, b, off, hv, hc, hm, fun h0 => ⟨(ha h0).1, hS _ (ha h0).2⟩, hcell⟩
theorem SpotR.form {w : World} {S : Nat → Prop} {l : List DSpot} {v : Value} (h : SpotR w S l v) : ∃ a cap, v = .slice a l.length cap ∧ l.length ≤ maxLen := by
  obtain ⟨a, cap, b, off, hv, hc, hm, _⟩ := h
  exact ⟨_, _, hv, by omega⟩
/-- .. in rows of their own, in blocks of S. -/
def SpotRO (w : World) (S : Nat → Prop) (l : List DSpot) (v : Value) : Prop :=
  ∃ (b : Nat) (f : Nat → Value), v = .slice (some ⟨b, 0, none⟩) l.length l.length ∧ S b ∧ l.length ≤ 1048576 ∧ w.rowIs b 33 (l.length * 2) f ∧ (∀ i (hi : i < l.length), f (i * 2) = .int .i64 l[i].scope ∧ f (i * 2 + 1) = .string l[i].name ∧ l[i].name.size ≤ maxLen)
theorem SpotRO.keep {w w' : World} {S : Nat → Prop} {l : List DSpot} {v : Value} (h : SpotRO w S l v) (hb : ∀ b, S b → b < w.heap.size → w'.heap[b]? = w.heap[b]?) : SpotRO w' S l v := by
  obtain ⟨b, f, hv, hS, hn, hr, hf⟩ := h
  exact ⟨b, f, hv, hS, hn, World.rowIs.of_block hr (hb b hS (World.rowIs.lt hr)), hf⟩
theorem SpotRO.still {w w' : World} {S : Nat → Prop} {l : List DSpot} {v : Value} (h : SpotRO w S l v) (hb : Below w.heap.size w w') : SpotRO w' S l v := h.keep (fun b _ hlt => hb.block b hlt)
theorem SpotRO.mono {w : World} {S S' : Nat → Prop} {l : List DSpot} {v : Value} (h : SpotRO w S l v) (hS : ∀ b, S b → S' b) : SpotRO w S' l v := by
  obtain ⟨b, f, hv, h1, hn, hr, hf⟩ := h
  exact ⟨b, f, hv, hS _ h1, hn, hr, hf⟩
theorem SpotRO.form {w : World} {S : Nat → Prop} {l : List DSpot} {v : Value} (h : SpotRO w S l v) : ∃ a cap, v = .slice a l.length cap ∧ l.length ≤ maxLen := by
  obtain ⟨b, f, hv, h1, hn, _⟩ := h
  exact ⟨_, _, hv, by unfold maxLen; omega⟩
theorem SpotRO.top {w : World} {S : Nat → Prop} {l : List DSpot} {v : Value} (h : SpotRO w S l v) : SpotRO w (fun b => S b ∧ b < w.heap.size) l v := by
  obtain ⟨b, f, hv, h1, hn, hr, hf⟩ := h
  exact ⟨b, f, hv, ⟨h1, World.rowIs.lt hr⟩, hn, hr, hf⟩
theorem SpotRO.lies {w : World} {S : Nat → Prop} {l : List DSpot} {v : Value} (h : SpotRO w S l v) : SpotR w S l v := by
  obtain ⟨b, f, hv, h1, hn, hr, hf⟩ := h
  refine ⟨_, _, b, 0, hv, Nat.le_refl _, by unfold maxLen; omega, fun _ => ⟨rfl, h1⟩, fun i hi => ?_⟩
  obtain ⟨g0, g1, z0⟩ := hf i hi
  exact ⟨by rw [Nat.zero_add, hr.cell (by omega), g0], by rw [Nat.zero_add, hr.cell (by omega), g1], z0⟩
structure DSg where
  scopes : Int
  edges : List DSEdge
  decls : List DSpot
  refs : List DSpot
/-- Its slices. -/
structure DSgL (w : World) (S : Nat → Prop) (t : DSg) (v1 v2 v3 : Value) : Prop where
  edges : SEdgeR w S t.edges v1
  decls : SpotR w S t.decls v2
  refs : SpotR w S t.refs v3
theorem DSgL.keep {w w' : World} {S : Nat → Prop} {t : DSg} {v1 v2 v3 : Value} (h : DSgL w S t v1 v2 v3) (hb : ∀ b, S b → b < w.heap.size → w'.heap[b]? = w.heap[b]?) : DSgL w' S t v1 v2 v3 := ⟨h.edges.keep hb, h.decls.keep hb, h.refs.keep hb⟩
theorem DSgL.still {w w' : World} {S : Nat → Prop} {t : DSg} {v1 v2 v3 : Value} (h : DSgL w S t v1 v2 v3) (hb : Below w.heap.size w w') : DSgL w' S t v1 v2 v3 := ⟨h.edges.still hb, h.decls.still hb, h.refs.still hb⟩
theorem DSgL.mono {w : World} {S S' : Nat → Prop} {t : DSg} {v1 v2 v3 : Value} (h : DSgL w S t v1 v2 v3) (hS : ∀ b, S b → S' b) : DSgL w S' t v1 v2 v3 := ⟨h.edges.mono hS, h.decls.mono hS, h.refs.mono hS⟩
/-- Its slices. -/
structure DSgO (w : World) (S : Nat → Prop) (t : DSg) (v1 v2 v3 : Value) : Prop where
  edges : SEdgeRO w S t.edges v1
  decls : SpotRO w S t.decls v2
  refs : SpotRO w S t.refs v3
theorem DSgO.keep {w w' : World} {S : Nat → Prop} {t : DSg} {v1 v2 v3 : Value} (h : DSgO w S t v1 v2 v3) (hb : ∀ b, S b → b < w.heap.size → w'.heap[b]? = w.heap[b]?) : DSgO w' S t v1 v2 v3 := ⟨h.edges.keep hb, h.decls.keep hb, h.refs.keep hb⟩
theorem DSgO.still {w w' : World} {S : Nat → Prop} {t : DSg} {v1 v2 v3 : Value} (h : DSgO w S t v1 v2 v3) (hb : Below w.heap.size w w') : DSgO w' S t v1 v2 v3 := ⟨h.edges.still hb, h.decls.still hb, h.refs.still hb⟩
theorem DSgO.mono {w : World} {S S' : Nat → Prop} {t : DSg} {v1 v2 v3 : Value} (h : DSgO w S t v1 v2 v3) (hS : ∀ b, S b → S' b) : DSgO w S' t v1 v2 v3 := ⟨h.edges.mono hS, h.decls.mono hS, h.refs.mono hS⟩
theorem DSgO.lies {w : World} {S : Nat → Prop} {t : DSg} {v1 v2 v3 : Value} (h : DSgO w S t v1 v2 v3) : DSgL w S t v1 v2 v3 := ⟨h.edges.lies, h.decls.lies, h.refs.lies⟩
theorem DSgO.top {w : World} {S : Nat → Prop} {t : DSg} {v1 v2 v3 : Value} (h : DSgO w S t v1 v2 v3) : DSgO w (fun b => S b ∧ b < w.heap.size) t v1 v2 v3 := ⟨h.edges.top, h.decls.top, h.refs.top⟩
def Ints.Sm (l : List Int) : Prop := l.length ≤ 1048576
def Strs.Sm (l : List ByteArray) : Prop := l.length ≤ 1048576 ∧ ∀ i (hi : i < l.length), l[i].size ≤ 1048576
def IRws.Sm (l : List (List Int)) : Prop := l.length ≤ 1048576 ∧ ∀ i (hi : i < l.length), Ints.Sm l[i]
structure DSEdge.Sm (t : DSEdge) : Prop where
def SEdgeR.Sm (l : List DSEdge) : Prop := l.length ≤ 1048576 ∧ ∀ i (hi : i < l.length), l[i].Sm
structure DSpot.Sm (t : DSpot) : Prop where
  name : t.name.size ≤ 1048576
def SpotR.Sm (l : List DSpot) : Prop := l.length ≤ 1048576 ∧ ∀ i (hi : i < l.length), l[i].Sm
structure DSg.Sm (t : DSg) : Prop where
  edges : SEdgeR.Sm t.edges
  decls : SpotR.Sm t.decls
  refs : SpotR.Sm t.refs
end Go.Proofs.Ytledclkmeikgdaa
