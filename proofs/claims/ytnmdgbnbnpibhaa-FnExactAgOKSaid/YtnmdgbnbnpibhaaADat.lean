import Derived.Test.YtnmdgbnbnpibhaaAKit
namespace Go.Proofs.Ytnmdgbnbnpibhaa
open Go.RowKit Go.Deep
set_option linter.unusedVariables false
set_option maxRecDepth 100000
set_option linter.unusedSimpArgs false

/-- Numbers in a row of their own. -/
def IntsO (w : World) (S : Nat → Prop) (l : List Int) (v : Value) : Prop :=
  ∃ (b : Nat) (f : Nat → Value), v = .slice (some ⟨b, 0, none⟩) l.length l.length ∧ S b ∧ l.length ≤ 1048576 ∧ w.rowIs b 3 l.length f ∧ (∀ i (hi : i < l.length), f (i) = .int .i64 l[i])
theorem IntsO.keep {w w' : World} {S : Nat → Prop} {l : List Int} {v : Value} (h : IntsO w S l v) (hb : ∀ b, S b → b < w.heap.size → w'.heap[b]? = w.heap[b]?) : IntsO w' S l v := by
  obtain ⟨b, f, hv, hS, hn, hr, hf⟩ := h
  exact ⟨b, f, hv, hS, hn, World.rowIs.of_block hr (hb b hS (World.rowIs.lt hr)), hf⟩
theorem IntsO.still {w w' : World} {S : Nat → Prop} {l : List Int} {v : Value} (h : IntsO w S l v) (hb : Below w.heap.size w w') : IntsO w' S l v := h.keep (fun b _ hlt => hb.block b hlt)
theorem IntsO.mono {w : World} {S S' : Nat → Prop} {l : List Int} {v : Value} (h : IntsO w S l v) (hS : ∀ b, S b → S' b) : IntsO w S' l v := by
  obtain ⟨b, f, hv, h1, hn, hr, hf⟩ := h
  exact ⟨b, f, hv, hS _ h1, hn, hr, hf⟩
theorem IntsO.form {w : World} {S : Nat → Prop} {l : List Int} {v : Value} (h : IntsO w S l v) : ∃ a cap, v = .slice a l.length cap ∧ l.length ≤ maxLen := by
  obtain ⟨b, f, hv, h1, hn, _⟩ := h
  exact ⟨_, _, hv, by unfold maxLen; omega⟩
theorem IntsO.top {w : World} {S : Nat → Prop} {l : List Int} {v : Value} (h : IntsO w S l v) : IntsO w (fun b => S b ∧ b < w.heap.size) l v := by
  obtain ⟨b, f, hv, h1, hn, hr, hf⟩ := h
  exact ⟨b, f, hv, ⟨h1, World.rowIs.lt hr⟩, hn, hr, hf⟩
theorem IntsO.lies {w : World} {S : Nat → Prop} {l : List Int} {v : Value} (h : IntsO w S l v) : Ints w S l v := by
  obtain ⟨b, f, hv, h1, hn, hr, hf⟩ := h
  refine ⟨_, _, b, 0, hv, Nat.le_refl _, by unfold maxLen; omega, fun _ => ⟨rfl, h1⟩, fun i hi => ?_⟩
  have g0 := hf i hi
  exact by rw [Nat.zero_add, hr.cell (by omega), g0]
def StrsG (w : World) (S : Nat → Prop) (l : List ByteArray) (v : Value) : Prop :=
  ∃ (a : Option Addr) (cap b off : Nat), v = .slice a l.length cap ∧ l.length ≤ cap ∧ cap ≤ maxLen ∧ (0 < l.length → a = some ⟨b, off, none⟩ ∧ S b) ∧ (∀ i (hi : i < l.length), w.cell? ⟨b, off + i, none⟩ = some (.string l[i]) ∧ l[i].size ≤ maxLen)
theorem StrsG.keep {w w' : World} {S : Nat → Prop} {l : List ByteArray} {v : Value} (h : StrsG w S l v) (hb : ∀ b, S b → b < w.heap.size → w'.heap[b]? = w.heap[b]?) : StrsG w' S l v := by
  obtain ⟨a, cap, b, off, hv, hc, hm, ha, hcell⟩ := h
  refine ⟨a, cap, b, off, hv, hc, hm, ha, fun i hi => ?_⟩
  obtain ⟨c0, z0⟩ := hcell i hi
  have hbk := hb b (ha (by omega)).2 (lt_of_cell c0)
  exact ⟨(World.cell?_of_block (w := w) hbk).trans c0, z0⟩
theorem StrsG.still {w w' : World} {S : Nat → Prop} {l : List ByteArray} {v : Value} (h : StrsG w S l v) (hb : Below w.heap.size w w') : StrsG w' S l v := h.keep (fun b _ hlt => hb.block b hlt)
theorem StrsG.mono {w : World} {S S' : Nat → Prop} {l : List ByteArray} {v : Value} (h : StrsG w S l v) (hS : ∀ b, S b → S' b) : StrsG w S' l v := by
  obtain ⟨a, cap, b, off, hv, hc, hm, ha, hcell⟩ := h
  exact ⟨a, cap, b, off, hv, hc, hm, fun h0 => ⟨(ha h0).1, hS _ (ha h0).2⟩, hcell⟩
theorem StrsG.form {w : World} {S : Nat → Prop} {l : List ByteArray} {v : Value} (h : StrsG w S l v) : ∃ a cap, v = .slice a l.length cap ∧ l.length ≤ maxLen := by
  obtain ⟨a, cap, b, off, hv, hc, hm, _⟩ := h
  exact ⟨_, _, hv, by omega⟩
/-- .. in rows of their own, in blocks of S. -/
def StrsO (w : World) (S : Nat → Prop) (l : List ByteArray) (v : Value) : Prop :=
  ∃ (b : Nat) (f : Nat → Value), v = .slice (some ⟨b, 0, none⟩) l.length l.length ∧ S b ∧ l.length ≤ 1048576 ∧ w.rowIs b 9 (l.length) f ∧ (∀ i (hi : i < l.length), f (i) = .string l[i] ∧ l[i].size ≤ maxLen)
theorem StrsO.keep {w w' : World} {S : Nat → Prop} {l : List ByteArray} {v : Value} (h : StrsO w S l v) (hb : ∀ b, S b → b < w.heap.size → w'.heap[b]? = w.heap[b]?) : StrsO w' S l v := by
  obtain ⟨b, f, hv, hS, hn, hr, hf⟩ := h
  exact ⟨b, f, hv, hS, hn, World.rowIs.of_block hr (hb b hS (World.rowIs.lt hr)), hf⟩
theorem StrsO.still {w w' : World} {S : Nat → Prop} {l : List ByteArray} {v : Value} (h : StrsO w S l v) (hb : Below w.heap.size w w') : StrsO w' S l v := h.keep (fun b _ hlt => hb.block b hlt)
theorem StrsO.mono {w : World} {S S' : Nat → Prop} {l : List ByteArray} {v : Value} (h : StrsO w S l v) (hS : ∀ b, S b → S' b) : StrsO w S' l v := by
  obtain ⟨b, f, hv, h1, hn, hr, hf⟩ := h
  exact ⟨b, f, hv, hS _ h1, hn, hr, hf⟩
theorem StrsO.form {w : World} {S : Nat → Prop} {l : List ByteArray} {v : Value} (h : StrsO w S l v) : ∃ a cap, v = .slice a l.length cap ∧ l.length ≤ maxLen := by
  obtain ⟨b, f, hv, h1, hn, _⟩ := h
  exact ⟨_, _, hv, by unfold maxLen; omega⟩
theorem StrsO.top {w : World} {S : Nat → Prop} {l : List ByteArray} {v : Value} (h : StrsO w S l v) : StrsO w (fun b => S b ∧ b < w.heap.size) l v := by
  obtain ⟨b, f, hv, h1, hn, hr, hf⟩ := h
  exact ⟨b, f, hv, ⟨h1, World.rowIs.lt hr⟩, hn, hr, hf⟩
theorem StrsO.lies {w : World} {S : Nat → Prop} {l : List ByteArray} {v : Value} (h : StrsO w S l v) : StrsG w S l v := by
  obtain ⟨b, f, hv, h1, hn, hr, hf⟩ := h
  refine ⟨_, _, b, 0, hv, Nat.le_refl _, by unfold maxLen; omega, fun _ => ⟨rfl, h1⟩, fun i hi => ?_⟩
  obtain ⟨g0, z0⟩ := hf i hi
  exact ⟨by rw [Nat.zero_add, hr.cell (by omega), g0], z0⟩
def IRws (w : World) (S : Nat → Prop) (l : List (List Int)) (v : Value) : Prop :=
  ∃ (a : Option Addr) (cap b off : Nat) (s0 : Nat → Value), v = .slice a l.length cap ∧ l.length ≤ cap ∧ cap ≤ maxLen ∧ (0 < l.length → a = some ⟨b, off, none⟩ ∧ S b) ∧ (∀ i (hi : i < l.length), w.cell? ⟨b, off + i, none⟩ = some (s0 i)) ∧ (∀ i (hi : i < l.length), Ints w S l[i] (s0 i))
theorem IRws.keep {w w' : World} {S : Nat → Prop} {l : List (List Int)} {v : Value} (h : IRws w S l v) (hb : ∀ b, S b → b < w.heap.size → w'.heap[b]? = w.heap[b]?) : IRws w' S l v := by
  obtain ⟨a, cap, b, off, s0, hv, hc, hm, ha, hcell, r0⟩ := h
  refine ⟨a, cap, b, off, s0, hv, hc, hm, ha, fun i hi => ?_, fun i hi => (r0 i hi).keep hb⟩
  have c0 := hcell i hi
  exact (World.cell?_of_block (w := w) (hb b (ha (by omega)).2 (lt_of_cell c0))).trans c0
theorem IRws.still {w w' : World} {S : Nat → Prop} {l : List (List Int)} {v : Value} (h : IRws w S l v) (hb : Below w.heap.size w w') : IRws w' S l v := h.keep (fun b _ hlt => hb.block b hlt)
theorem IRws.mono {w : World} {S S' : Nat → Prop} {l : List (List Int)} {v : Value} (h : IRws w S l v) (hS : ∀ b, S b → S' b) : IRws w S' l v := by
  obtain ⟨a, cap, b, off, s0, hv, hc, hm, ha, hcell, r0⟩ := h
  exact ⟨a, cap, b, off, s0, hv, hc, hm, fun h0 => ⟨(ha h0).1, hS _ (ha h0).2⟩, hcell, fun i hi => (r0 i hi).mono hS⟩
theorem IRws.form {w : World} {S : Nat → Prop} {l : List (List Int)} {v : Value} (h : IRws w S l v) : ∃ a cap, v = .slice a l.length cap ∧ l.length ≤ maxLen := by
  obtain ⟨a, cap, b, off, _, hv, hc, hm, _⟩ := h
  exact ⟨_, _, hv, by omega⟩
/-- .. in rows of their own, in blocks of S. -/
def IRwsO (w : World) (S : Nat → Prop) (l : List (List Int)) (v : Value) : Prop :=
  ∃ (b : Nat) (f : Nat → Value), v = .slice (some ⟨b, 0, none⟩) l.length l.length ∧ S b ∧ l.length ≤ 1048576 ∧ w.rowIs b 65 (l.length) f ∧ (∀ i (hi : i < l.length), IntsO w S l[i] (f (i)))
theorem IRwsO.keep {w w' : World} {S : Nat → Prop} {l : List (List Int)} {v : Value} (h : IRwsO w S l v) (hb : ∀ b, S b → b < w.heap.size → w'.heap[b]? = w.heap[b]?) : IRwsO w' S l v := by
  obtain ⟨b, f, hv, hS, hn, hr, r0⟩ := h
  exact ⟨b, f, hv, hS, hn, World.rowIs.of_block hr (hb b hS (World.rowIs.lt hr)), fun i hi => (r0 i hi).keep hb⟩
theorem IRwsO.still {w w' : World} {S : Nat → Prop} {l : List (List Int)} {v : Value} (h : IRwsO w S l v) (hb : Below w.heap.size w w') : IRwsO w' S l v := h.keep (fun b _ hlt => hb.block b hlt)
theorem IRwsO.mono {w : World} {S S' : Nat → Prop} {l : List (List Int)} {v : Value} (h : IRwsO w S l v) (hS : ∀ b, S b → S' b) : IRwsO w S' l v := by
  obtain ⟨b, f, hv, h1, hn, hr, r0⟩ := h
  exact ⟨b, f, hv, hS _ h1, hn, hr, fun i hi => (r0 i hi).mono hS⟩
theorem IRwsO.form {w : World} {S : Nat → Prop} {l : List (List Int)} {v : Value} (h : IRwsO w S l v) : ∃ a cap, v = .slice a l.length cap ∧ l.length ≤ maxLen := by
  obtain ⟨b, f, hv, h1, hn, _⟩ := h
  exact ⟨_, _, hv, by unfold maxLen; omega⟩
theorem IRwsO.top {w : World} {S : Nat → Prop} {l : List (List Int)} {v : Value} (h : IRwsO w S l v) : IRwsO w (fun b => S b ∧ b < w.heap.size) l v := by
  obtain ⟨b, f, hv, h1, hn, hr, r0⟩ := h
  exact ⟨b, f, hv, ⟨h1, World.rowIs.lt hr⟩, hn, hr, fun i hi => (r0 i hi).top⟩
theorem IRwsO.lies {w : World} {S : Nat → Prop} {l : List (List Int)} {v : Value} (h : IRwsO w S l v) : IRws w S l v := by
  obtain ⟨b, f, hv, h1, hn, hr, r0⟩ := h
  refine ⟨_, _, b, 0, fun i => f (i), hv, Nat.le_refl _, by unfold maxLen; omega, fun _ => ⟨rfl, h1⟩, fun i hi => ?_, fun i hi => (r0 i hi).lies⟩
  exact by rw [Nat.zero_add, hr.cell (by omega)]
structure DAttr where
  non : Int
  name : ByteArray
  down : Bool
def AttrR (w : World) (S : Nat → Prop) (l : List DAttr) (v : Value) : Prop :=
  ∃ (a : Option Addr) (cap b off : Nat), v = .slice a l.length cap ∧ l.length ≤ cap ∧ cap ≤ maxLen ∧ (0 < l.length → a = some ⟨b, off, none⟩ ∧ S b) ∧ (∀ i (hi : i < l.length), w.cell? ⟨b, off + i * 3, none⟩ = some (.int .i64 l[i].non) ∧ w.cell? ⟨b, off + i * 3 + 1, none⟩ = some (.string l[i].name) ∧ w.cell? ⟨b, off + i * 3 + 2, none⟩ = some (.bool l[i].down) ∧ l[i].name.size ≤ maxLen)
theorem AttrR.keep {w w' : World} {S : Nat → Prop} {l : List DAttr} {v : Value} (h : AttrR w S l v) (hb : ∀ b, S b → b < w.heap.size → w'.heap[b]? = w.heap[b]?) : AttrR w' S l v := by
  obtain ⟨a, cap, b, off, hv, hc, hm, ha, hcell⟩ := h
  refine ⟨a, cap, b, off, hv, hc, hm, ha, fun i hi => ?_⟩
  obtain ⟨c0, c1, c2, z0⟩ := hcell i hi
  have hbk := hb b (ha (by omega)).2 (lt_of_cell c0)
  exact ⟨(World.cell?_of_block (w := w) hbk).trans c0, (World.cell?_of_block (w := w) hbk).trans c1, (World.cell?_of_block (w := w) hbk).trans c2, z0⟩
theorem AttrR.still {w w' : World} {S : Nat → Prop} {l : List DAttr} {v : Value} (h : AttrR w S l v) (hb : Below w.heap.size w w') : AttrR w' S l v := h.keep (fun b _ hlt => hb.block b hlt)
theorem AttrR.mono {w : World} {S S' : Nat → Prop} {l : List DAttr} {v : Value} (h : AttrR w S l v) (hS : ∀ b, S b → S' b) : AttrR w S' l v := by
  obtain ⟨a, cap, b, off, hv, hc, hm, ha, hcell⟩ := h
  exact ⟨a, cap, b, off, hv, hc, hm, fun h0 => ⟨(ha h0).1, hS _ (ha h0).2⟩, hcell⟩
theorem AttrR.form {w : World} {S : Nat → Prop} {l : List DAttr} {v : Value} (h : AttrR w S l v) : ∃ a cap, v = .slice a l.length cap ∧ l.length ≤ maxLen := by
  obtain ⟨a, cap, b, off, hv, hc, hm, _⟩ := h
  exact ⟨_, _, hv, by omega⟩
/-- .. in rows of their own, in blocks of S. -/
def AttrRO (w : World) (S : Nat → Prop) (l : List DAttr) (v : Value) : Prop :=
  ∃ (b : Nat) (f : Nat → Value), v = .slice (some ⟨b, 0, none⟩) l.length l.length ∧ S b ∧ l.length ≤ 1048576 ∧ w.rowIs b 54 (l.length * 3) f ∧ (∀ i (hi : i < l.length), f (i * 3) = .int .i64 l[i].non ∧ f (i * 3 + 1) = .string l[i].name ∧ f (i * 3 + 2) = .bool l[i].down ∧ l[i].name.size ≤ maxLen)
theorem AttrRO.keep {w w' : World} {S : Nat → Prop} {l : List DAttr} {v : Value} (h : AttrRO w S l v) (hb : ∀ b, S b → b < w.heap.size → w'.heap[b]? = w.heap[b]?) : AttrRO w' S l v := by
  obtain ⟨b, f, hv, hS, hn, hr, hf⟩ := h
  exact ⟨b, f, hv, hS, hn, World.rowIs.of_block hr (hb b hS (World.rowIs.lt hr)), hf⟩
theorem AttrRO.still {w w' : World} {S : Nat → Prop} {l : List DAttr} {v : Value} (h : AttrRO w S l v) (hb : Below w.heap.size w w') : AttrRO w' S l v := h.keep (fun b _ hlt => hb.block b hlt)
theorem AttrRO.mono {w : World} {S S' : Nat → Prop} {l : List DAttr} {v : Value} (h : AttrRO w S l v) (hS : ∀ b, S b → S' b) : AttrRO w S' l v := by
  obtain ⟨b, f, hv, h1, hn, hr, hf⟩ := h
  exact ⟨b, f, hv, hS _ h1, hn, hr, hf⟩
theorem AttrRO.form {w : World} {S : Nat → Prop} {l : List DAttr} {v : Value} (h : AttrRO w S l v) : ∃ a cap, v = .slice a l.length cap ∧ l.length ≤ maxLen := by
  obtain ⟨b, f, hv, h1, hn, _⟩ := h
  exact ⟨_, _, hv, by unfold maxLen; omega⟩
theorem AttrRO.top {w : World} {S : Nat → Prop} {l : List DAttr} {v : Value} (h : AttrRO w S l v) : AttrRO w (fun b => S b ∧ b < w.heap.size) l v := by
  obtain ⟨b, f, hv, h1, hn, hr, hf⟩ := h
  exact ⟨b, f, hv, ⟨h1, World.rowIs.lt hr⟩, hn, hr, hf⟩
theorem AttrRO.lies {w : World} {S : Nat → Prop} {l : List DAttr} {v : Value} (h : AttrRO w S l v) : AttrR w S l v := by
  obtain ⟨b, f, hv, h1, hn, hr, hf⟩ := h
  refine ⟨_, _, b, 0, hv, Nat.le_refl _, by unfold maxLen; omega, fun _ => ⟨rfl, h1⟩, fun i hi => ?_⟩
  obtain ⟨g0, g1, g2, z0⟩ := hf i hi
  exact ⟨by rw [Nat.zero_add, hr.cell (by omega), g0], by rw [Nat.zero_add, hr.cell (by omega), g1], by rw [Nat.zero_add, hr.cell (by omega), g2], z0⟩
structure DRef where
  pos : Int
  attr : Int
  n : Int
def RefR (w : World) (S : Nat → Prop) (l : List DRef) (v : Value) : Prop :=
  ∃ (a : Option Addr) (cap b off : Nat), v = .slice a l.length cap ∧ l.length ≤ cap ∧ cap ≤ maxLen ∧ (0 < l.length → a = some ⟨b, off, none⟩ ∧ S b) ∧ (∀ i (hi : i < l.length), w.cell? ⟨b, off + i * 3, none⟩ = some (.int .i64 l[i].pos) ∧ w.cell? ⟨b, off + i * 3 + 1, none⟩ = some (.int .i64 l[i].attr) ∧ w.cell? ⟨b, off + i * 3 + 2, none⟩ = some (.int .i64 l[i].n))
theorem RefR.keep {w w' : World} {S : Nat → Prop} {l : List DRef} {v : Value} (h : RefR w S l v) (hb : ∀ b, S b → b < w.heap.size → w'.heap[b]? = w.heap[b]?) : RefR w' S l v := by
  obtain ⟨a, cap, b, off, hv, hc, hm, ha, hcell⟩ := h
  refine ⟨a, cap, b, off, hv, hc, hm, ha, fun i hi => ?_⟩
  obtain ⟨c0, c1, c2⟩ := hcell i hi
  have hbk := hb b (ha (by omega)).2 (lt_of_cell c0)
  exact ⟨(World.cell?_of_block (w := w) hbk).trans c0, (World.cell?_of_block (w := w) hbk).trans c1, (World.cell?_of_block (w := w) hbk).trans c2⟩
theorem RefR.still {w w' : World} {S : Nat → Prop} {l : List DRef} {v : Value} (h : RefR w S l v) (hb : Below w.heap.size w w') : RefR w' S l v := h.keep (fun b _ hlt => hb.block b hlt)
theorem RefR.mono {w : World} {S S' : Nat → Prop} {l : List DRef} {v : Value} (h : RefR w S l v) (hS : ∀ b, S b → S' b) : RefR w S' l v := by
  obtain ⟨a, cap, b, off, hv, hc, hm, ha, hcell⟩ := h
  exact ⟨a, cap, b, off, hv, hc, hm, fun h0 => ⟨(ha h0).1, hS _ (ha h0).2⟩, hcell⟩
theorem RefR.form {w : World} {S : Nat → Prop} {l : List DRef} {v : Value} (h : RefR w S l v) : ∃ a cap, v = .slice a l.length cap ∧ l.length ≤ maxLen := by
  obtain ⟨a, cap, b, off, hv, hc, hm, _⟩ := h
  exact ⟨_, _, hv, by omega⟩
/-- .. in rows of their own, in blocks of S. -/
def RefRO (w : World) (S : Nat → Prop) (l : List DRef) (v : Value) : Prop :=
  ∃ (b : Nat) (f : Nat → Value), v = .slice (some ⟨b, 0, none⟩) l.length l.length ∧ S b ∧ l.length ≤ 1048576 ∧ w.rowIs b 64 (l.length * 3) f ∧ (∀ i (hi : i < l.length), f (i * 3) = .int .i64 l[i].pos ∧ f (i * 3 + 1) = .int .i64 l[i].attr ∧ f (i * 3 + 2) = .int .i64 l[i].n)
theorem RefRO.keep {w w' : World} {S : Nat → Prop} {l : List DRef} {v : Value} (h : RefRO w S l v) (hb : ∀ b, S b → b < w.heap.size → w'.heap[b]? = w.heap[b]?) : RefRO w' S l v := by
  obtain ⟨b, f, hv, hS, hn, hr, hf⟩ := h
  exact ⟨b, f, hv, hS, hn, World.rowIs.of_block hr (hb b hS (World.rowIs.lt hr)), hf⟩
theorem RefRO.still {w w' : World} {S : Nat → Prop} {l : List DRef} {v : Value} (h : RefRO w S l v) (hb : Below w.heap.size w w') : RefRO w' S l v := h.keep (fun b _ hlt => hb.block b hlt)
theorem RefRO.mono {w : World} {S S' : Nat → Prop} {l : List DRef} {v : Value} (h : RefRO w S l v) (hS : ∀ b, S b → S' b) : RefRO w S' l v := by
  obtain ⟨b, f, hv, h1, hn, hr, hf⟩ := h
  exact ⟨b, f, hv, hS _ h1, hn, hr, hf⟩
theorem RefRO.form {w : World} {S : Nat → Prop} {l : List DRef} {v : Value} (h : RefRO w S l v) : ∃ a cap, v = .slice a l.length cap ∧ l.length ≤ maxLen := by
  obtain ⟨b, f, hv, h1, hn, _⟩ := h
  exact ⟨_, _, hv, by unfold maxLen; omega⟩
theorem RefRO.top {w : World} {S : Nat → Prop} {l : List DRef} {v : Value} (h : RefRO w S l v) : RefRO w (fun b => S b ∧ b < w.heap.size) l v := by
  obtain ⟨b, f, hv, h1, hn, hr, hf⟩ := h
  exact ⟨b, f, hv, ⟨h1, World.rowIs.lt hr⟩, hn, hr, hf⟩
theorem RefRO.lies {w : World} {S : Nat → Prop} {l : List DRef} {v : Value} (h : RefRO w S l v) : RefR w S l v := by
  obtain ⟨b, f, hv, h1, hn, hr, hf⟩ := h
  refine ⟨_, _, b, 0, hv, Nat.le_refl _, by unfold maxLen; omega, fun _ => ⟨rfl, h1⟩, fun i hi => ?_⟩
  obtain ⟨g0, g1, g2⟩ := hf i hi
  exact ⟨by rw [Nat.zero_add, hr.cell (by omega), g0], by rw [Nat.zero_add, hr.cell (by omega), g1], by rw [Nat.zero_add, hr.cell (by omega), g2]⟩
structure DEq where
  prod : Int
  pos : Int
  attr : Int
  op : Int
  args : List DRef
/-- Its slices. -/
structure DEqL (w : World) (S : Nat → Prop) (t : DEq) (v4 : Value) : Prop where
  args : RefR w S t.args v4
theorem DEqL.keep {w w' : World} {S : Nat → Prop} {t : DEq} {v4 : Value} (h : DEqL w S t v4) (hb : ∀ b, S b → b < w.heap.size → w'.heap[b]? = w.heap[b]?) : DEqL w' S t v4 := ⟨h.args.keep hb⟩
theorem DEqL.still {w w' : World} {S : Nat → Prop} {t : DEq} {v4 : Value} (h : DEqL w S t v4) (hb : Below w.heap.size w w') : DEqL w' S t v4 := ⟨h.args.still hb⟩
theorem DEqL.mono {w : World} {S S' : Nat → Prop} {t : DEq} {v4 : Value} (h : DEqL w S t v4) (hS : ∀ b, S b → S' b) : DEqL w S' t v4 := ⟨h.args.mono hS⟩
/-- Its slices. -/
structure DEqO (w : World) (S : Nat → Prop) (t : DEq) (v4 : Value) : Prop where
  args : RefRO w S t.args v4
theorem DEqO.keep {w w' : World} {S : Nat → Prop} {t : DEq} {v4 : Value} (h : DEqO w S t v4) (hb : ∀ b, S b → b < w.heap.size → w'.heap[b]? = w.heap[b]?) : DEqO w' S t v4 := ⟨h.args.keep hb⟩
theorem DEqO.still {w w' : World} {S : Nat → Prop} {t : DEq} {v4 : Value} (h : DEqO w S t v4) (hb : Below w.heap.size w w') : DEqO w' S t v4 := ⟨h.args.still hb⟩
theorem DEqO.mono {w : World} {S S' : Nat → Prop} {t : DEq} {v4 : Value} (h : DEqO w S t v4) (hS : ∀ b, S b → S' b) : DEqO w S' t v4 := ⟨h.args.mono hS⟩
theorem DEqO.lies {w : World} {S : Nat → Prop} {t : DEq} {v4 : Value} (h : DEqO w S t v4) : DEqL w S t v4 := ⟨h.args.lies⟩
theorem DEqO.top {w : World} {S : Nat → Prop} {t : DEq} {v4 : Value} (h : DEqO w S t v4) : DEqO w (fun b => S b ∧ b < w.heap.size) t v4 := ⟨h.args.top⟩
def EqR (w : World) (S : Nat → Prop) (l : List DEq) (v : Value) : Prop :=
  ∃ (a : Option Addr) (cap b off : Nat) (s4 : Nat → Value), v = .slice a l.length cap ∧ l.length ≤ cap ∧ cap ≤ maxLen ∧ (0 < l.length → a = some ⟨b, off, none⟩ ∧ S b) ∧ (∀ i (hi : i < l.length), w.cell? ⟨b, off + i * 5, none⟩ = some (.int .i64 l[i].prod) ∧ w.cell? ⟨b, off + i * 5 + 1, none⟩ = some (.int .i64 l[i].pos) ∧ w.cell? ⟨b, off + i * 5 + 2, none⟩ = some (.int .i64 l[i].attr) ∧ w.cell? ⟨b, off + i * 5 + 3, none⟩ = some (.int .i64 l[i].op) ∧ w.cell? ⟨b, off + i * 5 + 4, none⟩ = some (s4 i)) ∧ (∀ i (hi : i < l.length), RefR w S l[i].args (s4 i))
theorem EqR.keep {w w' : World} {S : Nat → Prop} {l : List DEq} {v : Value} (h : EqR w S l v) (hb : ∀ b, S b → b < w.heap.size → w'.heap[b]? = w.heap[b]?) : EqR w' S l v := by
  obtain ⟨a, cap, b, off, s4, hv, hc, hm, ha, hcell, r4⟩ := h
  refine ⟨a, cap, b, off, s4, hv, hc, hm, ha, fun i hi => ?_, fun i hi => (r4 i hi).keep hb⟩
  obtain ⟨c0, c1, c2, c3, c4⟩ := hcell i hi
  have hbk := hb b (ha (by omega)).2 (lt_of_cell c0)
  exact ⟨(World.cell?_of_block (w := w) hbk).trans c0, (World.cell?_of_block (w := w) hbk).trans c1, (World.cell?_of_block (w := w) hbk).trans c2, (World.cell?_of_block (w := w) hbk).trans c3, (World.cell?_of_block (w := w) hbk).trans c4⟩
theorem EqR.still {w w' : World} {S : Nat → Prop} {l : List DEq} {v : Value} (h : EqR w S l v) (hb : Below w.heap.size w w') : EqR w' S l v := h.keep (fun b _ hlt => hb.block b hlt)
theorem EqR.mono {w : World} {S S' : Nat → Prop} {l : List DEq} {v : Value} (h : EqR w S l v) (hS : ∀ b, S b → S' b) : EqR w S' l v := by
  obtain ⟨a, cap, b, off, s4, hv, hc, hm, ha, hcell, r4⟩ := h
  exact ⟨a, cap, b, off, s4, hv, hc, hm, fun h0 => ⟨(ha h0).1, hS _ (ha h0).2⟩, hcell, fun i hi => (r4 i hi).mono hS⟩
theorem EqR.form {w : World} {S : Nat → Prop} {l : List DEq} {v : Value} (h : EqR w S l v) : ∃ a cap, v = .slice a l.length cap ∧ l.length ≤ maxLen := by
  obtain ⟨a, cap, b, off, _, hv, hc, hm, _⟩ := h
  exact ⟨_, _, hv, by omega⟩
/-- .. in rows of their own, in blocks of S. -/
def EqRO (w : World) (S : Nat → Prop) (l : List DEq) (v : Value) : Prop :=
  ∃ (b : Nat) (f : Nat → Value), v = .slice (some ⟨b, 0, none⟩) l.length l.length ∧ S b ∧ l.length ≤ 1048576 ∧ w.rowIs b 59 (l.length * 5) f ∧ (∀ i (hi : i < l.length), f (i * 5) = .int .i64 l[i].prod ∧ f (i * 5 + 1) = .int .i64 l[i].pos ∧ f (i * 5 + 2) = .int .i64 l[i].attr ∧ f (i * 5 + 3) = .int .i64 l[i].op) ∧ (∀ i (hi : i < l.length), RefRO w S l[i].args (f (i * 5 + 4)))
theorem EqRO.keep {w w' : World} {S : Nat → Prop} {l : List DEq} {v : Value} (h : EqRO w S l v) (hb : ∀ b, S b → b < w.heap.size → w'.heap[b]? = w.heap[b]?) : EqRO w' S l v := by
  obtain ⟨b, f, hv, hS, hn, hr, hf, r4⟩ := h
  exact ⟨b, f, hv, hS, hn, World.rowIs.of_block hr (hb b hS (World.rowIs.lt hr)), hf, fun i hi => (r4 i hi).keep hb⟩
theorem EqRO.still {w w' : World} {S : Nat → Prop} {l : List DEq} {v : Value} (h : EqRO w S l v) (hb : Below w.heap.size w w') : EqRO w' S l v := h.keep (fun b _ hlt => hb.block b hlt)
theorem EqRO.mono {w : World} {S S' : Nat → Prop} {l : List DEq} {v : Value} (h : EqRO w S l v) (hS : ∀ b, S b → S' b) : EqRO w S' l v := by
  obtain ⟨b, f, hv, h1, hn, hr, hf, r4⟩ := h
  exact ⟨b, f, hv, hS _ h1, hn, hr, hf, fun i hi => (r4 i hi).mono hS⟩
theorem EqRO.form {w : World} {S : Nat → Prop} {l : List DEq} {v : Value} (h : EqRO w S l v) : ∃ a cap, v = .slice a l.length cap ∧ l.length ≤ maxLen := by
  obtain ⟨b, f, hv, h1, hn, _⟩ := h
  exact ⟨_, _, hv, by unfold maxLen; omega⟩
theorem EqRO.top {w : World} {S : Nat → Prop} {l : List DEq} {v : Value} (h : EqRO w S l v) : EqRO w (fun b => S b ∧ b < w.heap.size) l v := by
  obtain ⟨b, f, hv, h1, hn, hr, hf, r4⟩ := h
  exact ⟨b, f, hv, ⟨h1, World.rowIs.lt hr⟩, hn, hr, hf, fun i hi => (r4 i hi).top⟩
theorem EqRO.lies {w : World} {S : Nat → Prop} {l : List DEq} {v : Value} (h : EqRO w S l v) : EqR w S l v := by
  obtain ⟨b, f, hv, h1, hn, hr, hf, r4⟩ := h
  refine ⟨_, _, b, 0, fun i => f (i * 5 + 4), hv, Nat.le_refl _, by unfold maxLen; omega, fun _ => ⟨rfl, h1⟩, fun i hi => ?_, fun i hi => (r4 i hi).lies⟩
  obtain ⟨g0, g1, g2, g3⟩ := hf i hi
  exact ⟨by rw [Nat.zero_add, hr.cell (by omega), g0], by rw [Nat.zero_add, hr.cell (by omega), g1], by rw [Nat.zero_add, hr.cell (by omega), g2], by rw [Nat.zero_add, hr.cell (by omega), g3], by rw [Nat.zero_add, hr.cell (by omega)]⟩
structure DAg where
  attrs : List DAttr
  eqs : List DEq
/-- Its slices. -/
structure DAgL (w : World) (S : Nat → Prop) (t : DAg) (v0 v1 : Value) : Prop where
  attrs : AttrR w S t.attrs v0
  eqs : EqR w S t.eqs v1
theorem DAgL.keep {w w' : World} {S : Nat → Prop} {t : DAg} {v0 v1 : Value} (h : DAgL w S t v0 v1) (hb : ∀ b, S b → b < w.heap.size → w'.heap[b]? = w.heap[b]?) : DAgL w' S t v0 v1 := ⟨h.attrs.keep hb, h.eqs.keep hb⟩
theorem DAgL.still {w w' : World} {S : Nat → Prop} {t : DAg} {v0 v1 : Value} (h : DAgL w S t v0 v1) (hb : Below w.heap.size w w') : DAgL w' S t v0 v1 := ⟨h.attrs.still hb, h.eqs.still hb⟩
theorem DAgL.mono {w : World} {S S' : Nat → Prop} {t : DAg} {v0 v1 : Value} (h : DAgL w S t v0 v1) (hS : ∀ b, S b → S' b) : DAgL w S' t v0 v1 := ⟨h.attrs.mono hS, h.eqs.mono hS⟩
/-- Its slices. -/
structure DAgO (w : World) (S : Nat → Prop) (t : DAg) (v0 v1 : Value) : Prop where
  attrs : AttrRO w S t.attrs v0
  eqs : EqRO w S t.eqs v1
theorem DAgO.keep {w w' : World} {S : Nat → Prop} {t : DAg} {v0 v1 : Value} (h : DAgO w S t v0 v1) (hb : ∀ b, S b → b < w.heap.size → w'.heap[b]? = w.heap[b]?) : DAgO w' S t v0 v1 := ⟨h.attrs.keep hb, h.eqs.keep hb⟩
theorem DAgO.still {w w' : World} {S : Nat → Prop} {t : DAg} {v0 v1 : Value} (h : DAgO w S t v0 v1) (hb : Below w.heap.size w w') : DAgO w' S t v0 v1 := ⟨h.attrs.still hb, h.eqs.still hb⟩
theorem DAgO.mono {w : World} {S S' : Nat → Prop} {t : DAg} {v0 v1 : Value} (h : DAgO w S t v0 v1) (hS : ∀ b, S b → S' b) : DAgO w S' t v0 v1 := ⟨h.attrs.mono hS, h.eqs.mono hS⟩
theorem DAgO.lies {w : World} {S : Nat → Prop} {t : DAg} {v0 v1 : Value} (h : DAgO w S t v0 v1) : DAgL w S t v0 v1 := ⟨h.attrs.lies, h.eqs.lies⟩
theorem DAgO.top {w : World} {S : Nat → Prop} {t : DAg} {v0 v1 : Value} (h : DAgO w S t v0 v1) : DAgO w (fun b => S b ∧ b < w.heap.size) t v0 v1 := ⟨h.attrs.top, h.eqs.top⟩
def Ints.Sm (l : List Int) : Prop := l.length ≤ 1048576
def StrsG.Sm (l : List ByteArray) : Prop := l.length ≤ 1048576 ∧ ∀ i (hi : i < l.length), l[i].size ≤ 1048576
def IRws.Sm (l : List (List Int)) : Prop := l.length ≤ 1048576 ∧ ∀ i (hi : i < l.length), Ints.Sm l[i]
structure DAttr.Sm (t : DAttr) : Prop where
  name : t.name.size ≤ 1048576
def AttrR.Sm (l : List DAttr) : Prop := l.length ≤ 1048576 ∧ ∀ i (hi : i < l.length), l[i].Sm
structure DRef.Sm (t : DRef) : Prop where
def RefR.Sm (l : List DRef) : Prop := l.length ≤ 1048576 ∧ ∀ i (hi : i < l.length), l[i].Sm
structure DEq.Sm (t : DEq) : Prop where
  args : RefR.Sm t.args
def EqR.Sm (l : List DEq) : Prop := l.length ≤ 1048576 ∧ ∀ i (hi : i < l.length), l[i].Sm
structure DAg.Sm (t : DAg) : Prop where
  attrs : AttrR.Sm t.attrs
  eqs : EqR.Sm t.eqs
end Go.Proofs.Ytnmdgbnbnpibhaa
