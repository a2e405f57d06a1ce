import Derived.Test.YtanbdfeoijflaaaDoorKit
namespace Go.Proofs.YtanbdfeoijflaaaDoor
open Go.RowKit Go.Deep
set_option linter.unusedVariables false
set_option maxRecDepth 100000
set_option linter.unusedSimpArgs false

/-- Numbers in a row of their own. -/
def IntsO (w : World) (S : Nat → Prop) (l : List Int) (v : Value) : Prop :=
  ∃ (b : Nat) (f : Nat → Value), v = .slice (some ⟨b, 0, none⟩) l.length l.length ∧ S b ∧ l.length ≤ 1048576 ∧ w.rowIs b 3 l.length f ∧ (∀ i (hi : i < l.length), f (i) = .int .i64 l[i])
theorem IntsO.keep {w w' : World} {S : Nat → Prop} {l : List Int} {v : Value} (h : IntsO w S l v) (hb : ∀ b, S b → b < w.heap.size → w'.heap[b]? = w.heap[b]?) : IntsO w' S l v := by
  obtain ⟨b, f, hv, hS, hn, hr, hf⟩ := h
  exact ⟨b, f, hv, hS, hn, World.rowIs.of_block hr (hb b hS (World.rowIs.lt hr)), hf⟩
theorem IntsO.still {w w' : World} {S : Nat → Prop} {l : List Int} {v : Value} (h : IntsO w S l v) (hb : Below w.heap.size w w') : IntsO w' S l v := h.keep (fun b _ hlt => hb.block b hlt)
theorem IntsO.mono {w : World} {S S' : Nat → Prop} {l : List Int} {v : Value} (h : IntsO w S l v) (hS : ∀ b, S b → S' b) : IntsO w S' l v := by
  obtain ⟨b, f, hv, h1, hn, hr, hf⟩ := h
  exact ⟨b, f, hv, hS _ h1, hn, hr, hf⟩
theorem IntsO.form {w : World} {S : Nat → Prop} {l : List Int} {v : Value} (h : IntsO w S l v) : ∃ a cap, v = .slice a l.length cap ∧ l.length ≤ maxLen := by
  obtain ⟨b, f, hv, h1, hn, _⟩ := h
  exact ⟨_, _, hv, by unfold maxLen; omega⟩
theorem IntsO.top {w : World} {S : Nat → Prop} {l : List Int} {v : Value} (h : IntsO w S l v) : IntsO w (fun b => S b ∧ b < w.heap.size) l v := by
  obtain ⟨b, f, hv, h1, hn, hr, hf⟩ := h
  exact ⟨b, f, hv, ⟨h1, World.rowIs.lt hr⟩, hn, hr, hf⟩
theorem IntsO.lies {w : World} {S : Nat → Prop} {l : List Int} {v : Value} (h : IntsO w S l v) : Ints w S l v := by
  obtain ⟨b, f, hv, h1, hn, hr, hf⟩ := h
  refine ⟨_, _, b, 0, hv, Nat.le_refl _, by unfold maxLen; omega, fun _ => ⟨rfl, h1⟩, fun i hi => ?_⟩
  have g0 := hf i hi
  exact by rw [Nat.zero_add, hr.cell (by omega), g0]
def Strs (w : World) (S : Nat → Prop) (l : List ByteArray) (v : Value) : Prop :=
  ∃ (a : Option Addr) (cap b off : Nat), v = .slice a l.length cap ∧ l.length ≤ cap ∧ cap ≤ maxLen ∧ (0 < l.length → a = some ⟨b, off, none⟩ ∧ S b) ∧ (∀ i (hi : i < l.length), w.cell? ⟨b, off + i, none⟩ = some (.string l[i]) ∧ l[i].size ≤ maxLen)
theorem Strs.keep {w w' : World} {S : Nat → Prop} {l : List ByteArray} {v : Value} (h : Strs w S l v) (hb : ∀ b, S b → b < w.heap.size → w'.heap[b]? = w.heap[b]?) : Strs w' S l v := by
  obtain ⟨a, cap, b, off, hv, hc, hm, ha, hcell⟩ := h
  refine ⟨a, cap, b, off, hv, hc, hm, ha, fun i hi => ?_⟩
  obtain ⟨c0, z0⟩ := hcell i hi
  have hbk := hb b (ha (by omega)).2 (lt_of_cell c0)
  exact ⟨(World.cell?_of_block (w := w) hbk).trans c0, z0⟩
theorem Strs.still {w w' : World} {S : Nat → Prop} {l : List ByteArray} {v : Value} (h : Strs w S l v) (hb : Below w.heap.size w w') : Strs w' S l v := h.keep (fun b _ hlt => hb.block b hlt)
theorem Strs.mono {w : World} {S S' : Nat → Prop} {l : List ByteArray} {v : Value} (h : Strs w S l v) (hS : ∀ b, S b → S' b) : Strs w S' l v := by
  obtain ⟨a, cap, b, off, hv, hc, hm, ha, hcell⟩ := h
  exact ⟨a, cap, b, off, hv, hc, hm, fun h0 => ⟨(ha h0).1, hS _ (ha h0).2⟩, hcell⟩
theorem Strs.form {w : World} {S : Nat → Prop} {l : List ByteArray} {v : Value} (h : Strs w S l v) : ∃ a cap, v = .slice a l.length cap ∧ l.length ≤ maxLen := by
  obtain ⟨a, cap, b, off, hv, hc, hm, _⟩ := h
  exact ⟨_, _, hv, by omega⟩
/-- .. in rows of their own, in blocks of S. -/
def StrsO (w : World) (S : Nat → Prop) (l : List ByteArray) (v : Value) : Prop :=
  ∃ (b : Nat) (f : Nat → Value), v = .slice (some ⟨b, 0, none⟩) l.length l.length ∧ S b ∧ l.length ≤ 1048576 ∧ w.rowIs b 9 (l.length) f ∧ (∀ i (hi : i < l.length), f (i) = .string l[i] ∧ l[i].size ≤ maxLen)
theorem StrsO.keep {w w' : World} {S : Nat → Prop} {l : List ByteArray} {v : Value} (h : StrsO w S l v) (hb : ∀ b, S b → b < w.heap.size → w'.heap[b]? = w.heap[b]?) : StrsO w' S l v := by
  obtain ⟨b, f, hv, hS, hn, hr, hf⟩ := h
  exact ⟨b, f, hv, hS, hn, World.rowIs.of_block hr (hb b hS (World.rowIs.lt hr)), hf⟩
theorem StrsO.still {w w' : World} {S : Nat → Prop} {l : List ByteArray} {v : Value} (h : StrsO w S l v) (hb : Below w.heap.size w w') : StrsO w' S l v := h.keep (fun b _ hlt => hb.block b hlt)
theorem StrsO.mono {w : World} {S S' : Nat → Prop} {l : List ByteArray} {v : Value} (h : StrsO w S l v) (hS : ∀ b, S b → S' b) : StrsO w S' l v := by
  obtain ⟨b, f, hv, h1, hn, hr, hf⟩ := h
  exact ⟨b, f, hv, hS _ h1, hn, hr, hf⟩
theorem StrsO.form {w : World} {S : Nat → Prop} {l : List ByteArray} {v : Value} (h : StrsO w S l v) : ∃ a cap, v = .slice a l.length cap ∧ l.length ≤ maxLen := by
  obtain ⟨b, f, hv, h1, hn, _⟩ := h
  exact ⟨_, _, hv, by unfold maxLen; omega⟩
theorem StrsO.top {w : World} {S : Nat → Prop} {l : List ByteArray} {v : Value} (h : StrsO w S l v) : StrsO w (fun b => S b ∧ b < w.heap.size) l v := by
  obtain ⟨b, f, hv, h1, hn, hr, hf⟩ := h
  exact ⟨b, f, hv, ⟨h1, World.rowIs.lt hr⟩, hn, hr, hf⟩
theorem StrsO.lies {w : World} {S : Nat → Prop} {l : List ByteArray} {v : Value} (h : StrsO w S l v) : Strs w S l v := by
  obtain ⟨b, f, hv, h1, hn, hr, hf⟩ := h
  refine ⟨_, _, b, 0, hv, Nat.le_refl _, by unfold maxLen; omega, fun _ => ⟨rfl, h1⟩, fun i hi => ?_⟩
  obtain ⟨g0, z0⟩ := hf i hi
  exact ⟨by rw [Nat.zero_add, hr.cell (by omega), g0], z0⟩
def IRws (w : World) (S : Nat → Prop) (l : List (List Int)) (v : Value) : Prop :=
  ∃ (a : Option Addr) (cap b off : Nat) (s0 : Nat → Value), v = .slice a l.length cap ∧ l.length ≤ cap ∧ cap ≤ maxLen ∧ (0 < l.length → a = some ⟨b, off, none⟩ ∧ S b) ∧ (∀ i (hi : i < l.length), w.cell? ⟨b, off + i, none⟩ = some (s0 i)) ∧ (∀ i (hi : i < l.length), Ints w S l[i] (s0 i))
theorem IRws.keep {w w' : World} {S : Nat → Prop} {l : List (List Int)} {v : Value} (h : IRws w S l v) (hb : ∀ b, S b → b < w.heap.size → w'.heap[b]? = w.heap[b]?) : IRws w' S l v := by
  obtain ⟨a, cap, b, off, s0, hv, hc, hm, ha, hcell, r0⟩ := h
  refine ⟨a, cap, b, off, s0, hv, hc, hm, ha, fun i hi => ?_, fun i hi => (r0 i hi).keep hb⟩
  have c0 := hcell i hi
  exact (World.cell?_of_block (w := w) (hb b (ha (by omega)).2 (lt_of_cell c0))).trans c0
theorem IRws.still {w w' : World} {S : Nat → Prop} {l : List (List Int)} {v : Value} (h : IRws w S l v) (hb : Below w.heap.size w w') : IRws w' S l v := h.keep (fun b _ hlt => hb.block b hlt)
theorem IRws.mono {w : World} {S S' : Nat → Prop} {l : List (List Int)} {v : Value} (h : IRws w S l v) (hS : ∀ b, S b → S' b) : IRws w S' l v := by
  obtain ⟨a, cap, b, off, s0, hv, hc, hm, ha, hcell, r0⟩ := h
  exact ⟨a, cap, b, off, s0, hv, hc, hm, fun h0 => ⟨(ha h0).1, hS _ (ha h0).2⟩, hcell, fun i hi => (r0 i hi).mono hS⟩
theorem IRws.form {w : World} {S : Nat → Prop} {l : List (List Int)} {v : Value} (h : IRws w S l v) : ∃ a cap, v = .slice a l.length cap ∧ l.length ≤ maxLen := by
  obtain ⟨a, cap, b, off, _, hv, hc, hm, _⟩ := h
  exact ⟨_, _, hv, by omega⟩
/-- .. in rows of their own, in blocks of S. -/
def IRwsO (w : World) (S : Nat → Prop) (l : List (List Int)) (v : Value) : Prop :=
  ∃ (b : Nat) (f : Nat → Value), v = .slice (some ⟨b, 0, none⟩) l.length l.length ∧ S b ∧ l.length ≤ 1048576 ∧ w.rowIs b 29 (l.length) f ∧ (∀ i (hi : i < l.length), IntsO w S l[i] (f (i)))
theorem IRwsO.keep {w w' : World} {S : Nat → Prop} {l : List (List Int)} {v : Value} (h : IRwsO w S l v) (hb : ∀ b, S b → b < w.heap.size → w'.heap[b]? = w.heap[b]?) : IRwsO w' S l v := by
  obtain ⟨b, f, hv, hS, hn, hr, r0⟩ := h
  exact ⟨b, f, hv, hS, hn, World.rowIs.of_block hr (hb b hS (World.rowIs.lt hr)), fun i hi => (r0 i hi).keep hb⟩
theorem IRwsO.still {w w' : World} {S : Nat → Prop} {l : List (List Int)} {v : Value} (h : IRwsO w S l v) (hb : Below w.heap.size w w') : IRwsO w' S l v := h.keep (fun b _ hlt => hb.block b hlt)
theorem IRwsO.mono {w : World} {S S' : Nat → Prop} {l : List (List Int)} {v : Value} (h : IRwsO w S l v) (hS : ∀ b, S b → S' b) : IRwsO w S' l v := by
  obtain ⟨b, f, hv, h1, hn, hr, r0⟩ := h
  exact ⟨b, f, hv, hS _ h1, hn, hr, fun i hi => (r0 i hi).mono hS⟩
theorem IRwsO.form {w : World} {S : Nat → Prop} {l : List (List Int)} {v : Value} (h : IRwsO w S l v) : ∃ a cap, v = .slice a l.length cap ∧ l.length ≤ maxLen := by
  obtain ⟨b, f, hv, h1, hn, _⟩ := h
  exact ⟨_, _, hv, by unfold maxLen; omega⟩
theorem IRwsO.top {w : World} {S : Nat → Prop} {l : List (List Int)} {v : Value} (h : IRwsO w S l v) : IRwsO w (fun b => S b ∧ b < w.heap.size) l v := by
  obtain ⟨b, f, hv, h1, hn, hr, r0⟩ := h
  exact ⟨b, f, hv, ⟨h1, World.rowIs.lt hr⟩, hn, hr, fun i hi => (r0 i hi).top⟩
theorem IRwsO.lies {w : World} {S : Nat → Prop} {l : List (List Int)} {v : Value} (h : IRwsO w S l v) : IRws w S l v := by
  obtain ⟨b, f, hv, h1, hn, hr, r0⟩ := h
  refine ⟨_, _, b, 0, fun i => f (i), hv, Nat.le_refl _, by unfold maxLen; omega, fun _ => ⟨rfl, h1⟩, fun i hi => ?_, fun i hi => (r0 i hi).lies⟩
  exact by rw [Nat.zero_add, hr.cell (by omega)]
structure DIns where
  op : Int
  n : Int
  to_ : Int
def InsR (w : World) (S : Nat → Prop) (l : List DIns) (v : Value) : Prop :=
  ∃ (a : Option Addr) (cap b off : Nat), v = .slice a l.length cap ∧ l.length ≤ cap ∧ cap ≤ maxLen ∧ (0 < l.length → a = some ⟨b, off, none⟩ ∧ S b) ∧ (∀ i (hi : i < l.length), w.cell? ⟨b, off + i * 3, none⟩ = some (.int .i64 l[i].op) ∧ w.cell? ⟨b, off + i * 3 + 1, none⟩ = some (.int .i64 l[i].n) ∧ w.cell? ⟨b, off + i * 3 + 2, none⟩ = some (.int .i64 l[i].to_))
theorem InsR.keep {w w' : World} {S : Nat → Prop} {l : List DIns} {v : Value} (h : InsR w S l v) (hb : ∀ b, S b → b < w.heap.size → w'.heap[b]? = w.heap[b]?) : InsR w' S l v := by
  obtain ⟨a, cap, b, off, hv, hc, hm, ha, hcell⟩ := h
  refine ⟨a, cap, b, off, hv, hc, hm, ha, fun i hi => ?_⟩
  obtain ⟨c0, c1, c2⟩ := hcell i hi
  have hbk := hb b (ha (by omega)).2 (lt_of_cell c0)
  exact ⟨(World.cell?_of_block (w := w) hbk).trans c0, (World.cell?_of_block (w := w) hbk).trans c1, (World.cell?_of_block (w := w) hbk).trans c2⟩
theorem InsR.still {w w' : World} {S : Nat → Prop} {l : List DIns} {v : Value} (h : InsR w S l v) (hb : Below w.heap.size w w') : InsR w' S l v := h.keep (fun b _ hlt => hb.block b hlt)
theorem InsR.mono {w : World} {S S' : Nat → Prop} {l : List DIns} {v : Value} (h : InsR w S l v) (hS : ∀ b, S b → S' b) : InsR w S' l v := by
  obtain ⟨a, cap, b, off, hv, hc, hm, ha, hcell⟩ := h
  exact ⟨a, cap, b, off, hv, hc, hm, fun h0 => ⟨(ha h0).1, hS _ (ha h0).2⟩, hcell⟩
theorem InsR.form {w : World} {S : Nat → Prop} {l : List DIns} {v : Value} (h : InsR w S l v) : ∃ a cap, v = .slice a l.length cap ∧ l.length ≤ maxLen := by
  obtain ⟨a, cap, b, off, hv, hc, hm, _⟩ := h
  exact ⟨_, _, hv, by omega⟩
/-- .. in rows of their own, in blocks of S. -/
def InsRO (w : World) (S : Nat → Prop) (l : List DIns) (v : Value) : Prop :=
  ∃ (b : Nat) (f : Nat → Value), v = .slice (some ⟨b, 0, none⟩) l.length l.length ∧ S b ∧ l.length ≤ 1048576 ∧ w.rowIs b 38 (l.length * 3) f ∧ (∀ i (hi : i < l.length), f (i * 3) = .int .i64 l[i].op ∧ f (i * 3 + 1) = .int .i64 l[i].n ∧ f (i * 3 + 2) = .int .i64 l[i].to_)
theorem InsRO.keep {w w' : World} {S : Nat → Prop} {l : List DIns} {v : Value} (h : InsRO w S l v) (hb : ∀ b, S b → b < w.heap.size → w'.heap[b]? = w.heap[b]?) : InsRO w' S l v := by
  obtain ⟨b, f, hv, hS, hn, hr, hf⟩ := h
  exact ⟨b, f, hv, hS, hn, World.rowIs.of_block hr (hb b hS (World.rowIs.lt hr)), hf⟩
theorem InsRO.still {w w' : World} {S : Nat → Prop} {l : List DIns} {v : Value} (h : InsRO w S l v) (hb : Below w.heap.size w w') : InsRO w' S l v := h.keep (fun b _ hlt => hb.block b hlt)
theorem InsRO.mono {w : World} {S S' : Nat → Prop} {l : List DIns} {v : Value} (h : InsRO w S l v) (hS : ∀ b, S b → S' b) : InsRO w S' l v := by
  obtain ⟨b, f, hv, h1, hn, hr, hf⟩ := h
  exact ⟨b, f, hv, hS _ h1, hn, hr, hf⟩
theorem InsRO.form {w : World} {S : Nat → Prop} {l : List DIns} {v : Value} (h : InsRO w S l v) : ∃ a cap, v = .slice a l.length cap ∧ l.length ≤ maxLen := by
  obtain ⟨b, f, hv, h1, hn, _⟩ := h
  exact ⟨_, _, hv, by unfold maxLen; omega⟩
theorem InsRO.top {w : World} {S : Nat → Prop} {l : List DIns} {v : Value} (h : InsRO w S l v) : InsRO w (fun b => S b ∧ b < w.heap.size) l v := by
  obtain ⟨b, f, hv, h1, hn, hr, hf⟩ := h
  exact ⟨b, f, hv, ⟨h1, World.rowIs.lt hr⟩, hn, hr, hf⟩
theorem InsRO.lies {w : World} {S : Nat → Prop} {l : List DIns} {v : Value} (h : InsRO w S l v) : InsR w S l v := by
  obtain ⟨b, f, hv, h1, hn, hr, hf⟩ := h
  refine ⟨_, _, b, 0, hv, Nat.le_refl _, by unfold maxLen; omega, fun _ => ⟨rfl, h1⟩, fun i hi => ?_⟩
  obtain ⟨g0, g1, g2⟩ := hf i hi
  exact ⟨by rw [Nat.zero_add, hr.cell (by omega), g0], by rw [Nat.zero_add, hr.cell (by omega), g1], by rw [Nat.zero_add, hr.cell (by omega), g2]⟩
def Ints.Sm (l : List Int) : Prop := l.length ≤ 1048576
def Strs.Sm (l : List ByteArray) : Prop := l.length ≤ 1048576 ∧ ∀ i (hi : i < l.length), l[i].size ≤ 1048576
def IRws.Sm (l : List (List Int)) : Prop := l.length ≤ 1048576 ∧ ∀ i (hi : i < l.length), Ints.Sm l[i]
structure DIns.Sm (t : DIns) : Prop where
def InsR.Sm (l : List DIns) : Prop := l.length ≤ 1048576 ∧ ∀ i (hi : i < l.length), l[i].Sm
end Go.Proofs.YtanbdfeoijflaaaDoor
