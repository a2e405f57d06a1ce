import Derived.Test.YtgjnlhidbjpdkajGreatKit
namespace Go.Proofs.YtgjnlhidbjpdkajGreat
open Go.RowKit Go.Deep
set_option linter.unusedVariables false
set_option maxRecDepth 100000
set_option linter.unusedSimpArgs false

/-- Numbers in a row of their own. -/
def IntsO (w : World) (S : Nat → Prop) (l : List Int) (v : Value) : Prop :=
  ∃ (b : Nat) (f : Nat → Value), v = .slice (some ⟨b, 0, none⟩) l.length l.length ∧ S b ∧ l.length ≤ 1048576 ∧ w.rowIs b 3 l.length f ∧ (∀ i (hi : i < l.length), f (i) = .int .i64 l[i])
theorem IntsO.keep {w w' : World} {S : Nat → Prop} {l : List Int} {v : Value} (h : IntsO w S l v) (hb : ∀ b, S b → b < w.heap.size → w'.heap[b]? = w.heap[b]?) : IntsO w' S l v := by
  obtain ⟨b, f, hv, hS, hn, hr, hf⟩ := h
  exact ⟨b, f, hv, hS, hn, World.rowIs.of_block hr (hb b hS (World.rowIs.lt hr)), hf⟩
theorem IntsO.still {w w' : World} {S : Nat → Prop} {l : List Int} {v : Value} (h : IntsO w S l v) (hb : Below w.heap.size w w') : IntsO w' S l v := h.keep (fun b _ hlt => hb.block b hlt)
theorem IntsO.mono {w : World} {S S' : Nat → Prop} {l : List Int} {v : Value} (h : IntsO w S l v) (hS : ∀ b, S b → S' b) : IntsO w S' l v := by
  obtain ⟨b, f, hv, h1, hn, hr, hf⟩ := h
  exact ⟨b, f, hv, hS _ h1, hn, hr, hf⟩
theorem IntsO.form {w : World} {S : Nat → Prop} {l : List Int} {v : Value} (h : IntsO w S l v) : ∃ a cap, v = .slice a l.length cap ∧ l.length ≤ maxLen := by
  obtain ⟨b, f, hv, h1, hn, _⟩ := h
  exact ⟨_, _, hv, by unfold maxLen; omega⟩
theorem IntsO.top {w : World} {S : Nat → Prop} {l : List Int} {v : Value} (h : IntsO w S l v) : IntsO w (fun b => S b ∧ b < w.heap.size) l v := by
  obtain ⟨b, f, hv, h1, hn, hr, hf⟩ := h
  exact ⟨b, f, hv, ⟨h1, World.rowIs.lt hr⟩, hn, hr, hf⟩
theorem IntsO.lies {w : World} {S : Nat → Prop} {l : List Int} {v : Value} (h : IntsO w S l v) : Ints w S l v := by
  obtain ⟨b, f, hv, h1, hn, hr, hf⟩ := h
  refine ⟨_, _, b, 0, hv, Nat.le_refl _, by unfold maxLen; omega, fun _ => ⟨rfl, h1⟩, fun i hi => ?_⟩
  have g0 := hf i hi
  exact by rw [Nat.zero_add, hr.cell (by omega), g0]
def Strs (w : World) (S : Nat → Prop) (l : List ByteArray) (v : Value) : Prop :=
  ∃ (a : Option Addr) (cap b off : Nat), v = .slice a l.length cap ∧ l.length ≤ cap ∧ cap ≤ maxLen ∧ (0 < l.length → a = some ⟨b, off, none⟩ ∧ S b) ∧ (∀ i (hi : i < l.length), w.cell? ⟨b, off + i, none⟩ = some (.string l[i]) ∧ l[i].size ≤ maxLen)
theorem Strs.keep {w w' : World} {S : Nat → Prop} {l : List ByteArray} {v : Value} (h : Strs w S l v) (hb : ∀ b, S b → b < w.heap.size → w'.heap[b]? = w.heap[b]?) : Strs w' S l v := by
  obtain ⟨a, cap, b, off, hv, hc, hm, ha, hcell⟩ := h
  refine ⟨a, cap, b, off, hv, hc, hm, ha, fun i hi => ?_⟩
  obtain ⟨c0, z0⟩ := hcell i hi
  have hbk := hb b (ha (by omega)).2 (lt_of_cell c0)
  exact ⟨(World.cell?_of_block (w := w) hbk).trans c0, z0⟩
theorem Strs.still {w w' : World} {S : Nat → Prop} {l : List ByteArray} {v : Value} (h : Strs w S l v) (hb : Below w.heap.size w w') : Strs w' S l v := h.keep (fun b _ hlt => hb.block b hlt)
theorem Strs.mono {w : World} {S S' : Nat → Prop} {l : List ByteArray} {v : Value} (h : Strs w S l v) (hS : ∀ b, S b → S' b) : Strs w S' l v := by
  obtain ⟨a, cap, b, off, hv, hc, hm, ha, hcell⟩ := h
  exact ⟨a, cap, b, off, hv, hc, hm, fun h0 => ⟨(ha h0).1, hS _ (ha h0).2⟩, hcell⟩
theorem Strs.form {w : World} {S : Nat → Prop} {l : List ByteArray} {v : Value} (h : Strs w S l v) : ∃ a cap, v = .slice a l.length cap ∧ l.length ≤ maxLen := by
  obtain ⟨a, cap, b, off, hv, hc, hm, _⟩ := h
  exact ⟨_, _, hv, by omega⟩
/-- .. in rows of their own, in blocks of S. -/
def StrsO (w : World) (S : Nat → Prop) (l : List ByteArray) (v : Value) : Prop :=
  ∃ (b : Nat) (f : Nat → Value), v = .slice (some ⟨b, 0, none⟩) l.length l.length ∧ S b ∧ l.length ≤ 1048576 ∧ w.rowIs b 9 (l.length) f ∧ (∀ i (hi : i < l.length), f (i) = .string l[i] ∧ l[i].size ≤ maxLen)
theorem StrsO.keep {w w' : World} {S : Nat → Prop} {l : List ByteArray} {v : Value} (h : StrsO w S l v) (hb : ∀ b, S b → b < w.heap.size → w'.heap[b]? = w.heap[b]?) : StrsO w' S l v := by
  obtain ⟨b, f, hv, hS, hn, hr, hf⟩ := h
  exact ⟨b, f, hv, hS, hn, World.rowIs.of_block hr (hb b hS (World.rowIs.lt hr)), hf⟩
theorem StrsO.still {w w' : World} {S : Nat → Prop} {l : List ByteArray} {v : Value} (h : StrsO w S l v) (hb : Below w.heap.size w w') : StrsO w' S l v := h.keep (fun b _ hlt => hb.block b hlt)
theorem StrsO.mono {w : World} {S S' : Nat → Prop} {l : List ByteArray} {v : Value} (h : StrsO w S l v) (hS : ∀ b, S b → S' b) : StrsO w S' l v := by
  obtain ⟨b, f, hv, h1, hn, hr, hf⟩ := h
  exact ⟨b, f, hv, hS _ h1, hn, hr, hf⟩
theorem StrsO.form {w : World} {S : Nat → Prop} {l : List ByteArray} {v : Value} (h : StrsO w S l v) : ∃ a cap, v = .slice a l.length cap ∧ l.length ≤ maxLen := by
  obtain ⟨b, f, hv, h1, hn, _⟩ := h
  exact ⟨_, _, hv, by unfold maxLen; omega⟩
theorem StrsO.top {w : World} {S : Nat → Prop} {l : List ByteArray} {v : Value} (h : StrsO w S l v) : StrsO w (fun b => S b ∧ b < w.heap.size) l v := by
  obtain ⟨b, f, hv, h1, hn, hr, hf⟩ := h
  exact ⟨b, f, hv, ⟨h1, World.rowIs.lt hr⟩, hn, hr, hf⟩
theorem StrsO.lies {w : World} {S : Nat → Prop} {l : List ByteArray} {v : Value} (h : StrsO w S l v) : Strs w S l v := by
  obtain ⟨b, f, hv, h1, hn, hr, hf⟩ := h
  refine ⟨_, _, b, 0, hv, Nat.le_refl _, by unfold maxLen; omega, fun _ => ⟨rfl, h1⟩, fun i hi => ?_⟩
  obtain ⟨g0, z0⟩ := hf i hi
  exact ⟨by rw [Nat.zero_add, hr.cell (by omega), g0], z0⟩
def IRws (w : World) (S : Nat → Prop) (l : List (List Int)) (v : Value) : Prop :=
  ∃ (a : Option Addr) (cap b off : Nat) (s0 : Nat → Value), v = .slice a l.length cap ∧ l.length ≤ cap ∧ cap ≤ maxLen ∧ (0 < l.length → a = some ⟨b, off, none⟩ ∧ S b) ∧ (∀ i (hi : i < l.length), w.cell? ⟨b, off + i, none⟩ = some (s0 i)) ∧ (∀ i (hi : i < l.length), Ints w S l[i] (s0 i))
theorem IRws.keep {w w' : World} {S : Nat → Prop} {l : List (List Int)} {v : Value} (h : IRws w S l v) (hb : ∀ b, S b → b < w.heap.size → w'.heap[b]? = w.heap[b]?) : IRws w' S l v := by
  obtain ⟨a, cap, b, off, s0, hv, hc, hm, ha, hcell, r0⟩ := h
  refine ⟨a, cap, b, off, s0, hv, hc, hm, ha, fun i hi => ?_, fun i hi => (r0 i hi).keep hb⟩
  have c0 := hcell i hi
  exact (World.cell?_of_block (w := w) (hb b (ha (by omega)).2 (lt_of_cell c0))).trans c0
theorem IRws.still {w w' : World} {S : Nat → Prop} {l : List (List Int)} {v : Value} (h : IRws w S l v) (hb : Below w.heap.size w w') : IRws w' S l v := h.keep (fun b _ hlt => hb.block b hlt)
theorem IRws.mono {w : World} {S S' : Nat → Prop} {l : List (List Int)} {v : Value} (h : IRws w S l v) (hS : ∀ b, S b → S' b) : IRws w S' l v := by
  obtain ⟨a, cap, b, off, s0, hv, hc, hm, ha, hcell, r0⟩ := h
  exact ⟨a, cap, b, off, s0, hv, hc, hm, fun h0 => ⟨(ha h0).1, hS _ (ha h0).2⟩, hcell, fun i hi => (r0 i hi).mono hS⟩
theorem IRws.form {w : World} {S : Nat → Prop} {l : List (List Int)} {v : Value} (h : IRws w S l v) : ∃ a cap, v = .slice a l.length cap ∧ l.length ≤ maxLen := by
  obtain ⟨a, cap, b, off, _, hv, hc, hm, _⟩ := h
  exact ⟨_, _, hv, by omega⟩
/-- .. in rows of their own, in blocks of S. -/
def IRwsO (w : World) (S : Nat → Prop) (l : List (List Int)) (v : Value) : Prop :=
  ∃ (b : Nat) (f : Nat → Value), v = .slice (some ⟨b, 0, none⟩) l.length l.length ∧ S b ∧ l.length ≤ 1048576 ∧ w.rowIs b 83 (l.length) f ∧ (∀ i (hi : i < l.length), IntsO w S l[i] (f (i)))
theorem IRwsO.keep {w w' : World} {S : Nat → Prop} {l : List (List Int)} {v : Value} (h : IRwsO w S l v) (hb : ∀ b, S b → b < w.heap.size → w'.heap[b]? = w.heap[b]?) : IRwsO w' S l v := by
  obtain ⟨b, f, hv, hS, hn, hr, r0⟩ := h
  exact ⟨b, f, hv, hS, hn, World.rowIs.of_block hr (hb b hS (World.rowIs.lt hr)), fun i hi => (r0 i hi).keep hb⟩
theorem IRwsO.still {w w' : World} {S : Nat → Prop} {l : List (List Int)} {v : Value} (h : IRwsO w S l v) (hb : Below w.heap.size w w') : IRwsO w' S l v := h.keep (fun b _ hlt => hb.block b hlt)
theorem IRwsO.mono {w : World} {S S' : Nat → Prop} {l : List (List Int)} {v : Value} (h : IRwsO w S l v) (hS : ∀ b, S b → S' b) : IRwsO w S' l v := by
  obtain ⟨b, f, hv, h1, hn, hr, r0⟩ := h
  exact ⟨b, f, hv, hS _ h1, hn, hr, fun i hi => (r0 i hi).mono hS⟩
theorem IRwsO.form {w : World} {S : Nat → Prop} {l : List (List Int)} {v : Value} (h : IRwsO w S l v) : ∃ a cap, v = .slice a l.length cap ∧ l.length ≤ maxLen := by
  obtain ⟨b, f, hv, h1, hn, _⟩ := h
  exact ⟨_, _, hv, by unfold maxLen; omega⟩
theorem IRwsO.top {w : World} {S : Nat → Prop} {l : List (List Int)} {v : Value} (h : IRwsO w S l v) : IRwsO w (fun b => S b ∧ b < w.heap.size) l v := by
  obtain ⟨b, f, hv, h1, hn, hr, r0⟩ := h
  exact ⟨b, f, hv, ⟨h1, World.rowIs.lt hr⟩, hn, hr, fun i hi => (r0 i hi).top⟩
theorem IRwsO.lies {w : World} {S : Nat → Prop} {l : List (List Int)} {v : Value} (h : IRwsO w S l v) : IRws w S l v := by
  obtain ⟨b, f, hv, h1, hn, hr, r0⟩ := h
  refine ⟨_, _, b, 0, fun i => f (i), hv, Nat.le_refl _, by unfold maxLen; omega, fun _ => ⟨rfl, h1⟩, fun i hi => ?_, fun i hi => (r0 i hi).lies⟩
  exact by rw [Nat.zero_add, hr.cell (by omega)]
structure DToken where
  name : ByteArray
  rx : ByteArray
  skip : Bool
def TokenR (w : World) (S : Nat → Prop) (l : List DToken) (v : Value) : Prop :=
  ∃ (a : Option Addr) (cap b off : Nat), v = .slice a l.length cap ∧ l.length ≤ cap ∧ cap ≤ maxLen ∧ (0 < l.length → a = some ⟨b, off, none⟩ ∧ S b) ∧ (∀ i (hi : i < l.length), w.cell? ⟨b, off + i * 3, none⟩ = some (.string l[i].name) ∧ w.cell? ⟨b, off + i * 3 + 1, none⟩ = some (.string l[i].rx) ∧ w.cell? ⟨b, off + i * 3 + 2, none⟩ = some (.bool l[i].skip) ∧ l[i].name.size ≤ maxLen ∧ l[i].rx.size ≤ maxLen)
theorem TokenR.keep {w w' : World} {S : Nat → Prop} {l : List DToken} {v : Value} (h : TokenR w S l v) (hb : ∀ b, S b → b < w.heap.size → w'.heap[b]? = w.heap[b]?) : TokenR w' S l v := by
  obtain ⟨a, cap, b, off, hv, hc, hm, ha, hcell⟩ := h
  refine ⟨a, cap, b, off, hv, hc, hm, ha, fun i hi => ?_⟩
  obtain ⟨c0, c1, c2, z0, z1⟩ := hcell i hi
  have hbk := hb b (ha (by omega)).2 (lt_of_cell c0)
  exact ⟨(World.cell?_of_block (w := w) hbk).trans c0, (World.cell?_of_block (w := w) hbk).trans c1, (World.cell?_of_block (w := w) hbk).trans c2, z0, z1⟩
theorem TokenR.still {w w' : World} {S : Nat → Prop} {l : List DToken} {v : Value} (h : TokenR w S l v) (hb : Below w.heap.size w w') : TokenR w' S l v := h.keep (fun b _ hlt => hb.block b hlt)
theorem TokenR.mono {w : World} {S S' : Nat → Prop} {l : List DToken} {v : Value} (h : TokenR w S l v) (hS : ∀ b, S b → S' b) : TokenR w S' l v := by
  obtain ⟨a, cap, b, off, hv, hc, hm, ha, hcell⟩ := h
  exact ⟨a, cap, b, off, hv, hc, hm, fun h0 => ⟨(ha h0).1, hS _ (ha h0).2⟩, hcell⟩
theorem TokenR.form {w : World} {S : Nat → Prop} {l : List DToken} {v : Value} (h : TokenR w S l v) : ∃ a cap, v = .slice a l.length cap ∧ l.length ≤ maxLen := by
  obtain ⟨a, cap, b, off, hv, hc, hm, _⟩ := h
  exact ⟨_, _, hv, by omega⟩
/-- .. in rows of their own, in blocks of S. -/
def TokenRO (w : World) (S : Nat → Prop) (l : List DToken) (v : Value) : Prop :=
  ∃ (b : Nat) (f : Nat → Value), v = .slice (some ⟨b, 0, none⟩) l.length l.length ∧ S b ∧ l.length ≤ 1048576 ∧ w.rowIs b 46 (l.length * 3) f ∧ (∀ i (hi : i < l.length), f (i * 3) = .string l[i].name ∧ f (i * 3 + 1) = .string l[i].rx ∧ f (i * 3 + 2) = .bool l[i].skip ∧ l[i].name.size ≤ maxLen ∧ l[i].rx.size ≤ maxLen)
theorem TokenRO.keep {w w' : World} {S : Nat → Prop} {l : List DToken} {v : Value} (h : TokenRO w S l v) (hb : ∀ b, S b → b < w.heap.size → w'.heap[b]? = w.heap[b]?) : TokenRO w' S l v := by
  obtain ⟨b, f, hv, hS, hn, hr, hf⟩ := h
  exact ⟨b, f, hv, hS, hn, World.rowIs.of_block hr (hb b hS (World.rowIs.lt hr)), hf⟩
theorem TokenRO.still {w w' : World} {S : Nat → Prop} {l : List DToken} {v : Value} (h : TokenRO w S l v) (hb : Below w.heap.size w w') : TokenRO w' S l v := h.keep (fun b _ hlt => hb.block b hlt)
theorem TokenRO.mono {w : World} {S S' : Nat → Prop} {l : List DToken} {v : Value} (h : TokenRO w S l v) (hS : ∀ b, S b → S' b) : TokenRO w S' l v := by
  obtain ⟨b, f, hv, h1, hn, hr, hf⟩ := h
  exact ⟨b, f, hv, hS _ h1, hn, hr, hf⟩
theorem TokenRO.form {w : World} {S : Nat → Prop} {l : List DToken} {v : Value} (h : TokenRO w S l v) : ∃ a cap, v = .slice a l.length cap ∧ l.length ≤ maxLen := by
  obtain ⟨b, f, hv, h1, hn, _⟩ := h
  exact ⟨_, _, hv, by unfold maxLen; omega⟩
theorem TokenRO.top {w : World} {S : Nat → Prop} {l : List DToken} {v : Value} (h : TokenRO w S l v) : TokenRO w (fun b => S b ∧ b < w.heap.size) l v := by
  obtain ⟨b, f, hv, h1, hn, hr, hf⟩ := h
  exact ⟨b, f, hv, ⟨h1, World.rowIs.lt hr⟩, hn, hr, hf⟩
theorem TokenRO.lies {w : World} {S : Nat → Prop} {l : List DToken} {v : Value} (h : TokenRO w S l v) : TokenR w S l v := by
  obtain ⟨b, f, hv, h1, hn, hr, hf⟩ := h
  refine ⟨_, _, b, 0, hv, Nat.le_refl _, by unfold maxLen; omega, fun _ => ⟨rfl, h1⟩, fun i hi => ?_⟩
  obtain ⟨g0, g1, g2, z0, z1⟩ := hf i hi
  exact ⟨by rw [Nat.zero_add, hr.cell (by omega), g0], by rw [Nat.zero_add, hr.cell (by omega), g1], by rw [Nat.zero_add, hr.cell (by omega), g2], z0, z1⟩
structure DLevel where
  assoc : Int
  lits : List ByteArray
/-- Its slices. -/
structure DLevelL (w : World) (S : Nat → Prop) (t : DLevel) (v1 : Value) : Prop where
  lits : Strs w S t.lits v1
theorem DLevelL.keep {w w' : World} {S : Nat → Prop} {t : DLevel} {v1 : Value} (h : DLevelL w S t v1) (hb : ∀ b, S b → b < w.heap.size → w'.heap[b]? = w.heap[b]?) : DLevelL w' S t v1 := ⟨h.lits.keep hb⟩
theorem DLevelL.still {w w' : World} {S : Nat → Prop} {t : DLevel} {v1 : Value} (h : DLevelL w S t v1) (hb : Below w.heap.size w w') : DLevelL w' S t v1 := ⟨h.lits.still hb⟩
theorem DLevelL.mono {w : World} {S S' : Nat → Prop} {t : DLevel} {v1 : Value} (h : DLevelL w S t v1) (hS : ∀ b, S b → S' b) : DLevelL w S' t v1 := ⟨h.lits.mono hS⟩
/-- Its slices. -/
structure DLevelO (w : World) (S : Nat → Prop) (t : DLevel) (v1 : Value) : Prop where
  lits : StrsO w S t.lits v1
theorem DLevelO.keep {w w' : World} {S : Nat → Prop} {t : DLevel} {v1 : Value} (h : DLevelO w S t v1) (hb : ∀ b, S b → b < w.heap.size → w'.heap[b]? = w.heap[b]?) : DLevelO w' S t v1 := ⟨h.lits.keep hb⟩
theorem DLevelO.still {w w' : World} {S : Nat → Prop} {t : DLevel} {v1 : Value} (h : DLevelO w S t v1) (hb : Below w.heap.size w w') : DLevelO w' S t v1 := ⟨h.lits.still hb⟩
theorem DLevelO.mono {w : World} {S S' : Nat → Prop} {t : DLevel} {v1 : Value} (h : DLevelO w S t v1) (hS : ∀ b, S b → S' b) : DLevelO w S' t v1 := ⟨h.lits.mono hS⟩
theorem DLevelO.lies {w : World} {S : Nat → Prop} {t : DLevel} {v1 : Value} (h : DLevelO w S t v1) : DLevelL w S t v1 := ⟨h.lits.lies⟩
theorem DLevelO.top {w : World} {S : Nat → Prop} {t : DLevel} {v1 : Value} (h : DLevelO w S t v1) : DLevelO w (fun b => S b ∧ b < w.heap.size) t v1 := ⟨h.lits.top⟩
def LevelR (w : World) (S : Nat → Prop) (l : List DLevel) (v : Value) : Prop :=
  ∃ (a : Option Addr) (cap b off : Nat) (s1 : Nat → Value), v = .slice a l.length cap ∧ l.length ≤ cap ∧ cap ≤ maxLen ∧ (0 < l.length → a = some ⟨b, off, none⟩ ∧ S b) ∧ (∀ i (hi : i < l.length), w.cell? ⟨b, off + i * 2, none⟩ = some (.int .i64 l[i].assoc) ∧ w.cell? ⟨b, off + i * 2 + 1, none⟩ = some (s1 i)) ∧ (∀ i (hi : i < l.length), Strs w S l[i].lits (s1 i))
theorem LevelR.keep {w w' : World} {S : Nat → Prop} {l : List DLevel} {v : Value} (h : LevelR w S l v) (hb : ∀ b, S b → b < w.heap.size → w'.heap[b]? = w.heap[b]?) : LevelR w' S l v := by
  obtain ⟨a, cap, b, off, s1, hv, hc, hm, ha, hcell, r1⟩ := h
  refine ⟨a, cap, b, off, s1, hv, hc, hm, ha, fun i hi => ?_, fun i hi => (r1 i hi).keep hb⟩
  obtain ⟨c0, c1⟩ := hcell i hi
  have hbk := hb b (ha (by omega)).2 (lt_of_cell c0)
  exact ⟨(World.cell?_of_block (w := w) hbk).trans c0, (World.cell?_of_block (w := w) hbk).trans c1⟩
theorem LevelR.still {w w' : World} {S : Nat → Prop} {l : List DLevel} {v : Value} (h : LevelR w S l v) (hb : Below w.heap.size w w') : LevelR w' S l v := h.keep (fun b _ hlt => hb.block b hlt)
theorem LevelR.mono {w : World} {S S' : Nat → Prop} {l : List DLevel} {v : Value} (h : LevelR w S l v) (hS : ∀ b, S b → S' b) : LevelR w S' l v := by
  obtain ⟨a, cap, b, off, s1, hv, hc, hm, ha, hcell, r1⟩ := h
  exact ⟨a, cap, b, off, s1, hv, hc, hm, fun h0 => ⟨(ha h0).1, hS _ (ha h0).2⟩, hcell, fun i hi => (r1 i hi).mono hS⟩
theorem LevelR.form {w : World} {S : Nat → Prop} {l : List DLevel} {v : Value} (h : LevelR w S l v) : ∃ a cap, v = .slice a l.length cap ∧ l.length ≤ maxLen := by
  obtain ⟨a, cap, b, off, _, hv, hc, hm, _⟩ := h
  exact ⟨_, _, hv, by omega⟩
/-- .. in rows of their own, in blocks of S. -/
def LevelRO (w : World) (S : Nat → Prop) (l : List DLevel) (v : Value) : Prop :=
  ∃ (b : Nat) (f : Nat → Value), v = .slice (some ⟨b, 0, none⟩) l.length l.length ∧ S b ∧ l.length ≤ 1048576 ∧ w.rowIs b 49 (l.length * 2) f ∧ (∀ i (hi : i < l.length), f (i * 2) = .int .i64 l[i].assoc) ∧ (∀ i (hi : i < l.length), StrsO w S l[i].lits (f (i * 2 + 1)))
theorem LevelRO.keep {w w' : World} {S : Nat → Prop} {l : List DLevel} {v : Value} (h : LevelRO w S l v) (hb : ∀ b, S b → b < w.heap.size → w'.heap[b]? = w.heap[b]?) : LevelRO w' S l v := by
  obtain ⟨b, f, hv, hS, hn, hr, hf, r1⟩ := h
  exact ⟨b, f, hv, hS, hn, World.rowIs.of_block hr (hb b hS (World.rowIs.lt hr)), hf, fun i hi => (r1 i hi).keep hb⟩
theorem LevelRO.still {w w' : World} {S : Nat → Prop} {l : List DLevel} {v : Value} (h : LevelRO w S l v) (hb : Below w.heap.size w w') : LevelRO w' S l v := h.keep (fun b _ hlt => hb.block b hlt)
theorem LevelRO.mono {w : World} {S S' : Nat → Prop} {l : List DLevel} {v : Value} (h : LevelRO w S l v) (hS : ∀ b, S b → S' b) : LevelRO w S' l v := by
  obtain ⟨b, f, hv, h1, hn, hr, hf, r1⟩ := h
  exact ⟨b, f, hv, hS _ h1, hn, hr, hf, fun i hi => (r1 i hi).mono hS⟩
theorem LevelRO.form {w : World} {S : Nat → Prop} {l : List DLevel} {v : Value} (h : LevelRO w S l v) : ∃ a cap, v = .slice a l.length cap ∧ l.length ≤ maxLen := by
  obtain ⟨b, f, hv, h1, hn, _⟩ := h
  exact ⟨_, _, hv, by unfold maxLen; omega⟩
theorem LevelRO.top {w : World} {S : Nat → Prop} {l : List DLevel} {v : Value} (h : LevelRO w S l v) : LevelRO w (fun b => S b ∧ b < w.heap.size) l v := by
  obtain ⟨b, f, hv, h1, hn, hr, hf, r1⟩ := h
  exact ⟨b, f, hv, ⟨h1, World.rowIs.lt hr⟩, hn, hr, hf, fun i hi => (r1 i hi).top⟩
theorem LevelRO.lies {w : World} {S : Nat → Prop} {l : List DLevel} {v : Value} (h : LevelRO w S l v) : LevelR w S l v := by
  obtain ⟨b, f, hv, h1, hn, hr, hf, r1⟩ := h
  refine ⟨_, _, b, 0, fun i => f (i * 2 + 1), hv, Nat.le_refl _, by unfold maxLen; omega, fun _ => ⟨rfl, h1⟩, fun i hi => ?_, fun i hi => (r1 i hi).lies⟩
  have g0 := hf i hi
  exact ⟨by rw [Nat.zero_add, hr.cell (by omega), g0], by rw [Nat.zero_add, hr.cell (by omega)]⟩
structure DGAlt where
  items : List Int
  label : ByteArray
/-- Its slices. -/
structure DGAltL (w : World) (S : Nat → Prop) (t : DGAlt) (v0 : Value) : Prop where
  items : Ints w S t.items v0
theorem DGAltL.keep {w w' : World} {S : Nat → Prop} {t : DGAlt} {v0 : Value} (h : DGAltL w S t v0) (hb : ∀ b, S b → b < w.heap.size → w'.heap[b]? = w.heap[b]?) : DGAltL w' S t v0 := ⟨h.items.keep hb⟩
theorem DGAltL.still {w w' : World} {S : Nat → Prop} {t : DGAlt} {v0 : Value} (h : DGAltL w S t v0) (hb : Below w.heap.size w w') : DGAltL w' S t v0 := ⟨h.items.still hb⟩
theorem DGAltL.mono {w : World} {S S' : Nat → Prop} {t : DGAlt} {v0 : Value} (h : DGAltL w S t v0) (hS : ∀ b, S b → S' b) : DGAltL w S' t v0 := ⟨h.items.mono hS⟩
/-- Its slices. -/
structure DGAltO (w : World) (S : Nat → Prop) (t : DGAlt) (v0 : Value) : Prop where
  items : IntsO w S t.items v0
theorem DGAltO.keep {w w' : World} {S : Nat → Prop} {t : DGAlt} {v0 : Value} (h : DGAltO w S t v0) (hb : ∀ b, S b → b < w.heap.size → w'.heap[b]? = w.heap[b]?) : DGAltO w' S t v0 := ⟨h.items.keep hb⟩
theorem DGAltO.still {w w' : World} {S : Nat → Prop} {t : DGAlt} {v0 : Value} (h : DGAltO w S t v0) (hb : Below w.heap.size w w') : DGAltO w' S t v0 := ⟨h.items.still hb⟩
theorem DGAltO.mono {w : World} {S S' : Nat → Prop} {t : DGAlt} {v0 : Value} (h : DGAltO w S t v0) (hS : ∀ b, S b → S' b) : DGAltO w S' t v0 := ⟨h.items.mono hS⟩
theorem DGAltO.lies {w : World} {S : Nat → Prop} {t : DGAlt} {v0 : Value} (h : DGAltO w S t v0) : DGAltL w S t v0 := ⟨h.items.lies⟩
theorem DGAltO.top {w : World} {S : Nat → Prop} {t : DGAlt} {v0 : Value} (h : DGAltO w S t v0) : DGAltO w (fun b => S b ∧ b < w.heap.size) t v0 := ⟨h.items.top⟩
def GAltR (w : World) (S : Nat → Prop) (l : List DGAlt) (v : Value) : Prop :=
  ∃ (a : Option Addr) (cap b off : Nat) (s0 : Nat → Value), v = .slice a l.length cap ∧ l.length ≤ cap ∧ cap ≤ maxLen ∧ (0 < l.length → a = some ⟨b, off, none⟩ ∧ S b) ∧ (∀ i (hi : i < l.length), w.cell? ⟨b, off + i * 2, none⟩ = some (s0 i) ∧ w.cell? ⟨b, off + i * 2 + 1, none⟩ = some (.string l[i].label) ∧ l[i].label.size ≤ maxLen) ∧ (∀ i (hi : i < l.length), Ints w S l[i].items (s0 i))
theorem GAltR.keep {w w' : World} {S : Nat → Prop} {l : List DGAlt} {v : Value} (h : GAltR w S l v) (hb : ∀ b, S b → b < w.heap.size → w'.heap[b]? = w.heap[b]?) : GAltR w' S l v := by
  obtain ⟨a, cap, b, off, s0, hv, hc, hm, ha, hcell, r0⟩ := h
  refine ⟨a, cap, b, off, s0, hv, hc, hm, ha, fun i hi => ?_, fun i hi => (r0 i hi).keep hb⟩
  obtain ⟨c0, c1, z0⟩ := hcell i hi
  have hbk := hb b (ha (by omega)).2 (lt_of_cell c0)
  exact ⟨(World.cell?_of_block (w := w) hbk).trans c0, (World.cell?_of_block (w := w) hbk).trans c1, z0⟩
theorem GAltR.still {w w' : World} {S : Nat → Prop} {l : List DGAlt} {v : Value} (h : GAltR w S l v) (hb : Below w.heap.size w w') : GAltR w' S l v := h.keep (fun b _ hlt => hb.block b hlt)
theorem GAltR.mono {w : World} {S S' : Nat → Prop} {l : List DGAlt} {v : Value} (h : GAltR w S l v) (hS : ∀ b, S b → S' b) : GAltR w S' l v := by
  obtain ⟨a, cap, b, off, s0, hv, hc, hm, ha, hcell, r0⟩ := h
  exact ⟨a, cap, b, off, s0, hv, hc, hm, fun h0 => ⟨(ha h0).1, hS _ (ha h0).2⟩, hcell, fun i hi => (r0 i hi).mono hS⟩
theorem GAltR.form {w : World} {S : Nat → Prop} {l : List DGAlt} {v : Value} (h : GAltR w S l v) : ∃ a cap, v = .slice a l.length cap ∧ l.length ≤ maxLen := by
  obtain ⟨a, cap, b, off, _, hv, hc, hm, _⟩ := h
  exact ⟨_, _, hv, by omega⟩
/-- .. in rows of their own, in blocks of S. -/
def GAltRO (w : World) (S : Nat → Prop) (l : List DGAlt) (v : Value) : Prop :=
  ∃ (b : Nat) (f : Nat → Value), v = .slice (some ⟨b, 0, none⟩) l.length l.length ∧ S b ∧ l.length ≤ 1048576 ∧ w.rowIs b 85 (l.length * 2) f ∧ (∀ i (hi : i < l.length), f (i * 2 + 1) = .string l[i].label ∧ l[i].label.size ≤ maxLen) ∧ (∀ i (hi : i < l.length), IntsO w S l[i].items (f (i * 2)))
theorem GAltRO.keep {w w' : World} {S : Nat → Prop} {l : List DGAlt} {v : Value} (h : GAltRO w S l v) (hb : ∀ b, S b → b < w.heap.size → w'.heap[b]? = w.heap[b]?) : GAltRO w' S l v := by
  obtain ⟨b, f, hv, hS, hn, hr, hf, r0⟩ := h
  exact ⟨b, f, hv, hS, hn, World.rowIs.of_block hr (hb b hS (World.rowIs.lt hr)), hf, fun i hi => (r0 i hi).keep hb⟩
theorem GAltRO.still {w w' : World} {S : Nat → Prop} {l : List DGAlt} {v : Value} (h : GAltRO w S l v) (hb : Below w.heap.size w w') : GAltRO w' S l v := h.keep (fun b _ hlt => hb.block b hlt)
theorem GAltRO.mono {w : World} {S S' : Nat → Prop} {l : List DGAlt} {v : Value} (h : GAltRO w S l v) (hS : ∀ b, S b → S' b) : GAltRO w S' l v := by
  obtain ⟨b, f, hv, h1, hn, hr, hf, r0⟩ := h
  exact ⟨b, f, hv, hS _ h1, hn, hr, hf, fun i hi => (r0 i hi).mono hS⟩
theorem GAltRO.form {w : World} {S : Nat → Prop} {l : List DGAlt} {v : Value} (h : GAltRO w S l v) : ∃ a cap, v = .slice a l.length cap ∧ l.length ≤ maxLen := by
  obtain ⟨b, f, hv, h1, hn, _⟩ := h
  exact ⟨_, _, hv, by unfold maxLen; omega⟩
theorem GAltRO.top {w : World} {S : Nat → Prop} {l : List DGAlt} {v : Value} (h : GAltRO w S l v) : GAltRO w (fun b => S b ∧ b < w.heap.size) l v := by
  obtain ⟨b, f, hv, h1, hn, hr, hf, r0⟩ := h
  exact ⟨b, f, hv, ⟨h1, World.rowIs.lt hr⟩, hn, hr, hf, fun i hi => (r0 i hi).top⟩
theorem GAltRO.lies {w : World} {S : Nat → Prop} {l : List DGAlt} {v : Value} (h : GAltRO w S l v) : GAltR w S l v := by
  obtain ⟨b, f, hv, h1, hn, hr, hf, r0⟩ := h
  refine ⟨_, _, b, 0, fun i => f (i * 2), hv, Nat.le_refl _, by unfold maxLen; omega, fun _ => ⟨rfl, h1⟩, fun i hi => ?_, fun i hi => (r0 i hi).lies⟩
  obtain ⟨g1, z0⟩ := hf i hi
  exact ⟨by rw [Nat.zero_add, hr.cell (by omega)], by rw [Nat.zero_add, hr.cell (by omega), g1], z0⟩
structure DGRule where
  name : ByteArray
  alts : List DGAlt
/-- Its slices. -/
structure DGRuleL (w : World) (S : Nat → Prop) (t : DGRule) (v1 : Value) : Prop where
  alts : GAltR w S t.alts v1
theorem DGRuleL.keep {w w' : World} {S : Nat → Prop} {t : DGRule} {v1 : Value} (h : DGRuleL w S t v1) (hb : ∀ b, S b → b < w.heap.size → w'.heap[b]? = w.heap[b]?) : DGRuleL w' S t v1 := ⟨h.alts.keep hb⟩
theorem DGRuleL.still {w w' : World} {S : Nat → Prop} {t : DGRule} {v1 : Value} (h : DGRuleL w S t v1) (hb : Below w.heap.size w w') : DGRuleL w' S t v1 := ⟨h.alts.still hb⟩
theorem DGRuleL.mono {w : World} {S S' : Nat → Prop} {t : DGRule} {v1 : Value} (h : DGRuleL w S t v1) (hS : ∀ b, S b → S' b) : DGRuleL w S' t v1 := ⟨h.alts.mono hS⟩
/-- Its slices. -/
structure DGRuleO (w : World) (S : Nat → Prop) (t : DGRule) (v1 : Value) : Prop where
  alts : GAltRO w S t.alts v1
theorem DGRuleO.keep {w w' : World} {S : Nat → Prop} {t : DGRule} {v1 : Value} (h : DGRuleO w S t v1) (hb : ∀ b, S b → b < w.heap.size → w'.heap[b]? = w.heap[b]?) : DGRuleO w' S t v1 := ⟨h.alts.keep hb⟩
theorem DGRuleO.still {w w' : World} {S : Nat → Prop} {t : DGRule} {v1 : Value} (h : DGRuleO w S t v1) (hb : Below w.heap.size w w') : DGRuleO w' S t v1 := ⟨h.alts.still hb⟩
theorem DGRuleO.mono {w : World} {S S' : Nat → Prop} {t : DGRule} {v1 : Value} (h : DGRuleO w S t v1) (hS : ∀ b, S b → S' b) : DGRuleO w S' t v1 := ⟨h.alts.mono hS⟩
theorem DGRuleO.lies {w : World} {S : Nat → Prop} {t : DGRule} {v1 : Value} (h : DGRuleO w S t v1) : DGRuleL w S t v1 := ⟨h.alts.lies⟩
theorem DGRuleO.top {w : World} {S : Nat → Prop} {t : DGRule} {v1 : Value} (h : DGRuleO w S t v1) : DGRuleO w (fun b => S b ∧ b < w.heap.size) t v1 := ⟨h.alts.top⟩
def GRuleR (w : World) (S : Nat → Prop) (l : List DGRule) (v : Value) : Prop :=
  ∃ (a : Option Addr) (cap b off : Nat) (s1 : Nat → Value), v = .slice a l.length cap ∧ l.length ≤ cap ∧ cap ≤ maxLen ∧ (0 < l.length → a = some ⟨b, off, none⟩ ∧ S b) ∧ (∀ i (hi : i < l.length), w.cell? ⟨b, off + i * 2, none⟩ = some (.string l[i].name) ∧ w.cell? ⟨b, off + i * 2 + 1, none⟩ = some (s1 i) ∧ l[i].name.size ≤ maxLen) ∧ (∀ i (hi : i < l.length), GAltR w S l[i].alts (s1 i))
theorem GRuleR.keep {w w' : World} {S : Nat → Prop} {l : List DGRule} {v : Value} (h : GRuleR w S l v) (hb : ∀ b, S b → b < w.heap.size → w'.heap[b]? = w.heap[b]?) : GRuleR w' S l v := by
  obtain ⟨a, cap, b, off, s1, hv, hc, hm, ha, hcell, r1⟩ := h
  refine ⟨a, cap, b, off, s1, hv, hc, hm, ha, fun i hi => ?_, fun i hi => (r1 i hi).keep hb⟩
  obtain ⟨c0, c1, z0⟩ := hcell i hi
  have hbk := hb b (ha (by omega)).2 (lt_of_cell c0)
  exact ⟨(World.cell?_of_block (w := w) hbk).trans c0, (World.cell?_of_block (w := w) hbk).trans c1, z0⟩
theorem GRuleR.still {w w' : World} {S : Nat → Prop} {l : List DGRule} {v : Value} (h : GRuleR w S l v) (hb : Below w.heap.size w w') : GRuleR w' S l v := h.keep (fun b _ hlt => hb.block b hlt)
theorem GRuleR.mono {w : World} {S S' : Nat → Prop} {l : List DGRule} {v : Value} (h : GRuleR w S l v) (hS : ∀ b, S b → S' b) : GRuleR w S' l v := by
  obtain ⟨a, cap, b, off, s1, hv, hc, hm, ha, hcell, r1⟩ := h
  exact ⟨a, cap, b, off, s1, hv, hc, hm, fun h0 => ⟨(ha h0).1, hS _ (ha h0).2⟩, hcell, fun i hi => (r1 i hi).mono hS⟩
theorem GRuleR.form {w : World} {S : Nat → Prop} {l : List DGRule} {v : Value} (h : GRuleR w S l v) : ∃ a cap, v = .slice a l.length cap ∧ l.length ≤ maxLen := by
  obtain ⟨a, cap, b, off, _, hv, hc, hm, _⟩ := h
  exact ⟨_, _, hv, by omega⟩
/-- .. in rows of their own, in blocks of S. -/
def GRuleRO (w : World) (S : Nat → Prop) (l : List DGRule) (v : Value) : Prop :=
  ∃ (b : Nat) (f : Nat → Value), v = .slice (some ⟨b, 0, none⟩) l.length l.length ∧ S b ∧ l.length ≤ 1048576 ∧ w.rowIs b 54 (l.length * 2) f ∧ (∀ i (hi : i < l.length), f (i * 2) = .string l[i].name ∧ l[i].name.size ≤ maxLen) ∧ (∀ i (hi : i < l.length), GAltRO w S l[i].alts (f (i * 2 + 1)))
theorem GRuleRO.keep {w w' : World} {S : Nat → Prop} {l : List DGRule} {v : Value} (h : GRuleRO w S l v) (hb : ∀ b, S b → b < w.heap.size → w'.heap[b]? = w.heap[b]?) : GRuleRO w' S l v := by
  obtain ⟨b, f, hv, hS, hn, hr, hf, r1⟩ := h
  exact ⟨b, f, hv, hS, hn, World.rowIs.of_block hr (hb b hS (World.rowIs.lt hr)), hf, fun i hi => (r1 i hi).keep hb⟩
theorem GRuleRO.still {w w' : World} {S : Nat → Prop} {l : List DGRule} {v : Value} (h : GRuleRO w S l v) (hb : Below w.heap.size w w') : GRuleRO w' S l v := h.keep (fun b _ hlt => hb.block b hlt)
theorem GRuleRO.mono {w : World} {S S' : Nat → Prop} {l : List DGRule} {v : Value} (h : GRuleRO w S l v) (hS : ∀ b, S b → S' b) : GRuleRO w S' l v := by
  obtain ⟨b, f, hv, h1, hn, hr, hf, r1⟩ := h
  exact ⟨b, f, hv, hS _ h1, hn, hr, hf, fun i hi => (r1 i hi).mono hS⟩
theorem GRuleRO.form {w : World} {S : Nat → Prop} {l : List DGRule} {v : Value} (h : GRuleRO w S l v) : ∃ a cap, v = .slice a l.length cap ∧ l.length ≤ maxLen := by
  obtain ⟨b, f, hv, h1, hn, _⟩ := h
  exact ⟨_, _, hv, by unfold maxLen; omega⟩
theorem GRuleRO.top {w : World} {S : Nat → Prop} {l : List DGRule} {v : Value} (h : GRuleRO w S l v) : GRuleRO w (fun b => S b ∧ b < w.heap.size) l v := by
  obtain ⟨b, f, hv, h1, hn, hr, hf, r1⟩ := h
  exact ⟨b, f, hv, ⟨h1, World.rowIs.lt hr⟩, hn, hr, hf, fun i hi => (r1 i hi).top⟩
theorem GRuleRO.lies {w : World} {S : Nat → Prop} {l : List DGRule} {v : Value} (h : GRuleRO w S l v) : GRuleR w S l v := by
  obtain ⟨b, f, hv, h1, hn, hr, hf, r1⟩ := h
  refine ⟨_, _, b, 0, fun i => f (i * 2 + 1), hv, Nat.le_refl _, by unfold maxLen; omega, fun _ => ⟨rfl, h1⟩, fun i hi => ?_, fun i hi => (r1 i hi).lies⟩
  obtain ⟨g0, z0⟩ := hf i hi
  exact ⟨by rw [Nat.zero_add, hr.cell (by omega), g0], by rw [Nat.zero_add, hr.cell (by omega)], z0⟩
structure DPart where
  kind : Int
  s : ByteArray
  alts : List (List Int)
/-- Its slices. -/
structure DPartL (w : World) (S : Nat → Prop) (t : DPart) (v2 : Value) : Prop where
  alts : IRws w S t.alts v2
theorem DPartL.keep {w w' : World} {S : Nat → Prop} {t : DPart} {v2 : Value} (h : DPartL w S t v2) (hb : ∀ b, S b → b < w.heap.size → w'.heap[b]? = w.heap[b]?) : DPartL w' S t v2 := ⟨h.alts.keep hb⟩
theorem DPartL.still {w w' : World} {S : Nat → Prop} {t : DPart} {v2 : Value} (h : DPartL w S t v2) (hb : Below w.heap.size w w') : DPartL w' S t v2 := ⟨h.alts.still hb⟩
theorem DPartL.mono {w : World} {S S' : Nat → Prop} {t : DPart} {v2 : Value} (h : DPartL w S t v2) (hS : ∀ b, S b → S' b) : DPartL w S' t v2 := ⟨h.alts.mono hS⟩
/-- Its slices. -/
structure DPartO (w : World) (S : Nat → Prop) (t : DPart) (v2 : Value) : Prop where
  alts : IRwsO w S t.alts v2
theorem DPartO.keep {w w' : World} {S : Nat → Prop} {t : DPart} {v2 : Value} (h : DPartO w S t v2) (hb : ∀ b, S b → b < w.heap.size → w'.heap[b]? = w.heap[b]?) : DPartO w' S t v2 := ⟨h.alts.keep hb⟩
theorem DPartO.still {w w' : World} {S : Nat → Prop} {t : DPart} {v2 : Value} (h : DPartO w S t v2) (hb : Below w.heap.size w w') : DPartO w' S t v2 := ⟨h.alts.still hb⟩
theorem DPartO.mono {w : World} {S S' : Nat → Prop} {t : DPart} {v2 : Value} (h : DPartO w S t v2) (hS : ∀ b, S b → S' b) : DPartO w S' t v2 := ⟨h.alts.mono hS⟩
theorem DPartO.lies {w : World} {S : Nat → Prop} {t : DPart} {v2 : Value} (h : DPartO w S t v2) : DPartL w S t v2 := ⟨h.alts.lies⟩
theorem DPartO.top {w : World} {S : Nat → Prop} {t : DPart} {v2 : Value} (h : DPartO w S t v2) : DPartO w (fun b => S b ∧ b < w.heap.size) t v2 := ⟨h.alts.top⟩
def PartR (w : World) (S : Nat → Prop) (l : List DPart) (v : Value) : Prop :=
  ∃ (a : Option Addr) (cap b off : Nat) (s2 : Nat → Value), v = .slice a l.length cap ∧ l.length ≤ cap ∧ cap ≤ maxLen ∧ (0 < l.length → a = some ⟨b, off, none⟩ ∧ S b) ∧ (∀ i (hi : i < l.length), w.cell? ⟨b, off + i * 3, none⟩ = some (.int .i64 l[i].kind) ∧ w.cell? ⟨b, off + i * 3 + 1, none⟩ = some (.string l[i].s) ∧ w.cell? ⟨b, off + i * 3 + 2, none⟩ = some (s2 i) ∧ l[i].s.size ≤ maxLen) ∧ (∀ i (hi : i < l.length), IRws w S l[i].alts (s2 i))
theorem PartR.keep {w w' : World} {S : Nat → Prop} {l : List DPart} {v : Value} (h : PartR w S l v) (hb : ∀ b, S b → b < w.heap.size → w'.heap[b]? = w.heap[b]?) : PartR w' S l v := by
  obtain ⟨a, cap, b, off, s2, hv, hc, hm, ha, hcell, r2⟩ := h
  refine ⟨a, cap, b, off, s2, hv, hc, hm, ha, fun i hi => ?_, fun i hi => (r2 i hi).keep hb⟩
  obtain ⟨c0, c1, c2, z0⟩ := hcell i hi
  have hbk := hb b (ha (by omega)).2 (lt_of_cell c0)
  exact ⟨(World.cell?_of_block (w := w) hbk).trans c0, (World.cell?_of_block (w := w) hbk).trans c1, (World.cell?_of_block (w := w) hbk).trans c2, z0⟩
theorem PartR.still {w w' : World} {S : Nat → Prop} {l : List DPart} {v : Value} (h : PartR w S l v) (hb : Below w.heap.size w w') : PartR w' S l v := h.keep (fun b _ hlt => hb.block b hlt)
theorem PartR.mono {w : World} {S S' : Nat → Prop} {l : List DPart} {v : Value} (h : PartR w S l v) (hS : ∀ b, S b → S' b) : PartR w S' l v := by
  obtain ⟨a, cap, b, off, s2, hv, hc, hm, ha, hcell, r2⟩ := h
  exact ⟨a, cap, b, off, s2, hv, hc, hm, fun h0 => ⟨(ha h0).1, hS _ (ha h0).2⟩, hcell, fun i hi => (r2 i hi).mono hS⟩
theorem PartR.form {w : World} {S : Nat → Prop} {l : List DPart} {v : Value} (h : PartR w S l v) : ∃ a cap, v = .slice a l.length cap ∧ l.length ≤ maxLen := by
  obtain ⟨a, cap, b, off, _, hv, hc, hm, _⟩ := h
  exact ⟨_, _, hv, by omega⟩
/-- .. in rows of their own, in blocks of S. -/
def PartRO (w : World) (S : Nat → Prop) (l : List DPart) (v : Value) : Prop :=
  ∃ (b : Nat) (f : Nat → Value), v = .slice (some ⟨b, 0, none⟩) l.length l.length ∧ S b ∧ l.length ≤ 1048576 ∧ w.rowIs b 91 (l.length * 3) f ∧ (∀ i (hi : i < l.length), f (i * 3) = .int .i64 l[i].kind ∧ f (i * 3 + 1) = .string l[i].s ∧ l[i].s.size ≤ maxLen) ∧ (∀ i (hi : i < l.length), IRwsO w S l[i].alts (f (i * 3 + 2)))
theorem PartRO.keep {w w' : World} {S : Nat → Prop} {l : List DPart} {v : Value} (h : PartRO w S l v) (hb : ∀ b, S b → b < w.heap.size → w'.heap[b]? = w.heap[b]?) : PartRO w' S l v := by
  obtain ⟨b, f, hv, hS, hn, hr, hf, r2⟩ := h
  exact ⟨b, f, hv, hS, hn, World.rowIs.of_block hr (hb b hS (World.rowIs.lt hr)), hf, fun i hi => (r2 i hi).keep hb⟩
theorem PartRO.still {w w' : World} {S : Nat → Prop} {l : List DPart} {v : Value} (h : PartRO w S l v) (hb : Below w.heap.size w w') : PartRO w' S l v := h.keep (fun b _ hlt => hb.block b hlt)
theorem PartRO.mono {w : World} {S S' : Nat → Prop} {l : List DPart} {v : Value} (h : PartRO w S l v) (hS : ∀ b, S b → S' b) : PartRO w S' l v := by
  obtain ⟨b, f, hv, h1, hn, hr, hf, r2⟩ := h
  exact ⟨b, f, hv, hS _ h1, hn, hr, hf, fun i hi => (r2 i hi).mono hS⟩
theorem PartRO.form {w : World} {S : Nat → Prop} {l : List DPart} {v : Value} (h : PartRO w S l v) : ∃ a cap, v = .slice a l.length cap ∧ l.length ≤ maxLen := by
  obtain ⟨b, f, hv, h1, hn, _⟩ := h
  exact ⟨_, _, hv, by unfold maxLen; omega⟩
theorem PartRO.top {w : World} {S : Nat → Prop} {l : List DPart} {v : Value} (h : PartRO w S l v) : PartRO w (fun b => S b ∧ b < w.heap.size) l v := by
  obtain ⟨b, f, hv, h1, hn, hr, hf, r2⟩ := h
  exact ⟨b, f, hv, ⟨h1, World.rowIs.lt hr⟩, hn, hr, hf, fun i hi => (r2 i hi).top⟩
theorem PartRO.lies {w : World} {S : Nat → Prop} {l : List DPart} {v : Value} (h : PartRO w S l v) : PartR w S l v := by
  obtain ⟨b, f, hv, h1, hn, hr, hf, r2⟩ := h
  refine ⟨_, _, b, 0, fun i => f (i * 3 + 2), hv, Nat.le_refl _, by unfold maxLen; omega, fun _ => ⟨rfl, h1⟩, fun i hi => ?_, fun i hi => (r2 i hi).lies⟩
  obtain ⟨g0, g1, z0⟩ := hf i hi
  exact ⟨by rw [Nat.zero_add, hr.cell (by omega), g0], by rw [Nat.zero_add, hr.cell (by omega), g1], by rw [Nat.zero_add, hr.cell (by omega)], z0⟩
structure DGrammar where
  name : ByteArray
  tokens : List DToken
  levels : List DLevel
  rules : List DGRule
  parts : List DPart
/-- Its slices. -/
structure DGrammarL (w : World) (S : Nat → Prop) (t : DGrammar) (v1 v2 v3 v4 : Value) : Prop where
  tokens : TokenR w S t.tokens v1
  levels : LevelR w S t.levels v2
  rules : GRuleR w S t.rules v3
  parts : PartR w S t.parts v4
theorem DGrammarL.keep {w w' : World} {S : Nat → Prop} {t : DGrammar} {v1 v2 v3 v4 : Value} (h : DGrammarL w S t v1 v2 v3 v4) (hb : ∀ b, S b → b < w.heap.size → w'.heap[b]? = w.heap[b]?) : DGrammarL w' S t v1 v2 v3 v4 := ⟨h.tokens.keep hb, h.levels.keep hb, h.rules.keep hb, h.parts.keep hb⟩
theorem DGrammarL.still {w w' : World} {S : Nat → Prop} {t : DGrammar} {v1 v2 v3 v4 : Value} (h : DGrammarL w S t v1 v2 v3 v4) (hb : Below w.heap.size w w') : DGrammarL w' S t v1 v2 v3 v4 := ⟨h.tokens.still hb, h.levels.still hb, h.rules.still hb, h.parts.still hb⟩
theorem DGrammarL.mono {w : World} {S S' : Nat → Prop} {t : DGrammar} {v1 v2 v3 v4 : Value} (h : DGrammarL w S t v1 v2 v3 v4) (hS : ∀ b, S b → S' b) : DGrammarL w S' t v1 v2 v3 v4 := ⟨h.tokens.mono hS, h.levels.mono hS, h.rules.mono hS, h.parts.mono hS⟩
/-- Its slices. -/
structure DGrammarO (w : World) (S : Nat → Prop) (t : DGrammar) (v1 v2 v3 v4 : Value) : Prop where
  tokens : TokenRO w S t.tokens v1
  levels : LevelRO w S t.levels v2
  rules : GRuleRO w S t.rules v3
  parts : PartRO w S t.parts v4
theorem DGrammarO.keep {w w' : World} {S : Nat → Prop} {t : DGrammar} {v1 v2 v3 v4 : Value} (h : DGrammarO w S t v1 v2 v3 v4) (hb : ∀ b, S b → b < w.heap.size → w'.heap[b]? = w.heap[b]?) : DGrammarO w' S t v1 v2 v3 v4 := ⟨h.tokens.keep hb, h.levels.keep hb, h.rules.keep hb, h.parts.keep hb⟩
theorem DGrammarO.still {w w' : World} {S : Nat → Prop} {t : DGrammar} {v1 v2 v3 v4 : Value} (h : DGrammarO w S t v1 v2 v3 v4) (hb : Below w.heap.size w w') : DGrammarO w' S t v1 v2 v3 v4 := ⟨h.tokens.still hb, h.levels.still hb, h.rules.still hb, h.parts.still hb⟩
theorem DGrammarO.mono {w : World} {S S' : Nat → Prop} {t : DGrammar} {v1 v2 v3 v4 : Value} (h : DGrammarO w S t v1 v2 v3 v4) (hS : ∀ b, S b → S' b) : DGrammarO w S' t v1 v2 v3 v4 := ⟨h.tokens.mono hS, h.levels.mono hS, h.rules.mono hS, h.parts.mono hS⟩
theorem DGrammarO.lies {w : World} {S : Nat → Prop} {t : DGrammar} {v1 v2 v3 v4 : Value} (h : DGrammarO w S t v1 v2 v3 v4) : DGrammarL w S t v1 v2 v3 v4 := ⟨h.tokens.lies, h.levels.lies, h.rules.lies, h.parts.lies⟩
theorem DGrammarO.top {w : World} {S : Nat → Prop} {t : DGrammar} {v1 v2 v3 v4 : Value} (h : DGrammarO w S t v1 v2 v3 v4) : DGrammarO w (fun b => S b ∧ b < w.heap.size) t v1 v2 v3 v4 := ⟨h.tokens.top, h.levels.top, h.rules.top, h.parts.top⟩
def Ints.Sm (l : List Int) : Prop := l.length ≤ 1048576
def Strs.Sm (l : List ByteArray) : Prop := l.length ≤ 1048576 ∧ ∀ i (hi : i < l.length), l[i].size ≤ 1048576
def IRws.Sm (l : List (List Int)) : Prop := l.length ≤ 1048576 ∧ ∀ i (hi : i < l.length), Ints.Sm l[i]
structure DToken.Sm (t : DToken) : Prop where
  name : t.name.size ≤ 1048576
  rx : t.rx.size ≤ 1048576
def TokenR.Sm (l : List DToken) : Prop := l.length ≤ 1048576 ∧ ∀ i (hi : i < l.length), l[i].Sm
structure DLevel.Sm (t : DLevel) : Prop where
  lits : Strs.Sm t.lits
def LevelR.Sm (l : List DLevel) : Prop := l.length ≤ 1048576 ∧ ∀ i (hi : i < l.length), l[i].Sm
structure DGAlt.Sm (t : DGAlt) : Prop where
  items : Ints.Sm t.items
  label : t.label.size ≤ 1048576
def GAltR.Sm (l : List DGAlt) : Prop := l.length ≤ 1048576 ∧ ∀ i (hi : i < l.length), l[i].Sm
structure DGRule.Sm (t : DGRule) : Prop where
  name : t.name.size ≤ 1048576
  alts : GAltR.Sm t.alts
def GRuleR.Sm (l : List DGRule) : Prop := l.length ≤ 1048576 ∧ ∀ i (hi : i < l.length), l[i].Sm
structure DPart.Sm (t : DPart) : Prop where
  s : t.s.size ≤ 1048576
  alts : IRws.Sm t.alts
def PartR.Sm (l : List DPart) : Prop := l.length ≤ 1048576 ∧ ∀ i (hi : i < l.length), l[i].Sm
structure DGrammar.Sm (t : DGrammar) : Prop where
  name : t.name.size ≤ 1048576
  tokens : TokenR.Sm t.tokens
  levels : LevelR.Sm t.levels
  rules : GRuleR.Sm t.rules
  parts : PartR.Sm t.parts
end Go.Proofs.YtgjnlhidbjpdkajGreat
