import Derived.WalkKit
import Derived.Deep.Slices
import Derived.Deep.OwnRows
/-! Rows of numbers, as data and in memory; a machine, and what it reads. Nothing here hangs on the program. -/
namespace Go.Proofs.YtjpjjfgdgieapaaDoor
set_option linter.unusedVariables false
set_option maxRecDepth 100000
set_option linter.unusedSimpArgs false
open Go.RowKit Go.Deep

theorem ret_bool {a b : Bool} (h : a = b) : Ending.returned (.bool a) = .returned (.bool b) := by rw [h]
theorem lt_of_cell {w : World} {a : Addr} {v : Value} (h : w.cell? a = some v) : a.block < w.heap.size := by
  apply Decidable.byContradiction
  intro hn
  have : w.heap[a.block]? = none := by simp; omega
  simp [World.cell?, this] at h
/-- A call behind a new block. -/
theorem bel_box {w w1 : World} {o : Obj} (h : Below (w.alloc o).heap.size (w.alloc o) w1) : Below w.heap.size w w1 :=
  ((Below.refl _ _).alloc (Nat.le_refl _) o).trans (h.mono (by simp))
theorem bel_alloc (w : World) (o : Obj) : Below w.heap.size w (w.alloc o) := (Below.refl _ _).alloc (Nat.le_refl _) o
/-- Two steps, each below its own beginning. -/
theorem bel_trans {a b c : World} (h : Below a.heap.size a b) (k : Below b.heap.size b c) : Below a.heap.size a c := h.trans (k.mono h.size)
theorem row_made (w : World) (z : Array Value) (n : Nat) (t : TypeId) : ∃ f, (w.alloc (.cells (madeCells z n) t)).rowIs w.heap.size t n f :=
  ⟨fun i => z[i % z.size]!, _, blk_alloc_new _ _, size_madeCells _ _, fun i hi => by simp [madeCells, hi]⟩

/-- A box of three cells. -/
def Three (w : World) (g : Nat) (c0 c1 c2 : Value) : Prop := w.cell? ⟨g, 0, none⟩ = some c0 ∧ w.cell? ⟨g, 1, none⟩ = some c1 ∧ w.cell? ⟨g, 2, none⟩ = some c2
theorem three_box (w : World) (c0 c1 c2 : Value) (T : TypeId) : Three (w.alloc (.cells #[c0, c1, c2] T)) w.heap.size c0 c1 c2 := by
  simp [Three, go_sem]
theorem Three.still {w w' : World} {g : Nat} {c0 c1 c2 : Value} (h : Three w g c0 c1 c2) (hb : Below w.heap.size w w') : Three w' g c0 c1 c2 :=
  ⟨(hb.cell (lt_of_cell h.1)).trans h.1, (hb.cell (lt_of_cell h.2.1)).trans h.2.1, (hb.cell (lt_of_cell h.2.2)).trans h.2.2⟩

/-- Numbers that lie behind a slice, in a block of S. -/
def Ints (w : World) (S : Nat → Prop) (l : List Int) (v : Value) : Prop :=
  ∃ (a : Option Addr) (cap b off : Nat), v = .slice a l.length cap ∧ l.length ≤ cap ∧ cap ≤ maxLen ∧ (0 < l.length → a = some ⟨b, off, none⟩ ∧ S b) ∧ ∀ i (hi : i < l.length), w.cell? ⟨b, off + i, none⟩ = some (.int .i64 l[i])
theorem Ints.still {w w' : World} {S : Nat → Prop} {l : List Int} {v : Value} (h : Ints w S l v) (hb : Below w.heap.size w w') : Ints w' S l v := by
  obtain ⟨a, cap, b, off, hv, hc, hm, ha, hcell⟩ := h
  exact ⟨a, cap, b, off, hv, hc, hm, ha, fun i hi => (hb.cell (lt_of_cell (hcell i hi))).trans (hcell i hi)⟩
theorem Ints.keep {w w' : World} {S : Nat → Prop} {l : List Int} {v : Value} (h : Ints w S l v) (hb : ∀ b, S b → b < w.heap.size → w'.heap[b]? = w.heap[b]?) : Ints w' S l v := by
  obtain ⟨a, cap, b, off, hv, hc, hm, ha, hcell⟩ := h
  exact ⟨a, cap, b, off, hv, hc, hm, ha, fun i hi => (World.cell?_of_block (w := w) (hb b (ha (by omega)).2 (lt_of_cell (hcell i hi)))).trans (hcell i hi)⟩
theorem Ints.mono {w : World} {S S' : Nat → Prop} {l : List Int} {v : Value} (h : Ints w S l v) (hS : ∀ b, S b → S' b) : Ints w S' l v := by
  obtain ⟨a, cap, b, off, hv, hc, hm, ha, hcell⟩ := h
  exact ⟨a, cap, b, off, hv, hc, hm, fun h0 => ⟨(ha h0).1, hS _ (ha h0).2⟩, hcell⟩
theorem Ints.form {w : World} {S : Nat → Prop} {l : List Int} {v : Value} (h : Ints w S l v) : ∃ a cap, v = .slice a l.length cap ∧ l.length ≤ maxLen := by
  obtain ⟨a, cap, b, off, hv, hc, hm, _⟩ := h
  exact ⟨_, _, hv, by omega⟩
/-- .. in a row of its own. -/
def IRow (w : World) (b : Nat) (l : List Int) : Prop := w.rowIs b 3 l.length (fun i => .int .i64 (l.getD i 0))
theorem IRow.ints {w : World} {b : Nat} {l : List Int} (h : IRow w b l) (hl : l.length ≤ maxLen) : Ints w (fun c => c = b) l (.slice (some ⟨b, 0, none⟩) l.length l.length) := by
  refine ⟨_, _, b, 0, rfl, Nat.le_refl _, hl, fun _ => ⟨rfl, rfl⟩, fun i hi => ?_⟩
  rw [Nat.zero_add, h.cell hi]
  simp [List.getD_eq_getElem?_getD, hi]

/-- Rows of numbers that lie behind a slice, all in blocks of S. -/
def IRows (w : World) (S : Nat → Prop) (ls : List (List Int)) (v : Value) : Prop :=
  ∃ (a : Option Addr) (cap b off : Nat) (sv : Nat → Value), v = .slice a ls.length cap ∧ ls.length ≤ cap ∧ cap ≤ maxLen ∧ (0 < ls.length → a = some ⟨b, off, none⟩ ∧ S b) ∧
    (∀ i (hi : i < ls.length), w.cell? ⟨b, off + i, none⟩ = some (sv i)) ∧ ∀ i (hi : i < ls.length), Ints w S ls[i] (sv i)
theorem IRows.still {w w' : World} {S : Nat → Prop} {l : List (List Int)} {v : Value} (h : IRows w S l v) (hb : Below w.heap.size w w') : IRows w' S l v := by
  obtain ⟨a, cap, b, off, sv, hv, hc, hm, ha, hcell, hr⟩ := h
  exact ⟨a, cap, b, off, sv, hv, hc, hm, ha, fun i hi => (hb.cell (lt_of_cell (hcell i hi))).trans (hcell i hi), fun i hi => (hr i hi).still hb⟩
theorem IRows.form {w : World} {S : Nat → Prop} {l : List (List Int)} {v : Value} (h : IRows w S l v) : ∃ a cap, v = .slice a l.length cap ∧ l.length ≤ maxLen := by
  obtain ⟨a, cap, b, off, sv, hv, hc, hm, _⟩ := h
  exact ⟨_, _, hv, by omega⟩

theorem IRows.keep {w w' : World} {S : Nat → Prop} {l : List (List Int)} {v : Value} (h : IRows w S l v) (hb : ∀ b, S b → b < w.heap.size → w'.heap[b]? = w.heap[b]?) : IRows w' S l v := by
  obtain ⟨a, cap, b, off, sv, hv, hc, hm, ha, hcell, hr⟩ := h
  exact ⟨a, cap, b, off, sv, hv, hc, hm, ha, fun i hi => (World.cell?_of_block (w := w) (hb b (ha (by omega)).2 (lt_of_cell (hcell i hi)))).trans (hcell i hi), fun i hi => (hr i hi).keep hb⟩
theorem IRows.mono {w : World} {S S' : Nat → Prop} {l : List (List Int)} {v : Value} (h : IRows w S l v) (hS : ∀ b, S b → S' b) : IRows w S' l v := by
  obtain ⟨a, cap, b, off, sv, hv, hc, hm, ha, hcell, hr⟩ := h
  exact ⟨a, cap, b, off, sv, hv, hc, hm, fun h0 => ⟨(ha h0).1, hS _ (ha h0).2⟩, hcell, fun i hi => (hr i hi).mono hS⟩
/-- A box of three cells that may be written. -/
def Box3 (w : World) (g T : Nat) (c0 c1 c2 : Value) : Prop := ∃ f, w.rowIs g T 3 f ∧ f 0 = c0 ∧ f 1 = c1 ∧ f 2 = c2
theorem box3_alloc (w : World) (T : Nat) (c0 c1 c2 : Value) : Box3 (w.alloc (.cells #[c0, c1, c2] T)) w.heap.size T c0 c1 c2 :=
  ⟨fun i => #[c0, c1, c2].getD i c0, ⟨#[c0, c1, c2], blk_alloc_new _ _, rfl, fun i hi => by
    match i, hi with
    | 0, _ => rfl
    | 1, _ => rfl
    | 2, _ => rfl⟩, rfl, rfl, rfl⟩
theorem Box3.lt {w : World} {g T : Nat} {c0 c1 c2 : Value} (h : Box3 w g T c0 c1 c2) : g < w.heap.size := by
  obtain ⟨f, h, _⟩ := h
  exact World.rowIs.lt h
theorem Box3.still {w w' : World} {g T : Nat} {c0 c1 c2 : Value} (h : Box3 w g T c0 c1 c2) (hb : Below w.heap.size w w') : Box3 w' g T c0 c1 c2 := by
  obtain ⟨f, h, e⟩ := h
  exact ⟨f, World.rowIs.of_block h (hb.block g (World.rowIs.lt h)), e⟩
theorem Box3.keep {w w' : World} {g T : Nat} {c0 c1 c2 : Value} (h : Box3 w g T c0 c1 c2) (hb : w'.heap[g]? = w.heap[g]?) : Box3 w' g T c0 c1 c2 := by
  obtain ⟨f, h, e⟩ := h
  exact ⟨f, World.rowIs.of_block h hb, e⟩
theorem Box3.cells {w : World} {g T : Nat} {c0 c1 c2 : Value} (h : Box3 w g T c0 c1 c2) : Three w g c0 c1 c2 ∧ w.frozen? ⟨g, 0, none⟩ = false ∧ w.frozen? ⟨g, 1, none⟩ = false ∧ w.frozen? ⟨g, 2, none⟩ = false := by
  obtain ⟨f, h, rfl, rfl, rfl⟩ := h
  exact ⟨⟨h.cell (by omega), h.cell (by omega), h.cell (by omega)⟩, h.frozen 0, h.frozen 1, h.frozen 2⟩
theorem Box3.set0 {w : World} {g T : Nat} {c0 c1 c2 : Value} (h : Box3 w g T c0 c1 c2) (u : Value) : Box3 (w.setCell ⟨g, 0, none⟩ u) g T u c1 c2 := by
  obtain ⟨f, h, e0, e1, e2⟩ := h
  exact ⟨_, h.set 0 u, if_pos rfl, by rw [if_neg (by omega)]; exact e1, by rw [if_neg (by omega)]; exact e2⟩
theorem Box3.set1 {w : World} {g T : Nat} {c0 c1 c2 : Value} (h : Box3 w g T c0 c1 c2) (u : Value) : Box3 (w.setCell ⟨g, 1, none⟩ u) g T c0 u c2 := by
  obtain ⟨f, h, e0, e1, e2⟩ := h
  exact ⟨_, h.set 1 u, by rw [if_neg (by omega)]; exact e0, if_pos rfl, by rw [if_neg (by omega)]; exact e2⟩
theorem Box3.set2 {w : World} {g T : Nat} {c0 c1 c2 : Value} (h : Box3 w g T c0 c1 c2) (u : Value) : Box3 (w.setCell ⟨g, 2, none⟩ u) g T c0 c1 u := by
  obtain ⟨f, h, e0, e1, e2⟩ := h
  exact ⟨_, h.set 2 u, by rw [if_neg (by omega)]; exact e0, by rw [if_neg (by omega)]; exact e1, if_pos rfl⟩
theorem getD_lt {α : Type} (l : List α) (d : α) {i : Nat} (h : i < l.length) : l.getD i d = l[i] := by simp [List.getD_eq_getElem?_getD, h]
/-- A machine, as data. -/
structure Df where
  cls : List Int
  nxt : List (List Int)
  acc : List Int
/-- It is one. -/
def Df.Ok (d : Df) : Prop :=
  d.cls.length = 256 ∧ 1 ≤ d.nxt.length ∧ d.nxt.length ≤ 401 ∧ d.acc.length = d.nxt.length ∧ 1 ≤ (d.nxt.getD 0 []).length ∧ (d.nxt.getD 0 []).length ≤ 256 ∧
    (∀ i (hi : i < d.cls.length), 0 ≤ d.cls[i] ∧ d.cls[i] ≤ ((d.nxt.getD 0 []).length : Int) - 1) ∧
    ∀ s (hs : s < d.nxt.length), d.nxt[s].length = (d.nxt.getD 0 []).length ∧ -1 ≤ d.acc.getD s 0 ∧ ∀ c (hc : c < d.nxt[s].length), -1 ≤ d.nxt[s][c] ∧ d.nxt[s][c] ≤ (d.nxt.length : Int) - 1
/-- It lies in memory, its three slices these. -/
structure DLies (w : World) (S : Nat → Prop) (d : Df) (v0 v1 v2 : Value) : Prop where
  cls : Ints w S d.cls v0
  nxt : IRows w S d.nxt v1
  acc : Ints w S d.acc v2
theorem DLies.still {w w' : World} {S : Nat → Prop} {d : Df} {v0 v1 v2 : Value} (h : DLies w S d v0 v1 v2) (hb : Below w.heap.size w w') : DLies w' S d v0 v1 v2 :=
  ⟨h.cls.still hb, h.nxt.still hb, h.acc.still hb⟩

/-- Where it goes from a state by a byte. -/
def Df.step (d : Df) (st : Nat) (b : UInt8) : Int := (d.nxt.getD st []).getD (d.cls.getD b.toNat 0).toNat 0
/-- What it reads, from place k behind .. on, with so many bytes to go. -/
def Df.run (d : Df) (s : ByteArray) (frm : Nat) : Nat → Nat → Nat → Int → Int → Int × Int × Int
  | 0, _, _, len, wh => (len, wh, (s.size : Int) + 1)
  | k + 1, at_, st, len, wh =>
    if d.step st (s.get! at_) < 0 then (len, wh, (at_ : Int) + 1)
    else if 0 ≤ d.acc.getD (d.step st (s.get! at_)).toNat 0 then d.run s frm k (at_ + 1) (d.step st (s.get! at_)).toNat ((at_ : Int) + 1 - frm) (d.acc.getD (d.step st (s.get! at_)).toNat 0)
    else d.run s frm k (at_ + 1) (d.step st (s.get! at_)).toNat len wh
/-- All of it. -/
def Df.all (d : Df) (s : ByteArray) (frm : Nat) : Int × Int × Int := d.run s frm (s.size - frm) frm 0 0 (d.acc.getD 0 0)
theorem Df.run_stop {d : Df} {s : ByteArray} {frm at_ st : Nat} {len wh : Int} (h : at_ < s.size) (hs : d.step st (s.get! at_) < 0) : d.run s frm (s.size - at_) at_ st len wh = (len, wh, (at_ : Int) + 1) := by
  rw [show s.size - at_ = (s.size - (at_ + 1)) + 1 by omega, Df.run, if_pos hs]
theorem Df.run_acc {d : Df} {s : ByteArray} {frm at_ st : Nat} {len wh : Int} (h : at_ < s.size) (hs : ¬ d.step st (s.get! at_) < 0) (ha : 0 ≤ d.acc.getD (d.step st (s.get! at_)).toNat 0) :
    d.run s frm (s.size - at_) at_ st len wh = d.run s frm (s.size - (at_ + 1)) (at_ + 1) (d.step st (s.get! at_)).toNat ((at_ : Int) + 1 - frm) (d.acc.getD (d.step st (s.get! at_)).toNat 0) := by
  rw [show s.size - at_ = (s.size - (at_ + 1)) + 1 by omega, Df.run, if_neg hs, if_pos ha]
theorem Df.run_go {d : Df} {s : ByteArray} {frm at_ st : Nat} {len wh : Int} (h : at_ < s.size) (hs : ¬ d.step st (s.get! at_) < 0) (ha : ¬ 0 ≤ d.acc.getD (d.step st (s.get! at_)).toNat 0) :
    d.run s frm (s.size - at_) at_ st len wh = d.run s frm (s.size - (at_ + 1)) (at_ + 1) (d.step st (s.get! at_)).toNat len wh := by
  rw [show s.size - at_ = (s.size - (at_ + 1)) + 1 by omega, Df.run, if_neg hs, if_neg ha]
theorem Df.run_end {d : Df} {s : ByteArray} {frm at_ st : Nat} {len wh : Int} (h : s.size ≤ at_) : d.run s frm (s.size - at_) at_ st len wh = (len, wh, (s.size : Int) + 1) := by
  rw [show s.size - at_ = 0 by omega, Df.run]
/-- Where a machine that is one goes, from a state that is one. -/
theorem Df.step_of {d : Df} (h : d.Ok) {st : Nat} (hst : st < d.nxt.length) (b : UInt8) :
    ∃ (h1 : b.toNat < d.cls.length) (h2 : d.cls[b.toNat].toNat < d.nxt[st].length), 0 ≤ d.cls[b.toNat] ∧ d.step st b = d.nxt[st][d.cls[b.toNat].toNat] ∧ -1 ≤ d.step st b ∧ d.step st b ≤ (d.nxt.length : Int) - 1 := by
  obtain ⟨hc, h1, h2, ha, hn1, hn2, hcl, hrow⟩ := h
  have hb := b.toNat_lt
  have q1 : b.toNat < d.cls.length := by omega
  have q2 := hcl _ q1
  obtain ⟨r1, r2, r3⟩ := hrow st hst
  have q3 : d.cls[b.toNat].toNat < d.nxt[st].length := by rw [r1]; omega
  have e : d.step st b = d.nxt[st][d.cls[b.toNat].toNat] := by
    unfold Df.step
    rw [getD_lt _ _ hst, getD_lt _ _ q1, getD_lt _ _ q3]
  exact ⟨q1, q3, q2.1, e, by rw [e]; exact (r3 _ q3).1, by rw [e]; exact (r3 _ q3).2⟩
end Go.Proofs.YtjpjjfgdgieapaaDoor
