import Derived.Test.YtbgoikaelmacbaaDraw3
import Derived.Deep.RegionHeld3
import Derived.Deep.CutRange
/-! Drawn terms: what stands while one is drawn. -/
namespace Go.Proofs.Ytbgoikaelmacbaa
open Go.RowKit Go.Deep Go.Lib
set_option linter.unusedVariables false
set_option maxRecDepth 100000
set_option linter.unusedSimpArgs false

def lfN : List ByteArray := [⟨#[78, 117, 109]⟩, ⟨#[73, 100]⟩]
def lfT : List ByteArray := [⟨#[48]⟩, ⟨#[49]⟩, ⟨#[97]⟩]
def opL : List ByteArray := [⟨#[65, 100, 100]⟩, ⟨#[77, 117, 108]⟩]
abbrev zZ : Obj := .cells #[.string ByteArray.empty, .string ByteArray.empty, .bool false, .slice none 0 0] 26
abbrev zN : Obj := .cells #[.string ⟨#[78, 117, 109]⟩, .string ⟨#[73, 100]⟩] 9
abbrev zT : Obj := .cells #[.string ⟨#[48]⟩, .string ⟨#[49]⟩, .string ⟨#[97]⟩] 9
abbrev zO : Obj := .cells #[.string ⟨#[65, 100, 100]⟩, .string ⟨#[77, 117, 108]⟩] 9
abbrev zR (t1 t2 : Tr) (v1 v2 : Value) : Obj := .cells #[.string t1.name, .string t1.text, .bool t1.leaf, v1, .string t2.name, .string t2.text, .bool t2.leaf, v2] 26
/-- Texts in a row of their own. -/
def RowS (W : World) (g : Nat) (l : List ByteArray) : Prop := ∀ i, i < l.length → W.cell? ⟨g, i, none⟩ = some (.string (pickOf l i))
theorem rowS_new (W : World) (l : List ByteArray) (T : TypeId) (cs : Array Value) (g : Nat) (hcs : cs = (l.map Value.string).toArray) (hg : g = W.heap.size) : RowS (W.alloc (.cells cs T)) g l := by
  subst hg
  intro i hi
  exact cell_pick W l T cs hcs i hi
theorem RowS.still {W W' : World} {g : Nat} {l : List ByteArray} (h : RowS W g l) (hb : Below W.heap.size W W') : RowS W' g l := fun i hi => (hb.cell (lt_of_cell (h i hi))).trans (h i hi)
theorem RowS.out {W W' : World} {g c : Nat} {l : List ByteArray} (h : RowS W g l) (ho : Out c (c + 1) W W') (hg : g < c ∨ c + 1 ≤ g) : RowS W' g l := fun i hi => ho.cell (h i hi) hg
/-- What stands while a tree is drawn. -/
structure Ds (cs : List UInt8) (a : Option Addr) (cap b off c : Nat) (w W : World) (s : Nat × Nat) : Prop where
  out : Out c (c + 1) w W
  cur : Cur W cs a cap b off c s
  box : Box4 W w.heap.size (.string ByteArray.empty) (.string ByteArray.empty) (.bool false) (.slice none 0 0)
theorem Ds.new {cs : List UInt8} {a : Option Addr} {cap b off c : Nat} {w : World} {s : Nat × Nat} (hc : Cur w cs a cap b off c s) : Ds cs a cap b off c w (w.alloc zZ) s := ⟨Out.of_below (bel_alloc _ _), hc.still (bel_alloc _ _), Box4.new _ _ _ _ _⟩
theorem Ds.drew {cs : List UInt8} {a : Option Addr} {cap b off c : Nat} {w W : World} {s : Nat × Nat} (h : Ds cs a cap b off c w W s) : Ds cs a cap b off c w W.drew s := ⟨Out.drew h.out, h.cur.drew, h.box.keep rfl⟩
theorem ydB {cs : List UInt8} {a : Option Addr} {cap b off c : Nat} {w W W' : World} {s : Nat × Nat} (h : Hid (Ds cs a cap b off c w W s)) (hb : Below W.heap.size W W') : Hid (Ds cs a cap b off c w W' s) := (⟨Out.below h.out.out hb, h.out.cur.still hb, h.out.box.still hb⟩ : Ds cs a cap b off c w W' s)
theorem ydA {cs : List UInt8} {a : Option Addr} {cap b off c : Nat} {w W : World} {s : Nat × Nat} (h : Hid (Ds cs a cap b off c w W s)) (o : Obj) : Hid (Ds cs a cap b off c w (W.alloc o) s) := ydB h (bel_alloc _ _)
theorem ydP {cs : List UInt8} {a : Option Addr} {cap b off c : Nat} {w W W' : World} {s s' : Nat × Nat} (h : Hid (Ds cs a cap b off c w W s)) (hlt : c < w.heap.size) (ho : Out c (c + 1) W W') (hc : Cur W' cs a cap b off c s') : Hid (Ds cs a cap b off c w W' s') := (⟨h.out.out.trans ho, hc, h.out.box.out ho hlt⟩ : Ds cs a cap b off c w W' s')
theorem yrA {W : World} {g : Nat} {l : List ByteArray} (h : Hid (RowS W g l)) (o : Obj) : Hid (RowS (W.alloc o) g l) := (RowS.still h.out (bel_alloc _ _) : RowS (W.alloc o) g l)
theorem yrP {W W' : World} {g c : Nat} {l : List ByteArray} (h : Hid (RowS W g l)) (ho : Out c (c + 1) W W') (hg : g < c ∨ c + 1 ≤ g) : Hid (RowS W' g l) := (RowS.out h.out ho hg : RowS W' g l)
theorem yrN (W : World) (g : Nat) (hg : g = W.heap.size) : Hid (RowS (W.alloc zN) g lfN) := (rowS_new W lfN 9 _ g rfl hg : RowS (W.alloc zN) g lfN)
theorem yrT (W : World) (g : Nat) (hg : g = W.heap.size) : Hid (RowS (W.alloc zT) g lfT) := (rowS_new W lfT 9 _ g rfl hg : RowS (W.alloc zT) g lfT)
theorem yrO (W : World) (g : Nat) (hg : g = W.heap.size) : Hid (RowS (W.alloc zO) g opL) := (rowS_new W opL 9 _ g rfl hg : RowS (W.alloc zO) g opL)
/-- A tree that lies beyond a block. -/
def LiB (W : World) (B : Nat) (t : Tr) (v : Value) : Prop := Lies W (fun q => B < q) t v
theorem ylB {W W' : World} {B : Nat} {t : Tr} {v : Value} (h : Hid (LiB W B t v)) (hb : Below W.heap.size W W') : Hid (LiB W' B t v) := (Lies.still h.out hb : LiB W' B t v)
theorem ylA {W : World} {B : Nat} {t : Tr} {v : Value} (h : Hid (LiB W B t v)) (o : Obj) : Hid (LiB (W.alloc o) B t v) := ylB h (bel_alloc _ _)
theorem LiB.out {W W' : World} {B c : Nat} {t : Tr} {v : Value} (h : LiB W B t v) (ho : Out c (c + 1) W W') (hc : c < B) : LiB W' B t v :=
  (Lies.mono (fun q hq => hq.1) ((Lies.lt h).keep (fun q hq => ho.2.2.2.2 q hq.2 (by have := hq.1; omega))) : Lies W' (fun q => B < q) t v)
theorem ylP {W W' : World} {B c : Nat} {t : Tr} {v : Value} (h : Hid (LiB W B t v)) (ho : Out c (c + 1) W W') (hc : c < B) : Hid (LiB W' B t v) := (LiB.out h.out ho hc : LiB W' B t v)
theorem ylN {cs : List UInt8} {a : Option Addr} {cap b off c : Nat} {w W W' : World} {s : Nat × Nat} {t : Tr} {v : Value} (h : Hid (Ds cs a cap b off c w W s)) (hl : Lies W' (fun q => W.heap.size ≤ q) t v) : Hid (LiB W' w.heap.size t v) :=
  (Lies.mono (fun q hq => by have := h.out.box.lt; show w.heap.size < q; have h2 : W.heap.size ≤ q := hq; omega) hl : LiB W' w.heap.size t v)
theorem lies_two {w : World} {S : Nat → Prop} {t1 t2 : Tr} {v1 v2 : Value} {g : Nat} {n : ByteArray} (h1 : Lies w S t1 v1) (h2 : Lies w S t2 v2) (hn : n.size ≤ maxLen) (hc : ∀ i (hi : i < 8), w.cell? ⟨g, i, none⟩ = some ([.string t1.name, .string t1.text, .bool t1.leaf, v1, .string t2.name, .string t2.text, .bool t2.leaf, v2][i]'(by simpa using hi))) (hg : S g) : Lies w S ⟨n, ByteArray.empty, false, [t1, t2]⟩ (.slice (some ⟨g, 0, none⟩) 2 2) :=
  Lies.shut ⟨some ⟨g, 0, none⟩, 2, g, 0, fun i => if i = 0 then v1 else v2, rfl, hn, Nat.zero_le _, Nat.le_refl _, by unfold maxLen; omega, fun _ => ⟨rfl, hg⟩, fun i hi => by
    have hi0 : i = 0 ∨ i = 1 := by simp at hi; omega
    rcases hi0 with rfl | rfl
    · exact ⟨by simpa using hc 0 (by omega), by simpa using hc 1 (by omega), by simpa using hc 2 (by omega), by simpa using hc 3 (by omega)⟩
    · exact ⟨by simpa using hc 4 (by omega), by simpa using hc 5 (by omega), by simpa using hc 6 (by omega), by simpa using hc 7 (by omega)⟩, fun i hi => by
    have hi0 : i = 0 ∨ i = 1 := by simp at hi; omega
    rcases hi0 with rfl | rfl
    · exact h1
    · exact h2⟩
theorem ylT {cs : List UInt8} {a : Option Addr} {cap b off c : Nat} {w W : World} {s : Nat × Nat} {t1 t2 : Tr} {v1 v2 : Value} {n : ByteArray} (h1 : Hid (LiB W w.heap.size t1 v1)) (h2 : Hid (LiB W w.heap.size t2 v2)) (h : Hid (Ds cs a cap b off c w W s)) (g : Nat) (hg : g = W.heap.size) (hn : n.size ≤ maxLen) : Hid (LiB (W.alloc (zR t1 t2 v1 v2)) w.heap.size ⟨n, ByteArray.empty, false, [t1, t2]⟩ (.slice (some ⟨g, 0, none⟩) 2 2)) := by
  subst hg
  refine (lies_two (Lies.still h1.out (bel_alloc _ _)) (Lies.still h2.out (bel_alloc _ _)) hn (fun i hi => ?_) h.out.box.lt : LiB _ _ _ _)
  rcases (show i = 0 ∨ i = 1 ∨ i = 2 ∨ i = 3 ∨ i = 4 ∨ i = 5 ∨ i = 6 ∨ i = 7 by omega) with rfl | rfl | rfl | rfl | rfl | rfl | rfl | rfl <;> simp [go_sem]
/-- The leaf of a drawn term. -/
def cLf (cs : List UInt8) (s : Nat × Nat) : Tr × (Nat × Nat) :=
  (lf (pickOf lfN (cPick cs 2 s).1) (pickOf lfT (cPick cs 3 (cPick cs 2 s).2).1), (cPick cs 3 (cPick cs 2 s).2).2)
def nodeT (n : ByteArray) (k : List Tr) : Tr := ⟨n, ByteArray.empty, false, k⟩
def negN : ByteArray := ⟨#[78, 101, 103]⟩
/-- What l11DrawTerm draws. -/
def cTerm (cs : List UInt8) : Nat → Nat × Nat → Tr × (Nat × Nat)
  | 0, s => cLf cs s
  | d + 1, s => if (cPick cs 4 s).1 = 0 then cLf cs (cPick cs 4 s).2 else
    if (cPick cs 3 (cPick cs 4 s).2).1 = 2 then (nodeT negN [(cTerm cs d (cPick cs 3 (cPick cs 4 s).2).2).1], (cTerm cs d (cPick cs 3 (cPick cs 4 s).2).2).2) else
    (nodeT (pickOf opL (cPick cs 3 (cPick cs 4 s).2).1) [(cTerm cs d (cPick cs 3 (cPick cs 4 s).2).2).1, (cTerm cs d (cTerm cs d (cPick cs 3 (cPick cs 4 s).2).2).2).1], (cTerm cs d (cTerm cs d (cPick cs 3 (cPick cs 4 s).2).2).2).2)
theorem pick_lfN (i : Nat) : (pickOf lfN i).size ≤ maxLen := Nat.le_trans (pickOf_size (m := 24) (by decide) i) (by unfold maxLen; omega)
theorem pick_lfT (i : Nat) : (pickOf lfT i).size ≤ maxLen := Nat.le_trans (pickOf_size (m := 24) (by decide) i) (by unfold maxLen; omega)
theorem pick_opL (i : Nat) : (pickOf opL i).size ≤ maxLen := Nat.le_trans (pickOf_size (m := 24) (by decide) i) (by unfold maxLen; omega)
/-- The answer's block written. -/
abbrev put4 (w9 : World) (g : Nat) (u0 u1 u2 u3 : Value) : World := (((w9.setCell ⟨g, 0, none⟩ u0).setCell ⟨g, 1, none⟩ u1).setCell ⟨g, 2, none⟩ u2).setCell ⟨g, 3, none⟩ u3
theorem drewL_put {cs : List UInt8} {a : Option Addr} {cap b off c : Nat} {w w9 : World} {s : Nat × Nat} {r : Tr × (Nat × Nat)} {xa : Option Addr} {xm xc : Nat} {u0 u1 u2 u3 : Value} (hlt : c < w.heap.size) (h : Ds cs a cap b off c w w9 s) (hl : LiB w9 w.heap.size r.1 (.slice xa xm xc)) (hs : r.2 = s) : DrewL cs a cap b off c r w (.returned (r.1.val (.slice xa xm xc))) (put4 w9 w.heap.size u0 u1 u2 u3) := by
  refine ⟨xa, xm, xc, rfl, (((h.out.put (Nat.le_refl _)).put (Nat.le_refl _)).put (Nat.le_refl _)).put (Nat.le_refl _), ?_, ?_⟩
  · rw [hs]
    exact (((Cur.set h.cur hlt).set hlt).set hlt).set hlt
  · refine Lies.mono (S := fun q => w.heap.size < q) (fun q hq => by show w.heap.size ≤ q; exact Nat.le_of_lt hq) ?_
    have hn : ¬ w.heap.size < w.heap.size := Nat.lt_irrefl _
    exact (((Lies.set hl hn).set hn).set hn).set hn
/-- What the first test of l11DrawTerm tells. -/
def TmS (cs : List UInt8) (d : Nat) (s : Nat × Nat) (bb : Bool) (s' : Nat × Nat) : Prop := (bb = true → cTerm cs d s = cLf cs s') ∧ (bb = false → ∃ d', d = d' + 1 ∧ s' = (cPick cs 4 s).2 ∧ (cPick cs 4 s).1 ≠ 0)
end Go.Proofs.Ytbgoikaelmacbaa
