import Derived.Test.YtledclkmeikgdaaSu
import Derived.Deep.RegionHeld3
import Derived.Deep.CutRange
/-! The program: a term is gone through. -/
namespace Go.Proofs.Ytledclkmeikgdaa
open Go.RowKit Go.Deep Go.Lib Go.Shelf
open Go.Proofs.Ytledclkmeikgdaa.T (Tr)
set_option linter.unusedVariables false
set_option maxRecDepth 100000
set_option linter.unusedSimpArgs false

theorem St.fresh {A q ty : Nat} {w w' : World} {s s' : Sw} {c c' : CV} {T N : Nat → Prop} (h : St A q ty w s c w' s' c' T N) (hN : ∀ b, N b → w.heap.size ≤ b) : St A q ty w s c w' s' c' T (fun _ => False) :=
  ⟨h.co, h.fm, fun b hb => (h.nb b hb).elim .inl (fun e => e.elim (fun e => .inr (.inr (hN b e))) (fun e => .inr (.inr e)))⟩
/-- What lies below the base stays. -/
theorem St.low' {A q ty : Nat} {w w' : World} {s s' : Sw} {c c' : CV} {T N : Nat → Prop} (h : St A q ty w s c w' s' c' T N) (hc : Co w A q ty s c) (hT : ∀ b, T b → A ≤ b) : Below A w w' :=
  h.fm.below (fun b hb => hb.elim (fun e => (hc.lt b e).1) (hT b)) (by have := hc.hq; have := hc.bx.lt; omega)
/-- The boxes of a call: the receiver, the term, the scope, the path. -/
structure Bx4 (z q : Nat) (n x : ByteArray) (l : Bool) (v : Value) (sc : Nat) (pv : Value) (W : World) : Prop where
  rc : Box W z 125 [.pointer (some ⟨q, 0, none⟩)]
  tr : Box W (z + 1) 40 [.string n, .string x, .bool l, v]
  sc : Box W (z + 1 + 1) 3 [.int .i64 (sc : Nat)]
  pt : Box W (z + 1 + 1 + 1) 34 [pv]
theorem Bx4.keep {z q sc : Nat} {n x : ByteArray} {l : Bool} {v pv : Value} {W W' : World} (h : Bx4 z q n x l v sc pv W) (hb : ∀ b, z ≤ b → b < z + 4 → W'.heap[b]? = W.heap[b]?) : Bx4 z q n x l v sc pv W' :=
  ⟨h.rc.keep (hb _ (by omega) (by omega)), h.tr.keep (hb _ (by omega) (by omega)), h.sc.keep (hb _ (by omega) (by omega)), h.pt.keep (hb _ (by omega) (by omega))⟩
theorem Bx4.new (q : Nat) (n x : ByteArray) (l : Bool) (v : Value) (sc : Nat) (pv : Value) (w : World) : Bx4 w.heap.size q n x l v sc pv ((((w.alloc (.cells #[.pointer (some ⟨q, 0, none⟩)] 125)).alloc (.cells #[.string n, .string x, .bool l, v] 40)).alloc (.cells #[.int .i64 (sc : Nat)] 3)).alloc (.cells #[pv] 34)) := by
  have s1 : (w.alloc (.cells #[.pointer (some ⟨q, 0, none⟩)] 125)).heap.size = w.heap.size + 1 := by simp
  have s2 : ((w.alloc (.cells #[.pointer (some ⟨q, 0, none⟩)] 125)).alloc (.cells #[.string n, .string x, .bool l, v] 40)).heap.size = w.heap.size + 1 + 1 := by simp
  have s3 : (((w.alloc (.cells #[.pointer (some ⟨q, 0, none⟩)] 125)).alloc (.cells #[.string n, .string x, .bool l, v] 40)).alloc (.cells #[.int .i64 (sc : Nat)] 3)).heap.size = w.heap.size + 1 + 1 + 1 := by simp
  have b0 := Box.new w 125 [.pointer (some ⟨q, 0, none⟩)]
  have b1 := Box.new (w.alloc (.cells #[.pointer (some ⟨q, 0, none⟩)] 125)) 40 [.string n, .string x, .bool l, v]
  have b2 := Box.new ((w.alloc (.cells #[.pointer (some ⟨q, 0, none⟩)] 125)).alloc (.cells #[.string n, .string x, .bool l, v] 40)) 3 [.int .i64 (sc : Nat)]
  have b3 := Box.new (((w.alloc (.cells #[.pointer (some ⟨q, 0, none⟩)] 125)).alloc (.cells #[.string n, .string x, .bool l, v] 40)).alloc (.cells #[.int .i64 (sc : Nat)] 3)) 34 [pv]
  rw [s1] at b1
  rw [s2] at b2
  rw [s3] at b3
  exact ⟨((b0.still (bel_alloc _ _)).still (bel_alloc _ _)).still (bel_alloc _ _), (b1.still (bel_alloc _ _)).still (bel_alloc _ _), b2.still (bel_alloc _ _), b3⟩
/-- Between the statements. -/
structure Th (A q z : Nat) (n x : ByteArray) (l : Bool) (v : Value) (sc : Nat) (pv : Value) (p : List Nat) (w : World) (s : Sw) (c : CV) (W : World) (s1 : Sw) (c1 : CV) (T : Nat → Prop) : Prop where
  st : St A q 88 w s c W s1 c1 T (fun _ => False)
  bx : Bx4 z q n x l v sc pv W
  row : W.ownsRow A 3 1 pv p.length (nums p)
  off : ∀ b, z ≤ b → b < z + 4 → ¬ c1.B q s1 b
  pn : ∀ b, pv.ownBlock = some b → ¬ c1.B q s1 b ∧ b < z
  tl : ∀ b, T b → pv.ownBlock = some b
  zw : w.heap.size = z ∧ z + 4 ≤ W.heap.size
section
variable {A q z : Nat} {n x : ByteArray} {l : Bool} {v pv : Value} {sc : Nat} {p : List Nat} {w W W' : World} {s s1 s2 : Sw} {c c1 c2 : CV} {T : Nat → Prop}
theorem Th.still (h : Th A q z n x l v sc pv p w s c W s1 c1 T) (hb : Below W.heap.size W W') : Th A q z n x l v sc pv p w s c W' s1 c1 T :=
  ⟨h.st.trans (T' := fun _ => False) (N' := fun _ => False) (St.below h.st.co hb) (fun _ _ e => e) (fun _ _ e => e.elim) (fun _ _ e => e) (fun _ _ e => e), h.bx.keep (fun b _ h2 => hb.block b (by have := h.zw; omega)), own_keep1 h.row (fun b e => hb.block b (World.ownsRow.lt h.row b e).2), h.off, h.pn, h.tl, ⟨h.zw.1, by have := hb.size; have := h.zw; omega⟩⟩
/-- A step. -/
theorem Th.step (h : Th A q z n x l v sc pv p w s c W s1 c1 T) (k : St A q 88 W s1 c1 W' s2 c2 (fun _ => False) (fun _ => False)) : Th A q z n x l v sc pv p w s c W' s2 c2 T := by
  have hz := h.zw
  have hs := k.fm.size
  refine ⟨h.st.trans k (fun _ _ e => e) (fun _ _ e => e.elim) (fun _ _ e => e) (fun _ _ e => e), h.bx.keep (fun b h1 h2 => k.fm.block b (by omega) (fun e => e.elim (h.off b h1 h2) id)), own_keep1 h.row (fun b e => k.fm.block b (World.ownsRow.lt h.row b e).2 (fun e2 => e2.elim (h.pn b e).1 id)), fun b h1 h2 e => ?_, fun b e => ⟨fun e2 => ?_, (h.pn b e).2⟩, h.tl, hz.1, by omega⟩
  · rcases k.nb b e with e | e | e
    · exact h.off b h1 h2 e
    · exact e
    · omega
  · rcases k.nb b e2 with e2 | e2 | e2
    · exact (h.pn b e).1 e2
    · exact e2
    · have := (h.pn b e).2; omega
/-- A step in which the path's block may be turned. -/
theorem Th.stepP (h : Th A q z n x l v sc pv p w s c W s1 c1 T) (k : St A q 88 W s1 c1 W' s2 c2 (fun b => pv.ownBlock = some b) (fun _ => False)) (hr : W'.ownsRow A 3 1 pv p.length (nums p)) : Th A q z n x l v sc pv p w s c W' s2 c2 (fun b => pv.ownBlock = some b) := by
  have hz := h.zw
  have hs := k.fm.size
  refine ⟨h.st.trans k (fun b _ e => h.tl b e) (fun _ _ e => .inr e) (fun _ _ e => e) (fun _ _ e => e), h.bx.keep (fun b h1 h2 => k.fm.block b (by omega) (fun e => e.elim (h.off b h1 h2) (fun e => by have := (h.pn b e).2; omega))), hr, fun b h1 h2 e => ?_, fun b e => ⟨fun e2 => ?_, (h.pn b e).2⟩, fun _ e => e, hz.1, by omega⟩
  · rcases k.nb b e with e | e | e
    · exact h.off b h1 h2 e
    · exact e
    · omega
  · rcases k.nb b e2 with e2 | e2 | e2
    · exact (h.pn b e).1 e2
    · exact e2
    · have := (h.pn b e).2; omega
theorem Th.toP (h : Th A q z n x l v sc pv p w s c W s1 c1 T) : Th A q z n x l v sc pv p w s c W s1 c1 (fun b => pv.ownBlock = some b) := ⟨h.st.mono h.tl (fun _ e => e), h.bx, h.row, h.off, h.pn, fun _ e => e, h.zw⟩
/-- A cell that is not of it is set. -/
theorem Th.set {zb : Nat} {u : Value} (h : Th A q z n x l v sc pv p w s c W s1 c1 T) (h1 : z + 4 ≤ zb) (h2 : ¬ c1.B q s1 zb) (h3 : zb < W.heap.size) : Th A q z n x l v sc pv p w s c (W.setCell ⟨zb, 0, none⟩ u) s1 c1 T := by
  have hz := h.zw
  have hk : ∀ b, b ≠ zb → (W.setCell ⟨zb, 0, none⟩ u).heap[b]? = W.heap[b]? := fun b e => blk_setCell_other _ _ _ _ (by show b ≠ zb; exact e)
  have hco : Co (W.setCell ⟨zb, 0, none⟩ u) A q 88 s1 c1 := h.st.co.keep (fun b hb => hk b (fun e => h2 (e ▸ hb)))
  refine ⟨⟨hco, ⟨h.st.fm.os, h.st.fm.tape, h.st.fm.output, by simpa using h.st.fm.size, fun b hb hn => (hk b (by omega)).trans (h.st.fm.block b hb hn)⟩, h.st.nb⟩, h.bx.keep (fun b e1 e2 => hk b (by omega)), own_keep1 h.row (fun b e => hk b (by have := (h.pn b e).2; omega)), h.off, h.pn, h.tl, hz.1, by simpa using hz.2⟩
theorem Th.cells (h : Th A q z n x l v sc pv p w s c W s1 c1 T) : W.cell? ⟨z, 0, none⟩ = some (.pointer (some ⟨q, 0, none⟩)) ∧ W.cell? ⟨z + 1, 0, none⟩ = some (.string n) ∧ W.cell? ⟨z + 1, 1, none⟩ = some (.string x) ∧ W.cell? ⟨z + 1, 2, none⟩ = some (.bool l) ∧ W.cell? ⟨z + 1, 3, none⟩ = some v ∧ W.cell? ⟨z + 1 + 1, 0, none⟩ = some (.int .i64 (sc : Nat)) ∧ W.cell? ⟨z + 1 + 1 + 1, 0, none⟩ = some pv :=
  ⟨h.bx.rc.cell 0 (by simp), h.bx.tr.cell 0 (by simp), h.bx.tr.cell 1 (by simp), h.bx.tr.cell 2 (by simp), h.bx.tr.cell 3 (by simp), h.bx.sc.cell 0 (by simp), h.bx.pt.cell 0 (by simp)⟩
theorem Th.start (h : Co w A q 88 s c) (hp : w.ownsRow A 3 1 pv p.length (nums p)) (hg : ∀ b, pv.ownBlock = some b → ¬ c.B q s b) : Th A q w.heap.size n x l v sc pv p w s c ((((w.alloc (.cells #[.pointer (some ⟨q, 0, none⟩)] 125)).alloc (.cells #[.string n, .string x, .bool l, v] 40)).alloc (.cells #[.int .i64 (sc : Nat)] 3)).alloc (.cells #[pv] 34)) s c (fun _ => False) := by
  have hb : Below w.heap.size w ((((w.alloc (.cells #[.pointer (some ⟨q, 0, none⟩)] 125)).alloc (.cells #[.string n, .string x, .bool l, v] 40)).alloc (.cells #[.int .i64 (sc : Nat)] 3)).alloc (.cells #[pv] 34)) := (((bel_alloc w _).alloc (by simp) _).alloc (by simp; omega) _).alloc (by simp; omega) _
  exact ⟨St.below h hb, Bx4.new _ _ _ _ _ _ _ _, own_keep1 hp (fun b e => hb.block b (World.ownsRow.lt hp b e).2), fun b h1 h2 e => by have := (h.lt b e).2; omega, fun b e => ⟨hg b e, (World.ownsRow.lt hp b e).2⟩, fun _ e => e.elim, rfl, by simp⟩
end
end Go.Proofs.Ytledclkmeikgdaa
