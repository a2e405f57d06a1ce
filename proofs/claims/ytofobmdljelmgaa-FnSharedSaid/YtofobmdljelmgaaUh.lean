import Derived.Test.YtofobmdljelmgaaUv
import Derived.Test.YtofobmdljelmgaaWalk
/-! The program's tree: what stands while it grows. -/
namespace Go.Proofs.Ytofobmdljelmgaa
open Go.RowKit Go.Deep Go.Lib
set_option linter.unusedVariables false
set_option maxRecDepth 100000
set_option linter.unusedSimpArgs false

/-- What it panics with. -/
abbrev formFault : PanicEntry := { v := .iface 76 (.agg #[.int .i64 10, .int .i64 0]), recovered := false }
theorem But.still {p : Nat} {a b c : World} (h : But p a b) (k : Below b.heap.size b c) : But p a c := h.trans (But.of_below k)
theorem But.block {p : Nat} {a b : World} (h : But p a b) {q : Nat} (hq : q < a.heap.size) (hp : q ≠ p) : b.heap[q]? = a.heap[q]? := h.2.2.2.2 q hq hp
theorem But.size {p : Nat} {a b : World} (h : But p a b) : a.heap.size ≤ b.heap.size := h.2.2.2.1
theorem Rds.but {w w' : World} {S : Nat → Prop} {p : Nat} {ns : List Rd} {v : Value} (h : Rds w S ns v) (hS : ∀ b, S b → b ≠ p) (hb : But p w w') : Rds w' S ns v := by
  obtain ⟨a, cap, b, off, sv, hv, hc, hm, ha, hcell, hz, hr⟩ := h
  refine ⟨a, cap, b, off, sv, hv, hc, hm, ha, fun i hi => ?_, hz, fun i hi => (hr i hi).keep (fun q hq hlt => hb.block hlt (hS q hq))⟩
  obtain ⟨c0, c1, c2, c3⟩ := hcell i hi
  have hbp : b ≠ p := hS b (ha (by omega)).2
  exact ⟨hb.cell (by exact hbp) c0, hb.cell (by exact hbp) c1, hb.cell (by exact hbp) c2, hb.cell (by exact hbp) c3⟩
theorem Box.same {w w' : World} {g T : Nat} {cs : List Value} (h : Box w g T cs) (h' : Box w' g T cs) : w'.heap[g]? = w.heap[g]? := by
  obtain ⟨c, h1, h2, h3⟩ := h.ex
  obtain ⟨c', g1, g2, g3⟩ := h'.ex
  have e : c' = c := Array.ext (by omega) (fun i a1 a2 => by
    have e1 := h3 i (by omega)
    have e2 := g3 i (by omega)
    rw [Array.getElem?_eq_getElem a2] at e1
    rw [Array.getElem?_eq_getElem a1] at e2
    injection e1 with e1
    injection e2 with e2
    rw [e1, e2])
  rw [h1, g1, e]
/-- With the count set, nothing old has turned. -/
theorem But.bel {gb T : Nat} {w w' : World} {u x y : Value} (h : But gb w w') (b0 : Box w gb T [u, x]) (b1 : Box w' gb T [u, y]) : Below (w.setCell ⟨gb, 1, none⟩ y).heap.size (w.setCell ⟨gb, 1, none⟩ y) w' := by
  refine ⟨h.1, h.2.1, h.2.2.1, by simpa using h.size, fun k hk => ?_⟩
  by_cases e : k = gb
  · subst e
    exact (b0.set 1 y).same b1
  · rw [World.size_setCell] at hk
    exact (h.block hk e).trans (blk_setCell_other _ _ _ _ (by exact e)).symm
/-- What the call leaves. -/
def TgA (ns : List Rd) (gb : Nat) (nv : Value) (z g d : Int) (w : World) (e : Ending) (w' : World) : Prop :=
  But gb w w' ∧ ((∃ (t : Tr) (a : Option Addr) (m c : Nat), Fit ns z g d t ∧ e = .returned (.agg #[.string t.name, .string t.text, .bool t.leaf, .slice a m c]) ∧ Box w' gb 128 [nv, .int .i64 (g + t.cnt)] ∧ Own w' w.heap.size w'.heap.size t (.slice a m c)) ∨ ((∀ t, ¬ Fit ns z g d t) ∧ e = .panicked [formFault]))
/-- What stands while the tree of a node grows: k' are the Kids so far. -/
structure TgI (w wr : World) (gb : Nat) (nv kv u : Value) (g : Int) (n x : ByteArray) (l : Bool) (k' : List Tr) : Prop where
  b0 : Box wr w.heap.size 39 [.string ByteArray.empty, .string ByteArray.empty, .bool false, .slice none 0 0]
  b1 : Box wr (w.heap.size + 1) 34 [.string n, .string x, .bool l, kv]
  b2 : Box wr (w.heap.size + 1 + 1) 39 [.string n, .string x, .bool l, u]
  bg : Box wr gb 128 [nv, .int .i64 (g + 1 + (Tr.cntL k' : Nat))]
  but : But gb w wr
  grw : Grw k' (w.heap.size + 3) k'.length u wr
theorem TgI.next {w wr w1 w2 w3 : World} {gb : Nat} {nv kv u q : Value} {n x : ByteArray} {l : Bool} {k' : List Tr} {t : Tr} {g : Int} {a c p cap : Nat} {fs : Nat → Value} {lo hi : Nat → Nat} (h : TgI w wr gb nv kv u g n x l k') (hgb : gb < w.heap.size)
    (hown : (wr.setCell ⟨gb, 1, none⟩ (.int .i64 (g + 1 + (Tr.cntL k' : Nat) + t.cnt))).ownsRow (w.heap.size + 3) 39 4 u k'.length (kc k' fs k'.length)) (hls : ∀ i, i < k'.length → Own (wr.setCell ⟨gb, 1, none⟩ (.int .i64 (g + 1 + (Tr.cntL k' : Nat) + t.cnt))) (lo i) (hi i) (nth k' i) (fs i))
    (hr : ∀ i, i < k'.length → w.heap.size + 3 ≤ lo i ∧ hi i ≤ (wr.setCell ⟨gb, 1, none⟩ (.int .i64 (g + 1 + (Tr.cntL k' : Nat) + t.cnt))).heap.size ∧ ∀ g, u.ownBlock = some g → g < lo i ∨ hi i ≤ g) (hd : ∀ i i', i < i' → i' < k'.length → hi i ≤ lo i')
    (hbut : But gb wr w1) (hbg : Box w1 gb 128 [nv, .int .i64 (g + 1 + (Tr.cntL k' : Nat) + t.cnt)]) (hb2 : Below w1.heap.size w1 w2) (hu : Own w2 a c t q) (ha : wr.heap.size ≤ a) (hc : c ≤ w2.heap.size)
    (hown3 : w3.ownsRow (w.heap.size + 3) 39 4 (.slice (some ⟨p, 0, none⟩) (k'.length + 1) cap) (k'.length + 1) (kc k' fs k'.length ++ [.string t.name, .string t.text, .bool t.leaf, q]))
    (hgr : w2.grownBy w3 u.ownBlock) (hat : u.ownBlock = some p ∨ p = w2.heap.size) :
    TgI w (w3.setCell ⟨w.heap.size + 1 + 1, 3, none⟩ (.slice (some ⟨p, 0, none⟩) (k'.length + 1) cap)) gb nv kv (.slice (some ⟨p, 0, none⟩) (k'.length + 1) cap) g n x l (k' ++ [t]) := by
  have hz := h.b2.lt
  have hs1 := hbut.size
  have hs2 := hb2.size
  have hbA := hbut.bel h.bg hbg
  have hbB := bel_trans hbA hb2
  have hG : Grw (k' ++ [t]) (w.heap.size + 3) (k'.length + 1) (.slice (some ⟨p, 0, none⟩) (k'.length + 1) cap) w3 := by
    refine Grw.step (k := k' ++ [t]) (fs := fs) (l := lo) (h := hi) (u := q) (wr := wr.setCell ⟨gb, 1, none⟩ (.int .i64 (g + 1 + (Tr.cntL k' : Nat) + t.cnt))) (w2 := w2) (a := a) (c := c) (v := u) ?_ (fun i hi => by rw [nth_app hi]; exact hls i hi) hr hd (by simp; omega) hbB (by rw [nth_last]; exact hu) (by simpa using ha) hc ?_ hgr hat
    · rw [kc_app _ _ _ _ (Nat.le_refl _)]; exact hown
    · rw [kc_app _ _ _ _ (Nat.le_refl _), nth_last]; exact hown3
  have hub : ∀ q, u.ownBlock = some q → w.heap.size + 3 ≤ q := fun q hq => (World.ownsRow.lt hown q hq).1
  have hblk : ∀ q, q < w.heap.size + 3 → q ≠ gb → w3.heap[q]? = wr.heap[q]? := fun q hq hp => (hgr.block q (by omega) (fun e => by have := hub q e.symm; omega)).trans ((hb2.block q (by omega)).trans (hbut.block (by omega) hp))
  have hblg : w3.heap[gb]? = w1.heap[gb]? := (hgr.block gb (by omega) (fun e => by have := hub gb e.symm; omega)).trans (hb2.block gb (by omega))
  refine ⟨(h.b0.keep (hblk _ (by omega) (by omega))).past (by omega), (h.b1.keep (hblk _ (by omega) (by omega))).past (by omega), (h.b2.keep (hblk _ (by omega) (by omega))).set 3 _, ?_, ?_, ?_⟩
  · have e : g + 1 + (Tr.cntL (k' ++ [t]) : Nat) = g + 1 + (Tr.cntL k' : Nat) + t.cnt := by
      rw [Tr.cntL_append]
      simp [Tr.cntL]
      omega
    rw [e]
    exact (hbg.keep hblg).past (by omega)
  · have hb3 : But gb w w3 := by
      refine ⟨hgr.os.trans (hb2.os.trans (hbut.1.trans h.but.1)), hgr.tape.trans (hb2.tape.trans (hbut.2.1.trans h.but.2.1)), hgr.output.trans (hb2.output.trans (hbut.2.2.1.trans h.but.2.2.1)), ?_, fun q hq hp => (hblk q (by omega) hp).trans (h.but.block hq hp)⟩
      have := hgr.size
      omega
    exact hb3.setNew (by omega) _
  · rw [List.length_append]
    exact hG.past (by omega)
end Go.Proofs.Ytofobmdljelmgaa
