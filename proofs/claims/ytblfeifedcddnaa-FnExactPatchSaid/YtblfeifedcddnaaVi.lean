import Derived.Test.YtblfeifedcddnaaVk
import Derived.Deep.AppendLies
/-! The specification: l15Patch, what stands while the Kids are gone through. -/
namespace Go.Proofs.Ytblfeifedcddnaa
open Go.RowKit Go.Deep Go.Lib
set_option linter.unusedVariables false
set_option maxRecDepth 100000
set_option linter.unusedSimpArgs false

structure PkI (W0 w wr : World) (go : Nat) (a : Tr) (d : De) (v tv kv u : Value) (m : List Tr) : Prop where
  ba : Box wr w.heap.size 51 [.string a.name, .string a.text, .bool a.leaf, v]
  bd : Box wr (w.heap.size + 1) 57 [.int .i64 d.kind, .string d.tree.name, .string d.tree.text, .bool d.tree.leaf, tv, kv]
  br : Box wr (w.heap.size + 1 + 1) 51 [.string ⟨#[]⟩, .string ⟨#[]⟩, .bool false, .slice none 0 0]
  bo : Box wr go 51 [.string a.name, .string ⟨#[]⟩, .bool false, u]
  at' : w.heap.size + 3 ≤ go
  bel : Below w.heap.size w wr
  fg : FGr m W0.heap.size (go + 1) m.length u wr
theorem PkI.still {W0 w wr w2 : World} {go : Nat} {a : Tr} {d : De} {v tv kv u : Value} {m : List Tr} (h : PkI W0 w wr go a d v tv kv u m) (hb : Below wr.heap.size wr w2) : PkI W0 w w2 go a d v tv kv u m :=
  ⟨h.ba.still hb, h.bd.still hb, h.br.still hb, h.bo.still hb, h.at', bel_trans h.bel hb, h.fg.still hb⟩
theorem PkI.start {W0 w w1 : World} {a : Tr} {d : De} {v tv kv : Value} (hb1 : Below (W79 w a v d tv kv).heap.size (W79 w a v d tv kv) w1) : PkI W0 w (w1.alloc (.cells #[.string a.name, .string ⟨#[]⟩, .bool false, .slice none 0 0] 51)) w1.heap.size a d v tv kv (.slice none 0 0) [] := by
  obtain ⟨hbW, bA, bD, bR⟩ := w79_box w a v d tv kv
  have hb := bel_trans hb1 (bel_alloc w1 (.cells #[.string a.name, .string ⟨#[]⟩, .bool false, .slice none 0 0] 51))
  refine ⟨bA.still hb, bD.still hb, bR.still hb, Box.new w1 51 _, ?_, bel_trans hbW hb, FGr.nil _ _ (own_nil _ _ _ _)⟩
  have := hb1.size
  rw [show (W79 w a v d tv kv).heap.size = w.heap.size + 3 from by simp] at this
  exact this
theorem PkI.next {W0 w wr w2 w3 : World} {go : Nat} {a : Tr} {d : De} {v tv kv u x : Value} {m : List Tr} {T : Tr} {g cap : Nat} {fs : Nat → Value} (h : PkI W0 w wr go a d v tv kv u m) (hC : W0.heap.size ≤ w.heap.size) (hb : Below wr.heap.size wr w2)
    (hl : Lies w2 (fun q => q < W0.heap.size ∨ wr.heap.size ≤ q) T x) (hown : wr.ownsRow (go + 1) 51 4 u m.length (kc m fs m.length)) (hls : ∀ i, i < m.length → Lies wr (fun q => u.ownBlock ≠ some q ∧ (q < W0.heap.size ∨ go + 1 ≤ q)) (nth m i) (fs i))
    (hown3 : w3.ownsRow (go + 1) 51 4 (.slice (some ⟨g, 0, none⟩) (m.length + 1) cap) (m.length + 1) (kc m fs m.length ++ [.string T.name, .string T.text, .bool T.leaf, x]))
    (hgr : w2.grownBy w3 u.ownBlock) (hat : u.ownBlock = some g ∨ g = w2.heap.size) :
    PkI W0 w (w3.setCell ⟨go, 3, none⟩ (.slice (some ⟨g, 0, none⟩) (m.length + 1) cap)) go a d v tv kv (.slice (some ⟨g, 0, none⟩) (m.length + 1) cap) (m ++ [T]) := by
  have hz := h.bo.lt
  have ho := h.at'
  have hs := hb.size
  have hs3 := hgr.size
  have hub : ∀ q, u.ownBlock = some q → go + 1 ≤ q := fun q hq => (World.ownsRow.lt hown q hq).1
  have hblk : ∀ q, q < go + 1 → w3.heap[q]? = wr.heap[q]? := fun q hq => (hgr.block q (by omega) (fun e => by have := hub q e.symm; omega)).trans (hb.block q (by omega))
  have hG : FGr (m ++ [T]) W0.heap.size (go + 1) (m.length + 1) (.slice (some ⟨g, 0, none⟩) (m.length + 1) cap) w3 := by
    refine FGr.step (k := m ++ [T]) (fs := fs) (u := x) (wr := wr) (w2 := w2) (v := u) ?_ (fun i hi => by rw [nth_app hi]; exact hls i hi) (by omega) (by omega) hb (by rw [nth_last]; exact hl) ?_ hgr hat
    · rw [kc_app _ _ _ _ (Nat.le_refl _)]; exact hown
    · rw [kc_app _ _ _ _ (Nat.le_refl _), nth_last]; exact hown3
  refine ⟨(h.ba.keep (hblk _ (by omega))).past (by omega), (h.bd.keep (hblk _ (by omega))).past (by omega), (h.br.keep (hblk _ (by omega))).past (by omega), (h.bo.keep (hblk _ (by omega))).set 3 _, ho, ?_, ?_⟩
  · have hb3 : Below w.heap.size w w3 := (h.bel.trans (hb.mono h.bel.size)).grown hgr (by omega) (fun q hq => by have := hub q hq; omega)
    exact hb3.setCell (p := ⟨go, 3, none⟩) (by show w.heap.size ≤ go; omega) _
  · rw [List.length_append]
    exact hG.past (by omega) (by omega)
theorem PtA.no0 {W0 w w1 : World} {a : Tr} {r : Option Tr} {aa : Option Addr} {al ap : Nat} (hB : Below W0.heap.size W0 w) (ha : Lies W0 (fun _ => True) a (.slice aa al ap)) (hb : Below w.heap.size w w1) (hr : r = none) :
    PtA W0.heap.size r w (.returned (.tuple #[.agg #[.string a.name, .string a.text, .bool a.leaf, .slice aa al ap], .bool false])) w1 :=
  ⟨a, _, false, rfl, hb, Lies.mono (S := fun q => True ∧ q < W0.heap.size) (fun q hq => .inl hq.2) (Lies.keep (w := W0) (fun q hq => (hB.trans (hb.mono hB.size)).block q hq.2) ha.lt), (fun h => absurd h (by simp)), fun _ => hr⟩
/-- A return of the tree itself, with false. -/
theorem PtA.no {W0 w w1 : World} {a : Tr} {r : Option Tr} {aa : Option Addr} {al ap : Nat} (hB : Below W0.heap.size W0 w) (ha : Lies W0 (fun _ => True) a (.slice aa al ap)) (hb : Below w.heap.size w w1) (hr : r = none) (x0 x1 x2 x3 : Value) :
    PtA W0.heap.size r w (.returned (.tuple #[.agg #[.string a.name, .string a.text, .bool a.leaf, .slice aa al ap], .bool false])) ((((w1.setCell ⟨w.heap.size + 1 + 1, 0, none⟩ x0).setCell ⟨w.heap.size + 1 + 1, 1, none⟩ x1).setCell ⟨w.heap.size + 1 + 1, 2, none⟩ x2).setCell ⟨w.heap.size + 1 + 1, 3, none⟩ x3) := by
  have hC := hB.size
  refine PtA.of hb (Lies.mono (S := fun q => True ∧ q < W0.heap.size) (fun q hq => .inl hq.2) (Lies.keep (w := W0) (fun q hq => ?_) ha.lt)) hC (fun h => by cases h) (fun _ => hr)
  exact (hB.trans (hb.mono hC)).block q hq.2
set_option maxHeartbeats 1600000 in
theorem p79_no (W0 : World) (a : Tr) (v : Value) (c : Int) (t : Tr) (k : List De) (tv kv : Value) (w : World) (ha : Lies W0 (fun _ => True) a v) (hd : DLies W0 (fun _ => True) ⟨c, t, k⟩ tv kv) (hb : Below W0.heap.size W0 w) (h1 : ¬ c = 1) (h2 : ¬ c = 2) (h3 : ¬ c = 3) :
    Calls Try.prog 79 #[a.val v, (De.mk c t k).val tv kv] w (PtA W0.heap.size (pa ⟨c, t, k⟩ a) w) := by
  obtain ⟨hbW, bA, bD, bR⟩ := w79_box w a v ⟨c, t, k⟩ tv kv
  have hpa : pa ⟨c, t, k⟩ a = none := by rw [pa_mk, if_neg h1, if_neg h2, if_neg h3]
  obtain ⟨aa, al, ap, rfl⟩ := ha.form
  obtain ⟨⟨ta, tl, tp, rfl⟩, ka, kp, rfl⟩ := hd.form
  have HF := (show Hid (∀ w1, Below w.heap.size w w1 → PtA W0.heap.size (pa ⟨c, t, k⟩ a) w (.returned (.tuple #[.agg #[.string a.name, .string a.text, .bool a.leaf, .slice aa al ap], .bool false])) w1) from fun w1 h => PtA.no0 hb ha h hpa)
  have i1 : (c == 1) = false := by simpa using h1
  have i2 : (c == 2) = false := by simpa using h2
  have i3 : (c == 3) = false := by simpa using h3
  clear ha hd hb bA bD bR hbW hpa h1 h2 h3
  simp only [Tr.val, De.val] at HF ⊢
  go_enter Try.func79, Try.ntmps79
  go_wp2_with fail
  refine bodyPost_ret (v := .tuple #[.agg #[.string a.name, .string a.text, .bool a.leaf, .slice aa al ap], .bool false]) (by simp [results, Try.results79, go_sem]) rfl ?_
  exact HF.out _ (((bel_alloc _ _).alloc (by simp) _).alloc (by simp; omega) _)
end Go.Proofs.Ytblfeifedcddnaa
