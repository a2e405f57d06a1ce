import Derived.Test.YtcpjoicejbcndaaMv
import Derived.KernelRfl
import Derived.Outline
import Derived.Deep.RegionWith
import Derived.Deep.CutRange
/-! MoveEdit: an edit is moved, by both sides. -/
namespace Go.Proofs.Ytcpjoicejbcndaa
set_option linter.unusedVariables false
set_option maxRecDepth 100000
set_option linter.unusedSimpArgs false
open Go.RowKit Go.Deep

/-- A box whose cells may be written. -/
structure Box (w : World) (g T : Nat) (cs : List Value) : Prop where
  ex : w.rowIs g T cs.length (fun i => cs.getD i .nilFunc)
theorem Box.new (w : World) (T : Nat) (cs : List Value) : Box (w.alloc (.cells cs.toArray T)) w.heap.size T cs :=
  ⟨cs.toArray, blk_alloc_new _ _, by simp, fun i hi => by simp [List.getD_eq_getElem?_getD, hi]⟩
theorem Box.lt {w : World} {g T : Nat} {cs : List Value} (h : Box w g T cs) : g < w.heap.size := World.rowIs.lt h.ex
theorem Box.keep {w w' : World} {g T : Nat} {cs : List Value} (h : Box w g T cs) (hb : w'.heap[g]? = w.heap[g]?) : Box w' g T cs := ⟨World.rowIs.of_block h.ex hb⟩
theorem Box.still {w w' : World} {g T : Nat} {cs : List Value} (h : Box w g T cs) (hb : Below w.heap.size w w') : Box w' g T cs := h.keep (hb.block g h.lt)
theorem Box.cell {w : World} {g T : Nat} {cs : List Value} (h : Box w g T cs) (i : Nat) (hi : i < cs.length) : w.cell? ⟨g, i, none⟩ = some (cs.getD i .nilFunc) := h.ex.cell hi
theorem Box.frozen {w : World} {g T : Nat} {cs : List Value} (h : Box w g T cs) (i : Nat) : w.frozen? ⟨g, i, none⟩ = false := h.ex.frozen i
theorem Box.set {w : World} {g T : Nat} {cs : List Value} (h : Box w g T cs) (i : Nat) (u : Value) : Box (w.setCell ⟨g, i, none⟩ u) g T (cs.set i u) := by
  obtain ⟨c, h1, h2, h3⟩ := World.rowIs.set h.ex i u
  refine ⟨c, h1, by simpa using h2, fun j hj => ?_⟩
  rw [List.length_set] at hj
  rw [h3 j hj]
  by_cases e : j = i
  · subst e; simp [List.getD_eq_getElem?_getD, hj]
  · have e2 : (cs.set i u)[j]? = cs[j]? := List.getElem?_set_ne (fun h : i = j => e h.symm)
    simp [List.getD_eq_getElem?_getD, e, e2]
theorem Box.past {w : World} {g T q o : Nat} {cs : List Value} {u : Value} (h : Box w g T cs) (hq : g ≠ q) : Box (w.setCell ⟨q, o, none⟩ u) g T cs := h.keep (blk_setCell_other _ _ _ _ (by exact hq))
theorem bel_alloc (w : World) (o : Obj) : Below w.heap.size w (w.alloc o) := (Below.refl _ _).alloc (Nat.le_refl _) o
theorem bel_trans {a b c : World} (h : Below a.heap.size a b) (k : Below b.heap.size b c) : Below a.heap.size a c := h.trans (k.mono h.size)
theorem bel3 (w : World) (o o' o'' : Obj) : Below w.heap.size w (((w.alloc o).alloc o').alloc o'') := ((bel_alloc _ _).alloc (by simp) _).alloc (by simp; omega) _
/-- The begin and what leaves, of e moved by by. -/
def mvA (a B D L : Int) : Int := mvB B D L a
def mvD (a d B D L : Int) : Int := max (mvB B D L a) (mvE B D L (a + d)) - mvB B D L a
abbrev edC (a d : Int) (s : ByteArray) : List Value := [.int .i64 a, .int .i64 d, .string s]
/-- Two edits in their boxes, and the answer's. -/
structure B3 (p : Nat) (a d : Int) (s : ByteArray) (B D : Int) (t : ByteArray) (w : World) : Prop where
  e : Box w p 25 (edC a d s)
  y : Box w (p + 1) 25 (edC B D t)
  r : Box w (p + 1 + 1) 25 (edC 0 0 ⟨#[]⟩)
theorem B3.still {p : Nat} {a d : Int} {s : ByteArray} {B D : Int} {t : ByteArray} {w w' : World} (h : B3 p a d s B D t w) (hb : Below w.heap.size w w') : B3 p a d s B D t w' :=
  ⟨h.e.still hb, h.y.still hb, h.r.still hb⟩
theorem b3_new (w : World) (a d : Int) (s : ByteArray) (B D : Int) (t : ByteArray) :
    Below w.heap.size w (((w.alloc (.cells #[.int .i64 a, .int .i64 d, .string s] 25)).alloc (.cells #[.int .i64 B, .int .i64 D, .string t] 25)).alloc (.cells #[.int .i64 0, .int .i64 0, .string ⟨#[]⟩] 25)) ∧ B3 w.heap.size a d s B D t (((w.alloc (.cells #[.int .i64 a, .int .i64 d, .string s] 25)).alloc (.cells #[.int .i64 B, .int .i64 D, .string t] 25)).alloc (.cells #[.int .i64 0, .int .i64 0, .string ⟨#[]⟩] 25)) := by
  have h1 := Box.new w 25 (edC a d s)
  have h2 := Box.new (w.alloc (.cells #[.int .i64 a, .int .i64 d, .string s] 25)) 25 (edC B D t)
  have h3 := Box.new ((w.alloc (.cells #[.int .i64 a, .int .i64 d, .string s] 25)).alloc (.cells #[.int .i64 B, .int .i64 D, .string t] 25)) 25 (edC 0 0 ⟨#[]⟩)
  refine ⟨bel3 w _ _ _, (h1.still (bel_alloc _ _)).still (bel_alloc _ _), ?_, ?_⟩
  · have := h2.still (bel_alloc _ (.cells #[.int .i64 0, .int .i64 0, .string ⟨#[]⟩] 25))
    simpa using this
  · simpa using h3

set_option maxHeartbeats 1600000 in
theorem moved15 (a d : Int) (s : ByteArray) (B D : Int) (t : ByteArray) (hs : s.size ≤ 1048576) (ht : t.size ≤ 1048576) (hB : 0 ≤ B) (hB2 : B ≤ 4000) (hD : 0 ≤ D) (hD2 : D ≤ 4000)
    (ha : 0 ≤ a) (ha2 : a ≤ 4000) (hd : 0 ≤ d) (hd2 : d ≤ 4000) (w : World) :
    Calls Try.prog 15 #[edV a d s, edV B D t] w fun e w' => e = .returned (edV (mvA a B D t.size) (mvD a d B D t.size) s) ∧ Below w.heap.size w w' := by
  have HE := (show Hid _ from fun w' => end18 a d s (by omega) w')
  have H1 := (show Hid _ from fun w' => begin21 B D a t ht hB hB2 hD hD2 ha (by omega) w')
  have H2 := (show Hid _ from fun w' => end22 B D (a + d) t ht hB hB2 hD hD2 (by omega) (by omega) w')
  have hm1 : -4000 ≤ mvB B D t.size a ∧ mvB B D t.size a ≤ 1100000 := by unfold mvB; split <;> (try split) <;> omega
  have hm2 : -4000 ≤ mvE B D t.size (a + d) ∧ mvE B D t.size (a + d) ≤ 1100000 := by unfold mvE; split <;> (try split) <;> omega
  unfold mvD mvA
  generalize mvB B D t.size a = x at *
  generalize mvE B D t.size (a + d) = y at *
  have hw : IntKind.i64.wrap (max x y - x) = max x y - x := by rw [IntKind.wrap_i64]; omega
  have H3 := (show Hid _ from b3_new w a d s B D t)
  clear hs ht hB hB2 hD hD2 ha ha2 hd hd2 hm1 hm2
  unfold edV at *
  go_enter Try.func15, Try.ntmps15
  go_wp2_with fail
  refine Calls.mono (H1.out _) ?_
  rintro e w1 ⟨rfl, hb1⟩
  have H4 := (show Hid (Below w.heap.size w w1 ∧ B3 w.heap.size a d s B D t w1) from ⟨bel_trans H3.out.1 hb1, H3.out.2.still hb1⟩)
  clear hb1 H3 H1
  have HC := (show Hid (∀ wq, Below w1.heap.size w1 wq → (wq.cell? ⟨w.heap.size, 0, none⟩ = some (.int .i64 a) ∧ wq.cell? ⟨w.heap.size, 1, none⟩ = some (.int .i64 d) ∧ wq.cell? ⟨w.heap.size, 2, none⟩ = some (.string s)) ∧ wq.cell? ⟨w.heap.size + 1, 0, none⟩ = some (.int .i64 B) ∧ wq.cell? ⟨w.heap.size + 1, 1, none⟩ = some (.int .i64 D) ∧ wq.cell? ⟨w.heap.size + 1, 2, none⟩ = some (.string t)) from fun wq h => by
    have q := H4.out.2.still h
    exact ⟨⟨q.e.cell 0 (by simp), q.e.cell 1 (by simp), q.e.cell 2 (by simp)⟩, q.y.cell 0 (by simp), q.y.cell 1 (by simp), q.y.cell 2 (by simp)⟩)
  go_wp2_with fail
  go_cut [6] from 11 to 16 (fun v wx => v = .int .i64 (max x y) ∧ Hid (Below w1.heap.size w1 wx))
  case first =>
    have hbd := (Below.refl w1.heap.size w1).drew
    have hS0 := HC.out _ hbd
    go_region_held3 (fun wq => (wq.cell? ⟨w.heap.size, 0, none⟩ = some (.int .i64 a) ∧ wq.cell? ⟨w.heap.size, 1, none⟩ = some (.int .i64 d) ∧ wq.cell? ⟨w.heap.size, 2, none⟩ = some (.string s)) ∧ wq.cell? ⟨w.heap.size + 1, 0, none⟩ = some (.int .i64 B) ∧ wq.cell? ⟨w.heap.size + 1, 1, none⟩ = some (.int .i64 D) ∧ wq.cell? ⟨w.heap.size + 1, 2, none⟩ = some (.string t)) (first | with_reducible exact hS0 | with_reducible exact hS1 | with_reducible exact hS2) ((first
      | (go_at_call 21; refine Calls.mono (H2.out _) ?_; rintro e wb ⟨rfl, hbb⟩; have hF2 := bel_trans hF1 hbb; have hS2 := HC.out _ hF2)
      | (go_at_call 22; refine Calls.mono (HE.out _) ?_; rintro e wb ⟨rfl, hbb⟩; have hF1 := bel_trans hbd hbb; have hS1 := HC.out _ hF1)))
    all_goals go_wp2_with fail
    all_goals go_meet
    all_goals exact ⟨rfl, hF2⟩
  case rest =>
    obtain ⟨rfl, HX⟩ := hcut
    obtain ⟨w2, rfl⟩ : ∃ w2, w2 = wc := ⟨_, rfl⟩
    have q := H4.out.2.still HX.out
    have c2 : w2.cell? ⟨w.heap.size, 2, none⟩ = some (.string s) := q.e.cell 2 (by simp)
    have r0 : w2.cell? ⟨w.heap.size + 1 + 1, 0, none⟩ = some (.int .i64 0) := q.r.cell 0 (by simp)
    have r1 : w2.cell? ⟨w.heap.size + 1 + 1, 1, none⟩ = some (.int .i64 0) := q.r.cell 1 (by simp)
    have r2 : w2.cell? ⟨w.heap.size + 1 + 1, 2, none⟩ = some (.string ⟨#[]⟩) := q.r.cell 2 (by simp)
    have f0 := q.r.frozen 0
    have f1 := q.r.frozen 1
    have f2 := q.r.frozen 2
    have HB := (show Hid _ from bel_trans H4.out.1 HX.out)
    clear q HX H4 HC HE H2
    go_wp2_with fail
    refine bodyPost_ret (v := .agg #[.int .i64 x, .int .i64 (max x y - x), .string s]) (by simp [results, Try.results15, go_sem, r0, r1, r2]) rfl ?_
    exact ⟨rfl, ((HB.out.setCell (by simp; omega) _).setCell (by simp; omega) _).setCell (by simp; omega) _⟩
end Go.Proofs.Ytcpjoicejbcndaa
