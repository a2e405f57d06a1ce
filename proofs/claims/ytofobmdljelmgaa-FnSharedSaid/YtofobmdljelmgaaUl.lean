import Derived.Test.YtofobmdljelmgaaUk
import Derived.Test.YtofobmdljelmgaaUx
import Derived.Deep.RegionLaw
import Derived.Deep.RegionHeld3
/-! The program's Unshare, walked. -/
namespace Go.Proofs.Ytofobmdljelmgaa
open Go.RowKit Go.Deep Go.Lib
set_option linter.unusedVariables false
set_option maxRecDepth 100000
set_option linter.unusedSimpArgs false

theorem UuI.start (w : World) (u r : Value) : UuI w (((w.alloc (.cells #[u, r] 27)).alloc (.cells #[.slice none 0 0] 30)).alloc (.cells #[.int .i64 0] 3)) u r (.slice none 0 0) [] := by
  have h0 := ((Box.new w 27 [u, r]).still (bel_alloc _ (.cells #[.slice none 0 0] 30))).still (bel_alloc _ (.cells #[.int .i64 0] 3))
  have h1 := (Box.new (w.alloc (.cells #[u, r] 27)) 30 [.slice none 0 0]).still (bel_alloc _ (.cells #[.int .i64 0] 3))
  have h2 := Box.new ((w.alloc (.cells #[u, r] 27)).alloc (.cells #[.slice none 0 0] 30)) 3 [.int .i64 0]
  simp only [World.size_alloc] at h1 h2
  exact ⟨h0, h1, h2, bel_trans (bel_trans (bel_alloc _ _) (bel_alloc _ _)) (bel_alloc _ _), ⟨fun _ => .bool false, fun _ => 0, fun _ => 0, own_nil _ _ _ _, fun i hi => absurd hi (Nat.not_lt_zero _), fun i hi => absurd hi (Nat.not_lt_zero _), fun i i' _ hi => absurd hi (Nat.not_lt_zero _)⟩⟩
/-- Refused: the answer's cells are set, and nothing old has turned. -/
theorem refuse23 {w wr : World} {v x : Value} {ns : List Rd} {rs : List Int} (h1 : Box wr (w.heap.size + 1) 30 [v]) (h2 : Box wr (w.heap.size + 1 + 1) 3 [x]) (hb : Below w.heap.size w wr) (hno : ∀ T, ¬ UnOK ns rs T) :
    ((wr.setCell ⟨w.heap.size + 1, 0, none⟩ (.slice none 0 0)).setCell ⟨w.heap.size + 1 + 1, 0, none⟩ (.int .i64 10)).cell? ⟨w.heap.size + 1, 0, none⟩ = some (.slice none 0 0) ∧ ((wr.setCell ⟨w.heap.size + 1, 0, none⟩ (.slice none 0 0)).setCell ⟨w.heap.size + 1 + 1, 0, none⟩ (.int .i64 10)).cell? ⟨w.heap.size + 1 + 1, 0, none⟩ = some (.int .i64 10) ∧ UnA ns rs w (.returned (.tuple #[.slice none 0 0, .int .i64 10])) ((wr.setCell ⟨w.heap.size + 1, 0, none⟩ (.slice none 0 0)).setCell ⟨w.heap.size + 1 + 1, 0, none⟩ (.int .i64 10)) := by
  have r0 := ((h1.set 0 (.slice none 0 0)).past (q := w.heap.size + 1 + 1) (o := 0) (u := .int .i64 10) (by omega)).cell 0 (by simp)
  have r1 := ((h2.past (q := w.heap.size + 1) (o := 0) (u := .slice none 0 0) (by omega)).set 0 (.int .i64 10)).cell 0 (by simp)
  exact ⟨r0, r1, UnA.none hno ((hb.setCell (p := ⟨w.heap.size + 1, 0, none⟩) (by show w.heap.size ≤ w.heap.size + 1; omega) _).setCell (p := ⟨w.heap.size + 1 + 1, 0, none⟩) (by show w.heap.size ≤ w.heap.size + 1 + 1; omega) _)⟩
theorem cell_far (w : World) {p q : Nat} (o o' : Nat) (v : Value) (h : p ≠ q) : (w.setCell ⟨p, o, none⟩ v).cell? ⟨q, o', none⟩ = w.cell? ⟨q, o', none⟩ := World.cell?_of_block (w := w) (blk_setCell_other _ _ _ _ (by exact h.symm))
theorem frozen_far (w : World) {p q : Nat} (o o' : Nat) (v : Value) (h : p ≠ q) : (w.setCell ⟨p, o, none⟩ v).frozen? ⟨q, o', none⟩ = w.frozen? ⟨q, o', none⟩ := World.frozen?_of_block (w := w) (blk_setCell_other _ _ _ _ (by exact h.symm))
theorem UpA.more {w wr w2 w3 : World} {u r v q : Value} {k' : List Tr} {t : Tr} {fs : Nat → Value} {g cap : Nat} (h : UpA w wr w2 u r v q k' t fs g cap w3) :
    ((((w3.setCell ⟨g, k'.length * 4, none⟩ (.string t.name)).setCell ⟨g, k'.length * 4 + 1, none⟩ (.string t.text)).setCell ⟨g, k'.length * 4 + 2, none⟩ (.bool t.leaf)).setCell ⟨g, k'.length * 4 + 3, none⟩ q).cell? ⟨w.heap.size + 1, 0, none⟩ = some v ∧
    ((((w3.setCell ⟨g, k'.length * 4, none⟩ (.string t.name)).setCell ⟨g, k'.length * 4 + 1, none⟩ (.string t.text)).setCell ⟨g, k'.length * 4 + 2, none⟩ (.bool t.leaf)).setCell ⟨g, k'.length * 4 + 3, none⟩ q).frozen? ⟨w.heap.size + 1, 0, none⟩ = false ∧
    (w3.setCell ⟨w.heap.size + 1, 0, none⟩ (.slice (some ⟨g, 0, none⟩) (k'.length + 1) cap)).cell? ⟨g, k'.length * 4, none⟩ = some (.string ⟨#[]⟩) ∧
    (w3.setCell ⟨w.heap.size + 1, 0, none⟩ (.slice (some ⟨g, 0, none⟩) (k'.length + 1) cap)).cell? ⟨g, k'.length * 4 + 1, none⟩ = some (.string ⟨#[]⟩) ∧
    (w3.setCell ⟨w.heap.size + 1, 0, none⟩ (.slice (some ⟨g, 0, none⟩) (k'.length + 1) cap)).cell? ⟨g, k'.length * 4 + 2, none⟩ = some (.bool false) ∧
    (w3.setCell ⟨w.heap.size + 1, 0, none⟩ (.slice (some ⟨g, 0, none⟩) (k'.length + 1) cap)).cell? ⟨g, k'.length * 4 + 3, none⟩ = some (.slice none 0 0) ∧
    (w3.setCell ⟨w.heap.size + 1, 0, none⟩ (.slice (some ⟨g, 0, none⟩) (k'.length + 1) cap)).frozen? ⟨g, k'.length * 4, none⟩ = false ∧
    (w3.setCell ⟨w.heap.size + 1, 0, none⟩ (.slice (some ⟨g, 0, none⟩) (k'.length + 1) cap)).frozen? ⟨g, k'.length * 4 + 1, none⟩ = false ∧
    (w3.setCell ⟨w.heap.size + 1, 0, none⟩ (.slice (some ⟨g, 0, none⟩) (k'.length + 1) cap)).frozen? ⟨g, k'.length * 4 + 2, none⟩ = false ∧
    (w3.setCell ⟨w.heap.size + 1, 0, none⟩ (.slice (some ⟨g, 0, none⟩) (k'.length + 1) cap)).frozen? ⟨g, k'.length * 4 + 3, none⟩ = false ∧
    UuI w ((((w3.setCell ⟨w.heap.size + 1, 0, none⟩ (.slice (some ⟨g, 0, none⟩) (k'.length + 1) cap)).setCell ⟨g, k'.length * 4, none⟩ (.string t.name)).setCell ⟨g, k'.length * 4 + 1, none⟩ (.string t.text)).setCell ⟨g, k'.length * 4 + 2, none⟩ (.bool t.leaf) |>.setCell ⟨g, k'.length * 4 + 3, none⟩ q) u r (.slice (some ⟨g, 0, none⟩) (k'.length + 1) cap) (k' ++ [t]) ∧
    UuI w (((((w3.setCell ⟨g, k'.length * 4, none⟩ (.string t.name)).setCell ⟨g, k'.length * 4 + 1, none⟩ (.string t.text)).setCell ⟨g, k'.length * 4 + 2, none⟩ (.bool t.leaf)).setCell ⟨g, k'.length * 4 + 3, none⟩ q).setCell ⟨w.heap.size + 1, 0, none⟩ (.slice (some ⟨g, 0, none⟩) (k'.length + 1) cap)) u r (.slice (some ⟨g, 0, none⟩) (k'.length + 1) cap) (k' ++ [t]) := by
  have hn := h.ne
  refine ⟨?_, ?_, ?_, ?_, ?_, ?_, ?_, ?_, ?_, ?_, ?_, h.nx⟩
  · rw [cell_far _ _ _ _ hn, cell_far _ _ _ _ hn, cell_far _ _ _ _ hn, cell_far _ _ _ _ hn]; exact h.t2
  · rw [frozen_far _ _ _ _ hn, frozen_far _ _ _ _ hn, frozen_far _ _ _ _ hn, frozen_far _ _ _ _ hn]; exact h.f2
  · rw [cell_far _ _ _ _ hn.symm]; exact h.z0
  · rw [cell_far _ _ _ _ hn.symm]; exact h.z1
  · rw [cell_far _ _ _ _ hn.symm]; exact h.z2
  · rw [cell_far _ _ _ _ hn.symm]; exact h.z3
  · rw [frozen_far _ _ _ _ hn.symm]; exact h.y0
  · rw [frozen_far _ _ _ _ hn.symm]; exact h.y1
  · rw [frozen_far _ _ _ _ hn.symm]; exact h.y2
  · rw [frozen_far _ _ _ _ hn.symm]; exact h.y3
  · have e := set4_comm w3 (k'.length * 4) 0 (.string t.name) (.string t.text) (.bool t.leaf) q (.slice (some ⟨g, 0, none⟩) (k'.length + 1) cap) hn.symm
    have h2 := h.nx
    rw [← e] at h2
    exact h2
/-- What stands behind the loop. -/
structure UvI (w wq : World) (u r v x : Value) (k' : List Tr) : Prop where
  b0 : Box wq w.heap.size 27 [u, r]
  b1 : Box wq (w.heap.size + 1) 30 [v]
  b2 : Box wq (w.heap.size + 1 + 1) 3 [x]
  bel : Below w.heap.size w wq
  own : Own wq (w.heap.size + 3) wq.heap.size (dm k') v
theorem UvI.of {w wr : World} {u r v : Value} {k' : List Tr} (h : UuI w wr u r v k') : UvI w wr u r v (.int .i64 0) k' :=
  ⟨h.b0, h.b1, h.b2, h.bel, Grw.done h.grw (by show (0 : Nat) ≤ _; exact Nat.zero_le _) (by show (0 : Nat) ≤ _; exact Nat.zero_le _)⟩
theorem UvI.still {w wq wz : World} {u r v x : Value} {k' : List Tr} (h : UvI w wq u r v x k') (hb : Below wq.heap.size wq wz) : UvI w wz u r v x k' :=
  ⟨h.b0.still hb, h.b1.still hb, h.b2.still hb, bel_trans h.bel hb, (h.own.still hb).keep (Nat.le_refl _) hb.size (fun _ _ _ _ => rfl)⟩
theorem UvI.code {w wq : World} {u r v x : Value} {k' : List Tr} (h : UvI w wq u r v x k') (y : Value) : UvI w (wq.setCell ⟨w.heap.size + 1 + 1, 0, none⟩ y) u r v y k' :=
  ⟨h.b0.past (by omega), h.b1.past (by omega), h.b2.set 0 y, h.bel.setCell (p := ⟨w.heap.size + 1 + 1, 0, none⟩) (by show w.heap.size ≤ w.heap.size + 1 + 1; omega) _, (h.own.past (.inl (by omega))).keep (Nat.le_refl _) (by simp) (fun _ _ _ _ => rfl)⟩
theorem UvI.yes {w wq : World} {u r x : Value} {va : Option Addr} {m vp : Nat} {k' : List Tr} {ns : List Rd} {rs : List Int} (h : UvI w wq u r (.slice va m vp) x k') (hok : UnOK ns rs k') :
    ((wq.setCell ⟨w.heap.size + 1, 0, none⟩ (.slice va m vp)).setCell ⟨w.heap.size + 1 + 1, 0, none⟩ (.int .i64 0)).cell? ⟨w.heap.size + 1, 0, none⟩ = some (.slice va m vp) ∧ ((wq.setCell ⟨w.heap.size + 1, 0, none⟩ (.slice va m vp)).setCell ⟨w.heap.size + 1 + 1, 0, none⟩ (.int .i64 0)).cell? ⟨w.heap.size + 1 + 1, 0, none⟩ = some (.int .i64 0) ∧ UnA ns rs w (.returned (.tuple #[.slice va m vp, .int .i64 0])) ((wq.setCell ⟨w.heap.size + 1, 0, none⟩ (.slice va m vp)).setCell ⟨w.heap.size + 1 + 1, 0, none⟩ (.int .i64 0)) := by
  have r0 := ((h.b1.set 0 (.slice va m vp)).past (q := w.heap.size + 1 + 1) (o := 0) (u := .int .i64 0) (by omega)).cell 0 (by simp)
  have r1 := ((h.b2.past (q := w.heap.size + 1) (o := 0) (u := .slice va m vp) (by omega)).set 0 (.int .i64 0)).cell 0 (by simp)
  refine ⟨r0, r1, k', 0, va, m, vp, .inl ⟨hok, rfl⟩, rfl, (h.bel.setCell (p := ⟨w.heap.size + 1, 0, none⟩) (by show w.heap.size ≤ w.heap.size + 1; omega) _).setCell (p := ⟨w.heap.size + 1 + 1, 0, none⟩) (by show w.heap.size ≤ w.heap.size + 1 + 1; omega) _, ?_⟩
  exact ((h.own.past (.inl (by omega))).past (.inl (by omega))).keep (by omega) (by simp) (fun _ _ _ _ => rfl)
abbrev uo0 : Oper := { dst := some 19, op := Go.Op.load 30 (Go.Operand.tmp 2), type := 30, pos := "l09_documents.go:90", after := #[], guard := none }
abbrev uo1 : Oper := { dst := some 20, op := Go.Op.load 27 (Go.Operand.tmp 1), type := 27, pos := "l09_documents.go:90", after := #[], guard := none }
abbrev uo2 : Oper := { dst := some 21, op := Go.Op.move (Go.Operand.tmp 5), type := 3, pos := "l09_documents.go:90", after := #[], guard := none }
abbrev uo3 : Oper := { dst := some 22, op := Go.Op.call { callee := Go.Callee.value (Go.Operand.func 36), args := #[Go.Operand.tmp 20, Go.Operand.tmp 21], argTypes := #[27, 3] }, type := 39, pos := "l09_documents.go:90", after := #[{ on := 1, ground := Go.Ground.data }, { on := 2, ground := Go.Ground.data }], guard := none }
abbrev uo4 : Oper := { dst := some 23, op := Go.Op.call { callee := Go.Callee.builtin Go.Builtin.len, args := #[Go.Operand.tmp 19], argTypes := #[30] }, type := 3, pos := "l09_documents.go:90", after := #[{ on := 0, ground := Go.Ground.data }], guard := none }
abbrev uo5 : Oper := { dst := some 24, op := Go.Op.buildSlice 30 1 #[(0, Go.Operand.const (Go.Value.agg #[Go.Value.string { data := #[] }, Go.Value.string { data := #[] }, Go.Value.bool false, Go.Value.slice none 0 0]))], type := 30, pos := "l09_documents.go:90", after := #[], guard := none }
abbrev uo6 : Oper := { dst := some 25, op := Go.Op.call { callee := Go.Callee.builtin Go.Builtin.append, args := #[Go.Operand.tmp 19, Go.Operand.tmp 24], argTypes := #[30, 30] }, type := 30, pos := "l09_documents.go:90", after := #[{ on := 0, ground := Go.Ground.data }, { on := 5, ground := Go.Ground.data }, { on := 3, ground := Go.Ground.chain }, { on := 0, ground := Go.Ground.phase }, { on := 1, ground := Go.Ground.phase }, { on := 2, ground := Go.Ground.phase }, { on := 3, ground := Go.Ground.phase }, { on := 4, ground := Go.Ground.phase }, { on := 5, ground := Go.Ground.phase }], guard := none }
abbrev uo7 : Oper := { dst := some 26, op := Go.Op.indexAddr 30 (Go.Operand.tmp 25) (Go.Operand.tmp 23), type := 0, pos := "l09_documents.go:90", after := #[{ on := 6, ground := Go.Ground.data }, { on := 4, ground := Go.Ground.data }, { on := 0, ground := Go.Ground.phase }, { on := 1, ground := Go.Ground.phase }, { on := 2, ground := Go.Ground.phase }, { on := 3, ground := Go.Ground.phase }, { on := 4, ground := Go.Ground.phase }, { on := 5, ground := Go.Ground.phase }, { on := 6, ground := Go.Ground.phase }, { on := 9, ground := Go.Ground.gcOnly Go.Departure.appendInPlace }], guard := none }
abbrev uo8 : Oper := { dst := none, op := Go.Op.store 39 (Go.Operand.tmp 26) (Go.Operand.tmp 22), type := 0, pos := "l09_documents.go:90", after := #[{ on := 7, ground := Go.Ground.data }, { on := 3, ground := Go.Ground.data }, { on := 6, ground := Go.Ground.chain }, { on := 0, ground := Go.Ground.phase }, { on := 1, ground := Go.Ground.phase }, { on := 2, ground := Go.Ground.phase }, { on := 3, ground := Go.Ground.phase }, { on := 4, ground := Go.Ground.phase }, { on := 5, ground := Go.Ground.phase }, { on := 6, ground := Go.Ground.phase }, { on := 9, ground := Go.Ground.gcOnly Go.Departure.appendInPlace }], guard := none }
abbrev uo9 : Oper := { dst := none, op := Go.Op.store 30 (Go.Operand.tmp 2) (Go.Operand.tmp 25), type := 0, pos := "l09_documents.go:90", after := #[{ on := 6, ground := Go.Ground.data }, { on := 6, ground := Go.Ground.chain }, { on := 8, ground := Go.Ground.textOnly Go.Departure.appendInPlace }, { on := 0, ground := Go.Ground.phase }, { on := 1, ground := Go.Ground.phase }, { on := 2, ground := Go.Ground.phase }, { on := 3, ground := Go.Ground.phase }, { on := 4, ground := Go.Ground.phase }, { on := 5, ground := Go.Ground.phase }, { on := 6, ground := Go.Ground.phase }, { on := 7, ground := Go.Ground.textOnly Go.Departure.appendInPlace }, { on := 8, ground := Go.Ground.textOnly Go.Departure.appendInPlace }], guard := none }
set_option maxHeartbeats 3200000 in
theorem iUnshare {S S' : Nat → Prop} (ns : List Rd) (rs : List Int) (u r : Value) (w : World) (hS : ∀ q, S q → q < w.heap.size) (hN : Rds w S ns u) (hI : Ints w S' rs r) :
    Calls Try.prog 11 #[.agg #[u, r]] w (UnA ns rs w) := by
  have hmf := make_func
  have hX0 := UuI.start w u r
  obtain ⟨ua, ucap, hu, hum⟩ := hN.form
  have HI := (show Hid _ from hI)
  obtain ⟨ra, rcap, rb, roff, hrv, hrc, hrm, hra, hrcell⟩ := hI
  unfold maxLen at hum hrm
  have HN := (show Hid _ from hN)
  have HS := (show Hid _ from hS)
  have HRC := (show Hid _ from (⟨hra, hrcell⟩ : _ ∧ _)); clear hra hrcell hN hS
  subst hu hrv
  have HX0 := (show Hid _ from hX0)
  have x0 := hX0.b0.cell 0 (by simp)
  have x1 := hX0.b0.cell 1 (by simp)
  simp only [List.getD_cons_zero, List.getD_cons_succ] at x0 x1
  clear hX0
  by_cases h20 : 20 < rs.length
  · have HA := (show Hid (∀ w', Below w.heap.size w w' → UnA ns rs w (.returned (.tuple #[.slice none 0 0, .int .i64 10])) w') from fun w' hb => UnA.none (fun T hT => by
      obtain ⟨a1, a2, a3⟩ := hT.root
      omega) hb)
    have q0 := HX0.out.b1
    have q1 := HX0.out.b2
    have c0' := q0.cell 0 (by simp)
    have f0 := q0.frozen 0
    have c1' := (q1.past (q := w.heap.size + 1) (o := 0) (u := .slice none 0 0) (by omega)).cell 0 (by simp)
    have f1 := (q1.past (q := w.heap.size + 1) (o := 0) (u := .slice none 0 0) (by omega)).frozen 0
    simp only [List.set_cons_zero, List.getD_cons_zero] at c0' c1'
    clear q0 q1 HN HI HS HRC HX0
    go_enter_defers Try.func11, Try.ntmps11
    go_wp2_with fail
    refine leaves_cons (f := 34) (args := #[.pointer (some ⟨w.heap.size + 1, 0, none⟩), .pointer (some ⟨w.heap.size + 1 + 1, 0, none⟩)]) (by simp) (by simp [go_sem]) ?_
    refine (catch51_idle _ _ _).mono ?_
    rintro e u' w'' ⟨rfl, rfl, rfl⟩
    exact ⟨.tuple #[.slice none 0 0, .int .i64 10], by simp [results, Try.results11, go_sem], HA.out _ (bel_trans (bel_trans (bel_alloc _ _) (bel_alloc _ _)) (bel_alloc _ _))⟩
  · have h20' : rs.length ≤ 20 := by omega
    have h20i : decide (20 < rs.length) = false := by simp; omega
    clear h20
    go_enter_defers Try.func11, Try.ntmps11
    go_wp2_with fail
    clear x0 x1
    go_loopw [15] (fun i wr => ∃ (j : Nat) (v : Value) (k' : List Tr), i = .int .i64 j ∧ j ≤ rs.length ∧ Hid (k'.length = j) ∧ Hid (FsR ns rs k') ∧ Hid (UuI w wr (.slice ua ns.length ucap) (.slice ra rs.length rcap) v k')) (fun i _ => rs.length - (intOf i).toNat)
    case atStart => exact ⟨0, _, [], rfl, Nat.zero_le _, (show _ = _ from rfl), FsR.nil _ _, HX0.out⟩
    case round =>
      obtain ⟨j, v, k', rfl, hj, hk', HF, HT⟩ := hrel
      clear HX0
      replace hk' := hk'.out
      subst hk'
      obtain ⟨va, vp, rfl, _⟩ : ∃ a cap, v = .slice a k'.length cap ∧ (a = none → k'.length = 0) := by
        obtain ⟨fs, ls, hs, hown, _⟩ := HT.out.grw
        exact own_ne hown
      by_cases hlt : k'.length < rs.length
      · obtain ⟨rfl, hSr⟩ := HRC.out.1 (by omega)
        have hcz : wr.cell? ⟨rb, roff + k'.length, none⟩ = some (.int .i64 rs[k'.length]) := (HT.out.bel.cell (lt_of_cell (HRC.out.2 k'.length hlt))).trans (HRC.out.2 k'.length hlt)
        have HZ := (show Hid (w.heap.size + 3 ≤ wr.heap.size) from (by have := HT.out.b2.lt; show _ ≤ _; omega))
        have HCL0 : Hid (∀ wq : World, Below wr.heap.size wr wq → Calls Try.prog 36 #[.agg #[.slice ua ns.length ucap, .slice (some ⟨rb, roff, none⟩) rs.length rcap], .int .i64 rs[k'.length]] wq (DtA ns rs[k'.length] wq)) := fun wq hb => by
          have hz := HZ.out
          have hs := hb.size
          exact dtree66 ns rs[k'.length] _ _ wq (Rds.still HN.out (bel_trans HT.out.bel hb)) (fun b hb => by have := HS.out b hb; omega) ⟨_, _, _, rfl⟩
        have T2 : wr.cell? ⟨w.heap.size + 1, 0, none⟩ = some (.slice va k'.length vp) := HT.out.b1.cell 0 (by simp)
        have hA := (Below.refl wr.heap.size wr).drew
        have hB : Below wr.heap.size wr (wr.alloc (.cells #[.string ⟨#[]⟩, .string ⟨#[]⟩, .bool false, .slice none 0 0] 39)).drew := (bel_alloc _ _).drew
        have hB2 : Below wr.heap.size wr (wr.drew.alloc (.cells #[.string ⟨#[]⟩, .string ⟨#[]⟩, .bool false, .slice none 0 0] 39)) := hA.alloc (Nat.le_refl _) _
        have S1 : wr.drew.cell? ⟨w.heap.size + 1, 0, none⟩ = some (.slice va k'.length vp) := T2
        have S2 : (wr.alloc (.cells #[.string ⟨#[]⟩, .string ⟨#[]⟩, .bool false, .slice none 0 0] 39)).drew.cell? ⟨w.heap.size + 1, 0, none⟩ = some (.slice va k'.length vp) := (HT.out.b1.still (bel_alloc _ (.cells #[.string ⟨#[]⟩, .string ⟨#[]⟩, .bool false, .slice none 0 0] 39))).cell 0 (by simp)
        have S3 : (wr.drew.alloc (.cells #[.string ⟨#[]⟩, .string ⟨#[]⟩, .bool false, .slice none 0 0] 39)).cell? ⟨w.heap.size + 1, 0, none⟩ = some (.slice va k'.length vp) := (HT.out.b1.still hB2).cell 0 (by simp)
        have X0 : wr.cell? ⟨w.heap.size, 0, none⟩ = some (.slice ua ns.length ucap) := HT.out.b0.cell 0 (by simp)
        have X1 : wr.cell? ⟨w.heap.size, 1, none⟩ = some (.slice (some ⟨rb, roff, none⟩) rs.length rcap) := HT.out.b0.cell 1 (by simp)
        have X2 : (wr.alloc (.cells #[.string ⟨#[]⟩, .string ⟨#[]⟩, .bool false, .slice none 0 0] 39)).drew.cell? ⟨w.heap.size, 0, none⟩ = some (.slice ua ns.length ucap) := (HT.out.b0.still (bel_alloc _ (.cells #[.string ⟨#[]⟩, .string ⟨#[]⟩, .bool false, .slice none 0 0] 39))).cell 0 (by simp)
        have X3 : (wr.alloc (.cells #[.string ⟨#[]⟩, .string ⟨#[]⟩, .bool false, .slice none 0 0] 39)).drew.cell? ⟨w.heap.size, 1, none⟩ = some (.slice (some ⟨rb, roff, none⟩) rs.length rcap) := (HT.out.b0.still (bel_alloc _ (.cells #[.string ⟨#[]⟩, .string ⟨#[]⟩, .bool false, .slice none 0 0] 39))).cell 1 (by simp)
        have X4 : (wr.drew.alloc (.cells #[.string ⟨#[]⟩, .string ⟨#[]⟩, .bool false, .slice none 0 0] 39)).cell? ⟨w.heap.size, 0, none⟩ = some (.slice ua ns.length ucap) := (HT.out.b0.still hB2).cell 0 (by simp)
        have X5 : (wr.drew.alloc (.cells #[.string ⟨#[]⟩, .string ⟨#[]⟩, .bool false, .slice none 0 0] 39)).cell? ⟨w.heap.size, 1, none⟩ = some (.slice (some ⟨rb, roff, none⟩) rs.length rcap) := (HT.out.b0.still hB2).cell 1 (by simp)
        have X6 : wr.drew.cell? ⟨w.heap.size, 0, none⟩ = some (.slice ua ns.length ucap) := X0
        have X7 : wr.drew.cell? ⟨w.heap.size, 1, none⟩ = some (.slice (some ⟨rb, roff, none⟩) rs.length rcap) := X1
        by_cases hf : ∃ t, Fit ns rs[k'.length] 0 1 t
        · obtain ⟨t, ht⟩ := hf
          have HFT := (show Hid _ from ht)
          have HCL : Hid (∀ wq : World, Below wr.heap.size wr wq → Calls Try.prog 36 #[.agg #[.slice ua ns.length ucap, .slice (some ⟨rb, roff, none⟩) rs.length rcap], .int .i64 rs[k'.length]] wq fun e w1 => ∃ (a2 : Option Addr) (l2 p2 : Nat), e = .returned (.agg #[.string t.name, .string t.text, .bool t.leaf, .slice a2 l2 p2]) ∧ Hid (Below wr.heap.size wr w1 ∧ Own w1 wq.heap.size w1.heap.size t (.slice a2 l2 p2) ∧ wr.heap.size ≤ wq.heap.size ∧ (Box wq wr.heap.size 39 [.string ⟨#[]⟩, .string ⟨#[]⟩, .bool false, .slice none 0 0] → Box w1 wr.heap.size 39 [.string ⟨#[]⟩, .string ⟨#[]⟩, .bool false, .slice none 0 0]))) := fun wq hb => Calls.mono (HCL0.out wq hb) (by
            rintro e w1 ⟨k1, k2⟩
            rcases k2 with ⟨t', a2, l2, p2, k3, k4, k6⟩ | ⟨k3, k4⟩
            · obtain rfl : t = t' := ht.uniq k3
              have hsq := hb.size
              exact ⟨a2, l2, p2, k4, bel_trans hb k1, k6, hsq, fun hx => hx.still k1⟩
            · exact absurd ht (k3 t))
          obtain ⟨fs, ls, hs, hown, hls, hr, hd2⟩ := HT.out.grw
          have HG := (show Hid _ from (⟨hown, hls, hr, hd2⟩ : _ ∧ _ ∧ _ ∧ _)); clear hown hls hr hd2
          have HAF : Hid (∀ (w2 : World) (a2 : Option Addr) (l2 p2 a c : Nat), Below wr.heap.size wr w2 → Own w2 a c t (.slice a2 l2 p2) → wr.heap.size ≤ a → c ≤ w2.heap.size → w2.cell? ⟨w.heap.size + 1, 0, none⟩ = some (.slice va k'.length vp) ∧ Hid (w2.ownsRow (w.heap.size + 3) 39 4 (.slice va k'.length vp) k'.length (kc k' fs k'.length)) ∧ Hid (w.heap.size + 3 ≤ w2.heap.size) ∧ Hid (∀ (g7 cap7 : Nat) (w7 : World), w7.ownsRow (w.heap.size + 3) 39 4 (.slice (some ⟨g7, 0, none⟩) (k'.length + 1) cap7) (k'.length + 1) (kc k' fs k'.length ++ [.string ⟨#[]⟩, .string ⟨#[]⟩, .bool false, .slice none 0 0]) → w2.grownBy w7 (Value.slice va k'.length vp).ownBlock → ((Value.slice va k'.length vp).ownBlock = some g7 ∨ g7 = w2.heap.size) → UpA w wr w2 (.slice ua ns.length ucap) (.slice (some ⟨rb, roff, none⟩) rs.length rcap) (.slice va k'.length vp) (.slice a2 l2 p2) k' t fs g7 cap7 w7)) := fun w2 a2 l2 p2 a c h1 h2 h3 h4 => by
            have hz := HZ.out
            have hs := h1.size
            exact ⟨(HT.out.b1.still h1).cell 0 (by simp), own_still HG.out.1 h1, (by show _ ≤ _; omega), fun g7 cap7 w7 e1 e2 e3 => UpA.of HT.out HG.out.1 HG.out.2.1 HG.out.2.2.1 HG.out.2.2.2 h1 h2 h3 h4 e1 e2 e3⟩
          have HFN : Hid (FsR ns rs (k' ++ [t])) := HF.out.add hlt HFT.out
          have HBX : Hid (Box (wr.alloc (.cells #[.string ⟨#[]⟩, .string ⟨#[]⟩, .bool false, .slice none 0 0] 39)).drew wr.heap.size 39 [.string ⟨#[]⟩, .string ⟨#[]⟩, .bool false, .slice none 0 0]) := (Box.new wr 39 [.string ⟨#[]⟩, .string ⟨#[]⟩, .bool false, .slice none 0 0]).keep rfl
          obtain ⟨i59, hi59, hy0, hy1, hy2⟩ := info_parts info39
          clear HF HT HN HI HS HRC HCL0 ht HFT HG HZ
          generalize rs[k'.length] = zj at *
          have hix : (k'.length : Int) < (k'.length : Int) + 1 := by omega
          go_wp2_with fail
          refine wp_region_noPanic ?_
          refine wp_region_held_drew (S := (fun _ => True)) (by kernel_rfl) trivial (fun hHeld => ?_)
          refine wpAnyH_take (i := 2) (oi := uo2) (v := ?v1) rfl (by kernel_rfl) (by kernel_rfl) (by kernel_rfl) (fun _ _ _ h => h) (Or.inl ⟨by rfl, ?h1⟩) hHeld ?r1
          case h1 => (intro w hSw; (try dsimp only at hSw); go_simp; try with_reducible rfl)
          try simp only [Act.put, List.setIfInBounds_toArray, List.set_cons_zero, List.set_cons_succ]
          refine wpAnyH_ready (rs := [0, 1, 5]) (by kernel_rfl) (by simp) ?_
          refine (AllReadyH.cons (o := uo0) rfl (fun K hK => ?_) (AllReadyH.cons (o := uo1) rfl (fun K hK => ?_) (AllReadyH.cons (o := uo5) rfl (fun K hK => ?_) AllReadyH.nil)))
          · go_simp
            clear hHeld
            refine hK.out _ _ trivial (fun hHeld => ?_)
            clear hK K
            try simp only [Act.put, List.setIfInBounds_toArray, List.set_cons_zero, List.set_cons_succ]
            refine wpAnyH_take (i := 4) (oi := uo4) (v := ?v2) rfl (by kernel_rfl) (by kernel_rfl) (by kernel_rfl) (fun _ _ _ h => h) (Or.inl ⟨by rfl, ?h2⟩) hHeld ?r2
            case h2 => (intro w hSw; (try dsimp only at hSw); go_simp; try with_reducible rfl)
            try simp only [Act.put, List.setIfInBounds_toArray, List.set_cons_zero, List.set_cons_succ]
            refine wpAnyH_ready (rs := [1, 5]) (by kernel_rfl) (by simp) ?_
            refine (AllReadyH.cons (o := uo1) rfl (fun K hK => ?_) (AllReadyH.cons (o := uo5) rfl (fun K hK => ?_) AllReadyH.nil))
            · go_simp
              clear hHeld
              refine hK.out _ _ trivial (fun hHeld => ?_)
              clear hK K
              try simp only [Act.put, List.setIfInBounds_toArray, List.set_cons_zero, List.set_cons_succ]
              refine wpAnyH_ready (rs := [3, 5]) (by kernel_rfl) (by simp) ?_
              refine (AllReadyH.cons (o := uo3) rfl (fun K hK => ?_) (AllReadyH.cons (o := uo5) rfl (fun K hK => ?_) AllReadyH.nil))
              · go_simp
                refine Calls.mono (HCL.out _ (by first | with_reducible exact hA | with_reducible exact hB | with_reducible exact hB2)) ?_
                rintro e w1 ⟨a2, l2, p2, rfl, HQ⟩
                dsimp only
                obtain ⟨U1, _, _, _⟩ := HAF.out w1 a2 l2 p2 _ _ HQ.out.1 HQ.out.2.1 HQ.out.2.2.1 (Nat.le_refl _)
                obtain ⟨U2, HO, HZ2, HUP⟩ := HAF.out (w1.alloc (.cells #[.string ⟨#[]⟩, .string ⟨#[]⟩, .bool false, .slice none 0 0] 39)) a2 l2 p2 _ _ (bel_trans HQ.out.1 (bel_alloc _ _)) (HQ.out.2.1.still (bel_alloc _ _)) HQ.out.2.2.1 (by simp)
                clear hHeld
                refine hK.out _ _ trivial (fun hHeld => ?_)
                clear hK K
                try simp only [Act.put, List.setIfInBounds_toArray, List.set_cons_zero, List.set_cons_succ]
                refine wpAnyH_ready (rs := [5]) (by kernel_rfl) (by simp) ?_
                refine (AllReadyH.cons (o := uo5) rfl (fun K hK => ?_) AllReadyH.nil)
                go_simp
                clear hHeld
                refine hK.out _ _ trivial (fun hHeld => ?_)
                clear hK K
                try simp only [Act.put, List.setIfInBounds_toArray, List.set_cons_zero, List.set_cons_succ]
                refine wpAnyH_ready (rs := [6]) (by kernel_rfl) (by simp) ?_
                refine AllReadyH.cons (o := uo6) rfl (fun K hK => ?_) AllReadyH.nil
                (refine step_append_lies _ rfl (.tmp 19) (.tmp 24) 30 rfl (w.heap.size + 3) 39 i59 _ 4 64 Try.underlying30 hi59 hy0 hy1 hy2 rfl (by decide) _ k'.length _ (by simp [Act.eval, Act.put]) HO.out ⟨w1.heap.size, 0, none⟩ 1 1 [.string ⟨#[]⟩, .string ⟨#[]⟩, .bool false, .slice none 0 0] (by simp [Act.eval, Act.put]) rfl (cell_four_box _ _ _ _ _ _) (by intro y hy; simp at hy; rcases hy with rfl | rfl | rfl | rfl <;> rfl) (by decide) (by unfold maxLen; omega) (by omega) HZ2.out _ rfl ?_; intro g7 cap7 w7 hown7 hgr7 hat7 hlt7; have hU := HUP.out g7 cap7 w7 hown7 hgr7 hat7; clear hown7 hgr7 hat7 hlt7)
                clear hHeld
                refine hK.out _ _ trivial (fun hHeld => ?_)
                clear hK K
                try simp only [Act.put, List.setIfInBounds_toArray, List.set_cons_zero, List.set_cons_succ]
                obtain ⟨t8, f8, e0, e1, e2, e3, g0, g1, g2, g3, hN1, hN2⟩ := hU.more
                obtain ⟨t7, f7, z0, z1, z2, z3, y0, y1, y2, y3, hne7, _⟩ := hU
                have HN1 := (show Hid _ from hN1); clear hN1
                have HN2 := (show Hid _ from hN2); clear hN2
                clear HO HZ2 HUP
                refine wpAnyH_take (i := 7) (oi := uo7) (v := ?v3) rfl (by kernel_rfl) (by kernel_rfl) (by kernel_rfl) (fun _ _ _ h => h) (Or.inl ⟨by rfl, ?h3⟩) hHeld ?r3
                case h3 => (intro w hSw; (try dsimp only at hSw); go_simp; try with_reducible rfl)
                try simp only [Act.put, List.setIfInBounds_toArray, List.set_cons_zero, List.set_cons_succ]
                refine wpAnyH_ready (rs := [8, 9]) (by kernel_rfl) (by simp) ?_
                refine AllReadyH.cons (o := uo8) rfl (fun K hK => ?_) (AllReadyH.cons (o := uo9) rfl (fun K hK => ?_) AllReadyH.nil)
                · go_simp
                  clear hHeld
                  refine hK.out _ _ trivial (fun hHeld => ?_)
                  clear hK K
                  try simp only [Act.put, List.setIfInBounds_toArray, List.set_cons_zero, List.set_cons_succ]
                  refine wpAnyH_ready (rs := [9]) (by kernel_rfl) (by simp) ?_
                  refine AllReadyH.cons (o := uo9) rfl (fun K hK => ?_) AllReadyH.nil
                  go_simp
                  clear hHeld
                  refine hK.out _ _ trivial (fun hHeld => ?_)
                  clear hK K
                  try simp only [Act.put, List.setIfInBounds_toArray, List.set_cons_zero, List.set_cons_succ]
                  refine wpAnyH_done (by kernel_rfl) ?_ _
                  (try refine NoPanic.normal ?_)
                  go_wp2_with fail
                  exact ⟨⟨k'.length + 1, _, k' ++ [t], by go_num, by omega, (by show _ = _; simp), HFN, HN2⟩, by simp [intOf]; omega⟩
                · go_simp
                  clear hHeld
                  refine hK.out _ _ trivial (fun hHeld => ?_)
                  clear hK K
                  try simp only [Act.put, List.setIfInBounds_toArray, List.set_cons_zero, List.set_cons_succ]
                  refine wpAnyH_ready (rs := [8]) (by kernel_rfl) (by simp) ?_
                  refine AllReadyH.cons (o := uo8) rfl (fun K hK => ?_) AllReadyH.nil
                  go_simp
                  clear hHeld
                  refine hK.out _ _ trivial (fun hHeld => ?_)
                  clear hK K
                  try simp only [Act.put, List.setIfInBounds_toArray, List.set_cons_zero, List.set_cons_succ]
                  refine wpAnyH_done (by kernel_rfl) ?_ _
                  (try refine NoPanic.normal ?_)
                  go_wp2_with fail
                  exact ⟨⟨k'.length + 1, _, k' ++ [t], by go_num, by omega, (by show _ = _; simp), HFN, HN1⟩, by simp [intOf]; omega⟩
              · go_simp
                clear hHeld
                refine hK.out _ _ trivial (fun hHeld => ?_)
                clear hK K
                try simp only [Act.put, List.setIfInBounds_toArray, List.set_cons_zero, List.set_cons_succ]
                refine wpAnyH_ready (rs := [3]) (by kernel_rfl) (by simp) ?_
                refine (AllReadyH.cons (o := uo3) rfl (fun K hK => ?_) AllReadyH.nil)
                go_simp
                refine Calls.mono (HCL.out _ (by first | with_reducible exact hA | with_reducible exact hB | with_reducible exact hB2)) ?_
                rintro e w1 ⟨a2, l2, p2, rfl, HQ⟩
                dsimp only
                obtain ⟨U1, HO, HZ2, HUP⟩ := HAF.out w1 a2 l2 p2 _ _ HQ.out.1 HQ.out.2.1 HQ.out.2.2.1 (Nat.le_refl _)
                have HSRC := (show Hid _ from World.news_of_block (cs := #[.string ⟨#[]⟩, .string ⟨#[]⟩, .bool false, .slice none 0 0]) (by obtain ⟨c, b1, b2, b3⟩ := (HQ.out.2.2.2 HBX.out).ex; exact (b1.trans (by congr 2; exact Array.ext (by simpa using b2) (fun i h1 h2 => by have := b3 i (by simpa using h2); rw [Array.getElem?_eq_getElem h1] at this; injection this with this; rw [this]; simp at h2; rcases i with _ | _ | _ | _ | i <;> first | rfl | omega)))))
                clear hHeld
                refine hK.out _ _ trivial (fun hHeld => ?_)
                clear hK K
                try simp only [Act.put, List.setIfInBounds_toArray, List.set_cons_zero, List.set_cons_succ]
                refine wpAnyH_ready (rs := [6]) (by kernel_rfl) (by simp) ?_
                refine AllReadyH.cons (o := uo6) rfl (fun K hK => ?_) AllReadyH.nil
                (refine step_append_lies _ rfl (.tmp 19) (.tmp 24) 30 rfl (w.heap.size + 3) 39 i59 _ 4 64 Try.underlying30 hi59 hy0 hy1 hy2 rfl (by decide) _ k'.length _ (by simp [Act.eval, Act.put]) HO.out ⟨wr.heap.size, 0, none⟩ 1 1 [.string ⟨#[]⟩, .string ⟨#[]⟩, .bool false, .slice none 0 0] (by simp [Act.eval, Act.put]) rfl HSRC.out (by intro y hy; simp at hy; rcases hy with rfl | rfl | rfl | rfl <;> rfl) (by decide) (by unfold maxLen; omega) (by omega) HZ2.out _ rfl ?_; intro g7 cap7 w7 hown7 hgr7 hat7 hlt7; have hU := HUP.out g7 cap7 w7 hown7 hgr7 hat7; clear hown7 hgr7 hat7 hlt7)
                clear hHeld
                refine hK.out _ _ trivial (fun hHeld => ?_)
                clear hK K
                try simp only [Act.put, List.setIfInBounds_toArray, List.set_cons_zero, List.set_cons_succ]
                obtain ⟨t8, f8, e0, e1, e2, e3, g0, g1, g2, g3, hN1, hN2⟩ := hU.more
                obtain ⟨t7, f7, z0, z1, z2, z3, y0, y1, y2, y3, hne7, _⟩ := hU
                have HN1 := (show Hid _ from hN1); clear hN1
                have HN2 := (show Hid _ from hN2); clear hN2
                clear HO HZ2 HUP
                refine wpAnyH_take (i := 7) (oi := uo7) (v := ?v4) rfl (by kernel_rfl) (by kernel_rfl) (by kernel_rfl) (fun _ _ _ h => h) (Or.inl ⟨by rfl, ?h4⟩) hHeld ?r4
                case h4 => (intro w hSw; (try dsimp only at hSw); go_simp; try with_reducible rfl)
                try simp only [Act.put, List.setIfInBounds_toArray, List.set_cons_zero, List.set_cons_succ]
                refine wpAnyH_ready (rs := [8, 9]) (by kernel_rfl) (by simp) ?_
                refine AllReadyH.cons (o := uo8) rfl (fun K hK => ?_) (AllReadyH.cons (o := uo9) rfl (fun K hK => ?_) AllReadyH.nil)
                · go_simp
                  clear hHeld
                  refine hK.out _ _ trivial (fun hHeld => ?_)
                  clear hK K
                  try simp only [Act.put, List.setIfInBounds_toArray, List.set_cons_zero, List.set_cons_succ]
                  refine wpAnyH_ready (rs := [9]) (by kernel_rfl) (by simp) ?_
                  refine AllReadyH.cons (o := uo9) rfl (fun K hK => ?_) AllReadyH.nil
                  go_simp
                  clear hHeld
                  refine hK.out _ _ trivial (fun hHeld => ?_)
                  clear hK K
                  try simp only [Act.put, List.setIfInBounds_toArray, List.set_cons_zero, List.set_cons_succ]
                  refine wpAnyH_done (by kernel_rfl) ?_ _
                  (try refine NoPanic.normal ?_)
                  go_wp2_with fail
                  exact ⟨⟨k'.length + 1, _, k' ++ [t], by go_num, by omega, (by show _ = _; simp), HFN, HN2⟩, by simp [intOf]; omega⟩
                · go_simp
                  clear hHeld
                  refine hK.out _ _ trivial (fun hHeld => ?_)
                  clear hK K
                  try simp only [Act.put, List.setIfInBounds_toArray, List.set_cons_zero, List.set_cons_succ]
                  refine wpAnyH_ready (rs := [8]) (by kernel_rfl) (by simp) ?_
                  refine AllReadyH.cons (o := uo8) rfl (fun K hK => ?_) AllReadyH.nil
                  go_simp
                  clear hHeld
                  refine hK.out _ _ trivial (fun hHeld => ?_)
                  clear hK K
                  try simp only [Act.put, List.setIfInBounds_toArray, List.set_cons_zero, List.set_cons_succ]
                  refine wpAnyH_done (by kernel_rfl) ?_ _
                  (try refine NoPanic.normal ?_)
                  go_wp2_with fail
                  exact ⟨⟨k'.length + 1, _, k' ++ [t], by go_num, by omega, (by show _ = _; simp), HFN, HN1⟩, by simp [intOf]; omega⟩
            · go_simp
              clear hHeld
              refine hK.out _ _ trivial (fun hHeld => ?_)
              clear hK K
              try simp only [Act.put, List.setIfInBounds_toArray, List.set_cons_zero, List.set_cons_succ]
              refine wpAnyH_ready (rs := [1]) (by kernel_rfl) (by simp) ?_
              refine (AllReadyH.cons (o := uo1) rfl (fun K hK => ?_) AllReadyH.nil)
              go_simp
              clear hHeld
              refine hK.out _ _ trivial (fun hHeld => ?_)
              clear hK K
              try simp only [Act.put, List.setIfInBounds_toArray, List.set_cons_zero, List.set_cons_succ]
              refine wpAnyH_ready (rs := [3]) (by kernel_rfl) (by simp) ?_
              refine (AllReadyH.cons (o := uo3) rfl (fun K hK => ?_) AllReadyH.nil)
              go_simp
              refine Calls.mono (HCL.out _ (by first | with_reducible exact hA | with_reducible exact hB | with_reducible exact hB2)) ?_
              rintro e w1 ⟨a2, l2, p2, rfl, HQ⟩
              dsimp only
              obtain ⟨U1, HO, HZ2, HUP⟩ := HAF.out w1 a2 l2 p2 _ _ HQ.out.1 HQ.out.2.1 HQ.out.2.2.1 (Nat.le_refl _)
              have HSRC := (show Hid _ from World.news_of_block (cs := #[.string ⟨#[]⟩, .string ⟨#[]⟩, .bool false, .slice none 0 0]) (by obtain ⟨c, b1, b2, b3⟩ := (HQ.out.2.2.2 HBX.out).ex; exact (b1.trans (by congr 2; exact Array.ext (by simpa using b2) (fun i h1 h2 => by have := b3 i (by simpa using h2); rw [Array.getElem?_eq_getElem h1] at this; injection this with this; rw [this]; simp at h2; rcases i with _ | _ | _ | _ | i <;> first | rfl | omega)))))
              clear hHeld
              refine hK.out _ _ trivial (fun hHeld => ?_)
              clear hK K
              try simp only [Act.put, List.setIfInBounds_toArray, List.set_cons_zero, List.set_cons_succ]
              refine wpAnyH_ready (rs := [6]) (by kernel_rfl) (by simp) ?_
              refine AllReadyH.cons (o := uo6) rfl (fun K hK => ?_) AllReadyH.nil
              (refine step_append_lies _ rfl (.tmp 19) (.tmp 24) 30 rfl (w.heap.size + 3) 39 i59 _ 4 64 Try.underlying30 hi59 hy0 hy1 hy2 rfl (by decide) _ k'.length _ (by simp [Act.eval, Act.put]) HO.out ⟨wr.heap.size, 0, none⟩ 1 1 [.string ⟨#[]⟩, .string ⟨#[]⟩, .bool false, .slice none 0 0] (by simp [Act.eval, Act.put]) rfl HSRC.out (by intro y hy; simp at hy; rcases hy with rfl | rfl | rfl | rfl <;> rfl) (by decide) (by unfold maxLen; omega) (by omega) HZ2.out _ rfl ?_; intro g7 cap7 w7 hown7 hgr7 hat7 hlt7; have hU := HUP.out g7 cap7 w7 hown7 hgr7 hat7; clear hown7 hgr7 hat7 hlt7)
              clear hHeld
              refine hK.out _ _ trivial (fun hHeld => ?_)
              clear hK K
              try simp only [Act.put, List.setIfInBounds_toArray, List.set_cons_zero, List.set_cons_succ]
              obtain ⟨t8, f8, e0, e1, e2, e3, g0, g1, g2, g3, hN1, hN2⟩ := hU.more
              obtain ⟨t7, f7, z0, z1, z2, z3, y0, y1, y2, y3, hne7, _⟩ := hU
              have HN1 := (show Hid _ from hN1); clear hN1
              have HN2 := (show Hid _ from hN2); clear hN2
              clear HO HZ2 HUP
              refine wpAnyH_take (i := 7) (oi := uo7) (v := ?v5) rfl (by kernel_rfl) (by kernel_rfl) (by kernel_rfl) (fun _ _ _ h => h) (Or.inl ⟨by rfl, ?h5⟩) hHeld ?r5
              case h5 => (intro w hSw; (try dsimp only at hSw); go_simp; try with_reducible rfl)
              try simp only [Act.put, List.setIfInBounds_toArray, List.set_cons_zero, List.set_cons_succ]
              refine wpAnyH_ready (rs := [8, 9]) (by kernel_rfl) (by simp) ?_
              refine AllReadyH.cons (o := uo8) rfl (fun K hK => ?_) (AllReadyH.cons (o := uo9) rfl (fun K hK => ?_) AllReadyH.nil)
              · go_simp
                clear hHeld
                refine hK.out _ _ trivial (fun hHeld => ?_)
                clear hK K
                try simp only [Act.put, List.setIfInBounds_toArray, List.set_cons_zero, List.set_cons_succ]
                refine wpAnyH_ready (rs := [9]) (by kernel_rfl) (by simp) ?_
                refine AllReadyH.cons (o := uo9) rfl (fun K hK => ?_) AllReadyH.nil
                go_simp
                clear hHeld
                refine hK.out _ _ trivial (fun hHeld => ?_)
                clear hK K
                try simp only [Act.put, List.setIfInBounds_toArray, List.set_cons_zero, List.set_cons_succ]
                refine wpAnyH_done (by kernel_rfl) ?_ _
                (try refine NoPanic.normal ?_)
                go_wp2_with fail
                exact ⟨⟨k'.length + 1, _, k' ++ [t], by go_num, by omega, (by show _ = _; simp), HFN, HN2⟩, by simp [intOf]; omega⟩
              · go_simp
                clear hHeld
                refine hK.out _ _ trivial (fun hHeld => ?_)
                clear hK K
                try simp only [Act.put, List.setIfInBounds_toArray, List.set_cons_zero, List.set_cons_succ]
                refine wpAnyH_ready (rs := [8]) (by kernel_rfl) (by simp) ?_
                refine AllReadyH.cons (o := uo8) rfl (fun K hK => ?_) AllReadyH.nil
                go_simp
                clear hHeld
                refine hK.out _ _ trivial (fun hHeld => ?_)
                clear hK K
                try simp only [Act.put, List.setIfInBounds_toArray, List.set_cons_zero, List.set_cons_succ]
                refine wpAnyH_done (by kernel_rfl) ?_ _
                (try refine NoPanic.normal ?_)
                go_wp2_with fail
                exact ⟨⟨k'.length + 1, _, k' ++ [t], by go_num, by omega, (by show _ = _; simp), HFN, HN1⟩, by simp [intOf]; omega⟩
          · go_simp
            clear hHeld
            refine hK.out _ _ trivial (fun hHeld => ?_)
            clear hK K
            try simp only [Act.put, List.setIfInBounds_toArray, List.set_cons_zero, List.set_cons_succ]
            refine wpAnyH_ready (rs := [0, 3, 5]) (by kernel_rfl) (by simp) ?_
            refine (AllReadyH.cons (o := uo0) rfl (fun K hK => ?_) (AllReadyH.cons (o := uo3) rfl (fun K hK => ?_) (AllReadyH.cons (o := uo5) rfl (fun K hK => ?_) AllReadyH.nil)))
            · go_simp
              clear hHeld
              refine hK.out _ _ trivial (fun hHeld => ?_)
              clear hK K
              try simp only [Act.put, List.setIfInBounds_toArray, List.set_cons_zero, List.set_cons_succ]
              refine wpAnyH_take (i := 4) (oi := uo4) (v := ?v6) rfl (by kernel_rfl) (by kernel_rfl) (by kernel_rfl) (fun _ _ _ h => h) (Or.inl ⟨by rfl, ?h6⟩) hHeld ?r6
              case h6 => (intro w hSw; (try dsimp only at hSw); go_simp; try with_reducible rfl)
              try simp only [Act.put, List.setIfInBounds_toArray, List.set_cons_zero, List.set_cons_succ]
              refine wpAnyH_ready (rs := [3, 5]) (by kernel_rfl) (by simp) ?_
              refine (AllReadyH.cons (o := uo3) rfl (fun K hK => ?_) (AllReadyH.cons (o := uo5) rfl (fun K hK => ?_) AllReadyH.nil))
              · go_simp
                refine Calls.mono (HCL.out _ (by first | with_reducible exact hA | with_reducible exact hB | with_reducible exact hB2)) ?_
                rintro e w1 ⟨a2, l2, p2, rfl, HQ⟩
                dsimp only
                obtain ⟨U1, _, _, _⟩ := HAF.out w1 a2 l2 p2 _ _ HQ.out.1 HQ.out.2.1 HQ.out.2.2.1 (Nat.le_refl _)
                obtain ⟨U2, HO, HZ2, HUP⟩ := HAF.out (w1.alloc (.cells #[.string ⟨#[]⟩, .string ⟨#[]⟩, .bool false, .slice none 0 0] 39)) a2 l2 p2 _ _ (bel_trans HQ.out.1 (bel_alloc _ _)) (HQ.out.2.1.still (bel_alloc _ _)) HQ.out.2.2.1 (by simp)
                clear hHeld
                refine hK.out _ _ trivial (fun hHeld => ?_)
                clear hK K
                try simp only [Act.put, List.setIfInBounds_toArray, List.set_cons_zero, List.set_cons_succ]
                refine wpAnyH_ready (rs := [5]) (by kernel_rfl) (by simp) ?_
                refine (AllReadyH.cons (o := uo5) rfl (fun K hK => ?_) AllReadyH.nil)
                go_simp
                clear hHeld
                refine hK.out _ _ trivial (fun hHeld => ?_)
                clear hK K
                try simp only [Act.put, List.setIfInBounds_toArray, List.set_cons_zero, List.set_cons_succ]
                refine wpAnyH_ready (rs := [6]) (by kernel_rfl) (by simp) ?_
                refine AllReadyH.cons (o := uo6) rfl (fun K hK => ?_) AllReadyH.nil
                (refine step_append_lies _ rfl (.tmp 19) (.tmp 24) 30 rfl (w.heap.size + 3) 39 i59 _ 4 64 Try.underlying30 hi59 hy0 hy1 hy2 rfl (by decide) _ k'.length _ (by simp [Act.eval, Act.put]) HO.out ⟨w1.heap.size, 0, none⟩ 1 1 [.string ⟨#[]⟩, .string ⟨#[]⟩, .bool false, .slice none 0 0] (by simp [Act.eval, Act.put]) rfl (cell_four_box _ _ _ _ _ _) (by intro y hy; simp at hy; rcases hy with rfl | rfl | rfl | rfl <;> rfl) (by decide) (by unfold maxLen; omega) (by omega) HZ2.out _ rfl ?_; intro g7 cap7 w7 hown7 hgr7 hat7 hlt7; have hU := HUP.out g7 cap7 w7 hown7 hgr7 hat7; clear hown7 hgr7 hat7 hlt7)
                clear hHeld
                refine hK.out _ _ trivial (fun hHeld => ?_)
                clear hK K
                try simp only [Act.put, List.setIfInBounds_toArray, List.set_cons_zero, List.set_cons_succ]
                obtain ⟨t8, f8, e0, e1, e2, e3, g0, g1, g2, g3, hN1, hN2⟩ := hU.more
                obtain ⟨t7, f7, z0, z1, z2, z3, y0, y1, y2, y3, hne7, _⟩ := hU
                have HN1 := (show Hid _ from hN1); clear hN1
                have HN2 := (show Hid _ from hN2); clear hN2
                clear HO HZ2 HUP
                refine wpAnyH_take (i := 7) (oi := uo7) (v := ?v7) rfl (by kernel_rfl) (by kernel_rfl) (by kernel_rfl) (fun _ _ _ h => h) (Or.inl ⟨by rfl, ?h7⟩) hHeld ?r7
                case h7 => (intro w hSw; (try dsimp only at hSw); go_simp; try with_reducible rfl)
                try simp only [Act.put, List.setIfInBounds_toArray, List.set_cons_zero, List.set_cons_succ]
                refine wpAnyH_ready (rs := [8, 9]) (by kernel_rfl) (by simp) ?_
                refine AllReadyH.cons (o := uo8) rfl (fun K hK => ?_) (AllReadyH.cons (o := uo9) rfl (fun K hK => ?_) AllReadyH.nil)
                · go_simp
                  clear hHeld
                  refine hK.out _ _ trivial (fun hHeld => ?_)
                  clear hK K
                  try simp only [Act.put, List.setIfInBounds_toArray, List.set_cons_zero, List.set_cons_succ]
                  refine wpAnyH_ready (rs := [9]) (by kernel_rfl) (by simp) ?_
                  refine AllReadyH.cons (o := uo9) rfl (fun K hK => ?_) AllReadyH.nil
                  go_simp
                  clear hHeld
                  refine hK.out _ _ trivial (fun hHeld => ?_)
                  clear hK K
                  try simp only [Act.put, List.setIfInBounds_toArray, List.set_cons_zero, List.set_cons_succ]
                  refine wpAnyH_done (by kernel_rfl) ?_ _
                  (try refine NoPanic.normal ?_)
                  go_wp2_with fail
                  exact ⟨⟨k'.length + 1, _, k' ++ [t], by go_num, by omega, (by show _ = _; simp), HFN, HN2⟩, by simp [intOf]; omega⟩
                · go_simp
                  clear hHeld
                  refine hK.out _ _ trivial (fun hHeld => ?_)
                  clear hK K
                  try simp only [Act.put, List.setIfInBounds_toArray, List.set_cons_zero, List.set_cons_succ]
                  refine wpAnyH_ready (rs := [8]) (by kernel_rfl) (by simp) ?_
                  refine AllReadyH.cons (o := uo8) rfl (fun K hK => ?_) AllReadyH.nil
                  go_simp
                  clear hHeld
                  refine hK.out _ _ trivial (fun hHeld => ?_)
                  clear hK K
                  try simp only [Act.put, List.setIfInBounds_toArray, List.set_cons_zero, List.set_cons_succ]
                  refine wpAnyH_done (by kernel_rfl) ?_ _
                  (try refine NoPanic.normal ?_)
                  go_wp2_with fail
                  exact ⟨⟨k'.length + 1, _, k' ++ [t], by go_num, by omega, (by show _ = _; simp), HFN, HN1⟩, by simp [intOf]; omega⟩
              · go_simp
                clear hHeld
                refine hK.out _ _ trivial (fun hHeld => ?_)
                clear hK K
                try simp only [Act.put, List.setIfInBounds_toArray, List.set_cons_zero, List.set_cons_succ]
                refine wpAnyH_ready (rs := [3]) (by kernel_rfl) (by simp) ?_
                refine (AllReadyH.cons (o := uo3) rfl (fun K hK => ?_) AllReadyH.nil)
                go_simp
                refine Calls.mono (HCL.out _ (by first | with_reducible exact hA | with_reducible exact hB | with_reducible exact hB2)) ?_
                rintro e w1 ⟨a2, l2, p2, rfl, HQ⟩
                dsimp only
                obtain ⟨U1, HO, HZ2, HUP⟩ := HAF.out w1 a2 l2 p2 _ _ HQ.out.1 HQ.out.2.1 HQ.out.2.2.1 (Nat.le_refl _)
                have HSRC := (show Hid _ from World.news_of_block (cs := #[.string ⟨#[]⟩, .string ⟨#[]⟩, .bool false, .slice none 0 0]) (by obtain ⟨c, b1, b2, b3⟩ := (HQ.out.2.2.2 HBX.out).ex; exact (b1.trans (by congr 2; exact Array.ext (by simpa using b2) (fun i h1 h2 => by have := b3 i (by simpa using h2); rw [Array.getElem?_eq_getElem h1] at this; injection this with this; rw [this]; simp at h2; rcases i with _ | _ | _ | _ | i <;> first | rfl | omega)))))
                clear hHeld
                refine hK.out _ _ trivial (fun hHeld => ?_)
                clear hK K
                try simp only [Act.put, List.setIfInBounds_toArray, List.set_cons_zero, List.set_cons_succ]
                refine wpAnyH_ready (rs := [6]) (by kernel_rfl) (by simp) ?_
                refine AllReadyH.cons (o := uo6) rfl (fun K hK => ?_) AllReadyH.nil
                (refine step_append_lies _ rfl (.tmp 19) (.tmp 24) 30 rfl (w.heap.size + 3) 39 i59 _ 4 64 Try.underlying30 hi59 hy0 hy1 hy2 rfl (by decide) _ k'.length _ (by simp [Act.eval, Act.put]) HO.out ⟨wr.heap.size, 0, none⟩ 1 1 [.string ⟨#[]⟩, .string ⟨#[]⟩, .bool false, .slice none 0 0] (by simp [Act.eval, Act.put]) rfl HSRC.out (by intro y hy; simp at hy; rcases hy with rfl | rfl | rfl | rfl <;> rfl) (by decide) (by unfold maxLen; omega) (by omega) HZ2.out _ rfl ?_; intro g7 cap7 w7 hown7 hgr7 hat7 hlt7; have hU := HUP.out g7 cap7 w7 hown7 hgr7 hat7; clear hown7 hgr7 hat7 hlt7)
                clear hHeld
                refine hK.out _ _ trivial (fun hHeld => ?_)
                clear hK K
                try simp only [Act.put, List.setIfInBounds_toArray, List.set_cons_zero, List.set_cons_succ]
                obtain ⟨t8, f8, e0, e1, e2, e3, g0, g1, g2, g3, hN1, hN2⟩ := hU.more
                obtain ⟨t7, f7, z0, z1, z2, z3, y0, y1, y2, y3, hne7, _⟩ := hU
                have HN1 := (show Hid _ from hN1); clear hN1
                have HN2 := (show Hid _ from hN2); clear hN2
                clear HO HZ2 HUP
                refine wpAnyH_take (i := 7) (oi := uo7) (v := ?v8) rfl (by kernel_rfl) (by kernel_rfl) (by kernel_rfl) (fun _ _ _ h => h) (Or.inl ⟨by rfl, ?h8⟩) hHeld ?r8
                case h8 => (intro w hSw; (try dsimp only at hSw); go_simp; try with_reducible rfl)
                try simp only [Act.put, List.setIfInBounds_toArray, List.set_cons_zero, List.set_cons_succ]
                refine wpAnyH_ready (rs := [8, 9]) (by kernel_rfl) (by simp) ?_
                refine AllReadyH.cons (o := uo8) rfl (fun K hK => ?_) (AllReadyH.cons (o := uo9) rfl (fun K hK => ?_) AllReadyH.nil)
                · go_simp
                  clear hHeld
                  refine hK.out _ _ trivial (fun hHeld => ?_)
                  clear hK K
                  try simp only [Act.put, List.setIfInBounds_toArray, List.set_cons_zero, List.set_cons_succ]
                  refine wpAnyH_ready (rs := [9]) (by kernel_rfl) (by simp) ?_
                  refine AllReadyH.cons (o := uo9) rfl (fun K hK => ?_) AllReadyH.nil
                  go_simp
                  clear hHeld
                  refine hK.out _ _ trivial (fun hHeld => ?_)
                  clear hK K
                  try simp only [Act.put, List.setIfInBounds_toArray, List.set_cons_zero, List.set_cons_succ]
                  refine wpAnyH_done (by kernel_rfl) ?_ _
                  (try refine NoPanic.normal ?_)
                  go_wp2_with fail
                  exact ⟨⟨k'.length + 1, _, k' ++ [t], by go_num, by omega, (by show _ = _; simp), HFN, HN2⟩, by simp [intOf]; omega⟩
                · go_simp
                  clear hHeld
                  refine hK.out _ _ trivial (fun hHeld => ?_)
                  clear hK K
                  try simp only [Act.put, List.setIfInBounds_toArray, List.set_cons_zero, List.set_cons_succ]
                  refine wpAnyH_ready (rs := [8]) (by kernel_rfl) (by simp) ?_
                  refine AllReadyH.cons (o := uo8) rfl (fun K hK => ?_) AllReadyH.nil
                  go_simp
                  clear hHeld
                  refine hK.out _ _ trivial (fun hHeld => ?_)
                  clear hK K
                  try simp only [Act.put, List.setIfInBounds_toArray, List.set_cons_zero, List.set_cons_succ]
                  refine wpAnyH_done (by kernel_rfl) ?_ _
                  (try refine NoPanic.normal ?_)
                  go_wp2_with fail
                  exact ⟨⟨k'.length + 1, _, k' ++ [t], by go_num, by omega, (by show _ = _; simp), HFN, HN1⟩, by simp [intOf]; omega⟩
            · go_simp
              refine Calls.mono (HCL.out _ (by first | with_reducible exact hA | with_reducible exact hB | with_reducible exact hB2)) ?_
              rintro e w1 ⟨a2, l2, p2, rfl, HQ⟩
              dsimp only
              obtain ⟨U1, _, _, _⟩ := HAF.out w1 a2 l2 p2 _ _ HQ.out.1 HQ.out.2.1 HQ.out.2.2.1 (Nat.le_refl _)
              obtain ⟨U2, HO, HZ2, HUP⟩ := HAF.out (w1.alloc (.cells #[.string ⟨#[]⟩, .string ⟨#[]⟩, .bool false, .slice none 0 0] 39)) a2 l2 p2 _ _ (bel_trans HQ.out.1 (bel_alloc _ _)) (HQ.out.2.1.still (bel_alloc _ _)) HQ.out.2.2.1 (by simp)
              clear hHeld
              refine hK.out _ _ trivial (fun hHeld => ?_)
              clear hK K
              try simp only [Act.put, List.setIfInBounds_toArray, List.set_cons_zero, List.set_cons_succ]
              refine wpAnyH_ready (rs := [0, 5]) (by kernel_rfl) (by simp) ?_
              refine (AllReadyH.cons (o := uo0) rfl (fun K hK => ?_) (AllReadyH.cons (o := uo5) rfl (fun K hK => ?_) AllReadyH.nil))
              · go_simp
                clear hHeld
                refine hK.out _ _ trivial (fun hHeld => ?_)
                clear hK K
                try simp only [Act.put, List.setIfInBounds_toArray, List.set_cons_zero, List.set_cons_succ]
                refine wpAnyH_take (i := 4) (oi := uo4) (v := ?v9) rfl (by kernel_rfl) (by kernel_rfl) (by kernel_rfl) (fun _ _ _ h => h) (Or.inl ⟨by rfl, ?h9⟩) hHeld ?r9
                case h9 => (intro w hSw; (try dsimp only at hSw); go_simp; try with_reducible rfl)
                try simp only [Act.put, List.setIfInBounds_toArray, List.set_cons_zero, List.set_cons_succ]
                refine wpAnyH_ready (rs := [5]) (by kernel_rfl) (by simp) ?_
                refine (AllReadyH.cons (o := uo5) rfl (fun K hK => ?_) AllReadyH.nil)
                go_simp
                clear hHeld
                refine hK.out _ _ trivial (fun hHeld => ?_)
                clear hK K
                try simp only [Act.put, List.setIfInBounds_toArray, List.set_cons_zero, List.set_cons_succ]
                refine wpAnyH_ready (rs := [6]) (by kernel_rfl) (by simp) ?_
                refine AllReadyH.cons (o := uo6) rfl (fun K hK => ?_) AllReadyH.nil
                (refine step_append_lies _ rfl (.tmp 19) (.tmp 24) 30 rfl (w.heap.size + 3) 39 i59 _ 4 64 Try.underlying30 hi59 hy0 hy1 hy2 rfl (by decide) _ k'.length _ (by simp [Act.eval, Act.put]) HO.out ⟨w1.heap.size, 0, none⟩ 1 1 [.string ⟨#[]⟩, .string ⟨#[]⟩, .bool false, .slice none 0 0] (by simp [Act.eval, Act.put]) rfl (cell_four_box _ _ _ _ _ _) (by intro y hy; simp at hy; rcases hy with rfl | rfl | rfl | rfl <;> rfl) (by decide) (by unfold maxLen; omega) (by omega) HZ2.out _ rfl ?_; intro g7 cap7 w7 hown7 hgr7 hat7 hlt7; have hU := HUP.out g7 cap7 w7 hown7 hgr7 hat7; clear hown7 hgr7 hat7 hlt7)
                clear hHeld
                refine hK.out _ _ trivial (fun hHeld => ?_)
                clear hK K
                try simp only [Act.put, List.setIfInBounds_toArray, List.set_cons_zero, List.set_cons_succ]
                obtain ⟨t8, f8, e0, e1, e2, e3, g0, g1, g2, g3, hN1, hN2⟩ := hU.more
                obtain ⟨t7, f7, z0, z1, z2, z3, y0, y1, y2, y3, hne7, _⟩ := hU
                have HN1 := (show Hid _ from hN1); clear hN1
                have HN2 := (show Hid _ from hN2); clear hN2
                clear HO HZ2 HUP
                refine wpAnyH_take (i := 7) (oi := uo7) (v := ?v10) rfl (by kernel_rfl) (by kernel_rfl) (by kernel_rfl) (fun _ _ _ h => h) (Or.inl ⟨by rfl, ?h10⟩) hHeld ?r10
                case h10 => (intro w hSw; (try dsimp only at hSw); go_simp; try with_reducible rfl)
                try simp only [Act.put, List.setIfInBounds_toArray, List.set_cons_zero, List.set_cons_succ]
                refine wpAnyH_ready (rs := [8, 9]) (by kernel_rfl) (by simp) ?_
                refine AllReadyH.cons (o := uo8) rfl (fun K hK => ?_) (AllReadyH.cons (o := uo9) rfl (fun K hK => ?_) AllReadyH.nil)
                · go_simp
                  clear hHeld
                  refine hK.out _ _ trivial (fun hHeld => ?_)
                  clear hK K
                  try simp only [Act.put, List.setIfInBounds_toArray, List.set_cons_zero, List.set_cons_succ]
                  refine wpAnyH_ready (rs := [9]) (by kernel_rfl) (by simp) ?_
                  refine AllReadyH.cons (o := uo9) rfl (fun K hK => ?_) AllReadyH.nil
                  go_simp
                  clear hHeld
                  refine hK.out _ _ trivial (fun hHeld => ?_)
                  clear hK K
                  try simp only [Act.put, List.setIfInBounds_toArray, List.set_cons_zero, List.set_cons_succ]
                  refine wpAnyH_done (by kernel_rfl) ?_ _
                  (try refine NoPanic.normal ?_)
                  go_wp2_with fail
                  exact ⟨⟨k'.length + 1, _, k' ++ [t], by go_num, by omega, (by show _ = _; simp), HFN, HN2⟩, by simp [intOf]; omega⟩
                · go_simp
                  clear hHeld
                  refine hK.out _ _ trivial (fun hHeld => ?_)
                  clear hK K
                  try simp only [Act.put, List.setIfInBounds_toArray, List.set_cons_zero, List.set_cons_succ]
                  refine wpAnyH_ready (rs := [8]) (by kernel_rfl) (by simp) ?_
                  refine AllReadyH.cons (o := uo8) rfl (fun K hK => ?_) AllReadyH.nil
                  go_simp
                  clear hHeld
                  refine hK.out _ _ trivial (fun hHeld => ?_)
                  clear hK K
                  try simp only [Act.put, List.setIfInBounds_toArray, List.set_cons_zero, List.set_cons_succ]
                  refine wpAnyH_done (by kernel_rfl) ?_ _
                  (try refine NoPanic.normal ?_)
                  go_wp2_with fail
                  exact ⟨⟨k'.length + 1, _, k' ++ [t], by go_num, by omega, (by show _ = _; simp), HFN, HN1⟩, by simp [intOf]; omega⟩
              · go_simp
                clear hHeld
                refine hK.out _ _ trivial (fun hHeld => ?_)
                clear hK K
                try simp only [Act.put, List.setIfInBounds_toArray, List.set_cons_zero, List.set_cons_succ]
                refine wpAnyH_ready (rs := [0]) (by kernel_rfl) (by simp) ?_
                refine (AllReadyH.cons (o := uo0) rfl (fun K hK => ?_) AllReadyH.nil)
                go_simp
                clear hHeld
                refine hK.out _ _ trivial (fun hHeld => ?_)
                clear hK K
                try simp only [Act.put, List.setIfInBounds_toArray, List.set_cons_zero, List.set_cons_succ]
                refine wpAnyH_take (i := 4) (oi := uo4) (v := ?v11) rfl (by kernel_rfl) (by kernel_rfl) (by kernel_rfl) (fun _ _ _ h => h) (Or.inl ⟨by rfl, ?h11⟩) hHeld ?r11
                case h11 => (intro w hSw; (try dsimp only at hSw); go_simp; try with_reducible rfl)
                try simp only [Act.put, List.setIfInBounds_toArray, List.set_cons_zero, List.set_cons_succ]
                refine wpAnyH_ready (rs := [6]) (by kernel_rfl) (by simp) ?_
                refine AllReadyH.cons (o := uo6) rfl (fun K hK => ?_) AllReadyH.nil
                (refine step_append_lies _ rfl (.tmp 19) (.tmp 24) 30 rfl (w.heap.size + 3) 39 i59 _ 4 64 Try.underlying30 hi59 hy0 hy1 hy2 rfl (by decide) _ k'.length _ (by simp [Act.eval, Act.put]) HO.out ⟨w1.heap.size, 0, none⟩ 1 1 [.string ⟨#[]⟩, .string ⟨#[]⟩, .bool false, .slice none 0 0] (by simp [Act.eval, Act.put]) rfl (cell_four_box _ _ _ _ _ _) (by intro y hy; simp at hy; rcases hy with rfl | rfl | rfl | rfl <;> rfl) (by decide) (by unfold maxLen; omega) (by omega) HZ2.out _ rfl ?_; intro g7 cap7 w7 hown7 hgr7 hat7 hlt7; have hU := HUP.out g7 cap7 w7 hown7 hgr7 hat7; clear hown7 hgr7 hat7 hlt7)
                clear hHeld
                refine hK.out _ _ trivial (fun hHeld => ?_)
                clear hK K
                try simp only [Act.put, List.setIfInBounds_toArray, List.set_cons_zero, List.set_cons_succ]
                obtain ⟨t8, f8, e0, e1, e2, e3, g0, g1, g2, g3, hN1, hN2⟩ := hU.more
                obtain ⟨t7, f7, z0, z1, z2, z3, y0, y1, y2, y3, hne7, _⟩ := hU
                have HN1 := (show Hid _ from hN1); clear hN1
                have HN2 := (show Hid _ from hN2); clear hN2
                clear HO HZ2 HUP
                refine wpAnyH_take (i := 7) (oi := uo7) (v := ?v12) rfl (by kernel_rfl) (by kernel_rfl) (by kernel_rfl) (fun _ _ _ h => h) (Or.inl ⟨by rfl, ?h12⟩) hHeld ?r12
                case h12 => (intro w hSw; (try dsimp only at hSw); go_simp; try with_reducible rfl)
                try simp only [Act.put, List.setIfInBounds_toArray, List.set_cons_zero, List.set_cons_succ]
                refine wpAnyH_ready (rs := [8, 9]) (by kernel_rfl) (by simp) ?_
                refine AllReadyH.cons (o := uo8) rfl (fun K hK => ?_) (AllReadyH.cons (o := uo9) rfl (fun K hK => ?_) AllReadyH.nil)
                · go_simp
                  clear hHeld
                  refine hK.out _ _ trivial (fun hHeld => ?_)
                  clear hK K
                  try simp only [Act.put, List.setIfInBounds_toArray, List.set_cons_zero, List.set_cons_succ]
                  refine wpAnyH_ready (rs := [9]) (by kernel_rfl) (by simp) ?_
                  refine AllReadyH.cons (o := uo9) rfl (fun K hK => ?_) AllReadyH.nil
                  go_simp
                  clear hHeld
                  refine hK.out _ _ trivial (fun hHeld => ?_)
                  clear hK K
                  try simp only [Act.put, List.setIfInBounds_toArray, List.set_cons_zero, List.set_cons_succ]
                  refine wpAnyH_done (by kernel_rfl) ?_ _
                  (try refine NoPanic.normal ?_)
                  go_wp2_with fail
                  exact ⟨⟨k'.length + 1, _, k' ++ [t], by go_num, by omega, (by show _ = _; simp), HFN, HN2⟩, by simp [intOf]; omega⟩
                · go_simp
                  clear hHeld
                  refine hK.out _ _ trivial (fun hHeld => ?_)
                  clear hK K
                  try simp only [Act.put, List.setIfInBounds_toArray, List.set_cons_zero, List.set_cons_succ]
                  refine wpAnyH_ready (rs := [8]) (by kernel_rfl) (by simp) ?_
                  refine AllReadyH.cons (o := uo8) rfl (fun K hK => ?_) AllReadyH.nil
                  go_simp
                  clear hHeld
                  refine hK.out _ _ trivial (fun hHeld => ?_)
                  clear hK K
                  try simp only [Act.put, List.setIfInBounds_toArray, List.set_cons_zero, List.set_cons_succ]
                  refine wpAnyH_done (by kernel_rfl) ?_ _
                  (try refine NoPanic.normal ?_)
                  go_wp2_with fail
                  exact ⟨⟨k'.length + 1, _, k' ++ [t], by go_num, by omega, (by show _ = _; simp), HFN, HN1⟩, by simp [intOf]; omega⟩
            · go_simp
              clear hHeld
              refine hK.out _ _ trivial (fun hHeld => ?_)
              clear hK K
              try simp only [Act.put, List.setIfInBounds_toArray, List.set_cons_zero, List.set_cons_succ]
              refine wpAnyH_ready (rs := [0, 3]) (by kernel_rfl) (by simp) ?_
              refine (AllReadyH.cons (o := uo0) rfl (fun K hK => ?_) (AllReadyH.cons (o := uo3) rfl (fun K hK => ?_) AllReadyH.nil))
              · go_simp
                clear hHeld
                refine hK.out _ _ trivial (fun hHeld => ?_)
                clear hK K
                try simp only [Act.put, List.setIfInBounds_toArray, List.set_cons_zero, List.set_cons_succ]
                refine wpAnyH_take (i := 4) (oi := uo4) (v := ?v13) rfl (by kernel_rfl) (by kernel_rfl) (by kernel_rfl) (fun _ _ _ h => h) (Or.inl ⟨by rfl, ?h13⟩) hHeld ?r13
                case h13 => (intro w hSw; (try dsimp only at hSw); go_simp; try with_reducible rfl)
                try simp only [Act.put, List.setIfInBounds_toArray, List.set_cons_zero, List.set_cons_succ]
                refine wpAnyH_ready (rs := [3]) (by kernel_rfl) (by simp) ?_
                refine (AllReadyH.cons (o := uo3) rfl (fun K hK => ?_) AllReadyH.nil)
                go_simp
                refine Calls.mono (HCL.out _ (by first | with_reducible exact hA | with_reducible exact hB | with_reducible exact hB2)) ?_
                rintro e w1 ⟨a2, l2, p2, rfl, HQ⟩
                dsimp only
                obtain ⟨U1, HO, HZ2, HUP⟩ := HAF.out w1 a2 l2 p2 _ _ HQ.out.1 HQ.out.2.1 HQ.out.2.2.1 (Nat.le_refl _)
                have HSRC := (show Hid _ from World.news_of_block (cs := #[.string ⟨#[]⟩, .string ⟨#[]⟩, .bool false, .slice none 0 0]) (by obtain ⟨c, b1, b2, b3⟩ := (HQ.out.2.2.2 HBX.out).ex; exact (b1.trans (by congr 2; exact Array.ext (by simpa using b2) (fun i h1 h2 => by have := b3 i (by simpa using h2); rw [Array.getElem?_eq_getElem h1] at this; injection this with this; rw [this]; simp at h2; rcases i with _ | _ | _ | _ | i <;> first | rfl | omega)))))
                clear hHeld
                refine hK.out _ _ trivial (fun hHeld => ?_)
                clear hK K
                try simp only [Act.put, List.setIfInBounds_toArray, List.set_cons_zero, List.set_cons_succ]
                refine wpAnyH_ready (rs := [6]) (by kernel_rfl) (by simp) ?_
                refine AllReadyH.cons (o := uo6) rfl (fun K hK => ?_) AllReadyH.nil
                (refine step_append_lies _ rfl (.tmp 19) (.tmp 24) 30 rfl (w.heap.size + 3) 39 i59 _ 4 64 Try.underlying30 hi59 hy0 hy1 hy2 rfl (by decide) _ k'.length _ (by simp [Act.eval, Act.put]) HO.out ⟨wr.heap.size, 0, none⟩ 1 1 [.string ⟨#[]⟩, .string ⟨#[]⟩, .bool false, .slice none 0 0] (by simp [Act.eval, Act.put]) rfl HSRC.out (by intro y hy; simp at hy; rcases hy with rfl | rfl | rfl | rfl <;> rfl) (by decide) (by unfold maxLen; omega) (by omega) HZ2.out _ rfl ?_; intro g7 cap7 w7 hown7 hgr7 hat7 hlt7; have hU := HUP.out g7 cap7 w7 hown7 hgr7 hat7; clear hown7 hgr7 hat7 hlt7)
                clear hHeld
                refine hK.out _ _ trivial (fun hHeld => ?_)
                clear hK K
                try simp only [Act.put, List.setIfInBounds_toArray, List.set_cons_zero, List.set_cons_succ]
                obtain ⟨t8, f8, e0, e1, e2, e3, g0, g1, g2, g3, hN1, hN2⟩ := hU.more
                obtain ⟨t7, f7, z0, z1, z2, z3, y0, y1, y2, y3, hne7, _⟩ := hU
                have HN1 := (show Hid _ from hN1); clear hN1
                have HN2 := (show Hid _ from hN2); clear hN2
                clear HO HZ2 HUP
                refine wpAnyH_take (i := 7) (oi := uo7) (v := ?v14) rfl (by kernel_rfl) (by kernel_rfl) (by kernel_rfl) (fun _ _ _ h => h) (Or.inl ⟨by rfl, ?h14⟩) hHeld ?r14
                case h14 => (intro w hSw; (try dsimp only at hSw); go_simp; try with_reducible rfl)
                try simp only [Act.put, List.setIfInBounds_toArray, List.set_cons_zero, List.set_cons_succ]
                refine wpAnyH_ready (rs := [8, 9]) (by kernel_rfl) (by simp) ?_
                refine AllReadyH.cons (o := uo8) rfl (fun K hK => ?_) (AllReadyH.cons (o := uo9) rfl (fun K hK => ?_) AllReadyH.nil)
                · go_simp
                  clear hHeld
                  refine hK.out _ _ trivial (fun hHeld => ?_)
                  clear hK K
                  try simp only [Act.put, List.setIfInBounds_toArray, List.set_cons_zero, List.set_cons_succ]
                  refine wpAnyH_ready (rs := [9]) (by kernel_rfl) (by simp) ?_
                  refine AllReadyH.cons (o := uo9) rfl (fun K hK => ?_) AllReadyH.nil
                  go_simp
                  clear hHeld
                  refine hK.out _ _ trivial (fun hHeld => ?_)
                  clear hK K
                  try simp only [Act.put, List.setIfInBounds_toArray, List.set_cons_zero, List.set_cons_succ]
                  refine wpAnyH_done (by kernel_rfl) ?_ _
                  (try refine NoPanic.normal ?_)
                  go_wp2_with fail
                  exact ⟨⟨k'.length + 1, _, k' ++ [t], by go_num, by omega, (by show _ = _; simp), HFN, HN2⟩, by simp [intOf]; omega⟩
                · go_simp
                  clear hHeld
                  refine hK.out _ _ trivial (fun hHeld => ?_)
                  clear hK K
                  try simp only [Act.put, List.setIfInBounds_toArray, List.set_cons_zero, List.set_cons_succ]
                  refine wpAnyH_ready (rs := [8]) (by kernel_rfl) (by simp) ?_
                  refine AllReadyH.cons (o := uo8) rfl (fun K hK => ?_) AllReadyH.nil
                  go_simp
                  clear hHeld
                  refine hK.out _ _ trivial (fun hHeld => ?_)
                  clear hK K
                  try simp only [Act.put, List.setIfInBounds_toArray, List.set_cons_zero, List.set_cons_succ]
                  refine wpAnyH_done (by kernel_rfl) ?_ _
                  (try refine NoPanic.normal ?_)
                  go_wp2_with fail
                  exact ⟨⟨k'.length + 1, _, k' ++ [t], by go_num, by omega, (by show _ = _; simp), HFN, HN1⟩, by simp [intOf]; omega⟩
              · go_simp
                refine Calls.mono (HCL.out _ (by first | with_reducible exact hA | with_reducible exact hB | with_reducible exact hB2)) ?_
                rintro e w1 ⟨a2, l2, p2, rfl, HQ⟩
                dsimp only
                obtain ⟨U1, HO, HZ2, HUP⟩ := HAF.out w1 a2 l2 p2 _ _ HQ.out.1 HQ.out.2.1 HQ.out.2.2.1 (Nat.le_refl _)
                have HSRC := (show Hid _ from World.news_of_block (cs := #[.string ⟨#[]⟩, .string ⟨#[]⟩, .bool false, .slice none 0 0]) (by obtain ⟨c, b1, b2, b3⟩ := (HQ.out.2.2.2 HBX.out).ex; exact (b1.trans (by congr 2; exact Array.ext (by simpa using b2) (fun i h1 h2 => by have := b3 i (by simpa using h2); rw [Array.getElem?_eq_getElem h1] at this; injection this with this; rw [this]; simp at h2; rcases i with _ | _ | _ | _ | i <;> first | rfl | omega)))))
                clear hHeld
                refine hK.out _ _ trivial (fun hHeld => ?_)
                clear hK K
                try simp only [Act.put, List.setIfInBounds_toArray, List.set_cons_zero, List.set_cons_succ]
                refine wpAnyH_ready (rs := [0]) (by kernel_rfl) (by simp) ?_
                refine (AllReadyH.cons (o := uo0) rfl (fun K hK => ?_) AllReadyH.nil)
                go_simp
                clear hHeld
                refine hK.out _ _ trivial (fun hHeld => ?_)
                clear hK K
                try simp only [Act.put, List.setIfInBounds_toArray, List.set_cons_zero, List.set_cons_succ]
                refine wpAnyH_take (i := 4) (oi := uo4) (v := ?v15) rfl (by kernel_rfl) (by kernel_rfl) (by kernel_rfl) (fun _ _ _ h => h) (Or.inl ⟨by rfl, ?h15⟩) hHeld ?r15
                case h15 => (intro w hSw; (try dsimp only at hSw); go_simp; try with_reducible rfl)
                try simp only [Act.put, List.setIfInBounds_toArray, List.set_cons_zero, List.set_cons_succ]
                refine wpAnyH_ready (rs := [6]) (by kernel_rfl) (by simp) ?_
                refine AllReadyH.cons (o := uo6) rfl (fun K hK => ?_) AllReadyH.nil
                (refine step_append_lies _ rfl (.tmp 19) (.tmp 24) 30 rfl (w.heap.size + 3) 39 i59 _ 4 64 Try.underlying30 hi59 hy0 hy1 hy2 rfl (by decide) _ k'.length _ (by simp [Act.eval, Act.put]) HO.out ⟨wr.heap.size, 0, none⟩ 1 1 [.string ⟨#[]⟩, .string ⟨#[]⟩, .bool false, .slice none 0 0] (by simp [Act.eval, Act.put]) rfl HSRC.out (by intro y hy; simp at hy; rcases hy with rfl | rfl | rfl | rfl <;> rfl) (by decide) (by unfold maxLen; omega) (by omega) HZ2.out _ rfl ?_; intro g7 cap7 w7 hown7 hgr7 hat7 hlt7; have hU := HUP.out g7 cap7 w7 hown7 hgr7 hat7; clear hown7 hgr7 hat7 hlt7)
                clear hHeld
                refine hK.out _ _ trivial (fun hHeld => ?_)
                clear hK K
                try simp only [Act.put, List.setIfInBounds_toArray, List.set_cons_zero, List.set_cons_succ]
                obtain ⟨t8, f8, e0, e1, e2, e3, g0, g1, g2, g3, hN1, hN2⟩ := hU.more
                obtain ⟨t7, f7, z0, z1, z2, z3, y0, y1, y2, y3, hne7, _⟩ := hU
                have HN1 := (show Hid _ from hN1); clear hN1
                have HN2 := (show Hid _ from hN2); clear hN2
                clear HO HZ2 HUP
                refine wpAnyH_take (i := 7) (oi := uo7) (v := ?v16) rfl (by kernel_rfl) (by kernel_rfl) (by kernel_rfl) (fun _ _ _ h => h) (Or.inl ⟨by rfl, ?h16⟩) hHeld ?r16
                case h16 => (intro w hSw; (try dsimp only at hSw); go_simp; try with_reducible rfl)
                try simp only [Act.put, List.setIfInBounds_toArray, List.set_cons_zero, List.set_cons_succ]
                refine wpAnyH_ready (rs := [8, 9]) (by kernel_rfl) (by simp) ?_
                refine AllReadyH.cons (o := uo8) rfl (fun K hK => ?_) (AllReadyH.cons (o := uo9) rfl (fun K hK => ?_) AllReadyH.nil)
                · go_simp
                  clear hHeld
                  refine hK.out _ _ trivial (fun hHeld => ?_)
                  clear hK K
                  try simp only [Act.put, List.setIfInBounds_toArray, List.set_cons_zero, List.set_cons_succ]
                  refine wpAnyH_ready (rs := [9]) (by kernel_rfl) (by simp) ?_
                  refine AllReadyH.cons (o := uo9) rfl (fun K hK => ?_) AllReadyH.nil
                  go_simp
                  clear hHeld
                  refine hK.out _ _ trivial (fun hHeld => ?_)
                  clear hK K
                  try simp only [Act.put, List.setIfInBounds_toArray, List.set_cons_zero, List.set_cons_succ]
                  refine wpAnyH_done (by kernel_rfl) ?_ _
                  (try refine NoPanic.normal ?_)
                  go_wp2_with fail
                  exact ⟨⟨k'.length + 1, _, k' ++ [t], by go_num, by omega, (by show _ = _; simp), HFN, HN2⟩, by simp [intOf]; omega⟩
                · go_simp
                  clear hHeld
                  refine hK.out _ _ trivial (fun hHeld => ?_)
                  clear hK K
                  try simp only [Act.put, List.setIfInBounds_toArray, List.set_cons_zero, List.set_cons_succ]
                  refine wpAnyH_ready (rs := [8]) (by kernel_rfl) (by simp) ?_
                  refine AllReadyH.cons (o := uo8) rfl (fun K hK => ?_) AllReadyH.nil
                  go_simp
                  clear hHeld
                  refine hK.out _ _ trivial (fun hHeld => ?_)
                  clear hK K
                  try simp only [Act.put, List.setIfInBounds_toArray, List.set_cons_zero, List.set_cons_succ]
                  refine wpAnyH_done (by kernel_rfl) ?_ _
                  (try refine NoPanic.normal ?_)
                  go_wp2_with fail
                  exact ⟨⟨k'.length + 1, _, k' ++ [t], by go_num, by omega, (by show _ = _; simp), HFN, HN1⟩, by simp [intOf]; omega⟩
          · go_simp
            clear hHeld
            refine hK.out _ _ trivial (fun hHeld => ?_)
            clear hK K
            try simp only [Act.put, List.setIfInBounds_toArray, List.set_cons_zero, List.set_cons_succ]
            refine wpAnyH_ready (rs := [0, 1]) (by kernel_rfl) (by simp) ?_
            refine (AllReadyH.cons (o := uo0) rfl (fun K hK => ?_) (AllReadyH.cons (o := uo1) rfl (fun K hK => ?_) AllReadyH.nil))
            · go_simp
              clear hHeld
              refine hK.out _ _ trivial (fun hHeld => ?_)
              clear hK K
              try simp only [Act.put, List.setIfInBounds_toArray, List.set_cons_zero, List.set_cons_succ]
              refine wpAnyH_take (i := 4) (oi := uo4) (v := ?v17) rfl (by kernel_rfl) (by kernel_rfl) (by kernel_rfl) (fun _ _ _ h => h) (Or.inl ⟨by rfl, ?h17⟩) hHeld ?r17
              case h17 => (intro w hSw; (try dsimp only at hSw); go_simp; try with_reducible rfl)
              try simp only [Act.put, List.setIfInBounds_toArray, List.set_cons_zero, List.set_cons_succ]
              refine wpAnyH_ready (rs := [1]) (by kernel_rfl) (by simp) ?_
              refine (AllReadyH.cons (o := uo1) rfl (fun K hK => ?_) AllReadyH.nil)
              go_simp
              clear hHeld
              refine hK.out _ _ trivial (fun hHeld => ?_)
              clear hK K
              try simp only [Act.put, List.setIfInBounds_toArray, List.set_cons_zero, List.set_cons_succ]
              refine wpAnyH_ready (rs := [3]) (by kernel_rfl) (by simp) ?_
              refine (AllReadyH.cons (o := uo3) rfl (fun K hK => ?_) AllReadyH.nil)
              go_simp
              refine Calls.mono (HCL.out _ (by first | with_reducible exact hA | with_reducible exact hB | with_reducible exact hB2)) ?_
              rintro e w1 ⟨a2, l2, p2, rfl, HQ⟩
              dsimp only
              obtain ⟨U1, HO, HZ2, HUP⟩ := HAF.out w1 a2 l2 p2 _ _ HQ.out.1 HQ.out.2.1 HQ.out.2.2.1 (Nat.le_refl _)
              have HSRC := (show Hid _ from World.news_of_block (cs := #[.string ⟨#[]⟩, .string ⟨#[]⟩, .bool false, .slice none 0 0]) (by obtain ⟨c, b1, b2, b3⟩ := (HQ.out.2.2.2 HBX.out).ex; exact (b1.trans (by congr 2; exact Array.ext (by simpa using b2) (fun i h1 h2 => by have := b3 i (by simpa using h2); rw [Array.getElem?_eq_getElem h1] at this; injection this with this; rw [this]; simp at h2; rcases i with _ | _ | _ | _ | i <;> first | rfl | omega)))))
              clear hHeld
              refine hK.out _ _ trivial (fun hHeld => ?_)
              clear hK K
              try simp only [Act.put, List.setIfInBounds_toArray, List.set_cons_zero, List.set_cons_succ]
              refine wpAnyH_ready (rs := [6]) (by kernel_rfl) (by simp) ?_
              refine AllReadyH.cons (o := uo6) rfl (fun K hK => ?_) AllReadyH.nil
              (refine step_append_lies _ rfl (.tmp 19) (.tmp 24) 30 rfl (w.heap.size + 3) 39 i59 _ 4 64 Try.underlying30 hi59 hy0 hy1 hy2 rfl (by decide) _ k'.length _ (by simp [Act.eval, Act.put]) HO.out ⟨wr.heap.size, 0, none⟩ 1 1 [.string ⟨#[]⟩, .string ⟨#[]⟩, .bool false, .slice none 0 0] (by simp [Act.eval, Act.put]) rfl HSRC.out (by intro y hy; simp at hy; rcases hy with rfl | rfl | rfl | rfl <;> rfl) (by decide) (by unfold maxLen; omega) (by omega) HZ2.out _ rfl ?_; intro g7 cap7 w7 hown7 hgr7 hat7 hlt7; have hU := HUP.out g7 cap7 w7 hown7 hgr7 hat7; clear hown7 hgr7 hat7 hlt7)
              clear hHeld
              refine hK.out _ _ trivial (fun hHeld => ?_)
              clear hK K
              try simp only [Act.put, List.setIfInBounds_toArray, List.set_cons_zero, List.set_cons_succ]
              obtain ⟨t8, f8, e0, e1, e2, e3, g0, g1, g2, g3, hN1, hN2⟩ := hU.more
              obtain ⟨t7, f7, z0, z1, z2, z3, y0, y1, y2, y3, hne7, _⟩ := hU
              have HN1 := (show Hid _ from hN1); clear hN1
              have HN2 := (show Hid _ from hN2); clear hN2
              clear HO HZ2 HUP
              refine wpAnyH_take (i := 7) (oi := uo7) (v := ?v18) rfl (by kernel_rfl) (by kernel_rfl) (by kernel_rfl) (fun _ _ _ h => h) (Or.inl ⟨by rfl, ?h18⟩) hHeld ?r18
              case h18 => (intro w hSw; (try dsimp only at hSw); go_simp; try with_reducible rfl)
              try simp only [Act.put, List.setIfInBounds_toArray, List.set_cons_zero, List.set_cons_succ]
              refine wpAnyH_ready (rs := [8, 9]) (by kernel_rfl) (by simp) ?_
              refine AllReadyH.cons (o := uo8) rfl (fun K hK => ?_) (AllReadyH.cons (o := uo9) rfl (fun K hK => ?_) AllReadyH.nil)
              · go_simp
                clear hHeld
                refine hK.out _ _ trivial (fun hHeld => ?_)
                clear hK K
                try simp only [Act.put, List.setIfInBounds_toArray, List.set_cons_zero, List.set_cons_succ]
                refine wpAnyH_ready (rs := [9]) (by kernel_rfl) (by simp) ?_
                refine AllReadyH.cons (o := uo9) rfl (fun K hK => ?_) AllReadyH.nil
                go_simp
                clear hHeld
                refine hK.out _ _ trivial (fun hHeld => ?_)
                clear hK K
                try simp only [Act.put, List.setIfInBounds_toArray, List.set_cons_zero, List.set_cons_succ]
                refine wpAnyH_done (by kernel_rfl) ?_ _
                (try refine NoPanic.normal ?_)
                go_wp2_with fail
                exact ⟨⟨k'.length + 1, _, k' ++ [t], by go_num, by omega, (by show _ = _; simp), HFN, HN2⟩, by simp [intOf]; omega⟩
              · go_simp
                clear hHeld
                refine hK.out _ _ trivial (fun hHeld => ?_)
                clear hK K
                try simp only [Act.put, List.setIfInBounds_toArray, List.set_cons_zero, List.set_cons_succ]
                refine wpAnyH_ready (rs := [8]) (by kernel_rfl) (by simp) ?_
                refine AllReadyH.cons (o := uo8) rfl (fun K hK => ?_) AllReadyH.nil
                go_simp
                clear hHeld
                refine hK.out _ _ trivial (fun hHeld => ?_)
                clear hK K
                try simp only [Act.put, List.setIfInBounds_toArray, List.set_cons_zero, List.set_cons_succ]
                refine wpAnyH_done (by kernel_rfl) ?_ _
                (try refine NoPanic.normal ?_)
                go_wp2_with fail
                exact ⟨⟨k'.length + 1, _, k' ++ [t], by go_num, by omega, (by show _ = _; simp), HFN, HN1⟩, by simp [intOf]; omega⟩
            · go_simp
              clear hHeld
              refine hK.out _ _ trivial (fun hHeld => ?_)
              clear hK K
              try simp only [Act.put, List.setIfInBounds_toArray, List.set_cons_zero, List.set_cons_succ]
              refine wpAnyH_ready (rs := [0, 3]) (by kernel_rfl) (by simp) ?_
              refine (AllReadyH.cons (o := uo0) rfl (fun K hK => ?_) (AllReadyH.cons (o := uo3) rfl (fun K hK => ?_) AllReadyH.nil))
              · go_simp
                clear hHeld
                refine hK.out _ _ trivial (fun hHeld => ?_)
                clear hK K
                try simp only [Act.put, List.setIfInBounds_toArray, List.set_cons_zero, List.set_cons_succ]
                refine wpAnyH_take (i := 4) (oi := uo4) (v := ?v19) rfl (by kernel_rfl) (by kernel_rfl) (by kernel_rfl) (fun _ _ _ h => h) (Or.inl ⟨by rfl, ?h19⟩) hHeld ?r19
                case h19 => (intro w hSw; (try dsimp only at hSw); go_simp; try with_reducible rfl)
                try simp only [Act.put, List.setIfInBounds_toArray, List.set_cons_zero, List.set_cons_succ]
                refine wpAnyH_ready (rs := [3]) (by kernel_rfl) (by simp) ?_
                refine (AllReadyH.cons (o := uo3) rfl (fun K hK => ?_) AllReadyH.nil)
                go_simp
                refine Calls.mono (HCL.out _ (by first | with_reducible exact hA | with_reducible exact hB | with_reducible exact hB2)) ?_
                rintro e w1 ⟨a2, l2, p2, rfl, HQ⟩
                dsimp only
                obtain ⟨U1, HO, HZ2, HUP⟩ := HAF.out w1 a2 l2 p2 _ _ HQ.out.1 HQ.out.2.1 HQ.out.2.2.1 (Nat.le_refl _)
                have HSRC := (show Hid _ from World.news_of_block (cs := #[.string ⟨#[]⟩, .string ⟨#[]⟩, .bool false, .slice none 0 0]) (by obtain ⟨c, b1, b2, b3⟩ := (HQ.out.2.2.2 HBX.out).ex; exact (b1.trans (by congr 2; exact Array.ext (by simpa using b2) (fun i h1 h2 => by have := b3 i (by simpa using h2); rw [Array.getElem?_eq_getElem h1] at this; injection this with this; rw [this]; simp at h2; rcases i with _ | _ | _ | _ | i <;> first | rfl | omega)))))
                clear hHeld
                refine hK.out _ _ trivial (fun hHeld => ?_)
                clear hK K
                try simp only [Act.put, List.setIfInBounds_toArray, List.set_cons_zero, List.set_cons_succ]
                refine wpAnyH_ready (rs := [6]) (by kernel_rfl) (by simp) ?_
                refine AllReadyH.cons (o := uo6) rfl (fun K hK => ?_) AllReadyH.nil
                (refine step_append_lies _ rfl (.tmp 19) (.tmp 24) 30 rfl (w.heap.size + 3) 39 i59 _ 4 64 Try.underlying30 hi59 hy0 hy1 hy2 rfl (by decide) _ k'.length _ (by simp [Act.eval, Act.put]) HO.out ⟨wr.heap.size, 0, none⟩ 1 1 [.string ⟨#[]⟩, .string ⟨#[]⟩, .bool false, .slice none 0 0] (by simp [Act.eval, Act.put]) rfl HSRC.out (by intro y hy; simp at hy; rcases hy with rfl | rfl | rfl | rfl <;> rfl) (by decide) (by unfold maxLen; omega) (by omega) HZ2.out _ rfl ?_; intro g7 cap7 w7 hown7 hgr7 hat7 hlt7; have hU := HUP.out g7 cap7 w7 hown7 hgr7 hat7; clear hown7 hgr7 hat7 hlt7)
                clear hHeld
                refine hK.out _ _ trivial (fun hHeld => ?_)
                clear hK K
                try simp only [Act.put, List.setIfInBounds_toArray, List.set_cons_zero, List.set_cons_succ]
                obtain ⟨t8, f8, e0, e1, e2, e3, g0, g1, g2, g3, hN1, hN2⟩ := hU.more
                obtain ⟨t7, f7, z0, z1, z2, z3, y0, y1, y2, y3, hne7, _⟩ := hU
                have HN1 := (show Hid _ from hN1); clear hN1
                have HN2 := (show Hid _ from hN2); clear hN2
                clear HO HZ2 HUP
                refine wpAnyH_take (i := 7) (oi := uo7) (v := ?v20) rfl (by kernel_rfl) (by kernel_rfl) (by kernel_rfl) (fun _ _ _ h => h) (Or.inl ⟨by rfl, ?h20⟩) hHeld ?r20
                case h20 => (intro w hSw; (try dsimp only at hSw); go_simp; try with_reducible rfl)
                try simp only [Act.put, List.setIfInBounds_toArray, List.set_cons_zero, List.set_cons_succ]
                refine wpAnyH_ready (rs := [8, 9]) (by kernel_rfl) (by simp) ?_
                refine AllReadyH.cons (o := uo8) rfl (fun K hK => ?_) (AllReadyH.cons (o := uo9) rfl (fun K hK => ?_) AllReadyH.nil)
                · go_simp
                  clear hHeld
                  refine hK.out _ _ trivial (fun hHeld => ?_)
                  clear hK K
                  try simp only [Act.put, List.setIfInBounds_toArray, List.set_cons_zero, List.set_cons_succ]
                  refine wpAnyH_ready (rs := [9]) (by kernel_rfl) (by simp) ?_
                  refine AllReadyH.cons (o := uo9) rfl (fun K hK => ?_) AllReadyH.nil
                  go_simp
                  clear hHeld
                  refine hK.out _ _ trivial (fun hHeld => ?_)
                  clear hK K
                  try simp only [Act.put, List.setIfInBounds_toArray, List.set_cons_zero, List.set_cons_succ]
                  refine wpAnyH_done (by kernel_rfl) ?_ _
                  (try refine NoPanic.normal ?_)
                  go_wp2_with fail
                  exact ⟨⟨k'.length + 1, _, k' ++ [t], by go_num, by omega, (by show _ = _; simp), HFN, HN2⟩, by simp [intOf]; omega⟩
                · go_simp
                  clear hHeld
                  refine hK.out _ _ trivial (fun hHeld => ?_)
                  clear hK K
                  try simp only [Act.put, List.setIfInBounds_toArray, List.set_cons_zero, List.set_cons_succ]
                  refine wpAnyH_ready (rs := [8]) (by kernel_rfl) (by simp) ?_
                  refine AllReadyH.cons (o := uo8) rfl (fun K hK => ?_) AllReadyH.nil
                  go_simp
                  clear hHeld
                  refine hK.out _ _ trivial (fun hHeld => ?_)
                  clear hK K
                  try simp only [Act.put, List.setIfInBounds_toArray, List.set_cons_zero, List.set_cons_succ]
                  refine wpAnyH_done (by kernel_rfl) ?_ _
                  (try refine NoPanic.normal ?_)
                  go_wp2_with fail
                  exact ⟨⟨k'.length + 1, _, k' ++ [t], by go_num, by omega, (by show _ = _; simp), HFN, HN1⟩, by simp [intOf]; omega⟩
              · go_simp
                refine Calls.mono (HCL.out _ (by first | with_reducible exact hA | with_reducible exact hB | with_reducible exact hB2)) ?_
                rintro e w1 ⟨a2, l2, p2, rfl, HQ⟩
                dsimp only
                obtain ⟨U1, HO, HZ2, HUP⟩ := HAF.out w1 a2 l2 p2 _ _ HQ.out.1 HQ.out.2.1 HQ.out.2.2.1 (Nat.le_refl _)
                have HSRC := (show Hid _ from World.news_of_block (cs := #[.string ⟨#[]⟩, .string ⟨#[]⟩, .bool false, .slice none 0 0]) (by obtain ⟨c, b1, b2, b3⟩ := (HQ.out.2.2.2 HBX.out).ex; exact (b1.trans (by congr 2; exact Array.ext (by simpa using b2) (fun i h1 h2 => by have := b3 i (by simpa using h2); rw [Array.getElem?_eq_getElem h1] at this; injection this with this; rw [this]; simp at h2; rcases i with _ | _ | _ | _ | i <;> first | rfl | omega)))))
                clear hHeld
                refine hK.out _ _ trivial (fun hHeld => ?_)
                clear hK K
                try simp only [Act.put, List.setIfInBounds_toArray, List.set_cons_zero, List.set_cons_succ]
                refine wpAnyH_ready (rs := [0]) (by kernel_rfl) (by simp) ?_
                refine (AllReadyH.cons (o := uo0) rfl (fun K hK => ?_) AllReadyH.nil)
                go_simp
                clear hHeld
                refine hK.out _ _ trivial (fun hHeld => ?_)
                clear hK K
                try simp only [Act.put, List.setIfInBounds_toArray, List.set_cons_zero, List.set_cons_succ]
                refine wpAnyH_take (i := 4) (oi := uo4) (v := ?v21) rfl (by kernel_rfl) (by kernel_rfl) (by kernel_rfl) (fun _ _ _ h => h) (Or.inl ⟨by rfl, ?h21⟩) hHeld ?r21
                case h21 => (intro w hSw; (try dsimp only at hSw); go_simp; try with_reducible rfl)
                try simp only [Act.put, List.setIfInBounds_toArray, List.set_cons_zero, List.set_cons_succ]
                refine wpAnyH_ready (rs := [6]) (by kernel_rfl) (by simp) ?_
                refine AllReadyH.cons (o := uo6) rfl (fun K hK => ?_) AllReadyH.nil
                (refine step_append_lies _ rfl (.tmp 19) (.tmp 24) 30 rfl (w.heap.size + 3) 39 i59 _ 4 64 Try.underlying30 hi59 hy0 hy1 hy2 rfl (by decide) _ k'.length _ (by simp [Act.eval, Act.put]) HO.out ⟨wr.heap.size, 0, none⟩ 1 1 [.string ⟨#[]⟩, .string ⟨#[]⟩, .bool false, .slice none 0 0] (by simp [Act.eval, Act.put]) rfl HSRC.out (by intro y hy; simp at hy; rcases hy with rfl | rfl | rfl | rfl <;> rfl) (by decide) (by unfold maxLen; omega) (by omega) HZ2.out _ rfl ?_; intro g7 cap7 w7 hown7 hgr7 hat7 hlt7; have hU := HUP.out g7 cap7 w7 hown7 hgr7 hat7; clear hown7 hgr7 hat7 hlt7)
                clear hHeld
                refine hK.out _ _ trivial (fun hHeld => ?_)
                clear hK K
                try simp only [Act.put, List.setIfInBounds_toArray, List.set_cons_zero, List.set_cons_succ]
                obtain ⟨t8, f8, e0, e1, e2, e3, g0, g1, g2, g3, hN1, hN2⟩ := hU.more
                obtain ⟨t7, f7, z0, z1, z2, z3, y0, y1, y2, y3, hne7, _⟩ := hU
                have HN1 := (show Hid _ from hN1); clear hN1
                have HN2 := (show Hid _ from hN2); clear hN2
                clear HO HZ2 HUP
                refine wpAnyH_take (i := 7) (oi := uo7) (v := ?v22) rfl (by kernel_rfl) (by kernel_rfl) (by kernel_rfl) (fun _ _ _ h => h) (Or.inl ⟨by rfl, ?h22⟩) hHeld ?r22
                case h22 => (intro w hSw; (try dsimp only at hSw); go_simp; try with_reducible rfl)
                try simp only [Act.put, List.setIfInBounds_toArray, List.set_cons_zero, List.set_cons_succ]
                refine wpAnyH_ready (rs := [8, 9]) (by kernel_rfl) (by simp) ?_
                refine AllReadyH.cons (o := uo8) rfl (fun K hK => ?_) (AllReadyH.cons (o := uo9) rfl (fun K hK => ?_) AllReadyH.nil)
                · go_simp
                  clear hHeld
                  refine hK.out _ _ trivial (fun hHeld => ?_)
                  clear hK K
                  try simp only [Act.put, List.setIfInBounds_toArray, List.set_cons_zero, List.set_cons_succ]
                  refine wpAnyH_ready (rs := [9]) (by kernel_rfl) (by simp) ?_
                  refine AllReadyH.cons (o := uo9) rfl (fun K hK => ?_) AllReadyH.nil
                  go_simp
                  clear hHeld
                  refine hK.out _ _ trivial (fun hHeld => ?_)
                  clear hK K
                  try simp only [Act.put, List.setIfInBounds_toArray, List.set_cons_zero, List.set_cons_succ]
                  refine wpAnyH_done (by kernel_rfl) ?_ _
                  (try refine NoPanic.normal ?_)
                  go_wp2_with fail
                  exact ⟨⟨k'.length + 1, _, k' ++ [t], by go_num, by omega, (by show _ = _; simp), HFN, HN2⟩, by simp [intOf]; omega⟩
                · go_simp
                  clear hHeld
                  refine hK.out _ _ trivial (fun hHeld => ?_)
                  clear hK K
                  try simp only [Act.put, List.setIfInBounds_toArray, List.set_cons_zero, List.set_cons_succ]
                  refine wpAnyH_ready (rs := [8]) (by kernel_rfl) (by simp) ?_
                  refine AllReadyH.cons (o := uo8) rfl (fun K hK => ?_) AllReadyH.nil
                  go_simp
                  clear hHeld
                  refine hK.out _ _ trivial (fun hHeld => ?_)
                  clear hK K
                  try simp only [Act.put, List.setIfInBounds_toArray, List.set_cons_zero, List.set_cons_succ]
                  refine wpAnyH_done (by kernel_rfl) ?_ _
                  (try refine NoPanic.normal ?_)
                  go_wp2_with fail
                  exact ⟨⟨k'.length + 1, _, k' ++ [t], by go_num, by omega, (by show _ = _; simp), HFN, HN1⟩, by simp [intOf]; omega⟩
        · have HNO := (show Hid _ from no_fit hlt hf)
          have HCL : Hid (∀ wq : World, Below wr.heap.size wr wq → Calls Try.prog 36 #[.agg #[.slice ua ns.length ucap, .slice (some ⟨rb, roff, none⟩) rs.length rcap], .int .i64 rs[k'.length]] wq fun e w1 => e = .panicked [formFault] ∧ Hid (Box w1 (w.heap.size + 1) 30 [.slice va k'.length vp] ∧ Box w1 (w.heap.size + 1 + 1) 3 [.int .i64 0] ∧ Below w.heap.size w w1)) := fun wq hb => Calls.mono (HCL0.out wq hb) (by
            rintro e w1 ⟨k1, k2⟩
            rcases k2 with ⟨t', a2, l2, p2, k3, k4, k6⟩ | ⟨k3, k4⟩
            · exact absurd ⟨t', k3⟩ hf
            · have hz := HZ.out
              have hbq := bel_trans hb k1
              have hblk : ∀ p, p < wr.heap.size → w1.heap[p]? = wr.heap[p]? := fun p hp => hbq.block p hp
              exact ⟨k4, HT.out.b1.keep (hblk _ (by omega)), HT.out.b2.keep (hblk _ (by omega)), bel_trans HT.out.bel hbq⟩)
          have HPAN := (show Hid (∀ w1 : World, Hid (Box w1 (w.heap.size + 1) 30 [.slice va k'.length vp] ∧ Box w1 (w.heap.size + 1 + 1) 3 [.int .i64 0] ∧ Below w.heap.size w w1) → ∀ w6, Below w1.heap.size w1 w6 → _) from fun w1 h w6 hb6 => refuse23 (h.out.1.still hb6) (h.out.2.1.still hb6) (bel_trans h.out.2.2 hb6) HNO.out)
          clear HF HT HN HI HS HRC HCL0 hf HNO
          generalize rs[k'.length] = zj at *
          go_wp2_with fail
          refine wp_region_any (by kernel_rfl) ?_
          change wpAny _ _ _ _ _ _ _ (World.drew _)
          refine wpAny_ready (rs := [0, 1, 2, 5]) (by kernel_rfl) (by simp) ?_
          refine (AllReady.cons (o := uo0) rfl (fun K hK => ?a4) (AllReady.cons (o := uo1) rfl (fun K hK => ?a3) (AllReady.cons (o := uo2) rfl (fun K hK => ?a2) (AllReady.cons (o := uo5) rfl (fun K hK => ?a1) AllReady.nil))))
          case' a4 =>
            go_simp
            refine hK _ _ ?_
            clear hK K
            try simp only [Act.put, List.setIfInBounds_toArray, List.set_cons_zero, List.set_cons_succ]
            refine wpAny_ready (rs := [1, 2, 4, 5]) (by kernel_rfl) (by simp) ?_
            refine (AllReady.cons (o := uo1) rfl (fun K hK => ?a8) (AllReady.cons (o := uo2) rfl (fun K hK => ?a7) (AllReady.cons (o := uo4) rfl (fun K hK => ?a6) (AllReady.cons (o := uo5) rfl (fun K hK => ?a5) AllReady.nil))))
            case' a8 =>
              go_simp
              refine hK _ _ ?_
              clear hK K
              try simp only [Act.put, List.setIfInBounds_toArray, List.set_cons_zero, List.set_cons_succ]
              refine wpAny_ready (rs := [2, 4, 5]) (by kernel_rfl) (by simp) ?_
              refine (AllReady.cons (o := uo2) rfl (fun K hK => ?a11) (AllReady.cons (o := uo4) rfl (fun K hK => ?a10) (AllReady.cons (o := uo5) rfl (fun K hK => ?a9) AllReady.nil)))
              case' a11 =>
                go_simp
                refine hK _ _ ?_
                clear hK K
                try simp only [Act.put, List.setIfInBounds_toArray, List.set_cons_zero, List.set_cons_succ]
                refine wpAny_ready (rs := [3, 4, 5]) (by kernel_rfl) (by simp) ?_
                refine (AllReady.cons (o := uo3) rfl (fun K hK => ?a14) (AllReady.cons (o := uo4) rfl (fun K hK => ?a13) (AllReady.cons (o := uo5) rfl (fun K hK => ?a12) AllReady.nil)))
                case' a14 =>
                  go_simp
                case' a13 =>
                  go_simp
                  refine hK _ _ ?_
                  clear hK K
                  try simp only [Act.put, List.setIfInBounds_toArray, List.set_cons_zero, List.set_cons_succ]
                  refine wpAny_ready (rs := [3, 5]) (by kernel_rfl) (by simp) ?_
                  refine (AllReady.cons (o := uo3) rfl (fun K hK => ?a16) (AllReady.cons (o := uo5) rfl (fun K hK => ?a15) AllReady.nil))
                  case' a16 =>
                    go_simp
                  case' a15 =>
                    go_simp
                    refine hK _ _ ?_
                    clear hK K
                    try simp only [Act.put, List.setIfInBounds_toArray, List.set_cons_zero, List.set_cons_succ]
                    refine wpAny_ready (rs := [3]) (by kernel_rfl) (by simp) ?_
                    refine (AllReady.cons (o := uo3) rfl (fun K hK => ?a17) AllReady.nil)
                    case' a17 =>
                      go_simp
                case' a12 =>
                  go_simp
                  refine hK _ _ ?_
                  clear hK K
                  try simp only [Act.put, List.setIfInBounds_toArray, List.set_cons_zero, List.set_cons_succ]
                  refine wpAny_ready (rs := [3, 4]) (by kernel_rfl) (by simp) ?_
                  refine (AllReady.cons (o := uo3) rfl (fun K hK => ?a19) (AllReady.cons (o := uo4) rfl (fun K hK => ?a18) AllReady.nil))
                  case' a19 =>
                    go_simp
                  case' a18 =>
                    go_simp
                    refine hK _ _ ?_
                    clear hK K
                    try simp only [Act.put, List.setIfInBounds_toArray, List.set_cons_zero, List.set_cons_succ]
                    refine wpAny_ready (rs := [3]) (by kernel_rfl) (by simp) ?_
                    refine (AllReady.cons (o := uo3) rfl (fun K hK => ?a20) AllReady.nil)
                    case' a20 =>
                      go_simp
              case' a10 =>
                go_simp
                refine hK _ _ ?_
                clear hK K
                try simp only [Act.put, List.setIfInBounds_toArray, List.set_cons_zero, List.set_cons_succ]
                refine wpAny_ready (rs := [2, 5]) (by kernel_rfl) (by simp) ?_
                refine (AllReady.cons (o := uo2) rfl (fun K hK => ?a22) (AllReady.cons (o := uo5) rfl (fun K hK => ?a21) AllReady.nil))
                case' a22 =>
                  go_simp
                  refine hK _ _ ?_
                  clear hK K
                  try simp only [Act.put, List.setIfInBounds_toArray, List.set_cons_zero, List.set_cons_succ]
                  refine wpAny_ready (rs := [3, 5]) (by kernel_rfl) (by simp) ?_
                  refine (AllReady.cons (o := uo3) rfl (fun K hK => ?a24) (AllReady.cons (o := uo5) rfl (fun K hK => ?a23) AllReady.nil))
                  case' a24 =>
                    go_simp
                  case' a23 =>
                    go_simp
                    refine hK _ _ ?_
                    clear hK K
                    try simp only [Act.put, List.setIfInBounds_toArray, List.set_cons_zero, List.set_cons_succ]
                    refine wpAny_ready (rs := [3]) (by kernel_rfl) (by simp) ?_
                    refine (AllReady.cons (o := uo3) rfl (fun K hK => ?a25) AllReady.nil)
                    case' a25 =>
                      go_simp
                case' a21 =>
                  go_simp
                  refine hK _ _ ?_
                  clear hK K
                  try simp only [Act.put, List.setIfInBounds_toArray, List.set_cons_zero, List.set_cons_succ]
                  refine wpAny_ready (rs := [2]) (by kernel_rfl) (by simp) ?_
                  refine (AllReady.cons (o := uo2) rfl (fun K hK => ?a26) AllReady.nil)
                  case' a26 =>
                    go_simp
                    refine hK _ _ ?_
                    clear hK K
                    try simp only [Act.put, List.setIfInBounds_toArray, List.set_cons_zero, List.set_cons_succ]
                    refine wpAny_ready (rs := [3]) (by kernel_rfl) (by simp) ?_
                    refine (AllReady.cons (o := uo3) rfl (fun K hK => ?a27) AllReady.nil)
                    case' a27 =>
                      go_simp
              case' a9 =>
                go_simp
                refine hK _ _ ?_
                clear hK K
                try simp only [Act.put, List.setIfInBounds_toArray, List.set_cons_zero, List.set_cons_succ]
                refine wpAny_ready (rs := [2, 4]) (by kernel_rfl) (by simp) ?_
                refine (AllReady.cons (o := uo2) rfl (fun K hK => ?a29) (AllReady.cons (o := uo4) rfl (fun K hK => ?a28) AllReady.nil))
                case' a29 =>
                  go_simp
                  refine hK _ _ ?_
                  clear hK K
                  try simp only [Act.put, List.setIfInBounds_toArray, List.set_cons_zero, List.set_cons_succ]
                  refine wpAny_ready (rs := [3, 4]) (by kernel_rfl) (by simp) ?_
                  refine (AllReady.cons (o := uo3) rfl (fun K hK => ?a31) (AllReady.cons (o := uo4) rfl (fun K hK => ?a30) AllReady.nil))
                  case' a31 =>
                    go_simp
                  case' a30 =>
                    go_simp
                    refine hK _ _ ?_
                    clear hK K
                    try simp only [Act.put, List.setIfInBounds_toArray, List.set_cons_zero, List.set_cons_succ]
                    refine wpAny_ready (rs := [3]) (by kernel_rfl) (by simp) ?_
                    refine (AllReady.cons (o := uo3) rfl (fun K hK => ?a32) AllReady.nil)
                    case' a32 =>
                      go_simp
                case' a28 =>
                  go_simp
                  refine hK _ _ ?_
                  clear hK K
                  try simp only [Act.put, List.setIfInBounds_toArray, List.set_cons_zero, List.set_cons_succ]
                  refine wpAny_ready (rs := [2]) (by kernel_rfl) (by simp) ?_
                  refine (AllReady.cons (o := uo2) rfl (fun K hK => ?a33) AllReady.nil)
                  case' a33 =>
                    go_simp
                    refine hK _ _ ?_
                    clear hK K
                    try simp only [Act.put, List.setIfInBounds_toArray, List.set_cons_zero, List.set_cons_succ]
                    refine wpAny_ready (rs := [3]) (by kernel_rfl) (by simp) ?_
                    refine (AllReady.cons (o := uo3) rfl (fun K hK => ?a34) AllReady.nil)
                    case' a34 =>
                      go_simp
            case' a7 =>
              go_simp
              refine hK _ _ ?_
              clear hK K
              try simp only [Act.put, List.setIfInBounds_toArray, List.set_cons_zero, List.set_cons_succ]
              refine wpAny_ready (rs := [1, 4, 5]) (by kernel_rfl) (by simp) ?_
              refine (AllReady.cons (o := uo1) rfl (fun K hK => ?a37) (AllReady.cons (o := uo4) rfl (fun K hK => ?a36) (AllReady.cons (o := uo5) rfl (fun K hK => ?a35) AllReady.nil)))
              case' a37 =>
                go_simp
                refine hK _ _ ?_
                clear hK K
                try simp only [Act.put, List.setIfInBounds_toArray, List.set_cons_zero, List.set_cons_succ]
                refine wpAny_ready (rs := [3, 4, 5]) (by kernel_rfl) (by simp) ?_
                refine (AllReady.cons (o := uo3) rfl (fun K hK => ?a40) (AllReady.cons (o := uo4) rfl (fun K hK => ?a39) (AllReady.cons (o := uo5) rfl (fun K hK => ?a38) AllReady.nil)))
                case' a40 =>
                  go_simp
                case' a39 =>
                  go_simp
                  refine hK _ _ ?_
                  clear hK K
                  try simp only [Act.put, List.setIfInBounds_toArray, List.set_cons_zero, List.set_cons_succ]
                  refine wpAny_ready (rs := [3, 5]) (by kernel_rfl) (by simp) ?_
                  refine (AllReady.cons (o := uo3) rfl (fun K hK => ?a42) (AllReady.cons (o := uo5) rfl (fun K hK => ?a41) AllReady.nil))
                  case' a42 =>
                    go_simp
                  case' a41 =>
                    go_simp
                    refine hK _ _ ?_
                    clear hK K
                    try simp only [Act.put, List.setIfInBounds_toArray, List.set_cons_zero, List.set_cons_succ]
                    refine wpAny_ready (rs := [3]) (by kernel_rfl) (by simp) ?_
                    refine (AllReady.cons (o := uo3) rfl (fun K hK => ?a43) AllReady.nil)
                    case' a43 =>
                      go_simp
                case' a38 =>
                  go_simp
                  refine hK _ _ ?_
                  clear hK K
                  try simp only [Act.put, List.setIfInBounds_toArray, List.set_cons_zero, List.set_cons_succ]
                  refine wpAny_ready (rs := [3, 4]) (by kernel_rfl) (by simp) ?_
                  refine (AllReady.cons (o := uo3) rfl (fun K hK => ?a45) (AllReady.cons (o := uo4) rfl (fun K hK => ?a44) AllReady.nil))
                  case' a45 =>
                    go_simp
                  case' a44 =>
                    go_simp
                    refine hK _ _ ?_
                    clear hK K
                    try simp only [Act.put, List.setIfInBounds_toArray, List.set_cons_zero, List.set_cons_succ]
                    refine wpAny_ready (rs := [3]) (by kernel_rfl) (by simp) ?_
                    refine (AllReady.cons (o := uo3) rfl (fun K hK => ?a46) AllReady.nil)
                    case' a46 =>
                      go_simp
              case' a36 =>
                go_simp
                refine hK _ _ ?_
                clear hK K
                try simp only [Act.put, List.setIfInBounds_toArray, List.set_cons_zero, List.set_cons_succ]
                refine wpAny_ready (rs := [1, 5]) (by kernel_rfl) (by simp) ?_
                refine (AllReady.cons (o := uo1) rfl (fun K hK => ?a48) (AllReady.cons (o := uo5) rfl (fun K hK => ?a47) AllReady.nil))
                case' a48 =>
                  go_simp
                  refine hK _ _ ?_
                  clear hK K
                  try simp only [Act.put, List.setIfInBounds_toArray, List.set_cons_zero, List.set_cons_succ]
                  refine wpAny_ready (rs := [3, 5]) (by kernel_rfl) (by simp) ?_
                  refine (AllReady.cons (o := uo3) rfl (fun K hK => ?a50) (AllReady.cons (o := uo5) rfl (fun K hK => ?a49) AllReady.nil))
                  case' a50 =>
                    go_simp
                  case' a49 =>
                    go_simp
                    refine hK _ _ ?_
                    clear hK K
                    try simp only [Act.put, List.setIfInBounds_toArray, List.set_cons_zero, List.set_cons_succ]
                    refine wpAny_ready (rs := [3]) (by kernel_rfl) (by simp) ?_
                    refine (AllReady.cons (o := uo3) rfl (fun K hK => ?a51) AllReady.nil)
                    case' a51 =>
                      go_simp
                case' a47 =>
                  go_simp
                  refine hK _ _ ?_
                  clear hK K
                  try simp only [Act.put, List.setIfInBounds_toArray, List.set_cons_zero, List.set_cons_succ]
                  refine wpAny_ready (rs := [1]) (by kernel_rfl) (by simp) ?_
                  refine (AllReady.cons (o := uo1) rfl (fun K hK => ?a52) AllReady.nil)
                  case' a52 =>
                    go_simp
                    refine hK _ _ ?_
                    clear hK K
                    try simp only [Act.put, List.setIfInBounds_toArray, List.set_cons_zero, List.set_cons_succ]
                    refine wpAny_ready (rs := [3]) (by kernel_rfl) (by simp) ?_
                    refine (AllReady.cons (o := uo3) rfl (fun K hK => ?a53) AllReady.nil)
                    case' a53 =>
                      go_simp
              case' a35 =>
                go_simp
                refine hK _ _ ?_
                clear hK K
                try simp only [Act.put, List.setIfInBounds_toArray, List.set_cons_zero, List.set_cons_succ]
                refine wpAny_ready (rs := [1, 4]) (by kernel_rfl) (by simp) ?_
                refine (AllReady.cons (o := uo1) rfl (fun K hK => ?a55) (AllReady.cons (o := uo4) rfl (fun K hK => ?a54) AllReady.nil))
                case' a55 =>
                  go_simp
                  refine hK _ _ ?_
                  clear hK K
                  try simp only [Act.put, List.setIfInBounds_toArray, List.set_cons_zero, List.set_cons_succ]
                  refine wpAny_ready (rs := [3, 4]) (by kernel_rfl) (by simp) ?_
                  refine (AllReady.cons (o := uo3) rfl (fun K hK => ?a57) (AllReady.cons (o := uo4) rfl (fun K hK => ?a56) AllReady.nil))
                  case' a57 =>
                    go_simp
                  case' a56 =>
                    go_simp
                    refine hK _ _ ?_
                    clear hK K
                    try simp only [Act.put, List.setIfInBounds_toArray, List.set_cons_zero, List.set_cons_succ]
                    refine wpAny_ready (rs := [3]) (by kernel_rfl) (by simp) ?_
                    refine (AllReady.cons (o := uo3) rfl (fun K hK => ?a58) AllReady.nil)
                    case' a58 =>
                      go_simp
                case' a54 =>
                  go_simp
                  refine hK _ _ ?_
                  clear hK K
                  try simp only [Act.put, List.setIfInBounds_toArray, List.set_cons_zero, List.set_cons_succ]
                  refine wpAny_ready (rs := [1]) (by kernel_rfl) (by simp) ?_
                  refine (AllReady.cons (o := uo1) rfl (fun K hK => ?a59) AllReady.nil)
                  case' a59 =>
                    go_simp
                    refine hK _ _ ?_
                    clear hK K
                    try simp only [Act.put, List.setIfInBounds_toArray, List.set_cons_zero, List.set_cons_succ]
                    refine wpAny_ready (rs := [3]) (by kernel_rfl) (by simp) ?_
                    refine (AllReady.cons (o := uo3) rfl (fun K hK => ?a60) AllReady.nil)
                    case' a60 =>
                      go_simp
            case' a6 =>
              go_simp
              refine hK _ _ ?_
              clear hK K
              try simp only [Act.put, List.setIfInBounds_toArray, List.set_cons_zero, List.set_cons_succ]
              refine wpAny_ready (rs := [1, 2, 5]) (by kernel_rfl) (by simp) ?_
              refine (AllReady.cons (o := uo1) rfl (fun K hK => ?a63) (AllReady.cons (o := uo2) rfl (fun K hK => ?a62) (AllReady.cons (o := uo5) rfl (fun K hK => ?a61) AllReady.nil)))
              case' a63 =>
                go_simp
                refine hK _ _ ?_
                clear hK K
                try simp only [Act.put, List.setIfInBounds_toArray, List.set_cons_zero, List.set_cons_succ]
                refine wpAny_ready (rs := [2, 5]) (by kernel_rfl) (by simp) ?_
                refine (AllReady.cons (o := uo2) rfl (fun K hK => ?a65) (AllReady.cons (o := uo5) rfl (fun K hK => ?a64) AllReady.nil))
                case' a65 =>
                  go_simp
                  refine hK _ _ ?_
                  clear hK K
                  try simp only [Act.put, List.setIfInBounds_toArray, List.set_cons_zero, List.set_cons_succ]
                  refine wpAny_ready (rs := [3, 5]) (by kernel_rfl) (by simp) ?_
                  refine (AllReady.cons (o := uo3) rfl (fun K hK => ?a67) (AllReady.cons (o := uo5) rfl (fun K hK => ?a66) AllReady.nil))
                  case' a67 =>
                    go_simp
                  case' a66 =>
                    go_simp
                    refine hK _ _ ?_
                    clear hK K
                    try simp only [Act.put, List.setIfInBounds_toArray, List.set_cons_zero, List.set_cons_succ]
                    refine wpAny_ready (rs := [3]) (by kernel_rfl) (by simp) ?_
                    refine (AllReady.cons (o := uo3) rfl (fun K hK => ?a68) AllReady.nil)
                    case' a68 =>
                      go_simp
                case' a64 =>
                  go_simp
                  refine hK _ _ ?_
                  clear hK K
                  try simp only [Act.put, List.setIfInBounds_toArray, List.set_cons_zero, List.set_cons_succ]
                  refine wpAny_ready (rs := [2]) (by kernel_rfl) (by simp) ?_
                  refine (AllReady.cons (o := uo2) rfl (fun K hK => ?a69) AllReady.nil)
                  case' a69 =>
                    go_simp
                    refine hK _ _ ?_
                    clear hK K
                    try simp only [Act.put, List.setIfInBounds_toArray, List.set_cons_zero, List.set_cons_succ]
                    refine wpAny_ready (rs := [3]) (by kernel_rfl) (by simp) ?_
                    refine (AllReady.cons (o := uo3) rfl (fun K hK => ?a70) AllReady.nil)
                    case' a70 =>
                      go_simp
              case' a62 =>
                go_simp
                refine hK _ _ ?_
                clear hK K
                try simp only [Act.put, List.setIfInBounds_toArray, List.set_cons_zero, List.set_cons_succ]
                refine wpAny_ready (rs := [1, 5]) (by kernel_rfl) (by simp) ?_
                refine (AllReady.cons (o := uo1) rfl (fun K hK => ?a72) (AllReady.cons (o := uo5) rfl (fun K hK => ?a71) AllReady.nil))
                case' a72 =>
                  go_simp
                  refine hK _ _ ?_
                  clear hK K
                  try simp only [Act.put, List.setIfInBounds_toArray, List.set_cons_zero, List.set_cons_succ]
                  refine wpAny_ready (rs := [3, 5]) (by kernel_rfl) (by simp) ?_
                  refine (AllReady.cons (o := uo3) rfl (fun K hK => ?a74) (AllReady.cons (o := uo5) rfl (fun K hK => ?a73) AllReady.nil))
                  case' a74 =>
                    go_simp
                  case' a73 =>
                    go_simp
                    refine hK _ _ ?_
                    clear hK K
                    try simp only [Act.put, List.setIfInBounds_toArray, List.set_cons_zero, List.set_cons_succ]
                    refine wpAny_ready (rs := [3]) (by kernel_rfl) (by simp) ?_
                    refine (AllReady.cons (o := uo3) rfl (fun K hK => ?a75) AllReady.nil)
                    case' a75 =>
                      go_simp
                case' a71 =>
                  go_simp
                  refine hK _ _ ?_
                  clear hK K
                  try simp only [Act.put, List.setIfInBounds_toArray, List.set_cons_zero, List.set_cons_succ]
                  refine wpAny_ready (rs := [1]) (by kernel_rfl) (by simp) ?_
                  refine (AllReady.cons (o := uo1) rfl (fun K hK => ?a76) AllReady.nil)
                  case' a76 =>
                    go_simp
                    refine hK _ _ ?_
                    clear hK K
                    try simp only [Act.put, List.setIfInBounds_toArray, List.set_cons_zero, List.set_cons_succ]
                    refine wpAny_ready (rs := [3]) (by kernel_rfl) (by simp) ?_
                    refine (AllReady.cons (o := uo3) rfl (fun K hK => ?a77) AllReady.nil)
                    case' a77 =>
                      go_simp
              case' a61 =>
                go_simp
                refine hK _ _ ?_
                clear hK K
                try simp only [Act.put, List.setIfInBounds_toArray, List.set_cons_zero, List.set_cons_succ]
                refine wpAny_ready (rs := [1, 2]) (by kernel_rfl) (by simp) ?_
                refine (AllReady.cons (o := uo1) rfl (fun K hK => ?a79) (AllReady.cons (o := uo2) rfl (fun K hK => ?a78) AllReady.nil))
                case' a79 =>
                  go_simp
                  refine hK _ _ ?_
                  clear hK K
                  try simp only [Act.put, List.setIfInBounds_toArray, List.set_cons_zero, List.set_cons_succ]
                  refine wpAny_ready (rs := [2]) (by kernel_rfl) (by simp) ?_
                  refine (AllReady.cons (o := uo2) rfl (fun K hK => ?a80) AllReady.nil)
                  case' a80 =>
                    go_simp
                    refine hK _ _ ?_
                    clear hK K
                    try simp only [Act.put, List.setIfInBounds_toArray, List.set_cons_zero, List.set_cons_succ]
                    refine wpAny_ready (rs := [3]) (by kernel_rfl) (by simp) ?_
                    refine (AllReady.cons (o := uo3) rfl (fun K hK => ?a81) AllReady.nil)
                    case' a81 =>
                      go_simp
                case' a78 =>
                  go_simp
                  refine hK _ _ ?_
                  clear hK K
                  try simp only [Act.put, List.setIfInBounds_toArray, List.set_cons_zero, List.set_cons_succ]
                  refine wpAny_ready (rs := [1]) (by kernel_rfl) (by simp) ?_
                  refine (AllReady.cons (o := uo1) rfl (fun K hK => ?a82) AllReady.nil)
                  case' a82 =>
                    go_simp
                    refine hK _ _ ?_
                    clear hK K
                    try simp only [Act.put, List.setIfInBounds_toArray, List.set_cons_zero, List.set_cons_succ]
                    refine wpAny_ready (rs := [3]) (by kernel_rfl) (by simp) ?_
                    refine (AllReady.cons (o := uo3) rfl (fun K hK => ?a83) AllReady.nil)
                    case' a83 =>
                      go_simp
            case' a5 =>
              go_simp
              refine hK _ _ ?_
              clear hK K
              try simp only [Act.put, List.setIfInBounds_toArray, List.set_cons_zero, List.set_cons_succ]
              refine wpAny_ready (rs := [1, 2, 4]) (by kernel_rfl) (by simp) ?_
              refine (AllReady.cons (o := uo1) rfl (fun K hK => ?a86) (AllReady.cons (o := uo2) rfl (fun K hK => ?a85) (AllReady.cons (o := uo4) rfl (fun K hK => ?a84) AllReady.nil)))
              case' a86 =>
                go_simp
                refine hK _ _ ?_
                clear hK K
                try simp only [Act.put, List.setIfInBounds_toArray, List.set_cons_zero, List.set_cons_succ]
                refine wpAny_ready (rs := [2, 4]) (by kernel_rfl) (by simp) ?_
                refine (AllReady.cons (o := uo2) rfl (fun K hK => ?a88) (AllReady.cons (o := uo4) rfl (fun K hK => ?a87) AllReady.nil))
                case' a88 =>
                  go_simp
                  refine hK _ _ ?_
                  clear hK K
                  try simp only [Act.put, List.setIfInBounds_toArray, List.set_cons_zero, List.set_cons_succ]
                  refine wpAny_ready (rs := [3, 4]) (by kernel_rfl) (by simp) ?_
                  refine (AllReady.cons (o := uo3) rfl (fun K hK => ?a90) (AllReady.cons (o := uo4) rfl (fun K hK => ?a89) AllReady.nil))
                  case' a90 =>
                    go_simp
                  case' a89 =>
                    go_simp
                    refine hK _ _ ?_
                    clear hK K
                    try simp only [Act.put, List.setIfInBounds_toArray, List.set_cons_zero, List.set_cons_succ]
                    refine wpAny_ready (rs := [3]) (by kernel_rfl) (by simp) ?_
                    refine (AllReady.cons (o := uo3) rfl (fun K hK => ?a91) AllReady.nil)
                    case' a91 =>
                      go_simp
                case' a87 =>
                  go_simp
                  refine hK _ _ ?_
                  clear hK K
                  try simp only [Act.put, List.setIfInBounds_toArray, List.set_cons_zero, List.set_cons_succ]
                  refine wpAny_ready (rs := [2]) (by kernel_rfl) (by simp) ?_
                  refine (AllReady.cons (o := uo2) rfl (fun K hK => ?a92) AllReady.nil)
                  case' a92 =>
                    go_simp
                    refine hK _ _ ?_
                    clear hK K
                    try simp only [Act.put, List.setIfInBounds_toArray, List.set_cons_zero, List.set_cons_succ]
                    refine wpAny_ready (rs := [3]) (by kernel_rfl) (by simp) ?_
                    refine (AllReady.cons (o := uo3) rfl (fun K hK => ?a93) AllReady.nil)
                    case' a93 =>
                      go_simp
              case' a85 =>
                go_simp
                refine hK _ _ ?_
                clear hK K
                try simp only [Act.put, List.setIfInBounds_toArray, List.set_cons_zero, List.set_cons_succ]
                refine wpAny_ready (rs := [1, 4]) (by kernel_rfl) (by simp) ?_
                refine (AllReady.cons (o := uo1) rfl (fun K hK => ?a95) (AllReady.cons (o := uo4) rfl (fun K hK => ?a94) AllReady.nil))
                case' a95 =>
                  go_simp
                  refine hK _ _ ?_
                  clear hK K
                  try simp only [Act.put, List.setIfInBounds_toArray, List.set_cons_zero, List.set_cons_succ]
                  refine wpAny_ready (rs := [3, 4]) (by kernel_rfl) (by simp) ?_
                  refine (AllReady.cons (o := uo3) rfl (fun K hK => ?a97) (AllReady.cons (o := uo4) rfl (fun K hK => ?a96) AllReady.nil))
                  case' a97 =>
                    go_simp
                  case' a96 =>
                    go_simp
                    refine hK _ _ ?_
                    clear hK K
                    try simp only [Act.put, List.setIfInBounds_toArray, List.set_cons_zero, List.set_cons_succ]
                    refine wpAny_ready (rs := [3]) (by kernel_rfl) (by simp) ?_
                    refine (AllReady.cons (o := uo3) rfl (fun K hK => ?a98) AllReady.nil)
                    case' a98 =>
                      go_simp
                case' a94 =>
                  go_simp
                  refine hK _ _ ?_
                  clear hK K
                  try simp only [Act.put, List.setIfInBounds_toArray, List.set_cons_zero, List.set_cons_succ]
                  refine wpAny_ready (rs := [1]) (by kernel_rfl) (by simp) ?_
                  refine (AllReady.cons (o := uo1) rfl (fun K hK => ?a99) AllReady.nil)
                  case' a99 =>
                    go_simp
                    refine hK _ _ ?_
                    clear hK K
                    try simp only [Act.put, List.setIfInBounds_toArray, List.set_cons_zero, List.set_cons_succ]
                    refine wpAny_ready (rs := [3]) (by kernel_rfl) (by simp) ?_
                    refine (AllReady.cons (o := uo3) rfl (fun K hK => ?a100) AllReady.nil)
                    case' a100 =>
                      go_simp
              case' a84 =>
                go_simp
                refine hK _ _ ?_
                clear hK K
                try simp only [Act.put, List.setIfInBounds_toArray, List.set_cons_zero, List.set_cons_succ]
                refine wpAny_ready (rs := [1, 2]) (by kernel_rfl) (by simp) ?_
                refine (AllReady.cons (o := uo1) rfl (fun K hK => ?a102) (AllReady.cons (o := uo2) rfl (fun K hK => ?a101) AllReady.nil))
                case' a102 =>
                  go_simp
                  refine hK _ _ ?_
                  clear hK K
                  try simp only [Act.put, List.setIfInBounds_toArray, List.set_cons_zero, List.set_cons_succ]
                  refine wpAny_ready (rs := [2]) (by kernel_rfl) (by simp) ?_
                  refine (AllReady.cons (o := uo2) rfl (fun K hK => ?a103) AllReady.nil)
                  case' a103 =>
                    go_simp
                    refine hK _ _ ?_
                    clear hK K
                    try simp only [Act.put, List.setIfInBounds_toArray, List.set_cons_zero, List.set_cons_succ]
                    refine wpAny_ready (rs := [3]) (by kernel_rfl) (by simp) ?_
                    refine (AllReady.cons (o := uo3) rfl (fun K hK => ?a104) AllReady.nil)
                    case' a104 =>
                      go_simp
                case' a101 =>
                  go_simp
                  refine hK _ _ ?_
                  clear hK K
                  try simp only [Act.put, List.setIfInBounds_toArray, List.set_cons_zero, List.set_cons_succ]
                  refine wpAny_ready (rs := [1]) (by kernel_rfl) (by simp) ?_
                  refine (AllReady.cons (o := uo1) rfl (fun K hK => ?a105) AllReady.nil)
                  case' a105 =>
                    go_simp
                    refine hK _ _ ?_
                    clear hK K
                    try simp only [Act.put, List.setIfInBounds_toArray, List.set_cons_zero, List.set_cons_succ]
                    refine wpAny_ready (rs := [3]) (by kernel_rfl) (by simp) ?_
                    refine (AllReady.cons (o := uo3) rfl (fun K hK => ?a106) AllReady.nil)
                    case' a106 =>
                      go_simp
          case' a3 =>
            go_simp
            refine hK _ _ ?_
            clear hK K
            try simp only [Act.put, List.setIfInBounds_toArray, List.set_cons_zero, List.set_cons_succ]
            refine wpAny_ready (rs := [0, 2, 5]) (by kernel_rfl) (by simp) ?_
            refine (AllReady.cons (o := uo0) rfl (fun K hK => ?a109) (AllReady.cons (o := uo2) rfl (fun K hK => ?a108) (AllReady.cons (o := uo5) rfl (fun K hK => ?a107) AllReady.nil)))
            case' a109 =>
              go_simp
              refine hK _ _ ?_
              clear hK K
              try simp only [Act.put, List.setIfInBounds_toArray, List.set_cons_zero, List.set_cons_succ]
              refine wpAny_ready (rs := [2, 4, 5]) (by kernel_rfl) (by simp) ?_
              refine (AllReady.cons (o := uo2) rfl (fun K hK => ?a112) (AllReady.cons (o := uo4) rfl (fun K hK => ?a111) (AllReady.cons (o := uo5) rfl (fun K hK => ?a110) AllReady.nil)))
              case' a112 =>
                go_simp
                refine hK _ _ ?_
                clear hK K
                try simp only [Act.put, List.setIfInBounds_toArray, List.set_cons_zero, List.set_cons_succ]
                refine wpAny_ready (rs := [3, 4, 5]) (by kernel_rfl) (by simp) ?_
                refine (AllReady.cons (o := uo3) rfl (fun K hK => ?a115) (AllReady.cons (o := uo4) rfl (fun K hK => ?a114) (AllReady.cons (o := uo5) rfl (fun K hK => ?a113) AllReady.nil)))
                case' a115 =>
                  go_simp
                case' a114 =>
                  go_simp
                  refine hK _ _ ?_
                  clear hK K
                  try simp only [Act.put, List.setIfInBounds_toArray, List.set_cons_zero, List.set_cons_succ]
                  refine wpAny_ready (rs := [3, 5]) (by kernel_rfl) (by simp) ?_
                  refine (AllReady.cons (o := uo3) rfl (fun K hK => ?a117) (AllReady.cons (o := uo5) rfl (fun K hK => ?a116) AllReady.nil))
                  case' a117 =>
                    go_simp
                  case' a116 =>
                    go_simp
                    refine hK _ _ ?_
                    clear hK K
                    try simp only [Act.put, List.setIfInBounds_toArray, List.set_cons_zero, List.set_cons_succ]
                    refine wpAny_ready (rs := [3]) (by kernel_rfl) (by simp) ?_
                    refine (AllReady.cons (o := uo3) rfl (fun K hK => ?a118) AllReady.nil)
                    case' a118 =>
                      go_simp
                case' a113 =>
                  go_simp
                  refine hK _ _ ?_
                  clear hK K
                  try simp only [Act.put, List.setIfInBounds_toArray, List.set_cons_zero, List.set_cons_succ]
                  refine wpAny_ready (rs := [3, 4]) (by kernel_rfl) (by simp) ?_
                  refine (AllReady.cons (o := uo3) rfl (fun K hK => ?a120) (AllReady.cons (o := uo4) rfl (fun K hK => ?a119) AllReady.nil))
                  case' a120 =>
                    go_simp
                  case' a119 =>
                    go_simp
                    refine hK _ _ ?_
                    clear hK K
                    try simp only [Act.put, List.setIfInBounds_toArray, List.set_cons_zero, List.set_cons_succ]
                    refine wpAny_ready (rs := [3]) (by kernel_rfl) (by simp) ?_
                    refine (AllReady.cons (o := uo3) rfl (fun K hK => ?a121) AllReady.nil)
                    case' a121 =>
                      go_simp
              case' a111 =>
                go_simp
                refine hK _ _ ?_
                clear hK K
                try simp only [Act.put, List.setIfInBounds_toArray, List.set_cons_zero, List.set_cons_succ]
                refine wpAny_ready (rs := [2, 5]) (by kernel_rfl) (by simp) ?_
                refine (AllReady.cons (o := uo2) rfl (fun K hK => ?a123) (AllReady.cons (o := uo5) rfl (fun K hK => ?a122) AllReady.nil))
                case' a123 =>
                  go_simp
                  refine hK _ _ ?_
                  clear hK K
                  try simp only [Act.put, List.setIfInBounds_toArray, List.set_cons_zero, List.set_cons_succ]
                  refine wpAny_ready (rs := [3, 5]) (by kernel_rfl) (by simp) ?_
                  refine (AllReady.cons (o := uo3) rfl (fun K hK => ?a125) (AllReady.cons (o := uo5) rfl (fun K hK => ?a124) AllReady.nil))
                  case' a125 =>
                    go_simp
                  case' a124 =>
                    go_simp
                    refine hK _ _ ?_
                    clear hK K
                    try simp only [Act.put, List.setIfInBounds_toArray, List.set_cons_zero, List.set_cons_succ]
                    refine wpAny_ready (rs := [3]) (by kernel_rfl) (by simp) ?_
                    refine (AllReady.cons (o := uo3) rfl (fun K hK => ?a126) AllReady.nil)
                    case' a126 =>
                      go_simp
                case' a122 =>
                  go_simp
                  refine hK _ _ ?_
                  clear hK K
                  try simp only [Act.put, List.setIfInBounds_toArray, List.set_cons_zero, List.set_cons_succ]
                  refine wpAny_ready (rs := [2]) (by kernel_rfl) (by simp) ?_
                  refine (AllReady.cons (o := uo2) rfl (fun K hK => ?a127) AllReady.nil)
                  case' a127 =>
                    go_simp
                    refine hK _ _ ?_
                    clear hK K
                    try simp only [Act.put, List.setIfInBounds_toArray, List.set_cons_zero, List.set_cons_succ]
                    refine wpAny_ready (rs := [3]) (by kernel_rfl) (by simp) ?_
                    refine (AllReady.cons (o := uo3) rfl (fun K hK => ?a128) AllReady.nil)
                    case' a128 =>
                      go_simp
              case' a110 =>
                go_simp
                refine hK _ _ ?_
                clear hK K
                try simp only [Act.put, List.setIfInBounds_toArray, List.set_cons_zero, List.set_cons_succ]
                refine wpAny_ready (rs := [2, 4]) (by kernel_rfl) (by simp) ?_
                refine (AllReady.cons (o := uo2) rfl (fun K hK => ?a130) (AllReady.cons (o := uo4) rfl (fun K hK => ?a129) AllReady.nil))
                case' a130 =>
                  go_simp
                  refine hK _ _ ?_
                  clear hK K
                  try simp only [Act.put, List.setIfInBounds_toArray, List.set_cons_zero, List.set_cons_succ]
                  refine wpAny_ready (rs := [3, 4]) (by kernel_rfl) (by simp) ?_
                  refine (AllReady.cons (o := uo3) rfl (fun K hK => ?a132) (AllReady.cons (o := uo4) rfl (fun K hK => ?a131) AllReady.nil))
                  case' a132 =>
                    go_simp
                  case' a131 =>
                    go_simp
                    refine hK _ _ ?_
                    clear hK K
                    try simp only [Act.put, List.setIfInBounds_toArray, List.set_cons_zero, List.set_cons_succ]
                    refine wpAny_ready (rs := [3]) (by kernel_rfl) (by simp) ?_
                    refine (AllReady.cons (o := uo3) rfl (fun K hK => ?a133) AllReady.nil)
                    case' a133 =>
                      go_simp
                case' a129 =>
                  go_simp
                  refine hK _ _ ?_
                  clear hK K
                  try simp only [Act.put, List.setIfInBounds_toArray, List.set_cons_zero, List.set_cons_succ]
                  refine wpAny_ready (rs := [2]) (by kernel_rfl) (by simp) ?_
                  refine (AllReady.cons (o := uo2) rfl (fun K hK => ?a134) AllReady.nil)
                  case' a134 =>
                    go_simp
                    refine hK _ _ ?_
                    clear hK K
                    try simp only [Act.put, List.setIfInBounds_toArray, List.set_cons_zero, List.set_cons_succ]
                    refine wpAny_ready (rs := [3]) (by kernel_rfl) (by simp) ?_
                    refine (AllReady.cons (o := uo3) rfl (fun K hK => ?a135) AllReady.nil)
                    case' a135 =>
                      go_simp
            case' a108 =>
              go_simp
              refine hK _ _ ?_
              clear hK K
              try simp only [Act.put, List.setIfInBounds_toArray, List.set_cons_zero, List.set_cons_succ]
              refine wpAny_ready (rs := [0, 3, 5]) (by kernel_rfl) (by simp) ?_
              refine (AllReady.cons (o := uo0) rfl (fun K hK => ?a138) (AllReady.cons (o := uo3) rfl (fun K hK => ?a137) (AllReady.cons (o := uo5) rfl (fun K hK => ?a136) AllReady.nil)))
              case' a138 =>
                go_simp
                refine hK _ _ ?_
                clear hK K
                try simp only [Act.put, List.setIfInBounds_toArray, List.set_cons_zero, List.set_cons_succ]
                refine wpAny_ready (rs := [3, 4, 5]) (by kernel_rfl) (by simp) ?_
                refine (AllReady.cons (o := uo3) rfl (fun K hK => ?a141) (AllReady.cons (o := uo4) rfl (fun K hK => ?a140) (AllReady.cons (o := uo5) rfl (fun K hK => ?a139) AllReady.nil)))
                case' a141 =>
                  go_simp
                case' a140 =>
                  go_simp
                  refine hK _ _ ?_
                  clear hK K
                  try simp only [Act.put, List.setIfInBounds_toArray, List.set_cons_zero, List.set_cons_succ]
                  refine wpAny_ready (rs := [3, 5]) (by kernel_rfl) (by simp) ?_
                  refine (AllReady.cons (o := uo3) rfl (fun K hK => ?a143) (AllReady.cons (o := uo5) rfl (fun K hK => ?a142) AllReady.nil))
                  case' a143 =>
                    go_simp
                  case' a142 =>
                    go_simp
                    refine hK _ _ ?_
                    clear hK K
                    try simp only [Act.put, List.setIfInBounds_toArray, List.set_cons_zero, List.set_cons_succ]
                    refine wpAny_ready (rs := [3]) (by kernel_rfl) (by simp) ?_
                    refine (AllReady.cons (o := uo3) rfl (fun K hK => ?a144) AllReady.nil)
                    case' a144 =>
                      go_simp
                case' a139 =>
                  go_simp
                  refine hK _ _ ?_
                  clear hK K
                  try simp only [Act.put, List.setIfInBounds_toArray, List.set_cons_zero, List.set_cons_succ]
                  refine wpAny_ready (rs := [3, 4]) (by kernel_rfl) (by simp) ?_
                  refine (AllReady.cons (o := uo3) rfl (fun K hK => ?a146) (AllReady.cons (o := uo4) rfl (fun K hK => ?a145) AllReady.nil))
                  case' a146 =>
                    go_simp
                  case' a145 =>
                    go_simp
                    refine hK _ _ ?_
                    clear hK K
                    try simp only [Act.put, List.setIfInBounds_toArray, List.set_cons_zero, List.set_cons_succ]
                    refine wpAny_ready (rs := [3]) (by kernel_rfl) (by simp) ?_
                    refine (AllReady.cons (o := uo3) rfl (fun K hK => ?a147) AllReady.nil)
                    case' a147 =>
                      go_simp
              case' a137 =>
                go_simp
              case' a136 =>
                go_simp
                refine hK _ _ ?_
                clear hK K
                try simp only [Act.put, List.setIfInBounds_toArray, List.set_cons_zero, List.set_cons_succ]
                refine wpAny_ready (rs := [0, 3]) (by kernel_rfl) (by simp) ?_
                refine (AllReady.cons (o := uo0) rfl (fun K hK => ?a149) (AllReady.cons (o := uo3) rfl (fun K hK => ?a148) AllReady.nil))
                case' a149 =>
                  go_simp
                  refine hK _ _ ?_
                  clear hK K
                  try simp only [Act.put, List.setIfInBounds_toArray, List.set_cons_zero, List.set_cons_succ]
                  refine wpAny_ready (rs := [3, 4]) (by kernel_rfl) (by simp) ?_
                  refine (AllReady.cons (o := uo3) rfl (fun K hK => ?a151) (AllReady.cons (o := uo4) rfl (fun K hK => ?a150) AllReady.nil))
                  case' a151 =>
                    go_simp
                  case' a150 =>
                    go_simp
                    refine hK _ _ ?_
                    clear hK K
                    try simp only [Act.put, List.setIfInBounds_toArray, List.set_cons_zero, List.set_cons_succ]
                    refine wpAny_ready (rs := [3]) (by kernel_rfl) (by simp) ?_
                    refine (AllReady.cons (o := uo3) rfl (fun K hK => ?a152) AllReady.nil)
                    case' a152 =>
                      go_simp
                case' a148 =>
                  go_simp
            case' a107 =>
              go_simp
              refine hK _ _ ?_
              clear hK K
              try simp only [Act.put, List.setIfInBounds_toArray, List.set_cons_zero, List.set_cons_succ]
              refine wpAny_ready (rs := [0, 2]) (by kernel_rfl) (by simp) ?_
              refine (AllReady.cons (o := uo0) rfl (fun K hK => ?a154) (AllReady.cons (o := uo2) rfl (fun K hK => ?a153) AllReady.nil))
              case' a154 =>
                go_simp
                refine hK _ _ ?_
                clear hK K
                try simp only [Act.put, List.setIfInBounds_toArray, List.set_cons_zero, List.set_cons_succ]
                refine wpAny_ready (rs := [2, 4]) (by kernel_rfl) (by simp) ?_
                refine (AllReady.cons (o := uo2) rfl (fun K hK => ?a156) (AllReady.cons (o := uo4) rfl (fun K hK => ?a155) AllReady.nil))
                case' a156 =>
                  go_simp
                  refine hK _ _ ?_
                  clear hK K
                  try simp only [Act.put, List.setIfInBounds_toArray, List.set_cons_zero, List.set_cons_succ]
                  refine wpAny_ready (rs := [3, 4]) (by kernel_rfl) (by simp) ?_
                  refine (AllReady.cons (o := uo3) rfl (fun K hK => ?a158) (AllReady.cons (o := uo4) rfl (fun K hK => ?a157) AllReady.nil))
                  case' a158 =>
                    go_simp
                  case' a157 =>
                    go_simp
                    refine hK _ _ ?_
                    clear hK K
                    try simp only [Act.put, List.setIfInBounds_toArray, List.set_cons_zero, List.set_cons_succ]
                    refine wpAny_ready (rs := [3]) (by kernel_rfl) (by simp) ?_
                    refine (AllReady.cons (o := uo3) rfl (fun K hK => ?a159) AllReady.nil)
                    case' a159 =>
                      go_simp
                case' a155 =>
                  go_simp
                  refine hK _ _ ?_
                  clear hK K
                  try simp only [Act.put, List.setIfInBounds_toArray, List.set_cons_zero, List.set_cons_succ]
                  refine wpAny_ready (rs := [2]) (by kernel_rfl) (by simp) ?_
                  refine (AllReady.cons (o := uo2) rfl (fun K hK => ?a160) AllReady.nil)
                  case' a160 =>
                    go_simp
                    refine hK _ _ ?_
                    clear hK K
                    try simp only [Act.put, List.setIfInBounds_toArray, List.set_cons_zero, List.set_cons_succ]
                    refine wpAny_ready (rs := [3]) (by kernel_rfl) (by simp) ?_
                    refine (AllReady.cons (o := uo3) rfl (fun K hK => ?a161) AllReady.nil)
                    case' a161 =>
                      go_simp
              case' a153 =>
                go_simp
                refine hK _ _ ?_
                clear hK K
                try simp only [Act.put, List.setIfInBounds_toArray, List.set_cons_zero, List.set_cons_succ]
                refine wpAny_ready (rs := [0, 3]) (by kernel_rfl) (by simp) ?_
                refine (AllReady.cons (o := uo0) rfl (fun K hK => ?a163) (AllReady.cons (o := uo3) rfl (fun K hK => ?a162) AllReady.nil))
                case' a163 =>
                  go_simp
                  refine hK _ _ ?_
                  clear hK K
                  try simp only [Act.put, List.setIfInBounds_toArray, List.set_cons_zero, List.set_cons_succ]
                  refine wpAny_ready (rs := [3, 4]) (by kernel_rfl) (by simp) ?_
                  refine (AllReady.cons (o := uo3) rfl (fun K hK => ?a165) (AllReady.cons (o := uo4) rfl (fun K hK => ?a164) AllReady.nil))
                  case' a165 =>
                    go_simp
                  case' a164 =>
                    go_simp
                    refine hK _ _ ?_
                    clear hK K
                    try simp only [Act.put, List.setIfInBounds_toArray, List.set_cons_zero, List.set_cons_succ]
                    refine wpAny_ready (rs := [3]) (by kernel_rfl) (by simp) ?_
                    refine (AllReady.cons (o := uo3) rfl (fun K hK => ?a166) AllReady.nil)
                    case' a166 =>
                      go_simp
                case' a162 =>
                  go_simp
          case' a2 =>
            go_simp
            refine hK _ _ ?_
            clear hK K
            try simp only [Act.put, List.setIfInBounds_toArray, List.set_cons_zero, List.set_cons_succ]
            refine wpAny_ready (rs := [0, 1, 5]) (by kernel_rfl) (by simp) ?_
            refine (AllReady.cons (o := uo0) rfl (fun K hK => ?a169) (AllReady.cons (o := uo1) rfl (fun K hK => ?a168) (AllReady.cons (o := uo5) rfl (fun K hK => ?a167) AllReady.nil)))
            case' a169 =>
              go_simp
              refine hK _ _ ?_
              clear hK K
              try simp only [Act.put, List.setIfInBounds_toArray, List.set_cons_zero, List.set_cons_succ]
              refine wpAny_ready (rs := [1, 4, 5]) (by kernel_rfl) (by simp) ?_
              refine (AllReady.cons (o := uo1) rfl (fun K hK => ?a172) (AllReady.cons (o := uo4) rfl (fun K hK => ?a171) (AllReady.cons (o := uo5) rfl (fun K hK => ?a170) AllReady.nil)))
              case' a172 =>
                go_simp
                refine hK _ _ ?_
                clear hK K
                try simp only [Act.put, List.setIfInBounds_toArray, List.set_cons_zero, List.set_cons_succ]
                refine wpAny_ready (rs := [3, 4, 5]) (by kernel_rfl) (by simp) ?_
                refine (AllReady.cons (o := uo3) rfl (fun K hK => ?a175) (AllReady.cons (o := uo4) rfl (fun K hK => ?a174) (AllReady.cons (o := uo5) rfl (fun K hK => ?a173) AllReady.nil)))
                case' a175 =>
                  go_simp
                case' a174 =>
                  go_simp
                  refine hK _ _ ?_
                  clear hK K
                  try simp only [Act.put, List.setIfInBounds_toArray, List.set_cons_zero, List.set_cons_succ]
                  refine wpAny_ready (rs := [3, 5]) (by kernel_rfl) (by simp) ?_
                  refine (AllReady.cons (o := uo3) rfl (fun K hK => ?a177) (AllReady.cons (o := uo5) rfl (fun K hK => ?a176) AllReady.nil))
                  case' a177 =>
                    go_simp
                  case' a176 =>
                    go_simp
                    refine hK _ _ ?_
                    clear hK K
                    try simp only [Act.put, List.setIfInBounds_toArray, List.set_cons_zero, List.set_cons_succ]
                    refine wpAny_ready (rs := [3]) (by kernel_rfl) (by simp) ?_
                    refine (AllReady.cons (o := uo3) rfl (fun K hK => ?a178) AllReady.nil)
                    case' a178 =>
                      go_simp
                case' a173 =>
                  go_simp
                  refine hK _ _ ?_
                  clear hK K
                  try simp only [Act.put, List.setIfInBounds_toArray, List.set_cons_zero, List.set_cons_succ]
                  refine wpAny_ready (rs := [3, 4]) (by kernel_rfl) (by simp) ?_
                  refine (AllReady.cons (o := uo3) rfl (fun K hK => ?a180) (AllReady.cons (o := uo4) rfl (fun K hK => ?a179) AllReady.nil))
                  case' a180 =>
                    go_simp
                  case' a179 =>
                    go_simp
                    refine hK _ _ ?_
                    clear hK K
                    try simp only [Act.put, List.setIfInBounds_toArray, List.set_cons_zero, List.set_cons_succ]
                    refine wpAny_ready (rs := [3]) (by kernel_rfl) (by simp) ?_
                    refine (AllReady.cons (o := uo3) rfl (fun K hK => ?a181) AllReady.nil)
                    case' a181 =>
                      go_simp
              case' a171 =>
                go_simp
                refine hK _ _ ?_
                clear hK K
                try simp only [Act.put, List.setIfInBounds_toArray, List.set_cons_zero, List.set_cons_succ]
                refine wpAny_ready (rs := [1, 5]) (by kernel_rfl) (by simp) ?_
                refine (AllReady.cons (o := uo1) rfl (fun K hK => ?a183) (AllReady.cons (o := uo5) rfl (fun K hK => ?a182) AllReady.nil))
                case' a183 =>
                  go_simp
                  refine hK _ _ ?_
                  clear hK K
                  try simp only [Act.put, List.setIfInBounds_toArray, List.set_cons_zero, List.set_cons_succ]
                  refine wpAny_ready (rs := [3, 5]) (by kernel_rfl) (by simp) ?_
                  refine (AllReady.cons (o := uo3) rfl (fun K hK => ?a185) (AllReady.cons (o := uo5) rfl (fun K hK => ?a184) AllReady.nil))
                  case' a185 =>
                    go_simp
                  case' a184 =>
                    go_simp
                    refine hK _ _ ?_
                    clear hK K
                    try simp only [Act.put, List.setIfInBounds_toArray, List.set_cons_zero, List.set_cons_succ]
                    refine wpAny_ready (rs := [3]) (by kernel_rfl) (by simp) ?_
                    refine (AllReady.cons (o := uo3) rfl (fun K hK => ?a186) AllReady.nil)
                    case' a186 =>
                      go_simp
                case' a182 =>
                  go_simp
                  refine hK _ _ ?_
                  clear hK K
                  try simp only [Act.put, List.setIfInBounds_toArray, List.set_cons_zero, List.set_cons_succ]
                  refine wpAny_ready (rs := [1]) (by kernel_rfl) (by simp) ?_
                  refine (AllReady.cons (o := uo1) rfl (fun K hK => ?a187) AllReady.nil)
                  case' a187 =>
                    go_simp
                    refine hK _ _ ?_
                    clear hK K
                    try simp only [Act.put, List.setIfInBounds_toArray, List.set_cons_zero, List.set_cons_succ]
                    refine wpAny_ready (rs := [3]) (by kernel_rfl) (by simp) ?_
                    refine (AllReady.cons (o := uo3) rfl (fun K hK => ?a188) AllReady.nil)
                    case' a188 =>
                      go_simp
              case' a170 =>
                go_simp
                refine hK _ _ ?_
                clear hK K
                try simp only [Act.put, List.setIfInBounds_toArray, List.set_cons_zero, List.set_cons_succ]
                refine wpAny_ready (rs := [1, 4]) (by kernel_rfl) (by simp) ?_
                refine (AllReady.cons (o := uo1) rfl (fun K hK => ?a190) (AllReady.cons (o := uo4) rfl (fun K hK => ?a189) AllReady.nil))
                case' a190 =>
                  go_simp
                  refine hK _ _ ?_
                  clear hK K
                  try simp only [Act.put, List.setIfInBounds_toArray, List.set_cons_zero, List.set_cons_succ]
                  refine wpAny_ready (rs := [3, 4]) (by kernel_rfl) (by simp) ?_
                  refine (AllReady.cons (o := uo3) rfl (fun K hK => ?a192) (AllReady.cons (o := uo4) rfl (fun K hK => ?a191) AllReady.nil))
                  case' a192 =>
                    go_simp
                  case' a191 =>
                    go_simp
                    refine hK _ _ ?_
                    clear hK K
                    try simp only [Act.put, List.setIfInBounds_toArray, List.set_cons_zero, List.set_cons_succ]
                    refine wpAny_ready (rs := [3]) (by kernel_rfl) (by simp) ?_
                    refine (AllReady.cons (o := uo3) rfl (fun K hK => ?a193) AllReady.nil)
                    case' a193 =>
                      go_simp
                case' a189 =>
                  go_simp
                  refine hK _ _ ?_
                  clear hK K
                  try simp only [Act.put, List.setIfInBounds_toArray, List.set_cons_zero, List.set_cons_succ]
                  refine wpAny_ready (rs := [1]) (by kernel_rfl) (by simp) ?_
                  refine (AllReady.cons (o := uo1) rfl (fun K hK => ?a194) AllReady.nil)
                  case' a194 =>
                    go_simp
                    refine hK _ _ ?_
                    clear hK K
                    try simp only [Act.put, List.setIfInBounds_toArray, List.set_cons_zero, List.set_cons_succ]
                    refine wpAny_ready (rs := [3]) (by kernel_rfl) (by simp) ?_
                    refine (AllReady.cons (o := uo3) rfl (fun K hK => ?a195) AllReady.nil)
                    case' a195 =>
                      go_simp
            case' a168 =>
              go_simp
              refine hK _ _ ?_
              clear hK K
              try simp only [Act.put, List.setIfInBounds_toArray, List.set_cons_zero, List.set_cons_succ]
              refine wpAny_ready (rs := [0, 3, 5]) (by kernel_rfl) (by simp) ?_
              refine (AllReady.cons (o := uo0) rfl (fun K hK => ?a198) (AllReady.cons (o := uo3) rfl (fun K hK => ?a197) (AllReady.cons (o := uo5) rfl (fun K hK => ?a196) AllReady.nil)))
              case' a198 =>
                go_simp
                refine hK _ _ ?_
                clear hK K
                try simp only [Act.put, List.setIfInBounds_toArray, List.set_cons_zero, List.set_cons_succ]
                refine wpAny_ready (rs := [3, 4, 5]) (by kernel_rfl) (by simp) ?_
                refine (AllReady.cons (o := uo3) rfl (fun K hK => ?a201) (AllReady.cons (o := uo4) rfl (fun K hK => ?a200) (AllReady.cons (o := uo5) rfl (fun K hK => ?a199) AllReady.nil)))
                case' a201 =>
                  go_simp
                case' a200 =>
                  go_simp
                  refine hK _ _ ?_
                  clear hK K
                  try simp only [Act.put, List.setIfInBounds_toArray, List.set_cons_zero, List.set_cons_succ]
                  refine wpAny_ready (rs := [3, 5]) (by kernel_rfl) (by simp) ?_
                  refine (AllReady.cons (o := uo3) rfl (fun K hK => ?a203) (AllReady.cons (o := uo5) rfl (fun K hK => ?a202) AllReady.nil))
                  case' a203 =>
                    go_simp
                  case' a202 =>
                    go_simp
                    refine hK _ _ ?_
                    clear hK K
                    try simp only [Act.put, List.setIfInBounds_toArray, List.set_cons_zero, List.set_cons_succ]
                    refine wpAny_ready (rs := [3]) (by kernel_rfl) (by simp) ?_
                    refine (AllReady.cons (o := uo3) rfl (fun K hK => ?a204) AllReady.nil)
                    case' a204 =>
                      go_simp
                case' a199 =>
                  go_simp
                  refine hK _ _ ?_
                  clear hK K
                  try simp only [Act.put, List.setIfInBounds_toArray, List.set_cons_zero, List.set_cons_succ]
                  refine wpAny_ready (rs := [3, 4]) (by kernel_rfl) (by simp) ?_
                  refine (AllReady.cons (o := uo3) rfl (fun K hK => ?a206) (AllReady.cons (o := uo4) rfl (fun K hK => ?a205) AllReady.nil))
                  case' a206 =>
                    go_simp
                  case' a205 =>
                    go_simp
                    refine hK _ _ ?_
                    clear hK K
                    try simp only [Act.put, List.setIfInBounds_toArray, List.set_cons_zero, List.set_cons_succ]
                    refine wpAny_ready (rs := [3]) (by kernel_rfl) (by simp) ?_
                    refine (AllReady.cons (o := uo3) rfl (fun K hK => ?a207) AllReady.nil)
                    case' a207 =>
                      go_simp
              case' a197 =>
                go_simp
              case' a196 =>
                go_simp
                refine hK _ _ ?_
                clear hK K
                try simp only [Act.put, List.setIfInBounds_toArray, List.set_cons_zero, List.set_cons_succ]
                refine wpAny_ready (rs := [0, 3]) (by kernel_rfl) (by simp) ?_
                refine (AllReady.cons (o := uo0) rfl (fun K hK => ?a209) (AllReady.cons (o := uo3) rfl (fun K hK => ?a208) AllReady.nil))
                case' a209 =>
                  go_simp
                  refine hK _ _ ?_
                  clear hK K
                  try simp only [Act.put, List.setIfInBounds_toArray, List.set_cons_zero, List.set_cons_succ]
                  refine wpAny_ready (rs := [3, 4]) (by kernel_rfl) (by simp) ?_
                  refine (AllReady.cons (o := uo3) rfl (fun K hK => ?a211) (AllReady.cons (o := uo4) rfl (fun K hK => ?a210) AllReady.nil))
                  case' a211 =>
                    go_simp
                  case' a210 =>
                    go_simp
                    refine hK _ _ ?_
                    clear hK K
                    try simp only [Act.put, List.setIfInBounds_toArray, List.set_cons_zero, List.set_cons_succ]
                    refine wpAny_ready (rs := [3]) (by kernel_rfl) (by simp) ?_
                    refine (AllReady.cons (o := uo3) rfl (fun K hK => ?a212) AllReady.nil)
                    case' a212 =>
                      go_simp
                case' a208 =>
                  go_simp
            case' a167 =>
              go_simp
              refine hK _ _ ?_
              clear hK K
              try simp only [Act.put, List.setIfInBounds_toArray, List.set_cons_zero, List.set_cons_succ]
              refine wpAny_ready (rs := [0, 1]) (by kernel_rfl) (by simp) ?_
              refine (AllReady.cons (o := uo0) rfl (fun K hK => ?a214) (AllReady.cons (o := uo1) rfl (fun K hK => ?a213) AllReady.nil))
              case' a214 =>
                go_simp
                refine hK _ _ ?_
                clear hK K
                try simp only [Act.put, List.setIfInBounds_toArray, List.set_cons_zero, List.set_cons_succ]
                refine wpAny_ready (rs := [1, 4]) (by kernel_rfl) (by simp) ?_
                refine (AllReady.cons (o := uo1) rfl (fun K hK => ?a216) (AllReady.cons (o := uo4) rfl (fun K hK => ?a215) AllReady.nil))
                case' a216 =>
                  go_simp
                  refine hK _ _ ?_
                  clear hK K
                  try simp only [Act.put, List.setIfInBounds_toArray, List.set_cons_zero, List.set_cons_succ]
                  refine wpAny_ready (rs := [3, 4]) (by kernel_rfl) (by simp) ?_
                  refine (AllReady.cons (o := uo3) rfl (fun K hK => ?a218) (AllReady.cons (o := uo4) rfl (fun K hK => ?a217) AllReady.nil))
                  case' a218 =>
                    go_simp
                  case' a217 =>
                    go_simp
                    refine hK _ _ ?_
                    clear hK K
                    try simp only [Act.put, List.setIfInBounds_toArray, List.set_cons_zero, List.set_cons_succ]
                    refine wpAny_ready (rs := [3]) (by kernel_rfl) (by simp) ?_
                    refine (AllReady.cons (o := uo3) rfl (fun K hK => ?a219) AllReady.nil)
                    case' a219 =>
                      go_simp
                case' a215 =>
                  go_simp
                  refine hK _ _ ?_
                  clear hK K
                  try simp only [Act.put, List.setIfInBounds_toArray, List.set_cons_zero, List.set_cons_succ]
                  refine wpAny_ready (rs := [1]) (by kernel_rfl) (by simp) ?_
                  refine (AllReady.cons (o := uo1) rfl (fun K hK => ?a220) AllReady.nil)
                  case' a220 =>
                    go_simp
                    refine hK _ _ ?_
                    clear hK K
                    try simp only [Act.put, List.setIfInBounds_toArray, List.set_cons_zero, List.set_cons_succ]
                    refine wpAny_ready (rs := [3]) (by kernel_rfl) (by simp) ?_
                    refine (AllReady.cons (o := uo3) rfl (fun K hK => ?a221) AllReady.nil)
                    case' a221 =>
                      go_simp
              case' a213 =>
                go_simp
                refine hK _ _ ?_
                clear hK K
                try simp only [Act.put, List.setIfInBounds_toArray, List.set_cons_zero, List.set_cons_succ]
                refine wpAny_ready (rs := [0, 3]) (by kernel_rfl) (by simp) ?_
                refine (AllReady.cons (o := uo0) rfl (fun K hK => ?a223) (AllReady.cons (o := uo3) rfl (fun K hK => ?a222) AllReady.nil))
                case' a223 =>
                  go_simp
                  refine hK _ _ ?_
                  clear hK K
                  try simp only [Act.put, List.setIfInBounds_toArray, List.set_cons_zero, List.set_cons_succ]
                  refine wpAny_ready (rs := [3, 4]) (by kernel_rfl) (by simp) ?_
                  refine (AllReady.cons (o := uo3) rfl (fun K hK => ?a225) (AllReady.cons (o := uo4) rfl (fun K hK => ?a224) AllReady.nil))
                  case' a225 =>
                    go_simp
                  case' a224 =>
                    go_simp
                    refine hK _ _ ?_
                    clear hK K
                    try simp only [Act.put, List.setIfInBounds_toArray, List.set_cons_zero, List.set_cons_succ]
                    refine wpAny_ready (rs := [3]) (by kernel_rfl) (by simp) ?_
                    refine (AllReady.cons (o := uo3) rfl (fun K hK => ?a226) AllReady.nil)
                    case' a226 =>
                      go_simp
                case' a222 =>
                  go_simp
          case' a1 =>
            go_simp
            refine hK _ _ ?_
            clear hK K
            try simp only [Act.put, List.setIfInBounds_toArray, List.set_cons_zero, List.set_cons_succ]
            refine wpAny_ready (rs := [0, 1, 2]) (by kernel_rfl) (by simp) ?_
            refine (AllReady.cons (o := uo0) rfl (fun K hK => ?a229) (AllReady.cons (o := uo1) rfl (fun K hK => ?a228) (AllReady.cons (o := uo2) rfl (fun K hK => ?a227) AllReady.nil)))
            case' a229 =>
              go_simp
              refine hK _ _ ?_
              clear hK K
              try simp only [Act.put, List.setIfInBounds_toArray, List.set_cons_zero, List.set_cons_succ]
              refine wpAny_ready (rs := [1, 2, 4]) (by kernel_rfl) (by simp) ?_
              refine (AllReady.cons (o := uo1) rfl (fun K hK => ?a232) (AllReady.cons (o := uo2) rfl (fun K hK => ?a231) (AllReady.cons (o := uo4) rfl (fun K hK => ?a230) AllReady.nil)))
              case' a232 =>
                go_simp
                refine hK _ _ ?_
                clear hK K
                try simp only [Act.put, List.setIfInBounds_toArray, List.set_cons_zero, List.set_cons_succ]
                refine wpAny_ready (rs := [2, 4]) (by kernel_rfl) (by simp) ?_
                refine (AllReady.cons (o := uo2) rfl (fun K hK => ?a234) (AllReady.cons (o := uo4) rfl (fun K hK => ?a233) AllReady.nil))
                case' a234 =>
                  go_simp
                  refine hK _ _ ?_
                  clear hK K
                  try simp only [Act.put, List.setIfInBounds_toArray, List.set_cons_zero, List.set_cons_succ]
                  refine wpAny_ready (rs := [3, 4]) (by kernel_rfl) (by simp) ?_
                  refine (AllReady.cons (o := uo3) rfl (fun K hK => ?a236) (AllReady.cons (o := uo4) rfl (fun K hK => ?a235) AllReady.nil))
                  case' a236 =>
                    go_simp
                  case' a235 =>
                    go_simp
                    refine hK _ _ ?_
                    clear hK K
                    try simp only [Act.put, List.setIfInBounds_toArray, List.set_cons_zero, List.set_cons_succ]
                    refine wpAny_ready (rs := [3]) (by kernel_rfl) (by simp) ?_
                    refine (AllReady.cons (o := uo3) rfl (fun K hK => ?a237) AllReady.nil)
                    case' a237 =>
                      go_simp
                case' a233 =>
                  go_simp
                  refine hK _ _ ?_
                  clear hK K
                  try simp only [Act.put, List.setIfInBounds_toArray, List.set_cons_zero, List.set_cons_succ]
                  refine wpAny_ready (rs := [2]) (by kernel_rfl) (by simp) ?_
                  refine (AllReady.cons (o := uo2) rfl (fun K hK => ?a238) AllReady.nil)
                  case' a238 =>
                    go_simp
                    refine hK _ _ ?_
                    clear hK K
                    try simp only [Act.put, List.setIfInBounds_toArray, List.set_cons_zero, List.set_cons_succ]
                    refine wpAny_ready (rs := [3]) (by kernel_rfl) (by simp) ?_
                    refine (AllReady.cons (o := uo3) rfl (fun K hK => ?a239) AllReady.nil)
                    case' a239 =>
                      go_simp
              case' a231 =>
                go_simp
                refine hK _ _ ?_
                clear hK K
                try simp only [Act.put, List.setIfInBounds_toArray, List.set_cons_zero, List.set_cons_succ]
                refine wpAny_ready (rs := [1, 4]) (by kernel_rfl) (by simp) ?_
                refine (AllReady.cons (o := uo1) rfl (fun K hK => ?a241) (AllReady.cons (o := uo4) rfl (fun K hK => ?a240) AllReady.nil))
                case' a241 =>
                  go_simp
                  refine hK _ _ ?_
                  clear hK K
                  try simp only [Act.put, List.setIfInBounds_toArray, List.set_cons_zero, List.set_cons_succ]
                  refine wpAny_ready (rs := [3, 4]) (by kernel_rfl) (by simp) ?_
                  refine (AllReady.cons (o := uo3) rfl (fun K hK => ?a243) (AllReady.cons (o := uo4) rfl (fun K hK => ?a242) AllReady.nil))
                  case' a243 =>
                    go_simp
                  case' a242 =>
                    go_simp
                    refine hK _ _ ?_
                    clear hK K
                    try simp only [Act.put, List.setIfInBounds_toArray, List.set_cons_zero, List.set_cons_succ]
                    refine wpAny_ready (rs := [3]) (by kernel_rfl) (by simp) ?_
                    refine (AllReady.cons (o := uo3) rfl (fun K hK => ?a244) AllReady.nil)
                    case' a244 =>
                      go_simp
                case' a240 =>
                  go_simp
                  refine hK _ _ ?_
                  clear hK K
                  try simp only [Act.put, List.setIfInBounds_toArray, List.set_cons_zero, List.set_cons_succ]
                  refine wpAny_ready (rs := [1]) (by kernel_rfl) (by simp) ?_
                  refine (AllReady.cons (o := uo1) rfl (fun K hK => ?a245) AllReady.nil)
                  case' a245 =>
                    go_simp
                    refine hK _ _ ?_
                    clear hK K
                    try simp only [Act.put, List.setIfInBounds_toArray, List.set_cons_zero, List.set_cons_succ]
                    refine wpAny_ready (rs := [3]) (by kernel_rfl) (by simp) ?_
                    refine (AllReady.cons (o := uo3) rfl (fun K hK => ?a246) AllReady.nil)
                    case' a246 =>
                      go_simp
              case' a230 =>
                go_simp
                refine hK _ _ ?_
                clear hK K
                try simp only [Act.put, List.setIfInBounds_toArray, List.set_cons_zero, List.set_cons_succ]
                refine wpAny_ready (rs := [1, 2]) (by kernel_rfl) (by simp) ?_
                refine (AllReady.cons (o := uo1) rfl (fun K hK => ?a248) (AllReady.cons (o := uo2) rfl (fun K hK => ?a247) AllReady.nil))
                case' a248 =>
                  go_simp
                  refine hK _ _ ?_
                  clear hK K
                  try simp only [Act.put, List.setIfInBounds_toArray, List.set_cons_zero, List.set_cons_succ]
                  refine wpAny_ready (rs := [2]) (by kernel_rfl) (by simp) ?_
                  refine (AllReady.cons (o := uo2) rfl (fun K hK => ?a249) AllReady.nil)
                  case' a249 =>
                    go_simp
                    refine hK _ _ ?_
                    clear hK K
                    try simp only [Act.put, List.setIfInBounds_toArray, List.set_cons_zero, List.set_cons_succ]
                    refine wpAny_ready (rs := [3]) (by kernel_rfl) (by simp) ?_
                    refine (AllReady.cons (o := uo3) rfl (fun K hK => ?a250) AllReady.nil)
                    case' a250 =>
                      go_simp
                case' a247 =>
                  go_simp
                  refine hK _ _ ?_
                  clear hK K
                  try simp only [Act.put, List.setIfInBounds_toArray, List.set_cons_zero, List.set_cons_succ]
                  refine wpAny_ready (rs := [1]) (by kernel_rfl) (by simp) ?_
                  refine (AllReady.cons (o := uo1) rfl (fun K hK => ?a251) AllReady.nil)
                  case' a251 =>
                    go_simp
                    refine hK _ _ ?_
                    clear hK K
                    try simp only [Act.put, List.setIfInBounds_toArray, List.set_cons_zero, List.set_cons_succ]
                    refine wpAny_ready (rs := [3]) (by kernel_rfl) (by simp) ?_
                    refine (AllReady.cons (o := uo3) rfl (fun K hK => ?a252) AllReady.nil)
                    case' a252 =>
                      go_simp
            case' a228 =>
              go_simp
              refine hK _ _ ?_
              clear hK K
              try simp only [Act.put, List.setIfInBounds_toArray, List.set_cons_zero, List.set_cons_succ]
              refine wpAny_ready (rs := [0, 2]) (by kernel_rfl) (by simp) ?_
              refine (AllReady.cons (o := uo0) rfl (fun K hK => ?a254) (AllReady.cons (o := uo2) rfl (fun K hK => ?a253) AllReady.nil))
              case' a254 =>
                go_simp
                refine hK _ _ ?_
                clear hK K
                try simp only [Act.put, List.setIfInBounds_toArray, List.set_cons_zero, List.set_cons_succ]
                refine wpAny_ready (rs := [2, 4]) (by kernel_rfl) (by simp) ?_
                refine (AllReady.cons (o := uo2) rfl (fun K hK => ?a256) (AllReady.cons (o := uo4) rfl (fun K hK => ?a255) AllReady.nil))
                case' a256 =>
                  go_simp
                  refine hK _ _ ?_
                  clear hK K
                  try simp only [Act.put, List.setIfInBounds_toArray, List.set_cons_zero, List.set_cons_succ]
                  refine wpAny_ready (rs := [3, 4]) (by kernel_rfl) (by simp) ?_
                  refine (AllReady.cons (o := uo3) rfl (fun K hK => ?a258) (AllReady.cons (o := uo4) rfl (fun K hK => ?a257) AllReady.nil))
                  case' a258 =>
                    go_simp
                  case' a257 =>
                    go_simp
                    refine hK _ _ ?_
                    clear hK K
                    try simp only [Act.put, List.setIfInBounds_toArray, List.set_cons_zero, List.set_cons_succ]
                    refine wpAny_ready (rs := [3]) (by kernel_rfl) (by simp) ?_
                    refine (AllReady.cons (o := uo3) rfl (fun K hK => ?a259) AllReady.nil)
                    case' a259 =>
                      go_simp
                case' a255 =>
                  go_simp
                  refine hK _ _ ?_
                  clear hK K
                  try simp only [Act.put, List.setIfInBounds_toArray, List.set_cons_zero, List.set_cons_succ]
                  refine wpAny_ready (rs := [2]) (by kernel_rfl) (by simp) ?_
                  refine (AllReady.cons (o := uo2) rfl (fun K hK => ?a260) AllReady.nil)
                  case' a260 =>
                    go_simp
                    refine hK _ _ ?_
                    clear hK K
                    try simp only [Act.put, List.setIfInBounds_toArray, List.set_cons_zero, List.set_cons_succ]
                    refine wpAny_ready (rs := [3]) (by kernel_rfl) (by simp) ?_
                    refine (AllReady.cons (o := uo3) rfl (fun K hK => ?a261) AllReady.nil)
                    case' a261 =>
                      go_simp
              case' a253 =>
                go_simp
                refine hK _ _ ?_
                clear hK K
                try simp only [Act.put, List.setIfInBounds_toArray, List.set_cons_zero, List.set_cons_succ]
                refine wpAny_ready (rs := [0, 3]) (by kernel_rfl) (by simp) ?_
                refine (AllReady.cons (o := uo0) rfl (fun K hK => ?a263) (AllReady.cons (o := uo3) rfl (fun K hK => ?a262) AllReady.nil))
                case' a263 =>
                  go_simp
                  refine hK _ _ ?_
                  clear hK K
                  try simp only [Act.put, List.setIfInBounds_toArray, List.set_cons_zero, List.set_cons_succ]
                  refine wpAny_ready (rs := [3, 4]) (by kernel_rfl) (by simp) ?_
                  refine (AllReady.cons (o := uo3) rfl (fun K hK => ?a265) (AllReady.cons (o := uo4) rfl (fun K hK => ?a264) AllReady.nil))
                  case' a265 =>
                    go_simp
                  case' a264 =>
                    go_simp
                    refine hK _ _ ?_
                    clear hK K
                    try simp only [Act.put, List.setIfInBounds_toArray, List.set_cons_zero, List.set_cons_succ]
                    refine wpAny_ready (rs := [3]) (by kernel_rfl) (by simp) ?_
                    refine (AllReady.cons (o := uo3) rfl (fun K hK => ?a266) AllReady.nil)
                    case' a266 =>
                      go_simp
                case' a262 =>
                  go_simp
            case' a227 =>
              go_simp
              refine hK _ _ ?_
              clear hK K
              try simp only [Act.put, List.setIfInBounds_toArray, List.set_cons_zero, List.set_cons_succ]
              refine wpAny_ready (rs := [0, 1]) (by kernel_rfl) (by simp) ?_
              refine (AllReady.cons (o := uo0) rfl (fun K hK => ?a268) (AllReady.cons (o := uo1) rfl (fun K hK => ?a267) AllReady.nil))
              case' a268 =>
                go_simp
                refine hK _ _ ?_
                clear hK K
                try simp only [Act.put, List.setIfInBounds_toArray, List.set_cons_zero, List.set_cons_succ]
                refine wpAny_ready (rs := [1, 4]) (by kernel_rfl) (by simp) ?_
                refine (AllReady.cons (o := uo1) rfl (fun K hK => ?a270) (AllReady.cons (o := uo4) rfl (fun K hK => ?a269) AllReady.nil))
                case' a270 =>
                  go_simp
                  refine hK _ _ ?_
                  clear hK K
                  try simp only [Act.put, List.setIfInBounds_toArray, List.set_cons_zero, List.set_cons_succ]
                  refine wpAny_ready (rs := [3, 4]) (by kernel_rfl) (by simp) ?_
                  refine (AllReady.cons (o := uo3) rfl (fun K hK => ?a272) (AllReady.cons (o := uo4) rfl (fun K hK => ?a271) AllReady.nil))
                  case' a272 =>
                    go_simp
                  case' a271 =>
                    go_simp
                    refine hK _ _ ?_
                    clear hK K
                    try simp only [Act.put, List.setIfInBounds_toArray, List.set_cons_zero, List.set_cons_succ]
                    refine wpAny_ready (rs := [3]) (by kernel_rfl) (by simp) ?_
                    refine (AllReady.cons (o := uo3) rfl (fun K hK => ?a273) AllReady.nil)
                    case' a273 =>
                      go_simp
                case' a269 =>
                  go_simp
                  refine hK _ _ ?_
                  clear hK K
                  try simp only [Act.put, List.setIfInBounds_toArray, List.set_cons_zero, List.set_cons_succ]
                  refine wpAny_ready (rs := [1]) (by kernel_rfl) (by simp) ?_
                  refine (AllReady.cons (o := uo1) rfl (fun K hK => ?a274) AllReady.nil)
                  case' a274 =>
                    go_simp
                    refine hK _ _ ?_
                    clear hK K
                    try simp only [Act.put, List.setIfInBounds_toArray, List.set_cons_zero, List.set_cons_succ]
                    refine wpAny_ready (rs := [3]) (by kernel_rfl) (by simp) ?_
                    refine (AllReady.cons (o := uo3) rfl (fun K hK => ?a275) AllReady.nil)
                    case' a275 =>
                      go_simp
              case' a267 =>
                go_simp
                refine hK _ _ ?_
                clear hK K
                try simp only [Act.put, List.setIfInBounds_toArray, List.set_cons_zero, List.set_cons_succ]
                refine wpAny_ready (rs := [0, 3]) (by kernel_rfl) (by simp) ?_
                refine (AllReady.cons (o := uo0) rfl (fun K hK => ?a277) (AllReady.cons (o := uo3) rfl (fun K hK => ?a276) AllReady.nil))
                case' a277 =>
                  go_simp
                  refine hK _ _ ?_
                  clear hK K
                  try simp only [Act.put, List.setIfInBounds_toArray, List.set_cons_zero, List.set_cons_succ]
                  refine wpAny_ready (rs := [3, 4]) (by kernel_rfl) (by simp) ?_
                  refine (AllReady.cons (o := uo3) rfl (fun K hK => ?a279) (AllReady.cons (o := uo4) rfl (fun K hK => ?a278) AllReady.nil))
                  case' a279 =>
                    go_simp
                  case' a278 =>
                    go_simp
                    refine hK _ _ ?_
                    clear hK K
                    try simp only [Act.put, List.setIfInBounds_toArray, List.set_cons_zero, List.set_cons_succ]
                    refine wpAny_ready (rs := [3]) (by kernel_rfl) (by simp) ?_
                    refine (AllReady.cons (o := uo3) rfl (fun K hK => ?a280) AllReady.nil)
                    case' a280 =>
                      go_simp
                case' a276 =>
                  go_simp
          all_goals refine Calls.mono (HCL.out _ (by first | with_reducible exact hA | with_reducible exact hB | with_reducible exact hB2)) ?_
          all_goals rintro e w1 ⟨rfl, HQ⟩
          all_goals have q0 := HQ.out.1
          all_goals have q1 := HQ.out.2.1
          all_goals go_wp2_with fail
          all_goals refine leaves_cons (f := 34) (args := #[.pointer (some ⟨w.heap.size + 1, 0, none⟩), .pointer (some ⟨w.heap.size + 1 + 1, 0, none⟩)]) (by simp) (by simp [go_sem]) ?_
          all_goals refine (catch51_panicking _ _ 10 0 [] w1 _ _ (q0.cell 0 (by simp)) (q1.cell 0 (by simp)) (q0.frozen 0) (q1.frozen 0) (by omega)).mono ?_
          all_goals rintro e u' w'' ⟨rfl, rfl, w6, hb6, rfl⟩
          all_goals obtain ⟨r0, r1, hE⟩ := HPAN.out w1 HQ w6 hb6
          all_goals exact ⟨.tuple #[.slice none 0 0, .int .i64 10], by simp [results, Try.results11, go_sem, r0, r1], hE⟩
      · have hje : k'.length = rs.length := by omega
        have HV := (show Hid _ from UvI.of HT.out)
        have HFU := (show Hid (∀ T, UnOK ns rs T → T = k') from fun T hT => HF.out.full hje hT)
        have T2 : wr.cell? ⟨w.heap.size + 1, 0, none⟩ = some (.slice va k'.length vp) := HT.out.b1.cell 0 (by simp)
        have HSH := (show Hid (Calls Try.prog 9 #[.slice va k'.length vp] wr (ShT k' wr)) from iShare k' _ wr (fun q hq => hq.2) (Own.trs HV.out.own))
        have hnl : ¬ ((k'.length : Int) < (rs.length : Int)) := by omega
        clear HF HT HRC hje
        go_wp2_with fail
        refine Calls.mono HSH.out ?_
        rintro e w1 ⟨u1, r1, rfl, hb1, hdg⟩
        have hV1 := UvI.still HV.out hb1
        have C3 : w1.cell? ⟨w.heap.size + 1 + 1, 0, none⟩ = some (.int .i64 0) := hV1.b2.cell 0 (by simp)
        have F3 := hV1.b2.frozen 0
        have hsz := hV1.b2.lt
        have hsz2 := hV1.b1.lt
        have C2 : w1.cell? ⟨w.heap.size + 1, 0, none⟩ = some (.slice va k'.length vp) := hV1.b1.cell 0 (by simp)
        have F2 := hV1.b1.frozen 0
        obtain ⟨a1, c1, a2, c2, eu, er, _, _⟩ := hdg.forms
        have HDG := (show Hid _ from hdg)
        cases htk : tksB k'
        · have hsc : shC k' = 1 := by unfold shC; rw [htk]; rfl
          have HNO := (show Hid (∀ T, ¬ UnOK ns rs T) from fun T hT => by
            have := HFU.out T hT
            subst this
            rw [hT.1] at htk
            cases htk)
          rw [hsc]
          obtain ⟨r0, r1', _⟩ := refuse23 (ns := ns) (rs := rs) (hV1.code (.int .i64 1)).b1 (hV1.code (.int .i64 1)).b2 (hV1.code (.int .i64 1)).bel HNO.out
          have HA := (show Hid _ from UnA.none HNO.out (bel_trans (((hV1.code (.int .i64 1)).bel.setCell (p := ⟨w.heap.size + 1, 0, none⟩) (by show w.heap.size ≤ w.heap.size + 1; omega) (.slice none 0 0)).setCell (p := ⟨w.heap.size + 1 + 1, 0, none⟩) (by show w.heap.size ≤ w.heap.size + 1 + 1; omega) (.int .i64 10)) (bel_alloc _ (.cells #[u1, r1] 27))))
          clear hV1 hdg htk HSH HV HDG hsc
          rw [eu, er] at HA ⊢
          clear eu er
          go_wp2_with fail
          refine leaves_cons (f := 34) (args := #[.pointer (some ⟨w.heap.size + 1, 0, none⟩), .pointer (some ⟨w.heap.size + 1 + 1, 0, none⟩)]) (by simp) (by simp [go_sem]) ?_
          refine (catch51_idle _ _ _).mono ?_
          rintro e u' w'' ⟨rfl, rfl, rfl⟩
          exact ⟨.tuple #[.slice none 0 0, .int .i64 10], by simp [results, Try.results11, go_sem, r0, r1', hsz, hsz2], HA.out⟩
        · have hsc : shC k' = 0 := by unfold shC; rw [htk]; rfl
          have hsn : shN k' = putTs k' [] := by unfold shN; rw [htk]; rfl
          rw [hsc]
          rw [hsn] at hdg eu er
          obtain ⟨B, hB⟩ : ∃ B : Bool, B = true ↔ (putTs k' []).1.map rd = ns := by
            classical exact ⟨decide ((putTs k' []).1.map rd = ns), by simp⟩
          have HV2 := (show Hid _ from (hV1.code (.int .i64 0)).still (bel_alloc _ (.cells #[u1, r1] 27)))
          have hbc : Below w.heap.size w ((w1.setCell ⟨w.heap.size + 1 + 1, 0, none⟩ (.int .i64 0)).alloc (.cells #[u1, r1] 27)) := HV2.out.bel
          have HSD : Hid (Calls Try.prog 37 #[.agg #[u1, r1], .agg #[.slice ua ns.length ucap, .slice ra rs.length rcap]] ((w1.setCell ⟨w.heap.size + 1 + 1, 0, none⟩ (.int .i64 0)).alloc (.cells #[u1, r1] 27)) fun e w' => e = .returned (.bool (decide (ins (putTs k' []).2 = rs) && B)) ∧ Below ((w1.setCell ⟨w.heap.size + 1 + 1, 0, none⟩ (.int .i64 0)).alloc (.cells #[u1, r1] 27)).heap.size ((w1.setCell ⟨w.heap.size + 1 + 1, 0, none⟩ (.int .i64 0)).alloc (.cells #[u1, r1] 27)) w') := by
            obtain ⟨K, hd1, hd2, hd3⟩ := hdg
            have hge : ∀ q, wr.heap.size ≤ q → q ≠ w.heap.size + 1 + 1 := fun q hq => by have := HV.out.b2.lt; omega
            have hd1' : DN wr.heap.size (w1.setCell ⟨w.heap.size + 1 + 1, 0, none⟩ (.int .i64 0)) u1 (putTs k' []).1 K := by
              obtain ⟨kv, kb, hdn⟩ := hd1
              refine ⟨kv, kb, hdn.keep (by simp) (fun b hb hlt => blk_setCell_other _ _ _ _ (hge b ?_))⟩
              rcases hb with hb | hb
              · exact (hdn.lo b hb).1
              · exact (World.ownsRow.lt hdn.row b hb).1
            have hd2' := own_keep1 (w' := w1.setCell ⟨w.heap.size + 1 + 1, 0, none⟩ (.int .i64 0)) hd2 (fun q hq => blk_setCell_other _ _ _ _ (hge q (World.ownsRow.lt hd2 q hq).1))
            have i1 := Rds.still (DN.rds hd1' (putTs_sz htk)) (bel_alloc _ (.cells #[u1, r1] 27))
            have hil : (ins (putTs k' []).2).length = (putTs k' []).2.length := ins_len _
            rw [← hil] at hd2'
            have i2 := Ints.still (own_row_ints hd2') (bel_alloc _ (.cells #[u1, r1] 27))
            exact sameDag54 _ ns _ rs u1 r1 _ _ _ i1 i2 (Rds.still HN.out hbc) (Ints.still HI.out hbc) B hB
          have HYN := (show Hid ((decide (ins (putTs k' []).2 = rs) && B) = true → UnOK ns rs k') from fun h => by
            rw [Bool.and_eq_true, decide_eq_true_eq] at h
            exact ⟨htk, hB.1 h.2, h.1⟩)
          have HNY := (show Hid ((decide (ins (putTs k' []).2 = rs) && B) = false → ∀ T, ¬ UnOK ns rs T) from fun h T hT => by
            have e := HFU.out T hT
            subst e
            rw [decide_eq_true hT.2.2, hB.2 hT.2.1] at h
            cases h)
          have X0 := HV2.out.b0.cell 0 (by simp)
          have X1 := HV2.out.b0.cell 1 (by simp)
          simp only [List.getD_cons_zero, List.getD_cons_succ] at X0 X1
          have X2 := hV1.b0.cell 0 (by simp)
          have X3 := hV1.b0.cell 1 (by simp)
          have hsz0 := hV1.b0.lt
          simp only [List.getD_cons_zero, List.getD_cons_succ] at X2 X3
          generalize (decide (ins (putTs k' []).2 = rs) && B) = D at *
          clear hV1 hdg htk HSH HV HDG hsc hsn hB hbc HFU HN HI HS
          generalize (putTs k' []).1.length = N1 at *
          generalize (putTs k' []).2.length = N2 at *
          subst eu er
          go_wp2_with fail
          refine Calls.mono HSD.out ?_
          rintro e w3 ⟨rfl, hb3⟩
          have hV3 := UvI.still HV2.out hb3
          have C2' : w3.cell? ⟨w.heap.size + 1, 0, none⟩ = some (.slice va k'.length vp) := hV3.b1.cell 0 (by simp)
          have F2' := hV3.b1.frozen 0
          have C3' : w3.cell? ⟨w.heap.size + 1 + 1, 0, none⟩ = some (.int .i64 0) := hV3.b2.cell 0 (by simp)
          have F3' := hV3.b2.frozen 0
          cases D with
          | true =>
            obtain ⟨r0, r1', hA⟩ := hV3.yes (HYN.out rfl)
            have HA := (show Hid _ from hA)
            clear hV3 hb3 hA HSD HV2 HYN HNY X0 X1 X2 X3 C2 C3 F2 F3
            go_wp2_with fail
            refine leaves_cons (f := 34) (args := #[.pointer (some ⟨w.heap.size + 1, 0, none⟩), .pointer (some ⟨w.heap.size + 1 + 1, 0, none⟩)]) (by simp) (by simp [go_sem]) ?_
            refine (catch51_idle _ _ _).mono ?_
            rintro e u' w'' ⟨rfl, rfl, rfl⟩
            exact ⟨.tuple #[.slice va k'.length vp, .int .i64 0], by simp [results, Try.results11, go_sem, r0, r1'], HA.out⟩
          | false =>
            obtain ⟨r0, r1', hA⟩ := refuse23 hV3.b1 hV3.b2 hV3.bel (HNY.out rfl)
            have HA := (show Hid _ from hA)
            clear hV3 hb3 hA HSD HV2 HYN HNY X0 X1 X2 X3 C2 C3 F2 F3
            go_wp2_with fail
            refine leaves_cons (f := 34) (args := #[.pointer (some ⟨w.heap.size + 1, 0, none⟩), .pointer (some ⟨w.heap.size + 1 + 1, 0, none⟩)]) (by simp) (by simp [go_sem]) ?_
            refine (catch51_idle _ _ _).mono ?_
            rintro e u' w'' ⟨rfl, rfl, rfl⟩
            exact ⟨.tuple #[.slice none 0 0, .int .i64 10], by simp [results, Try.results11, go_sem, r0, r1'], HA.out⟩
end Go.Proofs.Ytofobmdljelmgaa
