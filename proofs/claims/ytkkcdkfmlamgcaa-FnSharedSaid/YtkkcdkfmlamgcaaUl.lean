import Derived.Test.YtkkcdkfmlamgcaaUk
import Derived.Deep.RegionLaw
import Derived.Deep.RegionHeld3
/-! The program's Unshare, walked. -/
namespace Go.Proofs.Ytkkcdkfmlamgcaa
open Go.RowKit Go.Deep Go.Lib
set_option linter.unusedVariables false
set_option maxRecDepth 100000
set_option linter.unusedSimpArgs false

theorem UuI.start (w : World) (u r : Value) : UuI w (((w.alloc (.cells #[u, r] 27)).alloc (.cells #[.slice none 0 0] 30)).alloc (.cells #[.int .i64 0] 3)) u r (.slice none 0 0) [] := by
  have h0 := ((Box.new w 27 [u, r]).still (bel_alloc _ (.cells #[.slice none 0 0] 30))).still (bel_alloc _ (.cells #[.int .i64 0] 3))
  have h1 := (Box.new (w.alloc (.cells #[u, r] 27)) 30 [.slice none 0 0]).still (bel_alloc _ (.cells #[.int .i64 0] 3))
  have h2 := Box.new ((w.alloc (.cells #[u, r] 27)).alloc (.cells #[.slice none 0 0] 30)) 3 [.int .i64 0]
  simp only [World.size_alloc] at h1 h2
  exact ⟨h0, h1, h2, bel_trans (bel_trans (bel_alloc _ _) (bel_alloc _ _)) (bel_alloc _ _), ⟨fun _ => .bool false, fun _ => 0, fun _ => 0, own_nil _ _ _ _, fun i hi => absurd hi (Nat.not_lt_zero _), fun i hi => absurd hi (Nat.not_lt_zero _), fun i i' _ hi => absurd hi (Nat.not_lt_zero _)⟩⟩
/-- Refused: the answer's cells are set, and nothing old has turned. -/
theorem refuse23 {w wr : World} {v x : Value} {ns : List Rd} {rs : List Int} (h1 : Box wr (w.heap.size + 1) 30 [v]) (h2 : Box wr (w.heap.size + 1 + 1) 3 [x]) (hb : Below w.heap.size w wr) (hno : ∀ T, ¬ UnOK ns rs T) :
    ((wr.setCell ⟨w.heap.size + 1, 0, none⟩ (.slice none 0 0)).setCell ⟨w.heap.size + 1 + 1, 0, none⟩ (.int .i64 10)).cell? ⟨w.heap.size + 1, 0, none⟩ = some (.slice none 0 0) ∧ ((wr.setCell ⟨w.heap.size + 1, 0, none⟩ (.slice none 0 0)).setCell ⟨w.heap.size + 1 + 1, 0, none⟩ (.int .i64 10)).cell? ⟨w.heap.size + 1 + 1, 0, none⟩ = some (.int .i64 10) ∧ UnA ns rs w (.returned (.tuple #[.slice none 0 0, .int .i64 10])) ((wr.setCell ⟨w.heap.size + 1, 0, none⟩ (.slice none 0 0)).setCell ⟨w.heap.size + 1 + 1, 0, none⟩ (.int .i64 10)) := by
  have r0 := ((h1.set 0 (.slice none 0 0)).past (q := w.heap.size + 1 + 1) (o := 0) (u := .int .i64 10) (by omega)).cell 0 (by simp)
  have r1 := ((h2.past (q := w.heap.size + 1) (o := 0) (u := .slice none 0 0) (by omega)).set 0 (.int .i64 10)).cell 0 (by simp)
  exact ⟨r0, r1, UnA.none hno ((hb.setCell (p := ⟨w.heap.size + 1, 0, none⟩) (by show w.heap.size ≤ w.heap.size + 1; omega) _).setCell (p := ⟨w.heap.size + 1 + 1, 0, none⟩) (by show w.heap.size ≤ w.heap.size + 1 + 1; omega) _)⟩
theorem cell_far (w : World) {p q : Nat} (o o' : Nat) (v : Value) (h : p ≠ q) : (w.setCell ⟨p, o, none⟩ v).cell? ⟨q, o', none⟩ = w.cell? ⟨q, o', none⟩ := World.cell?_of_block (w := w) (blk_setCell_other _ _ _ _ (by exact h.symm))
theorem frozen_far (w : World) {p q : Nat} (o o' : Nat) (v : Value) (h : p ≠ q) : (w.setCell ⟨p, o, none⟩ v).frozen? ⟨q, o', none⟩ = w.frozen? ⟨q, o', none⟩ := World.frozen?_of_block (w := w) (blk_setCell_other _ _ _ _ (by exact h.symm))
theorem UpA.more {w wr w2 w3 : World} {u r v q : Value} {k' : List Tr} {t : Tr} {fs : Nat → Value} {g cap : Nat} (h : UpA w wr w2 u r v q k' t fs g cap w3) :
    ((((w3.setCell ⟨g, k'.length * 4, none⟩ (.string t.name)).setCell ⟨g, k'.length * 4 + 1, none⟩ (.string t.text)).setCell ⟨g, k'.length * 4 + 2, none⟩ (.bool t.leaf)).setCell ⟨g, k'.length * 4 + 3, none⟩ q).cell? ⟨w.heap.size + 1, 0, none⟩ = some v ∧
    ((((w3.setCell ⟨g, k'.length * 4, none⟩ (.string t.name)).setCell ⟨g, k'.length * 4 + 1, none⟩ (.string t.text)).setCell ⟨g, k'.length * 4 + 2, none⟩ (.bool t.leaf)).setCell ⟨g, k'.length * 4 + 3, none⟩ q).frozen? ⟨w.heap.size + 1, 0, none⟩ = false ∧
    (w3.setCell ⟨w.heap.size + 1, 0, none⟩ (.slice (some ⟨g, 0, none⟩) (k'.length + 1) cap)).cell? ⟨g, k'.length * 4, none⟩ = some (.string ⟨#[]⟩) ∧
    (w3.setCell ⟨w.heap.size + 1, 0, none⟩ (.slice (some ⟨g, 0, none⟩) (k'.length + 1) cap)).cell? ⟨g, k'.length * 4 + 1, none⟩ = some (.string ⟨#[]⟩) ∧
    (w3.setCell ⟨w.heap.size + 1, 0, none⟩ (.slice (some ⟨g, 0, none⟩) (k'.length + 1) cap)).cell? ⟨g, k'.length * 4 + 2, none⟩ = some (.bool false) ∧
    (w3.setCell ⟨w.heap.size + 1, 0, none⟩ (.slice (some ⟨g, 0, none⟩) (k'.length + 1) cap)).cell? ⟨g, k'.length * 4 + 3, none⟩ = some (.slice none 0 0) ∧
    (w3.setCell ⟨w.heap.size + 1, 0, none⟩ (.slice (some ⟨g, 0, none⟩) (k'.length + 1) cap)).frozen? ⟨g, k'.length * 4, none⟩ = false ∧
    (w3.setCell ⟨w.heap.size + 1, 0, none⟩ (.slice (some ⟨g, 0, none⟩) (k'.length + 1) cap)).frozen? ⟨g, k'.length * 4 + 1, none⟩ = false ∧
    (w3.setCell ⟨w.heap.size + 1, 0, none⟩ (.slice (some ⟨g, 0, none⟩) (k'.length + 1) cap)).frozen? ⟨g, k'.length * 4 + 2, none⟩ = false ∧
    (w3.setCell ⟨w.heap.size + 1, 0, none⟩ (.slice (some ⟨g, 0, none⟩) (k'.length + 1) cap)).frozen? ⟨g, k'.length * 4 + 3, none⟩ = false ∧
    UuI w ((((w3.setCell ⟨w.heap.size + 1, 0, none⟩ (.slice (some ⟨g, 0, none⟩) (k'.length + 1) cap)).setCell ⟨g, k'.length * 4, none⟩ (.string t.name)).setCell ⟨g, k'.length * 4 + 1, none⟩ (.string t.text)).setCell ⟨g, k'.length * 4 + 2, none⟩ (.bool t.leaf) |>.setCell ⟨g, k'.length * 4 + 3, none⟩ q) u r (.slice (some ⟨g, 0, none⟩) (k'.length + 1) cap) (k' ++ [t]) ∧
    UuI w (((((w3.setCell ⟨g, k'.length * 4, none⟩ (.string t.name)).setCell ⟨g, k'.length * 4 + 1, none⟩ (.string t.text)).setCell ⟨g, k'.length * 4 + 2, none⟩ (.bool t.leaf)).setCell ⟨g, k'.length * 4 + 3, none⟩ q).setCell ⟨w.heap.size + 1, 0, none⟩ (.slice (some ⟨g, 0, none⟩) (k'.length + 1) cap)) u r (.slice (some ⟨g, 0, none⟩) (k'.length + 1) cap) (k' ++ [t]) := by
  have hn := h.ne
  refine ⟨?_, ?_, ?_, ?_, ?_, ?_, ?_, ?_, ?_, ?_, ?_, h.nx⟩
  · rw [cell_far _ _ _ _ hn, cell_far _ _ _ _ hn, cell_far _ _ _ _ hn, cell_far _ _ _ _ hn]; exact h.t2
  · rw [frozen_far _ _ _ _ hn, frozen_far _ _ _ _ hn, frozen_far _ _ _ _ hn, frozen_far _ _ _ _ hn]; exact h.f2
  · rw [cell_far _ _ _ _ hn.symm]; exact h.z0
  · rw [cell_far _ _ _ _ hn.symm]; exact h.z1
  · rw [cell_far _ _ _ _ hn.symm]; exact h.z2
  · rw [cell_far _ _ _ _ hn.symm]; exact h.z3
  · rw [frozen_far _ _ _ _ hn.symm]; exact h.y0
  · rw [frozen_far _ _ _ _ hn.symm]; exact h.y1
  · rw [frozen_far _ _ _ _ hn.symm]; exact h.y2
  · rw [frozen_far _ _ _ _ hn.symm]; exact h.y3
  · have e := set4_comm w3 (k'.length * 4) 0 (.string t.name) (.string t.text) (.bool t.leaf) q (.slice (some ⟨g, 0, none⟩) (k'.length + 1) cap) hn.symm
    have h2 := h.nx
    rw [← e] at h2
    exact h2
/-- What stands behind the loop. -/
structure UvI (w wq : World) (u r v x : Value) (k' : List Tr) : Prop where
  b0 : Box wq w.heap.size 27 [u, r]
  b1 : Box wq (w.heap.size + 1) 30 [v]
  b2 : Box wq (w.heap.size + 1 + 1) 3 [x]
  bel : Below w.heap.size w wq
  own : Own wq (w.heap.size + 3) wq.heap.size (dm k') v
theorem UvI.of {w wr : World} {u r v : Value} {k' : List Tr} (h : UuI w wr u r v k') : UvI w wr u r v (.int .i64 0) k' :=
  ⟨h.b0, h.b1, h.b2, h.bel, Grw.done h.grw (by show (0 : Nat) ≤ _; exact Nat.zero_le _) (by show (0 : Nat) ≤ _; exact Nat.zero_le _)⟩
theorem UvI.still {w wq wz : World} {u r v x : Value} {k' : List Tr} (h : UvI w wq u r v x k') (hb : Below wq.heap.size wq wz) : UvI w wz u r v x k' :=
  ⟨h.b0.still hb, h.b1.still hb, h.b2.still hb, bel_trans h.bel hb, (h.own.still hb).keep (Nat.le_refl _) hb.size (fun _ _ _ _ => rfl)⟩
theorem UvI.code {w wq : World} {u r v x : Value} {k' : List Tr} (h : UvI w wq u r v x k') (y : Value) : UvI w (wq.setCell ⟨w.heap.size + 1 + 1, 0, none⟩ y) u r v y k' :=
  ⟨h.b0.past (by omega), h.b1.past (by omega), h.b2.set 0 y, h.bel.setCell (p := ⟨w.heap.size + 1 + 1, 0, none⟩) (by show w.heap.size ≤ w.heap.size + 1 + 1; omega) _, (h.own.past (.inl (by omega))).keep (Nat.le_refl _) (by simp) (fun _ _ _ _ => rfl)⟩
theorem UvI.yes {w wq : World} {u r x : Value} {va : Option Addr} {m vp : Nat} {k' : List Tr} {ns : List Rd} {rs : List Int} (h : UvI w wq u r (.slice va m vp) x k') (hok : UnOK ns rs k') :
    ((wq.setCell ⟨w.heap.size + 1, 0, none⟩ (.slice va m vp)).setCell ⟨w.heap.size + 1 + 1, 0, none⟩ (.int .i64 0)).cell? ⟨w.heap.size + 1, 0, none⟩ = some (.slice va m vp) ∧ ((wq.setCell ⟨w.heap.size + 1, 0, none⟩ (.slice va m vp)).setCell ⟨w.heap.size + 1 + 1, 0, none⟩ (.int .i64 0)).cell? ⟨w.heap.size + 1 + 1, 0, none⟩ = some (.int .i64 0) ∧ UnA ns rs w (.returned (.tuple #[.slice va m vp, .int .i64 0])) ((wq.setCell ⟨w.heap.size + 1, 0, none⟩ (.slice va m vp)).setCell ⟨w.heap.size + 1 + 1, 0, none⟩ (.int .i64 0)) := by
  have r0 := ((h.b1.set 0 (.slice va m vp)).past (q := w.heap.size + 1 + 1) (o := 0) (u := .int .i64 0) (by omega)).cell 0 (by simp)
  have r1 := ((h.b2.past (q := w.heap.size + 1) (o := 0) (u := .slice va m vp) (by omega)).set 0 (.int .i64 0)).cell 0 (by simp)
  refine ⟨r0, r1, k', 0, va, m, vp, .inl ⟨hok, rfl⟩, rfl, (h.bel.setCell (p := ⟨w.heap.size + 1, 0, none⟩) (by show w.heap.size ≤ w.heap.size + 1; omega) _).setCell (p := ⟨w.heap.size + 1 + 1, 0, none⟩) (by show w.heap.size ≤ w.heap.size + 1 + 1; omega) _, ?_⟩
  exact ((h.own.past (.inl (by omega))).past (.inl (by omega))).keep (by omega) (by simp) (fun _ _ _ _ => rfl)
set_option maxHeartbeats 3200000 in
theorem iUnshare {S S' : Nat → Prop} (ns : List Rd) (rs : List Int) (u r : Value) (w : World) (hS : ∀ q, S q → q < w.heap.size) (hN : Rds w S ns u) (hI : Ints w S' rs r) :
    Calls Try.prog 9 #[.agg #[u, r]] w (UnA ns rs w) := by
  have hmf := make_func
  have hX0 := UuI.start w u r
  obtain ⟨ua, ucap, hu, hum⟩ := hN.form
  have HI := (show Hid _ from hI)
  obtain ⟨ra, rcap, rb, roff, hrv, hrc, hrm, hra, hrcell⟩ := hI
  unfold maxLen at hum hrm
  have HN := (show Hid _ from hN)
  have HS := (show Hid _ from hS)
  have HRC := (show Hid _ from (⟨hra, hrcell⟩ : _ ∧ _)); clear hra hrcell hN hS
  subst hu hrv
  have HX0 := (show Hid _ from hX0)
  have x0 := hX0.b0.cell 0 (by simp)
  have x1 := hX0.b0.cell 1 (by simp)
  simp only [List.getD_cons_zero, List.getD_cons_succ] at x0 x1
  clear hX0
  by_cases h20 : 20 < rs.length
  · have HA := (show Hid (∀ w', Below w.heap.size w w' → UnA ns rs w (.returned (.tuple #[.slice none 0 0, .int .i64 10])) w') from fun w' hb => UnA.none (fun T hT => by
      obtain ⟨a1, a2, a3⟩ := hT.root
      omega) hb)
    have q0 := HX0.out.b1
    have q1 := HX0.out.b2
    have c0' := q0.cell 0 (by simp)
    have f0 := q0.frozen 0
    have c1' := (q1.past (q := w.heap.size + 1) (o := 0) (u := .slice none 0 0) (by omega)).cell 0 (by simp)
    have f1 := (q1.past (q := w.heap.size + 1) (o := 0) (u := .slice none 0 0) (by omega)).frozen 0
    simp only [List.set_cons_zero, List.getD_cons_zero] at c0' c1'
    clear q0 q1 HN HI HS HRC HX0
    go_enter_defers Try.func9, Try.ntmps9
    go_wp2_with fail
    refine leaves_cons (f := 23) (args := #[.pointer (some ⟨w.heap.size + 1, 0, none⟩), .pointer (some ⟨w.heap.size + 1 + 1, 0, none⟩)]) (by simp) (by simp [go_sem]) ?_
    refine (catch51_idle _ _ _).mono ?_
    rintro e u' w'' ⟨rfl, rfl, rfl⟩
    exact ⟨.tuple #[.slice none 0 0, .int .i64 10], by simp [results, Try.results9, go_sem], HA.out _ (bel_trans (bel_trans (bel_alloc _ _) (bel_alloc _ _)) (bel_alloc _ _))⟩
  · have h20' : rs.length ≤ 20 := by omega
    have h20i : decide (20 < rs.length) = false := by simp; omega
    clear h20
    go_enter_defers Try.func9, Try.ntmps9
    go_wp2_with fail
    clear x0 x1
    go_loopw [16] (fun i wr => ∃ (j : Nat) (v : Value) (k' : List Tr), i = .int .i64 j ∧ j ≤ rs.length ∧ Hid (k'.length = j) ∧ Hid (FsR ns rs k') ∧ Hid (UuI w wr (.slice ua ns.length ucap) (.slice ra rs.length rcap) v k')) (fun i _ => rs.length - (intOf i).toNat)
    case atStart => exact ⟨0, _, [], rfl, Nat.zero_le _, (show _ = _ from rfl), FsR.nil _ _, HX0.out⟩
    case round =>
      obtain ⟨j, v, k', rfl, hj, hk', HF, HT⟩ := hrel
      clear HX0
      replace hk' := hk'.out
      subst hk'
      obtain ⟨va, vp, rfl, _⟩ : ∃ a cap, v = .slice a k'.length cap ∧ (a = none → k'.length = 0) := by
        obtain ⟨fs, ls, hs, hown, _⟩ := HT.out.grw
        exact own_ne hown
      by_cases hlt : k'.length < rs.length
      · obtain ⟨rfl, hSr⟩ := HRC.out.1 (by omega)
        have hcz : wr.cell? ⟨rb, roff + k'.length, none⟩ = some (.int .i64 rs[k'.length]) := (HT.out.bel.cell (lt_of_cell (HRC.out.2 k'.length hlt))).trans (HRC.out.2 k'.length hlt)
        have X0 : wr.cell? ⟨w.heap.size, 0, none⟩ = some (.slice ua ns.length ucap) := HT.out.b0.cell 0 (by simp)
        have HZ := (show Hid (w.heap.size + 3 ≤ wr.heap.size) from (by have := HT.out.b2.lt; show _ ≤ _; omega))
        have HCL0 : Hid (∀ wq : World, Below (wr.alloc (.cells #[.slice ua ns.length ucap, .int .i64 0] 63)).heap.size (wr.alloc (.cells #[.slice ua ns.length ucap, .int .i64 0] 63)) wq → Calls Try.prog 25 #[.pointer (some ⟨wr.heap.size, 0, none⟩), .int .i64 rs[k'.length], .int .i64 1] wq (TgA ns wr.heap.size (.slice ua ns.length ucap) rs[k'.length] 0 1 wq)) := fun wq hb => by
          have hz := HZ.out
          exact tree53 60 ns rs[k'.length] 0 1 _ wr.heap.size wq (by omega) (by omega) (Rds.still HN.out (bel_trans (bel_trans HT.out.bel (bel_alloc _ _)) hb)) (fun b hb => by have := HS.out b hb; omega) ((Box.new wr 63 [.slice ua ns.length ucap, .int .i64 0]).still hb) (by omega) (by omega)
        have hbW := bel_alloc wr (.cells #[.slice ua ns.length ucap, .int .i64 0] 63)
        have T2 : (wr.alloc (.cells #[.slice ua ns.length ucap, .int .i64 0] 63)).cell? ⟨w.heap.size + 1, 0, none⟩ = some (.slice va k'.length vp) := (HT.out.b1.still hbW).cell 0 (by simp)
        have hA := (Below.refl (wr.alloc (.cells #[.slice ua ns.length ucap, .int .i64 0] 63)).heap.size (wr.alloc (.cells #[.slice ua ns.length ucap, .int .i64 0] 63))).drew
        have hB : Below (wr.alloc (.cells #[.slice ua ns.length ucap, .int .i64 0] 63)).heap.size (wr.alloc (.cells #[.slice ua ns.length ucap, .int .i64 0] 63)) ((wr.alloc (.cells #[.slice ua ns.length ucap, .int .i64 0] 63)).alloc (.cells #[.string ⟨#[]⟩, .string ⟨#[]⟩, .bool false, .slice none 0 0] 39)).drew := (bel_alloc _ _).drew
        have hB2 : Below (wr.alloc (.cells #[.slice ua ns.length ucap, .int .i64 0] 63)).heap.size (wr.alloc (.cells #[.slice ua ns.length ucap, .int .i64 0] 63)) ((wr.alloc (.cells #[.slice ua ns.length ucap, .int .i64 0] 63)).drew.alloc (.cells #[.string ⟨#[]⟩, .string ⟨#[]⟩, .bool false, .slice none 0 0] 39)) := hA.alloc (Nat.le_refl _) _
        have S1 : (wr.alloc (.cells #[.slice ua ns.length ucap, .int .i64 0] 63)).drew.cell? ⟨w.heap.size + 1, 0, none⟩ = some (.slice va k'.length vp) := T2
        have S2 : ((wr.alloc (.cells #[.slice ua ns.length ucap, .int .i64 0] 63)).alloc (.cells #[.string ⟨#[]⟩, .string ⟨#[]⟩, .bool false, .slice none 0 0] 39)).drew.cell? ⟨w.heap.size + 1, 0, none⟩ = some (.slice va k'.length vp) := ((HT.out.b1.still hbW).still (bel_alloc _ (.cells #[.string ⟨#[]⟩, .string ⟨#[]⟩, .bool false, .slice none 0 0] 39))).cell 0 (by simp)
        have S3 : ((wr.alloc (.cells #[.slice ua ns.length ucap, .int .i64 0] 63)).drew.alloc (.cells #[.string ⟨#[]⟩, .string ⟨#[]⟩, .bool false, .slice none 0 0] 39)).cell? ⟨w.heap.size + 1, 0, none⟩ = some (.slice va k'.length vp) := ((HT.out.b1.still hbW).still hB2).cell 0 (by simp)
        by_cases hf : ∃ t, Fit ns rs[k'.length] 0 1 t
        · obtain ⟨t, ht⟩ := hf
          have HFT := (show Hid _ from ht)
          have HCL : Hid (∀ wq : World, Below (wr.alloc (.cells #[.slice ua ns.length ucap, .int .i64 0] 63)).heap.size (wr.alloc (.cells #[.slice ua ns.length ucap, .int .i64 0] 63)) wq → Calls Try.prog 25 #[.pointer (some ⟨wr.heap.size, 0, none⟩), .int .i64 rs[k'.length], .int .i64 1] wq fun e w1 => ∃ (a2 : Option Addr) (l2 p2 : Nat), e = .returned (.agg #[.string t.name, .string t.text, .bool t.leaf, .slice a2 l2 p2]) ∧ Hid (Below wr.heap.size wr w1 ∧ Own w1 wq.heap.size w1.heap.size t (.slice a2 l2 p2) ∧ wr.heap.size ≤ wq.heap.size ∧ (Box wq (wr.heap.size + 1) 39 [.string ⟨#[]⟩, .string ⟨#[]⟩, .bool false, .slice none 0 0] → Box w1 (wr.heap.size + 1) 39 [.string ⟨#[]⟩, .string ⟨#[]⟩, .bool false, .slice none 0 0]))) := fun wq hb => Calls.mono (HCL0.out wq hb) (by
            rintro e w1 ⟨k1, k2⟩
            rcases k2 with ⟨t', a2, l2, p2, k3, k4, k5, k6⟩ | ⟨k3, k4⟩
            · obtain rfl : t = t' := ht.uniq k3
              have hbq := bel_trans hbW hb
              have hsq := hbq.size
              exact ⟨a2, l2, p2, k4, ⟨k1.1.trans hbq.os, k1.2.1.trans hbq.tape, k1.2.2.1.trans hbq.output, by have := k1.size; omega, fun p hp => (k1.block (by omega) (by omega)).trans (hbq.block p hp)⟩, k6, hsq, fun hx => hx.keep (k1.block hx.lt (by omega))⟩
            · exact absurd ht (k3 t))
          obtain ⟨fs, ls, hs, hown, hls, hr, hd2⟩ := HT.out.grw
          have HG := (show Hid _ from (⟨hown, hls, hr, hd2⟩ : _ ∧ _ ∧ _ ∧ _)); clear hown hls hr hd2
          have HAF : Hid (∀ (w2 : World) (a2 : Option Addr) (l2 p2 a c : Nat), Below wr.heap.size wr w2 → Own w2 a c t (.slice a2 l2 p2) → wr.heap.size ≤ a → c ≤ w2.heap.size → w2.cell? ⟨w.heap.size + 1, 0, none⟩ = some (.slice va k'.length vp) ∧ Hid (w2.ownsRow (w.heap.size + 3) 39 4 (.slice va k'.length vp) k'.length (kc k' fs k'.length)) ∧ Hid (w.heap.size + 3 ≤ w2.heap.size) ∧ Hid (∀ (g7 cap7 : Nat) (w7 : World), w7.ownsRow (w.heap.size + 3) 39 4 (.slice (some ⟨g7, 0, none⟩) (k'.length + 1) cap7) (k'.length + 1) (kc k' fs k'.length ++ [.string ⟨#[]⟩, .string ⟨#[]⟩, .bool false, .slice none 0 0]) → w2.grownBy w7 (Value.slice va k'.length vp).ownBlock → ((Value.slice va k'.length vp).ownBlock = some g7 ∨ g7 = w2.heap.size) → UpA w wr w2 (.slice ua ns.length ucap) (.slice (some ⟨rb, roff, none⟩) rs.length rcap) (.slice va k'.length vp) (.slice a2 l2 p2) k' t fs g7 cap7 w7)) := fun w2 a2 l2 p2 a c h1 h2 h3 h4 => by
            have hz := HZ.out
            have hs := h1.size
            exact ⟨(HT.out.b1.still h1).cell 0 (by simp), own_still HG.out.1 h1, (by show _ ≤ _; omega), fun g7 cap7 w7 e1 e2 e3 => UpA.of HT.out HG.out.1 HG.out.2.1 HG.out.2.2.1 HG.out.2.2.2 h1 h2 h3 h4 e1 e2 e3⟩
          have HFN : Hid (FsR ns rs (k' ++ [t])) := HF.out.add hlt HFT.out
          have hzs : (wr.alloc (.cells #[.slice ua ns.length ucap, .int .i64 0] 63)).heap.size = wr.heap.size + 1 := by simp
          have HBX : Hid (Box ((wr.alloc (.cells #[.slice ua ns.length ucap, .int .i64 0] 63)).alloc (.cells #[.string ⟨#[]⟩, .string ⟨#[]⟩, .bool false, .slice none 0 0] 39)).drew (wr.heap.size + 1) 39 [.string ⟨#[]⟩, .string ⟨#[]⟩, .bool false, .slice none 0 0]) := by
            have := Box.new (wr.alloc (.cells #[.slice ua ns.length ucap, .int .i64 0] 63)) 39 [.string ⟨#[]⟩, .string ⟨#[]⟩, .bool false, .slice none 0 0]
            rw [hzs] at this
            exact this.keep rfl
          clear hzs
          obtain ⟨i59, hi59, hy0, hy1, hy2⟩ := info_parts info39
          clear HF HT HN HI HS HRC HCL0 ht HFT HG hbW HZ
          generalize rs[k'.length] = zj at *
          have hix : (k'.length : Int) < (k'.length : Int) + 1 := by omega
          go_wp2_with fail
          refine wp_region_noPanic ?_
          refine wp_region_held_drew (S := (fun _ => True)) (by kernel_rfl) trivial (fun hHeld => ?_)
          refine wpAnyH_take (i := 1) (oi := { dst := some 24, op := Go.Op.move (Go.Operand.tmp 5), type := 3, pos := "l09_documents.go:91", after := #[], guard := none }) (v := ?v1) rfl (by kernel_rfl) (by kernel_rfl) (by kernel_rfl) (fun _ _ _ h => h) (Or.inl ⟨by rfl, ?h1⟩) hHeld ?r1
          case h1 => (intro w hSw; (try dsimp only at hSw); go_simp; try with_reducible rfl)
          try simp only [Act.put, List.setIfInBounds_toArray, List.set_cons_zero, List.set_cons_succ]
          refine wpAnyH_ready (rs := [0, 2, 4]) (by kernel_rfl) (by simp) ?_
          refine (AllReadyH.cons (o := { dst := some 23, op := Go.Op.load 30 (Go.Operand.tmp 2), type := 30, pos := "l09_documents.go:91", after := #[], guard := none }) rfl (fun K hK => ?_) (AllReadyH.cons (o := { dst := some 25, op := Go.Op.call { callee := Go.Callee.value (Go.Operand.func 25), args := #[Go.Operand.tmp 6, Go.Operand.tmp 24, Go.Operand.const (Go.Value.int Go.IntKind.i64 1)], argTypes := #[63, 3, 3] }, type := 39, pos := "l09_documents.go:91", after := #[{ on := 1, ground := Go.Ground.data }], guard := none }) rfl (fun K hK => ?_) (AllReadyH.cons (o := { dst := some 27, op := Go.Op.buildSlice 30 1 #[(0, Go.Operand.const (Go.Value.agg #[Go.Value.string { data := #[] }, Go.Value.string { data := #[] }, Go.Value.bool false, Go.Value.slice none 0 0]))], type := 30, pos := "l09_documents.go:91", after := #[], guard := none }) rfl (fun K hK => ?_) AllReadyH.nil)))
          · go_simp
            clear hHeld
            refine hK.out _ _ trivial (fun hHeld => ?_)
            clear hK K
            try simp only [Act.put, List.setIfInBounds_toArray, List.set_cons_zero, List.set_cons_succ]
            refine wpAnyH_take (i := 3) (oi := { dst := some 26, op := Go.Op.call { callee := Go.Callee.builtin Go.Builtin.len, args := #[Go.Operand.tmp 23], argTypes := #[30] }, type := 3, pos := "l09_documents.go:91", after := #[{ on := 0, ground := Go.Ground.data }], guard := none }) (v := ?v2) rfl (by kernel_rfl) (by kernel_rfl) (by kernel_rfl) (fun _ _ _ h => h) (Or.inl ⟨by rfl, ?h2⟩) hHeld ?r2
            case h2 => (intro w hSw; (try dsimp only at hSw); go_simp; try with_reducible rfl)
            try simp only [Act.put, List.setIfInBounds_toArray, List.set_cons_zero, List.set_cons_succ]
            refine wpAnyH_ready (rs := [2, 4]) (by kernel_rfl) (by simp) ?_
            refine (AllReadyH.cons (o := { dst := some 25, op := Go.Op.call { callee := Go.Callee.value (Go.Operand.func 25), args := #[Go.Operand.tmp 6, Go.Operand.tmp 24, Go.Operand.const (Go.Value.int Go.IntKind.i64 1)], argTypes := #[63, 3, 3] }, type := 39, pos := "l09_documents.go:91", after := #[{ on := 1, ground := Go.Ground.data }], guard := none }) rfl (fun K hK => ?_) (AllReadyH.cons (o := { dst := some 27, op := Go.Op.buildSlice 30 1 #[(0, Go.Operand.const (Go.Value.agg #[Go.Value.string { data := #[] }, Go.Value.string { data := #[] }, Go.Value.bool false, Go.Value.slice none 0 0]))], type := 30, pos := "l09_documents.go:91", after := #[], guard := none }) rfl (fun K hK => ?_) AllReadyH.nil))
            · go_simp
              refine Calls.mono (HCL.out _ (by first | with_reducible exact hA | with_reducible exact hB | with_reducible exact hB2)) ?_
              rintro e w1 ⟨a2, l2, p2, rfl, HQ⟩
              dsimp only
              obtain ⟨U1, _, _, _⟩ := HAF.out w1 a2 l2 p2 _ _ HQ.out.1 HQ.out.2.1 HQ.out.2.2.1 (Nat.le_refl _)
              obtain ⟨U2, HO, HZ2, HUP⟩ := HAF.out (w1.alloc (.cells #[.string ⟨#[]⟩, .string ⟨#[]⟩, .bool false, .slice none 0 0] 39)) a2 l2 p2 _ _ (bel_trans HQ.out.1 (bel_alloc _ _)) (HQ.out.2.1.still (bel_alloc _ _)) HQ.out.2.2.1 (by simp)
              clear hHeld
              refine hK.out _ _ trivial (fun hHeld => ?_)
              clear hK K
              try simp only [Act.put, List.setIfInBounds_toArray, List.set_cons_zero, List.set_cons_succ]
              refine wpAnyH_ready (rs := [4]) (by kernel_rfl) (by simp) ?_
              refine (AllReadyH.cons (o := { dst := some 27, op := Go.Op.buildSlice 30 1 #[(0, Go.Operand.const (Go.Value.agg #[Go.Value.string { data := #[] }, Go.Value.string { data := #[] }, Go.Value.bool false, Go.Value.slice none 0 0]))], type := 30, pos := "l09_documents.go:91", after := #[], guard := none }) rfl (fun K hK => ?_) AllReadyH.nil)
              go_simp
              clear hHeld
              refine hK.out _ _ trivial (fun hHeld => ?_)
              clear hK K
              try simp only [Act.put, List.setIfInBounds_toArray, List.set_cons_zero, List.set_cons_succ]
              refine wpAnyH_ready (rs := [5]) (by kernel_rfl) (by simp) ?_
              refine AllReadyH.cons (o := { dst := some 28, op := Go.Op.call { callee := Go.Callee.builtin Go.Builtin.append, args := #[Go.Operand.tmp 23, Go.Operand.tmp 27], argTypes := #[30, 30] }, type := 30, pos := "l09_documents.go:91", after := #[{ on := 0, ground := Go.Ground.data }, { on := 4, ground := Go.Ground.data }, { on := 2, ground := Go.Ground.chain }, { on := 0, ground := Go.Ground.phase }, { on := 1, ground := Go.Ground.phase }, { on := 2, ground := Go.Ground.phase }, { on := 3, ground := Go.Ground.phase }, { on := 4, ground := Go.Ground.phase }], guard := none }) rfl (fun K hK => ?_) AllReadyH.nil
              (refine step_append_lies _ rfl (.tmp 23) (.tmp 27) 30 rfl (w.heap.size + 3) 39 i59 _ 4 64 Try.underlying30 hi59 hy0 hy1 hy2 rfl (by decide) _ k'.length _ (by simp [Act.eval, Act.put]) HO.out ⟨w1.heap.size, 0, none⟩ 1 1 [.string ⟨#[]⟩, .string ⟨#[]⟩, .bool false, .slice none 0 0] (by simp [Act.eval, Act.put]) rfl (cell_four_box _ _ _ _ _ _) (by intro y hy; simp at hy; rcases hy with rfl | rfl | rfl | rfl <;> rfl) (by decide) (by unfold maxLen; omega) (by omega) HZ2.out _ rfl ?_; intro g7 cap7 w7 hown7 hgr7 hat7 hlt7; have hU := HUP.out g7 cap7 w7 hown7 hgr7 hat7; clear hown7 hgr7 hat7 hlt7)
              clear hHeld
              refine hK.out _ _ trivial (fun hHeld => ?_)
              clear hK K
              try simp only [Act.put, List.setIfInBounds_toArray, List.set_cons_zero, List.set_cons_succ]
              obtain ⟨t8, f8, e0, e1, e2, e3, g0, g1, g2, g3, hN1, hN2⟩ := hU.more
              obtain ⟨t7, f7, z0, z1, z2, z3, y0, y1, y2, y3, hne7, _⟩ := hU
              have HN1 := (show Hid _ from hN1); clear hN1
              have HN2 := (show Hid _ from hN2); clear hN2
              clear HO HZ2 HUP
              refine wpAnyH_take (i := 6) (oi := { dst := some 29, op := Go.Op.indexAddr 30 (Go.Operand.tmp 28) (Go.Operand.tmp 26), type := 0, pos := "l09_documents.go:91", after := #[{ on := 5, ground := Go.Ground.data }, { on := 3, ground := Go.Ground.data }, { on := 0, ground := Go.Ground.phase }, { on := 1, ground := Go.Ground.phase }, { on := 2, ground := Go.Ground.phase }, { on := 3, ground := Go.Ground.phase }, { on := 4, ground := Go.Ground.phase }, { on := 5, ground := Go.Ground.phase }, { on := 8, ground := Go.Ground.gcOnly Go.Departure.appendInPlace }], guard := none }) (v := ?v3) rfl (by kernel_rfl) (by kernel_rfl) (by kernel_rfl) (fun _ _ _ h => h) (Or.inl ⟨by rfl, ?h3⟩) hHeld ?r3
              case h3 => (intro w hSw; (try dsimp only at hSw); go_simp; try with_reducible rfl)
              try simp only [Act.put, List.setIfInBounds_toArray, List.set_cons_zero, List.set_cons_succ]
              refine wpAnyH_ready (rs := [7, 8]) (by kernel_rfl) (by simp) ?_
              refine AllReadyH.cons (o := { dst := none, op := Go.Op.store 39 (Go.Operand.tmp 29) (Go.Operand.tmp 25), type := 0, pos := "l09_documents.go:91", after := #[{ on := 6, ground := Go.Ground.data }, { on := 2, ground := Go.Ground.data }, { on := 5, ground := Go.Ground.chain }, { on := 0, ground := Go.Ground.phase }, { on := 1, ground := Go.Ground.phase }, { on := 2, ground := Go.Ground.phase }, { on := 3, ground := Go.Ground.phase }, { on := 4, ground := Go.Ground.phase }, { on := 5, ground := Go.Ground.phase }, { on := 8, ground := Go.Ground.gcOnly Go.Departure.appendInPlace }], guard := none }) rfl (fun K hK => ?_) (AllReadyH.cons (o := { dst := none, op := Go.Op.store 30 (Go.Operand.tmp 2) (Go.Operand.tmp 28), type := 0, pos := "l09_documents.go:91", after := #[{ on := 5, ground := Go.Ground.data }, { on := 5, ground := Go.Ground.chain }, { on := 7, ground := Go.Ground.textOnly Go.Departure.appendInPlace }, { on := 0, ground := Go.Ground.phase }, { on := 1, ground := Go.Ground.phase }, { on := 2, ground := Go.Ground.phase }, { on := 3, ground := Go.Ground.phase }, { on := 4, ground := Go.Ground.phase }, { on := 5, ground := Go.Ground.phase }, { on := 6, ground := Go.Ground.textOnly Go.Departure.appendInPlace }, { on := 7, ground := Go.Ground.textOnly Go.Departure.appendInPlace }], guard := none }) rfl (fun K hK => ?_) AllReadyH.nil)
              · go_simp
                clear hHeld
                refine hK.out _ _ trivial (fun hHeld => ?_)
                clear hK K
                try simp only [Act.put, List.setIfInBounds_toArray, List.set_cons_zero, List.set_cons_succ]
                refine wpAnyH_ready (rs := [8]) (by kernel_rfl) (by simp) ?_
                refine AllReadyH.cons (o := { dst := none, op := Go.Op.store 30 (Go.Operand.tmp 2) (Go.Operand.tmp 28), type := 0, pos := "l09_documents.go:91", after := #[{ on := 5, ground := Go.Ground.data }, { on := 5, ground := Go.Ground.chain }, { on := 7, ground := Go.Ground.textOnly Go.Departure.appendInPlace }, { on := 0, ground := Go.Ground.phase }, { on := 1, ground := Go.Ground.phase }, { on := 2, ground := Go.Ground.phase }, { on := 3, ground := Go.Ground.phase }, { on := 4, ground := Go.Ground.phase }, { on := 5, ground := Go.Ground.phase }, { on := 6, ground := Go.Ground.textOnly Go.Departure.appendInPlace }, { on := 7, ground := Go.Ground.textOnly Go.Departure.appendInPlace }], guard := none }) rfl (fun K hK => ?_) AllReadyH.nil
                go_simp
                clear hHeld
                refine hK.out _ _ trivial (fun hHeld => ?_)
                clear hK K
                try simp only [Act.put, List.setIfInBounds_toArray, List.set_cons_zero, List.set_cons_succ]
                refine wpAnyH_done (by kernel_rfl) ?_ _
                (try refine NoPanic.normal ?_)
                go_wp2_with fail
                exact ⟨⟨k'.length + 1, _, k' ++ [t], by go_num, by omega, (by show _ = _; simp), HFN, HN2⟩, by simp [intOf]; omega⟩
              · go_simp
                clear hHeld
                refine hK.out _ _ trivial (fun hHeld => ?_)
                clear hK K
                try simp only [Act.put, List.setIfInBounds_toArray, List.set_cons_zero, List.set_cons_succ]
                refine wpAnyH_ready (rs := [7]) (by kernel_rfl) (by simp) ?_
                refine AllReadyH.cons (o := { dst := none, op := Go.Op.store 39 (Go.Operand.tmp 29) (Go.Operand.tmp 25), type := 0, pos := "l09_documents.go:91", after := #[{ on := 6, ground := Go.Ground.data }, { on := 2, ground := Go.Ground.data }, { on := 5, ground := Go.Ground.chain }, { on := 0, ground := Go.Ground.phase }, { on := 1, ground := Go.Ground.phase }, { on := 2, ground := Go.Ground.phase }, { on := 3, ground := Go.Ground.phase }, { on := 4, ground := Go.Ground.phase }, { on := 5, ground := Go.Ground.phase }, { on := 8, ground := Go.Ground.gcOnly Go.Departure.appendInPlace }], guard := none }) rfl (fun K hK => ?_) AllReadyH.nil
                go_simp
                clear hHeld
                refine hK.out _ _ trivial (fun hHeld => ?_)
                clear hK K
                try simp only [Act.put, List.setIfInBounds_toArray, List.set_cons_zero, List.set_cons_succ]
                refine wpAnyH_done (by kernel_rfl) ?_ _
                (try refine NoPanic.normal ?_)
                go_wp2_with fail
                exact ⟨⟨k'.length + 1, _, k' ++ [t], by go_num, by omega, (by show _ = _; simp), HFN, HN1⟩, by simp [intOf]; omega⟩
            · go_simp
              clear hHeld
              refine hK.out _ _ trivial (fun hHeld => ?_)
              clear hK K
              try simp only [Act.put, List.setIfInBounds_toArray, List.set_cons_zero, List.set_cons_succ]
              refine wpAnyH_ready (rs := [2]) (by kernel_rfl) (by simp) ?_
              refine (AllReadyH.cons (o := { dst := some 25, op := Go.Op.call { callee := Go.Callee.value (Go.Operand.func 25), args := #[Go.Operand.tmp 6, Go.Operand.tmp 24, Go.Operand.const (Go.Value.int Go.IntKind.i64 1)], argTypes := #[63, 3, 3] }, type := 39, pos := "l09_documents.go:91", after := #[{ on := 1, ground := Go.Ground.data }], guard := none }) rfl (fun K hK => ?_) AllReadyH.nil)
              go_simp
              refine Calls.mono (HCL.out _ (by first | with_reducible exact hA | with_reducible exact hB | with_reducible exact hB2)) ?_
              rintro e w1 ⟨a2, l2, p2, rfl, HQ⟩
              dsimp only
              obtain ⟨U1, HO, HZ2, HUP⟩ := HAF.out w1 a2 l2 p2 _ _ HQ.out.1 HQ.out.2.1 HQ.out.2.2.1 (Nat.le_refl _)
              have HSRC := (show Hid _ from World.news_of_block (cs := #[.string ⟨#[]⟩, .string ⟨#[]⟩, .bool false, .slice none 0 0]) (by obtain ⟨c, b1, b2, b3⟩ := (HQ.out.2.2.2 HBX.out).ex; exact (b1.trans (by congr 2; exact Array.ext (by simpa using b2) (fun i h1 h2 => by have := b3 i (by simpa using h2); rw [Array.getElem?_eq_getElem h1] at this; injection this with this; rw [this]; simp at h2; rcases i with _ | _ | _ | _ | i <;> first | rfl | omega)))))
              clear hHeld
              refine hK.out _ _ trivial (fun hHeld => ?_)
              clear hK K
              try simp only [Act.put, List.setIfInBounds_toArray, List.set_cons_zero, List.set_cons_succ]
              refine wpAnyH_ready (rs := [5]) (by kernel_rfl) (by simp) ?_
              refine AllReadyH.cons (o := { dst := some 28, op := Go.Op.call { callee := Go.Callee.builtin Go.Builtin.append, args := #[Go.Operand.tmp 23, Go.Operand.tmp 27], argTypes := #[30, 30] }, type := 30, pos := "l09_documents.go:91", after := #[{ on := 0, ground := Go.Ground.data }, { on := 4, ground := Go.Ground.data }, { on := 2, ground := Go.Ground.chain }, { on := 0, ground := Go.Ground.phase }, { on := 1, ground := Go.Ground.phase }, { on := 2, ground := Go.Ground.phase }, { on := 3, ground := Go.Ground.phase }, { on := 4, ground := Go.Ground.phase }], guard := none }) rfl (fun K hK => ?_) AllReadyH.nil
              (refine step_append_lies _ rfl (.tmp 23) (.tmp 27) 30 rfl (w.heap.size + 3) 39 i59 _ 4 64 Try.underlying30 hi59 hy0 hy1 hy2 rfl (by decide) _ k'.length _ (by simp [Act.eval, Act.put]) HO.out ⟨wr.heap.size + 1, 0, none⟩ 1 1 [.string ⟨#[]⟩, .string ⟨#[]⟩, .bool false, .slice none 0 0] (by simp [Act.eval, Act.put]) rfl HSRC.out (by intro y hy; simp at hy; rcases hy with rfl | rfl | rfl | rfl <;> rfl) (by decide) (by unfold maxLen; omega) (by omega) HZ2.out _ rfl ?_; intro g7 cap7 w7 hown7 hgr7 hat7 hlt7; have hU := HUP.out g7 cap7 w7 hown7 hgr7 hat7; clear hown7 hgr7 hat7 hlt7)
              clear hHeld
              refine hK.out _ _ trivial (fun hHeld => ?_)
              clear hK K
              try simp only [Act.put, List.setIfInBounds_toArray, List.set_cons_zero, List.set_cons_succ]
              obtain ⟨t8, f8, e0, e1, e2, e3, g0, g1, g2, g3, hN1, hN2⟩ := hU.more
              obtain ⟨t7, f7, z0, z1, z2, z3, y0, y1, y2, y3, hne7, _⟩ := hU
              have HN1 := (show Hid _ from hN1); clear hN1
              have HN2 := (show Hid _ from hN2); clear hN2
              clear HO HZ2 HUP
              refine wpAnyH_take (i := 6) (oi := { dst := some 29, op := Go.Op.indexAddr 30 (Go.Operand.tmp 28) (Go.Operand.tmp 26), type := 0, pos := "l09_documents.go:91", after := #[{ on := 5, ground := Go.Ground.data }, { on := 3, ground := Go.Ground.data }, { on := 0, ground := Go.Ground.phase }, { on := 1, ground := Go.Ground.phase }, { on := 2, ground := Go.Ground.phase }, { on := 3, ground := Go.Ground.phase }, { on := 4, ground := Go.Ground.phase }, { on := 5, ground := Go.Ground.phase }, { on := 8, ground := Go.Ground.gcOnly Go.Departure.appendInPlace }], guard := none }) (v := ?v4) rfl (by kernel_rfl) (by kernel_rfl) (by kernel_rfl) (fun _ _ _ h => h) (Or.inl ⟨by rfl, ?h4⟩) hHeld ?r4
              case h4 => (intro w hSw; (try dsimp only at hSw); go_simp; try with_reducible rfl)
              try simp only [Act.put, List.setIfInBounds_toArray, List.set_cons_zero, List.set_cons_succ]
              refine wpAnyH_ready (rs := [7, 8]) (by kernel_rfl) (by simp) ?_
              refine AllReadyH.cons (o := { dst := none, op := Go.Op.store 39 (Go.Operand.tmp 29) (Go.Operand.tmp 25), type := 0, pos := "l09_documents.go:91", after := #[{ on := 6, ground := Go.Ground.data }, { on := 2, ground := Go.Ground.data }, { on := 5, ground := Go.Ground.chain }, { on := 0, ground := Go.Ground.phase }, { on := 1, ground := Go.Ground.phase }, { on := 2, ground := Go.Ground.phase }, { on := 3, ground := Go.Ground.phase }, { on := 4, ground := Go.Ground.phase }, { on := 5, ground := Go.Ground.phase }, { on := 8, ground := Go.Ground.gcOnly Go.Departure.appendInPlace }], guard := none }) rfl (fun K hK => ?_) (AllReadyH.cons (o := { dst := none, op := Go.Op.store 30 (Go.Operand.tmp 2) (Go.Operand.tmp 28), type := 0, pos := "l09_documents.go:91", after := #[{ on := 5, ground := Go.Ground.data }, { on := 5, ground := Go.Ground.chain }, { on := 7, ground := Go.Ground.textOnly Go.Departure.appendInPlace }, { on := 0, ground := Go.Ground.phase }, { on := 1, ground := Go.Ground.phase }, { on := 2, ground := Go.Ground.phase }, { on := 3, ground := Go.Ground.phase }, { on := 4, ground := Go.Ground.phase }, { on := 5, ground := Go.Ground.phase }, { on := 6, ground := Go.Ground.textOnly Go.Departure.appendInPlace }, { on := 7, ground := Go.Ground.textOnly Go.Departure.appendInPlace }], guard := none }) rfl (fun K hK => ?_) AllReadyH.nil)
              · go_simp
                clear hHeld
                refine hK.out _ _ trivial (fun hHeld => ?_)
                clear hK K
                try simp only [Act.put, List.setIfInBounds_toArray, List.set_cons_zero, List.set_cons_succ]
                refine wpAnyH_ready (rs := [8]) (by kernel_rfl) (by simp) ?_
                refine AllReadyH.cons (o := { dst := none, op := Go.Op.store 30 (Go.Operand.tmp 2) (Go.Operand.tmp 28), type := 0, pos := "l09_documents.go:91", after := #[{ on := 5, ground := Go.Ground.data }, { on := 5, ground := Go.Ground.chain }, { on := 7, ground := Go.Ground.textOnly Go.Departure.appendInPlace }, { on := 0, ground := Go.Ground.phase }, { on := 1, ground := Go.Ground.phase }, { on := 2, ground := Go.Ground.phase }, { on := 3, ground := Go.Ground.phase }, { on := 4, ground := Go.Ground.phase }, { on := 5, ground := Go.Ground.phase }, { on := 6, ground := Go.Ground.textOnly Go.Departure.appendInPlace }, { on := 7, ground := Go.Ground.textOnly Go.Departure.appendInPlace }], guard := none }) rfl (fun K hK => ?_) AllReadyH.nil
                go_simp
                clear hHeld
                refine hK.out _ _ trivial (fun hHeld => ?_)
                clear hK K
                try simp only [Act.put, List.setIfInBounds_toArray, List.set_cons_zero, List.set_cons_succ]
                refine wpAnyH_done (by kernel_rfl) ?_ _
                (try refine NoPanic.normal ?_)
                go_wp2_with fail
                exact ⟨⟨k'.length + 1, _, k' ++ [t], by go_num, by omega, (by show _ = _; simp), HFN, HN2⟩, by simp [intOf]; omega⟩
              · go_simp
                clear hHeld
                refine hK.out _ _ trivial (fun hHeld => ?_)
                clear hK K
                try simp only [Act.put, List.setIfInBounds_toArray, List.set_cons_zero, List.set_cons_succ]
                refine wpAnyH_ready (rs := [7]) (by kernel_rfl) (by simp) ?_
                refine AllReadyH.cons (o := { dst := none, op := Go.Op.store 39 (Go.Operand.tmp 29) (Go.Operand.tmp 25), type := 0, pos := "l09_documents.go:91", after := #[{ on := 6, ground := Go.Ground.data }, { on := 2, ground := Go.Ground.data }, { on := 5, ground := Go.Ground.chain }, { on := 0, ground := Go.Ground.phase }, { on := 1, ground := Go.Ground.phase }, { on := 2, ground := Go.Ground.phase }, { on := 3, ground := Go.Ground.phase }, { on := 4, ground := Go.Ground.phase }, { on := 5, ground := Go.Ground.phase }, { on := 8, ground := Go.Ground.gcOnly Go.Departure.appendInPlace }], guard := none }) rfl (fun K hK => ?_) AllReadyH.nil
                go_simp
                clear hHeld
                refine hK.out _ _ trivial (fun hHeld => ?_)
                clear hK K
                try simp only [Act.put, List.setIfInBounds_toArray, List.set_cons_zero, List.set_cons_succ]
                refine wpAnyH_done (by kernel_rfl) ?_ _
                (try refine NoPanic.normal ?_)
                go_wp2_with fail
                exact ⟨⟨k'.length + 1, _, k' ++ [t], by go_num, by omega, (by show _ = _; simp), HFN, HN1⟩, by simp [intOf]; omega⟩
          · go_simp
            refine Calls.mono (HCL.out _ (by first | with_reducible exact hA | with_reducible exact hB | with_reducible exact hB2)) ?_
            rintro e w1 ⟨a2, l2, p2, rfl, HQ⟩
            dsimp only
            obtain ⟨U1, _, _, _⟩ := HAF.out w1 a2 l2 p2 _ _ HQ.out.1 HQ.out.2.1 HQ.out.2.2.1 (Nat.le_refl _)
            obtain ⟨U2, HO, HZ2, HUP⟩ := HAF.out (w1.alloc (.cells #[.string ⟨#[]⟩, .string ⟨#[]⟩, .bool false, .slice none 0 0] 39)) a2 l2 p2 _ _ (bel_trans HQ.out.1 (bel_alloc _ _)) (HQ.out.2.1.still (bel_alloc _ _)) HQ.out.2.2.1 (by simp)
            clear hHeld
            refine hK.out _ _ trivial (fun hHeld => ?_)
            clear hK K
            try simp only [Act.put, List.setIfInBounds_toArray, List.set_cons_zero, List.set_cons_succ]
            refine wpAnyH_ready (rs := [0, 4]) (by kernel_rfl) (by simp) ?_
            refine (AllReadyH.cons (o := { dst := some 23, op := Go.Op.load 30 (Go.Operand.tmp 2), type := 30, pos := "l09_documents.go:91", after := #[], guard := none }) rfl (fun K hK => ?_) (AllReadyH.cons (o := { dst := some 27, op := Go.Op.buildSlice 30 1 #[(0, Go.Operand.const (Go.Value.agg #[Go.Value.string { data := #[] }, Go.Value.string { data := #[] }, Go.Value.bool false, Go.Value.slice none 0 0]))], type := 30, pos := "l09_documents.go:91", after := #[], guard := none }) rfl (fun K hK => ?_) AllReadyH.nil))
            · go_simp
              clear hHeld
              refine hK.out _ _ trivial (fun hHeld => ?_)
              clear hK K
              try simp only [Act.put, List.setIfInBounds_toArray, List.set_cons_zero, List.set_cons_succ]
              refine wpAnyH_take (i := 3) (oi := { dst := some 26, op := Go.Op.call { callee := Go.Callee.builtin Go.Builtin.len, args := #[Go.Operand.tmp 23], argTypes := #[30] }, type := 3, pos := "l09_documents.go:91", after := #[{ on := 0, ground := Go.Ground.data }], guard := none }) (v := ?v5) rfl (by kernel_rfl) (by kernel_rfl) (by kernel_rfl) (fun _ _ _ h => h) (Or.inl ⟨by rfl, ?h5⟩) hHeld ?r5
              case h5 => (intro w hSw; (try dsimp only at hSw); go_simp; try with_reducible rfl)
              try simp only [Act.put, List.setIfInBounds_toArray, List.set_cons_zero, List.set_cons_succ]
              refine wpAnyH_ready (rs := [4]) (by kernel_rfl) (by simp) ?_
              refine (AllReadyH.cons (o := { dst := some 27, op := Go.Op.buildSlice 30 1 #[(0, Go.Operand.const (Go.Value.agg #[Go.Value.string { data := #[] }, Go.Value.string { data := #[] }, Go.Value.bool false, Go.Value.slice none 0 0]))], type := 30, pos := "l09_documents.go:91", after := #[], guard := none }) rfl (fun K hK => ?_) AllReadyH.nil)
              go_simp
              clear hHeld
              refine hK.out _ _ trivial (fun hHeld => ?_)
              clear hK K
              try simp only [Act.put, List.setIfInBounds_toArray, List.set_cons_zero, List.set_cons_succ]
              refine wpAnyH_ready (rs := [5]) (by kernel_rfl) (by simp) ?_
              refine AllReadyH.cons (o := { dst := some 28, op := Go.Op.call { callee := Go.Callee.builtin Go.Builtin.append, args := #[Go.Operand.tmp 23, Go.Operand.tmp 27], argTypes := #[30, 30] }, type := 30, pos := "l09_documents.go:91", after := #[{ on := 0, ground := Go.Ground.data }, { on := 4, ground := Go.Ground.data }, { on := 2, ground := Go.Ground.chain }, { on := 0, ground := Go.Ground.phase }, { on := 1, ground := Go.Ground.phase }, { on := 2, ground := Go.Ground.phase }, { on := 3, ground := Go.Ground.phase }, { on := 4, ground := Go.Ground.phase }], guard := none }) rfl (fun K hK => ?_) AllReadyH.nil
              (refine step_append_lies _ rfl (.tmp 23) (.tmp 27) 30 rfl (w.heap.size + 3) 39 i59 _ 4 64 Try.underlying30 hi59 hy0 hy1 hy2 rfl (by decide) _ k'.length _ (by simp [Act.eval, Act.put]) HO.out ⟨w1.heap.size, 0, none⟩ 1 1 [.string ⟨#[]⟩, .string ⟨#[]⟩, .bool false, .slice none 0 0] (by simp [Act.eval, Act.put]) rfl (cell_four_box _ _ _ _ _ _) (by intro y hy; simp at hy; rcases hy with rfl | rfl | rfl | rfl <;> rfl) (by decide) (by unfold maxLen; omega) (by omega) HZ2.out _ rfl ?_; intro g7 cap7 w7 hown7 hgr7 hat7 hlt7; have hU := HUP.out g7 cap7 w7 hown7 hgr7 hat7; clear hown7 hgr7 hat7 hlt7)
              clear hHeld
              refine hK.out _ _ trivial (fun hHeld => ?_)
              clear hK K
              try simp only [Act.put, List.setIfInBounds_toArray, List.set_cons_zero, List.set_cons_succ]
              obtain ⟨t8, f8, e0, e1, e2, e3, g0, g1, g2, g3, hN1, hN2⟩ := hU.more
              obtain ⟨t7, f7, z0, z1, z2, z3, y0, y1, y2, y3, hne7, _⟩ := hU
              have HN1 := (show Hid _ from hN1); clear hN1
              have HN2 := (show Hid _ from hN2); clear hN2
              clear HO HZ2 HUP
              refine wpAnyH_take (i := 6) (oi := { dst := some 29, op := Go.Op.indexAddr 30 (Go.Operand.tmp 28) (Go.Operand.tmp 26), type := 0, pos := "l09_documents.go:91", after := #[{ on := 5, ground := Go.Ground.data }, { on := 3, ground := Go.Ground.data }, { on := 0, ground := Go.Ground.phase }, { on := 1, ground := Go.Ground.phase }, { on := 2, ground := Go.Ground.phase }, { on := 3, ground := Go.Ground.phase }, { on := 4, ground := Go.Ground.phase }, { on := 5, ground := Go.Ground.phase }, { on := 8, ground := Go.Ground.gcOnly Go.Departure.appendInPlace }], guard := none }) (v := ?v6) rfl (by kernel_rfl) (by kernel_rfl) (by kernel_rfl) (fun _ _ _ h => h) (Or.inl ⟨by rfl, ?h6⟩) hHeld ?r6
              case h6 => (intro w hSw; (try dsimp only at hSw); go_simp; try with_reducible rfl)
              try simp only [Act.put, List.setIfInBounds_toArray, List.set_cons_zero, List.set_cons_succ]
              refine wpAnyH_ready (rs := [7, 8]) (by kernel_rfl) (by simp) ?_
              refine AllReadyH.cons (o := { dst := none, op := Go.Op.store 39 (Go.Operand.tmp 29) (Go.Operand.tmp 25), type := 0, pos := "l09_documents.go:91", after := #[{ on := 6, ground := Go.Ground.data }, { on := 2, ground := Go.Ground.data }, { on := 5, ground := Go.Ground.chain }, { on := 0, ground := Go.Ground.phase }, { on := 1, ground := Go.Ground.phase }, { on := 2, ground := Go.Ground.phase }, { on := 3, ground := Go.Ground.phase }, { on := 4, ground := Go.Ground.phase }, { on := 5, ground := Go.Ground.phase }, { on := 8, ground := Go.Ground.gcOnly Go.Departure.appendInPlace }], guard := none }) rfl (fun K hK => ?_) (AllReadyH.cons (o := { dst := none, op := Go.Op.store 30 (Go.Operand.tmp 2) (Go.Operand.tmp 28), type := 0, pos := "l09_documents.go:91", after := #[{ on := 5, ground := Go.Ground.data }, { on := 5, ground := Go.Ground.chain }, { on := 7, ground := Go.Ground.textOnly Go.Departure.appendInPlace }, { on := 0, ground := Go.Ground.phase }, { on := 1, ground := Go.Ground.phase }, { on := 2, ground := Go.Ground.phase }, { on := 3, ground := Go.Ground.phase }, { on := 4, ground := Go.Ground.phase }, { on := 5, ground := Go.Ground.phase }, { on := 6, ground := Go.Ground.textOnly Go.Departure.appendInPlace }, { on := 7, ground := Go.Ground.textOnly Go.Departure.appendInPlace }], guard := none }) rfl (fun K hK => ?_) AllReadyH.nil)
              · go_simp
                clear hHeld
                refine hK.out _ _ trivial (fun hHeld => ?_)
                clear hK K
                try simp only [Act.put, List.setIfInBounds_toArray, List.set_cons_zero, List.set_cons_succ]
                refine wpAnyH_ready (rs := [8]) (by kernel_rfl) (by simp) ?_
                refine AllReadyH.cons (o := { dst := none, op := Go.Op.store 30 (Go.Operand.tmp 2) (Go.Operand.tmp 28), type := 0, pos := "l09_documents.go:91", after := #[{ on := 5, ground := Go.Ground.data }, { on := 5, ground := Go.Ground.chain }, { on := 7, ground := Go.Ground.textOnly Go.Departure.appendInPlace }, { on := 0, ground := Go.Ground.phase }, { on := 1, ground := Go.Ground.phase }, { on := 2, ground := Go.Ground.phase }, { on := 3, ground := Go.Ground.phase }, { on := 4, ground := Go.Ground.phase }, { on := 5, ground := Go.Ground.phase }, { on := 6, ground := Go.Ground.textOnly Go.Departure.appendInPlace }, { on := 7, ground := Go.Ground.textOnly Go.Departure.appendInPlace }], guard := none }) rfl (fun K hK => ?_) AllReadyH.nil
                go_simp
                clear hHeld
                refine hK.out _ _ trivial (fun hHeld => ?_)
                clear hK K
                try simp only [Act.put, List.setIfInBounds_toArray, List.set_cons_zero, List.set_cons_succ]
                refine wpAnyH_done (by kernel_rfl) ?_ _
                (try refine NoPanic.normal ?_)
                go_wp2_with fail
                exact ⟨⟨k'.length + 1, _, k' ++ [t], by go_num, by omega, (by show _ = _; simp), HFN, HN2⟩, by simp [intOf]; omega⟩
              · go_simp
                clear hHeld
                refine hK.out _ _ trivial (fun hHeld => ?_)
                clear hK K
                try simp only [Act.put, List.setIfInBounds_toArray, List.set_cons_zero, List.set_cons_succ]
                refine wpAnyH_ready (rs := [7]) (by kernel_rfl) (by simp) ?_
                refine AllReadyH.cons (o := { dst := none, op := Go.Op.store 39 (Go.Operand.tmp 29) (Go.Operand.tmp 25), type := 0, pos := "l09_documents.go:91", after := #[{ on := 6, ground := Go.Ground.data }, { on := 2, ground := Go.Ground.data }, { on := 5, ground := Go.Ground.chain }, { on := 0, ground := Go.Ground.phase }, { on := 1, ground := Go.Ground.phase }, { on := 2, ground := Go.Ground.phase }, { on := 3, ground := Go.Ground.phase }, { on := 4, ground := Go.Ground.phase }, { on := 5, ground := Go.Ground.phase }, { on := 8, ground := Go.Ground.gcOnly Go.Departure.appendInPlace }], guard := none }) rfl (fun K hK => ?_) AllReadyH.nil
                go_simp
                clear hHeld
                refine hK.out _ _ trivial (fun hHeld => ?_)
                clear hK K
                try simp only [Act.put, List.setIfInBounds_toArray, List.set_cons_zero, List.set_cons_succ]
                refine wpAnyH_done (by kernel_rfl) ?_ _
                (try refine NoPanic.normal ?_)
                go_wp2_with fail
                exact ⟨⟨k'.length + 1, _, k' ++ [t], by go_num, by omega, (by show _ = _; simp), HFN, HN1⟩, by simp [intOf]; omega⟩
            · go_simp
              clear hHeld
              refine hK.out _ _ trivial (fun hHeld => ?_)
              clear hK K
              try simp only [Act.put, List.setIfInBounds_toArray, List.set_cons_zero, List.set_cons_succ]
              refine wpAnyH_ready (rs := [0]) (by kernel_rfl) (by simp) ?_
              refine (AllReadyH.cons (o := { dst := some 23, op := Go.Op.load 30 (Go.Operand.tmp 2), type := 30, pos := "l09_documents.go:91", after := #[], guard := none }) rfl (fun K hK => ?_) AllReadyH.nil)
              go_simp
              clear hHeld
              refine hK.out _ _ trivial (fun hHeld => ?_)
              clear hK K
              try simp only [Act.put, List.setIfInBounds_toArray, List.set_cons_zero, List.set_cons_succ]
              refine wpAnyH_take (i := 3) (oi := { dst := some 26, op := Go.Op.call { callee := Go.Callee.builtin Go.Builtin.len, args := #[Go.Operand.tmp 23], argTypes := #[30] }, type := 3, pos := "l09_documents.go:91", after := #[{ on := 0, ground := Go.Ground.data }], guard := none }) (v := ?v7) rfl (by kernel_rfl) (by kernel_rfl) (by kernel_rfl) (fun _ _ _ h => h) (Or.inl ⟨by rfl, ?h7⟩) hHeld ?r7
              case h7 => (intro w hSw; (try dsimp only at hSw); go_simp; try with_reducible rfl)
              try simp only [Act.put, List.setIfInBounds_toArray, List.set_cons_zero, List.set_cons_succ]
              refine wpAnyH_ready (rs := [5]) (by kernel_rfl) (by simp) ?_
              refine AllReadyH.cons (o := { dst := some 28, op := Go.Op.call { callee := Go.Callee.builtin Go.Builtin.append, args := #[Go.Operand.tmp 23, Go.Operand.tmp 27], argTypes := #[30, 30] }, type := 30, pos := "l09_documents.go:91", after := #[{ on := 0, ground := Go.Ground.data }, { on := 4, ground := Go.Ground.data }, { on := 2, ground := Go.Ground.chain }, { on := 0, ground := Go.Ground.phase }, { on := 1, ground := Go.Ground.phase }, { on := 2, ground := Go.Ground.phase }, { on := 3, ground := Go.Ground.phase }, { on := 4, ground := Go.Ground.phase }], guard := none }) rfl (fun K hK => ?_) AllReadyH.nil
              (refine step_append_lies _ rfl (.tmp 23) (.tmp 27) 30 rfl (w.heap.size + 3) 39 i59 _ 4 64 Try.underlying30 hi59 hy0 hy1 hy2 rfl (by decide) _ k'.length _ (by simp [Act.eval, Act.put]) HO.out ⟨w1.heap.size, 0, none⟩ 1 1 [.string ⟨#[]⟩, .string ⟨#[]⟩, .bool false, .slice none 0 0] (by simp [Act.eval, Act.put]) rfl (cell_four_box _ _ _ _ _ _) (by intro y hy; simp at hy; rcases hy with rfl | rfl | rfl | rfl <;> rfl) (by decide) (by unfold maxLen; omega) (by omega) HZ2.out _ rfl ?_; intro g7 cap7 w7 hown7 hgr7 hat7 hlt7; have hU := HUP.out g7 cap7 w7 hown7 hgr7 hat7; clear hown7 hgr7 hat7 hlt7)
              clear hHeld
              refine hK.out _ _ trivial (fun hHeld => ?_)
              clear hK K
              try simp only [Act.put, List.setIfInBounds_toArray, List.set_cons_zero, List.set_cons_succ]
              obtain ⟨t8, f8, e0, e1, e2, e3, g0, g1, g2, g3, hN1, hN2⟩ := hU.more
              obtain ⟨t7, f7, z0, z1, z2, z3, y0, y1, y2, y3, hne7, _⟩ := hU
              have HN1 := (show Hid _ from hN1); clear hN1
              have HN2 := (show Hid _ from hN2); clear hN2
              clear HO HZ2 HUP
              refine wpAnyH_take (i := 6) (oi := { dst := some 29, op := Go.Op.indexAddr 30 (Go.Operand.tmp 28) (Go.Operand.tmp 26), type := 0, pos := "l09_documents.go:91", after := #[{ on := 5, ground := Go.Ground.data }, { on := 3, ground := Go.Ground.data }, { on := 0, ground := Go.Ground.phase }, { on := 1, ground := Go.Ground.phase }, { on := 2, ground := Go.Ground.phase }, { on := 3, ground := Go.Ground.phase }, { on := 4, ground := Go.Ground.phase }, { on := 5, ground := Go.Ground.phase }, { on := 8, ground := Go.Ground.gcOnly Go.Departure.appendInPlace }], guard := none }) (v := ?v8) rfl (by kernel_rfl) (by kernel_rfl) (by kernel_rfl) (fun _ _ _ h => h) (Or.inl ⟨by rfl, ?h8⟩) hHeld ?r8
              case h8 => (intro w hSw; (try dsimp only at hSw); go_simp; try with_reducible rfl)
              try simp only [Act.put, List.setIfInBounds_toArray, List.set_cons_zero, List.set_cons_succ]
              refine wpAnyH_ready (rs := [7, 8]) (by kernel_rfl) (by simp) ?_
              refine AllReadyH.cons (o := { dst := none, op := Go.Op.store 39 (Go.Operand.tmp 29) (Go.Operand.tmp 25), type := 0, pos := "l09_documents.go:91", after := #[{ on := 6, ground := Go.Ground.data }, { on := 2, ground := Go.Ground.data }, { on := 5, ground := Go.Ground.chain }, { on := 0, ground := Go.Ground.phase }, { on := 1, ground := Go.Ground.phase }, { on := 2, ground := Go.Ground.phase }, { on := 3, ground := Go.Ground.phase }, { on := 4, ground := Go.Ground.phase }, { on := 5, ground := Go.Ground.phase }, { on := 8, ground := Go.Ground.gcOnly Go.Departure.appendInPlace }], guard := none }) rfl (fun K hK => ?_) (AllReadyH.cons (o := { dst := none, op := Go.Op.store 30 (Go.Operand.tmp 2) (Go.Operand.tmp 28), type := 0, pos := "l09_documents.go:91", after := #[{ on := 5, ground := Go.Ground.data }, { on := 5, ground := Go.Ground.chain }, { on := 7, ground := Go.Ground.textOnly Go.Departure.appendInPlace }, { on := 0, ground := Go.Ground.phase }, { on := 1, ground := Go.Ground.phase }, { on := 2, ground := Go.Ground.phase }, { on := 3, ground := Go.Ground.phase }, { on := 4, ground := Go.Ground.phase }, { on := 5, ground := Go.Ground.phase }, { on := 6, ground := Go.Ground.textOnly Go.Departure.appendInPlace }, { on := 7, ground := Go.Ground.textOnly Go.Departure.appendInPlace }], guard := none }) rfl (fun K hK => ?_) AllReadyH.nil)
              · go_simp
                clear hHeld
                refine hK.out _ _ trivial (fun hHeld => ?_)
                clear hK K
                try simp only [Act.put, List.setIfInBounds_toArray, List.set_cons_zero, List.set_cons_succ]
                refine wpAnyH_ready (rs := [8]) (by kernel_rfl) (by simp) ?_
                refine AllReadyH.cons (o := { dst := none, op := Go.Op.store 30 (Go.Operand.tmp 2) (Go.Operand.tmp 28), type := 0, pos := "l09_documents.go:91", after := #[{ on := 5, ground := Go.Ground.data }, { on := 5, ground := Go.Ground.chain }, { on := 7, ground := Go.Ground.textOnly Go.Departure.appendInPlace }, { on := 0, ground := Go.Ground.phase }, { on := 1, ground := Go.Ground.phase }, { on := 2, ground := Go.Ground.phase }, { on := 3, ground := Go.Ground.phase }, { on := 4, ground := Go.Ground.phase }, { on := 5, ground := Go.Ground.phase }, { on := 6, ground := Go.Ground.textOnly Go.Departure.appendInPlace }, { on := 7, ground := Go.Ground.textOnly Go.Departure.appendInPlace }], guard := none }) rfl (fun K hK => ?_) AllReadyH.nil
                go_simp
                clear hHeld
                refine hK.out _ _ trivial (fun hHeld => ?_)
                clear hK K
                try simp only [Act.put, List.setIfInBounds_toArray, List.set_cons_zero, List.set_cons_succ]
                refine wpAnyH_done (by kernel_rfl) ?_ _
                (try refine NoPanic.normal ?_)
                go_wp2_with fail
                exact ⟨⟨k'.length + 1, _, k' ++ [t], by go_num, by omega, (by show _ = _; simp), HFN, HN2⟩, by simp [intOf]; omega⟩
              · go_simp
                clear hHeld
                refine hK.out _ _ trivial (fun hHeld => ?_)
                clear hK K
                try simp only [Act.put, List.setIfInBounds_toArray, List.set_cons_zero, List.set_cons_succ]
                refine wpAnyH_ready (rs := [7]) (by kernel_rfl) (by simp) ?_
                refine AllReadyH.cons (o := { dst := none, op := Go.Op.store 39 (Go.Operand.tmp 29) (Go.Operand.tmp 25), type := 0, pos := "l09_documents.go:91", after := #[{ on := 6, ground := Go.Ground.data }, { on := 2, ground := Go.Ground.data }, { on := 5, ground := Go.Ground.chain }, { on := 0, ground := Go.Ground.phase }, { on := 1, ground := Go.Ground.phase }, { on := 2, ground := Go.Ground.phase }, { on := 3, ground := Go.Ground.phase }, { on := 4, ground := Go.Ground.phase }, { on := 5, ground := Go.Ground.phase }, { on := 8, ground := Go.Ground.gcOnly Go.Departure.appendInPlace }], guard := none }) rfl (fun K hK => ?_) AllReadyH.nil
                go_simp
                clear hHeld
                refine hK.out _ _ trivial (fun hHeld => ?_)
                clear hK K
                try simp only [Act.put, List.setIfInBounds_toArray, List.set_cons_zero, List.set_cons_succ]
                refine wpAnyH_done (by kernel_rfl) ?_ _
                (try refine NoPanic.normal ?_)
                go_wp2_with fail
                exact ⟨⟨k'.length + 1, _, k' ++ [t], by go_num, by omega, (by show _ = _; simp), HFN, HN1⟩, by simp [intOf]; omega⟩
          · go_simp
            clear hHeld
            refine hK.out _ _ trivial (fun hHeld => ?_)
            clear hK K
            try simp only [Act.put, List.setIfInBounds_toArray, List.set_cons_zero, List.set_cons_succ]
            refine wpAnyH_ready (rs := [0, 2]) (by kernel_rfl) (by simp) ?_
            refine (AllReadyH.cons (o := { dst := some 23, op := Go.Op.load 30 (Go.Operand.tmp 2), type := 30, pos := "l09_documents.go:91", after := #[], guard := none }) rfl (fun K hK => ?_) (AllReadyH.cons (o := { dst := some 25, op := Go.Op.call { callee := Go.Callee.value (Go.Operand.func 25), args := #[Go.Operand.tmp 6, Go.Operand.tmp 24, Go.Operand.const (Go.Value.int Go.IntKind.i64 1)], argTypes := #[63, 3, 3] }, type := 39, pos := "l09_documents.go:91", after := #[{ on := 1, ground := Go.Ground.data }], guard := none }) rfl (fun K hK => ?_) AllReadyH.nil))
            · go_simp
              clear hHeld
              refine hK.out _ _ trivial (fun hHeld => ?_)
              clear hK K
              try simp only [Act.put, List.setIfInBounds_toArray, List.set_cons_zero, List.set_cons_succ]
              refine wpAnyH_take (i := 3) (oi := { dst := some 26, op := Go.Op.call { callee := Go.Callee.builtin Go.Builtin.len, args := #[Go.Operand.tmp 23], argTypes := #[30] }, type := 3, pos := "l09_documents.go:91", after := #[{ on := 0, ground := Go.Ground.data }], guard := none }) (v := ?v9) rfl (by kernel_rfl) (by kernel_rfl) (by kernel_rfl) (fun _ _ _ h => h) (Or.inl ⟨by rfl, ?h9⟩) hHeld ?r9
              case h9 => (intro w hSw; (try dsimp only at hSw); go_simp; try with_reducible rfl)
              try simp only [Act.put, List.setIfInBounds_toArray, List.set_cons_zero, List.set_cons_succ]
              refine wpAnyH_ready (rs := [2]) (by kernel_rfl) (by simp) ?_
              refine (AllReadyH.cons (o := { dst := some 25, op := Go.Op.call { callee := Go.Callee.value (Go.Operand.func 25), args := #[Go.Operand.tmp 6, Go.Operand.tmp 24, Go.Operand.const (Go.Value.int Go.IntKind.i64 1)], argTypes := #[63, 3, 3] }, type := 39, pos := "l09_documents.go:91", after := #[{ on := 1, ground := Go.Ground.data }], guard := none }) rfl (fun K hK => ?_) AllReadyH.nil)
              go_simp
              refine Calls.mono (HCL.out _ (by first | with_reducible exact hA | with_reducible exact hB | with_reducible exact hB2)) ?_
              rintro e w1 ⟨a2, l2, p2, rfl, HQ⟩
              dsimp only
              obtain ⟨U1, HO, HZ2, HUP⟩ := HAF.out w1 a2 l2 p2 _ _ HQ.out.1 HQ.out.2.1 HQ.out.2.2.1 (Nat.le_refl _)
              have HSRC := (show Hid _ from World.news_of_block (cs := #[.string ⟨#[]⟩, .string ⟨#[]⟩, .bool false, .slice none 0 0]) (by obtain ⟨c, b1, b2, b3⟩ := (HQ.out.2.2.2 HBX.out).ex; exact (b1.trans (by congr 2; exact Array.ext (by simpa using b2) (fun i h1 h2 => by have := b3 i (by simpa using h2); rw [Array.getElem?_eq_getElem h1] at this; injection this with this; rw [this]; simp at h2; rcases i with _ | _ | _ | _ | i <;> first | rfl | omega)))))
              clear hHeld
              refine hK.out _ _ trivial (fun hHeld => ?_)
              clear hK K
              try simp only [Act.put, List.setIfInBounds_toArray, List.set_cons_zero, List.set_cons_succ]
              refine wpAnyH_ready (rs := [5]) (by kernel_rfl) (by simp) ?_
              refine AllReadyH.cons (o := { dst := some 28, op := Go.Op.call { callee := Go.Callee.builtin Go.Builtin.append, args := #[Go.Operand.tmp 23, Go.Operand.tmp 27], argTypes := #[30, 30] }, type := 30, pos := "l09_documents.go:91", after := #[{ on := 0, ground := Go.Ground.data }, { on := 4, ground := Go.Ground.data }, { on := 2, ground := Go.Ground.chain }, { on := 0, ground := Go.Ground.phase }, { on := 1, ground := Go.Ground.phase }, { on := 2, ground := Go.Ground.phase }, { on := 3, ground := Go.Ground.phase }, { on := 4, ground := Go.Ground.phase }], guard := none }) rfl (fun K hK => ?_) AllReadyH.nil
              (refine step_append_lies _ rfl (.tmp 23) (.tmp 27) 30 rfl (w.heap.size + 3) 39 i59 _ 4 64 Try.underlying30 hi59 hy0 hy1 hy2 rfl (by decide) _ k'.length _ (by simp [Act.eval, Act.put]) HO.out ⟨wr.heap.size + 1, 0, none⟩ 1 1 [.string ⟨#[]⟩, .string ⟨#[]⟩, .bool false, .slice none 0 0] (by simp [Act.eval, Act.put]) rfl HSRC.out (by intro y hy; simp at hy; rcases hy with rfl | rfl | rfl | rfl <;> rfl) (by decide) (by unfold maxLen; omega) (by omega) HZ2.out _ rfl ?_; intro g7 cap7 w7 hown7 hgr7 hat7 hlt7; have hU := HUP.out g7 cap7 w7 hown7 hgr7 hat7; clear hown7 hgr7 hat7 hlt7)
              clear hHeld
              refine hK.out _ _ trivial (fun hHeld => ?_)
              clear hK K
              try simp only [Act.put, List.setIfInBounds_toArray, List.set_cons_zero, List.set_cons_succ]
              obtain ⟨t8, f8, e0, e1, e2, e3, g0, g1, g2, g3, hN1, hN2⟩ := hU.more
              obtain ⟨t7, f7, z0, z1, z2, z3, y0, y1, y2, y3, hne7, _⟩ := hU
              have HN1 := (show Hid _ from hN1); clear hN1
              have HN2 := (show Hid _ from hN2); clear hN2
              clear HO HZ2 HUP
              refine wpAnyH_take (i := 6) (oi := { dst := some 29, op := Go.Op.indexAddr 30 (Go.Operand.tmp 28) (Go.Operand.tmp 26), type := 0, pos := "l09_documents.go:91", after := #[{ on := 5, ground := Go.Ground.data }, { on := 3, ground := Go.Ground.data }, { on := 0, ground := Go.Ground.phase }, { on := 1, ground := Go.Ground.phase }, { on := 2, ground := Go.Ground.phase }, { on := 3, ground := Go.Ground.phase }, { on := 4, ground := Go.Ground.phase }, { on := 5, ground := Go.Ground.phase }, { on := 8, ground := Go.Ground.gcOnly Go.Departure.appendInPlace }], guard := none }) (v := ?v10) rfl (by kernel_rfl) (by kernel_rfl) (by kernel_rfl) (fun _ _ _ h => h) (Or.inl ⟨by rfl, ?h10⟩) hHeld ?r10
              case h10 => (intro w hSw; (try dsimp only at hSw); go_simp; try with_reducible rfl)
              try simp only [Act.put, List.setIfInBounds_toArray, List.set_cons_zero, List.set_cons_succ]
              refine wpAnyH_ready (rs := [7, 8]) (by kernel_rfl) (by simp) ?_
              refine AllReadyH.cons (o := { dst := none, op := Go.Op.store 39 (Go.Operand.tmp 29) (Go.Operand.tmp 25), type := 0, pos := "l09_documents.go:91", after := #[{ on := 6, ground := Go.Ground.data }, { on := 2, ground := Go.Ground.data }, { on := 5, ground := Go.Ground.chain }, { on := 0, ground := Go.Ground.phase }, { on := 1, ground := Go.Ground.phase }, { on := 2, ground := Go.Ground.phase }, { on := 3, ground := Go.Ground.phase }, { on := 4, ground := Go.Ground.phase }, { on := 5, ground := Go.Ground.phase }, { on := 8, ground := Go.Ground.gcOnly Go.Departure.appendInPlace }], guard := none }) rfl (fun K hK => ?_) (AllReadyH.cons (o := { dst := none, op := Go.Op.store 30 (Go.Operand.tmp 2) (Go.Operand.tmp 28), type := 0, pos := "l09_documents.go:91", after := #[{ on := 5, ground := Go.Ground.data }, { on := 5, ground := Go.Ground.chain }, { on := 7, ground := Go.Ground.textOnly Go.Departure.appendInPlace }, { on := 0, ground := Go.Ground.phase }, { on := 1, ground := Go.Ground.phase }, { on := 2, ground := Go.Ground.phase }, { on := 3, ground := Go.Ground.phase }, { on := 4, ground := Go.Ground.phase }, { on := 5, ground := Go.Ground.phase }, { on := 6, ground := Go.Ground.textOnly Go.Departure.appendInPlace }, { on := 7, ground := Go.Ground.textOnly Go.Departure.appendInPlace }], guard := none }) rfl (fun K hK => ?_) AllReadyH.nil)
              · go_simp
                clear hHeld
                refine hK.out _ _ trivial (fun hHeld => ?_)
                clear hK K
                try simp only [Act.put, List.setIfInBounds_toArray, List.set_cons_zero, List.set_cons_succ]
                refine wpAnyH_ready (rs := [8]) (by kernel_rfl) (by simp) ?_
                refine AllReadyH.cons (o := { dst := none, op := Go.Op.store 30 (Go.Operand.tmp 2) (Go.Operand.tmp 28), type := 0, pos := "l09_documents.go:91", after := #[{ on := 5, ground := Go.Ground.data }, { on := 5, ground := Go.Ground.chain }, { on := 7, ground := Go.Ground.textOnly Go.Departure.appendInPlace }, { on := 0, ground := Go.Ground.phase }, { on := 1, ground := Go.Ground.phase }, { on := 2, ground := Go.Ground.phase }, { on := 3, ground := Go.Ground.phase }, { on := 4, ground := Go.Ground.phase }, { on := 5, ground := Go.Ground.phase }, { on := 6, ground := Go.Ground.textOnly Go.Departure.appendInPlace }, { on := 7, ground := Go.Ground.textOnly Go.Departure.appendInPlace }], guard := none }) rfl (fun K hK => ?_) AllReadyH.nil
                go_simp
                clear hHeld
                refine hK.out _ _ trivial (fun hHeld => ?_)
                clear hK K
                try simp only [Act.put, List.setIfInBounds_toArray, List.set_cons_zero, List.set_cons_succ]
                refine wpAnyH_done (by kernel_rfl) ?_ _
                (try refine NoPanic.normal ?_)
                go_wp2_with fail
                exact ⟨⟨k'.length + 1, _, k' ++ [t], by go_num, by omega, (by show _ = _; simp), HFN, HN2⟩, by simp [intOf]; omega⟩
              · go_simp
                clear hHeld
                refine hK.out _ _ trivial (fun hHeld => ?_)
                clear hK K
                try simp only [Act.put, List.setIfInBounds_toArray, List.set_cons_zero, List.set_cons_succ]
                refine wpAnyH_ready (rs := [7]) (by kernel_rfl) (by simp) ?_
                refine AllReadyH.cons (o := { dst := none, op := Go.Op.store 39 (Go.Operand.tmp 29) (Go.Operand.tmp 25), type := 0, pos := "l09_documents.go:91", after := #[{ on := 6, ground := Go.Ground.data }, { on := 2, ground := Go.Ground.data }, { on := 5, ground := Go.Ground.chain }, { on := 0, ground := Go.Ground.phase }, { on := 1, ground := Go.Ground.phase }, { on := 2, ground := Go.Ground.phase }, { on := 3, ground := Go.Ground.phase }, { on := 4, ground := Go.Ground.phase }, { on := 5, ground := Go.Ground.phase }, { on := 8, ground := Go.Ground.gcOnly Go.Departure.appendInPlace }], guard := none }) rfl (fun K hK => ?_) AllReadyH.nil
                go_simp
                clear hHeld
                refine hK.out _ _ trivial (fun hHeld => ?_)
                clear hK K
                try simp only [Act.put, List.setIfInBounds_toArray, List.set_cons_zero, List.set_cons_succ]
                refine wpAnyH_done (by kernel_rfl) ?_ _
                (try refine NoPanic.normal ?_)
                go_wp2_with fail
                exact ⟨⟨k'.length + 1, _, k' ++ [t], by go_num, by omega, (by show _ = _; simp), HFN, HN1⟩, by simp [intOf]; omega⟩
            · go_simp
              refine Calls.mono (HCL.out _ (by first | with_reducible exact hA | with_reducible exact hB | with_reducible exact hB2)) ?_
              rintro e w1 ⟨a2, l2, p2, rfl, HQ⟩
              dsimp only
              obtain ⟨U1, HO, HZ2, HUP⟩ := HAF.out w1 a2 l2 p2 _ _ HQ.out.1 HQ.out.2.1 HQ.out.2.2.1 (Nat.le_refl _)
              have HSRC := (show Hid _ from World.news_of_block (cs := #[.string ⟨#[]⟩, .string ⟨#[]⟩, .bool false, .slice none 0 0]) (by obtain ⟨c, b1, b2, b3⟩ := (HQ.out.2.2.2 HBX.out).ex; exact (b1.trans (by congr 2; exact Array.ext (by simpa using b2) (fun i h1 h2 => by have := b3 i (by simpa using h2); rw [Array.getElem?_eq_getElem h1] at this; injection this with this; rw [this]; simp at h2; rcases i with _ | _ | _ | _ | i <;> first | rfl | omega)))))
              clear hHeld
              refine hK.out _ _ trivial (fun hHeld => ?_)
              clear hK K
              try simp only [Act.put, List.setIfInBounds_toArray, List.set_cons_zero, List.set_cons_succ]
              refine wpAnyH_ready (rs := [0]) (by kernel_rfl) (by simp) ?_
              refine (AllReadyH.cons (o := { dst := some 23, op := Go.Op.load 30 (Go.Operand.tmp 2), type := 30, pos := "l09_documents.go:91", after := #[], guard := none }) rfl (fun K hK => ?_) AllReadyH.nil)
              go_simp
              clear hHeld
              refine hK.out _ _ trivial (fun hHeld => ?_)
              clear hK K
              try simp only [Act.put, List.setIfInBounds_toArray, List.set_cons_zero, List.set_cons_succ]
              refine wpAnyH_take (i := 3) (oi := { dst := some 26, op := Go.Op.call { callee := Go.Callee.builtin Go.Builtin.len, args := #[Go.Operand.tmp 23], argTypes := #[30] }, type := 3, pos := "l09_documents.go:91", after := #[{ on := 0, ground := Go.Ground.data }], guard := none }) (v := ?v11) rfl (by kernel_rfl) (by kernel_rfl) (by kernel_rfl) (fun _ _ _ h => h) (Or.inl ⟨by rfl, ?h11⟩) hHeld ?r11
              case h11 => (intro w hSw; (try dsimp only at hSw); go_simp; try with_reducible rfl)
              try simp only [Act.put, List.setIfInBounds_toArray, List.set_cons_zero, List.set_cons_succ]
              refine wpAnyH_ready (rs := [5]) (by kernel_rfl) (by simp) ?_
              refine AllReadyH.cons (o := { dst := some 28, op := Go.Op.call { callee := Go.Callee.builtin Go.Builtin.append, args := #[Go.Operand.tmp 23, Go.Operand.tmp 27], argTypes := #[30, 30] }, type := 30, pos := "l09_documents.go:91", after := #[{ on := 0, ground := Go.Ground.data }, { on := 4, ground := Go.Ground.data }, { on := 2, ground := Go.Ground.chain }, { on := 0, ground := Go.Ground.phase }, { on := 1, ground := Go.Ground.phase }, { on := 2, ground := Go.Ground.phase }, { on := 3, ground := Go.Ground.phase }, { on := 4, ground := Go.Ground.phase }], guard := none }) rfl (fun K hK => ?_) AllReadyH.nil
              (refine step_append_lies _ rfl (.tmp 23) (.tmp 27) 30 rfl (w.heap.size + 3) 39 i59 _ 4 64 Try.underlying30 hi59 hy0 hy1 hy2 rfl (by decide) _ k'.length _ (by simp [Act.eval, Act.put]) HO.out ⟨wr.heap.size + 1, 0, none⟩ 1 1 [.string ⟨#[]⟩, .string ⟨#[]⟩, .bool false, .slice none 0 0] (by simp [Act.eval, Act.put]) rfl HSRC.out (by intro y hy; simp at hy; rcases hy with rfl | rfl | rfl | rfl <;> rfl) (by decide) (by unfold maxLen; omega) (by omega) HZ2.out _ rfl ?_; intro g7 cap7 w7 hown7 hgr7 hat7 hlt7; have hU := HUP.out g7 cap7 w7 hown7 hgr7 hat7; clear hown7 hgr7 hat7 hlt7)
              clear hHeld
              refine hK.out _ _ trivial (fun hHeld => ?_)
              clear hK K
              try simp only [Act.put, List.setIfInBounds_toArray, List.set_cons_zero, List.set_cons_succ]
              obtain ⟨t8, f8, e0, e1, e2, e3, g0, g1, g2, g3, hN1, hN2⟩ := hU.more
              obtain ⟨t7, f7, z0, z1, z2, z3, y0, y1, y2, y3, hne7, _⟩ := hU
              have HN1 := (show Hid _ from hN1); clear hN1
              have HN2 := (show Hid _ from hN2); clear hN2
              clear HO HZ2 HUP
              refine wpAnyH_take (i := 6) (oi := { dst := some 29, op := Go.Op.indexAddr 30 (Go.Operand.tmp 28) (Go.Operand.tmp 26), type := 0, pos := "l09_documents.go:91", after := #[{ on := 5, ground := Go.Ground.data }, { on := 3, ground := Go.Ground.data }, { on := 0, ground := Go.Ground.phase }, { on := 1, ground := Go.Ground.phase }, { on := 2, ground := Go.Ground.phase }, { on := 3, ground := Go.Ground.phase }, { on := 4, ground := Go.Ground.phase }, { on := 5, ground := Go.Ground.phase }, { on := 8, ground := Go.Ground.gcOnly Go.Departure.appendInPlace }], guard := none }) (v := ?v12) rfl (by kernel_rfl) (by kernel_rfl) (by kernel_rfl) (fun _ _ _ h => h) (Or.inl ⟨by rfl, ?h12⟩) hHeld ?r12
              case h12 => (intro w hSw; (try dsimp only at hSw); go_simp; try with_reducible rfl)
              try simp only [Act.put, List.setIfInBounds_toArray, List.set_cons_zero, List.set_cons_succ]
              refine wpAnyH_ready (rs := [7, 8]) (by kernel_rfl) (by simp) ?_
              refine AllReadyH.cons (o := { dst := none, op := Go.Op.store 39 (Go.Operand.tmp 29) (Go.Operand.tmp 25), type := 0, pos := "l09_documents.go:91", after := #[{ on := 6, ground := Go.Ground.data }, { on := 2, ground := Go.Ground.data }, { on := 5, ground := Go.Ground.chain }, { on := 0, ground := Go.Ground.phase }, { on := 1, ground := Go.Ground.phase }, { on := 2, ground := Go.Ground.phase }, { on := 3, ground := Go.Ground.phase }, { on := 4, ground := Go.Ground.phase }, { on := 5, ground := Go.Ground.phase }, { on := 8, ground := Go.Ground.gcOnly Go.Departure.appendInPlace }], guard := none }) rfl (fun K hK => ?_) (AllReadyH.cons (o := { dst := none, op := Go.Op.store 30 (Go.Operand.tmp 2) (Go.Operand.tmp 28), type := 0, pos := "l09_documents.go:91", after := #[{ on := 5, ground := Go.Ground.data }, { on := 5, ground := Go.Ground.chain }, { on := 7, ground := Go.Ground.textOnly Go.Departure.appendInPlace }, { on := 0, ground := Go.Ground.phase }, { on := 1, ground := Go.Ground.phase }, { on := 2, ground := Go.Ground.phase }, { on := 3, ground := Go.Ground.phase }, { on := 4, ground := Go.Ground.phase }, { on := 5, ground := Go.Ground.phase }, { on := 6, ground := Go.Ground.textOnly Go.Departure.appendInPlace }, { on := 7, ground := Go.Ground.textOnly Go.Departure.appendInPlace }], guard := none }) rfl (fun K hK => ?_) AllReadyH.nil)
              · go_simp
                clear hHeld
                refine hK.out _ _ trivial (fun hHeld => ?_)
                clear hK K
                try simp only [Act.put, List.setIfInBounds_toArray, List.set_cons_zero, List.set_cons_succ]
                refine wpAnyH_ready (rs := [8]) (by kernel_rfl) (by simp) ?_
                refine AllReadyH.cons (o := { dst := none, op := Go.Op.store 30 (Go.Operand.tmp 2) (Go.Operand.tmp 28), type := 0, pos := "l09_documents.go:91", after := #[{ on := 5, ground := Go.Ground.data }, { on := 5, ground := Go.Ground.chain }, { on := 7, ground := Go.Ground.textOnly Go.Departure.appendInPlace }, { on := 0, ground := Go.Ground.phase }, { on := 1, ground := Go.Ground.phase }, { on := 2, ground := Go.Ground.phase }, { on := 3, ground := Go.Ground.phase }, { on := 4, ground := Go.Ground.phase }, { on := 5, ground := Go.Ground.phase }, { on := 6, ground := Go.Ground.textOnly Go.Departure.appendInPlace }, { on := 7, ground := Go.Ground.textOnly Go.Departure.appendInPlace }], guard := none }) rfl (fun K hK => ?_) AllReadyH.nil
                go_simp
                clear hHeld
                refine hK.out _ _ trivial (fun hHeld => ?_)
                clear hK K
                try simp only [Act.put, List.setIfInBounds_toArray, List.set_cons_zero, List.set_cons_succ]
                refine wpAnyH_done (by kernel_rfl) ?_ _
                (try refine NoPanic.normal ?_)
                go_wp2_with fail
                exact ⟨⟨k'.length + 1, _, k' ++ [t], by go_num, by omega, (by show _ = _; simp), HFN, HN2⟩, by simp [intOf]; omega⟩
              · go_simp
                clear hHeld
                refine hK.out _ _ trivial (fun hHeld => ?_)
                clear hK K
                try simp only [Act.put, List.setIfInBounds_toArray, List.set_cons_zero, List.set_cons_succ]
                refine wpAnyH_ready (rs := [7]) (by kernel_rfl) (by simp) ?_
                refine AllReadyH.cons (o := { dst := none, op := Go.Op.store 39 (Go.Operand.tmp 29) (Go.Operand.tmp 25), type := 0, pos := "l09_documents.go:91", after := #[{ on := 6, ground := Go.Ground.data }, { on := 2, ground := Go.Ground.data }, { on := 5, ground := Go.Ground.chain }, { on := 0, ground := Go.Ground.phase }, { on := 1, ground := Go.Ground.phase }, { on := 2, ground := Go.Ground.phase }, { on := 3, ground := Go.Ground.phase }, { on := 4, ground := Go.Ground.phase }, { on := 5, ground := Go.Ground.phase }, { on := 8, ground := Go.Ground.gcOnly Go.Departure.appendInPlace }], guard := none }) rfl (fun K hK => ?_) AllReadyH.nil
                go_simp
                clear hHeld
                refine hK.out _ _ trivial (fun hHeld => ?_)
                clear hK K
                try simp only [Act.put, List.setIfInBounds_toArray, List.set_cons_zero, List.set_cons_succ]
                refine wpAnyH_done (by kernel_rfl) ?_ _
                (try refine NoPanic.normal ?_)
                go_wp2_with fail
                exact ⟨⟨k'.length + 1, _, k' ++ [t], by go_num, by omega, (by show _ = _; simp), HFN, HN1⟩, by simp [intOf]; omega⟩
        · have HNO := (show Hid _ from no_fit hlt hf)
          have HCL : Hid (∀ wq : World, Below (wr.alloc (.cells #[.slice ua ns.length ucap, .int .i64 0] 63)).heap.size (wr.alloc (.cells #[.slice ua ns.length ucap, .int .i64 0] 63)) wq → Calls Try.prog 25 #[.pointer (some ⟨wr.heap.size, 0, none⟩), .int .i64 rs[k'.length], .int .i64 1] wq fun e w1 => e = .panicked [formFault] ∧ Hid (Box w1 (w.heap.size + 1) 30 [.slice va k'.length vp] ∧ Box w1 (w.heap.size + 1 + 1) 3 [.int .i64 0] ∧ Below w.heap.size w w1)) := fun wq hb => Calls.mono (HCL0.out wq hb) (by
            rintro e w1 ⟨k1, k2⟩
            rcases k2 with ⟨t', a2, l2, p2, k3, k4, k5, k6⟩ | ⟨k3, k4⟩
            · exact absurd ⟨t', k3⟩ hf
            · have hz := HZ.out
              have hbq := bel_trans hbW hb
              have hsq := hbq.size
              have hblk : ∀ p, p < wr.heap.size → w1.heap[p]? = wr.heap[p]? := fun p hp => (k1.block (by omega) (by omega)).trans (hbq.block p hp)
              exact ⟨k4, HT.out.b1.keep (hblk _ (by omega)), HT.out.b2.keep (hblk _ (by omega)), ⟨k1.1.trans (hbq.os.trans HT.out.bel.os), k1.2.1.trans (hbq.tape.trans HT.out.bel.tape), k1.2.2.1.trans (hbq.output.trans HT.out.bel.output), by have := HT.out.bel.size; have := k1.size; omega, fun p hp => (hblk p (by omega)).trans (HT.out.bel.block p hp)⟩⟩)
          have HPAN := (show Hid (∀ w1 : World, Hid (Box w1 (w.heap.size + 1) 30 [.slice va k'.length vp] ∧ Box w1 (w.heap.size + 1 + 1) 3 [.int .i64 0] ∧ Below w.heap.size w w1) → ∀ w6, Below w1.heap.size w1 w6 → _) from fun w1 h w6 hb6 => refuse23 (h.out.1.still hb6) (h.out.2.1.still hb6) (bel_trans h.out.2.2 hb6) HNO.out)
          clear HF HT HN HI HS HRC HCL0 hf HNO hbW
          generalize rs[k'.length] = zj at *
          go_wp2_with fail
          refine wp_region_any (by kernel_rfl) ?_
          change wpAny _ _ _ _ _ _ _ (World.drew _)
          refine wpAny_ready (rs := [0, 1, 4]) (by kernel_rfl) (by simp) ?_
          refine (AllReady.cons (o := { dst := some 23, op := Go.Op.load 30 (Go.Operand.tmp 2), type := 30, pos := "l09_documents.go:91", after := #[], guard := none }) rfl (fun K hK => ?_) (AllReady.cons (o := { dst := some 24, op := Go.Op.move (Go.Operand.tmp 5), type := 3, pos := "l09_documents.go:91", after := #[], guard := none }) rfl (fun K hK => ?_) (AllReady.cons (o := { dst := some 27, op := Go.Op.buildSlice 30 1 #[(0, Go.Operand.const (Go.Value.agg #[Go.Value.string { data := #[] }, Go.Value.string { data := #[] }, Go.Value.bool false, Go.Value.slice none 0 0]))], type := 30, pos := "l09_documents.go:91", after := #[], guard := none }) rfl (fun K hK => ?_) AllReady.nil)))
          · go_simp
            refine hK _ _ ?_
            clear hK K
            try simp only [Act.put, List.setIfInBounds_toArray, List.set_cons_zero, List.set_cons_succ]
            refine wpAny_ready (rs := [1, 3, 4]) (by kernel_rfl) (by simp) ?_
            refine (AllReady.cons (o := { dst := some 24, op := Go.Op.move (Go.Operand.tmp 5), type := 3, pos := "l09_documents.go:91", after := #[], guard := none }) rfl (fun K hK => ?_) (AllReady.cons (o := { dst := some 26, op := Go.Op.call { callee := Go.Callee.builtin Go.Builtin.len, args := #[Go.Operand.tmp 23], argTypes := #[30] }, type := 3, pos := "l09_documents.go:91", after := #[{ on := 0, ground := Go.Ground.data }], guard := none }) rfl (fun K hK => ?_) (AllReady.cons (o := { dst := some 27, op := Go.Op.buildSlice 30 1 #[(0, Go.Operand.const (Go.Value.agg #[Go.Value.string { data := #[] }, Go.Value.string { data := #[] }, Go.Value.bool false, Go.Value.slice none 0 0]))], type := 30, pos := "l09_documents.go:91", after := #[], guard := none }) rfl (fun K hK => ?_) AllReady.nil)))
            · go_simp
              refine hK _ _ ?_
              clear hK K
              try simp only [Act.put, List.setIfInBounds_toArray, List.set_cons_zero, List.set_cons_succ]
              refine wpAny_ready (rs := [2, 3, 4]) (by kernel_rfl) (by simp) ?_
              refine (AllReady.cons (o := { dst := some 25, op := Go.Op.call { callee := Go.Callee.value (Go.Operand.func 25), args := #[Go.Operand.tmp 6, Go.Operand.tmp 24, Go.Operand.const (Go.Value.int Go.IntKind.i64 1)], argTypes := #[63, 3, 3] }, type := 39, pos := "l09_documents.go:91", after := #[{ on := 1, ground := Go.Ground.data }], guard := none }) rfl (fun K hK => ?_) (AllReady.cons (o := { dst := some 26, op := Go.Op.call { callee := Go.Callee.builtin Go.Builtin.len, args := #[Go.Operand.tmp 23], argTypes := #[30] }, type := 3, pos := "l09_documents.go:91", after := #[{ on := 0, ground := Go.Ground.data }], guard := none }) rfl (fun K hK => ?_) (AllReady.cons (o := { dst := some 27, op := Go.Op.buildSlice 30 1 #[(0, Go.Operand.const (Go.Value.agg #[Go.Value.string { data := #[] }, Go.Value.string { data := #[] }, Go.Value.bool false, Go.Value.slice none 0 0]))], type := 30, pos := "l09_documents.go:91", after := #[], guard := none }) rfl (fun K hK => ?_) AllReady.nil)))
              · go_simp
                refine Calls.mono (HCL.out _ (by first | with_reducible exact hA | with_reducible exact hB | with_reducible exact hB2)) ?_
                rintro e w1 ⟨rfl, HQ⟩
                have q0 := HQ.out.1
                have q1 := HQ.out.2.1
                go_wp2_with fail
                refine leaves_cons (f := 23) (args := #[.pointer (some ⟨w.heap.size + 1, 0, none⟩), .pointer (some ⟨w.heap.size + 1 + 1, 0, none⟩)]) (by simp) (by simp [go_sem]) ?_
                refine (catch51_panicking _ _ 10 0 [] w1 _ _ (q0.cell 0 (by simp)) (q1.cell 0 (by simp)) (q0.frozen 0) (q1.frozen 0) (by omega)).mono ?_
                rintro e u' w'' ⟨rfl, rfl, w6, hb6, rfl⟩
                obtain ⟨r0, r1, hE⟩ := HPAN.out w1 HQ w6 hb6
                exact ⟨.tuple #[.slice none 0 0, .int .i64 10], by simp [results, Try.results9, go_sem, r0, r1], hE⟩
              · go_simp
                refine hK _ _ ?_
                clear hK K
                try simp only [Act.put, List.setIfInBounds_toArray, List.set_cons_zero, List.set_cons_succ]
                refine wpAny_ready (rs := [2, 4]) (by kernel_rfl) (by simp) ?_
                refine (AllReady.cons (o := { dst := some 25, op := Go.Op.call { callee := Go.Callee.value (Go.Operand.func 25), args := #[Go.Operand.tmp 6, Go.Operand.tmp 24, Go.Operand.const (Go.Value.int Go.IntKind.i64 1)], argTypes := #[63, 3, 3] }, type := 39, pos := "l09_documents.go:91", after := #[{ on := 1, ground := Go.Ground.data }], guard := none }) rfl (fun K hK => ?_) (AllReady.cons (o := { dst := some 27, op := Go.Op.buildSlice 30 1 #[(0, Go.Operand.const (Go.Value.agg #[Go.Value.string { data := #[] }, Go.Value.string { data := #[] }, Go.Value.bool false, Go.Value.slice none 0 0]))], type := 30, pos := "l09_documents.go:91", after := #[], guard := none }) rfl (fun K hK => ?_) AllReady.nil))
                · go_simp
                  refine Calls.mono (HCL.out _ (by first | with_reducible exact hA | with_reducible exact hB | with_reducible exact hB2)) ?_
                  rintro e w1 ⟨rfl, HQ⟩
                  have q0 := HQ.out.1
                  have q1 := HQ.out.2.1
                  go_wp2_with fail
                  refine leaves_cons (f := 23) (args := #[.pointer (some ⟨w.heap.size + 1, 0, none⟩), .pointer (some ⟨w.heap.size + 1 + 1, 0, none⟩)]) (by simp) (by simp [go_sem]) ?_
                  refine (catch51_panicking _ _ 10 0 [] w1 _ _ (q0.cell 0 (by simp)) (q1.cell 0 (by simp)) (q0.frozen 0) (q1.frozen 0) (by omega)).mono ?_
                  rintro e u' w'' ⟨rfl, rfl, w6, hb6, rfl⟩
                  obtain ⟨r0, r1, hE⟩ := HPAN.out w1 HQ w6 hb6
                  exact ⟨.tuple #[.slice none 0 0, .int .i64 10], by simp [results, Try.results9, go_sem, r0, r1], hE⟩
                · go_simp
                  refine hK _ _ ?_
                  clear hK K
                  try simp only [Act.put, List.setIfInBounds_toArray, List.set_cons_zero, List.set_cons_succ]
                  refine wpAny_ready (rs := [2]) (by kernel_rfl) (by simp) ?_
                  refine (AllReady.cons (o := { dst := some 25, op := Go.Op.call { callee := Go.Callee.value (Go.Operand.func 25), args := #[Go.Operand.tmp 6, Go.Operand.tmp 24, Go.Operand.const (Go.Value.int Go.IntKind.i64 1)], argTypes := #[63, 3, 3] }, type := 39, pos := "l09_documents.go:91", after := #[{ on := 1, ground := Go.Ground.data }], guard := none }) rfl (fun K hK => ?_) AllReady.nil)
                  go_simp
                  refine Calls.mono (HCL.out _ (by first | with_reducible exact hA | with_reducible exact hB | with_reducible exact hB2)) ?_
                  rintro e w1 ⟨rfl, HQ⟩
                  have q0 := HQ.out.1
                  have q1 := HQ.out.2.1
                  go_wp2_with fail
                  refine leaves_cons (f := 23) (args := #[.pointer (some ⟨w.heap.size + 1, 0, none⟩), .pointer (some ⟨w.heap.size + 1 + 1, 0, none⟩)]) (by simp) (by simp [go_sem]) ?_
                  refine (catch51_panicking _ _ 10 0 [] w1 _ _ (q0.cell 0 (by simp)) (q1.cell 0 (by simp)) (q0.frozen 0) (q1.frozen 0) (by omega)).mono ?_
                  rintro e u' w'' ⟨rfl, rfl, w6, hb6, rfl⟩
                  obtain ⟨r0, r1, hE⟩ := HPAN.out w1 HQ w6 hb6
                  exact ⟨.tuple #[.slice none 0 0, .int .i64 10], by simp [results, Try.results9, go_sem, r0, r1], hE⟩
              · go_simp
                refine hK _ _ ?_
                clear hK K
                try simp only [Act.put, List.setIfInBounds_toArray, List.set_cons_zero, List.set_cons_succ]
                refine wpAny_ready (rs := [2, 3]) (by kernel_rfl) (by simp) ?_
                refine (AllReady.cons (o := { dst := some 25, op := Go.Op.call { callee := Go.Callee.value (Go.Operand.func 25), args := #[Go.Operand.tmp 6, Go.Operand.tmp 24, Go.Operand.const (Go.Value.int Go.IntKind.i64 1)], argTypes := #[63, 3, 3] }, type := 39, pos := "l09_documents.go:91", after := #[{ on := 1, ground := Go.Ground.data }], guard := none }) rfl (fun K hK => ?_) (AllReady.cons (o := { dst := some 26, op := Go.Op.call { callee := Go.Callee.builtin Go.Builtin.len, args := #[Go.Operand.tmp 23], argTypes := #[30] }, type := 3, pos := "l09_documents.go:91", after := #[{ on := 0, ground := Go.Ground.data }], guard := none }) rfl (fun K hK => ?_) AllReady.nil))
                · go_simp
                  refine Calls.mono (HCL.out _ (by first | with_reducible exact hA | with_reducible exact hB | with_reducible exact hB2)) ?_
                  rintro e w1 ⟨rfl, HQ⟩
                  have q0 := HQ.out.1
                  have q1 := HQ.out.2.1
                  go_wp2_with fail
                  refine leaves_cons (f := 23) (args := #[.pointer (some ⟨w.heap.size + 1, 0, none⟩), .pointer (some ⟨w.heap.size + 1 + 1, 0, none⟩)]) (by simp) (by simp [go_sem]) ?_
                  refine (catch51_panicking _ _ 10 0 [] w1 _ _ (q0.cell 0 (by simp)) (q1.cell 0 (by simp)) (q0.frozen 0) (q1.frozen 0) (by omega)).mono ?_
                  rintro e u' w'' ⟨rfl, rfl, w6, hb6, rfl⟩
                  obtain ⟨r0, r1, hE⟩ := HPAN.out w1 HQ w6 hb6
                  exact ⟨.tuple #[.slice none 0 0, .int .i64 10], by simp [results, Try.results9, go_sem, r0, r1], hE⟩
                · go_simp
                  refine hK _ _ ?_
                  clear hK K
                  try simp only [Act.put, List.setIfInBounds_toArray, List.set_cons_zero, List.set_cons_succ]
                  refine wpAny_ready (rs := [2]) (by kernel_rfl) (by simp) ?_
                  refine (AllReady.cons (o := { dst := some 25, op := Go.Op.call { callee := Go.Callee.value (Go.Operand.func 25), args := #[Go.Operand.tmp 6, Go.Operand.tmp 24, Go.Operand.const (Go.Value.int Go.IntKind.i64 1)], argTypes := #[63, 3, 3] }, type := 39, pos := "l09_documents.go:91", after := #[{ on := 1, ground := Go.Ground.data }], guard := none }) rfl (fun K hK => ?_) AllReady.nil)
                  go_simp
                  refine Calls.mono (HCL.out _ (by first | with_reducible exact hA | with_reducible exact hB | with_reducible exact hB2)) ?_
                  rintro e w1 ⟨rfl, HQ⟩
                  have q0 := HQ.out.1
                  have q1 := HQ.out.2.1
                  go_wp2_with fail
                  refine leaves_cons (f := 23) (args := #[.pointer (some ⟨w.heap.size + 1, 0, none⟩), .pointer (some ⟨w.heap.size + 1 + 1, 0, none⟩)]) (by simp) (by simp [go_sem]) ?_
                  refine (catch51_panicking _ _ 10 0 [] w1 _ _ (q0.cell 0 (by simp)) (q1.cell 0 (by simp)) (q0.frozen 0) (q1.frozen 0) (by omega)).mono ?_
                  rintro e u' w'' ⟨rfl, rfl, w6, hb6, rfl⟩
                  obtain ⟨r0, r1, hE⟩ := HPAN.out w1 HQ w6 hb6
                  exact ⟨.tuple #[.slice none 0 0, .int .i64 10], by simp [results, Try.results9, go_sem, r0, r1], hE⟩
            · go_simp
              refine hK _ _ ?_
              clear hK K
              try simp only [Act.put, List.setIfInBounds_toArray, List.set_cons_zero, List.set_cons_succ]
              refine wpAny_ready (rs := [1, 4]) (by kernel_rfl) (by simp) ?_
              refine (AllReady.cons (o := { dst := some 24, op := Go.Op.move (Go.Operand.tmp 5), type := 3, pos := "l09_documents.go:91", after := #[], guard := none }) rfl (fun K hK => ?_) (AllReady.cons (o := { dst := some 27, op := Go.Op.buildSlice 30 1 #[(0, Go.Operand.const (Go.Value.agg #[Go.Value.string { data := #[] }, Go.Value.string { data := #[] }, Go.Value.bool false, Go.Value.slice none 0 0]))], type := 30, pos := "l09_documents.go:91", after := #[], guard := none }) rfl (fun K hK => ?_) AllReady.nil))
              · go_simp
                refine hK _ _ ?_
                clear hK K
                try simp only [Act.put, List.setIfInBounds_toArray, List.set_cons_zero, List.set_cons_succ]
                refine wpAny_ready (rs := [2, 4]) (by kernel_rfl) (by simp) ?_
                refine (AllReady.cons (o := { dst := some 25, op := Go.Op.call { callee := Go.Callee.value (Go.Operand.func 25), args := #[Go.Operand.tmp 6, Go.Operand.tmp 24, Go.Operand.const (Go.Value.int Go.IntKind.i64 1)], argTypes := #[63, 3, 3] }, type := 39, pos := "l09_documents.go:91", after := #[{ on := 1, ground := Go.Ground.data }], guard := none }) rfl (fun K hK => ?_) (AllReady.cons (o := { dst := some 27, op := Go.Op.buildSlice 30 1 #[(0, Go.Operand.const (Go.Value.agg #[Go.Value.string { data := #[] }, Go.Value.string { data := #[] }, Go.Value.bool false, Go.Value.slice none 0 0]))], type := 30, pos := "l09_documents.go:91", after := #[], guard := none }) rfl (fun K hK => ?_) AllReady.nil))
                · go_simp
                  refine Calls.mono (HCL.out _ (by first | with_reducible exact hA | with_reducible exact hB | with_reducible exact hB2)) ?_
                  rintro e w1 ⟨rfl, HQ⟩
                  have q0 := HQ.out.1
                  have q1 := HQ.out.2.1
                  go_wp2_with fail
                  refine leaves_cons (f := 23) (args := #[.pointer (some ⟨w.heap.size + 1, 0, none⟩), .pointer (some ⟨w.heap.size + 1 + 1, 0, none⟩)]) (by simp) (by simp [go_sem]) ?_
                  refine (catch51_panicking _ _ 10 0 [] w1 _ _ (q0.cell 0 (by simp)) (q1.cell 0 (by simp)) (q0.frozen 0) (q1.frozen 0) (by omega)).mono ?_
                  rintro e u' w'' ⟨rfl, rfl, w6, hb6, rfl⟩
                  obtain ⟨r0, r1, hE⟩ := HPAN.out w1 HQ w6 hb6
                  exact ⟨.tuple #[.slice none 0 0, .int .i64 10], by simp [results, Try.results9, go_sem, r0, r1], hE⟩
                · go_simp
                  refine hK _ _ ?_
                  clear hK K
                  try simp only [Act.put, List.setIfInBounds_toArray, List.set_cons_zero, List.set_cons_succ]
                  refine wpAny_ready (rs := [2]) (by kernel_rfl) (by simp) ?_
                  refine (AllReady.cons (o := { dst := some 25, op := Go.Op.call { callee := Go.Callee.value (Go.Operand.func 25), args := #[Go.Operand.tmp 6, Go.Operand.tmp 24, Go.Operand.const (Go.Value.int Go.IntKind.i64 1)], argTypes := #[63, 3, 3] }, type := 39, pos := "l09_documents.go:91", after := #[{ on := 1, ground := Go.Ground.data }], guard := none }) rfl (fun K hK => ?_) AllReady.nil)
                  go_simp
                  refine Calls.mono (HCL.out _ (by first | with_reducible exact hA | with_reducible exact hB | with_reducible exact hB2)) ?_
                  rintro e w1 ⟨rfl, HQ⟩
                  have q0 := HQ.out.1
                  have q1 := HQ.out.2.1
                  go_wp2_with fail
                  refine leaves_cons (f := 23) (args := #[.pointer (some ⟨w.heap.size + 1, 0, none⟩), .pointer (some ⟨w.heap.size + 1 + 1, 0, none⟩)]) (by simp) (by simp [go_sem]) ?_
                  refine (catch51_panicking _ _ 10 0 [] w1 _ _ (q0.cell 0 (by simp)) (q1.cell 0 (by simp)) (q0.frozen 0) (q1.frozen 0) (by omega)).mono ?_
                  rintro e u' w'' ⟨rfl, rfl, w6, hb6, rfl⟩
                  obtain ⟨r0, r1, hE⟩ := HPAN.out w1 HQ w6 hb6
                  exact ⟨.tuple #[.slice none 0 0, .int .i64 10], by simp [results, Try.results9, go_sem, r0, r1], hE⟩
              · go_simp
                refine hK _ _ ?_
                clear hK K
                try simp only [Act.put, List.setIfInBounds_toArray, List.set_cons_zero, List.set_cons_succ]
                refine wpAny_ready (rs := [1]) (by kernel_rfl) (by simp) ?_
                refine (AllReady.cons (o := { dst := some 24, op := Go.Op.move (Go.Operand.tmp 5), type := 3, pos := "l09_documents.go:91", after := #[], guard := none }) rfl (fun K hK => ?_) AllReady.nil)
                go_simp
                refine hK _ _ ?_
                clear hK K
                try simp only [Act.put, List.setIfInBounds_toArray, List.set_cons_zero, List.set_cons_succ]
                refine wpAny_ready (rs := [2]) (by kernel_rfl) (by simp) ?_
                refine (AllReady.cons (o := { dst := some 25, op := Go.Op.call { callee := Go.Callee.value (Go.Operand.func 25), args := #[Go.Operand.tmp 6, Go.Operand.tmp 24, Go.Operand.const (Go.Value.int Go.IntKind.i64 1)], argTypes := #[63, 3, 3] }, type := 39, pos := "l09_documents.go:91", after := #[{ on := 1, ground := Go.Ground.data }], guard := none }) rfl (fun K hK => ?_) AllReady.nil)
                go_simp
                refine Calls.mono (HCL.out _ (by first | with_reducible exact hA | with_reducible exact hB | with_reducible exact hB2)) ?_
                rintro e w1 ⟨rfl, HQ⟩
                have q0 := HQ.out.1
                have q1 := HQ.out.2.1
                go_wp2_with fail
                refine leaves_cons (f := 23) (args := #[.pointer (some ⟨w.heap.size + 1, 0, none⟩), .pointer (some ⟨w.heap.size + 1 + 1, 0, none⟩)]) (by simp) (by simp [go_sem]) ?_
                refine (catch51_panicking _ _ 10 0 [] w1 _ _ (q0.cell 0 (by simp)) (q1.cell 0 (by simp)) (q0.frozen 0) (q1.frozen 0) (by omega)).mono ?_
                rintro e u' w'' ⟨rfl, rfl, w6, hb6, rfl⟩
                obtain ⟨r0, r1, hE⟩ := HPAN.out w1 HQ w6 hb6
                exact ⟨.tuple #[.slice none 0 0, .int .i64 10], by simp [results, Try.results9, go_sem, r0, r1], hE⟩
            · go_simp
              refine hK _ _ ?_
              clear hK K
              try simp only [Act.put, List.setIfInBounds_toArray, List.set_cons_zero, List.set_cons_succ]
              refine wpAny_ready (rs := [1, 3]) (by kernel_rfl) (by simp) ?_
              refine (AllReady.cons (o := { dst := some 24, op := Go.Op.move (Go.Operand.tmp 5), type := 3, pos := "l09_documents.go:91", after := #[], guard := none }) rfl (fun K hK => ?_) (AllReady.cons (o := { dst := some 26, op := Go.Op.call { callee := Go.Callee.builtin Go.Builtin.len, args := #[Go.Operand.tmp 23], argTypes := #[30] }, type := 3, pos := "l09_documents.go:91", after := #[{ on := 0, ground := Go.Ground.data }], guard := none }) rfl (fun K hK => ?_) AllReady.nil))
              · go_simp
                refine hK _ _ ?_
                clear hK K
                try simp only [Act.put, List.setIfInBounds_toArray, List.set_cons_zero, List.set_cons_succ]
                refine wpAny_ready (rs := [2, 3]) (by kernel_rfl) (by simp) ?_
                refine (AllReady.cons (o := { dst := some 25, op := Go.Op.call { callee := Go.Callee.value (Go.Operand.func 25), args := #[Go.Operand.tmp 6, Go.Operand.tmp 24, Go.Operand.const (Go.Value.int Go.IntKind.i64 1)], argTypes := #[63, 3, 3] }, type := 39, pos := "l09_documents.go:91", after := #[{ on := 1, ground := Go.Ground.data }], guard := none }) rfl (fun K hK => ?_) (AllReady.cons (o := { dst := some 26, op := Go.Op.call { callee := Go.Callee.builtin Go.Builtin.len, args := #[Go.Operand.tmp 23], argTypes := #[30] }, type := 3, pos := "l09_documents.go:91", after := #[{ on := 0, ground := Go.Ground.data }], guard := none }) rfl (fun K hK => ?_) AllReady.nil))
                · go_simp
                  refine Calls.mono (HCL.out _ (by first | with_reducible exact hA | with_reducible exact hB | with_reducible exact hB2)) ?_
                  rintro e w1 ⟨rfl, HQ⟩
                  have q0 := HQ.out.1
                  have q1 := HQ.out.2.1
                  go_wp2_with fail
                  refine leaves_cons (f := 23) (args := #[.pointer (some ⟨w.heap.size + 1, 0, none⟩), .pointer (some ⟨w.heap.size + 1 + 1, 0, none⟩)]) (by simp) (by simp [go_sem]) ?_
                  refine (catch51_panicking _ _ 10 0 [] w1 _ _ (q0.cell 0 (by simp)) (q1.cell 0 (by simp)) (q0.frozen 0) (q1.frozen 0) (by omega)).mono ?_
                  rintro e u' w'' ⟨rfl, rfl, w6, hb6, rfl⟩
                  obtain ⟨r0, r1, hE⟩ := HPAN.out w1 HQ w6 hb6
                  exact ⟨.tuple #[.slice none 0 0, .int .i64 10], by simp [results, Try.results9, go_sem, r0, r1], hE⟩
                · go_simp
                  refine hK _ _ ?_
                  clear hK K
                  try simp only [Act.put, List.setIfInBounds_toArray, List.set_cons_zero, List.set_cons_succ]
                  refine wpAny_ready (rs := [2]) (by kernel_rfl) (by simp) ?_
                  refine (AllReady.cons (o := { dst := some 25, op := Go.Op.call { callee := Go.Callee.value (Go.Operand.func 25), args := #[Go.Operand.tmp 6, Go.Operand.tmp 24, Go.Operand.const (Go.Value.int Go.IntKind.i64 1)], argTypes := #[63, 3, 3] }, type := 39, pos := "l09_documents.go:91", after := #[{ on := 1, ground := Go.Ground.data }], guard := none }) rfl (fun K hK => ?_) AllReady.nil)
                  go_simp
                  refine Calls.mono (HCL.out _ (by first | with_reducible exact hA | with_reducible exact hB | with_reducible exact hB2)) ?_
                  rintro e w1 ⟨rfl, HQ⟩
                  have q0 := HQ.out.1
                  have q1 := HQ.out.2.1
                  go_wp2_with fail
                  refine leaves_cons (f := 23) (args := #[.pointer (some ⟨w.heap.size + 1, 0, none⟩), .pointer (some ⟨w.heap.size + 1 + 1, 0, none⟩)]) (by simp) (by simp [go_sem]) ?_
                  refine (catch51_panicking _ _ 10 0 [] w1 _ _ (q0.cell 0 (by simp)) (q1.cell 0 (by simp)) (q0.frozen 0) (q1.frozen 0) (by omega)).mono ?_
                  rintro e u' w'' ⟨rfl, rfl, w6, hb6, rfl⟩
                  obtain ⟨r0, r1, hE⟩ := HPAN.out w1 HQ w6 hb6
                  exact ⟨.tuple #[.slice none 0 0, .int .i64 10], by simp [results, Try.results9, go_sem, r0, r1], hE⟩
              · go_simp
                refine hK _ _ ?_
                clear hK K
                try simp only [Act.put, List.setIfInBounds_toArray, List.set_cons_zero, List.set_cons_succ]
                refine wpAny_ready (rs := [1]) (by kernel_rfl) (by simp) ?_
                refine (AllReady.cons (o := { dst := some 24, op := Go.Op.move (Go.Operand.tmp 5), type := 3, pos := "l09_documents.go:91", after := #[], guard := none }) rfl (fun K hK => ?_) AllReady.nil)
                go_simp
                refine hK _ _ ?_
                clear hK K
                try simp only [Act.put, List.setIfInBounds_toArray, List.set_cons_zero, List.set_cons_succ]
                refine wpAny_ready (rs := [2]) (by kernel_rfl) (by simp) ?_
                refine (AllReady.cons (o := { dst := some 25, op := Go.Op.call { callee := Go.Callee.value (Go.Operand.func 25), args := #[Go.Operand.tmp 6, Go.Operand.tmp 24, Go.Operand.const (Go.Value.int Go.IntKind.i64 1)], argTypes := #[63, 3, 3] }, type := 39, pos := "l09_documents.go:91", after := #[{ on := 1, ground := Go.Ground.data }], guard := none }) rfl (fun K hK => ?_) AllReady.nil)
                go_simp
                refine Calls.mono (HCL.out _ (by first | with_reducible exact hA | with_reducible exact hB | with_reducible exact hB2)) ?_
                rintro e w1 ⟨rfl, HQ⟩
                have q0 := HQ.out.1
                have q1 := HQ.out.2.1
                go_wp2_with fail
                refine leaves_cons (f := 23) (args := #[.pointer (some ⟨w.heap.size + 1, 0, none⟩), .pointer (some ⟨w.heap.size + 1 + 1, 0, none⟩)]) (by simp) (by simp [go_sem]) ?_
                refine (catch51_panicking _ _ 10 0 [] w1 _ _ (q0.cell 0 (by simp)) (q1.cell 0 (by simp)) (q0.frozen 0) (q1.frozen 0) (by omega)).mono ?_
                rintro e u' w'' ⟨rfl, rfl, w6, hb6, rfl⟩
                obtain ⟨r0, r1, hE⟩ := HPAN.out w1 HQ w6 hb6
                exact ⟨.tuple #[.slice none 0 0, .int .i64 10], by simp [results, Try.results9, go_sem, r0, r1], hE⟩
          · go_simp
            refine hK _ _ ?_
            clear hK K
            try simp only [Act.put, List.setIfInBounds_toArray, List.set_cons_zero, List.set_cons_succ]
            refine wpAny_ready (rs := [0, 2, 4]) (by kernel_rfl) (by simp) ?_
            refine (AllReady.cons (o := { dst := some 23, op := Go.Op.load 30 (Go.Operand.tmp 2), type := 30, pos := "l09_documents.go:91", after := #[], guard := none }) rfl (fun K hK => ?_) (AllReady.cons (o := { dst := some 25, op := Go.Op.call { callee := Go.Callee.value (Go.Operand.func 25), args := #[Go.Operand.tmp 6, Go.Operand.tmp 24, Go.Operand.const (Go.Value.int Go.IntKind.i64 1)], argTypes := #[63, 3, 3] }, type := 39, pos := "l09_documents.go:91", after := #[{ on := 1, ground := Go.Ground.data }], guard := none }) rfl (fun K hK => ?_) (AllReady.cons (o := { dst := some 27, op := Go.Op.buildSlice 30 1 #[(0, Go.Operand.const (Go.Value.agg #[Go.Value.string { data := #[] }, Go.Value.string { data := #[] }, Go.Value.bool false, Go.Value.slice none 0 0]))], type := 30, pos := "l09_documents.go:91", after := #[], guard := none }) rfl (fun K hK => ?_) AllReady.nil)))
            · go_simp
              refine hK _ _ ?_
              clear hK K
              try simp only [Act.put, List.setIfInBounds_toArray, List.set_cons_zero, List.set_cons_succ]
              refine wpAny_ready (rs := [2, 3, 4]) (by kernel_rfl) (by simp) ?_
              refine (AllReady.cons (o := { dst := some 25, op := Go.Op.call { callee := Go.Callee.value (Go.Operand.func 25), args := #[Go.Operand.tmp 6, Go.Operand.tmp 24, Go.Operand.const (Go.Value.int Go.IntKind.i64 1)], argTypes := #[63, 3, 3] }, type := 39, pos := "l09_documents.go:91", after := #[{ on := 1, ground := Go.Ground.data }], guard := none }) rfl (fun K hK => ?_) (AllReady.cons (o := { dst := some 26, op := Go.Op.call { callee := Go.Callee.builtin Go.Builtin.len, args := #[Go.Operand.tmp 23], argTypes := #[30] }, type := 3, pos := "l09_documents.go:91", after := #[{ on := 0, ground := Go.Ground.data }], guard := none }) rfl (fun K hK => ?_) (AllReady.cons (o := { dst := some 27, op := Go.Op.buildSlice 30 1 #[(0, Go.Operand.const (Go.Value.agg #[Go.Value.string { data := #[] }, Go.Value.string { data := #[] }, Go.Value.bool false, Go.Value.slice none 0 0]))], type := 30, pos := "l09_documents.go:91", after := #[], guard := none }) rfl (fun K hK => ?_) AllReady.nil)))
              · go_simp
                refine Calls.mono (HCL.out _ (by first | with_reducible exact hA | with_reducible exact hB | with_reducible exact hB2)) ?_
                rintro e w1 ⟨rfl, HQ⟩
                have q0 := HQ.out.1
                have q1 := HQ.out.2.1
                go_wp2_with fail
                refine leaves_cons (f := 23) (args := #[.pointer (some ⟨w.heap.size + 1, 0, none⟩), .pointer (some ⟨w.heap.size + 1 + 1, 0, none⟩)]) (by simp) (by simp [go_sem]) ?_
                refine (catch51_panicking _ _ 10 0 [] w1 _ _ (q0.cell 0 (by simp)) (q1.cell 0 (by simp)) (q0.frozen 0) (q1.frozen 0) (by omega)).mono ?_
                rintro e u' w'' ⟨rfl, rfl, w6, hb6, rfl⟩
                obtain ⟨r0, r1, hE⟩ := HPAN.out w1 HQ w6 hb6
                exact ⟨.tuple #[.slice none 0 0, .int .i64 10], by simp [results, Try.results9, go_sem, r0, r1], hE⟩
              · go_simp
                refine hK _ _ ?_
                clear hK K
                try simp only [Act.put, List.setIfInBounds_toArray, List.set_cons_zero, List.set_cons_succ]
                refine wpAny_ready (rs := [2, 4]) (by kernel_rfl) (by simp) ?_
                refine (AllReady.cons (o := { dst := some 25, op := Go.Op.call { callee := Go.Callee.value (Go.Operand.func 25), args := #[Go.Operand.tmp 6, Go.Operand.tmp 24, Go.Operand.const (Go.Value.int Go.IntKind.i64 1)], argTypes := #[63, 3, 3] }, type := 39, pos := "l09_documents.go:91", after := #[{ on := 1, ground := Go.Ground.data }], guard := none }) rfl (fun K hK => ?_) (AllReady.cons (o := { dst := some 27, op := Go.Op.buildSlice 30 1 #[(0, Go.Operand.const (Go.Value.agg #[Go.Value.string { data := #[] }, Go.Value.string { data := #[] }, Go.Value.bool false, Go.Value.slice none 0 0]))], type := 30, pos := "l09_documents.go:91", after := #[], guard := none }) rfl (fun K hK => ?_) AllReady.nil))
                · go_simp
                  refine Calls.mono (HCL.out _ (by first | with_reducible exact hA | with_reducible exact hB | with_reducible exact hB2)) ?_
                  rintro e w1 ⟨rfl, HQ⟩
                  have q0 := HQ.out.1
                  have q1 := HQ.out.2.1
                  go_wp2_with fail
                  refine leaves_cons (f := 23) (args := #[.pointer (some ⟨w.heap.size + 1, 0, none⟩), .pointer (some ⟨w.heap.size + 1 + 1, 0, none⟩)]) (by simp) (by simp [go_sem]) ?_
                  refine (catch51_panicking _ _ 10 0 [] w1 _ _ (q0.cell 0 (by simp)) (q1.cell 0 (by simp)) (q0.frozen 0) (q1.frozen 0) (by omega)).mono ?_
                  rintro e u' w'' ⟨rfl, rfl, w6, hb6, rfl⟩
                  obtain ⟨r0, r1, hE⟩ := HPAN.out w1 HQ w6 hb6
                  exact ⟨.tuple #[.slice none 0 0, .int .i64 10], by simp [results, Try.results9, go_sem, r0, r1], hE⟩
                · go_simp
                  refine hK _ _ ?_
                  clear hK K
                  try simp only [Act.put, List.setIfInBounds_toArray, List.set_cons_zero, List.set_cons_succ]
                  refine wpAny_ready (rs := [2]) (by kernel_rfl) (by simp) ?_
                  refine (AllReady.cons (o := { dst := some 25, op := Go.Op.call { callee := Go.Callee.value (Go.Operand.func 25), args := #[Go.Operand.tmp 6, Go.Operand.tmp 24, Go.Operand.const (Go.Value.int Go.IntKind.i64 1)], argTypes := #[63, 3, 3] }, type := 39, pos := "l09_documents.go:91", after := #[{ on := 1, ground := Go.Ground.data }], guard := none }) rfl (fun K hK => ?_) AllReady.nil)
                  go_simp
                  refine Calls.mono (HCL.out _ (by first | with_reducible exact hA | with_reducible exact hB | with_reducible exact hB2)) ?_
                  rintro e w1 ⟨rfl, HQ⟩
                  have q0 := HQ.out.1
                  have q1 := HQ.out.2.1
                  go_wp2_with fail
                  refine leaves_cons (f := 23) (args := #[.pointer (some ⟨w.heap.size + 1, 0, none⟩), .pointer (some ⟨w.heap.size + 1 + 1, 0, none⟩)]) (by simp) (by simp [go_sem]) ?_
                  refine (catch51_panicking _ _ 10 0 [] w1 _ _ (q0.cell 0 (by simp)) (q1.cell 0 (by simp)) (q0.frozen 0) (q1.frozen 0) (by omega)).mono ?_
                  rintro e u' w'' ⟨rfl, rfl, w6, hb6, rfl⟩
                  obtain ⟨r0, r1, hE⟩ := HPAN.out w1 HQ w6 hb6
                  exact ⟨.tuple #[.slice none 0 0, .int .i64 10], by simp [results, Try.results9, go_sem, r0, r1], hE⟩
              · go_simp
                refine hK _ _ ?_
                clear hK K
                try simp only [Act.put, List.setIfInBounds_toArray, List.set_cons_zero, List.set_cons_succ]
                refine wpAny_ready (rs := [2, 3]) (by kernel_rfl) (by simp) ?_
                refine (AllReady.cons (o := { dst := some 25, op := Go.Op.call { callee := Go.Callee.value (Go.Operand.func 25), args := #[Go.Operand.tmp 6, Go.Operand.tmp 24, Go.Operand.const (Go.Value.int Go.IntKind.i64 1)], argTypes := #[63, 3, 3] }, type := 39, pos := "l09_documents.go:91", after := #[{ on := 1, ground := Go.Ground.data }], guard := none }) rfl (fun K hK => ?_) (AllReady.cons (o := { dst := some 26, op := Go.Op.call { callee := Go.Callee.builtin Go.Builtin.len, args := #[Go.Operand.tmp 23], argTypes := #[30] }, type := 3, pos := "l09_documents.go:91", after := #[{ on := 0, ground := Go.Ground.data }], guard := none }) rfl (fun K hK => ?_) AllReady.nil))
                · go_simp
                  refine Calls.mono (HCL.out _ (by first | with_reducible exact hA | with_reducible exact hB | with_reducible exact hB2)) ?_
                  rintro e w1 ⟨rfl, HQ⟩
                  have q0 := HQ.out.1
                  have q1 := HQ.out.2.1
                  go_wp2_with fail
                  refine leaves_cons (f := 23) (args := #[.pointer (some ⟨w.heap.size + 1, 0, none⟩), .pointer (some ⟨w.heap.size + 1 + 1, 0, none⟩)]) (by simp) (by simp [go_sem]) ?_
                  refine (catch51_panicking _ _ 10 0 [] w1 _ _ (q0.cell 0 (by simp)) (q1.cell 0 (by simp)) (q0.frozen 0) (q1.frozen 0) (by omega)).mono ?_
                  rintro e u' w'' ⟨rfl, rfl, w6, hb6, rfl⟩
                  obtain ⟨r0, r1, hE⟩ := HPAN.out w1 HQ w6 hb6
                  exact ⟨.tuple #[.slice none 0 0, .int .i64 10], by simp [results, Try.results9, go_sem, r0, r1], hE⟩
                · go_simp
                  refine hK _ _ ?_
                  clear hK K
                  try simp only [Act.put, List.setIfInBounds_toArray, List.set_cons_zero, List.set_cons_succ]
                  refine wpAny_ready (rs := [2]) (by kernel_rfl) (by simp) ?_
                  refine (AllReady.cons (o := { dst := some 25, op := Go.Op.call { callee := Go.Callee.value (Go.Operand.func 25), args := #[Go.Operand.tmp 6, Go.Operand.tmp 24, Go.Operand.const (Go.Value.int Go.IntKind.i64 1)], argTypes := #[63, 3, 3] }, type := 39, pos := "l09_documents.go:91", after := #[{ on := 1, ground := Go.Ground.data }], guard := none }) rfl (fun K hK => ?_) AllReady.nil)
                  go_simp
                  refine Calls.mono (HCL.out _ (by first | with_reducible exact hA | with_reducible exact hB | with_reducible exact hB2)) ?_
                  rintro e w1 ⟨rfl, HQ⟩
                  have q0 := HQ.out.1
                  have q1 := HQ.out.2.1
                  go_wp2_with fail
                  refine leaves_cons (f := 23) (args := #[.pointer (some ⟨w.heap.size + 1, 0, none⟩), .pointer (some ⟨w.heap.size + 1 + 1, 0, none⟩)]) (by simp) (by simp [go_sem]) ?_
                  refine (catch51_panicking _ _ 10 0 [] w1 _ _ (q0.cell 0 (by simp)) (q1.cell 0 (by simp)) (q0.frozen 0) (q1.frozen 0) (by omega)).mono ?_
                  rintro e u' w'' ⟨rfl, rfl, w6, hb6, rfl⟩
                  obtain ⟨r0, r1, hE⟩ := HPAN.out w1 HQ w6 hb6
                  exact ⟨.tuple #[.slice none 0 0, .int .i64 10], by simp [results, Try.results9, go_sem, r0, r1], hE⟩
            · go_simp
              refine Calls.mono (HCL.out _ (by first | with_reducible exact hA | with_reducible exact hB | with_reducible exact hB2)) ?_
              rintro e w1 ⟨rfl, HQ⟩
              have q0 := HQ.out.1
              have q1 := HQ.out.2.1
              go_wp2_with fail
              refine leaves_cons (f := 23) (args := #[.pointer (some ⟨w.heap.size + 1, 0, none⟩), .pointer (some ⟨w.heap.size + 1 + 1, 0, none⟩)]) (by simp) (by simp [go_sem]) ?_
              refine (catch51_panicking _ _ 10 0 [] w1 _ _ (q0.cell 0 (by simp)) (q1.cell 0 (by simp)) (q0.frozen 0) (q1.frozen 0) (by omega)).mono ?_
              rintro e u' w'' ⟨rfl, rfl, w6, hb6, rfl⟩
              obtain ⟨r0, r1, hE⟩ := HPAN.out w1 HQ w6 hb6
              exact ⟨.tuple #[.slice none 0 0, .int .i64 10], by simp [results, Try.results9, go_sem, r0, r1], hE⟩
            · go_simp
              refine hK _ _ ?_
              clear hK K
              try simp only [Act.put, List.setIfInBounds_toArray, List.set_cons_zero, List.set_cons_succ]
              refine wpAny_ready (rs := [0, 2]) (by kernel_rfl) (by simp) ?_
              refine (AllReady.cons (o := { dst := some 23, op := Go.Op.load 30 (Go.Operand.tmp 2), type := 30, pos := "l09_documents.go:91", after := #[], guard := none }) rfl (fun K hK => ?_) (AllReady.cons (o := { dst := some 25, op := Go.Op.call { callee := Go.Callee.value (Go.Operand.func 25), args := #[Go.Operand.tmp 6, Go.Operand.tmp 24, Go.Operand.const (Go.Value.int Go.IntKind.i64 1)], argTypes := #[63, 3, 3] }, type := 39, pos := "l09_documents.go:91", after := #[{ on := 1, ground := Go.Ground.data }], guard := none }) rfl (fun K hK => ?_) AllReady.nil))
              · go_simp
                refine hK _ _ ?_
                clear hK K
                try simp only [Act.put, List.setIfInBounds_toArray, List.set_cons_zero, List.set_cons_succ]
                refine wpAny_ready (rs := [2, 3]) (by kernel_rfl) (by simp) ?_
                refine (AllReady.cons (o := { dst := some 25, op := Go.Op.call { callee := Go.Callee.value (Go.Operand.func 25), args := #[Go.Operand.tmp 6, Go.Operand.tmp 24, Go.Operand.const (Go.Value.int Go.IntKind.i64 1)], argTypes := #[63, 3, 3] }, type := 39, pos := "l09_documents.go:91", after := #[{ on := 1, ground := Go.Ground.data }], guard := none }) rfl (fun K hK => ?_) (AllReady.cons (o := { dst := some 26, op := Go.Op.call { callee := Go.Callee.builtin Go.Builtin.len, args := #[Go.Operand.tmp 23], argTypes := #[30] }, type := 3, pos := "l09_documents.go:91", after := #[{ on := 0, ground := Go.Ground.data }], guard := none }) rfl (fun K hK => ?_) AllReady.nil))
                · go_simp
                  refine Calls.mono (HCL.out _ (by first | with_reducible exact hA | with_reducible exact hB | with_reducible exact hB2)) ?_
                  rintro e w1 ⟨rfl, HQ⟩
                  have q0 := HQ.out.1
                  have q1 := HQ.out.2.1
                  go_wp2_with fail
                  refine leaves_cons (f := 23) (args := #[.pointer (some ⟨w.heap.size + 1, 0, none⟩), .pointer (some ⟨w.heap.size + 1 + 1, 0, none⟩)]) (by simp) (by simp [go_sem]) ?_
                  refine (catch51_panicking _ _ 10 0 [] w1 _ _ (q0.cell 0 (by simp)) (q1.cell 0 (by simp)) (q0.frozen 0) (q1.frozen 0) (by omega)).mono ?_
                  rintro e u' w'' ⟨rfl, rfl, w6, hb6, rfl⟩
                  obtain ⟨r0, r1, hE⟩ := HPAN.out w1 HQ w6 hb6
                  exact ⟨.tuple #[.slice none 0 0, .int .i64 10], by simp [results, Try.results9, go_sem, r0, r1], hE⟩
                · go_simp
                  refine hK _ _ ?_
                  clear hK K
                  try simp only [Act.put, List.setIfInBounds_toArray, List.set_cons_zero, List.set_cons_succ]
                  refine wpAny_ready (rs := [2]) (by kernel_rfl) (by simp) ?_
                  refine (AllReady.cons (o := { dst := some 25, op := Go.Op.call { callee := Go.Callee.value (Go.Operand.func 25), args := #[Go.Operand.tmp 6, Go.Operand.tmp 24, Go.Operand.const (Go.Value.int Go.IntKind.i64 1)], argTypes := #[63, 3, 3] }, type := 39, pos := "l09_documents.go:91", after := #[{ on := 1, ground := Go.Ground.data }], guard := none }) rfl (fun K hK => ?_) AllReady.nil)
                  go_simp
                  refine Calls.mono (HCL.out _ (by first | with_reducible exact hA | with_reducible exact hB | with_reducible exact hB2)) ?_
                  rintro e w1 ⟨rfl, HQ⟩
                  have q0 := HQ.out.1
                  have q1 := HQ.out.2.1
                  go_wp2_with fail
                  refine leaves_cons (f := 23) (args := #[.pointer (some ⟨w.heap.size + 1, 0, none⟩), .pointer (some ⟨w.heap.size + 1 + 1, 0, none⟩)]) (by simp) (by simp [go_sem]) ?_
                  refine (catch51_panicking _ _ 10 0 [] w1 _ _ (q0.cell 0 (by simp)) (q1.cell 0 (by simp)) (q0.frozen 0) (q1.frozen 0) (by omega)).mono ?_
                  rintro e u' w'' ⟨rfl, rfl, w6, hb6, rfl⟩
                  obtain ⟨r0, r1, hE⟩ := HPAN.out w1 HQ w6 hb6
                  exact ⟨.tuple #[.slice none 0 0, .int .i64 10], by simp [results, Try.results9, go_sem, r0, r1], hE⟩
              · go_simp
                refine Calls.mono (HCL.out _ (by first | with_reducible exact hA | with_reducible exact hB | with_reducible exact hB2)) ?_
                rintro e w1 ⟨rfl, HQ⟩
                have q0 := HQ.out.1
                have q1 := HQ.out.2.1
                go_wp2_with fail
                refine leaves_cons (f := 23) (args := #[.pointer (some ⟨w.heap.size + 1, 0, none⟩), .pointer (some ⟨w.heap.size + 1 + 1, 0, none⟩)]) (by simp) (by simp [go_sem]) ?_
                refine (catch51_panicking _ _ 10 0 [] w1 _ _ (q0.cell 0 (by simp)) (q1.cell 0 (by simp)) (q0.frozen 0) (q1.frozen 0) (by omega)).mono ?_
                rintro e u' w'' ⟨rfl, rfl, w6, hb6, rfl⟩
                obtain ⟨r0, r1, hE⟩ := HPAN.out w1 HQ w6 hb6
                exact ⟨.tuple #[.slice none 0 0, .int .i64 10], by simp [results, Try.results9, go_sem, r0, r1], hE⟩
          · go_simp
            refine hK _ _ ?_
            clear hK K
            try simp only [Act.put, List.setIfInBounds_toArray, List.set_cons_zero, List.set_cons_succ]
            refine wpAny_ready (rs := [0, 1]) (by kernel_rfl) (by simp) ?_
            refine (AllReady.cons (o := { dst := some 23, op := Go.Op.load 30 (Go.Operand.tmp 2), type := 30, pos := "l09_documents.go:91", after := #[], guard := none }) rfl (fun K hK => ?_) (AllReady.cons (o := { dst := some 24, op := Go.Op.move (Go.Operand.tmp 5), type := 3, pos := "l09_documents.go:91", after := #[], guard := none }) rfl (fun K hK => ?_) AllReady.nil))
            · go_simp
              refine hK _ _ ?_
              clear hK K
              try simp only [Act.put, List.setIfInBounds_toArray, List.set_cons_zero, List.set_cons_succ]
              refine wpAny_ready (rs := [1, 3]) (by kernel_rfl) (by simp) ?_
              refine (AllReady.cons (o := { dst := some 24, op := Go.Op.move (Go.Operand.tmp 5), type := 3, pos := "l09_documents.go:91", after := #[], guard := none }) rfl (fun K hK => ?_) (AllReady.cons (o := { dst := some 26, op := Go.Op.call { callee := Go.Callee.builtin Go.Builtin.len, args := #[Go.Operand.tmp 23], argTypes := #[30] }, type := 3, pos := "l09_documents.go:91", after := #[{ on := 0, ground := Go.Ground.data }], guard := none }) rfl (fun K hK => ?_) AllReady.nil))
              · go_simp
                refine hK _ _ ?_
                clear hK K
                try simp only [Act.put, List.setIfInBounds_toArray, List.set_cons_zero, List.set_cons_succ]
                refine wpAny_ready (rs := [2, 3]) (by kernel_rfl) (by simp) ?_
                refine (AllReady.cons (o := { dst := some 25, op := Go.Op.call { callee := Go.Callee.value (Go.Operand.func 25), args := #[Go.Operand.tmp 6, Go.Operand.tmp 24, Go.Operand.const (Go.Value.int Go.IntKind.i64 1)], argTypes := #[63, 3, 3] }, type := 39, pos := "l09_documents.go:91", after := #[{ on := 1, ground := Go.Ground.data }], guard := none }) rfl (fun K hK => ?_) (AllReady.cons (o := { dst := some 26, op := Go.Op.call { callee := Go.Callee.builtin Go.Builtin.len, args := #[Go.Operand.tmp 23], argTypes := #[30] }, type := 3, pos := "l09_documents.go:91", after := #[{ on := 0, ground := Go.Ground.data }], guard := none }) rfl (fun K hK => ?_) AllReady.nil))
                · go_simp
                  refine Calls.mono (HCL.out _ (by first | with_reducible exact hA | with_reducible exact hB | with_reducible exact hB2)) ?_
                  rintro e w1 ⟨rfl, HQ⟩
                  have q0 := HQ.out.1
                  have q1 := HQ.out.2.1
                  go_wp2_with fail
                  refine leaves_cons (f := 23) (args := #[.pointer (some ⟨w.heap.size + 1, 0, none⟩), .pointer (some ⟨w.heap.size + 1 + 1, 0, none⟩)]) (by simp) (by simp [go_sem]) ?_
                  refine (catch51_panicking _ _ 10 0 [] w1 _ _ (q0.cell 0 (by simp)) (q1.cell 0 (by simp)) (q0.frozen 0) (q1.frozen 0) (by omega)).mono ?_
                  rintro e u' w'' ⟨rfl, rfl, w6, hb6, rfl⟩
                  obtain ⟨r0, r1, hE⟩ := HPAN.out w1 HQ w6 hb6
                  exact ⟨.tuple #[.slice none 0 0, .int .i64 10], by simp [results, Try.results9, go_sem, r0, r1], hE⟩
                · go_simp
                  refine hK _ _ ?_
                  clear hK K
                  try simp only [Act.put, List.setIfInBounds_toArray, List.set_cons_zero, List.set_cons_succ]
                  refine wpAny_ready (rs := [2]) (by kernel_rfl) (by simp) ?_
                  refine (AllReady.cons (o := { dst := some 25, op := Go.Op.call { callee := Go.Callee.value (Go.Operand.func 25), args := #[Go.Operand.tmp 6, Go.Operand.tmp 24, Go.Operand.const (Go.Value.int Go.IntKind.i64 1)], argTypes := #[63, 3, 3] }, type := 39, pos := "l09_documents.go:91", after := #[{ on := 1, ground := Go.Ground.data }], guard := none }) rfl (fun K hK => ?_) AllReady.nil)
                  go_simp
                  refine Calls.mono (HCL.out _ (by first | with_reducible exact hA | with_reducible exact hB | with_reducible exact hB2)) ?_
                  rintro e w1 ⟨rfl, HQ⟩
                  have q0 := HQ.out.1
                  have q1 := HQ.out.2.1
                  go_wp2_with fail
                  refine leaves_cons (f := 23) (args := #[.pointer (some ⟨w.heap.size + 1, 0, none⟩), .pointer (some ⟨w.heap.size + 1 + 1, 0, none⟩)]) (by simp) (by simp [go_sem]) ?_
                  refine (catch51_panicking _ _ 10 0 [] w1 _ _ (q0.cell 0 (by simp)) (q1.cell 0 (by simp)) (q0.frozen 0) (q1.frozen 0) (by omega)).mono ?_
                  rintro e u' w'' ⟨rfl, rfl, w6, hb6, rfl⟩
                  obtain ⟨r0, r1, hE⟩ := HPAN.out w1 HQ w6 hb6
                  exact ⟨.tuple #[.slice none 0 0, .int .i64 10], by simp [results, Try.results9, go_sem, r0, r1], hE⟩
              · go_simp
                refine hK _ _ ?_
                clear hK K
                try simp only [Act.put, List.setIfInBounds_toArray, List.set_cons_zero, List.set_cons_succ]
                refine wpAny_ready (rs := [1]) (by kernel_rfl) (by simp) ?_
                refine (AllReady.cons (o := { dst := some 24, op := Go.Op.move (Go.Operand.tmp 5), type := 3, pos := "l09_documents.go:91", after := #[], guard := none }) rfl (fun K hK => ?_) AllReady.nil)
                go_simp
                refine hK _ _ ?_
                clear hK K
                try simp only [Act.put, List.setIfInBounds_toArray, List.set_cons_zero, List.set_cons_succ]
                refine wpAny_ready (rs := [2]) (by kernel_rfl) (by simp) ?_
                refine (AllReady.cons (o := { dst := some 25, op := Go.Op.call { callee := Go.Callee.value (Go.Operand.func 25), args := #[Go.Operand.tmp 6, Go.Operand.tmp 24, Go.Operand.const (Go.Value.int Go.IntKind.i64 1)], argTypes := #[63, 3, 3] }, type := 39, pos := "l09_documents.go:91", after := #[{ on := 1, ground := Go.Ground.data }], guard := none }) rfl (fun K hK => ?_) AllReady.nil)
                go_simp
                refine Calls.mono (HCL.out _ (by first | with_reducible exact hA | with_reducible exact hB | with_reducible exact hB2)) ?_
                rintro e w1 ⟨rfl, HQ⟩
                have q0 := HQ.out.1
                have q1 := HQ.out.2.1
                go_wp2_with fail
                refine leaves_cons (f := 23) (args := #[.pointer (some ⟨w.heap.size + 1, 0, none⟩), .pointer (some ⟨w.heap.size + 1 + 1, 0, none⟩)]) (by simp) (by simp [go_sem]) ?_
                refine (catch51_panicking _ _ 10 0 [] w1 _ _ (q0.cell 0 (by simp)) (q1.cell 0 (by simp)) (q0.frozen 0) (q1.frozen 0) (by omega)).mono ?_
                rintro e u' w'' ⟨rfl, rfl, w6, hb6, rfl⟩
                obtain ⟨r0, r1, hE⟩ := HPAN.out w1 HQ w6 hb6
                exact ⟨.tuple #[.slice none 0 0, .int .i64 10], by simp [results, Try.results9, go_sem, r0, r1], hE⟩
            · go_simp
              refine hK _ _ ?_
              clear hK K
              try simp only [Act.put, List.setIfInBounds_toArray, List.set_cons_zero, List.set_cons_succ]
              refine wpAny_ready (rs := [0, 2]) (by kernel_rfl) (by simp) ?_
              refine (AllReady.cons (o := { dst := some 23, op := Go.Op.load 30 (Go.Operand.tmp 2), type := 30, pos := "l09_documents.go:91", after := #[], guard := none }) rfl (fun K hK => ?_) (AllReady.cons (o := { dst := some 25, op := Go.Op.call { callee := Go.Callee.value (Go.Operand.func 25), args := #[Go.Operand.tmp 6, Go.Operand.tmp 24, Go.Operand.const (Go.Value.int Go.IntKind.i64 1)], argTypes := #[63, 3, 3] }, type := 39, pos := "l09_documents.go:91", after := #[{ on := 1, ground := Go.Ground.data }], guard := none }) rfl (fun K hK => ?_) AllReady.nil))
              · go_simp
                refine hK _ _ ?_
                clear hK K
                try simp only [Act.put, List.setIfInBounds_toArray, List.set_cons_zero, List.set_cons_succ]
                refine wpAny_ready (rs := [2, 3]) (by kernel_rfl) (by simp) ?_
                refine (AllReady.cons (o := { dst := some 25, op := Go.Op.call { callee := Go.Callee.value (Go.Operand.func 25), args := #[Go.Operand.tmp 6, Go.Operand.tmp 24, Go.Operand.const (Go.Value.int Go.IntKind.i64 1)], argTypes := #[63, 3, 3] }, type := 39, pos := "l09_documents.go:91", after := #[{ on := 1, ground := Go.Ground.data }], guard := none }) rfl (fun K hK => ?_) (AllReady.cons (o := { dst := some 26, op := Go.Op.call { callee := Go.Callee.builtin Go.Builtin.len, args := #[Go.Operand.tmp 23], argTypes := #[30] }, type := 3, pos := "l09_documents.go:91", after := #[{ on := 0, ground := Go.Ground.data }], guard := none }) rfl (fun K hK => ?_) AllReady.nil))
                · go_simp
                  refine Calls.mono (HCL.out _ (by first | with_reducible exact hA | with_reducible exact hB | with_reducible exact hB2)) ?_
                  rintro e w1 ⟨rfl, HQ⟩
                  have q0 := HQ.out.1
                  have q1 := HQ.out.2.1
                  go_wp2_with fail
                  refine leaves_cons (f := 23) (args := #[.pointer (some ⟨w.heap.size + 1, 0, none⟩), .pointer (some ⟨w.heap.size + 1 + 1, 0, none⟩)]) (by simp) (by simp [go_sem]) ?_
                  refine (catch51_panicking _ _ 10 0 [] w1 _ _ (q0.cell 0 (by simp)) (q1.cell 0 (by simp)) (q0.frozen 0) (q1.frozen 0) (by omega)).mono ?_
                  rintro e u' w'' ⟨rfl, rfl, w6, hb6, rfl⟩
                  obtain ⟨r0, r1, hE⟩ := HPAN.out w1 HQ w6 hb6
                  exact ⟨.tuple #[.slice none 0 0, .int .i64 10], by simp [results, Try.results9, go_sem, r0, r1], hE⟩
                · go_simp
                  refine hK _ _ ?_
                  clear hK K
                  try simp only [Act.put, List.setIfInBounds_toArray, List.set_cons_zero, List.set_cons_succ]
                  refine wpAny_ready (rs := [2]) (by kernel_rfl) (by simp) ?_
                  refine (AllReady.cons (o := { dst := some 25, op := Go.Op.call { callee := Go.Callee.value (Go.Operand.func 25), args := #[Go.Operand.tmp 6, Go.Operand.tmp 24, Go.Operand.const (Go.Value.int Go.IntKind.i64 1)], argTypes := #[63, 3, 3] }, type := 39, pos := "l09_documents.go:91", after := #[{ on := 1, ground := Go.Ground.data }], guard := none }) rfl (fun K hK => ?_) AllReady.nil)
                  go_simp
                  refine Calls.mono (HCL.out _ (by first | with_reducible exact hA | with_reducible exact hB | with_reducible exact hB2)) ?_
                  rintro e w1 ⟨rfl, HQ⟩
                  have q0 := HQ.out.1
                  have q1 := HQ.out.2.1
                  go_wp2_with fail
                  refine leaves_cons (f := 23) (args := #[.pointer (some ⟨w.heap.size + 1, 0, none⟩), .pointer (some ⟨w.heap.size + 1 + 1, 0, none⟩)]) (by simp) (by simp [go_sem]) ?_
                  refine (catch51_panicking _ _ 10 0 [] w1 _ _ (q0.cell 0 (by simp)) (q1.cell 0 (by simp)) (q0.frozen 0) (q1.frozen 0) (by omega)).mono ?_
                  rintro e u' w'' ⟨rfl, rfl, w6, hb6, rfl⟩
                  obtain ⟨r0, r1, hE⟩ := HPAN.out w1 HQ w6 hb6
                  exact ⟨.tuple #[.slice none 0 0, .int .i64 10], by simp [results, Try.results9, go_sem, r0, r1], hE⟩
              · go_simp
                refine Calls.mono (HCL.out _ (by first | with_reducible exact hA | with_reducible exact hB | with_reducible exact hB2)) ?_
                rintro e w1 ⟨rfl, HQ⟩
                have q0 := HQ.out.1
                have q1 := HQ.out.2.1
                go_wp2_with fail
                refine leaves_cons (f := 23) (args := #[.pointer (some ⟨w.heap.size + 1, 0, none⟩), .pointer (some ⟨w.heap.size + 1 + 1, 0, none⟩)]) (by simp) (by simp [go_sem]) ?_
                refine (catch51_panicking _ _ 10 0 [] w1 _ _ (q0.cell 0 (by simp)) (q1.cell 0 (by simp)) (q0.frozen 0) (q1.frozen 0) (by omega)).mono ?_
                rintro e u' w'' ⟨rfl, rfl, w6, hb6, rfl⟩
                obtain ⟨r0, r1, hE⟩ := HPAN.out w1 HQ w6 hb6
                exact ⟨.tuple #[.slice none 0 0, .int .i64 10], by simp [results, Try.results9, go_sem, r0, r1], hE⟩
      · have hje : k'.length = rs.length := by omega
        have HV := (show Hid _ from UvI.of HT.out)
        have HFU := (show Hid (∀ T, UnOK ns rs T → T = k') from fun T hT => HF.out.full hje hT)
        have T2 : wr.cell? ⟨w.heap.size + 1, 0, none⟩ = some (.slice va k'.length vp) := HT.out.b1.cell 0 (by simp)
        have HSH := (show Hid (Calls Try.prog 7 #[.slice va k'.length vp] wr (ShT k' wr)) from iShare k' _ wr (fun q hq => hq.2) (Own.trs HV.out.own))
        have hnl : ¬ ((k'.length : Int) < (rs.length : Int)) := by omega
        clear HF HT HRC hje
        go_wp2_with fail
        refine Calls.mono HSH.out ?_
        rintro e w1 ⟨u1, r1, rfl, hb1, hdg⟩
        have hV1 := UvI.still HV.out hb1
        have C3 : w1.cell? ⟨w.heap.size + 1 + 1, 0, none⟩ = some (.int .i64 0) := hV1.b2.cell 0 (by simp)
        have F3 := hV1.b2.frozen 0
        have hsz := hV1.b2.lt
        have hsz2 := hV1.b1.lt
        have C2 : w1.cell? ⟨w.heap.size + 1, 0, none⟩ = some (.slice va k'.length vp) := hV1.b1.cell 0 (by simp)
        have F2 := hV1.b1.frozen 0
        obtain ⟨a1, c1, a2, c2, eu, er, _, _⟩ := hdg.forms
        have HDG := (show Hid _ from hdg)
        cases htk : tksB k'
        · have hsc : shC k' = 1 := by unfold shC; rw [htk]; rfl
          have HNO := (show Hid (∀ T, ¬ UnOK ns rs T) from fun T hT => by
            have := HFU.out T hT
            subst this
            rw [hT.1] at htk
            cases htk)
          rw [hsc]
          obtain ⟨r0, r1', _⟩ := refuse23 (ns := ns) (rs := rs) (hV1.code (.int .i64 1)).b1 (hV1.code (.int .i64 1)).b2 (hV1.code (.int .i64 1)).bel HNO.out
          have HA := (show Hid _ from UnA.none HNO.out (bel_trans (((hV1.code (.int .i64 1)).bel.setCell (p := ⟨w.heap.size + 1, 0, none⟩) (by show w.heap.size ≤ w.heap.size + 1; omega) (.slice none 0 0)).setCell (p := ⟨w.heap.size + 1 + 1, 0, none⟩) (by show w.heap.size ≤ w.heap.size + 1 + 1; omega) (.int .i64 10)) (bel_alloc _ (.cells #[u1, r1] 27))))
          clear hV1 hdg htk HSH HV HDG hsc
          rw [eu, er] at HA ⊢
          clear eu er
          go_wp2_with fail
          refine leaves_cons (f := 23) (args := #[.pointer (some ⟨w.heap.size + 1, 0, none⟩), .pointer (some ⟨w.heap.size + 1 + 1, 0, none⟩)]) (by simp) (by simp [go_sem]) ?_
          refine (catch51_idle _ _ _).mono ?_
          rintro e u' w'' ⟨rfl, rfl, rfl⟩
          exact ⟨.tuple #[.slice none 0 0, .int .i64 10], by simp [results, Try.results9, go_sem, r0, r1', hsz, hsz2], HA.out⟩
        · have hsc : shC k' = 0 := by unfold shC; rw [htk]; rfl
          have hsn : shN k' = putTs k' [] := by unfold shN; rw [htk]; rfl
          rw [hsc]
          rw [hsn] at hdg eu er
          obtain ⟨B, hB⟩ : ∃ B : Bool, B = true ↔ (putTs k' []).1.map rd = ns := by
            classical exact ⟨decide ((putTs k' []).1.map rd = ns), by simp⟩
          have HV2 := (show Hid _ from (hV1.code (.int .i64 0)).still (bel_alloc _ (.cells #[u1, r1] 27)))
          have hbc : Below w.heap.size w ((w1.setCell ⟨w.heap.size + 1 + 1, 0, none⟩ (.int .i64 0)).alloc (.cells #[u1, r1] 27)) := HV2.out.bel
          have HSD : Hid (Calls Try.prog 26 #[.agg #[u1, r1], .agg #[.slice ua ns.length ucap, .slice ra rs.length rcap]] ((w1.setCell ⟨w.heap.size + 1 + 1, 0, none⟩ (.int .i64 0)).alloc (.cells #[u1, r1] 27)) fun e w' => e = .returned (.bool (decide (ins (putTs k' []).2 = rs) && B)) ∧ Below ((w1.setCell ⟨w.heap.size + 1 + 1, 0, none⟩ (.int .i64 0)).alloc (.cells #[u1, r1] 27)).heap.size ((w1.setCell ⟨w.heap.size + 1 + 1, 0, none⟩ (.int .i64 0)).alloc (.cells #[u1, r1] 27)) w') := by
            obtain ⟨K, hd1, hd2, hd3⟩ := hdg
            have hge : ∀ q, wr.heap.size ≤ q → q ≠ w.heap.size + 1 + 1 := fun q hq => by have := HV.out.b2.lt; omega
            have hd1' : DN wr.heap.size (w1.setCell ⟨w.heap.size + 1 + 1, 0, none⟩ (.int .i64 0)) u1 (putTs k' []).1 K := by
              obtain ⟨kv, kb, hdn⟩ := hd1
              refine ⟨kv, kb, hdn.keep (by simp) (fun b hb hlt => blk_setCell_other _ _ _ _ (hge b ?_))⟩
              rcases hb with hb | hb
              · exact (hdn.lo b hb).1
              · exact (World.ownsRow.lt hdn.row b hb).1
            have hd2' := own_keep1 (w' := w1.setCell ⟨w.heap.size + 1 + 1, 0, none⟩ (.int .i64 0)) hd2 (fun q hq => blk_setCell_other _ _ _ _ (hge q (World.ownsRow.lt hd2 q hq).1))
            have i1 := Rds.still (DN.rds hd1' (putTs_sz htk)) (bel_alloc _ (.cells #[u1, r1] 27))
            have hil : (ins (putTs k' []).2).length = (putTs k' []).2.length := ins_len _
            rw [← hil] at hd2'
            have i2 := Ints.still (own_row_ints hd2') (bel_alloc _ (.cells #[u1, r1] 27))
            exact sameDag54 _ ns _ rs u1 r1 _ _ _ i1 i2 (Rds.still HN.out hbc) (Ints.still HI.out hbc) B hB
          have HYN := (show Hid ((decide (ins (putTs k' []).2 = rs) && B) = true → UnOK ns rs k') from fun h => by
            rw [Bool.and_eq_true, decide_eq_true_eq] at h
            exact ⟨htk, hB.1 h.2, h.1⟩)
          have HNY := (show Hid ((decide (ins (putTs k' []).2 = rs) && B) = false → ∀ T, ¬ UnOK ns rs T) from fun h T hT => by
            have e := HFU.out T hT
            subst e
            rw [decide_eq_true hT.2.2, hB.2 hT.2.1] at h
            cases h)
          have X0 := HV2.out.b0.cell 0 (by simp)
          have X1 := HV2.out.b0.cell 1 (by simp)
          simp only [List.getD_cons_zero, List.getD_cons_succ] at X0 X1
          have X2 := hV1.b0.cell 0 (by simp)
          have X3 := hV1.b0.cell 1 (by simp)
          have hsz0 := hV1.b0.lt
          simp only [List.getD_cons_zero, List.getD_cons_succ] at X2 X3
          generalize (decide (ins (putTs k' []).2 = rs) && B) = D at *
          clear hV1 hdg htk HSH HV HDG hsc hsn hB hbc HFU HN HI HS
          generalize (putTs k' []).1.length = N1 at *
          generalize (putTs k' []).2.length = N2 at *
          subst eu er
          go_wp2_with fail
          refine Calls.mono HSD.out ?_
          rintro e w3 ⟨rfl, hb3⟩
          have hV3 := UvI.still HV2.out hb3
          have C2' : w3.cell? ⟨w.heap.size + 1, 0, none⟩ = some (.slice va k'.length vp) := hV3.b1.cell 0 (by simp)
          have F2' := hV3.b1.frozen 0
          have C3' : w3.cell? ⟨w.heap.size + 1 + 1, 0, none⟩ = some (.int .i64 0) := hV3.b2.cell 0 (by simp)
          have F3' := hV3.b2.frozen 0
          cases D with
          | true =>
            obtain ⟨r0, r1', hA⟩ := hV3.yes (HYN.out rfl)
            have HA := (show Hid _ from hA)
            clear hV3 hb3 hA HSD HV2 HYN HNY X0 X1 X2 X3 C2 C3 F2 F3
            go_wp2_with fail
            refine leaves_cons (f := 23) (args := #[.pointer (some ⟨w.heap.size + 1, 0, none⟩), .pointer (some ⟨w.heap.size + 1 + 1, 0, none⟩)]) (by simp) (by simp [go_sem]) ?_
            refine (catch51_idle _ _ _).mono ?_
            rintro e u' w'' ⟨rfl, rfl, rfl⟩
            exact ⟨.tuple #[.slice va k'.length vp, .int .i64 0], by simp [results, Try.results9, go_sem, r0, r1'], HA.out⟩
          | false =>
            obtain ⟨r0, r1', hA⟩ := refuse23 hV3.b1 hV3.b2 hV3.bel (HNY.out rfl)
            have HA := (show Hid _ from hA)
            clear hV3 hb3 hA HSD HV2 HYN HNY X0 X1 X2 X3 C2 C3 F2 F3
            go_wp2_with fail
            refine leaves_cons (f := 23) (args := #[.pointer (some ⟨w.heap.size + 1, 0, none⟩), .pointer (some ⟨w.heap.size + 1 + 1, 0, none⟩)]) (by simp) (by simp [go_sem]) ?_
            refine (catch51_idle _ _ _).mono ?_
            rintro e u' w'' ⟨rfl, rfl, rfl⟩
            exact ⟨.tuple #[.slice none 0 0, .int .i64 10], by simp [results, Try.results9, go_sem, r0, r1'], HA.out⟩
end Go.Proofs.Ytkkcdkfmlamgcaa
