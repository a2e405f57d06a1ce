import Derived.Test.YtofobmdljelmgaaUi
/-! The program: the tree of a Dag. -/
namespace Go.Proofs.Ytofobmdljelmgaa
open Go.RowKit Go.Deep Go.Lib
set_option linter.unusedVariables false
set_option maxRecDepth 100000
set_option linter.unusedSimpArgs false

/-- What the call leaves. -/
def DtA (ns : List Rd) (z : Int) (w : World) (e : Ending) (w' : World) : Prop :=
  Below w.heap.size w w' ∧ ((∃ (t : Tr) (a : Option Addr) (m c : Nat), Fit ns z 0 1 t ∧ e = .returned (.agg #[.string t.name, .string t.text, .bool t.leaf, .slice a m c]) ∧ Own w' w.heap.size w'.heap.size t (.slice a m c)) ∨ ((∀ t, ¬ Fit ns z 0 1 t) ∧ e = .panicked [formFault]))
set_option maxHeartbeats 1600000 in
theorem dtree66 {S : Nat → Prop} (ns : List Rd) (z : Int) (u r : Value) (w : World) (hN : Rds w S ns u) (hS : ∀ q, S q → q < w.heap.size) (hr : ∃ a m c, r = .slice a m c) :
    Calls Try.prog 36 #[.agg #[u, r], .int .i64 z] w (DtA ns z w) := by
  obtain ⟨ua, ucap, hu, hum⟩ := hN.form
  unfold maxLen at hum
  obtain ⟨ra, rm, rc, rfl⟩ := hr
  subst hu
  have hbA := bel_alloc w (.cells #[.slice ua ns.length ucap, .slice ra rm rc] 27)
  have hbB := bel_trans hbA (bel_alloc _ (.cells #[.string ByteArray.empty, .string ByteArray.empty, .bool false, .slice none 0 0] 39))
  have hbC := bel_trans hbB (bel_alloc _ (.cells #[.slice ua ns.length ucap, .int .i64 0] 128))
  have HBC := (show Hid _ from hbC)
  have bx : Box (((w.alloc (.cells #[.slice ua ns.length ucap, .slice ra rm rc] 27)).alloc (.cells #[.string ByteArray.empty, .string ByteArray.empty, .bool false, .slice none 0 0] 39)).alloc (.cells #[.slice ua ns.length ucap, .int .i64 0] 128)) (w.heap.size + 1 + 1) 128 [.slice ua ns.length ucap, .int .i64 0] := by
    have := Box.new ((w.alloc (.cells #[.slice ua ns.length ucap, .slice ra rm rc] 27)).alloc (.cells #[.string ByteArray.empty, .string ByteArray.empty, .bool false, .slice none 0 0] 39)) 128 [.slice ua ns.length ucap, .int .i64 0]
    simpa using this
  have by' : Box (((w.alloc (.cells #[.slice ua ns.length ucap, .slice ra rm rc] 27)).alloc (.cells #[.string ByteArray.empty, .string ByteArray.empty, .bool false, .slice none 0 0] 39)).alloc (.cells #[.slice ua ns.length ucap, .int .i64 0] 128)) (w.heap.size + 1) 39 [.string ByteArray.empty, .string ByteArray.empty, .bool false, .slice none 0 0] := by
    have := (Box.new (w.alloc (.cells #[.slice ua ns.length ucap, .slice ra rm rc] 27)) 39 [.string ByteArray.empty, .string ByteArray.empty, .bool false, .slice none 0 0]).still (bel_alloc _ (.cells #[.slice ua ns.length ucap, .int .i64 0] 128))
    simpa using this
  have HCL := (show Hid _ from tree53 60 ns z 0 1 _ (w.heap.size + 1 + 1) _ (by omega) (by omega) (hN.still hbC) (fun b hb => by have := hS b hb; omega) bx (by omega) (by omega))
  have HBY := (show Hid _ from by')
  have HSZ := (show Hid ((((w.alloc (.cells #[.slice ua ns.length ucap, .slice ra rm rc] 27)).alloc (.cells #[.string ByteArray.empty, .string ByteArray.empty, .bool false, .slice none 0 0] 39)).alloc (.cells #[.slice ua ns.length ucap, .int .i64 0] 128)).heap.size = w.heap.size + 3) from (by show _ = _; simp))
  clear hbA hbB hbC bx by' hN hS
  go_enter Try.func36, Try.ntmps36
  go_wp2_with fail
  refine Calls.mono HCL.out ?_
  rintro e w1 ⟨hb, hc⟩
  have hs := HSZ.out
  have hsz := hb.size
  have hbel : Below w.heap.size w w1 := by
    have h0 := HBC.out
    exact ⟨hb.1.trans h0.os, hb.2.1.trans h0.tape, hb.2.2.1.trans h0.output, by have := h0.size; omega, fun p hp => (hb.block (by omega) (by omega)).trans (h0.block p hp)⟩
  rcases hc with ⟨t, a, m, c, hf, rfl, hbx, hown⟩ | ⟨hno, rfl⟩
  · have hy := HBY.out.keep (hb.block (by omega) (by omega))
    have Z0 : w1.cell? ⟨w.heap.size + 1, 0, none⟩ = some (.string ByteArray.empty) := hy.cell 0 (by simp)
    have Z1 : w1.cell? ⟨w.heap.size + 1, 1, none⟩ = some (.string ByteArray.empty) := hy.cell 1 (by simp)
    have Z2 : w1.cell? ⟨w.heap.size + 1, 2, none⟩ = some (.bool false) := hy.cell 2 (by simp)
    have Z3 : w1.cell? ⟨w.heap.size + 1, 3, none⟩ = some (.slice none 0 0) := hy.cell 3 (by simp)
    have y0 : w1.frozen? ⟨w.heap.size + 1, 0, none⟩ = false := hy.frozen 0
    have y1 : w1.frozen? ⟨w.heap.size + 1, 1, none⟩ = false := hy.frozen 1
    have y2 : w1.frozen? ⟨w.heap.size + 1, 2, none⟩ = false := hy.frozen 2
    have y3 : w1.frozen? ⟨w.heap.size + 1, 3, none⟩ = false := hy.frozen 3
    rw [hs] at hown
    have HF := (show Hid (Below w.heap.size w w1 ∧ Fit ns z 0 1 t ∧ Own w1 (w.heap.size + 3) w1.heap.size t (.slice a m c)) from ⟨hbel, hf, hown⟩)
    clear hf hown hbx hb hbel hy hs hsz HBC HBY HCL
    go_wp2_with fail
    refine bodyPost_ret (v := .agg #[.string t.name, .string t.text, .bool t.leaf, .slice a m c]) (by simp [results, Try.results36, go_sem, Z0, Z1, Z2, Z3]) rfl ⟨?_, .inl ⟨t, a, m, c, HF.out.2.1, rfl, ?_⟩⟩
    · exact (((HF.out.1.setCell (by simp) _).setCell (by simp) _).setCell (by simp) _).setCell (by simp) _
    · have hfin := HF.out.2.2
      exact ((((hfin.past (.inl (by omega))).past (.inl (by omega))).past (.inl (by omega))).past (.inl (by omega))).keep (by omega) (by simp) (fun _ _ _ _ => rfl)
  · have HF := (show Hid (DtA ns z w (.panicked [formFault]) w1) from ⟨hbel, .inr ⟨hno, rfl⟩⟩)
    clear hno hb hbel hs hsz HBC HBY HCL
    go_wp2_with fail
    exact ⟨rfl, HF.out⟩
end Go.Proofs.Ytofobmdljelmgaa
