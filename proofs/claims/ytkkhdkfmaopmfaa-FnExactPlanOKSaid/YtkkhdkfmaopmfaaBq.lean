import Derived.Test.YtkkhdkfmaopmfaaBg
import Derived.Test.YtkkhdkfmaopmfaaEq
/-! The law: binds are compared. -/
namespace Go.Proofs.Ytkkhdkfmaopmfaa
open Go.RowKit Go.Deep Go.Lib
set_option linter.unusedVariables false
set_option maxRecDepth 100000
set_option linter.unusedSimpArgs false

/-- Binds that may be read. -/
def BRd (w : World) (bl : List (ByteArray × Tr)) (v : Value) : Prop :=
  ∃ (a : Option Addr) (cap b : Nat) (sv : Nat → Value), v = .slice a bl.length cap ∧ bl.length ≤ 9223372036854775807 ∧ (0 < bl.length → a = some ⟨b, 0, none⟩) ∧ (∀ i (hi : i < bl.length), w.cell? ⟨b, i * 5, none⟩ = some (.string bl[i].1) ∧ w.cell? ⟨b, i * 5 + 1, none⟩ = some (.string bl[i].2.name) ∧ w.cell? ⟨b, i * 5 + 2, none⟩ = some (.string bl[i].2.text) ∧ w.cell? ⟨b, i * 5 + 3, none⟩ = some (.bool bl[i].2.leaf) ∧ w.cell? ⟨b, i * 5 + 4, none⟩ = some (sv i)) ∧ ∀ i (hi : i < bl.length), Lies w (fun _ => True) bl[i].2 (sv i)
theorem own_brd {w : World} {bl : List (ByteArray × Tr)} {B : Nat} {v : Value} {sv : Nat → Value} (h : w.ownsRow B 62 5 v bl.length (bcs bl sv bl.length)) (hl : ∀ i (hi : i < bl.length), Lies w (fun _ => True) bl[i].2 (sv i)) : BRd w bl v := by
  have hc : ∀ (b : Nat) (cap : Nat), v = .slice (some ⟨b, 0, none⟩) bl.length cap → ∀ i (hi : i < bl.length), w.cell? ⟨b, i * 5, none⟩ = some (.string bl[i].1) ∧ w.cell? ⟨b, i * 5 + 1, none⟩ = some (.string bl[i].2.name) ∧ w.cell? ⟨b, i * 5 + 2, none⟩ = some (.string bl[i].2.text) ∧ w.cell? ⟨b, i * 5 + 3, none⟩ = some (.bool bl[i].2.leaf) ∧ w.cell? ⟨b, i * 5 + 4, none⟩ = some (sv i) := fun b cap e i hi => by
    subst e
    obtain ⟨g0, g1, g2, g3, g4⟩ := bcs_get bl sv bl.length i hi
    rw [nb_eq hi] at g0 g1 g2 g3
    exact ⟨by rw [World.ownsRow.cellAt h _ (by omega), g0], by rw [World.ownsRow.cellAt h _ (by omega), g1], by rw [World.ownsRow.cellAt h _ (by omega), g2], by rw [World.ownsRow.cellAt h _ (by omega), g3], by rw [World.ownsRow.cellAt h _ (by omega), g4]⟩
  rcases h.2 with ⟨rfl, h0⟩ | ⟨g, cap, cur, e, r2, r3, r4, r5, r6⟩
  · exact ⟨none, 0, 0, sv, by rw [h0], by omega, fun h => by omega, fun i hi => by omega, fun i hi => by omega⟩
  · exact ⟨some ⟨g, 0, none⟩, cap, g, sv, e, by unfold maxLen at r5; omega, fun _ => rfl, hc g cap e, hl⟩
theorem BLi.brd {w : World} {bl : List (ByteArray × Tr)} {v : Value} (h : BLi w bl v) : BRd w bl v := by
  obtain ⟨b, cap, sv, hv, ho, hs, hl⟩ := h
  exact own_brd ho hl
theorem BGr.brd {w : World} {bl : List (ByteArray × Tr)} {B : Nat} {v : Value} (h : BGr bl B bl.length v w) : BRd w bl v := by
  obtain ⟨fs, l, hh, h1, h2, h3, h4⟩ := h
  exact own_brd h1 (fun i hi => by rw [← nb_eq hi]; exact (h2 i hi).lies.mono (fun _ _ => trivial))
theorem BRd.still {w w' : World} {bl : List (ByteArray × Tr)} {v : Value} (h : BRd w bl v) (hb : Below w.heap.size w w') : BRd w' bl v := by
  obtain ⟨a, cap, b, sv, h1, h2, h3, h4, h5⟩ := h
  have mv : ∀ {b o : Nat} {v : Value}, w.cell? ⟨b, o, none⟩ = some v → w'.cell? ⟨b, o, none⟩ = some v := fun h => (hb.cell (lt_of_cell h)).trans h
  refine ⟨a, cap, b, sv, h1, h2, h3, fun i hi => ?_, fun i hi => (h5 i hi).still hb⟩
  obtain ⟨c0, c1, c2, c3, c4⟩ := h4 i hi
  exact ⟨mv c0, mv c1, mv c2, mv c3, mv c4⟩
theorem eqBind41 (x : ByteArray) (t : Tr) (q1 r1 : Option Addr) (q2 q3 r2 r3 : Nat) (w : World) (h1 : Lies w (fun _ => True) t (.slice q1 q2 q3)) (h2 : Lies w (fun _ => True) t (.slice r1 r2 r3)) :
    Calls Try.prog 41 #[.agg #[.string x, .string t.name, .string t.text, .bool t.leaf, .slice q1 q2 q3], .agg #[.string x, .string t.name, .string t.text, .bool t.leaf, .slice r1 r2 r3]] w fun e w' => e = .returned (.bool true) ∧ Below w.heap.size w w' := by
  have hb2 : Below w.heap.size w ((w.alloc (.cells #[.string x, .string t.name, .string t.text, .bool t.leaf, .slice q1 q2 q3] 62)).alloc (.cells #[.string x, .string t.name, .string t.text, .bool t.leaf, .slice r1 r2 r3] 62)) := (bel_alloc _ _).alloc (by simp) _
  have HCL := (show Hid _ from eq_any t _ _ _ (h1.still hb2) (h2.still hb2))
  simp only [Tr.val] at HCL
  have HB2 := (show Hid _ from hb2)
  clear h1 h2 hb2
  generalize t.name = n0 at *
  generalize t.text = x0 at *
  generalize t.leaf = l0 at *
  go_enter Try.func41, Try.ntmps41
  go_wp2_with fail
  refine Calls.mono HCL.out ?_
  rintro e w1 ⟨rfl, hb1⟩
  have HE := (show Hid _ from bel_trans HB2.out hb1)
  clear hb1 HCL
  go_wp2_with fail
  go_ret
  exact ⟨rfl, HE.out⟩
set_option maxHeartbeats 1600000 in
theorem eqBinds11 (bl : List (ByteArray × Tr)) (v v' : Value) (w : World) (h : BRd w bl v) (h' : BRd w bl v') :
    Calls Try.prog 11 #[v, v'] w fun e w' => e = .returned (.bool true) ∧ Below w.heap.size w w' := by
  obtain ⟨a1, cap1, b1, sv1, rfl, hm, ha1, hc1, hl1⟩ := h
  obtain ⟨a2, cap2, b2, sv2, rfl, _, ha2, hc2, hl2⟩ := h'
  have HD := (show Hid _ from (⟨ha1, hc1, hl1⟩ : _ ∧ _ ∧ _)); clear ha1 hc1 hl1
  have HD' := (show Hid _ from (⟨ha2, hc2, hl2⟩ : _ ∧ _ ∧ _)); clear ha2 hc2 hl2
  go_enter Try.func11, Try.ntmps11
  go_wp2_with fail
  go_loopw [5] (fun i wr => ∃ j : Nat, i = .int .i64 j ∧ j ≤ bl.length ∧ Hid (Below w.heap.size w wr)) (fun i _ => bl.length - (intOf i).toNat)
  case atStart => exact ⟨0, rfl, Nat.zero_le _, Below.refl _ _⟩
  case round =>
    obtain ⟨j, rfl, hj, HJ⟩ := hrel
    by_cases hlt : j < bl.length
    · obtain rfl := HD.out.1 (by omega)
      obtain rfl := HD'.out.1 (by omega)
      obtain ⟨d0, d1, d2, d3, d4⟩ := HD.out.2.1 j hlt
      obtain ⟨f0, f1, f2, f3, f4⟩ := HD'.out.2.1 j hlt
      obtain ⟨q1, q2, q3, hq⟩ := (HD.out.2.2 j hlt).form
      obtain ⟨r1, r2, r3, hr⟩ := (HD'.out.2.2 j hlt).form
      have hl1 := HD.out.2.2 j hlt
      have hl2 := HD'.out.2.2 j hlt
      rw [hq] at d4 hl1
      rw [hr] at f4 hl2
      have HSK := (show Hid (∀ w' : World, Below wr.heap.size wr w' → w'.cell? ⟨b1, j * 5, none⟩ = some (.string bl[j].1) ∧ w'.cell? ⟨b1, j * 5 + 1, none⟩ = some (.string bl[j].2.name) ∧ w'.cell? ⟨b1, j * 5 + 2, none⟩ = some (.string bl[j].2.text) ∧ w'.cell? ⟨b1, j * 5 + 3, none⟩ = some (.bool bl[j].2.leaf) ∧ w'.cell? ⟨b1, j * 5 + 4, none⟩ = some (.slice q1 q2 q3) ∧ w'.cell? ⟨b2, j * 5, none⟩ = some (.string bl[j].1) ∧ w'.cell? ⟨b2, j * 5 + 1, none⟩ = some (.string bl[j].2.name) ∧ w'.cell? ⟨b2, j * 5 + 2, none⟩ = some (.string bl[j].2.text) ∧ w'.cell? ⟨b2, j * 5 + 3, none⟩ = some (.bool bl[j].2.leaf) ∧ w'.cell? ⟨b2, j * 5 + 4, none⟩ = some (.slice r1 r2 r3)) from fun w' hb => by
        have hbw := bel_trans HJ.out hb
        have mv : ∀ {b o : Nat} {v : Value}, w.cell? ⟨b, o, none⟩ = some v → w'.cell? ⟨b, o, none⟩ = some v := fun h => (hbw.cell (lt_of_cell h)).trans h
        exact ⟨mv d0, mv d1, mv d2, mv d3, mv d4, mv f0, mv f1, mv f2, mv f3, mv f4⟩)
      have hd0 : Below wr.heap.size wr wr.drew := (Below.refl _ _).drew
      have HCL := (show Hid _ from eqBind41 bl[j].1 bl[j].2 q1 r1 q2 q3 r2 r3 wr.drew (hl1.still (bel_trans HJ.out hd0)) (hl2.still (bel_trans HJ.out hd0)))
      have hS0 := HSK.out _ hd0
      have HD0 := (show Hid _ from hd0)
      have i1 : (0 : Int) ≤ (j : Int) := by omega
      have i2 : (j : Int) < (bl.length : Int) := by omega
      clear d0 d1 d2 d3 d4 f0 f1 f2 f3 f4 hl1 hl2 hq hr hd0
      generalize bl[j].1 = m0 at *
      generalize bl[j].2.name = m1 at *
      generalize bl[j].2.text = m2 at *
      generalize bl[j].2.leaf = m3 at *
      go_wp2_with fail
      go_region_held3 (fun wq => wq.cell? ⟨b1, j * 5, none⟩ = some (.string m0) ∧ wq.cell? ⟨b1, j * 5 + 1, none⟩ = some (.string m1) ∧ wq.cell? ⟨b1, j * 5 + 2, none⟩ = some (.string m2) ∧ wq.cell? ⟨b1, j * 5 + 3, none⟩ = some (.bool m3) ∧ wq.cell? ⟨b1, j * 5 + 4, none⟩ = some (.slice q1 q2 q3) ∧ wq.cell? ⟨b2, j * 5, none⟩ = some (.string m0) ∧ wq.cell? ⟨b2, j * 5 + 1, none⟩ = some (.string m1) ∧ wq.cell? ⟨b2, j * 5 + 2, none⟩ = some (.string m2) ∧ wq.cell? ⟨b2, j * 5 + 3, none⟩ = some (.bool m3) ∧ wq.cell? ⟨b2, j * 5 + 4, none⟩ = some (.slice r1 r2 r3)) (first | with_reducible exact hS0 | with_reducible exact hS1) ((first | (go_at_call 41; refine Calls.mono HCL.out ?_; rintro e w3 ⟨rfl, hb3⟩; have hx1 : Below wr.heap.size wr w3 := HD0.out.trans (hb3.mono (Nat.le_refl _)); have hS1 := HSK.out w3 hx1)))
      have HE := (show Hid _ from bel_trans HJ.out hx1)
      clear hS0 hS1 hb3 hx1
      go_wp2_with fail
      exact ⟨⟨j + 1, by go_num, by omega, HE⟩, by simp [intOf]; omega⟩
    · have q1 : ¬ ((j : Int) < (bl.length : Int)) := by omega
      have HE := (show Hid _ from HJ.out)
      go_wp2_with fail
      go_ret
      exact ⟨rfl, HE.out⟩
end Go.Proofs.Ytkkhdkfmaopmfaa
