import Derived.Test.YtledclkmeikgdaaGq
/-! The specification: l12Behind. -/
namespace Go.Proofs.Ytledclkmeikgdaa
open Go.RowKit Go.Deep
set_option linter.unusedVariables false
set_option maxRecDepth 100000
set_option linter.unusedSimpArgs false

set_option maxHeartbeats 3200000 in
theorem behind84 {S : Nat → Prop} (N : Nat) (a2 : Option Addr) (l2 p2 : Nat) (a3 : Option Addr) (l3 p3 : Nat) (es : List DSEdge) (v1 : Value) (kd : Int) (A : Int → Bool) (b : Nat) (w : World) (hes : SEdgeR w S es v1)
    (hd : ∀ i (hi : i < es.length), (0 ≤ es[i].from_ ∧ es[i].from_ < N) ∧ 0 ≤ es[i].to_ ∧ es[i].to_ < N) (hA : w.rowIs b 4 N (fun i => .bool (A ((i : Nat) : Int)))) (hN : N ≤ 60) (hl : es.length ≤ 120) :
    Calls Try.prog 81 #[.agg #[.int .i64 ((N : Nat) : Int), v1, .slice a2 l2 p2, .slice a3 l3 p3], .slice (some ⟨b, 0, none⟩) N N, .int .i64 kd] w (BhA (bhd es A kd es.length) N w) := by
  obtain ⟨a1, p1, c, off, rfl, hc, hm, ha, hcell⟩ := hes
  have HC := (show Hid _ from hcell); clear hcell
  have HA := (show Hid _ from ha); clear ha
  have HD := (show Hid (∀ i (hi : i < es.length), ∃ s q : Nat, es[i].from_ = (s : Int) ∧ s < N ∧ es[i].to_ = (q : Int) ∧ q < N) from fun i hi => ⟨es[i].from_.toNat, es[i].to_.toNat, by have := hd i hi; omega, by have := hd i hi; omega, by have := hd i hi; omega, by have := hd i hi; omega⟩); clear hd
  have HAC := (show Hid (∀ s : Nat, s < N → w.cell? ⟨b, s, none⟩ = some (.bool (A (s : Int)))) from fun s hs => hA.cell hs); clear hA
  unfold maxLen at hm
  have HBW := (show Hid (Below w.heap.size w (w.alloc (.cells #[.int .i64 ((N : Nat) : Int), .slice a1 es.length p1, .slice a2 l2 p2, .slice a3 l3 p3] 27))) from bel_alloc _ _)
  have hk1 : (w.alloc (.cells #[.int .i64 ((N : Nat) : Int), .slice a1 es.length p1, .slice a2 l2 p2, .slice a3 l3 p3] 27)).cell? ⟨w.heap.size, 1, none⟩ = some (.slice a1 es.length p1) := by simp [go_sem]
  have HK1 := (show Hid _ from hk1); clear hk1
  have hmk := run_makeBools N hN (w.alloc (.cells #[.int .i64 ((N : Nat) : Int), .slice a1 es.length p1, .slice a2 l2 p2, .slice a3 l3 p3] 27))
  have HST := (show Hid (Below (w.heap.size + 1) (w.alloc (.cells #[.int .i64 ((N : Nat) : Int), .slice a1 es.length p1, .slice a2 l2 p2, .slice a3 l3 p3] 27)) ((w.alloc (.cells #[.int .i64 ((N : Nat) : Int), .slice a1 es.length p1, .slice a2 l2 p2, .slice a3 l3 p3] 27)).alloc (.cells (madeCells #[.bool false] N) 4)) ∧ ((w.alloc (.cells #[.int .i64 ((N : Nat) : Int), .slice a1 es.length p1, .slice a2 l2 p2, .slice a3 l3 p3] 27)).alloc (.cells (madeCells #[.bool false] N) 4)).rowIs (w.heap.size + 1) 4 N (fun i => .bool (bhd es A kd 0 ((i : Nat) : Int)))) from ⟨(Below.refl _ _).alloc (by simp) _, by
    have := madeRow N (w.alloc (.cells #[.int .i64 ((N : Nat) : Int), .slice a1 es.length p1, .slice a2 l2 p2, .slice a3 l3 p3] 27))
    simpa [bhd_zero] using this⟩)
  go_enter Try.func81, Try.ntmps81
  go_wp2_with fail
  go_loopw [8] (fun i wr => ∃ (j : Nat), i = .int .i64 j ∧ j ≤ es.length ∧ wr.cell? ⟨w.heap.size, 1, none⟩ = some (.slice a1 es.length p1) ∧ Hid (Below (w.heap.size + 1) (w.alloc (.cells #[.int .i64 ((N : Nat) : Int), .slice a1 es.length p1, .slice a2 l2 p2, .slice a3 l3 p3] 27)) wr ∧ wr.rowIs (w.heap.size + 1) 4 N (fun i => .bool (bhd es A kd j ((i : Nat) : Int))))) (fun i _ => es.length - (intOf i).toNat)
  case atStart => exact ⟨0, rfl, Nat.zero_le _, (HST.out.1.cell (by simp)).trans HK1.out, HST⟩
  case round =>
    obtain ⟨j, rfl, hj, k1, HI⟩ := hrel
    clear HST hmk
    have HB := (show Hid (Below w.heap.size w wr) from HBW.out.trans (HI.out.1.mono (by simp)))
    by_cases hjl : j < es.length
    · obtain ⟨ea, _⟩ := HA.out (by omega)
      have K1 := (show Hid _ from k1)
      rw [ea] at k1
      clear ea
      obtain ⟨c0, c1, c2⟩ := HC.out j hjl
      obtain ⟨s, q, hs, hsN, hq, hqN⟩ := HD.out j hjl
      have cA := HAC.out s hsN
      rw [hs] at c0
      rw [hq] at c1
      rw [← HB.out.cell (lt_of_cell c0)] at c0
      rw [← HB.out.cell (lt_of_cell c1)] at c1
      rw [← HB.out.cell (lt_of_cell c2)] at c2
      rw [← HB.out.cell (lt_of_cell cA)] at cA
      have HDB := (show Hid (∀ y, bhd es A kd (j + 1) y = (bhd es A kd j y || ((es[j].kind == kd && A (s : Int)) && ((q : Int) == y)))) from fun y => by rw [← hs, ← hq]; exact bhd_succ hjl y)
      clear hs hq
      generalize es[j].kind = ek at *
      generalize A (s : Int) = AB at *
      have HNO := (show Hid ((ek == kd && AB) = false → (fun i : Nat => Value.bool (bhd es A kd (j + 1) (i : Int))) = fun i : Nat => Value.bool (bhd es A kd j (i : Int))) from fun h => by
        funext i; rw [HDB.out, h]; simp)
      have HYES := (show Hid ((ek == kd && AB) = true → (wr.setCell ⟨w.heap.size + 1, q, none⟩ (.bool true)).rowIs (w.heap.size + 1) 4 N (fun i => .bool (bhd es A kd (j + 1) ((i : Nat) : Int)))) from fun h => by
        obtain ⟨cs, h1, h2, h3⟩ := World.rowIs.set HI.out.2 q (.bool true)
        refine ⟨cs, h1, h2, fun i hi => ?_⟩
        rw [h3 i hi]
        dsimp only
        rw [HDB.out, h]
        by_cases e : i = q
        · subst e; simp
        · have e2 : ((q : Int) == (i : Int)) = false := by simp; omega
          rw [e2, if_neg e]; simp)
      by_cases he : ek = kd
      case neg =>
        have hk : (ek == kd) = false := by simpa using he
        have HF := (show Hid _ from HNO.out (by rw [hk]; rfl))
        clear he
        go_wp2_with fail
        exact ⟨⟨j + 1, by go_num, by omega, K1.out, by show _ ∧ _; rw [HF.out]; exact HI.out⟩, by simp [intOf]; omega⟩
      case pos =>
        have hk : (ek == kd) = true := by simpa using he
        rw [he] at c2
        cases AB
        case false =>
          have HF := (show Hid _ from HNO.out (by rw [hk]; rfl))
          clear he hk
          go_wp2_with fail
          exact ⟨⟨j + 1, by go_num, by omega, K1.out, by show _ ∧ _; rw [HF.out]; exact HI.out⟩, by simp [intOf]; omega⟩
        case true =>
          have HF := (show Hid _ from HYES.out (by rw [hk]; rfl))
          have hfz : wr.frozen? ⟨w.heap.size + 1, q, none⟩ = false := HI.out.2.frozen q
          have hcq : wr.cell? ⟨w.heap.size + 1, q, none⟩ = some (.bool (bhd es A kd j (q : Int))) := HI.out.2.cell hqN
          have HB2 := (show Hid (Below (w.heap.size + 1) (w.alloc (.cells #[.int .i64 ((N : Nat) : Int), .slice a1 es.length p1, .slice a2 l2 p2, .slice a3 l3 p3] 27)) (wr.setCell ⟨w.heap.size + 1, q, none⟩ (.bool true))) from HI.out.1.setCell (by simp) _)
          have k1' : (wr.setCell ⟨w.heap.size + 1, q, none⟩ (.bool true)).cell? ⟨w.heap.size, 1, none⟩ = some (.slice a1 es.length p1) := (HB2.out.cell (by simp)).trans HK1.out
          have K1' := (show Hid _ from k1'); clear k1' he hk
          go_wp2_with fail
          exact ⟨⟨j + 1, by go_num, by omega, K1'.out, HB2.out, HF.out⟩, by simp [intOf]; omega⟩
    · obtain rfl : j = es.length := by omega
      go_wp2_with fail
      go_ret
      exact ⟨_, rfl, HB.out, HI.out.2, by omega⟩
end Go.Proofs.Ytledclkmeikgdaa
