import Derived.Test.YtanbdfeoijflaaaDoorPd
/-! Programs that are right: the closure. -/
namespace Go.Proofs.YtanbdfeoijflaaaDoor
open Go.RowKit Go.Deep
set_option linter.unusedVariables false
set_option maxRecDepth 100000
set_option linter.unusedSimpArgs false

/-- What the closure leads to: the rows, and the program's box. -/
structure CQ (w : World) (g p n : Nat) (v : Value) : Prop where
  tb : TbL w g
  bx : w.cell? ⟨p, 0, none⟩ = some v
  ln : ∃ a c, v = .slice a n c
  few : n ≤ 50000
theorem CQ.still {w w' : World} {g p n : Nat} {v : Value} (h : CQ w g p n v) (hb : Below w.heap.size w w') : CQ w' g p n v := ⟨h.tb.still hb, (hb.cell (lt_of_cell h.bx)).trans h.bx, h.ln, h.few⟩
theorem inB_op {n : Nat} {x : DIns} (h : ¬ (1 ≤ x.op ∧ x.op ≤ 10)) : inB n x = false := by
  unfold inB
  rw [show btB x.op 1 10 = false from by
    unfold btB
    by_cases h1 : 1 ≤ x.op
    · rw [decide_eq_false (p := x.op ≤ 10) (by omega)]; simp
    · rw [decide_eq_false h1]; rfl]
  rfl
theorem inB_at {n : Nat} {x : DIns} (h : 1 ≤ x.op ∧ x.op ≤ 10) : inB n x = (btB x.to_ 0 (mxT x.op n) && nnB x) := by
  unfold inB
  rw [show btB x.op 1 10 = true from by unfold btB; rw [decide_eq_true h.1, decide_eq_true h.2]; rfl]
  rfl
set_option maxHeartbeats 3200000 in
theorem right37 (x : DIns) (g p n : Nat) (v : Value) (w : World) (h : CQ w g p n v) :
    Calls Tryd.prog 31 #[.agg #[.int .i64 x.op, .int .i64 x.n, .int .i64 x.to_], .pointer (some ⟨g, 0, none⟩), .pointer (some ⟨p, 0, none⟩)] w fun e w' => e = .returned (.bool (inB n x)) ∧ Below w.heap.size w w' := by
  have hb0 := bel_alloc w (.cells #[.int .i64 x.op, .int .i64 x.n, .int .i64 x.to_] 38)
  have HD := (show Hid _ from hb0.drew)
  have h2 := (h.still hb0).still ((Below.refl _ _).drew)
  by_cases hop : 1 ≤ x.op ∧ x.op ≤ 10
  case neg =>
    rw [inB_op hop]
    generalize x.op = xo at *
    clear h h2 hb0
    by_cases h1 : 1 ≤ xo
    · have k1 : decide (1 ≤ xo) = true := decide_eq_true h1
      have k2 : decide (xo ≤ 10) = false := decide_eq_false (by omega)
      clear hop
      go_enter Tryd.func31, Tryd.ntmps31
      go_wp2_with fail
      go_quiet (fail)
      go_wp2_with fail
      go_ret
      exact ⟨rfl, bel_drewN (bel_alloc _ _) _⟩
    · have k1 : decide (1 ≤ xo) = false := decide_eq_false h1
      clear hop
      go_enter Tryd.func31, Tryd.ntmps31
      go_wp2_with fail
      go_quiet (fail)
      go_wp2_with fail
      go_ret
      exact ⟨rfl, bel_drewN (bel_alloc _ _) _⟩
  rw [inB_at hop]
  obtain ⟨k, hk⟩ : ∃ k : Nat, x.op = k := ⟨x.op.toNat, by omega⟩
  obtain ⟨ho1, ho2⟩ := hop
  have hk1 : k ≤ 10 := by omega
  obtain ⟨r0, r1, r2, r3, r4⟩ := h2.tb.row k hk1
  have bx := h2.bx
  obtain ⟨a, c, rfl⟩ := h2.ln
  have HAL := (show Hid _ from fun (w' : World) => allows38 (rwS k) (rwD k) (!gsB k) x k n hk h2.few w')
  clear h2 h hb0
  generalize (btB x.to_ 0 (mxT x.op n) && nnB x) = R at *
  obtain ⟨xo, xn, xt⟩ := x
  dsimp only at *
  subst hk
  have k1 : decide ((1 : Int) ≤ k) = true := decide_eq_true ho1
  have k2 : decide ((k : Int) ≤ 10) = true := decide_eq_true ho2
  have k3 : (k : Int) < 11 := by omega
  generalize rwN k = vn at *
  generalize rwD k = vd at *
  generalize rwS k = vs at *
  generalize htB k = vh at *
  generalize (!gsB k) = vm at *
  go_enter Tryd.func31, Tryd.ntmps31
  go_wp2_with fail
  go_region_with (go_at_call 32; refine Calls.mono (HAL.out _) ?_; rintro e w1 ⟨rfl, hb1⟩)
  all_goals
    have hbw := bel_trans HD.out hb1
    clear r0 r1 r2 r3 r4 bx
    go_wp2_with fail
    go_ret
    exact ⟨rfl, hbw⟩
end Go.Proofs.YtanbdfeoijflaaaDoor
