import Derived.Test.YtilahbfcobhjeaaUa
/-! A run of a program: what instructions do. -/
namespace Go.Proofs.Ytilahbfcobhjeaa
open Go.RowKit Go.Deep
set_option linter.unusedVariables false
set_option maxRecDepth 100000
set_option linter.unusedSimpArgs false

set_option maxHeartbeats 3200000 in
theorem do_1 {S' : Nat → Prop} (wd : List Int) (q A st : Nat) (x : DIns) (hx : x.op = 1) (f3 : 0 ≤ x.to_) (f5 : hnB x.op = true → 0 ≤ x.n ∧ x.n ≤ 1000) (vl vw vp vt : Value) (r : Rn) (w : World) (h : RunM w q A 78 (iC vl vw r st vp vt) vp vt r) (hw : Ints w S' wd vw) (hwl : wd.length ≤ 200) (p2 : r.place ≤ wd.length) (p3 : r.pile.length ≤ 10000) (p4 : r.told.length ≤ 10000) :
    Calls Try.prog 73 #[.pointer (some ⟨q, 0, none⟩), .agg #[.int .i64 x.op, .int .i64 x.n, .int .i64 x.to_]] w fun e w' => DoA q A vl vw st (dO wd x r) w e w' := by
  obtain ⟨xo, xn, xt⟩ := x
  dsimp only at *
  subst hx
  have hW := hw.still (bel_alloc w (.cells #[.int .i64 1, .int .i64 xn, .int .i64 xt] 57))
  obtain ⟨aw, cw, bw, ow, rfl, hcw, hmw, haw, hcellw⟩ := hW
  have HW := (show Hid _ from hcellw); clear hcellw
  have HAW := (show Hid _ from haw); clear haw
  have h2 := h.still (bel_alloc w (.cells #[.int .i64 1, .int .i64 xn, .int .i64 xt] 57))
  have HK := (show Hid (Kp q A w (w.alloc (.cells #[.int .i64 1, .int .i64 xn, .int .i64 xt] 57))) from (Kp.refl q A w).alloc h.hA (.cells #[.int .i64 1, .int .i64 xn, .int .i64 xt] 57))
  obtain ⟨ap, cp, rfl, hpm, hpl, hpa⟩ := own_form h2.pile
  obtain ⟨at_, ct, rfl, htm, htl, hta⟩ := own_form h2.told
  have H2 := (show Hid (RunM (w.alloc (.cells #[.int .i64 1, .int .i64 xn, .int .i64 xt] 57)) q A 78 (iC vl (.slice aw wd.length cw) r st (.slice ap r.pile.length cp) (.slice at_ r.told.length ct)) (.slice ap r.pile.length cp) (.slice at_ r.told.length ct) r) from h2)
  have hbx := Box.new w 57 [.int .i64 1, .int .i64 xn, .int .i64 xt]
  have hAx : A ≤ (w.alloc (.cells #[.int .i64 1, .int .i64 xn, .int .i64 xt] 57)).heap.size := h2.hA
  have b0 : (w.alloc (.cells #[.int .i64 1, .int .i64 xn, .int .i64 xt] 57)).cell? ⟨w.heap.size, 0, none⟩ = some (.int .i64 1) := hbx.cell 0 (by simp)
  have b1 : (w.alloc (.cells #[.int .i64 1, .int .i64 xn, .int .i64 xt] 57)).cell? ⟨w.heap.size, 1, none⟩ = some (.int .i64 xn) := hbx.cell 1 (by simp)
  have b2 : (w.alloc (.cells #[.int .i64 1, .int .i64 xn, .int .i64 xt] 57)).cell? ⟨w.heap.size, 2, none⟩ = some (.int .i64 xt) := hbx.cell 2 (by simp)
  have k3 := h2.box.cell 3 (by simp)
  have k4 := h2.box.cell 4 (by simp)
  have k5 := h2.box.cell 5 (by simp)
  have k6 := h2.box.cell 6 (by simp)
  have g4 := h2.box.frozen 4
  have g5 := h2.box.frozen 5
  have g6 := h2.box.frozen 6
  simp only [List.getD_cons_zero, List.getD_cons_succ] at k3 k4 k5 k6
  clear h hbx h2 hw
  go_enter Try.func73, Try.ntmps73
  by_cases hpw : r.pile.length = 10000
  · have HD : Hid (dO wd ⟨1, xn, xt⟩ r = (3, r)) := if_pos hpw
    have q1 : ((r.pile.length : Int) == 10000) = true := by rw [hpw]; rfl
    clear hpw
    go_wp2_with fail
    go_ret
    exact DoA.of HD.out HK.out H2.out
  · have HD : Hid (dO wd ⟨1, xn, xt⟩ r = (-1, ⟨r.pc, r.place, r.pile ++ [xn], r.told⟩)) := if_neg hpw
    have q1 : ((r.pile.length : Int) == 10000) = false := by simp; omega
    clear hpw
    have HP := (show Hid _ from put107 q A st xn _ _ _ _ r (World.drew (w.alloc (.cells #[.int .i64 1, .int .i64 xn, .int .i64 xt] 57))) (by exact RunM.keep H2.out (by exact Nat.le_refl _) (fun _ _ => rfl)) p3)
    go_wp2_with fail
    go_region_with (go_at_call 107; refine Calls.mono HP.out ?_; rintro e w1 ⟨rfl, hk1, vp1, hr1⟩)
    all_goals
      have HE := (show Hid _ from (⟨(HK.out.drew).trans hk1, hr1⟩ : _ ∧ _)); clear hk1 hr1
      go_wp2_with fail
      go_ret
      exact DoA.of HD.out HE.out.1 HE.out.2
set_option maxHeartbeats 3200000 in
theorem do_2 {S' : Nat → Prop} (wd : List Int) (q A st : Nat) (x : DIns) (hx : x.op = 2) (f3 : 0 ≤ x.to_) (f5 : hnB x.op = true → 0 ≤ x.n ∧ x.n ≤ 1000) (vl vw vp vt : Value) (r : Rn) (w : World) (h : RunM w q A 78 (iC vl vw r st vp vt) vp vt r) (hw : Ints w S' wd vw) (hwl : wd.length ≤ 200) (p2 : r.place ≤ wd.length) (p3 : r.pile.length ≤ 10000) (p4 : r.told.length ≤ 10000) :
    Calls Try.prog 74 #[.pointer (some ⟨q, 0, none⟩), .agg #[.int .i64 x.op, .int .i64 x.n, .int .i64 x.to_]] w fun e w' => DoA q A vl vw st (dO wd x r) w e w' := by
  obtain ⟨xo, xn, xt⟩ := x
  dsimp only at *
  subst hx
  have hW := hw.still (bel_alloc w (.cells #[.int .i64 2, .int .i64 xn, .int .i64 xt] 57))
  obtain ⟨aw, cw, bw, ow, rfl, hcw, hmw, haw, hcellw⟩ := hW
  have HW := (show Hid _ from hcellw); clear hcellw
  have HAW := (show Hid _ from haw); clear haw
  have h2 := h.still (bel_alloc w (.cells #[.int .i64 2, .int .i64 xn, .int .i64 xt] 57))
  have HK := (show Hid (Kp q A w (w.alloc (.cells #[.int .i64 2, .int .i64 xn, .int .i64 xt] 57))) from (Kp.refl q A w).alloc h.hA (.cells #[.int .i64 2, .int .i64 xn, .int .i64 xt] 57))
  obtain ⟨ap, cp, rfl, hpm, hpl, hpa⟩ := own_form h2.pile
  obtain ⟨at_, ct, rfl, htm, htl, hta⟩ := own_form h2.told
  have H2 := (show Hid (RunM (w.alloc (.cells #[.int .i64 2, .int .i64 xn, .int .i64 xt] 57)) q A 78 (iC vl (.slice aw wd.length cw) r st (.slice ap r.pile.length cp) (.slice at_ r.told.length ct)) (.slice ap r.pile.length cp) (.slice at_ r.told.length ct) r) from h2)
  have hbx := Box.new w 57 [.int .i64 2, .int .i64 xn, .int .i64 xt]
  have hAx : A ≤ (w.alloc (.cells #[.int .i64 2, .int .i64 xn, .int .i64 xt] 57)).heap.size := h2.hA
  have b0 : (w.alloc (.cells #[.int .i64 2, .int .i64 xn, .int .i64 xt] 57)).cell? ⟨w.heap.size, 0, none⟩ = some (.int .i64 2) := hbx.cell 0 (by simp)
  have b1 : (w.alloc (.cells #[.int .i64 2, .int .i64 xn, .int .i64 xt] 57)).cell? ⟨w.heap.size, 1, none⟩ = some (.int .i64 xn) := hbx.cell 1 (by simp)
  have b2 : (w.alloc (.cells #[.int .i64 2, .int .i64 xn, .int .i64 xt] 57)).cell? ⟨w.heap.size, 2, none⟩ = some (.int .i64 xt) := hbx.cell 2 (by simp)
  have k3 := h2.box.cell 3 (by simp)
  have k4 := h2.box.cell 4 (by simp)
  have k5 := h2.box.cell 5 (by simp)
  have k6 := h2.box.cell 6 (by simp)
  have g4 := h2.box.frozen 4
  have g5 := h2.box.frozen 5
  have g6 := h2.box.frozen 6
  simp only [List.getD_cons_zero, List.getD_cons_succ] at k3 k4 k5 k6
  clear h hbx h2 hw
  go_enter Try.func74, Try.ntmps74
  by_cases hpw : (r.pile.length : Int) ≤ xn
  · have HD : Hid (dO wd ⟨2, xn, xt⟩ r = (4, r)) := if_pos hpw
    have hx0 := f5 (by decide)
    have kw : IntKind.i64.wrap ((r.pile.length : Int) - xn) = (r.pile.length : Int) - xn := by simp [IntKind.wrap, IntKind.bits, IntKind.signed]; omega
    have q1 : (r.pile.length : Int) - xn < 1 := by omega
    go_wp2_with fail
    go_quiet (fail)
    go_wp2_with fail
    go_ret
    exact DoA.of HD.out (HK.out.drewN _) (by exact RunM.keep H2.out (by exact Nat.le_refl _) (fun _ _ => rfl))
  · have hx0 := f5 (by decide)
    obtain ⟨m, rfl⟩ : ∃ m : Nat, xn = m := ⟨xn.toNat, by omega⟩
    have HD : Hid (dO wd ⟨2, m, xt⟩ r = (-1, ⟨r.pc, r.place, r.pile.take (r.pile.length - m), r.told⟩)) := if_neg hpw
    obtain ⟨g, rfl⟩ := hpa (by omega)
    have kw : IntKind.i64.wrap ((r.pile.length : Int) - (m : Int)) = ((r.pile.length - m : Nat) : Int) := by simp [IntKind.wrap, IntKind.bits, IntKind.signed]; omega
    have q1 : ¬ ((r.pile.length - m : Nat) : Int) < 1 := by omega
    have hmm : r.pile.length - m ≤ cp := by omega
    unfold maxLen at hpm
    have HZ := (show Hid _ from (H2.out.drop (m := r.pile.length - m) (by omega)).set 5 (.slice (some ⟨g, 0, none⟩) (r.pile.length - m) cp))
    go_wp2_with fail
    go_quiet (fail)
    go_wp2_with fail
    go_ret
    exact DoA.of HD.out ((HK.out.drewN _).set 5 _) (by exact RunM.keep HZ.out (by exact Nat.le_refl _) (fun _ _ => rfl))
end Go.Proofs.Ytilahbfcobhjeaa
