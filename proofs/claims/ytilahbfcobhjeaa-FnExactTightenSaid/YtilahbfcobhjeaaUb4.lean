import Derived.Test.YtilahbfcobhjeaaUa
/-! A run of a program: what instructions do. -/
namespace Go.Proofs.Ytilahbfcobhjeaa
open Go.RowKit Go.Deep
set_option linter.unusedVariables false
set_option maxRecDepth 100000
set_option linter.unusedSimpArgs false

set_option maxHeartbeats 3200000 in
theorem do_7 {S' : Nat → Prop} (wd : List Int) (q A st : Nat) (x : DIns) (hx : x.op = 7) (f3 : 0 ≤ x.to_) (f5 : hnB x.op = true → 0 ≤ x.n ∧ x.n ≤ 1000) (vl vw vp vt : Value) (r : Rn) (w : World) (h : RunM w q A 78 (iC vl vw r st vp vt) vp vt r) (hw : Ints w S' wd vw) (hwl : wd.length ≤ 200) (p2 : r.place ≤ wd.length) (p3 : r.pile.length ≤ 10000) (p4 : r.told.length ≤ 10000) :
    Calls Try.prog 79 #[.pointer (some ⟨q, 0, none⟩), .agg #[.int .i64 x.op, .int .i64 x.n, .int .i64 x.to_]] w fun e w' => DoA q A vl vw st (dO wd x r) w e w' := by
  obtain ⟨xo, xn, xt⟩ := x
  dsimp only at *
  subst hx
  have hW := hw.still (bel_alloc w (.cells #[.int .i64 7, .int .i64 xn, .int .i64 xt] 57))
  obtain ⟨aw, cw, bw, ow, rfl, hcw, hmw, haw, hcellw⟩ := hW
  have HW := (show Hid _ from hcellw); clear hcellw
  have HAW := (show Hid _ from haw); clear haw
  have h2 := h.still (bel_alloc w (.cells #[.int .i64 7, .int .i64 xn, .int .i64 xt] 57))
  have HK := (show Hid (Kp q A w (w.alloc (.cells #[.int .i64 7, .int .i64 xn, .int .i64 xt] 57))) from (Kp.refl q A w).alloc h.hA (.cells #[.int .i64 7, .int .i64 xn, .int .i64 xt] 57))
  obtain ⟨ap, cp, rfl, hpm, hpl, hpa⟩ := own_form h2.pile
  obtain ⟨at_, ct, rfl, htm, htl, hta⟩ := own_form h2.told
  have H2 := (show Hid (RunM (w.alloc (.cells #[.int .i64 7, .int .i64 xn, .int .i64 xt] 57)) q A 78 (iC vl (.slice aw wd.length cw) r st (.slice ap r.pile.length cp) (.slice at_ r.told.length ct)) (.slice ap r.pile.length cp) (.slice at_ r.told.length ct) r) from h2)
  have hbx := Box.new w 57 [.int .i64 7, .int .i64 xn, .int .i64 xt]
  have hAx : A ≤ (w.alloc (.cells #[.int .i64 7, .int .i64 xn, .int .i64 xt] 57)).heap.size := h2.hA
  have b0 : (w.alloc (.cells #[.int .i64 7, .int .i64 xn, .int .i64 xt] 57)).cell? ⟨w.heap.size, 0, none⟩ = some (.int .i64 7) := hbx.cell 0 (by simp)
  have b1 : (w.alloc (.cells #[.int .i64 7, .int .i64 xn, .int .i64 xt] 57)).cell? ⟨w.heap.size, 1, none⟩ = some (.int .i64 xn) := hbx.cell 1 (by simp)
  have b2 : (w.alloc (.cells #[.int .i64 7, .int .i64 xn, .int .i64 xt] 57)).cell? ⟨w.heap.size, 2, none⟩ = some (.int .i64 xt) := hbx.cell 2 (by simp)
  have k3 := h2.box.cell 3 (by simp)
  have k4 := h2.box.cell 4 (by simp)
  have k5 := h2.box.cell 5 (by simp)
  have k6 := h2.box.cell 6 (by simp)
  have g4 := h2.box.frozen 4
  have g5 := h2.box.frozen 5
  have g6 := h2.box.frozen 6
  simp only [List.getD_cons_zero, List.getD_cons_succ] at k3 k4 k5 k6
  clear h hbx h2 hw
  go_enter Try.func79, Try.ntmps79
  have HP := (show Hid (∀ w1 : World, w1.heap = (w.alloc (.cells #[.int .i64 7, .int .i64 xn, .int .i64 xt] 57)).heap → Calls Try.prog 108 #[.pointer (some ⟨q, 0, none⟩)] w1 fun e w2 => e = .returned (.bool (decide (r.place = wd.length))) ∧ ∃ n, w2 = w1.drewN n) from fun w1 hh => past108 q A st wd _ _ _ _ _ r w1 (RunM.keep H2.out (by rw [hh]; exact Nat.le_refl _) (fun _ _ => by rw [hh])))
  have HQ := (show Hid (∀ (b : Bool) (w1 : World), w1.heap = (w.alloc (.cells #[.int .i64 7, .int .i64 xn, .int .i64 xt] 57)).heap → Calls Try.prog 109 #[.pointer (some ⟨q, 0, none⟩), .bool b, .agg #[.int .i64 7, .int .i64 xn, .int .i64 xt]] w1 fun e w2 => DoA q A vl (.slice aw wd.length cw) st (-1, r.to b ⟨7, xn, xt⟩) w1 e w2) from fun b w1 hh => when109 q A st b ⟨7, xn, xt⟩ _ _ _ _ r w1 (RunM.keep H2.out (by rw [hh]; exact Nat.le_refl _) (fun _ _ => by rw [hh])) f3)
  have HD : Hid (dO wd ⟨7, xn, xt⟩ r = (-1, r.to (decide (r.place = wd.length)) ⟨7, xn, xt⟩)) := rfl
  generalize decide (r.place = wd.length) = D at *
  generalize dO wd ⟨7, xn, xt⟩ r = RES at *
  clear k3 k4 k5 k6 g4 g5 g6 hpa hta hpl htl hpm htm hcw hmw
  go_wp2_with fail
  go_region_with (first | (go_at_call 108; refine Calls.mono (HP.out _ rfl) ?_; rintro e w1 ⟨rfl, n1, rfl⟩) | (go_at_call 109; refine Calls.mono (HQ.out _ _ rfl) ?_; rintro e w5 ⟨rfl, hk1, hr1⟩))
  all_goals
    have HE := (show Hid (Kp q A w w5 ∧ _) from ⟨Kp.trans (by first | exact (HK.out.drew).drewN _ | exact HK.out.drewN _ | exact HK.out.drew) hk1, hr1⟩)
    clear hk1 hr1
    go_wp2_with fail
    go_ret
    rw [HD.out]
    exact ⟨rfl, HE.out.1, HE.out.2⟩
end Go.Proofs.Ytilahbfcobhjeaa
