import Derived.Test.YtilahbfcobhjeaaUa
/-! A run of a program: what instructions do. -/
namespace Go.Proofs.Ytilahbfcobhjeaa
open Go.RowKit Go.Deep
set_option linter.unusedVariables false
set_option maxRecDepth 100000
set_option linter.unusedSimpArgs false

set_option maxHeartbeats 3200000 in
theorem do_9 {S' : Nat → Prop} (wd : List Int) (q A st : Nat) (x : DIns) (hx : x.op = 9) (f3 : 0 ≤ x.to_) (f5 : hnB x.op = true → 0 ≤ x.n ∧ x.n ≤ 1000) (vl vw vp vt : Value) (r : Rn) (w : World) (h : RunM w q A 78 (iC vl vw r st vp vt) vp vt r) (hw : Ints w S' wd vw) (hwl : wd.length ≤ 200) (p2 : r.place ≤ wd.length) (p3 : r.pile.length ≤ 10000) (p4 : r.told.length ≤ 10000) :
    Calls Try.prog 81 #[.pointer (some ⟨q, 0, none⟩), .agg #[.int .i64 x.op, .int .i64 x.n, .int .i64 x.to_]] w fun e w' => DoA q A vl vw st (dO wd x r) w e w' := by
  obtain ⟨xo, xn, xt⟩ := x
  dsimp only at *
  subst hx
  have hW := hw.still (bel_alloc w (.cells #[.int .i64 9, .int .i64 xn, .int .i64 xt] 57))
  obtain ⟨aw, cw, bw, ow, rfl, hcw, hmw, haw, hcellw⟩ := hW
  have HW := (show Hid _ from hcellw); clear hcellw
  have HAW := (show Hid _ from haw); clear haw
  have h2 := h.still (bel_alloc w (.cells #[.int .i64 9, .int .i64 xn, .int .i64 xt] 57))
  have HK := (show Hid (Kp q A w (w.alloc (.cells #[.int .i64 9, .int .i64 xn, .int .i64 xt] 57))) from (Kp.refl q A w).alloc h.hA (.cells #[.int .i64 9, .int .i64 xn, .int .i64 xt] 57))
  obtain ⟨ap, cp, rfl, hpm, hpl, hpa⟩ := own_form h2.pile
  obtain ⟨at_, ct, rfl, htm, htl, hta⟩ := own_form h2.told
  have H2 := (show Hid (RunM (w.alloc (.cells #[.int .i64 9, .int .i64 xn, .int .i64 xt] 57)) q A 78 (iC vl (.slice aw wd.length cw) r st (.slice ap r.pile.length cp) (.slice at_ r.told.length ct)) (.slice ap r.pile.length cp) (.slice at_ r.told.length ct) r) from h2)
  have hbx := Box.new w 57 [.int .i64 9, .int .i64 xn, .int .i64 xt]
  have hAx : A ≤ (w.alloc (.cells #[.int .i64 9, .int .i64 xn, .int .i64 xt] 57)).heap.size := h2.hA
  have b0 : (w.alloc (.cells #[.int .i64 9, .int .i64 xn, .int .i64 xt] 57)).cell? ⟨w.heap.size, 0, none⟩ = some (.int .i64 9) := hbx.cell 0 (by simp)
  have b1 : (w.alloc (.cells #[.int .i64 9, .int .i64 xn, .int .i64 xt] 57)).cell? ⟨w.heap.size, 1, none⟩ = some (.int .i64 xn) := hbx.cell 1 (by simp)
  have b2 : (w.alloc (.cells #[.int .i64 9, .int .i64 xn, .int .i64 xt] 57)).cell? ⟨w.heap.size, 2, none⟩ = some (.int .i64 xt) := hbx.cell 2 (by simp)
  have k3 := h2.box.cell 3 (by simp)
  have k4 := h2.box.cell 4 (by simp)
  have k5 := h2.box.cell 5 (by simp)
  have k6 := h2.box.cell 6 (by simp)
  have g4 := h2.box.frozen 4
  have g5 := h2.box.frozen 5
  have g6 := h2.box.frozen 6
  simp only [List.getD_cons_zero, List.getD_cons_succ] at k3 k4 k5 k6
  clear h hbx h2 hw
  go_enter Try.func81, Try.ntmps81
  go_wp2_with fail
  go_ret
  exact DoA.of rfl HK.out H2.out
set_option maxHeartbeats 3200000 in
theorem do_10 {S' : Nat → Prop} (wd : List Int) (q A st : Nat) (x : DIns) (hx : x.op = 10) (f3 : 0 ≤ x.to_) (f5 : hnB x.op = true → 0 ≤ x.n ∧ x.n ≤ 1000) (vl vw vp vt : Value) (r : Rn) (w : World) (h : RunM w q A 78 (iC vl vw r st vp vt) vp vt r) (hw : Ints w S' wd vw) (hwl : wd.length ≤ 200) (p2 : r.place ≤ wd.length) (p3 : r.pile.length ≤ 10000) (p4 : r.told.length ≤ 10000) :
    Calls Try.prog 83 #[.pointer (some ⟨q, 0, none⟩), .agg #[.int .i64 x.op, .int .i64 x.n, .int .i64 x.to_]] w fun e w' => DoA q A vl vw st (dO wd x r) w e w' := by
  obtain ⟨xo, xn, xt⟩ := x
  dsimp only at *
  subst hx
  have hW := hw.still (bel_alloc w (.cells #[.int .i64 10, .int .i64 xn, .int .i64 xt] 57))
  obtain ⟨aw, cw, bw, ow, rfl, hcw, hmw, haw, hcellw⟩ := hW
  have HW := (show Hid _ from hcellw); clear hcellw
  have HAW := (show Hid _ from haw); clear haw
  have h2 := h.still (bel_alloc w (.cells #[.int .i64 10, .int .i64 xn, .int .i64 xt] 57))
  have HK := (show Hid (Kp q A w (w.alloc (.cells #[.int .i64 10, .int .i64 xn, .int .i64 xt] 57))) from (Kp.refl q A w).alloc h.hA (.cells #[.int .i64 10, .int .i64 xn, .int .i64 xt] 57))
  obtain ⟨ap, cp, rfl, hpm, hpl, hpa⟩ := own_form h2.pile
  obtain ⟨at_, ct, rfl, htm, htl, hta⟩ := own_form h2.told
  have H2 := (show Hid (RunM (w.alloc (.cells #[.int .i64 10, .int .i64 xn, .int .i64 xt] 57)) q A 78 (iC vl (.slice aw wd.length cw) r st (.slice ap r.pile.length cp) (.slice at_ r.told.length ct)) (.slice ap r.pile.length cp) (.slice at_ r.told.length ct) r) from h2)
  have hbx := Box.new w 57 [.int .i64 10, .int .i64 xn, .int .i64 xt]
  have hAx : A ≤ (w.alloc (.cells #[.int .i64 10, .int .i64 xn, .int .i64 xt] 57)).heap.size := h2.hA
  have b0 : (w.alloc (.cells #[.int .i64 10, .int .i64 xn, .int .i64 xt] 57)).cell? ⟨w.heap.size, 0, none⟩ = some (.int .i64 10) := hbx.cell 0 (by simp)
  have b1 : (w.alloc (.cells #[.int .i64 10, .int .i64 xn, .int .i64 xt] 57)).cell? ⟨w.heap.size, 1, none⟩ = some (.int .i64 xn) := hbx.cell 1 (by simp)
  have b2 : (w.alloc (.cells #[.int .i64 10, .int .i64 xn, .int .i64 xt] 57)).cell? ⟨w.heap.size, 2, none⟩ = some (.int .i64 xt) := hbx.cell 2 (by simp)
  have k3 := h2.box.cell 3 (by simp)
  have k4 := h2.box.cell 4 (by simp)
  have k5 := h2.box.cell 5 (by simp)
  have k6 := h2.box.cell 6 (by simp)
  have g4 := h2.box.frozen 4
  have g5 := h2.box.frozen 5
  have g6 := h2.box.frozen 6
  simp only [List.getD_cons_zero, List.getD_cons_succ] at k3 k4 k5 k6
  clear h hbx h2 hw
  go_enter Try.func83, Try.ntmps83
  go_wp2_with fail
  go_ret
  exact DoA.of rfl HK.out H2.out
set_option maxHeartbeats 3200000 in
theorem do_5 {S' : Nat → Prop} (wd : List Int) (q A st : Nat) (x : DIns) (hx : x.op = 5) (f3 : 0 ≤ x.to_) (f5 : hnB x.op = true → 0 ≤ x.n ∧ x.n ≤ 1000) (vl vw vp vt : Value) (r : Rn) (w : World) (h : RunM w q A 78 (iC vl vw r st vp vt) vp vt r) (hw : Ints w S' wd vw) (hwl : wd.length ≤ 200) (p2 : r.place ≤ wd.length) (p3 : r.pile.length ≤ 10000) (p4 : r.told.length ≤ 10000) :
    Calls Try.prog 77 #[.pointer (some ⟨q, 0, none⟩), .agg #[.int .i64 x.op, .int .i64 x.n, .int .i64 x.to_]] w fun e w' => DoA q A vl vw st (dO wd x r) w e w' := by
  obtain ⟨xo, xn, xt⟩ := x
  dsimp only at *
  subst hx
  have hW := hw.still (bel_alloc w (.cells #[.int .i64 5, .int .i64 xn, .int .i64 xt] 57))
  obtain ⟨aw, cw, bw, ow, rfl, hcw, hmw, haw, hcellw⟩ := hW
  have HW := (show Hid _ from hcellw); clear hcellw
  have HAW := (show Hid _ from haw); clear haw
  have h2 := h.still (bel_alloc w (.cells #[.int .i64 5, .int .i64 xn, .int .i64 xt] 57))
  have HK := (show Hid (Kp q A w (w.alloc (.cells #[.int .i64 5, .int .i64 xn, .int .i64 xt] 57))) from (Kp.refl q A w).alloc h.hA (.cells #[.int .i64 5, .int .i64 xn, .int .i64 xt] 57))
  obtain ⟨ap, cp, rfl, hpm, hpl, hpa⟩ := own_form h2.pile
  obtain ⟨at_, ct, rfl, htm, htl, hta⟩ := own_form h2.told
  have H2 := (show Hid (RunM (w.alloc (.cells #[.int .i64 5, .int .i64 xn, .int .i64 xt] 57)) q A 78 (iC vl (.slice aw wd.length cw) r st (.slice ap r.pile.length cp) (.slice at_ r.told.length ct)) (.slice ap r.pile.length cp) (.slice at_ r.told.length ct) r) from h2)
  have hbx := Box.new w 57 [.int .i64 5, .int .i64 xn, .int .i64 xt]
  have hAx : A ≤ (w.alloc (.cells #[.int .i64 5, .int .i64 xn, .int .i64 xt] 57)).heap.size := h2.hA
  have b0 : (w.alloc (.cells #[.int .i64 5, .int .i64 xn, .int .i64 xt] 57)).cell? ⟨w.heap.size, 0, none⟩ = some (.int .i64 5) := hbx.cell 0 (by simp)
  have b1 : (w.alloc (.cells #[.int .i64 5, .int .i64 xn, .int .i64 xt] 57)).cell? ⟨w.heap.size, 1, none⟩ = some (.int .i64 xn) := hbx.cell 1 (by simp)
  have b2 : (w.alloc (.cells #[.int .i64 5, .int .i64 xn, .int .i64 xt] 57)).cell? ⟨w.heap.size, 2, none⟩ = some (.int .i64 xt) := hbx.cell 2 (by simp)
  have k3 := h2.box.cell 3 (by simp)
  have k4 := h2.box.cell 4 (by simp)
  have k5 := h2.box.cell 5 (by simp)
  have k6 := h2.box.cell 6 (by simp)
  have g4 := h2.box.frozen 4
  have g5 := h2.box.frozen 5
  have g6 := h2.box.frozen 6
  simp only [List.getD_cons_zero, List.getD_cons_succ] at k3 k4 k5 k6
  clear h hbx h2 hw
  go_enter Try.func77, Try.ntmps77
  go_wp2_with fail
  refine Calls.mono (when109 q A st true ⟨5, xn, xt⟩ _ _ _ _ r _ H2.out f3) ?_
  rintro e w1 ⟨rfl, hk1, hr1⟩
  have HE := (show Hid _ from (⟨HK.out.trans hk1, hr1⟩ : _ ∧ _)); clear hk1 hr1
  go_wp2_with fail
  go_ret
  exact ⟨rfl, HE.out.1, HE.out.2⟩
set_option maxHeartbeats 3200000 in
theorem do_4 {S' : Nat → Prop} (wd : List Int) (q A st : Nat) (x : DIns) (hx : x.op = 4) (f3 : 0 ≤ x.to_) (f5 : hnB x.op = true → 0 ≤ x.n ∧ x.n ≤ 1000) (vl vw vp vt : Value) (r : Rn) (w : World) (h : RunM w q A 78 (iC vl vw r st vp vt) vp vt r) (hw : Ints w S' wd vw) (hwl : wd.length ≤ 200) (p2 : r.place ≤ wd.length) (p3 : r.pile.length ≤ 10000) (p4 : r.told.length ≤ 10000) :
    Calls Try.prog 76 #[.pointer (some ⟨q, 0, none⟩), .agg #[.int .i64 x.op, .int .i64 x.n, .int .i64 x.to_]] w fun e w' => DoA q A vl vw st (dO wd x r) w e w' := by
  obtain ⟨xo, xn, xt⟩ := x
  dsimp only at *
  subst hx
  have hW := hw.still (bel_alloc w (.cells #[.int .i64 4, .int .i64 xn, .int .i64 xt] 57))
  obtain ⟨aw, cw, bw, ow, rfl, hcw, hmw, haw, hcellw⟩ := hW
  have HW := (show Hid _ from hcellw); clear hcellw
  have HAW := (show Hid _ from haw); clear haw
  have h2 := h.still (bel_alloc w (.cells #[.int .i64 4, .int .i64 xn, .int .i64 xt] 57))
  have HK := (show Hid (Kp q A w (w.alloc (.cells #[.int .i64 4, .int .i64 xn, .int .i64 xt] 57))) from (Kp.refl q A w).alloc h.hA (.cells #[.int .i64 4, .int .i64 xn, .int .i64 xt] 57))
  obtain ⟨ap, cp, rfl, hpm, hpl, hpa⟩ := own_form h2.pile
  obtain ⟨at_, ct, rfl, htm, htl, hta⟩ := own_form h2.told
  have H2 := (show Hid (RunM (w.alloc (.cells #[.int .i64 4, .int .i64 xn, .int .i64 xt] 57)) q A 78 (iC vl (.slice aw wd.length cw) r st (.slice ap r.pile.length cp) (.slice at_ r.told.length ct)) (.slice ap r.pile.length cp) (.slice at_ r.told.length ct) r) from h2)
  have hbx := Box.new w 57 [.int .i64 4, .int .i64 xn, .int .i64 xt]
  have hAx : A ≤ (w.alloc (.cells #[.int .i64 4, .int .i64 xn, .int .i64 xt] 57)).heap.size := h2.hA
  have b0 : (w.alloc (.cells #[.int .i64 4, .int .i64 xn, .int .i64 xt] 57)).cell? ⟨w.heap.size, 0, none⟩ = some (.int .i64 4) := hbx.cell 0 (by simp)
  have b1 : (w.alloc (.cells #[.int .i64 4, .int .i64 xn, .int .i64 xt] 57)).cell? ⟨w.heap.size, 1, none⟩ = some (.int .i64 xn) := hbx.cell 1 (by simp)
  have b2 : (w.alloc (.cells #[.int .i64 4, .int .i64 xn, .int .i64 xt] 57)).cell? ⟨w.heap.size, 2, none⟩ = some (.int .i64 xt) := hbx.cell 2 (by simp)
  have k3 := h2.box.cell 3 (by simp)
  have k4 := h2.box.cell 4 (by simp)
  have k5 := h2.box.cell 5 (by simp)
  have k6 := h2.box.cell 6 (by simp)
  have g4 := h2.box.frozen 4
  have g5 := h2.box.frozen 5
  have g6 := h2.box.frozen 6
  simp only [List.getD_cons_zero, List.getD_cons_succ] at k3 k4 k5 k6
  clear h hbx h2 hw
  go_enter Try.func76, Try.ntmps76
  by_cases hpw : r.place = wd.length
  · have HD : Hid (dO wd ⟨4, xn, xt⟩ r = (2, r)) := if_pos hpw
    have HP := (show Hid _ from past108 q A st wd _ _ _ _ _ r _ H2.out)
    rw [decide_eq_true hpw] at HP
    clear hpw
    go_wp2_with fail
    refine Calls.mono HP.out ?_
    rintro e w1 ⟨rfl, n, rfl⟩
    go_wp2_with fail
    go_ret
    exact DoA.of HD.out (HK.out.drewN _) (by exact RunM.keep H2.out (by exact Nat.le_refl _) (fun _ _ => rfl))
  · have HD : Hid (dO wd ⟨4, xn, xt⟩ r = (-1, ⟨r.pc, r.place + 1, r.pile, r.told⟩)) := if_neg hpw
    have HP := (show Hid _ from past108 q A st wd _ _ _ _ _ r _ H2.out)
    have kw : IntKind.i64.wrap ((r.place : Int) + 1) = (r.place : Int) + 1 := by simp [IntKind.wrap, IntKind.bits, IntKind.signed]; omega
    rw [decide_eq_false hpw] at HP
    clear hpw
    have HZ := (show Hid _ from (H2.out.set 4 (.int .i64 ((r.place : Int) + 1))).turn (r' := ⟨r.pc, r.place + 1, r.pile, r.told⟩) rfl rfl)
    go_wp2_with fail
    refine Calls.mono HP.out ?_
    rintro e w1 ⟨rfl, n, rfl⟩
    go_wp2_with fail
    go_ret
    exact DoA.of HD.out ((HK.out.drewN _).set 4 _) (by exact RunM.keep HZ.out (by exact Nat.le_refl _) (fun _ _ => rfl))
end Go.Proofs.Ytilahbfcobhjeaa
