import Derived.Test.YtilahbfcobhjeaaUa
import Derived.Deep.RegionLaw
/-! A run of a program: what instructions do. -/
namespace Go.Proofs.Ytilahbfcobhjeaa
open Go.RowKit Go.Deep
set_option linter.unusedVariables false
set_option maxRecDepth 100000
set_option linter.unusedSimpArgs false

set_option maxHeartbeats 3200000 in
theorem do_3 {S' : Nat → Prop} (wd : List Int) (q A st : Nat) (x : DIns) (hx : x.op = 3) (f3 : 0 ≤ x.to_) (f5 : hnB x.op = true → 0 ≤ x.n ∧ x.n ≤ 1000) (vl vw vp vt : Value) (r : Rn) (w : World) (h : RunM w q A 78 (iC vl vw r st vp vt) vp vt r) (hw : Ints w S' wd vw) (hwl : wd.length ≤ 200) (p2 : r.place ≤ wd.length) (p3 : r.pile.length ≤ 10000) (p4 : r.told.length ≤ 10000) :
    Calls Try.prog 75 #[.pointer (some ⟨q, 0, none⟩), .agg #[.int .i64 x.op, .int .i64 x.n, .int .i64 x.to_]] w fun e w' => DoA q A vl vw st (dO wd x r) w e w' := by
  obtain ⟨xo, xn, xt⟩ := x
  dsimp only at *
  subst hx
  have hW := hw.still (bel_alloc w (.cells #[.int .i64 3, .int .i64 xn, .int .i64 xt] 57))
  obtain ⟨aw, cw, bw, ow, rfl, hcw, hmw, haw, hcellw⟩ := hW
  have HW := (show Hid _ from hcellw); clear hcellw
  have HAW := (show Hid _ from haw); clear haw
  have h2 := h.still (bel_alloc w (.cells #[.int .i64 3, .int .i64 xn, .int .i64 xt] 57))
  have HK := (show Hid (Kp q A w (w.alloc (.cells #[.int .i64 3, .int .i64 xn, .int .i64 xt] 57))) from (Kp.refl q A w).alloc h.hA (.cells #[.int .i64 3, .int .i64 xn, .int .i64 xt] 57))
  obtain ⟨ap, cp, rfl, hpm, hpl, hpa⟩ := own_form h2.pile
  obtain ⟨at_, ct, rfl, htm, htl, hta⟩ := own_form h2.told
  have H2 := (show Hid (RunM (w.alloc (.cells #[.int .i64 3, .int .i64 xn, .int .i64 xt] 57)) q A 78 (iC vl (.slice aw wd.length cw) r st (.slice ap r.pile.length cp) (.slice at_ r.told.length ct)) (.slice ap r.pile.length cp) (.slice at_ r.told.length ct) r) from h2)
  have hbx := Box.new w 57 [.int .i64 3, .int .i64 xn, .int .i64 xt]
  have hAx : A ≤ (w.alloc (.cells #[.int .i64 3, .int .i64 xn, .int .i64 xt] 57)).heap.size := h2.hA
  have b0 : (w.alloc (.cells #[.int .i64 3, .int .i64 xn, .int .i64 xt] 57)).cell? ⟨w.heap.size, 0, none⟩ = some (.int .i64 3) := hbx.cell 0 (by simp)
  have b1 : (w.alloc (.cells #[.int .i64 3, .int .i64 xn, .int .i64 xt] 57)).cell? ⟨w.heap.size, 1, none⟩ = some (.int .i64 xn) := hbx.cell 1 (by simp)
  have b2 : (w.alloc (.cells #[.int .i64 3, .int .i64 xn, .int .i64 xt] 57)).cell? ⟨w.heap.size, 2, none⟩ = some (.int .i64 xt) := hbx.cell 2 (by simp)
  have k3 := h2.box.cell 3 (by simp)
  have k4 := h2.box.cell 4 (by simp)
  have k5 := h2.box.cell 5 (by simp)
  have k6 := h2.box.cell 6 (by simp)
  have g4 := h2.box.frozen 4
  have g5 := h2.box.frozen 5
  have g6 := h2.box.frozen 6
  simp only [List.getD_cons_zero, List.getD_cons_succ] at k3 k4 k5 k6
  clear h hbx h2 hw
  go_enter Try.func75, Try.ntmps75
  by_cases hpw : r.told.length = 10000
  · have HD : Hid (dO wd ⟨3, xn, xt⟩ r = (3, r)) := if_pos hpw
    have q1 : ((r.told.length : Int) == 10000) = true := by rw [hpw]; rfl
    clear hpw
    go_wp2_with fail
    go_ret
    exact DoA.of HD.out HK.out H2.out
  · have HD : Hid (dO wd ⟨3, xn, xt⟩ r = (-1, ⟨r.pc, r.place, r.pile, r.told ++ [xn]⟩)) := if_neg hpw
    have q1 : ((r.told.length : Int) == 10000) = false := by simp; omega
    obtain ⟨i3, hi3, hzz⟩ := Option.map_eq_some_iff.1 info3p
    simp only [Prod.mk.injEq] at hzz
    obtain ⟨hz0, hz1, hz2⟩ := hzz
    have HA2 := (show Hid (RunM ((w.alloc (.cells #[.int .i64 3, .int .i64 xn, .int .i64 xt] 57)).alloc (.cells #[.int .i64 xn] 3)).drew q A 78 (iC vl (.slice aw wd.length cw) r st (.slice ap r.pile.length cp) (.slice at_ r.told.length ct)) (.slice ap r.pile.length cp) (.slice at_ r.told.length ct) r) from (H2.out.still (bel_alloc _ _)).still ((Below.refl _ _).drew))
    have HNB := (show Hid _ from World.news_of_block (blk_alloc_new (w.alloc (.cells #[.int .i64 3, .int .i64 xn, .int .i64 xt] 57)) (.cells #[.int .i64 xn] 3)))
    clear hwl p2 p3 f3 f5 hcw hmw
    go_wp2_with fail
    generalize (w.alloc (.cells #[.int .i64 3, .int .i64 xn, .int .i64 xt] 57)) = W at *
    generalize w.heap.size = B at *
    have hqW : q < W.heap.size := H2.out.box.lt
    have hBW : B < W.heap.size := lt_of_cell b1
    go_region_law (refine step_append_lies _ rfl (.tmp 15) (.tmp 18) 29 rfl A 3 i3 _ 1 8 Try.underlying29 hi3 hz0 hz1 hz2 rfl (by decide) _ r.told.length (iv r.told) (by simp [Act.eval, Act.put]) HA2.out.told ⟨W.heap.size, 0, none⟩ 1 1 [.int .i64 xn] (by simp [Act.eval, Act.put]) rfl HNB.out (by intro u hu; simp at hu; subst hu; rfl) (by decide) (by unfold maxLen; omega) (by omega) (by simp; omega) _ rfl ?_; intro g3x cap3 w3 hown3 hgr3 hat3 hlt3; have HM3 := HA2.out.tell hgr3 hown3 hat3; have V3 := HM3.box.cell 6 (by simp); have V3f := HM3.box.frozen 6; simp only [List.getD_cons_zero, List.getD_cons_succ] at V3)
    all_goals
      have HF := (show Hid _ from HM3.set 6 (.slice (some ⟨g3x, 0, none⟩) (r.told.length + 1) cap3))
      have HKF := (show Hid (Kp q A w (w3.setCell ⟨q, 6, none⟩ (.slice (some ⟨g3x, 0, none⟩) (r.told.length + 1) cap3))) from (((HK.out.alloc hAx _).drew).grown HA2.out.hA hgr3 (fun b e => (own_lt HA2.out.told e).1)).set 6 _)
      clear V3 V3f HM3 hown3 hgr3 hat3 HA2 HNB
      go_wp2_with fail
      go_ret
      exact DoA.of HD.out HKF.out HF.out
end Go.Proofs.Ytilahbfcobhjeaa
