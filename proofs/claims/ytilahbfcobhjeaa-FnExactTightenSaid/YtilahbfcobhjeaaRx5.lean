import Derived.Test.YtilahbfcobhjeaaRc
import Derived.Deep.RegionLaw
/-! A run of a program: steps of the specification. -/
namespace Go.Proofs.Ytilahbfcobhjeaa
open Go.RowKit Go.Deep
set_option linter.unusedVariables false
set_option maxRecDepth 100000
set_option linter.unusedSimpArgs false

set_option maxHeartbeats 3200000 in
theorem step42_3 {S S' : Nat → Prop} (l : List DIns) (wd : List Int) (q A : Nat) (vl vw vp vt : Value) (r : Rn) (w : World) (h : RunM w q A 73 (sC vl vw r vp vt 0 false) vp vt r) (hl : InsR w S l vl) (hw : Ints w S' wd vw) (hS : ∀ b, S' b → b < A ∧ b ≠ q) (hwl : wd.length ≤ 200) (hp : pgB l = true) (ho : r.Ok l wd) (hk : (l[r.pc]'ho.pc).op = 3) :
    Calls Try.prog 42 #[.pointer (some ⟨q, 0, none⟩)] w fun e w' => StA q A vl vw (dO wd (insAt l r.pc) r.nx) w e w' := by
  rw [insAt_at ho.pc]
  obtain ⟨hin, hlen, hgo⟩ := pg_at hp ho.pc
  obtain ⟨fa, fb, f3, f4, f5, f6⟩ := in_facts hin
  clear fa fb
  obtain ⟨p1, p2, p3, p4⟩ := ho
  rw [hk] at f4 f5 f6
  clear hgo
  obtain ⟨a, cap, b, off, rfl, hc, hm, ha, hcell⟩ := hl
  obtain ⟨rfl, _⟩ := ha (by omega)
  obtain ⟨c0, c1, c2⟩ := hcell r.pc p1
  clear hcell ha hin hp
  obtain ⟨aw, cw, rfl, hmw⟩ := hw.form
  have HX : Hid (dO wd l[r.pc] r.nx = dO wd ⟨3, l[r.pc].n, l[r.pc].to_⟩ r.nx) := by
    show dO wd l[r.pc] r.nx = _
    rw [← hk]
  generalize dO wd l[r.pc] r.nx = RES at *
  rw [hk] at c0
  generalize l[r.pc].n = xn at *
  generalize l[r.pc].to_ = xt at *
  clear hk
  have k0 := h.box.cell 0 (by simp)
  have k2 := h.box.cell 2 (by simp)
  have g2 := h.box.frozen 2
  simp only [List.getD_cons_zero, List.getD_cons_succ] at k0 k2
  have hrt := h.hA
  have hqA := h.hq
  have hqs := h.box.lt
  have hbs : b < w.heap.size := lt_of_cell c0
  have kw : IntKind.i64.wrap ((r.pc : Int) + 1) = (r.pc : Int) + 1 := by simp [IntKind.wrap, IntKind.bits, IntKind.signed]; omega
  have H1 := (show Hid (RunM (w.alloc (.cells #[.int .i64 3, .int .i64 xn, .int .i64 xt] 57)).drew q A 73 (sC (.slice (some ⟨b, off, none⟩) l.length cap) (.slice aw wd.length cw) r vp vt 0 false) vp vt r) from ((h.still (bel_alloc w (.cells #[.int .i64 3, .int .i64 xn, .int .i64 xt] 57))).still ((Below.refl _ _).drew)))
  have HK := (show Hid (Kp q A w (w.alloc (.cells #[.int .i64 3, .int .i64 xn, .int .i64 xt] 57)).drew) from (((Kp.refl q A w).alloc hrt _).drew))
  have HBX := (show Hid (Box (w.alloc (.cells #[.int .i64 3, .int .i64 xn, .int .i64 xt] 57)).drew w.heap.size 57 [.int .i64 3, .int .i64 xn, .int .i64 xt]) from Box.keep (Box.new w 57 [.int .i64 3, .int .i64 xn, .int .i64 xt]) rfl)
  have HWD := (show Hid (Ints w S' wd (.slice aw wd.length cw)) from hw); clear hw
  have HS := (show Hid _ from hS); clear hS
  go_enter Try.func42, Try.ntmps42
  go_wp2_with fail
  go_cut [2] from 4 to 13 (fun v wx => ∃ B : Nat, v = .pointer (some ⟨B, 0, none⟩) ∧ B ≠ q ∧ Hid (RunM wx q A 73 (sC (.slice (some ⟨b, off, none⟩) l.length cap) (.slice aw wd.length cw) r vp vt 0 false) vp vt r ∧ Kp q A w wx ∧ Box wx B 57 [.int .i64 3, .int .i64 xn, .int .i64 xt]))
  case first =>
    go_region
    all_goals
      go_wp2_with fail
      go_meet
      exact ⟨w.heap.size, rfl, by omega, H1.out, HK.out, HBX.out⟩
  case rest =>
    obtain ⟨B, rfl, hBq, H9⟩ := hcut
    obtain ⟨wy, rfl⟩ : ∃ wy, wy = wc := ⟨_, rfl⟩
    clear c0 c1 c2 k0 k2 g2 H1 HK HBX hbs hc hm h
    have k2 := H9.out.1.box.cell 2 (by simp)
    have g2 := H9.out.1.box.frozen 2
    simp only [List.getD_cons_zero, List.getD_cons_succ] at k2
    apply_assumption
    (apply wp_seq_k; intro _ _)
    go_cut [2] from 14 to 20 (fun v wx => v = .pointer (some ⟨B, 0, none⟩) ∧ Hid (RunM wx q A 73 (sC (.slice (some ⟨b, off, none⟩) l.length cap) (.slice aw wd.length cw) r.nx vp vt 0 false) vp vt r.nx ∧ Kp q A w wx ∧ Box wx B 57 [.int .i64 3, .int .i64 xn, .int .i64 xt]))
    case first =>
      go_wp2_with fail
      go_meet
      exact ⟨rfl, (H9.out.1.set 2 (.int .i64 ((r.pc : Int) + 1))).turn rfl rfl, H9.out.2.1.set 2 _, H9.out.2.2.past hBq⟩
    obtain ⟨rfl, H0⟩ := hcut
    obtain ⟨wx, rfl⟩ : ∃ wx, wx = wc := ⟨_, rfl⟩
    clear k2 g2 H9 kw wy
    have hqx := H0.out.1.box.lt
    have hBx := H0.out.2.2.lt
    have hAx := H0.out.1.hA
    have HW2 := (show Hid (Ints wx S' wd (.slice aw wd.length cw)) from HWD.out.keep (fun b hb _ => H0.out.2.1.block b (HS.out b hb).1 (HS.out b hb).2))
    have e1 : r.nx.pile = r.pile := rfl
    have e2 : r.nx.told = r.told := rfl
    have e3 : r.nx.place = r.place := rfl
    rw [← e1] at p3
    rw [← e2] at p4
    rw [← e3] at p2
    clear e1 e2 e3 HWD p1 hqs hrt
    generalize r.nx = r1 at *
    obtain ⟨ap, cp, rfl, hpm, hpl, hpa⟩ := own_form H0.out.1.pile
    obtain ⟨at_, ct, rfl, htm, htl, hta⟩ := own_form H0.out.1.told
    have k1 := H0.out.1.box.cell 1 (by simp)
    have k2 := H0.out.1.box.cell 2 (by simp)
    have k3 := H0.out.1.box.cell 3 (by simp)
    have k4 := H0.out.1.box.cell 4 (by simp)
    have k5 := H0.out.1.box.cell 5 (by simp)
    have g2 := H0.out.1.box.frozen 2
    have g3 := H0.out.1.box.frozen 3
    have g4 := H0.out.1.box.frozen 4
    have g5 := H0.out.1.box.frozen 5
    have b0 := H0.out.2.2.cell 0 (by simp)
    have b1 := H0.out.2.2.cell 1 (by simp)
    have b2 := H0.out.2.2.cell 2 (by simp)
    simp only [List.getD_cons_zero, List.getD_cons_succ] at k1 k2 k3 k4 k5 b0 b1 b2
    have HD : Hid (RES = if r1.told.length = 10000 then (3, r1) else (-1, ⟨r1.pc, r1.place, r1.pile, r1.told ++ [xn]⟩)) := HX.out
    by_cases hpw : r1.told.length = 10000
    · rw [if_pos hpw] at HD
      have q1 : ((r1.told.length : Int) == 10000) = true := by rw [hpw]; rfl
      clear hpw
      go_wp2_with fail
      refine Calls.mono (stop41 q 3 _ _ _ _ _ _ _ _ _ H0.out.1.box) ?_
      rintro e w2 ⟨rfl, rfl⟩
      go_wp2_with fail
      refine bodyPost_end (v := .tuple #[]) (by simp [results, Try.results42]) rfl ?_
      exact StA.stop HD.out (by decide) H0.out.2.1 H0.out.1
    · rw [if_neg hpw] at HD
      have q1 : ((r1.told.length : Int) == 10000) = false := by simp; omega
      obtain ⟨i3, hi3, hzz⟩ := Option.map_eq_some_iff.1 info3p
      simp only [Prod.mk.injEq] at hzz
      obtain ⟨hz0, hz1, hz2⟩ := hzz
      have HA2 := (show Hid (RunM (wx.alloc (.cells #[.int .i64 xn] 3)).drew q A 73 (sC (.slice (some ⟨b, off, none⟩) l.length cap) (.slice aw wd.length cw) r1 (.slice ap r1.pile.length cp) (.slice at_ r1.told.length ct) 0 false) (.slice ap r1.pile.length cp) (.slice at_ r1.told.length ct) r1) from (H0.out.1.still (bel_alloc _ _)).still ((Below.refl _ _).drew))
      have HNB := (show Hid _ from World.news_of_block (blk_alloc_new wx (.cells #[.int .i64 xn] 3)))
      go_wp2_with fail
      go_region_law (refine step_append_lies _ rfl (.tmp 86) (.tmp 89) 29 rfl A 3 i3 _ 1 8 Try.underlying29 hi3 hz0 hz1 hz2 rfl (by decide) _ r1.told.length (iv r1.told) (by simp [Act.eval, Act.put]) HA2.out.told ⟨wx.heap.size, 0, none⟩ 1 1 [.int .i64 xn] (by simp [Act.eval, Act.put]) rfl HNB.out (by intro u hu; simp at hu; subst hu; rfl) (by decide) (by unfold maxLen; omega) (by omega) (by simp; omega) _ rfl ?_; intro g3x cap3 w3 hown3 hgr3 hat3 hlt3; have HM3 := HA2.out.tell hgr3 hown3 hat3; have V3 := HM3.box.cell 4 (by simp); have V3f := HM3.box.frozen 4; simp only [List.getD_cons_zero, List.getD_cons_succ] at V3)
      all_goals
        have HF := (show Hid _ from HM3.set 4 (.slice (some ⟨g3x, 0, none⟩) (r1.told.length + 1) cap3))
        have HKF := (show Hid (Kp q A w (w3.setCell ⟨q, 4, none⟩ (.slice (some ⟨g3x, 0, none⟩) (r1.told.length + 1) cap3))) from (((H0.out.2.1.alloc hAx _).drew).grown HA2.out.hA hgr3 (fun b e => (own_lt HA2.out.told e).1)).set 4 _)
        clear V3 V3f HM3 hown3 hgr3 hat3 HA2 HNB
        go_wp2_with fail
        refine bodyPost_end (v := .tuple #[]) (by simp [results, Try.results42]) rfl ?_
        exact StA.on HD.out HKF.out HF.out
end Go.Proofs.Ytilahbfcobhjeaa
