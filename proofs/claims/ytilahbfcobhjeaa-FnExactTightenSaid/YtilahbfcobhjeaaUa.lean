import Derived.Test.YtilahbfcobhjeaaRt
/-! A run of a program: small functions of the program. -/
namespace Go.Proofs.Ytilahbfcobhjeaa
open Go.RowKit Go.Deep
set_option linter.unusedVariables false
set_option maxRecDepth 100000
set_option linter.unusedSimpArgs false

/-- The cells of the program's run. -/
abbrev iC (vl vw : Value) (r : Rn) (st : Nat) (vp vt : Value) : List Value := [vl, .int .i64 r.pc, .int .i64 st, vw, .int .i64 r.place, vp, vt]
/-- What an instruction leaves. -/
def DoA (q A : Nat) (vl vw : Value) (st : Nat) (d : Int × Rn) (w : World) (e : Ending) (w' : World) : Prop :=
  e = .returned (.int .i64 d.1) ∧ Kp q A w w' ∧ ∃ vp vt, RunM w' q A 78 (iC vl vw d.2 st vp vt) vp vt d.2
theorem DoA.of {q A : Nat} {vl vw : Value} {st : Nat} {d : Int × Rn} {w w' : World} {r : Rn} {c : Int} (hd : d = (c, r)) (hk : Kp q A w w') {vp vt : Value} (h : RunM w' q A 78 (iC vl vw r st vp vt) vp vt r) : DoA q A vl vw st d w (.returned (.int .i64 c)) w' := by
  subst hd
  exact ⟨rfl, hk, vp, vt, h⟩
theorem RunM.jumpI {w : World} {q A st : Nat} {vl vw vp vt : Value} {r : Rn} {xt : Int} (h : RunM w q A 78 (iC vl vw r st vp vt) vp vt r) (hx : 0 ≤ xt) : RunM (w.setCell ⟨q, 1, none⟩ (.int .i64 xt)) q A 78 (iC vl vw ⟨xt.toNat, r.place, r.pile, r.told⟩ st vp vt) vp vt ⟨xt.toNat, r.place, r.pile, r.told⟩ := by
  have h2 := (h.set 1 (.int .i64 xt)).turn (r' := ⟨xt.toNat, r.place, r.pile, r.told⟩) rfl rfl
  refine h2.re ?_
  have e : ((xt.toNat : Nat) : Int) = xt := Int.toNat_of_nonneg hx
  simp only [iC, e]
  rfl
theorem past108 (q A st : Nat) (wd : List Int) (vl vp vt : Value) (aw : Option Addr) (cw : Nat) (r : Rn) (w : World) (h : RunM w q A 78 (iC vl (.slice aw wd.length cw) r st vp vt) vp vt r) :
    Calls Try.prog 108 #[.pointer (some ⟨q, 0, none⟩)] w fun e w' => e = .returned (.bool (decide (r.place = wd.length))) ∧ ∃ n, w' = w.drewN n := by
  have k3 := h.box.cell 3 (by simp)
  have k4 := h.box.cell 4 (by simp)
  simp only [List.getD_cons_zero, List.getD_cons_succ] at k3 k4
  clear h
  have HB := (show Hid (((r.place : Int) == (wd.length : Int)) = decide (r.place = wd.length)) from by
    by_cases e : r.place = wd.length
    · rw [decide_eq_true e]; exact beq_iff_eq.2 (by omega)
    · rw [decide_eq_false e]; exact beq_eq_false_iff_ne.2 (by omega))
  generalize decide (r.place = wd.length) = B at *
  go_enter Try.func108, Try.ntmps108
  go_wp2_with fail
  go_quiet (fail)
  go_wp2_with fail
  go_ret
  exact ⟨ret_bool HB.out, _, rfl⟩
set_option maxHeartbeats 800000 in
theorem when109k (q A st : Nat) (b : Bool) (x : DIns) (vl vw vp vt : Value) (r : Rn) (w : World) (h : RunM w q A 78 (iC vl vw r st vp vt) vp vt r) (hx : 0 ≤ x.to_) :
    Calls Try.prog 109 #[.pointer (some ⟨q, 0, none⟩), .bool b, .agg #[.int .i64 x.op, .int .i64 x.n, .int .i64 x.to_]] w fun e w' => DoA q A vl vw st (-1, r.to b x) w e w' ∧ Kp q w.heap.size w w' ∧ w'.cell? ⟨q, 5, none⟩ = some vp := by
  have h2 := h.still (bel_alloc w (.cells #[.int .i64 x.op, .int .i64 x.n, .int .i64 x.to_] 57))
  have hK := (Kp.refl q A w).alloc h.hA (.cells #[.int .i64 x.op, .int .i64 x.n, .int .i64 x.to_] 57)
  have HK2 := (show Hid _ from (Kp.refl q w.heap.size w).alloc (Nat.le_refl _) (.cells #[.int .i64 x.op, .int .i64 x.n, .int .i64 x.to_] 57))
  have HZ := (show Hid _ from h2.jumpI hx)
  have H2 := (show Hid _ from h2)
  have HK := (show Hid _ from hK)
  have k1 := h2.box.cell 1 (by simp)
  have g1 := h2.box.frozen 1
  simp only [List.getD_cons_zero, List.getD_cons_succ] at k1
  have b2 : (w.alloc (.cells #[.int .i64 x.op, .int .i64 x.n, .int .i64 x.to_] 57)).cell? ⟨w.heap.size, 2, none⟩ = some (.int .i64 x.to_) := by simp [go_sem]
  clear h h2 hK
  cases b
  · rw [Rn.to_false]
    go_enter Try.func109, Try.ntmps109
    go_wp2_with fail
    go_ret
    exact ⟨DoA.of rfl HK.out H2.out, HK2.out, H2.out.box.cell 5 (by simp)⟩
  · rw [Rn.to_true]
    go_enter Try.func109, Try.ntmps109
    go_wp2_with fail
    go_ret
    exact ⟨DoA.of rfl (HK.out.set 1 _) HZ.out, HK2.out.set 1 _, HZ.out.box.cell 5 (by simp)⟩
theorem when109 (q A st : Nat) (b : Bool) (x : DIns) (vl vw vp vt : Value) (r : Rn) (w : World) (h : RunM w q A 78 (iC vl vw r st vp vt) vp vt r) (hx : 0 ≤ x.to_) :
    Calls Try.prog 109 #[.pointer (some ⟨q, 0, none⟩), .bool b, .agg #[.int .i64 x.op, .int .i64 x.n, .int .i64 x.to_]] w fun e w' => DoA q A vl vw st (-1, r.to b x) w e w' :=
  (when109k q A st b x vl vw vp vt r w h hx).mono (fun _ _ h => h.1)
set_option maxHeartbeats 1600000 in
theorem put107 (q A st : Nat) (n : Int) (vl vw vp vt : Value) (r : Rn) (w : World) (h : RunM w q A 78 (iC vl vw r st vp vt) vp vt r) (hn : r.pile.length ≤ 10000) :
    Calls Try.prog 107 #[.pointer (some ⟨q, 5, none⟩), .int .i64 n] w fun e w' => e = .returned (.tuple #[]) ∧ Kp q A w w' ∧ ∃ vp', RunM w' q A 78 (iC vl vw r st vp' vt) vp' vt ⟨r.pc, r.place, r.pile ++ [n], r.told⟩ := by
  obtain ⟨i3, hi3, hzz⟩ := Option.map_eq_some_iff.1 info3p
  simp only [Prod.mk.injEq] at hzz
  obtain ⟨hz0, hz1, hz2⟩ := hzz
  have h2 := h.still (bel_alloc w (.cells #[.int .i64 n] 3))
  have hK := (Kp.refl q A w).alloc h.hA (.cells #[.int .i64 n] 3)
  have k5 := h.box.cell 5 (by simp)
  simp only [List.getD_cons_zero, List.getD_cons_succ] at k5
  have hqs := h.box.lt
  have HA2 := (show Hid (RunM (w.alloc (.cells #[.int .i64 n] 3)) q A 78 (iC vl vw r st vp vt) vp vt r) from h2)
  have HK := (show Hid _ from hK)
  have HNB := (show Hid _ from World.news_of_block (blk_alloc_new w (.cells #[.int .i64 n] 3)))
  obtain ⟨ap, cp, rfl, _⟩ := own_form h.pile
  have hAz := h.hA
  clear h h2 hK
  go_enter Try.func107, Try.ntmps107
  go_wp2_with (at_builtin; refine wpList_append_lies _ rfl (.tmp 7) (.tmp 9) 76 rfl A 3 i3 _ 1 8 Try.underlying76 hi3 hz0 hz1 hz2 rfl (by decide) _ r.pile.length (iv r.pile) rfl HA2.out.pile ⟨w.heap.size, 0, none⟩ 1 1 [.int .i64 n] rfl rfl HNB.out (by intro u hu; simp at hu; subst hu; rfl) (by decide) (by unfold maxLen; omega) (by omega) (by simp; omega) _ rfl ?_; intro g3x cap3 w3 hown3 hgr3 hat3 hlt3; have HM3 := (show Hid _ from HA2.out.push hgr3 hown3 hat3); have V3 := HM3.out.box.cell 5 (by simp); have V3f := HM3.out.box.frozen 5; simp only [List.getD_cons_zero, List.getD_cons_succ] at V3)
  refine bodyPost_end (v := .tuple #[]) (by simp [results, Try.results107]) rfl ?_
  exact ⟨rfl, (HK.out.grown HA2.out.hA hgr3 (fun b e => (own_lt HA2.out.pile e).1)).set 5 _, _, HM3.out.set 5 _⟩
theorem under110 (q A st : Nat) (vl vw vp vt : Value) (r : Rn) (w : World) (h : RunM w q A 78 (iC vl vw r st vp vt) vp vt r) (hn : 0 < r.pile.length) (hm : r.pile.length ≤ 10000) :
    Calls Try.prog 110 #[.pointer (some ⟨q, 5, none⟩), .int .i64 0] w fun e w' => e = .returned (.int .i64 (r.pile[r.pile.length - 1]'(by omega))) ∧ ∃ n, w' = w.drewN n := by
  obtain ⟨ap, cp, rfl, _, _, hpa⟩ := own_form h.pile
  obtain ⟨g, rfl⟩ := hpa hn
  have cx := own_cell h.pile rfl (i := r.pile.length - 1) (by omega)
  have k5 := h.box.cell 5 (by simp)
  simp only [List.getD_cons_zero, List.getD_cons_succ] at k5
  generalize r.pile[r.pile.length - 1]'(by omega) = y at *
  clear h
  have kw : IntKind.i64.wrap ((r.pile.length : Int) - 1) = (r.pile.length : Int) - 1 := by simp [IntKind.wrap, IntKind.bits, IntKind.signed]; omega
  have kz : ((r.pile.length : Int) - 1).toNat = r.pile.length - 1 := by omega
  go_enter Try.func110, Try.ntmps110
  go_wp2_with fail
  go_quiet (fail)
  go_wp2_with fail
  go_ret
  exact ⟨rfl, _, rfl⟩
end Go.Proofs.Ytilahbfcobhjeaa
