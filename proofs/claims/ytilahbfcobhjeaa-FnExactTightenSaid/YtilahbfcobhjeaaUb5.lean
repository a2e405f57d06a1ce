import Derived.Test.YtilahbfcobhjeaaUa
/-! A run of a program: what instructions do. -/
namespace Go.Proofs.Ytilahbfcobhjeaa
open Go.RowKit Go.Deep
set_option linter.unusedVariables false
set_option maxRecDepth 100000
set_option linter.unusedSimpArgs false

abbrev oq780 : Oper := { dst := some 5, op := Op.move (Operand.tmp 0), type := 111, pos := "l17_makers.go:310", after := #[], guard := none }
abbrev oq781 : Oper := { dst := some 6, op := Op.move (Operand.tmp 0), type := 111, pos := "l17_makers.go:310", after := #[], guard := none }
abbrev oq782 : Oper := { dst := some 7, op := Op.call { callee := Callee.value (Operand.func 108), args := #[Operand.tmp 6], argTypes := #[111] }, type := 4, pos := "l17_makers.go:310", after := #[{ on := 1, ground := Ground.data }], guard := none }
abbrev oq783 : Oper := { dst := some 8, op := Op.unOp UnOp.not 4 (Operand.tmp 7), type := 4, pos := "l17_makers.go:310", after := #[{ on := 2, ground := Ground.data }], guard := none }
abbrev oq784 : Oper := { dst := some 9, op := Op.move (Operand.tmp 8), type := 4, pos := "l17_makers.go:310", after := #[{ on := 3, ground := Ground.data }, { on := 2, ground := Ground.chain }], guard := none }
abbrev oq785 : Oper := { dst := some 10, op := Op.move (Operand.tmp 0), type := 111, pos := "l17_makers.go:310", after := #[{ on := 4, ground := Ground.guard }], guard := some (4, true) }
abbrev oq786 : Oper := { dst := some 11, op := Op.nilCheck (Operand.tmp 10), type := 0, pos := "l17_makers.go:310", after := #[{ on := 5, ground := Ground.data }, { on := 4, ground := Ground.guard }], guard := some (4, true) }
abbrev oq787 : Oper := { dst := some 12, op := Op.fieldAddr 78 (Operand.tmp 11) 3, type := 0, pos := "l17_makers.go:310", after := #[{ on := 6, ground := Ground.data }, { on := 4, ground := Ground.guard }], guard := some (4, true) }
abbrev oq788 : Oper := { dst := some 13, op := Op.load 29 (Operand.tmp 12), type := 29, pos := "l17_makers.go:310", after := #[{ on := 7, ground := Ground.data }, { on := 4, ground := Ground.guard }], guard := some (4, true) }
abbrev oq789 : Oper := { dst := some 14, op := Op.move (Operand.tmp 0), type := 111, pos := "l17_makers.go:310", after := #[{ on := 4, ground := Ground.guard }], guard := some (4, true) }
abbrev oq7810 : Oper := { dst := some 15, op := Op.nilCheck (Operand.tmp 14), type := 0, pos := "l17_makers.go:310", after := #[{ on := 9, ground := Ground.data }, { on := 4, ground := Ground.guard }], guard := some (4, true) }
abbrev oq7811 : Oper := { dst := some 16, op := Op.fieldAddr 78 (Operand.tmp 15) 4, type := 0, pos := "l17_makers.go:310", after := #[{ on := 10, ground := Ground.data }, { on := 4, ground := Ground.guard }], guard := some (4, true) }
abbrev oq7812 : Oper := { dst := some 17, op := Op.load 3 (Operand.tmp 16), type := 3, pos := "l17_makers.go:310", after := #[{ on := 11, ground := Ground.data }, { on := 4, ground := Ground.guard }], guard := some (4, true) }
abbrev oq7813 : Oper := { dst := some 18, op := Op.indexAddr 29 (Operand.tmp 13) (Operand.tmp 17), type := 0, pos := "l17_makers.go:310", after := #[{ on := 8, ground := Ground.data }, { on := 12, ground := Ground.data }, { on := 4, ground := Ground.guard }], guard := some (4, true) }
abbrev oq7814 : Oper := { dst := some 19, op := Op.load 3 (Operand.tmp 18), type := 3, pos := "l17_makers.go:310", after := #[{ on := 13, ground := Ground.data }, { on := 4, ground := Ground.guard }], guard := some (4, true) }
abbrev oq7815 : Oper := { dst := some 20, op := Op.fieldAddr 57 (Operand.tmp 3) 1, type := 0, pos := "l17_makers.go:310", after := #[{ on := 4, ground := Ground.guard }], guard := some (4, true) }
abbrev oq7816 : Oper := { dst := some 21, op := Op.load 3 (Operand.tmp 20), type := 3, pos := "l17_makers.go:310", after := #[{ on := 15, ground := Ground.data }, { on := 4, ground := Ground.guard }], guard := some (4, true) }
abbrev oq7817 : Oper := { dst := some 22, op := Op.binOp BinOp.eql 3 (Operand.tmp 19) (Operand.tmp 21) 3, type := 4, pos := "l17_makers.go:310", after := #[{ on := 14, ground := Ground.data }, { on := 16, ground := Ground.data }, { on := 4, ground := Ground.guard }], guard := some (4, true) }
abbrev oq7818 : Oper := { dst := some 23, op := Op.pick (Operand.tmp 9) (Operand.tmp 22) (Operand.const (Value.bool false)), type := 4, pos := "l17_makers.go:310", after := #[{ on := 4, ground := Ground.data }, { on := 17, ground := Ground.data }], guard := none }
abbrev oq7819 : Oper := { dst := some 24, op := Op.load 57 (Operand.tmp 3), type := 57, pos := "l17_makers.go:310", after := #[], guard := none }
abbrev oq7820 : Oper := { dst := some 25, op := Op.call { callee := Callee.value (Operand.func 109), args := #[Operand.tmp 5, Operand.tmp 23, Operand.tmp 24], argTypes := #[111, 4, 57] }, type := 3, pos := "l17_makers.go:310", after := #[{ on := 0, ground := Ground.data }, { on := 18, ground := Ground.data }, { on := 19, ground := Ground.data }, { on := 4, ground := Ground.chain }], guard := none }
abbrev oq7821 : Oper := { dst := some 4, op := Op.assign (Operand.tmp 25), type := 3, pos := "l17_makers.go:310", after := #[{ on := 20, ground := Ground.data }, { on := 20, ground := Ground.chain }, { on := 0, ground := Ground.phase }, { on := 1, ground := Ground.phase }, { on := 2, ground := Ground.phase }, { on := 3, ground := Ground.phase }, { on := 4, ground := Ground.phase }, { on := 5, ground := Ground.phase }, { on := 6, ground := Ground.phase }, { on := 7, ground := Ground.phase }, { on := 8, ground := Ground.phase }, { on := 9, ground := Ground.phase }, { on := 10, ground := Ground.phase }, { on := 11, ground := Ground.phase }, { on := 12, ground := Ground.phase }, { on := 13, ground := Ground.phase }, { on := 14, ground := Ground.phase }, { on := 15, ground := Ground.phase }, { on := 16, ground := Ground.phase }, { on := 17, ground := Ground.phase }, { on := 18, ground := Ground.phase }, { on := 19, ground := Ground.phase }, { on := 20, ground := Ground.phase }], guard := none }
set_option maxHeartbeats 3200000 in
theorem do_6 {S' : Nat → Prop} (wd : List Int) (q A st : Nat) (x : DIns) (hx : x.op = 6) (f3 : 0 ≤ x.to_) (f5 : hnB x.op = true → 0 ≤ x.n ∧ x.n ≤ 1000) (vl vw vp vt : Value) (r : Rn) (w : World) (h : RunM w q A 78 (iC vl vw r st vp vt) vp vt r) (hw : Ints w S' wd vw) (hS : ∀ b, S' b → b ≠ q) (hwl : wd.length ≤ 200) (p2 : r.place ≤ wd.length) (p3 : r.pile.length ≤ 10000) (p4 : r.told.length ≤ 10000) :
    Calls Try.prog 78 #[.pointer (some ⟨q, 0, none⟩), .agg #[.int .i64 x.op, .int .i64 x.n, .int .i64 x.to_]] w fun e w' => DoA q A vl vw st (dO wd x r) w e w' := by
  obtain ⟨xo, xn, xt⟩ := x
  dsimp only at *
  subst hx
  have hW := hw.still (bel_alloc w (.cells #[.int .i64 6, .int .i64 xn, .int .i64 xt] 57))
  obtain ⟨aw, cw, bw, ow, rfl, hcw, hmw, haw, hcellw⟩ := hW
  have HW := (show Hid _ from hcellw); clear hcellw
  have HAW := (show Hid _ from haw); clear haw
  have h2 := h.still (bel_alloc w (.cells #[.int .i64 6, .int .i64 xn, .int .i64 xt] 57))
  have HK := (show Hid (Kp q A w (w.alloc (.cells #[.int .i64 6, .int .i64 xn, .int .i64 xt] 57))) from (Kp.refl q A w).alloc h.hA (.cells #[.int .i64 6, .int .i64 xn, .int .i64 xt] 57))
  obtain ⟨ap, cp, rfl, hpm, hpl, hpa⟩ := own_form h2.pile
  obtain ⟨at_, ct, rfl, htm, htl, hta⟩ := own_form h2.told
  have H2 := (show Hid (RunM (w.alloc (.cells #[.int .i64 6, .int .i64 xn, .int .i64 xt] 57)) q A 78 (iC vl (.slice aw wd.length cw) r st (.slice ap r.pile.length cp) (.slice at_ r.told.length ct)) (.slice ap r.pile.length cp) (.slice at_ r.told.length ct) r) from h2)
  have hbx := Box.new w 57 [.int .i64 6, .int .i64 xn, .int .i64 xt]
  have hAx : A ≤ (w.alloc (.cells #[.int .i64 6, .int .i64 xn, .int .i64 xt] 57)).heap.size := h2.hA
  have b0 : (w.alloc (.cells #[.int .i64 6, .int .i64 xn, .int .i64 xt] 57)).cell? ⟨w.heap.size, 0, none⟩ = some (.int .i64 6) := hbx.cell 0 (by simp)
  have b1 : (w.alloc (.cells #[.int .i64 6, .int .i64 xn, .int .i64 xt] 57)).cell? ⟨w.heap.size, 1, none⟩ = some (.int .i64 xn) := hbx.cell 1 (by simp)
  have b2 : (w.alloc (.cells #[.int .i64 6, .int .i64 xn, .int .i64 xt] 57)).cell? ⟨w.heap.size, 2, none⟩ = some (.int .i64 xt) := hbx.cell 2 (by simp)
  have k3 := h2.box.cell 3 (by simp)
  have k4 := h2.box.cell 4 (by simp)
  have k5 := h2.box.cell 5 (by simp)
  have k6 := h2.box.cell 6 (by simp)
  have g4 := h2.box.frozen 4
  have g5 := h2.box.frozen 5
  have g6 := h2.box.frozen 6
  simp only [List.getD_cons_zero, List.getD_cons_succ] at k3 k4 k5 k6
  have hqs : q < w.heap.size := h.box.lt
  clear h hbx h2 hw
  go_enter Try.func78, Try.ntmps78
  have HP := (show Hid (∀ w1 : World, w1.heap = (w.alloc (.cells #[.int .i64 6, .int .i64 xn, .int .i64 xt] 57)).heap → Calls Try.prog 108 #[.pointer (some ⟨q, 0, none⟩)] w1 fun e w2 => e = .returned (.bool (decide (r.place = wd.length))) ∧ ∃ n, w2 = w1.drewN n) from fun w1 hh => past108 q A st wd _ _ _ _ _ r w1 (RunM.keep H2.out (by rw [hh]; exact Nat.le_refl _) (fun _ _ => by rw [hh])))
  have HQ := (show Hid (∀ (b : Bool) (w1 : World), w1.heap = (w.alloc (.cells #[.int .i64 6, .int .i64 xn, .int .i64 xt] 57)).heap → Calls Try.prog 109 #[.pointer (some ⟨q, 0, none⟩), .bool b, .agg #[.int .i64 6, .int .i64 xn, .int .i64 xt]] w1 fun e w2 => DoA q A vl (.slice aw wd.length cw) st (-1, r.to b ⟨6, xn, xt⟩) w1 e w2 ∧ Kp q w1.heap.size w1 w2 ∧ w2.cell? ⟨q, 5, none⟩ = some (.slice ap r.pile.length cp)) from fun b w1 hh => when109k q A st b ⟨6, xn, xt⟩ _ _ _ _ r w1 (RunM.keep H2.out (by rw [hh]; exact Nat.le_refl _) (fun _ _ => by rw [hh])) f3)
  have hqB : q < w.heap.size := hqs
  have hBs : w.heap.size < (w.alloc (.cells #[.int .i64 6, .int .i64 xn, .int .i64 xt] 57)).heap.size := by simp
  by_cases hpw : r.place = wd.length
  · have HD : Hid (dO wd ⟨6, xn, xt⟩ r = (-1, r.to false ⟨6, xn, xt⟩)) := by show dO wd ⟨6, xn, xt⟩ r = _; simp only [dO]; rw [show nexB wd r.place xn = false from by unfold nexB; rw [List.getElem?_eq_none (by omega)]]; rfl
    rw [decide_eq_true hpw] at HP
    generalize dO wd ⟨6, xn, xt⟩ r = RES at *
    have HS := (show Hid ((w.alloc (.cells #[.int .i64 6, .int .i64 xn, .int .i64 xt] 57)).cell? ⟨w.heap.size, 0, none⟩ = some (.int .i64 6) ∧ (w.alloc (.cells #[.int .i64 6, .int .i64 xn, .int .i64 xt] 57)).cell? ⟨w.heap.size, 1, none⟩ = some (.int .i64 xn) ∧ (w.alloc (.cells #[.int .i64 6, .int .i64 xn, .int .i64 xt] 57)).cell? ⟨w.heap.size, 2, none⟩ = some (.int .i64 xt)) from ⟨b0, b1, b2⟩)
    clear k3 k4 k5 k6 g4 g5 g6 hpa hta hpl htl hpm htm hcw hmw hpw
    go_wp2_with fail
    refine wp_region_held_drew (S := fun w' => w'.cell? ⟨w.heap.size, 0, none⟩ = some (.int .i64 6) ∧ w'.cell? ⟨w.heap.size, 1, none⟩ = some (.int .i64 xn) ∧ w'.cell? ⟨w.heap.size, 2, none⟩ = some (.int .i64 xt)) (by kernel_rfl) (by exact HS.out) (fun hHeld => ?_)
    refine wpAnyH_take (i := 0) (oi := oq780) (v := ?v1) rfl (by kernel_rfl) (by kernel_rfl) (by kernel_rfl) (fun _ _ _ h => h) (Or.inl ⟨by rfl, ?h1⟩) hHeld ?r1
    case h1 => (intro w hSw; (try dsimp only at hSw); go_simp; try with_reducible rfl)
    try simp only [Act.put, List.setIfInBounds_toArray, List.set_cons_zero, List.set_cons_succ]
    refine wpAnyH_take (i := 1) (oi := oq781) (v := ?v2) rfl (by kernel_rfl) (by kernel_rfl) (by kernel_rfl) (fun _ _ _ h => h) (Or.inl ⟨by rfl, ?h2⟩) hHeld ?r2
    case h2 => (intro w hSw; (try dsimp only at hSw); go_simp; try with_reducible rfl)
    try simp only [Act.put, List.setIfInBounds_toArray, List.set_cons_zero, List.set_cons_succ]
    refine wpAnyH_take (i := 19) (oi := oq7819) (v := ?v3) rfl (by kernel_rfl) (by kernel_rfl) (by kernel_rfl) (fun _ _ _ h => h) (Or.inl ⟨by rfl, ?h3⟩) hHeld ?r3
    case h3 => (intro w hSw; (try dsimp only at hSw); go_simp; try with_reducible rfl)
    try simp only [Act.put, List.setIfInBounds_toArray, List.set_cons_zero, List.set_cons_succ]
    refine wpAnyH_ready (rs := [2]) (by kernel_rfl) (by simp) ?_
    refine AllReadyH.cons (o := oq782) rfl (fun K hK => ?_) AllReadyH.nil
    go_simp
    refine Calls.mono (HP.out _ rfl) ?_
    rintro e w1 ⟨rfl, n1, rfl⟩
    dsimp only
    clear hHeld
    refine hK.out _ _ (by exact HS.out) (fun hHeld => ?_)
    clear hK K
    try simp only [Act.put, List.setIfInBounds_toArray, List.set_cons_zero, List.set_cons_succ]
    refine wpAnyH_take (i := 3) (oi := oq783) (v := ?v4) rfl (by kernel_rfl) (by kernel_rfl) (by kernel_rfl) (fun _ _ _ h => h) (Or.inl ⟨by rfl, ?h4⟩) hHeld ?r4
    case h4 => (intro w hSw; (try dsimp only at hSw); go_simp; try with_reducible rfl)
    try simp only [Act.put, List.setIfInBounds_toArray, List.set_cons_zero, List.set_cons_succ]
    refine wpAnyH_take (i := 4) (oi := oq784) (v := ?v5) rfl (by kernel_rfl) (by kernel_rfl) (by kernel_rfl) (fun _ _ _ h => h) (Or.inl ⟨by rfl, ?h5⟩) hHeld ?r5
    case h5 => (intro w hSw; (try dsimp only at hSw); go_simp; try with_reducible rfl)
    try simp only [Act.put, List.setIfInBounds_toArray, List.set_cons_zero, List.set_cons_succ]
    refine wpAnyH_take (i := 5) (oi := oq785) (v := undef) rfl (by kernel_rfl) (by kernel_rfl) (by kernel_rfl) (fun _ _ _ h => h) (Or.inr ⟨by rfl, rfl⟩) hHeld ?_
    try simp only [Act.put, List.setIfInBounds_toArray, List.set_cons_zero, List.set_cons_succ]
    refine wpAnyH_take (i := 6) (oi := oq786) (v := undef) rfl (by kernel_rfl) (by kernel_rfl) (by kernel_rfl) (fun _ _ _ h => h) (Or.inr ⟨by rfl, rfl⟩) hHeld ?_
    try simp only [Act.put, List.setIfInBounds_toArray, List.set_cons_zero, List.set_cons_succ]
    refine wpAnyH_take (i := 7) (oi := oq787) (v := undef) rfl (by kernel_rfl) (by kernel_rfl) (by kernel_rfl) (fun _ _ _ h => h) (Or.inr ⟨by rfl, rfl⟩) hHeld ?_
    try simp only [Act.put, List.setIfInBounds_toArray, List.set_cons_zero, List.set_cons_succ]
    refine wpAnyH_take (i := 8) (oi := oq788) (v := undef) rfl (by kernel_rfl) (by kernel_rfl) (by kernel_rfl) (fun _ _ _ h => h) (Or.inr ⟨by rfl, rfl⟩) hHeld ?_
    try simp only [Act.put, List.setIfInBounds_toArray, List.set_cons_zero, List.set_cons_succ]
    refine wpAnyH_take (i := 9) (oi := oq789) (v := undef) rfl (by kernel_rfl) (by kernel_rfl) (by kernel_rfl) (fun _ _ _ h => h) (Or.inr ⟨by rfl, rfl⟩) hHeld ?_
    try simp only [Act.put, List.setIfInBounds_toArray, List.set_cons_zero, List.set_cons_succ]
    refine wpAnyH_take (i := 10) (oi := oq7810) (v := undef) rfl (by kernel_rfl) (by kernel_rfl) (by kernel_rfl) (fun _ _ _ h => h) (Or.inr ⟨by rfl, rfl⟩) hHeld ?_
    try simp only [Act.put, List.setIfInBounds_toArray, List.set_cons_zero, List.set_cons_succ]
    refine wpAnyH_take (i := 11) (oi := oq7811) (v := undef) rfl (by kernel_rfl) (by kernel_rfl) (by kernel_rfl) (fun _ _ _ h => h) (Or.inr ⟨by rfl, rfl⟩) hHeld ?_
    try simp only [Act.put, List.setIfInBounds_toArray, List.set_cons_zero, List.set_cons_succ]
    refine wpAnyH_take (i := 12) (oi := oq7812) (v := undef) rfl (by kernel_rfl) (by kernel_rfl) (by kernel_rfl) (fun _ _ _ h => h) (Or.inr ⟨by rfl, rfl⟩) hHeld ?_
    try simp only [Act.put, List.setIfInBounds_toArray, List.set_cons_zero, List.set_cons_succ]
    refine wpAnyH_take (i := 13) (oi := oq7813) (v := undef) rfl (by kernel_rfl) (by kernel_rfl) (by kernel_rfl) (fun _ _ _ h => h) (Or.inr ⟨by rfl, rfl⟩) hHeld ?_
    try simp only [Act.put, List.setIfInBounds_toArray, List.set_cons_zero, List.set_cons_succ]
    refine wpAnyH_take (i := 14) (oi := oq7814) (v := undef) rfl (by kernel_rfl) (by kernel_rfl) (by kernel_rfl) (fun _ _ _ h => h) (Or.inr ⟨by rfl, rfl⟩) hHeld ?_
    try simp only [Act.put, List.setIfInBounds_toArray, List.set_cons_zero, List.set_cons_succ]
    refine wpAnyH_take (i := 15) (oi := oq7815) (v := undef) rfl (by kernel_rfl) (by kernel_rfl) (by kernel_rfl) (fun _ _ _ h => h) (Or.inr ⟨by rfl, rfl⟩) hHeld ?_
    try simp only [Act.put, List.setIfInBounds_toArray, List.set_cons_zero, List.set_cons_succ]
    refine wpAnyH_take (i := 16) (oi := oq7816) (v := undef) rfl (by kernel_rfl) (by kernel_rfl) (by kernel_rfl) (fun _ _ _ h => h) (Or.inr ⟨by rfl, rfl⟩) hHeld ?_
    try simp only [Act.put, List.setIfInBounds_toArray, List.set_cons_zero, List.set_cons_succ]
    refine wpAnyH_take (i := 17) (oi := oq7817) (v := undef) rfl (by kernel_rfl) (by kernel_rfl) (by kernel_rfl) (fun _ _ _ h => h) (Or.inr ⟨by rfl, rfl⟩) hHeld ?_
    try simp only [Act.put, List.setIfInBounds_toArray, List.set_cons_zero, List.set_cons_succ]
    refine wpAnyH_take (i := 18) (oi := oq7818) (v := ?v6) rfl (by kernel_rfl) (by kernel_rfl) (by kernel_rfl) (fun _ _ _ h => h) (Or.inl ⟨by rfl, ?h6⟩) hHeld ?r6
    case h6 => (intro w hSw; (try dsimp only at hSw); go_simp; try with_reducible rfl)
    try simp only [Act.put, List.setIfInBounds_toArray, List.set_cons_zero, List.set_cons_succ]
    refine wpAnyH_ready (rs := [20]) (by kernel_rfl) (by simp) ?_
    refine AllReadyH.cons (o := oq7820) rfl (fun K hK => ?_) AllReadyH.nil
    go_simp
    refine Calls.mono (HQ.out _ _ rfl) ?_
    rintro e w5 ⟨⟨rfl, hk1, vp5, vt5, hr5⟩, hk2, hk3⟩
    dsimp only
    have HE := (show Hid (Kp q A w w5 ∧ _) from ⟨Kp.trans (by first | exact (HK.out.drew).drewN _ | exact HK.out.drewN _ | exact HK.out.drew) hk1, hr5⟩)
    have HS5 := (show Hid (w5.cell? ⟨w.heap.size, 0, none⟩ = some (.int .i64 6) ∧ w5.cell? ⟨w.heap.size, 1, none⟩ = some (.int .i64 xn) ∧ w5.cell? ⟨w.heap.size, 2, none⟩ = some (.int .i64 xt)) from ⟨(World.cell?_of_block (hk2.block _ hBs (Nat.ne_of_gt hqB))).trans b0, (World.cell?_of_block (hk2.block _ hBs (Nat.ne_of_gt hqB))).trans b1, (World.cell?_of_block (hk2.block _ hBs (Nat.ne_of_gt hqB))).trans b2⟩)
    clear hk1 hk2 hr5 hk3
    clear hHeld
    refine hK.out _ _ (by exact HS5.out) (fun hHeld => ?_)
    clear hK K
    try simp only [Act.put, List.setIfInBounds_toArray, List.set_cons_zero, List.set_cons_succ]
    refine wpAnyH_ready (rs := [21]) (by kernel_rfl) (by simp) ?_
    refine AllReadyH.cons (o := oq7821) rfl (fun K hK => ?_) AllReadyH.nil
    go_simp
    clear hHeld
    refine hK.out _ _ (by exact HS5.out) (fun hHeld => ?_)
    clear hK K
    try simp only [Act.put, List.setIfInBounds_toArray, List.set_cons_zero, List.set_cons_succ]
    refine wpAnyH_done (by kernel_rfl) ?_ _
    (try refine NoPanic.normal ?_)
    go_wp2_with fail
    go_ret
    rw [HD.out]
    exact ⟨rfl, HE.out.1, vp5, vt5, HE.out.2⟩
  · have hlt : r.place < wd.length := by omega
    obtain ⟨rfl, hbS⟩ := HAW.out (by omega)
    have hbq := hS bw hbS
    have cx := HW.out r.place hlt
    have hbs := lt_of_cell cx
    have HD : Hid (dO wd ⟨6, xn, xt⟩ r = (-1, r.to (wd[r.place] == xn) ⟨6, xn, xt⟩)) := by show dO wd ⟨6, xn, xt⟩ r = _; simp only [dO]; rw [show nexB wd r.place xn = (wd[r.place] == xn) from by unfold nexB; rw [List.getElem?_eq_getElem hlt]; rfl]; rfl
    rw [decide_eq_false hpw] at HP
    generalize dO wd ⟨6, xn, xt⟩ r = RES at *
    generalize wd[r.place] = y at *
    have HS := (show Hid ((w.alloc (.cells #[.int .i64 6, .int .i64 xn, .int .i64 xt] 57)).cell? ⟨q, 3, none⟩ = some (.slice (some ⟨bw, ow, none⟩) wd.length cw) ∧ (w.alloc (.cells #[.int .i64 6, .int .i64 xn, .int .i64 xt] 57)).cell? ⟨q, 4, none⟩ = some (.int .i64 r.place) ∧ (w.alloc (.cells #[.int .i64 6, .int .i64 xn, .int .i64 xt] 57)).cell? ⟨bw, ow + r.place, none⟩ = some (.int .i64 y) ∧ (w.alloc (.cells #[.int .i64 6, .int .i64 xn, .int .i64 xt] 57)).cell? ⟨w.heap.size, 0, none⟩ = some (.int .i64 6) ∧ (w.alloc (.cells #[.int .i64 6, .int .i64 xn, .int .i64 xt] 57)).cell? ⟨w.heap.size, 1, none⟩ = some (.int .i64 xn) ∧ (w.alloc (.cells #[.int .i64 6, .int .i64 xn, .int .i64 xt] 57)).cell? ⟨w.heap.size, 2, none⟩ = some (.int .i64 xt)) from ⟨k3, k4, cx, b0, b1, b2⟩)
    clear k3 k4 k5 k6 g4 g5 g6 hpa hta hpl htl hpm htm hcw hpw
    go_wp2_with fail
    refine wp_region_held_drew (S := fun w' => w'.cell? ⟨q, 3, none⟩ = some (.slice (some ⟨bw, ow, none⟩) wd.length cw) ∧ w'.cell? ⟨q, 4, none⟩ = some (.int .i64 r.place) ∧ w'.cell? ⟨bw, ow + r.place, none⟩ = some (.int .i64 y) ∧ w'.cell? ⟨w.heap.size, 0, none⟩ = some (.int .i64 6) ∧ w'.cell? ⟨w.heap.size, 1, none⟩ = some (.int .i64 xn) ∧ w'.cell? ⟨w.heap.size, 2, none⟩ = some (.int .i64 xt)) (by kernel_rfl) (by exact HS.out) (fun hHeld => ?_)
    refine wpAnyH_take (i := 0) (oi := oq780) (v := ?v7) rfl (by kernel_rfl) (by kernel_rfl) (by kernel_rfl) (fun _ _ _ h => h) (Or.inl ⟨by rfl, ?h7⟩) hHeld ?r7
    case h7 => (intro w hSw; (try dsimp only at hSw); go_simp; try with_reducible rfl)
    try simp only [Act.put, List.setIfInBounds_toArray, List.set_cons_zero, List.set_cons_succ]
    refine wpAnyH_take (i := 1) (oi := oq781) (v := ?v8) rfl (by kernel_rfl) (by kernel_rfl) (by kernel_rfl) (fun _ _ _ h => h) (Or.inl ⟨by rfl, ?h8⟩) hHeld ?r8
    case h8 => (intro w hSw; (try dsimp only at hSw); go_simp; try with_reducible rfl)
    try simp only [Act.put, List.setIfInBounds_toArray, List.set_cons_zero, List.set_cons_succ]
    refine wpAnyH_take (i := 19) (oi := oq7819) (v := ?v9) rfl (by kernel_rfl) (by kernel_rfl) (by kernel_rfl) (fun _ _ _ h => h) (Or.inl ⟨by rfl, ?h9⟩) hHeld ?r9
    case h9 => (intro w hSw; (try dsimp only at hSw); go_simp; try with_reducible rfl)
    try simp only [Act.put, List.setIfInBounds_toArray, List.set_cons_zero, List.set_cons_succ]
    refine wpAnyH_ready (rs := [2]) (by kernel_rfl) (by simp) ?_
    refine AllReadyH.cons (o := oq782) rfl (fun K hK => ?_) AllReadyH.nil
    go_simp
    refine Calls.mono (HP.out _ rfl) ?_
    rintro e w1 ⟨rfl, n1, rfl⟩
    dsimp only
    clear hHeld
    refine hK.out _ _ (by exact HS.out) (fun hHeld => ?_)
    clear hK K
    try simp only [Act.put, List.setIfInBounds_toArray, List.set_cons_zero, List.set_cons_succ]
    refine wpAnyH_take (i := 3) (oi := oq783) (v := ?v10) rfl (by kernel_rfl) (by kernel_rfl) (by kernel_rfl) (fun _ _ _ h => h) (Or.inl ⟨by rfl, ?h10⟩) hHeld ?r10
    case h10 => (intro w hSw; (try dsimp only at hSw); go_simp; try with_reducible rfl)
    try simp only [Act.put, List.setIfInBounds_toArray, List.set_cons_zero, List.set_cons_succ]
    refine wpAnyH_take (i := 4) (oi := oq784) (v := ?v11) rfl (by kernel_rfl) (by kernel_rfl) (by kernel_rfl) (fun _ _ _ h => h) (Or.inl ⟨by rfl, ?h11⟩) hHeld ?r11
    case h11 => (intro w hSw; (try dsimp only at hSw); go_simp; try with_reducible rfl)
    try simp only [Act.put, List.setIfInBounds_toArray, List.set_cons_zero, List.set_cons_succ]
    refine wpAnyH_take (i := 5) (oi := oq785) (v := ?v12) rfl (by kernel_rfl) (by kernel_rfl) (by kernel_rfl) (fun _ _ _ h => h) (Or.inl ⟨by rfl, ?h12⟩) hHeld ?r12
    case h12 => (intro w hSw; (try dsimp only at hSw); go_simp; try with_reducible rfl)
    try simp only [Act.put, List.setIfInBounds_toArray, List.set_cons_zero, List.set_cons_succ]
    refine wpAnyH_take (i := 6) (oi := oq786) (v := ?v13) rfl (by kernel_rfl) (by kernel_rfl) (by kernel_rfl) (fun _ _ _ h => h) (Or.inl ⟨by rfl, ?h13⟩) hHeld ?r13
    case h13 => (intro w hSw; (try dsimp only at hSw); go_simp; try with_reducible rfl)
    try simp only [Act.put, List.setIfInBounds_toArray, List.set_cons_zero, List.set_cons_succ]
    refine wpAnyH_take (i := 7) (oi := oq787) (v := ?v14) rfl (by kernel_rfl) (by kernel_rfl) (by kernel_rfl) (fun _ _ _ h => h) (Or.inl ⟨by rfl, ?h14⟩) hHeld ?r14
    case h14 => (intro w hSw; (try dsimp only at hSw); go_simp; try with_reducible rfl)
    try simp only [Act.put, List.setIfInBounds_toArray, List.set_cons_zero, List.set_cons_succ]
    refine wpAnyH_take (i := 8) (oi := oq788) (v := ?v15) rfl (by kernel_rfl) (by kernel_rfl) (by kernel_rfl) (fun _ _ _ h => h) (Or.inl ⟨by rfl, ?h15⟩) hHeld ?r15
    case h15 => (intro w hSw; (try dsimp only at hSw); go_simp; try with_reducible rfl)
    try simp only [Act.put, List.setIfInBounds_toArray, List.set_cons_zero, List.set_cons_succ]
    refine wpAnyH_take (i := 9) (oi := oq789) (v := ?v16) rfl (by kernel_rfl) (by kernel_rfl) (by kernel_rfl) (fun _ _ _ h => h) (Or.inl ⟨by rfl, ?h16⟩) hHeld ?r16
    case h16 => (intro w hSw; (try dsimp only at hSw); go_simp; try with_reducible rfl)
    try simp only [Act.put, List.setIfInBounds_toArray, List.set_cons_zero, List.set_cons_succ]
    refine wpAnyH_take (i := 10) (oi := oq7810) (v := ?v17) rfl (by kernel_rfl) (by kernel_rfl) (by kernel_rfl) (fun _ _ _ h => h) (Or.inl ⟨by rfl, ?h17⟩) hHeld ?r17
    case h17 => (intro w hSw; (try dsimp only at hSw); go_simp; try with_reducible rfl)
    try simp only [Act.put, List.setIfInBounds_toArray, List.set_cons_zero, List.set_cons_succ]
    refine wpAnyH_take (i := 11) (oi := oq7811) (v := ?v18) rfl (by kernel_rfl) (by kernel_rfl) (by kernel_rfl) (fun _ _ _ h => h) (Or.inl ⟨by rfl, ?h18⟩) hHeld ?r18
    case h18 => (intro w hSw; (try dsimp only at hSw); go_simp; try with_reducible rfl)
    try simp only [Act.put, List.setIfInBounds_toArray, List.set_cons_zero, List.set_cons_succ]
    refine wpAnyH_take (i := 12) (oi := oq7812) (v := ?v19) rfl (by kernel_rfl) (by kernel_rfl) (by kernel_rfl) (fun _ _ _ h => h) (Or.inl ⟨by rfl, ?h19⟩) hHeld ?r19
    case h19 => (intro w hSw; (try dsimp only at hSw); go_simp; try with_reducible rfl)
    try simp only [Act.put, List.setIfInBounds_toArray, List.set_cons_zero, List.set_cons_succ]
    refine wpAnyH_take (i := 13) (oi := oq7813) (v := ?v20) rfl (by kernel_rfl) (by kernel_rfl) (by kernel_rfl) (fun _ _ _ h => h) (Or.inl ⟨by rfl, ?h20⟩) hHeld ?r20
    case h20 => (intro w hSw; (try dsimp only at hSw); go_simp; try with_reducible rfl)
    try simp only [Act.put, List.setIfInBounds_toArray, List.set_cons_zero, List.set_cons_succ]
    refine wpAnyH_take (i := 14) (oi := oq7814) (v := ?v21) rfl (by kernel_rfl) (by kernel_rfl) (by kernel_rfl) (fun _ _ _ h => h) (Or.inl ⟨by rfl, ?h21⟩) hHeld ?r21
    case h21 => (intro w hSw; (try dsimp only at hSw); go_simp; try with_reducible rfl)
    try simp only [Act.put, List.setIfInBounds_toArray, List.set_cons_zero, List.set_cons_succ]
    refine wpAnyH_take (i := 15) (oi := oq7815) (v := ?v22) rfl (by kernel_rfl) (by kernel_rfl) (by kernel_rfl) (fun _ _ _ h => h) (Or.inl ⟨by rfl, ?h22⟩) hHeld ?r22
    case h22 => (intro w hSw; (try dsimp only at hSw); go_simp; try with_reducible rfl)
    try simp only [Act.put, List.setIfInBounds_toArray, List.set_cons_zero, List.set_cons_succ]
    refine wpAnyH_take (i := 16) (oi := oq7816) (v := ?v23) rfl (by kernel_rfl) (by kernel_rfl) (by kernel_rfl) (fun _ _ _ h => h) (Or.inl ⟨by rfl, ?h23⟩) hHeld ?r23
    case h23 => (intro w hSw; (try dsimp only at hSw); go_simp; try with_reducible rfl)
    try simp only [Act.put, List.setIfInBounds_toArray, List.set_cons_zero, List.set_cons_succ]
    refine wpAnyH_take (i := 17) (oi := oq7817) (v := ?v24) rfl (by kernel_rfl) (by kernel_rfl) (by kernel_rfl) (fun _ _ _ h => h) (Or.inl ⟨by rfl, ?h24⟩) hHeld ?r24
    case h24 => (intro w hSw; (try dsimp only at hSw); go_simp; try with_reducible rfl)
    try simp only [Act.put, List.setIfInBounds_toArray, List.set_cons_zero, List.set_cons_succ]
    refine wpAnyH_take (i := 18) (oi := oq7818) (v := ?v25) rfl (by kernel_rfl) (by kernel_rfl) (by kernel_rfl) (fun _ _ _ h => h) (Or.inl ⟨by rfl, ?h25⟩) hHeld ?r25
    case h25 => (intro w hSw; (try dsimp only at hSw); go_simp; try with_reducible rfl)
    try simp only [Act.put, List.setIfInBounds_toArray, List.set_cons_zero, List.set_cons_succ]
    refine wpAnyH_ready (rs := [20]) (by kernel_rfl) (by simp) ?_
    refine AllReadyH.cons (o := oq7820) rfl (fun K hK => ?_) AllReadyH.nil
    go_simp
    refine Calls.mono (HQ.out _ _ rfl) ?_
    rintro e w5 ⟨⟨rfl, hk1, vp5, vt5, hr5⟩, hk2, hk3⟩
    dsimp only
    have HE := (show Hid (Kp q A w w5 ∧ _) from ⟨Kp.trans (by first | exact (HK.out.drew).drewN _ | exact HK.out.drewN _ | exact HK.out.drew) hk1, hr5⟩)
    have x3 := hr5.box.cell 3 (by simp)
    have x4 := hr5.box.cell 4 (by simp)
    simp only [List.getD_cons_zero, List.getD_cons_succ] at x3 x4
    have x4e : ((r.to (y == xn) ⟨6, xn, xt⟩).place : Int) = r.place := by unfold Rn.to; split <;> rfl
    have x4f : w5.cell? ⟨q, 4, none⟩ = some (.int .i64 r.place) := by rw [← x4e]; exact x4
    have HS5 := (show Hid (w5.cell? ⟨q, 3, none⟩ = some (.slice (some ⟨bw, ow, none⟩) wd.length cw) ∧ w5.cell? ⟨q, 4, none⟩ = some (.int .i64 r.place) ∧ w5.cell? ⟨bw, ow + r.place, none⟩ = some (.int .i64 y) ∧ w5.cell? ⟨w.heap.size, 0, none⟩ = some (.int .i64 6) ∧ w5.cell? ⟨w.heap.size, 1, none⟩ = some (.int .i64 xn) ∧ w5.cell? ⟨w.heap.size, 2, none⟩ = some (.int .i64 xt)) from ⟨x3, x4f, (World.cell?_of_block (hk2.block _ hbs hbq)).trans cx, (World.cell?_of_block (hk2.block _ hBs (Nat.ne_of_gt hqB))).trans b0, (World.cell?_of_block (hk2.block _ hBs (Nat.ne_of_gt hqB))).trans b1, (World.cell?_of_block (hk2.block _ hBs (Nat.ne_of_gt hqB))).trans b2⟩)
    clear hk1 hk2 hr5 hk3
    clear hHeld
    refine hK.out _ _ (by exact HS5.out) (fun hHeld => ?_)
    clear hK K
    try simp only [Act.put, List.setIfInBounds_toArray, List.set_cons_zero, List.set_cons_succ]
    refine wpAnyH_ready (rs := [21]) (by kernel_rfl) (by simp) ?_
    refine AllReadyH.cons (o := oq7821) rfl (fun K hK => ?_) AllReadyH.nil
    go_simp
    clear hHeld
    refine hK.out _ _ (by exact HS5.out) (fun hHeld => ?_)
    clear hK K
    try simp only [Act.put, List.setIfInBounds_toArray, List.set_cons_zero, List.set_cons_succ]
    refine wpAnyH_done (by kernel_rfl) ?_ _
    (try refine NoPanic.normal ?_)
    go_wp2_with fail
    go_ret
    rw [HD.out]
    exact ⟨rfl, HE.out.1, vp5, vt5, HE.out.2⟩
end Go.Proofs.Ytilahbfcobhjeaa
