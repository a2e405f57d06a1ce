import Derived.Test.YtilahbfcobhjeaaUb1
import Derived.Test.YtilahbfcobhjeaaUb2
import Derived.Test.YtilahbfcobhjeaaUb3
import Derived.Test.YtilahbfcobhjeaaUb4
import Derived.Test.YtilahbfcobhjeaaUb5
import Derived.Test.YtilahbfcobhjeaaUb6
import Derived.Test.YtilahbfcobhjeaaPf
import Derived.ScopeJumps
import Derived.WalkMore
/-! A run of a program: the program runs. -/
namespace Go.Proofs.Ytilahbfcobhjeaa
open Go.RowKit Go.Deep
set_option linter.unusedVariables false
set_option maxRecDepth 100000
set_option linter.unusedSimpArgs false

/-- What a run leaves. -/
def RuP (RES : List Int × Int × Nat × Nat) (q : Nat) (vl vw : Value) (w : World) (c : Int) (w' : World) : Prop :=
  ∃ (r : Rn) (st : Nat) (vp vt : Value) (A : Nat), w.heap.size ≤ A ∧ RunM w' q A 78 (iC vl vw r st vp vt) vp vt r ∧ Kp q w.heap.size w w' ∧ RES = (r.told, c, r.place, st)
theorem Kp.less {q A A' : Nat} {w w' : World} (h : Kp q A w w') (hA : A' ≤ A) : Kp q A' w w' := ⟨h.os, h.tape, h.output, h.size, fun b hb hq => h.block b (by omega) hq⟩
theorem do_any {S' : Nat → Prop} (wd : List Int) (q A : Nat) (x : DIns) (hx1 : 1 ≤ x.op) (hx2 : x.op ≤ 10) (f3 : 0 ≤ x.to_) (f5 : hnB x.op = true → 0 ≤ x.n ∧ x.n ≤ 1000) (hS : ∀ b, S' b → b ≠ q) (hwl : wd.length ≤ 200) (vl vw : Value) :
    ∃ F : Nat, rwD x.op.toNat = .func (.func F) #[] #[] ∧ (∀ (args : Array Value) (w : World), (callFunc F args).run Try.prog w = .ok (.enter F args) w) ∧ ∀ (st : Nat) (vp vt : Value) (r : Rn) (w : World), RunM w q A 78 (iC vl vw r st vp vt) vp vt r → Ints w S' wd vw → r.place ≤ wd.length → r.pile.length ≤ 10000 → r.told.length ≤ 10000 →
      Calls Try.prog F #[.pointer (some ⟨q, 0, none⟩), .agg #[.int .i64 x.op, .int .i64 x.n, .int .i64 x.to_]] w fun e w' => DoA q A vl vw st (dO wd x r) w e w' := by
  have hk : x.op = 1 ∨ x.op = 2 ∨ x.op = 3 ∨ x.op = 4 ∨ x.op = 5 ∨ x.op = 6 ∨ x.op = 7 ∨ x.op = 8 ∨ x.op = 9 ∨ x.op = 10 := by omega
  rcases hk with e | e | e | e | e | e | e | e | e | e
  · exact ⟨73, by rw [e]; rfl, (fun args w => by kernel_rfl), fun st vp vt r w h hw p2 p3 p4 => do_1 wd q A st x e f3 f5 vl vw vp vt r w h hw hwl p2 p3 p4⟩
  · exact ⟨74, by rw [e]; rfl, (fun args w => by kernel_rfl), fun st vp vt r w h hw p2 p3 p4 => do_2 wd q A st x e f3 f5 vl vw vp vt r w h hw hwl p2 p3 p4⟩
  · exact ⟨75, by rw [e]; rfl, (fun args w => by kernel_rfl), fun st vp vt r w h hw p2 p3 p4 => do_3 wd q A st x e f3 f5 vl vw vp vt r w h hw hwl p2 p3 p4⟩
  · exact ⟨76, by rw [e]; rfl, (fun args w => by kernel_rfl), fun st vp vt r w h hw p2 p3 p4 => do_4 wd q A st x e f3 f5 vl vw vp vt r w h hw hwl p2 p3 p4⟩
  · exact ⟨77, by rw [e]; rfl, (fun args w => by kernel_rfl), fun st vp vt r w h hw p2 p3 p4 => do_5 wd q A st x e f3 f5 vl vw vp vt r w h hw hwl p2 p3 p4⟩
  · exact ⟨78, by rw [e]; rfl, (fun args w => by kernel_rfl), fun st vp vt r w h hw p2 p3 p4 => do_6 wd q A st x e f3 f5 vl vw vp vt r w h hw hS hwl p2 p3 p4⟩
  · exact ⟨79, by rw [e]; rfl, (fun args w => by kernel_rfl), fun st vp vt r w h hw p2 p3 p4 => do_7 wd q A st x e f3 f5 vl vw vp vt r w h hw hwl p2 p3 p4⟩
  · exact ⟨80, by rw [e]; rfl, (fun args w => by kernel_rfl), fun st vp vt r w h hw p2 p3 p4 => do_8 wd q A st x e f3 f5 vl vw vp vt r w h hw hS hwl p2 p3 p4⟩
  · exact ⟨81, by rw [e]; rfl, (fun args w => by kernel_rfl), fun st vp vt r w h hw p2 p3 p4 => do_9 wd q A st x e f3 f5 vl vw vp vt r w h hw hwl p2 p3 p4⟩
  · exact ⟨83, by rw [e]; rfl, (fun args w => by kernel_rfl), fun st vp vt r w h hw p2 p3 p4 => do_10 wd q A st x e f3 f5 vl vw vp vt r w h hw hwl p2 p3 p4⟩
/-- How many steps the box tells. -/
def stOf (w : World) (q : Nat) : Nat := match w.cell? ⟨q, 2, none⟩ with | some (.int _ i) => i.toNat | _ => 0
theorem stOf_eq {w : World} {q n : Nat} (h : w.cell? ⟨q, 2, none⟩ = some (.int .i64 n)) : stOf w q = n := by
  unfold stOf
  rw [h]
  simp
/-- What stands at the head of the program's loop. -/
def LpI (l : List DIns) (wd : List Int) (fl : Nat) (RES : List Int × Int × Nat × Nat) (q A g : Nat) (vl vw : Value) (w2 wr : World) (n : Nat) (r : Rn) (vp vt : Value) : Prop :=
  RunM wr q A 78 (iC vl vw r n vp vt) vp vt r ∧ Kp q A w2 wr ∧ TbL wr g ∧ r.Ok l wd ∧ rnF l wd (fl - n) n r = RES
set_option maxHeartbeats 6400000 in
theorem run45 {S S' : Nat → Prop} (l : List DIns) (wd : List Int) (fl q : Nat) (vl vw : Value) (w : World) (hfl : fl ≤ 1000000) (hbx : Box w q 78 (iC vl vw ⟨0, 0, [], []⟩ 0 (.slice none 0 0) (.slice none 0 0))) (hl : InsR w S l vl) (hw : Ints w S' wd vw) (hSl : ∀ b, S b → b < w.heap.size ∧ b ≠ q) (hS : ∀ b, S' b → b < w.heap.size ∧ b ≠ q) (hwl : wd.length ≤ 200) (hp : pgB l = true) :
    Calls Try.prog 45 #[.pointer (some ⟨q, 0, none⟩), .int .i64 fl] w fun e w' => ∃ c, e = .returned (.int .i64 c) ∧ RuP (rnF l wd fl 0 ⟨0, 0, [], []⟩) q vl vw w c w' := by
  generalize hRES : rnF l wd fl 0 ⟨0, 0, [], []⟩ = RES
  have HRES := (show Hid _ from hRES); clear hRES
  have hqs := hbx.lt
  have hb2 := bel2 w (.cells tbA 65) (.cells tbA 65)
  have htb : TbL ((w.alloc (.cells tbA 65)).alloc (.cells tbA 65)) (w.heap.size + 1) := by have := TbL.new (w.alloc (.cells tbA 65)); simpa using this
  have HR0 := (show Hid (RunM ((w.alloc (.cells tbA 65)).alloc (.cells tbA 65)) q (w.heap.size + 2) 78 (iC vl vw ⟨0, 0, [], []⟩ 0 (.slice none 0 0) (.slice none 0 0)) (.slice none 0 0) (.slice none 0 0) ⟨0, 0, [], []⟩) from ⟨hbx.still hb2, ⟨rfl, .inl ⟨rfl, rfl⟩⟩, ⟨rfl, .inl ⟨rfl, rfl⟩⟩, (fun b e => by cases e), by omega, by simp⟩)
  have HTB := (show Hid _ from htb); clear htb
  have HL := (show Hid (InsR ((w.alloc (.cells tbA 65)).alloc (.cells tbA 65)) S l vl) from hl.still hb2)
  have HW := (show Hid (Ints ((w.alloc (.cells tbA 65)).alloc (.cells tbA 65)) S' wd vw) from hw.still hb2)
  obtain ⟨al, cl, rfl, _⟩ := hl.form
  have HRW := (show Hid _ from rows36 w)
  have hst := sto65g (w.alloc (.cells tbA 65)) (w.heap.size + 1) (by simp)
  have hz := zr65
  have HSL := (show Hid _ from hSl)
  have HS := (show Hid _ from hS)
  have HOK := (show Hid (Rn.Ok l wd ⟨0, 0, [], []⟩) from ⟨pg_pos hp, Nat.zero_le _, Nat.zero_le _, Nat.zero_le _⟩)
  have HPG := (show Hid _ from hp)
  clear hl hw hbx hb2 hSl hS hp
  have HKW := (show Hid (Kp q w.heap.size w ((w.alloc (.cells tbA 65)).alloc (.cells tbA 65))) from Kp.of_bel (bel2 _ _ _) (Nat.le_refl _))
  have HLA : Hid (w.heap.size ≤ w.heap.size + 2) := Nat.le_add_right _ _
  have hqA : q < w.heap.size + 2 := by omega
  have HGA : Hid (w.heap.size + 1 < w.heap.size + 2 ∧ w.heap.size + 1 ≠ q) := ⟨by omega, by omega⟩
  have HSL2 := (show Hid (∀ b, S b → b < w.heap.size + 2 ∧ b ≠ q) from fun b hb => ⟨by have := (HSL.out b hb).1; omega, (HSL.out b hb).2⟩)
  have HS2 := (show Hid (∀ b, S' b → b < w.heap.size + 2 ∧ b ≠ q) from fun b hb => ⟨by have := (HS.out b hb).1; omega, (HS.out b hb).2⟩)
  clear HSL HS
  go_enter Try.func45, Try.ntmps45
  go_wp2_with fail
  generalize w.heap.size + 2 = A at *
  refine wp_scope_jumps 0 (fun a' w' => ∃ (c : Int) (u0 u1 u2 u3 u4 u5 u7 u8 u9 u10 u11 u12 u13 u14 u15 u16 u17 u18 u19 u20 u21 u22 u23 u24 u25 u26 u27 u28 u29 u30 u31 u32 u33 u34 u35 u36 u37 u38 u39 u40 u41 u42 u43 u44 u45 u46 u47 u48 u49 : Value), a' = { tmps := #[u0, u1, u2, u3, u4, u5, .int .i64 c, u7, u8, u9, u10, u11, u12, u13, u14, u15, u16, u17, u18, u19, u20, u21, u22, u23, u24, u25, u26, u27, u28, u29, u30, u31, u32, u33, u34, u35, u36, u37, u38, u39, u40, u41, u42, u43, u44, u45, u46, u47, u48, u49], defers := [] } ∧ RuP RES q (.slice al l.length cl) vw w c w') (fun _ _ => 0) rfl ?_ ?_
  case refine_2 =>
    rintro a' w' ⟨c, u0, u1, u2, u3, u4, u5, u7, u8, u9, u10, u11, u12, u13, u14, u15, u16, u17, u18, u19, u20, u21, u22, u23, u24, u25, u26, u27, u28, u29, u30, u31, u32, u33, u34, u35, u36, u37, u38, u39, u40, u41, u42, u43, u44, u45, u46, u47, u48, u49, rfl, hJ⟩
    have HJ := (show Hid _ from hJ); clear hJ
    go_wp2_with fail
    simp only [Exit.jump]
    go_ret
    exact ⟨c, rfl, HJ.out⟩
  go_wp2_with fail
  refine Calls.mono HRW.out ?_
  rintro e w1 ⟨rfl, rfl⟩
  go_wp2_with fail
  generalize (w.alloc (.cells tbA 65)).alloc (.cells tbA 65) = w2 at *
  generalize w.heap.size + 1 = g at *
  go_loopw [6] (fun _ wr => ∃ (n : Nat) (r : Rn) (vp vt : Value), n ≤ fl ∧ Hid (LpI l wd fl RES q A g (.slice al l.length cl) vw w2 wr n r vp vt)) (fun _ wr => fl - stOf wr q)
  case atStart => exact ⟨0, ⟨0, 0, [], []⟩, _, _, Nat.zero_le _, HR0.out, Kp.refl _ _ _, HTB.out, HOK.out, HRES.out⟩
  case round =>
    obtain ⟨n, r, vp, vt, hn, HLP⟩ := hrel
    obtain ⟨hr, hk, ht, ho, hrn⟩ := HLP.out
    have HR := (show Hid (RunM wr q A 78 (iC (.slice al l.length cl) vw r n vp vt) vp vt r) from hr)
    have HK := (show Hid _ from hk)
    have HT := (show Hid (TbL wr g) from ht)
    have HO := (show Hid (r.Ok l wd) from ho)
    have HRN := (show Hid _ from hrn)
    have k0 := hr.box.cell 0 (by simp)
    have k1 := hr.box.cell 1 (by simp)
    have k2 := hr.box.cell 2 (by simp)
    simp only [List.getD_cons_zero, List.getD_cons_succ] at k0 k1 k2
    have HSO := (show Hid _ from stOf_eq k2)
    have hAr := hr.hA
    have hqr := hr.box.lt
    have hpc := ho.pc
    clear hr hk ht ho hrn HLP hst HR0 HTB HRES HOK HRW
    by_cases hlt : n < fl
    case neg =>
      have HF := (show Hid (RES = (r.told, 11, r.place, n)) from by rw [← HRN.out, show fl - n = 0 by omega]; rfl)
      go_wp2_with fail
      go_step3
      go_wp2_with fail
      simp only [Exit.jump]
      go_ret
      exact ⟨11, rfl, r, n, vp, vt, A, HLA.out, HR.out, HKW.out.trans (HK.out.less HLA.out), HF.out⟩
    obtain ⟨a', cap', b, off, hv, hc', hm', ha', hcell'⟩ := (HL.out.keep (fun b hb _ => HK.out.block b (HSL2.out b hb).1 (HSL2.out b hb).2) : InsR wr S l (.slice al l.length cl))
    obtain ⟨rfl, rfl⟩ : al = a' ∧ cl = cap' := by injection hv with h1 h2 h3; exact ⟨h1, h3⟩
    obtain ⟨rfl, _⟩ := ha' (by omega)
    obtain ⟨c0, c1, c2⟩ := hcell' r.pc hpc
    have HX := (show Hid (insAt l r.pc = l[r.pc]) from insAt_at hpc)
    obtain ⟨hin, hlen, _⟩ := pg_at HPG.out hpc
    obtain ⟨f1, f2, f3, f4, f5, f6⟩ := in_facts hin
    clear hcell' ha' hv hc' hm' hin f4 f6
    obtain ⟨k, hk⟩ : ∃ k : Nat, l[r.pc].op = k := ⟨l[r.pc].op.toNat, by omega⟩
    obtain ⟨F, hF, hcf, hD⟩ := do_any (S' := S') wd q A l[r.pc] f1 f2 f3 f5 (fun b hb => (HS2.out b hb).2) hwl (.slice (some ⟨b, off, none⟩) l.length cl) vw
    rw [hk, Int.toNat_natCast] at hF
    have HD := (show Hid _ from hD); clear hD
    have hk10 : k ≤ 10 := by omega
    have k11 : (k : Int) < 11 := by omega
    have HNX := (show Hid ((dO wd l[r.pc] r.nx).1 = -1 → (dO wd l[r.pc] r.nx).2.Ok l wd ∧ rnF l wd (fl - (n + 1)) (n + 1) (dO wd l[r.pc] r.nx).2 = RES) from fun h => by
      rw [← HX.out] at h ⊢
      exact ⟨dO_ok HPG.out HO.out h, by rw [← HRN.out, show fl - n = (fl - (n + 1)) + 1 by omega, rnF_on h]⟩)
    have HNF := (show Hid (¬ (dO wd l[r.pc] r.nx).1 = -1 → RES = ((dO wd l[r.pc] r.nx).2.told, (dO wd l[r.pc] r.nx).1, (dO wd l[r.pc] r.nx).2.place, n + 1)) from fun h => by
      rw [← HX.out] at h ⊢
      rw [← HRN.out, show fl - n = (fl - (n + 1)) + 1 by omega, rnF_stop h])
    rw [hk] at c0 HD
    generalize l[r.pc] = x at *
    generalize x.n = xn at *
    generalize x.to_ = xt at *
    have hbs : b < wr.heap.size := lt_of_cell c0
    have H1 := (show Hid (RunM (wr.alloc (.cells #[.int .i64 k, .int .i64 xn, .int .i64 xt] 57)).drew q A 78 (iC (.slice (some ⟨b, off, none⟩) l.length cl) vw r n vp vt) vp vt r ∧ Kp q A w2 (wr.alloc (.cells #[.int .i64 k, .int .i64 xn, .int .i64 xt] 57)).drew ∧ TbL (wr.alloc (.cells #[.int .i64 k, .int .i64 xn, .int .i64 xt] 57)).drew g ∧ Box (wr.alloc (.cells #[.int .i64 k, .int .i64 xn, .int .i64 xt] 57)).drew wr.heap.size 57 [.int .i64 k, .int .i64 xn, .int .i64 xt]) from
      ⟨(HR.out.still (bel_alloc _ _)).still ((Below.refl _ _).drew), (HK.out.alloc hAr _).drew, (HT.out.still (bel_alloc _ _)).still ((Below.refl _ _).drew), Box.keep (Box.new wr 57 [.int .i64 k, .int .i64 xn, .int .i64 xt]) rfl⟩)
    go_wp2_with fail
    go_cut [7] from 15 to 24 (fun v wx => ∃ B : Nat, v = .pointer (some ⟨B, 0, none⟩) ∧ B ≠ q ∧ Hid (RunM wx q A 78 (iC (.slice (some ⟨b, off, none⟩) l.length cl) vw r n vp vt) vp vt r ∧ Kp q A w2 wx ∧ TbL wx g ∧ Box wx B 57 [.int .i64 k, .int .i64 xn, .int .i64 xt]))
    case first =>
      go_region
      all_goals
        go_wp2_with fail
        go_meet
        exact ⟨wr.heap.size, rfl, by omega, H1.out⟩
    case rest =>
      obtain ⟨B, rfl, hBq, H9⟩ := hcut
      obtain ⟨wy, rfl⟩ : ∃ wy, wy = wc := ⟨_, rfl⟩
      have j1 := H9.out.1.box.cell 1 (by simp)
      have j2 := H9.out.1.box.cell 2 (by simp)
      have e1 := H9.out.1.box.frozen 1
      have e2 := H9.out.1.box.frozen 2
      simp only [List.getD_cons_zero, List.getD_cons_succ] at j1 j2
      have kw1 : IntKind.i64.wrap ((r.pc : Int) + 1) = (r.pc : Int) + 1 := by simp [IntKind.wrap, IntKind.bits, IntKind.signed]; omega
      have kw2 : IntKind.i64.wrap ((n : Int) + 1) = (n : Int) + 1 := by simp [IntKind.wrap, IntKind.bits, IntKind.signed]; omega
      have hgq : g ≠ q := HGA.out.2
      have HZ := (show Hid (RunM ((wy.setCell ⟨q, 2, none⟩ (.int .i64 ((n : Int) + 1))).setCell ⟨q, 1, none⟩ (.int .i64 ((r.pc : Int) + 1))) q A 78 (iC (.slice (some ⟨b, off, none⟩) l.length cl) vw r.nx (n + 1) vp vt) vp vt r.nx ∧ Kp q A w2 ((wy.setCell ⟨q, 2, none⟩ (.int .i64 ((n : Int) + 1))).setCell ⟨q, 1, none⟩ (.int .i64 ((r.pc : Int) + 1))) ∧ TbL ((wy.setCell ⟨q, 2, none⟩ (.int .i64 ((n : Int) + 1))).setCell ⟨q, 1, none⟩ (.int .i64 ((r.pc : Int) + 1))) g ∧ Box ((wy.setCell ⟨q, 2, none⟩ (.int .i64 ((n : Int) + 1))).setCell ⟨q, 1, none⟩ (.int .i64 ((r.pc : Int) + 1))) B 57 [.int .i64 k, .int .i64 xn, .int .i64 xt]) from
        ⟨((H9.out.1.set 2 (.int .i64 ((n : Int) + 1))).set 1 (.int .i64 ((r.pc : Int) + 1))).turn rfl rfl, (H9.out.2.1.set 2 _).set 1 _, (H9.out.2.2.1.keep (blk_setCell_other _ _ _ _ (by exact hgq))).keep (blk_setCell_other _ _ _ _ (by exact hgq)), (H9.out.2.2.2.past hBq).past hBq⟩)
      clear c0 c1 c2 k0 k1 k2 H1 H9
      go_wp2_with fail
      clear j1 j2 e1 e2
      generalize (wy.setCell ⟨q, 2, none⟩ (.int .i64 ((n : Int) + 1))).setCell ⟨q, 1, none⟩ (.int .i64 ((r.pc : Int) + 1)) = wz at *
      have HCALL := (show Hid _ from HD.out (n + 1) vp vt r.nx wz.drew (by exact RunM.keep HZ.out.1 (by exact Nat.le_refl _) (fun _ _ => rfl)) (HW.out.keep (fun b hb _ => HZ.out.2.1.block b (HS2.out b hb).1 (HS2.out b hb).2)) HO.out.place HO.out.pile HO.out.told)
      have y0 := HZ.out.2.2.2.cell 0 (by simp)
      have y1 := HZ.out.2.2.2.cell 1 (by simp)
      have y2 := HZ.out.2.2.2.cell 2 (by simp)
      simp only [List.getD_cons_zero, List.getD_cons_succ] at y0 y1 y2
      obtain ⟨_, _, _, _, r4⟩ := HZ.out.2.2.1.row k hk10
      rw [hF] at r4
      have HKZ := (show Hid _ from HZ.out.2.1)
      have HTZ := (show Hid (TbL wz g) from HZ.out.2.2.1)
      generalize dO wd x r.nx = d at *
      clear HZ hF HD
      go_region_with (refine Calls.mono HCALL.out ?_; rintro e w5 ⟨rfl, hk5, vp5, vt5, hr5⟩)
      all_goals
        have HE := (show Hid (RunM w5 q A 78 (iC (.slice (some ⟨b, off, none⟩) l.length cl) vw d.2 (n + 1) vp5 vt5) vp5 vt5 d.2 ∧ Kp q A w2 w5 ∧ TbL w5 g) from ⟨hr5, (HKZ.out.drew).trans hk5, HTZ.out.keep (hk5.block g HGA.out.1 HGA.out.2)⟩)
        have HM := (show Hid _ from stOf_eq (n := n + 1) (hr5.box.cell 2 (by simp)))
        clear hk5 hr5 y0 y1 y2 r4
        by_cases hd : d.1 = -1
        · have HN9 := (show Hid _ from HNX.out hd)
          have q1 : (d.1 != -1) = false := by simp [hd]
          go_wp2_with fail
          exact ⟨⟨n + 1, d.2, vp5, vt5, by omega, HE.out.1, HE.out.2.1, HE.out.2.2, HN9.out.1, HN9.out.2⟩, by rw [HSO.out, HM.out]; omega⟩
        · have HN9 := (show Hid _ from HNF.out hd)
          have q1 : (d.1 != -1) = true := by simpa using hd
          go_wp2_with fail
          go_step3
          exact ⟨rfl, d.1, _, _, _, _, _, _, _, _, _, _, _, _, _, _, _, _, _, _, _, _, _, _, _, _, _, _, _, _, _, _, _, _, _, _, _, _, _, _, _, _, _, _, _, _, _, _, _, _, _, rfl, d.2, n + 1, vp5, vt5, A, HLA.out, HE.out.1, HKW.out.trans (HE.out.2.1.less HLA.out), HN9.out⟩
end Go.Proofs.Ytilahbfcobhjeaa
