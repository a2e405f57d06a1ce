import Derived.Test.YthmdoplickpmaaiRxS5
namespace Go.Proofs.Ythmdoplickpmaai
open Go.RowKit Go.Deep Go.Lib
set_option linter.unusedVariables false
set_option maxRecDepth 100000
set_option linter.unusedSimpArgs false

theorem moreQ {p k c : Nat} {s : ByteArray} {g : Option Nat} (w : World) (h : Rd w p s k c g) {r : Bool} (hr : decide (k < s.size) = r) (n : Nat) :
    Calls Try.prog 50 #[.pointer (some ⟨p, 0, none⟩)] (w.drewN n) fun e w' => e = .returned (.bool r) ∧ ∃ m, w' = (w.drewN n).drewN m :=
  (more_ok (w.drewN n) (h.drewN n)).mono fun e w' ⟨h1, h2⟩ => ⟨by rw [h1, hr], h2⟩
theorem moreQb {p j c : Nat} {s : ByteArray} {g : Option Nat} (w : World) (h : Bd w p s j c g) (n : Nat) :
    Calls Try.prog 50 #[.pointer (some ⟨p, 0, none⟩)] (w.drewN n) fun e w' => e = .returned (.bool false) ∧ ∃ m, w' = (w.drewN n).drewN m := more_bad (w.drewN n) (h.drewN n)
theorem ne_of {b c : UInt8} (h : ¬ b = c) : ((b.toNat : Int) == (c.toNat : Int)) = false := by
  rw [beq_eq_false_iff_ne]
  intro e
  exact h (UInt8.toNat_inj.1 (by omega))
theorem sIn_ok : ∀ b : UInt8, b ≠ 92 → ([93, 45, 94] : List UInt8).contains b = sIn.contains b := by
  intro b hb
  unfold sIn
  simp [hb]

set_option maxHeartbeats 6400000 in
theorem items_s {p B k c : Nat} {s : ByteArray} {g : Option Nat} (w : World) (h : Rd w p s k c g) (hN : Node w B) (hB : B ≠ p) (hgB : g ≠ some B) :
    Calls Try.prog 79 #[.pointer (some ⟨p, 0, none⟩), .pointer (some ⟨B, 0, none⟩)] w fun e w' => e = .returned (.tuple #[]) ∧ Ob p B g w w' ∧ Node w' B ∧ SO (xBeh s k) p s c g w' := by
  have hs := h.small
  have hk := h.1
  obtain ⟨x0, x1, x2, y1, y2, _⟩ := h.cells
  have HX := (show Hid _ from (⟨h, hN⟩ : Rd w p s k c g ∧ Node w B)); clear h hN
  have hbeh : xBeh s k = fin (xMore s true (if seesB s k 94 then k + 1 else k)) := rfl
  rw [hbeh]
  clear hbeh
  have h94d : seesB s k 94 = (decide (k < s.size) && (s.get! k == 94)) := rfl
  generalize seesB s k 94 = nt at *
  have HNT := (show Hid _ from h94d); clear h94d
  generalize hRR : fin (xMore s true (if nt = true then k + 1 else k)) = RR
  have HRR := (show Hid _ from hRR); clear hRR
  go_enter Try.func79, Try.ntmps79
  go_upto_region 0 with fail
  go_cut [4] from 11 to 24 (fun v wx => v = .bool nt ∧ Hid (∃ m, wx = w.drewN m))
  case first =>
    by_cases hlt : k < s.size
    · have hlt' : (k : Int) < s.size := by omega
      have hg := get!_eq s k hlt
      have HQ := (show Hid _ from fun n => moreQ w HX.out.1 (r := true) (by simp [hlt]) n)
      by_cases he : s[k] = 94
      · have hq : ((s[k].toNat : Int) == 94) = true := by rw [he]; simp
        have HR : Hid (nt = true) := by show nt = true; rw [HNT.out, hg, he]; simp [hlt]
        clear he hg
        go_quiet ((go_at_call 50; refine Calls.quiet_of (HQ.out _)))
        go_wp2_with fail
        go_meet
        exact ⟨by rw [HR.out], _, rfl⟩
      · have hq : ((s[k].toNat : Int) == 94) = false := ne_of he
        have HR : Hid (nt = false) := by show nt = false; rw [HNT.out, hg]; simp [he]
        clear he hg
        go_quiet ((go_at_call 50; refine Calls.quiet_of (HQ.out _)))
        go_wp2_with fail
        go_meet
        exact ⟨by rw [HR.out], _, rfl⟩
    · have HQ := (show Hid _ from fun n => moreQ w HX.out.1 (r := false) (by simp [hlt]) n)
      have HR : Hid (nt = false) := by show nt = false; rw [HNT.out]; simp [hlt]
      go_quiet ((go_at_call 50; refine Calls.quiet_of (HQ.out _)))
      go_wp2_with fail
      go_meet
      exact ⟨by rw [HR.out], _, rfl⟩
  case rest =>
    obtain ⟨rfl, HC⟩ := hcut
    have hX1 : Rd wc p s k c g ∧ Node wc B ∧ Ob p B g w wc := by
      obtain ⟨m, rfl⟩ := HC.out
      exact ⟨HX.out.1.drewN m, HX.out.2.drewN m, (Ob.refl p B g w).drewN m⟩
    clear HC HX x0 x1 x2 y1 y2
    obtain ⟨x0, x1, x2, y1, y2, _⟩ := hX1.1.cells
    have HX1 := (show Hid _ from hX1); clear hX1
    go_upto_if 25 with fail
    go_cut [] from 25 to 32 (fun wx => ∃ k1 : Nat, k1 ≤ s.size ∧ Hid (Rd wx p s k1 c g ∧ Node wx B ∧ Ob p B g w wx ∧ fin (xMore s true k1) = RR))
    case first =>
      cases nt
      case true =>
        have hlt : k < s.size := by
          have := HNT.out
          simp at this
          exact this.1
        have HE : Hid (fin (xMore s true (k + 1)) = RR) := HRR.out
        have H2 := (show Hid _ from (⟨(HX1.out.1.adv hlt).mono (by omega), HX1.out.2.1.mv (Mv.set1 1 (.int .i64 ((k : Int) + 1))) hB hgB, HX1.out.2.2.trans (Ob.mv (Mv.set1 1 (.int .i64 ((k : Int) + 1))))⟩ : Rd (wc.setCell ⟨p, 1, none⟩ (.int .i64 ((k : Int) + 1))) p s (k + 1) c g ∧ Node (wc.setCell ⟨p, 1, none⟩ (.int .i64 ((k : Int) + 1))) B ∧ Ob p B g w (wc.setCell ⟨p, 1, none⟩ (.int .i64 ((k : Int) + 1)))))
        go_wp2_with fail
        go_meet
        exact ⟨k + 1, hlt, H2.out.1, H2.out.2.1, H2.out.2.2, HE.out⟩
      case false =>
        have HE : Hid (fin (xMore s true k) = RR) := HRR.out
        go_wp2_with fail
        go_meet
        exact ⟨k, hk, HX1.out.1, HX1.out.2.1, HX1.out.2.2, HE.out⟩
    case rest =>
      obtain ⟨k1, hk1, HC1⟩ := hcut
      clear x0 x1 x2 y1 y2 HX1 HRR HNT
      go_wp2_with fail
      go_loopw [5] (fun fl wr => ∃ (b : Bool) (k' : Nat), fl = .bool b ∧ k' ≤ s.size ∧ Hid (Rd wr p s k' c g ∧ Node wr B ∧ Ob p B g w wr ∧ fin (xMore s b k') = RR)) (fun _ wr => s.size - (intOf ((wr.cell? ⟨p, 1, none⟩).getD (.bool false))).toNat)
      case atStart => exact ⟨true, k1, rfl, hk1, HC1⟩
      case round =>
        clear HC1 hk1
        obtain ⟨b, k', rfl, hk', HR⟩ := hrel
        obtain ⟨x0, x1, x2, y1, y2, _⟩ := HR.out.1.cells
        have HM2 := (show Hid _ from x1)
        generalize hon : onB s b k' = on
        have HON := (show Hid _ from hon); clear hon
        go_upto_region 4 with fail
        go_cut [49] from 33 to 48 (fun v wx => v = .bool on ∧ Hid (∃ m, wx = wr.drewN m))
        case first =>
          cases b
          case true =>
            have HT : Hid (on = true) := by show on = true; rw [← HON.out]; rfl
            go_quiet (fail)
            go_wp2_with fail
            go_meet
            exact ⟨by rw [HT.out], _, rfl⟩
          case false =>
            by_cases hlt : k' < s.size
            · have hlt' : (k' : Int) < s.size := by omega
              have hg := get!_eq s k' hlt
              have HQ := (show Hid _ from fun n => moreQ wr HR.out.1 (r := true) (by simp [hlt]) n)
              by_cases he : s[k'] = 93
              · have hq : ((s[k'].toNat : Int) == 93) = true := by rw [he]; simp
                have hq2 : ((s[k'].toNat : Int) != 93) = false := by rw [he]; simp
                have hq3 : ¬ ((s[k'].toNat : Int) ≠ 93) := by rw [he]; simp
                have HT : Hid (on = false) := by show on = false; rw [← HON.out]; unfold onB seesB; rw [hg, he]; simp [hlt]
                clear he hg
                go_quiet ((go_at_call 50; refine Calls.quiet_of (HQ.out _)))
                go_wp2_with fail
                go_meet
                exact ⟨by rw [HT.out], _, rfl⟩
              · have hq : ((s[k'].toNat : Int) == 93) = false := ne_of he
                have hq2 : ((s[k'].toNat : Int) != 93) = true := by simpa [bne] using hq
                have HT : Hid (on = true) := by show on = true; rw [← HON.out]; unfold onB seesB; rw [hg]; simp [hlt, he]
                clear he hg
                go_quiet ((go_at_call 50; refine Calls.quiet_of (HQ.out _)))
                go_wp2_with fail
                go_meet
                exact ⟨by rw [HT.out], _, rfl⟩
            · have HQ := (show Hid _ from fun n => moreQ wr HR.out.1 (r := false) (by simp [hlt]) n)
              have HT : Hid (on = false) := by show on = false; rw [← HON.out]; unfold onB; simp [hlt]
              go_quiet ((go_at_call 50; refine Calls.quiet_of (HQ.out _)))
              go_wp2_with fail
              go_meet
              exact ⟨by rw [HT.out], _, rfl⟩
        case rest =>
          obtain ⟨rfl, HC2⟩ := hcut
          have hX2 : Rd wc p s k' c g ∧ Node wc B ∧ Ob p B g w wc := by
            obtain ⟨m, rfl⟩ := HC2.out
            exact ⟨HR.out.1.drewN m, HR.out.2.1.drewN m, HR.out.2.2.1.drewN m⟩
          have HF := (show Hid _ from HR.out.2.2.2)
          clear HC2 HR x0 x1 x2 y1 y2
          obtain ⟨x0, x1, x2, y1, y2, _⟩ := hX2.1.cells
          have HX2 := (show Hid _ from hX2); clear hX2
          cases on
          case false =>
            have hstop := HF.out
            rw [xMore_stop hk' HON.out] at hstop
            clear HON HF
            have HST := (show Hid _ from hstop); clear hstop
            by_cases hlt : k' < s.size
            · have HM := (show Hid _ from more_st wc HX2.out.1 (r := true) (by simp [hlt]))
              have HE : Hid (RR = .ok (k' + 1)) := by
                have := HST.out
                rw [if_pos hlt] at this
                exact this.symm
              go_wp2_with fail
              refine Calls.mono HM.out ?_
              rintro e w3 ⟨rfl, h3, v3⟩
              clear x0 x1 x2 y1 y2
              obtain ⟨x0, x1, x2, y1, y2, _⟩ := h3.cells
              have hset := Mv.set1 (p := p) (g := g) (w := w3) 1 (.int .i64 ((k' : Int) + 1))
              have H4 := (show Hid _ from (⟨(h3.adv hlt).mono (by omega), (HX2.out.2.1.mv v3 hB hgB).mv hset hB hgB, (HX2.out.2.2.trans (Ob.mv v3)).trans (Ob.mv hset)⟩ : Rd (w3.setCell ⟨p, 1, none⟩ (.int .i64 ((k' : Int) + 1))) p s (k' + 1) c g ∧ Node (w3.setCell ⟨p, 1, none⟩ (.int .i64 ((k' : Int) + 1))) B ∧ Ob p B g w (w3.setCell ⟨p, 1, none⟩ (.int .i64 ((k' : Int) + 1))))); clear h3 v3 hset
              go_wp2_with fail
              generalize w3.setCell ⟨p, 1, none⟩ (.int .i64 ((k' : Int) + 1)) = W4 at *
              clear x0 x1 x2 y1 y2
              go_loopw [10] (fun i wr => ∃ j : Nat, i = .int .i64 j ∧ j ≤ 256 ∧ Hid (Rd wr p s (k' + 1) c g ∧ Node wr B ∧ Ob p B g w wr)) (fun i _ => 256 - (intOf i).toNat)
              case atStart => exact ⟨0, rfl, by omega, H4⟩
              case round =>
                obtain ⟨j, rfl, hj, HJ⟩ := hrel
                by_cases hj2 : j < 256
                · have hj2' : (j : Int) < 256 := by omega
                  cases nt
                  case false =>
                    go_wp2_with fail
                    go_end0
                    exact ⟨rfl, HJ.out.2.2, HJ.out.2.1, by rw [HE.out]; exact HJ.out.1⟩
                  case true =>
                    obtain ⟨⟨bb, c0⟩, f0⟩ := HJ.out.2.1.cell j hj2
                    have c0' : wr.cell? ⟨B, 1 + j, none⟩ = some (.bool bb) := by rw [Nat.add_comm]; exact c0
                    have f0' : wr.frozen? ⟨B, 1 + j, none⟩ = false := by rw [Nat.add_comm]; exact f0
                    go_wp2_with fail
                    go_region
                    all_goals
                      have hset : Out B (B + 1) wr (wr.setCell ⟨B, 1 + j, none⟩ (.bool !bb)).drew := Out.drew' (Out.set (o := 1 + j) wr _ (Nat.le_refl B) (Nat.lt_succ_self B))
                      have hnode : Node (wr.setCell ⟨B, 1 + j, none⟩ (.bool !bb)).drew B := by
                        have := HJ.out.2.1.set j (!bb)
                        rw [Nat.add_comm] at this
                        exact this.keep rfl
                      have H6 := (show Hid _ from (⟨HJ.out.1.out hset hB hgB, hnode, HJ.out.2.2.trans (Ob.out hset)⟩ : Rd (wr.setCell ⟨B, 1 + j, none⟩ (.bool !bb)).drew p s (k' + 1) c g ∧ Node (wr.setCell ⟨B, 1 + j, none⟩ (.bool !bb)).drew B ∧ Ob p B g w (wr.setCell ⟨B, 1 + j, none⟩ (.bool !bb)).drew)); clear hset hnode
                      go_wp2_with fail
                      exact ⟨⟨j + 1, by go_num, by omega, H6⟩, by simp [intOf]; omega⟩
                · have hj3 : (256 : Int) ≤ j := by omega
                  cases nt
                  all_goals
                    go_wp2_with fail
                    go_end0
                    exact ⟨rfl, HJ.out.2.2, HJ.out.2.1, by rw [HE.out]; exact HJ.out.1⟩
            · have HM := (show Hid _ from more_st wc HX2.out.1 (r := false) (by simp [hlt]))
              have HE : Hid (RR = .error k') := by
                have := HST.out
                rw [if_neg hlt] at this
                exact this.symm
              go_wp2_with fail
              refine Calls.mono HM.out ?_
              rintro e w3 ⟨rfl, h3, v3⟩
              clear x0 x1 x2 y1 y2
              obtain ⟨x0, x1, x2, y1, y2, _⟩ := h3.cells
              have HFL := (show Hid _ from (⟨fail_at w3 h3, HX2.out.2.1.mv v3 hB hgB, HX2.out.2.2.trans (Ob.mv v3)⟩ : _ ∧ Node w3 B ∧ Ob p B g w w3)); clear h3 v3
              go_wp2_with fail
              refine Calls.mono HFL.out.1 ?_
              rintro e w4 ⟨rfl, h4, v4, _⟩
              have H5 := (show Hid _ from (⟨h4, HFL.out.2.1.mv v4 hB hgB, HFL.out.2.2.trans (Ob.mv v4)⟩ : Bd w4 p s k' c g ∧ Node w4 B ∧ Ob p B g w w4)); clear h4 v4
              go_wp2_with fail
              refine bodyPost_ret (v := .tuple #[]) (by simp [results, Try.results79]) rfl ?_
              exact ⟨rfl, H5.out.2.2, H5.out.2.1, by rw [HE.out]; exact H5.out.1⟩
          case true =>
            have hgo := HF.out
            rw [xMore_go hk' HON.out] at hgo
            clear HON HF
            have HGO := (show Hid _ from hgo); clear hgo
            have hcl := one_s sIn ⟨#[93, 45, 94]⟩ (fun b hb => sIn_ok b hb) (by decide) wc HX2.out.1
            have hin1 := xOne_in (l := sIn) hk'
            cases hx1 : xOne sIn s k' with
            | error j =>
              have hxi : xItem s k' = .error j := by unfold xItem; rw [hx1]
              have HE : Hid (RR = .error j) := by
                have := HGO.out
                rw [hxi] at this
                exact this.symm
              rw [hx1] at hcl
              have HCL := (show Hid _ from hcl); clear hcl hxi hx1 hin1 HGO
              go_wp2_with fail
              refine Calls.mono HCL.out ?_
              rintro e w1 ⟨⟨z, hz, rfl, h1⟩, v1⟩
              have HQ := (show Hid _ from fun n => moreQb w1 h1 n)
              have HI := (show Hid _ from (⟨fun n => h1.drewN n, fun n => (HX2.out.2.1.mv v1 hB hgB).drewN n, fun n => (HX2.out.2.2.trans (Ob.mv v1)).drewN n⟩ : (∀ n, Bd (w1.drewN n) p s j c g) ∧ (∀ n, Node (w1.drewN n) B) ∧ ∀ n, Ob p B g w (w1.drewN n))); clear h1 v1 HX2 x0 x1 x2 y1 y2
              go_wp2_with fail
              go_quiet ((go_at_call 50; refine Calls.quiet_of (HQ.out _)))
              have HI0 := (show Hid _ from (⟨HI.out.1 nq, HI.out.2.1 nq, HI.out.2.2 nq⟩ : Bd (w1.drewN nq) p s j c g ∧ Node (w1.drewN nq) B ∧ Ob p B g w (w1.drewN nq))); clear HI
              generalize w1.drewN nq = W1 at *
              go_wp2_with fail
              go_loopw [9] (fun i wr => ∃ jj : Nat, i = .int .i64 jj ∧ jj ≤ 256 ∧ Hid (Bd wr p s j c g ∧ Node wr B ∧ Ob p B g w wr)) (fun i _ => 256 - (intOf i).toNat)
              case atStart => exact ⟨z, rfl, by omega, HI0⟩
              case round =>
                obtain ⟨i9, rfl, hj, HJ⟩ := hrel
                by_cases hjh : i9 ≤ z
                · have hjh' : (i9 : Int) ≤ (z : Nat) := by omega
                  obtain ⟨⟨bb, c0⟩, f0⟩ := HJ.out.2.1.cell i9 (by omega)
                  have c0' : wr.cell? ⟨B, 1 + i9, none⟩ = some (.bool bb) := by rw [Nat.add_comm]; exact c0
                  have f0' : wr.frozen? ⟨B, 1 + i9, none⟩ = false := by rw [Nat.add_comm]; exact f0
                  have hj256 : (i9 : Int) < 256 := by omega
                  have hset : Out B (B + 1) wr (wr.setCell ⟨B, 1 + i9, none⟩ (.bool true)) := Out.set (o := 1 + i9) wr _ (Nat.le_refl B) (Nat.lt_succ_self B)
                  have hnode : Node (wr.setCell ⟨B, 1 + i9, none⟩ (.bool true)) B := by
                    have := HJ.out.2.1.set i9 true
                    rw [Nat.add_comm] at this
                    exact this
                  have H6 := (show Hid _ from (⟨HJ.out.1.out hset hB hgB, hnode, HJ.out.2.2.trans (Ob.out hset)⟩ : Bd (wr.setCell ⟨B, 1 + i9, none⟩ (.bool true)) p s j c g ∧ Node (wr.setCell ⟨B, 1 + i9, none⟩ (.bool true)) B ∧ Ob p B g w (wr.setCell ⟨B, 1 + i9, none⟩ (.bool true)))); clear hset hnode
                  go_wp2_with fail
                  exact ⟨⟨i9 + 1, by go_num, by omega, H6⟩, by simp [intOf]; omega⟩
                · have hjh' : ((z : Nat) : Int) < i9 := by omega
                  obtain ⟨zz, z1, z2, _⟩ := HJ.out.1.cells
                  have hz0 : (0 : Int) ≤ (j : Nat) := by omega
                  go_wp2_with fail
                  refine bodyPost_ret (v := .tuple #[]) (by simp [results, Try.results79]) rfl ?_
                  exact ⟨rfl, HJ.out.2.2, HJ.out.2.1, by rw [HE.out]; exact HJ.out.1⟩
            | ok r =>
              obtain ⟨lo, k2⟩ := r
              rw [hx1] at hcl hin1
              have hk2a : k' < k2 := hin1.1
              have hk2 : k2 ≤ s.size := hin1.2
              have HCL := (show Hid _ from hcl); clear hcl hin1
              have hlo := lo.toNat_lt
              have hin := xItem_in hk'
              have hxi : xItem s k' = (if seesB s k2 45 then (match xOne sIn s (k2 + 1) with
      | .error j => .error j
      | .ok (hi, k3) => if hi.toNat < lo.toNat then .error (k2 + 1) else .ok k3) else .ok k2) := by
                unfold xItem
                rw [hx1]
                dsimp only
                cases xOne sIn s (k2 + 1) <;> rfl
              clear hx1
              generalize xItem s k' = r at *
              have HXI := (show Hid _ from hxi); clear hxi
              have HIN := (show Hid _ from hin); clear hin
              have hds : seesB s k2 45 = (decide (k2 < s.size) && (s.get! k2 == 45)) := rfl
              generalize seesB s k2 45 = dsh at *
              have HDS := (show Hid _ from hds); clear hds
              go_wp2_with fail
              refine Calls.mono HCL.out ?_
              rintro e w1 ⟨⟨rfl, h1⟩, v1⟩
              dsimp only at h1
              clear x0 x1 x2 y1 y2
              obtain ⟨x0, x1, x2, y1, y2, _⟩ := h1.cells
              have HI := (show Hid _ from (⟨h1, HX2.out.2.1.mv v1 hB hgB, HX2.out.2.2.trans (Ob.mv v1)⟩ : Rd w1 p s k2 (c - 3) g ∧ Node w1 B ∧ Ob p B g w w1)); clear h1 v1 HX2
              go_upto_region 8 with fail
              go_cut [66] from 53 to 65 (fun v wx => v = .bool dsh ∧ Hid (∃ m, wx = w1.drewN m))
              case first =>
                by_cases hlt : k2 < s.size
                · have hlt' : (k2 : Int) < s.size := by omega
                  have hg := get!_eq s k2 hlt
                  have HQ := (show Hid _ from fun n => moreQ w1 HI.out.1 (r := true) (by simp [hlt]) n)
                  by_cases he : s[k2] = 45
                  · have hq : ((s[k2].toNat : Int) == 45) = true := by rw [he]; simp
                    have HT : Hid (dsh = true) := by show dsh = true; rw [HDS.out, hg, he]; simp [hlt]
                    clear he hg
                    go_quiet ((go_at_call 50; refine Calls.quiet_of (HQ.out _)))
                    go_wp2_with fail
                    go_meet
                    exact ⟨by rw [HT.out], _, rfl⟩
                  · have hq : ((s[k2].toNat : Int) == 45) = false := ne_of he
                    have HT : Hid (dsh = false) := by show dsh = false; rw [HDS.out, hg]; simp [he]
                    clear he hg
                    go_quiet ((go_at_call 50; refine Calls.quiet_of (HQ.out _)))
                    go_wp2_with fail
                    go_meet
                    exact ⟨by rw [HT.out], _, rfl⟩
                · have HQ := (show Hid _ from fun n => moreQ w1 HI.out.1 (r := false) (by simp [hlt]) n)
                  have HT : Hid (dsh = false) := by show dsh = false; rw [HDS.out]; simp [hlt]
                  go_quiet ((go_at_call 50; refine Calls.quiet_of (HQ.out _)))
                  go_wp2_with fail
                  go_meet
                  exact ⟨by rw [HT.out], _, rfl⟩
              case rest =>
                obtain ⟨rfl, HC3⟩ := hcut
                have hI2 : Rd wc p s k2 (c - 3) g ∧ Node wc B ∧ Ob p B g w wc := by
                  obtain ⟨m, rfl⟩ := HC3.out
                  exact ⟨HI.out.1.drewN m, HI.out.2.1.drewN m, HI.out.2.2.drewN m⟩
                clear HC3 HI x0 x1 x2 y1 y2
                obtain ⟨x0, x1, x2, y1, y2, _⟩ := hI2.1.cells
                have HI2 := (show Hid _ from hI2); clear hI2
                go_upto_if 66 with fail
                go_cut [7] from 67 to 85 (fun v wx => ∃ hi : Nat, v = .int .i64 hi ∧ hi < 256 ∧ Hid (SO r p s c g wx ∧ Node wx B ∧ Ob p B g w wx))
                case first =>
                  cases dsh
                  case false =>
                    have HE : Hid (r = .ok k2) := HXI.out
                    go_wp2_with fail
                    go_meet
                    exact ⟨lo.toNat, rfl, hlo, by rw [HE.out]; exact HI2.out.1.mono (by omega), HI2.out.2.1, HI2.out.2.2⟩
                  case true =>
                    have hlt : k2 < s.size := by
                      have := HDS.out
                      simp at this
                      exact this.1
                    obtain ⟨m, hm⟩ : ∃ m, m = k2 + 1 := ⟨_, rfl⟩
                    have hmle : m ≤ s.size := by omega
                    have hxi := HXI.out
                    rw [if_pos rfl, ← hm] at hxi
                    have hset := Mv.set1 (p := p) (g := g) (w := wc) 1 (.int .i64 ((k2 : Int) + 1))
                    have H3 := (show Hid _ from (⟨hm ▸ (HI2.out.1.adv hlt).mono (Nat.sub_le _ _), HI2.out.2.1.mv hset hB hgB, HI2.out.2.2.trans (Ob.mv hset)⟩ : Rd (wc.setCell ⟨p, 1, none⟩ (.int .i64 ((k2 : Int) + 1))) p s m (c - 3) g ∧ Node (wc.setCell ⟨p, 1, none⟩ (.int .i64 ((k2 : Int) + 1))) B ∧ Ob p B g w (wc.setCell ⟨p, 1, none⟩ (.int .i64 ((k2 : Int) + 1)))))
                    clear hset hm HXI HI2
                    go_upto_region 10 with fail
                    generalize wc.setCell ⟨p, 1, none⟩ (.int .i64 ((k2 : Int) + 1)) = W3 at *
                    clear x0 x1 x2 y1 y2
                    obtain ⟨x0, x1, x2, y1, y2, _⟩ := H3.out.1.cells
                    have hcl := one_s sIn ⟨#[93, 45, 94]⟩ (fun b hb => sIn_ok b hb) (by decide) W3 H3.out.1
                    cases hx2 : xOne sIn s m with
                    | error j =>
                      rw [hx2] at hxi hcl
                      have HE : Hid (r = .error j) := hxi
                      have HCL2 := (show Hid _ from hcl); clear hcl hxi hx2
                      go_wp2_with fail
                      refine Calls.mono HCL2.out ?_
                      rintro e w4 ⟨⟨z, hz, rfl, h4⟩, v4⟩
                      have HFB := (show Hid _ from fail_bad (m : Int) w4 h4)
                      have H4 := (show Hid _ from (⟨h4.mono (by omega), H3.out.2.1.mv v4 hB hgB, H3.out.2.2.trans (Ob.mv v4)⟩ : Bd w4 p s j c g ∧ Node w4 B ∧ Ob p B g w w4)); clear h4 v4
                      by_cases hzl : z < lo.toNat
                      · have hzl' : (z : Int) < lo.toNat := by omega
                        go_wp2_with fail
                        refine Calls.mono HFB.out ?_
                        rintro e w5 ⟨rfl, rfl⟩
                        go_wp2_with fail
                        go_meet
                        exact ⟨z, rfl, hz, by rw [HE.out]; exact H4.out.1, H4.out.2.1, H4.out.2.2⟩
                      · have hzl' : (lo.toNat : Int) ≤ z := by omega
                        go_wp2_with fail
                        go_meet
                        exact ⟨z, rfl, hz, by rw [HE.out]; exact H4.out.1, H4.out.2.1, H4.out.2.2⟩
                    | ok r2 =>
                      obtain ⟨hi, k3⟩ := r2
                      rw [hx2] at hxi hcl
                      dsimp only at hxi
                      have hhi := hi.toNat_lt
                      have HXE := (show Hid _ from hxi); clear hxi hx2
                      have HCL2 := (show Hid _ from hcl); clear hcl
                      go_wp2_with fail
                      refine Calls.mono HCL2.out ?_
                      rintro e w4 ⟨⟨rfl, h4⟩, v4⟩
                      dsimp only at h4
                      have HFK := (show Hid _ from fail_ok m w4 h4)
                      have H4 := (show Hid _ from (⟨h4.mono (by omega), H3.out.2.1.mv v4 hB hgB, H3.out.2.2.trans (Ob.mv v4)⟩ : Rd w4 p s k3 c g ∧ Node w4 B ∧ Ob p B g w w4)); clear h4 v4
                      by_cases hzl : hi.toNat < lo.toNat
                      · have hzl' : (hi.toNat : Int) < lo.toNat := by omega
                        have HE : Hid (r = .error m) := by
                          have := HXE.out
                          rw [if_pos hzl] at this
                          exact this
                        go_wp2_with fail
                        refine Calls.mono HFK.out ?_
                        rintro e w5 ⟨rfl, h5, v5⟩
                        have H5 := (show Hid _ from (⟨h5.mono (by omega), H4.out.2.1.mv v5 hB hgB, H4.out.2.2.trans (Ob.mv v5)⟩ : Bd w5 p s m c g ∧ Node w5 B ∧ Ob p B g w w5)); clear h5 v5
                        go_wp2_with fail
                        go_meet
                        exact ⟨hi.toNat, rfl, hhi, by rw [HE.out]; exact H5.out.1, H5.out.2.1, H5.out.2.2⟩
                      · have hzl' : (lo.toNat : Int) ≤ hi.toNat := by omega
                        have HE : Hid (r = .ok k3) := by
                          have := HXE.out
                          rw [if_neg hzl] at this
                          exact this
                        go_wp2_with fail
                        go_meet
                        exact ⟨hi.toNat, rfl, hhi, by rw [HE.out]; exact H4.out.1, H4.out.2.1, H4.out.2.2⟩
                case rest =>
                  obtain ⟨hi, rfl, hhi, HI0⟩ := hcut
                  clear x0 x1 x2 y1 y2 HXI HDS HI2 HCL
                  go_wp2_with fail
                  go_loopw [9] (fun i wr => ∃ jj : Nat, i = .int .i64 jj ∧ jj ≤ 256 ∧ Hid (SO r p s c g wr ∧ Node wr B ∧ Ob p B g w wr)) (fun i _ => 256 - (intOf i).toNat)
                  case atStart => exact ⟨lo.toNat, rfl, by omega, HI0⟩
                  case round =>
                    obtain ⟨i9, rfl, hj, HJ⟩ := hrel
                    by_cases hjh : i9 ≤ hi
                    · have hjh' : (i9 : Int) ≤ (hi : Nat) := by omega
                      obtain ⟨⟨bb, c0⟩, f0⟩ := HJ.out.2.1.cell i9 (by omega)
                      have c0' : wr.cell? ⟨B, 1 + i9, none⟩ = some (.bool bb) := by rw [Nat.add_comm]; exact c0
                      have f0' : wr.frozen? ⟨B, 1 + i9, none⟩ = false := by rw [Nat.add_comm]; exact f0
                      have hj256 : (i9 : Int) < 256 := by omega
                      have hset : Out B (B + 1) wr (wr.setCell ⟨B, 1 + i9, none⟩ (.bool true)) := Out.set (o := 1 + i9) wr _ (Nat.le_refl B) (Nat.lt_succ_self B)
                      have hnode : Node (wr.setCell ⟨B, 1 + i9, none⟩ (.bool true)) B := by
                        have := HJ.out.2.1.set i9 true
                        rw [Nat.add_comm] at this
                        exact this
                      have H6 := (show Hid _ from (⟨HJ.out.1.out hset hB hgB, hnode, HJ.out.2.2.trans (Ob.out hset)⟩ : SO r p s c g (wr.setCell ⟨B, 1 + i9, none⟩ (.bool true)) ∧ Node (wr.setCell ⟨B, 1 + i9, none⟩ (.bool true)) B ∧ Ob p B g w (wr.setCell ⟨B, 1 + i9, none⟩ (.bool true)))); clear hset hnode
                      go_wp2_with fail
                      exact ⟨⟨i9 + 1, by go_num, by omega, H6⟩, by simp [intOf]; omega⟩
                    · have hjh' : ((hi : Nat) : Int) < i9 := by omega
                      obtain ⟨bv, hc2, hbv⟩ := SO.bad HJ.out.1
                      cases r with
                      | ok k4 =>
                        dsimp only at hbv
                        subst hbv
                        have hk4 : k' + 1 ≤ k4 ∧ k4 ≤ s.size := HIN.out
                        go_wp2_with fail
                        refine ⟨⟨false, k4, rfl, hk4.2, HJ.out.1, HJ.out.2.1, HJ.out.2.2, HGO.out⟩, ?_⟩
                        have m1 := (Rd.cells HJ.out.1).2.1
                        rw [m1, HM2.out]
                        simp [intOf]
                        omega
                      | error j =>
                        dsimp only at hbv
                        have HE : Hid (RR = .error j) := HGO.out.symm
                        go_wp2_with fail
                        refine bodyPost_ret (v := .tuple #[]) (by simp [results, Try.results79]) rfl ?_
                        exact ⟨rfl, HJ.out.2.2, HJ.out.2.1, by rw [HE.out]; exact HJ.out.1⟩
end Go.Proofs.Ythmdoplickpmaai
