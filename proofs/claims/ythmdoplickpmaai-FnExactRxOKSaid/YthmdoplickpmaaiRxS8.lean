import Derived.Test.YthmdoplickpmaaiRxS7
namespace Go.Proofs.Ythmdoplickpmaai
open Go.RowKit Go.Deep Go.Lib
set_option linter.unusedVariables false
set_option maxRecDepth 100000
set_option linter.unusedSimpArgs false

/-- What is read next, as a number that falls. -/
def ms (s : ByteArray) (p : Nat) (w : World) : Nat := if 0 ≤ intOf ((w.cell? ⟨p, 2, none⟩).getD (.bool false)) then 0 else s.size + 1 - (intOf ((w.cell? ⟨p, 1, none⟩).getD (.bool false))).toNat
theorem ms_ok {w : World} {p k c : Nat} {s : ByteArray} {g : Option Nat} (h : Rd w p s k c g) : ms s p w = s.size + 1 - k := by
  obtain ⟨_, x1, x2, _⟩ := h.cells
  unfold ms
  rw [x1, x2]
  simp [intOf]
theorem ms_bad {w : World} {p j c : Nat} {s : ByteArray} {g : Option Nat} (h : Bd w p s j c g) : ms s p w = 0 := by
  obtain ⟨z, x1, x2, _⟩ := h.cells
  unfold ms
  rw [x2]
  simp [intOf]
/-- Whether a sign of repetition is seen. -/
def rpB (s : ByteArray) (k : Nat) : Bool := seesB s k 42 || (seesB s k 43 || seesB s k 63)
theorem rpB_eq (s : ByteArray) (k : Nat) : rpB s k = (decide (k < s.size) && ([42, 43, 63] : List UInt8).contains (s.get! k)) := by
  unfold rpB seesB
  by_cases h : k < s.size
  · simp [h]; rfl
  · simp [h]
theorem nd_two (k : Int) (v : Value) : ((nd 0 (.slice none 0 0)).setIfInBounds 0 (.int .i64 k)).setIfInBounds 257 v = nd k v := by kernel_rfl
theorem nd_one (k : Int) (v : Value) (hv : v.oneCell' = true) : ∀ u ∈ (nd k v).toList, u.oneCell' = true := by
  intro u hu
  unfold nd at hu
  simp at hu
  rcases hu with rfl | rfl | rfl
  · rfl
  · rfl
  · exact hv

set_option maxHeartbeats 3200000 in
theorem rep_s {pC : Nat → Except Nat Nat} {p k c : Nat} {s : ByteArray} {g : Option Nat} (w : World) (hC : SDoes pC p s k) (hE : Ends pC s k) (hg : RxGood s k pC) (h : Rd w p s k c g) (hc : c ≤ 1000) (hlt : k < s.size) :
    Calls Try.prog 63 #[.pointer (some ⟨p, 0, none⟩)] w fun e w' => AGot (xRep pC s k) p s c 0 g w e w' := by
  have hs := h.small
  have HA := (show Hid _ from atom_s w hC hE hg h hc hlt)
  have hin := xAtom_in hg h.1
  have hr : xRep pC s k = (match xAtom pC s k with
    | .error j => .error j
    | .ok k1 => .ok (reps s k1)) := by unfold xRep; cases xAtom pC s k <;> rfl
  rw [hr]
  clear hr hC hE hg h
  generalize xAtom pC s k = r at *
  have hzr := (zero_of_info (P := Try.prog) (t := 113) (v := .agg (nd 0 (.slice none 0 0))) (n := 258) (by kernel_rfl)).1
  cases r with
  | error j =>
    dsimp only
    clear hin hzr
    go_enter Try.func63, Try.ntmps63
    go_wp2_with fail
    refine Calls.mono HA.out ?_
    rintro e w1 ⟨⟨mm, rfl⟩, g1, h1, v1⟩
    have H1 := (show Hid _ from (⟨h1, v1⟩ : Bd w1 p s j (c + 0 + 1) g1 ∧ Mv p g w g1 w1)); clear h1 v1
    go_wp2_with fail
    go_loopw [3] (fun v wr => v = .int .i64 (mm : Nat) ∧ Hid (Bd wr p s j (c + 0 + 1) g1 ∧ Mv p g w g1 wr)) (fun _ _ => 0)
    case atStart => exact ⟨rfl, H1⟩
    case round =>
      obtain ⟨rfl, HR⟩ := hrel
      have HQ := (show Hid _ from fun n => moreQb wr HR.out.1 n)
      have HD := (show Hid _ from (⟨fun n => HR.out.1.drewN n, fun n => HR.out.2.drewN n⟩ : (∀ n, Bd (wr.drewN n) p s j (c + 0 + 1) g1) ∧ ∀ n, Mv p g w g1 (wr.drewN n)))
      go_wp2_with fail
      go_quiet ((go_at_call 50; refine Calls.quiet_of (HQ.out _)))
      go_wp2_with fail
      go_ret
      exact ⟨⟨mm, rfl⟩, g1, HD.out.1 _, HD.out.2 _⟩
  | ok k1 =>
    dsimp only
    have hk1 : k1 ≤ s.size := hin.2
    clear hin
    generalize hR : reps s k1 = R
    have HR0 := (show Hid _ from hR); clear hR
    go_enter Try.func63, Try.ntmps63
    go_wp2_with fail
    refine Calls.mono HA.out ?_
    rintro e w1 ⟨⟨mm, rfl⟩, g1, h1, v1⟩
    have H1 := (show Hid _ from (⟨h1, v1, HR0.out⟩ : Rd w1 p s k1 (c + 0) g1 ∧ Mv p g w g1 w1 ∧ reps s k1 = R)); clear h1 v1
    go_wp2_with fail
    go_loopw [3] (fun v wr => ∃ (m k' : Nat) (g' : Option Nat), v = .int .i64 m ∧ k' ≤ s.size ∧ Hid (Rd wr p s k' (c + 0) g' ∧ Mv p g w g' wr ∧ reps s k' = R)) (fun _ wr => ms s p wr)
    case atStart => exact ⟨mm, k1, g1, rfl, hk1, H1⟩
    case round =>
      clear H1 HA HR0 hk1
      obtain ⟨m, k', g', rfl, hk', HR⟩ := hrel
      obtain ⟨x0, x1, x2, y1, y2, _⟩ := HR.out.1.cells
      have HM2 := (show Hid _ from ms_ok HR.out.1)
      generalize hrp : rpB s k' = rp
      have HRP := (show Hid _ from hrp); clear hrp
      go_upto_region 2 with fail
      go_cut [20] from 7 to 19 (fun v wx => v = .bool rp ∧ Hid (∃ m, wx = wr.drewN m))
      case first =>
        by_cases hl2 : k' < s.size
        · have hl2' : (k' : Int) < s.size := by omega
          have hgk := get!_eq s k' hl2
          have HQ := (show Hid _ from fun n => moreQ wr HR.out.1 (r := true) (by simp [hl2]) n)
          have HI := (show Hid _ from fun W => in_any ⟨#[42, 43, 63]⟩ s[k'] (by decide) W)
          have HT : Hid (([42, 43, 63] : List UInt8).contains s[k'] = rp) := by
            show _ = rp
            rw [← HRP.out, rpB_eq, hgk]
            simp [hl2]
          have hcc : (ByteArray.mk #[42, 43, 63]).data.toList = [42, 43, 63] := rfl
          rw [hcc] at HI
          generalize ([42, 43, 63] : List UInt8).contains s[k'] = cn at *
          clear hgk hcc
          go_quiet ((first | (go_at_call 50; with_reducible refine Calls.quiet_of (HQ.out _)) | (go_at_call 70; refine Calls.quiet_of_same (HI.out _))))
          go_wp2_with fail
          go_meet
          exact ⟨by rw [HT.out], _, rfl⟩
        · have HQ := (show Hid _ from fun n => moreQ wr HR.out.1 (r := false) (by simp [hl2]) n)
          have HT : Hid (rp = false) := by show rp = false; rw [← HRP.out, rpB_eq]; simp [hl2]
          go_quiet ((go_at_call 50; refine Calls.quiet_of (HQ.out _)))
          go_wp2_with fail
          go_meet
          exact ⟨by rw [HT.out], _, rfl⟩
      case rest =>
        obtain ⟨rfl, HC⟩ := hcut
        have hX : Rd wc p s k' (c + 0) g' ∧ Mv p g w g' wc := by
          obtain ⟨m, rfl⟩ := HC.out
          exact ⟨HR.out.1.drewN m, HR.out.2.1.drewN m⟩
        have HF := (show Hid _ from HR.out.2.2)
        clear HC HR x0 x1 x2 y1 y2
        obtain ⟨x0, x1, x2, y1, y2, _⟩ := hX.1.cells
        have HX := (show Hid _ from hX); clear hX
        cases rp
        case false =>
          have HE : Hid (k' = R) := by rw [← HF.out, reps_stop HRP.out]; exact rfl
          go_wp2_with fail
          go_ret
          exact ⟨⟨m, rfl⟩, g', by rw [← HE.out]; exact HX.out.1, HX.out.2⟩
        case true =>
          have hl2 : k' < s.size := reps_lt HRP.out
          have hl2' : (k' : Int) < s.size := by omega
          have HE : Hid (reps s (k' + 1) = R) := by rw [← reps_step HRP.out]; exact HF.out
          clear HRP HF
          by_cases h43 : s[k'] = 43
          · have hq : ((s[k'].toNat : Int) == 43) = true := by rw [h43]; simp
            have hq2 : ((s[k'].toNat : Int) == 63) = false := by rw [h43]; decide
            clear h43
            go_wp2_with fail
            go_quiet (fail)
            have hD := (⟨HX.out.1.drewN nq, HX.out.2.drewN nq⟩ : Rd (wc.drewN nq) p s k' (c + 0) g' ∧ Mv p g w g' (wc.drewN nq))
            clear x0 x1 x2 y1 y2
            obtain ⟨x0, x1, x2, y1, y2, _⟩ := hD.1.cells
            have HD := (show Hid _ from hD); clear hD
            generalize wc.drewN nq = W1 at *
            go_wp2_with fail
            go_quiet (fail)
            have hD := (⟨HD.out.1.drewN nq, HD.out.2.drewN nq⟩ : Rd (W1.drewN nq) p s k' (c + 0) g' ∧ Mv p g w g' (W1.drewN nq))
            clear x0 x1 x2 y1 y2
            obtain ⟨x0, x1, x2, y1, y2, _⟩ := hD.1.cells
            have HD2 := (show Hid _ from hD); clear hD HD
            generalize W1.drewN nq = W2 at *
            have hbl := bel_alloc W2 (.cells #[.int .i64 (m : Int)] 3)
            have HP := (show Hid _ from put_ok (((nd 0 (.slice none 0 0)).setIfInBounds 0 (.int .i64 5)).setIfInBounds 257 (.slice (some ⟨W2.heap.size, 0, none⟩) 1 1)) (by rw [nd_two]; rfl) (by rw [nd_two]; exact nd_one _ _ rfl) _ (HD2.out.1.bel hbl) (by omega))
            have HV := (show Hid _ from (HD2.out.2.trans (Mv.bel hbl) : Mv p g w g' (W2.alloc (.cells #[.int .i64 (m : Int)] 3)))); clear hbl
            go_wp2_with fail
            refine Calls.mono HP.out ?_
            rintro e w5 ⟨⟨m5, rfl⟩, g5, h5, v5⟩
            clear x0 x1 x2 y1 y2
            obtain ⟨x0, x1, x2, y1, y2, _⟩ := h5.cells
            have H6 := (show Hid _ from (⟨(h5.adv hl2).mono (by omega), (HV.out.trans v5).trans (Mv.set1 1 (.int .i64 ((k' : Int) + 1)))⟩ : Rd (w5.setCell ⟨p, 1, none⟩ (.int .i64 ((k' : Int) + 1))) p s (k' + 1) (c + 0) g5 ∧ Mv p g w g5 (w5.setCell ⟨p, 1, none⟩ (.int .i64 ((k' : Int) + 1))))); clear h5 v5
            go_wp2_with fail
            refine ⟨⟨m5, k' + 1, g5, rfl, hl2, H6.out.1, H6.out.2, HE.out⟩, ?_⟩
            rw [ms_ok H6.out.1, HM2.out]
            omega
          have hq : ((s[k'].toNat : Int) == 43) = false := ne_of h43
          clear h43
          by_cases h63 : s[k'] = 63
          · have hq2 : ((s[k'].toNat : Int) == 63) = true := by rw [h63]; simp
            clear h63
            go_wp2_with fail
            go_quiet (fail)
            have hD := (⟨HX.out.1.drewN nq, HX.out.2.drewN nq⟩ : Rd (wc.drewN nq) p s k' (c + 0) g' ∧ Mv p g w g' (wc.drewN nq))
            clear x0 x1 x2 y1 y2
            obtain ⟨x0, x1, x2, y1, y2, _⟩ := hD.1.cells
            have HD := (show Hid _ from hD); clear hD
            generalize wc.drewN nq = W1 at *
            go_wp2_with fail
            go_quiet (fail)
            have hD := (⟨HD.out.1.drewN nq, HD.out.2.drewN nq⟩ : Rd (W1.drewN nq) p s k' (c + 0) g' ∧ Mv p g w g' (W1.drewN nq))
            clear x0 x1 x2 y1 y2
            obtain ⟨x0, x1, x2, y1, y2, _⟩ := hD.1.cells
            have HD2 := (show Hid _ from hD); clear hD HD
            generalize W1.drewN nq = W2 at *
            have hbl := bel_alloc W2 (.cells #[.int .i64 (m : Int)] 3)
            have HP := (show Hid _ from put_ok (((nd 0 (.slice none 0 0)).setIfInBounds 0 (.int .i64 6)).setIfInBounds 257 (.slice (some ⟨W2.heap.size, 0, none⟩) 1 1)) (by rw [nd_two]; rfl) (by rw [nd_two]; exact nd_one _ _ rfl) _ (HD2.out.1.bel hbl) (by omega))
            have HV := (show Hid _ from (HD2.out.2.trans (Mv.bel hbl) : Mv p g w g' (W2.alloc (.cells #[.int .i64 (m : Int)] 3)))); clear hbl
            go_wp2_with fail
            refine Calls.mono HP.out ?_
            rintro e w5 ⟨⟨m5, rfl⟩, g5, h5, v5⟩
            clear x0 x1 x2 y1 y2
            obtain ⟨x0, x1, x2, y1, y2, _⟩ := h5.cells
            have H6 := (show Hid _ from (⟨(h5.adv hl2).mono (by omega), (HV.out.trans v5).trans (Mv.set1 1 (.int .i64 ((k' : Int) + 1)))⟩ : Rd (w5.setCell ⟨p, 1, none⟩ (.int .i64 ((k' : Int) + 1))) p s (k' + 1) (c + 0) g5 ∧ Mv p g w g5 (w5.setCell ⟨p, 1, none⟩ (.int .i64 ((k' : Int) + 1))))); clear h5 v5
            go_wp2_with fail
            refine ⟨⟨m5, k' + 1, g5, rfl, hl2, H6.out.1, H6.out.2, HE.out⟩, ?_⟩
            rw [ms_ok H6.out.1, HM2.out]
            omega
          have hq2 : ((s[k'].toNat : Int) == 63) = false := ne_of h63
          clear h63
          go_wp2_with fail
          go_quiet (fail)
          have hD := (⟨HX.out.1.drewN nq, HX.out.2.drewN nq⟩ : Rd (wc.drewN nq) p s k' (c + 0) g' ∧ Mv p g w g' (wc.drewN nq))
          clear x0 x1 x2 y1 y2
          obtain ⟨x0, x1, x2, y1, y2, _⟩ := hD.1.cells
          have HD := (show Hid _ from hD); clear hD
          generalize wc.drewN nq = W1 at *
          go_wp2_with fail
          go_quiet (fail)
          have hD := (⟨HD.out.1.drewN nq, HD.out.2.drewN nq⟩ : Rd (W1.drewN nq) p s k' (c + 0) g' ∧ Mv p g w g' (W1.drewN nq))
          clear x0 x1 x2 y1 y2
          obtain ⟨x0, x1, x2, y1, y2, _⟩ := hD.1.cells
          have HD2 := (show Hid _ from hD); clear hD HD
          generalize W1.drewN nq = W2 at *
          have hbl := bel_alloc W2 (.cells #[.int .i64 (m : Int)] 3)
          have HP := (show Hid _ from put_ok (((nd 0 (.slice none 0 0)).setIfInBounds 0 (.int .i64 4)).setIfInBounds 257 (.slice (some ⟨W2.heap.size, 0, none⟩) 1 1)) (by rw [nd_two]; rfl) (by rw [nd_two]; exact nd_one _ _ rfl) _ (HD2.out.1.bel hbl) (by omega))
          have HV := (show Hid _ from (HD2.out.2.trans (Mv.bel hbl) : Mv p g w g' (W2.alloc (.cells #[.int .i64 (m : Int)] 3)))); clear hbl
          go_wp2_with fail
          refine Calls.mono HP.out ?_
          rintro e w5 ⟨⟨m5, rfl⟩, g5, h5, v5⟩
          clear x0 x1 x2 y1 y2
          obtain ⟨x0, x1, x2, y1, y2, _⟩ := h5.cells
          have H6 := (show Hid _ from (⟨(h5.adv hl2).mono (by omega), (HV.out.trans v5).trans (Mv.set1 1 (.int .i64 ((k' : Int) + 1)))⟩ : Rd (w5.setCell ⟨p, 1, none⟩ (.int .i64 ((k' : Int) + 1))) p s (k' + 1) (c + 0) g5 ∧ Mv p g w g5 (w5.setCell ⟨p, 1, none⟩ (.int .i64 ((k' : Int) + 1))))); clear h5 v5
          go_wp2_with fail
          refine ⟨⟨m5, k' + 1, g5, rfl, hl2, H6.out.1, H6.out.2, HE.out⟩, ?_⟩
          rw [ms_ok H6.out.1, HM2.out]
          omega
end Go.Proofs.Ythmdoplickpmaai
