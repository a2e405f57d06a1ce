import Derived.Test.YthmdoplickpmaahRdr3
import Derived.Test.YthmdoplickpmaahScan6
namespace Go.Proofs.Ythmdoplickpmaah
open Go.RowKit Go.Deep Go.Lib
set_option linter.unusedVariables false
set_option maxRecDepth 100000
set_option linter.unusedSimpArgs false

/-- A text was read by the specification, or it is a fault. -/
def XGot (r : Except Nat (ByteArray × Nat)) (p : Nat) (s : ByteArray) (e : Ending) (w' : World) : Prop := match r with
  | .ok a => e = .returned (.string a.1) ∧ Rdr w' p s a.2
  | .error j => e = .returned (.string ByteArray.empty) ∧ Bad w' p s j
theorem own_made0 (w : World) : (w.alloc (.cells #[] 5)).ownsRow w.heap.size 5 1 (.slice (some ⟨w.heap.size, 0, none⟩) 0 0) 0 (bc []) :=
  ⟨rfl, .inr ⟨w.heap.size, 0, #[], rfl, Nat.le_refl _, blk_alloc_new _ _, Nat.le_refl _, Nat.zero_le _, rfl, rfl⟩⟩
theorem Bad.keep {w w' : World} {p j : Nat} {s : ByteArray} (h : Bad w p s j) (hk : w'.heap[p]? = w.heap[p]?) : Bad w' p s j := by
  obtain ⟨h1, a, h2, h3⟩ := h; exact ⟨h1, a, h2, h3.keep hk⟩
theorem pByte_end {s : ByteArray} {j : Nat} (h : ¬ j < s.size) : pByte s j = .error j := by
  unfold pByte seesB plainB; simp [h]
theorem pByte_esc {s : ByteArray} {j : Nat} (h : seesB s j 92 = true) : pByte s j = pEsc s (j + 1) := by unfold pByte; rw [if_pos h]

set_option maxHeartbeats 6400000 in
theorem textS_any {p k f0 : Nat} {s : ByteArray} (w : World) (h : Rdr w p s k) (hf0 : s.size - k + 1 ≤ f0) :
    Calls Try.prog 49 #[.pointer (some ⟨p, 0, none⟩)] w fun e w' => Out p (p + 1) w w' ∧ XGot (pText s f0 k []) p s e w' := by
  have hk := h.1
  have hs := h.2.1
  have hp := h.2.2.lt
  have HS := (show Hid _ from h); clear h
  have hT : ∃ T, pText s f0 k [] = T := ⟨_, rfl⟩
  obtain ⟨T, hT⟩ := hT
  rw [hT]
  have HT := (show Hid _ from hT); clear hT
  obtain ⟨i5, hi5, hz0, hz1, hz2⟩ := info_parts info5
  go_enter Try.func49, Try.ntmps49
  go_wp2_with fail
  go_loopw [3] (fun u wr => ∃ (j f : Nat) (x : List UInt8) (a' : Option Addr) (c' : Nat), u = .slice a' x.length c' ∧ j ≤ s.size ∧ x.length ≤ j ∧ s.size - j + 1 ≤ f ∧ Hid (Out p (p + 1) w wr ∧ Rdr wr p s j ∧ wr.ownsRow w.heap.size 5 1 (.slice a' x.length c') x.length (bc x) ∧ pText s f j x = T)) (fun _ wr => s.size - (intOf ((wr.cell? ⟨p, 1, none⟩).getD (.bool false))).toNat)
  case atStart => exact ⟨k, f0, [], _, _, rfl, hk, Nat.zero_le _, hf0, Out.of_below (bel_alloc _ _), Rdr.keep (w := w) HS.out ((bel_alloc _ _).block _ hp), own_made0 w, HT.out⟩
  case round =>
    obtain ⟨j, f, x, a', c', rfl, hj, hxj, hf, HR⟩ := hrel
    have HM := (show Hid _ from more_any wr HR.out.2.1)
    by_cases hjs : j < s.size
    case neg =>
      rw [decide_eq_false hjs] at HM
      have HTQ := (show Hid (T = .error j) from HR.out.2.2.2.symm.trans (pText_bad (by unfold seesB; simp [hjs]) hf (pByte_end hjs)))
      go_wp2_with fail
      refine Calls.mono HM.out ?_
      rintro e w2 ⟨rfl, m, rfl⟩
      have HF := (show Hid _ from fail_any (wr.drewN m) (p := p) (k := j) (s := s) (Rdr.keep (w := wr) HR.out.2.1 rfl))
      go_wp2_with fail
      refine Calls.mono HF.out ?_
      rintro e w3 ⟨rfl, ho3, hb3⟩
      have HX := (show Hid _ from (⟨Out.trans (Out.drewN HR.out.1 _) ho3, hb3⟩ : _ ∧ _)); clear ho3 hb3
      go_wp2_with fail
      go_ret
      rw [HTQ.out]
      exact ⟨HX.out.1, rfl, HX.out.2⟩
    rw [decide_eq_true hjs] at HM
    have hjs' : (j : Int) < s.size := by omega
    have hg := get!_eq s j hjs
    have HV := (show Hid _ from fun n => (⟨Out.drewN HR.out.1 n, Rdr.keep (w := wr) (w' := wr.drewN n) HR.out.2.1 rfl, own_past HR.out.2.2.1 (Out.drewN (Out.refl p (p + 1) wr) n) hp⟩ : _ ∧ _ ∧ _))
    by_cases h34 : s[j].toNat = 34
    · have hb1 : ((s[j].toNat : Int) == 34) = true := by simp; omega
      have HTQ := (show Hid (T = .ok (bs x, j + 1)) from HR.out.2.2.2.symm.trans (pText_end (by unfold seesB; rw [hg]; simp [hjs]; exact UInt8.toNat_inj.1 h34) hf))
      clear h34 hg
      go_wp2_with fail
      refine Calls.mono HM.out ?_
      rintro e w2 ⟨rfl, m, rfl⟩
      have HU := (show Hid _ from HV.out m)
      generalize wr.drewN m = U at *
      obtain ⟨x0, x1, x2, y1, y2⟩ := RdB.cells HU.out.2.1.2.2
      go_wp2_with fail
      go_quiet (fail)
      have HU2 := (show Hid _ from (⟨Out.trans (Out.drewN HU.out.1 nq) (Out.set (o := 1) (U.drewN nq) (.int .i64 ((j : Int) + 1)) (Nat.le_refl p) (Nat.lt_succ_self p)), Rdr.next (Rdr.keep (w := U) (w' := U.drewN nq) HU.out.2.1 rfl) hjs⟩ : _ ∧ _))
      have hcv := conv_own (own_past HU.out.2.2 (Out.trans (Out.drewN (Out.refl p (p + 1) U) nq) (Out.set (o := 1) (U.drewN nq) (.int .i64 ((j : Int) + 1)) (Nat.le_refl p) (Nat.lt_succ_self p))) hp)
      go_wp2_with fail
      go_ret
      rw [HTQ.out]
      exact ⟨HU2.out.1, rfl, HU2.out.2⟩
    have hb1 : ((s[j].toNat : Int) == 34) = false := by simp; omega
    have hsq : seesB s j 34 = false := by unfold seesB; rw [hg]; simp [hjs]; exact fun e => h34 (by rw [e]; rfl)
    by_cases h92 : s[j].toNat = 92
    · have hb2 : ((s[j].toNat : Int) == 92) = true := by simp; omega
      have hpe := pByte_esc (s := s) (j := j) (by unfold seesB; rw [hg]; simp [hjs]; exact UInt8.toNat_inj.1 h92)
      have hfb := pByte_fits (s := s) hj
      rw [hpe] at hfb
      have hbad := fun q (h : pEsc s (j + 1) = .error q) => HR.out.2.2.2.symm.trans (pText_bad (x := x) hsq hf (hpe.trans h))
      have hgo := fun a (h : pEsc s (j + 1) = .ok a) => HR.out.2.2.2.symm.trans (pText_go (x := x) hsq hf (hpe.trans h))
      have HES := (show Hid _ from fun w1 (h1 : Rdr w1 p s j) => escapeS_any w1 h1 hjs)
      clear h34 h92 hg hpe hsq
      generalize pEsc s (j + 1) = re at *
      go_wp2_with fail
      refine Calls.mono HM.out ?_
      rintro e w2 ⟨rfl, m, rfl⟩
      have HU := (show Hid _ from HV.out m)
      generalize wr.drewN m = U at *
      obtain ⟨x0, x1, x2, y1, y2⟩ := RdB.cells HU.out.2.1.2.2
      go_wp2_with fail
      go_quiet (fail)
      have HU3 := (show Hid _ from (⟨Out.drewN HU.out.1 nq, Rdr.keep (w := U) (w' := U.drewN nq) HU.out.2.1 rfl, own_past HU.out.2.2 (Out.drewN (Out.refl p (p + 1) U) nq) hp⟩ : _ ∧ _ ∧ _))
      clear x0 x1 x2 y1 y2
      generalize U.drewN nq = V at *
      have HE4 := (show Hid _ from HES.out V HU3.out.2.1)
      go_wp2_with fail
      refine Calls.mono HE4.out ?_
      rintro e w4 ⟨ho4, hg4⟩
      cases re with
      | error q =>
        obtain ⟨rfl, hb4⟩ := hg4
        have HTQ := (show Hid _ from hbad q rfl); clear hbad hgo
        have HOX := ho4
        have HOW := (show Hid _ from HU3.out.2.2)
        have HO4 := (show Hid _ from (⟨Out.trans HU3.out.1 ho4, hb4⟩ : _ ∧ _)); clear ho4 hb4
        have hown4 := own_past HOW.out HOX hp
        have HOW4 := (show Hid _ from own_still hown4 (bel_alloc w4 (.cells #[.int .u8 0] 5))); clear hown4
        have hB4 : w.heap.size ≤ w4.heap.size := HO4.out.1.2.2.2.1
        go_wp2_with (at_builtin; refine wpList_append_own _ rfl (.tmp 37) (.tmp 40) 53 rfl w.heap.size 5 i5 (.int .u8 0) 1 1 Try.underlying53 hi5 hz0 hz1 hz2 rfl (by decide) _ x.length (bc x) rfl HOW4.out ⟨w4.heap.size, 0, none⟩ 1 1 [.int .u8 0] rfl rfl (cells_box _ _ _) (by intro u hu; simp at hu; subst hu; rfl) ?c1 ?c2 ?c3 ?nx)
        case c1 => unfold maxLen; omega
        case c2 => omega
        case c3 => first | omega | (simp; omega)
        case nx =>
          intro v' w' hown' hgr _
          obtain ⟨a1, c1, rfl⟩ := own_slice hown'
          have hlt4 := World.ownsRow.lt HOW4.out
          have hblk : ∀ q, q < w.heap.size → w'.heap[q]? = w4.heap[q]? := fun q hq => (hgr.block q (by simp; omega) (fun e => by have := (hlt4 q e.symm).1; omega)).trans ((bel_alloc w4 _).block q (by omega))
          have hsz4 : w4.heap.size ≤ w'.heap.size := by have := hgr.size; simp at this; omega
          have ho5 : Out p (p + 1) w w' := ⟨hgr.os.trans HO4.out.1.1, hgr.tape.trans HO4.out.1.2.1, hgr.output.trans HO4.out.1.2.2.1, by omega, fun q hq hn => (hblk q hq).trans (HO4.out.1.2.2.2.2 q hq hn)⟩
          have hb5 := Bad.keep (w' := w') HO4.out.2 (hblk p hp)
          obtain ⟨_, ba, _, hbb⟩ := hb5
          obtain ⟨_, _, v2, _, _⟩ := RdB.cells hbb
          have H5 := (show Hid _ from (⟨ho5, Bad.keep (w' := w') HO4.out.2 (hblk p hp)⟩ : _ ∧ _)); clear ho5 hown' hgr hblk hlt4 hbb
          have hge : decide ((0 : Int) ≤ (q : Int)) = true := by simp
          go_wp2_with fail
          go_ret
          rw [HTQ.out]
          exact ⟨H5.out.1, rfl, H5.out.2⟩
      | ok a =>
        obtain ⟨rfl, hs4⟩ := hg4
        obtain ⟨c, j4⟩ := a
        obtain ⟨hj4, hj4s⟩ := hfb
        dsimp only at hj4 hj4s hs4 ⊢
        have hTQ := hgo _ rfl
        dsimp only at hTQ
        have HTQ := (show Hid _ from hTQ.symm); clear hbad hgo hTQ
        have HOX := ho4
        have HOW := (show Hid _ from HU3.out.2.2)
        have HO4 := (show Hid _ from (⟨Out.trans HU3.out.1 ho4, hs4⟩ : _ ∧ _)); clear ho4 hs4
        have hown4 := own_past HOW.out HOX hp
        have HOW4 := (show Hid _ from own_still hown4 (bel_alloc w4 (.cells #[.int .u8 c.toNat] 5))); clear hown4
        have hB4 : w.heap.size ≤ w4.heap.size := HO4.out.1.2.2.2.1
        go_wp2_with (at_builtin; refine wpList_append_own _ rfl (.tmp 37) (.tmp 40) 53 rfl w.heap.size 5 i5 (.int .u8 0) 1 1 Try.underlying53 hi5 hz0 hz1 hz2 rfl (by decide) _ x.length (bc x) rfl HOW4.out ⟨w4.heap.size, 0, none⟩ 1 1 [.int .u8 c.toNat] rfl rfl (cells_box _ _ _) (by intro u hu; simp at hu; subst hu; rfl) ?c1 ?c2 ?c3 ?nx)
        case c1 => unfold maxLen; omega
        case c2 => omega
        case c3 => first | omega | (simp; omega)
        case nx =>
          intro v' w' hown' hgr _
          obtain ⟨a1, c1, rfl⟩ := own_slice hown'
          have hlt4 := World.ownsRow.lt HOW4.out
          have hblk : ∀ q, q < w.heap.size → w'.heap[q]? = w4.heap[q]? := fun q hq => (hgr.block q (by simp; omega) (fun e => by have := (hlt4 q e.symm).1; omega)).trans ((bel_alloc w4 _).block q (by omega))
          have hsz4 : w4.heap.size ≤ w'.heap.size := by have := hgr.size; simp at this; omega
          have ho5 : Out p (p + 1) w w' := ⟨hgr.os.trans HO4.out.1.1, hgr.tape.trans HO4.out.1.2.1, hgr.output.trans HO4.out.1.2.2.1, by omega, fun q hq hn => (hblk q hq).trans (HO4.out.1.2.2.2.2 q hq hn)⟩
          have hown5 : w'.ownsRow w.heap.size 5 1 (.slice a1 (x ++ [c]).length c1) (x ++ [c]).length (bc (x ++ [c])) := by
            rw [bc_append, List.length_append]
            exact hown'
          have hs5 := Rdr.keep (w' := w') HO4.out.2 (hblk p hp)
          obtain ⟨_, _, v2, _, _⟩ := RdB.cells hs5.2.2
          have H5 := (show Hid _ from (⟨ho5, hs5, hown5, HTQ.out⟩ : _ ∧ _ ∧ _ ∧ _)); clear ho5 hs5 hown5 hown' hgr hblk hlt4
          go_wp2_with fail
          refine ⟨⟨j4, f - 1, x ++ [c], a1, c1, by rw [List.length_append]; rfl, hj4s, by simp; omega, by omega, H5.out⟩, ?_⟩
          have m1 := (RdB.cells H5.out.2.1.2.2).2.1
          have m2 := (RdB.cells HR.out.2.1.2.2).2.1
          rw [m1, m2]
          simp [intOf]
          omega
    have hb2 : ((s[j].toNat : Int) == 92) = false := by simp; omega
    have hs92 : seesB s j 92 = false := by unfold seesB; rw [hg]; simp [hjs]; exact fun e => h92 (by rw [e]; rfl)
    by_cases hpl : 32 ≤ s[j].toNat ∧ s[j].toNat ≤ 126
    · have hd1 : decide ((32 : Int) ≤ s[j].toNat) = true := by simp; omega
      have hd2 : decide ((s[j].toNat : Int) ≤ 126) = true := by simp; omega
      have hpb : pByte s j = .ok (s[j], j + 1) := by unfold pByte plainB; rw [if_neg (by rw [hs92]; simp), hg]; simp [hjs, hpl]
      have HTQ := (show Hid _ from (HR.out.2.2.2.symm.trans (pText_go (x := x) hsq hf hpb)).symm)
      clear h34 h92 hg hsq hs92 hpb
      go_wp2_with fail
      refine Calls.mono HM.out ?_
      rintro e w2 ⟨rfl, m, rfl⟩
      have HU := (show Hid _ from HV.out m)
      generalize wr.drewN m = U at *
      obtain ⟨x0, x1, x2, y1, y2⟩ := RdB.cells HU.out.2.1.2.2
      go_wp2_with fail
      go_quiet (fail)
      have HO4 := (show Hid _ from (⟨Out.drewN HU.out.1 nq, Rdr.keep (w := U) (w' := U.drewN nq) HU.out.2.1 rfl⟩ : _ ∧ _))
      have HOW := (show Hid _ from own_past HU.out.2.2 (Out.drewN (Out.refl p (p + 1) U) nq) hp)
      clear x0 x1 x2 y1 y2
      generalize U.drewN nq = w4 at *
      have HOX : Out p (p + 1) w4 w4 := Out.refl _ _ _
      have hown4 := own_past HOW.out HOX hp
      have HOW4 := (show Hid _ from own_still hown4 (bel_alloc w4 (.cells #[.int .u8 s[j].toNat] 5))); clear hown4
      have hB4 : w.heap.size ≤ w4.heap.size := HO4.out.1.2.2.2.1
      go_wp2_with (at_builtin; refine wpList_append_own _ rfl (.tmp 49) (.tmp 51) 53 rfl w.heap.size 5 i5 (.int .u8 0) 1 1 Try.underlying53 hi5 hz0 hz1 hz2 rfl (by decide) _ x.length (bc x) rfl HOW4.out ⟨w4.heap.size, 0, none⟩ 1 1 [.int .u8 s[j].toNat] rfl rfl (cells_box _ _ _) (by intro u hu; simp at hu; subst hu; rfl) ?c1 ?c2 ?c3 ?nx)
      case c1 => unfold maxLen; omega
      case c2 => omega
      case c3 => first | omega | (simp; omega)
      case nx =>
        intro v' w' hown' hgr _
        obtain ⟨a1, c1, rfl⟩ := own_slice hown'
        have hlt4 := World.ownsRow.lt HOW4.out
        have hblk : ∀ q, q < w.heap.size → w'.heap[q]? = w4.heap[q]? := fun q hq => (hgr.block q (by simp; omega) (fun e => by have := (hlt4 q e.symm).1; omega)).trans ((bel_alloc w4 _).block q (by omega))
        have hsz4 : w4.heap.size ≤ w'.heap.size := by have := hgr.size; simp at this; omega
        have ho5 : Out p (p + 1) w w' := ⟨hgr.os.trans HO4.out.1.1, hgr.tape.trans HO4.out.1.2.1, hgr.output.trans HO4.out.1.2.2.1, by omega, fun q hq hn => (hblk q hq).trans (HO4.out.1.2.2.2.2 q hq hn)⟩
        have hown5 : w'.ownsRow w.heap.size 5 1 (.slice a1 (x ++ [s[j]]).length c1) (x ++ [s[j]]).length (bc (x ++ [s[j]])) := by
          rw [bc_append, List.length_append]
          exact hown'
        have hs5 := Rdr.keep (w' := w') HO4.out.2 (hblk p hp)
        obtain ⟨x0, x1, x2, y1, y2⟩ := RdB.cells hs5.2.2
        have hrn := Rdr.next hs5 hjs
        obtain ⟨_, _, v2, _, _⟩ := RdB.cells hrn.2.2
        have hos := Out.set (o := 1) w' (.int .i64 ((j : Int) + 1)) (Nat.le_refl p) (Nat.lt_succ_self p)
        have H5 := (show Hid _ from (⟨Out.trans ho5 hos, hrn, own_past hown5 hos hp, HTQ.out⟩ : _ ∧ _ ∧ _ ∧ _)); clear ho5 hs5 hown5 hown' hgr hblk hlt4 hrn hos
        go_wp2_with fail
        refine ⟨⟨j + 1, f - 1, x ++ [s[j]], a1, c1, by rw [List.length_append]; rfl, hjs, by simp; omega, by omega, H5.out⟩, ?_⟩
        have m1 := (RdB.cells' H5.out.2.1.2.2).2.1
        have m2 := (RdB.cells HR.out.2.1.2.2).2.1
        rw [m1, m2]
        simp [intOf]
        omega
    · have hpb : pByte s j = .error j := by unfold pByte plainB; rw [if_neg (by rw [hs92]; simp), hg]; simp [hjs]; omega
      have HTQ := (show Hid (T = .error j) from HR.out.2.2.2.symm.trans (pText_bad (x := x) hsq hf hpb))
      have hdd : decide ((32 : Int) ≤ s[j].toNat) = false ∨ decide ((s[j].toNat : Int) ≤ 126) = false := by simp; omega
      clear h34 h92 hg hsq hs92 hpb
      go_wp2_with fail
      refine Calls.mono HM.out ?_
      rintro e w2 ⟨rfl, m, rfl⟩
      have HU := (show Hid _ from HV.out m)
      generalize wr.drewN m = U at *
      obtain ⟨x0, x1, x2, y1, y2⟩ := RdB.cells HU.out.2.1.2.2
      go_wp2_with fail
      go_quiet (fail)
      have HU3 := (show Hid _ from (⟨Out.drewN HU.out.1 nq, Rdr.keep (w := U) (w' := U.drewN nq) HU.out.2.1 rfl⟩ : _ ∧ _))
      clear x0 x1 x2 y1 y2
      generalize U.drewN nq = V at *
      have HF := (show Hid _ from fail_any V HU3.out.2)
      by_cases hd1 : decide ((32 : Int) ≤ s[j].toNat) = true
      · have hd2 : decide ((s[j].toNat : Int) ≤ 126) = false := by rcases hdd with h | h; rw [hd1] at h; cases h; exact h
        go_wp2_with fail
        refine Calls.mono HF.out ?_
        rintro e w3 ⟨rfl, ho3, hb3⟩
        have hb3c := hb3
        obtain ⟨_, ba, _, hbb⟩ := hb3c
        obtain ⟨_, _, v2, _, _⟩ := RdB.cells hbb
        have HX := (show Hid _ from (⟨Out.trans HU3.out.1 ho3, hb3⟩ : _ ∧ _)); clear ho3 hb3 hbb
        go_wp2_with fail
        go_ret
        rw [HTQ.out]
        exact ⟨HX.out.1, rfl, HX.out.2⟩
      · have hd1' : decide ((32 : Int) ≤ s[j].toNat) = false := by simpa using hd1
        go_wp2_with fail
        refine Calls.mono HF.out ?_
        rintro e w3 ⟨rfl, ho3, hb3⟩
        have hb3c := hb3
        obtain ⟨_, ba, _, hbb⟩ := hb3c
        obtain ⟨_, _, v2, _, _⟩ := RdB.cells hbb
        have HX := (show Hid _ from (⟨Out.trans HU3.out.1 ho3, hb3⟩ : _ ∧ _)); clear ho3 hb3 hbb
        go_wp2_with fail
        go_ret
        rw [HTQ.out]
        exact ⟨HX.out.1, rfl, HX.out.2⟩
end Go.Proofs.Ythmdoplickpmaah
