import Derived.Test.YthmdoplickpmaahRdr6
import Derived.Deep.RegionLaw
namespace Go.Proofs.Ythmdoplickpmaah
open Go.RowKit Go.Deep Go.Lib
set_option linter.unusedVariables false
set_option maxRecDepth 100000
set_option linter.unusedSimpArgs false

/-- How the node's loop stands: no fault, so many Kids read; or a fault. -/
def NSt (R : Except Nat (Tr × Nat)) (pT : Nat → Except Nat (Tr × Nat)) (w : World) (p k d : Nat) (s : ByteArray) (wr : World) : Prop :=
  (∃ (j f : Nat) (l : List Tr) (a' : Option Addr) (c' : Nat) (nm : ByteArray), TPre w wr p (.string nm) (.string ByteArray.empty) (.bool false) (.slice a' l.length c') ∧ Rdr wr p s j ∧ Grw l (w.heap.size + 2) l.length (.slice a' l.length c') wr ∧
      R = mkNode nm (pKids pT s f j l) ∧ s.size - j + 1 ≤ f ∧ k < j ∧ l.length ≤ j ∧ nm.size ≤ 1048576) ∨
  (∃ (q m' : Nat) (a' : Option Addr) (c' : Nat) (nm : ByteArray), TPre w wr p (.string nm) (.string ByteArray.empty) (.bool false) (.slice a' m' c') ∧ BadT wr p s q ∧ R = .error q)
/-- .. how much is left. -/
def nLeft (p : Nat) (s : ByteArray) (wr : World) : Nat := if intOf ((wr.cell? ⟨p, 2, none⟩).getD (.bool false)) < 0 then s.size + 2 - (intOf ((wr.cell? ⟨p, 1, none⟩).getD (.bool false))).toNat else 0
theorem nLeft_ok {w : World} {p j : Nat} {s : ByteArray} (h : Rdr w p s j) : nLeft p s w = s.size + 2 - j := by
  obtain ⟨_, x1, x2, _⟩ := RdB.cells h.2.2
  unfold nLeft
  rw [x1, x2]
  simp [intOf]
theorem nLeft_bad {w : World} {p q : Nat} {s : ByteArray} (h : BadT w p s q) : nLeft p s w = 0 := by
  obtain ⟨_, a, _, hb⟩ := h
  obtain ⟨_, x1, x2, _⟩ := RdB.cells hb
  unfold nLeft
  rw [x2]
  exact if_neg (by show ¬ ((q : Int) < 0); omega)
theorem pKids_close {pT : Nat → Except Nat (Tr × Nat)} {s : ByteArray} {f j : Nat} {l : List Tr} (hf : 1 ≤ f) (h : seesB s (skip s j) 41 = true) : pKids pT s f j l = .ok (l, skip s j) := by
  obtain ⟨g, rfl⟩ : ∃ g, f = g + 1 := ⟨f - 1, by omega⟩
  rw [pKids, if_pos h]
theorem pKids_gap {pT : Nat → Except Nat (Tr × Nat)} {s : ByteArray} {f j : Nat} {l : List Tr} (hf : 1 ≤ f) (h : seesB s (skip s j) 41 = false) (h2 : skip s j = j ∧ ¬ (l = [] ∧ seesB s j 40 = true)) : pKids pT s f j l = .error j := by
  obtain ⟨g, rfl⟩ : ∃ g, f = g + 1 := ⟨f - 1, by omega⟩
  rw [pKids, if_neg (by rw [h]; simp), if_pos h2]
theorem pKids_more {pT : Nat → Except Nat (Tr × Nat)} {s : ByteArray} {f j : Nat} {l : List Tr} (hf : 1 ≤ f) (h : seesB s (skip s j) 41 = false) (h2 : ¬ (skip s j = j ∧ ¬ (l = [] ∧ seesB s j 40 = true))) : pKids pT s f j l = (match pT (skip s j) with
    | .error q => .error q
    | .ok r => pKids pT s (f - 1) r.2 (l ++ [r.1])) := by
  obtain ⟨g, rfl⟩ : ∃ g, f = g + 1 := ⟨f - 1, by omega⟩
  rw [pKids, if_neg (by rw [h]; simp), if_neg h2]
  rfl
theorem pTree_end {s : ByteArray} {d J : Nat} (hd : 1 ≤ d) (h : ¬ J < s.size) : pTree s d J = .error J := by
  obtain ⟨g, rfl⟩ : ∃ g, d = g + 1 := ⟨d - 1, by omega⟩
  have h1 : seesB s J 40 = false := by unfold seesB; simp [h]
  rw [pTree, if_neg (by rw [h1]; simp)]
  unfold pLeaf pName
  simp [h]

set_option maxHeartbeats 6400000 in
theorem treeS_node {p d k : Nat} {s : ByteArray} (hT : ∀ (w : World) (k : Nat), Rdr w p s k → s.size - k < d → Calls Try.prog 36 #[.pointer (some ⟨p, 0, none⟩)] w fun e w' => SAns (pTree s d k) w p s e w')
    (w : World) (h : Rdr w p s k) (h40 : seesB s k 40 = true) (hd : s.size - k < d + 1) :
    Calls Try.prog 36 #[.pointer (some ⟨p, 0, none⟩)] w fun e w' => SAns (pTree s (d + 1) k) w p s e w' := by
  have hk := h.1
  have hs := h.2.1
  have hp := h.lt
  have hlt := seesB_lt h40
  have hd1 : 1 ≤ d := by omega
  have hsk := skip_le (s := s) (k := k + 1) hlt
  have hpt : pTree s (d + 1) k = (match pName s (skip s (k + 1)) with
    | .error j => .error j
    | .ok r => mkNode r.1 (pKids (pTree s d) s (s.size + 1 - r.2) r.2 [])) := by rw [pTree, if_pos h40]; rfl
  have hfit := pName_fits hsk.2
  have hsm := fun a (ha : pName s (skip s (k + 1)) = .ok a) => pName_small hsk.2 (by omega) ha
  have HT := (show Hid _ from hT); clear hT
  have HBL := (show Hid _ from fun w1 (h1 : Rdr w1 p s (k + 1)) => blanksS_any w1 h1)
  have HN := (show Hid _ from fun w1 (h1 : Rdr w1 p s (skip s (k + 1))) => nameS_any w1 h1)
  have HT0 := (show Hid (TPre w ((w.alloc (.cells #[.string ⟨#[]⟩, .string ⟨#[]⟩, .bool false, .slice none 0 0] 29)).alloc (.cells #[.string ⟨#[]⟩, .string ⟨#[]⟩, .bool false, .slice none 0 0] 29)) p (.string ByteArray.empty) (.string ByteArray.empty) (.bool false) (.slice none 0 0)) from TPre.new w p)
  have hr2 : Rdr ((w.alloc (.cells #[.string ⟨#[]⟩, .string ⟨#[]⟩, .bool false, .slice none 0 0] 29)).alloc (.cells #[.string ⟨#[]⟩, .string ⟨#[]⟩, .bool false, .slice none 0 0] 29)) p s k := (h.still (bel_alloc _ _)).still (bel_alloc _ _)
  have HR2 := (show Hid _ from hr2)
  obtain ⟨x0, x1, x2, y1, y2⟩ := RdB.cells hr2.2.2
  have HM := (show Hid _ from fun n => more_any (((w.alloc (.cells #[.string ⟨#[]⟩, .string ⟨#[]⟩, .bool false, .slice none 0 0] 29)).alloc (.cells #[.string ⟨#[]⟩, .string ⟨#[]⟩, .bool false, .slice none 0 0] 29)).drewN n) (p := p) (k := k) (s := s) (Rdr.keep HR2.out rfl))
  rw [decide_eq_true hlt] at HM
  have hlt' : (k : Int) < s.size := by omega
  have hb40 : ((s[k].toNat : Int) == 40) = true := by
    unfold seesB at h40
    rw [get!_eq s k hlt] at h40
    simp [hlt] at h40
    rw [h40]
    rfl
  clear hr2 h h40
  generalize pTree s (d + 1) k = R at *
  obtain ⟨i29, hi29, hzz⟩ := Option.map_eq_some_iff.1 info29
  simp only [Prod.mk.injEq] at hzz
  obtain ⟨hz0, hz1, hz2⟩ := hzz
  go_enter Try.func36, Try.ntmps36
  go_wp2_with fail
  go_quiet ((go_at_call 47; refine Calls.quiet_of (HM.out _)))
  have HV := (show Hid _ from (⟨TPre.step HT0.out (Out.drewN (Out.refl p (p + 1) _) nq) hp, Rdr.keep HR2.out rfl⟩ : TPre w (((w.alloc (.cells #[.string ⟨#[]⟩, .string ⟨#[]⟩, .bool false, .slice none 0 0] 29)).alloc (.cells #[.string ⟨#[]⟩, .string ⟨#[]⟩, .bool false, .slice none 0 0] 29)).drewN nq) p (.string ByteArray.empty) (.string ByteArray.empty) (.bool false) (.slice none 0 0) ∧ Rdr (((w.alloc (.cells #[.string ⟨#[]⟩, .string ⟨#[]⟩, .bool false, .slice none 0 0] 29)).alloc (.cells #[.string ⟨#[]⟩, .string ⟨#[]⟩, .bool false, .slice none 0 0] 29)).drewN nq) p s k))
  clear x0 x1 x2 y1 y2 HM HT0 HR2 hb40
  generalize ((w.alloc (.cells #[.string ⟨#[]⟩, .string ⟨#[]⟩, .bool false, .slice none 0 0] 29)).alloc (.cells #[.string ⟨#[]⟩, .string ⟨#[]⟩, .bool false, .slice none 0 0] 29)).drewN nq = V at *
  obtain ⟨x0, x1, x2, y1, y2⟩ := RdB.cells HV.out.2.2.2
  have HV1 := (show Hid _ from (⟨TPre.step HV.out.1 (Out.set (o := 1) V (.int .i64 ((k : Int) + 1)) (Nat.le_refl p) (Nat.lt_succ_self p)) hp, Rdr.next HV.out.2 hlt⟩ : _ ∧ _))
  go_wp2_with fail
  clear x0 x1 x2 y1 y2
  generalize V.setCell ⟨p, 1, none⟩ (.int .i64 ((k : Int) + 1)) = V1 at *
  refine Calls.mono (HBL.out V1 HV1.out.2) ?_
  rintro e w1 ⟨rfl, ho1, hr1⟩
  have HV2 := (show Hid _ from (⟨TPre.step HV1.out.1 ho1 hp, hr1⟩ : _ ∧ _)); clear ho1 hr1
  have H2 := (show Hid _ from HN.out w1 HV2.out.2)
  have hkl : ∀ (pT : Nat → Except Nat (Tr × Nat)) (f k1 : Nat), tooLong s (skip s (k + 1)) k1 = true → pKids pT s (f + 1) k1 [] = .error k1 := fun pT f k1 h => long_kids h
  generalize pName s (skip s (k + 1)) = rn at *
  generalize hKK : skip s (k + 1) = K at *
  generalize K - (k + 1) = gp at *
  clear hKK
  go_wp2_with fail
  refine Calls.mono H2.out ?_
  rintro e w2 ⟨ho2, hg2⟩
  have hT2 := TPre.step HV2.out.1 ho2 hp
  have hst : ∃ N, e = .returned (.string N) ∧ (∀ V3, TPre w V3 p (.string N) (.string ByteArray.empty) (.bool false) (.slice none 0 0) → V3.heap[p]? = w2.heap[p]? → NSt R (pTree s d) w p k d s V3) := by
    cases rn with
    | error j =>
      obtain ⟨rfl, hb2⟩ := hg2
      exact ⟨_, rfl, fun V3 hV3 hk3 => .inr ⟨j, 0, none, 0, _, hV3, (Bad.t hb2).keep hk3, hpt⟩⟩
    | ok a =>
      obtain ⟨nm, k1⟩ := a
      have hnm := hsm _ rfl
      obtain ⟨hk1, hk1s⟩ := hfit
      dsimp only at hnm hk1 hk1s hpt
      rcases hg2 with ⟨htl, rfl, hb2⟩ | ⟨htl, rfl, hr2⟩
      · refine ⟨_, rfl, fun V3 hV3 hk3 => .inr ⟨k1, 0, none, 0, _, hV3, (Bad.t hb2).keep hk3, ?_⟩⟩
        rw [hpt]
        obtain ⟨g, hg⟩ : ∃ g, s.size + 1 - k1 = g + 1 := ⟨s.size - k1, by omega⟩
        rw [hg, hkl _ _ _ htl]
        rfl
      · exact ⟨_, rfl, fun V3 hV3 hk3 => .inl ⟨k1, s.size + 1 - k1, [], none, 0, nm, hV3, hr2.keep hk3, Grw.nil _ _ _, hpt, by omega, by omega, Nat.zero_le _, hnm⟩⟩
  obtain ⟨N, rfl, hst⟩ := hst
  have hB3 := Box4.set0 hT2.b1 (.string N)
  have HN3 := (show Hid _ from hst _ (TPre.put hT2 hB3) (blk_setCell_other _ _ _ _ (by show p ≠ w.heap.size + 1; omega)))
  obtain ⟨t0, t1, t2, t3⟩ := Box4.cells hT2.b1
  have r0 := Box4.frozen hT2.b1 0
  clear hst hB3 hT2 ho2 hg2 hpt hkl hsm hfit
  go_wp2_with fail
  clear t0 t1 t2 t3 r0
  go_loopw [] (fun wr => Hid (NSt R (pTree s d) w p k d s wr)) (fun wr => nLeft p s wr)
  case atStart => exact HN3.out
  case round =>
    clear HN3
    rcases hrel.out with ⟨j, f, l, a', c', nm, hTP, hRd, hG, hR, hf, hkj, hlj, hnm⟩ | ⟨q, m', a', c', nm, hTP, hBd, hR⟩
    case inr =>
      have HX := (show Hid _ from (⟨hTP, hBd⟩ : _ ∧ STG (.error q) (w.heap.size + 1) p s nm ByteArray.empty false (.slice a' m' c') wr))
      have HRR := (show Hid _ from hR)
      obtain ⟨_, ba, _, hbb⟩ := hBd
      obtain ⟨_, _, v2, _, _⟩ := RdB.cells hbb
      have hdn : decide ((q : Int) < 0) = false := by simp
      clear hTP hR hbb hrel
      obtain ⟨T0, T1, T2, T3⟩ := Box4.cells HX.out.1.b1
      obtain ⟨Z0, Z1, Z2, Z3⟩ := Box4.cells HX.out.1.b0
      have z0 := Box4.frozen HX.out.1.b0 0
      have z1 := Box4.frozen HX.out.1.b0 1
      have z2 := Box4.frozen HX.out.1.b0 2
      have z3 := Box4.frozen HX.out.1.b0 3
      go_wp2_with fail
      refine bodyPost_ret (v := .agg #[.string nm, .string ByteArray.empty, .bool false, .slice a' m' c']) (by simp [results, Try.results36, go_sem, Z0, Z1, Z2, Z3]) rfl ?_
      rw [HRR.out]
      exact TPre.done HX.out.1 hp HX.out.2
    have hj := hRd.1
    have hsj := skip_le hj
    have HB := (show Hid _ from blanksS_any wr hRd)
    have HJ := (show Hid _ from (⟨hTP, hG, hR⟩ : _ ∧ _ ∧ _))
    have hml := nLeft_ok hRd
    have HML := (show Hid _ from hml); clear hml
    obtain ⟨_, _, v2, _, _⟩ := RdB.cells hRd.2.2
    have hkc := fun h => pKids_close (pT := pTree s d) (s := s) (f := f) (j := j) (l := l) (by omega) h
    have hkg := fun h h2 => pKids_gap (pT := pTree s d) (s := s) (f := f) (j := j) (l := l) (by omega) h h2
    have hkm := fun h h2 => pKids_more (pT := pTree s d) (s := s) (f := f) (j := j) (l := l) (by omega) h h2
    have HKK := (show Hid _ from (⟨hkc, hkg, hkm⟩ : _ ∧ _ ∧ _)); clear hkc hkg hkm
    clear hTP hG hR hRd hrel
    generalize skip s j = J at *
    go_wp2_with fail
    refine Calls.mono HB.out ?_
    rintro e w3 ⟨rfl, ho3, hr3⟩
    have HU := (show Hid _ from (⟨TPre.step HJ.out.1 ho3 hp, hr3, Grw.out HJ.out.2.1 ho3 (by omega)⟩ : _ ∧ _ ∧ _)); clear ho3 hr3 v2
    obtain ⟨x0, x1, x2, y1, y2⟩ := RdB.cells HU.out.2.1.2.2
    have HM1 := (show Hid _ from fun n => more_any (w3.drewN n) (p := p) (k := J) (s := s) (Rdr.keep (w := w3) HU.out.2.1 rfl))
    have HU0 := (show Hid _ from fun n => (⟨TPre.step HU.out.1 (Out.drewN (Out.refl p (p + 1) w3) n) hp, Rdr.keep (w := w3) (w' := w3.drewN n) HU.out.2.1 rfl, Grw.out HU.out.2.2 (Out.drewN (Out.refl p (p + 1) w3) n) (by omega)⟩ : _ ∧ _ ∧ _))
    by_cases hJs : J < s.size
    case neg =>
      rw [decide_eq_false hJs] at HM1
      have h41 : seesB s J 41 = false := by unfold seesB; simp [hJs]
      have HRR := (show Hid (R = .error J) from by
        show R = .error J
        rw [HJ.out.2.2]
        by_cases hc : J = j ∧ ¬ (l = [] ∧ seesB s j 40 = true)
        · rw [HKK.out.2.1 h41 hc, hc.1]; rfl
        · rw [HKK.out.2.2 h41 hc, pTree_end hd1 hJs]; rfl)
      go_wp2_with fail
      go_quiet ((go_at_call 47; refine Calls.quiet_of (HM1.out _)))
      have HUA := (show Hid _ from HU0.out nq)
      clear x0 x1 x2 y1 y2 HU0 HM1
      generalize w3.drewN nq = U at *
      obtain ⟨x0, x1, x2, y1, y2⟩ := RdB.cells HUA.out.2.1.2.2
      have HM2 := (show Hid _ from fun n => more_any (U.drewN n) (p := p) (k := J) (s := s) (Rdr.keep (w := U) HUA.out.2.1 rfl))
      rw [decide_eq_false hJs] at HM2
      have HU0 := (show Hid _ from fun n => (⟨TPre.step HUA.out.1 (Out.drewN (Out.refl p (p + 1) U) n) hp, Rdr.keep (w := U) (w' := U.drewN n) HUA.out.2.1 rfl, Grw.out HUA.out.2.2 (Out.drewN (Out.refl p (p + 1) U) n) (by omega)⟩ : _ ∧ _ ∧ _))
      obtain ⟨_, _, _, T3⟩ := Box4.cells HUA.out.1.b1
      go_wp2_with fail
      go_quiet ((go_at_call 47; refine Calls.quiet_of (HM2.out _)))
      have HU1 := (show Hid _ from HU0.out nq)
      clear x0 x1 x2 y1 y2 T3 HU0 HM2
      generalize U.drewN nq = U1 at *
      have HF := (show Hid _ from fail_any U1 HU1.out.2.1)
      go_wp2_with fail
      refine Calls.mono HF.out ?_
      rintro e U ⟨rfl, hoU, hbU⟩
      have HX := (show Hid _ from (⟨TPre.step HU1.out.1 hoU hp, Bad.t hbU⟩ : _ ∧ STG (.error J) (w.heap.size + 1) p s nm ByteArray.empty false (.slice a' l.length c') U)); clear hoU hbU
      obtain ⟨T0, T1, T2, T3⟩ := Box4.cells HX.out.1.b1
      obtain ⟨Z0, Z1, Z2, Z3⟩ := Box4.cells HX.out.1.b0
      have z0 := Box4.frozen HX.out.1.b0 0
      have z1 := Box4.frozen HX.out.1.b0 1
      have z2 := Box4.frozen HX.out.1.b0 2
      have z3 := Box4.frozen HX.out.1.b0 3
      go_wp2_with fail
      refine bodyPost_ret (v := .agg #[.string nm, .string ByteArray.empty, .bool false, .slice a' l.length c']) (by simp [results, Try.results36, go_sem, Z0, Z1, Z2, Z3]) rfl ?_
      rw [HRR.out]
      exact TPre.done HX.out.1 hp HX.out.2
    have hJs' : (J : Int) < s.size := by omega
    rw [decide_eq_true hJs] at HM1
    have hg := get!_eq s J hJs
    by_cases h41 : s[J].toNat = 41
    · have hb41 : ((s[J].toNat : Int) == 41) = true := by simp; omega
      have hse : seesB s J 41 = true := by unfold seesB; rw [hg]; simp [hJs]; exact UInt8.toNat_inj.1 h41
      have HRR := (show Hid (R = .ok (⟨nm, ByteArray.empty, false, l⟩, J + 1)) from HJ.out.2.2.trans (by rw [HKK.out.1 hse]; rfl))
      clear h41 hg hse
      go_wp2_with fail
      go_quiet ((go_at_call 47; refine Calls.quiet_of (HM1.out _)))
      have HUA := (show Hid _ from HU0.out nq)
      clear x0 x1 x2 y1 y2 HU0 HM1
      generalize w3.drewN nq = U at *
      obtain ⟨x0, x1, x2, y1, y2⟩ := RdB.cells HUA.out.2.1.2.2
      have hos := Out.set (o := 1) U (.int .i64 ((J : Int) + 1)) (Nat.le_refl p) (Nat.lt_succ_self p)
      have hTe := TPre.step HUA.out.1 hos hp
      have hGe := Grw.done (n := nm) (x := ByteArray.empty) (le := false) (Grw.out HUA.out.2.2 hos (by omega)) (by unfold maxLen; omega) (Nat.zero_le _)
      have HX := (show Hid _ from (⟨hTe, rfl, rfl, rfl, hGe.keep (by omega) (Nat.le_refl _) (fun _ _ _ _ => rfl), Rdr.next HUA.out.2.1 hJs⟩ : _ ∧ STG (.ok (⟨nm, ByteArray.empty, false, l⟩, J + 1)) (w.heap.size + 1) p s nm ByteArray.empty false (.slice a' l.length c') (U.setCell ⟨p, 1, none⟩ (.int .i64 ((J : Int) + 1))))); clear hos hTe hGe
      obtain ⟨T0, T1, T2, T3⟩ := Box4.cells HX.out.1.b1
      obtain ⟨Z0, Z1, Z2, Z3⟩ := Box4.cells HX.out.1.b0
      have z0 := Box4.frozen HX.out.1.b0 0
      have z1 := Box4.frozen HX.out.1.b0 1
      have z2 := Box4.frozen HX.out.1.b0 2
      have z3 := Box4.frozen HX.out.1.b0 3
      go_wp2_with fail
      refine bodyPost_ret (v := .agg #[.string nm, .string ByteArray.empty, .bool false, .slice a' l.length c']) (by simp [results, Try.results36, go_sem, Z0, Z1, Z2, Z3]) rfl ?_
      rw [HRR.out]
      exact TPre.done HX.out.1 hp HX.out.2
    have hb41 : ((s[J].toNat : Int) == 41) = false := by simp; omega
    have hs41 : seesB s J 41 = false := by unfold seesB; rw [hg]; simp [hJs]; exact fun e => h41 (by rw [e]; rfl)
    by_cases hJj : J = j
    · have hgz : (((J - j : Nat) : Int) == 0) = true := by simp; omega
      by_cases h40J : s[J].toNat = 40
      · have hbn : ((s[J].toNat : Int) != 40) = false := by simp; omega
        have hs40 : seesB s J 40 = true := by unfold seesB; rw [hg]; simp [hJs]; exact UInt8.toNat_inj.1 h40J
        by_cases hl0 : 0 < l.length
        · have hd0 : decide ((0 : Int) < l.length) = true := by simp; omega
          have HRR := (show Hid (R = .error J) from HJ.out.2.2.trans (by rw [HKK.out.2.1 hs41 ⟨hJj, fun hc => by rw [hc.1] at hl0; simp at hl0⟩, hJj]; rfl))
          generalize J - j = gp at *
          clear h41 hg hs41 h40J hs40 hJj
          go_wp2_with fail
          go_quiet ((go_at_call 47; refine Calls.quiet_of (HM1.out _)))
          have HUA := (show Hid _ from HU0.out nq)
          clear x0 x1 x2 y1 y2 HU0 HM1
          generalize w3.drewN nq = U at *
          obtain ⟨x0, x1, x2, y1, y2⟩ := RdB.cells HUA.out.2.1.2.2
          have HM2 := (show Hid _ from fun n => more_any (U.drewN n) (p := p) (k := J) (s := s) (Rdr.keep (w := U) HUA.out.2.1 rfl))
          rw [decide_eq_true hJs] at HM2
          have HU0 := (show Hid _ from fun n => (⟨TPre.step HUA.out.1 (Out.drewN (Out.refl p (p + 1) U) n) hp, Rdr.keep (w := U) (w' := U.drewN n) HUA.out.2.1 rfl, Grw.out HUA.out.2.2 (Out.drewN (Out.refl p (p + 1) U) n) (by omega)⟩ : _ ∧ _ ∧ _))
          obtain ⟨_, _, _, T3⟩ := Box4.cells HUA.out.1.b1
          go_wp2_with fail
          go_quiet ((go_at_call 47; refine Calls.quiet_of (HM2.out _)))
          have HU1 := (show Hid _ from HU0.out nq)
          clear x0 x1 x2 y1 y2 T3 HU0 HM2
          generalize U.drewN nq = U1 at *
          have HF := (show Hid _ from fail_any U1 HU1.out.2.1)
          go_wp2_with fail
          refine Calls.mono HF.out ?_
          rintro e U ⟨rfl, hoU, hbU⟩
          have HX := (show Hid _ from (⟨TPre.step HU1.out.1 hoU hp, Bad.t hbU⟩ : _ ∧ STG (.error J) (w.heap.size + 1) p s nm ByteArray.empty false (.slice a' l.length c') U)); clear hoU hbU
          obtain ⟨T0, T1, T2, T3⟩ := Box4.cells HX.out.1.b1
          obtain ⟨Z0, Z1, Z2, Z3⟩ := Box4.cells HX.out.1.b0
          have z0 := Box4.frozen HX.out.1.b0 0
          have z1 := Box4.frozen HX.out.1.b0 1
          have z2 := Box4.frozen HX.out.1.b0 2
          have z3 := Box4.frozen HX.out.1.b0 3
          go_wp2_with fail
          refine bodyPost_ret (v := .agg #[.string nm, .string ByteArray.empty, .bool false, .slice a' l.length c']) (by simp [results, Try.results36, go_sem, Z0, Z1, Z2, Z3]) rfl ?_
          rw [HRR.out]
          exact TPre.done HX.out.1 hp HX.out.2
        · have hd0 : decide ((0 : Int) < l.length) = false := decide_eq_false (by omega)
          have HMO := (show Hid _ from HKK.out.2.2 hs41 (fun hc => hc.2 ⟨List.eq_nil_of_length_eq_zero (by omega), by rw [← hJj]; exact hs40⟩))
          generalize J - j = gp at *
          have hjJ : j ≤ J := hsj.1
          clear h41 hg hs41 h40J hs40 hJj
          go_wp2_with fail
          go_quiet ((go_at_call 47; refine Calls.quiet_of (HM1.out _)))
          have HUA := (show Hid _ from HU0.out nq)
          clear x0 x1 x2 y1 y2 HU0 HM1
          generalize w3.drewN nq = U at *
          obtain ⟨x0, x1, x2, y1, y2⟩ := RdB.cells HUA.out.2.1.2.2
          have HM2 := (show Hid _ from fun n => more_any (U.drewN n) (p := p) (k := J) (s := s) (Rdr.keep (w := U) HUA.out.2.1 rfl))
          rw [decide_eq_true hJs] at HM2
          have HU0 := (show Hid _ from fun n => (⟨TPre.step HUA.out.1 (Out.drewN (Out.refl p (p + 1) U) n) hp, Rdr.keep (w := U) (w' := U.drewN n) HUA.out.2.1 rfl, Grw.out HUA.out.2.2 (Out.drewN (Out.refl p (p + 1) U) n) (by omega)⟩ : _ ∧ _ ∧ _))
          obtain ⟨_, _, _, T3⟩ := Box4.cells HUA.out.1.b1
          go_wp2_with fail
          go_quiet ((go_at_call 47; refine Calls.quiet_of (HM2.out _)))
          have HU1 := (show Hid _ from HU0.out nq)
          clear x0 x1 x2 y1 y2 T3 HU0 HM2
          generalize U.drewN nq = U1 at *
          obtain ⟨fs, ls, hhs, hown, hls, hr, hdd⟩ := HU1.out.2.2
          have HF := (show Hid _ from (⟨hown, hls, hr, hdd⟩ : _ ∧ _ ∧ _ ∧ _)); clear hown hls hr hdd
          have hCL := HT.out U1.drew J (Rdr.keep (w := U1) HU1.out.2.1 rfl) (by omega)
          have hft := pTree_fits (s := s) d J hsj.2
          generalize pTree s d J = rt at *
          have HCL := (show Hid _ from hCL); clear hCL
          have hsz1 := HU1.out.1.size
          have b3 := (Box4.cells HU1.out.1.b1).2.2.2
          have f3 := Box4.frozen HU1.out.1.b1 3
          go_wp2_with fail
          go_region_law (first
            | (refine step_append_lies _ rfl (.tmp 90) (.tmp 93) 27 rfl (w.heap.size + 2) 29 i29 _ 4 64 Try.underlying27 hi29 hz0 hz1 hz2 rfl (by decide) _ l.length (kc l fs l.length) (by simp [Act.eval, Act.put]) HO2.out ⟨w4.heap.size, 0, none⟩ 1 1 [.string n4, .string x4, .bool le4, .slice a4 m4 c4] (by simp [Act.eval, Act.put]) rfl (cell_four_box _ _ _ _ _ _) (by intro u hu; simp at hu; rcases hu with rfl | rfl | rfl | rfl <;> rfl) (by decide) (by unfold maxLen; omega) (by omega) (by simp; omega) _ rfl ?_; intro g5 cap5 w5 hown5 hgr5 hat5 hlt5; have B5 := (B4.still (bel_alloc w4 (.cells #[.string n4, .string x4, .bool le4, .slice a4 m4 c4] 29))).keep (hgr5.block _ (by simp; omega) (fun e => by have := (World.ownsRow.lt HF.out.1 _ e.symm).1; omega)); have V5 := B5.cells.2.2.2; have g5f := B5.frozen 3)
            | (go_simp; go_at_call 36; refine Calls.mono HCL.out ?_; rintro e w4 ⟨n4, x4, le4, a4, m4, c4, rfl, ho4, hg4⟩; have hoA : Out p (p + 1) U1 w4 := Out.trans (Out.drewN (Out.refl p (p + 1) U1) 1) ho4; have hs4 : U1.heap.size ≤ w4.heap.size := hoA.2.2.2.1; have B4 := Box4.keep HU1.out.1.b1 (hoA.2.2.2.2 _ HU1.out.1.b1.lt (by omega)); have U3 := B4.cells.2.2.2; have U4 := (B4.still (bel_alloc w4 (.cells #[.string n4, .string x4, .bool le4, .slice a4 m4 c4] 29))).cells.2.2.2; have HO2 := (show Hid _ from own_still (own_past HF.out.1 hoA (by omega)) (bel_alloc w4 (.cells #[.string n4, .string x4, .bool le4, .slice a4 m4 c4] 29)))))
          all_goals
            obtain ⟨hown, hls, hr, hdd⟩ := HF.out
            have hvl := World.ownsRow.lt hown
            have hblk : ∀ q, q < w.heap.size + 2 → w5.heap[q]? = w4.heap[q]? := fun q hq => (hgr5.block q (by simp; omega) (fun e => by have := hvl q e.symm; omega)).trans ((bel_alloc w4 _).block q (by omega))
            have hsz5 : w4.heap.size + 1 ≤ w5.heap.size := by have := hgr5.size; simp at this; omega
            have hT4 := TPre.step HU1.out.1 hoA hp
            have hT5 : TPre w w5 p (.string nm) (.string ByteArray.empty) (.bool false) (.slice a' l.length c') := ⟨⟨hgr5.os.trans hT4.out.1, hgr5.tape.trans hT4.out.2.1, hgr5.output.trans hT4.out.2.2.1, by have := hT4.size; omega, fun q hq hn => (hblk q (by omega)).trans (hT4.out.2.2.2.2 q hq hn)⟩, by have := hT4.size; omega, hT4.b0.keep (hblk _ (by omega)), hT4.b1.keep (hblk _ (by omega))⟩
            have hT6 := TPre.put hT5 (Box4.set3 hT5.b1 (.slice (some ⟨g5, 0, none⟩) (l.length + 1) cap5))
            have hpk : (w5.setCell ⟨w.heap.size + 1, 3, none⟩ (.slice (some ⟨g5, 0, none⟩) (l.length + 1) cap5)).heap[p]? = w4.heap[p]? := (blk_setCell_other _ _ _ _ (by show p ≠ w.heap.size + 1; omega)).trans (hblk p (by omega))
            have HST : Hid (NSt R (pTree s d) w p k d s (w5.setCell ⟨w.heap.size + 1, 3, none⟩ (.slice (some ⟨g5, 0, none⟩) (l.length + 1) cap5)) ∧ nLeft p s (w5.setCell ⟨w.heap.size + 1, 3, none⟩ (.slice (some ⟨g5, 0, none⟩) (l.length + 1) cap5)) < nLeft p s wr) := by
              rw [HML.out]
              cases rt with
              | error q =>
                have hb6 := BadT.keep hg4 hpk
                exact ⟨.inr ⟨q, _, _, _, nm, hT6, hb6, by rw [HJ.out.2.2, HMO.out]; rfl⟩, by rw [nLeft_bad hb6]; omega⟩
              | ok a =>
                obtain ⟨t4, j4⟩ := a
                obtain ⟨e1, e2, e3, ho, hr4⟩ := hg4
                obtain ⟨hj4, hj4s⟩ := hft
                dsimp only at e1 e2 e3 ho hr4 hj4 hj4s
                have hr6 := hr4.keep hpk
                subst e1 e2 e3
                have hnl : nth (l ++ [t4]) l.length = t4 := by simp [nth]
                have hG5 : Grw (l ++ [t4]) (w.heap.size + 2) (l.length + 1) (.slice (some ⟨g5, 0, none⟩) (l.length + 1) cap5) w5 := by
                  refine Grw.stepO (wr := U1) (w2 := w4.alloc (.cells #[.string t4.name, .string t4.text, .bool t4.leaf, .slice a4 m4 c4] 29)) (a := U1.heap.size) (c := w4.heap.size) (v := .slice a' l.length c') (u := .slice a4 m4 c4) (fs := fs) (l := ls) (h := hhs) (by rw [kc_ext l _ fs _ (Nat.le_refl _)]; exact hown) (fun i hi => ?_) hr hdd (by have := HU1.out.1.size; omega) (by simp; omega) ?_ (Nat.le_refl _) (by simp) ?_ hgr5 hat5
                  · rw [nth_ext l _ hi]
                    exact ((hls i hi).keep (Nat.le_refl _) (Nat.le_refl _) (fun q h1 h2 h3 => hoA.2.2.2.2 q h3 (by have := (hr i hi).1; omega))).still (bel_alloc _ _)
                  · rw [hnl]
                    exact Own.still ho (bel_alloc _ _)
                  · rw [hnl, kc_ext l _ fs _ (Nat.le_refl _)]
                    exact hown5
                have hG6 : Grw (l ++ [t4]) (w.heap.size + 2) (l ++ [t4]).length (.slice (some ⟨g5, 0, none⟩) (l ++ [t4]).length cap5) (w5.setCell ⟨w.heap.size + 1, 3, none⟩ (.slice (some ⟨g5, 0, none⟩) (l.length + 1) cap5)) := by
                  rw [List.length_append]
                  exact Grw.set hG5 (by omega)
                refine ⟨.inl ⟨j4, f - 1, l ++ [t4], some ⟨g5, 0, none⟩, cap5, nm, by rw [List.length_append]; exact hT6, hr6, hG6, by rw [HJ.out.2.2, HMO.out], by omega, by omega, by simp; omega, hnm⟩, ?_⟩
                rw [nLeft_ok hr6]
                omega
            clear hown5 hgr5 hat5 hown hls hr hdd hvl hblk hT4 hT5 hT6 hpk B5 B4 V5 g5f U3 U4 b3 f3 HO2 hoA ho4 hg4
            go_wp2_with fail
            exact ⟨HST.out.1, HST.out.2⟩
      · have hbn : ((s[J].toNat : Int) != 40) = true := by simp; omega
        have hs40 : seesB s J 40 = false := by unfold seesB; rw [hg]; simp [hJs]; exact fun e => h40J (by rw [e]; rfl)
        have HRR := (show Hid (R = .error J) from HJ.out.2.2.trans (by rw [HKK.out.2.1 hs41 ⟨hJj, fun hc => by rw [← hJj, hs40] at hc; exact absurd hc.2 (by simp)⟩, hJj]; rfl))
        generalize J - j = gp at *
        clear h41 hg hs41 h40J hs40 hJj
        go_wp2_with fail
        go_quiet ((go_at_call 47; refine Calls.quiet_of (HM1.out _)))
        have HUA := (show Hid _ from HU0.out nq)
        clear x0 x1 x2 y1 y2 HU0 HM1
        generalize w3.drewN nq = U at *
        obtain ⟨x0, x1, x2, y1, y2⟩ := RdB.cells HUA.out.2.1.2.2
        have HM2 := (show Hid _ from fun n => more_any (U.drewN n) (p := p) (k := J) (s := s) (Rdr.keep (w := U) HUA.out.2.1 rfl))
        rw [decide_eq_true hJs] at HM2
        have HU0 := (show Hid _ from fun n => (⟨TPre.step HUA.out.1 (Out.drewN (Out.refl p (p + 1) U) n) hp, Rdr.keep (w := U) (w' := U.drewN n) HUA.out.2.1 rfl, Grw.out HUA.out.2.2 (Out.drewN (Out.refl p (p + 1) U) n) (by omega)⟩ : _ ∧ _ ∧ _))
        obtain ⟨_, _, _, T3⟩ := Box4.cells HUA.out.1.b1
        go_wp2_with fail
        go_quiet ((go_at_call 47; refine Calls.quiet_of (HM2.out _)))
        have HU1 := (show Hid _ from HU0.out nq)
        clear x0 x1 x2 y1 y2 T3 HU0 HM2
        generalize U.drewN nq = U1 at *
        have HF := (show Hid _ from fail_any U1 HU1.out.2.1)
        go_wp2_with fail
        refine Calls.mono HF.out ?_
        rintro e U ⟨rfl, hoU, hbU⟩
        have HX := (show Hid _ from (⟨TPre.step HU1.out.1 hoU hp, Bad.t hbU⟩ : _ ∧ STG (.error J) (w.heap.size + 1) p s nm ByteArray.empty false (.slice a' l.length c') U)); clear hoU hbU
        obtain ⟨T0, T1, T2, T3⟩ := Box4.cells HX.out.1.b1
        obtain ⟨Z0, Z1, Z2, Z3⟩ := Box4.cells HX.out.1.b0
        have z0 := Box4.frozen HX.out.1.b0 0
        have z1 := Box4.frozen HX.out.1.b0 1
        have z2 := Box4.frozen HX.out.1.b0 2
        have z3 := Box4.frozen HX.out.1.b0 3
        go_wp2_with fail
        refine bodyPost_ret (v := .agg #[.string nm, .string ByteArray.empty, .bool false, .slice a' l.length c']) (by simp [results, Try.results36, go_sem, Z0, Z1, Z2, Z3]) rfl ?_
        rw [HRR.out]
        exact TPre.done HX.out.1 hp HX.out.2
    · have hgz : (((J - j : Nat) : Int) == 0) = false := by simp; omega
      have HMO := (show Hid _ from HKK.out.2.2 hs41 (fun hc => hJj hc.1))
      generalize J - j = gp at *
      have hjJ : j ≤ J := hsj.1
      clear h41 hg hs41 hJj
      go_wp2_with fail
      go_quiet ((go_at_call 47; refine Calls.quiet_of (HM1.out _)))
      have HUA := (show Hid _ from HU0.out nq)
      clear x0 x1 x2 y1 y2 HU0 HM1
      generalize w3.drewN nq = U at *
      obtain ⟨x0, x1, x2, y1, y2⟩ := RdB.cells HUA.out.2.1.2.2
      have HM2 := (show Hid _ from fun n => more_any (U.drewN n) (p := p) (k := J) (s := s) (Rdr.keep (w := U) HUA.out.2.1 rfl))
      rw [decide_eq_true hJs] at HM2
      have HU0 := (show Hid _ from fun n => (⟨TPre.step HUA.out.1 (Out.drewN (Out.refl p (p + 1) U) n) hp, Rdr.keep (w := U) (w' := U.drewN n) HUA.out.2.1 rfl, Grw.out HUA.out.2.2 (Out.drewN (Out.refl p (p + 1) U) n) (by omega)⟩ : _ ∧ _ ∧ _))
      obtain ⟨_, _, _, T3⟩ := Box4.cells HUA.out.1.b1
      go_wp2_with fail
      go_quiet ((go_at_call 47; refine Calls.quiet_of (HM2.out _)))
      have HU1 := (show Hid _ from HU0.out nq)
      clear x0 x1 x2 y1 y2 T3 HU0 HM2
      generalize U.drewN nq = U1 at *
      obtain ⟨fs, ls, hhs, hown, hls, hr, hdd⟩ := HU1.out.2.2
      have HF := (show Hid _ from (⟨hown, hls, hr, hdd⟩ : _ ∧ _ ∧ _ ∧ _)); clear hown hls hr hdd
      have hCL := HT.out U1.drew J (Rdr.keep (w := U1) HU1.out.2.1 rfl) (by omega)
      have hft := pTree_fits (s := s) d J hsj.2
      generalize pTree s d J = rt at *
      have HCL := (show Hid _ from hCL); clear hCL
      have hsz1 := HU1.out.1.size
      have b3 := (Box4.cells HU1.out.1.b1).2.2.2
      have f3 := Box4.frozen HU1.out.1.b1 3
      go_wp2_with fail
      go_region_law (first
        | (refine step_append_lies _ rfl (.tmp 90) (.tmp 93) 27 rfl (w.heap.size + 2) 29 i29 _ 4 64 Try.underlying27 hi29 hz0 hz1 hz2 rfl (by decide) _ l.length (kc l fs l.length) (by simp [Act.eval, Act.put]) HO2.out ⟨w4.heap.size, 0, none⟩ 1 1 [.string n4, .string x4, .bool le4, .slice a4 m4 c4] (by simp [Act.eval, Act.put]) rfl (cell_four_box _ _ _ _ _ _) (by intro u hu; simp at hu; rcases hu with rfl | rfl | rfl | rfl <;> rfl) (by decide) (by unfold maxLen; omega) (by omega) (by simp; omega) _ rfl ?_; intro g5 cap5 w5 hown5 hgr5 hat5 hlt5; have B5 := (B4.still (bel_alloc w4 (.cells #[.string n4, .string x4, .bool le4, .slice a4 m4 c4] 29))).keep (hgr5.block _ (by simp; omega) (fun e => by have := (World.ownsRow.lt HF.out.1 _ e.symm).1; omega)); have V5 := B5.cells.2.2.2; have g5f := B5.frozen 3)
        | (go_simp; go_at_call 36; refine Calls.mono HCL.out ?_; rintro e w4 ⟨n4, x4, le4, a4, m4, c4, rfl, ho4, hg4⟩; have hoA : Out p (p + 1) U1 w4 := Out.trans (Out.drewN (Out.refl p (p + 1) U1) 1) ho4; have hs4 : U1.heap.size ≤ w4.heap.size := hoA.2.2.2.1; have B4 := Box4.keep HU1.out.1.b1 (hoA.2.2.2.2 _ HU1.out.1.b1.lt (by omega)); have U3 := B4.cells.2.2.2; have U4 := (B4.still (bel_alloc w4 (.cells #[.string n4, .string x4, .bool le4, .slice a4 m4 c4] 29))).cells.2.2.2; have HO2 := (show Hid _ from own_still (own_past HF.out.1 hoA (by omega)) (bel_alloc w4 (.cells #[.string n4, .string x4, .bool le4, .slice a4 m4 c4] 29)))))
      all_goals
        obtain ⟨hown, hls, hr, hdd⟩ := HF.out
        have hvl := World.ownsRow.lt hown
        have hblk : ∀ q, q < w.heap.size + 2 → w5.heap[q]? = w4.heap[q]? := fun q hq => (hgr5.block q (by simp; omega) (fun e => by have := hvl q e.symm; omega)).trans ((bel_alloc w4 _).block q (by omega))
        have hsz5 : w4.heap.size + 1 ≤ w5.heap.size := by have := hgr5.size; simp at this; omega
        have hT4 := TPre.step HU1.out.1 hoA hp
        have hT5 : TPre w w5 p (.string nm) (.string ByteArray.empty) (.bool false) (.slice a' l.length c') := ⟨⟨hgr5.os.trans hT4.out.1, hgr5.tape.trans hT4.out.2.1, hgr5.output.trans hT4.out.2.2.1, by have := hT4.size; omega, fun q hq hn => (hblk q (by omega)).trans (hT4.out.2.2.2.2 q hq hn)⟩, by have := hT4.size; omega, hT4.b0.keep (hblk _ (by omega)), hT4.b1.keep (hblk _ (by omega))⟩
        have hT6 := TPre.put hT5 (Box4.set3 hT5.b1 (.slice (some ⟨g5, 0, none⟩) (l.length + 1) cap5))
        have hpk : (w5.setCell ⟨w.heap.size + 1, 3, none⟩ (.slice (some ⟨g5, 0, none⟩) (l.length + 1) cap5)).heap[p]? = w4.heap[p]? := (blk_setCell_other _ _ _ _ (by show p ≠ w.heap.size + 1; omega)).trans (hblk p (by omega))
        have HST : Hid (NSt R (pTree s d) w p k d s (w5.setCell ⟨w.heap.size + 1, 3, none⟩ (.slice (some ⟨g5, 0, none⟩) (l.length + 1) cap5)) ∧ nLeft p s (w5.setCell ⟨w.heap.size + 1, 3, none⟩ (.slice (some ⟨g5, 0, none⟩) (l.length + 1) cap5)) < nLeft p s wr) := by
          rw [HML.out]
          cases rt with
          | error q =>
            have hb6 := BadT.keep hg4 hpk
            exact ⟨.inr ⟨q, _, _, _, nm, hT6, hb6, by rw [HJ.out.2.2, HMO.out]; rfl⟩, by rw [nLeft_bad hb6]; omega⟩
          | ok a =>
            obtain ⟨t4, j4⟩ := a
            obtain ⟨e1, e2, e3, ho, hr4⟩ := hg4
            obtain ⟨hj4, hj4s⟩ := hft
            dsimp only at e1 e2 e3 ho hr4 hj4 hj4s
            have hr6 := hr4.keep hpk
            subst e1 e2 e3
            have hnl : nth (l ++ [t4]) l.length = t4 := by simp [nth]
            have hG5 : Grw (l ++ [t4]) (w.heap.size + 2) (l.length + 1) (.slice (some ⟨g5, 0, none⟩) (l.length + 1) cap5) w5 := by
              refine Grw.stepO (wr := U1) (w2 := w4.alloc (.cells #[.string t4.name, .string t4.text, .bool t4.leaf, .slice a4 m4 c4] 29)) (a := U1.heap.size) (c := w4.heap.size) (v := .slice a' l.length c') (u := .slice a4 m4 c4) (fs := fs) (l := ls) (h := hhs) (by rw [kc_ext l _ fs _ (Nat.le_refl _)]; exact hown) (fun i hi => ?_) hr hdd (by have := HU1.out.1.size; omega) (by simp; omega) ?_ (Nat.le_refl _) (by simp) ?_ hgr5 hat5
              · rw [nth_ext l _ hi]
                exact ((hls i hi).keep (Nat.le_refl _) (Nat.le_refl _) (fun q h1 h2 h3 => hoA.2.2.2.2 q h3 (by have := (hr i hi).1; omega))).still (bel_alloc _ _)
              · rw [hnl]
                exact Own.still ho (bel_alloc _ _)
              · rw [hnl, kc_ext l _ fs _ (Nat.le_refl _)]
                exact hown5
            have hG6 : Grw (l ++ [t4]) (w.heap.size + 2) (l ++ [t4]).length (.slice (some ⟨g5, 0, none⟩) (l ++ [t4]).length cap5) (w5.setCell ⟨w.heap.size + 1, 3, none⟩ (.slice (some ⟨g5, 0, none⟩) (l.length + 1) cap5)) := by
              rw [List.length_append]
              exact Grw.set hG5 (by omega)
            refine ⟨.inl ⟨j4, f - 1, l ++ [t4], some ⟨g5, 0, none⟩, cap5, nm, by rw [List.length_append]; exact hT6, hr6, hG6, by rw [HJ.out.2.2, HMO.out], by omega, by omega, by simp; omega, hnm⟩, ?_⟩
            rw [nLeft_ok hr6]
            omega
        clear hown5 hgr5 hat5 hown hls hr hdd hvl hblk hT4 hT5 hT6 hpk B5 B4 V5 g5f U3 U4 b3 f3 HO2 hoA ho4 hg4
        go_wp2_with fail
        exact ⟨HST.out.1, HST.out.2⟩
end Go.Proofs.Ythmdoplickpmaah
