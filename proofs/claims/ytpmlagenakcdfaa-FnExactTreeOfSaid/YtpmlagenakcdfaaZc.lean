import Derived.Test.YtpmlagenakcdfaaZb
/-! The program: the number of a derivation's Non, and its node. -/
namespace Go.Proofs.Ytpmlagenakcdfaa
open Go.RowKit Go.Deep
set_option linter.unusedVariables false
set_option maxRecDepth 100000
set_option linter.unusedSimpArgs false

theorem lab_size {w : World} {S : Nat → Prop} {d : Bn} {v0 v1 v3 : Value} (h : BLies w S d v0 v1 v3) {k : Nat} (hk : k < d.prods.length) : d.prods[k].label.size ≤ maxLen := by
  obtain ⟨a3, c3, bp, op, sv, e3, hcp, hmp, hap, hcellp, hrp⟩ := h.prods
  obtain ⟨q0, q1, q2, q3, q4, q5⟩ := hcellp k hk
  exact q5
theorem pd_left {d : Bn} (h : bnB d = true) {k : Nat} (hk : k < d.prods.length) : d.prods[k].left < d.terms.length + d.nons.length := by
  unfold bnB at h
  simp only [Bool.and_eq_true, List.all_eq_true] at h
  have hp := h.2.2.2 d.prods[k] (List.getElem_mem hk)
  unfold pdB at hp
  simp only [Bool.and_eq_true, List.all_eq_true, decide_eq_true_eq] at hp
  obtain ⟨h1, _⟩ := hp
  unfold wiB at h1
  simp only [decide_eq_true_eq] at h1
  omega
set_option maxHeartbeats 6400000 in
theorem nonOf_i {S S' K : Nat → Prop} {R : Nat} {v0 v1 v3 : Value} {d : Bn} {L : List Int} (hok : bnB d = true) (f a b : Nat) (s : Int) (v : Value) (ws : List Wd) (w : World) (h : TwI d S S' R v0 v1 v3 w ws) (hp : DP d L w K (f + 1) a v) (hr : rd d L (f + 1) s a = some b) :
    Calls Try.prog 86 #[.pointer (some ⟨R, 0, none⟩), v] w fun e w' => e = .returned (.int .i64 ((pa d L a).left - d.terms.length)) ∧ Below w.heap.size w w' := by
  obtain ⟨ho, hend⟩ := rd_succ hr
  obtain ⟨k, hk, hnum, hpa, hleft, hal⟩ := okAt_prod ho
  obtain ⟨g, kb, kc, ka, vs, ats, rfl, hKg, u0, u1, hkc, hka, hkid, _⟩ := hp
  rw [hnum] at u0
  obtain ⟨hT, jk1, jk2, jk3, jk4, hPn⟩ := szB_of hok
  obtain ⟨⟨vw, hbx, hws⟩, hl, _, _⟩ := h
  obtain ⟨a0, c0, a1, c1, a3', c3', rfl, rfl, jk0⟩ := hl.form
  clear jk0 a3' c3'
  obtain ⟨a3, c3, bp, op, rfl, hcp, hpr⟩ := prod_cells hl
  obtain ⟨rfl, ai, ci, bi, oi, q0, q1, q2, q3, q4, hci, hri⟩ := hpr k hk
  obtain ⟨hg1, hg2, hl12, hrr, hl0, hl8⟩ := pd_of hok hk
  rw [← hpa] at q0 hg1 hg2
  have x0 : w.cell? ⟨R, 0, none⟩ = some (.slice a0 d.terms.length c0) := hbx.cell 0 (by simp)
  have x3 : w.cell? ⟨R, 3, none⟩ = some (.slice (some ⟨bp, op, none⟩) d.prods.length c3) := hbx.cell 3 (by simp)
  obtain ⟨P, hP⟩ : ∃ P, pa d L a = P := ⟨_, rfl⟩
  rw [hP] at q0 hg1 hg2 ⊢
  have hkp : k ≤ 120 := by omega
  have kw : IntKind.i64.wrap (P.left - (d.terms.length : Int)) = P.left - d.terms.length := by simp [IntKind.wrap, IntKind.bits, IntKind.signed]; omega
  have HB := (show Hid (∀ n, Below w.heap.size w (w.drewN n)) from fun n => ⟨rfl, rfl, rfl, Nat.le_refl _, fun _ _ => rfl⟩)
  clear hkid hka hend hr ho hl hleft hpr hnum hpa hri hrr u1 q1 q2 q3 q4 hbx hws hP hal jk1 jk2 jk3 jk4 hl0 hl8 hg1 hg2
  go_enter Try.func86, Try.ntmps86
  go_upto_region 1 with fail
  go_quiet (fail)
  go_wp2_with fail
  go_ret
  exact ⟨rfl, HB.out _⟩
/-- What a node leaves. -/
def NdA (d : Bn) (L : List Int) (S S' : Nat → Prop) (R : Nat) (v0 v1 v3 : Value) (f a : Nat) (ws : List Wd) (w : World) (e : Ending) (w' : World) : Prop :=
  ∃ u', e = .returned (.agg #[.string (ndN d (pa d L a)), .string ByteArray.empty, .bool false, u']) ∧ Kp w.heap.size R w w' ∧ TwI d S S' R v0 v1 v3 w' (kd d L f a ws).2 ∧ T.Own w' w.heap.size w'.heap.size ⟨ndN d (pa d L a), ByteArray.empty, false, (kd d L f a ws).1⟩ u' ∧ ∃ B, w.heap.size ≤ B ∧ B ≤ w'.heap.size ∧ T.Grw (kd d L f a ws).1 B (kd d L f a ws).1.length u' w'
set_option maxHeartbeats 12800000 in
theorem node_i {S S' K : Nat → Prop} {R : Nat} {v0 v1 v3 : Value} {d : Bn} {L : List Int} (hok : bnB d = true) (f a b : Nat) (s : Int) (v : Value) (ws : List Wd) (w : World) (h : TwI d S S' R v0 v1 v3 w ws) (hp : DP d L w K (f + 1) a v) (hr : rd d L (f + 1) s a = some b) (hK : ∀ q, K q → q < R)
    (HK : ∀ (W : World), TwI d S S' R v0 v1 v3 W ws → DP d L W K (f + 1) a v → Calls Try.prog 87 #[.pointer (some ⟨R, 0, none⟩), v, .slice none 0 0] W fun e w' => ∃ u', e = .returned u' ∧ LvI NF d S S' R W.heap.size v0 v1 v3 W w' (kd d L f a ws).2 (kd d L f a ws).1 u') :
    Calls Try.prog 55 #[.pointer (some ⟨R, 0, none⟩), v] w fun e w' => NdA d L S S' R v0 v1 v3 f a ws w e w' := by
  have HTW := (show Hid _ from h)
  have HDP := (show Hid _ from hp)
  have HRD := (show Hid _ from hr)
  have HKC := (show Hid _ from HK)
  have hRlt := h.lt
  obtain ⟨ho, hend⟩ := rd_succ hr
  obtain ⟨k, hk, hnum, hpa, hleft, hal⟩ := okAt_prod ho
  obtain ⟨g, kb, kc, ka, vs, ats, rfl, hKg, u0, u1, hkc, hka, hkid, _⟩ := hp
  rw [hnum] at u0
  obtain ⟨hT, jk1, jk2, jk3, jk4, hPn⟩ := szB_of hok
  obtain ⟨⟨vw, hbx, hws⟩, hl, _, _⟩ := h
  obtain ⟨a0, c0, a1, c1, a3', c3', rfl, rfl, jk0⟩ := hl.form
  clear jk0 a3' c3'
  have hnons := hl.nons
  obtain ⟨a3, c3, bp, op, rfl, hcp, hpr⟩ := prod_cells hl
  obtain ⟨rfl, ai, ci, bi, oi, q0, q1, q2, q3, q4, hci, hri⟩ := hpr k hk
  obtain ⟨hg1, hg2, hl12, hrr, hl0, hl8⟩ := pd_of hok hk
  have hps := lab_size hl hk
  rw [← hpa] at q2 hg1 hg2 hps
  obtain ⟨P, hP⟩ : ∃ P, pa d L a = P := ⟨_, rfl⟩
  rw [hP] at q2 hg1 hg2 hps
  have HP := (show Hid _ from hP)
  have hkp : k ≤ 120 := by omega
  have hnl : (P.left - (d.terms.length : Int)).toNat < d.nons.length := by
    have h2 := hg2
    have hb := pd_left hok hk
    rw [← hpa, hP] at hb
    omega
  obtain ⟨an, cn', bn, on, hvn, hcn, hmn, han, hcelln⟩ := hnons
  injection hvn with e1 e2 e3
  obtain ⟨rfl, _⟩ := han (by omega)
  subst e1
  subst e3
  have n0 := (hcelln _ hnl).1
  have hns := (hcelln _ hnl).2
  obtain ⟨m, hm⟩ : ∃ m : Nat, P.left - (d.terms.length : Int) = (m : Int) := ⟨(P.left - (d.terms.length : Int)).toNat, by omega⟩
  have hmt : (P.left - (d.terms.length : Int)).toNat = m := by omega
  have hNM : ndN d P = if P.label.size = 0 then d.nons[m]'(by omega) else P.label := by
    unfold ndN
    rw [hmt]
    simp [List.getD_eq_getElem?_getD, show m < d.nons.length by omega]
  simp only [hmt] at n0 hns
  have hnm2 : d.nons[m]'(by omega) = d.nons[m]'(by omega) := rfl
  obtain ⟨NM, hNMe⟩ : ∃ NM, d.nons[m]'(by omega) = NM := ⟨_, rfl⟩
  rw [hNMe] at n0 hNM hns
  have hms : m < d.nons.length := by omega
  -- behind the result's cell
  have hNS : (ndN d P).size ≤ maxLen := by
    rw [hNM]
    split
    · exact hns
    · exact hps
  have HNS := (show Hid _ from hNS)
  obtain ⟨W0, hW0⟩ : ∃ W0, w.alloc (.cells #[.string ⟨#[]⟩, .string ⟨#[]⟩, .bool false, .slice none 0 0] 48) = W0 := ⟨_, rfl⟩
  have hb0 : Below w.heap.size w W0 := by rw [← hW0]; exact bel_alloc _ _
  have hz0 : W0.heap.size = w.heap.size + 1 := by rw [← hW0]; simp
  have hx0 : Box W0 w.heap.size 48 [.string ⟨#[]⟩, .string ⟨#[]⟩, .bool false, .slice none 0 0] := by rw [← hW0]; exact Box.new w 48 _
  have HSS := (show Hid (∀ w', Below w.heap.size w w' → (fun w' => w'.cell? ⟨R, 3, none⟩ = some (.slice (some ⟨bp, op, none⟩) d.prods.length c3) ∧ w'.cell? ⟨g, 0, none⟩ = some (.int .i64 (k : Nat)) ∧ w'.cell? ⟨bp, op + k * 5 + 2, none⟩ = some (.string P.label)) w') from fun w' hb => ⟨(World.cell?_of_block (w := w) (hb.block R hRlt)).trans (hbx.cell 3 (by simp)), (World.cell?_of_block (w := w) (hb.block g (lt_of_cell u0))).trans u0, (World.cell?_of_block (w := w) (hb.block bp (lt_of_cell q2))).trans q2⟩)
  have hS0 := HSS.out W0 hb0
  have hS1 := HSS.out (W0.alloc (.cells #[.string ⟨#[]⟩, .string ⟨#[]⟩, .bool false, .slice none 0 0] 48)) (bel_trans hb0 (bel_alloc _ _))
  have hS2 := HSS.out (W0.alloc (.cells #[.string P.label, .string ⟨#[]⟩, .bool false, .slice none 0 0] 48)) (bel_trans hb0 (bel_alloc _ _))
  have HX := (show Hid (∀ n, Below w.heap.size w ((W0.alloc (.cells #[.string P.label, .string ⟨#[]⟩, .bool false, .slice none 0 0] 48)).drewN n) ∧ Box ((W0.alloc (.cells #[.string P.label, .string ⟨#[]⟩, .bool false, .slice none 0 0] 48)).drewN n) w.heap.size 48 [.string ⟨#[]⟩, .string ⟨#[]⟩, .bool false, .slice none 0 0] ∧ Box ((W0.alloc (.cells #[.string P.label, .string ⟨#[]⟩, .bool false, .slice none 0 0] 48)).drewN n) (w.heap.size + 1) 48 [.string P.label, .string ⟨#[]⟩, .bool false, .slice none 0 0]) from fun n => by
    have h1 := Box.new W0 48 [.string P.label, .string ⟨#[]⟩, .bool false, .slice none 0 0]
    rw [hz0] at h1
    exact ⟨⟨hb0.os, hb0.tape, hb0.output, by have := hb0.size; simp; omega, fun q hq => (Below.heap_alloc _ _ _ (by omega)).trans (hb0.block q hq)⟩, (hx0.still (bel_alloc _ _)).keep rfl, h1.keep rfl⟩)
  have HRN := (show Hid (∀ (w' : World), Below w.heap.size w w' → w'.cell? ⟨R, 1, none⟩ = some (.slice (some ⟨bn, on, none⟩) d.nons.length c1) ∧ w'.cell? ⟨bn, on + m, none⟩ = some (.string NM)) from fun w' hb => ⟨(World.cell?_of_block (w := w) (hb.block R hRlt)).trans (hbx.cell 1 (by simp)), (World.cell?_of_block (w := w) (hb.block bn (lt_of_cell n0))).trans n0⟩)
  have HNO := (show Hid (∀ (w' : World), Below w.heap.size w w' → Calls Try.prog 86 #[.pointer (some ⟨R, 0, none⟩), .pointer (some ⟨g, 0, none⟩)] w' fun e w'' => e = .returned (.int .i64 (m : Nat)) ∧ Below w'.heap.size w' w'') from fun w' hb => by
    have h1 := nonOf_i hok f a b s _ ws w' (HTW.out.keep (fun q hq => hb.block q (by omega))) (DP.keep (fun q _ hq => hb.block q hq) _ _ _ HDP.out) HRD.out
    rw [hP, hm] at h1
    exact h1)
  have HNM := (show Hid _ from hNM)
  clear hkid hka hend hr ho hl hleft hpr hnum hpa hri hrr u1 q0 q1 q2 q3 q4 hbx hws hP hal jk1 jk2 jk3 jk4 hl0 hl8 hg1 hg2 hx0 hb0 u0 n0 hcelln han hNM hNMe hnm2 hm hmt HK hnl hns hps hNS
  go_enter Try.func55, Try.ntmps55
  go_upto_region 1 with fail
  clear hW0
  go_cut [5] from 6 to 18 (fun v wx => v = .pointer (some ⟨w.heap.size + 1, 0, none⟩) ∧ Hid (Below w.heap.size w wx ∧ Box wx w.heap.size 48 [.string ⟨#[]⟩, .string ⟨#[]⟩, .bool false, .slice none 0 0] ∧ Box wx (w.heap.size + 1) 48 [.string P.label, .string ⟨#[]⟩, .bool false, .slice none 0 0]))
  case first =>
    clear HKC HTW HDP HRD HRN HNO HNM
    go_region_held3 (fun w' => w'.cell? ⟨R, 3, none⟩ = some (.slice (some ⟨bp, op, none⟩) d.prods.length c3) ∧ w'.cell? ⟨g, 0, none⟩ = some (.int .i64 (k : Nat)) ∧ w'.cell? ⟨bp, op + k * 5 + 2, none⟩ = some (.string P.label)) (first | exact hS0 | exact hS1 | exact hS2) (fail)
    all_goals
      go_wp2_with fail
      go_meet
      exact ⟨rfl, HX.out 1⟩
  case rest =>
    obtain ⟨w6, rfl⟩ : ∃ w6, w6 = wc := ⟨_, rfl⟩
    obtain ⟨rfl, HC6⟩ := hcut
    have t0 : w6.cell? ⟨w.heap.size + 1, 0, none⟩ = some (.string P.label) := HC6.out.2.2.cell 0 (by simp)
    clear hS0 hS1 hS2 HX HSS
    by_cases hl0 : P.label.size = 0
    · have i5 : P.label.toList.isEmpty = true := by rw [T.isEmpty_iff]; simp [hl0]
      obtain ⟨r1, r2⟩ := HRN.out w6 HC6.out.1
      have HE : Hid (ndN d P = NM) := by have := HNM.out; rw [if_pos hl0] at this; exact this
      have HF := (show Hid (∀ w7, Below w6.heap.size w6 w7 → Below w.heap.size w (w7.setCell ⟨w.heap.size + 1, 0, none⟩ (.string NM)) ∧ Box (w7.setCell ⟨w.heap.size + 1, 0, none⟩ (.string NM)) w.heap.size 48 [.string ⟨#[]⟩, .string ⟨#[]⟩, .bool false, .slice none 0 0] ∧ Box (w7.setCell ⟨w.heap.size + 1, 0, none⟩ (.string NM)) (w.heap.size + 1) 48 [.string NM, .string ⟨#[]⟩, .bool false, .slice none 0 0]) from fun w7 hb => ⟨(bel_trans HC6.out.1 hb).setCell (by show w.heap.size ≤ w.heap.size + 1; omega) _, (HC6.out.2.1.still hb).past (by omega), (HC6.out.2.2.still hb).set 0 _⟩)
      have HZ := (show Hid (∀ w7, Below w6.heap.size w6 w7 → w7.frozen? ⟨w.heap.size + 1, 0, none⟩ = false ∧ w7.cell? ⟨w.heap.size + 1, 0, none⟩ = some (.string P.label)) from fun w7 hb => ⟨(HC6.out.2.2.still hb).frozen 0, (HC6.out.2.2.still hb).cell 0 (by simp)⟩)
      have hDR : Below w6.heap.size w6 w6.drew := (Below.refl _ _).drew
      have HDR := (show Hid _ from hDR)
      clear hl0 hDR
      go_upto_region 3 with fail
      go_cut [5] from 22 to 32 (fun v wx => v = .pointer (some ⟨w.heap.size + 1, 0, none⟩) ∧ Hid (Below w.heap.size w wx ∧ Box wx w.heap.size 48 [.string ⟨#[]⟩, .string ⟨#[]⟩, .bool false, .slice none 0 0] ∧ Box wx (w.heap.size + 1) 48 [.string (ndN d P), .string ⟨#[]⟩, .bool false, .slice none 0 0]))
      case first =>
        clear HKC HTW HDP HRD
        go_region_with (go_at_call 86; refine Calls.mono (HNO.out _ (bel_trans HC6.out.1 HDR.out)) ?_; rintro e w7 ⟨rfl, hb7⟩; obtain ⟨s1, s2⟩ := HRN.out w7 (bel_trans HC6.out.1 (HDR.out.trans hb7)); obtain ⟨s3, s4⟩ := HZ.out w7 (HDR.out.trans hb7))
        all_goals
          go_wp2_with fail
          go_meet
          exact ⟨rfl, by rw [HE.out]; exact HF.out w7 (HDR.out.trans hb7)⟩
      case rest =>
        obtain ⟨w8, rfl⟩ : ∃ w8, w8 = wc := ⟨_, rfl⟩
        obtain ⟨rfl, HC8⟩ := hcut
        have HCL := (show Hid _ from HKC.out w8 (HTW.out.keep (fun q hq => HC8.out.1.block q (by omega))) (DP.keep (fun q _ hq => HC8.out.1.block q hq) _ _ _ HDP.out))
        have hs8 : w.heap.size + 1 < w8.heap.size := HC8.out.2.2.lt
        clear t0 HC6 HNO HRN HKC r1 r2 HF HZ HE
        go_wp2_with fail
        refine Calls.mono HCL.out ?_
        rintro e w9 ⟨u9, rfl, hL9⟩
        obtain ⟨au, mu, cu, rfl⟩ := hL9.gr.form
        have b0 : Box w9 w.heap.size 48 [.string ⟨#[]⟩, .string ⟨#[]⟩, .bool false, .slice none 0 0] := HC8.out.2.1.keep (hL9.kp.block _ (by omega) (by omega))
        have b1 : Box w9 (w.heap.size + 1) 48 [.string (ndN d P), .string ⟨#[]⟩, .bool false, .slice none 0 0] := HC8.out.2.2.keep (hL9.kp.block _ (by omega) (by omega))
        have t0' : w9.cell? ⟨w.heap.size + 1, 0, none⟩ = some (.string (ndN d P)) := b1.cell 0 (by simp)
        have t1' : w9.cell? ⟨w.heap.size + 1, 1, none⟩ = some (.string ⟨#[]⟩) := b1.cell 1 (by simp)
        have t2' : w9.cell? ⟨w.heap.size + 1, 2, none⟩ = some (.bool false) := b1.cell 2 (by simp)
        have t3' : w9.cell? ⟨w.heap.size + 1, 3, none⟩ = some (.slice none 0 0) := b1.cell 3 (by simp)
        have z3' : w9.frozen? ⟨w.heap.size + 1, 3, none⟩ = false := b1.frozen 3
        have f0 : w9.frozen? ⟨w.heap.size, 0, none⟩ = false := b0.frozen 0
        have f1 : w9.frozen? ⟨w.heap.size, 1, none⟩ = false := b0.frozen 1
        have f2 : w9.frozen? ⟨w.heap.size, 2, none⟩ = false := b0.frozen 2
        have f3 : w9.frozen? ⟨w.heap.size, 3, none⟩ = false := b0.frozen 3
        have g0 : w9.cell? ⟨w.heap.size, 0, none⟩ = some (.string ⟨#[]⟩) := b0.cell 0 (by simp)
        have g1 : w9.cell? ⟨w.heap.size, 1, none⟩ = some (.string ⟨#[]⟩) := b0.cell 1 (by simp)
        have g2 : w9.cell? ⟨w.heap.size, 2, none⟩ = some (.bool false) := b0.cell 2 (by simp)
        have g3 : w9.cell? ⟨w.heap.size, 3, none⟩ = some (.slice none 0 0) := b0.cell 3 (by simp)
        have HFIN : Hid (NdA d L S S' R (.slice a0 d.terms.length c0) (.slice (some ⟨bn, on, none⟩) d.nons.length c1) (.slice (some ⟨bp, op, none⟩) d.prods.length c3) f a ws w (.returned (.agg #[.string (ndN d P), .string ⟨#[]⟩, .bool false, .slice au mu cu])) (((((w9.setCell ⟨w.heap.size + 1, 3, none⟩ (.slice au mu cu)).setCell ⟨w.heap.size, 0, none⟩ (.string (ndN d P))).setCell ⟨w.heap.size, 1, none⟩ (.string ⟨#[]⟩)).setCell ⟨w.heap.size, 2, none⟩ (.bool false)).setCell ⟨w.heap.size, 3, none⟩ (.slice au mu cu))) := by
          have hk9 : Kp w.heap.size R w w9 := (Below.kp HC8.out.1 R).trans (hL9.kp.mono HC8.out.1.size)
          have hsz : (((((w9.setCell ⟨w.heap.size + 1, 3, none⟩ (.slice au mu cu)).setCell ⟨w.heap.size, 0, none⟩ (.string (ndN d P))).setCell ⟨w.heap.size, 1, none⟩ (.string ⟨#[]⟩)).setCell ⟨w.heap.size, 2, none⟩ (.bool false)).setCell ⟨w.heap.size, 3, none⟩ (.slice au mu cu)).heap.size = w9.heap.size := by simp [World.setCell]
          refine ⟨.slice au mu cu, by rw [HP.out]; rfl, ((((hk9.setCell (.inr (by show w.heap.size ≤ w.heap.size + 1; omega)) _).setCell (.inr (Nat.le_refl _)) _).setCell (.inr (Nat.le_refl _)) _).setCell (.inr (Nat.le_refl _)) _).setCell (.inr (Nat.le_refl _)) _, hL9.tw.keep (fun q hq => ?_), ?_, w8.heap.size, by omega, by rw [hsz]; exact hL9.kp.size, ((((hL9.gr.set (by omega)).set (by omega)).set (by omega)).set (by omega)).set (by omega)⟩
          · rw [Below.heap_setCell _ _ _ _ (by show q ≠ w.heap.size; omega), Below.heap_setCell _ _ _ _ (by show q ≠ w.heap.size; omega), Below.heap_setCell _ _ _ _ (by show q ≠ w.heap.size; omega), Below.heap_setCell _ _ _ _ (by show q ≠ w.heap.size; omega), Below.heap_setCell _ _ _ _ (by show q ≠ w.heap.size + 1; omega)]
          · have hd := T.Grw.done (n := ndN d P) (x := ByteArray.empty) (le := false) hL9.gr HNS.out (by show (0 : Nat) ≤ _; exact Nat.zero_le _)
            rw [hsz, HP.out]
            exact (((((hd.past (g := w.heap.size + 1) (.inl (by omega))).past (g := w.heap.size) (.inl (by omega))).past (g := w.heap.size) (.inl (by omega))).past (g := w.heap.size) (.inl (by omega))).past (g := w.heap.size) (.inl (by omega))).keep (by omega) (Nat.le_refl _) (fun _ _ _ _ => rfl)
        clear b0 b1 hL9
        go_wp2_with fail
        refine bodyPost_ret (v := .agg #[.string (ndN d P), .string ⟨#[]⟩, .bool false, .slice au mu cu]) (by simp [results, Try.results55, go_sem, g0, g1, g2, g3, f0, f1, f2, f3]) rfl ?_
        exact HFIN.out
    · have i5 : P.label.toList.isEmpty = false := by rw [T.isEmpty_iff]; simp [hl0]
      have HE : Hid (ndN d P = P.label) := by have := HNM.out; rw [if_neg hl0] at this; exact this
      obtain ⟨w8, rfl⟩ : ∃ w8, w8 = w6 := ⟨_, rfl⟩
      have HC8 : Hid (Below w.heap.size w w8 ∧ Box w8 w.heap.size 48 [.string ⟨#[]⟩, .string ⟨#[]⟩, .bool false, .slice none 0 0] ∧ Box w8 (w.heap.size + 1) 48 [.string (ndN d P), .string ⟨#[]⟩, .bool false, .slice none 0 0]) := by rw [HE.out]; exact HC6.out
      have HCL := (show Hid _ from HKC.out w8 (HTW.out.keep (fun q hq => HC8.out.1.block q (by omega))) (DP.keep (fun q _ hq => HC8.out.1.block q hq) _ _ _ HDP.out))
      have hs8 : w.heap.size + 1 < w8.heap.size := HC8.out.2.2.lt
      clear HC6 HNO HRN HKC hl0
      go_wp2_with fail
      refine Calls.mono HCL.out ?_
      rintro e w9 ⟨u9, rfl, hL9⟩
      obtain ⟨au, mu, cu, rfl⟩ := hL9.gr.form
      have b0 : Box w9 w.heap.size 48 [.string ⟨#[]⟩, .string ⟨#[]⟩, .bool false, .slice none 0 0] := HC8.out.2.1.keep (hL9.kp.block _ (by omega) (by omega))
      have b1 : Box w9 (w.heap.size + 1) 48 [.string (ndN d P), .string ⟨#[]⟩, .bool false, .slice none 0 0] := HC8.out.2.2.keep (hL9.kp.block _ (by omega) (by omega))
      have t0' : w9.cell? ⟨w.heap.size + 1, 0, none⟩ = some (.string (ndN d P)) := b1.cell 0 (by simp)
      have t1' : w9.cell? ⟨w.heap.size + 1, 1, none⟩ = some (.string ⟨#[]⟩) := b1.cell 1 (by simp)
      have t2' : w9.cell? ⟨w.heap.size + 1, 2, none⟩ = some (.bool false) := b1.cell 2 (by simp)
      have t3' : w9.cell? ⟨w.heap.size + 1, 3, none⟩ = some (.slice none 0 0) := b1.cell 3 (by simp)
      have z3' : w9.frozen? ⟨w.heap.size + 1, 3, none⟩ = false := b1.frozen 3
      have f0 : w9.frozen? ⟨w.heap.size, 0, none⟩ = false := b0.frozen 0
      have f1 : w9.frozen? ⟨w.heap.size, 1, none⟩ = false := b0.frozen 1
      have f2 : w9.frozen? ⟨w.heap.size, 2, none⟩ = false := b0.frozen 2
      have f3 : w9.frozen? ⟨w.heap.size, 3, none⟩ = false := b0.frozen 3
      have g0 : w9.cell? ⟨w.heap.size, 0, none⟩ = some (.string ⟨#[]⟩) := b0.cell 0 (by simp)
      have g1 : w9.cell? ⟨w.heap.size, 1, none⟩ = some (.string ⟨#[]⟩) := b0.cell 1 (by simp)
      have g2 : w9.cell? ⟨w.heap.size, 2, none⟩ = some (.bool false) := b0.cell 2 (by simp)
      have g3 : w9.cell? ⟨w.heap.size, 3, none⟩ = some (.slice none 0 0) := b0.cell 3 (by simp)
      have HFIN : Hid (NdA d L S S' R (.slice a0 d.terms.length c0) (.slice (some ⟨bn, on, none⟩) d.nons.length c1) (.slice (some ⟨bp, op, none⟩) d.prods.length c3) f a ws w (.returned (.agg #[.string (ndN d P), .string ⟨#[]⟩, .bool false, .slice au mu cu])) (((((w9.setCell ⟨w.heap.size + 1, 3, none⟩ (.slice au mu cu)).setCell ⟨w.heap.size, 0, none⟩ (.string (ndN d P))).setCell ⟨w.heap.size, 1, none⟩ (.string ⟨#[]⟩)).setCell ⟨w.heap.size, 2, none⟩ (.bool false)).setCell ⟨w.heap.size, 3, none⟩ (.slice au mu cu))) := by
        have hk9 : Kp w.heap.size R w w9 := (Below.kp HC8.out.1 R).trans (hL9.kp.mono HC8.out.1.size)
        have hsz : (((((w9.setCell ⟨w.heap.size + 1, 3, none⟩ (.slice au mu cu)).setCell ⟨w.heap.size, 0, none⟩ (.string (ndN d P))).setCell ⟨w.heap.size, 1, none⟩ (.string ⟨#[]⟩)).setCell ⟨w.heap.size, 2, none⟩ (.bool false)).setCell ⟨w.heap.size, 3, none⟩ (.slice au mu cu)).heap.size = w9.heap.size := by simp [World.setCell]
        refine ⟨.slice au mu cu, by rw [HP.out]; rfl, ((((hk9.setCell (.inr (by show w.heap.size ≤ w.heap.size + 1; omega)) _).setCell (.inr (Nat.le_refl _)) _).setCell (.inr (Nat.le_refl _)) _).setCell (.inr (Nat.le_refl _)) _).setCell (.inr (Nat.le_refl _)) _, hL9.tw.keep (fun q hq => ?_), ?_, w8.heap.size, by omega, by rw [hsz]; exact hL9.kp.size, ((((hL9.gr.set (by omega)).set (by omega)).set (by omega)).set (by omega)).set (by omega)⟩
        · rw [Below.heap_setCell _ _ _ _ (by show q ≠ w.heap.size; omega), Below.heap_setCell _ _ _ _ (by show q ≠ w.heap.size; omega), Below.heap_setCell _ _ _ _ (by show q ≠ w.heap.size; omega), Below.heap_setCell _ _ _ _ (by show q ≠ w.heap.size; omega), Below.heap_setCell _ _ _ _ (by show q ≠ w.heap.size + 1; omega)]
        · have hd := T.Grw.done (n := ndN d P) (x := ByteArray.empty) (le := false) hL9.gr HNS.out (by show (0 : Nat) ≤ _; exact Nat.zero_le _)
          rw [hsz, HP.out]
          exact (((((hd.past (g := w.heap.size + 1) (.inl (by omega))).past (g := w.heap.size) (.inl (by omega))).past (g := w.heap.size) (.inl (by omega))).past (g := w.heap.size) (.inl (by omega))).past (g := w.heap.size) (.inl (by omega))).keep (by omega) (Nat.le_refl _) (fun _ _ _ _ => rfl)
      clear b0 b1 hL9
      go_wp2_with fail
      refine bodyPost_ret (v := .agg #[.string (ndN d P), .string ⟨#[]⟩, .bool false, .slice au mu cu]) (by simp [results, Try.results55, go_sem, g0, g1, g2, g3, f0, f1, f2, f3]) rfl ?_
      exact HFIN.out
end Go.Proofs.Ytpmlagenakcdfaa
