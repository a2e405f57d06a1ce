import Derived.Test.YtkkebcbcbihbiaaGv
/-! Resolve: what is answered; the specification. -/
namespace Go.Proofs.Ytkkebcbcbihbiaa
open Go.RowKit Go.Deep
set_option linter.unusedVariables false
set_option maxRecDepth 100000
set_option linter.unusedSimpArgs false

/-- What Resolve answers. -/
def reR (t : DSg) (ref : Int) : List Int × Int :=
  if sgB t = true then (if h : 0 ≤ ref ∧ ref < t.refs.length then (if rsv t (t.refs[ref.toNat]'(by omega)) = [] then ([], 8) else (rsv t (t.refs[ref.toNat]'(by omega)), 0)) else ([], 4)) else ([], 1)
/-- .. as it lies. -/
def ReA (R : List Int × Int) (w : World) (e : Ending) (w' : World) : Prop := ∃ (a : Option Addr) (cp : Nat), e = .returned (.tuple #[.slice a R.1.length cp, .int .i64 R.2]) ∧ Below w.heap.size w w' ∧ w'.ownsRow w.heap.size 3 1 (.slice a R.1.length cp) R.1.length (iv R.1)
theorem reR_bad {t : DSg} {ref : Int} (h : sgB t = false) : reR t ref = ([], 1) := by unfold reR; rw [if_neg (by rw [h]; simp)]
theorem reR_place {t : DSg} {ref : Int} (h : sgB t = true) (h2 : ¬ (0 ≤ ref ∧ ref < t.refs.length)) : reR t ref = ([], 4) := by unfold reR; rw [if_pos h, dif_neg h2]
theorem reR_none {t : DSg} {r : Nat} (h : sgB t = true) (h2 : r < t.refs.length) (h3 : rsv t t.refs[r] = []) : reR t (r : Int) = ([], 8) := by
  unfold reR; rw [if_pos h, dif_pos ⟨by omega, by omega⟩]; simp only [Int.toNat_natCast]; rw [if_pos h3]
theorem reR_some {t : DSg} {r : Nat} (h : sgB t = true) (h2 : r < t.refs.length) (h3 : ¬ rsv t t.refs[r] = []) : reR t (r : Int) = (rsv t t.refs[r], 0) := by
  unfold reR; rw [if_pos h, dif_pos ⟨by omega, by omega⟩]; simp only [Int.toNat_natCast]; rw [if_neg h3]
/-- What is known of scopes that are right. -/
theorem sg_facts {t : DSg} (h : sgB t = true) : ∃ N : Nat, t.scopes = (N : Int) ∧ 1 ≤ N ∧ N ≤ 60 ∧ t.edges.length ≤ 120 ∧ t.decls.length ≤ 120 ∧ t.refs.length ≤ 120 ∧ (∀ i (hi : i < t.edges.length), (0 ≤ t.edges[i].from_ ∧ t.edges[i].from_ < N) ∧ 0 ≤ t.edges[i].to_ ∧ t.edges[i].to_ < N) ∧ (∀ i (hi : i < t.decls.length), 0 ≤ t.decls[i].scope ∧ t.decls[i].scope < N) ∧ ∀ i (hi : i < t.refs.length), 0 ≤ t.refs[i].scope ∧ t.refs[i].scope < N := by
  unfold sgB spsB at h
  simp only [Bool.and_eq_true, decide_eq_true_eq, List.all_eq_true] at h
  obtain ⟨⟨h1, h2⟩, h3, ⟨h4, h5⟩, ⟨h6, h7⟩, h8⟩ := h
  refine ⟨t.scopes.toNat, by omega, by omega, by omega, h3, h4, h6, fun i hi => ?_, fun i hi => ?_, fun i hi => ?_⟩
  · have := h8 _ (List.getElem_mem hi)
    unfold edB scB at this
    simp only [Bool.and_eq_true, decide_eq_true_eq] at this
    omega
  · have := h5 _ (List.getElem_mem hi)
    unfold spB scB at this
    simp only [Bool.and_eq_true, decide_eq_true_eq] at this
    omega
  · have := h7 _ (List.getElem_mem hi)
    unfold spB scB at this
    simp only [Bool.and_eq_true, decide_eq_true_eq] at this
    omega
theorem ownNil (w : World) (B e z : Nat) : w.ownsRow B e z (.slice none 0 0) 0 [] := ⟨by simp, .inl ⟨rfl, rfl⟩⟩
theorem ownMade (w : World) (B : Nat) (hB : B ≤ w.heap.size) : (w.alloc (.cells #[] 3)).ownsRow B 3 1 (.slice (some ⟨w.heap.size, 0, none⟩) 0 0) 0 [] := by
  have := World.ownsRow_lit (base := B) (e := 3) (size := 1) w #[] 0 hB (by unfold maxLen; omega) rfl
  simpa using this
def E6 (p : Nat) (n : Int) (v1 v2 v3 : Value) (b o : Nat) (s : Int) (nm : ByteArray) (wq : World) : Prop :=
  (wq.cell? ⟨p, 0, none⟩ = some (.int .i64 n) ∧ wq.cell? ⟨p, 1, none⟩ = some v1 ∧ wq.cell? ⟨p, 2, none⟩ = some v2 ∧ wq.cell? ⟨p, 3, none⟩ = some v3) ∧ wq.cell? ⟨b, o, none⟩ = some (.int .i64 s) ∧ wq.cell? ⟨b, o + 1, none⟩ = some (.string nm)
set_option maxHeartbeats 1600000 in
theorem sRes14 {S : Nat → Prop} (t : DSg) (v1 v2 v3 : Value) (ref : Int) (w : World) (h : DSgL w S t v1 v2 v3) :
    Calls Try.prog 14 #[.agg #[.int .i64 t.scopes, v1, v2, v3], .int .i64 ref] w (ReA (reR t ref) w) := by
  have HOK := (show Hid (∀ w', Below w.heap.size w w' → Calls Try.prog 10 #[.agg #[.int .i64 t.scopes, v1, v2, v3]] w' fun e w'' => e = .returned (.bool (sgB t)) ∧ Below w'.heap.size w' w'') from fun w' hb => sSg10 t v1 v2 v3 w' (h.still hb))
  have HRS := (show Hid (∀ (N : Nat) (s r : Nat) (hr : r < t.refs.length) (w' : World), Below w.heap.size w w' → t.scopes = (N : Int) → t.refs[r].scope = (s : Int) → s < N → sgB t = true → Calls Try.prog 50 #[.agg #[.int .i64 ((N : Nat) : Int), v1, v2, v3], .agg #[.int .i64 ((s : Nat) : Int), .string t.refs[r].name]] w' (InA (rsv t t.refs[r]) w')) from fun N s r hr w' hb e1 e2 hs hok => by
    obtain ⟨N', e3, f1, f2, f3, f4, f5, f6, f7, f8⟩ := sg_facts hok
    obtain rfl : N = N' := by omega
    obtain ⟨a3, p3, rfl, _⟩ := h.refs.form
    unfold rsv
    rw [e1, e2, Int.toNat_natCast]
    exact resolve50 N t.edges t.decls v1 v2 a3 _ p3 s _ w' (h.edges.still hb) (h.decls.still hb) f6 f7 f2 f3 f4 hs)
  obtain ⟨a1, p1, rfl, _⟩ := h.edges.form
  obtain ⟨a2, p2, rfl, _⟩ := h.decls.form
  obtain ⟨a3, p3, b, off, rfl, hc, hm, ha, hcell⟩ := h.refs
  have HC := (show Hid _ from hcell); clear hcell
  have HA := (show Hid _ from ha); clear ha
  clear h
  unfold maxLen at hm
  have HB0 := (show Hid (Below w.heap.size w (w.alloc (.cells #[.int .i64 t.scopes, .slice a1 t.edges.length p1, .slice a2 t.decls.length p2, .slice a3 t.refs.length p3] 31))) from bel_alloc _ _)
  have HG0 := (show Hid (G4 w.heap.size t.scopes (.slice a1 t.edges.length p1) (.slice a2 t.decls.length p2) (.slice a3 t.refs.length p3) (w.alloc (.cells #[.int .i64 t.scopes, .slice a1 t.edges.length p1, .slice a2 t.decls.length p2, .slice a3 t.refs.length p3] 31))) from G4.new w t.scopes (.slice a1 t.edges.length p1) (.slice a2 t.decls.length p2) (.slice a3 t.refs.length p3))
  cases hok : sgB t
  case false =>
    rw [reR_bad hok]
    rw [hok] at HOK
    clear HRS hok
    go_enter Try.func14, Try.ntmps14
    go_wp2_with fail
    refine Calls.mono (HOK.out _ HB0.out) ?_
    rintro e w1 ⟨rfl, hb1⟩
    have HB1 := (show Hid _ from bel_trans HB0.out hb1); clear hb1
    go_wp2_with fail
    go_ret2
    exact ⟨_, _, rfl, HB1.out.alloc HB1.out.size _, ownMade _ _ HB1.out.size⟩
  case true =>
    have HFA := (show Hid _ from sg_facts hok)
    have HKT := (show Hid _ from hok)
    rw [hok] at HOK
    clear hok
    have hl3 : t.refs.length ≤ 120 := by obtain ⟨_, _, _, _, _, _, f, _⟩ := HFA.out; exact f
    have kw : IntKind.i64.wrap ((t.refs.length : Int) - 1) = (t.refs.length : Int) - 1 := by simp [IntKind.wrap, IntKind.bits, IntKind.signed]; omega
    have HBT := (show Hid _ from fun w' => betG38 ref 0 ((t.refs.length : Int) - 1) w')
    by_cases hin : 0 ≤ ref ∧ ref < t.refs.length
    case neg =>
      rw [reR_place HKT.out hin]
      rw [show btG ref 0 ((t.refs.length : Int) - 1) = false from by
        unfold btG
        by_cases h : 0 ≤ ref
        · rw [decide_eq_false (p := ref ≤ (t.refs.length : Int) - 1) (by omega)]; simp
        · rw [decide_eq_false h]; rfl] at HBT
      clear HRS hin
      go_enter Try.func14, Try.ntmps14
      go_wp2_with fail
      refine Calls.mono (HOK.out _ HB0.out) ?_
      rintro e w1 ⟨rfl, hb1⟩
      have HB1 := (show Hid _ from bel_trans HB0.out hb1)
      obtain ⟨k0, k1, k2, k3⟩ := HG0.out.still hb1
      clear hb1
      go_wp2_with fail
      refine Calls.mono (HBT.out _) ?_
      rintro e w2 ⟨rfl, rfl⟩
      go_wp2_with fail
      go_ret2
      exact ⟨_, _, rfl, HB1.out.alloc HB1.out.size _, ownMade _ _ HB1.out.size⟩
    case pos =>
      obtain ⟨r, rfl⟩ : ∃ r : Nat, ref = (r : Int) := ⟨ref.toNat, by omega⟩
      have hr : r < t.refs.length := by omega
      have HEA := (show Hid (a3 = some ⟨b, off, none⟩) from (HA.out (by omega)).1)
      obtain ⟨c0, c1, _⟩ := HC.out r hr
      generalize t.scopes = sc at *
      obtain ⟨N, rfl, f1, f2, f3, f4, f5, f6, f7, f8⟩ := HFA.out
      obtain ⟨s, es0, hsN⟩ : ∃ s : Nat, t.refs[r].scope = (s : Int) ∧ s < N := ⟨t.refs[r].scope.toNat, by have := f8 r hr; omega, by have := f8 r hr; omega⟩
      have HRR := (show Hid _ from fun w' hb => HRS.out N s r hr w' hb rfl es0 hsN HKT.out)
      rw [es0] at c0
      have HSOME := (show Hid _ from reR_some HKT.out hr)
      have HNONE := (show Hid _ from reR_none HKT.out hr)
      generalize hRV : rsv t t.refs[r] = RV at *
      generalize t.refs[r].name = rn at *
      rw [show btG (r : Int) 0 ((t.refs.length : Int) - 1) = true from by unfold btG; rw [decide_eq_true (p := (0 : Int) ≤ r) (by omega), decide_eq_true (p := (r : Int) ≤ (t.refs.length : Int) - 1) (by omega)]; rfl] at HBT
      clear hRV f6 f7 f8 HFA HRS hin
      generalize reR t (r : Int) = R at *
      have HC1 := (show Hid _ from HOK.out _ HB0.out)
      go_enter Try.func14, Try.ntmps14
      go_wp2_with fail
      refine Calls.mono HC1.out ?_
      rintro e w1 ⟨rfl, hb1⟩
      have HB1 := (show Hid _ from bel_trans HB0.out hb1)
      have HG1 := (show Hid (G4 w.heap.size (N : Int) (.slice a1 t.edges.length p1) (.slice a2 t.decls.length p2) (.slice a3 t.refs.length p3) w1) from HG0.out.still hb1)
      obtain ⟨k0, k1, k2, k3⟩ := HG1.out
      clear hb1
      go_wp2_with fail
      refine Calls.mono (HBT.out _) ?_
      rintro e w2 ⟨rfl, rfl⟩
      clear k0 k1 k2 k3
      have HCE := (show Hid (∀ wq, Below w2.heap.size w2 wq → E6 w.heap.size (N : Int) (.slice a1 t.edges.length p1) (.slice a2 t.decls.length p2) (.slice (some ⟨b, off, none⟩) t.refs.length p3) b (off + r * 2) (s : Int) rn wq) from fun wq hq => by
        obtain ⟨g0, g1, g2, g3⟩ := HG1.out.still hq
        rw [HEA.out] at g3
        have hbq := bel_trans HB1.out hq
        exact ⟨⟨g0, g1, g2, g3⟩, (hbq.cell (lt_of_cell c0)).trans c0, (hbq.cell (lt_of_cell c1)).trans c1⟩)
      rw [HEA.out] at HRR
      clear c0 c1 HEA HG0 HG1 HC HA
      go_wp2_with fail
      go_cut [6] from 19 to 25 (fun v wx => ∃ (ua : Option Addr) (uc : Nat), v = .slice ua RV.length uc ∧ Hid (Below w2.heap.size w2 wx ∧ wx.ownsRow w2.heap.size 3 1 (.slice ua RV.length uc) RV.length (iv RV)))
      case first =>
        have hbd := (Below.refl w2.heap.size w2).drew
        have hS0 := HCE.out _ hbd
        unfold E6 at hS0
        go_region_held3 (fun wq => (wq.cell? ⟨w.heap.size, 0, none⟩ = some (.int .i64 (N : Int)) ∧ wq.cell? ⟨w.heap.size, 1, none⟩ = some (.slice a1 t.edges.length p1) ∧ wq.cell? ⟨w.heap.size, 2, none⟩ = some (.slice a2 t.decls.length p2) ∧ wq.cell? ⟨w.heap.size, 3, none⟩ = some (.slice (some ⟨b, off, none⟩) t.refs.length p3)) ∧ wq.cell? ⟨b, off + r * 2, none⟩ = some (.int .i64 (s : Int)) ∧ wq.cell? ⟨b, off + r * 2 + 1, none⟩ = some (.string rn)) (first | with_reducible exact hS0 | with_reducible exact hS1) ((first
          | (go_at_call 50; refine Calls.mono (HRR.out _ (bel_trans HB1.out hbd)) ?_; rintro e w3 ⟨ua3, uc3, rfl, hb3, ho3⟩; have hF := bel_trans hbd hb3; have hS1 := (show E6 _ _ _ _ _ _ _ _ _ _ from HCE.out _ hF); unfold E6 at hS1)))
        all_goals go_wp2_with fail
        all_goals go_meet
        all_goals exact ⟨_, _, rfl, hF, ownLow ho3 hbd.size⟩
      case rest =>
        obtain ⟨ua, uc, rfl, HX⟩ := hcut
        obtain ⟨wz, rfl⟩ : ∃ wz, wz = wc := ⟨_, rfl⟩
        have HBZ := (show Hid _ from bel_trans HB1.out HX.out.1)
        by_cases hnil : RV = []
        case pos =>
          have HF := (show Hid _ from HNONE.out hnil)
          subst hnil
          clear HCE
          go_wp2_with fail
          go_ret2
          rw [HF.out]
          exact ⟨_, _, rfl, HBZ.out.alloc HBZ.out.size _, ownMade _ _ HBZ.out.size⟩
        case neg =>
          have HF := (show Hid _ from HSOME.out hnil)
          have hpos : 0 < RV.length := List.length_pos_iff.2 hnil
          have hq : ((RV.length : Int) == 0) = false := by simp; omega
          clear HCE hnil
          go_wp2_with fail
          go_ret2
          rw [HF.out]
          exact ⟨_, _, rfl, HBZ.out, ownLow HX.out.2 HB1.out.size⟩
end Go.Proofs.Ytkkebcbcbihbiaa
