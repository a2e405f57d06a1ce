import Derived.Test.YtledclkmeikgdaaGz
import Derived.Test.YtledclkmeikgdaaGb
import Derived.Test.YtledclkmeikgdaaSb
/-! The program: newNameFinder, Resolve. -/
namespace Go.Proofs.Ytledclkmeikgdaa
open Go.RowKit Go.Deep Go.Maps Go.WideMaps Go.ChangeMaps
set_option linter.unusedVariables false
set_option maxRecDepth 100000
set_option linter.unusedSimpArgs false

theorem KB.belowOf {B m : Nat} {a b c : World} (h : Below B a b) (k : KB m b c) (hB : B ≤ b.heap.size) (hm : B ≤ m) : Below B a c :=
  ⟨k.os.trans h.os, k.tape.trans h.tape, k.output.trans h.output, Nat.le_trans h.size k.size, fun q hq => (k.block q (by omega) (by omega)).trans (h.block q hq)⟩
/-- The finder's box p, its map m. -/
structure FB (B : Nat) (w : World) (p m : Nat) (v1 v2 : Value) (seen : List Int) : Prop where
  k1 : w.cell? ⟨p, 1, none⟩ = some v1
  k2 : w.cell? ⟨p, 2, none⟩ = some v2
  k4 : w.cell? ⟨p, 4, none⟩ = some (.map (some m))
  pm : p ≠ m
  ms : MS w m seen
  bm : B ≤ m ∧ B ≤ p
set_option maxHeartbeats 800000 in
theorem new51 (sc : Int) (a1 : Option Addr) (l1 p1 : Nat) (a2 : Option Addr) (l2 p2 : Nat) (a3 : Option Addr) (l3 p3 : Nat) (w : World) :
    Calls Try.prog 44 #[.agg #[.int .i64 sc, .slice a1 l1 p1, .slice a2 l2 p2, .slice a3 l3 p3]] w fun e w' => ∃ p m, e = .returned (.pointer (some ⟨p, 0, none⟩)) ∧ Below w.heap.size w w' ∧ FB w.heap.size w' p m (.slice a1 l1 p1) (.slice a2 l2 p2) [] := by
  have hms := (MS.new (w.alloc (.cells #[.int .i64 sc, .slice a1 l1 p1, .slice a2 l2 p2, .slice a3 l3 p3] 27))).bel (bel_alloc _ (.cells #[.int .i64 sc, .slice a1 l1 p1, .slice a2 l2 p2, .slice a3 l3 p3, .map (some (w.heap.size + 1))] 121))
  rw [show (w.alloc (.cells #[.int .i64 sc, .slice a1 l1 p1, .slice a2 l2 p2, .slice a3 l3 p3] 27)).heap.size = w.heap.size + 1 from by simp] at hms
  have HMS := (show Hid _ from hms); clear hms
  have hmk := fun w => run_makeMap (P := Try.prog) 119 w
  go_enter Try.func44, Try.ntmps44
  go_wp2_with fail
  go_ret
  refine ⟨_, w.heap.size + 1, rfl, (((bel_alloc _ _).alloc (by simp) _).alloc (by simp; omega) _), ⟨?_, ?_, ?_, by omega, HMS.out, by omega⟩⟩ <;> simp [go_sem]
set_option maxHeartbeats 6400000 in
theorem iRes15 {S : Nat → Prop} (t : DSg) (v1 v2 v3 : Value) (ref : Int) (w : World) (h : DSgL w S t v1 v2 v3) :
    Calls Try.prog 10 #[.agg #[.int .i64 t.scopes, v1, v2, v3], .int .i64 ref] w (ReA (reR t ref) w) := by
  have HOK := (show Hid (∀ w', Below w.heap.size w w' → Calls Try.prog 15 #[.agg #[.int .i64 t.scopes, v1, v2, v3]] w' fun e w'' => e = .returned (.bool (sgB t)) ∧ Below w'.heap.size w' w'') from fun w' hb => iSg12 t v1 v2 v3 w' (h.still hb))
  have HRS := (show Hid (∀ (N s r : Nat) (hr : r < t.refs.length) (B : Nat) (w' : World) (p m : Nat), Below w.heap.size w w' → FB B w' p m v1 v2 [] → w.heap.size ≤ B → t.scopes = (N : Int) → t.refs[r].scope = (s : Int) → s < N → sgB t = true → Calls Try.prog 45 #[.pointer (some ⟨p, 0, none⟩), .agg #[.int .i64 ((s : Nat) : Int), .string t.refs[r].name]] w' (RvA m (rsv t t.refs[r]) w')) from fun N s r hr B w' p m hb fb hB e1 e2 hs hok => by
    obtain ⟨N', e3, f1, f2, f3, f4, f5, f6, f7, f8⟩ := sg_facts hok
    obtain rfl : N = N' := by omega
    unfold rsv
    rw [e1, e2, Int.toNat_natCast]
    have hT := h.top
    have hm := fb.bm
    exact res52 N t.edges t.decls v1 v2 s _ p m [] w' ((hT.edges.still hb).mono (fun b hb => by have := hb.2; omega)) ((hT.decls.still hb).mono (fun b hb => by have := hb.2; omega)) fb.k1 fb.k2 fb.k4 fb.pm fb.ms f6 f2 f3 f4 hs)
  obtain ⟨a1, p1, rfl, _⟩ := h.edges.form
  obtain ⟨a2, p2, rfl, _⟩ := h.decls.form
  obtain ⟨a3, p3, b, off, rfl, hc, hm, ha, hcell⟩ := h.refs
  have HC := (show Hid _ from hcell); clear hcell
  have HA := (show Hid _ from ha); clear ha
  clear h
  unfold maxLen at hm
  have HB0 := (show Hid (Below w.heap.size w (w.alloc (.cells #[.int .i64 t.scopes, .slice a1 t.edges.length p1, .slice a2 t.decls.length p2, .slice a3 t.refs.length p3] 27))) from bel_alloc _ _)
  have HG0 := (show Hid (G4 w.heap.size t.scopes (.slice a1 t.edges.length p1) (.slice a2 t.decls.length p2) (.slice a3 t.refs.length p3) (w.alloc (.cells #[.int .i64 t.scopes, .slice a1 t.edges.length p1, .slice a2 t.decls.length p2, .slice a3 t.refs.length p3] 27))) from G4.new w t.scopes (.slice a1 t.edges.length p1) (.slice a2 t.decls.length p2) (.slice a3 t.refs.length p3))
  cases hok : sgB t
  case false =>
    rw [reR_bad hok]
    rw [hok] at HOK
    clear HRS hok
    go_enter Try.func10, Try.ntmps10
    go_wp2_with fail
    refine Calls.mono (HOK.out _ HB0.out) ?_
    rintro e w1 ⟨rfl, hb1⟩
    have HB1 := (show Hid _ from bel_trans HB0.out hb1); clear hb1
    go_wp2_with fail
    go_ret2
    exact ⟨_, _, rfl, HB1.out, ownNil _ _ _ _⟩
  case true =>
    have HFA := (show Hid _ from sg_facts hok)
    have HKT := (show Hid _ from hok)
    rw [hok] at HOK
    clear hok
    have HC1 := (show Hid _ from HOK.out _ HB0.out)
    by_cases hneg : ref < 0
    case pos =>
      rw [reR_place HKT.out (by omega)]
      clear HRS
      go_enter Try.func10, Try.ntmps10
      go_wp2_with fail
      refine Calls.mono HC1.out ?_
      rintro e w1 ⟨rfl, hb1⟩
      have HB1 := (show Hid _ from bel_trans HB0.out hb1)
      clear hb1
      go_wp2_with fail
      go_ret2
      exact ⟨_, _, rfl, HB1.out, ownNil _ _ _ _⟩
    case neg =>
      obtain ⟨r, rfl⟩ : ∃ r : Nat, ref = (r : Int) := ⟨ref.toNat, by omega⟩
      by_cases hr : r < t.refs.length
      case neg =>
        rw [reR_place HKT.out (by omega)]
        clear HRS
        go_enter Try.func10, Try.ntmps10
        go_wp2_with fail
        refine Calls.mono HC1.out ?_
        rintro e w1 ⟨rfl, hb1⟩
        have HB1 := (show Hid _ from bel_trans HB0.out hb1)
        obtain ⟨k0, k1, k2, k3⟩ := HG0.out.still hb1
        clear hb1
        go_wp2_with fail
        go_ret2
        exact ⟨_, _, rfl, HB1.out, ownNil _ _ _ _⟩
      case pos =>
        have HEA := (show Hid (a3 = some ⟨b, off, none⟩) from (HA.out (by omega)).1)
        obtain ⟨c0, c1, _⟩ := HC.out r hr
        generalize t.scopes = sc at *
        obtain ⟨N, rfl, f1, f2, f3, f4, f5, f6, f7, f8⟩ := HFA.out
        obtain ⟨s, es0, hsN⟩ : ∃ s : Nat, t.refs[r].scope = (s : Int) ∧ s < N := ⟨t.refs[r].scope.toNat, by have := f8 r hr; omega, by have := f8 r hr; omega⟩
        have HRR := (show Hid _ from fun (B : Nat) (w' : World) (p m : Nat) hb fb hB => HRS.out N s r hr B w' p m hb fb hB rfl es0 hsN HKT.out)
        rw [es0] at c0
        have HSOME := (show Hid _ from reR_some HKT.out hr)
        have HNONE := (show Hid _ from reR_none HKT.out hr)
        generalize hRV : rsv t t.refs[r] = RV at *
        generalize t.refs[r].name = rn at *
        have H51 := (show Hid _ from fun wq => new51 ((N : Nat) : Int) a1 t.edges.length p1 a2 t.decls.length p2 a3 t.refs.length p3 wq)
        clear hRV f6 f7 f8 HFA HRS
        generalize reR t (r : Int) = R at *
        have hd0 : decide ((r : Int) < 0) = false := by simp
        have hd1 : decide (t.refs.length ≤ r) = false := by simp; omega
        have hd2 : decide ((t.refs.length : Int) ≤ (r : Int)) = false := by simp; omega
        go_enter Try.func10, Try.ntmps10
        go_wp2_with fail
        refine Calls.mono HC1.out ?_
        rintro e w2 ⟨rfl, hb1⟩
        have HB1 := (show Hid (Below w.heap.size w w2) from bel_trans HB0.out hb1)
        have HG1 := (show Hid (G4 w.heap.size (N : Int) (.slice a1 t.edges.length p1) (.slice a2 t.decls.length p2) (.slice a3 t.refs.length p3) w2) from HG0.out.still hb1)
        clear hb1
        obtain ⟨k0, k1, k2, k3⟩ := HG1.out
        have HCE := (show Hid (∀ wq, Below w2.heap.size w2 wq → E6 w.heap.size (N : Int) (.slice a1 t.edges.length p1) (.slice a2 t.decls.length p2) (.slice (some ⟨b, off, none⟩) t.refs.length p3) b (off + r * 2) (s : Int) rn wq) from fun wq hq => by
          obtain ⟨g0, g1, g2, g3⟩ := HG1.out.still hq
          rw [HEA.out] at g3
          have hbq := bel_trans HB1.out hq
          exact ⟨⟨g0, g1, g2, g3⟩, (hbq.cell (lt_of_cell c0)).trans c0, (hbq.cell (lt_of_cell c1)).trans c1⟩)
        rw [HEA.out] at H51
        clear c0 c1 HG0 HG1 HC HA HC1
        go_wp2_with fail
        clear k0 k1 k2 k3 HEA
        go_cut [6] from 19 to 26 (fun v wx => ∃ (ua : Option Addr) (uc : Nat), v = .slice ua RV.length uc ∧ Hid (Below w2.heap.size w2 wx ∧ wx.ownsRow w2.heap.size 3 1 (.slice ua RV.length uc) RV.length (iv RV)))
        case first =>
          have hbd := (Below.refl w2.heap.size w2).drew
          have hS0 := HCE.out _ hbd
          unfold E6 at hS0
          go_region_held3 (fun wq => (wq.cell? ⟨w.heap.size, 0, none⟩ = some (.int .i64 (N : Int)) ∧ wq.cell? ⟨w.heap.size, 1, none⟩ = some (.slice a1 t.edges.length p1) ∧ wq.cell? ⟨w.heap.size, 2, none⟩ = some (.slice a2 t.decls.length p2) ∧ wq.cell? ⟨w.heap.size, 3, none⟩ = some (.slice (some ⟨b, off, none⟩) t.refs.length p3)) ∧ wq.cell? ⟨b, off + r * 2, none⟩ = some (.int .i64 (s : Int)) ∧ wq.cell? ⟨b, off + r * 2 + 1, none⟩ = some (.string rn)) (first | with_reducible exact hS0 | with_reducible exact hS1 | with_reducible exact hS2) ((first
            | (go_at_call 45; refine Calls.mono (HRR.out _ _ _ _ (bel_trans HB1.out hF1) hfb (Nat.le_trans HB1.out.size hbd.size)) ?_; rintro e w4 ⟨ua4, uc4, rfl, hk4, hs4, ho4⟩; have hF := KB.belowOf hF1 hk4 (Nat.le_trans hbd.size hb3.size) (Nat.le_trans hbd.size hfb.bm.1); have hS2 := (show E6 _ _ _ _ _ _ _ _ _ _ from HCE.out _ hF); unfold E6 at hS2)
            | (go_at_call 44; refine Calls.mono (H51.out _) ?_; rintro e w3 ⟨pp, mm, rfl, hb3, hfb⟩; have hF1 := bel_trans hbd hb3; have hS1 := (show E6 _ _ _ _ _ _ _ _ _ _ from HCE.out _ hF1); unfold E6 at hS1)))
          all_goals go_wp2_with fail
          all_goals go_meet
          all_goals exact ⟨_, _, rfl, hF, ownLow ho4 (Nat.le_trans hbd.size hb3.size)⟩
        case rest =>
          obtain ⟨ua, uc, rfl, HX⟩ := hcut
          obtain ⟨wz, rfl⟩ : ∃ wz, wz = wc := ⟨_, rfl⟩
          have HBZ := (show Hid _ from bel_trans HB1.out HX.out.1)
          by_cases hnil : RV = []
          case pos =>
            have HF := (show Hid _ from HNONE.out hnil)
            subst hnil
            clear HCE
            go_wp2_with fail
            go_ret2
            rw [HF.out]
            exact ⟨_, _, rfl, HBZ.out, ownNil _ _ _ _⟩
          case neg =>
            have HF := (show Hid _ from HSOME.out hnil)
            have hpos : 0 < RV.length := List.length_pos_iff.2 hnil
            have hq : ((RV.length : Int) == 0) = false := by simp; omega
            clear HCE hnil
            go_wp2_with fail
            go_ret2
            rw [HF.out]
            exact ⟨_, _, rfl, HBZ.out, ownLow HX.out.2 HB1.out.size⟩
end Go.Proofs.Ytledclkmeikgdaa
