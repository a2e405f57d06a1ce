import Derived.Test.YtkkebcbcbihbiaaHe
import Derived.BigQuiet
/-! Unused: the specification. -/
namespace Go.Proofs.Ytkkebcbcbihbiaa
open Go.RowKit Go.Deep
set_option linter.unusedVariables false
set_option maxRecDepth 100000
set_option linter.unusedSimpArgs false

/-- Whether one of the first r references stands for it. -/
def usP (t : DSg) (r : Nat) (d : Int) : Bool := hasI (flT (t.refs.map (rsv t)) r) d
theorem usP_zero (t : DSg) (d : Int) : usP t 0 d = false := by unfold usP; rw [flT_zero]; simp [hasI]
theorem usP_all (t : DSg) (d : Int) : usP t t.refs.length d = usd t d := by
  unfold usP usd
  have := flT_all (t.refs.map (rsv t))
  rw [List.length_map] at this
  rw [this]
theorem usP_succ {t : DSg} {r : Nat} (h : r < t.refs.length) (d : Int) : usP t (r + 1) d = (usP t r d || hasI (rsv t t.refs[r]) d) := by
  unfold usP
  rw [fl_succ (by rw [List.length_map]; exact h), List.getElem_map]
  unfold hasI
  rw [Bool.eq_iff_iff]
  simp
theorem belDrewN {B : Nat} {a w : World} (h : Below B a w) (n : Nat) : Below B a (w.drewN n) := h.trans ⟨rfl, rfl, rfl, Nat.le_refl _, fun _ _ => rfl⟩
set_option maxHeartbeats 6400000 in
theorem sUn20 {S : Nat → Prop} (t : DSg) (v1 v2 v3 : Value) (w : World) (h : DSgL w S t v1 v2 v3) :
    Calls Try.prog 20 #[.agg #[.int .i64 t.scopes, v1, v2, v3]] w (ReA (unR t) w) := by
  have HOK := (show Hid (∀ w', Below w.heap.size w w' → Calls Try.prog 10 #[.agg #[.int .i64 t.scopes, v1, v2, v3]] w' fun e w'' => e = .returned (.bool (sgB t)) ∧ Below w'.heap.size w' w'') from fun w' hb => sSg10 t v1 v2 v3 w' (h.still hb))
  have HRS := (show Hid (∀ (N : Nat) (s r : Nat) (hr : r < t.refs.length) (w' : World), Below w.heap.size w w' → t.scopes = (N : Int) → t.refs[r].scope = (s : Int) → s < N → sgB t = true → Calls Try.prog 50 #[.agg #[.int .i64 ((N : Nat) : Int), v1, v2, v3], .agg #[.int .i64 ((s : Nat) : Int), .string t.refs[r].name]] w' (InA (rsv t t.refs[r]) w')) from fun N s r hr w' hb e1 e2 hs hok => by
    obtain ⟨N', e3, f1, f2, f3, f4, f5, f6, f7, f8⟩ := sg_facts hok
    obtain rfl : N = N' := by omega
    obtain ⟨a3, p3, rfl, _⟩ := h.refs.form
    unfold rsv
    rw [e1, e2, Int.toNat_natCast]
    exact resolve50 N t.edges t.decls v1 v2 a3 _ p3 s _ w' (h.edges.still hb) (h.decls.still hb) f6 f7 f2 f3 f4 hs)
  obtain ⟨a1, p1, rfl, _⟩ := h.edges.form
  obtain ⟨a2, p2, rfl, hm2⟩ := h.decls.form
  obtain ⟨a3, p3, b, off, rfl, hc, hm, ha, hcell⟩ := h.refs
  have HC := (show Hid (∀ i (hi : i < t.refs.length), w.cell? ⟨b, off + i * 2, none⟩ = some (.int .i64 t.refs[i].scope) ∧ w.cell? ⟨b, off + i * 2 + 1, none⟩ = some (.string t.refs[i].name)) from fun i hi => ⟨(hcell i hi).1, (hcell i hi).2.1⟩); clear hcell
  have HA := (show Hid (0 < t.refs.length → a3 = some ⟨b, off, none⟩) from fun h0 => (ha h0).1); clear ha
  clear h
  unfold maxLen at hm hm2
  have HB0 := (show Hid (Below w.heap.size w (w.alloc (.cells #[.int .i64 t.scopes, .slice a1 t.edges.length p1, .slice a2 t.decls.length p2, .slice a3 t.refs.length p3] 31))) from bel_alloc _ _)
  have HG0 := (show Hid (G4 w.heap.size t.scopes (.slice a1 t.edges.length p1) (.slice a2 t.decls.length p2) (.slice a3 t.refs.length p3) (w.alloc (.cells #[.int .i64 t.scopes, .slice a1 t.edges.length p1, .slice a2 t.decls.length p2, .slice a3 t.refs.length p3] 31))) from G4.new w t.scopes (.slice a1 t.edges.length p1) (.slice a2 t.decls.length p2) (.slice a3 t.refs.length p3))
  cases hok : sgB t
  case false =>
    rw [unR_bad hok]
    rw [hok] at HOK
    clear HRS hok
    go_enter Try.func20, Try.ntmps20
    go_wp2_with fail
    refine Calls.mono (HOK.out _ HB0.out) ?_
    rintro e w1 ⟨rfl, hb1⟩
    have HB1 := (show Hid _ from bel_trans HB0.out hb1); clear hb1
    go_wp2_with fail
    go_ret2
    exact ⟨_, _, rfl, HB1.out.alloc HB1.out.size _, ownMade _ _ HB1.out.size⟩
  case true =>
    rw [unR_ok hok]
    rw [hok] at HOK
    have HKT := (show Hid _ from hok)
    have HFA := (show Hid _ from sg_facts hok)
    clear hok
    generalize t.scopes = sc at *
    obtain ⟨N, rfl, f1, f2, f3, f4, f5, f6, f7, f8⟩ := HFA.out
    have HSC := (show Hid (∀ r (hr : r < t.refs.length), ∃ s : Nat, t.refs[r].scope = (s : Int) ∧ s < N) from fun r hr => ⟨t.refs[r].scope.toNat, by have := f8 r hr; omega, by have := f8 r hr; omega⟩)
    have HR2 := (show Hid _ from fun (s r : Nat) (hr : r < t.refs.length) (w' : World) hb e2 hs => HRS.out N s r hr w' hb rfl e2 hs HKT.out)
    have HC1 := (show Hid _ from HOK.out _ HB0.out)
    clear f6 f7 f8 HFA HRS
    obtain ⟨i3, hi3, hzz⟩ := Option.map_eq_some_iff.1 info3g
    simp only [Prod.mk.injEq] at hzz
    obtain ⟨hz0, hz1, hz2⟩ := hzz
    have HDL := (show Hid (∀ j, (unL t j).length ≤ j) from unL_le t)
    go_enter Try.func20, Try.ntmps20
    go_wp2_with fail
    refine Calls.mono HC1.out ?_
    rintro e w2 ⟨rfl, hb1⟩
    have HB1 := (show Hid (Below w.heap.size w w2) from bel_trans HB0.out hb1)
    have HG1 := (show Hid (G4 w.heap.size (N : Int) (.slice a1 t.edges.length p1) (.slice a2 t.decls.length p2) (.slice a3 t.refs.length p3) w2) from HG0.out.still hb1)
    clear hb1 HC1
    have HST := (show Hid (Below w2.heap.size w2 (w2.alloc (.cells #[] 3)) ∧ (w2.alloc (.cells #[] 3)).ownsRow w2.heap.size 3 1 (.slice (some ⟨w2.heap.size, 0, none⟩) (unL t 0).length 0) (unL t 0).length (iv (unL t 0))) from ⟨bel_alloc _ _, by rw [unL_zero]; exact ownMade _ _ (Nat.le_refl _)⟩)
    go_wp2_with fail
    go_loopw [4, 5] (fun u i wr => ∃ (j : Nat) (a : Option Addr) (cp : Nat), i = .int .i64 j ∧ j ≤ t.decls.length ∧ u = .slice a (unL t j).length cp ∧ wr.cell? ⟨w.heap.size, 2, none⟩ = some (.slice a2 t.decls.length p2) ∧ Hid (Below w2.heap.size w2 wr ∧ wr.ownsRow w2.heap.size 3 1 (.slice a (unL t j).length cp) (unL t j).length (iv (unL t j)))) (fun _ i _ => t.decls.length - (intOf i).toNat)
    case atStart => exact ⟨0, _, _, rfl, Nat.zero_le _, by rw [unL_zero]; rfl, (HG1.out.still HST.out.1).2.2.1, HST⟩
    case round =>
      obtain ⟨j, xa, xc, rfl, hj, rfl, c2, HI⟩ := hrel
      clear HST
      obtain ⟨wo, rfl⟩ : ∃ wo, wo = wr := ⟨_, rfl⟩
      by_cases hjl : j < t.decls.length
      · have HUZ := (show Hid _ from usP_zero t (j : Int))
        have HUA := (show Hid _ from usP_all t (j : Int))
        have C3 := (show Hid _ from (HG1.out.still HI.out.1).2.2.2)
        go_wp2_with fail
        go_loopw [6, 7] (fun u i wr => ∃ (r : Nat), i = .int .i64 r ∧ r ≤ t.refs.length ∧ u = .bool (usP t r (j : Int)) ∧ wr.cell? ⟨w.heap.size, 3, none⟩ = some (.slice a3 t.refs.length p3) ∧ Hid (Below wo.heap.size wo wr)) (fun _ i _ => t.refs.length - (intOf i).toNat)
        case atStart => exact ⟨0, rfl, Nat.zero_le _, by rw [HUZ.out], C3.out, Below.refl _ _⟩
        case round =>
          obtain ⟨r, rfl, hr, rfl, c3, HW⟩ := hrel
          obtain ⟨wi, rfl⟩ : ∃ wi, wi = wr := ⟨_, rfl⟩
          by_cases hrl : r < t.refs.length
          · have HEA := (show Hid _ from HA.out (by omega))
            obtain ⟨d0, d1⟩ := HC.out r hrl
            obtain ⟨s, es0, hsN⟩ := HSC.out r hrl
            rw [es0] at d0
            have HBI := (show Hid (Below w.heap.size w wi) from bel_trans HB1.out (HI.out.1.trans (HW.out.mono HI.out.1.size)))
            have HGI := (show Hid (Below w2.heap.size w2 wi) from HI.out.1.trans (HW.out.mono HI.out.1.size))
            have HRR := (show Hid _ from fun (w' : World) hb => HR2.out s r hrl w' hb es0 hsN)
            have HSU := (show Hid _ from usP_succ hrl (j : Int))
            have HCE := (show Hid (∀ wq, Below wi.heap.size wi wq → E6 w.heap.size (N : Int) (.slice a1 t.edges.length p1) (.slice a2 t.decls.length p2) (.slice (some ⟨b, off, none⟩) t.refs.length p3) b (off + r * 2) (s : Int) t.refs[r].name wq) from fun wq hq => by
              obtain ⟨g0, g1, g2, g3⟩ := HG1.out.still (HGI.out.trans (hq.mono HGI.out.size))
              rw [HEA.out] at g3
              have hbq := bel_trans HBI.out hq
              exact ⟨⟨g0, g1, g2, g3⟩, (hbq.cell (lt_of_cell d0)).trans d0, (hbq.cell (lt_of_cell d1)).trans d1⟩)
            generalize t.refs[r].name = rn at *
            generalize rsv t t.refs[r] = RV at *
            have HKC := (show Hid (∀ wq, Below wi.heap.size wi wq → wq.cell? ⟨w.heap.size, 3, none⟩ = some (.slice a3 t.refs.length p3)) from fun wq hq => (HG1.out.still (HGI.out.trans (hq.mono HGI.out.size))).2.2.2)
            rw [HEA.out] at HRR
            clear d0 d1 es0 HEA
            generalize usP t r (j : Int) = UB at *
            cases UB
            case true =>
              go_wp2_with fail
              clear c3
              go_quiet (fail)
              go_wp2_with fail
              exact ⟨⟨r + 1, by go_num, by omega, by rw [HSU.out]; rfl, HKC.out _ (belDrewN (Below.refl _ _) _), HW.out.trans ((belDrewN (Below.refl wi.heap.size wi) _).mono HW.out.size)⟩, by simp [intOf]; omega⟩
            case false =>
              go_wp2_with fail
              clear c3
              have hbd := (Below.refl wi.heap.size wi).drew
              have hS0 := HCE.out _ hbd
              unfold E6 at hS0
              go_region_held3 (fun wq => (wq.cell? ⟨w.heap.size, 0, none⟩ = some (.int .i64 (N : Int)) ∧ wq.cell? ⟨w.heap.size, 1, none⟩ = some (.slice a1 t.edges.length p1) ∧ wq.cell? ⟨w.heap.size, 2, none⟩ = some (.slice a2 t.decls.length p2) ∧ wq.cell? ⟨w.heap.size, 3, none⟩ = some (.slice (some ⟨b, off, none⟩) t.refs.length p3)) ∧ wq.cell? ⟨b, off + r * 2, none⟩ = some (.int .i64 (s : Int)) ∧ wq.cell? ⟨b, off + r * 2 + 1, none⟩ = some (.string rn)) (first | with_reducible exact hS0 | with_reducible exact hS1 | with_reducible exact hS2) ((first
                | (go_at_call 55; refine Calls.mono (has55 RV _ _ _ hv5) ?_; rintro e w6 ⟨rfl, rfl⟩; have hF := hF1; have hS2 := hS1)
                | (go_at_call 50; refine Calls.mono (HRR.out _ (bel_trans HBI.out hbd)) ?_; rintro e w5 ⟨ya, yc, rfl, hb5, ho5⟩; have hv5 := ownInts ho5; have hF1 := bel_trans hbd hb5; have hS1 := (show E6 _ _ _ _ _ _ _ _ _ _ from HCE.out _ hF1); unfold E6 at hS1)))
              all_goals go_wp2_with fail
              all_goals exact ⟨⟨r + 1, by go_num, by omega, by rw [HSU.out]; rfl, HKC.out _ hF, HW.out.trans (hF.mono HW.out.size)⟩, by simp [intOf]; omega⟩
          · obtain rfl : r = t.refs.length := by omega
            rw [HUA.out]
            have HBI := (show Hid (Below w2.heap.size w2 wi) from HI.out.1.trans (HW.out.mono HI.out.1.size))
            have HOI := (show Hid _ from ownBel (C := 0) HI.out.2 HW.out)
            have K2 := (show Hid _ from (HG1.out.still HBI.out).2.2.1)
            have HYES := (show Hid _ from fun h => unL_yes (t := t) (j := j) h)
            have HNO := (show Hid _ from fun h => unL_no (t := t) (j := j) h)
            generalize usd t (j : Int) = UB at *
            cases UB
            case true =>
              have HF := (show Hid _ from HNO.out rfl)
              go_wp2_with fail
              rw [← HF.out]
              exact ⟨⟨j + 1, xa, xc, by go_num, by omega, rfl, K2.out, by rw [HF.out]; exact ⟨HBI.out, HOI.out⟩⟩, by simp [intOf]; omega⟩
            case false =>
              have HF := (show Hid _ from HYES.out rfl)
              have hba := bel_alloc wi (.cells #[.int .i64 (j : Int)] 3)
              have HO1 := (show Hid _ from ownBel (C := 0) HOI.out hba)
              have HB2 := (show Hid (Below w2.heap.size w2 (wi.alloc (.cells #[.int .i64 (j : Int)] 3))) from HBI.out.alloc HBI.out.size _)
              have hNN := HDL.out j
              have HOB := (show Hid (∀ k, (Value.slice xa (unL t j).length xc).ownBlock = some k → w2.heap.size ≤ k) from fun k hk => (World.ownsRow.lt HI.out.2 k hk).1)
              generalize hNl : (unL t j).length = NN at *
              have HNl := (show Hid _ from hNl); clear hNl hba
              go_wp2_with (at_builtin; refine wpList_append_lies _ rfl (.tmp 41) (.tmp 43) 35 rfl w2.heap.size 3 i3 _ 1 8 Try.underlying35 hi3 hz0 hz1 hz2 rfl (by decide) _ NN _ rfl HO1.out ⟨wi.heap.size, 0, none⟩ 1 1 [.int .i64 (j : Int)] rfl rfl ?c1 ?c2 (by decide) ?c3 ?c5 ?c4 _ rfl ?nx)
              case c2 => rfl
              case c3 => unfold maxLen; omega
              case c5 => omega
              case c4 => have := HB2.out.size; simp at this; exact this
              case nx =>
                intro g7 cap7 w7 hown7 hgr7 hat7 hlt7
                have HX := (show Hid (Below w2.heap.size w2 w7 ∧ w7.ownsRow w2.heap.size 3 1 (.slice (some ⟨g7, 0, none⟩) (NN + 1) cap7) (unL t (j + 1)).length (iv (unL t (j + 1)))) from by
                  refine ⟨HB2.out.grown hgr7 HB2.out.size HOB.out, ?_⟩
                  rw [HF.out, List.length_append, HNl.out]
                  simpa [iv] using hown7)
                have HLN := (show Hid ((unL t (j + 1)).length = NN + 1) from by show _ = _; rw [HF.out, List.length_append, HNl.out]; rfl)
                have K7 := (show Hid _ from (HG1.out.still HX.out.1).2.2.1)
                clear hown7 hgr7 hat7 hlt7 HB2 HO1
                go_wp2_with fail
                exact ⟨⟨j + 1, _, _, by go_num, by omega, by rw [HLN.out], K7.out, by rw [HLN.out]; have := HX; rw [HLN.out] at this; exact this⟩, by simp [intOf]; omega⟩
      · obtain rfl : j = t.decls.length := by omega
        go_wp2_with fail
        go_ret2
        exact ⟨_, _, rfl, bel_trans HB1.out HI.out.1, ownLow HI.out.2 HB1.out.size⟩
end Go.Proofs.Ytkkebcbcbihbiaa
