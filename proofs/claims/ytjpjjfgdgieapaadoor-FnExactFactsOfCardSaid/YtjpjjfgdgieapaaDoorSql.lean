import Derived.Test.YtjpjjfgdgieapaaDoorSqa
import Derived.BigRegion
import Derived.Deep.RegionHeld3
/-! The specification: l04Leads, walked. -/
namespace Go.Proofs.YtjpjjfgdgieapaaDoor
open Go.RowKit Go.Deep
set_option linter.unusedVariables false
set_option maxRecDepth 100000
set_option linter.unusedSimpArgs false

set_option maxHeartbeats 25600000 in
theorem leadsL_any {S : Nat → Prop} (d : Bn) (hok : Bok d) (v0 v1 v3 : Value) (w : World) (h : BLies w S d v0 v1 v3) :
    Calls Tryd.prog 21 #[.agg #[v0, v1, .int .i64 d.own, v3], .bool true, .bool false] w fun e w' => ∃ T F, e = .returned (.slice (some ⟨T, 0, none⟩) d.nons.length d.nons.length) ∧ Below w.heap.size w w' ∧ MxF w' T d.nons.length F ∧ ∀ a b, (F a b = true ↔ Tc (En true d) a b) := by
  obtain ⟨a0, c0, a1, c1, a3', c3', rfl, rfl, e3⟩ := h.form
  have hN0 := null_any d hok _ _ v3 _ (h.still (bel_alloc w (.cells #[.slice a0 d.terms.length c0, .slice a1 d.nons.length c1, .int .i64 d.own, v3] 38)))
  obtain ⟨a3, c3, bp, op, sv, e3', hcp, hmp, hap, hcellp, hrp⟩ := h.prods
  subst e3'
  have HNU := (show Hid _ from hN0); clear hN0
  clear e3 h
  obtain ⟨h60, ⟨hn1, hn2⟩, h120, hleft, hlen, hright⟩ := hok
  have HLE := (show Hid _ from hleft); clear hleft
  have HLN := (show Hid _ from hlen); clear hlen
  have HRI := (show Hid _ from hright); clear hright
  have HCP := (show Hid _ from hcellp); clear hcellp
  have HAP := (show Hid _ from hap); clear hap
  have HRP := (show Hid _ from hrp); clear hrp
  unfold maxLen at hmp
  have hmkB := fun w => run_makeBools d.nons.length (by omega) w
  have hmkR := fun w => run_makeRows d.nons.length (by omega) w
  have HX := (show Hid _ from Box.new w 38 [.slice a0 d.terms.length c0, .slice a1 d.nons.length c1, .int .i64 d.own, .slice a3 d.prods.length c3])
  have HB0 := (show Hid _ from bel_alloc w (.cells #[.slice a0 d.terms.length c0, .slice a1 d.nons.length c1, .int .i64 d.own, .slice a3 d.prods.length c3] 38))
  go_enter Tryd.func21, Tryd.ntmps21
  go_wp2_with fail
  refine Calls.mono HNU.out ?_
  rintro e w1 ⟨nb, nl, rfl, hb1, hnb, hnr, hnl, hns, hnq⟩
  have HZ : Hid (∀ x, Nf d.terms.length nl x = true ↔ Lens d.terms.length (bps d) [x] 0) := fun x => hns.zero hnq x
  have T1 : w1.cell? ⟨w.heap.size, 1, none⟩ = some (.slice a1 d.nons.length c1) := (HX.out.still hb1).cell 1 (by simp)
  have hw1 : w.heap.size + 1 ≤ w1.heap.size := by have := hb1.size; simp at this; omega
  have hnlt := World.rowIs.lt hnr
  have H1 := (show Hid _ from (⟨bel_trans HB0.out hb1, HX.out.still hb1, hnr⟩ : Below w.heap.size w w1 ∧ Box w1 w.heap.size 38 [.slice a0 d.terms.length c0, .slice a1 d.nons.length c1, .int .i64 d.own, .slice a3 d.prods.length c3] ∧ BRow w1 nb nl))
  clear hb1 hnr hns hnq HNU HX HB0
  obtain ⟨T, hT⟩ : ∃ T, w1.heap.size = T := ⟨_, rfl⟩
  have hP0 : MxP (w1.alloc (.cells (madeCells #[.slice none 0 0] d.nons.length) 28)) T d.nons.length 0 := by
    have hs := slices_made w1 d.nons.length
    rw [hT] at hs
    refine ⟨?_, fun i hi => absurd hi (Nat.not_lt_zero _), by simp [hT]⟩
    obtain ⟨c, q1, q2, q3⟩ := hs
    exact ⟨c, q1, q2, fun i hi => by rw [q3 i hi]; simp⟩
  have hP1 : Below T w1 (w1.alloc (.cells (madeCells #[.slice none 0 0] d.nons.length) 28)) := by rw [← hT]; exact bel_alloc _ _
  have HP0 := (show Hid _ from (⟨hP1, hP0⟩ : _ ∧ _)); clear hP0 hP1
  rw [hT] at hw1 hnlt
  -- what lies below stays
  have HLOW := (show Hid _ from fun (w' : World) (hb : Below T w1 w') => (⟨H1.out.1.trans (hb.mono (by rw [← hT]; exact H1.out.1.size)), H1.out.2.1.keep (hb.block _ (by omega)), World.rowIs.of_block H1.out.2.2 (hb.block _ hnlt)⟩ : Below w.heap.size w w' ∧ Box w' w.heap.size 38 [.slice a0 d.terms.length c0, .slice a1 d.nons.length c1, .int .i64 d.own, .slice a3 d.prods.length c3] ∧ BRow w' nb nl))
  clear H1
  go_wp2_with fail
  go_loopw [10] (fun i wr => ∃ j : Nat, i = .int .i64 j ∧ j ≤ d.nons.length ∧ Hid (Below T w1 wr ∧ MxP wr T d.nons.length j)) (fun i _ => d.nons.length - (intOf i).toNat)
  case atStart => exact ⟨0, rfl, Nat.zero_le _, HP0.out⟩
  case round =>
    obtain ⟨j, rfl, hj, HJ⟩ := hrel
    clear T1
    by_cases hlt : j < d.nons.length
    · have hlt' := hlt
      have hsz : wr.heap.size = T + 1 + j := HJ.out.2.size
      have hTlt : T < wr.heap.size := by omega
      have hh := World.rowIs.of_block HJ.out.2.head (w' := wr.alloc (.cells (madeCells #[.bool false] d.nons.length) 4)) (blk_alloc_lt _ _ _ hTlt)
      have k0 : (wr.alloc (.cells (madeCells #[.bool false] d.nons.length) 4)).cell? ⟨T, j, none⟩ = some (.slice none 0 0) := by
        have := World.rowIs.cell hh hlt'
        rw [if_neg (Nat.lt_irrefl _)] at this
        exact this
      have f0 : (wr.alloc (.cells (madeCells #[.bool false] d.nons.length) 4)).frozen? ⟨T, j, none⟩ = false := World.rowIs.frozen hh j
      have HN := (show Hid _ from (⟨(HJ.out.1.trans ((bel_alloc wr (.cells (madeCells #[.bool false] d.nons.length) 4)).mono (by omega))).setCell (p := ⟨T, j, none⟩) (Nat.le_refl _) _, HJ.out.2.next hlt'⟩ : Below T w1 ((wr.alloc (.cells (madeCells #[.bool false] d.nons.length) 4)).setCell ⟨T, j, none⟩ (.slice (some ⟨T + 1 + j, 0, none⟩) d.nons.length d.nons.length)) ∧ _))
      clear hh HJ hTlt
      go_wp2_with fail
      exact ⟨⟨j + 1, by go_num, by omega, HN⟩, by simp [intOf]; omega⟩
    · have hjn : j = d.nons.length := by omega
      subst hjn
      have HS : Hid (Below T w1 wr ∧ T + 1 + d.nons.length ≤ wr.heap.size ∧ ∃ F, MxF wr T d.nons.length F ∧ Eds true d 0 0 F) := ⟨HJ.out.1, by rw [HJ.out.2.size]; exact Nat.le_refl _, _, HJ.out.2.done, ⟨(fun a b hf => by cases hf), fun k' i a b hk _ => by omega⟩⟩
      clear HJ
      go_wp2_with fail
      go_loopw [11] (fun i wr => ∃ k : Nat, i = .int .i64 k ∧ k ≤ d.prods.length ∧ Hid (Below T w1 wr ∧ T + 1 + d.nons.length ≤ wr.heap.size ∧ ∃ F, MxF wr T d.nons.length F ∧ Eds true d k 0 F)) (fun i _ => d.prods.length - (intOf i).toNat)
      case atStart => exact ⟨0, rfl, Nat.zero_le _, HS.out⟩
      case round =>
        obtain ⟨k, rfl, hk, HK⟩ := hrel
        have T3 : wr.cell? ⟨w.heap.size, 3, none⟩ = some (.slice a3 d.prods.length c3) := (HLOW.out wr HK.out.1).2.1.cell 3 (by simp)
        by_cases hlt : k < d.prods.length
        · have hlt' := hlt
          obtain ⟨rfl, _⟩ := HAP.out (by omega)
          obtain ⟨q0, q1, q2, q3, q4, _⟩ := HCP.out k hlt'
          have hri := HRP.out k hlt'
          obtain ⟨ai, ci, bi, oi, ei, hci, hmi, hai, hcelli⟩ := HRP.out k hlt'
          rw [ei] at q1 hri
          unfold maxLen at hmi
          have HAI := (show Hid _ from hai); clear hai
          have HCI := (show Hid _ from hcelli); clear hcelli
          obtain ⟨l1, l2⟩ := HLE.out k hlt'
          obtain ⟨y, hy⟩ : ∃ y : Nat, d.prods[k].left = ((d.terms.length + y : Nat) : Int) := ⟨(d.prods[k].left - d.terms.length).toNat, by omega⟩
          obtain ⟨l, hl⟩ : ∃ l : Nat, l = d.terms.length + y := ⟨_, rfl⟩
          rw [hy, ← hl] at q0
          have hyn : y < d.nons.length := by omega
          have hly : ((l : Int) - d.terms.length) = (y : Int) := by omega
          have hl200 : l ≤ 200 := by omega
          have HLL := (show Hid (d.prods[k].left.toNat = d.terms.length + y) from by show d.prods[k].left.toNat = d.terms.length + y; omega)
          have hbw := (HLOW.out wr HK.out.1).1
          rw [← hbw.cell (lt_of_cell q0)] at q0
          rw [← hbw.cell (lt_of_cell q1)] at q1
          rw [← hbw.cell (lt_of_cell q2)] at q2
          rw [← hbw.cell (lt_of_cell q3)] at q3
          rw [← hbw.cell (lt_of_cell q4)] at q4
          have hr12 := HLN.out k hlt'
          have hin := HRI.out k hlt'
          have HIN := (show Hid _ from hin); clear hin
          have HRI2 := (show Hid _ from hri); clear hri
          obtain ⟨Qb, hQb⟩ : ∃ Q, wr.heap.size = Q := ⟨_, rfl⟩
          have hbx := Box.new wr 82 [.int .i64 l, .slice ai d.prods[k].right.length ci, .string d.prods[k].label, .int .i64 d.prods[k].lev, .int .i64 d.prods[k].asc]
          rw [hQb] at hbx
          have hbA := bel_alloc wr (.cells #[.int .i64 l, .slice ai d.prods[k].right.length ci, .string d.prods[k].label, .int .i64 d.prods[k].lev, .int .i64 d.prods[k].asc] 82)
          have HS3 : Hid (Below T w1 (wr.alloc (.cells #[.int .i64 l, .slice ai d.prods[k].right.length ci, .string d.prods[k].label, .int .i64 d.prods[k].lev, .int .i64 d.prods[k].asc] 82)) ∧ T + 1 + d.nons.length ≤ (wr.alloc (.cells #[.int .i64 l, .slice ai d.prods[k].right.length ci, .string d.prods[k].label, .int .i64 d.prods[k].lev, .int .i64 d.prods[k].asc] 82)).heap.size ∧ Box (wr.alloc (.cells #[.int .i64 l, .slice ai d.prods[k].right.length ci, .string d.prods[k].label, .int .i64 d.prods[k].lev, .int .i64 d.prods[k].asc] 82)) Qb 82 [.int .i64 l, .slice ai d.prods[k].right.length ci, .string d.prods[k].label, .int .i64 d.prods[k].lev, .int .i64 d.prods[k].asc] ∧ ∃ F, MxF (wr.alloc (.cells #[.int .i64 l, .slice ai d.prods[k].right.length ci, .string d.prods[k].label, .int .i64 d.prods[k].lev, .int .i64 d.prods[k].asc] 82)) T d.nons.length F ∧ Eds true d k 0 F) := by
            obtain ⟨F, hF, hE⟩ := HK.out.2.2
            refine ⟨HK.out.1.trans (hbA.mono (by have := HK.out.2.1; omega)), by have := HK.out.2.1; simp; omega, hbx, F, hF.still hbA, hE⟩
          have hTQ : T + 1 + d.nons.length ≤ Qb := by rw [← hQb]; exact HK.out.2.1
          have HPK := (show Hid (∀ m a b, Pl true d k m a b ↔ (a = y ∧ ∃ hi : m < d.prods[k].right.length, d.prods[k].right[m].toNat = d.terms.length + b ∧ (true = true → ∀ j (hj : j < d.prods[k].right.length), j < m → Lens d.terms.length (bps d) [d.prods[k].right[j].toNat] 0))) from fun m a b => by
            constructor
            · rintro ⟨hk', e, hi, e2, h⟩
              exact ⟨by have := HLL.out; omega, hi, e2, h⟩
            · rintro ⟨rfl, hi, e2, h⟩
              exact ⟨hlt', HLL.out, hi, e2, h⟩)
          clear hbA hbx HK hbw hy HLL hl
          have HROWE := (show Hid (∀ F, Eds true d k d.prods[k].right.length F → Eds true d (k + 1) 0 F) from fun F h => h.row (fun _ => Nat.le_refl _))
          generalize d.prods[k] = P at *
          go_wp2_with fail
          go_loopw [13] (fun i wi => ∃ m : Nat, i = .int .i64 m ∧ m ≤ P.right.length ∧ Hid (Below T w1 wi ∧ T + 1 + d.nons.length ≤ wi.heap.size ∧ Box wi Qb 82 [.int .i64 l, .slice ai P.right.length ci, .string P.label, .int .i64 P.lev, .int .i64 P.asc] ∧ ∃ F, MxF wi T d.nons.length F ∧ Eds true d k m F)) (fun i _ => P.right.length - (intOf i).toNat)
          case atStart => exact ⟨0, rfl, Nat.zero_le _, HS3.out⟩
          case round =>
            obtain ⟨m, rfl, hm, HM⟩ := hrel
            clear T3 q0 q1 q2 q3 q4 HS3
            have B1 : wr.cell? ⟨Qb, 1, none⟩ = some (.slice ai P.right.length ci) := HM.out.2.2.1.cell 1 (by simp)
            by_cases hltm : m < P.right.length
            · have hltm' := hltm
              obtain ⟨rfl, _⟩ := HAI.out (by omega)
              obtain ⟨i1, i2⟩ := HIN.out m hltm'
              obtain ⟨x, hx⟩ : ∃ x : Nat, P.right[m] = x := ⟨P.right[m].toNat, by omega⟩
              have hci0 := HCI.out m hltm'
              rw [hx] at i1 i2 hci0
              have hx200 : x ≤ 200 := by omega
              -- what is read stays
              have HCELL := (show Hid _ from fun (w' : World) (hb : Below wr.heap.size wr w') => by
                have hb' : Below T w1 w' := HM.out.1.trans (hb.mono (by have := HM.out.2.1; omega))
                obtain ⟨g1, g2, g3⟩ := HLOW.out w' hb'
                exact (⟨hb', g1, g2.cell 0 (by simp), g2.cell 1 (by simp), g2.cell 2 (by simp), g2.cell 3 (by simp), (HM.out.2.2.1.still hb).cell 0 (by simp), (HM.out.2.2.1.still hb).cell 1 (by simp), (g1.cell (lt_of_cell hci0)).trans hci0, g3⟩ : Below T w1 w' ∧ Below w.heap.size w w' ∧ w'.cell? ⟨w.heap.size, 0, none⟩ = some (.slice a0 d.terms.length c0) ∧ w'.cell? ⟨w.heap.size, 1, none⟩ = some (.slice a1 d.nons.length c1) ∧ w'.cell? ⟨w.heap.size, 2, none⟩ = some (.int .i64 d.own) ∧ w'.cell? ⟨w.heap.size, 3, none⟩ = some (.slice (some ⟨bp, op, none⟩) d.prods.length c3) ∧ w'.cell? ⟨Qb, 0, none⟩ = some (.int .i64 l) ∧ w'.cell? ⟨Qb, 1, none⟩ = some (.slice (some ⟨bi, oi, none⟩) P.right.length ci) ∧ w'.cell? ⟨bi, oi + m, none⟩ = some (.int .i64 x) ∧ BRow w' nb nl))
              obtain ⟨_, _, T0, T1, T2, T3, B0, _, X0, _⟩ := HCELL.out wr (Below.refl _ _)
              have HDR := (show Hid _ from (Below.refl wr.heap.size wr).drew)
              have HV := (show Hid _ from non_any d a0 c0 (.slice a1 d.nons.length c1) (.slice (some ⟨bp, op, none⟩) d.prods.length c3) x wr.drew (by omega) h60)
              have HVL := (show Hid _ from fun w' => non_any d a0 c0 (.slice a1 d.nons.length c1) (.slice (some ⟨bp, op, none⟩) d.prods.length c3) l w' (by omega) h60)
              rw [hly] at HVL
              have HA1 := (show Hid _ from fun (w' : World) (hb : Below wr.heap.size wr w') => allNull_any d a0 a1 (some ⟨bp, op, none⟩) c0 c1 c3 d.nons.length d.prods.length nb nl (P.right.take m) (.slice (some ⟨bi, oi, none⟩) m ci) w' h60 (by rw [hnl]; omega) (HCELL.out w' hb).2.2.2.2.2.2.2.2.2 ((take_ints HRI2.out hm).still (HCELL.out w' hb).2.1) (fun i hi => by rw [List.getElem_take, hnl]; exact HIN.out i (by simp at hi; omega)) (by simp; omega))
              rw [hnl] at HA1
              generalize hA1v : nall (Nf d.terms.length nl) (nats (P.right.take m)) = A1 at HA1
              have HCOND : Hid (A1 = true ↔ ∀ j (hj : j < P.right.length), j < m → Lens d.terms.length (bps d) [P.right[j].toNat] 0) := by
                show A1 = true ↔ _
                rw [← hA1v, nall_take1 hltm']
                constructor
                · exact fun h j hj hjm => (HZ.out _).1 (h j hj hjm)
                · exact fun h j hj hjm => (HZ.out _).2 (h j hj hjm)
              clear hA1v
              go_upto_region 15 with fail
              go_cut [14] from 54 to 60 (fun v wx => v = .int .i64 ((x : Int) - d.terms.length) ∧ Hid (Below wr.heap.size wr wx))
              case first =>
                clear HA1 HCOND HCELL HVL HPK HROWE HLOW HZ HLE HLN HRI HCP HAP HRP HIN HRI2 HCI HAI
                go_region_with (go_at_call 49; refine Calls.mono HV.out ?_; rintro e w2 ⟨rfl, hb2⟩; have HBW := (show Hid _ from bel_trans HDR.out hb2); clear hb2)
                all_goals
                  go_wp2_with fail
                  go_meet
                  exact ⟨rfl, HBW⟩
              case rest =>
                obtain ⟨rfl, HC⟩ := hcut
                clear T0 T1 T2 T3 B0 B1 X0 HV
                obtain ⟨_, _, T0, T1, T2, T3, B0, B1, X0, _⟩ := HCELL.out wc HC.out
                go_upto_region 16 with fail
                go_cut [89] from 61 to 88 (fun v wx => v = .bool (!(decide (d.terms.length ≤ x) && A1)) ∧ Hid (Below wr.heap.size wr wx))
                case first =>
                  have HDR3 := (show Hid _ from HC.out.drew)
                  have hmlt : m < ci := by omega
                  have hcn0 : ¬ ci = 0 := by omega
                  have k1 : (0 : Int) ≤ (m : Int) := by omega
                  have k2 : (m : Int) ≤ (ci : Int) := by omega
                  have k3 : (m : Int) ≤ (P.right.length : Int) := by omega
                  have k4 : IntKind.i64.wrap ((m : Int) + 1) = (m : Int) + 1 := by simp [IntKind.wrap, IntKind.bits, IntKind.signed]; omega
                  have k5 : (0 : Int) ≤ (m : Int) + 1 := by omega
                  have k6 : (m : Int) + 1 ≤ (P.right.length : Int) := by omega
                  have k7 : (m : Int) + 1 ≤ (ci : Int) := by omega
                  have k8 : ((m : Int) + 1).toNat = m + 1 := by omega
                  have HCP5 := (show Hid _ from fun (w' : World) (hb : Below wr.heap.size wr w') => (⟨(HCELL.out w' hb).2.2.1, (HCELL.out w' hb).2.2.2.1, (HCELL.out w' hb).2.2.2.2.1, (HCELL.out w' hb).2.2.2.2.2.1, (HCELL.out w' hb).2.2.2.2.2.2.2.1⟩ : CelP w.heap.size Qb a0 a1 (some ⟨bp, op, none⟩) (some ⟨bi, oi, none⟩) d c0 c1 c3 P.right.length ci w'))
                  clear HCOND HVL HPK HROWE HLOW HZ HLE HLN HRI HCP HAP HRP HIN HCI HAI HM HCELL X0 B0
                  by_cases ht : d.terms.length ≤ x
                  · have hneg : decide ((x : Int) - d.terms.length < 0) = false := by simp; omega
                    have hS0 := HCP5.out _ HDR3.out
                    cases A1
                    · clear HRI2 T0 T1 T2 T3 B1
                      refine wp_region_held_drew (S := (fun w' => w'.cell? ⟨w.heap.size, 0, none⟩ = some (.slice a0 d.terms.length c0) ∧ w'.cell? ⟨w.heap.size, 1, none⟩ = some (.slice a1 d.nons.length c1) ∧ w'.cell? ⟨w.heap.size, 2, none⟩ = some (.int .i64 d.own) ∧ w'.cell? ⟨w.heap.size, 3, none⟩ = some (.slice (some ⟨bp, op, none⟩) d.prods.length c3) ∧ w'.cell? ⟨Qb, 1, none⟩ = some (.slice (some ⟨bi, oi, none⟩) P.right.length ci))) (by kernel_rfl) hS0 (fun hHeld => ?_)
                      refine wpAnyH_take (i := 0) (oi := { dst := some 61, op := Go.Op.move (Go.Operand.tmp 14), type := 3, pos := "l04_facts.go:211", after := #[], guard := none }) (v := ?v0) rfl (by kernel_rfl) (by kernel_rfl) (by kernel_rfl) (fun _ _ _ h => h) (Or.inl ⟨by rfl, ?h0⟩) (by assumption) ?r0
                      case h0 => (intro w hSw; (try dsimp only at hSw); go_simp; try with_reducible rfl)
                      try simp only [Act.put, List.setIfInBounds_toArray, List.set_cons_zero, List.set_cons_succ]
                      refine wpAnyH_take (i := 1) (oi := { dst := some 62, op := Go.Op.binOp Go.BinOp.lss 3 (Go.Operand.tmp 61) (Go.Operand.const (Go.Value.int Go.IntKind.i64 0)) 3, type := 4, pos := "l04_facts.go:211", after := #[{ on := 0, ground := Go.Ground.data }], guard := none }) (v := ?v1) rfl (by kernel_rfl) (by kernel_rfl) (by kernel_rfl) (fun _ _ _ h => h) (Or.inl ⟨by rfl, ?h1⟩) (by assumption) ?r1
                      case h1 => (intro w hSw; (try dsimp only at hSw); go_simp; try with_reducible rfl)
                      try simp only [Act.put, List.setIfInBounds_toArray, List.set_cons_zero, List.set_cons_succ]
                      refine wpAnyH_take (i := 2) (oi := { dst := some 63, op := Go.Op.move (Go.Operand.tmp 62), type := 4, pos := "l04_facts.go:211", after := #[{ on := 1, ground := Go.Ground.data }], guard := none }) (v := ?v2) rfl (by kernel_rfl) (by kernel_rfl) (by kernel_rfl) (fun _ _ _ h => h) (Or.inl ⟨by rfl, ?h2⟩) (by assumption) ?r2
                      case h2 => (intro w hSw; (try dsimp only at hSw); go_simp; try with_reducible rfl)
                      try simp only [Act.put, List.setIfInBounds_toArray, List.set_cons_zero, List.set_cons_succ]
                      refine wpAnyH_take (i := 3) (oi := { dst := some 64, op := Go.Op.move (Go.Operand.tmp 1), type := 4, pos := "l04_facts.go:211", after := #[{ on := 2, ground := Go.Ground.guard }], guard := some (2, false) }) (v := ?v3) rfl (by kernel_rfl) (by kernel_rfl) (by kernel_rfl) (fun _ _ _ h => h) (Or.inl ⟨by rfl, ?h3⟩) (by assumption) ?r3
                      case h3 => (intro w hSw; (try dsimp only at hSw); go_simp; try with_reducible rfl)
                      try simp only [Act.put, List.setIfInBounds_toArray, List.set_cons_zero, List.set_cons_succ]
                      refine wpAnyH_take (i := 4) (oi := { dst := some 65, op := Go.Op.move (Go.Operand.tmp 64), type := 4, pos := "l04_facts.go:211", after := #[{ on := 3, ground := Go.Ground.data }, { on := 2, ground := Go.Ground.chain }, { on := 2, ground := Go.Ground.guard }], guard := some (2, false) }) (v := ?v4) rfl (by kernel_rfl) (by kernel_rfl) (by kernel_rfl) (fun _ _ _ h => h) (Or.inl ⟨by rfl, ?h4⟩) (by assumption) ?r4
                      case h4 => (intro w hSw; (try dsimp only at hSw); go_simp; try with_reducible rfl)
                      try simp only [Act.put, List.setIfInBounds_toArray, List.set_cons_zero, List.set_cons_succ]
                      refine wpAnyH_take (i := 5) (oi := { dst := some 66, op := Go.Op.load 38 (Go.Operand.tmp 3), type := 38, pos := "l04_facts.go:211", after := #[{ on := 4, ground := Go.Ground.guard }], guard := some (4, true) }) (v := ?v5) rfl (by kernel_rfl) (by kernel_rfl) (by kernel_rfl) (fun _ _ _ h => h) (Or.inl ⟨by rfl, ?h5⟩) (by assumption) ?r5
                      case h5 => (intro w hSw; (try dsimp only at hSw); go_simp; try with_reducible rfl)
                      try simp only [Act.put, List.setIfInBounds_toArray, List.set_cons_zero, List.set_cons_succ]
                      refine wpAnyH_take (i := 6) (oi := { dst := some 67, op := Go.Op.move (Go.Operand.tmp 7), type := 28, pos := "l04_facts.go:211", after := #[{ on := 4, ground := Go.Ground.guard }], guard := some (4, true) }) (v := ?v6) rfl (by kernel_rfl) (by kernel_rfl) (by kernel_rfl) (fun _ _ _ h => h) (Or.inl ⟨by rfl, ?h6⟩) (by assumption) ?r6
                      case h6 => (intro w hSw; (try dsimp only at hSw); go_simp; try with_reducible rfl)
                      try simp only [Act.put, List.setIfInBounds_toArray, List.set_cons_zero, List.set_cons_succ]
                      refine wpAnyH_take (i := 7) (oi := { dst := some 68, op := Go.Op.fieldAddr 82 (Go.Operand.tmp 12) 1, type := 0, pos := "l04_facts.go:211", after := #[{ on := 4, ground := Go.Ground.guard }], guard := some (4, true) }) (v := ?v7) rfl (by kernel_rfl) (by kernel_rfl) (by kernel_rfl) (fun _ _ _ h => h) (Or.inl ⟨by rfl, ?h7⟩) (by assumption) ?r7
                      case h7 => (intro w hSw; (try dsimp only at hSw); go_simp; try with_reducible rfl)
                      try simp only [Act.put, List.setIfInBounds_toArray, List.set_cons_zero, List.set_cons_succ]
                      refine wpAnyH_take (i := 8) (oi := { dst := some 69, op := Go.Op.load 29 (Go.Operand.tmp 68), type := 29, pos := "l04_facts.go:211", after := #[{ on := 7, ground := Go.Ground.data }, { on := 4, ground := Go.Ground.guard }], guard := some (4, true) }) (v := ?v8) rfl (by kernel_rfl) (by kernel_rfl) (by kernel_rfl) (fun _ _ _ h => h) (Or.inl ⟨by rfl, ?h8⟩) (by assumption) ?r8
                      case h8 => (intro w hSw; (try dsimp only at hSw); go_simp; try with_reducible rfl)
                      try simp only [Act.put, List.setIfInBounds_toArray, List.set_cons_zero, List.set_cons_succ]
                      refine wpAnyH_take (i := 9) (oi := { dst := some 70, op := Go.Op.move (Go.Operand.tmp 13), type := 3, pos := "l04_facts.go:211", after := #[{ on := 4, ground := Go.Ground.guard }], guard := some (4, true) }) (v := ?v9) rfl (by kernel_rfl) (by kernel_rfl) (by kernel_rfl) (fun _ _ _ h => h) (Or.inl ⟨by rfl, ?h9⟩) (by assumption) ?r9
                      case h9 => (intro w hSw; (try dsimp only at hSw); go_simp; try with_reducible rfl)
                      try simp only [Act.put, List.setIfInBounds_toArray, List.set_cons_zero, List.set_cons_succ]
                      refine wpAnyH_take (i := 10) (oi := { dst := some 71, op := Go.Op.slice 29 (Go.Operand.tmp 69) none (some (Go.Operand.tmp 70)) none, type := 29, pos := "l04_facts.go:211", after := #[{ on := 8, ground := Go.Ground.data }, { on := 9, ground := Go.Ground.data }, { on := 4, ground := Go.Ground.guard }], guard := some (4, true) }) (v := ?v10) rfl (by kernel_rfl) (by kernel_rfl) (by kernel_rfl) (fun _ _ _ h => h) (Or.inl ⟨by rfl, ?h10⟩) (by assumption) ?r10
                      case h10 => (intro w hSw; (try dsimp only at hSw); go_simp; try with_reducible rfl)
                      try simp only [Act.put, List.setIfInBounds_toArray, List.set_cons_zero, List.set_cons_succ]
                      refine wpAnyH_ready (rs := [11]) (by kernel_rfl) (by simp) ?_
                      refine AllReadyH.cons (o := { dst := some 72, op := Go.Op.call { callee := Go.Callee.value (Go.Operand.func 50), args := #[Go.Operand.tmp 66, Go.Operand.tmp 67, Go.Operand.tmp 71], argTypes := #[38, 28, 29] }, type := 4, pos := "l04_facts.go:211", after := #[{ on := 5, ground := Go.Ground.data }, { on := 6, ground := Go.Ground.data }, { on := 10, ground := Go.Ground.data }, { on := 4, ground := Go.Ground.chain }, { on := 4, ground := Go.Ground.guard }], guard := some (4, true) }) rfl (fun K hK => ?_) AllReadyH.nil
                      go_simp
                      refine Calls.mono (HA1.out _ HDR3.out) ?_
                      rintro e w2 ⟨rfl, hb2⟩
                      have HBW := (show Hid _ from bel_trans HDR3.out hb2)
                      have hSa := HCP5.out _ HBW.out
                      dsimp only
                      refine hK.out _ _ hSa (fun hHeld => ?_)
                      clear hK K
                      try simp only [Act.put, List.setIfInBounds_toArray, List.set_cons_zero, List.set_cons_succ]
                      refine wpAnyH_take (i := 12) (oi := { dst := some 73, op := Go.Op.unOp Go.UnOp.not 4 (Go.Operand.tmp 72), type := 4, pos := "l04_facts.go:211", after := #[{ on := 11, ground := Go.Ground.data }, { on := 4, ground := Go.Ground.guard }], guard := some (4, true) }) (v := ?v12) rfl (by kernel_rfl) (by kernel_rfl) (by kernel_rfl) (fun _ _ _ h => h) (Or.inl ⟨by rfl, ?h12⟩) (by assumption) ?r12
                      case h12 => (intro w hSw; (try dsimp only at hSw); go_simp; try with_reducible rfl)
                      try simp only [Act.put, List.setIfInBounds_toArray, List.set_cons_zero, List.set_cons_succ]
                      refine wpAnyH_take (i := 13) (oi := { dst := some 74, op := Go.Op.pick (Go.Operand.tmp 65) (Go.Operand.tmp 73) (Go.Operand.const (Go.Value.bool false)), type := 4, pos := "l04_facts.go:211", after := #[{ on := 4, ground := Go.Ground.data }, { on := 12, ground := Go.Ground.data }, { on := 2, ground := Go.Ground.guard }], guard := some (2, false) }) (v := ?v13) rfl (by kernel_rfl) (by kernel_rfl) (by kernel_rfl) (fun _ _ _ h => h) (Or.inl ⟨by rfl, ?h13⟩) (by assumption) ?r13
                      case h13 => (intro w hSw; (try dsimp only at hSw); go_simp; try with_reducible rfl)
                      try simp only [Act.put, List.setIfInBounds_toArray, List.set_cons_zero, List.set_cons_succ]
                      refine wpAnyH_take (i := 14) (oi := { dst := some 75, op := Go.Op.pick (Go.Operand.tmp 63) (Go.Operand.const (Go.Value.bool true)) (Go.Operand.tmp 74), type := 4, pos := "l04_facts.go:211", after := #[{ on := 2, ground := Go.Ground.data }, { on := 13, ground := Go.Ground.data }], guard := none }) (v := ?v14) rfl (by kernel_rfl) (by kernel_rfl) (by kernel_rfl) (fun _ _ _ h => h) (Or.inl ⟨by rfl, ?h14⟩) (by assumption) ?r14
                      case h14 => (intro w hSw; (try dsimp only at hSw); go_simp; try with_reducible rfl)
                      try simp only [Act.put, List.setIfInBounds_toArray, List.set_cons_zero, List.set_cons_succ]
                      refine wpAnyH_take (i := 15) (oi := { dst := some 76, op := Go.Op.move (Go.Operand.tmp 75), type := 4, pos := "l04_facts.go:211", after := #[{ on := 14, ground := Go.Ground.data }, { on := 11, ground := Go.Ground.chain }], guard := none }) (v := ?v15) rfl (by kernel_rfl) (by kernel_rfl) (by kernel_rfl) (fun _ _ _ h => h) (Or.inl ⟨by rfl, ?h15⟩) (by assumption) ?r15
                      case h15 => (intro w hSw; (try dsimp only at hSw); go_simp; try with_reducible rfl)
                      try simp only [Act.put, List.setIfInBounds_toArray, List.set_cons_zero, List.set_cons_succ]
                      refine wpAnyH_take (i := 16) (oi := { dst := some 77, op := Go.Op.move (Go.Operand.tmp 2), type := 4, pos := "l04_facts.go:211", after := #[{ on := 15, ground := Go.Ground.guard }], guard := some (15, false) }) (v := undef) rfl (by kernel_rfl) (by kernel_rfl) (by kernel_rfl) (fun _ _ _ h => h) (Or.inr ⟨by rfl, rfl⟩) (by assumption) ?_
                      try simp only [Act.put, List.setIfInBounds_toArray, List.set_cons_zero, List.set_cons_succ]
                      refine wpAnyH_take (i := 17) (oi := { dst := some 78, op := Go.Op.move (Go.Operand.tmp 77), type := 4, pos := "l04_facts.go:211", after := #[{ on := 16, ground := Go.Ground.data }, { on := 15, ground := Go.Ground.chain }, { on := 15, ground := Go.Ground.guard }], guard := some (15, false) }) (v := undef) rfl (by kernel_rfl) (by kernel_rfl) (by kernel_rfl) (fun _ _ _ h => h) (Or.inr ⟨by rfl, rfl⟩) (by assumption) ?_
                      try simp only [Act.put, List.setIfInBounds_toArray, List.set_cons_zero, List.set_cons_succ]
                      refine wpAnyH_take (i := 18) (oi := { dst := some 79, op := Go.Op.load 38 (Go.Operand.tmp 3), type := 38, pos := "l04_facts.go:211", after := #[{ on := 17, ground := Go.Ground.guard }], guard := some (17, true) }) (v := undef) rfl (by kernel_rfl) (by kernel_rfl) (by kernel_rfl) (fun _ _ _ h => h) (Or.inr ⟨by rfl, rfl⟩) (by assumption) ?_
                      try simp only [Act.put, List.setIfInBounds_toArray, List.set_cons_zero, List.set_cons_succ]
                      refine wpAnyH_take (i := 19) (oi := { dst := some 80, op := Go.Op.move (Go.Operand.tmp 7), type := 28, pos := "l04_facts.go:211", after := #[{ on := 17, ground := Go.Ground.guard }], guard := some (17, true) }) (v := undef) rfl (by kernel_rfl) (by kernel_rfl) (by kernel_rfl) (fun _ _ _ h => h) (Or.inr ⟨by rfl, rfl⟩) (by assumption) ?_
                      try simp only [Act.put, List.setIfInBounds_toArray, List.set_cons_zero, List.set_cons_succ]
                      refine wpAnyH_take (i := 20) (oi := { dst := some 81, op := Go.Op.fieldAddr 82 (Go.Operand.tmp 12) 1, type := 0, pos := "l04_facts.go:211", after := #[{ on := 17, ground := Go.Ground.guard }], guard := some (17, true) }) (v := undef) rfl (by kernel_rfl) (by kernel_rfl) (by kernel_rfl) (fun _ _ _ h => h) (Or.inr ⟨by rfl, rfl⟩) (by assumption) ?_
                      try simp only [Act.put, List.setIfInBounds_toArray, List.set_cons_zero, List.set_cons_succ]
                      refine wpAnyH_take (i := 21) (oi := { dst := some 82, op := Go.Op.load 29 (Go.Operand.tmp 81), type := 29, pos := "l04_facts.go:211", after := #[{ on := 20, ground := Go.Ground.data }, { on := 17, ground := Go.Ground.guard }], guard := some (17, true) }) (v := undef) rfl (by kernel_rfl) (by kernel_rfl) (by kernel_rfl) (fun _ _ _ h => h) (Or.inr ⟨by rfl, rfl⟩) (by assumption) ?_
                      try simp only [Act.put, List.setIfInBounds_toArray, List.set_cons_zero, List.set_cons_succ]
                      refine wpAnyH_take (i := 22) (oi := { dst := some 83, op := Go.Op.move (Go.Operand.tmp 13), type := 3, pos := "l04_facts.go:211", after := #[{ on := 17, ground := Go.Ground.guard }], guard := some (17, true) }) (v := undef) rfl (by kernel_rfl) (by kernel_rfl) (by kernel_rfl) (fun _ _ _ h => h) (Or.inr ⟨by rfl, rfl⟩) (by assumption) ?_
                      try simp only [Act.put, List.setIfInBounds_toArray, List.set_cons_zero, List.set_cons_succ]
                      refine wpAnyH_take (i := 23) (oi := { dst := some 84, op := Go.Op.binOp Go.BinOp.add 3 (Go.Operand.tmp 83) (Go.Operand.const (Go.Value.int Go.IntKind.i64 1)) 3, type := 3, pos := "l04_facts.go:211", after := #[{ on := 22, ground := Go.Ground.data }, { on := 17, ground := Go.Ground.guard }], guard := some (17, true) }) (v := undef) rfl (by kernel_rfl) (by kernel_rfl) (by kernel_rfl) (fun _ _ _ h => h) (Or.inr ⟨by rfl, rfl⟩) (by assumption) ?_
                      try simp only [Act.put, List.setIfInBounds_toArray, List.set_cons_zero, List.set_cons_succ]
                      refine wpAnyH_take (i := 24) (oi := { dst := some 85, op := Go.Op.slice 29 (Go.Operand.tmp 82) (some (Go.Operand.tmp 84)) none none, type := 29, pos := "l04_facts.go:211", after := #[{ on := 21, ground := Go.Ground.data }, { on := 23, ground := Go.Ground.data }, { on := 17, ground := Go.Ground.guard }], guard := some (17, true) }) (v := undef) rfl (by kernel_rfl) (by kernel_rfl) (by kernel_rfl) (fun _ _ _ h => h) (Or.inr ⟨by rfl, rfl⟩) (by assumption) ?_
                      try simp only [Act.put, List.setIfInBounds_toArray, List.set_cons_zero, List.set_cons_succ]
                      refine wpAnyH_take (i := 25) (oi := { dst := some 86, op := Go.Op.call { callee := Go.Callee.value (Go.Operand.func 50), args := #[Go.Operand.tmp 79, Go.Operand.tmp 80, Go.Operand.tmp 85], argTypes := #[38, 28, 29] }, type := 4, pos := "l04_facts.go:211", after := #[{ on := 18, ground := Go.Ground.data }, { on := 19, ground := Go.Ground.data }, { on := 24, ground := Go.Ground.data }, { on := 17, ground := Go.Ground.chain }, { on := 17, ground := Go.Ground.guard }], guard := some (17, true) }) (v := undef) rfl (by kernel_rfl) (by kernel_rfl) (by kernel_rfl) (fun _ _ _ h => h) (Or.inr ⟨by rfl, rfl⟩) (by assumption) ?_
                      try simp only [Act.put, List.setIfInBounds_toArray, List.set_cons_zero, List.set_cons_succ]
                      refine wpAnyH_take (i := 26) (oi := { dst := some 87, op := Go.Op.unOp Go.UnOp.not 4 (Go.Operand.tmp 86), type := 4, pos := "l04_facts.go:211", after := #[{ on := 25, ground := Go.Ground.data }, { on := 17, ground := Go.Ground.guard }], guard := some (17, true) }) (v := undef) rfl (by kernel_rfl) (by kernel_rfl) (by kernel_rfl) (fun _ _ _ h => h) (Or.inr ⟨by rfl, rfl⟩) (by assumption) ?_
                      try simp only [Act.put, List.setIfInBounds_toArray, List.set_cons_zero, List.set_cons_succ]
                      refine wpAnyH_take (i := 27) (oi := { dst := some 88, op := Go.Op.pick (Go.Operand.tmp 78) (Go.Operand.tmp 87) (Go.Operand.const (Go.Value.bool false)), type := 4, pos := "l04_facts.go:211", after := #[{ on := 17, ground := Go.Ground.data }, { on := 26, ground := Go.Ground.data }, { on := 15, ground := Go.Ground.guard }], guard := some (15, false) }) (v := undef) rfl (by kernel_rfl) (by kernel_rfl) (by kernel_rfl) (fun _ _ _ h => h) (Or.inr ⟨by rfl, rfl⟩) (by assumption) ?_
                      try simp only [Act.put, List.setIfInBounds_toArray, List.set_cons_zero, List.set_cons_succ]
                      refine wpAnyH_take (i := 28) (oi := { dst := some 89, op := Go.Op.pick (Go.Operand.tmp 76) (Go.Operand.const (Go.Value.bool true)) (Go.Operand.tmp 88), type := 4, pos := "l04_facts.go:211", after := #[{ on := 15, ground := Go.Ground.data }, { on := 27, ground := Go.Ground.data }], guard := none }) (v := ?v28) rfl (by kernel_rfl) (by kernel_rfl) (by kernel_rfl) (fun _ _ _ h => h) (Or.inl ⟨by rfl, ?h28⟩) (by assumption) ?r28
                      case h28 => (intro w hSw; (try dsimp only at hSw); go_simp; try with_reducible rfl)
                      try simp only [Act.put, List.setIfInBounds_toArray, List.set_cons_zero, List.set_cons_succ]
                      refine wpAnyH_done (by kernel_rfl) ?_ _
                      go_wp2_with fail
                      go_meet
                      exact ⟨by simp, HBW⟩
                    · clear HRI2 T0 T1 T2 T3 B1
                      refine wp_region_held_drew (S := (fun w' => w'.cell? ⟨w.heap.size, 0, none⟩ = some (.slice a0 d.terms.length c0) ∧ w'.cell? ⟨w.heap.size, 1, none⟩ = some (.slice a1 d.nons.length c1) ∧ w'.cell? ⟨w.heap.size, 2, none⟩ = some (.int .i64 d.own) ∧ w'.cell? ⟨w.heap.size, 3, none⟩ = some (.slice (some ⟨bp, op, none⟩) d.prods.length c3) ∧ w'.cell? ⟨Qb, 1, none⟩ = some (.slice (some ⟨bi, oi, none⟩) P.right.length ci))) (by kernel_rfl) hS0 (fun hHeld => ?_)
                      refine wpAnyH_take (i := 0) (oi := { dst := some 61, op := Go.Op.move (Go.Operand.tmp 14), type := 3, pos := "l04_facts.go:211", after := #[], guard := none }) (v := ?vv0) rfl (by kernel_rfl) (by kernel_rfl) (by kernel_rfl) (fun _ _ _ h => h) (Or.inl ⟨by rfl, ?hh0⟩) (by assumption) ?rr0
                      case hh0 => (intro w hSw; (try dsimp only at hSw); go_simp; try with_reducible rfl)
                      try simp only [Act.put, List.setIfInBounds_toArray, List.set_cons_zero, List.set_cons_succ]
                      refine wpAnyH_take (i := 1) (oi := { dst := some 62, op := Go.Op.binOp Go.BinOp.lss 3 (Go.Operand.tmp 61) (Go.Operand.const (Go.Value.int Go.IntKind.i64 0)) 3, type := 4, pos := "l04_facts.go:211", after := #[{ on := 0, ground := Go.Ground.data }], guard := none }) (v := ?vv1) rfl (by kernel_rfl) (by kernel_rfl) (by kernel_rfl) (fun _ _ _ h => h) (Or.inl ⟨by rfl, ?hh1⟩) (by assumption) ?rr1
                      case hh1 => (intro w hSw; (try dsimp only at hSw); go_simp; try with_reducible rfl)
                      try simp only [Act.put, List.setIfInBounds_toArray, List.set_cons_zero, List.set_cons_succ]
                      refine wpAnyH_take (i := 2) (oi := { dst := some 63, op := Go.Op.move (Go.Operand.tmp 62), type := 4, pos := "l04_facts.go:211", after := #[{ on := 1, ground := Go.Ground.data }], guard := none }) (v := ?vv2) rfl (by kernel_rfl) (by kernel_rfl) (by kernel_rfl) (fun _ _ _ h => h) (Or.inl ⟨by rfl, ?hh2⟩) (by assumption) ?rr2
                      case hh2 => (intro w hSw; (try dsimp only at hSw); go_simp; try with_reducible rfl)
                      try simp only [Act.put, List.setIfInBounds_toArray, List.set_cons_zero, List.set_cons_succ]
                      refine wpAnyH_take (i := 3) (oi := { dst := some 64, op := Go.Op.move (Go.Operand.tmp 1), type := 4, pos := "l04_facts.go:211", after := #[{ on := 2, ground := Go.Ground.guard }], guard := some (2, false) }) (v := ?vv3) rfl (by kernel_rfl) (by kernel_rfl) (by kernel_rfl) (fun _ _ _ h => h) (Or.inl ⟨by rfl, ?hh3⟩) (by assumption) ?rr3
                      case hh3 => (intro w hSw; (try dsimp only at hSw); go_simp; try with_reducible rfl)
                      try simp only [Act.put, List.setIfInBounds_toArray, List.set_cons_zero, List.set_cons_succ]
                      refine wpAnyH_take (i := 4) (oi := { dst := some 65, op := Go.Op.move (Go.Operand.tmp 64), type := 4, pos := "l04_facts.go:211", after := #[{ on := 3, ground := Go.Ground.data }, { on := 2, ground := Go.Ground.chain }, { on := 2, ground := Go.Ground.guard }], guard := some (2, false) }) (v := ?vv4) rfl (by kernel_rfl) (by kernel_rfl) (by kernel_rfl) (fun _ _ _ h => h) (Or.inl ⟨by rfl, ?hh4⟩) (by assumption) ?rr4
                      case hh4 => (intro w hSw; (try dsimp only at hSw); go_simp; try with_reducible rfl)
                      try simp only [Act.put, List.setIfInBounds_toArray, List.set_cons_zero, List.set_cons_succ]
                      refine wpAnyH_take (i := 5) (oi := { dst := some 66, op := Go.Op.load 38 (Go.Operand.tmp 3), type := 38, pos := "l04_facts.go:211", after := #[{ on := 4, ground := Go.Ground.guard }], guard := some (4, true) }) (v := ?vv5) rfl (by kernel_rfl) (by kernel_rfl) (by kernel_rfl) (fun _ _ _ h => h) (Or.inl ⟨by rfl, ?hh5⟩) (by assumption) ?rr5
                      case hh5 => (intro w hSw; (try dsimp only at hSw); go_simp; try with_reducible rfl)
                      try simp only [Act.put, List.setIfInBounds_toArray, List.set_cons_zero, List.set_cons_succ]
                      refine wpAnyH_take (i := 6) (oi := { dst := some 67, op := Go.Op.move (Go.Operand.tmp 7), type := 28, pos := "l04_facts.go:211", after := #[{ on := 4, ground := Go.Ground.guard }], guard := some (4, true) }) (v := ?vv6) rfl (by kernel_rfl) (by kernel_rfl) (by kernel_rfl) (fun _ _ _ h => h) (Or.inl ⟨by rfl, ?hh6⟩) (by assumption) ?rr6
                      case hh6 => (intro w hSw; (try dsimp only at hSw); go_simp; try with_reducible rfl)
                      try simp only [Act.put, List.setIfInBounds_toArray, List.set_cons_zero, List.set_cons_succ]
                      refine wpAnyH_take (i := 7) (oi := { dst := some 68, op := Go.Op.fieldAddr 82 (Go.Operand.tmp 12) 1, type := 0, pos := "l04_facts.go:211", after := #[{ on := 4, ground := Go.Ground.guard }], guard := some (4, true) }) (v := ?vv7) rfl (by kernel_rfl) (by kernel_rfl) (by kernel_rfl) (fun _ _ _ h => h) (Or.inl ⟨by rfl, ?hh7⟩) (by assumption) ?rr7
                      case hh7 => (intro w hSw; (try dsimp only at hSw); go_simp; try with_reducible rfl)
                      try simp only [Act.put, List.setIfInBounds_toArray, List.set_cons_zero, List.set_cons_succ]
                      refine wpAnyH_take (i := 8) (oi := { dst := some 69, op := Go.Op.load 29 (Go.Operand.tmp 68), type := 29, pos := "l04_facts.go:211", after := #[{ on := 7, ground := Go.Ground.data }, { on := 4, ground := Go.Ground.guard }], guard := some (4, true) }) (v := ?vv8) rfl (by kernel_rfl) (by kernel_rfl) (by kernel_rfl) (fun _ _ _ h => h) (Or.inl ⟨by rfl, ?hh8⟩) (by assumption) ?rr8
                      case hh8 => (intro w hSw; (try dsimp only at hSw); go_simp; try with_reducible rfl)
                      try simp only [Act.put, List.setIfInBounds_toArray, List.set_cons_zero, List.set_cons_succ]
                      refine wpAnyH_take (i := 9) (oi := { dst := some 70, op := Go.Op.move (Go.Operand.tmp 13), type := 3, pos := "l04_facts.go:211", after := #[{ on := 4, ground := Go.Ground.guard }], guard := some (4, true) }) (v := ?vv9) rfl (by kernel_rfl) (by kernel_rfl) (by kernel_rfl) (fun _ _ _ h => h) (Or.inl ⟨by rfl, ?hh9⟩) (by assumption) ?rr9
                      case hh9 => (intro w hSw; (try dsimp only at hSw); go_simp; try with_reducible rfl)
                      try simp only [Act.put, List.setIfInBounds_toArray, List.set_cons_zero, List.set_cons_succ]
                      refine wpAnyH_take (i := 10) (oi := { dst := some 71, op := Go.Op.slice 29 (Go.Operand.tmp 69) none (some (Go.Operand.tmp 70)) none, type := 29, pos := "l04_facts.go:211", after := #[{ on := 8, ground := Go.Ground.data }, { on := 9, ground := Go.Ground.data }, { on := 4, ground := Go.Ground.guard }], guard := some (4, true) }) (v := ?vv10) rfl (by kernel_rfl) (by kernel_rfl) (by kernel_rfl) (fun _ _ _ h => h) (Or.inl ⟨by rfl, ?hh10⟩) (by assumption) ?rr10
                      case hh10 => (intro w hSw; (try dsimp only at hSw); go_simp; try with_reducible rfl)
                      try simp only [Act.put, List.setIfInBounds_toArray, List.set_cons_zero, List.set_cons_succ]
                      refine wpAnyH_ready (rs := [11]) (by kernel_rfl) (by simp) ?_
                      refine AllReadyH.cons (o := { dst := some 72, op := Go.Op.call { callee := Go.Callee.value (Go.Operand.func 50), args := #[Go.Operand.tmp 66, Go.Operand.tmp 67, Go.Operand.tmp 71], argTypes := #[38, 28, 29] }, type := 4, pos := "l04_facts.go:211", after := #[{ on := 5, ground := Go.Ground.data }, { on := 6, ground := Go.Ground.data }, { on := 10, ground := Go.Ground.data }, { on := 4, ground := Go.Ground.chain }, { on := 4, ground := Go.Ground.guard }], guard := some (4, true) }) rfl (fun K hK => ?_) AllReadyH.nil
                      go_simp
                      refine Calls.mono (HA1.out _ HDR3.out) ?_
                      rintro e w2 ⟨rfl, hb2⟩
                      have HBW := (show Hid _ from bel_trans HDR3.out hb2)
                      have hSa := HCP5.out _ HBW.out
                      dsimp only
                      refine hK.out _ _ hSa (fun hHeld => ?_)
                      clear hK K
                      try simp only [Act.put, List.setIfInBounds_toArray, List.set_cons_zero, List.set_cons_succ]
                      refine wpAnyH_take (i := 12) (oi := { dst := some 73, op := Go.Op.unOp Go.UnOp.not 4 (Go.Operand.tmp 72), type := 4, pos := "l04_facts.go:211", after := #[{ on := 11, ground := Go.Ground.data }, { on := 4, ground := Go.Ground.guard }], guard := some (4, true) }) (v := ?vv12) rfl (by kernel_rfl) (by kernel_rfl) (by kernel_rfl) (fun _ _ _ h => h) (Or.inl ⟨by rfl, ?hh12⟩) (by assumption) ?rr12
                      case hh12 => (intro w hSw; (try dsimp only at hSw); go_simp; try with_reducible rfl)
                      try simp only [Act.put, List.setIfInBounds_toArray, List.set_cons_zero, List.set_cons_succ]
                      refine wpAnyH_take (i := 13) (oi := { dst := some 74, op := Go.Op.pick (Go.Operand.tmp 65) (Go.Operand.tmp 73) (Go.Operand.const (Go.Value.bool false)), type := 4, pos := "l04_facts.go:211", after := #[{ on := 4, ground := Go.Ground.data }, { on := 12, ground := Go.Ground.data }, { on := 2, ground := Go.Ground.guard }], guard := some (2, false) }) (v := ?vv13) rfl (by kernel_rfl) (by kernel_rfl) (by kernel_rfl) (fun _ _ _ h => h) (Or.inl ⟨by rfl, ?hh13⟩) (by assumption) ?rr13
                      case hh13 => (intro w hSw; (try dsimp only at hSw); go_simp; try with_reducible rfl)
                      try simp only [Act.put, List.setIfInBounds_toArray, List.set_cons_zero, List.set_cons_succ]
                      refine wpAnyH_take (i := 14) (oi := { dst := some 75, op := Go.Op.pick (Go.Operand.tmp 63) (Go.Operand.const (Go.Value.bool true)) (Go.Operand.tmp 74), type := 4, pos := "l04_facts.go:211", after := #[{ on := 2, ground := Go.Ground.data }, { on := 13, ground := Go.Ground.data }], guard := none }) (v := ?vv14) rfl (by kernel_rfl) (by kernel_rfl) (by kernel_rfl) (fun _ _ _ h => h) (Or.inl ⟨by rfl, ?hh14⟩) (by assumption) ?rr14
                      case hh14 => (intro w hSw; (try dsimp only at hSw); go_simp; try with_reducible rfl)
                      try simp only [Act.put, List.setIfInBounds_toArray, List.set_cons_zero, List.set_cons_succ]
                      refine wpAnyH_take (i := 15) (oi := { dst := some 76, op := Go.Op.move (Go.Operand.tmp 75), type := 4, pos := "l04_facts.go:211", after := #[{ on := 14, ground := Go.Ground.data }, { on := 11, ground := Go.Ground.chain }], guard := none }) (v := ?vv15) rfl (by kernel_rfl) (by kernel_rfl) (by kernel_rfl) (fun _ _ _ h => h) (Or.inl ⟨by rfl, ?hh15⟩) (by assumption) ?rr15
                      case hh15 => (intro w hSw; (try dsimp only at hSw); go_simp; try with_reducible rfl)
                      try simp only [Act.put, List.setIfInBounds_toArray, List.set_cons_zero, List.set_cons_succ]
                      refine wpAnyH_take (i := 16) (oi := { dst := some 77, op := Go.Op.move (Go.Operand.tmp 2), type := 4, pos := "l04_facts.go:211", after := #[{ on := 15, ground := Go.Ground.guard }], guard := some (15, false) }) (v := ?vv16) rfl (by kernel_rfl) (by kernel_rfl) (by kernel_rfl) (fun _ _ _ h => h) (Or.inl ⟨by rfl, ?hh16⟩) (by assumption) ?rr16
                      case hh16 => (intro w hSw; (try dsimp only at hSw); go_simp; try with_reducible rfl)
                      try simp only [Act.put, List.setIfInBounds_toArray, List.set_cons_zero, List.set_cons_succ]
                      refine wpAnyH_take (i := 17) (oi := { dst := some 78, op := Go.Op.move (Go.Operand.tmp 77), type := 4, pos := "l04_facts.go:211", after := #[{ on := 16, ground := Go.Ground.data }, { on := 15, ground := Go.Ground.chain }, { on := 15, ground := Go.Ground.guard }], guard := some (15, false) }) (v := ?vv17) rfl (by kernel_rfl) (by kernel_rfl) (by kernel_rfl) (fun _ _ _ h => h) (Or.inl ⟨by rfl, ?hh17⟩) (by assumption) ?rr17
                      case hh17 => (intro w hSw; (try dsimp only at hSw); go_simp; try with_reducible rfl)
                      try simp only [Act.put, List.setIfInBounds_toArray, List.set_cons_zero, List.set_cons_succ]
                      refine wpAnyH_take (i := 18) (oi := { dst := some 79, op := Go.Op.load 38 (Go.Operand.tmp 3), type := 38, pos := "l04_facts.go:211", after := #[{ on := 17, ground := Go.Ground.guard }], guard := some (17, true) }) (v := undef) rfl (by kernel_rfl) (by kernel_rfl) (by kernel_rfl) (fun _ _ _ h => h) (Or.inr ⟨by rfl, rfl⟩) (by assumption) ?_
                      try simp only [Act.put, List.setIfInBounds_toArray, List.set_cons_zero, List.set_cons_succ]
                      refine wpAnyH_take (i := 19) (oi := { dst := some 80, op := Go.Op.move (Go.Operand.tmp 7), type := 28, pos := "l04_facts.go:211", after := #[{ on := 17, ground := Go.Ground.guard }], guard := some (17, true) }) (v := undef) rfl (by kernel_rfl) (by kernel_rfl) (by kernel_rfl) (fun _ _ _ h => h) (Or.inr ⟨by rfl, rfl⟩) (by assumption) ?_
                      try simp only [Act.put, List.setIfInBounds_toArray, List.set_cons_zero, List.set_cons_succ]
                      refine wpAnyH_take (i := 20) (oi := { dst := some 81, op := Go.Op.fieldAddr 82 (Go.Operand.tmp 12) 1, type := 0, pos := "l04_facts.go:211", after := #[{ on := 17, ground := Go.Ground.guard }], guard := some (17, true) }) (v := undef) rfl (by kernel_rfl) (by kernel_rfl) (by kernel_rfl) (fun _ _ _ h => h) (Or.inr ⟨by rfl, rfl⟩) (by assumption) ?_
                      try simp only [Act.put, List.setIfInBounds_toArray, List.set_cons_zero, List.set_cons_succ]
                      refine wpAnyH_take (i := 21) (oi := { dst := some 82, op := Go.Op.load 29 (Go.Operand.tmp 81), type := 29, pos := "l04_facts.go:211", after := #[{ on := 20, ground := Go.Ground.data }, { on := 17, ground := Go.Ground.guard }], guard := some (17, true) }) (v := undef) rfl (by kernel_rfl) (by kernel_rfl) (by kernel_rfl) (fun _ _ _ h => h) (Or.inr ⟨by rfl, rfl⟩) (by assumption) ?_
                      try simp only [Act.put, List.setIfInBounds_toArray, List.set_cons_zero, List.set_cons_succ]
                      refine wpAnyH_take (i := 22) (oi := { dst := some 83, op := Go.Op.move (Go.Operand.tmp 13), type := 3, pos := "l04_facts.go:211", after := #[{ on := 17, ground := Go.Ground.guard }], guard := some (17, true) }) (v := undef) rfl (by kernel_rfl) (by kernel_rfl) (by kernel_rfl) (fun _ _ _ h => h) (Or.inr ⟨by rfl, rfl⟩) (by assumption) ?_
                      try simp only [Act.put, List.setIfInBounds_toArray, List.set_cons_zero, List.set_cons_succ]
                      refine wpAnyH_take (i := 23) (oi := { dst := some 84, op := Go.Op.binOp Go.BinOp.add 3 (Go.Operand.tmp 83) (Go.Operand.const (Go.Value.int Go.IntKind.i64 1)) 3, type := 3, pos := "l04_facts.go:211", after := #[{ on := 22, ground := Go.Ground.data }, { on := 17, ground := Go.Ground.guard }], guard := some (17, true) }) (v := undef) rfl (by kernel_rfl) (by kernel_rfl) (by kernel_rfl) (fun _ _ _ h => h) (Or.inr ⟨by rfl, rfl⟩) (by assumption) ?_
                      try simp only [Act.put, List.setIfInBounds_toArray, List.set_cons_zero, List.set_cons_succ]
                      refine wpAnyH_take (i := 24) (oi := { dst := some 85, op := Go.Op.slice 29 (Go.Operand.tmp 82) (some (Go.Operand.tmp 84)) none none, type := 29, pos := "l04_facts.go:211", after := #[{ on := 21, ground := Go.Ground.data }, { on := 23, ground := Go.Ground.data }, { on := 17, ground := Go.Ground.guard }], guard := some (17, true) }) (v := undef) rfl (by kernel_rfl) (by kernel_rfl) (by kernel_rfl) (fun _ _ _ h => h) (Or.inr ⟨by rfl, rfl⟩) (by assumption) ?_
                      try simp only [Act.put, List.setIfInBounds_toArray, List.set_cons_zero, List.set_cons_succ]
                      refine wpAnyH_take (i := 25) (oi := { dst := some 86, op := Go.Op.call { callee := Go.Callee.value (Go.Operand.func 50), args := #[Go.Operand.tmp 79, Go.Operand.tmp 80, Go.Operand.tmp 85], argTypes := #[38, 28, 29] }, type := 4, pos := "l04_facts.go:211", after := #[{ on := 18, ground := Go.Ground.data }, { on := 19, ground := Go.Ground.data }, { on := 24, ground := Go.Ground.data }, { on := 17, ground := Go.Ground.chain }, { on := 17, ground := Go.Ground.guard }], guard := some (17, true) }) (v := undef) rfl (by kernel_rfl) (by kernel_rfl) (by kernel_rfl) (fun _ _ _ h => h) (Or.inr ⟨by rfl, rfl⟩) (by assumption) ?_
                      try simp only [Act.put, List.setIfInBounds_toArray, List.set_cons_zero, List.set_cons_succ]
                      refine wpAnyH_take (i := 26) (oi := { dst := some 87, op := Go.Op.unOp Go.UnOp.not 4 (Go.Operand.tmp 86), type := 4, pos := "l04_facts.go:211", after := #[{ on := 25, ground := Go.Ground.data }, { on := 17, ground := Go.Ground.guard }], guard := some (17, true) }) (v := undef) rfl (by kernel_rfl) (by kernel_rfl) (by kernel_rfl) (fun _ _ _ h => h) (Or.inr ⟨by rfl, rfl⟩) (by assumption) ?_
                      try simp only [Act.put, List.setIfInBounds_toArray, List.set_cons_zero, List.set_cons_succ]
                      refine wpAnyH_take (i := 27) (oi := { dst := some 88, op := Go.Op.pick (Go.Operand.tmp 78) (Go.Operand.tmp 87) (Go.Operand.const (Go.Value.bool false)), type := 4, pos := "l04_facts.go:211", after := #[{ on := 17, ground := Go.Ground.data }, { on := 26, ground := Go.Ground.data }, { on := 15, ground := Go.Ground.guard }], guard := some (15, false) }) (v := ?vv27) rfl (by kernel_rfl) (by kernel_rfl) (by kernel_rfl) (fun _ _ _ h => h) (Or.inl ⟨by rfl, ?hh27⟩) (by assumption) ?rr27
                      case hh27 => (intro w hSw; (try dsimp only at hSw); go_simp; try with_reducible rfl)
                      try simp only [Act.put, List.setIfInBounds_toArray, List.set_cons_zero, List.set_cons_succ]
                      refine wpAnyH_take (i := 28) (oi := { dst := some 89, op := Go.Op.pick (Go.Operand.tmp 76) (Go.Operand.const (Go.Value.bool true)) (Go.Operand.tmp 88), type := 4, pos := "l04_facts.go:211", after := #[{ on := 15, ground := Go.Ground.data }, { on := 27, ground := Go.Ground.data }], guard := none }) (v := ?vv28) rfl (by kernel_rfl) (by kernel_rfl) (by kernel_rfl) (fun _ _ _ h => h) (Or.inl ⟨by rfl, ?hh28⟩) (by assumption) ?rr28
                      case hh28 => (intro w hSw; (try dsimp only at hSw); go_simp; try with_reducible rfl)
                      try simp only [Act.put, List.setIfInBounds_toArray, List.set_cons_zero, List.set_cons_succ]
                      refine wpAnyH_done (by kernel_rfl) ?_ _
                      go_wp2_with fail
                      go_meet
                      exact ⟨by simp [ht], HBW⟩
                  · have hneg : decide ((x : Int) - d.terms.length < 0) = true := by simp; omega
                    clear HA1 HRI2
                    go_quiet (fail)
                    go_wp2_with fail
                    go_meet
                    exact ⟨by simp [ht], HC.out.trans (bel_drewN _ _ _)⟩
                case rest =>
                  obtain ⟨rfl, HC2⟩ := hcut
                  have HNB := (show Hid _ from fun (w' : World) (hb : Below wr.heap.size wr w') => (⟨(HCELL.out w' hb).1, Nat.le_trans HM.out.2.1 hb.size, HM.out.2.2.1.still hb⟩ : Below T w1 w' ∧ T + 1 + d.nons.length ≤ w'.heap.size ∧ Box w' Qb 82 [.int .i64 l, .slice (some ⟨bi, oi, none⟩) P.right.length ci, .string P.label, .int .i64 P.lev, .int .i64 P.asc]))
                  obtain ⟨F, hF, hE⟩ := HM.out.2.2.2
                  cases hC : (decide (d.terms.length ≤ x) && A1)
                  · have hE2 : Eds true d k (m + 1) F := hE.skip (fun a b hp => by
                      obtain ⟨_, hi, e2, hn⟩ := (HPK.out m a b).1 hp
                      rw [hx] at e2
                      rw [Int.toNat_natCast] at e2
                      have z1 := HCOND.out.2 (hn (by trivial))
                      rw [z1] at hC
                      simp at hC
                      omega)
                    have HN : Hid (Below T w1 wc ∧ T + 1 + d.nons.length ≤ wc.heap.size ∧ Box wc Qb 82 [.int .i64 l, .slice (some ⟨bi, oi, none⟩) P.right.length ci, .string P.label, .int .i64 P.lev, .int .i64 P.asc] ∧ ∃ F, MxF wc T d.nons.length F ∧ Eds true d k (m + 1) F) := ⟨(HNB.out wc HC2.out).1, (HNB.out wc HC2.out).2.1, (HNB.out wc HC2.out).2.2, F, hF.still HC2.out, hE2⟩
                    clear hE2 hE hF hC HNB HCOND HA1 HVL HCELL HM HC
                    go_wp2_with fail
                    exact ⟨⟨m + 1, by go_num, by omega, HN⟩, by simp [intOf]; omega⟩
                  · have hC3 : d.terms.length ≤ x ∧ A1 = true := by
                      simp only [Bool.and_eq_true, decide_eq_true_eq] at hC
                      exact hC
                    obtain ⟨z, hz⟩ : ∃ z, x = d.terms.length + z := ⟨x - d.terms.length, by omega⟩
                    have hzn : z < d.nons.length := by omega
                    have hxz : ((x : Int) - d.terms.length) = (z : Int) := by omega
                    have hpl : Pl true d k m y z := (HPK.out m y z).2 ⟨rfl, hltm', by rw [hx, Int.toNat_natCast]; exact hz, fun _ => HCOND.out.1 hC3.2⟩
                    clear T0 T1 T2 T3 B0 B1 X0
                    obtain ⟨_, _, T0, T1, T2, T3, B0, _, _, _⟩ := HCELL.out wc HC2.out
                    have HV5 := (show Hid _ from HVL.out wc)
                    have HPUT := (show Hid _ from fun (w' : World) (hb : Below wr.heap.size wr w') => (⟨(hF.still hb).hcell hyn, (hF.still hb).cell hyn hzn, (hF.still hb).frozen hyn z, by
                      refine ⟨(HNB.out w' hb).1.setCell (p := ⟨T + 1 + y, z, none⟩) (by show T ≤ T + 1 + y; omega) _, by have := (HNB.out w' hb).2.1; simpa [World.setCell] using this, (HNB.out w' hb).2.2.past (q := T + 1 + y) (by omega), _, (hF.still hb).set hyn hzn true, hE.put hpl⟩⟩ : w'.cell? ⟨T, y, none⟩ = some (.slice (some ⟨T + 1 + y, 0, none⟩) d.nons.length d.nons.length) ∧ w'.cell? ⟨T + 1 + y, z, none⟩ = some (.bool (F y z)) ∧ w'.frozen? ⟨T + 1 + y, z, none⟩ = false ∧ (Below T w1 (w'.setCell ⟨T + 1 + y, z, none⟩ (.bool true)) ∧ T + 1 + d.nons.length ≤ (w'.setCell ⟨T + 1 + y, z, none⟩ (.bool true)).heap.size ∧ Box (w'.setCell ⟨T + 1 + y, z, none⟩ (.bool true)) Qb 82 [.int .i64 l, .slice (some ⟨bi, oi, none⟩) P.right.length ci, .string P.label, .int .i64 P.lev, .int .i64 P.asc] ∧ ∃ F, MxF (w'.setCell ⟨T + 1 + y, z, none⟩ (.bool true)) T d.nons.length F ∧ Eds true d k (m + 1) F)))
                    have HZ2 := (show Hid _ from hz)
                    clear hF hE hC hC3 hpl HNB HCOND HA1 HVL HCELL HM HC hz HPK
                    go_wp2_with fail
                    refine Calls.mono HV5.out ?_
                    rintro e w3 ⟨rfl, hb3⟩
                    obtain ⟨g1, g2, g3, hNN⟩ := HPUT.out w3 (bel_trans HC2.out hb3)
                    have HN := (show Hid _ from hNN)
                    clear hNN hb3 HPUT HV5 T0 T1 T2 T3 B0
                    go_wp2_with fail
                    exact ⟨⟨m + 1, by go_num, by omega, HN⟩, by simp [intOf]; omega⟩
            · obtain ⟨F, hF, hE⟩ := HM.out.2.2.2
              have hmn : m = P.right.length := by omega
              rw [hmn] at hE
              have HN : Hid (Below T w1 wr ∧ T + 1 + d.nons.length ≤ wr.heap.size ∧ ∃ F, MxF wr T d.nons.length F ∧ Eds true d (k + 1) 0 F) := ⟨HM.out.1, HM.out.2.1, F, hF, HROWE.out F hE⟩
              clear hF hE HM
              go_wp2_with fail
              exact ⟨⟨k + 1, by go_num, by omega, HN⟩, by simp [intOf]; omega⟩
        · obtain ⟨F0, hF0, hE0⟩ := HK.out.2.2
          have hkn : k = d.prods.length := by omega
          have HS2 : Hid (Below T w1 wr ∧ T + 1 + d.nons.length ≤ wr.heap.size ∧ ∃ M, MxF wr T d.nons.length M ∧ (∀ a b, M a b = true → Tc (En true d) a b) ∧ (∀ a b, En true d a b → M a b = true) ∧ clo M 0) := by
            refine ⟨HK.out.1, HK.out.2.1, F0, hF0, fun a b hf => Tc.one (hE0.is a b hf), fun a b hn => ?_, fun m hm => absurd hm (Nat.not_lt_zero _)⟩
            obtain ⟨k', i, hp⟩ := hn
            exact hE0.all k' i a b (.inl (by obtain ⟨hk2, _⟩ := hp; omega)) hp
          clear hF0 hE0 HK
          go_wp2_with fail
          go_loopw [15] (fun i wr => ∃ q : Nat, i = .int .i64 q ∧ q ≤ d.nons.length ∧ Hid (Below T w1 wr ∧ T + 1 + d.nons.length ≤ wr.heap.size ∧ ∃ M, MxF wr T d.nons.length M ∧ (∀ a b, M a b = true → Tc (En true d) a b) ∧ (∀ a b, En true d a b → M a b = true) ∧ clo M q)) (fun i _ => d.nons.length - (intOf i).toNat)
          case atStart => exact ⟨0, rfl, Nat.zero_le _, HS2.out⟩
          case round =>
            obtain ⟨q, rfl, hq, HQ⟩ := hrel
            obtain ⟨M, hM, hM1, hM2, hM3⟩ := HQ.out.2.2
            by_cases hltq : q < d.nons.length
            · have hltq' := hltq
              have HM := (show Hid _ from (⟨hM1, hM2, hM3⟩ : _ ∧ _ ∧ _))
              have HQ0 : Hid (Below T w1 wr ∧ T + 1 + d.nons.length ≤ wr.heap.size ∧ MxF wr T d.nons.length (wst M q 0 0)) := ⟨HQ.out.1, HQ.out.2.1, hM.same (fun a b _ _ => (wst_start M q a b).symm)⟩
              clear hM hM1 hM2 hM3 HQ
              go_wp2_with fail
              go_loopw [16] (fun i wr => ∃ r : Nat, i = .int .i64 r ∧ r ≤ d.nons.length ∧ Hid (Below T w1 wr ∧ T + 1 + d.nons.length ≤ wr.heap.size ∧ MxF wr T d.nons.length (wst M q r 0))) (fun i _ => d.nons.length - (intOf i).toNat)
              case atStart => exact ⟨0, rfl, Nat.zero_le _, HQ0.out⟩
              case round =>
                obtain ⟨r, rfl, hr, HRR⟩ := hrel
                by_cases hltr : r < d.nons.length
                · have hltr' := hltr
                  go_wp2_with fail
                  go_loopw [17] (fun i wr => ∃ s : Nat, i = .int .i64 s ∧ s ≤ d.nons.length ∧ (M r q = false → s = 0) ∧ Hid (Below T w1 wr ∧ T + 1 + d.nons.length ≤ wr.heap.size ∧ MxF wr T d.nons.length (wst M q r s))) (fun i _ => d.nons.length - (intOf i).toNat)
                  case atStart => exact ⟨0, rfl, Nat.zero_le _, fun _ => rfl, HRR.out⟩
                  case round =>
                    obtain ⟨s, rfl, hs, hs0, HSS⟩ := hrel
                    have hh0 := HSS.out.2.2.hcell hltr'
                    by_cases hlts : s < d.nons.length
                    · have hlts' := hlts
                      have hc0 := HSS.out.2.2.cell hltr' hltq'
                      rw [wst_col] at hc0
                      cases hMrq : M r q
                      · rw [hMrq] at hc0
                        have HN : Hid (Below T w1 wr ∧ T + 1 + d.nons.length ≤ wr.heap.size ∧ MxF wr T d.nons.length (wst M q (r + 1) 0)) := ⟨HSS.out.1, HSS.out.2.1, by
                          have := HSS.out.2.2
                          rw [hs0 hMrq] at this
                          exact this.same (fun a b _ _ => wst_skip hMrq a b)⟩
                        clear HSS HRR hs0 hMrq
                        go_wp2_with fail
                        exact ⟨⟨r + 1, by go_num, by omega, HN⟩, by simp [intOf]; omega⟩
                      · rw [hMrq] at hc0
                        have hh1 := HSS.out.2.2.hcell hltq'
                        have d0 := HSS.out.2.2.cell hltr' hlts'
                        have d1 := HSS.out.2.2.cell hltq' hlts'
                        have f0 := HSS.out.2.2.frozen hltr' s
                        have hset := HSS.out.2.2.set hltr' hlts' (wst M q r s r s || wst M q r s q s)
                        have hset2 := hset.same (G := wst M q r (s + 1)) (fun a b _ _ => wst_next hMrq a b)
                        have HN := (show Hid _ from (⟨HSS.out.1.setCell (p := ⟨T + 1 + r, s, none⟩) (by show T ≤ T + 1 + r; omega) _, by simpa [World.setCell] using HSS.out.2.1, hset2⟩ : Below T w1 (wr.setCell ⟨T + 1 + r, s, none⟩ (.bool (wst M q r s r s || wst M q r s q s))) ∧ T + 1 + d.nons.length ≤ (wr.setCell ⟨T + 1 + r, s, none⟩ (.bool (wst M q r s r s || wst M q r s q s))).heap.size ∧ _))
                        have HND : Hid (∀ n, Below T w1 ((wr.setCell ⟨T + 1 + r, s, none⟩ (.bool (wst M q r s r s || wst M q r s q s))).drewN n) ∧ T + 1 + d.nons.length ≤ ((wr.setCell ⟨T + 1 + r, s, none⟩ (.bool (wst M q r s r s || wst M q r s q s))).drewN n).heap.size ∧ MxF ((wr.setCell ⟨T + 1 + r, s, none⟩ (.bool (wst M q r s r s || wst M q r s q s))).drewN n) T d.nons.length (wst M q r (s + 1))) := fun n => ⟨HN.out.1.trans (bel_drewN _ _ _), HN.out.2.1, HN.out.2.2.still (bel_drewN _ _ n)⟩
                        clear hset hset2 HSS HRR hs0 HN
                        generalize wst M q r s r s = F1 at *
                        generalize wst M q r s q s = F2 at *
                        have hMM : M r q = true := hMrq
                        clear hMrq
                        cases F1
                        · go_wp2_with fail
                          go_region
                          all_goals
                            have HN := (show Hid _ from HND.out 1)
                            go_wp2_with fail
                            exact ⟨⟨s + 1, by go_num, by omega, (fun h => absurd h (by simp)), HN⟩, by simp [intOf]; omega⟩
                        · go_wp2_with fail
                          go_region
                          all_goals
                            have HN := (show Hid _ from HND.out 1)
                            go_wp2_with fail
                            exact ⟨⟨s + 1, by go_num, by omega, (fun h => absurd h (by simp)), HN⟩, by simp [intOf]; omega⟩
                    · have HN : Hid (Below T w1 wr ∧ T + 1 + d.nons.length ≤ wr.heap.size ∧ MxF wr T d.nons.length (wst M q (r + 1) 0)) := ⟨HSS.out.1, HSS.out.2.1, by
                        have := HSS.out.2.2
                        have e : s = d.nons.length := by omega
                        rw [e] at this
                        exact this.same (fun a b _ hb => wst_row hb)⟩
                      clear HSS HRR hs0
                      go_wp2_with fail
                      exact ⟨⟨r + 1, by go_num, by omega, HN⟩, by simp [intOf]; omega⟩
                · have HN : Hid (Below T w1 wr ∧ T + 1 + d.nons.length ≤ wr.heap.size ∧ ∃ M, MxF wr T d.nons.length M ∧ (∀ a b, M a b = true → Tc (En true d) a b) ∧ (∀ a b, En true d a b → M a b = true) ∧ clo M (q + 1)) := by
                    refine ⟨HRR.out.1, HRR.out.2.1, fun a b => M a b || (M a q && M q b), ?_, ?_, ?_, clo_next (n := 0) HM.out.2.2⟩
                    · refine HRR.out.2.2.same (fun a b ha hb => ?_)
                      unfold wst
                      have : decide (a < r) = true := by simp; omega
                      rw [this]
                      simp
                    · intro a b hf
                      simp only [Bool.or_eq_true, Bool.and_eq_true] at hf
                      rcases hf with hf | hf
                      · exact HM.out.1 a b hf
                      · exact (HM.out.1 a q hf.1).trans (HM.out.1 q b hf.2)
                    · intro a b hn
                      simp [HM.out.2.1 a b hn]
                  clear HRR
                  go_wp2_with fail
                  exact ⟨⟨q + 1, by go_num, by omega, HN⟩, by simp [intOf]; omega⟩
            · have hqn : q = d.nons.length := by omega
              subst hqn
              have HF : Hid (∃ T' F, Ending.returned (.slice (some ⟨T, 0, none⟩) d.nons.length d.nons.length) = .returned (.slice (some ⟨T', 0, none⟩) d.nons.length d.nons.length) ∧ Below w.heap.size w wr ∧ MxF wr T' d.nons.length F ∧ ∀ a b, (F a b = true ↔ Tc (En true d) a b)) := by
                refine ⟨T, M, rfl, (HLOW.out wr HQ.out.1).1, hM, fun a b => ⟨hM1 a b, fun h => ?_⟩⟩
                induction h using Tc.ind with
                | one h => exact hM2 _ _ h
                | step h _ ih =>
                  rename_i a' b' c' _
                  refine hM3 b' ?_ a' c' (hM2 _ _ h) ih
                  obtain ⟨k', i, hk', _, hi, e2, _⟩ := h
                  have := HRI.out k' hk' i hi
                  omega
              clear hM hM1 hM2 hM3 HQ
              go_wp2_with fail
              go_ret
              exact HF.out
end Go.Proofs.YtjpjjfgdgieapaaDoor
