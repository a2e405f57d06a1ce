import Derived.Test.YtjpjjfgdgieapaaDoorQa
import Derived.Test.YtjpjjfgdgieapaaDoorSqa
/-! The specification: l04Follow, walked. -/
namespace Go.Proofs.YtjpjjfgdgieapaaDoor
open Go.RowKit Go.Deep
set_option linter.unusedVariables false
set_option maxRecDepth 100000
set_option linter.unusedSimpArgs false

set_option maxHeartbeats 25600000 in
theorem follow_any {S : Nat → Prop} (d : Bn) (hok : Bok d) (v0 v1 v3 : Value) (nb fb : Nat) (nl : List Bool) (Fb : List (List Int)) (w : World) (h : BLies w S d v0 v1 v3) (hnb : BRow w nb nl) (hnl : nl.length = d.nons.length) (hfb : FR w fb d.nons.length Fb) (hkb : OkF d nl Fb) (hB : KnB d nl Fb) :
    Calls Tryd.prog 20 #[.agg #[v0, v1, .int .i64 d.own, v3], .slice (some ⟨nb, 0, none⟩) d.nons.length d.nons.length, .slice (some ⟨fb, 0, none⟩) d.nons.length d.nons.length] w fun e w' => ∃ b F, e = .returned (.slice (some ⟨b, 0, none⟩) d.nons.length d.nons.length) ∧ Below w.heap.size w w' ∧ w.heap.size ≤ b ∧ FR w' b d.nons.length F ∧ OkO d nl F ∧ ∀ n y, y ∈ F.getD n [] ↔ Fol d (Nf d.terms.length nl) (Fst d (Nf d.terms.length nl)) n y := by
  obtain ⟨a0, c0, a1, c1, a3', c3', rfl, rfl, e3⟩ := h.form
  obtain ⟨a3, c3, bp, op, sv, e3', hcp, hmp, hap, hcellp, hrp⟩ := h.prods
  subst e3'
  clear e3 h
  have HOK := (show Hid (Bok d) from hok)
  obtain ⟨h60, ⟨hn1, hn2⟩, h120, hleft, hlen, hright⟩ := hok
  have HLE := (show Hid _ from hleft); clear hleft
  have HLN := (show Hid _ from hlen); clear hlen
  have HRI := (show Hid _ from hright); clear hright
  have HCP := (show Hid _ from hcellp); clear hcellp
  have HAP := (show Hid _ from hap); clear hap
  have HRP := (show Hid _ from hrp); clear hrp
  have HNB := (show Hid (BRow w nb nl) from hnb); clear hnb
  have HFB := (show Hid (FR w fb d.nons.length Fb) from hfb); clear hfb
  have HKB := (show Hid (KnB d nl Fb) from hB); clear hB
  have HF1 := (show Hid (∀ x, (Fb.getD x []).length ≤ 1000) from fun x => by have := hkb.ok.len (by omega) x; omega); clear hkb
  have HNL := (show Hid (nl.length = d.nons.length) from hnl); clear hnl
  unfold maxLen at hmp
  have hmk := fun w => run_makeRows29 d.nons.length (by omega) w
  have hbA : Below w.heap.size w ((w.alloc (.cells #[.slice a0 d.terms.length c0, .slice a1 d.nons.length c1, .int .i64 d.own, .slice a3 d.prods.length c3] 38)).alloc (.cells (madeCells #[.slice none 0 0] d.nons.length) 29)) := (bel_alloc _ _).alloc (by simp) _
  have hrow := nil_row (w.alloc (.cells #[.slice a0 d.terms.length c0, .slice a1 d.nons.length c1, .int .i64 d.own, .slice a3 d.prods.length c3] 38)) d.nons.length
  rw [World.size_alloc] at hrow
  obtain ⟨W1, hW1⟩ : ∃ W1, ((w.alloc (.cells #[.slice a0 d.terms.length c0, .slice a1 d.nons.length c1, .int .i64 d.own, .slice a3 d.prods.length c3] 38)).alloc (.cells (madeCells #[.slice none 0 0] d.nons.length) 29)) = W1 := ⟨_, rfl⟩
  have hs1 : W1.heap.size = w.heap.size + 1 + 1 := by rw [← hW1]; simp
  have T1 : (w.alloc (.cells #[.slice a0 d.terms.length c0, .slice a1 d.nons.length c1, .int .i64 d.own, .slice a3 d.prods.length c3] 38)).cell? ⟨w.heap.size, 1, none⟩ = some (.slice a1 d.nons.length c1) := (Box.new w 38 [.slice a0 d.terms.length c0, .slice a1 d.nons.length c1, .int .i64 d.own, .slice a3 d.prods.length c3]).cell 1 (by simp)
  have hbox1 : Box W1 w.heap.size 38 [.slice a0 d.terms.length c0, .slice a1 d.nons.length c1, .int .i64 d.own, .slice a3 d.prods.length c3] := by rw [← hW1]; exact (Box.new w 38 [.slice a0 d.terms.length c0, .slice a1 d.nons.length c1, .int .i64 d.own, .slice a3 d.prods.length c3]).still (bel_alloc _ _)
  have T0 : W1.cell? ⟨w.heap.size, 0, none⟩ = some (.slice a0 d.terms.length c0) := hbox1.cell 0 (by simp)
  rw [hW1] at hrow hbA
  obtain ⟨F0, hF0⟩ : ∃ F0, (List.replicate d.nons.length ([] : List Int)).set 0 [(d.terms.length : Int)] = F0 := ⟨_, rfl⟩
  have H0 : Hid (InvF w d a0 a1 a3 c0 c1 c3 (w.heap.size + 1) F0 ((W1.setCell ⟨w.heap.size + 1, 0, none⟩ (.slice (some ⟨w.heap.size + 1 + 1, 0, none⟩) 1 1)).alloc (.cells #[.int .i64 d.terms.length] 3))) := by
    rw [← World.setCell_alloc_past (w := W1) _ _ _ _ (by omega)]
    have hba := bel_alloc W1 (.cells #[.int .i64 d.terms.length] 3)
    have h2 := hrow.still hba
    have hbt : Bt (w.heap.size + 1) (W1.alloc (.cells #[.int .i64 d.terms.length] 3)) ((W1.alloc (.cells #[.int .i64 d.terms.length] 3)).setCell ⟨w.heap.size + 1, 0, none⟩ (.slice (some ⟨w.heap.size + 1 + 1, 0, none⟩) 1 1)) := Bt.set _ _
    have hb2 : Below w.heap.size w (W1.alloc (.cells #[.int .i64 d.terms.length] 3)) := bel_trans hbA hba
    have hi : Ints (W1.alloc (.cells #[.int .i64 d.terms.length] 3)) (fun c => c ≠ w.heap.size + 1) [(d.terms.length : Int)] (.slice (some ⟨w.heap.size + 1 + 1, 0, none⟩) 1 1) := by
      refine ⟨_, 1, w.heap.size + 1 + 1, 0, rfl, Nat.le_refl _, by unfold maxLen; omega, fun _ => ⟨rfl, by omega⟩, fun i hi => ?_⟩
      have e : i = 0 := by simpa using hi
      subst e
      rw [← hs1]
      exact al_box W1 _ 3 0 _ (by simp)
    refine ⟨hb2.trans (hbt.below (by omega) hb2.size), (hbox1.still hba).keep (hbt.block _ (hbox1.still hba).lt (by omega)), ?_⟩
    rw [← hF0]
    exact h2.set hn1 hi
  have hs0 : OkO d nl F0 := by
    have e : ∀ x, F0.getD x [] = if x = 0 then [(d.terms.length : Int)] else [] := fun x => by
      rw [← hF0]
      by_cases hx : x = 0
      · subst hx
        rw [if_pos rfl, getD_lt _ _ (by simp; omega)]
        simp
      · rw [if_neg hx]
        have h2 : 0 ≠ x := fun h => hx h.symm
        by_cases hx2 : x < d.nons.length
        · simp [List.getD_eq_getElem?_getD, List.getElem?_set_ne h2, List.getElem_set_ne h2, hx2]
        · simp [List.getD_eq_getElem?_getD, List.getElem?_set_ne h2, Nat.le_of_not_lt hx2]
    refine ⟨fun x => ?_, fun n y hy => ?_, ?_⟩
    · rw [e]
      split
      · exact ⟨by simp [Asc], fun y hy => by simp at hy; omega⟩
      · exact ⟨List.Pairwise.nil, fun y hy => by simp at hy⟩
    · rw [e] at hy
      split at hy
      · rename_i hn
        subst hn
        have : y = d.terms.length := by simpa using hy
        subst this
        exact (Fol.closed d _ _).1
      · simp at hy
    · rw [e, if_pos rfl]; simp
  have HK0 := (show Hid (OkO d nl F0) from hs0)
  have hU0 : (∀ (a b : List (List Int)) (w' : World), InvF w d a0 a1 a3 c0 c1 c3 (w.heap.size + 1) a w' → InvF w d a0 a1 a3 c0 c1 c3 (w.heap.size + 1) b w' → room2 a = room2 b) := fun a b w' ha hb => by rw [FR.uniq ha.row hb.row]
  obtain ⟨toDo, htd⟩ := toDo_ex hU0
  have HU := (show Hid (∀ a w', InvF w d a0 a1 a3 c0 c1 c3 (w.heap.size + 1) a w' → toDo w' = room2 a) from htd)
  have hba := bel_alloc W1 (.cells #[.int .i64 d.terms.length] 3)
  obtain ⟨vs0, hvs0, _⟩ := (hrow.still hba).ex
  obtain ⟨vs1, hvs1, _⟩ := hrow.ex
  have fr1 : (W1.alloc (.cells #[.int .i64 d.terms.length] 3)).frozen? ⟨w.heap.size + 1, 0, none⟩ = false := hvs0.frozen 0
  have fr2 : W1.frozen? ⟨w.heap.size + 1, 0, none⟩ = false := hvs1.frozen 0
  have cc1 : (W1.alloc (.cells #[.int .i64 d.terms.length] 3)).cell? ⟨w.heap.size + 1, 0, none⟩ = some (vs0 0) := hvs0.cell hn1
  have cc2 : W1.cell? ⟨w.heap.size + 1, 0, none⟩ = some (vs1 0) := hvs1.cell hn1
  have hn0 : 0 < d.nons.length := hn1
  clear hU0 htd hbA hrow hs0 hF0 hba hvs0 hvs1
  go_enter Tryd.func20, Tryd.ntmps20
  go_upto_region 2 with fail
  clear hW1
  go_wp2_with fail
  clear T0 T1 fr1 fr2 cc1 cc2
  go_loopw [8] (fun u wr => ∃ more : Bool, u = .bool more ∧ Hid (∃ F, InvF w d a0 a1 a3 c0 c1 c3 (w.heap.size + 1) F wr ∧ OkO d nl F ∧ (more = false → ∀ k (hk : k < d.prods.length) i, i < d.prods[k].right.length → qI d nl Fb F d.prods[k] i))) (fun u wr => if boolOf u then toDo wr + 1 else 0)
  case atStart => exact ⟨true, rfl, _, H0.out, HK0.out, fun h => by cases h⟩
  case round =>
    clear H0 HK0
    obtain ⟨more, rfl, HI⟩ := hrel
    obtain ⟨n0, hn0', hs0, hq0⟩ := HI.out
    cases more
    · have HF : Hid (∃ b F, Ending.returned (.slice (some ⟨w.heap.size + 1, 0, none⟩) d.nons.length d.nons.length) = .returned (.slice (some ⟨b, 0, none⟩) d.nons.length d.nons.length) ∧ Below w.heap.size w wr ∧ w.heap.size ≤ b ∧ FR wr b d.nons.length F ∧ OkO d nl F ∧ ∀ n y, y ∈ F.getD n [] ↔ Fol d (Nf d.terms.length nl) (Fst d (Nf d.terms.length nl)) n y) :=
        ⟨w.heap.size + 1, n0, rfl, hn0'.bel, by omega, hn0'.row, hs0, hs0.done HKB.out (hq0 rfl)⟩
      clear hn0' hq0 HI hs0
      go_wp2_with fail
      go_ret
      exact HF.out
    · have HM : Hid (toDo wr = room2 n0) := HU.out _ _ hn0'
      have HX0 := (show Hid (InvF w d a0 a1 a3 c0 c1 c3 (w.heap.size + 1) n0 wr ∧ OkO d nl n0) from ⟨hn0', hs0⟩); clear hn0' hq0 HI hs0
      go_wp2_with fail
      go_loopw [8, 9] (fun u i wi => ∃ (ag : Bool) (k : Nat), u = .bool ag ∧ i = .int .i64 k ∧ k ≤ d.prods.length ∧ Hid (∃ F, InvF w d a0 a1 a3 c0 c1 c3 (w.heap.size + 1) F wi ∧ OkO d nl F ∧ (ag = true → room2 F < room2 n0) ∧ (ag = false → F = n0 ∧ ∀ j (hj : j < d.prods.length), j < k → ∀ i, i < d.prods[j].right.length → qI d nl Fb n0 d.prods[j] i))) (fun _ i _ => d.prods.length - (intOf i).toNat)
      case atStart => exact ⟨false, 0, rfl, rfl, Nat.zero_le _, n0, HX0.out.1, HX0.out.2, (fun h => by cases h), fun _ => ⟨rfl, fun j _ hj => absurd hj (Nat.not_lt_zero _)⟩⟩
      case round =>
        obtain ⟨ag, k, rfl, rfl, hk, HJ⟩ := hrel
        obtain ⟨F, hN, hsF, hx1, hx2⟩ := HJ.out
        have T3 : wr.cell? ⟨w.heap.size, 3, none⟩ = some (.slice a3 d.prods.length c3) := hN.box.cell 3 (by simp)
        by_cases hlt : k < d.prods.length
        · have hlt' := hlt
          obtain ⟨rfl, _⟩ := HAP.out (by omega)
          obtain ⟨q0, q1, q2, q3, q4, _⟩ := HCP.out k hlt'
          have hri := HRP.out k hlt'
          obtain ⟨ai, ci, bi, oi, ei, hci, hmi, hai, hcelli⟩ := HRP.out k hlt'
          rw [ei] at q1 hri
          unfold maxLen at hmi
          have HAI := (show Hid _ from hai); clear hai
          have HCI := (show Hid _ from hcelli); clear hcelli
          obtain ⟨l1, l2⟩ := HLE.out k hlt'
          obtain ⟨l, hl⟩ : ∃ l : Nat, d.prods[k].left = (l : Int) := ⟨d.prods[k].left.toNat, by omega⟩
          obtain ⟨yl, hyl⟩ : ∃ yl : Nat, l = d.terms.length + yl := ⟨l - d.terms.length, by omega⟩
          have hyln : yl < d.nons.length := by omega
          have hl200 : l ≤ 200 := by omega
          have HLY := (show Hid (d.prods[k].left.toNat - d.terms.length = yl) from by show d.prods[k].left.toNat - d.terms.length = yl; omega)
          have hly : ((l : Int) - d.terms.length) = (yl : Int) := by omega
          have HVL := (show Hid (∀ w', Calls Tryd.prog 49 #[.agg #[.slice a0 d.terms.length c0, .slice a1 d.nons.length c1, .int .i64 d.own, .slice (some ⟨bp, op, none⟩) d.prods.length c3], .int .i64 (l : Nat)] w' fun e w'' => e = .returned (.int .i64 (yl : Int)) ∧ Below w'.heap.size w' w'') from fun w' => by
            have := non_any d a0 c0 (.slice a1 d.nons.length c1) (.slice (some ⟨bp, op, none⟩) d.prods.length c3) l w' (by omega) h60
            rw [hly] at this
            exact this)
          clear hly hyl
          rw [hl] at q0
          rw [← hN.bel.cell (lt_of_cell q0)] at q0
          rw [← hN.bel.cell (lt_of_cell q1)] at q1
          rw [← hN.bel.cell (lt_of_cell q2)] at q2
          rw [← hN.bel.cell (lt_of_cell q3)] at q3
          rw [← hN.bel.cell (lt_of_cell q4)] at q4
          have hr12 := HLN.out k hlt'
          have HIN := (show Hid (∀ i (hi : i < d.prods[k].right.length), 0 ≤ d.prods[k].right[i] ∧ d.prods[k].right[i] < ((d.terms.length + d.nons.length : Nat) : Int)) from HRI.out k hlt')
          have HRI2 := (show Hid (Ints w S d.prods[k].right (.slice ai d.prods[k].right.length ci)) from hri); clear hri
          obtain ⟨Qb, hQb⟩ : ∃ Q, wr.heap.size = Q := ⟨_, rfl⟩
          have hqw : w.heap.size + 1 < Qb := by
            obtain ⟨vs, h1, _⟩ := hN.row.ex
            have := World.rowIs.lt h1
            omega
          have hbx := Box.new wr 82 [.int .i64 l, .slice ai d.prods[k].right.length ci, .string d.prods[k].label, .int .i64 d.prods[k].lev, .int .i64 d.prods[k].asc]
          rw [hQb] at hbx
          have hbA := bel_alloc wr (.cells #[.int .i64 l, .slice ai d.prods[k].right.length ci, .string d.prods[k].label, .int .i64 d.prods[k].lev, .int .i64 d.prods[k].asc] 82)
          -- steps of this Prod
          have HSTEP := (show Hid (∀ F, OkO d nl F → F.length = d.nons.length → ∀ i (hi : i < d.prods[k].right.length), d.terms.length ≤ d.prods[k].right[i].toNat → OkO d nl (stepF F (d.prods[k].right[i].toNat - d.terms.length) (fO d nl Fb F d.prods[k] i)) ∧ (fresh (F.getD (d.prods[k].right[i].toNat - d.terms.length) []) (fO d nl Fb F d.prods[k] i) = true → room2 (stepF F (d.prods[k].right[i].toNat - d.terms.length) (fO d nl Fb F d.prods[k] i)) < room2 F) ∧ room2 (stepF F (d.prods[k].right[i].toNat - d.terms.length) (fO d nl Fb F d.prods[k] i)) ≤ room2 F ∧ (fresh (F.getD (d.prods[k].right[i].toNat - d.terms.length) []) (fO d nl Fb F d.prods[k] i) = false → stepF F (d.prods[k].right[i].toNat - d.terms.length) (fO d nl Fb F d.prods[k] i) = F)) from fun F hF hFl i hi ht => by
            have hb := HIN.out i hi
            have hnF : d.prods[k].right[i].toNat - d.terms.length < F.length := by rw [hFl]; omega
            have hfr : ∀ y' ∈ fO d nl Fb F d.prods[k] i, 0 ≤ y' ∧ y' ≤ (d.terms.length : Int) := fun y' hy' => (hF.fos HKB.out hlt' hi ht y' hy').rng HOK.out
            exact ⟨hF.step HOK.out HKB.out hlt' hi ht hnF, stepF_room (by omega) hF.ok hnF hfr, stepF_le (by omega) hF.ok hnF hfr, stepF_same hnF⟩)
          have HS3 : Hid (∃ F, InvF w d a0 a1 (some ⟨bp, op, none⟩) c0 c1 c3 (w.heap.size + 1) F (wr.alloc (.cells #[.int .i64 l, .slice ai d.prods[k].right.length ci, .string d.prods[k].label, .int .i64 d.prods[k].lev, .int .i64 d.prods[k].asc] 82)) ∧ Box (wr.alloc (.cells #[.int .i64 l, .slice ai d.prods[k].right.length ci, .string d.prods[k].label, .int .i64 d.prods[k].lev, .int .i64 d.prods[k].asc] 82)) Qb 82 [.int .i64 l, .slice ai d.prods[k].right.length ci, .string d.prods[k].label, .int .i64 d.prods[k].lev, .int .i64 d.prods[k].asc] ∧ OkO d nl F ∧ (ag = true → room2 F < room2 n0) ∧ (ag = false → F = n0 ∧ (∀ j (hj : j < d.prods.length), j < k → ∀ i, i < d.prods[j].right.length → qI d nl Fb n0 d.prods[j] i) ∧ ∀ i, i < d.prods[k].right.length → i < 0 → qI d nl Fb n0 d.prods[k] i)) :=
            ⟨F, ⟨bel_trans hN.bel hbA, hN.box.still hbA, hN.row.still hbA⟩, hbx, hsF, hx1, fun h => ⟨(hx2 h).1, (hx2 h).2, fun i _ h0 => absurd h0 (Nat.not_lt_zero _)⟩⟩
          have HROWE := (show Hid ((∀ j (hj : j < d.prods.length), j < k → ∀ i, i < d.prods[j].right.length → qI d nl Fb n0 d.prods[j] i) → (∀ i, i < d.prods[k].right.length → i < d.prods[k].right.length → qI d nl Fb n0 d.prods[k] i) → ∀ j (hj : j < d.prods.length), j < k + 1 → ∀ i, i < d.prods[j].right.length → qI d nl Fb n0 d.prods[j] i) from fun h1 h2 j hj hjk i hi => by
            by_cases ej : j = k
            · subst ej; exact h2 i hi hi
            · exact h1 j hj (by omega) i hi)
          generalize hALL : (∀ j (hj : j < d.prods.length), j < k → ∀ i, i < d.prods[j].right.length → qI d nl Fb n0 d.prods[j] i) = ALL at *
          clear hbA hbx hN hsF hx1 hx2 hl l1 l2 HJ ei hALL
          generalize d.prods[k] = P at *
          go_wp2_with fail
          go_loopw [8, 11] (fun u i wi => ∃ (ag : Bool) (m : Nat), u = .bool ag ∧ i = .int .i64 m ∧ m ≤ P.right.length ∧ Hid (∃ F, InvF w d a0 a1 (some ⟨bp, op, none⟩) c0 c1 c3 (w.heap.size + 1) F wi ∧ Box wi Qb 82 [.int .i64 l, .slice ai P.right.length ci, .string P.label, .int .i64 P.lev, .int .i64 P.asc] ∧ OkO d nl F ∧ (ag = true → room2 F < room2 n0) ∧ (ag = false → F = n0 ∧ ALL ∧ ∀ i, i < P.right.length → i < m → qI d nl Fb n0 P i))) (fun _ i _ => P.right.length - (intOf i).toNat)
          case atStart => exact ⟨ag, 0, rfl, rfl, Nat.zero_le _, HS3.out⟩
          case round =>
            clear T3 q0 q1 q2 q3 q4 HS3
            obtain ⟨ag, m, rfl, rfl, hm, HM⟩ := hrel
            obtain ⟨F, hN, hbx, hsF, hx1, hx2⟩ := HM.out
            have B1 : wr.cell? ⟨Qb, 1, none⟩ = some (.slice ai P.right.length ci) := hbx.cell 1 (by simp)
            by_cases hltm : m < P.right.length
            · have hltm' := hltm
              obtain ⟨rfl, _⟩ := HAI.out (by omega)
              obtain ⟨i1, i2⟩ := HIN.out m hltm'
              obtain ⟨x, hx⟩ : ∃ x : Nat, P.right[m] = x := ⟨P.right[m].toNat, by omega⟩
              have hci0 := HCI.out m hltm'
              rw [hx] at i1 i2 hci0
              have hx200 : x ≤ 200 := by omega
              have hST := HSTEP.out F hsF hN.row.len m hltm'
              rw [hx, Int.toNat_natCast] at hST
              have hqI : qI d nl Fb F P m ↔ (d.terms.length ≤ x → fresh (F.getD (x - d.terms.length) []) (fO d nl Fb F P m) = false) := by
                unfold qI
                constructor
                · intro h ht
                  have := h hltm'
                  rw [hx, Int.toNat_natCast] at this
                  exact this ht
                · intro h hi
                  rw [show P.right[m] = (x : Int) from hx, Int.toNat_natCast]
                  exact h
              have HCELL := (show Hid (∀ w', Below wr.heap.size wr w' → InvF w d a0 a1 (some ⟨bp, op, none⟩) c0 c1 c3 (w.heap.size + 1) F w' ∧ Box w' Qb 82 [.int .i64 l, .slice (some ⟨bi, oi, none⟩) P.right.length ci, .string P.label, .int .i64 P.lev, .int .i64 P.asc] ∧ w'.cell? ⟨bi, oi + m, none⟩ = some (.int .i64 x)) from fun w' hb => by
                have h1 := bel_trans hN.bel hb
                exact ⟨⟨h1, hN.box.still hb, hN.row.still hb⟩, hbx.still hb, (h1.cell (lt_of_cell hci0)).trans hci0⟩)
              have HBX := (show Hid (∀ w', Below wr.heap.size wr w' → w'.cell? ⟨w.heap.size, 0, none⟩ = some (.slice a0 d.terms.length c0) ∧ w'.cell? ⟨w.heap.size, 1, none⟩ = some (.slice a1 d.nons.length c1) ∧ w'.cell? ⟨w.heap.size, 2, none⟩ = some (.int .i64 d.own) ∧ w'.cell? ⟨w.heap.size, 3, none⟩ = some (.slice (some ⟨bp, op, none⟩) d.prods.length c3) ∧ w'.cell? ⟨Qb, 0, none⟩ = some (.int .i64 l) ∧ w'.cell? ⟨Qb, 1, none⟩ = some (.slice (some ⟨bi, oi, none⟩) P.right.length ci) ∧ w'.cell? ⟨bi, oi + m, none⟩ = some (.int .i64 x)) from fun w' hb => by
                obtain ⟨h1, h2, h3⟩ := HCELL.out w' hb
                exact ⟨h1.box.cell 0 (by simp), h1.box.cell 1 (by simp), h1.box.cell 2 (by simp), h1.box.cell 3 (by simp), h2.cell 0 (by simp), h2.cell 1 (by simp), h3⟩)
              have HV := (show Hid (∀ w', Calls Tryd.prog 49 #[.agg #[.slice a0 d.terms.length c0, .slice a1 d.nons.length c1, .int .i64 d.own, .slice (some ⟨bp, op, none⟩) d.prods.length c3], .int .i64 (x : Nat)] w' fun e w'' => e = .returned (.int .i64 ((x : Int) - d.terms.length)) ∧ Below w'.heap.size w' w'') from fun w' => non_any d a0 c0 (.slice a1 d.nons.length c1) (.slice (some ⟨bp, op, none⟩) d.prods.length c3) x w' (by omega) h60)
              go_upto_region 13 with fail
              obtain ⟨T0, T1, T2, T3, B0, _, X0⟩ := HBX.out wr (Below.refl _ _)
              go_cut [12] from 47 to 53 (fun v wx => v = .int .i64 ((x : Int) - d.terms.length) ∧ Hid (Below wr.heap.size wr wx))
              case first =>
                have HDR3 := (show Hid (Below wr.heap.size wr wr.drew) from (Below.refl wr.heap.size wr).drew)
                have HV3 := (show Hid _ from HV.out wr.drew)
                clear HBX HCELL HLE HLN HRI HRP HCP HAP HU HM HX0 HV HOK HNB HNL HFB HKB HF1 HSTEP HROWE HIN HRI2 HCI HAI hqI hST hN hsF hbx hx1 hx2
                go_region_with (go_at_call 49; refine Calls.mono HV3.out ?_; rintro e w1 ⟨rfl, hb1⟩; have HBW := (show Hid _ from bel_trans HDR3.out hb1); clear hb1)
                all_goals
                  go_wp2_with fail
                  go_meet
                  exact ⟨rfl, HBW⟩
              case rest =>
                obtain ⟨rfl, HC⟩ := hcut
                clear T0 T1 T2 T3 B0 B1 X0 HV
                by_cases ht : d.terms.length ≤ x
                · have hneg : decide ((x : Int) - d.terms.length < 0) = false := by simp; omega
                  have hST' := hST ht
                  obtain ⟨y, hy⟩ : ∃ y : Nat, x - d.terms.length = y := ⟨_, rfl⟩
                  have hyn : y < d.nons.length := by omega
                  have hxy : ((x : Int) - d.terms.length) = (y : Int) := by omega
                  rw [hy] at hST' hqI
                  obtain ⟨hok2, hro, hrl, hrs⟩ := hST'
                  have hF1 : ∀ x, (F.getD x []).length ≤ 61 := fun x => hsF.ok.len (by omega) x
                  have hfol := fo_len d.terms.length (Nf d.terms.length nl) (fun x => Fb.getD x []) HF1.out (P.right.drop (m + 1)) []
                  have HFL : Hid ((fo d.terms.length (Nf d.terms.length nl) (fun x => Fb.getD x []) [] (P.right.drop (m + 1))).1.length ≤ 12000) := by
                    show (fo d.terms.length (Nf d.terms.length nl) (fun x => Fb.getD x []) [] (P.right.drop (m + 1))).1.length ≤ 12000
                    simp only [List.length_nil, Nat.zero_add, List.length_drop] at hfol
                    omega
                  have HFO1 : Hid ((fo d.terms.length (Nf d.terms.length nl) (fun x => Fb.getD x []) [] (P.right.drop (m + 1))).2 = true → fO d nl Fb F P m = putAll (fo d.terms.length (Nf d.terms.length nl) (fun x => Fb.getD x []) [] (P.right.drop (m + 1))).1 (F.getD yl [])) := by
                    show (fo d.terms.length (Nf d.terms.length nl) (fun x => Fb.getD x []) [] (P.right.drop (m + 1))).2 = true → _
                    intro h
                    unfold fO
                    rw [if_pos h, HLY.out]
                  have HFO2 : Hid ((fo d.terms.length (Nf d.terms.length nl) (fun x => Fb.getD x []) [] (P.right.drop (m + 1))).2 = false → fO d nl Fb F P m = (fo d.terms.length (Nf d.terms.length nl) (fun x => Fb.getD x []) [] (P.right.drop (m + 1))).1) := by
                    show (fo d.terms.length (Nf d.terms.length nl) (fun x => Fb.getD x []) [] (P.right.drop (m + 1))).2 = false → _
                    intro h
                    unfold fO
                    rw [if_neg (by rw [h]; simp)]
                  have HFOL : Hid ((fO d nl Fb F P m).length ≤ 13000) := by
                    show (fO d nl Fb F P m).length ≤ 13000
                    have h1 := HFL.out
                    have h2 := putAll_len (F.getD yl []) (fo d.terms.length (Nf d.terms.length nl) (fun x => Fb.getD x []) [] (P.right.drop (m + 1))).1
                    have h3 := hF1 yl
                    cases e : (fo d.terms.length (Nf d.terms.length nl) (fun x => Fb.getD x []) [] (P.right.drop (m + 1))).2
                    · rw [HFO2.out e]; omega
                    · rw [HFO1.out e]; omega
                  have HROW := (show Hid (∀ w', Below wr.heap.size wr w' → ∀ n, n < d.nons.length → ∃ vy, w'.cell? ⟨w.heap.size + 1, n, none⟩ = some vy ∧ Ints w' (fun c => c ≠ w.heap.size + 1) (F.getD n []) vy) from fun w' hb n hn => by
                    obtain ⟨h1, _⟩ := HCELL.out w' hb
                    obtain ⟨vs, hvs, hrows⟩ := h1.row.ex
                    exact ⟨_, hvs.cell hn, hrows n hn⟩)
                  have HFY := (show Hid ((F.getD yl []).length ≤ 61) from hF1 yl)
                  have HA2 := (show Hid (∀ w', Below wr.heap.size wr w' → ∀ vd, Ints w S (P.right.drop (m + 1)) vd → Calls Tryd.prog 51 #[.agg #[.slice a0 d.terms.length c0, .slice a1 d.nons.length c1, .int .i64 d.own, .slice (some ⟨bp, op, none⟩) d.prods.length c3], .slice (some ⟨nb, 0, none⟩) d.nons.length d.nons.length, .slice (some ⟨fb, 0, none⟩) d.nons.length d.nons.length, vd] w' fun e w'' => ∃ v', e = .returned (.tuple #[v', .bool (fo d.terms.length (Nf d.terms.length nl) (fun x => Fb.getD x []) [] (P.right.drop (m + 1))).2]) ∧ Below w'.heap.size w' w'' ∧ Ints w'' (fun c => w'.heap.size ≤ c) (fo d.terms.length (Nf d.terms.length nl) (fun x => Fb.getD x []) [] (P.right.drop (m + 1))).1 v') from fun w' hb vd hvd => by
                    have hI := (HCELL.out w' hb).1
                    have := firstOf51 d a0 a1 (some ⟨bp, op, none⟩) c0 c1 c3 d.nons.length d.prods.length nb fb nl Fb (P.right.drop (m + 1)) vd w' h60 (by rw [HNL.out]; exact hn2) (BRow.still HNB.out hI.bel) (by rw [HNL.out]; exact FR.still HFB.out hI.bel) HF1.out (hvd.still hI.bel) (fun i hi => by rw [List.getElem_drop, HNL.out]; exact HIN.out _ (by simp at hi; omega)) (by simp; omega)
                    rw [HNL.out] at this
                    exact this)
                  have HPUT := (show Hid (∀ w' f', Below wr.heap.size wr w' → Ints w' (fun _ => True) (fO d nl Fb F P m) f' → ∃ vy, w'.cell? ⟨w.heap.size + 1, y, none⟩ = some vy ∧ Calls Tryd.prog 52 #[vy, f'] w' fun e w'' => ∃ v', e = .returned (.tuple #[v', .bool (fresh (F.getD y []) (fO d nl Fb F P m))]) ∧ Below w'.heap.size w' w'' ∧ w''.frozen? ⟨w.heap.size + 1, y, none⟩ = false ∧ (∃ vo, w''.cell? ⟨w.heap.size + 1, y, none⟩ = some vo) ∧ (InvF w d a0 a1 (some ⟨bp, op, none⟩) c0 c1 c3 (w.heap.size + 1) (stepF F y (fO d nl Fb F P m)) (w''.setCell ⟨w.heap.size + 1, y, none⟩ v') ∧ Box (w''.setCell ⟨w.heap.size + 1, y, none⟩ v') Qb 82 [.int .i64 l, .slice (some ⟨bi, oi, none⟩) P.right.length ci, .string P.label, .int .i64 P.lev, .int .i64 P.asc]) ∧ ∃ a c n, v' = .slice a n c) from fun w' f' hb hf => by
                    obtain ⟨hI, hB2, _⟩ := HCELL.out w' hb
                    obtain ⟨vy, hvy, hry⟩ := HROW.out w' hb y hyn
                    refine ⟨vy, hvy, Calls.mono (putAll52 (F.getD y []) (fO d nl Fb F P m) _ _ w' hry hf (by have := hF1 y; have := HFOL.out; omega)) ?_⟩
                    rintro e w2 ⟨v', rfl, hb2, hi2⟩
                    have hI2 : InvF w d a0 a1 (some ⟨bp, op, none⟩) c0 c1 c3 (w.heap.size + 1) F w2 := ⟨bel_trans hI.bel hb2, hI.box.still hb2, hI.row.still hb2⟩
                    obtain ⟨vs2, hvs2, _⟩ := hI2.row.ex
                    have hsz : w.heap.size + 1 < w'.heap.size := by
                      obtain ⟨vs, hvs, _⟩ := hI.row.ex
                      exact World.rowIs.lt hvs
                    have hbt : Bt (w.heap.size + 1) w2 (w2.setCell ⟨w.heap.size + 1, y, none⟩ v') := Bt.set _ _
                    obtain ⟨av, cv, ev, _⟩ := hi2.form
                    refine ⟨v', rfl, hb2, World.rowIs.frozen hvs2 y, ⟨_, hvs2.cell hyn⟩, ⟨⟨hI2.bel.trans (hbt.below (by omega) hI2.bel.size), hI2.box.keep (hbt.block _ hI2.box.lt (by omega)), ?_⟩, (hB2.still hb2).keep (hbt.block _ (hB2.still hb2).lt (by omega))⟩, ⟨av, cv, _, ev⟩⟩
                    exact hI2.row.set hyn (hi2.mono (fun c hc => by
                      rcases hc with hc | hc
                      · exact hc
                      · intro e; omega)))
                  have HEND := (show Hid (∀ wn, (InvF w d a0 a1 (some ⟨bp, op, none⟩) c0 c1 c3 (w.heap.size + 1) (stepF F y (fO d nl Fb F P m)) wn ∧ Box wn Qb 82 [.int .i64 l, .slice (some ⟨bi, oi, none⟩) P.right.length ci, .string P.label, .int .i64 P.lev, .int .i64 P.asc]) → ∃ F', InvF w d a0 a1 (some ⟨bp, op, none⟩) c0 c1 c3 (w.heap.size + 1) F' wn ∧ Box wn Qb 82 [.int .i64 l, .slice (some ⟨bi, oi, none⟩) P.right.length ci, .string P.label, .int .i64 P.lev, .int .i64 P.asc] ∧ OkO d nl F' ∧ ((ag || fresh (F.getD y []) (fO d nl Fb F P m)) = true → room2 F' < room2 n0) ∧ ((ag || fresh (F.getD y []) (fO d nl Fb F P m)) = false → F' = n0 ∧ ALL ∧ ∀ i, i < P.right.length → i < m + 1 → qI d nl Fb n0 P i)) from fun wn hI => by
                    refine ⟨_, hI.1, hI.2, hok2, fun h => ?_, fun h => ?_⟩
                    · cases ag
                      · obtain ⟨e1, _⟩ := hx2 rfl
                        rw [← e1]
                        exact hro (by simpa using h)
                      · exact Nat.lt_of_le_of_lt hrl (hx1 rfl)
                    · rw [Bool.or_eq_false_iff] at h
                      obtain ⟨rfl, h2⟩ := h
                      obtain ⟨e1, e2, e3⟩ := hx2 rfl
                      refine ⟨by rw [hrs h2, e1], e2, fun i hi him => ?_⟩
                      by_cases ei : i = m
                      · subst ei
                        rw [← e1]
                        exact hqI.2 (fun _ => h2)
                      · exact e3 i hi (by omega))
                  clear hST hqI hok2 hro hrl hrs hF1 hfol hN hsF hbx hx1 hx2 HM HFOL HSTEP HROWE HCELL
                  obtain ⟨FO, hFO⟩ : ∃ FO, fO d nl Fb F P m = FO := ⟨_, rfl⟩
                  rw [hFO] at HEND HPUT HFO1 HFO2
                  obtain ⟨FL, hFL⟩ : ∃ FL, (fo d.terms.length (Nf d.terms.length nl) (fun x => Fb.getD x []) [] (P.right.drop (m + 1))).1 = FL := ⟨_, rfl⟩
                  obtain ⟨FB, hFB⟩ : ∃ FB, (fo d.terms.length (Nf d.terms.length nl) (fun x => Fb.getD x []) [] (P.right.drop (m + 1))).2 = FB := ⟨_, rfl⟩
                  rw [hFL] at HA2 HFO1 HFO2 HFL
                  rw [hFB] at HA2 HFO1 HFO2
                  obtain ⟨NW, hNW⟩ : ∃ NW, fresh (F.getD y []) FO = NW := ⟨_, rfl⟩
                  rw [hNW] at HEND HPUT
                  clear hFO hFL hFB hNW hx
                  obtain ⟨Fy, hFy⟩ : ∃ Fy, F.getD yl [] = Fy := ⟨_, rfl⟩
                  have HROWL := (show Hid (∀ w', Below wr.heap.size wr w' → ∃ vy, w'.cell? ⟨w.heap.size + 1, yl, none⟩ = some vy ∧ Ints w' (fun c => c ≠ w.heap.size + 1) Fy vy) from fun w' hb => by
                    have := HROW.out w' hb yl hyln
                    rw [hFy] at this
                    exact this)
                  rw [hFy] at HFO1 HFY
                  clear HROW hFy
                  rw [hxy]
                  have hneg2 : decide ((y : Int) < 0) = false := by simp
                  clear hxy hneg hy
                  go_upto_region 15 with fail
                  obtain ⟨T0, T1, T2, T3, B0, B1, X0⟩ := HBX.out wc HC.out
                  go_cut [13, 14] from 56 to 67 (fun v u wx => ∃ fa fn fc, v = .slice fa fn fc ∧ u = .bool FB ∧ Hid (Below wr.heap.size wr wx ∧ Ints wx (fun _ => True) FL (.slice fa fn fc)))
                  case first =>
                    have HDR3 := (show Hid (Below wr.heap.size wr wc.drew) from HC.out.drew)
                    have hmlt : m < ci := by omega
                    have hcn0 : ¬ ci = 0 := by omega
                    have k1 : (0 : Int) ≤ (m : Int) := by omega
                    have k2 : (m : Int) ≤ (ci : Int) := by omega
                    have k3 : (m : Int) ≤ (P.right.length : Int) := by omega
                    have k4 : IntKind.i64.wrap ((m : Int) + 1) = (m : Int) + 1 := by simp [IntKind.wrap, IntKind.bits, IntKind.signed]; omega
                    have k5 : (0 : Int) ≤ (m : Int) + 1 := by omega
                    have k6 : (m : Int) + 1 ≤ (P.right.length : Int) := by omega
                    have k7 : (m : Int) + 1 ≤ (ci : Int) := by omega
                    have k8 : ((m : Int) + 1).toNat = m + 1 := by omega
                    clear HBX HLE HLN HRI HRP HCP HAP HU HX0 HVL HOK HNB HNL HFB HKB HF1 HIN HCI HAI HPUT HEND HFO1 HFO2 HFL HFY HROWL X0 B0 HLY HM
                    by_cases hcm : ci = m + 1
                    · have hpl : P.right.length = m + 1 := by omega
                      have HVD : Hid (∀ a c, c ≤ 1 → Ints w S (P.right.drop (m + 1)) (.slice a 0 c)) := fun a c hc => by
                        have e0 : P.right.drop (m + 1) = [] := List.drop_eq_nil_of_le (by omega)
                        rw [e0]
                        exact ⟨_, c, 0, 0, rfl, Nat.zero_le _, by unfold maxLen; omega, fun h => absurd h (Nat.not_lt_zero _), fun i hi => absurd hi (Nat.not_lt_zero _)⟩
                      have HVD2 : Hid (∀ a, Ints w S (P.right.drop (m + 1)) (.slice a (P.right.length - (m + 1)) (ci - (m + 1)))) := fun a => by
                        have e1 : P.right.length - (m + 1) = 0 := by omega
                        rw [e1]
                        exact HVD.out a _ (by omega)
                      have hpl0 : P.right.length - (m + 1) = 0 := by omega
                      have hcm0 : ci - (m + 1) = 0 := by omega
                      have HCM := (show Hid _ from hcm)
                      have hif : ∀ (a b : Option Addr), (if ci = m + 1 then a else b) = a := fun a b => if_pos hcm
                      clear hpl hcm HRI2
                      go_region_with (go_at_call 51; refine Calls.mono (HA2.out _ HDR3.out _ (by first | exact HVD.out _ _ (by omega) | exact HVD2.out _)) ?_; rintro e w1 ⟨vf, rfl, hb1, hi1⟩; have HBW := (show Hid _ from (⟨bel_trans HDR3.out hb1, hi1.mono (fun _ _ => trivial)⟩ : Below wr.heap.size wr w1 ∧ Ints w1 (fun _ => True) FL vf)); obtain ⟨af, cf, ef, _⟩ := hi1.form; subst ef; clear hb1 hi1)
                      all_goals
                        go_wp2_with fail
                        go_meet
                        exact ⟨_, _, _, rfl, rfl, HBW⟩
                    · have HVD := (show Hid _ from drop_ints (m := m + 1) HRI2.out (by omega) (by omega))
                      clear HRI2
                      go_region_with (go_at_call 51; refine Calls.mono (HA2.out _ HDR3.out _ HVD.out) ?_; rintro e w1 ⟨vf, rfl, hb1, hi1⟩; have HBW := (show Hid _ from (⟨bel_trans HDR3.out hb1, hi1.mono (fun _ _ => trivial)⟩ : Below wr.heap.size wr w1 ∧ Ints w1 (fun _ => True) FL vf)); obtain ⟨af, cf, ef, _⟩ := hi1.form; subst ef; clear hb1 hi1)
                      all_goals
                        go_wp2_with fail
                        go_meet
                        exact ⟨_, _, _, rfl, rfl, HBW⟩
                  case rest =>
                    obtain ⟨fa, fn, fc, rfl, rfl, HC2⟩ := hcut
                    clear T0 T1 T2 T3 B0 B1 X0 HA2 HC
                    cases FB
                    · have HI5 := (show Hid (Ints wc (fun _ => True) FO (.slice fa fn fc)) from by show Ints wc (fun _ => True) FO _; rw [HFO2.out rfl]; exact HC2.out.2)
                      obtain ⟨vy, hvy, hcall⟩ := HPUT.out wc _ HC2.out.1 HI5.out
                      have HCALL := (show Hid _ from hcall)
                      clear hcall HPUT HC2 HI5 HFO1 HFO2 HFL HFY HROWL HVL HBX
                      go_wp2_with fail
                      refine Calls.mono HCALL.out ?_
                      rintro e w9 ⟨v', rfl, hb9, fr2, ⟨vo, hvo⟩, hI2, av, cv, nv, rfl⟩
                      have HN := (show Hid _ from HEND.out _ hI2)
                      clear hI2 HEND HCALL hvy hb9
                      cases ag <;> cases NW
                      all_goals
                        go_wp2_with fail
                        exact ⟨⟨_, m + 1, by rfl, by go_num, by omega, HN⟩, by simp [intOf]; omega⟩
                    · obtain ⟨T0, T1, T2, T3, B0, B1, X0⟩ := HBX.out wc HC2.out.1
                      have HV5 := (show Hid _ from HVL.out wc)
                      clear HFO2 HVL
                      go_wp2_with fail
                      refine Calls.mono HV5.out ?_
                      rintro e w3 ⟨rfl, hb3⟩
                      have hb3' := bel_trans HC2.out.1 hb3
                      obtain ⟨vy3, hvy3, hi3⟩ := HROWL.out w3 hb3'
                      have HP := (show Hid _ from putAll52 FL Fy _ _ w3 (HC2.out.2.still hb3) hi3 (by have := HFL.out; have := HFY.out; omega))
                      have HB3 := (show Hid _ from hb3')
                      clear T0 T1 T2 T3 B0 B1 X0 hb3' hi3 hb3 HV5 HROWL HFL HFY HBX
                      generalize fresh FL Fy = fr0 at HP
                      go_wp2_with fail
                      refine Calls.mono HP.out ?_
                      rintro e w4 ⟨v4, rfl, hb4, hi4⟩
                      have HB4 := (show Hid (Below wr.heap.size wr w4) from bel_trans HB3.out hb4)
                      have HI5 := (show Hid (Ints w4 (fun _ => True) FO v4) from by show Ints w4 (fun _ => True) FO v4; rw [HFO1.out (by trivial)]; exact hi4.mono (fun _ _ => trivial))
                      obtain ⟨a4, c4, e4, _⟩ := HI5.out.form
                      subst e4
                      obtain ⟨n4, hn4⟩ : ∃ n4, FO.length = n4 := ⟨_, rfl⟩
                      rw [hn4] at HI5 ⊢
                      clear hb4 hi4 HP HB3 HC2 hvy3 hn4
                      obtain ⟨vy, hvy, hcall⟩ := HPUT.out w4 _ HB4.out HI5.out
                      have HCALL := (show Hid _ from hcall)
                      clear hcall HPUT HB4 HI5 HFO1
                      go_wp2_with fail
                      refine Calls.mono HCALL.out ?_
                      rintro e w9 ⟨v', rfl, hb9, fr2, ⟨vo, hvo⟩, hI2, av, cv, nv, rfl⟩
                      have HN := (show Hid _ from HEND.out _ hI2)
                      clear hI2 HEND HCALL hvy hb9
                      cases ag <;> cases NW
                      all_goals
                        go_wp2_with fail
                        exact ⟨⟨_, m + 1, by rfl, by go_num, by omega, HN⟩, by simp [intOf]; omega⟩

                · have hneg : decide ((x : Int) - d.terms.length < 0) = true := by simp; omega
                  have HN : Hid (∃ F, InvF w d a0 a1 (some ⟨bp, op, none⟩) c0 c1 c3 (w.heap.size + 1) F wc ∧ Box wc Qb 82 [.int .i64 l, .slice (some ⟨bi, oi, none⟩) P.right.length ci, .string P.label, .int .i64 P.lev, .int .i64 P.asc] ∧ OkO d nl F ∧ (ag = true → room2 F < room2 n0) ∧ (ag = false → F = n0 ∧ ALL ∧ ∀ i, i < P.right.length → i < m + 1 → qI d nl Fb n0 P i)) := by
                    obtain ⟨h1, h2, _⟩ := HCELL.out wc HC.out
                    refine ⟨F, h1, h2, hsF, hx1, fun h => ⟨(hx2 h).1, (hx2 h).2.1, fun i hi him => ?_⟩⟩
                    by_cases ei : i = m
                    · subst ei
                      rw [← (hx2 h).1]
                      exact hqI.2 (fun h => absurd h ht)
                    · exact (hx2 h).2.2 i hi (by omega)
                  clear hN hsF hbx hx1 hx2 HM hST hqI HCELL HBX HSTEP HROWE
                  go_wp2_with fail
                  exact ⟨⟨ag, m + 1, by rfl, by go_num, by omega, HN⟩, by simp [intOf]; omega⟩
            · have HN : Hid (∃ F, InvF w d a0 a1 (some ⟨bp, op, none⟩) c0 c1 c3 (w.heap.size + 1) F wr ∧ OkO d nl F ∧ (ag = true → room2 F < room2 n0) ∧ (ag = false → F = n0 ∧ ∀ j (hj : j < d.prods.length), j < k + 1 → ∀ i, i < d.prods[j].right.length → qI d nl Fb n0 d.prods[j] i)) := by
                have hmn : m = P.right.length := by omega
                refine ⟨F, hN, hsF, hx1, fun h => ⟨(hx2 h).1, HROWE.out (hx2 h).2.1 (fun i hi _ => (hx2 h).2.2 i hi (by omega))⟩⟩
              clear hN hsF hbx hx1 hx2 HM HSTEP HROWE
              go_wp2_with fail
              exact ⟨⟨ag, k + 1, by rfl, by go_num, by omega, HN⟩, by simp [intOf]; omega⟩
        · have HN : Hid (∃ F, InvF w d a0 a1 a3 c0 c1 c3 (w.heap.size + 1) F wr ∧ OkO d nl F ∧ (ag = false → ∀ k (hk : k < d.prods.length) i, i < d.prods[k].right.length → qI d nl Fb F d.prods[k] i)) := ⟨F, hN, hsF, fun h => by
            obtain ⟨e1, e2⟩ := hx2 h
            subst e1
            exact fun j hj => e2 j hj (by omega)⟩
          have HLT : Hid ((if boolOf (.bool ag) then toDo wr + 1 else 0) < room2 n0 + 1) := by
            show (if boolOf (.bool ag) then toDo wr + 1 else 0) < room2 n0 + 1
            cases ag
            · simp [boolOf]
            · have h1 := hx1 rfl
              have h2 : toDo wr = room2 F := HU.out _ _ hN
              simp only [boolOf, if_true, h2]
              omega
          clear hN hx1 hx2 HJ hsF
          go_wp2_with fail
          refine ⟨⟨ag, by rfl, HN⟩, ?_⟩
          have h1 := HLT.out
          have h2 := HM.out
          simp only [boolOf, if_true] at h1 ⊢
          omega
end Go.Proofs.YtjpjjfgdgieapaaDoor
