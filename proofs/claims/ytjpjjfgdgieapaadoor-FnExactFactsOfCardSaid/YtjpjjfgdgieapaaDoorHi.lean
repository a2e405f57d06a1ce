import Derived.Test.YtjpjjfgdgieapaaDoorHh
import Derived.Test.YtjpjjfgdgieapaaDoorSu
import Derived.Deep.CutRange
/-! The specification: l04Least. -/
namespace Go.Proofs.YtjpjjfgdgieapaaDoor
open Go.RowKit Go.Deep
set_option linter.unusedVariables false
set_option maxRecDepth 100000
set_option linter.unusedSimpArgs false

theorem irow_set {w : World} {b : Nat} {L : List Int} (h : IRow w b L) {x : Nat} (hx : x < L.length) (u : Int) : IRow (w.setCell ⟨b, x, none⟩ (.int .i64 u)) b (L.set x u) := by
  obtain ⟨c, h1, h2, h3⟩ := World.rowIs.set h x (.int .i64 u)
  refine ⟨c, h1, by simpa using h2, fun j hj => ?_⟩
  rw [List.length_set] at hj
  rw [h3 j hj]
  by_cases e : j = x
  · subst e; simp [List.getD_eq_getElem?_getD, hx]
  · have e2 : (L.set x u)[j]? = L[j]? := List.getElem?_set_ne (fun h : x = j => e h.symm)
    simp [List.getD_eq_getElem?_getD, e, e2]
/-- At first nothing is known, as far as j. -/
def iniM (n j : Nat) : List Int := (List.range n).map fun i => if i < j then -1 else 0
theorem iniM_len (n j : Nat) : (iniM n j).length = n := by simp [iniM]
theorem iniM_next {n j : Nat} (h : j < n) : (iniM n j).set j (-1) = iniM n (j + 1) := by
  apply List.ext_getElem
  · simp [iniM_len]
  · intro i h1 h2
    rw [iniM_len] at h2
    rw [List.getElem_set]
    by_cases e : j = i
    · subst e; simp [iniM]
    · rw [if_neg e]
      have : (i < j) ↔ (i < j + 1) := by omega
      simp [iniM, this]
theorem iniM_row (w : World) (n : Nat) : IRow (w.alloc (.cells (madeCells #[.int .i64 0] n) 3)) w.heap.size (iniM n 0) := by
  refine ⟨_, blk_alloc_new _ _, by rw [size_madeCells, iniM_len], fun i hi => ?_⟩
  rw [iniM_len] at hi
  have : (iniM n 0).getD i 0 = 0 := by simp [List.getD_eq_getElem?_getD, iniM, hi]
  have h1 : i % 1 = 0 := Nat.mod_one i
  show _ = some (Value.int .i64 ((iniM n 0).getD i 0))
  rw [this]
  simp [madeCells, hi, h1]
theorem iniM_mf {nt n x : Nat} : Mf nt (iniM n n) x = if x < nt then 1 else -1 := by
  unfold Mf
  by_cases h : x < nt
  · rw [if_pos h, if_pos h]
  · rw [if_neg h, if_neg h]
    by_cases h2 : x - nt < n
    · simp [List.getD_eq_getElem?_getD, iniM, h2]
    · simp [List.getD_eq_getElem?_getD, iniM, h2]
theorem iniM_snd (nt : Nat) (ps : List (Nat × List Nat)) (n : Nat) : Snd nt ps (Mf nt (iniM n n)) := by
  refine ⟨fun x => ?_, fun x => ?_, fun x hx => ?_, fun x hx => ?_⟩
  · rw [iniM_mf]; split <;> omega
  · rw [iniM_mf]; split <;> omega
  · rw [iniM_mf, if_pos hx]
  · rw [iniM_mf] at hx ⊢
    by_cases h : x < nt
    · rw [if_pos h]; exact Lens.term h Lens.nil
    · rw [if_neg h] at hx; omega
/-- The state of the search for the Least. -/
structure InvM (w : World) (d : Bn) (a0 a1 a3 : Option Addr) (c0 c1 c3 b : Nat) (M : List Int) (wr : World) : Prop where
  bel : Below w.heap.size w wr
  box : Box wr w.heap.size 38 [.slice a0 d.terms.length c0, .slice a1 d.nons.length c1, .int .i64 d.own, .slice a3 d.prods.length c3]
  row : IRow wr b M
  len : M.length = d.nons.length
theorem lnew_no {L : Nat → Int} {p : Nat × List Nat} (h : lnew L p = false) : lof L p.2 = -1 ∨ (¬ L p.1 = -1 ∧ L p.1 ≤ lof L p.2) := by
  unfold lnew at h
  simp only [Bool.not_eq_false', Bool.or_eq_true, beq_iff_eq, Bool.and_eq_true, bne_iff_ne, ne_eq, decide_eq_true_eq] at h
  exact h

set_option maxHeartbeats 12800000 in
theorem least_any {S : Nat → Prop} (d : Bn) (hok : Bok d) (v0 v1 v3 : Value) (w : World) (h : BLies w S d v0 v1 v3) :
    Calls Tryd.prog 19 #[.agg #[v0, v1, .int .i64 d.own, v3]] w fun e w' => ∃ b M, e = .returned (.slice (some ⟨b, 0, none⟩) d.nons.length d.nons.length) ∧ Below w.heap.size w w' ∧ w.heap.size ≤ b ∧ IRow w' b M ∧ M.length = d.nons.length ∧ Snd d.terms.length (bps d) (Mf d.terms.length M) ∧ ∀ p ∈ bps d, lnew (Mf d.terms.length M) p = false := by
  obtain ⟨a0, c0, a1, c1, a3', c3', rfl, rfl, e3⟩ := h.form
  obtain ⟨a3, c3, bp, op, sv, e3', hcp, hmp, hap, hcellp, hrp⟩ := h.prods
  subst e3'
  clear e3 h
  obtain ⟨h60, ⟨hn1, hn2⟩, h120, hleft, hlen, hright⟩ := hok
  have HLE := (show Hid _ from hleft); clear hleft
  have HLN := (show Hid _ from hlen); clear hlen
  have HRI := (show Hid _ from hright); clear hright
  have HCP := (show Hid _ from hcellp); clear hcellp
  have HAP := (show Hid _ from hap); clear hap
  have HRP := (show Hid _ from hrp); clear hrp
  unfold maxLen at hmp
  have hmk := fun w => run_makeInts d.nons.length (by omega) w
  have hbA : Below w.heap.size w ((w.alloc (.cells #[.slice a0 d.terms.length c0, .slice a1 d.nons.length c1, .int .i64 d.own, .slice a3 d.prods.length c3] 38)).alloc (.cells (madeCells #[.int .i64 0] d.nons.length) 3)) := (bel_alloc _ _).alloc (by simp) _
  have hrow := iniM_row (w.alloc (.cells #[.slice a0 d.terms.length c0, .slice a1 d.nons.length c1, .int .i64 d.own, .slice a3 d.prods.length c3] 38)) d.nons.length
  rw [World.size_alloc] at hrow
  have H0 : Hid (InvM w d a0 a1 a3 c0 c1 c3 (w.heap.size + 1) (iniM d.nons.length 0) ((w.alloc (.cells #[.slice a0 d.terms.length c0, .slice a1 d.nons.length c1, .int .i64 d.own, .slice a3 d.prods.length c3] 38)).alloc (.cells (madeCells #[.int .i64 0] d.nons.length) 3))) :=
    ⟨hbA, (Box.new w 38 [.slice a0 d.terms.length c0, .slice a1 d.nons.length c1, .int .i64 d.own, .slice a3 d.prods.length c3]).still (bel_alloc _ _), hrow, iniM_len _ _⟩
  have hU0 : (∀ (a b : List Int) (w' : World), InvM w d a0 a1 a3 c0 c1 c3 (w.heap.size + 1) a w' → InvM w d a0 a1 a3 c0 c1 c3 (w.heap.size + 1) b w' → wts a = wts b) := fun a b w' ha hb => by rw [IRow.uniq ha.row hb.row (by rw [ha.len, hb.len])]
  obtain ⟨toDo, htd⟩ := toDo_ex hU0
  have HU := (show Hid (∀ a w', InvM w d a0 a1 a3 c0 c1 c3 (w.heap.size + 1) a w' → toDo w' = wts a) from htd)
  clear hU0 htd hbA hrow
  go_enter Tryd.func19, Tryd.ntmps19
  go_wp2_with fail
  go_loopw [4] (fun i wr => ∃ j : Nat, i = .int .i64 j ∧ j ≤ d.nons.length ∧ Hid (InvM w d a0 a1 a3 c0 c1 c3 (w.heap.size + 1) (iniM d.nons.length j) wr)) (fun i _ => d.nons.length - (intOf i).toNat)
  case atStart => exact ⟨0, rfl, Nat.zero_le _, H0.out⟩
  case round =>
    obtain ⟨j, rfl, hj, HJ⟩ := hrel
    by_cases hlt : j < d.nons.length
    · have hlt' := hlt
      have hjl : j < (iniM d.nons.length j).length := by rw [iniM_len]; exact hlt
      have f0 : wr.frozen? ⟨w.heap.size + 1, j, none⟩ = false := World.rowIs.frozen HJ.out.row j
      obtain ⟨z0, d0⟩ : ∃ z, wr.cell? ⟨w.heap.size + 1, j, none⟩ = some (.int .i64 z) := ⟨_, irow_cell HJ.out.row hjl⟩
      have HN : Hid (InvM w d a0 a1 a3 c0 c1 c3 (w.heap.size + 1) (iniM d.nons.length (j + 1)) (wr.setCell ⟨w.heap.size + 1, j, none⟩ (.int .i64 (-1)))) := by
        have h1 := irow_set HJ.out.row hjl (-1)
        rw [iniM_next hlt'] at h1
        have hbt : Bt (w.heap.size + 1) wr (wr.setCell ⟨w.heap.size + 1, j, none⟩ (.int .i64 (-1))) := Bt.set _ _
        exact ⟨HJ.out.bel.trans (hbt.below (by omega) HJ.out.bel.size), HJ.out.box.keep (hbt.block _ HJ.out.box.lt (by omega)), h1, iniM_len _ _⟩
      clear HJ
      go_wp2_with fail
      exact ⟨⟨j + 1, by go_num, by omega, HN⟩, by simp [intOf]; omega⟩
    · have hje : j = d.nons.length := by omega
      subst hje
      have HS0 := (show Hid (Snd d.terms.length (bps d) (Mf d.terms.length (iniM d.nons.length d.nons.length))) from iniM_snd _ _ _)
      clear H0
      go_wp2_with fail
      go_loopw [5] (fun u wr => ∃ more : Bool, u = .bool more ∧ Hid (∃ M, InvM w d a0 a1 a3 c0 c1 c3 (w.heap.size + 1) M wr ∧ Snd d.terms.length (bps d) (Mf d.terms.length M) ∧ (more = false → ∀ k (hk : k < d.prods.length), lnew (Mf d.terms.length M) (pN d.prods[k]) = false))) (fun u wr => if boolOf u then toDo wr + 1 else 0)
      case atStart => exact ⟨true, rfl, _, HJ.out, HS0.out, fun h => by cases h⟩
      case round =>
        clear HJ HS0 hlt hj
        obtain ⟨more, rfl, HI⟩ := hrel
        obtain ⟨n0, hn0, hs0, hq0⟩ := HI.out
        cases more
        · have HF : Hid (∃ b M, Ending.returned (.slice (some ⟨w.heap.size + 1, 0, none⟩) d.nons.length d.nons.length) = .returned (.slice (some ⟨b, 0, none⟩) d.nons.length d.nons.length) ∧ Below w.heap.size w wr ∧ w.heap.size ≤ b ∧ IRow wr b M ∧ M.length = d.nons.length ∧ Snd d.terms.length (bps d) (Mf d.terms.length M) ∧ ∀ p ∈ bps d, lnew (Mf d.terms.length M) p = false) := by
            refine ⟨w.heap.size + 1, n0, rfl, hn0.bel, by omega, hn0.row, hn0.len, hs0, fun p hp => ?_⟩
            obtain ⟨q, hq1, rfl⟩ := List.mem_map.1 hp
            obtain ⟨k, hk, rfl⟩ := List.mem_iff_getElem.1 hq1
            exact hq0 rfl k hk
          clear hn0 hq0 HI hs0
          go_wp2_with fail
          go_ret
          exact HF.out
        · have hM : toDo wr = wts n0 := HU.out _ _ hn0
          have HM := (show Hid _ from hM); clear hM
          have HX0 := (show Hid _ from (⟨hn0, hs0⟩ : _ ∧ _)); clear hn0 hq0 HI hs0
          go_wp2_with fail
          go_loopw [5, 6] (fun u i wi => ∃ (ag : Bool) (j : Nat), u = .bool ag ∧ i = .int .i64 j ∧ j ≤ d.prods.length ∧ Hid (∃ M, InvM w d a0 a1 a3 c0 c1 c3 (w.heap.size + 1) M wi ∧ Snd d.terms.length (bps d) (Mf d.terms.length M) ∧ (ag = true → wts M < wts n0) ∧ (ag = false → M = n0 ∧ ∀ k (hk : k < d.prods.length), k < j → lnew (Mf d.terms.length n0) (pN d.prods[k]) = false))) (fun _ i _ => d.prods.length - (intOf i).toNat)
          case atStart => exact ⟨false, 0, rfl, rfl, Nat.zero_le _, n0, HX0.out.1, HX0.out.2, (fun h => by cases h), fun _ => ⟨rfl, fun k _ hk => absurd hk (Nat.not_lt_zero _)⟩⟩
          case round =>
            obtain ⟨ag, j, rfl, rfl, hj, HJ⟩ := hrel
            obtain ⟨M, hN, hsM, hx1, hx2⟩ := HJ.out
            have T3 : wr.cell? ⟨w.heap.size, 3, none⟩ = some (.slice a3 d.prods.length c3) := hN.box.cell 3 (by simp)
            by_cases hlt : j < d.prods.length
            · have hlt' := hlt
              obtain ⟨rfl, _⟩ := HAP.out (by omega)
              obtain ⟨q0, q1, _⟩ := HCP.out j hlt'
              have hri := HRP.out j hlt'
              obtain ⟨ai, ci, ei, _⟩ := hri.form
              rw [ei] at q1 hri
              obtain ⟨l1, l2⟩ := HLE.out j hlt'
              obtain ⟨y, hy⟩ : ∃ y : Nat, d.prods[j].left = ((d.terms.length + y : Nat) : Int) := ⟨(d.prods[j].left - d.terms.length).toNat, by omega⟩
              rw [hy] at l1 l2 q0
              have hyn : y < d.nons.length := by omega
              have hyM : y < M.length := by rw [hN.len]; exact hyn
              have hpn : pN d.prods[j] = (d.terms.length + y, nats d.prods[j].right) := by unfold pN; rw [hy]; rfl
              have hyy : (((d.terms.length + y : Nat) : Int) - d.terms.length) = (y : Int) := by omega
              have HIN : Hid (∀ i (hi : i < d.prods[j].right.length), 0 ≤ d.prods[j].right[i] ∧ d.prods[j].right[i] < ((d.terms.length + M.length : Nat) : Int)) := fun i hi => by rw [hN.len]; exact HRI.out j hlt' i hi
              have hr12 := HLN.out j hlt'
              have hmy : Mf d.terms.length M (d.terms.length + y) = M[y] := Mf_non hyM
              have HST := (show Hid (∀ w', Below wr.heap.size wr w' → InvM w d a0 a1 (some ⟨bp, op, none⟩) c0 c1 c3 (w.heap.size + 1) M w') from fun w' hb => ⟨bel_trans hN.bel hb, hN.box.still hb, irow_still hN.row hb, hN.len⟩)
              have HCELL := (show Hid (∀ w', Below wr.heap.size wr w' → w'.cell? ⟨w.heap.size, 0, none⟩ = some (.slice a0 d.terms.length c0) ∧ w'.cell? ⟨w.heap.size, 1, none⟩ = some (.slice a1 d.nons.length c1) ∧ w'.cell? ⟨w.heap.size, 2, none⟩ = some (.int .i64 d.own) ∧ w'.cell? ⟨w.heap.size, 3, none⟩ = some (.slice (some ⟨bp, op, none⟩) d.prods.length c3) ∧ w'.cell? ⟨bp, op + j * 5, none⟩ = some (.int .i64 ((d.terms.length + y : Nat) : Int)) ∧ w'.cell? ⟨bp, op + j * 5 + 1, none⟩ = some (.slice ai d.prods[j].right.length ci) ∧ w'.cell? ⟨w.heap.size + 1, y, none⟩ = some (.int .i64 M[y]) ∧ w'.frozen? ⟨w.heap.size + 1, y, none⟩ = false) from fun w' hb => by
                have hI := HST.out w' hb
                exact ⟨hI.box.cell 0 (by simp), hI.box.cell 1 (by simp), hI.box.cell 2 (by simp), hI.box.cell 3 (by simp), (hI.bel.cell (lt_of_cell q0)).trans q0, (hI.bel.cell (lt_of_cell q1)).trans q1, irow_cell hI.row hyM, World.rowIs.frozen hI.row y⟩)
              have hmlen : M.length ≤ 100 := by rw [hN.len]; exact hn2
              have HV2 := (show Hid (∀ w', Below wr.heap.size wr w' → Calls Tryd.prog 53 #[.agg #[.slice a0 d.terms.length c0, .slice a1 d.nons.length c1, .int .i64 d.own, .slice (some ⟨bp, op, none⟩) d.prods.length c3], .slice (some ⟨w.heap.size + 1, 0, none⟩) d.nons.length d.nons.length, .slice ai d.prods[j].right.length ci] w' fun e w'' => e = .returned (.int .i64 (lof (Mf d.terms.length M) (nats d.prods[j].right))) ∧ Below w'.heap.size w' w'') from fun w' hb => by
                have hI := HST.out w' hb
                have := sum_any d a0 a1 (some ⟨bp, op, none⟩) c0 c1 c3 d.nons.length d.prods.length (w.heap.size + 1) M d.prods[j].right _ w' h60 hmlen hI.row (hri.still hI.bel) HIN.out hsM.low hsM.top hr12
                rw [hN.len] at this
                exact this)
              have HV := (show Hid (∀ w', Calls Tryd.prog 49 #[.agg #[.slice a0 d.terms.length c0, .slice a1 d.nons.length c1, .int .i64 d.own, .slice (some ⟨bp, op, none⟩) d.prods.length c3], .int .i64 ((d.terms.length + y : Nat) : Int)] w' fun e w'' => e = .returned (.int .i64 (y : Int)) ∧ Below w'.heap.size w' w'') from fun w' => by
                have := non_any d a0 c0 (.slice a1 d.nons.length c1) (.slice (some ⟨bp, op, none⟩) d.prods.length c3) ((d.terms.length + y : Nat) : Int) w' (by omega) h60
                rw [hyy] at this
                exact this)
              obtain ⟨hR1, hR2⟩ := lof_range hsM.low (nats d.prods[j].right)
              have hlx := hsM.low (d.terms.length + y)
              rw [hmy] at hlx
              have HBAD := (show Hid _ from lnew_bad (L := Mf d.terms.length M) (p := (d.terms.length + y, nats d.prods[j].right)))
              have HOLD := (show Hid _ from lnew_old (L := Mf d.terms.length M) (p := (d.terms.length + y, nats d.prods[j].right)))
              have HYES := (show Hid _ from lnew_yes (L := Mf d.terms.length M) (p := (d.terms.length + y, nats d.prods[j].right)))
              dsimp only at HBAD HOLD HYES
              rw [hmy] at HOLD HYES
              have HSTEP : Hid (lnew (Mf d.terms.length M) (d.terms.length + y, nats d.prods[j].right) = true → ∀ w', Below wr.heap.size wr w' → InvM w d a0 a1 (some ⟨bp, op, none⟩) c0 c1 c3 (w.heap.size + 1) (M.set y (lof (Mf d.terms.length M) (nats d.prods[j].right))) (w'.setCell ⟨w.heap.size + 1, y, none⟩ (.int .i64 (lof (Mf d.terms.length M) (nats d.prods[j].right)))) ∧ Snd d.terms.length (bps d) (Mf d.terms.length (M.set y (lof (Mf d.terms.length M) (nats d.prods[j].right)))) ∧ wts (M.set y (lof (Mf d.terms.length M) (nats d.prods[j].right))) < wts M) := by
                intro hV w' hb
                have hI := HST.out w' hb
                have hbt : Bt (w.heap.size + 1) w' (w'.setCell ⟨w.heap.size + 1, y, none⟩ (.int .i64 (lof (Mf d.terms.length M) (nats d.prods[j].right)))) := Bt.set _ _
                refine ⟨⟨hI.bel.trans (hbt.below (by omega) hI.bel.size), hI.box.keep (hbt.block _ hI.box.lt (by omega)), irow_set hI.row hyM _, by rw [List.length_set]; exact hI.len⟩, ?_, ?_⟩
                · rw [Mf_set hyM]
                  have hm : (d.terms.length + y, nats d.prods[j].right) ∈ bps d := by rw [← hpn]; exact List.mem_map.2 ⟨_, List.getElem_mem hlt', rfl⟩
                  exact hsM.step hm (by show d.terms.length ≤ d.terms.length + y; omega) hV
                · refine wts_set hyM ?_
                  unfold lnew at hV
                  dsimp only at hV
                  rw [hmy] at hV
                  simp only [Bool.not_eq_true', Bool.or_eq_false_iff, beq_eq_false_iff_ne, ne_eq, Bool.and_eq_false_iff, bne_eq_false_iff_eq, decide_eq_false_iff_not] at hV
                  unfold wgt
                  rw [if_neg hV.1]
                  rcases hV.2 with e | e
                  · rw [if_pos e]; omega
                  · by_cases e' : M[y] = -1
                    · rw [if_pos e']; omega
                    · rw [if_neg e']; omega
              have HXX := (show Hid _ from (⟨hx1, hx2⟩ : _ ∧ _))
              have HSM := (show Hid _ from hsM)
              rw [← hpn] at HBAD HOLD HYES HSTEP
              have HPN := (show Hid (lnew (Mf d.terms.length M) (pN d.prods[j]) = false → ∀ w', Below wr.heap.size wr w' → ∃ M, InvM w d a0 a1 (some ⟨bp, op, none⟩) c0 c1 c3 (w.heap.size + 1) M w' ∧ Snd d.terms.length (bps d) (Mf d.terms.length M) ∧ (ag = true → wts M < wts n0) ∧ (ag = false → M = n0 ∧ ∀ k (hk : k < d.prods.length), k < j + 1 → lnew (Mf d.terms.length n0) (pN d.prods[k]) = false)) from fun hf w' hb => ⟨M, HST.out w' hb, hsM, hx1, fun h => ⟨(hx2 h).1, fun k hk hkj => by
                obtain ⟨e1, e2⟩ := hx2 h
                by_cases ek : k = j
                · subst ek
                  rw [← e1]
                  exact hf
                · exact e2 k hk (by omega)⟩⟩)
              have HPY := (show Hid (lnew (Mf d.terms.length M) (pN d.prods[j]) = true → ∀ w', Below wr.heap.size wr w' → ∃ M', InvM w d a0 a1 (some ⟨bp, op, none⟩) c0 c1 c3 (w.heap.size + 1) M' (w'.setCell ⟨w.heap.size + 1, y, none⟩ (.int .i64 (lof (Mf d.terms.length M) (nats d.prods[j].right)))) ∧ Snd d.terms.length (bps d) (Mf d.terms.length M') ∧ wts M' < wts n0) from fun hf w' hb => by
                obtain ⟨h1, h2, h3⟩ := HSTEP.out hf w' hb
                refine ⟨_, h1, h2, ?_⟩
                cases ag
                · rw [← (hx2 rfl).1]; exact h3
                · exact Nat.lt_trans h3 (hx1 rfl))
              clear hpn hri hx1 hx2 HJ hsM hN HSTEP HXX q0 q1 hmy l1 l2 hy hyy HIN ei
              generalize lof (Mf d.terms.length M) (nats d.prods[j].right) = SU at *
              generalize lnew (Mf d.terms.length M) (pN d.prods[j]) = LN at *
              generalize M[y] = My at *
              generalize d.prods[j].right.length = RL at *
              obtain ⟨T0, T1, T2, T3', q0, q1, r0, fr0⟩ := HCELL.out wr (Below.refl _ _)
              clear T3'
              go_upto_region 12 with fail
              go_cut [7] from 30 to 38 (fun v wx => v = .int .i64 SU ∧ Hid (Below wr.heap.size wr wx))
              case first =>
                have hdr := (Below.refl wr.heap.size wr).drew
                have HV3 := (show Hid _ from HV2.out wr.drew hdr)
                have HDR3 := (show Hid _ from hdr)
                clear hdr HV2 HPN HPY HST HCELL HLE HLN HRI HRP HCP HAP HU HM HX0 HV HBAD HOLD HYES HSM r0 fr0
                go_region_with (go_at_call 53; refine Calls.mono HV3.out ?_; rintro e w1 ⟨rfl, hb1⟩; have HBW := (show Hid _ from bel_trans HDR3.out hb1); clear hb1)
                all_goals
                  go_wp2_with fail
                  go_meet
                  exact ⟨rfl, HBW⟩
              case rest =>
                obtain ⟨rfl, HC⟩ := hcut
                clear T0 T1 T2 T3 q0 q1 r0 fr0
                obtain ⟨T0, T1, T2, T3, q0, q1, r0, fr0⟩ := HCELL.out wc HC.out
                go_upto_region 13 with fail
                go_cut [8] from 39 to 46 (fun v wx => v = .int .i64 y ∧ Hid (Below wr.heap.size wr wx))
                case first =>
                  have hdr := HC.out.drew
                  have HV3 := (show Hid _ from HV.out wc.drew)
                  have HDR3 := (show Hid _ from hdr)
                  clear hdr HV2 HPN HPY HST HCELL HLE HLN HRI HRP HCP HAP HU HM HX0 HV HBAD HOLD HYES HSM r0 fr0
                  go_region_with (go_at_call 49; refine Calls.mono HV3.out ?_; rintro e w1 ⟨rfl, hb1⟩; have HBW := (show Hid _ from bel_trans HDR3.out hb1); clear hb1)
                  all_goals
                    go_wp2_with fail
                    go_meet
                    exact ⟨rfl, HBW⟩
                case rest =>
                  obtain ⟨rfl, HC2⟩ := hcut
                  clear T0 T1 T2 T3 q0 q1 r0 fr0
                  obtain ⟨T0, T1, T2, T3, q0, q1, r0, fr0⟩ := HCELL.out wc HC2.out
                  by_cases e1 : SU = -1
                  · have hf := HBAD.out e1
                    have HN := (show Hid _ from HPN.out hf wc HC2.out)
                    subst e1
                    clear HV2 HPN HPY HST HCELL HBAD HOLD HYES HSM T0 T1 T2 T3 q0 q1 hR1 hR2 HV
                    go_wp2_with fail
                    exact ⟨⟨ag, j + 1, by rfl, by go_num, by omega, HN⟩, by simp [intOf]; omega⟩
                  · have k0 : 0 ≤ SU := by omega
                    by_cases e2 : ¬ My = -1 ∧ My ≤ SU
                    · have hf := HOLD.out e1 e2.1 e2.2
                      have HN := (show Hid _ from HPN.out hf wc HC2.out)
                      have k1 : ¬ My < 0 := by omega
                      have k2 : ¬ SU < My := by omega
                      clear HV2 HPN HPY HST HCELL HBAD HOLD HYES HSM T0 T1 T2 T3 q0 q1 HV e2
                      go_wp2_with fail
                      exact ⟨⟨ag, j + 1, by rfl, by go_num, by omega, HN⟩, by simp [intOf]; omega⟩
                    · have hf := HYES.out e1 (by by_cases h : My = -1; exact .inl h; exact .inr (fun k => e2 ⟨h, k⟩))
                      have HN := (show Hid _ from HPY.out hf wc HC2.out)
                      by_cases k1 : My < 0
                      · clear HV2 HPN HPY HST HCELL HBAD HOLD HYES HSM T0 T1 T2 T3 q0 q1 HV e2
                        go_wp2_with fail
                        exact ⟨⟨true, j + 1, by rfl, by go_num, by omega, by obtain ⟨z, h1, h2, h3⟩ := HN.out; exact ⟨z, h1, h2, (fun _ => h3), fun h => by cases h⟩⟩, by simp [intOf]; omega⟩
                      · have k2 : SU < My := by omega
                        clear HV2 HPN HPY HST HCELL HBAD HOLD HYES HSM T0 T1 T2 T3 q0 q1 HV e2
                        go_wp2_with fail
                        exact ⟨⟨true, j + 1, by rfl, by go_num, by omega, by obtain ⟨z, h1, h2, h3⟩ := HN.out; exact ⟨z, h1, h2, (fun _ => h3), fun h => by cases h⟩⟩, by simp [intOf]; omega⟩
            · have HN : Hid (∃ M, InvM w d a0 a1 a3 c0 c1 c3 (w.heap.size + 1) M wr ∧ Snd d.terms.length (bps d) (Mf d.terms.length M) ∧ (ag = false → ∀ k (hk : k < d.prods.length), lnew (Mf d.terms.length M) (pN d.prods[k]) = false)) := ⟨M, hN, hsM, fun h => by
                obtain ⟨e1, e2⟩ := hx2 h
                subst e1
                exact fun k hk => e2 k hk (by omega)⟩
              have HLT : Hid ((if boolOf (.bool ag) then toDo wr + 1 else 0) < wts n0 + 1) := by
                show (if boolOf (.bool ag) then toDo wr + 1 else 0) < wts n0 + 1
                cases ag
                · simp [boolOf]
                · have h1 := hx1 rfl
                  have h2 : toDo wr = wts M := HU.out _ _ hN
                  simp only [boolOf, if_true, h2]
                  omega
              clear hN hx1 hx2 HJ hsM
              go_wp2_with fail
              refine ⟨⟨ag, by rfl, HN⟩, ?_⟩
              have h1 := HLT.out
              have h2 := HM.out
              simp only [boolOf, if_true] at h1 ⊢
              omega
end Go.Proofs.YtjpjjfgdgieapaaDoor
