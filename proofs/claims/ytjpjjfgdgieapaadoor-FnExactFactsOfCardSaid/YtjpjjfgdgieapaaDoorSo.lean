import Derived.Test.YtjpjjfgdgieapaaDoorSn
import Derived.Deep.CutRange
/-! The specification: l04Null. -/
namespace Go.Proofs.YtjpjjfgdgieapaaDoor
open Go.RowKit Go.Deep
set_option linter.unusedVariables false
set_option maxRecDepth 100000
set_option linter.unusedSimpArgs false

theorem info4 : (Tryd.prog.info? 4).map (fun i => (i.zero, i.size, i.bytes)) = some (some (.bool false), 1, 1) := by kernel_rfl
theorem run_makeBools (n : Nat) (hn : n ≤ 1048576) (w : World) :
    (Instr.makeSlice 28 (.int .i64 (n : Int)) (.int .i64 (n : Int))).run Tryd.prog w = .ok (.slice (some ⟨w.heap.size, 0, none⟩) n n) (w.alloc (.cells (madeCells #[.bool false] n) 4)) := by
  obtain ⟨i, hi, hzz⟩ := Option.map_eq_some_iff.1 info4
  simp only [Prod.mk.injEq] at hzz
  obtain ⟨hz0, hz1, hz2⟩ := hzz
  have hr := run_make (P := Tryd.prog) w 28 4 i _ Tryd.underlying28 hi hz0 .i64 .i64 n n (by omega) (Int.le_refl _) (by rw [hz2]; omega) (by omega)
  simp only [Int.toNat_natCast, hz1, Nat.mul_one] at hr
  exact hr
theorem false_row (w : World) (n : Nat) : BRow (w.alloc (.cells (madeCells #[.bool false] n) 4)) w.heap.size (List.replicate n false) := by
  refine ⟨_, blk_alloc_new _ _, by rw [size_madeCells]; simp, fun i hi => ?_⟩
  simp at hi
  show _ = some (Value.bool ((List.replicate n false).getD i false))
  have e : (List.replicate n false).getD i false = false := by simp [List.getD_eq_getElem?_getD, hi]
  rw [e]
  have h1 : i % 1 = 0 := Nat.mod_one i
  simp [madeCells, hi, h1]
/-- How many are not yet known. -/
def cnt (nl : List Bool) : Nat := (nl.map fun b => if b then 0 else 1).sum
theorem cnt_set {nl : List Bool} {x : Nat} (h : x < nl.length) (hf : nl[x] = false) : cnt (nl.set x true) < cnt nl := by
  induction nl generalizing x with
  | nil => exact absurd h (Nat.not_lt_zero _)
  | cons y r ih =>
    cases x with
    | zero =>
      simp only [List.getElem_cons_zero] at hf
      subst hf
      simp [cnt]
    | succ x =>
      simp only [List.getElem_cons_succ] at hf
      have := ih (by simpa using h) hf
      unfold cnt at this ⊢
      simp only [List.set_cons_succ, List.map_cons, List.sum_cons]
      omega
theorem Nf_set {nt : Nat} {nl : List Bool} {y : Nat} (hy : y < nl.length) : Nf nt (nl.set y true) = nupd (Nf nt nl) (nt + y) := by
  funext x
  unfold Nf nupd
  by_cases e : x = nt + y
  · subst e
    rw [if_pos rfl]
    have e1 : nt + y - nt = y := by omega
    rw [e1]
    simp [List.getD_eq_getElem?_getD, hy]
  · rw [if_neg e]
    by_cases h : nt ≤ x
    · have e2 : (nl.set y true)[x - nt]? = nl[x - nt]? := List.getElem?_set_ne (fun h : y = x - nt => e (by omega))
      simp [List.getD_eq_getElem?_getD, e2]
    · simp [h]
/-- The state of the search for the empty word. -/
structure InvN (w : World) (d : Bn) (a0 a1 a3 : Option Addr) (c0 c1 c3 b : Nat) (nl : List Bool) (wr : World) : Prop where
  bel : Below w.heap.size w wr
  box : Box wr w.heap.size 38 [.slice a0 d.terms.length c0, .slice a1 d.nons.length c1, .int .i64 d.own, .slice a3 d.prods.length c3]
  row : BRow wr b nl
  len : nl.length = d.nons.length
  snd : Nsd d.terms.length (bps d) (Nf d.terms.length nl)
/-- A Prod says nothing new. -/
def quN (nt : Nat) (nl : List Bool) (p : Nat × List Nat) : Prop := nall (Nf nt nl) p.2 = true → Nf nt nl p.1 = true

set_option maxHeartbeats 12800000 in
theorem null_any {S : Nat → Prop} (d : Bn) (hok : Bok d) (v0 v1 v3 : Value) (w : World) (h : BLies w S d v0 v1 v3) :
    Calls Tryd.prog 17 #[.agg #[v0, v1, .int .i64 d.own, v3]] w fun e w' => ∃ b nl, e = .returned (.slice (some ⟨b, 0, none⟩) nl.length nl.length) ∧ Below w.heap.size w w' ∧ w.heap.size ≤ b ∧ BRow w' b nl ∧ nl.length = d.nons.length ∧ Nsd d.terms.length (bps d) (Nf d.terms.length nl) ∧ ∀ p ∈ bps d, quN d.terms.length nl p := by
  obtain ⟨a0, c0, a1, c1, a3', c3', rfl, rfl, e3⟩ := h.form
  obtain ⟨a3, c3, bp, op, sv, e3', hcp, hmp, hap, hcellp, hrp⟩ := h.prods
  subst e3'
  clear e3 h
  obtain ⟨h60, ⟨hn1, hn2⟩, h120, hleft, hlen, hright⟩ := hok
  have HLE := (show Hid _ from hleft); clear hleft
  have HLN := (show Hid _ from hlen); clear hlen
  have HRI := (show Hid _ from hright); clear hright
  have HCP := (show Hid _ from hcellp); clear hcellp
  have HAP := (show Hid _ from hap); clear hap
  have HRP := (show Hid _ from hrp); clear hrp
  unfold maxLen at hmp
  have hmk := fun w => run_makeBools d.nons.length (by omega) w
  have hbA : Below w.heap.size w ((w.alloc (.cells #[.slice a0 d.terms.length c0, .slice a1 d.nons.length c1, .int .i64 d.own, .slice a3 d.prods.length c3] 38)).alloc (.cells (madeCells #[.bool false] d.nons.length) 4)) := (bel_alloc _ _).alloc (by simp) _
  have hrow := false_row (w.alloc (.cells #[.slice a0 d.terms.length c0, .slice a1 d.nons.length c1, .int .i64 d.own, .slice a3 d.prods.length c3] 38)) d.nons.length
  rw [World.size_alloc] at hrow
  have H0 : Hid (InvN w d a0 a1 a3 c0 c1 c3 (w.heap.size + 1) (List.replicate d.nons.length false) ((w.alloc (.cells #[.slice a0 d.terms.length c0, .slice a1 d.nons.length c1, .int .i64 d.own, .slice a3 d.prods.length c3] 38)).alloc (.cells (madeCells #[.bool false] d.nons.length) 4))) :=
    ⟨hbA, (Box.new w 38 [.slice a0 d.terms.length c0, .slice a1 d.nons.length c1, .int .i64 d.own, .slice a3 d.prods.length c3]).still (bel_alloc _ _), hrow, by simp, ⟨fun x hx => by
      unfold Nf at hx
      simp [List.getD_eq_getElem?_getD] at hx
      obtain ⟨_, hx⟩ := hx
      by_cases hq : x - d.terms.length < d.nons.length
      · simp [hq] at hx
      · simp [Nat.le_of_not_lt hq] at hx⟩⟩
  have hU0 : (∀ (a b : List Bool) (w' : World), InvN w d a0 a1 a3 c0 c1 c3 (w.heap.size + 1) a w' → InvN w d a0 a1 a3 c0 c1 c3 (w.heap.size + 1) b w' → cnt a = cnt b) := fun a b w' ha hb => by rw [BRow.uniq ha.row hb.row (by rw [ha.len, hb.len])]
  obtain ⟨toDo, htd⟩ := toDo_ex hU0
  have HU := (show Hid (∀ a w', InvN w d a0 a1 a3 c0 c1 c3 (w.heap.size + 1) a w' → toDo w' = cnt a) from htd)
  clear hU0 htd
  clear hbA hrow
  go_enter Tryd.func17, Tryd.ntmps17
  go_wp2_with fail
  go_loopw [4] (fun u wr => ∃ more : Bool, u = .bool more ∧ Hid (∃ nl, InvN w d a0 a1 a3 c0 c1 c3 (w.heap.size + 1) nl wr ∧ (more = false → ∀ k (hk : k < d.prods.length), quN d.terms.length nl (pN d.prods[k])))) (fun u wr => if boolOf u then toDo wr + 1 else 0)
  case atStart => exact ⟨true, rfl, _, H0.out, fun h => by cases h⟩
  case round =>
    obtain ⟨more, rfl, HI⟩ := hrel
    obtain ⟨n0, hn0, hq0⟩ := HI.out
    cases more
    · have HF : Hid (∃ b nl, Ending.returned (.slice (some ⟨w.heap.size + 1, 0, none⟩) d.nons.length d.nons.length) = .returned (.slice (some ⟨b, 0, none⟩) nl.length nl.length) ∧ Below w.heap.size w wr ∧ w.heap.size ≤ b ∧ BRow wr b nl ∧ nl.length = d.nons.length ∧ Nsd d.terms.length (bps d) (Nf d.terms.length nl) ∧ ∀ p ∈ bps d, quN d.terms.length nl p) := by
        refine ⟨w.heap.size + 1, n0, by rw [hn0.len], hn0.bel, by omega, hn0.row, hn0.len, hn0.snd, fun p hp => ?_⟩
        obtain ⟨q, hq1, rfl⟩ := List.mem_map.1 hp
        obtain ⟨k, hk, rfl⟩ := List.mem_iff_getElem.1 hq1
        exact hq0 rfl k hk
      clear hn0 hq0 HI
      go_wp2_with fail
      go_ret
      exact HF.out
    · have hM : toDo wr = cnt n0 := HU.out _ _ hn0
      have HM := (show Hid _ from hM); clear hM
      have HX0 := (show Hid _ from hn0); clear hn0 hq0 HI
      go_wp2_with fail
      go_loopw [4, 5] (fun u i wi => ∃ (ag : Bool) (j : Nat), u = .bool ag ∧ i = .int .i64 j ∧ j ≤ d.prods.length ∧ Hid (∃ nl, InvN w d a0 a1 a3 c0 c1 c3 (w.heap.size + 1) nl wi ∧ (ag = true → cnt nl < cnt n0) ∧ (ag = false → nl = n0 ∧ ∀ k (hk : k < d.prods.length), k < j → quN d.terms.length n0 (pN d.prods[k])))) (fun _ i _ => d.prods.length - (intOf i).toNat)
      case atStart => exact ⟨false, 0, rfl, rfl, Nat.zero_le _, n0, HX0.out, (fun h => by cases h), fun _ => ⟨rfl, fun k _ hk => absurd hk (Nat.not_lt_zero _)⟩⟩
      case round =>
        obtain ⟨ag, j, rfl, rfl, hj, HJ⟩ := hrel
        obtain ⟨nl, hN, hx1, hx2⟩ := HJ.out
        have T3 : wr.cell? ⟨w.heap.size, 3, none⟩ = some (.slice a3 d.prods.length c3) := hN.box.cell 3 (by simp)
        by_cases hlt : j < d.prods.length
        · have hlt' := hlt
          obtain ⟨rfl, _⟩ := HAP.out (by omega)
          obtain ⟨q0, q1, _⟩ := HCP.out j hlt'
          have hri := HRP.out j hlt'
          obtain ⟨ai, ci, ei, _⟩ := hri.form
          rw [ei] at q1 hri
          obtain ⟨l1, l2⟩ := HLE.out j hlt'
          obtain ⟨l, hl⟩ : ∃ l : Nat, d.prods[j].left = l := ⟨d.prods[j].left.toNat, by omega⟩
          rw [hl] at l1 l2 q0
          have hpn : pN d.prods[j] = (l, nats d.prods[j].right) := by unfold pN; rw [hl]; rfl
          have hyl : l - d.terms.length < nl.length := by rw [hN.len]; omega
          have hy : ((l : Int) - d.terms.length) = ((l - d.terms.length : Nat) : Int) := by omega
          have hnf : Nf d.terms.length nl l = nl[l - d.terms.length] := by unfold Nf; rw [decide_eq_true (by omega), Bool.true_and, getD_lt _ _ hyl]
          have T0 : wr.cell? ⟨w.heap.size, 0, none⟩ = some (.slice a0 d.terms.length c0) := hN.box.cell 0 (by simp)
          have T1 : wr.cell? ⟨w.heap.size, 1, none⟩ = some (.slice a1 d.nons.length c1) := hN.box.cell 1 (by simp)
          have T2 : wr.cell? ⟨w.heap.size, 2, none⟩ = some (.int .i64 d.own) := hN.box.cell 2 (by simp)
          have HV := (show Hid _ from non_any d a0 c0 (.slice a1 d.nons.length c1) (.slice (some ⟨bp, op, none⟩) d.prods.length c3) l wr.drew (by omega) h60)
          rw [hy] at HV
          have hin : ∀ i (hi : i < d.prods[j].right.length), 0 ≤ d.prods[j].right[i] ∧ d.prods[j].right[i] < ((d.terms.length + nl.length : Nat) : Int) := fun i hi => by rw [hN.len]; exact HRI.out j hlt' i hi
          have hr12 := HLN.out j hlt'
          have HQ0 := (show Hid _ from q0)
          have HQ1 := (show Hid _ from q1)
          rw [← hN.bel.cell (lt_of_cell q0)] at q0
          have hst : ∀ w', Below wr.heap.size wr w' → InvN w d a0 a1 (some ⟨bp, op, none⟩) c0 c1 c3 (w.heap.size + 1) nl w' := fun w' hb => ⟨bel_trans hN.bel hb, hN.box.still hb, hN.row.still hb, hN.len, hN.snd⟩
          have HST := (show Hid _ from hst)
          have hdr := (Below.refl wr.heap.size wr).drew
          have HDR := (show Hid _ from hdr)
          have HXX := (show Hid _ from (⟨hx1, hx2⟩ : _ ∧ _))
          clear hst hdr hx1 hx2 HJ q1 hy
          obtain ⟨y, hyy⟩ : ∃ y, y = l - d.terms.length := ⟨_, rfl⟩
          rw [← hyy] at HV
          have hyn : y < d.nons.length := by rw [hyy, ← hN.len]; exact hyl
          have hlnt : l = d.terms.length + y := by omega
          have hyl2 : y < nl.length := by rw [hyy]; exact hyl
          have hnl2 : nl[l - d.terms.length] = nl[y] := by congr 1; exact hyy.symm
          rw [hnl2] at hnf
          have HLNT := (show Hid _ from hlnt)
          clear hnl2 hyl hyy hl hlnt
          have hnn : nl.length = d.nons.length := hN.len
          have hrow := fun (w' : World) (hb : Below wr.heap.size wr w') => (hN.row.still hb).cell hyl2
          have HROW := (show Hid _ from hrow); clear hrow hN
          have HV2 := (show Hid _ from fun (w' : World) (hb : Below wr.heap.size wr w') => allNull_any d a0 a1 (some ⟨bp, op, none⟩) c0 c1 c3 d.nons.length d.prods.length (w.heap.size + 1) nl d.prods[j].right (.slice ai d.prods[j].right.length ci) w' h60 (by rw [hnn]; omega) (HST.out w' hb).row (hri.still (HST.out w' hb).bel) hin (by omega))
          rw [hnn] at HV2
          generalize hB2 : nall (Nf d.terms.length nl) (nats d.prods[j].right) = B2 at HV2
          have HCELL := (show Hid _ from fun (w' : World) (hb : Below wr.heap.size wr w') => (⟨(HST.out w' hb).box.cell 0 (by simp), (HST.out w' hb).box.cell 1 (by simp), (HST.out w' hb).box.cell 2 (by simp), (HST.out w' hb).box.cell 3 (by simp), ((HST.out w' hb).bel.cell (lt_of_cell HQ0.out)).trans HQ0.out, ((HST.out w' hb).bel.cell (lt_of_cell HQ1.out)).trans HQ1.out, World.rowIs.frozen (HST.out w' hb).row y⟩ : w'.cell? ⟨w.heap.size, 0, none⟩ = some (.slice a0 d.terms.length c0) ∧ w'.cell? ⟨w.heap.size, 1, none⟩ = some (.slice a1 d.nons.length c1) ∧ w'.cell? ⟨w.heap.size, 2, none⟩ = some (.int .i64 d.own) ∧ w'.cell? ⟨w.heap.size, 3, none⟩ = some (.slice (some ⟨bp, op, none⟩) d.prods.length c3) ∧ w'.cell? ⟨bp, op + j * 5, none⟩ = some (.int .i64 l) ∧ w'.cell? ⟨bp, op + j * 5 + 1, none⟩ = some (.slice ai d.prods[j].right.length ci) ∧ w'.frozen? ⟨w.heap.size + 1, y, none⟩ = false))
          have HP : Hid (quN d.terms.length nl (pN d.prods[j]) ↔ ¬ ((!nl[y]) && B2) = true) := by
            show quN d.terms.length nl (pN d.prods[j]) ↔ ¬ ((!nl[y]) && B2) = true
            unfold quN
            rw [hpn]
            show (nall (Nf d.terms.length nl) (nats d.prods[j].right) = true → Nf d.terms.length nl l = true) ↔ _
            rw [hB2, hnf]
            cases B2 <;> cases nl[y] <;> simp
          have HSTEP : Hid ((!nl[y] && B2) = true → ∀ w', Below wr.heap.size wr w' → InvN w d a0 a1 (some ⟨bp, op, none⟩) c0 c1 c3 (w.heap.size + 1) (nl.set y true) (w'.setCell ⟨w.heap.size + 1, y, none⟩ (.bool true)) ∧ cnt (nl.set y true) < cnt nl) := by
            intro hV w' hb
            have hI := HST.out w' hb
            rw [Bool.and_eq_true] at hV
            have hbt : Bt (w.heap.size + 1) w' (w'.setCell ⟨w.heap.size + 1, y, none⟩ (.bool true)) := Bt.set _ _
            refine ⟨⟨hI.bel.trans (hbt.below (by omega) hI.bel.size), hI.box.past (q := w.heap.size + 1) (by omega), hI.row.set hyl2 true, by rw [List.length_set]; exact hI.len, ?_⟩, cnt_set hyl2 (by simpa using hV.1)⟩
            rw [Nf_set hyl2]
            have hm : (l, nats d.prods[j].right) ∈ bps d := by rw [← hpn]; exact pN_mem hlt'
            have := hI.snd.step hm (by show d.terms.length ≤ l; omega) (by show nall (Nf d.terms.length nl) (nats d.prods[j].right) = true; rw [hB2]; exact hV.2)
            have e9 : (l, nats d.prods[j].right).1 = d.terms.length + y := HLNT.out
            rw [e9] at this
            exact this
          clear hnf hpn hin hri hB2 HQ0 HQ1 HLNT
          generalize nl[y] = BY at *
          generalize d.prods[j].right.length = RL at *
          clear hyl2
          go_upto_region 8 with fail
          go_cut [6] from 19 to 26 (fun v wx => v = .int .i64 y ∧ Hid (Below wr.heap.size wr wx))
          case first =>
            clear HV2 HP HSTEP HST HROW HXX HCELL HLE HLN HRI HRP HCP HAP HU HM HX0 H0 hr12 hnn
            go_region_with (go_at_call 49; refine Calls.mono HV.out ?_; rintro e w1 ⟨rfl, hb1⟩; have HBW := (show Hid _ from bel_trans HDR.out hb1); clear hb1)
            all_goals
              go_wp2_with fail
              go_meet
              exact ⟨rfl, HBW⟩
          case rest =>
            obtain ⟨rfl, HC⟩ := hcut
            clear T0 T1 T2 T3 q0 HV
            obtain ⟨T0, T1, T2, T3, q0, q1, _⟩ := HCELL.out wc HC.out
            have r0 := HROW.out wc HC.out
            go_upto_region 9 with fail
            go_cut [42] from 27 to 41 (fun v wx => v = .bool (!BY && B2) ∧ Hid (Below wr.heap.size wr wx))
            case first =>
              have hdr := HC.out.drew
              have HV3 := (show Hid _ from HV2.out wc.drew hdr)
              have HDR3 := (show Hid _ from hdr)
              clear hdr HV2 HP HSTEP HST HROW HXX HCELL HLE HLN HRI HRP HCP HAP HU HM HX0 H0 hr12 hnn
              cases BY
              · go_region_with (go_at_call 50; refine Calls.mono HV3.out ?_; rintro e w1 ⟨rfl, hb1⟩; have HBW := (show Hid _ from bel_trans HDR3.out hb1); clear hb1)
                all_goals
                  go_wp2_with fail
                  go_meet
                  exact ⟨rfl, HBW⟩
              · go_quiet (fail)
                go_wp2_with fail
                go_meet
                exact ⟨rfl, HC.out.trans (bel_drewN _ _ _)⟩
            case rest =>
              obtain ⟨rfl, HC2⟩ := hcut
              have r1 := HROW.out _ HC2.out
              have f1 := (HCELL.out _ HC2.out).2.2.2.2.2.2
              cases hV : (!BY && B2)
              · have HN : Hid (∃ nl, InvN w d a0 a1 (some ⟨bp, op, none⟩) c0 c1 c3 (w.heap.size + 1) nl _ ∧ (ag = true → cnt nl < cnt n0) ∧ (ag = false → nl = n0 ∧ ∀ k (hk : k < d.prods.length), k < j + 1 → quN d.terms.length n0 (pN d.prods[k]))) := ⟨nl, HST.out _ HC2.out, HXX.out.1, fun h => ⟨(HXX.out.2 h).1, fun k hk hkj => by
                  obtain ⟨e1, e2⟩ := HXX.out.2 h
                  by_cases ek : k = j
                  · subst ek
                    rw [← e1]
                    exact HP.out.2 (by rw [hV]; simp)
                  · exact e2 k hk (by omega)⟩⟩
                clear HV2 HP HSTEP HST HROW HXX HCELL T0 T1 T2 T3 q0 q1 r0 r1 f1
                go_wp2_with fail
                exact ⟨⟨ag, j + 1, by rfl, by go_num, by omega, HN⟩, by simp [intOf]; omega⟩
              · have hS := HSTEP.out hV _ HC2.out
                have HN : Hid (∃ nl, InvN w d a0 a1 (some ⟨bp, op, none⟩) c0 c1 c3 (w.heap.size + 1) nl _ ∧ cnt nl < cnt n0) := ⟨_, hS.1, by
                  cases ag
                  · rw [← (HXX.out.2 rfl).1]; exact hS.2
                  · exact Nat.lt_trans hS.2 (HXX.out.1 rfl)⟩
                clear hS HV2 HP HSTEP HST HROW HXX HCELL T0 T1 T2 T3 q0 q1 r0
                go_wp2_with fail
                exact ⟨⟨true, j + 1, by rfl, by go_num, by omega, by obtain ⟨z, h1, h2⟩ := HN.out; exact ⟨z, h1, (fun _ => h2), fun h => by cases h⟩⟩, by simp [intOf]; omega⟩
        · have HN : Hid (∃ nl, InvN w d a0 a1 a3 c0 c1 c3 (w.heap.size + 1) nl wr ∧ (ag = false → ∀ k (hk : k < d.prods.length), quN d.terms.length nl (pN d.prods[k]))) := ⟨nl, hN, fun h => by
            obtain ⟨e1, e2⟩ := hx2 h
            subst e1
            exact fun k hk => e2 k hk (by omega)⟩
          have HLT : Hid ((if boolOf (.bool ag) then toDo wr + 1 else 0) < cnt n0 + 1) := by
            show (if boolOf (.bool ag) then toDo wr + 1 else 0) < cnt n0 + 1
            cases ag
            · simp [boolOf]
            · have h1 := hx1 rfl
              have h2 : toDo wr = cnt nl := HU.out _ _ hN
              simp only [boolOf, if_true, h2]
              omega
          clear hN hx1 hx2 HJ
          go_wp2_with fail
          refine ⟨⟨ag, by rfl, HN⟩, ?_⟩
          have h1 := HLT.out
          have h2 := HM.out
          simp only [boolOf, if_true] at h1 ⊢
          omega
end Go.Proofs.YtjpjjfgdgieapaaDoor
