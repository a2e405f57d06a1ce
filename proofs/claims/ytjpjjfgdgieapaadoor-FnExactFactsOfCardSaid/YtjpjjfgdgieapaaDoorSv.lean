import Derived.Test.YtjpjjfgdgieapaaDoorSu
/-! The program: studyOf. -/
namespace Go.Proofs.YtjpjjfgdgieapaaDoor
open Go.RowKit Go.Deep
set_option linter.unusedVariables false
set_option maxRecDepth 100000
set_option linter.unusedSimpArgs false

/-- The state of the search for shorter ones. -/
def InvL (W0 : World) (g b : Nat) (v0 v1 vo v3 : Value) (nt N : Nat) (ps : List (Nat × List Nat)) (L : List Int) (w : World) : Prop :=
  Below W0.heap.size W0 w ∧ St w g b v0 v1 vo v3 L ∧ L.length = N ∧ Snd nt ps (Lf L)
def newL (d : Bn) (L : List Int) (k : Nat) : Bool := lnew (Lf L) (pN (d.prods.getD k ⟨0, [], ByteArray.empty, 0, 0⟩))
def nxtL (d : Bn) (L : List Int) (k : Nat) : List Int := if newL d L k then L.set (d.prods.getD k ⟨0, [], ByteArray.empty, 0, 0⟩).left.toNat (lof (Lf L) (nats (d.prods.getD k ⟨0, [], ByteArray.empty, 0, 0⟩).right)) else L
theorem Box.past {w : World} {g T q o : Nat} {cs : List Value} {u : Value} (h : Box w g T cs) (hq : g ≠ q) : Box (w.setCell ⟨q, o, none⟩ u) g T cs := h.keep (blk_setCell_other _ _ _ _ (by exact hq))
theorem pN_mem {d : Bn} {k : Nat} (hk : k < d.prods.length) : pN d.prods[k] ∈ bps d := List.mem_map.2 ⟨_, List.getElem_mem hk, rfl⟩
theorem ini_row (w : World) (nt N : Nat) : IRow (w.alloc (.cells (madeCells #[.int .i64 0] N) 3)) w.heap.size (ini nt N 0) := by
  refine ⟨_, blk_alloc_new _ _, by rw [size_madeCells, ini_len], fun i hi => ?_⟩
  rw [ini_len] at hi
  have : (ini nt N 0).getD i 0 = 0 := by simp [List.getD_eq_getElem?_getD, ini, hi]
  have h1 : i % 1 = 0 := Nat.mod_one i
  show _ = some (Value.int .i64 ((ini nt N 0).getD i 0))
  rw [this]
  simp [madeCells, hi, h1]

set_option maxHeartbeats 6400000 in
theorem study_any {S : Nat → Prop} (d : Bn) (hok : Bok d) (v0 v1 v3 : Value) (w : World) (h : BLies w S d v0 v1 v3) :
    Calls Tryd.prog 26 #[.agg #[v0, v1, .int .i64 d.own, v3]] w fun e w' => ∃ g b L, e = .returned (.pointer (some ⟨g, 0, none⟩)) ∧ w.heap.size ≤ g ∧ w.heap.size ≤ b ∧ InvL w g b v0 v1 (.int .i64 d.own) v3 d.terms.length (d.terms.length + d.nons.length) (bps d) L w' ∧ ∀ p ∈ bps d, lnew (Lf L) p = false := by
  have HP := (show Hid _ from h.prods)
  have hok' := hok
  obtain ⟨h60, ⟨hn1, hn2⟩, h120, hleft, hlen, hright⟩ := hok
  have HLE := (show Hid _ from hleft); clear hleft
  have HLN := (show Hid _ from hlen); clear hlen
  have HRI := (show Hid _ from hright); clear hright
  obtain ⟨a0, c0, a1, c1, a3, c3, rfl, rfl, rfl⟩ := h.form
  obtain ⟨N, hN⟩ : ∃ N, N = d.terms.length + d.nons.length := ⟨_, rfl⟩
  rw [← hN]
  rw [← hN] at HLE HRI
  have hmk := fun w => run_makeInts N (by omega) w
  have hadd : ((d.terms.length : Int) + (d.nons.length : Int)) = (N : Int) := by omega
  have hN160 : N ≤ 160 := by omega
  have HN0 := (show Hid _ from hN); clear hN
  clear h
  go_enter Tryd.func26, Tryd.ntmps26
  go_wp2_with fail
  go_region
  all_goals
    go_wp2_with fail
    have hst : St (((w.alloc (.cells #[.slice a0 d.terms.length c0, .slice a1 d.nons.length c1, .int .i64 d.own, .slice a3 d.prods.length c3] 38)).alloc (.cells (madeCells #[.int .i64 0] N) 3)).alloc (.cells #[.slice a0 d.terms.length c0, .slice a1 d.nons.length c1, .int .i64 d.own, .slice a3 d.prods.length c3, .slice (some ⟨w.heap.size + 1, 0, none⟩) N N] 97)).drew (w.heap.size + 1 + 1) (w.heap.size + 1) (.slice a0 d.terms.length c0) (.slice a1 d.nons.length c1) (.int .i64 d.own) (.slice a3 d.prods.length c3) (ini d.terms.length N 0) := by
      refine ⟨?_, ?_, by omega⟩
      · have := Box.new ((w.alloc (.cells #[.slice a0 d.terms.length c0, .slice a1 d.nons.length c1, .int .i64 d.own, .slice a3 d.prods.length c3] 38)).alloc (.cells (madeCells #[.int .i64 0] N) 3)) 97 [.slice a0 d.terms.length c0, .slice a1 d.nons.length c1, .int .i64 d.own, .slice a3 d.prods.length c3, .slice (some ⟨w.heap.size + 1, 0, none⟩) N N]
        simp only [World.size_alloc] at this
        rw [ini_len]
        exact this.keep rfl
      · have := ini_row (w.alloc (.cells #[.slice a0 d.terms.length c0, .slice a1 d.nons.length c1, .int .i64 d.own, .slice a3 d.prods.length c3] 38)) d.terms.length N
        simp only [World.size_alloc] at this
        have h2 := World.rowIs.of_block this (w' := ((w.alloc (.cells #[.slice a0 d.terms.length c0, .slice a1 d.nons.length c1, .int .i64 d.own, .slice a3 d.prods.length c3] 38)).alloc (.cells (madeCells #[.int .i64 0] N) 3)).alloc (.cells #[.slice a0 d.terms.length c0, .slice a1 d.nons.length c1, .int .i64 d.own, .slice a3 d.prods.length c3, .slice (some ⟨w.heap.size + 1, 0, none⟩) N N] 97)) (blk_alloc_lt _ _ _ (by simp))
        exact World.rowIs.of_block h2 rfl
    have hbx : Box (((w.alloc (.cells #[.slice a0 d.terms.length c0, .slice a1 d.nons.length c1, .int .i64 d.own, .slice a3 d.prods.length c3] 38)).alloc (.cells (madeCells #[.int .i64 0] N) 3)).alloc (.cells #[.slice a0 d.terms.length c0, .slice a1 d.nons.length c1, .int .i64 d.own, .slice a3 d.prods.length c3, .slice (some ⟨w.heap.size + 1, 0, none⟩) N N] 97)).drew w.heap.size 38 [.slice a0 d.terms.length c0, .slice a1 d.nons.length c1, .int .i64 d.own, .slice a3 d.prods.length c3] := ((Box.new w 38 [.slice a0 d.terms.length c0, .slice a1 d.nons.length c1, .int .i64 d.own, .slice a3 d.prods.length c3]).still ((bel_alloc (w.alloc (.cells #[.slice a0 d.terms.length c0, .slice a1 d.nons.length c1, .int .i64 d.own, .slice a3 d.prods.length c3] 38)) (.cells (madeCells #[.int .i64 0] N) 3)).alloc (by simp) (.cells #[.slice a0 d.terms.length c0, .slice a1 d.nons.length c1, .int .i64 d.own, .slice a3 d.prods.length c3, .slice (some ⟨w.heap.size + 1, 0, none⟩) N N] 97))).keep rfl
    have H0 := (show Hid _ from (⟨(((bel_alloc w (.cells #[.slice a0 d.terms.length c0, .slice a1 d.nons.length c1, .int .i64 d.own, .slice a3 d.prods.length c3] 38)).alloc (by simp) (.cells (madeCells #[.int .i64 0] N) 3)).alloc (by simp; omega) (.cells #[.slice a0 d.terms.length c0, .slice a1 d.nons.length c1, .int .i64 d.own, .slice a3 d.prods.length c3, .slice (some ⟨w.heap.size + 1, 0, none⟩) N N] 97)).drew, hbx, hst⟩ : _ ∧ _ ∧ _)); clear hbx hst
    go_loopw [21] (fun i wr => ∃ j : Nat, i = .int .i64 j ∧ j ≤ N ∧ Hid (Below w.heap.size w wr ∧ Box wr w.heap.size 38 [.slice a0 d.terms.length c0, .slice a1 d.nons.length c1, .int .i64 d.own, .slice a3 d.prods.length c3] ∧ St wr (w.heap.size + 1 + 1) (w.heap.size + 1) (.slice a0 d.terms.length c0) (.slice a1 d.nons.length c1) (.int .i64 d.own) (.slice a3 d.prods.length c3) (ini d.terms.length N j))) (fun i _ => N - (intOf i).toNat)
    case atStart => exact ⟨0, rfl, Nat.zero_le _, H0.out⟩
    case round =>
      obtain ⟨j, rfl, hj, HJ⟩ := hrel
      by_cases hlt : j < N
      · have hlt' := hlt
        have hjl : j < (ini d.terms.length N j).length := by rw [ini_len]; exact hlt
        have hS := HJ.out.2.2
        have hS1 := hS.set j hjl (-1)
        have T4 : wr.cell? ⟨w.heap.size + 1 + 1, 4, none⟩ = some (.slice (some ⟨w.heap.size + 1, 0, none⟩) N N) := by
          have := hS.box.cell 4 (by simp)
          rw [ini_len] at this
          exact this
        obtain ⟨z0, d0⟩ : ∃ z, wr.cell? ⟨w.heap.size + 1, j, none⟩ = some (.int .i64 z) := ⟨_, hS.cell j hjl⟩
        have f0 : wr.frozen? ⟨w.heap.size + 1, j, none⟩ = false := World.rowIs.frozen hS.row j
        have HV := (show Hid _ from isTerm_any (S := S) _ _ _ d a0 c0 _ _ _ _ j hS1)
        have hset : Bt (w.heap.size + 1) wr (wr.setCell ⟨w.heap.size + 1, j, none⟩ (.int .i64 (-1))) := Bt.set _ _
        have HB1 := (show Hid _ from (⟨HJ.out.1.trans (hset.below (by omega) HJ.out.1.size), HJ.out.2.1.past (q := w.heap.size + 1) (o := j) (u := .int .i64 (-1)) (by omega), hS1⟩ : Below w.heap.size w _ ∧ Box _ w.heap.size 38 [.slice a0 d.terms.length c0, .slice a1 d.nons.length c1, .int .i64 d.own, .slice a3 d.prods.length c3] ∧ _))
        have T4' : (wr.setCell ⟨w.heap.size + 1, j, none⟩ (.int .i64 (-1))).cell? ⟨w.heap.size + 1 + 1, 4, none⟩ = some (.slice (some ⟨w.heap.size + 1, 0, none⟩) N N) := by
          have := hS1.box.cell 4 (by simp)
          rw [List.length_set, ini_len] at this
          exact this
        have hjl1 : j < ((ini d.terms.length N j).set j (-1)).length := by rw [List.length_set]; exact hjl
        obtain ⟨z1, d1⟩ : ∃ z, (wr.setCell ⟨w.heap.size + 1, j, none⟩ (.int .i64 (-1))).cell? ⟨w.heap.size + 1, j, none⟩ = some (.int .i64 z) := ⟨_, hS1.cell j hjl1⟩
        have f1 : (wr.setCell ⟨w.heap.size + 1, j, none⟩ (.int .i64 (-1))).frozen? ⟨w.heap.size + 1, j, none⟩ = false := World.rowIs.frozen hS1.row j
        clear hS hset
        by_cases ht : j < d.terms.length
        · rw [decide_eq_true ht] at HV
          have hnx : ((ini d.terms.length N j).set j (-1)).set j 1 = ini d.terms.length N (j + 1) := by
            rw [List.set_set]
            have := ini_next (nt := d.terms.length) hlt
            rw [if_pos ht] at this
            exact this
          have hS2 := hS1.set j hjl1 1
          rw [hnx] at hS2
          have hset2 : Bt (w.heap.size + 1) (wr.setCell ⟨w.heap.size + 1, j, none⟩ (.int .i64 (-1))) ((wr.setCell ⟨w.heap.size + 1, j, none⟩ (.int .i64 (-1))).setCell ⟨w.heap.size + 1, j, none⟩ (.int .i64 1)) := Bt.set _ _
          have HN := (show Hid _ from (⟨HB1.out.1.trans (hset2.below (by omega) HB1.out.1.size), HB1.out.2.1.past (q := w.heap.size + 1) (o := j) (u := .int .i64 1) (by omega), hS2⟩ : Below w.heap.size w _ ∧ Box _ w.heap.size 38 [.slice a0 d.terms.length c0, .slice a1 d.nons.length c1, .int .i64 d.own, .slice a3 d.prods.length c3] ∧ _))
          clear hS1 hS2 hset2 hnx HB1 hjl hjl1 HJ
          go_wp2_with fail
          refine Calls.mono HV.out ?_
          rintro e w1 ⟨rfl, rfl⟩
          go_wp2_with fail
          exact ⟨⟨j + 1, by go_num, by omega, HN⟩, by simp [intOf]; omega⟩
        · rw [decide_eq_false ht] at HV
          have hnx : (ini d.terms.length N j).set j (-1) = ini d.terms.length N (j + 1) := by
            have := ini_next (nt := d.terms.length) hlt
            rw [if_neg ht] at this
            exact this
          have HN := (show Hid _ from (⟨HB1.out.1, HB1.out.2.1, by rw [← hnx]; exact hS1⟩ : Below w.heap.size w (wr.setCell ⟨w.heap.size + 1, j, none⟩ (.int .i64 (-1))) ∧ Box (wr.setCell ⟨w.heap.size + 1, j, none⟩ (.int .i64 (-1))) w.heap.size 38 [.slice a0 d.terms.length c0, .slice a1 d.nons.length c1, .int .i64 d.own, .slice a3 d.prods.length c3] ∧ St _ _ _ _ _ _ _ (ini d.terms.length N (j + 1))))
          clear hS1 hnx HB1 hjl hjl1 HJ
          go_wp2_with fail
          refine Calls.mono HV.out ?_
          rintro e w1 ⟨rfl, rfl⟩
          go_wp2_with fail
          exact ⟨⟨j + 1, by go_num, by omega, HN⟩, by simp [intOf]; omega⟩
      · have hjN : j = N := by omega
        subst hjN
        have T3 : wr.cell? ⟨w.heap.size, 3, none⟩ = some (.slice a3 d.prods.length c3) := HJ.out.2.1.cell 3 (by simp)
        have hNt : d.terms.length ≤ j := by have := HN0.out; omega
        have hset := settle78 (w.heap.size + 1 + 1) 0 d.prods _ w HP.out (InvL w (w.heap.size + 1 + 1) (w.heap.size + 1) (.slice a0 d.terms.length c0) (.slice a1 d.nons.length c1) (.int .i64 d.own) (.slice a3 d.prods.length c3) d.terms.length j (bps d)) wts (newL d) (nxtL d)
          (fun a w' h => h.1)
          (fun a b w' ha hb => by rw [IRow.uniq ha.2.1.row hb.2.1.row (by rw [ha.2.2.1, hb.2.2.1])])
          (fun a w' o h => ⟨h.1.trans ((bel_alloc w' o).mono h.1.size), h.2.1.still (bel_alloc w' o), h.2.2⟩)
          (fun a k w' hk h hn => by
            unfold nxtL
            rw [if_pos hn]
            unfold newL at hn
            rw [getD_lt _ _ hk] at hn ⊢
            obtain ⟨l1, l2⟩ := HLE.out k hk
            have hx : (pN d.prods[k]).1 < a.length := by rw [h.2.2.1]; show d.prods[k].left.toNat < j; omega
            exact wts_set hx (lnew_less hx h.2.2.2.low hn))
          (fun a k hn => by unfold nxtL; rw [hn]; rfl)
          (fun k hk a w' vr h hr => by
            obtain ⟨l1, l2⟩ := HLE.out k hk
            have hal := h.2.2.1
            have hx : (pN d.prods[k]).1 < a.length := by rw [hal]; show d.prods[k].left.toNat < j; omega
            refine Calls.mono (shorter_any w' _ _ _ _ _ _ a d.prods[k] vr h.2.1 (hr.still h.1) (fun i hi => by rw [hal]; exact HRI.out k hk i hi) (by omega) (by rw [hal]; exact l2) h.2.2.2.low h.2.2.2.top (by have := HLN.out k hk; omega) (by omega)) ?_
            rintro e w2 ⟨rfl, h1, h2⟩
            refine ⟨by unfold newL; rw [getD_lt _ _ hk], h.1.trans (h2.below (by omega) h.1.size), ?_, ?_, ?_⟩
            · unfold nxtL newL
              rw [getD_lt _ _ hk]
              exact h1
            · unfold nxtL
              split <;> simp [hal]
            · unfold nxtL newL
              rw [getD_lt _ _ hk]
              by_cases hn : lnew (Lf a) (pN d.prods[k]) = true
              · rw [if_pos hn]
                have e3 : Lf (a.set d.prods[k].left.toNat (lof (Lf a) (nats d.prods[k].right))) = upd (Lf a) (pN d.prods[k]).1 (lof (Lf a) (pN d.prods[k]).2) := Lf_set hx _
                rw [e3]
                exact h.2.2.2.step (pN_mem hk) (by show d.terms.length ≤ d.prods[k].left.toNat; omega) hn
              · rw [if_neg hn]; exact h.2.2.2)
          (ini d.terms.length j j) wr ⟨HJ.out.1, HJ.out.2.2, ini_len _ _ _, ini_snd _ _ _ hNt⟩
        have HSE := (show Hid _ from hset); clear hset HJ
        go_wp2_with fail
        refine Calls.mono HSE.out ?_
        rintro e w1 ⟨rfl, L, hI, hq⟩
        have HF : Hid (∃ g b L, Ending.returned (.pointer (some ⟨w.heap.size + 1 + 1, 0, none⟩)) = .returned (.pointer (some ⟨g, 0, none⟩)) ∧ w.heap.size ≤ g ∧ w.heap.size ≤ b ∧ InvL w g b (.slice a0 d.terms.length c0) (.slice a1 d.nons.length c1) (.int .i64 d.own) (.slice a3 d.prods.length c3) d.terms.length j (bps d) L w1 ∧ ∀ p ∈ bps d, lnew (Lf L) p = false) := by
          refine ⟨_, _, L, rfl, by omega, by omega, hI, fun p hp => ?_⟩
          obtain ⟨q, hq1, rfl⟩ := List.mem_map.1 hp
          obtain ⟨k, hk, rfl⟩ := List.mem_iff_getElem.1 hq1
          have := hq k hk
          unfold newL at this
          rw [getD_lt _ _ hk] at this
          exact this
        clear hI hq HSE
        go_wp2_with fail
        go_ret
        exact HF.out
end Go.Proofs.YtjpjjfgdgieapaaDoor
