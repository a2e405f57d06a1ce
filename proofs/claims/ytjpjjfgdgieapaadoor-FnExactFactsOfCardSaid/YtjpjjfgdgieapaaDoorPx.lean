import Derived.Test.YtjpjjfgdgieapaaDoorPv
import Derived.Test.YtjpjjfgdgieapaaDoorSn
import Derived.Deep.RegionWith
/-! The specification: l04PutAll and l04FirstOf, walked. -/
namespace Go.Proofs.YtjpjjfgdgieapaaDoor
open Go.RowKit Go.Deep
set_option linter.unusedVariables false
set_option maxRecDepth 100000
set_option linter.unusedSimpArgs false

set_option maxHeartbeats 3200000 in
theorem putAll52 {S R : Nat → Prop} (l r : List Int) (v u : Value) (w : World) (h : Ints w S l v) (hr : Ints w R r u) (hl : l.length + r.length ≤ 1048000) :
    Calls Tryd.prog 52 #[v, u] w fun e w' => ∃ v', e = .returned (.tuple #[v', .bool (fresh l r)]) ∧ Below w.heap.size w w' ∧ Ints w' (fun c => S c ∨ w.heap.size ≤ c) (putAll l r) v' := by
  obtain ⟨a, cap, bb, off, rfl, hc, hm, ha, hcell⟩ := hr
  have HC := (show Hid _ from hcell); clear hcell
  have HA := (show Hid _ from ha); clear ha
  unfold maxLen at hm
  obtain ⟨av, cv, ev, _⟩ := h.form
  subst ev
  have H0 := (show Hid (Ints w S l (.slice av l.length cv)) from h); clear h
  go_enter Tryd.func52, Tryd.ntmps52
  go_wp2_with fail
  go_loopw [0, 6, 7] (fun q p i wr => ∃ (O : List Int) (F : Bool) (a' : Option Addr) (n' c' j : Nat), q = .slice a' n' c' ∧ p = .bool F ∧ i = .int .i64 j ∧ j ≤ r.length ∧ Hid (n' = O.length ∧ Below w.heap.size w wr ∧ Ints wr (fun c => S c ∨ w.heap.size ≤ c) O (.slice a' n' c') ∧ O = putAll l (r.take j) ∧ F = fresh l (r.take j))) (fun _ _ i _ => r.length - (intOf i).toNat)
  case atStart => exact ⟨l, false, _, _, _, 0, rfl, rfl, rfl, Nat.zero_le _, rfl, Below.refl _ _, H0.out.mono (fun c hc => .inl hc), rfl, rfl⟩
  case round =>
    obtain ⟨O, F, a', n', c', j, rfl, rfl, rfl, hj, HJ⟩ := hrel
    clear H0
    by_cases hlt : j < r.length
    · have hlt' := hlt
      obtain ⟨rfl, _⟩ := HA.out (by omega)
      have c0 := HC.out j hlt'
      rw [← HJ.out.2.1.cell (lt_of_cell c0)] at c0
      have htk : r.take (j + 1) = r.take j ++ [r[j]] := (List.take_append_getElem hlt').symm
      obtain ⟨y, hy⟩ : ∃ y : Int, r[j] = y := ⟨_, rfl⟩
      rw [hy] at c0 htk
      have hOl : O.length ≤ 1048000 := by
        rw [HJ.out.2.2.2.1]
        have := putAll_len (r.take j) l
        simp only [List.length_take] at this
        omega
      have HP := (show Hid _ from put79 O y _ wr HJ.out.2.2.1 hOl)
      have HE : Hid (putL O y = putAll l (r.take (j + 1)) ∧ (F || !decide (y ∈ O)) = fresh l (r.take (j + 1))) := by
        obtain ⟨_, _, _, h3, h4⟩ := HJ.out
        exact ⟨by rw [htk, putAll_snoc, ← h3], by rw [htk, h4, h3, fresh_snoc]⟩
      have HB := (show Hid _ from HJ.out.2.1)
      clear HJ htk
      generalize hnw : (!decide (y ∈ O)) = nw at *
      go_wp2_with fail
      refine Calls.mono HP.out ?_
      rintro e w1 ⟨v1, rfl, hb1, hi1⟩
      obtain ⟨a1, c1, e1, _⟩ := hi1.form
      subst e1
      have HN : Hid ((putL O y).length = (putL O y).length ∧ Below w.heap.size w w1 ∧ Ints w1 (fun c => S c ∨ w.heap.size ≤ c) (putL O y) (.slice a1 (putL O y).length c1) ∧ putL O y = putAll l (r.take (j + 1)) ∧ (F || nw) = fresh l (r.take (j + 1))) :=
        ⟨rfl, bel_trans HB.out hb1, hi1.mono (fun c hc => by
          have := HB.out.size
          rcases hc with hc | hc
          · exact hc
          · exact .inr (by omega)), HE.out⟩
      clear hi1 hb1 HE HB HP hnw
      obtain ⟨Q, hQ⟩ : ∃ Q, putL O y = Q := ⟨_, rfl⟩
      rw [hQ] at HN ⊢
      obtain ⟨m, hm2⟩ : ∃ m, Q.length = m := ⟨_, rfl⟩
      have HN2 : Hid (m = Q.length ∧ Below w.heap.size w w1 ∧ Ints w1 (fun c => S c ∨ w.heap.size ≤ c) Q (.slice a1 m c1) ∧ Q = putAll l (r.take (j + 1)) ∧ (F || nw) = fresh l (r.take (j + 1))) := by
        have := HN.out
        rw [hm2] at this
        exact ⟨hm2.symm, this.2⟩
      rw [hm2]
      clear HN hm2 hQ
      cases F
      · go_wp2_with fail
        exact ⟨⟨Q, nw, _, _, _, j + 1, rfl, rfl, by go_num, by omega, by simpa using HN2⟩, by simp [intOf]; omega⟩
      · go_wp2_with fail
        exact ⟨⟨Q, true, _, _, _, j + 1, rfl, rfl, by go_num, by omega, by simpa using HN2⟩, by simp [intOf]; omega⟩
    · obtain rfl : j = r.length := by omega
      have HR : Hid (∃ v', Ending.returned (.tuple #[.slice a' n' c', .bool F]) = .returned (.tuple #[v', .bool (fresh l r)]) ∧ Below w.heap.size w wr ∧ Ints wr (fun c => S c ∨ w.heap.size ≤ c) (putAll l r) v') := by
        obtain ⟨_, h1, h2, h3, h4⟩ := HJ.out
        rw [List.take_length] at h3 h4
        exact ⟨_, by rw [h4], h1, by rw [← h3]; exact h2⟩
      clear HJ
      go_wp2_with fail
      refine bodyPost_ret (v := .tuple #[.slice a' n' c', .bool F]) (by simp [results, Tryd.results52, go_sem]) rfl ?_
      exact HR.out
end Go.Proofs.YtjpjjfgdgieapaaDoor

/-! The specification: l04FirstOf, walked. -/
namespace Go.Proofs.YtjpjjfgdgieapaaDoor
open Go.RowKit Go.Deep
set_option linter.unusedVariables false
set_option maxRecDepth 100000
set_option linter.unusedSimpArgs false

/-- With what symbols begin, behind what is known already; and whether all make the empty word. -/
def fo (nt : Nat) (Nl : Nat → Bool) (F : Nat → List Int) : List Int → List Int → List Int × Bool
  | acc, [] => (acc, true)
  | acc, s :: r => if s.toNat < nt then (putL acc s, false) else if Nl s.toNat then fo nt Nl F (putAll acc (F (s.toNat - nt))) r else (putAll acc (F (s.toNat - nt)), false)
/-- Rows of numbers behind a row of slices. -/
structure FR (w : World) (b N : Nat) (F : List (List Int)) : Prop where
  len : F.length = N
  ex : ∃ vs : Nat → Value, w.rowIs b 29 N vs ∧ ∀ i, i < N → Ints w (fun c => c ≠ b) (F.getD i []) (vs i)
theorem FR.lt {w : World} {b N : Nat} {F : List (List Int)} (h : FR w b N F) : b < w.heap.size := by obtain ⟨vs, h1, _⟩ := h.ex; exact World.rowIs.lt h1
theorem FR.still {w w' : World} {b N : Nat} {F : List (List Int)} (h : FR w b N F) (hb : Below w.heap.size w w') : FR w' b N F := by
  obtain ⟨vs, h1, h2⟩ := h.ex
  exact ⟨h.len, vs, World.rowIs.of_block h1 (hb.block b (World.rowIs.lt h1)), fun i hi => (h2 i hi).still hb⟩
/-- One row put anew. -/
theorem FR.set {w : World} {b N : Nat} {F : List (List Int)} (h : FR w b N F) {i : Nat} (hi : i < N) {l : List Int} {v : Value} (hv : Ints w (fun c => c ≠ b) l v) : FR (w.setCell ⟨b, i, none⟩ v) b N (F.set i l) := by
  obtain ⟨vs, h1, h2⟩ := h.ex
  have hbt : ∀ c, c ≠ b → (w.setCell ⟨b, i, none⟩ v).heap[c]? = w.heap[c]? := fun c hc => blk_setCell_other _ _ _ _ (by exact hc)
  refine ⟨by rw [List.length_set]; exact h.len, fun j => if j = i then v else vs j, World.rowIs.set h1 i v, fun j hj => ?_⟩
  have hl : j < F.length := by rw [h.len]; exact hj
  by_cases e : j = i
  · subst e
    show Ints _ _ _ (if j = j then v else vs j)
    rw [if_pos rfl, getD_lt _ _ (by rw [List.length_set]; exact hl), List.getElem_set_self]
    exact hv.keep (fun c hc _ => hbt c hc)
  · show Ints _ _ _ (if j = i then v else vs j)
    rw [if_neg e]
    have : (F.set i l).getD j [] = F.getD j [] := by
      rw [getD_lt _ _ (by rw [List.length_set]; exact hl), getD_lt _ _ hl, List.getElem_set_ne (fun h => e h.symm)]
    rw [this]
    exact (h2 j hj).keep (fun c hc _ => hbt c hc)

theorem fo_len (nt : Nat) (Nl : Nat → Bool) (F : Nat → List Int) (hF : ∀ x, (F x).length ≤ 1000) : ∀ (r acc : List Int), (fo nt Nl F acc r).1.length ≤ acc.length + 1000 * r.length := by
  intro r
  induction r with
  | nil => intro acc; exact Nat.le_refl _
  | cons s r ih =>
    intro acc
    unfold fo
    have h1 := put_len acc s
    have h2 := putAll_len (F (s.toNat - nt)) acc
    have h3 := hF (s.toNat - nt)
    have h4 := ih (putAll acc (F (s.toNat - nt)))
    simp only [List.length_cons]
    split
    · dsimp only; omega
    · split
      · omega
      · dsimp only; omega
set_option maxHeartbeats 6400000 in
theorem firstOf51 {S : Nat → Prop} (d : Bn) (a0 a1 a3 : Option Addr) (c0 c1 c3 n1 n3 : Nat) (b fb : Nat) (nl : List Bool) (F : List (List Int)) (r : List Int) (v : Value) (w : World) (hnt : d.terms.length ≤ 60) (hnl : nl.length ≤ 100) (hb : BRow w b nl) (hF : FR w fb nl.length F) (hF1 : ∀ x, (F.getD x []).length ≤ 1000) (hr : Ints w S r v) (hin : ∀ i (hi : i < r.length), 0 ≤ r[i] ∧ r[i] < ((d.terms.length + nl.length : Nat) : Int)) (hlen : r.length ≤ 12) :
    Calls Tryd.prog 51 #[.agg #[.slice a0 d.terms.length c0, .slice a1 n1 c1, .int .i64 d.own, .slice a3 n3 c3], .slice (some ⟨b, 0, none⟩) nl.length nl.length, .slice (some ⟨fb, 0, none⟩) nl.length nl.length, v] w fun e w' => ∃ v', e = .returned (.tuple #[v', .bool (fo d.terms.length (Nf d.terms.length nl) (fun x => F.getD x []) [] r).2]) ∧ Below w.heap.size w w' ∧ Ints w' (fun c => w.heap.size ≤ c) (fo d.terms.length (Nf d.terms.length nl) (fun x => F.getD x []) [] r).1 v' := by
  obtain ⟨a, cap, bb, off, rfl, hc, hm, ha, hcell⟩ := hr
  have HC := (show Hid _ from hcell); clear hcell
  have HA := (show Hid _ from ha); clear ha
  have HI := (show Hid _ from hin); clear hin
  have HBR := (show Hid (BRow w b nl) from hb); clear hb
  have HFR := (show Hid (FR w fb nl.length F) from hF); clear hF
  have HF1 := (show Hid _ from hF1); clear hF1
  unfold maxLen at hm
  obtain ⟨RR, hRR⟩ : ∃ RR, fo d.terms.length (Nf d.terms.length nl) (fun x => F.getD x []) [] r = RR := ⟨_, rfl⟩
  rw [hRR]
  have HR := (show Hid (fo d.terms.length (Nf d.terms.length nl) (fun x => F.getD x []) [] r = RR) from hRR); clear hRR
  have HX := (show Hid (Box (w.alloc (.cells #[.slice a0 d.terms.length c0, .slice a1 n1 c1, .int .i64 d.own, .slice a3 n3 c3] 38)) w.heap.size 38 [.slice a0 d.terms.length c0, .slice a1 n1 c1, .int .i64 d.own, .slice a3 n3 c3]) from Box.new w 38 [.slice a0 d.terms.length c0, .slice a1 n1 c1, .int .i64 d.own, .slice a3 n3 c3])
  have HB0 := (show Hid (Below w.heap.size w (w.alloc (.cells #[.slice a0 d.terms.length c0, .slice a1 n1 c1, .int .i64 d.own, .slice a3 n3 c3] 38))) from bel_alloc w (.cells #[.slice a0 d.terms.length c0, .slice a1 n1 c1, .int .i64 d.own, .slice a3 n3 c3] 38))
  have H0 : Hid (Below w.heap.size w ((w.alloc (.cells #[.slice a0 d.terms.length c0, .slice a1 n1 c1, .int .i64 d.own, .slice a3 n3 c3] 38)).alloc (.cells #[] 3)) ∧ Box ((w.alloc (.cells #[.slice a0 d.terms.length c0, .slice a1 n1 c1, .int .i64 d.own, .slice a3 n3 c3] 38)).alloc (.cells #[] 3)) w.heap.size 38 [.slice a0 d.terms.length c0, .slice a1 n1 c1, .int .i64 d.own, .slice a3 n3 c3] ∧ Ints ((w.alloc (.cells #[.slice a0 d.terms.length c0, .slice a1 n1 c1, .int .i64 d.own, .slice a3 n3 c3] 38)).alloc (.cells #[] 3)) (fun c => w.heap.size ≤ c) [] (.slice (some ⟨w.heap.size + 1, 0, none⟩) 0 0)) := by
    have h1 := Mk1.new (w.alloc (.cells #[.slice a0 d.terms.length c0, .slice a1 n1 c1, .int .i64 d.own, .slice a3 n3 c3] 38))
    have h2 := h1.ints
    rw [World.size_alloc] at h2
    exact ⟨bel_trans HB0.out (bel_alloc _ _), HX.out.still (bel_alloc _ _), h2.mono (fun c hc => by omega)⟩
  clear HX HB0
  go_enter Tryd.func51, Tryd.ntmps51
  go_wp2_with fail
  go_loopw [10, 11] (fun q i wr => ∃ (O : List Int) (a' : Option Addr) (n' c' j : Nat), q = .slice a' n' c' ∧ i = .int .i64 j ∧ j ≤ r.length ∧ Hid (n' = O.length ∧ Below w.heap.size w wr ∧ Box wr w.heap.size 38 [.slice a0 d.terms.length c0, .slice a1 n1 c1, .int .i64 d.own, .slice a3 n3 c3] ∧ Ints wr (fun c => w.heap.size ≤ c) O (.slice a' n' c') ∧ fo d.terms.length (Nf d.terms.length nl) (fun x => F.getD x []) O (r.drop j) = RR ∧ O.length ≤ 1000 * j)) (fun _ i _ => r.length - (intOf i).toNat)
  case atStart => exact ⟨[], _, _, _, 0, rfl, rfl, Nat.zero_le _, rfl, H0.out.1, H0.out.2.1, H0.out.2.2, HR.out, Nat.zero_le _⟩
  case round =>
    obtain ⟨O, a', n', c', j, rfl, rfl, hj, HJ⟩ := hrel
    clear H0
    by_cases hlt : j < r.length
    · have hlt' := hlt
      obtain ⟨rfl, _⟩ := HA.out (by omega)
      have q0 := HC.out j hlt'
      obtain ⟨i1, i2⟩ := HI.out j hlt'
      have hE := HJ.out.2.2.2.2.1
      rw [List.drop_eq_getElem_cons hlt'] at hE
      obtain ⟨x, hx⟩ : ∃ x : Nat, r[j] = x := ⟨r[j].toNat, by omega⟩
      rw [hx] at i1 i2 q0 hE
      unfold fo at hE
      rw [Int.toNat_natCast] at hE
      have hOl : O.length ≤ 12000 := by have := HJ.out.2.2.2.2.2; omega
      have HCELL := (show Hid (∀ w', Below wr.heap.size wr w' → Below w.heap.size w w' ∧ Box w' w.heap.size 38 [.slice a0 d.terms.length c0, .slice a1 n1 c1, .int .i64 d.own, .slice a3 n3 c3] ∧ w'.cell? ⟨bb, off + j, none⟩ = some (.int .i64 x) ∧ Ints w' (fun c => w.heap.size ≤ c) O (.slice a' n' c') ∧ BRow w' b nl ∧ FR w' fb nl.length F) from fun w' hb => by
        have h1 := bel_trans HJ.out.2.1 hb
        exact ⟨h1, HJ.out.2.2.1.still hb, (h1.cell (lt_of_cell q0)).trans q0, HJ.out.2.2.2.1.still hb, BRow.still HBR.out h1, FR.still HFR.out h1⟩)
      have HDR := (show Hid (Below wr.heap.size wr wr.drew) from (Below.refl wr.heap.size wr).drew)
      have HV := (show Hid _ from non_any d a0 c0 (.slice a1 n1 c1) (.slice a3 n3 c3) x wr.drew (by omega) hnt)
      have hbx := (HCELL.out wr (Below.refl _ _)).2.1
      have X0 := (HCELL.out wr (Below.refl _ _)).2.2.1
      have T0 : wr.cell? ⟨w.heap.size, 0, none⟩ = some (.slice a0 d.terms.length c0) := hbx.cell 0 (by simp)
      have T1 : wr.cell? ⟨w.heap.size, 1, none⟩ = some (.slice a1 n1 c1) := hbx.cell 1 (by simp)
      have T2 : wr.cell? ⟨w.heap.size, 2, none⟩ = some (.int .i64 d.own) := hbx.cell 2 (by simp)
      have T3 : wr.cell? ⟨w.heap.size, 3, none⟩ = some (.slice a3 n3 c3) := hbx.cell 3 (by simp)
      have HE := (show Hid _ from hE); clear hE
      have HQ := (show Hid (n' = O.length ∧ O.length ≤ 1000 * j) from ⟨HJ.out.1, HJ.out.2.2.2.2.2⟩)
      clear HJ hbx q0 hx
      go_upto_region 5 with fail
      go_cut [12] from 20 to 25 (fun v wx => v = .int .i64 ((x : Int) - d.terms.length) ∧ Hid (Below wr.heap.size wr wx))
      case first =>
        clear HE HQ HCELL HC HA HI HBR HFR HF1 HR
        go_region_with (go_at_call 49; refine Calls.mono HV.out ?_; rintro e w2 ⟨rfl, hb2⟩; have HBW := (show Hid _ from bel_trans HDR.out hb2); clear hb2)
        all_goals
          go_wp2_with fail
          go_meet
          exact ⟨rfl, HBW⟩
      case rest =>
        obtain ⟨rfl, HC1⟩ := hcut
        clear T0 T1 T2 T3 X0 HV HDR
        obtain ⟨hbw, hbx, X0, hiO, hbr, hfr⟩ := HCELL.out wc HC1.out
        by_cases ht : x < d.terms.length
        · have hneg : decide ((x : Int) - d.terms.length < 0) = true := by simp; omega
          have hE := HE.out
          rw [if_pos ht] at hE
          have HP := (show Hid _ from put79 O x _ wc hiO (by omega))
          have HRES := (show Hid (∀ w1 v1, Below wc.heap.size wc w1 → Ints w1 (fun c => w.heap.size ≤ c ∨ wc.heap.size ≤ c) (putL O x) v1 → ∃ v', Ending.returned (.tuple #[v1, .bool false]) = .returned (.tuple #[v', .bool RR.2]) ∧ Below w.heap.size w w1 ∧ Ints w1 (fun c => w.heap.size ≤ c) RR.1 v') from fun w1 v1 hb hi => by
            rw [← hE]
            exact ⟨v1, rfl, bel_trans hbw hb, hi.mono (fun c hc => by have := hbw.size; rcases hc with hc | hc <;> omega)⟩)
          clear hE HE hiO hbr hfr HCELL HQ hbw hbx HC HA HI HBR HFR HF1 HR
          generalize hnw : (!decide ((x : Int) ∈ O)) = nw at HP
          go_wp2_with fail
          refine Calls.mono HP.out ?_
          rintro e w1 ⟨v1, rfl, hb1, hi1⟩
          have HN := (show Hid _ from HRES.out w1 v1 hb1 hi1)
          clear hi1 hb1 HP HRES hnw
          go_wp2_with fail
          refine bodyPost_ret (v := .tuple #[v1, .bool false]) (by simp [results, Tryd.results51, go_sem]) rfl ?_
          exact HN.out
        · have hneg : decide ((x : Int) - d.terms.length < 0) = false := by simp; omega
          obtain ⟨y, hy⟩ : ∃ y : Nat, x = d.terms.length + y := ⟨x - d.terms.length, by omega⟩
          have hyn : y < nl.length := by omega
          have hxy : ((x : Int) - d.terms.length) = (y : Int) := by omega
          have hxy2 : x - d.terms.length = y := by omega
          have hE := HE.out
          rw [if_neg ht, hxy2] at hE
          have hnf : Nf d.terms.length nl x = nl[y] := by unfold Nf; rw [decide_eq_true (by omega), Bool.true_and, hxy2, getD_lt _ _ hyn]
          rw [hnf] at hE
          obtain ⟨vs, hvs, hrows⟩ := hfr.ex
          have g0 := hvs.cell hyn
          have hri := hrows y hyn
          have hFl := HF1.out y
          have HBR2 := (show Hid (∀ w', Below wc.heap.size wc w' → w'.cell? ⟨b, y, none⟩ = some (.bool nl[y])) from fun w' hb => (BRow.still hbr hb).cell hyn)
          obtain ⟨Fy, hFy⟩ : ∃ Fy, F.getD y [] = Fy := ⟨_, rfl⟩
          have hE' : (if nl[y] = true then fo d.terms.length (Nf d.terms.length nl) (fun x => F.getD x []) (putAll O Fy) (r.drop (j + 1)) else (putAll O Fy, false)) = RR := by rw [← hFy]; exact hE
          rw [hFy] at hri hFl
          obtain ⟨vy, hvy⟩ : ∃ vy, vs y = vy := ⟨_, rfl⟩
          rw [hvy] at g0 hri
          have HP := (show Hid _ from putAll52 O Fy _ _ wc hiO hri (by omega))
          have hOF := putAll_len Fy O
          have HO2 : Hid ((putAll O Fy).length ≤ 1000 * (j + 1)) := by
            show (putAll O Fy).length ≤ _
            have := HQ.out.2
            omega
          have HBX2 := (show Hid (∀ w', Below wc.heap.size wc w' → Below w.heap.size w w' ∧ Box w' w.heap.size 38 [.slice a0 d.terms.length c0, .slice a1 n1 c1, .int .i64 d.own, .slice a3 n3 c3]) from fun w' hb => ⟨bel_trans hbw hb, hbx.still hb⟩)
          have hsz := hbw.size
          clear hE HE hiO hbr hfr HCELL HQ hbw hbx hvs hrows hri hOF hFl HF1 hFy hvy hnf HR HFR HBR X0
          generalize hfr2 : fresh O Fy = fr at HP
          clear hfr2
          obtain ⟨Q, hQ⟩ : ∃ Q, putAll O Fy = Q := ⟨_, rfl⟩
          rw [hQ] at HP hE' HO2
          have HE2 := (show Hid _ from hE'); clear hE' hQ
          rw [hxy]
          clear hxy hxy2 hy
          have hneg2 : decide ((y : Int) < 0) = false := by simp
          generalize nl[y] = B at *
          go_wp2_with fail
          refine Calls.mono HP.out ?_
          rintro e w1 ⟨v1, rfl, hb1, hi1⟩
          have b1 := HBR2.out w1 hb1
          obtain ⟨a1', c1', e1, _⟩ := hi1.form
          subst e1
          obtain ⟨m, hm2⟩ : ∃ m, Q.length = m := ⟨_, rfl⟩
          have HI1 : Hid (m = Q.length ∧ Ints w1 (fun c => w.heap.size ≤ c) Q (.slice a1' m c1')) := by
            rw [hm2] at hi1
            exact ⟨hm2.symm, hi1.mono (fun c hc => by rcases hc with hc | hc <;> omega)⟩
          have HBB := (show Hid _ from HBX2.out w1 hb1)
          rw [hm2]
          clear hi1 hb1 HP hm2 HBR2 HBX2
          cases B
          · have HN : Hid (∃ v', Ending.returned (.tuple #[.slice a1' m c1', .bool false]) = .returned (.tuple #[v', .bool RR.2]) ∧ Below w.heap.size w w1 ∧ Ints w1 (fun c => w.heap.size ≤ c) RR.1 v') := by
              have h2 := HE2.out
              rw [if_neg (by simp)] at h2
              rw [← h2]
              exact ⟨_, rfl, HBB.out.1, HI1.out.2⟩
            clear HE2 HI1 HBB HO2
            go_wp2_with fail
            refine bodyPost_ret (v := .tuple #[.slice a1' m c1', .bool false]) (by simp [results, Tryd.results51, go_sem]) rfl ?_
            exact HN.out
          · have HN : Hid (m = Q.length ∧ Below w.heap.size w w1 ∧ Box w1 w.heap.size 38 [.slice a0 d.terms.length c0, .slice a1 n1 c1, .int .i64 d.own, .slice a3 n3 c3] ∧ Ints w1 (fun c => w.heap.size ≤ c) Q (.slice a1' m c1') ∧ fo d.terms.length (Nf d.terms.length nl) (fun x => F.getD x []) Q (r.drop (j + 1)) = RR ∧ Q.length ≤ 1000 * (j + 1)) := by
              have h2 := HE2.out
              rw [if_pos rfl] at h2
              exact ⟨HI1.out.1, HBB.out.1, HBB.out.2, HI1.out.2, h2, HO2.out⟩
            clear HE2 HI1 HBB HO2
            go_wp2_with fail
            exact ⟨⟨Q, _, _, _, j + 1, rfl, by go_num, by omega, HN⟩, by simp [intOf]; omega⟩
    · obtain rfl : j = r.length := by omega
      have HN : Hid (∃ v', Ending.returned (.tuple #[.slice a' n' c', .bool true]) = .returned (.tuple #[v', .bool RR.2]) ∧ Below w.heap.size w wr ∧ Ints wr (fun c => w.heap.size ≤ c) RR.1 v') := by
        obtain ⟨_, h1, _, h3, h4, _⟩ := HJ.out
        rw [List.drop_length] at h4
        rw [← h4]
        exact ⟨_, rfl, h1, h3⟩
      clear HJ
      go_wp2_with fail
      refine bodyPost_ret (v := .tuple #[.slice a' n' c', .bool true]) (by simp [results, Tryd.results51, go_sem]) rfl ?_
      exact HN.out
end Go.Proofs.YtjpjjfgdgieapaaDoor
