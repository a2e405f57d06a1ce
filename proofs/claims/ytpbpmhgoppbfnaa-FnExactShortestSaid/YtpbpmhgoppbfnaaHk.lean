import Derived.Test.YtpbpmhgoppbfnaaHj
/-! The specification: l04Spell. -/
namespace Go.Proofs.Ytpbpmhgoppbfnaa
open Go.RowKit Go.Deep
set_option linter.unusedVariables false
set_option maxRecDepth 100000
set_option linter.unusedSimpArgs false

/-- The words of the symbols, by those of the Nons; which are known. -/
def Wf (nt : Nat) (l : List (List Nat)) : Nat → List Nat := fun x => if x < nt then [x] else wsF l (x - nt)
def Kf (nt : Nat) (hs : List Bool) : Nat → Bool := fun x => decide (x < nt) || hs.getD (x - nt) false
theorem Wf_tm {nt : Nat} {l : List (List Nat)} {x : Nat} (h : x < nt) : Wf nt l x = [x] := by unfold Wf; rw [if_pos h]
theorem Wf_non {nt : Nat} {l : List (List Nat)} {y : Nat} : Wf nt l (nt + y) = wsF l y := by
  unfold Wf
  rw [if_neg (by omega)]
  have : nt + y - nt = y := by omega
  rw [this]
theorem Kf_tm {nt : Nat} {hs : List Bool} {x : Nat} (h : x < nt) : Kf nt hs x = true := by unfold Kf; rw [decide_eq_true h]; rfl
theorem Kf_non {nt : Nat} {hs : List Bool} {y : Nat} (h : y < hs.length) : Kf nt hs (nt + y) = hs[y] := by
  unfold Kf
  rw [decide_eq_false (by omega), Bool.false_or]
  have : nt + y - nt = y := by omega
  rw [this, getD_lt _ _ h]
/-- Words that are known, in rows of their own. -/
structure WLs (w : World) (bW n : Nat) (S : Nat → Prop) (hs : List Bool) (l : List (List Nat)) (sv : Nat → Value) : Prop where
  row : w.rowIs bW 28 n sv
  is : ∀ i, i < n → hs.getD i false = true → ∃ g c, sv i = .slice (some ⟨g, 0, none⟩) (wsF l i).length c ∧ S g ∧ w.ownsRow 0 3 1 (.slice (some ⟨g, 0, none⟩) (wsF l i).length c) (wsF l i).length (iv (tin (wsF l i)))
theorem WLs.keep {w w' : World} {bW n : Nat} {S : Nat → Prop} {hs : List Bool} {l : List (List Nat)} {sv : Nat → Value} (h : WLs w bW n S hs l sv) (hW : w'.heap[bW]? = w.heap[bW]?) (hS : ∀ q, S q → q < w.heap.size → w'.heap[q]? = w.heap[q]?) : WLs w' bW n S hs l sv := by
  refine ⟨World.rowIs.of_block h.row hW, fun i hi hh => ?_⟩
  obtain ⟨g, c, h1, h2, h3⟩ := h.is i hi hh
  refine ⟨g, c, h1, h2, own_kept h3 (fun k hk => ?_)⟩
  have e : g = k := by simpa [Value.ownBlock] using hk
  subst e
  exact hS g h2 (World.ownsRow.lt h3 g rfl).2
theorem WLs.still {w w' : World} {bW n : Nat} {S : Nat → Prop} {hs : List Bool} {l : List (List Nat)} {sv : Nat → Value} (h : WLs w bW n S hs l sv) (hb : Below w.heap.size w w') : WLs w' bW n S hs l sv :=
  h.keep (hb.block bW (World.rowIs.lt h.row)) (fun q _ hq => hb.block q hq)
/-- What is answered of the spelling: whether there is one. -/
def spB (nt : Nat) (M : List Int) (hs : List Bool) (r : List Nat) (len : Int) : Bool := decide (0 ≤ len ∧ len ≤ 200 ∧ lof (Mf nt M) r = len ∧ ∀ x ∈ r, Kf nt hs x = true)
/-- What a spelling leaves: a word, where there is one. -/
def SpA (w : World) (B : Bool) (C : List Nat) (e : Ending) (w' : World) : Prop := ∃ v', e = .returned (.tuple #[v', .bool B]) ∧ Below w.heap.size w w' ∧ (B = true → ∃ g c, v' = .slice (some ⟨g, 0, none⟩) C.length c ∧ w'.ownsRow w.heap.size 3 1 (.slice (some ⟨g, 0, none⟩) C.length c) C.length (iv (tin C)))

set_option maxHeartbeats 12800000 in
theorem spell_s {S S2 : Nat → Prop} (d : Bn) (a0 a1 a3 : Option Addr) (c0 c1 c3 n1 n3 : Nat) (b bW bH n : Nat) (M r : List Int) (hs : List Bool) (l : List (List Nat)) (sv : Nat → Value) (len : Int) (v : Value) (w : World) (hnt : d.terms.length ≤ 60) (hn : n ≤ 100) (hMl : M.length = n) (hHl : hs.length = n) (hb : IRow w b M) (hbH : BRow w bH hs) (hW : WLs w bW n S2 hs l sv) (hr : Ints w S r v) (hin : ∀ i (hi : i < r.length), 0 ≤ r[i] ∧ r[i] < ((d.terms.length + n : Nat) : Int)) (hlo : ∀ x, -1 ≤ Mf d.terms.length M x) (hto : ∀ x, Mf d.terms.length M x ≤ 1000) (hlen : r.length ≤ 12) (hlim : ∀ x, (wsF l x).length ≤ 1000) :
    Calls Try.prog 27 #[.agg #[.slice a0 d.terms.length c0, .slice a1 n1 c1, .int .i64 d.own, .slice a3 n3 c3], .slice (some ⟨b, 0, none⟩) n n, .slice (some ⟨bW, 0, none⟩) n n, .slice (some ⟨bH, 0, none⟩) n n, v, .int .i64 len] w fun e w' => SpA w (spB d.terms.length M hs (nats r) len) (cat (Wf d.terms.length l) (nats r)) e w' := by
  have hsum := fun (w' : World) (hb' : Below w.heap.size w w') => sum_any d a0 a1 a3 c0 c1 c3 n1 n3 b M r v w' hnt (by omega) (irow_still hb hb') (hr.still hb') (by rw [hMl]; exact hin) hlo hto hlen
  rw [hMl] at hsum
  have HSUM := (show Hid _ from hsum); clear hsum
  obtain ⟨i3, hi3, hzz⟩ := Option.map_eq_some_iff.1 info3i
  simp only [Prod.mk.injEq] at hzz
  obtain ⟨hz0, hz1, hz2⟩ := hzz
  have HLIM := (show Hid _ from hlim); clear hlim
  obtain ⟨a, cap, bb, off, rfl, hc, hm, ha, hcell⟩ := hr
  have HC := (show Hid _ from hcell); clear hcell
  have HA := (show Hid _ from ha); clear ha
  have HI := (show Hid _ from hin); clear hin
  have HWL := (show Hid _ from hW); clear hW
  have HBH := (show Hid _ from hbH); clear hbH
  unfold maxLen at hm
  obtain ⟨SB, hSB⟩ : ∃ SB, spB d.terms.length M hs (nats r) len = SB := ⟨_, rfl⟩
  rw [hSB]
  have hSP : (SB = true ↔ 0 ≤ len ∧ len ≤ 200 ∧ lof (Mf d.terms.length M) (nats r) = len ∧ ∀ x ∈ nats r, Kf d.terms.length hs x = true) := by rw [← hSB]; unfold spB; exact decide_eq_true_iff
  have HSP := (show Hid _ from hSP)
  clear hSB hSP
  have HX := (show Hid _ from Box.new w 34 [.slice a0 d.terms.length c0, .slice a1 n1 c1, .int .i64 d.own, .slice a3 n3 c3])
  have HB0 := (show Hid _ from bel_alloc w (.cells #[.slice a0 d.terms.length c0, .slice a1 n1 c1, .int .i64 d.own, .slice a3 n3 c3] 34))
  have HNO := (show Hid (∀ (v' : Value) (w' : World), ¬ SB = true → Below w.heap.size w w' → SpA w SB (cat (Wf d.terms.length l) (nats r)) (.returned (.tuple #[v', .bool false])) w') from fun v' w' h1 h2 => ⟨v', by cases SB; rfl; exact absurd rfl h1, h2, fun h => absurd h h1⟩)
  generalize hSU : lof (Mf d.terms.length M) (nats r) = SU at *
  clear hlo hto hb hSU
  have hbE := (bel_alloc w (.cells #[.slice a0 d.terms.length c0, .slice a1 n1 c1, .int .i64 d.own, .slice a3 n3 c3] 34)).alloc (by simp) (.cells #[] 3)
  have HBE := (show Hid _ from hbE); clear hbE
  by_cases e0 : len < 0
  case pos =>
    have HF := (show Hid _ from HNO.out (.slice (some ⟨w.heap.size + 1, 0, none⟩) 0 0) _ (fun h => by have := (HSP.out.1 h).1; omega) HBE.out)
    go_enter Try.func27, Try.ntmps27
    go_wp2_with fail
    refine bodyPost_ret (v := .tuple #[.slice (some ⟨w.heap.size + 1, 0, none⟩) 0 0, .bool false]) (by simp [results, Try.results27, go_sem]) rfl ?_
    exact HF.out
  by_cases e1 : 200 < len
  case pos =>
    have HF := (show Hid _ from HNO.out (.slice (some ⟨w.heap.size + 1, 0, none⟩) 0 0) _ (fun h => by have := (HSP.out.1 h).2.1; omega) HBE.out)
    go_enter Try.func27, Try.ntmps27
    go_wp2_with fail
    refine bodyPost_ret (v := .tuple #[.slice (some ⟨w.heap.size + 1, 0, none⟩) 0 0, .bool false]) (by simp [results, Try.results27, go_sem]) rfl ?_
    exact HF.out
  have HS0 := (show Hid _ from HSUM.out _ HB0.out)
  clear HSUM HBE
  go_enter Try.func27, Try.ntmps27
  go_wp2_with fail
  refine Calls.mono HS0.out ?_
  rintro e w1 ⟨rfl, hb1⟩
  have hX1 := HX.out.still hb1
  have hbw1 := bel_trans HB0.out hb1
  have hs1 : w.heap.size + 1 ≤ w1.heap.size := by have := hb1.size; simpa using this
  by_cases e2 : SU = len
  case neg =>
    have k1 : (SU != len) = true := by simp [e2]
    have HF := (show Hid _ from HNO.out (.slice (some ⟨w1.heap.size, 0, none⟩) 0 0) _ (fun h => e2 (HSP.out.1 h).2.2.1) (hbw1.alloc hbw1.size (.cells #[] 3)))
    clear hX1 hbw1 hb1
    go_wp2_with fail
    refine bodyPost_ret (v := .tuple #[.slice (some ⟨w1.heap.size, 0, none⟩) 0 0, .bool false]) (by simp [results, Try.results27, go_sem]) rfl ?_
    exact HF.out
  have k1 : (SU != len) = false := by simp [e2]
  have hba := bel_alloc w1 (.cells #[] 3)
  have H0 := (show Hid (Below w.heap.size w (w1.alloc (.cells #[] 3)) ∧ Box (w1.alloc (.cells #[] 3)) w.heap.size 34 [.slice a0 d.terms.length c0, .slice a1 n1 c1, .int .i64 d.own, .slice a3 n3 c3] ∧ (w1.alloc (.cells #[] 3)).ownsRow (w.heap.size + 1) 3 1 (.slice (some ⟨w1.heap.size, 0, none⟩) 0 0) 0 []) from ⟨bel_trans hbw1 hba, hX1.still hba, ⟨rfl, .inr ⟨w1.heap.size, 0, #[], rfl, hs1, blk_alloc_new _ _, Nat.le_refl _, Nat.zero_le _, rfl, rfl⟩⟩⟩)
  have HE2 := (show Hid (0 ≤ len ∧ len ≤ 200 ∧ SU = len) from ⟨by omega, by omega, e2⟩)
  clear hX1 hbw1 hb1 hba HS0 hs1
  have hrl : (nats r).length = r.length := by simp [nats]
  go_wp2_with fail
  go_loopw [14, 15] (fun u i wr => ∃ (g c j m : Nat), u = .slice (some ⟨g, 0, none⟩) m c ∧ i = .int .i64 j ∧ j ≤ r.length ∧ m ≤ 1000 * j ∧ Hid (m = (cat (Wf d.terms.length l) ((nats r).take j)).length ∧ Below w.heap.size w wr ∧ Box wr w.heap.size 34 [.slice a0 d.terms.length c0, .slice a1 n1 c1, .int .i64 d.own, .slice a3 n3 c3] ∧ wr.ownsRow (w.heap.size + 1) 3 1 (.slice (some ⟨g, 0, none⟩) m c) m (iv (tin (cat (Wf d.terms.length l) ((nats r).take j)))) ∧ ∀ k (hk : k < (nats r).length), k < j → Kf d.terms.length hs (nats r)[k] = true)) (fun _ i _ => r.length - (intOf i).toNat)
  case atStart => exact ⟨w1.heap.size, 0, 0, 0, rfl, rfl, Nat.zero_le _, Nat.zero_le _, by rw [List.take_zero]; rfl, H0.out.1, H0.out.2.1, by rw [List.take_zero]; exact H0.out.2.2, fun k _ hk => absurd hk (Nat.not_lt_zero _)⟩
  case round =>
    obtain ⟨g, c, j, m, rfl, rfl, hj, hm2, HJ⟩ := hrel
    by_cases hlt : j < r.length
    · have hlt' := hlt
      obtain ⟨rfl, _⟩ := HA.out (by omega)
      have q0 := HC.out j hlt'
      rw [← HJ.out.2.1.cell (lt_of_cell q0)] at q0
      obtain ⟨i1, i2⟩ := HI.out j hlt'
      obtain ⟨x, hx⟩ : ∃ x : Nat, r[j] = x := ⟨r[j].toNat, by omega⟩
      rw [hx] at i1 i2 q0
      have hjn : j < (nats r).length := by rw [hrl]; exact hlt'
      have hxn : (nats r)[j] = x := by simp [nats, hx]
      have hcat := cat_take (W := Wf d.terms.length l) hjn hxn
      have T0 : wr.cell? ⟨w.heap.size, 0, none⟩ = some (.slice a0 d.terms.length c0) := HJ.out.2.2.1.cell 0 (by simp)
      have T1 : wr.cell? ⟨w.heap.size, 1, none⟩ = some (.slice a1 n1 c1) := HJ.out.2.2.1.cell 1 (by simp)
      have T2 : wr.cell? ⟨w.heap.size, 2, none⟩ = some (.int .i64 d.own) := HJ.out.2.2.1.cell 2 (by simp)
      have T3 : wr.cell? ⟨w.heap.size, 3, none⟩ = some (.slice a3 n3 c3) := HJ.out.2.2.1.cell 3 (by simp)
      have HV := (show Hid _ from non_any d a0 c0 (.slice a1 n1 c1) (.slice a3 n3 c3) x wr.drew (by omega) hnt)
      have HST := (show Hid (∀ w', Below wr.heap.size wr w' → Below w.heap.size w w' ∧ Box w' w.heap.size 34 [.slice a0 d.terms.length c0, .slice a1 n1 c1, .int .i64 d.own, .slice a3 n3 c3] ∧ w'.ownsRow (w.heap.size + 1) 3 1 (.slice (some ⟨g, 0, none⟩) m c) m (iv (tin (cat (Wf d.terms.length l) ((nats r).take j)))) ∧ w.heap.size + 1 ≤ w'.heap.size) from fun w' hb => ⟨bel_trans HJ.out.2.1 hb, HJ.out.2.2.1.still hb, al_still HJ.out.2.2.2.1 hb, by have h1 := HJ.out.2.2.1.lt; have h2 := hb.size; omega⟩)
      have HKN := (show Hid (Kf d.terms.length hs x = true → ∀ k (hk : k < (nats r).length), k < j + 1 → Kf d.terms.length hs (nats r)[k] = true) from fun hK k hk hkj => by
        by_cases ek : k = j
        · subst ek; rw [hxn]; exact hK
        · exact HJ.out.2.2.2.2 k hk (by omega))
      have HKX := (show Hid (SB = true → Kf d.terms.length hs x = true) from fun h => (HSP.out.1 h).2.2.2 x (by rw [← hxn]; exact List.getElem_mem hjn))
      have HM := (show Hid _ from HJ.out.1)
      have HQ := (show Hid (∀ w', Below wr.heap.size wr w' → w'.cell? ⟨bb, off + j, none⟩ = some (.int .i64 (x : Int))) from fun w' hb => (hb.cell (lt_of_cell q0)).trans q0)
      clear hx hxn hjn
      by_cases ht : d.terms.length ≤ x
      · obtain ⟨y, hy⟩ : ∃ y, x = d.terms.length + y := ⟨x - d.terms.length, by omega⟩
        have hyn : y < n := by omega
        have hyh : y < hs.length := by omega
        have hk : ((x : Int) - d.terms.length) = (y : Int) := by omega
        have hkf : Kf d.terms.length hs x = hs[y] := by rw [hy]; exact Kf_non hyh
        have hwf : Wf d.terms.length l x = wsF l y := by rw [hy]; exact Wf_non
        rw [hk] at HV
        rw [hkf] at HKN HKX
        rw [hwf] at hcat
        have HB2 := (show Hid (∀ w', Below wr.heap.size wr w' → w'.cell? ⟨bH, y, none⟩ = some (.bool hs[y])) from fun w' hb => (BRow.still HBH.out (HST.out w' hb).1).cell hyh)
        cases hH : hs[y]
        · rw [hH] at HB2 HKX
          have HF := (show Hid (∀ v' w', Below w.heap.size w w' → SpA w SB (cat (Wf d.terms.length l) (nats r)) (.returned (.tuple #[v', .bool false])) w') from fun v' w' hb => HNO.out v' w' (fun h => by have := HKX.out h; cases this) hb)
          clear hkf hwf hcat hk HKN hH hy
          go_wp2_with fail
          go_region_with (go_at_call 26; refine Calls.mono HV.out ?_; rintro e w2 ⟨rfl, hb2⟩; have hdb := bel_trans ((Below.refl wr.heap.size wr).drew) hb2; have b2 := HB2.out w2 hdb; have HB3 := (show Hid _ from (HST.out w2 hdb).1); clear hb2 hdb)
          all_goals
            go_wp2_with fail
            refine bodyPost_ret (v := .tuple #[.slice (some ⟨w2.heap.size, 0, none⟩) 0 0, .bool false]) (by simp [results, Try.results27, go_sem]) rfl ?_
            exact HF.out _ _ (HB3.out.alloc HB3.out.size (.cells #[] 3))
        · rw [hH] at HB2 HKN
          have HKN2 := (show Hid _ from HKN.out rfl)
          clear HKN
          have hHg : hs.getD y false = true := by rw [getD_lt _ _ hyh]; exact hH
          obtain ⟨gy, cy, hsy, _, hoy⟩ := HWL.out.is y hyn hHg
          have HW2 := (show Hid (∀ w', Below wr.heap.size wr w' → w'.cell? ⟨bW, y, none⟩ = some (.slice (some ⟨gy, 0, none⟩) (wsF l y).length cy) ∧ w'.ownsRow 0 3 1 (.slice (some ⟨gy, 0, none⟩) (wsF l y).length cy) (wsF l y).length (iv (tin (wsF l y)))) from fun w' hb => by
            have hb2 := (HST.out w' hb).1
            refine ⟨?_, al_still hoy hb2⟩
            have := World.rowIs.cell (World.rowIs.of_block HWL.out.row (hb2.block bW (World.rowIs.lt HWL.out.row))) hyn
            rw [hsy] at this
            exact this)
          have hly := HLIM.out y
          have HCT := (show Hid _ from hcat)
          have HLY := (show Hid _ from hly)
          clear hkf hwf hcat hk hH hHg hsy hoy HKX hy hly
          generalize wsF l y = U at *
          have hU := HLY.out
          go_wp2_with fail
          go_region_with (go_at_call 26; refine Calls.mono HV.out ?_; rintro e w2 ⟨rfl, hb2⟩; have hdb := bel_trans ((Below.refl wr.heap.size wr).drew) hb2; have b2 := HB2.out w2 hdb; have W2 := (HW2.out w2 hdb).1; have HO2 := (show Hid _ from (HW2.out w2 hdb).2); have HS2 := (show Hid _ from HST.out w2 hdb); clear hb2 hdb)
          all_goals
            go_wp2_with (at_builtin; refine wpList_append_g rfl (.tmp 60) (.tmp 64) 28 rfl (w.heap.size + 1) 3 i3 _ 1 8 Try.underlying28 hi3 hz0 hz1 hz2 rfl (by decide) g c m _ rfl HS2.out.2.2.1 ⟨gy, 0, none⟩ U.length cy (iv (tin U)) rfl ?c0 ?c1 ?c2 ?c3 ?c5 ?c4 ?nx)
            case c0 => simp [iv, tin]
            case c1 => exact fun j u hu => World.ownsRow.cells HO2.out (g := gy) rfl j u hu
            case c2 => intro u hu; simp only [iv, List.mem_map] at hu; obtain ⟨z, _, rfl⟩ := hu; rfl
            case c3 => unfold maxLen; omega
            case c5 => omega
            case c4 => exact HS2.out.2.2.2
            case nx =>
              intro g3 c3' w3 hown hgr hat
              have hgl := (World.ownsRow.lt HS2.out.2.2.1 g rfl).1
              have HN := (show Hid (m + U.length = (cat (Wf d.terms.length l) ((nats r).take (j + 1))).length ∧ Below w.heap.size w w3 ∧ Box w3 w.heap.size 34 [.slice a0 d.terms.length c0, .slice a1 n1 c1, .int .i64 d.own, .slice a3 n3 c3] ∧ w3.ownsRow (w.heap.size + 1) 3 1 (.slice (some ⟨g3, 0, none⟩) (m + U.length) c3') (m + U.length) (iv (tin (cat (Wf d.terms.length l) ((nats r).take (j + 1))))) ∧ ∀ k (hk : k < (nats r).length), k < j + 1 → Kf d.terms.length hs (nats r)[k] = true) from by
                refine ⟨by rw [HCT.out, List.length_append, ← HM.out], HS2.out.1.grown hgr HS2.out.1.size (fun k hk => by injection hk with hk; omega), HS2.out.2.1.keep (hgr.block _ HS2.out.2.1.lt (fun e => by injection e with e; omega)), ?_, HKN2.out⟩
                rw [HCT.out]
                have e9 : iv (tin (cat (Wf d.terms.length l) ((nats r).take j) ++ U)) = iv (tin (cat (Wf d.terms.length l) ((nats r).take j))) ++ iv (tin U) := by simp [iv, tin]
                rw [e9]
                exact hown)
              clear hown hgr hat hgl HS2 HO2 W2 b2
              go_wp2_with fail
              exact ⟨⟨g3, c3', j + 1, m + U.length, by rfl, by go_num, by omega, by omega, HN⟩, by simp [intOf]; omega⟩
      · have hx2 : x < d.terms.length := by omega
        have hwf := Wf_tm (l := l) hx2
        have hneg : decide ((x : Int) - d.terms.length < 0) = true := by simp; omega
        have HKN2 := (show Hid _ from HKN.out (Kf_tm hx2))
        rw [hwf] at hcat
        have HCT := (show Hid _ from hcat)
        clear hwf hcat HKN HKX
        go_wp2_with fail
        go_region_with (go_at_call 26; refine Calls.mono HV.out ?_; rintro e w2 ⟨rfl, hb2⟩; have hdb := bel_trans ((Below.refl wr.heap.size wr).drew) hb2; have q2 := HQ.out w2 hdb; have HS2 := (show Hid _ from HST.out w2 hdb); have HO2 := (show Hid _ from al_still (HST.out w2 hdb).2.2.1 (bel_alloc w2 (.cells #[.int .i64 (x : Int)] 3))); clear hb2 hdb)
        all_goals
          go_wp2_with (at_builtin; refine wpList_append_g rfl (.tmp 47) (.tmp 52) 28 rfl (w.heap.size + 1) 3 i3 _ 1 8 Try.underlying28 hi3 hz0 hz1 hz2 rfl (by decide) g c m _ rfl HO2.out ⟨w2.heap.size, 0, none⟩ 1 1 [.int .i64 (x : Int)] rfl ?c0 ?c1 ?c2 ?c3 ?c5 ?c4 ?nx)
          case c0 => rfl
          case c1 => exact al_box _ _ _
          case c2 => intro u hu; simp at hu; subst hu; rfl
          case c3 => unfold maxLen; omega
          case c5 => omega
          case c4 => have := HS2.out.2.2.2; simp; omega
          case nx =>
            intro g3 c3' w3 hown hgr hat
            have hgl := (World.ownsRow.lt HS2.out.2.2.1 g rfl).1
            have hba := bel_alloc w2 (.cells #[.int .i64 (x : Int)] 3)
            have HN := (show Hid (m + 1 = (cat (Wf d.terms.length l) ((nats r).take (j + 1))).length ∧ Below w.heap.size w w3 ∧ Box w3 w.heap.size 34 [.slice a0 d.terms.length c0, .slice a1 n1 c1, .int .i64 d.own, .slice a3 n3 c3] ∧ w3.ownsRow (w.heap.size + 1) 3 1 (.slice (some ⟨g3, 0, none⟩) (m + 1) c3') (m + 1) (iv (tin (cat (Wf d.terms.length l) ((nats r).take (j + 1))))) ∧ ∀ k (hk : k < (nats r).length), k < j + 1 → Kf d.terms.length hs (nats r)[k] = true) from by
              refine ⟨by rw [HCT.out, List.length_append, ← HM.out]; rfl, (bel_trans HS2.out.1 hba).grown hgr (bel_trans HS2.out.1 hba).size (fun k hk => by injection hk with hk; omega), (HS2.out.2.1.still hba).keep (hgr.block _ (HS2.out.2.1.still hba).lt (fun e => by injection e with e; omega)), ?_, HKN2.out⟩
              rw [HCT.out]
              have e9 : iv (tin (cat (Wf d.terms.length l) ((nats r).take j) ++ [x])) = iv (tin (cat (Wf d.terms.length l) ((nats r).take j))) ++ [.int .i64 (x : Int)] := by simp [iv, tin]
              rw [e9]
              exact hown)
            clear hown hgr hat hgl HS2 HO2 q2 hba
            go_wp2_with fail
            exact ⟨⟨g3, c3', j + 1, m + 1, by rfl, by go_num, by omega, by omega, HN⟩, by simp [intOf]; omega⟩
    · have hje : j = r.length := by omega
      have HF : Hid (SpA w SB (cat (Wf d.terms.length l) (nats r)) (.returned (.tuple #[.slice (some ⟨g, 0, none⟩) m c, .bool true])) wr) := by
        obtain ⟨h1, h2, h3, h4, h5⟩ := HJ.out
        rw [List.take_of_length_le (by rw [hrl]; omega)] at h1 h4
        have hsb : SB = true := HSP.out.2 ⟨HE2.out.1, HE2.out.2.1, HE2.out.2.2, fun x hx => by
          obtain ⟨k, hk, rfl⟩ := List.mem_iff_getElem.1 hx
          exact h5 k hk (by rw [hrl] at hk; omega)⟩
        refine ⟨_, by rw [hsb], h2, fun _ => ⟨g, c, by rw [h1], ?_⟩⟩
        rw [← h1]
        exact own_low h4 (by omega)
      clear HJ
      go_wp2_with fail
      refine bodyPost_ret (v := .tuple #[.slice (some ⟨g, 0, none⟩) m c, .bool true]) (by simp [results, Try.results27, go_sem]) rfl ?_
      exact HF.out
end Go.Proofs.Ytpbpmhgoppbfnaa
