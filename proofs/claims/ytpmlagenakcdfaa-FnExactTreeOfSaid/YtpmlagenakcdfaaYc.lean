import Derived.Test.YtpmlagenakcdfaaYb
/-! The specification: the word of a derivation. -/
namespace Go.Proofs.Ytpmlagenakcdfaa
open Go.RowKit Go.Deep
set_option linter.unusedVariables false
set_option maxRecDepth 100000
set_option linter.unusedSimpArgs false

theorem cn_take_leY (T : Nat) (ss : List Int) (i : Nat) : cn T (ss.take i) ≤ cn T ss := (List.take_sublist i ss).countP_le
set_option maxHeartbeats 25600000 in
theorem word_s {S K : Nat → Prop} (d : Bn) (L : List Int) (hok : bnB d = true) : ∀ (f a b : Nat) (s : Int) (v0 v1 v3 v : Value) (w : World), BLies w S d v0 v1 v3 → SP d L w K f a v → rd d L f s a = some b → b - a ≤ 4000 →
    Calls Try.prog 32 #[.agg #[v0, v1, .int .i64 d.own, v3], .agg #[.int .i64 (numAt L a), v]] w fun e w' => ∃ g c, e = .returned (.slice (some ⟨g, 0, none⟩) (wd d L f a).length c) ∧ Below w.heap.size w w' ∧ w'.ownsRow w.heap.size 3 1 (.slice (some ⟨g, 0, none⟩) (wd d L f a).length c) (wd d L f a).length (iv (wd d L f a)) := by
  intro f
  induction f with
  | zero => intro a b s v0 v1 v3 v w h hp hr; cases hr
  | succ f ih =>
    intro a b s v0 v1 v3 v w h hp hr hlen
    have IH := (show Hid _ from ih)
    clear ih
    have hwl := wd_len hok _ _ _ _ hr
    obtain ⟨ho, hend⟩ := rd_succ hr
    obtain ⟨k, hk, hnum, hpa, hleft, hal⟩ := okAt_prod ho
    obtain ⟨kb, kc, ka, sv, ats, rfl, hkc, hka, hkid⟩ := hp
    obtain ⟨hT, jk1, jk2, jk3, jk4, hPn⟩ := szB_of hok
    clear jk1 jk2 jk3 jk4
    have HLB := (show Hid _ from h)
    obtain ⟨a0, c0, a1, c1, a3', c3', rfl, rfl, jk0⟩ := h.form
    clear jk0 a3' c3'
    obtain ⟨a3, c3, bp, op, rfl, hcp, hpr⟩ := prod_cells h
    obtain ⟨rfl, ai, ci, bi, oi, jq0, q1, jq2, jq3, jq4, hci, hri⟩ := hpr k hk
    obtain ⟨jk1, jk2, hl12, hrr, jk3, jk4⟩ := pd_of hok hk
    clear jk1 jk2 jk3 jk4 jq0 jq2 jq3 jq4 hpr
    rw [← hpa] at q1 hl12 hci
    have HRI := (show Hid (∀ i (hi : i < (pa d L a).right.length), ai = some ⟨bi, oi, none⟩ ∧ w.cell? ⟨bi, oi + i, none⟩ = some (.int .i64 (pa d L a).right[i]) ∧ 0 ≤ (pa d L a).right[i] ∧ (pa d L a).right[i] ≤ 160) from fun i hi => by
      simp only [hpa] at hi ⊢
      exact ⟨(hri i hi).1, (hri i hi).2, (hrr i hi).1, (hrr i hi).2⟩)
    have HKA := (show Hid _ from fun (i x : Nat) (hi : i < (pa d L a).right.length) (hx : atP d L f a i = some x) => kid_at hend hi hx)
    have HKD := (show Hid _ from hkid)
    have HKB := (show Hid _ from hka)
    have HA0 := (show Hid (atP d L f a 0 = some (a + 1)) from atP_zero d L f a)
    have HWS := (show Hid _ from fun (i x : Nat) (hi : i < (pa d L a).right.length) (hx : atP d L f a i = some x) => wp_succ hi hx)
    have HWA := (show Hid _ from wp_all d L f a)
    have HLE := (show Hid (∀ (i x : Nat), atP d L f a i = some x → x ≤ b ∧ a + 1 ≤ x ∧ (wp d L f a i).length ≤ 48000) from fun i x hx => ⟨atP_le hx hend, (wp_len hok hx).1, by have := wp_le hx; omega⟩)
    have hcnl := cn_le d.terms.length (pa d L a).right
    have HCN := (show Hid _ from fun (i : Nat) (hi : i < (pa d L a).right.length) => cn_take d.terms.length (pa d L a).right i hi)
    have HCL := (show Hid _ from fun (i : Nat) (hi : i < (pa d L a).right.length) (hn : ¬ (pa d L a).right[i] < (d.terms.length : Int)) => (show cn d.terms.length ((pa d L a).right.take i) < cn d.terms.length (pa d L a).right from by
      have h1 : cn d.terms.length ((pa d L a).right.take i) < cn d.terms.length ((pa d L a).right.take (i + 1)) := cn_lt hi hn (show i < i + 1 by omega)
      have h2 := cn_take_leY d.terms.length (pa d L a).right (i + 1)
      omega))
    have hkp : k ≤ 120 := by omega
    -- the boxes
    obtain ⟨W3, hW3⟩ : ∃ W3, ((w.alloc (.cells #[.slice a0 d.terms.length c0, .slice a1 d.nons.length c1, .int .i64 d.own, .slice (some ⟨bp, op, none⟩) d.prods.length c3] 34)).alloc (.cells #[.int .i64 k, .slice ka (cn d.terms.length (pa d L a).right) kc] 64)).alloc (.cells #[] 3) = W3 := ⟨_, rfl⟩
    have hb3 : Below w.heap.size w W3 := by rw [← hW3]; exact bel_trans (bel_trans (bel_alloc _ _) (bel_alloc _ _)) (bel_alloc _ _)
    have hz3 : W3.heap.size = w.heap.size + 3 := by rw [← hW3]; simp
    have x0 : Box W3 w.heap.size 34 [.slice a0 d.terms.length c0, .slice a1 d.nons.length c1, .int .i64 d.own, .slice (some ⟨bp, op, none⟩) d.prods.length c3] := by rw [← hW3]; exact ((Box.new w 34 _).still (bel_alloc _ _)).still (bel_alloc _ _)
    have x1 : Box W3 (w.heap.size + 1) 64 [.int .i64 k, .slice ka (cn d.terms.length (pa d L a).right) kc] := by
      rw [← hW3]
      have := (Box.new (w.alloc (.cells #[.slice a0 d.terms.length c0, .slice a1 d.nons.length c1, .int .i64 d.own, .slice (some ⟨bp, op, none⟩) d.prods.length c3] 34)) 64 [.int .i64 k, .slice ka (cn d.terms.length (pa d L a).right) kc]).still (bel_alloc _ (.cells #[] 3))
      simpa using this
    have hw0 : W3.ownsRow (w.heap.size + 2) 3 1 (.slice (some ⟨w.heap.size + 2, 0, none⟩) 0 0) 0 [] := by
      refine ⟨rfl, .inr ⟨w.heap.size + 2, 0, #[], rfl, Nat.le_refl _, ?_, Nat.le_refl _, Nat.zero_le _, rfl, rfl⟩⟩
      rw [← hW3]
      have := blk_alloc_new ((w.alloc (.cells #[.slice a0 d.terms.length c0, .slice a1 d.nons.length c1, .int .i64 d.own, .slice (some ⟨bp, op, none⟩) d.prods.length c3] 34)).alloc (.cells #[.int .i64 k, .slice ka (cn d.terms.length (pa d L a).right) kc] 64)) (.cells #[] 3)
      simpa using this
    have HC := (show Hid (∀ (wr : World) (u : Value), GW W3 wr (.slice (some ⟨w.heap.size + 2, 0, none⟩) 0 0) u → Below w.heap.size w wr ∧ wr.cell? ⟨w.heap.size, 0, none⟩ = some (.slice a0 d.terms.length c0) ∧ wr.cell? ⟨w.heap.size, 1, none⟩ = some (.slice a1 d.nons.length c1) ∧ wr.cell? ⟨w.heap.size, 2, none⟩ = some (.int .i64 d.own) ∧ wr.cell? ⟨w.heap.size, 3, none⟩ = some (.slice (some ⟨bp, op, none⟩) d.prods.length c3) ∧ wr.cell? ⟨w.heap.size + 1, 1, none⟩ = some (.slice ka (cn d.terms.length (pa d L a).right) kc) ∧ w.heap.size + 3 ≤ wr.heap.size) from fun wr u hG => by
      have hne : ∀ q, q < w.heap.size + 2 → (Value.slice (some ⟨w.heap.size + 2, 0, none⟩) 0 0).ownBlock ≠ some q := fun q hq e => by
        have e : w.heap.size + 2 = q := by simpa [Value.ownBlock] using e
        omega
      have hsz := hG.g.size
      refine ⟨⟨hG.g.os.trans hb3.os, hG.g.tape.trans hb3.tape, hG.g.output.trans hb3.output, by omega, fun q hq => (hG.g.block q (by omega) (fun e => hne q (by omega) e.symm)).trans (hb3.block q hq)⟩, hG.cell (p := ⟨w.heap.size, 0, none⟩) (x0.cell 0 (by simp)) (hne w.heap.size (by omega)), hG.cell (p := ⟨w.heap.size, 1, none⟩) (x0.cell 1 (by simp)) (hne w.heap.size (by omega)), hG.cell (p := ⟨w.heap.size, 2, none⟩) (x0.cell 2 (by simp)) (hne w.heap.size (by omega)), hG.cell (p := ⟨w.heap.size, 3, none⟩) (x0.cell 3 (by simp)) (hne w.heap.size (by omega)), hG.cell (p := ⟨w.heap.size + 1, 1, none⟩) (x1.cell 1 (by simp)) (hne (w.heap.size + 1) (by omega)), by omega⟩)
    have HI0 := (show Hid (∀ n, GW W3 (W3.drewN n) (.slice (some ⟨w.heap.size + 2, 0, none⟩) 0 0) (.slice (some ⟨w.heap.size + 2, 0, none⟩) 0 0) ∧ (W3.drewN n).ownsRow (w.heap.size + 2) 3 1 (.slice (some ⟨w.heap.size + 2, 0, none⟩) 0 0) 0 []) from fun n => ⟨(GW.of_below (Below.refl _ _)).drewN n, hw0⟩)
    have t0 := x0.cell 3 (by simp)
    have t1 := x1.cell 0 (by simp)
    simp only [List.getD_cons_zero, List.getD_cons_succ] at t0 t1
    have q1' : W3.cell? ⟨bp, op + k * 5 + 1, none⟩ = some (.slice ai (pa d L a).right.length ci) := (World.cell?_of_block (w := w) (hb3.block bp (lt_of_cell q1))).trans q1
    have HIV := (show Hid (iv (wp d L f a 0) = []) from rfl)
    clear hkid hka hend hr ho h hleft hri hrr hal hb3 x0 x1 hw0 q1 hz3 hpa
    rw [hnum]
    clear hnum
    obtain ⟨i3, hi3, hzz⟩ := Option.map_eq_some_iff.1 info3y
    simp only [Prod.mk.injEq] at hzz
    obtain ⟨hz0, hz1, hz2⟩ := hzz
    obtain ⟨P, hP⟩ : ∃ P, pa d L a = P := ⟨_, rfl⟩
    have HP := (show Hid _ from hP)
    rw [hP] at q1' hl12 hci hcnl hkc hW3 HRI HKA HKD HKB HWS HCN HCL HC HWA
    clear hP
    obtain ⟨CN, hCN⟩ : ∃ CN, cn d.terms.length P.right = CN := ⟨_, rfl⟩
    rw [hCN] at hcnl hkc hW3 HKB HCL HC
    rw [HP.out, hCN]
    clear hCN
    go_enter Try.func32, Try.ntmps32
    go_wp2_with fail
    clear hW3 t0 t1 q1'
    go_loopw [5, 7, 8] (fun u kv i wr => ∃ j x g c : Nat, u = .slice (some ⟨g, 0, none⟩) (wp d L f a j).length c ∧ kv = .int .i64 (cn d.terms.length (P.right.take j)) ∧ i = .int .i64 j ∧ j ≤ P.right.length ∧ Hid (atP d L f a j = some x ∧ GW W3 wr (.slice (some ⟨w.heap.size + 2, 0, none⟩) 0 0) (.slice (some ⟨g, 0, none⟩) (wp d L f a j).length c) ∧ wr.ownsRow (w.heap.size + 2) 3 1 (.slice (some ⟨g, 0, none⟩) (wp d L f a j).length c) (wp d L f a j).length (iv (wp d L f a j)))) (fun _ _ i _ => P.right.length - (intOf i).toNat)
    case atStart => exact ⟨0, a + 1, w.heap.size + 2, 0, rfl, rfl, rfl, Nat.zero_le _, HA0.out, HI0.out 0⟩
    case round =>
      obtain ⟨j, x, gu, cu, rfl, rfl, rfl, hj, HJ⟩ := hrel
      have HXJ := (show Hid _ from HJ.out.1)
      have HGW := (show Hid _ from HJ.out.2.1)
      have HOW := (show Hid _ from HJ.out.2.2)
      clear HJ
      obtain ⟨hbw, y0, y1, y2, y3, y4, hzr⟩ := HC.out wr _ HGW.out
      have HBW := (show Hid _ from hbw)
      by_cases hlt : j < P.right.length
      · obtain ⟨rfl, r0, r1, r2⟩ := HRI.out j hlt
        have r0' := (World.cell?_of_block (w := w) (hbw.block bi (lt_of_cell r0))).trans r0
        have hws := HWS.out j x hlt HXJ.out
        have kaj := HKA.out j x hlt HXJ.out
        have cnj := HCN.out j hlt
        have kdj := HKD.out j hlt
        have clj := HCL.out j hlt
        have hxa : ats j = x := by have := kdj.1.symm.trans HXJ.out; simpa using this
        have kdk := kdj.2
        rw [hxa] at kdk
        clear kdj hxa
        obtain ⟨le1, le2, le3⟩ := HLE.out j x HXJ.out
        generalize P.right[j] = X at *
        have HV := (show Hid _ from fun w' => non_s a0 d.terms.length c0 (.slice a1 d.nons.length c1) (.int .i64 d.own) (.slice (some ⟨bp, op, none⟩) d.prods.length c3) X w' r1 (by omega) (by omega))
        have HDR := (show Hid _ from (Below.refl wr.heap.size wr).drew)
        have HT1 := (show Hid _ from hws)
        have HT2 := (show Hid _ from kaj)
        have HT3 := (show Hid _ from cnj)
        have HT4 := (show Hid _ from kdk)
        have HT5 := (show Hid _ from clj)
        have HLX := (show Hid ((wp d L f a j).length ≤ 48000 ∧ x ≤ b ∧ a + 1 ≤ x) from ⟨le3, le1, le2⟩)
        have HZR := (show Hid (w.heap.size + 3 ≤ wr.heap.size) from hzr)
        have hjm : j ≤ 12 := by omega
        clear hws kaj cnj kdk clj hbw r0 le1 le2 le3 hzr
        have hmc : cn d.terms.length (P.right.take j) ≤ j := by have := cn_le d.terms.length (P.right.take j); simp at this; omega
        obtain ⟨m, hm⟩ : ∃ m, cn d.terms.length (P.right.take j) = m := ⟨_, rfl⟩
        rw [hm] at HT3 HT4 HT5 hmc ⊢
        clear hm
        obtain ⟨NN, hNN⟩ : ∃ NN, (wp d L f a j).length = NN := ⟨_, rfl⟩
        rw [hNN] at HGW HOW HLX ⊢
        have HNN := (show Hid _ from hNN)
        clear hNN
        go_upto_region 7 with fail
        go_cut [29] from 23 to 28 (fun v wx => v = .bool (decide (X - d.terms.length < 0)) ∧ Hid (Below wr.heap.size wr wx))
        case first =>
          clear IH HLB HKA HKD HKB HA0 HWS HWA HLE HCN HCL HC HRI HI0 HT1 HT2 HT3 HT4 HT5 HLX HZR HGW HOW HXJ HBW y4 HP HNN
          go_region_with (go_at_call 68; refine Calls.mono (HV.out _) ?_; rintro e w2 ⟨rfl, rfl⟩)
          all_goals
            go_wp2_with fail
            go_meet
            exact ⟨rfl, HDR.out.alloc (Nat.le_refl _) _⟩
        case rest =>
          obtain ⟨w6, rfl⟩ : ∃ w6, w6 = wc := ⟨_, rfl⟩
          obtain ⟨rfl, HC6⟩ := hcut
          clear y0 y1 y2 y3 y4 HV HDR HBW
          have HG6 := (show Hid _ from HGW.out.trans (GW.of_below HC6.out))
          have HO6 := (show Hid _ from own_keep1 HOW.out (fun q hq => HC6.out.block q (World.ownsRow.lt HOW.out q hq).2))
          have hz6 : w.heap.size + 3 ≤ w6.heap.size := Nat.le_trans HZR.out HC6.out.size
          have r6 : w6.cell? ⟨bi, oi + j, none⟩ = some (.int .i64 X) := (World.cell?_of_block (w := wr) (HC6.out.block bi (lt_of_cell r0'))).trans r0'
          clear r0' HC6 HGW HOW HZR
          have HZR := (show Hid _ from hz6)
          clear hz6
          obtain ⟨wr, rfl⟩ : ∃ wr, wr = w6 := ⟨_, rfl⟩
          have HGW := HG6
          have HOW := HO6
          clear HG6 HO6
          by_cases hx : X < (d.terms.length : Int)
          · have hd : decide (X - d.terms.length < 0) = true := by simp; omega
            rw [hd]
            have HN : Hid (atP d L f a (j + 1) = some x ∧ wp d L f a (j + 1) = wp d L f a j ++ [X] ∧ cn d.terms.length (P.right.take (j + 1)) = m) := ⟨HT2.out.1 hx, by have := HT1.out; rw [if_pos hx] at this; exact this, by have := HT3.out; rw [if_pos hx] at this; exact this⟩
            have hba := bel_alloc wr (.cells #[.int .i64 X] 3)
            have HO1 := (show Hid _ from own_keep1 HOW.out (fun q hq => hba.block q (World.ownsRow.lt HOW.out q hq).2))
            have HBA := (show Hid (GW wr (wr.alloc (.cells #[.int .i64 X] 3)) (.slice (some ⟨gu, 0, none⟩) NN cu) (.slice (some ⟨gu, 0, none⟩) NN cu)) from GW.of_below hba)
            clear hd hba HT1 HT2 HT3 HT4 HT5 HOW
            go_wp2_with (at_builtin; refine wpList_append_lies _ rfl (.tmp 30) (.tmp 35) 27 rfl (w.heap.size + 2) 3 i3 _ 1 8 Try.underlying27 hi3 hz0 hz1 hz2 rfl (by decide) _ NN _ rfl HO1.out ⟨wr.heap.size, 0, none⟩ 1 1 [.int .i64 X] rfl rfl ?c1 ?c2 (by decide) ?c3 ?c5 ?c4 _ rfl ?nx)
            case c2 => rfl
            case c3 => have := HLX.out.1; unfold maxLen; omega
            case c5 => have := HLX.out.1; omega
            case c4 => have := HZR.out; simp; omega
            case nx =>
              intro g7 cap7 w7 hown7 hgr7 hat7 hlt7
              have e1 : (wp d L f a (j + 1)).length = NN + 1 := by rw [HN.out.2.1, List.length_append, HNN.out]; rfl
              have HF : Hid (atP d L f a (j + 1) = some x ∧ GW W3 w7 (.slice (some ⟨w.heap.size + 2, 0, none⟩) 0 0) (.slice (some ⟨g7, 0, none⟩) (wp d L f a (j + 1)).length cap7) ∧ w7.ownsRow (w.heap.size + 2) 3 1 (.slice (some ⟨g7, 0, none⟩) (wp d L f a (j + 1)).length cap7) (wp d L f a (j + 1)).length (iv (wp d L f a (j + 1)))) := by
                rw [e1]
                refine ⟨HN.out.1, (HGW.out.trans HBA.out).trans (GW.step hgr7 hat7 (by simp)), ?_⟩
                have e2 : iv (wp d L f a (j + 1)) = iv (wp d L f a j) ++ [.int .i64 X] := by rw [HN.out.2.1]; unfold iv; rw [List.map_append]; rfl
                rw [e2]
                exact hown7
              have HE1 := (show Hid _ from e1)
              clear hown7 hgr7 hat7 hlt7 e1
              go_wp2_with fail
              exact ⟨⟨j + 1, x, g7, cap7, by rw [HE1.out], by rw [HN.out.2.2], by go_num, by omega, HF⟩, by simp [intOf]; omega⟩
          · have hd : decide (X - d.terms.length < 0) = false := by simp; omega
            rw [hd]
            obtain ⟨c, hc, hat⟩ := HT2.out.2 (by omega)
            obtain ⟨e2, hKk⟩ := HKB.out (by have := HT5.out (by omega); omega)
            subst e2
            obtain ⟨z0, z1, hsp⟩ := HT4.out (by omega)
            obtain ⟨hbw, y0, y1, y2, y3, y4, _⟩ := HC.out wr _ HGW.out
            have z0' := (World.cell?_of_block (w := w) (hbw.block kb (lt_of_cell z0))).trans z0
            have z1' := (World.cell?_of_block (w := w) (hbw.block kb (lt_of_cell z1))).trans z1
            have hmCN := HT5.out (by omega)
            have le4 := (HLE.out (j + 1) c hat)
            have hxc := (rd_gt d L _ _ _ _ hc).1
            have HIH := (show Hid _ from IH.out x c X _ _ _ (sv j) wr.drew (HLB.out.still (hbw.drew)) (SP.keep (w' := wr.drew) (fun q _ hlt => hbw.drew.block q hlt) _ _ _ hsp) hc (by have := HLX.out; omega))
            have hwl2 := wd_len hok _ _ _ _ hc
            have HN : Hid (atP d L f a (j + 1) = some c ∧ wp d L f a (j + 1) = wp d L f a j ++ wd d L f x ∧ cn d.terms.length (P.right.take (j + 1)) = m + 1) := ⟨hat, by have := HT1.out; rw [if_neg hx] at this; exact this, by have := HT3.out; rw [if_neg hx] at this; exact this⟩
            have hLX2 : NN + (wd d L f x).length ≤ 48000 := by
              have h1 := le4.2.2
              rw [HN.out.2.1, List.length_append, HNN.out] at h1
              exact h1
            clear HLX
            obtain ⟨KN, hKN⟩ : ∃ KN, numAt L x = KN := ⟨_, rfl⟩
            rw [hKN] at HIH z0 z0'
            clear hKN
            obtain ⟨SV, hSV⟩ : ∃ SV, sv j = SV := ⟨_, rfl⟩
            rw [hSV] at HIH z1 z1'
            clear hSV
            obtain ⟨WK, hWK⟩ : ∃ WK, wd d L f x = WK := ⟨_, rfl⟩
            rw [hWK] at HIH HN hLX2
            clear hWK
            obtain ⟨M, hM⟩ : ∃ M, WK.length = M := ⟨_, rfl⟩
            rw [hM] at HIH hLX2
            have HML : Hid ((iv WK).length = M * 1) := by show (iv WK).length = M * 1; rw [iv_len, hM]; omega
            have HM := (show Hid _ from hM)
            have HLX := (show Hid _ from hLX2)
            have HHG := (show Hid (∀ (w' : World), GW wr.drew w' (.slice (some ⟨gu, 0, none⟩) NN cu) (.slice (some ⟨gu, 0, none⟩) NN cu) → (fun w' => w'.cell? ⟨w.heap.size, 0, none⟩ = some (.slice a0 d.terms.length c0) ∧ w'.cell? ⟨w.heap.size, 1, none⟩ = some (.slice a1 d.nons.length c1) ∧ w'.cell? ⟨w.heap.size, 2, none⟩ = some (.int .i64 d.own) ∧ w'.cell? ⟨w.heap.size, 3, none⟩ = some (.slice (some ⟨bp, op, none⟩) d.prods.length c3) ∧ w'.cell? ⟨w.heap.size + 1, 1, none⟩ = some (.slice (some ⟨kb, 0, none⟩) CN kc) ∧ w'.cell? ⟨kb, m * 2, none⟩ = some (.int .i64 KN) ∧ w'.cell? ⟨kb, m * 2 + 1, none⟩ = some SV) w') from fun w' hG => by
              have hG2 := HGW.out.trans ((GW.of_below ((Below.refl wr.heap.size wr).drew)).trans hG)
              obtain ⟨k0, k1, k2, k3, k4, k5, _⟩ := HC.out w' _ hG2
              exact ⟨k1, k2, k3, k4, k5, (World.cell?_of_block (w := w) (k0.block kb (lt_of_cell z0))).trans z0, (World.cell?_of_block (w := w) (k0.block kb (lt_of_cell z1))).trans z1⟩)
            have HHS := (show Hid _ from fun (w' : World) (hb : Below wr.drew.heap.size wr.drew w') => HHG.out w' (GW.of_below hb))
            have hS9 : (fun w' => w'.cell? ⟨w.heap.size, 0, none⟩ = some (.slice a0 d.terms.length c0) ∧ w'.cell? ⟨w.heap.size, 1, none⟩ = some (.slice a1 d.nons.length c1) ∧ w'.cell? ⟨w.heap.size, 2, none⟩ = some (.int .i64 d.own) ∧ w'.cell? ⟨w.heap.size, 3, none⟩ = some (.slice (some ⟨bp, op, none⟩) d.prods.length c3) ∧ w'.cell? ⟨w.heap.size + 1, 1, none⟩ = some (.slice (some ⟨kb, 0, none⟩) CN kc) ∧ w'.cell? ⟨kb, m * 2, none⟩ = some (.int .i64 KN) ∧ w'.cell? ⟨kb, m * 2 + 1, none⟩ = some SV) wr := ⟨y0, y1, y2, y3, y4, z0', z1'⟩
            clear hd hKk hc hsp hbw y0 y1 y2 y3 y4 z0 z1 z0' z1' le4 hxc hwl2 hLX2 hM HT1 HT2 HT3 HT4 HT5 hat r6
            go_upto_region 9 with fail
            refine wp_region_held_drew (S := (fun w' => w'.cell? ⟨w.heap.size, 0, none⟩ = some (.slice a0 d.terms.length c0) ∧ w'.cell? ⟨w.heap.size, 1, none⟩ = some (.slice a1 d.nons.length c1) ∧ w'.cell? ⟨w.heap.size, 2, none⟩ = some (.int .i64 d.own) ∧ w'.cell? ⟨w.heap.size, 3, none⟩ = some (.slice (some ⟨bp, op, none⟩) d.prods.length c3) ∧ w'.cell? ⟨w.heap.size + 1, 1, none⟩ = some (.slice (some ⟨kb, 0, none⟩) CN kc) ∧ w'.cell? ⟨kb, m * 2, none⟩ = some (.int .i64 KN) ∧ w'.cell? ⟨kb, m * 2 + 1, none⟩ = some SV)) (by kernel_rfl) hS9 (fun hHeld => ?_)
            refine wpAnyH_take (i := 0) (oi := { dst := some 37, op := Go.Op.move (Go.Operand.tmp 5), type := 27, pos := "l06_parsing.go:165", after := #[], guard := none }) (v := ?v1) rfl (by kernel_rfl) (by kernel_rfl) (by kernel_rfl) (fun _ _ _ h => h) (Or.inl ⟨by rfl, ?h1⟩) hHeld ?r1
            case h1 => (intro w hSw; (try dsimp only at hSw); go_simp; try with_reducible rfl)
            try simp only [Act.put, List.setIfInBounds_toArray, List.set_cons_zero, List.set_cons_succ]
            refine wpAnyH_take (i := 1) (oi := { dst := some 38, op := Go.Op.load 34 (Go.Operand.tmp 2), type := 34, pos := "l06_parsing.go:165", after := #[], guard := none }) (v := ?v2) rfl (by kernel_rfl) (by kernel_rfl) (by kernel_rfl) (fun _ _ _ h => h) (Or.inl ⟨by rfl, ?h2⟩) hHeld ?r2
            case h2 => (intro w hSw; (try dsimp only at hSw); go_simp; try with_reducible rfl)
            try simp only [Act.put, List.setIfInBounds_toArray, List.set_cons_zero, List.set_cons_succ]
            refine wpAnyH_take (i := 2) (oi := { dst := some 39, op := Go.Op.fieldAddr 64 (Go.Operand.tmp 3) 1, type := 0, pos := "l06_parsing.go:165", after := #[], guard := none }) (v := ?v3) rfl (by kernel_rfl) (by kernel_rfl) (by kernel_rfl) (fun _ _ _ h => h) (Or.inl ⟨by rfl, ?h3⟩) hHeld ?r3
            case h3 => (intro w hSw; (try dsimp only at hSw); go_simp; try with_reducible rfl)
            try simp only [Act.put, List.setIfInBounds_toArray, List.set_cons_zero, List.set_cons_succ]
            refine wpAnyH_take (i := 3) (oi := { dst := some 40, op := Go.Op.load 62 (Go.Operand.tmp 39), type := 62, pos := "l06_parsing.go:165", after := #[{ on := 2, ground := Go.Ground.data }], guard := none }) (v := ?v4) rfl (by kernel_rfl) (by kernel_rfl) (by kernel_rfl) (fun _ _ _ h => h) (Or.inl ⟨by rfl, ?h4⟩) hHeld ?r4
            case h4 => (intro w hSw; (try dsimp only at hSw); go_simp; try with_reducible rfl)
            try simp only [Act.put, List.setIfInBounds_toArray, List.set_cons_zero, List.set_cons_succ]
            refine wpAnyH_take (i := 4) (oi := { dst := some 41, op := Go.Op.move (Go.Operand.tmp 7), type := 3, pos := "l06_parsing.go:165", after := #[], guard := none }) (v := ?v5) rfl (by kernel_rfl) (by kernel_rfl) (by kernel_rfl) (fun _ _ _ h => h) (Or.inl ⟨by rfl, ?h5⟩) hHeld ?r5
            case h5 => (intro w hSw; (try dsimp only at hSw); go_simp; try with_reducible rfl)
            try simp only [Act.put, List.setIfInBounds_toArray, List.set_cons_zero, List.set_cons_succ]
            refine wpAnyH_take (i := 5) (oi := { dst := some 42, op := Go.Op.indexAddr 62 (Go.Operand.tmp 40) (Go.Operand.tmp 41), type := 0, pos := "l06_parsing.go:165", after := #[{ on := 3, ground := Go.Ground.data }, { on := 4, ground := Go.Ground.data }], guard := none }) (v := ?v6) rfl (by kernel_rfl) (by kernel_rfl) (by kernel_rfl) (fun _ _ _ h => h) (Or.inl ⟨by rfl, ?h6⟩) hHeld ?r6
            case h6 => (intro w hSw; (try dsimp only at hSw); go_simp; try with_reducible rfl)
            try simp only [Act.put, List.setIfInBounds_toArray, List.set_cons_zero, List.set_cons_succ]
            refine wpAnyH_take (i := 6) (oi := { dst := some 43, op := Go.Op.load 64 (Go.Operand.tmp 42), type := 64, pos := "l06_parsing.go:165", after := #[{ on := 5, ground := Go.Ground.data }], guard := none }) (v := ?v7) rfl (by kernel_rfl) (by kernel_rfl) (by kernel_rfl) (fun _ _ _ h => h) (Or.inl ⟨by rfl, ?h7⟩) hHeld ?r7
            case h7 => (intro w hSw; (try dsimp only at hSw); go_simp; try with_reducible rfl)
            try simp only [Act.put, List.setIfInBounds_toArray, List.set_cons_zero, List.set_cons_succ]
            refine wpAnyH_ready (rs := [7]) (by kernel_rfl) (by simp) ?_
            refine AllReadyH.cons (o := { dst := some 44, op := Go.Op.call { callee := Go.Callee.value (Go.Operand.func 32), args := #[Go.Operand.tmp 38, Go.Operand.tmp 43], argTypes := #[34, 64] }, type := 27, pos := "l06_parsing.go:165", after := #[{ on := 1, ground := Go.Ground.data }, { on := 6, ground := Go.Ground.data }], guard := none }) rfl (fun K hK => ?_) AllReadyH.nil
            go_simp
            refine Calls.mono HIH.out ?_
            rintro e w7 ⟨g7, c7, rfl, hb7, ho7⟩
            dsimp only
            have hS7 := HHS.out w7 hb7
            have HO7 := (show Hid _ from own_keep1 HOW.out (fun q hq => hb7.block q (World.ownsRow.lt HOW.out q hq).2))
            have HN7 := (show Hid _ from ho7)
            have HB7 := (show Hid _ from hb7)
            have hz7 : w.heap.size + 2 ≤ w7.heap.size := by have h1 := hb7.size; have h2 := HZR.out; have h3 : wr.drew.heap.size = wr.heap.size := rfl; omega
            have HZ7 := (show Hid _ from hz7)
            clear hHeld hb7 ho7 hz7
            refine hK.out _ _ hS7 (fun hHeld => ?_)
            clear hK K
            try simp only [Act.put, List.setIfInBounds_toArray, List.set_cons_zero, List.set_cons_succ]
            refine wpAnyH_ready (rs := [8]) (by kernel_rfl) (by simp) ?_
            refine AllReadyH.cons (o := { dst := some 45, op := Go.Op.call { callee := Go.Callee.builtin Go.Builtin.append, args := #[Go.Operand.tmp 37, Go.Operand.tmp 44], argTypes := #[27, 27] }, type := 27, pos := "l06_parsing.go:165", after := #[{ on := 0, ground := Go.Ground.data }, { on := 7, ground := Go.Ground.data }, { on := 7, ground := Go.Ground.chain }], guard := none }) rfl (fun K hK => ?_) AllReadyH.nil
            (refine step_append_g _ rfl (.tmp 37) (.tmp 44) 27 rfl (w.heap.size + 2) 3 i3 _ 1 8 Try.underlying27 hi3 hz0 hz1 hz2 rfl (by decide) gu cu NN _ (by simp [Act.eval, Act.put]) HO7.out ⟨g7, 0, none⟩ M c7 (iv WK) (by simp [Act.eval, Act.put]) HML.out (fun j u hu => World.ownsRow.cells HN7.out (g := g7) rfl j u hu) (by intro y hy; simp only [iv, List.mem_map] at hy; obtain ⟨z, _, rfl⟩ := hy; rfl) (by have := HLX.out; unfold maxLen; omega) (by have := HLX.out; omega) HZ7.out ?_; intro g8 c8 w8 hown8 hgr8 hat8)
            have hS8 := HHG.out w8 (GW.trans (GW.of_below HB7.out) ⟨hgr8, .inl rfl⟩ : GW wr.drew w8 (.slice (some ⟨gu, 0, none⟩) NN cu) (.slice (some ⟨gu, 0, none⟩) NN cu))
            have HN8 := (show Hid _ from (⟨hown8, hgr8⟩ : _ ∧ _))
            have HG8 := (show Hid (GW w7 w8 (.slice (some ⟨gu, 0, none⟩) NN cu) (.slice (some ⟨g8, 0, none⟩) (NN + M) c8)) from GW.step hgr8 hat8 (Nat.le_refl _))
            clear hHeld hown8 hgr8 hat8
            refine hK.out _ _ hS8 (fun hHeld => ?_)
            clear hK K
            try simp only [Act.put, List.setIfInBounds_toArray, List.set_cons_zero, List.set_cons_succ]
            refine wpAnyH_take (i := 9) (oi := { dst := some 5, op := Go.Op.assign (Go.Operand.tmp 45), type := 27, pos := "l06_parsing.go:165", after := #[{ on := 8, ground := Go.Ground.data }, { on := 8, ground := Go.Ground.chain }, { on := 0, ground := Go.Ground.phase }, { on := 1, ground := Go.Ground.phase }, { on := 2, ground := Go.Ground.phase }, { on := 3, ground := Go.Ground.phase }, { on := 4, ground := Go.Ground.phase }, { on := 5, ground := Go.Ground.phase }, { on := 6, ground := Go.Ground.phase }, { on := 7, ground := Go.Ground.phase }, { on := 8, ground := Go.Ground.phase }], guard := none }) (v := ?v8) rfl (by kernel_rfl) (by kernel_rfl) (by kernel_rfl) (fun _ _ _ h => h) (Or.inl ⟨by rfl, ?h8⟩) hHeld ?r8
            case h8 => (intro w hSw; (try dsimp only at hSw); go_simp; try with_reducible rfl)
            try simp only [Act.put, List.setIfInBounds_toArray, List.set_cons_zero, List.set_cons_succ]
            refine wpAnyH_done (by kernel_rfl) ?_ _
            go_wp2_with fail
            have e1 : (wp d L f a (j + 1)).length = NN + M := by rw [HN.out.2.1, List.length_append, HNN.out, HM.out]
            refine ⟨⟨j + 1, c, g8, c8, by rw [e1], by rw [HN.out.2.2]; go_num, by go_num, by omega, HN.out.1, ?_, ?_⟩, by simp [intOf]; omega⟩
            · rw [e1]
              exact GW.drewN ((HGW.out.trans ((GW.of_below ((Below.refl wr.heap.size wr).drew)).trans (GW.of_below HB7.out))).trans (HG8.out)) 0
            · rw [e1]
              have e2 : iv (wp d L f a (j + 1)) = iv (wp d L f a j) ++ iv WK := by rw [HN.out.2.1]; unfold iv; rw [List.map_append]
              rw [e2]
              exact HN8.out.1
      · have hje : j = P.right.length := by omega
        have HE : Hid (Below w.heap.size w wr ∧ (wp d L f a j).length = (wd d L (f + 1) a).length ∧ wr.ownsRow w.heap.size 3 1 (.slice (some ⟨gu, 0, none⟩) (wd d L (f + 1) a).length cu) (wd d L (f + 1) a).length (iv (wd d L (f + 1) a))) := by
          have h1 := HOW.out
          rw [hje, HWA.out] at h1
          refine ⟨HBW.out, by rw [hje, HWA.out], ⟨h1.1, ?_⟩⟩
          rcases h1.2 with h0 | ⟨g, cp, cur, r1, r2, r3⟩
          · exact .inl h0
          · exact .inr ⟨g, cp, cur, r1, by omega, r3⟩
        clear hje y0 y1 y2 y3 y4 hbw hzr
        go_wp2_with fail
        go_ret
        exact ⟨gu, cu, by rw [HE.out.2.1]; rfl, HE.out.1, HE.out.2.2⟩
end Go.Proofs.Ytpmlagenakcdfaa
