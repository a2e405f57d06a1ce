import Derived.Test.YtilahbfcobhjeaaTf
/-! Programs that are made tighter: l17Tight. -/
namespace Go.Proofs.Ytilahbfcobhjeaa
open Go.RowKit Go.Deep
set_option linter.unusedVariables false
set_option maxRecDepth 100000
set_option linter.unusedSimpArgs false

set_option maxHeartbeats 40000000 in
theorem tight68 {S : Nat → Prop} (l : List DIns) (v : Value) (w : World) (h : InsR w S l v) (hp : pgB l = true) : Calls Try.prog 68 #[v] w (TgA l w) := by
  have hlen : 1 ≤ l.length ∧ l.length ≤ 50000 := by
    unfold pgB at hp; simp only [Bool.and_eq_true] at hp
    have h1 := hp.1
    unfold btB at h1
    simp at h1
    omega
  have hin : ∀ i (hi : i < l.length), inB l.length l[i] = true := fun i hi => (pg_at hp hi).1
  have HLD : Hid (∀ wq (k : Nat), Below w.heap.size w wq → k < l.length → Calls Try.prog 101 #[v, .int .i64 k] wq fun e w' => e = .returned (.int .i64 (ldT l k : Nat)) ∧ w' = wq) := fun wq k hb hk => leads101 l v k wq (h.keep (fun b _ hlt => hb.block b hlt)) hin hlen.2 hk
  have HTO := (show Hid _ from led_to hin)
  have HGS := (show Hid (∀ k (hk : k < (led l).length), gsB (led l)[k].op = true → k + 1 < l.length) from fun k hk hg => gs_next hp hk hg)
  have HTG := (show Hid (∀ bs lt, Lst (led l) bs → Lvs (wtO (notB bs) (led l) (led l).length) (List.replicate (wtO (notB bs) (led l) (led l).length).length false) lt → TgR l (wtO lt (wtO (notB bs) (led l) (led l).length) (wtO (notB bs) (led l) (led l).length).length)) from fun bs lt h1 h2 => TgR.of hin h1 h2)
  obtain ⟨a, cap, b, off, rfl, hc, hm, ha, hcell⟩ := h
  have HC := (show Hid _ from hcell); clear hcell
  obtain ⟨rfl, _⟩ := ha (by omega)
  clear ha
  unfold maxLen at hm
  have HIN := (show Hid _ from hin); clear hin hp
  have HHT := (show Hid _ from fun (x : Int) (w' : World) => hasTo32 x w')
  have HGO := (show Hid _ from fun (x : Int) (w' : World) => goes34 x w')
  obtain ⟨i3, hi3, hzz⟩ := Option.map_eq_some_iff.1 info3p
  simp only [Prod.mk.injEq] at hzz
  obtain ⟨hz0, hz1, hz2⟩ := hzz
  obtain ⟨i57, hi57, hyy⟩ := Option.map_eq_some_iff.1 info57p
  simp only [Prod.mk.injEq] at hyy
  obtain ⟨hy0, hy1, hy2⟩ := hyy
  obtain ⟨i4, hi4, hxx⟩ := Option.map_eq_some_iff.1 info4p
  simp only [Prod.mk.injEq] at hxx
  obtain ⟨hx0, hx1, hx2⟩ := hxx
  have HI0 := (show Hid ((w.alloc (.cells #[] 57)).ownsRow w.heap.size 57 3 (.slice (some ⟨w.heap.size, 0, none⟩) 0 0) 0 []) from ⟨rfl, .inr ⟨w.heap.size, 0, #[], rfl, Nat.le_refl _, blk_alloc_new _ _, Nat.le_refl _, Nat.zero_le _, rfl, rfl⟩⟩)
  have HLL := (show Hid _ from led_len l)
  obtain ⟨hl1, hl2⟩ := hlen
  go_enter Try.func68, Try.ntmps68
  go_wp2_with fail
  go_loopw [3, 4] (fun q i wr => ∃ j g c : Nat, q = .slice (some ⟨g, 0, none⟩) j c ∧ i = .int .i64 j ∧ j ≤ l.length ∧ Hid (Below w.heap.size w wr ∧ wr.ownsRow w.heap.size 57 3 (.slice (some ⟨g, 0, none⟩) j c) j (xv ((led l).take j)))) (fun _ i _ => l.length - (intOf i).toNat)
  case atStart => exact ⟨0, w.heap.size, 0, rfl, rfl, Nat.zero_le _, bel_alloc _ _, HI0.out⟩
  case round =>
    obtain ⟨j, g, c, rfl, rfl, hj, HJ⟩ := hrel
    by_cases hjl : j < l.length
    case pos =>
      obtain ⟨c0, c1, c2⟩ := HC.out j hjl
      have hbw := HJ.out.1
      have hbb : b < w.heap.size := lt_of_cell c0
      rw [← hbw.cell (lt_of_cell c0)] at c0
      rw [← hbw.cell (lt_of_cell c1)] at c1
      rw [← hbw.cell (lt_of_cell c2)] at c2
      have hbq : b < wr.heap.size := lt_of_cell c0
      obtain ⟨_, _, f3, f4, _, _⟩ := in_facts (HIN.out j hjl)
      have HTK := (show Hid _ from led_take hjl)
      have HWX := (show Hid (ldX l l[j] = if htB l[j].op = true then ⟨l[j].op, l[j].n, (ldT l l[j].to_.toNat : Nat)⟩ else ⟨l[j].op, l[j].n, l[j].to_⟩) from rfl)
      have HSZ := (show Hid (w.heap.size ≤ wr.heap.size) from hbw.size)
      clear hbw
      generalize ldX l l[j] = WX at *
      generalize l[j].op = xo at *
      generalize l[j].n = xn at *
      generalize l[j].to_ = xt at *
      have HH := (show Hid _ from fun (w' : World) => HHT.out xo w')
      generalize htB xo = A at *
      cases A
      case false =>
        have hwx := HWX.out
        rw [if_neg (by decide)] at hwx
        clear f3 f4
        have HB2 := (show Hid (Below w.heap.size w ((wr.alloc (.cells #[.int .i64 xo, .int .i64 xn, .int .i64 xt] 57)).alloc (.cells #[.int .i64 xo, .int .i64 xn, .int .i64 xt] 57))) from bel_trans HJ.out.1 (bel2 _ _ _))
        have HO1 := (show Hid _ from own_keep HJ.out.2 (w' := ((wr.alloc (.cells #[.int .i64 xo, .int .i64 xn, .int .i64 xt] 57)).alloc (.cells #[.int .i64 xo, .int .i64 xn, .int .i64 xt] 57))) (fun q hq => (bel2 wr (.cells #[.int .i64 xo, .int .i64 xn, .int .i64 xt] 57) (.cells #[.int .i64 xo, .int .i64 xn, .int .i64 xt] 57)).block q (own_lt HJ.out.2 hq).2))
        have hnb := World.news_of_block (blk_alloc_new (wr.alloc (.cells #[.int .i64 xo, .int .i64 xn, .int .i64 xt] 57)) (.cells #[.int .i64 xo, .int .i64 xn, .int .i64 xt] 57))
        simp only [World.size_alloc] at hnb
        have HNB := (show Hid _ from hnb); clear hnb
        have HNX := (show Hid ((led l).take (j + 1) = (led l).take j ++ [⟨xo, xn, xt⟩]) from (show (led l).take (j + 1) = (led l).take j ++ [⟨xo, xn, xt⟩] from by rw [HTK.out, hwx]))
        clear hwx
        go_wp2_with (first
          | (at_builtin; refine wpList_append_lies _ rfl (.tmp 31) (.tmp 33) 25 rfl w.heap.size 57 i57 _ 3 24 Try.underlying25 hi57 hy0 hy1 hy2 rfl (by decide) _ j _ rfl HO1.out ⟨wr.heap.size + 1, 0, none⟩ 1 1 [.int .i64 xo, .int .i64 xn, .int .i64 xt] rfl rfl HNB.out (by intro u hu; simp at hu; rcases hu with rfl | rfl | rfl <;> rfl) (by decide) (by unfold maxLen; omega) (by omega) (by have := HSZ.out; simp; omega) _ rfl ?_; intro g8 cap8 w8 hown8 hgr8 hat8 hlt8)
          | (go_at_call 32; refine Calls.mono (HH.out _) ?_; rintro e w9 ⟨rfl, rfl⟩))
        have hf : w8.ownsRow w.heap.size 57 3 (.slice (some ⟨g8, 0, none⟩) (j + 1) cap8) (j + 1) (xv ((led l).take (j + 1))) := by
          rw [HNX.out, xv_append]
          exact hown8
        have HF := (show Hid (Below w.heap.size w w8 ∧ w8.ownsRow w.heap.size 57 3 (.slice (some ⟨g8, 0, none⟩) (j + 1) cap8) (j + 1) (xv ((led l).take (j + 1)))) from ⟨HB2.out.grown hgr8 (by have := HSZ.out; simp; omega) (fun q hq => (own_lt HO1.out hq).1), hf⟩)
        clear hown8 hgr8 hat8 hlt8 hf
        exact ⟨⟨j + 1, g8, cap8, rfl, by go_num, by omega, HF.out⟩, by simp [intOf]; omega⟩
      case true =>
        have hwx := HWX.out
        rw [if_pos rfl] at hwx
        have ht1 := f4 rfl
        obtain ⟨t, rfl⟩ : ∃ t : Nat, xt = t := ⟨xt.toNat, by omega⟩
        rw [Int.toNat_natCast] at hwx
        have htl : t < l.length := by omega
        clear f3 f4
        have HB2 := (show Hid (Below w.heap.size w ((wr.alloc (.cells #[.int .i64 xo, .int .i64 xn, .int .i64 (ldT l t : Nat)] 57)).alloc (.cells #[.int .i64 xo, .int .i64 xn, .int .i64 (ldT l t : Nat)] 57))) from bel_trans HJ.out.1 (bel2 _ _ _))
        have HO1 := (show Hid _ from own_keep HJ.out.2 (w' := ((wr.alloc (.cells #[.int .i64 xo, .int .i64 xn, .int .i64 (ldT l t : Nat)] 57)).alloc (.cells #[.int .i64 xo, .int .i64 xn, .int .i64 (ldT l t : Nat)] 57))) (fun q hq => (bel2 wr (.cells #[.int .i64 xo, .int .i64 xn, .int .i64 (ldT l t : Nat)] 57) (.cells #[.int .i64 xo, .int .i64 xn, .int .i64 (ldT l t : Nat)] 57)).block q (own_lt HJ.out.2 hq).2))
        have hnb := World.news_of_block (blk_alloc_new (wr.alloc (.cells #[.int .i64 xo, .int .i64 xn, .int .i64 (ldT l t : Nat)] 57)) (.cells #[.int .i64 xo, .int .i64 xn, .int .i64 (ldT l t : Nat)] 57))
        simp only [World.size_alloc] at hnb
        have HNB := (show Hid _ from hnb); clear hnb
        have HNX := (show Hid ((led l).take (j + 1) = (led l).take j ++ [⟨xo, xn, (ldT l t : Nat)⟩]) from (show (led l).take (j + 1) = (led l).take j ++ [⟨xo, xn, (ldT l t : Nat)⟩] from by rw [HTK.out, hwx]))
        clear hwx
        have HLQ := (show Hid _ from HLD.out (wr.alloc (.cells #[.int .i64 xo, .int .i64 xn, .int .i64 (t : Nat)] 57)) t (bel_trans HJ.out.1 (bel_alloc _ _)) htl)
        go_wp2_with (first
          | (at_builtin; refine wpList_append_lies _ rfl (.tmp 31) (.tmp 33) 25 rfl w.heap.size 57 i57 _ 3 24 Try.underlying25 hi57 hy0 hy1 hy2 rfl (by decide) _ j _ rfl HO1.out ⟨wr.heap.size + 1, 0, none⟩ 1 1 [.int .i64 xo, .int .i64 xn, .int .i64 (ldT l t : Nat)] rfl rfl HNB.out (by intro u hu; simp at hu; rcases hu with rfl | rfl | rfl <;> rfl) (by decide) (by unfold maxLen; omega) (by omega) (by have := HSZ.out; simp; omega) _ rfl ?_; intro g8 cap8 w8 hown8 hgr8 hat8 hlt8)
          | (go_at_call 32; refine Calls.mono (HH.out _) ?_; rintro e w9 ⟨rfl, rfl⟩) | (go_at_call 101; refine Calls.mono HLQ.out ?_; rintro e w9 ⟨rfl, rfl⟩))
        have hf : w8.ownsRow w.heap.size 57 3 (.slice (some ⟨g8, 0, none⟩) (j + 1) cap8) (j + 1) (xv ((led l).take (j + 1))) := by
          rw [HNX.out, xv_append]
          exact hown8
        have HF := (show Hid (Below w.heap.size w w8 ∧ w8.ownsRow w.heap.size 57 3 (.slice (some ⟨g8, 0, none⟩) (j + 1) cap8) (j + 1) (xv ((led l).take (j + 1)))) from ⟨HB2.out.grown hgr8 (by have := HSZ.out; simp; omega) (fun q hq => (own_lt HO1.out hq).1), hf⟩)
        clear hown8 hgr8 hat8 hlt8 hf
        exact ⟨⟨j + 1, g8, cap8, rfl, by go_num, by omega, HF.out⟩, by simp [intOf]; omega⟩
    case neg =>
      obtain rfl : j = l.length := by omega
      have hjo := HJ.out.2
      rw [← HLL.out, List.take_length] at hjo
      obtain ⟨hx1', hx2', hx3'⟩ := XR.of hjo
      have HX := (show Hid (Below w.heap.size w wr ∧ XR wr g (led l)) from ⟨HJ.out.1, hx1'⟩)
      rw [HLL.out] at hx2'
      have HGB := (show Hid _ from (own_lt hjo (b := g) rfl).1)
      have HXM := (show Hid _ from hx3')
      clear hjo hx1' hx3' HJ hjl HC HLD HI0 hj
      generalize hL : led l = L at *
      clear hL
      have HI1 := (show Hid ((wr.alloc (.cells #[] 4)).ownsRow wr.heap.size 4 1 (.slice (some ⟨wr.heap.size, 0, none⟩) 0 0) 0 []) from ⟨rfl, .inr ⟨wr.heap.size, 0, #[], rfl, Nat.le_refl _, blk_alloc_new _ _, Nat.le_refl _, Nat.zero_le _, rfl, rfl⟩⟩)
      go_wp2_with fail
      rename World => wo
      go_loopw [6, 7] (fun q i wq => ∃ j g c : Nat, q = .slice (some ⟨g, 0, none⟩) j c ∧ i = .int .i64 j ∧ j ≤ l.length ∧ Hid (Below wo.heap.size wo wq ∧ wq.ownsRow wo.heap.size 4 1 (.slice (some ⟨g, 0, none⟩) j c) j (bv (List.replicate j true)))) (fun _ i _ => l.length - (intOf i).toNat)
      case atStart => exact ⟨0, wo.heap.size, 0, rfl, rfl, Nat.zero_le _, bel_alloc _ _, HI1.out⟩
      case round =>
        rename World => wq
        obtain ⟨j, g2, c2, rfl, rfl, hj, HQ⟩ := hrel
        by_cases hjl : j < l.length
        case pos =>
          have HB2 := (show Hid (Below wo.heap.size wo (wq.alloc (.cells #[.bool true] 4))) from bel_trans HQ.out.1 (bel_alloc _ _))
          have HO1 := (show Hid _ from own_keep HQ.out.2 (w' := wq.alloc (.cells #[.bool true] 4)) (fun q hq => (bel_alloc wq (.cells #[.bool true] 4)).block q (own_lt HQ.out.2 hq).2))
          have HNB := (show Hid _ from World.news_of_block (blk_alloc_new wq (.cells #[.bool true] 4)))
          have HSZ := (show Hid (wo.heap.size ≤ wq.heap.size) from HQ.out.1.size)
          have HRP := (show Hid (bv (List.replicate (j + 1) true) = bv (List.replicate j true) ++ [.bool true]) from (by show _ = _; rw [rep_succ]; simp [bv]))
          go_wp2_with (at_builtin; refine wpList_append_lies _ rfl (.tmp 42) (.tmp 43) 108 rfl wo.heap.size 4 i4 _ 1 1 Try.underlying108 hi4 hx0 hx1 hx2 rfl (by decide) _ j _ rfl HO1.out ⟨wq.heap.size, 0, none⟩ 1 1 [.bool true] rfl rfl HNB.out (by intro u hu; simp at hu; subst hu; rfl) (by decide) (by unfold maxLen; omega) (by omega) (by have := HSZ.out; simp; omega) _ rfl ?_; intro g8 cap8 w8 hown8 hgr8 hat8 hlt8; have HF := (show Hid (Below wo.heap.size wo w8 ∧ w8.ownsRow wo.heap.size 4 1 (.slice (some ⟨g8, 0, none⟩) (j + 1) cap8) (j + 1) (bv (List.replicate (j + 1) true))) from ⟨HB2.out.grown hgr8 (by have := HSZ.out; simp; omega) (fun q hq => (own_lt HO1.out hq).1), (by rw [HRP.out]; exact hown8)⟩); clear hown8 hgr8 hat8 hlt8)
          exact ⟨⟨j + 1, g8, cap8, rfl, by go_num, by omega, HF.out⟩, by simp [intOf]; omega⟩
        case neg =>
          obtain rfl : j = l.length := by omega
          have hq2 := HQ.out.2
          have hrl : (List.replicate l.length true).length = l.length := by simp
          rw [show wq.ownsRow wo.heap.size 4 1 (.slice (some ⟨g2, 0, none⟩) l.length c2) l.length (bv (List.replicate l.length true)) = wq.ownsRow wo.heap.size 4 1 (.slice (some ⟨g2, 0, none⟩) (List.replicate l.length true).length c2) (List.replicate l.length true).length (bv (List.replicate l.length true)) by rw [hrl]] at hq2
          obtain ⟨hb1, hb2, hb3⟩ := BR.of hq2
          rw [hrl] at hb2
          have HBM := (show Hid _ from hb3)
          have HG2 := (show Hid (wo.heap.size ≤ g2) from (own_lt hq2 (b := g2) rfl).1)
          have HWO := (show Hid (w.heap.size ≤ wo.heap.size) from HX.out.1.size)
          have HY := (show Hid (Below w.heap.size w wq ∧ XR wq g L ∧ BR wq g2 (List.replicate l.length true)) from ⟨bel_trans HX.out.1 HQ.out.1, HX.out.2.still HQ.out.1, hb1⟩)
          clear hq2 hrl hb1 hb3 HQ hjl hj HI1
          have HT0 := (show Hid ((wq.alloc (.cells #[.int .i64 0] 3)).ownsRow w.heap.size 3 1 (.slice (some ⟨wq.heap.size, 0, none⟩) 1 1) 1 (iv (nL [0]))) from ⟨rfl, .inr ⟨wq.heap.size, 1, #[.int .i64 0], rfl, HY.out.1.size, blk_alloc_new _ _, Nat.le_refl _, by unfold maxLen; omega, rfl, rfl⟩⟩)
          have HY0 := (show Hid (Below w.heap.size w (wq.alloc (.cells #[.int .i64 0] 3)) ∧ XR (wq.alloc (.cells #[.int .i64 0] 3)) g L ∧ BR (wq.alloc (.cells #[.int .i64 0] 3)) g2 (List.replicate l.length true)) from ⟨bel_trans HY.out.1 (bel_alloc _ _), HY.out.2.1.still (bel_alloc _ _), HY.out.2.2.still (bel_alloc _ _)⟩)
          clear HX HY
          go_wp2_with fail
          rename World => w3
          go_loopw [8] (fun q wr => ∃ (T : List Nat) (g3 c3 : Nat) (lv : List Bool), q = .slice (some ⟨g3, 0, none⟩) T.length c3 ∧ T.length ≤ c3 ∧ c3 ≤ 9223372036854775807 ∧ Hid (T3 w g g2 g3 c3 L lv T wr ∧ lv.length = l.length ∧ Sn L (notB lv) T ∧ (∀ x, x ∈ T → x < l.length) ∧ T.length + 3 * trL lv ≤ 3 * l.length + 1)) (fun q wr => 3 * trN wr g2 l.length + slN q)
          case atStart =>
            refine ⟨[0], _, _, List.replicate l.length true, rfl, by simp, by omega, ⟨HY0.out.1, HY0.out.2.1, HY0.out.2.2, HT0.out⟩, by simp, ?_, ?_, ?_⟩
            · refine Sn.start _ (by rw [notB_len]; simp; exact HLL.out.symm) (fun k => ?_)
              unfold notB
              by_cases hk : k < l.length
              · rw [getD_at (by simpa using hk)]; simp
              · rw [List.getD_eq_getElem?_getD, List.getElem?_eq_none (by simp; omega)]; rfl
            · intro x hx; simp at hx; omega
            · have : trL (List.replicate l.length true) = l.length := by simp [trL]
              rw [this]; simp; omega
          case round =>
            obtain ⟨T, g3, c3, lv, rfl, hc3, hm3, H⟩ := hrel
            obtain ⟨h31, hlvl, h33, h34, h35⟩ := H.out
            rcases List.eq_nil_or_concat T with rfl | ⟨T0, k, rfl⟩
            case inr =>
              rw [List.concat_eq_append] at *
              have hkl : k < l.length := h34 k (by simp)
              have hkv : k < lv.length := by omega
              have hkL : k < L.length := by rw [HLL.out]; exact hkl
              have hgb : w.heap.size ≤ g2 := Nat.le_trans HWO.out HG2.out
              have ct := h31.last
              have cb := h31.b.cell hkv
              have HTL := (show Hid ((T0 ++ [k]).length = T0.length + 1) from (by show _ = _; simp))
              have kw : IntKind.i64.wrap (((T0.length + 1 : Nat) : Int) - 1) = (T0.length : Int) := by rw [IntKind.wrap_i64]; simp at hc3; omega
              have kw' : (((T0.length + 1 : Nat) : Int) - 1) = (T0.length : Int) := by omega
              have HCU := (show Hid (T3 w g g2 g3 c3 L lv T0 wr) from h31.cut)
              rw [HTL.out] at hc3 ⊢
              have HMU : Hid (trN wr g2 l.length = trL lv) := by
                have := trN_eq h31.b
                rw [hlvl] at this
                exact this
              cases hb : lv[k]
              case false =>
                rw [hb] at cb
                have HN := (show Hid (T3 w g g2 g3 c3 L lv T0 wr ∧ lv.length = l.length ∧ Sn L (notB lv) T0 ∧ (∀ x, x ∈ T0 → x < l.length) ∧ T0.length + 3 * trL lv ≤ 3 * l.length + 1) from ⟨HCU.out, hlvl, h33.skip (k := k) (by rw [notB_at hkv, hb]; rfl) (fun x => by simp), fun x hx => h34 x (by simp [hx]), by simp at h35; omega⟩)
                clear hb h31 h33 h34 h35 H HCU hlvl hkv hkL HMU
                go_wp2_with fail
                exact ⟨⟨T0, g3, c3, lv, rfl, by omega, by omega, HN⟩, by simp [slN]⟩
              case true =>
                rw [hb] at cb
                have HSE := (show Hid (T3 w g g2 g3 c3 L (lv.set k false) T0 (wr.setCell ⟨g2, k, none⟩ (.bool false))) from HCU.out.see hgb k false)
                have HFZ := h31.b.frozen k
                have HTR := (show Hid _ from trL_set hkv hb)
                have HSL := (show Hid ((lv.set k false).length = l.length) from (by show _ = _; simp; exact hlvl))
                obtain ⟨x0, x1, x2⟩ := HSE.out.x.cells hkL
                have hto' := HTO.out k hkL
                have hgs' := HGS.out k hkL
                have HSN := (show Hid (∀ T', (∀ x, x ∈ T0 ++ [k] → x = k ∨ x ∈ T') → (gsB L[k].op = true → k + 1 ∈ T') → (htB L[k].op = true → L[k].to_.toNat ∈ T') → (∀ x, x ∈ T' → x ∈ T0 ++ [k] ∨ (gsB L[k].op = true ∧ x = k + 1) ∨ (htB L[k].op = true ∧ x = L[k].to_.toNat)) → Sn L (notB (lv.set k false)) T') from fun T' q1 q2 q3 q4 => by rw [notB_set hkv]; exact h33.see hkL (by simp) q1 q2 q3 q4)
                have H34 := (show Hid (∀ x, x ∈ T0 → x < l.length) from fun x hx => h34 x (by simp [hx]))
                have H35 := (show Hid (T0.length + 1 + 3 * trL lv ≤ 3 * l.length + 1) from (by show _ ≤ _; simpa using h35))
                have HG2W := (show Hid (g2 < wr.heap.size) from h31.b.lt)
                clear h31 h33 h34 h35 H HCU hlvl
                generalize hxo : L[k].op = xo at *
                generalize hxt : L[k].to_ = xt at *
                have HXO := (show Hid _ from (⟨hxo, hxt⟩ : _ ∧ _)); clear hxo hxt
                have HA := (show Hid _ from fun (w' : World) => HHT.out xo w')
                have HG := (show Hid _ from fun (w' : World) => HGO.out xo w')
                generalize htB xo = A at *
                generalize gsB xo = G at *
                clear x1 hb
                cases G
                case false =>
                  cases A
                  case false =>
                    clear hto' hgs'
                    go_wp2_with (first | (go_at_call 34; refine Calls.mono (HG.out _) ?_; rintro e w9 ⟨rfl, hw9⟩; rw [hw9]; clear hw9 w9) | (go_at_call 32; refine Calls.mono (HA.out _) ?_; rintro e w9 ⟨rfl, hw9⟩; rw [hw9]; clear hw9 w9))
                    have HN := (show Hid (T3 w g g2 g3 c3 L (lv.set k false) T0 (wr.setCell ⟨g2, k, none⟩ (.bool false)) ∧ (lv.set k false).length = l.length ∧ Sn L (notB (lv.set k false)) T0 ∧ (∀ x, x ∈ T0 → x < l.length) ∧ T0.length + 3 * trL (lv.set k false) ≤ 3 * l.length + 1) from ⟨HSE.out, HSL.out, HSN.out T0 (fun x hx => by simp at hx; rcases hx with h | h; exact .inr h; exact .inl h) (fun h => by cases h) (fun h => by cases h) (fun x hx => .inl (by simp [hx])), H34.out, by have := HTR.out; have := H35.out; omega⟩)
                    have hmu := trN_eq HSE.out.b
                    rw [HSL.out] at hmu
                    exact ⟨⟨T0, g3, c3, lv.set k false, rfl, by omega, by omega, HN⟩, by rw [hmu, HMU.out]; have := HTR.out; simp [slN]; omega⟩
                  case true =>
                    obtain ⟨t0, t1⟩ := hto' rfl
                    obtain ⟨t, rfl⟩ : ∃ t : Nat, xt = t := ⟨xt.toNat, by omega⟩
                    have htl : t < l.length := by rw [HLL.out] at t1; omega
                    clear hto' hgs'
                    have HALb := (show Hid _ from T3.alloc HSE.out (.cells #[.int .i64 (t : Int)] 3))
                    have hnb := World.news_of_block (blk_alloc_new (wr.setCell ⟨g2, k, none⟩ (.bool false)) (.cells #[.int .i64 (t : Int)] 3))
                    rw [show (wr.setCell ⟨g2, k, none⟩ (.bool false)).heap.size = wr.heap.size by simp] at hnb
                    have HNBb := (show Hid _ from hnb); clear hnb
                    have HSZb := (show Hid _ from HSE.out.bel.size)
                    go_wp2_with (first
                      | (at_builtin; (refine wpList_append_lies _ rfl (.tmp 85) (.tmp 91) 29 rfl w.heap.size 3 i3 _ 1 8 Try.underlying29 hi3 hz0 hz1 hz2 rfl (by decide) _ T0.length _ rfl HALb.out.t ⟨wr.heap.size, 0, none⟩ 1 1 [.int .i64 (t : Int)] rfl rfl HNBb.out (by intro u hu; simp at hu; subst hu; rfl) (by decide) (by unfold maxLen; have := H35.out; omega) (by have := H35.out; omega) (by have := HSZb.out; simp at this ⊢; omega) _ rfl ?_); intro g8b cap8b w8b hown8b hgr8b hat8b hlt8b)
                      | (go_at_call 34; refine Calls.mono (HG.out _) ?_; rintro e w9 ⟨rfl, hw9⟩; rw [hw9]; clear hw9 w9) | (go_at_call 32; refine Calls.mono (HA.out _) ?_; rintro e w9 ⟨rfl, hw9⟩; rw [hw9]; clear hw9 w9))
                    have HP2 := (show Hid (T3 w g g2 g8b cap8b L (lv.set k false) (T0 ++ [t]) w8b) from HALb.out.app (k := t) hgr8b hown8b)
                    have hcx := (own_row HP2.out.t).1
                    have hcy := (own_row HP2.out.t).2.1
                    unfold maxLen at hcy
                    have hmu := trN_eq HP2.out.b
                    rw [HSL.out] at hmu
                    refine ⟨⟨(T0 ++ [t]), g8b, cap8b, lv.set k false, ?_, hcx, by omega, HP2.out, HSL.out, HSN.out _ ?_ ?_ ?_ ?_, ?_, ?_⟩, ?_⟩
                    · simp
                    · intro x hx
                      simp only [List.mem_append, List.mem_singleton] at hx ⊢
                      rcases hx with h | h
                      · exact .inr (by simp [h])
                      · exact .inl h
                    · intro h; cases h
                    · intro _; simp
                    · intro x hx
                      simp only [List.mem_append, List.mem_singleton] at hx ⊢
                      rcases hx with h | h
                      · exact .inl (.inl h)
                      · exact .inr (.inr ⟨by trivial, by rw [h]; simp⟩)
                    · intro x hx
                      simp only [List.mem_append, List.mem_singleton] at hx
                      rcases hx with h | h
                      · exact H34.out x h
                      · omega
                    · have h1 := HTR.out
                      have h2 := H35.out
                      simp only [List.length_append, List.length_cons, List.length_nil]
                      omega
                    · rw [hmu, HMU.out]
                      have h1 := HTR.out
                      simp [slN]
                      omega
                case true =>
                  cases A
                  case false =>
                    have hk1 := hgs' rfl
                    have kw1 : IntKind.i64.wrap ((k : Int) + 1) = ((k + 1 : Nat) : Int) := by rw [IntKind.wrap_i64]; omega
                    clear hto' hgs'
                    have HLa := (show Hid ((T0 ++ [k + 1]).length = T0.length + 1) from (by show _ = _; simp))
                    have HALa := (show Hid _ from T3.alloc HSE.out (.cells #[.int .i64 ((k : Int) + 1)] 3))
                    have hnb := World.news_of_block (blk_alloc_new (wr.setCell ⟨g2, k, none⟩ (.bool false)) (.cells #[.int .i64 ((k : Int) + 1)] 3))
                    rw [show (wr.setCell ⟨g2, k, none⟩ (.bool false)).heap.size = wr.heap.size by simp] at hnb
                    have HNBa := (show Hid _ from hnb); clear hnb
                    have HSZa := (show Hid _ from HSE.out.bel.size)
                    go_wp2_with (first
                      | (at_builtin; (refine wpList_append_lies _ rfl (.tmp 74) (.tmp 77) 29 rfl w.heap.size 3 i3 _ 1 8 Try.underlying29 hi3 hz0 hz1 hz2 rfl (by decide) _ T0.length _ rfl HALa.out.t ⟨wr.heap.size, 0, none⟩ 1 1 [.int .i64 ((k : Int) + 1)] rfl rfl HNBa.out (by intro u hu; simp at hu; subst hu; rfl) (by decide) (by unfold maxLen; have := H35.out; omega) (by have := H35.out; omega) (by have := HSZa.out; simp at this ⊢; omega) _ rfl ?_); intro g8a cap8a w8a hown8a hgr8a hat8a hlt8a; have HP1 := (show Hid (T3 w g g2 g8a cap8a L (lv.set k false) (T0 ++ [k + 1]) w8a) from HALa.out.app1 hgr8a hown8a); have hca := (own_row HP1.out.t).1; have hcm := (own_row HP1.out.t).2.1; rw [HLa.out] at hca; unfold maxLen at hcm; obtain ⟨z0, _, z2⟩ := HP1.out.x.cells hkL; rw [HXO.out.1] at z0; rw [HXO.out.2] at z2; have HALb := (show Hid _ from T3.alloc HP1.out (.cells #[.int .i64 xt] 3)); have hob := HALb.out.t; rw [HLa.out] at hob; have HOB := (show Hid _ from hob); clear hob; have HNBb := (show Hid _ from World.news_of_block (blk_alloc_new w8a (.cells #[.int .i64 xt] 3))); have HSZb := (show Hid _ from HP1.out.bel.size); clear hown8a hgr8a hat8a hlt8a HALa HNBa)
                      | (go_at_call 34; refine Calls.mono (HG.out _) ?_; rintro e w9 ⟨rfl, hw9⟩; rw [hw9]; clear hw9 w9) | (go_at_call 32; refine Calls.mono (HA.out _) ?_; rintro e w9 ⟨rfl, hw9⟩; rw [hw9]; clear hw9 w9))
                    have hcx := (own_row HP1.out.t).1
                    have hcy := (own_row HP1.out.t).2.1
                    unfold maxLen at hcy
                    have hmu := trN_eq HP1.out.b
                    rw [HSL.out] at hmu
                    refine ⟨⟨(T0 ++ [k + 1]), g8a, cap8a, lv.set k false, ?_, hcx, by omega, HP1.out, HSL.out, HSN.out _ ?_ ?_ ?_ ?_, ?_, ?_⟩, ?_⟩
                    · simp
                    · intro x hx
                      simp only [List.mem_append, List.mem_singleton] at hx ⊢
                      rcases hx with h | h
                      · exact .inr (by simp [h])
                      · exact .inl h
                    · intro _; simp
                    · intro h; cases h
                    · intro x hx
                      simp only [List.mem_append, List.mem_singleton] at hx ⊢
                      rcases hx with h | h
                      · exact .inl (.inl h)
                      · exact .inr (.inl ⟨by trivial, h⟩)
                    · intro x hx
                      simp only [List.mem_append, List.mem_singleton] at hx
                      rcases hx with h | h
                      · exact H34.out x h
                      · omega
                    · have h1 := HTR.out
                      have h2 := H35.out
                      simp only [List.length_append, List.length_cons, List.length_nil]
                      omega
                    · rw [hmu, HMU.out]
                      have h1 := HTR.out
                      simp [slN]
                      omega
                  case true =>
                    obtain ⟨t0, t1⟩ := hto' rfl
                    obtain ⟨t, rfl⟩ : ∃ t : Nat, xt = t := ⟨xt.toNat, by omega⟩
                    have htl : t < l.length := by rw [HLL.out] at t1; omega
                    have hk1 := hgs' rfl
                    have kw1 : IntKind.i64.wrap ((k : Int) + 1) = ((k + 1 : Nat) : Int) := by rw [IntKind.wrap_i64]; omega
                    clear hto' hgs'
                    have HLa := (show Hid ((T0 ++ [k + 1]).length = T0.length + 1) from (by show _ = _; simp))
                    have HALa := (show Hid _ from T3.alloc HSE.out (.cells #[.int .i64 ((k : Int) + 1)] 3))
                    have hnb := World.news_of_block (blk_alloc_new (wr.setCell ⟨g2, k, none⟩ (.bool false)) (.cells #[.int .i64 ((k : Int) + 1)] 3))
                    rw [show (wr.setCell ⟨g2, k, none⟩ (.bool false)).heap.size = wr.heap.size by simp] at hnb
                    have HNBa := (show Hid _ from hnb); clear hnb
                    have HSZa := (show Hid _ from HSE.out.bel.size)
                    go_wp2_with (first
                      | (at_builtin; (refine wpList_append_lies _ rfl (.tmp 74) (.tmp 77) 29 rfl w.heap.size 3 i3 _ 1 8 Try.underlying29 hi3 hz0 hz1 hz2 rfl (by decide) _ T0.length _ rfl HALa.out.t ⟨wr.heap.size, 0, none⟩ 1 1 [.int .i64 ((k : Int) + 1)] rfl rfl HNBa.out (by intro u hu; simp at hu; subst hu; rfl) (by decide) (by unfold maxLen; have := H35.out; omega) (by have := H35.out; omega) (by have := HSZa.out; simp at this ⊢; omega) _ rfl ?_); intro g8a cap8a w8a hown8a hgr8a hat8a hlt8a; have HP1 := (show Hid (T3 w g g2 g8a cap8a L (lv.set k false) (T0 ++ [k + 1]) w8a) from HALa.out.app1 hgr8a hown8a); have hca := (own_row HP1.out.t).1; have hcm := (own_row HP1.out.t).2.1; rw [HLa.out] at hca; unfold maxLen at hcm; obtain ⟨z0, _, z2⟩ := HP1.out.x.cells hkL; rw [HXO.out.1] at z0; rw [HXO.out.2] at z2; have HALb := (show Hid _ from T3.alloc HP1.out (.cells #[.int .i64 (t : Int)] 3)); have hob := HALb.out.t; rw [HLa.out] at hob; have HOB := (show Hid _ from hob); clear hob; have HNBb := (show Hid _ from World.news_of_block (blk_alloc_new w8a (.cells #[.int .i64 (t : Int)] 3))); have HSZb := (show Hid _ from HP1.out.bel.size); clear hown8a hgr8a hat8a hlt8a HALa HNBa)
                      | (at_builtin; (refine wpList_append_lies _ rfl (.tmp 85) (.tmp 91) 29 rfl w.heap.size 3 i3 _ 1 8 Try.underlying29 hi3 hz0 hz1 hz2 rfl (by decide) _ (T0.length + 1) _ rfl HOB.out ⟨w8a.heap.size, 0, none⟩ 1 1 [.int .i64 (t : Int)] rfl rfl HNBb.out (by intro u hu; simp at hu; subst hu; rfl) (by decide) (by unfold maxLen; have := H35.out; omega) (by have := H35.out; omega) (by have := HSZb.out; simp at this ⊢; omega) _ rfl ?_); intro g8b cap8b w8b hown8b hgr8b hat8b hlt8b) | (go_at_call 34; refine Calls.mono (HG.out _) ?_; rintro e w9 ⟨rfl, hw9⟩; rw [hw9]; clear hw9 w9) | (go_at_call 32; refine Calls.mono (HA.out _) ?_; rintro e w9 ⟨rfl, hw9⟩; rw [hw9]; clear hw9 w9))
                    have HP2 := (show Hid (T3 w g g2 g8b cap8b L (lv.set k false) ((T0 ++ [k + 1]) ++ [t]) w8b) from HALb.out.app (k := t) hgr8b (by rw [HLa.out]; exact hown8b))
                    have hcx := (own_row HP2.out.t).1
                    have hcy := (own_row HP2.out.t).2.1
                    unfold maxLen at hcy
                    have hmu := trN_eq HP2.out.b
                    rw [HSL.out] at hmu
                    refine ⟨⟨((T0 ++ [k + 1]) ++ [t]), g8b, cap8b, lv.set k false, ?_, hcx, by omega, HP2.out, HSL.out, HSN.out _ ?_ ?_ ?_ ?_, ?_, ?_⟩, ?_⟩
                    · simp
                    · intro x hx
                      simp only [List.mem_append, List.mem_singleton] at hx ⊢
                      rcases hx with h | h
                      · exact .inr (by simp [h])
                      · exact .inl h
                    · intro _; simp
                    · intro _; simp
                    · intro x hx
                      simp only [List.mem_append, List.mem_singleton] at hx ⊢
                      rcases hx with (h | h) | h
                      · exact .inl (.inl h)
                      · exact .inr (.inl ⟨by trivial, h⟩)
                      · exact .inr (.inr ⟨by trivial, by rw [h]; simp⟩)
                    · intro x hx
                      simp only [List.mem_append, List.mem_singleton] at hx
                      rcases hx with (h | h) | h
                      · exact H34.out x h
                      · omega
                      · omega
                    · have h1 := HTR.out
                      have h2 := H35.out
                      simp only [List.length_append, List.length_cons, List.length_nil]
                      omega
                    · rw [hmu, HMU.out]
                      have h1 := HTR.out
                      simp [slN]
                      omega
            case inl =>
              have HLS := (show Hid _ from h33.done)
              have HNN := (show Hid (notB (notB lv) = lv) from notB_notB lv)
              have hto2 := wtO_to (lb := lv) (l := L) (by rw [HLL.out]; exact hlvl) HTO.out (by have h := lst_cl HLS.out HTO.out; rw [HNN.out] at h; exact h) L.length (Nat.le_refl _)
              have hl2e := wtO_leng (lb := lv) (l := L) (by rw [HLL.out]; exact hlvl) L.length (Nat.le_refl _)
              have hl2l := wtO_len lv L L.length
              have hT2 := fun lt h => HTG.out (notB lv) lt HLS.out h
              rw [HNN.out] at hT2
              have HW1 := (show Hid _ from without102 L lv (.slice (some ⟨g, 0, none⟩) L.length c) (.slice (some ⟨g2, 0, none⟩) lv.length c2) wr (h31.x.ins (by rw [HLL.out]; exact hx2') HXM.out) (h31.b.bls (by rw [hlvl]; exact hb2) HBM.out) (by rw [HLL.out]; exact hlvl) (by rw [HLL.out]; exact hl2) HTO.out)
              have HBL := (show Hid _ from h31.bel)
              rw [hlvl, HLL.out] at HW1
              rw [← HLL.out] at HW1
              generalize hL2 : wtO lv L L.length = L2 at *
              rw [HLL.out] at HW1 hl2l
              have H2T : Hid (∀ i (hi : i < L2.length), htB L2[i].op = true → 0 ≤ L2[i].to_ ∧ L2[i].to_ < L2.length) := fun i hi hh => (by have h := hto2 L2[i] (List.getElem_mem hi) hh; rw [← hl2e] at h; exact h)
              have HT2 := (show Hid _ from hT2)
              clear H h31 h33 h34 h35 hto2 hl2e hT2 hL2 hlvl HLS HNN HTG HTO HGS HLL HXM HBM HGB HG2 HWO HT0 HY0 hc3 hm3 hx2' hb2 HIN
              unfold WoA at HW1
              go_wp2_with fail
              refine Calls.mono HW1.out ?_
              rintro e w4 ⟨g5, c5, rfl, hb4, ho4⟩
              obtain ⟨hx5, hx6, hx7⟩ := XR.of ho4
              have HB4 := (show Hid _ from bel_trans HBL.out hb4)
              obtain ⟨n2, hn2⟩ : ∃ n2, L2.length = n2 := ⟨_, rfl⟩
              have hmk := run_makeB n2 (by omega) w4
              have H5 := (show Hid (Below w.heap.size w (w4.alloc (.cells (madeCells #[.bool false] n2) 4)) ∧ XR (w4.alloc (.cells (madeCells #[.bool false] n2) 4)) g5 L2 ∧ BR (w4.alloc (.cells (madeCells #[.bool false] n2) 4)) w4.heap.size (List.replicate n2 false)) from ⟨bel_trans HB4.out (bel_alloc _ _), hx5.still (bel_alloc _ _), BR.made w4 n2⟩)
              have HSW := (show Hid (w.heap.size ≤ w4.heap.size) from HB4.out.size)
              have kwz : IntKind.i64.wrap ((n2 : Int) - 1) = (n2 : Int) - 1 := by rw [IntKind.wrap_i64]; omega
              have HX7 := (show Hid _ from hx7)
              rw [hn2] at hx6 hl2l ⊢
              have HN2 := (show Hid _ from hn2)
              clear hx5 hx7 hb4 ho4 HBL HW1 HB4 hn2
              go_wp2_with fail
              generalize hW5 : w4.alloc (.cells (madeCells #[.bool false] n2) 4) = w5 at *
              clear hW5 hmk
              generalize hg6 : w4.heap.size = g6 at *
              clear hg6
              go_loopw [10, 11] (fun p q wr => ∃ (k nx : Nat) (lv2 : List Bool), p = .int .i64 (nx : Int) ∧ q = .int .i64 ((k : Int) - 1) ∧ k ≤ n2 ∧ nx ≤ n2 ∧ Hid (Below w.heap.size w wr ∧ XR wr g5 L2 ∧ BR wr g6 lv2 ∧ Bw L2 (List.replicate n2 false) lv2 k nx ∧ (∀ j (hj : j < lv2.length), j < k → lv2[j] = false) ∧ lv2.length = n2)) (fun _ q _ => (intOf q + 1).toNat)
              case atStart =>
                refine ⟨n2, n2, List.replicate n2 false, rfl, rfl, Nat.le_refl _, Nat.le_refl _, H5.out.1, H5.out.2.1, H5.out.2.2, ?_, fun j hj _ => by simp, by simp⟩
                have h := Bw.start (l := L2) (b := List.replicate n2 false) (lv := List.replicate n2 false) (by simp; exact HN2.out.symm)
                rw [HN2.out] at h
                exact h
              case round =>
                rename World => wq
                obtain ⟨k, nx, lv2, rfl, rfl, hk, hnx, HQ⟩ := hrel
                obtain ⟨q1, q2, q3, q4, q5, q6⟩ := HQ.out
                cases k
                case zero =>
                  have kz : ((0 : Nat) : Int) - 1 = -1 := by omega
                  rw [kz]
                  have HDN := (show Hid _ from q4.done)
                  have HW2 := (show Hid _ from without102 L2 lv2 (.slice (some ⟨g5, 0, none⟩) L2.length c5) (.slice (some ⟨g6, 0, none⟩) lv2.length n2) wq (q2.ins (by rw [HN2.out]; exact hx6) HX7.out) (q3.bls (by rw [q6]; exact Nat.le_refl _) (by unfold maxLen; omega)) (by rw [HN2.out]; exact q6) (by rw [HN2.out]; omega) H2T.out)
                  rw [HN2.out, q6] at HW2
                  have HTR := (show Hid (TgR l (wtO lv2 L2 n2)) from (by have h := HT2.out lv2 (by rw [HN2.out]; exact HDN.out); rw [HN2.out] at h; exact h))
                  have HQ1 := (show Hid _ from q1)
                  clear q1 q2 q3 q4 q5 HQ HDN
                  generalize wtO lv2 L2 n2 = RES at *
                  unfold WoA at HW2
                  go_wp2_with fail
                  refine Calls.mono HW2.out ?_
                  rintro e w6 ⟨g7, c7, rfl, hb6, ho6⟩
                  have HE := (show Hid (TgA l w (.returned (.slice (some ⟨g7, 0, none⟩) RES.length c7)) w6) from ⟨RES, g7, c7, HTR.out, rfl, bel_trans HQ1.out hb6, own_base ho6 HQ1.out.size⟩)
                  clear hb6 ho6
                  go_wp2_with fail
                  go_ret
                  exact HE.out
                case succ i =>
                  have ki : ((i + 1 : Nat) : Int) - 1 = (i : Int) := by omega
                  rw [ki]
                  have hil : i < L2.length := by rw [HN2.out]; omega
                  obtain ⟨x0, _, x2⟩ := q2.cells hil
                  have hat := insAt_at hil
                  have hto3 := H2T.out i hil
                  have HST := (show Hid (∀ v : Bool, (v = true ↔ (htB L2[i].op = true ∧ (i : Int) < L2[i].to_ ∧ L2[i].to_ ≤ nx)) → Bw L2 (List.replicate n2 false) (lv2.set i v) i (if v = true then nx else i)) from fun v hv => q4.step hil (fun hh => by rw [hat] at hh ⊢; have := (hto3 hh).2; omega) (by
                    rw [hat, hv]
                    have e : (List.replicate n2 false).getD i false = false := by
                      rw [List.getD_eq_getElem?_getD]
                      by_cases hin : i < n2
                      · simp [hin]
                      · rw [List.getElem?_eq_none (by simp; omega)]; rfl
                    rw [e]
                    simp))
                  have hi2 : i < lv2.length := by omega
                  have cb := q3.cell hi2
                  have cf := q3.frozen i
                  have HSF := (show Hid (lv2.set i false = lv2) from (by show _ = _; have h := q5 i hi2 (by omega); rw [← h]; exact List.set_getElem_self hi2))
                  have HQ1 := (show Hid (Below w.heap.size w wq ∧ XR wq g5 L2 ∧ BR wq g6 lv2 ∧ lv2.length = n2) from ⟨q1, q2, q3, q6⟩)
                  have H5B := (show Hid (∀ j (hj : j < lv2.length), j < i → lv2[j] = false) from fun j hj hji => q5 j hj (by omega))
                  have kwi : IntKind.i64.wrap ((i : Int) - 1) = (i : Int) - 1 := by rw [IntKind.wrap_i64]; omega
                  have HGW := (show Hid (w.heap.size ≤ g6) from HSW.out)
                  clear q1 q2 q3 q4 q5 HQ hat
                  generalize L2[i].op = xo at *
                  generalize L2[i].to_ = xt at *
                  have HA := (show Hid _ from fun (w' : World) => HHT.out xo w')
                  generalize htB xo = A at *
                  have HNO := (show Hid (¬ (A = true ∧ (i : Int) < xt ∧ xt ≤ nx) → Bw L2 (List.replicate n2 false) lv2 i i) from fun h => by have h2 := HST.out false ⟨fun h3 => (by cases h3), fun h3 => absurd h3 h⟩; rw [HSF.out] at h2; simpa using h2)
                  have HYES := (show Hid (A = true ∧ (i : Int) < xt ∧ xt ≤ nx → Bw L2 (List.replicate n2 false) (lv2.set i true) i nx) from fun h => by have h2 := HST.out true ⟨fun _ => h, fun _ => rfl⟩; simpa using h2)
                  clear HST
                  cases A
                  case false =>
                    have HBW := (show Hid _ from HNO.out (by simp))
                    clear HNO HYES hto3 HSF
                    go_wp2_with (go_at_call 32; refine Calls.mono (HA.out _) ?_; rintro e w9 ⟨rfl, hw9⟩; rw [hw9]; clear hw9 w9)
                    exact ⟨⟨i, i, lv2, rfl, rfl, by omega, by omega, HQ1.out.1, HQ1.out.2.1, HQ1.out.2.2.1, HBW.out, H5B.out, HQ1.out.2.2.2⟩, by simp [intOf]⟩
                  case true =>
                    by_cases h1 : (i : Int) < xt
                    case neg =>
                      have HBW := (show Hid _ from HNO.out (fun h => h1 h.2.1))
                      clear HNO HYES hto3 HSF
                      go_wp2_with (go_at_call 32; refine Calls.mono (HA.out _) ?_; rintro e w9 ⟨rfl, hw9⟩; rw [hw9]; clear hw9 w9)
                      exact ⟨⟨i, i, lv2, rfl, rfl, by omega, by omega, HQ1.out.1, HQ1.out.2.1, HQ1.out.2.2.1, HBW.out, H5B.out, HQ1.out.2.2.2⟩, by simp [intOf]⟩
                    by_cases h2 : xt ≤ nx
                    case neg =>
                      have HBW := (show Hid _ from HNO.out (fun h => h2 h.2.2))
                      clear HNO HYES hto3 HSF
                      go_wp2_with (go_at_call 32; refine Calls.mono (HA.out _) ?_; rintro e w9 ⟨rfl, hw9⟩; rw [hw9]; clear hw9 w9)
                      exact ⟨⟨i, i, lv2, rfl, rfl, by omega, by omega, HQ1.out.1, HQ1.out.2.1, HQ1.out.2.2.1, HBW.out, H5B.out, HQ1.out.2.2.2⟩, by simp [intOf]⟩
                    have HBW := (show Hid _ from HYES.out ⟨rfl, h1, h2⟩)
                    have HNX := (show Hid (Below w.heap.size w (wq.setCell ⟨g6, i, none⟩ (.bool true)) ∧ XR (wq.setCell ⟨g6, i, none⟩ (.bool true)) g5 L2 ∧ BR (wq.setCell ⟨g6, i, none⟩ (.bool true)) g6 (lv2.set i true)) from ⟨HQ1.out.1.setCell (by exact HGW.out) _, HQ1.out.2.1.keep (blk_setCell_other _ _ _ _ (by show g5 ≠ g6; exact fun e => (HQ1.out.2.2.1.apart HQ1.out.2.1) e.symm)), HQ1.out.2.2.1.set i true⟩)
                    have H5C := (show Hid (∀ j (hj : j < (lv2.set i true).length), j < i → (lv2.set i true)[j] = false) from fun j hj hji => by rw [List.getElem_set_ne (by omega)]; exact H5B.out j (by simpa using hj) hji)
                    clear HNO HYES hto3 HSF
                    go_wp2_with (go_at_call 32; refine Calls.mono (HA.out _) ?_; rintro e w9 ⟨rfl, hw9⟩; rw [hw9]; clear hw9 w9)
                    exact ⟨⟨i, nx, lv2.set i true, rfl, rfl, by omega, by omega, HNX.out.1, HNX.out.2.1, HNX.out.2.2, HBW.out, H5C.out, by rw [List.length_set]; exact HQ1.out.2.2.2⟩, by simp [intOf]⟩
end Go.Proofs.Ytilahbfcobhjeaa
