import Derived.Test.YtanbdfeoijflaaaDoorMo
import Derived.Test.YtanbdfeoijflaaaDoorPf
/-! Reading a program: the program. -/
namespace Go.Proofs.YtanbdfeoijflaaaDoor
open Go.RowKit Go.Deep
set_option linter.unusedVariables false
set_option maxRecDepth 100000
set_option linter.unusedSimpArgs false

set_option maxHeartbeats 6400000 in
/-- The program's ProgramRead. -/
theorem iRead11 (s : List UInt8) (hs : s.length ≤ 1048576) (w : World) (hm : MxL w) :
    Calls Tryd.prog 11 #[.string (bs s)] w (PrA (rdR s) w) := by
  have hsz : (bs s).size = s.length := bs_size s
  by_cases hbig : 400000 < s.length
  · have hR : rdR s = ([], 1, 0) := by unfold rdR; rw [if_pos hbig]
    rw [hR]
    have hd : decide ((400000 : Int) < ((bs s).size : Int)) = true := by rw [hsz]; simp; omega
    clear hR
    generalize bs s = sX at *
    go_enter Tryd.func11, Tryd.ntmps11
    go_wp2_with fail
    refine bodyPost_ret (v := .tuple #[.slice none 0 0, .int .i64 1, .int .i64 0]) (by simp [results, Tryd.results11, go_sem]) rfl ?_
    exact ⟨.slice none 0 0, rfl, Below.refl _ _, rfl, .inl ⟨rfl, rfl⟩⟩
  · have hR : rdR s = rdg (s.length + 1) s [] := by unfold rdR; rw [if_neg hbig]
    rw [hR]
    obtain ⟨R, hRR⟩ : ∃ R, rdg (s.length + 1) s [] = R := ⟨_, rfl⟩
    rw [hRR]
    have HRR := (show Hid (rdg (s.length + 1) s [] = R) from hRR)
    have HSL := (show Hid (s.length ≤ 400000) from Nat.le_of_not_lt hbig)
    have HM := (show Hid (∀ W, Below w.heap.size w W → MxL W) from fun W hb => hm.still hb)
    have hd : decide ((400000 : Int) < ((bs s).size : Int)) = false := by rw [hsz]; simp; omega
    clear hR hRR hbig hsz hm hs
    have hz := zr65
    have hr := rows36 w
    have HR := (show Hid _ from hr)
    have H1 := (show Hid (Below w.heap.size w ((w.alloc (.cells tbA 46)).alloc (.cells tbA 46))) from bel2 w (.cells tbA 46) (.cells tbA 46))
    have HTL := (show Hid (TbL ((w.alloc (.cells tbA 46)).alloc (.cells tbA 46)) (w.heap.size + 1)) from by show TbL _ _; have := TbL.new (w.alloc (.cells tbA 46)); simpa using this)
    have hst := sto65g (w.alloc (.cells tbA 46)) (w.heap.size + 1) (by simp)
    have HS0 := (show Hid (0 ≤ 0) from Nat.le_refl 0)
    clear hr
    obtain ⟨sX, hsX⟩ : ∃ sX, bs s = sX := ⟨_, rfl⟩
    rw [hsX] at hd ⊢
    go_enter Tryd.func11, Tryd.ntmps11
    go_wp2_with fail
    refine Calls.mono HR.out ?_
    rintro e w2 ⟨rfl, rfl⟩
    go_wp2_with fail
    clear hst hz HR hd
    obtain ⟨W4, hW4⟩ : ∃ W4, (w.alloc (.cells tbA 46)).alloc (.cells tbA 46) = W4 := ⟨_, rfl⟩
    rw [hW4] at H1 HTL ⊢
    clear hW4
    generalize w.heap.size + 1 = g at *
    have H0 := (show Hid (XA W4.heap.size W4 W4 (.slice none 0 0) []) from ⟨⟨rfl, .inl ⟨rfl, rfl⟩⟩, Below.refl _ _, Nat.le_refl _⟩)
    go_loopw [0, 6] (fun u0 u6 wr => ∃ (s' : List UInt8) (f : Nat) (acc : List DIns) (ta : Option Addr) (tc : Nat), u0 = .string (bs s') ∧ u6 = .slice ta acc.length tc ∧ Hid (s'.length < f ∧ acc.length + s'.length ≤ 400000 ∧ rdg f s' acc = R ∧ XA W4.heap.size W4 wr (.slice ta acc.length tc) acc)) (fun u0 _ _ => szS u0)
    case atStart => exact ⟨s, s.length + 1, [], none, 0, by rw [hsX], rfl, by omega, by have := HSL.out; simpa using this, HRR.out, H0.out⟩
    case round =>
      obtain ⟨s', f, acc, ta, tc, rfl, rfl, HJ⟩ := hrel
      obtain ⟨hlf, hal, hrd, hxa⟩ := HJ.out
      clear HJ
      obtain ⟨f, rfl⟩ : ∃ f', f = f' + 1 := ⟨f - 1, by omega⟩
      by_cases hnil : s' = []
      · subst hnil
        have hbsn : bs ([] : List UInt8) = ⟨#[]⟩ := rfl
        rw [hbsn]
        rw [rdg_nil] at hrd
        have HI := (show Hid _ from own_insR hxa.own)
        have HPG := (show Hid _ from iPg11 acc _ wr HI.out)
        have HX := (show Hid _ from hxa)
        have HB := (show Hid (Below w.heap.size w wr) from H1.out.trans (hxa.bel.mono H1.out.size))
        clear hxa hlf
        cases hpg : pgB acc
        · rw [hpg] at hrd HPG
          rw [if_neg (by decide)] at hrd
          have HRD := (show Hid _ from hrd)
          clear hrd hpg
          go_wp2_with fail
          refine Calls.mono HPG.out ?_
          rintro e w5 ⟨rfl, hb5⟩
          go_wp2_with fail
          refine bodyPost_ret (v := .tuple #[.slice none 0 0, .int .i64 10, .int .i64 0]) (by simp [results, Tryd.results11, go_sem]) rfl ?_
          rw [← HRD.out]
          exact ⟨.slice none 0 0, rfl, HB.out.trans (hb5.mono HB.out.size), rfl, .inl ⟨rfl, rfl⟩⟩
        · rw [hpg] at hrd HPG
          rw [if_pos rfl] at hrd
          have HRD := (show Hid _ from hrd)
          clear hrd hpg
          go_wp2_with fail
          refine Calls.mono HPG.out ?_
          rintro e w5 ⟨rfl, hb5⟩
          go_wp2_with fail
          refine bodyPost_ret (v := .tuple #[.slice ta acc.length tc, .int .i64 0, .int .i64 0]) (by simp [results, Tryd.results11, go_sem]) rfl ?_
          rw [← HRD.out]
          have hx5 := HX.out.still hb5
          refine ⟨.slice ta acc.length tc, rfl, HB.out.trans (hb5.mono HB.out.size), hx5.own.1, ?_⟩
          rcases hx5.own.2 with h0 | ⟨g', cap', cur', e1, e2, e3⟩
          · exact .inl h0
          · exact .inr ⟨g', cap', cur', e1, Nat.le_trans H1.out.size e2, e3⟩
      · have hpos : 0 < s'.length := List.length_pos_iff.2 hnil
        have hbsz : (bs s').size = s'.length := bs_size s'
        have hq : (bs s').toList.isEmpty = false := by
          rw [ByteArray.toList_eq]
          cases s' with
          | nil => exact absurd rfl hnil
          | cons b r => rfl
        have hbw : Below w.heap.size w wr := H1.out.trans (hxa.bel.mono H1.out.size)
        have HCT : Hid (Calls Tryd.prog 23 #[.string (bs s'), .string ⟨#[10]⟩] wr fun e w' => (e = if (10 : UInt8) ∈ s' then .returned (.tuple #[.string (bs (pre 10 s')), .string (bs (post 10 s')), .bool true]) else .returned (.tuple #[.string (bs s'), .string (bs []), .bool false])) ∧ Below wr.heap.size wr w') := cut23 s' wr (by omega) (HM.out wr hbw)
        obtain ⟨sY, hsY⟩ : ∃ sY, bs s' = sY := ⟨_, rfl⟩
        rw [hsY] at hq HCT hbsz ⊢
        have HAL := (show Hid (acc.length + s'.length ≤ 400000) from hal)
        have hacc : acc.length ≤ 400000 := by omega
        have HX := (show Hid (XA W4.heap.size W4 wr (.slice ta acc.length tc) acc) from hxa)
        have HBW := (show Hid (Below w.heap.size w wr) from hbw)
        have HNO := (show Hid (¬ ((10 : UInt8) ∈ s' ∧ ∃ x, rdl (pre 10 s') = some x) → ([], 2, acc.length) = R) from fun h => by rw [← hrd]; exact (rdg_no f acc hnil h).symm)
        have HYS := (show Hid (∀ x, (10 : UInt8) ∈ s' → rdl (pre 10 s') = some x → rdg f (post 10 s') (acc ++ [x]) = R) from fun x h1 h2 => by rw [← hrd]; exact (rdg_yes f acc hnil h1 h2).symm)
        have HLF := (show Hid (s'.length < f + 1) from hlf)
        have HSZ := (show Hid (sY.size = s'.length) from hbsz)
        clear hal hxa hbw hrd hlf hbsz hpos
        by_cases h10 : (10 : UInt8) ∈ s'
        · rw [if_pos h10] at HCT
          have HPL := (show Hid ((pre 10 s').length + 1 + (post 10 s').length = s'.length) from post_len h10)
          have H24 : Hid (∀ W, Below w.heap.size w W → Calls Tryd.prog 24 #[.agg tbA, .string (bs (pre 10 s'))] W (RiA (pre 10 s') W)) := fun W hb => readIns24 _ (by have := HPL.out; have := HAL.out; omega) W (HM.out W hb)
          have HPZ := (show Hid ((bs (post 10 s')).size = (post 10 s').length) from bs_size _)
          obtain ⟨sP, hsP⟩ : ∃ sP, bs (post 10 s') = sP := ⟨_, rfl⟩
          rw [hsP] at HCT HPZ
          generalize bs (pre 10 s') = sL at *
          go_wp2_with fail
          refine Calls.mono HCT.out ?_
          rintro e w5 ⟨rfl, hb5⟩
          have HB5 := (show Hid (Below w.heap.size w w5) from HBW.out.trans (hb5.mono HBW.out.size))
          have HX5 := (show Hid (XA W4.heap.size W4 w5 (.slice ta acc.length tc) acc) from HX.out.still hb5)
          have HT5 := (show Hid (TbL w5 g) from HTL.out.still HX5.out.bel)
          clear hb5 HX HBW HCT
          go_wp2_with (first | refine wpList_load_row rfl 46 (.tmp 5) rfl g rfl 46 tbA (0, 0) _ HT5.out.ex Tryd.underlying46 rfl info46 ?_)
          refine Calls.mono (H24.out _ HB5.out) ?_
          rintro e w6 ⟨x, b, rfl, hb6, hy, hn⟩
          have HB6 := (show Hid (Below w.heap.size w w6) from HB5.out.trans (hb6.mono HB5.out.size))
          have HX6 := (show Hid (XA W4.heap.size W4 w6 (.slice ta acc.length tc) acc) from HX5.out.still hb6)
          clear hb6 HB5 HX5 HT5 H24
          cases b
          · have HE := (show Hid (([], 2, acc.length) = R) from HNO.out (fun hc => by obtain ⟨_, x, hx⟩ := hc; rw [hn rfl] at hx; cases hx))
            go_wp2_with fail
            refine bodyPost_ret (v := .tuple #[.slice none 0 0, .int .i64 2, .int .i64 (acc.length : Nat)]) (by simp [results, Tryd.results11, go_sem]) rfl ?_
            rw [← HE.out]
            exact ⟨.slice none 0 0, rfl, HB6.out.trans (bel_alloc _ _ |>.mono HB6.out.size), rfl, .inl ⟨rfl, rfl⟩⟩
          · have HRD : Hid (rdg f (post 10 s') (acc ++ [x]) = R) := HYS.out x h10 (hy rfl)
            have hx7 := HX6.out.still (bel_alloc w6 (.cells #[.int .i64 x.op, .int .i64 x.n, .int .i64 x.to_] 38))
            obtain ⟨M, hM⟩ : ∃ M, acc.length + 1 = M := ⟨_, rfl⟩
            obtain ⟨a8, c8, w8, hr8, hx8⟩ := hx7.add x (w6.heap.size + 1) M (by omega) (by simp) hM
            have HR8 := (show Hid _ from hr8)
            have HX8 := (show Hid (XA W4.heap.size W4 w8 (.slice a8 M c8) (acc ++ [x])) from hx8)
            have HMM := (show Hid ((acc ++ [x]).length = M) from by show _ = _; rw [List.length_append]; exact hM)
            have HM1 := (show Hid (acc.length + 1 = M) from hM)
            clear hx7 hx8 hr8 hM HX6 hy hn HB6
            generalize acc.length = na at *
            go_wp2_with (first | (at_builtin; refine wpList_append_run _ rfl (.tmp 38) (.tmp 40) 26 26 rfl rfl rfl HR8.out ?_))
            have hpl := HPL.out
            have hmm := HMM.out
            have hm1 := HM1.out
            have hall := HAL.out
            have hlf := HLF.out
            exact ⟨⟨post 10 s', f, acc ++ [x], a8, c8, by rw [hsP], by rw [hmm], by omega, by omega, HRD.out, by rw [hmm]; exact HX8.out⟩, by have h1 := HPZ.out; have h2 := HSZ.out; simp [szS]; omega⟩
        · rw [if_neg h10] at HCT
          have HE := (show Hid (([], 2, acc.length) = R) from HNO.out (fun hc => h10 hc.1))
          have H24 : Hid (∀ W, Below w.heap.size w W → Calls Tryd.prog 24 #[.agg tbA, .string (bs s')] W (RiA s' W)) := fun W hb => readIns24 _ (by have := HAL.out; omega) W (HM.out W hb)
          rw [hsY] at H24
          have hb0 : bs ([] : List UInt8) = ⟨#[]⟩ := rfl
          rw [hb0] at HCT
          go_wp2_with fail
          refine Calls.mono HCT.out ?_
          rintro e w5 ⟨rfl, hb5⟩
          have HB5 := (show Hid (Below w.heap.size w w5) from HBW.out.trans (hb5.mono HBW.out.size))
          have HX5 := (show Hid (XA W4.heap.size W4 w5 (.slice ta acc.length tc) acc) from HX.out.still hb5)
          have HT5 := (show Hid (TbL w5 g) from HTL.out.still HX5.out.bel)
          clear hb5 HX HBW HCT
          go_wp2_with (first | refine wpList_load_row rfl 46 (.tmp 5) rfl g rfl 46 tbA (0, 0) _ HT5.out.ex Tryd.underlying46 rfl info46 ?_)
          refine Calls.mono (H24.out _ HB5.out) ?_
          rintro e w6 ⟨x, b, rfl, hb6, hy, hn⟩
          have HB6 := (show Hid (Below w.heap.size w w6) from HB5.out.trans (hb6.mono HB5.out.size))
          clear hb6 HB5 HX5 HT5 H24 hy hn
          go_wp2_with fail
          refine bodyPost_ret (v := .tuple #[.slice none 0 0, .int .i64 2, .int .i64 (acc.length : Nat)]) (by simp [results, Tryd.results11, go_sem]) rfl ?_
          rw [← HE.out]
          exact ⟨.slice none 0 0, rfl, HB6.out.trans (bel_alloc _ _ |>.mono HB6.out.size), rfl, .inl ⟨rfl, rfl⟩⟩
end Go.Proofs.YtanbdfeoijflaaaDoor
