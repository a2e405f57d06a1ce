import Derived.Test.YtblfeifedcddnaaUv
/-! The specification's Unshare, walked. -/
namespace Go.Proofs.Ytblfeifedcddnaa
open Go.RowKit Go.Deep Go.Lib
set_option linter.unusedVariables false
set_option maxRecDepth 100000
set_option linter.unusedSimpArgs false

theorem bel_drewN {B : Nat} {a w : World} (h : Below B a w) (n : Nat) : Below B a (w.drewN n) := h.trans ⟨rfl, rfl, rfl, Nat.le_refl _, fun _ _ => rfl⟩
theorem dr_rd (n : Nd) : dr (rd n) = n := by
  obtain ⟨n, x, l, k⟩ := n
  simp [dr, rd, ins, Function.comp_def]
set_option maxHeartbeats 6400000 in
theorem unshare21 {S S' : Nat → Prop} (ns : List Rd) (rs : List Int) (u r : Value) (w : World) (hS : ∀ q, S q → q < w.heap.size) (hN : Rds w S ns u) (hI : Ints w S' rs r) (hn : ns.length + wns ns + rs.length ≤ 1048576) :
    Calls Try.prog 19 #[.agg #[u, r]] w (UnA ns rs w) := by
  have HN := (show Hid (Rds w S ns u) from hN)
  have HIn := (show Hid (Ints w S' rs r) from hI)
  obtain ⟨a, cap, b, off, sv, rfl, hc, hm, ha, hcell, hzz, hr⟩ := hN
  obtain ⟨a2, cap2, b2, off2, rfl, hc2, hm2, ha2, hcell2⟩ := hI
  have HK : Hid (∀ q (hq : q < ns.length), ∃ ka kcap kb koff, a = some ⟨b, off, none⟩ ∧ ns[q].ks.length ≤ kcap ∧ kcap ≤ maxLen ∧ sv q = .slice ka ns[q].ks.length kcap ∧ (0 < ns[q].ks.length → ka = some ⟨kb, koff, none⟩) ∧ ∀ wq, Below w.heap.size w wq → (wq.cell? ⟨b, off + q * 4, none⟩ = some (.string ns[q].nm) ∧ wq.cell? ⟨b, off + q * 4 + 1, none⟩ = some (.string ns[q].tx) ∧ wq.cell? ⟨b, off + q * 4 + 2, none⟩ = some (.bool ns[q].lf) ∧ wq.cell? ⟨b, off + q * 4 + 3, none⟩ = some (.slice ka ns[q].ks.length kcap)) ∧ ∀ i (hi : i < ns[q].ks.length), wq.cell? ⟨kb, koff + i, none⟩ = some (.int .i64 ns[q].ks[i])) := fun q hq => by
    obtain ⟨ka, kcap, kb, koff, hkv, hkc, hkm, hka, hkcell⟩ := hr q hq
    obtain ⟨c0, c1, c2, c3⟩ := hcell q hq
    rw [hkv] at c3
    exact ⟨ka, kcap, kb, koff, (ha (by omega)).1, hkc, hkm, hkv, fun h => (hka h).1, fun wq hb => ⟨⟨(hb.cell (lt_of_cell c0)).trans c0, (hb.cell (lt_of_cell c1)).trans c1, (hb.cell (lt_of_cell c2)).trans c2, (hb.cell (lt_of_cell c3)).trans c3⟩, fun i hi => (hb.cell (lt_of_cell (hkcell i hi))).trans (hkcell i hi)⟩⟩
  have HKR : Hid (∀ q (hq : q < rs.length), a2 = some ⟨b2, off2, none⟩ ∧ ∀ wq, Below w.heap.size w wq → wq.cell? ⟨b2, off2 + q, none⟩ = some (.int .i64 rs[q])) := fun q hq => ⟨(ha2 (by omega)).1, fun wq hb => (hb.cell (lt_of_cell (hcell2 q hq))).trans (hcell2 q hq)⟩
  have HBT := (show Hid _ from betw30)
  have HS := (show Hid _ from hS)
  have HZ := (show Hid _ from hzz)
  have HW := (show Hid (Box (w.alloc (.cells #[.slice a ns.length cap, .slice a2 rs.length cap2] 27)) w.heap.size 27 [.slice a ns.length cap, .slice a2 rs.length cap2] ∧ Below w.heap.size w (w.alloc (.cells #[.slice a ns.length cap, .slice a2 rs.length cap2] 27))) from ⟨Box.new w 27 [_, _], bel_alloc _ _⟩)
  unfold maxLen at hm hm2
  obtain ⟨i59, hi59, hy0, hy1, hy2⟩ := info_parts info51
  clear hcell hcell2 ha ha2 hr hzz hS
  go_enter Try.func19, Try.ntmps19
  go_wp2_with fail
  go_loopw [4] (fun i wr => ∃ (j : Nat), i = .int .i64 j ∧ j ≤ ns.length ∧ wr = w.alloc (.cells #[.slice a ns.length cap, .slice a2 rs.length cap2] 27) ∧ Hid (∀ q (hq : q < ns.length), q < j → ∀ i (hi : i < ns[q].ks.length), 0 ≤ ns[q].ks[i] ∧ ns[q].ks[i] ≤ (q : Int) - 1)) (fun i _ => ns.length - (intOf i).toNat)
  case atStart => exact ⟨0, rfl, Nat.zero_le _, rfl, fun q hq h => absurd h (Nat.not_lt_zero _)⟩
  case round =>
    obtain ⟨j, rfl, hj, rfl, HJ⟩ := hrel
    have T0 : (w.alloc (.cells #[.slice a ns.length cap, .slice a2 rs.length cap2] 27)).cell? ⟨w.heap.size, 0, none⟩ = some (.slice a ns.length cap) := HW.out.1.cell 0 (by simp)
    by_cases hlt : j < ns.length
    · obtain ⟨ka, kcap, kb, koff, rfl, hkc, hkm, hsv, hka, hkk⟩ := HK.out j hlt
      obtain ⟨⟨c0, c1, c2, c3⟩, hki⟩ := hkk _ HW.out.2
      have HKI := (show Hid _ from hki)
      have HKA := (show Hid _ from hka)
      unfold maxLen at hkm
      clear hkk hki c0 c1 c2 hsv hka
      have q1 : (0 : Int) ≤ (j : Int) := by omega
      have q2 : (j : Int) < (ns.length : Int) := by omega
      go_wp2_with fail
      go_loopw [5] (fun i wr => ∃ (p : Nat), i = .int .i64 p ∧ p ≤ ns[j].ks.length ∧ wr = w.alloc (.cells #[.slice (some ⟨b, off, none⟩) ns.length cap, .slice a2 rs.length cap2] 27) ∧ Hid (∀ i (hi : i < ns[j].ks.length), i < p → 0 ≤ ns[j].ks[i] ∧ ns[j].ks[i] ≤ (j : Int) - 1)) (fun i _ => ns[j].ks.length - (intOf i).toNat)
      case atStart => exact ⟨0, rfl, Nat.zero_le _, rfl, fun i hi h => absurd h (Nat.not_lt_zero _)⟩
      case round =>
        obtain ⟨p, rfl, hp, rfl, HP⟩ := hrel
        by_cases hlp : p < ns[j].ks.length
        · obtain rfl := HKA.out (by omega)
          have k0 := HKI.out p hlp
          have q3 : (0 : Int) ≤ (p : Int) := by omega
          have q4 : (p : Int) < (ns[j].ks.length : Int) := by omega
          have HE : Hid (∀ z : Int, z = ns[j].ks[p] → (0 ≤ z ∧ z ≤ (j : Int) - 1) → ∀ i (hi : i < ns[j].ks.length), i < p + 1 → 0 ≤ ns[j].ks[i] ∧ ns[j].ks[i] ≤ (j : Int) - 1) := fun z e hz i hi h => by
            by_cases hip : i < p
            · exact HP.out i hi hip
            · obtain rfl : i = p := by omega
              rw [← e]; exact hz
          have HF : Hid (∀ z : Int, z = ns[j].ks[p] → ¬ (0 ≤ z ∧ z ≤ (j : Int) - 1) → ∀ T, ¬ UnOK ns rs T) := fun z e hz => no_kid hlt hlp (by rw [← e]; exact hz)
          generalize hz : ns[j].ks[p] = z at *
          have HCB := (show Hid _ from HBT.out z 0 ((j : Int) - 1))
          go_wp2_with fail
          refine Calls.mono (HCB.out _) ?_
          rintro e w1 ⟨rfl, rfl⟩
          by_cases hbt : 0 ≤ z ∧ z ≤ (j : Int) - 1
          · have hd : decide (0 ≤ z ∧ z ≤ (j : Int) - 1) = true := by simp [hbt]
            go_wp2_with fail
            exact ⟨⟨p + 1, by go_num, by omega, by first | rfl | trivial, HE.out z rfl hbt⟩, by simp [intOf]; omega⟩
          · have hd : decide (0 ≤ z ∧ z ≤ (j : Int) - 1) = false := by simpa using hbt
            go_wp2_with fail
            go_ret2
            exact UnA.no (HF.out z rfl hbt) (bel_trans HW.out.2 (bel_alloc _ _))
        · obtain rfl : p = ns[j].ks.length := by omega
          go_wp2_with fail
          refine ⟨⟨j + 1, by go_num, by omega, by first | rfl | trivial, fun q hq h => ?_⟩, by simp [intOf]; omega⟩
          by_cases hqj : q < j
          · exact HJ.out q hq hqj
          · obtain rfl : q = j := by omega
            exact fun i hi => HP.out i hi hi
    · obtain rfl : j = ns.length := by omega
      have HG := (show Hid (rgd ns) from rgd_of (fun q hq => HJ.out q hq hq))
      clear HJ hlt
      have HU0 : Hid (UsI w ((w.alloc (.cells #[.slice a ns.length cap, .slice a2 rs.length cap2] 27)).alloc (.cells #[] 51)) (.slice a ns.length cap) (.slice a2 rs.length cap2) (.slice (some ⟨w.heap.size + 1, 0, none⟩) 0 0) []) := by
        refine ⟨HW.out.1.still (bel_alloc _ _), bel_trans HW.out.2 (bel_alloc _ _), fun _ => .bool false, fun _ => 0, fun _ => 0, ?_, fun i hi => absurd hi (Nat.not_lt_zero _), fun i hi => absurd hi (Nat.not_lt_zero _), fun i i' _ hi => absurd hi (Nat.not_lt_zero _)⟩
        have := World.ownsRow_made (base := w.heap.size + 1) (e := 51) (size := 4) (w.alloc (.cells #[.slice a ns.length cap, .slice a2 rs.length cap2] 27)) #[] 0 (by simp) (Nat.zero_le _) rfl
        simp only [World.size_alloc] at this
        exact this
      go_wp2_with fail
      go_loopw [6, 7] (fun v i wr => ∃ (j : Nat) (k' : List Tr), i = .int .i64 j ∧ k'.length = j ∧ j ≤ rs.length ∧ (∃ a' m' c', v = .slice a' m' c') ∧ Hid (UsI w wr (.slice a ns.length cap) (.slice a2 rs.length cap2) v k' ∧ TsR ns rs k')) (fun _ i _ => rs.length - (intOf i).toNat)
      case atStart => exact ⟨0, [], rfl, rfl, Nat.zero_le _, ⟨_, _, _, rfl⟩, HU0.out, Nat.zero_le _, Nat.zero_le _, fun i hi => absurd hi (Nat.not_lt_zero _)⟩
      case round =>
        obtain ⟨j, k', rfl, rfl, hj3, ⟨va, vm, vc, rfl⟩, HU⟩ := hrel
        clear HU0 T0
        have T0 : wr.cell? ⟨w.heap.size, 0, none⟩ = some (.slice a ns.length cap) := HU.out.1.b0.cell 0 (by simp)
        have T1 : wr.cell? ⟨w.heap.size, 1, none⟩ = some (.slice a2 rs.length cap2) := HU.out.1.b0.cell 1 (by simp)
        by_cases hl3 : k'.length < rs.length
        · obtain ⟨rfl, hrc⟩ := HKR.out k'.length hl3
          have HB := (show Hid _ from HU.out.1.bel)
          have HH : Hid (∀ wq, Below wr.heap.size wr wq → wq.cell? ⟨w.heap.size, 0, none⟩ = some (.slice a ns.length cap) ∧ wq.cell? ⟨w.heap.size, 1, none⟩ = some (.slice (some ⟨b2, off2, none⟩) rs.length cap2) ∧ wq.cell? ⟨b2, off2 + k'.length, none⟩ = some (.int .i64 rs[k'.length])) := fun wq hb =>
            ⟨(HU.out.1.b0.still hb).cell 0 (by simp), (HU.out.1.b0.still hb).cell 1 (by simp), hrc _ (HB.out.trans (hb.mono HB.out.size))⟩
          have HNO := (show Hid (¬ (0 ≤ rs[k'.length] ∧ rs[k'.length] ≤ (ns.length : Int) - 1) → ∀ T, ¬ UnOK ns rs T) from no_root hl3)
          have HMY := (show Hid (20 ≤ k'.length → ∀ T, ¬ UnOK ns rs T) from no_many hl3)
          have HTR : Hid (0 ≤ rs[k'.length] → rs[k'.length] ≤ (ns.length : Int) - 1 → ∃ t, isR t ns rs[k'.length]) := fun h1 h2 => by
            obtain ⟨t, ht⟩ := isR_ex HG.out rs[k'.length].toNat (by omega)
            rw [Int.toNat_of_nonneg h1] at ht
            exact ⟨t, ht⟩
          have HADD := (show Hid (∀ t, isR t ns rs[k'.length] → k'.length < 20 → TsR ns rs (k' ++ [t])) from fun t ht h20 => HU.out.2.add hl3 h20 ht)
          have HGRT := (show Hid (∀ t, isR t ns rs[k'.length] → 1000 < t.cnt → ∀ T, ¬ UnOK ns rs T) from fun t ht h => no_great hl3 ht h)
          generalize rs[k'.length] = z at *
          clear hrc
          have q1 : (0 : Int) ≤ (k'.length : Int) := by omega
          have q2 : (k'.length : Int) < (rs.length : Int) := by omega
          by_cases hbt : 0 ≤ z ∧ z ≤ (ns.length : Int) - 1
          · have HCB : Hid (∀ wq, Calls Try.prog 58 #[.int .i64 z, .int .i64 0, .int .i64 ((ns.length : Int) - 1)] wq fun e w' => e = .returned (.bool true) ∧ w' = wq) := fun wq => by
              have := HBT.out z 0 ((ns.length : Int) - 1) wq
              rw [decide_eq_true hbt] at this
              exact this
            obtain ⟨t, ht⟩ := HTR.out hbt.1 hbt.2
            by_cases h20 : 20 ≤ k'.length
            · have hz20 : ((20 : Int) ≤ (k'.length : Int)) := by omega
              go_wp2_with fail
              go_cut [67] from 53 to 66 (fun vv wx => vv = .bool true ∧ Hid (Below wr.heap.size wr wx))
              case first =>
                obtain ⟨g0, g1, g2⟩ := HH.out wr (Below.refl _ _)
                go_quiet ((go_at_call 58; refine Calls.quiet_of_same (HCB.out _)))
                go_wp2_with fail
                go_meet
                exact ⟨rfl, bel_drewN (Below.refl _ _) _⟩
              case rest =>
                obtain ⟨rfl, HX⟩ := hcut
                go_wp2_with fail
                go_ret2
                exact UnA.no (HMY.out h20) (bel_trans (bel_trans HB.out HX.out) (bel_alloc _ _))
            · have hz20 : decide ((20 : Int) ≤ (k'.length : Int)) = false := by simp; omega
              go_wp2_with fail
              go_cut [67] from 53 to 66 (fun vv wx => vv = .bool false ∧ Hid (Below wr.heap.size wr wx))
              case first =>
                obtain ⟨g0, g1, g2⟩ := HH.out wr (Below.refl _ _)
                go_quiet ((go_at_call 58; refine Calls.quiet_of_same (HCB.out _)))
                go_wp2_with fail
                go_meet
                exact ⟨rfl, bel_drewN (Below.refl _ _) _⟩
              case rest =>
                obtain ⟨rfl, HX⟩ := hcut
                generalize wc = wd at *
                have HBd := (show Hid _ from bel_trans HB.out HX.out)
                have HU2 := (show Hid (UsI w wd (.slice a ns.length cap) (.slice (some ⟨b2, off2, none⟩) rs.length cap2) (.slice va vm vc) k') from by
                  obtain ⟨fs, ls, hs, hown, hls, hr, hd⟩ := HU.out.1.grw
                  exact ⟨HU.out.1.b0.still HX.out, HBd.out, fs, ls, hs, own_still hown HX.out, fun i hi => (hls i hi).still HX.out, fun i hi => ⟨(hr i hi).1, Nat.le_trans (hr i hi).2.1 HX.out.size, (hr i hi).2.2⟩, hd⟩)
                have HH2 : Hid (∀ wq, Below wd.heap.size wd wq → wq.cell? ⟨w.heap.size, 0, none⟩ = some (.slice a ns.length cap) ∧ wq.cell? ⟨w.heap.size, 1, none⟩ = some (.slice (some ⟨b2, off2, none⟩) rs.length cap2) ∧ wq.cell? ⟨b2, off2 + k'.length, none⟩ = some (.int .i64 z)) := fun wq hb => HH.out wq (bel_trans HX.out hb)
                have HCL : Hid (∀ wq, Below wd.heap.size wd wq → Calls Try.prog 59 #[.agg #[.slice a ns.length cap, .slice (some ⟨b2, off2, none⟩) rs.length cap2], .int .i64 z, .int .i64 1000] wq fun e w' => ∃ t' r' a' m' c', e = .returned (.tuple #[.agg #[.string t'.name, .string t'.text, .bool t'.leaf, .slice a' m' c'], .int .i64 r']) ∧ Below wq.heap.size wq w' ∧ Own w' wq.heap.size w'.heap.size t' (.slice a' m' c') ∧ TwR t 1000 t' r') := fun wq hb =>
                  tree46 t ns z 1000 _ _ _ _ wq ht (Rds.still HN.out (bel_trans HBd.out hb)) (by decide) (by decide)
                clear HX HH HCB HU HTR HNO HMY hz20
                go_wp2_with fail
                go_cut [8, 9] from 69 to 78 (fun v8 v9 wx => ∃ (B : Nat) (t' : Tr) (r' : Int) (lo hi : Nat) (a' : Option Addr) (m' c' : Nat), v8 = .pointer (some ⟨B, 0, none⟩) ∧ v9 = .int .i64 r' ∧ Hid (Below wd.heap.size wd wx ∧ Box wx B 51 [.string t'.name, .string t'.text, .bool t'.leaf, .slice a' m' c'] ∧ Own wx lo hi t' (.slice a' m' c') ∧ wd.heap.size ≤ lo ∧ hi ≤ wx.heap.size ∧ TwR t 1000 t' r'))
                case first =>
                  have hbd := (Below.refl wd.heap.size wd).drew
                  have hS0 := HH2.out _ hbd
                  clear T0 T1
                  go_region_held3 (fun wq => wq.cell? ⟨w.heap.size, 0, none⟩ = some (.slice a ns.length cap) ∧ wq.cell? ⟨w.heap.size, 1, none⟩ = some (.slice (some ⟨b2, off2, none⟩) rs.length cap2) ∧ wq.cell? ⟨b2, off2 + k'.length, none⟩ = some (.int .i64 z)) (first | with_reducible exact hS0 | with_reducible exact hS1 | (with_reducible exact HH2.out _ (Below.drew (bel_alloc _ _))) | (with_reducible exact HH2.out _ (bel_trans hx (bel_alloc _ _))) | (with_reducible exact HH2.out _ (bel_set4 hx))) ((go_at_call 59; refine Calls.mono (HCL.out _ ?_) ?_; (first | with_reducible exact hbd | with_reducible exact Below.drew (bel_alloc _ _)); rintro e w3 ⟨t3, r3, a3, m3, c3, rfl, hb3, ho3, hR3⟩; (first | (with_reducible have hx : Below wd.heap.size wd w3 := hbd.trans (hb3.mono (Nat.le_refl _))) | (with_reducible have hx : Below wd.heap.size wd w3 := bel_trans (bel_alloc _ _) (Below.trans ((Below.refl _ _).drew) (hb3.mono (Nat.le_refl _))))); have hS1 := HH2.out _ hx; (try (have hBx : Box w3 wd.heap.size 51 [.string ⟨#[]⟩, .string ⟨#[]⟩, .bool false, .slice none 0 0] := Box.still (Box.new wd 51 [.string ⟨#[]⟩, .string ⟨#[]⟩, .bool false, .slice none 0 0]) (Below.trans ((Below.refl _ _).drew) (hb3.mono (Nat.le_refl _))); have y0 := Box.frozen hBx 0; have y1 := Box.frozen hBx 1; have y2 := Box.frozen hBx 2; have y3 := Box.frozen hBx 3; have x0 : w3.cell? ⟨wd.heap.size, 0, none⟩ = some (.string ⟨#[]⟩) := Box.cell hBx 0 (by simp); have x1 : w3.cell? ⟨wd.heap.size, 1, none⟩ = some (.string ⟨#[]⟩) := Box.cell hBx 1 (by simp); have x2 : w3.cell? ⟨wd.heap.size, 2, none⟩ = some (.bool false) := Box.cell hBx 2 (by simp); have x3 : w3.cell? ⟨wd.heap.size, 3, none⟩ = some (.slice none 0 0) := Box.cell hBx 3 (by simp)))))
                  all_goals go_wp2_with fail
                  all_goals go_meet
                  all_goals first
                    | exact ⟨_, t3, r3, _, _, a3, m3, c3, rfl, rfl, bel_trans hx (bel_alloc _ _), Box.new _ 51 [_, _, _, _], ho3.still (bel_alloc _ _), Nat.le_refl _, by simp, hR3⟩
                    | exact ⟨_, t3, r3, wd.heap.size + 1, w3.heap.size, a3, m3, c3, rfl, rfl, bel_set4 hx, (((hBx.set 0 _).set 1 _).set 2 _).set 3 _, by
                        have ho4 : Own w3 (wd.heap.size + 1) w3.heap.size t3 (.slice a3 m3 c3) := by simpa [World.drew] using ho3
                        exact (((ho4.past (.inl (by omega))).past (.inl (by omega))).past (.inl (by omega))).past (.inl (by omega)), by omega, by simp, hR3⟩
                case rest =>
                  obtain ⟨B, t', r', lo, hi, a', m', c', rfl, rfl, HX⟩ := hcut
                  obtain ⟨hA1, hA2, hA3, hA4, hA5⟩ := HX.out.2.2.2.2.2
                  by_cases hr0 : r' < 0
                  · have HFL := (show Hid (∀ T, ¬ UnOK ns rs T) from HGRT.out t ht (by
                      rcases Int.lt_or_le 1000 (t.cnt : Int) with e | e
                      · omega
                      · have := hA3 e; omega))
                    have hbb := bel_trans HBd.out HX.out.1
                    clear HX HCL HH2 HU2 hA3 hA4 hA5 HADD HGRT
                    go_wp2_with fail
                    go_ret2
                    exact UnA.no HFL.out (bel_trans hbb (bel_alloc _ _))
                  · obtain rfl := hA5 (by omega)
                    have HTS := (show Hid _ from HADD.out t' ht (by omega))
                    obtain ⟨fs, ls, hs, hown, hls, hr, hd⟩ := HU2.out.grw
                    obtain ⟨va', vc', hve, _⟩ := own_ne hown
                    simp only [Value.slice.injEq] at hve
                    obtain ⟨rfl, rfl, rfl⟩ := hve
                    have K0 : wc.cell? ⟨B, 0, none⟩ = some (.string t'.name) := HX.out.2.1.cell 0 (by simp)
                    have K1 : wc.cell? ⟨B, 1, none⟩ = some (.string t'.text) := HX.out.2.1.cell 1 (by simp)
                    have K2 : wc.cell? ⟨B, 2, none⟩ = some (.bool t'.leaf) := HX.out.2.1.cell 2 (by simp)
                    have K3 : wc.cell? ⟨B, 3, none⟩ = some (.slice a' m' c') := HX.out.2.1.cell 3 (by simp)
                    have hba := bel_alloc wc (.cells #[.string t'.name, .string t'.text, .bool t'.leaf, .slice a' m' c'] 51)
                    have HO2 := (show Hid _ from own_still (own_still hown HX.out.1) hba)
                    have HNX : Hid (∀ (w3 : World) (g cap3 : Nat), w3.ownsRow (w.heap.size + 1) 51 4 (.slice (some ⟨g, 0, none⟩) (k'.length + 1) cap3) (k'.length + 1) (kc k' fs k'.length ++ [.string t'.name, .string t'.text, .bool t'.leaf, .slice a' m' c']) → (wc.alloc (.cells #[.string t'.name, .string t'.text, .bool t'.leaf, .slice a' m' c'] 51)).grownBy w3 (Value.slice va k'.length vc).ownBlock → ((Value.slice va k'.length vc).ownBlock = some g ∨ g = (wc.alloc (.cells #[.string t'.name, .string t'.text, .bool t'.leaf, .slice a' m' c'] 51)).heap.size) →
                        UsI w w3 (.slice a ns.length cap) (.slice (some ⟨b2, off2, none⟩) rs.length cap2) (.slice (some ⟨g, 0, none⟩) (k'.length + 1) cap3) (k' ++ [t'])) := fun w3 g cap3 g1 g2 g3 => by
                      have hh := HX.out.2.2.2.2.1
                      exact HU2.out.next hown hls hr hd (bel_trans HX.out.1 hba) (HX.out.2.2.1.still hba) HX.out.2.2.2.1 (by simp; omega) g1 g2 g3
                    have HZ1 := (show Hid (w.heap.size + 1 ≤ wc.heap.size) from (by have := HU2.out.b0.lt; have := HX.out.1.size; show _ ≤ _; omega))
                    generalize t'.name = knm at *
                    generalize t'.text = ktx at *
                    generalize t'.leaf = klf at *
                    clear hown hls hr hd hba HX HCL HH2 HU2 hA3 hA4 hA5 HADD HGRT T0 T1
                    go_wp2_with (at_builtin; (refine wpList_append_lies _ rfl (.tmp 82) (.tmp 84) 30 rfl (w.heap.size + 1) 51 i59 _ 4 64 Try.underlying30 hi59 hy0 hy1 hy2 rfl (by decide) _ k'.length _ rfl HO2.out ⟨wc.heap.size, 0, none⟩ 1 1 [.string knm, .string ktx, .bool klf, .slice a' m' c'] rfl rfl ?c1 ?c2 (by decide) ?c3 ?c5 ?c4 _ rfl ?nx))
                    case c2 => first | exact ⟨rfl, rfl, rfl, rfl⟩ | (intro u hu; simp at hu; rcases hu with rfl | rfl | rfl | rfl <;> rfl)
                    case c3 => unfold maxLen; omega
                    case c5 => omega
                    case c4 => have := HZ1.out; simp; omega
                    case nx =>
                      intro g7 cap7 w7 hown7 hgr7 hat7 hlt7
                      have HF := (show Hid _ from HNX.out w7 g7 cap7 hown7 hgr7 (by simpa using hat7))
                      clear hown7 hgr7 hat7 hlt7 HNX HO2
                      go_wp2_with fail
                      exact ⟨⟨k'.length + 1, k' ++ [t'], by go_num, by simp, by omega, ⟨_, _, _, rfl⟩, HF.out, HTS.out⟩, by simp [intOf]; omega⟩
          · have HCB : Hid (∀ wq, Calls Try.prog 58 #[.int .i64 z, .int .i64 0, .int .i64 ((ns.length : Int) - 1)] wq fun e w' => e = .returned (.bool false) ∧ w' = wq) := fun wq => by
              have := HBT.out z 0 ((ns.length : Int) - 1) wq
              rw [decide_eq_false hbt] at this
              exact this
            go_wp2_with fail
            go_cut [67] from 53 to 66 (fun vv wx => vv = .bool true ∧ Hid (Below wr.heap.size wr wx))
            case first =>
              obtain ⟨g0, g1, g2⟩ := HH.out wr (Below.refl _ _)
              go_quiet ((go_at_call 58; refine Calls.quiet_of_same (HCB.out _)))
              go_wp2_with fail
              go_meet
              exact ⟨rfl, bel_drewN (Below.refl _ _) _⟩
            case rest =>
              obtain ⟨rfl, HX⟩ := hcut
              go_wp2_with fail
              go_ret2
              exact UnA.no (HNO.out hbt) (bel_trans (bel_trans HB.out HX.out) (bel_alloc _ _))
        · have heq : k'.length = rs.length := by omega
          have hown : Own wr (w.heap.size + 1) wr.heap.size (dm k') (.slice va vm vc) := Grw.done HU.out.1.grw (Nat.zero_le _) (Nat.zero_le _)
          have HO := (show Hid _ from hown)
          have HT32 := (show Hid _ from treesOK32 k' _ wr hown.trs)
          have HSH : Hid (∀ wq, Below wr.heap.size wr wq → tksB k' = true → Calls Try.prog 45 #[.slice va vm vc] wq (ShA k' wq)) := fun wq hb ht => share33 (S := fun b => w.heap.size + 1 ≤ b ∧ b < wr.heap.size) k' _ wq (fun q hq => Nat.lt_of_lt_of_le hq.2 hb.size) (Trs.still (Own.trs HO.out) hb) (by have := tks_len ht; omega)
          have HFULL : Hid (∀ T, UnOK ns rs T → T = k') := fun T hT => HU.out.2.full heq hT
          have HB := (show Hid _ from HU.out.1.bel)
          have HB0 := (show Hid _ from HU.out.1.b0)
          clear HU hown
          go_wp2_with fail
          refine Calls.mono HT32.out ?_
          rintro e w1 ⟨rfl, hb1⟩
          cases htk : tksB k' with
          | false =>
            have HFL : Hid (∀ T, ¬ UnOK ns rs T) := fun T hT => by
              have e := HFULL.out T hT
              have h := hT.1
              rw [e, htk] at h
              exact Bool.false_ne_true h
            clear HFULL HSH HT32
            go_wp2_with fail
            go_ret2
            exact UnA.no HFL.out (bel_trans (bel_trans HB.out hb1) (bel_alloc _ _))
          | true =>
            have HS1 := (show Hid _ from HSH.out w1 hb1 htk)
            go_wp2_with fail
            refine Calls.mono HS1.out ?_
            rintro e w2 ⟨u2, r2, rfl, hb2, hD⟩
            obtain ⟨a3, c3, a4, c4, rfl, rfl, hm3, hm4⟩ := hD.forms
            have HUN : Hid ((putTs k' []).1.map rd = ns → ins (putTs k' []).2 = rs → UnOK ns rs k') := fun h1 h2 => ⟨htk, h1, h2⟩
            have HNO : Hid (¬ ((putTs k' []).1.map rd = ns ∧ ins (putTs k' []).2 = rs) → ∀ T, ¬ UnOK ns rs T) := fun h T hT => by
              have e := HFULL.out T hT
              subst e
              exact h ⟨hT.2.1, hT.2.2⟩
            generalize (putTs k' []).1 = N at *
            generalize (putTs k' []).2 = R at *
            unfold maxLen at hm3 hm4
            have hba := bel_alloc w2 (.cells #[.slice a3 N.length c3, .slice a4 R.length c4] 27)
            have HBr := (show Hid (Below wr.heap.size wr (w2.alloc (.cells #[.slice a3 N.length c3, .slice a4 R.length c4] 27))) from bel_trans (bel_trans hb1 hb2) hba)
            have HD3 := (show Hid _ from hD.still hba)
            have HBX := (show Hid _ from Box.new w2 27 [.slice a3 N.length c3, .slice a4 R.length c4])
            have b03 := HB0.out.still HBr.out
            have HB3 := (show Hid _ from b03)
            have T0 : (w2.alloc (.cells #[.slice a3 N.length c3, .slice a4 R.length c4] 27)).cell? ⟨w.heap.size, 0, none⟩ = some (.slice a ns.length cap) := b03.cell 0 (by simp)
            have T1 : (w2.alloc (.cells #[.slice a3 N.length c3, .slice a4 R.length c4] 27)).cell? ⟨w.heap.size, 1, none⟩ = some (.slice a2 rs.length cap2) := b03.cell 1 (by simp)
            clear HT32 HSH HS1 HFULL hb1 hb2 hD hba b03 htk
            by_cases hlen : N.length = ns.length
            · have HS47 : Hid (Calls Try.prog 60 #[.slice a4 R.length c4, .slice a2 rs.length cap2] (w2.alloc (.cells #[.slice a3 N.length c3, .slice a4 R.length c4] 27)) fun e w' => e = .returned (.bool (decide (ins R = rs))) ∧ Below (w2.alloc (.cells #[.slice a3 N.length c3, .slice a4 R.length c4] 27)).heap.size (w2.alloc (.cells #[.slice a3 N.length c3, .slice a4 R.length c4] 27)) w') := by
                obtain ⟨K, h1, h2, h3⟩ := HD3.out
                have h4 := own_ints (l := ins R) (by rw [ins_len]; exact h2)
                exact sameInts47 (ins R) rs _ _ _ h4.ints (HIn.out.still (bel_trans HB.out HBr.out))
              have hlz : (N.length : Int) = (ns.length : Int) := by omega
              generalize hDD : decide (ins R = rs) = D0 at *
              have HDD := (show Hid _ from hDD); clear hDD
              rw [hlen] at T0 T1 HS47 HBX HB3 HBr HD3
              go_wp2_with fail
              refine Calls.mono HS47.out ?_
              rintro e w4 ⟨rfl, hb4⟩
              have HB4 := (show Hid _ from bel_trans HBr.out hb4)
              have HD4 := (show Hid _ from DgR.still HD3.out hb4)
              have HX4 := (show Hid _ from HBX.out.still hb4)
              have HY4 := (show Hid _ from HB3.out.still hb4)
              clear HS47 HD3 HBX HB3 HBr hb4 T0 T1
              go_wp2_with fail
              go_loopw [11, 12] (fun sv i wx => ∃ (m : Nat) (sB : Bool), sv = .bool sB ∧ i = .int .i64 m ∧ m ≤ ns.length ∧ Hid (Below w4.heap.size w4 wx ∧ (sB = true → ins R = rs ∧ ∀ q (h1 : q < N.length) (h2 : q < ns.length), q < m → rd N[q] = ns[q]) ∧ (sB = false → ¬ (N.map rd = ns ∧ ins R = rs)))) (fun _ i _ => ns.length - (intOf i).toNat)
              case atStart =>
                refine ⟨0, D0, rfl, rfl, Nat.zero_le _, Below.refl _ _, fun h => ⟨?_, fun q _ _ hq => absurd hq (Nat.not_lt_zero _)⟩, fun h hh => ?_⟩
                · have := HDD.out; rw [h] at this; exact of_decide_eq_true this
                · have := HDD.out; rw [h] at this; exact of_decide_eq_false this hh.2
              case round =>
                obtain ⟨m, sB, rfl, rfl, hm5, HM⟩ := hrel
                have bx := HX4.out.still HM.out.1
                have by0 := HY4.out.still HM.out.1
                have T0 : wr.cell? ⟨w.heap.size, 0, none⟩ = some (.slice a ns.length cap) := by0.cell 0 (by simp)
                by_cases hgo : m < ns.length ∧ sB = true
                · obtain ⟨hml, rfl⟩ := hgo
                  obtain ⟨K, h1, h2, h3⟩ := DgR.still HD4.out HM.out.1
                  obtain ⟨g6, c6, v6, e6, hB6, d0, d1, d2, d3, hI6⟩ := h1.node (i := m) (by omega)
                  simp only [Value.slice.injEq] at e6
                  obtain ⟨rfl, e7, rfl⟩ := e6
                  clear e7
                  obtain ⟨a6, l6, p6, rfl⟩ := hI6.form
                  obtain ⟨ka, kcap, kb, koff, rfl, hkc, hkm, hsv, hka, hkk⟩ := HK.out m hml
                  have hbw := bel_trans (bel_trans HB.out HB4.out) HM.out.1
                  have HC8 : Hid (∀ wq, Below wr.heap.size wr wq → (wq.cell? ⟨w2.heap.size, 0, none⟩ = some (.slice (some ⟨g6, 0, none⟩) ns.length c3) ∧ wq.cell? ⟨w.heap.size, 0, none⟩ = some (.slice (some ⟨b, off, none⟩) ns.length cap)) ∧ (wq.cell? ⟨g6, m * 4, none⟩ = some (.string (nd N m).nm) ∧ wq.cell? ⟨g6, m * 4 + 1, none⟩ = some (.string (nd N m).tx) ∧ wq.cell? ⟨g6, m * 4 + 2, none⟩ = some (.bool (nd N m).lf) ∧ wq.cell? ⟨g6, m * 4 + 3, none⟩ = some (.slice a6 l6 p6)) ∧ wq.cell? ⟨b, off + m * 4, none⟩ = some (.string ns[m].nm) ∧ wq.cell? ⟨b, off + m * 4 + 1, none⟩ = some (.string ns[m].tx) ∧ wq.cell? ⟨b, off + m * 4 + 2, none⟩ = some (.bool ns[m].lf) ∧ wq.cell? ⟨b, off + m * 4 + 3, none⟩ = some (.slice ka ns[m].ks.length kcap)) := fun wq hb =>
                    ⟨⟨(bx.still hb).cell 0 (by simp), (by0.still hb).cell 0 (by simp)⟩, ⟨(hb.cell (lt_of_cell d0)).trans d0, (hb.cell (lt_of_cell d1)).trans d1, (hb.cell (lt_of_cell d2)).trans d2, (hb.cell (lt_of_cell d3)).trans d3⟩, (hkk wq (bel_trans hbw hb)).1⟩
                  have HCL : Hid (∀ wq, Below wr.heap.size wr wq → Calls Try.prog 61 #[.agg #[.string (nd N m).nm, .string (nd N m).tx, .bool (nd N m).lf, .slice a6 l6 p6], .agg #[.string ns[m].nm, .string ns[m].tx, .bool ns[m].lf, .slice ka ns[m].ks.length kcap]] wq fun e w' => e = .returned (.bool (ndB (nd N m) (dr ns[m]))) ∧ Below wq.heap.size wq w') := fun wq hb =>
                    sameNode48 (S' := fun _ => True) (nd N m) (dr ns[m]) _ _ wq (hI6.still hb) (by
                      rw [rd_dr HG.out m hml]
                      exact ⟨ka, kcap, kb, koff, rfl, hkc, hkm, fun h => ⟨hka h, trivial⟩, fun i hi => (hkk wq (bel_trans hbw hb)).2 i hi⟩)
                  have HE1 : Hid (ndB (nd N m) (dr ns[m]) = true → ins R = rs ∧ ∀ q (h1 : q < N.length) (h2 : q < ns.length), q < m + 1 → rd N[q] = ns[q]) := fun h => by
                    refine ⟨(HM.out.2.1 rfl).1, fun q g1 g2 hq => ?_⟩
                    by_cases hqm : q < m
                    · exact (HM.out.2.1 rfl).2 q g1 g2 hqm
                    · obtain rfl : q = m := by omega
                      have e := ndB_iff.1 h
                      rw [nd_eq g1] at e
                      rw [e]
                      exact rd_eq HG.out q g2
                  have HE2 : Hid (ndB (nd N m) (dr ns[m]) = false → ¬ (N.map rd = ns ∧ ins R = rs)) := fun h hh => by
                    have hmN : m < N.length := by omega
                    have e : rd N[m] = ns[m] := by
                      have := List.getElem_of_eq hh.1 (by rw [List.length_map]; exact hmN)
                      rw [List.getElem_map] at this
                      exact this
                    have : ndB (nd N m) (dr ns[m]) = true := ndB_iff.2 (by rw [nd_eq hmN, ← e, dr_rd])
                    rw [h] at this
                    exact Bool.false_ne_true this
                  clear hkk hsv hka hkc hkm
                  generalize ndB (nd N m) (dr ns[m]) = bq at *
                  generalize (nd N m).nm = z0 at *
                  generalize (nd N m).tx = z1 at *
                  generalize (nd N m).lf = z2 at *
                  generalize ns[m].nm = y0 at *
                  generalize ns[m].tx = y1 at *
                  generalize ns[m].lf = y2 at *
                  generalize ns[m].ks.length = kl at *
                  have q1 : (0 : Int) ≤ (m : Int) := by omega
                  have q2 : (m : Int) < (ns.length : Int) := by omega
                  have HMb := (show Hid _ from HM.out.1)
                  clear h1 h2 h3 d0 d1 d2 d3 hI6 bx by0 hbw HM hB6
                  go_wp2_with fail
                  have hbd := (Below.refl wr.heap.size wr).drew
                  have hS0 := HC8.out _ hbd
                  clear T0
                  go_region_held3 (fun wq => (wq.cell? ⟨w2.heap.size, 0, none⟩ = some (.slice (some ⟨g6, 0, none⟩) ns.length c3) ∧ wq.cell? ⟨w.heap.size, 0, none⟩ = some (.slice (some ⟨b, off, none⟩) ns.length cap)) ∧ (wq.cell? ⟨g6, m * 4, none⟩ = some (.string z0) ∧ wq.cell? ⟨g6, m * 4 + 1, none⟩ = some (.string z1) ∧ wq.cell? ⟨g6, m * 4 + 2, none⟩ = some (.bool z2) ∧ wq.cell? ⟨g6, m * 4 + 3, none⟩ = some (.slice a6 l6 p6)) ∧ wq.cell? ⟨b, off + m * 4, none⟩ = some (.string y0) ∧ wq.cell? ⟨b, off + m * 4 + 1, none⟩ = some (.string y1) ∧ wq.cell? ⟨b, off + m * 4 + 2, none⟩ = some (.bool y2) ∧ wq.cell? ⟨b, off + m * 4 + 3, none⟩ = some (.slice ka kl kcap)) (first | with_reducible exact hS0 | with_reducible exact hS1) ((go_at_call 61; refine Calls.mono (HCL.out _ hbd) ?_; rintro e w3 ⟨rfl, hb3⟩; have hB3 := bel_trans hbd hb3; have hS1 := HC8.out _ hB3))
                  all_goals
                    have HN2 := (show Hid _ from bel_trans HMb.out hB3)
                    go_wp2_with fail
                    exact ⟨⟨m + 1, bq, rfl, by go_num, by omega, HN2.out, HE1.out, HE2.out⟩, by simp [intOf]; omega⟩
                · cases sB with
                  | false =>
                    have HFL := (show Hid (∀ T, ¬ UnOK ns rs T) from HNO.out (HM.out.2.2 rfl))
                    have hbb := bel_trans (bel_trans HB.out HB4.out) HM.out.1
                    clear HM HX4 HY4 HD4 HNO HUN
                    by_cases hml : m < ns.length
                    · go_wp2_with fail
                      go_ret2
                      exact UnA.no HFL.out (bel_trans hbb (bel_alloc _ _))
                    · obtain rfl : m = ns.length := by omega
                      go_wp2_with fail
                      go_ret2
                      exact UnA.no HFL.out (bel_trans hbb (bel_alloc _ _))
                  | true =>
                    obtain rfl : m = ns.length := by
                      rcases Nat.lt_or_ge m ns.length with h | h
                      · exact absurd ⟨h, rfl⟩ hgo
                      · omega
                    have HFL := (show Hid (UnOK ns rs k') from HUN.out (List.ext_getElem (by rw [List.length_map]; exact hlen) (fun q g1 g2 => by
                      rw [List.getElem_map]
                      exact (HM.out.2.1 rfl).2 q (by rw [List.length_map] at g1; exact g1) g2 g2)) (HM.out.2.1 rfl).1)
                    have hbb := bel_trans (bel_trans HB.out HB4.out) HM.out.1
                    have HOw := (show Hid _ from Own.still HO.out (bel_trans HB4.out HM.out.1))
                    have hsz := (bel_trans HB4.out HM.out.1).size
                    clear HM HX4 HY4 HD4 HNO HUN
                    go_wp2_with fail
                    go_ret2
                    exact ⟨k', 0, va, vm, vc, .inl ⟨HFL.out, rfl⟩, rfl, hbb, Own.keep HOw.out (by omega) hsz (fun _ _ _ _ => rfl)⟩
            · have HFL := (show Hid (∀ T, ¬ UnOK ns rs T) from HNO.out (fun h => hlen (by rw [← h.1, List.length_map])))
              have hlz : ¬ ((N.length : Int) = (ns.length : Int)) := by omega
              go_wp2_with fail
              go_loopw [11, 12] (fun sv i wx => sv = .bool false ∧ i = .int .i64 0 ∧ wx = w2.alloc (.cells #[.slice a3 N.length c3, .slice a4 R.length c4] 27)) (fun _ _ _ => 0)
              case atStart => exact ⟨rfl, rfl, rfl⟩
              case round =>
                obtain ⟨rfl, rfl, rfl⟩ := hrel
                by_cases hml : 0 < ns.length
                · have hmz : (0 : Int) < (ns.length : Int) := by omega
                  go_wp2_with fail
                  go_ret2
                  exact UnA.no HFL.out (bel_trans (bel_trans HB.out HBr.out) (bel_alloc _ _))
                · have hmz : ¬ ((0 : Int) < (ns.length : Int)) := by omega
                  go_wp2_with fail
                  go_ret2
                  exact UnA.no HFL.out (bel_trans (bel_trans HB.out HBr.out) (bel_alloc _ _))
end Go.Proofs.Ytblfeifedcddnaa
