import Derived.Test.YthmdoplickpmaaiRxS9
namespace Go.Proofs.Ythmdoplickpmaai
open Go.RowKit Go.Deep Go.Lib
set_option linter.unusedVariables false
set_option maxRecDepth 100000
set_option linter.unusedSimpArgs false

theorem cat_end {pC : Nat → Except Nat Nat} {s : ByteArray} : ∀ (n k k1 : Nat), s.size - k ≤ n → RxGood s k pC → k ≤ s.size → cat pC s k = .ok k1 → goes s k1 = false
  | n, k, k1, hn, hg, hk, h => by
    cases hgo : goes s k with
    | false => rw [cat_stop hgo] at h; cases h; exact hgo
    | true =>
      have hlt := goes_lt hgo
      rw [cat_step hg hgo] at h
      have hin := xRep_in hg hk
      cases hx : xRep pC s k with
      | error j => rw [hx] at h; cases h
      | ok k2 =>
        rw [hx] at h hin
        dsimp only at h
        have h1 : k + 1 ≤ k2 := hin.1
        cases n with
        | zero => omega
        | succ n => exact cat_end n k2 k1 (by omega) (hg.mono (by omega)) hin.2 h
theorem alts_end {pC : Nat → Except Nat Nat} {s : ByteArray} : ∀ (n k k1 : Nat), s.size - k ≤ n → RxGood s k pC → k ≤ s.size → goes s k = false → alts pC s k = .ok k1 → goes s k1 = false ∧ seesB s k1 124 = false
  | n, k, k1, hn, hg, hk, h0, h => by
    cases hb : seesB s k 124 with
    | false => rw [alts_stop hb] at h; cases h; exact ⟨h0, hb⟩
    | true =>
      have hlt := seesB_lt hb
      rw [alts_step hg hb] at h
      have hgm := hg.mono (Nat.le_succ k)
      have hin := cat_in hgm hlt
      cases hx : cat pC s (k + 1) with
      | error j => rw [hx] at h; cases h
      | ok k2 =>
        have he := cat_end s.size (k + 1) k2 (by omega) hgm hlt hx
        rw [hx] at h hin
        dsimp only at h
        have h1 : k + 1 ≤ k2 := hin.1
        cases n with
        | zero => omega
        | succ n => exact alts_end n k2 k1 (by omega) (hg.mono (by omega)) hin.2 he h
theorem xOr_ends (s : ByteArray) (d k : Nat) : Ends (xOr s d) s k := by
  intro k' k1 hk hk' h hlt
  cases d with
  | zero => rw [xOr] at h; cases h
  | succ d =>
    rw [xOr] at h
    have hg := xOr_good s d k'
    have hin := cat_in hg hk'
    cases hx : cat (xOr s d) s k' with
    | error j => rw [hx] at h; cases h
    | ok k2 =>
      have he := cat_end s.size k' k2 (by omega) hg hk' hx
      rw [hx] at h hin
      dsimp only at h
      obtain ⟨h1, h2⟩ := alts_end s.size k2 k1 (by omega) (xOr_good s d k2) hin.2 he h
      unfold goes at h1
      simp [hlt, h2] at h1
      exact h1

/-- What a choice comes to behind its first sequence. -/
def orM (f : Nat → Except Nat Nat) (r : Except Nat Nat) : Except Nat Nat := match r with
  | .error j => .error j
  | .ok k => f k
/-- What stands while a choice is read. -/
def OrS (R : Except Nat Nat) (f : Nat → Except Nat Nat) (p k : Nat) (s : ByteArray) (c d k' m : Nat) (g' : Option Nat) (wr : World) : Prop := (k ≤ k' ∧ m ≤ k' + 1 ∧ k' ≤ s.size ∧ Rd wr p s k' (c + d) g' ∧ f k' = R) ∨ ∃ j, Bd wr p s j (c + d + 1) g' ∧ R = .error j
set_option maxHeartbeats 3200000 in
theorem or_s {p k c d : Nat} {s : ByteArray} {g : Option Nat} (w : World) (hC : SDoes (xOr s d) p s k) (h : Rd w p s k c g) (hc : c ≤ 1000) :
    Calls Try.prog 49 #[.pointer (some ⟨p, 0, none⟩)] w fun e w' => AGot (xOr s (d + 1) k) p s c 2 g w e w' := by
  have hs := h.small
  have hk := h.1
  have HG := (show Hid _ from hC)
  have HCT := (show Hid _ from cat_s w hC (xOr_ends s d k) (xOr_good s d k) h hc)
  have hin0 := cat_in (xOr_good s d k) hk
  have hr : xOr s (d + 1) k = orM (alts (xOr s d) s) (cat (xOr s d) s k) := by rw [xOr]; cases cat (xOr s d) s k <;> rfl
  rw [hr]
  clear hr hC
  generalize cat (xOr s d) s k = r0 at *
  generalize hR : orM (alts (xOr s d) s) r0 = R
  have HR0 := (show Hid _ from hR); clear hR
  have hzr := (zero_of_info (P := Try.prog) (t := 113) (v := .agg (nd 0 (.slice none 0 0))) (n := 258) (by kernel_rfl)).1
  obtain ⟨i3, hi3, hzz⟩ := Option.map_eq_some_iff.1 info3
  simp only [Prod.mk.injEq] at hzz
  obtain ⟨hz0, hz1, hz2⟩ := hzz
  clear h
  go_enter Try.func49, Try.ntmps49
  go_wp2_with fail
  refine Calls.mono HCT.out ?_
  rintro e w1 ⟨⟨m0, rfl⟩, hag⟩
  have HK0 : Hid (∃ (k1 : Nat) (g1 : Option Nat), Kd (w1.alloc (.cells #[.int .i64 (m0 : Int)] 3)) p g1 (.slice (some ⟨w1.heap.size, 0, none⟩) 1 1) 1 w.heap.size ∧ Mv p g w g1 (w1.alloc (.cells #[.int .i64 (m0 : Int)] 3)) ∧ OrS R (alts (xOr s d) s) p k s c 1 k1 1 g1 (w1.alloc (.cells #[.int .i64 (m0 : Int)] 3))) := by
    cases r0 with
    | error j =>
      obtain ⟨g1, h1, v1⟩ := hag
      have hb := bel_alloc w1 (.cells #[.int .i64 (m0 : Int)] 3)
      obtain ⟨ys, o1, o2⟩ := Kd.new (w := w1) (p := p) (g := g1) #[.int .i64 (m0 : Int)] 1 rfl (by unfold maxLen; omega) h1.lts.1 h1.lts.2
      exact ⟨0, g1, ⟨ys, o1, fun b hb => ⟨(o2 b hb).1, (o2 b hb).2.1, Nat.le_trans v1.fr.2.2.2.1 (o2 b hb).2.2⟩⟩, v1.trans (Mv.bel hb), .inr ⟨j, h1.bel hb, HR0.out.symm⟩⟩
    | ok k1 =>
      obtain ⟨g1, h1, v1⟩ := hag
      have hb := bel_alloc w1 (.cells #[.int .i64 (m0 : Int)] 3)
      obtain ⟨ys, o1, o2⟩ := Kd.new (w := w1) (p := p) (g := g1) #[.int .i64 (m0 : Int)] 1 rfl (by unfold maxLen; omega) h1.lts.1 h1.lts.2
      have h2 : k + 0 ≤ k1 ∧ k1 ≤ s.size := hin0
      exact ⟨k1, g1, ⟨ys, o1, fun b hb => ⟨(o2 b hb).1, (o2 b hb).2.1, Nat.le_trans v1.fr.2.2.2.1 (o2 b hb).2.2⟩⟩, v1.trans (Mv.bel hb), .inl ⟨by omega, by omega, h2.2, h1.bel hb, HR0.out⟩⟩
  clear hag HR0 hin0 HCT
  obtain ⟨k1, g1, hK0⟩ := HK0.out
  have HK1 := (show Hid _ from hK0); clear hK0 HK0
  go_wp2_with fail
  go_loopw [3] (fun v wr => ∃ (a : Option Addr) (m cap k' : Nat) (g' : Option Nat), v = .slice a m cap ∧ m ≤ s.size + 1 ∧ Hid (Kd wr p g' v m w.heap.size ∧ Mv p g w g' wr ∧ OrS R (alts (xOr s d) s) p k s c 1 k' m g' wr)) (fun _ wr => ms s p wr)
  case atStart => exact ⟨some ⟨w1.heap.size, 0, none⟩, 1, 1, k1, g1, rfl, by omega, HK1⟩
  case round =>
    clear HK1
    obtain ⟨a, m, cap, k', g', rfl, hms, HRR⟩ := hrel
    obtain ⟨hkd, hmv, hst⟩ := HRR.out
    clear HRR
    rcases hst with ⟨hkk, hmk, hk', hrd, hcat⟩ | ⟨j, hbd, hrj⟩
    case inr =>
      have HQ := (show Hid _ from fun n => moreQb wr hbd n)
      have HD := (show Hid _ from (⟨fun n => hbd.drewN n, fun n => hmv.drewN n⟩ : (∀ n, Bd (wr.drewN n) p s j (c + 1 + 1) g') ∧ ∀ n, Mv p g w g' (wr.drewN n)))
      have HE := (show Hid (R = .error j) from hrj)
      clear hkd hmv hbd hrj
      go_wp2_with fail
      go_quiet ((go_at_call 50; refine Calls.quiet_of (HQ.out _)))
      have HX := (show Hid _ from (⟨HD.out.1 nq, HD.out.2 nq⟩ : Bd (wr.drewN nq) p s j (c + 1 + 1) g' ∧ Mv p g w g' (wr.drewN nq))); clear HD
      generalize wr.drewN nq = W1 at *
      have HP := (show Hid _ from put_bad (((nd 0 (.slice none 0 0)).setIfInBounds 0 (.int .i64 3)).setIfInBounds 257 (.slice a m cap)) (by rw [nd_two]; rfl) (by rw [nd_two]; exact nd_one _ _ rfl) _ HX.out.1 (by omega))
      go_wp2_with fail
      refine Calls.mono HP.out ?_
      rintro e w9 ⟨⟨m9, rfl⟩, g9, h9, v9⟩
      have HZ := (show Hid _ from (⟨h9.mono (by omega), HX.out.2.trans v9⟩ : Bd w9 p s (j) (c + 2 + 1) g9 ∧ Mv p g w g9 w9)); clear h9 v9
      go_wp2_with fail
      go_ret
      rw [HE.out]
      exact ⟨⟨m9, rfl⟩, g9, HZ.out.1, HZ.out.2⟩
    case inl =>
      obtain ⟨x0, x1, x2, y1, y2, _⟩ := hrd.cells
      have HM2 := (show Hid _ from ms_ok hrd)
      have HR := (show Hid _ from (⟨hrd, hkd, hmv, hcat⟩ : Rd wr p s k' (c + 1) g' ∧ Kd wr p g' (.slice a m cap) m w.heap.size ∧ Mv p g w g' wr ∧ alts (xOr s d) s k' = R)); clear hrd hkd hmv hcat
      generalize hon : seesB s k' 124 = on
      have HON := (show Hid _ from hon); clear hon
      go_upto_region 2 with fail
      go_cut [20] from 7 to 19 (fun v wx => v = .bool on ∧ Hid (∃ m, wx = wr.drewN m))
      case first =>
        by_cases hl2 : k' < s.size
        · have hl2' : (k' : Int) < s.size := by omega
          have HQ := (show Hid _ from fun n => moreQ wr HR.out.1 (r := true) (by simp [hl2]) n)
          by_cases h124 : s[k'] = 124
          · have hq : ((s[k'].toNat : Int) == 124) = true := by rw [h124]; simp
            have HT : Hid (on = true) := by show on = true; rw [← HON.out]; exact sees_eq hl2 124 h124
            clear h124
            go_quiet ((go_at_call 50; refine Calls.quiet_of (HQ.out _)))
            go_wp2_with fail
            go_meet
            exact ⟨by rw [HT.out], _, rfl⟩
          · have hq : ((s[k'].toNat : Int) == 124) = false := ne_of h124
            have HT : Hid (on = false) := by show on = false; rw [← HON.out]; exact sees_ne hl2 124 h124
            clear h124
            go_quiet ((go_at_call 50; refine Calls.quiet_of (HQ.out _)))
            go_wp2_with fail
            go_meet
            exact ⟨by rw [HT.out], _, rfl⟩
        · have HQ := (show Hid _ from fun n => moreQ wr HR.out.1 (r := false) (by simp [hl2]) n)
          have HT : Hid (on = false) := by show on = false; rw [← HON.out]; unfold seesB; simp [hl2]
          go_quiet ((go_at_call 50; refine Calls.quiet_of (HQ.out _)))
          go_wp2_with fail
          go_meet
          exact ⟨by rw [HT.out], _, rfl⟩
      case rest =>
        obtain ⟨rfl, HC⟩ := hcut
        have hX : Rd wc p s k' (c + 1) g' ∧ Kd wc p g' (.slice a m cap) m w.heap.size ∧ Mv p g w g' wc := by
          obtain ⟨mq, rfl⟩ := HC.out
          exact ⟨HR.out.1.drewN mq, HR.out.2.1.mv ((Mv.refl p g' wr).drewN mq), HR.out.2.2.1.drewN mq⟩
        have HF := (show Hid _ from HR.out.2.2.2)
        clear HC HR x0 x1 x2 y1 y2
        cases on
        case false =>
          have HE : Hid (R = .ok k') := HF.out.symm.trans (alts_stop HON.out)
          have HX := (show Hid _ from (⟨hX.1, hX.2.2⟩ : Rd wc p s k' (c + 1) g' ∧ Mv p g w g' wc)); clear hX
          have HP := (show Hid _ from put_ok (((nd 0 (.slice none 0 0)).setIfInBounds 0 (.int .i64 3)).setIfInBounds 257 (.slice a m cap)) (by rw [nd_two]; rfl) (by rw [nd_two]; exact nd_one _ _ rfl) _ HX.out.1 (by omega))
          go_wp2_with fail
          refine Calls.mono HP.out ?_
          rintro e w9 ⟨⟨m9, rfl⟩, g9, h9, v9⟩
          have HZ := (show Hid _ from (⟨h9.mono (by omega), HX.out.2.trans v9⟩ : Rd w9 p s (k') (c + 2) g9 ∧ Mv p g w g9 w9)); clear h9 v9
          go_wp2_with fail
          go_ret
          rw [HE.out]
          exact ⟨⟨m9, rfl⟩, g9, HZ.out.1, HZ.out.2⟩
        case true =>
          have hl2 : k' < s.size := seesB_lt HON.out
          have hst := HF.out.symm.trans (alts_step (xOr_good s d k') HON.out)
          have hin := cat_in (xOr_good s d (k' + 1)) hl2
          obtain ⟨x0, x1, x2, y1, y2, _⟩ := hX.1.cells
          have hset := Mv.set1 (p := p) (g := g') (w := wc) 1 (.int .i64 ((k' : Int) + 1))
          have HX := (show Hid _ from (⟨hX.1.adv hl2, hX.2.1.mv hset, hX.2.2.trans hset⟩ : Rd (wc.setCell ⟨p, 1, none⟩ (.int .i64 ((k' : Int) + 1))) p s (k' + 1) (c + 1 - 3) g' ∧ Kd (wc.setCell ⟨p, 1, none⟩ (.int .i64 ((k' : Int) + 1))) p g' (.slice a m cap) m w.heap.size ∧ Mv p g w g' (wc.setCell ⟨p, 1, none⟩ (.int .i64 ((k' : Int) + 1))))); clear hset hX
          have HRP := (show Hid _ from cat_s _ (fun a b c d e f => HG.out a b c d (by omega) f) (xOr_ends s d (k' + 1)) (xOr_good s d (k' + 1)) HX.out.1 (by omega))
          generalize cat (xOr s d) s (k' + 1) = r at *
          cases r with
          | error j =>
            have HE := (show Hid (R = .error j) from hst); clear hst hin
            go_wp2_with fail
            refine Calls.mono HRP.out ?_
            rintro e w5 ⟨⟨mm, rfl⟩, g5, h5, v5⟩
            have H5 := (show Hid _ from (⟨h5.mono (by omega), HX.out.2.1.mv v5, HX.out.2.2.trans v5⟩ : Bd w5 p s j (c + 1 + 1) g5 ∧ Kd w5 p g5 (.slice a m cap) m w.heap.size ∧ Mv p g w g5 w5)); clear h5 v5 x0 x1 x2 y1 y2
            have hbl := bel_alloc w5 (.cells #[.int .i64 (mm : Int)] 3)
            have hkk := H5.out.2.1.mv (Mv.bel hbl : Mv p g5 w5 g5 _)
            obtain ⟨ys, hown, hky⟩ := hkk
            have HO := (show Hid _ from (⟨hown, hky⟩ : _ ∧ _)); clear hown hky hbl
            go_wp2_with (at_builtin; refine wpList_append_lies _ rfl (.tmp 28) (.tmp 31) 25 rfl 0 3 i3 _ 1 8 Try.underlying25 hi3 hz0 hz1 hz2 rfl (by decide) _ m ys rfl HO.out.1 ⟨w5.heap.size, 0, none⟩ 1 1 [.int .i64 (mm : Int)] rfl rfl ?c1 ?c2 (by decide) ?c3 (by omega) (Nat.zero_le _) _ rfl ?nx)
            case c1 => exact World.news_of_block (cs := #[.int .i64 (mm : Int)]) (blk_alloc_new _ _)
            case c2 => intro u hu; simp at hu; subst hu; rfl
            case c3 => unfold maxLen; omega
            case nx =>
              intro g3 cap3 w6 hown6 hgr6 hat6 hlt6
              have hob : ∀ b, (Value.slice a m cap).ownBlock = some b → b ≠ p ∧ g5 ≠ some b ∧ w.heap.size ≤ b := HO.out.2
              have hlts := H5.out.1.lts
              have hsz : (w5.alloc (.cells #[.int .i64 (mm : Int)] 3)).heap.size = w5.heap.size + 1 := World.size_alloc _ _
              have hKd : Kd w6 p g5 (.slice (some ⟨g3, 0, none⟩) (m + 1) cap3) (m + 1) w.heap.size := by
                refine ⟨_, hown6, fun b hb => ?_⟩
                cases hb
                rcases hat6 with e | e
                · exact hob g3 e
                · refine ⟨?_, fun e2 => ?_, ?_⟩
                  · show g3 ≠ p; omega
                  · have := hlts.2 _ e2; have e3 : (⟨g3, 0, none⟩ : Addr).block = g3 := rfl; omega
                  · show w.heap.size ≤ g3; have := H5.out.2.2.fr.2.2.2.1; omega
              have hS6 := (H5.out.1.bel (bel_alloc w5 (.cells #[.int .i64 (mm : Int)] 3))).gr hgr6 (fun b hb => ⟨(hob b hb).1, (hob b hb).2.1⟩)
              have hM6 := (H5.out.2.2.trans (Mv.bel (bel_alloc w5 (.cells #[.int .i64 (mm : Int)] 3)))).gr hgr6 (fun b hb => (hob b hb).2.2)
              have H6 := (show Hid _ from (⟨hS6, hKd, hM6⟩ : Bd w6 p s j (c + 1 + 1) g5 ∧ Kd w6 p g5 (.slice (some ⟨g3, 0, none⟩) (m + 1) cap3) (m + 1) w.heap.size ∧ Mv p g w g5 w6)); clear hS6 hKd hM6 hown6 hgr6 hat6 hlt6 hob hlts hsz HO
              go_wp2_with fail
              refine ⟨⟨some ⟨g3, 0, none⟩, m + 1, cap3, k', g5, rfl, by omega, ⟨H6.out.2.1, H6.out.2.2, .inr ⟨j, H6.out.1, HE.out⟩⟩⟩, ?_⟩
              rw [ms_bad H6.out.1, HM2.out]
              omega
          | ok k1 =>
            have HE := (show Hid (alts (xOr s d) s k1 = R) from hst.symm); clear hst
            have hk1a : k' + 1 + 0 ≤ k1 := hin.1
            have hk1 : k1 ≤ s.size := hin.2
            clear hin
            go_wp2_with fail
            refine Calls.mono HRP.out ?_
            rintro e w5 ⟨⟨mm, rfl⟩, g5, h5, v5⟩
            have H5 := (show Hid _ from (⟨h5.mono (by omega), HX.out.2.1.mv v5, HX.out.2.2.trans v5⟩ : Rd w5 p s k1 (c + 1) g5 ∧ Kd w5 p g5 (.slice a m cap) m w.heap.size ∧ Mv p g w g5 w5)); clear h5 v5 x0 x1 x2 y1 y2
            have hbl := bel_alloc w5 (.cells #[.int .i64 (mm : Int)] 3)
            have hkk := H5.out.2.1.mv (Mv.bel hbl : Mv p g5 w5 g5 _)
            obtain ⟨ys, hown, hky⟩ := hkk
            have HO := (show Hid _ from (⟨hown, hky⟩ : _ ∧ _)); clear hown hky hbl
            go_wp2_with (at_builtin; refine wpList_append_lies _ rfl (.tmp 28) (.tmp 31) 25 rfl 0 3 i3 _ 1 8 Try.underlying25 hi3 hz0 hz1 hz2 rfl (by decide) _ m ys rfl HO.out.1 ⟨w5.heap.size, 0, none⟩ 1 1 [.int .i64 (mm : Int)] rfl rfl ?c1 ?c2 (by decide) ?c3 (by omega) (Nat.zero_le _) _ rfl ?nx)
            case c1 => exact World.news_of_block (cs := #[.int .i64 (mm : Int)]) (blk_alloc_new _ _)
            case c2 => intro u hu; simp at hu; subst hu; rfl
            case c3 => unfold maxLen; omega
            case nx =>
              intro g3 cap3 w6 hown6 hgr6 hat6 hlt6
              have hob : ∀ b, (Value.slice a m cap).ownBlock = some b → b ≠ p ∧ g5 ≠ some b ∧ w.heap.size ≤ b := HO.out.2
              have hlts := H5.out.1.lts
              have hsz : (w5.alloc (.cells #[.int .i64 (mm : Int)] 3)).heap.size = w5.heap.size + 1 := World.size_alloc _ _
              have hKd : Kd w6 p g5 (.slice (some ⟨g3, 0, none⟩) (m + 1) cap3) (m + 1) w.heap.size := by
                refine ⟨_, hown6, fun b hb => ?_⟩
                cases hb
                rcases hat6 with e | e
                · exact hob g3 e
                · refine ⟨?_, fun e2 => ?_, ?_⟩
                  · show g3 ≠ p; omega
                  · have := hlts.2 _ e2; have e3 : (⟨g3, 0, none⟩ : Addr).block = g3 := rfl; omega
                  · show w.heap.size ≤ g3; have := H5.out.2.2.fr.2.2.2.1; omega
              have hS6 := (H5.out.1.bel (bel_alloc w5 (.cells #[.int .i64 (mm : Int)] 3))).gr hgr6 (fun b hb => ⟨(hob b hb).1, (hob b hb).2.1⟩)
              have hM6 := (H5.out.2.2.trans (Mv.bel (bel_alloc w5 (.cells #[.int .i64 (mm : Int)] 3)))).gr hgr6 (fun b hb => (hob b hb).2.2)
              have H6 := (show Hid _ from (⟨hS6, hKd, hM6⟩ : Rd w6 p s k1 (c + 1) g5 ∧ Kd w6 p g5 (.slice (some ⟨g3, 0, none⟩) (m + 1) cap3) (m + 1) w.heap.size ∧ Mv p g w g5 w6)); clear hS6 hKd hM6 hown6 hgr6 hat6 hlt6 hob hlts hsz HO
              go_wp2_with fail
              refine ⟨⟨some ⟨g3, 0, none⟩, m + 1, cap3, k1, g5, rfl, by omega, ⟨H6.out.2.1, H6.out.2.2, .inl ⟨by omega, by omega, hk1, H6.out.1, HE.out⟩⟩⟩, ?_⟩
              rw [ms_ok H6.out.1, HM2.out]
              omega
end Go.Proofs.Ythmdoplickpmaai
