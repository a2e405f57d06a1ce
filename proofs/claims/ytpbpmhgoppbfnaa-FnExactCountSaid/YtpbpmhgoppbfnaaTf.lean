import Derived.Test.YtpbpmhgoppbfnaaTe
import Derived.Test.YtpbpmhgoppbfnaaTz
/-! The specification: the table of counts, made. -/
namespace Go.Proofs.Ytpbpmhgoppbfnaa
open Go.RowKit Go.Deep
set_option linter.unusedVariables false
set_option maxRecDepth 100000
set_option linter.unusedSimpArgs false

theorem info28t : (Try.prog.info? 28).map (fun i => (i.zero, i.size, i.bytes)) = some (some (.slice none 0 0), 1, 24) := by kernel_rfl
theorem info54t : (Try.prog.info? 54).map (fun i => (i.zero, i.size, i.bytes)) = some (some (.slice none 0 0), 1, 24) := by kernel_rfl
theorem info116t : (Try.prog.info? 116).map (fun i => (i.zero, i.size)) = some (some (.agg #[.slice none 0 0, .slice none 0 0, .int .i64 0, .slice none 0 0, .slice none 0 0, .slice none 0 0, .slice none 0 0, .slice none 0 0]), 8) := by kernel_rfl
theorem run_make54 (n : Nat) (hn : n ≤ 1048576) (w : World) :
    (Instr.makeSlice 54 (.int .i64 (n : Int)) (.int .i64 (n : Int))).run Try.prog w = .ok (.slice (some ⟨w.heap.size, 0, none⟩) n n) (w.alloc (.cells (madeCells #[.slice none 0 0] n) 28)) := by
  obtain ⟨i, hi, hz, hs, hb⟩ := info_parts info28t
  have hr := run_make (P := Try.prog) w 54 28 i _ Try.underlying54 hi hz .i64 .i64 n n (by omega) (Int.le_refl _) (by rw [hb]; omega) (by omega)
  simp only [Int.toNat_natCast, hs, Nat.mul_one] at hr
  exact hr
theorem own_kept' {w w' : World} {L e z n : Nat} {v : Value} {xs : List Value} (h : w.ownsRow L e z v n xs) (hb : ∀ k, v.ownBlock = some k → w'.heap[k]? = w.heap[k]?) : w'.ownsRow L e z v n xs := by
  refine ⟨h.1, ?_⟩
  rcases h.2 with h0 | ⟨g, cap, cur, hv, hB, hg, r⟩
  · exact .inl h0
  · exact .inr ⟨g, cap, cur, hv, hB, (hb g (by rw [hv]; rfl)).trans hg, r⟩
theorem one_news (w : World) (x : Value) (T : TypeId) : ∀ (j : Nat) (u : Value), [x][j]? = some u → (w.alloc (.cells #[x] T)).cell? ((⟨w.heap.size, 0, none⟩ : Addr).add j) = some u := by
  intro j u h
  match j, h with
  | 0, h =>
    have e : x = u := by simpa using h
    subst e
    simp [Addr.add, go_sem]
  | j + 1, h => simp at h
theorem one_cell {x : Value} (h : x.oneCell' = true) : ∀ u ∈ [x], u.oneCell' = true := by
  intro u hu
  have e : u = x := by simpa using hu
  subst e
  exact h
/-- What is known while the Nons' rows are made. -/
def Lv1 (w1 : World) (n1 g bnl : Nat) (nl : List Bool) (rl : Nat → Nat) (c0 c1 c2 c3 c4 c5 : Value) (kk : Nat) (wr : World) : Prop :=
  ∃ (x : Px) (v6 : Value), PB w1 n1 g bnl nl rl kk 0 0 x wr ∧ x.nb = none ∧ Box wr g 116 [c0, c1, c2, c3, c4, c5, v6, .slice none 0 0] ∧ wr.ownsRow w1.heap.size 54 1 v6 kk ((List.range kk).map (nV n1 x)) ∧ ∀ b, v6.ownBlock = some b → x.ow b = (0, 0, 0)
/-- .. while those of one are made, from wr on. -/
def Lv2 (w1 : World) (n1 g bnl : Nat) (nl : List Bool) (rl : Nat → Nat) (c0 c1 c2 c3 c4 c5 : Value) (kk : Nat) (wr : World) (v7 : Value) (ii : Nat) (wm : World) : Prop :=
  ∃ (x : Px) (v6 : Value), PB w1 n1 g bnl nl rl kk ii 0 x wm ∧ x.nb = none ∧ Box wm g 116 [c0, c1, c2, c3, c4, c5, v6, .slice none 0 0] ∧ wm.ownsRow w1.heap.size 54 1 v6 kk ((List.range kk).map (nV n1 x)) ∧ (∀ b, v6.ownBlock = some b → x.ow b = (0, 0, 0) ∧ b < wr.heap.size) ∧ g < wr.heap.size ∧
    wm.ownsRow wr.heap.size 28 1 v7 ii ((List.range ii).map (rV n1 x kk)) ∧ (∀ b, v7.ownBlock = some b → x.ow b = (0, 0, 0)) ∧ w1.heap.size ≤ wr.heap.size ∧ wr.heap.size ≤ wm.heap.size
/-- .. while the memos are made. -/
def Lv4 (w1 : World) (n1 g bnl : Nat) (nl : List Bool) (rl : Nat → Nat) (c0 c1 c2 c3 c4 c5 : Value) (nn pp : Nat) (wr : World) : Prop :=
  ∃ (x : Px) (bN cN : Nat) (v7 : Value), PB w1 n1 g bnl nl rl nn 0 pp x wr ∧ x.nb = some bN ∧ nn ≤ cN ∧ cN ≤ maxLen ∧ Box wr g 116 [c0, c1, c2, c3, c4, c5, .slice (some ⟨bN, 0, none⟩) nn cN, v7] ∧ wr.ownsRow w1.heap.size 54 1 v7 pp ((List.range pp).map (pV rl x)) ∧ ∀ b, v7.ownBlock = some b → x.ow b = (0, 0, 0)
set_option maxHeartbeats 6400000 in
theorem table46 {S S2 : Nat → Prop} (d : Bn) (hok : Bok d) (v0 v1 v3 : Value) (W : List Int) (vw : Value) (w : World) (h : BLies w S d v0 v1 v3) (hwd : Ints w S2 W vw) (hwl : W.length ≤ 40) (V : Nat → Nat → Nat → Nat) (hV : Cn d W V) (hh : Nat → Nat) (hh1 : ∀ x, hh x ≤ d.terms.length + d.nons.length) (hh2 : ∀ x y, y < d.terms.length + d.nons.length → Es d x y → hh y < hh x) :
    Calls Try.prog 46 #[.agg #[v0, v1, .int .i64 d.own, v3], vw] w fun e w' => ∃ s : Sx, s.d = d ∧ s.W = W ∧ s.V = V ∧ s.h = hh ∧ w.heap.size ≤ s.W0.heap.size ∧ Below w.heap.size w s.W0 ∧ SxOK (fun _ => True) s ∧ (∃ ow, TB s ow (fun _ _ => none) w') ∧ e = .returned (.pointer (some ⟨s.g, 0, none⟩)) := by
  obtain ⟨a0, c0, a1, c1, a3, c3, rfl, rfl, rfl⟩ := h.form
  obtain ⟨av, cv, rfl, hwm⟩ := hwd.form
  have hnt := hok.nt
  have hnn := hok.nn
  have hnp := hok.np
  have hb0 := bel_alloc w (.cells #[.slice a0 d.terms.length c0, .slice a1 d.nons.length c1, .int .i64 d.own, .slice a3 d.prods.length c3] 34)
  have HX := (show Hid _ from Box.new w 34 [.slice a0 d.terms.length c0, .slice a1 d.nons.length c1, .int .i64 d.own, .slice a3 d.prods.length c3])
  obtain ⟨w1, hw1⟩ : ∃ w1, w.alloc (.cells #[.slice a0 d.terms.length c0, .slice a1 d.nons.length c1, .int .i64 d.own, .slice a3 d.prods.length c3] 34) = w1 := ⟨_, rfl⟩
  have HX1 := (show Hid (Box w1 w.heap.size 34 [.slice a0 d.terms.length c0, .slice a1 d.nons.length c1, .int .i64 d.own, .slice a3 d.prods.length c3]) from by rw [← hw1]; exact HX.out)
  clear HX
  rw [hw1] at hb0
  have HBL := (show Hid _ from h.still hb0)
  have HWD := (show Hid _ from Ints.still hwd hb0)
  have HB0 := (show Hid _ from hb0)
  have HOK := (show Hid _ from hok)
  have HVV := (show Hid _ from (⟨hV, hh1, hh2⟩ : _ ∧ _ ∧ _))
  have HNU := (show Hid _ from fun (wq : World) (hb : Below w1.heap.size w1 wq) => null_any d hok _ _ _ wq (HBL.out.still hb))
  have HC := (show Hid (∀ wq, Below w1.heap.size w1 wq → wq.cell? ⟨w.heap.size, 0, none⟩ = some (.slice a0 d.terms.length c0) ∧ wq.cell? ⟨w.heap.size, 1, none⟩ = some (.slice a1 d.nons.length c1) ∧ wq.cell? ⟨w.heap.size, 2, none⟩ = some (.int .i64 d.own) ∧ wq.cell? ⟨w.heap.size, 3, none⟩ = some (.slice a3 d.prods.length c3)) from fun wq hb => by
    have h1 := HX1.out.still hb
    exact ⟨h1.cell 0 (by simp), h1.cell 1 (by simp), h1.cell 2 (by simp), h1.cell 3 (by simp)⟩)
  obtain ⟨i3, hi3, hzz⟩ := Option.map_eq_some_iff.1 info3i
  simp only [Prod.mk.injEq] at hzz
  obtain ⟨hz0, hz1, hz2⟩ := hzz
  obtain ⟨i28, hi28, hzz⟩ := Option.map_eq_some_iff.1 info28t
  simp only [Prod.mk.injEq] at hzz
  obtain ⟨hy0, hy1, hy2⟩ := hzz
  obtain ⟨i54, hi54, hzz⟩ := Option.map_eq_some_iff.1 info54t
  simp only [Prod.mk.injEq] at hzz
  obtain ⟨hx0, hx1, hx2⟩ := hzz
  obtain ⟨i116, hi116, hzz⟩ := Option.map_eq_some_iff.1 info116t
  simp only [Prod.mk.injEq] at hzz
  obtain ⟨hu0, hu1⟩ := hzz
  unfold maxLen at hwm
  have hsz1 : w1.heap.size = w.heap.size + 1 := by rw [← hw1]; simp
  have HSZ := (show Hid _ from hsz1); clear hsz1
  clear h hwd hV hh1 hh2 hb0 hok
  go_enter Try.func46, Try.ntmps46
  go_wp2_with fail
  clear hw1
  go_cut [5] from 12 to 17 (fun v wx => ∃ g : Nat, v = .pointer (some ⟨g, 0, none⟩) ∧ Hid (∃ bnl nl, Below w1.heap.size w1 wx ∧ w1.heap.size ≤ bnl ∧ bnl < g ∧ BRow wx bnl nl ∧ Box wx g 116 [.slice a0 d.terms.length c0, .slice a1 d.nons.length c1, .int .i64 d.own, .slice a3 d.prods.length c3, .slice (some ⟨bnl, 0, none⟩) nl.length nl.length, .slice av W.length cv, .slice none 0 0, .slice none 0 0] ∧ nl.length = d.nons.length ∧ Nsd d.terms.length (bps d) (Nf d.terms.length nl) ∧ ∀ p ∈ bps d, quN d.terms.length nl p))
  case first =>
    have hbd := (Below.refl w1.heap.size w1).drew
    have hS0 := HC.out _ hbd
    go_region_held3 (fun wq => wq.cell? ⟨w.heap.size, 0, none⟩ = some (.slice a0 d.terms.length c0) ∧ wq.cell? ⟨w.heap.size, 1, none⟩ = some (.slice a1 d.nons.length c1) ∧ wq.cell? ⟨w.heap.size, 2, none⟩ = some (.int .i64 d.own) ∧ wq.cell? ⟨w.heap.size, 3, none⟩ = some (.slice a3 d.prods.length c3)) (first | exact hS0 | exact hS1 | exact HC.out _ ((hB2.alloc (Nat.le_of_lt hlt2) _))) ((go_at_call 77; refine Calls.mono (HNU.out _ hbd) ?_; rintro e w2 ⟨bnl, nl, rfl, hb2, hbl, hbr, hnl, hns, hqu⟩; have HNL2 := (show Hid _ from hnl); clear hnl; have hB2 := bel_trans hbd hb2; have hlt2 : w1.heap.size < w2.heap.size := Nat.lt_of_le_of_lt hbl (World.rowIs.lt hbr); have hS1 := HC.out _ hB2))
    all_goals go_wp2_with fail
    all_goals go_meet
    all_goals exact ⟨w2.heap.size, rfl, bnl, nl, hB2.alloc (Nat.le_of_lt hlt2) _, hbl, World.rowIs.lt hbr, BRow.still hbr (bel_alloc _ _), Box.new w2 116 [.slice a0 d.terms.length c0, .slice a1 d.nons.length c1, .int .i64 d.own, .slice a3 d.prods.length c3, .slice (some ⟨bnl, 0, none⟩) nl.length nl.length, .slice av W.length cv, .slice none 0 0, .slice none 0 0], HNL2.out, hns, hqu⟩
  case rest =>
    obtain ⟨g, rfl, HX5⟩ := hcut
    obtain ⟨bnl, nl, hb5, hbl, hbg, hbr, hbox, hnl, hns, hqu⟩ := HX5.out
    obtain ⟨rl, hrl⟩ : ∃ rl : Nat → Nat, rl = fun p => (d.prods.getD p ⟨0, [], ByteArray.empty, 0, 0⟩).right.length := ⟨_, rfl⟩
    have HRL := (show Hid _ from hrl); clear hrl
    obtain ⟨n1, hn1⟩ : ∃ n1, n1 = W.length + 1 := ⟨_, rfl⟩
    have HN1 := (show Hid _ from hn1)
    have hn1a : W.length < n1 := by omega
    have hn1b : n1 ≤ W.length + 1 := by omega
    clear hn1
    have HNS := (show Hid _ from (⟨hnl, hns, hqu, hbg, hbl⟩ : _ ∧ _ ∧ _ ∧ _ ∧ _))
    obtain ⟨L1, hL1⟩ : ∃ L1, L1 = Lv1 w1 n1 g bnl nl rl (.slice a0 d.terms.length c0) (.slice a1 d.nons.length c1) (.int .i64 d.own) (.slice a3 d.prods.length c3) (.slice (some ⟨bnl, 0, none⟩) nl.length nl.length) (.slice av W.length cv) := ⟨_, rfl⟩
    obtain ⟨L2, hL2⟩ : ∃ L2, L2 = Lv2 w1 n1 g bnl nl rl (.slice a0 d.terms.length c0) (.slice a1 d.nons.length c1) (.int .i64 d.own) (.slice a3 d.prods.length c3) (.slice (some ⟨bnl, 0, none⟩) nl.length nl.length) (.slice av W.length cv) := ⟨_, rfl⟩
    obtain ⟨L4, hL4⟩ : ∃ L4, L4 = Lv4 w1 n1 g bnl nl rl (.slice a0 d.terms.length c0) (.slice a1 d.nons.length c1) (.int .i64 d.own) (.slice a3 d.prods.length c3) (.slice (some ⟨bnl, 0, none⟩) nl.length nl.length) (.slice av W.length cv) := ⟨_, rfl⟩
    have HL1 := (show Hid _ from hL1)
    have HL2 := (show Hid _ from hL2)
    have HL4 := (show Hid _ from hL4)
    have H0 : Hid (L1 0 wc) := by
      show L1 0 wc
      rw [hL1]
      refine ⟨⟨fun b => if b = g then (1, 0, 0) else if b = bnl then (2, 0, 0) else (0, 0, 0), fun _ => 0, fun _ => 0, fun _ _ => 0, fun _ _ => 0, fun _ => 0, none⟩, .slice none 0 0, ⟨hb5, hbr, fun k hk => absurd hk (Nat.not_lt_zero _), fun k i hki => by omega, fun p hp => absurd hp (Nat.not_lt_zero _), fun b hb => (by cases hb), if_pos rfl, ?_, fun b hb => ?_⟩, rfl, hbox, ⟨rfl, .inl ⟨rfl, rfl⟩⟩, fun b hb => (by cases hb)⟩
      · show (if bnl = g then _ else if bnl = bnl then _ else _) = _
        rw [if_neg (by omega), if_pos rfl]
      · by_cases e : b = g
        · subst e; exact ⟨by omega, hbox.lt⟩
        · by_cases e2 : b = bnl
          · subst e2; exact ⟨hbl, World.rowIs.lt hbr⟩
          · exact absurd (by show (if b = g then _ else if b = bnl then _ else _) = _; rw [if_neg e, if_neg e2]) hb
    clear hL1 hL2 hL4 hb5 hbl hbg hbr hbox hnl hns hqu HX5 HNU
    go_wp2_with fail
    go_loopw [6] (fun q wr => ∃ kk : Nat, q = .int .i64 kk ∧ kk ≤ d.nons.length ∧ Hid (L1 kk wr)) (fun q _ => d.nons.length - (intOf q).toNat)
    case atStart => exact ⟨0, rfl, Nat.zero_le _, H0⟩
    case round =>
      obtain ⟨kk, rfl, hk, HQ⟩ := hrel
      obtain ⟨wo, hwo⟩ : ∃ wo, wo = wr := ⟨wr, rfl⟩
      subst hwo
      clear H0
      have T1 : wo.cell? ⟨w.heap.size, 1, none⟩ = some (.slice a1 d.nons.length c1) := by
        have h1 := HQ.out
        rw [HL1.out] at h1
        obtain ⟨x, v6, hP, _⟩ := h1
        exact (HC.out _ hP.bel).2.1
      by_cases hlt : kk < d.nons.length
      · have H2 : Hid (L2 kk wo (.slice (some ⟨wo.heap.size, 0, none⟩) 0 0) 0 (wo.alloc (.cells #[] 28))) := by
          have h1 := HQ.out
          show L2 kk wo _ 0 _
          rw [HL1.out] at h1
          rw [HL2.out]
          obtain ⟨x, v6, hP, hnb, hbx, how, hun⟩ := h1
          refine ⟨x, v6, hP.still (bel_alloc _ _), hnb, hbx.still (bel_alloc _ _), own_still how (bel_alloc _ _), fun b hb => ⟨hun b hb, (World.ownsRow.lt how b hb).2⟩, hbx.lt, ⟨rfl, .inr ⟨wo.heap.size, 0, #[], rfl, Nat.le_refl _, blk_alloc_new _ _, Nat.le_refl _, Nat.zero_le _, rfl, rfl⟩⟩, fun b hb => ?_, hP.bel.size, by simp⟩
          have e : wo.heap.size = b := by simpa [Value.ownBlock] using hb
          subst e
          exact Decidable.byContradiction fun hne => by have := (hP.hi _ hne).2; omega
        go_wp2_with fail
        go_loopw [7, 8] (fun u q wr => ∃ ii : Nat, q = .int .i64 ii ∧ ii ≤ n1 ∧ Hid (L2 kk wo u ii wr)) (fun _ q _ => n1 - (intOf q).toNat)
        case atStart => exact ⟨0, rfl, Nat.zero_le _, H2⟩
        case round =>
          obtain ⟨ii, rfl, hi, HQ2⟩ := hrel
          obtain ⟨wm, hwm2⟩ : ∃ wm, wm = wr := ⟨wr, rfl⟩
          subst hwm2
          clear H2 T1
          by_cases hlt2 : ii ≤ W.length
          · have hd2 : decide ((ii : Int) ≤ (W.length : Int)) = true := by simp; omega
            have HI0 : Hid (Below wm.heap.size wm (wm.alloc (.cells #[] 3)) ∧ (wm.alloc (.cells #[] 3)).ownsRow wm.heap.size 3 1 (.slice (some ⟨wm.heap.size, 0, none⟩) 0 0) 0 (List.replicate 0 (.int .i64 (-1)))) := ⟨bel_alloc _ _, ⟨rfl, .inr ⟨wm.heap.size, 0, #[], rfl, Nat.le_refl _, blk_alloc_new _ _, Nat.le_refl _, Nat.zero_le _, rfl, rfl⟩⟩⟩
            go_wp2_with fail
            go_loopw [9, 10] (fun u q wr => ∃ j : Nat, q = .int .i64 j ∧ j ≤ n1 ∧ Hid (Below wm.heap.size wm wr ∧ wr.ownsRow wm.heap.size 3 1 u j (List.replicate j (.int .i64 (-1))))) (fun _ q _ => n1 - (intOf q).toNat)
            case atStart => exact ⟨0, rfl, Nat.zero_le _, HI0⟩
            case round =>
              obtain ⟨j, rfl, hj, HQ3⟩ := hrel
              clear HI0
              by_cases hlt3 : j ≤ W.length
              · have hd3 : decide ((j : Int) ≤ (W.length : Int)) = true := by simp; omega
                have hba := bel_alloc wr (.cells #[.int .i64 (-1)] 3)
                have HO := (show Hid _ from own_still HQ3.out.2 hba)
                have HB3 := (show Hid _ from HQ3.out.1.trans (hba.mono HQ3.out.1.size))
                clear hba
                go_wp2_with (at_builtin; refine wpList_append_lies _ rfl (.tmp 39) (.tmp 40) 28 rfl wm.heap.size 3 i3 _ 1 8 Try.underlying28 hi3 hz0 hz1 hz2 rfl (by decide) _ j _ rfl HO.out ⟨wr.heap.size, 0, none⟩ 1 1 [.int .i64 (-1)] rfl rfl (one_news _ _ _) (one_cell rfl) (by decide) ?c3 ?c5 ?c4 _ rfl ?nx)
                case c3 => unfold maxLen; omega
                case c5 => omega
                case c4 => exact HB3.out.size
                case nx =>
                  intro g7 cap7 w7 hown7 hgr7 hat7 hlt7
                  have HF : Hid (Below wm.heap.size wm w7 ∧ w7.ownsRow wm.heap.size 3 1 (.slice (some ⟨g7, 0, none⟩) (j + 1) cap7) (j + 1) (List.replicate (j + 1) (.int .i64 (-1)))) := by
                    refine ⟨grown_below' HB3.out hgr7 (fun b hb => (World.ownsRow.lt HO.out b hb).1) HB3.out.size, ?_⟩
                    rw [List.replicate_succ']
                    exact hown7
                  clear hown7 hgr7 hat7 hlt7
                  go_wp2_with fail
                  exact ⟨⟨j + 1, by go_num, by omega, HF⟩, by simp [intOf]; omega⟩
              · have hd3 : decide ((j : Int) ≤ (W.length : Int)) = false := by simp; omega
                obtain rfl : n1 = j := by omega
                have hv9 : ∃ g9 c9, u9 = .slice (some ⟨g9, 0, none⟩) n1 c9 := by
                  rcases HQ3.out.2.2 with ⟨_, h0⟩ | ⟨g9, c9, _, e, _⟩
                  · omega
                  · exact ⟨g9, c9, e⟩
                obtain ⟨g9, c9, rfl⟩ := hv9
                have hba := bel_alloc wr (.cells #[.slice (some ⟨g9, 0, none⟩) n1 c9] 28)
                have H2 := (show Hid (∃ x v6, PB w1 n1 g bnl nl rl kk ii 0 x (wr.alloc (.cells #[.slice (some ⟨g9, 0, none⟩) n1 c9] 28)) ∧ x.nb = none ∧ Box (wr.alloc (.cells #[.slice (some ⟨g9, 0, none⟩) n1 c9] 28)) g 116 [.slice a0 d.terms.length c0, .slice a1 d.nons.length c1, .int .i64 d.own, .slice a3 d.prods.length c3, .slice (some ⟨bnl, 0, none⟩) nl.length nl.length, .slice av W.length cv, v6, .slice none 0 0] ∧ (wr.alloc (.cells #[.slice (some ⟨g9, 0, none⟩) n1 c9] 28)).ownsRow w1.heap.size 54 1 v6 kk ((List.range kk).map (nV n1 x)) ∧ (∀ b, v6.ownBlock = some b → x.ow b = (0, 0, 0) ∧ b < wo.heap.size) ∧ g < wo.heap.size ∧ (wr.alloc (.cells #[.slice (some ⟨g9, 0, none⟩) n1 c9] 28)).ownsRow wo.heap.size 28 1 u7 ii ((List.range ii).map (rV n1 x kk)) ∧ (∀ b, u7.ownBlock = some b → x.ow b = (0, 0, 0) ∧ b < wm.heap.size) ∧ w1.heap.size ≤ wo.heap.size ∧ x.ow g9 = (0, 0, 0)) from by
                  have h1 := HQ2.out
                  rw [HL2.out] at h1
                  obtain ⟨x, v6, hP, hnb, hbx, how, hun, hgo, how7, hun7, hs, hsw⟩ := h1
                  have hb := bel_trans HQ3.out.1 hba
                  refine ⟨x, v6, hP.still hb, hnb, hbx.still hb, own_still how hb, hun, hgo, own_still how7 hb, fun b hb => ⟨hun7 b hb, (World.ownsRow.lt how7 b hb).2⟩, hs, ?_⟩
                  exact Decidable.byContradiction fun hne => by have h2 := (hP.hi _ hne).2; have h3 := (own_row HQ3.out.2).1; omega)
                obtain ⟨x, v6, hP, hnb, hbx, how, hun, hgo, how7, hun7, hs, hx9⟩ := H2.out
                have HP := (show Hid _ from (⟨hP, hnb, hbx, how⟩ : _ ∧ _ ∧ _ ∧ _))
                have HUN := (show Hid _ from (⟨hun, hun7, hx9⟩ : _ ∧ _ ∧ _))
                have HO7 := (show Hid _ from how7)
                have HR9 := (show Hid _ from own_row (own_still HQ3.out.2 hba))
                have HS9 := (show Hid _ from (⟨hgo, hs, HQ3.out.1.size⟩ : g < wo.heap.size ∧ w1.heap.size ≤ wo.heap.size ∧ wm.heap.size ≤ wr.heap.size))
                have hwos : Hid (wo.heap.size ≤ wr.heap.size ∧ wo.heap.size ≤ wm.heap.size) := by
                  have h1 := HQ2.out
                  rw [HL2.out] at h1
                  obtain ⟨x, v6, hP, hnb, hbx, how, hun, hgo, how7, hun7, hs, hsw⟩ := h1
                  show wo.heap.size ≤ wr.heap.size ∧ wo.heap.size ≤ wm.heap.size
                  have h3 := HQ3.out.1.size
                  omega
                clear hP hnb hbx how hun hgo how7 hun7 hs hx9 H2 hba HQ3
                go_wp2_with (at_builtin; refine wpList_append_lies _ rfl (.tmp 42) (.tmp 44) 54 rfl wo.heap.size 28 i28 _ 1 24 Try.underlying54 hi28 hy0 hy1 hy2 rfl (by decide) _ ii _ rfl HO7.out ⟨wr.heap.size, 0, none⟩ 1 1 [.slice (some ⟨g9, 0, none⟩) n1 c9] rfl rfl (one_news _ _ _) (one_cell rfl) (by decide) ?c3 ?c5 ?c4 _ rfl ?nx)
                case c3 => unfold maxLen; omega
                case c5 => omega
                case c4 => have := hwos.out; rw [World.size_alloc]; omega
                case nx =>
                  intro g7 cap7 w7 hown7 hgr7 hat7 hlt7
                  have HF : Hid (L2 kk wo (.slice (some ⟨g7, 0, none⟩) (ii + 1) cap7) (ii + 1) w7) := by
                    show L2 kk wo _ _ _
                    rw [HL2.out]
                    obtain ⟨hP, hnb, hbx, how⟩ := HP.out
                    obtain ⟨hun, hun7, hx9⟩ := HUN.out
                    obtain ⟨r1, r2, r3, r4, f9, r5, r6⟩ := HR9.out
                    obtain ⟨s1, s2, s3⟩ := HS9.out
                    have s4 := hwos.out
                    have hlow : ∀ b, u7.ownBlock = some b → wo.heap.size ≤ b := fun b hb => (World.ownsRow.lt HO7.out b hb).1
                    have hP2 := hP.grown hgr7 (fun b hb => ⟨(hun7 b hb).1, by have := hlow b hb; omega⟩)
                    have hkp : ∀ b, b < wo.heap.size → w7.heap[b]? = (wr.alloc (.cells #[.slice (some ⟨g9, 0, none⟩) n1 c9] 28)).heap[b]? := fun b hb => hgr7.block b (by rw [World.size_alloc]; omega) (fun e => by have := hlow b e.symm; omega)
                    have h9 : w7.heap[g9]? = (wr.alloc (.cells #[.slice (some ⟨g9, 0, none⟩) n1 c9] 28)).heap[g9]? := hgr7.block g9 r2 (fun e => by have := (hun7 g9 e.symm).2; omega)
                    have hP3 := hP2.addRow (q := g9) (c := c9) hx9 (by omega) (Nat.lt_of_lt_of_le r2 hgr7.size) ⟨r3, r4⟩ ⟨f9, World.rowIs.of_block r5 h9, fun j hj => by
                      have := r6 j hj
                      rw [List.getElem?_replicate, if_pos hj] at this
                      injection this with e
                      exact e.symm⟩
                    have hnV : ∀ k, nV n1 (x.row kk ii g9 c9) k = nV n1 x k := fun k => rfl
                    have how' : ∀ b (t : Nat), x.ow b = (0, 0, 0) → b ≠ g9 → (x.row kk ii g9 c9).ow b = (0, 0, 0) := fun b t e hne => by
                      show (if b = g9 then _ else x.ow b) = _
                      rw [if_neg hne, e]
                    refine ⟨x.row kk ii g9 c9, v6, hP3, hnb, hbx.keep (hkp g s1), ?_, fun b hb => ⟨how' b 0 (hun b hb).1 (by have := (hun b hb).2; omega), (hun b hb).2⟩, s1, ?_, fun b hb => ?_, s2, by have := hgr7.size; rw [World.size_alloc] at this; omega⟩
                    · have : (List.range kk).map (nV n1 (x.row kk ii g9 c9)) = (List.range kk).map (nV n1 x) := rfl
                      rw [this]
                      exact own_kept' how (fun k hk => hkp k (hun k hk).2)
                    · rw [range_map_succ (f := rV n1 x kk) (fun k hk => rV_row x (by omega)) (rV_row' x)]
                      exact hown7
                    · have e : g7 = b := by simpa [Value.ownBlock] using hb
                      subst e
                      rcases hat7 with h | h
                      · exact how' _ 0 (hun7 _ h).1 (by have := (hun7 _ h).2; omega)
                      · refine how' _ 0 (Decidable.byContradiction fun hne => ?_) (by rw [World.size_alloc] at r2; omega)
                        have := (hP.hi _ hne).2
                        rw [World.size_alloc] at this
                        omega
                  clear hown7 hgr7 hat7 hlt7
                  go_wp2_with fail
                  exact ⟨⟨ii + 1, by go_num, by omega, HF⟩, by simp [intOf]; omega⟩
          · have hd2 : decide ((ii : Int) ≤ (W.length : Int)) = false := by simp; omega
            obtain rfl : n1 = ii := by omega
            have hv7 : ∃ g7 c7, u7 = .slice (some ⟨g7, 0, none⟩) n1 c7 := by
              have h1 := HQ2.out
              rw [HL2.out] at h1
              obtain ⟨x, v6, hP, hnb, hbx, how, hun, hgo, how7, hun7, hs, hsw⟩ := h1
              rcases how7.2 with ⟨_, h0⟩ | ⟨g9, c9, _, e, _⟩
              · omega
              · exact ⟨g9, c9, e⟩
            obtain ⟨g7, c7, rfl⟩ := hv7
            have H2 := HQ2.out
            rw [HL2.out] at H2
            obtain ⟨x, v6, hP, hnb, hbx, how, hun, hgo, how7, hun7, hs, hsw⟩ := H2
            have G6 : wm.cell? ⟨g, 6, none⟩ = some v6 := hbx.cell 6 (by simp)
            have hba := bel_alloc wm (.cells #[.slice (some ⟨g7, 0, none⟩) n1 c7] 54)
            have HP := (show Hid _ from (⟨hP.still hba, hnb, hbx.still hba⟩ : _ ∧ _ ∧ _))
            have HR7 := (show Hid _ from own_row (own_still how7 hba))
            have HUN := (show Hid _ from (⟨fun b hb => ⟨(hun b hb).1, (hun b hb).2, (World.ownsRow.lt how b hb).1⟩, hun7 g7 rfl, hgo, hs, hsw⟩ : (∀ b, v6.ownBlock = some b → x.ow b = (0, 0, 0) ∧ b < wo.heap.size ∧ w1.heap.size ≤ b) ∧ x.ow g7 = (0, 0, 0) ∧ g < wo.heap.size ∧ w1.heap.size ≤ wo.heap.size ∧ wo.heap.size ≤ wm.heap.size))
            have HO6 := (show Hid _ from own_still how hba)
            have HG6 := (show Hid (∀ w7, (wm.alloc (.cells #[.slice (some ⟨g7, 0, none⟩) n1 c7] 54)).grownBy w7 v6.ownBlock → Box w7 g 116 [.slice a0 d.terms.length c0, .slice a1 d.nons.length c1, .int .i64 d.own, .slice a3 d.prods.length c3, .slice (some ⟨bnl, 0, none⟩) nl.length nl.length, .slice av W.length cv, v6, .slice none 0 0]) from fun w7 hgr => (hbx.still hba).keep (hgr.block g (hbx.still hba).lt (fun e => by
              have h1 := (hun g e.symm).1
              rw [hP.oG] at h1
              simp at h1)))
            clear hP hnb hbx how hun hgo how7 hun7 hs hsw hba HQ2
            go_wp2_with (at_builtin; refine wpList_append_lies _ rfl (.tmp 50) (.tmp 52) 114 rfl w1.heap.size 54 i54 _ 1 24 Try.underlying114 hi54 hx0 hx1 hx2 rfl (by decide) _ kk _ rfl HO6.out ⟨wm.heap.size, 0, none⟩ 1 1 [.slice (some ⟨g7, 0, none⟩) n1 c7] rfl rfl (one_news _ _ _) (one_cell rfl) (by decide) ?c3 ?c5 ?c4 _ rfl ?nx)
            case c3 => unfold maxLen; omega
            case c5 => omega
            case c4 => have h1 := HUN.out.2.2.2; rw [World.size_alloc]; omega
            case nx =>
              intro g8 cap8 w8 hown8 hgr8 hat8 hlt8
              have G8 : w8.cell? ⟨g, 6, none⟩ = some v6 := (HG6.out w8 hgr8).cell 6 (by simp)
              have Z8 : w8.frozen? ⟨g, 6, none⟩ = false := (HG6.out w8 hgr8).frozen 6
              have HF : Hid (L1 (kk + 1) (w8.setCell ⟨g, 6, none⟩ (.slice (some ⟨g8, 0, none⟩) (kk + 1) cap8))) := by
                show L1 (kk + 1) _
                rw [HL1.out]
                obtain ⟨hP, hnb, hbx⟩ := HP.out
                obtain ⟨r1, r2, r3, r4, f7, r5, r6⟩ := HR7.out
                obtain ⟨hun, hx7, hgo, hs, hsw⟩ := HUN.out
                have r2b : g7 < wm.heap.size + 1 := by simpa using r2
                have hP2 := hP.grown hgr8 (fun b hb => ⟨(hun b hb).1, (hun b hb).2.2⟩)
                have h7 : w8.heap[g7]? = (wm.alloc (.cells #[.slice (some ⟨g7, 0, none⟩) n1 c7] 54)).heap[g7]? := hgr8.block g7 r2 (fun e => by have := (hun g7 e.symm).2.1; omega)
                have hP3 := hP2.addNon hnb (q := g7) (c := c7) hx7 (by omega) (Nat.lt_of_lt_of_le r2 hgr8.size) ⟨r3, r4⟩ (fun i hi => by
                  rw [World.rowIs.cell (World.rowIs.of_block r5 h7) (by omega)]
                  have := r6 i hi
                  rw [List.getElem?_map, List.getElem?_range hi] at this
                  exact this.symm)
                have hne8 : g8 ≠ g := fun e => by
                  rcases hat8 with h | h
                  · have h1 := (hun g8 h).1
                    rw [e, hP.oG] at h1
                    simp at h1
                  · omega
                have hne7 : g8 ≠ g7 := fun e => by
                  rcases hat8 with h | h
                  · have h1 := (hun g8 h).2.1
                    omega
                  · omega
                refine ⟨x.non kk g7 c7, _, hP3.setG 6 _, hnb, (HG6.out w8 hgr8).set _, ?_, fun b hb => ?_⟩
                · have e : (List.range (kk + 1)).map (nV n1 (x.non kk g7 c7)) = (List.range kk).map (nV n1 x) ++ [.slice (some ⟨g7, 0, none⟩) n1 c7] := range_map_succ (fun k hk => nV_non x (by omega)) (nV_non' x)
                  rw [e]
                  refine own_kept' hown8 (fun k hk => ?_)
                  have e : g8 = k := by simpa [Value.ownBlock] using hk
                  subst e
                  exact blk_setCell_other _ _ _ _ (by exact hne8)
                · have e : g8 = b := by simpa [Value.ownBlock] using hb
                  subst e
                  show (if g8 = g7 then _ else x.ow g8) = _
                  rw [if_neg hne7]
                  rcases hat8 with h | h
                  · exact (hun g8 h).1
                  · exact Decidable.byContradiction fun hne => by have := (hP.hi _ hne).2; rw [World.size_alloc] at this; omega
              clear hown8 hgr8 hat8 hlt8
              go_wp2_with fail
              exact ⟨⟨kk + 1, by go_num, by omega, HF⟩, by simp [intOf]; omega⟩
      · obtain rfl : kk = d.nons.length := by omega
        have H4 : Hid (L4 d.nons.length 0 wo) := by
          have h1 := HQ.out
          show L4 _ _ _
          rw [HL1.out] at h1
          rw [HL4.out]
          obtain ⟨x, v6, hP, hnb, hbx, how, hun⟩ := h1
          have hv6 : ∃ bN cN, v6 = .slice (some ⟨bN, 0, none⟩) d.nons.length cN := by
            rcases how.2 with ⟨_, h0⟩ | ⟨g9, c9, _, e, _⟩
            · omega
            · exact ⟨g9, c9, e⟩
          obtain ⟨bN, cN, rfl⟩ := hv6
          obtain ⟨r1, r2, r3, r4, f, r5, r6⟩ := own_row how
          refine ⟨x.all bN, bN, cN, .slice none 0 0, hP.addAll (hun bN rfl) r1 r2 (fun k hk => ?_), rfl, r3, r4, hbx, ⟨rfl, .inl ⟨rfl, rfl⟩⟩, fun b hb => (by cases hb)⟩
          rw [World.rowIs.cell r5 (by omega)]
          have := r6 k hk
          rw [List.getElem?_map, List.getElem?_range hk] at this
          exact this.symm
        clear HQ
        go_wp2_with fail
        go_loopw [11] (fun q wr => ∃ pp : Nat, q = .int .i64 pp ∧ pp ≤ d.prods.length ∧ Hid (L4 d.nons.length pp wr)) (fun q _ => d.prods.length - (intOf q).toNat)
        case atStart => exact ⟨0, rfl, Nat.zero_le _, H4⟩
        case round =>
          obtain ⟨pp, rfl, hpp, HQ⟩ := hrel
          clear H4 T1
          have T3 : wr.cell? ⟨w.heap.size, 3, none⟩ = some (.slice a3 d.prods.length c3) := by
            have h1 := HQ.out
            rw [HL4.out] at h1
            obtain ⟨x, bN, cN, v7, hP, _⟩ := h1
            exact (HC.out _ hP.bel).2.2.2
          by_cases hlt : pp < d.prods.length
          · have hPD := HBL.out.prods
            obtain ⟨a, cap, b, off, sv, hv3, hcc, hm3, ha3, hcell, hr⟩ := hPD
            simp only [Value.slice.injEq] at hv3
            obtain ⟨ea, _, ec⟩ := hv3
            subst ea ec
            obtain ⟨ha3, _⟩ := ha3 (by omega)
            obtain ⟨_, r1, _⟩ := hcell pp hlt
            obtain ⟨ai, ci, ei, _⟩ := (hr pp hlt).form
            rw [ei] at r1
            have hrln := HOK.out.len pp hlt
            have HRP := (show Hid (rl pp = d.prods[pp].right.length) from by
              show rl pp = _
              rw [HRL.out]
              simp [List.getD_eq_getElem?_getD, hlt])
            generalize d.prods[pp].right.length = rln at *
            subst ha3
            have h4 := HQ.out
            rw [HL4.out] at h4
            obtain ⟨x, bN, cN, v7, hP, hnb, hcN1, hcN2, hbx, how, hun⟩ := h4
            have HSB := (show Hid (∀ wq, Below w1.heap.size w1 wq → ((fun wq => wq.cell? ⟨w.heap.size, 3, none⟩ = some (.slice (some ⟨b, off, none⟩) d.prods.length c3) ∧ wq.cell? ⟨b, off + pp * 5 + 1, none⟩ = some (.slice ai rln ci)) wq)) from fun wq hb => ⟨(HC.out _ hb).2.2.2, (hb.cell (lt_of_cell r1)).trans r1⟩)
            have hbd := (Below.refl wr.heap.size wr).drew
            have hbM : Below wr.drew.heap.size wr.drew (wr.drew.alloc (.cells (madeCells #[.slice none 0 0] rln) 28)) := bel_alloc _ _
            have hbX : Below wr.drew.heap.size wr.drew ((wr.drew.alloc (.cells (madeCells #[.slice none 0 0] rln) 28)).alloc (.cells #[.slice (some ⟨wr.drew.heap.size, 0, none⟩) rln rln] 54)) := (bel_alloc _ _).alloc (by simp) _
            have hP0 := hP.still hbd
            have hS0 := HSB.out _ hP0.bel
            have hS1 := HSB.out _ (hP0.still hbM).bel
            have hS2 := HSB.out _ (hP0.still hbX).bel
            have hc0 : wr.drew.cell? ⟨g, 7, none⟩ = some v7 := (hbx.still hbd).cell 7 (by simp)
            have hc1 : (wr.drew.alloc (.cells (madeCells #[.slice none 0 0] rln) 28)).cell? ⟨g, 7, none⟩ = some v7 := ((hbx.still hbd).still hbM).cell 7 (by simp)
            have hc2 : ((wr.drew.alloc (.cells (madeCells #[.slice none 0 0] rln) 28)).alloc (.cells #[.slice (some ⟨wr.drew.heap.size, 0, none⟩) rln rln] 54)).cell? ⟨g, 7, none⟩ = some v7 := ((hbx.still hbd).still hbX).cell 7 (by simp)
            have hPX := hP0.still hbX
            have hbxX := (hbx.still hbd).still hbX
            have howX := own_still (own_still how hbd) hbX
            have hunX : ∀ b, v7.ownBlock = some b → x.ow b = (0, 0, 0) ∧ w1.heap.size ≤ b ∧ b < wr.drew.heap.size := fun b hb => ⟨hun b hb, (World.ownsRow.lt how b hb).1, (World.ownsRow.lt (own_still how hbd) b hb).2⟩
            have hxsz : ((wr.drew.alloc (.cells (madeCells #[.slice none 0 0] rln) 28)).alloc (.cells #[.slice (some ⟨wr.drew.heap.size, 0, none⟩) rln rln] 54)).heap.size = wr.drew.heap.size + 1 + 1 := by rw [World.size_alloc, World.size_alloc]
            have hwsz : w1.heap.size ≤ wr.drew.heap.size := hP0.bel.size
            have HNW := (show Hid (∀ (j : Nat) (u : Value), [Value.slice (some ⟨wr.drew.heap.size, 0, none⟩) rln rln][j]? = some u → ((wr.drew.alloc (.cells (madeCells #[.slice none 0 0] rln) 28)).alloc (.cells #[.slice (some ⟨wr.drew.heap.size, 0, none⟩) rln rln] 54)).cell? ((⟨wr.drew.heap.size + 1, 0, none⟩ : Addr).add j) = some u) from by
              have h := one_news (wr.drew.alloc (.cells (madeCells #[.slice none 0 0] rln) 28)) (.slice (some ⟨wr.drew.heap.size, 0, none⟩) rln rln) 54
              rw [World.size_alloc] at h
              exact h)
            have HO7 := (show Hid _ from howX)
            have HLX := (show Hid (pp + 1 ≤ maxLen ∧ (pp + 1) * 24 ≤ 140737488355328 ∧ w1.heap.size ≤ ((wr.drew.alloc (.cells (madeCells #[.slice none 0 0] rln) 28)).alloc (.cells #[.slice (some ⟨wr.drew.heap.size, 0, none⟩) rln rln] 54)).heap.size) from ⟨by unfold maxLen; omega, by omega, by omega⟩)
            have HGB := (show Hid (∀ w8, ((wr.drew.alloc (.cells (madeCells #[.slice none 0 0] rln) 28)).alloc (.cells #[.slice (some ⟨wr.drew.heap.size, 0, none⟩) rln rln] 54)).grownBy w8 v7.ownBlock → Box w8 g 116 [.slice a0 d.terms.length c0, .slice a1 d.nons.length c1, .int .i64 d.own, .slice (some ⟨b, off, none⟩) d.prods.length c3, .slice (some ⟨bnl, 0, none⟩) nl.length nl.length, .slice av W.length cv, .slice (some ⟨bN, 0, none⟩) d.nons.length cN, v7]) from fun w8 hgr => hbxX.keep (hgr.block g hbxX.lt (fun e => by
              have h1 := (hunX g e.symm).1
              rw [hP.oG] at h1
              simp at h1)))
            have HPG := (show Hid (∀ w8, ((wr.drew.alloc (.cells (madeCells #[.slice none 0 0] rln) 28)).alloc (.cells #[.slice (some ⟨wr.drew.heap.size, 0, none⟩) rln rln] 54)).grownBy w8 v7.ownBlock → PB w1 n1 g bnl nl rl d.nons.length 0 pp x w8) from fun w8 hgr => hPX.grown hgr (fun b hb => ⟨(hunX b hb).1, (hunX b hb).2.1⟩))
            have HSG := (show Hid (∀ w8, ((wr.drew.alloc (.cells (madeCells #[.slice none 0 0] rln) 28)).alloc (.cells #[.slice (some ⟨wr.drew.heap.size, 0, none⟩) rln rln] 54)).grownBy w8 v7.ownBlock → (fun wq => wq.cell? ⟨w.heap.size, 3, none⟩ = some (.slice (some ⟨b, off, none⟩) d.prods.length c3) ∧ wq.cell? ⟨b, off + pp * 5 + 1, none⟩ = some (.slice ai rln ci)) w8) from fun w8 hgr => HSB.out _ (HPG.out w8 hgr).bel)
            have HSS := (show Hid (∀ w8 (u : Value), ((wr.drew.alloc (.cells (madeCells #[.slice none 0 0] rln) 28)).alloc (.cells #[.slice (some ⟨wr.drew.heap.size, 0, none⟩) rln rln] 54)).grownBy w8 v7.ownBlock → (fun wq => wq.cell? ⟨w.heap.size, 3, none⟩ = some (.slice (some ⟨b, off, none⟩) d.prods.length c3) ∧ wq.cell? ⟨b, off + pp * 5 + 1, none⟩ = some (.slice ai rln ci)) (w8.setCell ⟨g, 7, none⟩ u)) from fun w8 u hgr => HSB.out _ ((HPG.out w8 hgr).setG 7 u).bel)
            have HG7 := (show Hid (∀ w8, ((wr.drew.alloc (.cells (madeCells #[.slice none 0 0] rln) 28)).alloc (.cells #[.slice (some ⟨wr.drew.heap.size, 0, none⟩) rln rln] 54)).grownBy w8 v7.ownBlock → w8.cell? ⟨g, 7, none⟩ = some v7 ∧ w8.frozen? ⟨g, 7, none⟩ = false) from fun w8 hgr => ⟨(HGB.out w8 hgr).cell 7 (by simp), (HGB.out w8 hgr).frozen 7⟩)
            have hmrow : ∃ f, (wr.drew.alloc (.cells (madeCells #[.slice none 0 0] rln) 28)).rowIs wr.drew.heap.size 28 rln f ∧ ∀ a, a < rln → f a = .slice none 0 0 := by
              refine ⟨fun _ => .slice none 0 0, ⟨_, blk_alloc_new _ _, size_madeCells _ _, fun i hi => ?_⟩, fun _ _ => rfl⟩
              simp [madeCells, hi, Nat.mod_one]
            have HFM := (show Hid (∀ g8 cap8 w8, w8.ownsRow w1.heap.size 54 1 (.slice (some ⟨g8, 0, none⟩) (pp + 1) cap8) (pp + 1) ((List.range pp).map (pV rl x) ++ [.slice (some ⟨wr.drew.heap.size, 0, none⟩) rln rln]) → ((wr.drew.alloc (.cells (madeCells #[.slice none 0 0] rln) 28)).alloc (.cells #[.slice (some ⟨wr.drew.heap.size, 0, none⟩) rln rln] 54)).grownBy w8 v7.ownBlock → (v7.ownBlock = some g8 ∨ g8 = ((wr.drew.alloc (.cells (madeCells #[.slice none 0 0] rln) 28)).alloc (.cells #[.slice (some ⟨wr.drew.heap.size, 0, none⟩) rln rln] 54)).heap.size) → L4 d.nons.length (pp + 1) (w8.setCell ⟨g, 7, none⟩ (.slice (some ⟨g8, 0, none⟩) (pp + 1) cap8))) from fun g8 cap8 w8 hown8 hgr8 hat8 => by
              show L4 _ _ _
              rw [HL4.out]
              have hxq : x.ow wr.drew.heap.size = (0, 0, 0) := Decidable.byContradiction fun hne => by have := (hP0.hi _ hne).2; omega
              have hq : wr.drew.heap.size < ((wr.drew.alloc (.cells (madeCells #[.slice none 0 0] rln) 28)).alloc (.cells #[.slice (some ⟨wr.drew.heap.size, 0, none⟩) rln rln] 54)).heap.size := by omega
              have hrq : w8.heap[wr.drew.heap.size]? = ((wr.drew.alloc (.cells (madeCells #[.slice none 0 0] rln) 28)).alloc (.cells #[.slice (some ⟨wr.drew.heap.size, 0, none⟩) rln rln] 54)).heap[wr.drew.heap.size]? := hgr8.block _ hq (fun e => by have := (hunX _ e.symm).2.2; omega)
              have hrq2 : ((wr.drew.alloc (.cells (madeCells #[.slice none 0 0] rln) 28)).alloc (.cells #[.slice (some ⟨wr.drew.heap.size, 0, none⟩) rln rln] 54)).heap[wr.drew.heap.size]? = (wr.drew.alloc (.cells (madeCells #[.slice none 0 0] rln) 28)).heap[wr.drew.heap.size]? := (bel_alloc (wr.drew.alloc (.cells (madeCells #[.slice none 0 0] rln) 28)) _).block _ (by rw [World.size_alloc]; omega)
              have hP3 := (HPG.out w8 hgr8).addMemo (q := wr.drew.heap.size) hxq hwsz (Nat.lt_of_lt_of_le hq hgr8.size) (by
                obtain ⟨f, f1, f2⟩ := hmrow
                rw [HRP.out]
                exact ⟨f, World.rowIs.of_block (World.rowIs.of_block f1 hrq2) hrq, f2⟩)
              have hne : g8 ≠ g := fun e => by
                rcases hat8 with h | h
                · have h1 := (hunX g8 h).1
                  rw [e, hP.oG] at h1
                  simp at h1
                · have h1 := (hP0.hi g (by rw [hP.oG]; simp)).2
                  omega
              have hneq : g8 ≠ wr.drew.heap.size := fun e => by
                rcases hat8 with h | h
                · have h1 := (hunX g8 h).2.2
                  omega
                · omega
              refine ⟨x.memo pp wr.drew.heap.size, bN, cN, _, hP3.setG 7 _, hnb, hcN1, hcN2, (HGB.out w8 hgr8).set _, ?_, fun b hb => ?_⟩
              · have e : (List.range (pp + 1)).map (pV rl (x.memo pp wr.drew.heap.size)) = (List.range pp).map (pV rl x) ++ [.slice (some ⟨wr.drew.heap.size, 0, none⟩) (rl pp) (rl pp)] := range_map_succ (fun k hk => pV_memo x rl (by omega)) (pV_memo' x rl)
                rw [e, HRP.out]
                refine own_kept' hown8 (fun k hk => ?_)
                have e : g8 = k := by simpa [Value.ownBlock] using hk
                subst e
                exact blk_setCell_other _ _ _ _ (by exact hne)
              · have e : g8 = b := by simpa [Value.ownBlock] using hb
                subst e
                show (if g8 = wr.drew.heap.size then _ else x.ow g8) = _
                rw [if_neg hneq]
                rcases hat8 with h | h
                · exact (hunX g8 h).1
                · exact Decidable.byContradiction fun hne => by have := (hP0.hi _ hne).2; omega)
            have hmk := fun wq => run_make54 rln (by omega) wq
            have q1 : (0 : Int) ≤ (pp : Int) := by omega
            have q2 : (pp : Int) < (d.prods.length : Int) := by omega
            unfold maxLen at hm3
            clear hP hnb hcN1 hcN2 hbx how hun hPX hbxX howX hunX hxsz hwsz hmrow hP0 hbM hbX HSB hbd hcell hr ei r1 HQ HRP HGB HPG
            go_wp2_with fail
            refine wp_region_held_drew (S := (fun wq => wq.cell? ⟨w.heap.size, 3, none⟩ = some (.slice (some ⟨b, off, none⟩) d.prods.length c3) ∧ wq.cell? ⟨b, off + pp * 5 + 1, none⟩ = some (.slice ai rln ci))) (by kernel_rfl) hS0 (fun hHeld => ?_)
            clear T3
            generalize wr.drew = w0 at *
            refine wpAnyH_take (i := 0) (oi := { dst := some 63, op := Go.Op.move (Go.Operand.tmp 5), type := 78, pos := "l04_facts.go:352", after := #[], guard := none }) (v := ?v1) rfl (by kernel_rfl) (by kernel_rfl) (by kernel_rfl) (fun _ _ _ h => h) (Or.inl ⟨by rfl, ?h1⟩) hHeld ?r1
            case h1 => (intro w hSw; (try dsimp only at hSw); go_simp; try with_reducible rfl)
            try simp only [Act.put, List.setIfInBounds_toArray, List.set_cons_zero, List.set_cons_succ]
            refine wpAnyH_take (i := 1) (oi := { dst := some 64, op := Go.Op.move (Go.Operand.tmp 5), type := 78, pos := "l04_facts.go:352", after := #[], guard := none }) (v := ?v2) rfl (by kernel_rfl) (by kernel_rfl) (by kernel_rfl) (fun _ _ _ h => h) (Or.inl ⟨by rfl, ?h2⟩) hHeld ?r2
            case h2 => (intro w hSw; (try dsimp only at hSw); go_simp; try with_reducible rfl)
            try simp only [Act.put, List.setIfInBounds_toArray, List.set_cons_zero, List.set_cons_succ]
            refine wpAnyH_take (i := 2) (oi := { dst := some 65, op := Go.Op.nilCheck (Go.Operand.tmp 64), type := 0, pos := "l04_facts.go:352", after := #[{ on := 1, ground := Go.Ground.data }], guard := none }) (v := ?v3) rfl (by kernel_rfl) (by kernel_rfl) (by kernel_rfl) (fun _ _ _ h => h) (Or.inl ⟨by rfl, ?h3⟩) hHeld ?r3
            case h3 => (intro w hSw; (try dsimp only at hSw); go_simp; try with_reducible rfl)
            try simp only [Act.put, List.setIfInBounds_toArray, List.set_cons_zero, List.set_cons_succ]
            refine wpAnyH_take (i := 3) (oi := { dst := some 66, op := Go.Op.fieldAddr 116 (Go.Operand.tmp 65) 4, type := 0, pos := "l04_facts.go:352", after := #[{ on := 2, ground := Go.Ground.data }], guard := none }) (v := ?v4) rfl (by kernel_rfl) (by kernel_rfl) (by kernel_rfl) (fun _ _ _ h => h) (Or.inl ⟨by rfl, ?h4⟩) hHeld ?r4
            case h4 => (intro w hSw; (try dsimp only at hSw); go_simp; try with_reducible rfl)
            try simp only [Act.put, List.setIfInBounds_toArray, List.set_cons_zero, List.set_cons_succ]
            refine wpAnyH_take (i := 5) (oi := { dst := some 68, op := Go.Op.fieldAddr 34 (Go.Operand.tmp 2) 3, type := 0, pos := "l04_facts.go:352", after := #[], guard := none }) (v := ?v5) rfl (by kernel_rfl) (by kernel_rfl) (by kernel_rfl) (fun _ _ _ h => h) (Or.inl ⟨by rfl, ?h5⟩) hHeld ?r5
            case h5 => (intro w hSw; (try dsimp only at hSw); go_simp; try with_reducible rfl)
            try simp only [Act.put, List.setIfInBounds_toArray, List.set_cons_zero, List.set_cons_succ]
            refine wpAnyH_take (i := 6) (oi := { dst := some 69, op := Go.Op.load 32 (Go.Operand.tmp 68), type := 32, pos := "l04_facts.go:352", after := #[{ on := 5, ground := Go.Ground.data }], guard := none }) (v := ?v6) rfl (by kernel_rfl) (by kernel_rfl) (by kernel_rfl) (fun _ _ _ h => h) (Or.inl ⟨by rfl, ?h6⟩) hHeld ?r6
            case h6 => (intro w hSw; (try dsimp only at hSw); go_simp; try with_reducible rfl)
            try simp only [Act.put, List.setIfInBounds_toArray, List.set_cons_zero, List.set_cons_succ]
            refine wpAnyH_take (i := 7) (oi := { dst := some 70, op := Go.Op.move (Go.Operand.tmp 11), type := 3, pos := "l04_facts.go:352", after := #[], guard := none }) (v := ?v7) rfl (by kernel_rfl) (by kernel_rfl) (by kernel_rfl) (fun _ _ _ h => h) (Or.inl ⟨by rfl, ?h7⟩) hHeld ?r7
            case h7 => (intro w hSw; (try dsimp only at hSw); go_simp; try with_reducible rfl)
            try simp only [Act.put, List.setIfInBounds_toArray, List.set_cons_zero, List.set_cons_succ]
            refine wpAnyH_take (i := 8) (oi := { dst := some 71, op := Go.Op.indexAddr 32 (Go.Operand.tmp 69) (Go.Operand.tmp 70), type := 0, pos := "l04_facts.go:352", after := #[{ on := 6, ground := Go.Ground.data }, { on := 7, ground := Go.Ground.data }], guard := none }) (v := ?v8) rfl (by kernel_rfl) (by kernel_rfl) (by kernel_rfl) (fun _ _ _ h => h) (Or.inl ⟨by rfl, ?h8⟩) hHeld ?r8
            case h8 => (intro w hSw; (try dsimp only at hSw); go_simp; try with_reducible rfl)
            try simp only [Act.put, List.setIfInBounds_toArray, List.set_cons_zero, List.set_cons_succ]
            refine wpAnyH_take (i := 9) (oi := { dst := some 72, op := Go.Op.fieldAddr 57 (Go.Operand.tmp 71) 1, type := 0, pos := "l04_facts.go:352", after := #[{ on := 8, ground := Go.Ground.data }], guard := none }) (v := ?v9) rfl (by kernel_rfl) (by kernel_rfl) (by kernel_rfl) (fun _ _ _ h => h) (Or.inl ⟨by rfl, ?h9⟩) hHeld ?r9
            case h9 => (intro w hSw; (try dsimp only at hSw); go_simp; try with_reducible rfl)
            try simp only [Act.put, List.setIfInBounds_toArray, List.set_cons_zero, List.set_cons_succ]
            refine wpAnyH_take (i := 10) (oi := { dst := some 73, op := Go.Op.load 28 (Go.Operand.tmp 72), type := 28, pos := "l04_facts.go:352", after := #[{ on := 9, ground := Go.Ground.data }], guard := none }) (v := ?v10) rfl (by kernel_rfl) (by kernel_rfl) (by kernel_rfl) (fun _ _ _ h => h) (Or.inl ⟨by rfl, ?h10⟩) hHeld ?r10
            case h10 => (intro w hSw; (try dsimp only at hSw); go_simp; try with_reducible rfl)
            try simp only [Act.put, List.setIfInBounds_toArray, List.set_cons_zero, List.set_cons_succ]
            refine wpAnyH_take (i := 11) (oi := { dst := some 74, op := Go.Op.call { callee := Go.Callee.builtin Go.Builtin.len, args := #[Go.Operand.tmp 73], argTypes := #[28] }, type := 3, pos := "l04_facts.go:352", after := #[{ on := 10, ground := Go.Ground.data }], guard := none }) (v := ?v11) rfl (by kernel_rfl) (by kernel_rfl) (by kernel_rfl) (fun _ _ _ h => h) (Or.inl ⟨by rfl, ?h11⟩) hHeld ?r11
            case h11 => (intro w hSw; (try dsimp only at hSw); go_simp; try with_reducible rfl)
            try simp only [Act.put, List.setIfInBounds_toArray, List.set_cons_zero, List.set_cons_succ]
            refine wpAnyH_ready (rs := [4, 12]) (by kernel_rfl) (by simp) ?_
            refine AllReadyH.cons (o := { dst := some 67, op := Go.Op.load 114 (Go.Operand.tmp 66), type := 114, pos := "l04_facts.go:352", after := #[{ on := 3, ground := Go.Ground.data }], guard := none }) rfl (fun K hK => ?_) (AllReadyH.cons (o := { dst := some 75, op := Go.Op.makeSlice 54 (Go.Operand.tmp 74) (Go.Operand.tmp 74), type := 54, pos := "l04_facts.go:352", after := #[{ on := 11, ground := Go.Ground.data }, { on := 11, ground := Go.Ground.data }], guard := none }) rfl (fun K hK => ?_) AllReadyH.nil)
            · go_simp
              clear hHeld
              refine hK.out _ _ (by first | exact hS0 | exact hS1 | exact hS2 | exact HSG.out _ hgr8 | exact HSS.out _ _ hgr8) (fun hHeld => ?_)
              clear hK K
              try simp only [Act.put, List.setIfInBounds_toArray, List.set_cons_zero, List.set_cons_succ]
              refine wpAnyH_ready (rs := [12]) (by kernel_rfl) (by simp) ?_
              refine AllReadyH.cons (o := { dst := some 75, op := Go.Op.makeSlice 54 (Go.Operand.tmp 74) (Go.Operand.tmp 74), type := 54, pos := "l04_facts.go:352", after := #[{ on := 11, ground := Go.Ground.data }, { on := 11, ground := Go.Ground.data }], guard := none }) rfl (fun K hK => ?_) AllReadyH.nil
              go_simp
              clear hHeld
              refine hK.out _ _ (by first | exact hS0 | exact hS1 | exact hS2 | exact HSG.out _ hgr8 | exact HSS.out _ _ hgr8) (fun hHeld => ?_)
              clear hK K
              try simp only [Act.put, List.setIfInBounds_toArray, List.set_cons_zero, List.set_cons_succ]
              refine wpAnyH_ready (rs := [13]) (by kernel_rfl) (by simp) ?_
              refine AllReadyH.cons (o := { dst := some 76, op := Go.Op.buildSlice 114 1 #[(0, Go.Operand.tmp 75)], type := 114, pos := "l04_facts.go:352", after := #[{ on := 12, ground := Go.Ground.data }], guard := none }) rfl (fun K hK => ?_) AllReadyH.nil
              go_simp
              clear hHeld
              refine hK.out _ _ (by first | exact hS0 | exact hS1 | exact hS2 | exact HSG.out _ hgr8 | exact HSS.out _ _ hgr8) (fun hHeld => ?_)
              clear hK K
              try simp only [Act.put, List.setIfInBounds_toArray, List.set_cons_zero, List.set_cons_succ]
              refine wpAnyH_ready (rs := [14]) (by kernel_rfl) (by simp) ?_
              refine AllReadyH.cons (o := { dst := some 77, op := Go.Op.call { callee := Go.Callee.builtin Go.Builtin.append, args := #[Go.Operand.tmp 67, Go.Operand.tmp 76], argTypes := #[114, 114] }, type := 114, pos := "l04_facts.go:352", after := #[{ on := 4, ground := Go.Ground.data }, { on := 13, ground := Go.Ground.data }], guard := none }) rfl (fun K hK => ?_) AllReadyH.nil
              (refine step_append_lies _ rfl (.tmp 67) (.tmp 76) 114 rfl w1.heap.size 54 i54 _ 1 24 Try.underlying114 hi54 hx0 hx1 hx2 rfl (by decide) _ pp _ (by simp [Act.eval, Act.put]) HO7.out ⟨w0.heap.size + 1, 0, none⟩ 1 1 [.slice (some ⟨w0.heap.size, 0, none⟩) rln rln] (by simp [Act.eval, Act.put]) rfl HNW.out (one_cell rfl) (by decide) HLX.out.1 HLX.out.2.1 HLX.out.2.2 _ rfl ?_; intro g8 cap8 w8 hown8 hgr8 hat8 hlt8)
              clear hHeld
              refine hK.out _ _ (by first | exact hS0 | exact hS1 | exact hS2 | exact HSG.out _ hgr8 | exact HSS.out _ _ hgr8) (fun hHeld => ?_)
              clear hK K
              try simp only [Act.put, List.setIfInBounds_toArray, List.set_cons_zero, List.set_cons_succ]
              obtain ⟨G8, Z8⟩ := HG7.out _ hgr8
              refine wpAnyH_take (i := 15) (oi := { dst := some 78, op := Go.Op.nilCheck (Go.Operand.tmp 63), type := 0, pos := "l04_facts.go:352", after := #[{ on := 0, ground := Go.Ground.data }, { on := 0, ground := Go.Ground.phase }, { on := 1, ground := Go.Ground.phase }, { on := 2, ground := Go.Ground.phase }, { on := 3, ground := Go.Ground.phase }, { on := 4, ground := Go.Ground.phase }, { on := 5, ground := Go.Ground.phase }, { on := 6, ground := Go.Ground.phase }, { on := 7, ground := Go.Ground.phase }, { on := 8, ground := Go.Ground.phase }, { on := 9, ground := Go.Ground.phase }, { on := 10, ground := Go.Ground.phase }, { on := 11, ground := Go.Ground.phase }, { on := 12, ground := Go.Ground.phase }, { on := 13, ground := Go.Ground.phase }, { on := 14, ground := Go.Ground.phase }], guard := none }) (v := ?v12) rfl (by kernel_rfl) (by kernel_rfl) (by kernel_rfl) (fun _ _ _ h => h) (Or.inl ⟨by rfl, ?h12⟩) hHeld ?r12
              case h12 => (intro w hSw; (try dsimp only at hSw); go_simp; try with_reducible rfl)
              try simp only [Act.put, List.setIfInBounds_toArray, List.set_cons_zero, List.set_cons_succ]
              refine wpAnyH_take (i := 16) (oi := { dst := some 79, op := Go.Op.fieldAddr 116 (Go.Operand.tmp 78) 4, type := 0, pos := "l04_facts.go:352", after := #[{ on := 15, ground := Go.Ground.data }, { on := 0, ground := Go.Ground.phase }, { on := 1, ground := Go.Ground.phase }, { on := 2, ground := Go.Ground.phase }, { on := 3, ground := Go.Ground.phase }, { on := 4, ground := Go.Ground.phase }, { on := 5, ground := Go.Ground.phase }, { on := 6, ground := Go.Ground.phase }, { on := 7, ground := Go.Ground.phase }, { on := 8, ground := Go.Ground.phase }, { on := 9, ground := Go.Ground.phase }, { on := 10, ground := Go.Ground.phase }, { on := 11, ground := Go.Ground.phase }, { on := 12, ground := Go.Ground.phase }, { on := 13, ground := Go.Ground.phase }, { on := 14, ground := Go.Ground.phase }], guard := none }) (v := ?v13) rfl (by kernel_rfl) (by kernel_rfl) (by kernel_rfl) (fun _ _ _ h => h) (Or.inl ⟨by rfl, ?h13⟩) hHeld ?r13
              case h13 => (intro w hSw; (try dsimp only at hSw); go_simp; try with_reducible rfl)
              try simp only [Act.put, List.setIfInBounds_toArray, List.set_cons_zero, List.set_cons_succ]
              refine wpAnyH_ready (rs := [17]) (by kernel_rfl) (by simp) ?_
              refine AllReadyH.cons (o := { dst := none, op := Go.Op.store 114 (Go.Operand.tmp 79) (Go.Operand.tmp 77), type := 0, pos := "l04_facts.go:352", after := #[{ on := 16, ground := Go.Ground.data }, { on := 14, ground := Go.Ground.data }, { on := 14, ground := Go.Ground.chain }, { on := 0, ground := Go.Ground.phase }, { on := 1, ground := Go.Ground.phase }, { on := 2, ground := Go.Ground.phase }, { on := 3, ground := Go.Ground.phase }, { on := 4, ground := Go.Ground.phase }, { on := 5, ground := Go.Ground.phase }, { on := 6, ground := Go.Ground.phase }, { on := 7, ground := Go.Ground.phase }, { on := 8, ground := Go.Ground.phase }, { on := 9, ground := Go.Ground.phase }, { on := 10, ground := Go.Ground.phase }, { on := 11, ground := Go.Ground.phase }, { on := 12, ground := Go.Ground.phase }, { on := 13, ground := Go.Ground.phase }, { on := 14, ground := Go.Ground.phase }], guard := none }) rfl (fun K hK => ?_) AllReadyH.nil
              go_simp
              clear hHeld
              refine hK.out _ _ (by first | exact hS0 | exact hS1 | exact hS2 | exact HSG.out _ hgr8 | exact HSS.out _ _ hgr8) (fun hHeld => ?_)
              clear hK K
              try simp only [Act.put, List.setIfInBounds_toArray, List.set_cons_zero, List.set_cons_succ]
              refine wpAnyH_done (by kernel_rfl) ?_ _
              have HF := (show Hid _ from HFM.out _ _ _ hown8 hgr8 hat8)
              clear hown8 hgr8 hat8 hlt8 G8 Z8 hHeld
              go_wp2_with fail
              exact ⟨⟨pp + 1, by go_num, by omega, HF⟩, by simp [intOf]; omega⟩
            · go_simp
              clear hHeld
              refine hK.out _ _ (by first | exact hS0 | exact hS1 | exact hS2 | exact HSG.out _ hgr8 | exact HSS.out _ _ hgr8) (fun hHeld => ?_)
              clear hK K
              try simp only [Act.put, List.setIfInBounds_toArray, List.set_cons_zero, List.set_cons_succ]
              refine wpAnyH_ready (rs := [4, 13]) (by kernel_rfl) (by simp) ?_
              refine AllReadyH.cons (o := { dst := some 67, op := Go.Op.load 114 (Go.Operand.tmp 66), type := 114, pos := "l04_facts.go:352", after := #[{ on := 3, ground := Go.Ground.data }], guard := none }) rfl (fun K hK => ?_) (AllReadyH.cons (o := { dst := some 76, op := Go.Op.buildSlice 114 1 #[(0, Go.Operand.tmp 75)], type := 114, pos := "l04_facts.go:352", after := #[{ on := 12, ground := Go.Ground.data }], guard := none }) rfl (fun K hK => ?_) AllReadyH.nil)
              · go_simp
                clear hHeld
                refine hK.out _ _ (by first | exact hS0 | exact hS1 | exact hS2 | exact HSG.out _ hgr8 | exact HSS.out _ _ hgr8) (fun hHeld => ?_)
                clear hK K
                try simp only [Act.put, List.setIfInBounds_toArray, List.set_cons_zero, List.set_cons_succ]
                refine wpAnyH_ready (rs := [13]) (by kernel_rfl) (by simp) ?_
                refine AllReadyH.cons (o := { dst := some 76, op := Go.Op.buildSlice 114 1 #[(0, Go.Operand.tmp 75)], type := 114, pos := "l04_facts.go:352", after := #[{ on := 12, ground := Go.Ground.data }], guard := none }) rfl (fun K hK => ?_) AllReadyH.nil
                go_simp
                clear hHeld
                refine hK.out _ _ (by first | exact hS0 | exact hS1 | exact hS2 | exact HSG.out _ hgr8 | exact HSS.out _ _ hgr8) (fun hHeld => ?_)
                clear hK K
                try simp only [Act.put, List.setIfInBounds_toArray, List.set_cons_zero, List.set_cons_succ]
                refine wpAnyH_ready (rs := [14]) (by kernel_rfl) (by simp) ?_
                refine AllReadyH.cons (o := { dst := some 77, op := Go.Op.call { callee := Go.Callee.builtin Go.Builtin.append, args := #[Go.Operand.tmp 67, Go.Operand.tmp 76], argTypes := #[114, 114] }, type := 114, pos := "l04_facts.go:352", after := #[{ on := 4, ground := Go.Ground.data }, { on := 13, ground := Go.Ground.data }], guard := none }) rfl (fun K hK => ?_) AllReadyH.nil
                (refine step_append_lies _ rfl (.tmp 67) (.tmp 76) 114 rfl w1.heap.size 54 i54 _ 1 24 Try.underlying114 hi54 hx0 hx1 hx2 rfl (by decide) _ pp _ (by simp [Act.eval, Act.put]) HO7.out ⟨w0.heap.size + 1, 0, none⟩ 1 1 [.slice (some ⟨w0.heap.size, 0, none⟩) rln rln] (by simp [Act.eval, Act.put]) rfl HNW.out (one_cell rfl) (by decide) HLX.out.1 HLX.out.2.1 HLX.out.2.2 _ rfl ?_; intro g8 cap8 w8 hown8 hgr8 hat8 hlt8)
                clear hHeld
                refine hK.out _ _ (by first | exact hS0 | exact hS1 | exact hS2 | exact HSG.out _ hgr8 | exact HSS.out _ _ hgr8) (fun hHeld => ?_)
                clear hK K
                try simp only [Act.put, List.setIfInBounds_toArray, List.set_cons_zero, List.set_cons_succ]
                obtain ⟨G8, Z8⟩ := HG7.out _ hgr8
                refine wpAnyH_take (i := 15) (oi := { dst := some 78, op := Go.Op.nilCheck (Go.Operand.tmp 63), type := 0, pos := "l04_facts.go:352", after := #[{ on := 0, ground := Go.Ground.data }, { on := 0, ground := Go.Ground.phase }, { on := 1, ground := Go.Ground.phase }, { on := 2, ground := Go.Ground.phase }, { on := 3, ground := Go.Ground.phase }, { on := 4, ground := Go.Ground.phase }, { on := 5, ground := Go.Ground.phase }, { on := 6, ground := Go.Ground.phase }, { on := 7, ground := Go.Ground.phase }, { on := 8, ground := Go.Ground.phase }, { on := 9, ground := Go.Ground.phase }, { on := 10, ground := Go.Ground.phase }, { on := 11, ground := Go.Ground.phase }, { on := 12, ground := Go.Ground.phase }, { on := 13, ground := Go.Ground.phase }, { on := 14, ground := Go.Ground.phase }], guard := none }) (v := ?v14) rfl (by kernel_rfl) (by kernel_rfl) (by kernel_rfl) (fun _ _ _ h => h) (Or.inl ⟨by rfl, ?h14⟩) hHeld ?r14
                case h14 => (intro w hSw; (try dsimp only at hSw); go_simp; try with_reducible rfl)
                try simp only [Act.put, List.setIfInBounds_toArray, List.set_cons_zero, List.set_cons_succ]
                refine wpAnyH_take (i := 16) (oi := { dst := some 79, op := Go.Op.fieldAddr 116 (Go.Operand.tmp 78) 4, type := 0, pos := "l04_facts.go:352", after := #[{ on := 15, ground := Go.Ground.data }, { on := 0, ground := Go.Ground.phase }, { on := 1, ground := Go.Ground.phase }, { on := 2, ground := Go.Ground.phase }, { on := 3, ground := Go.Ground.phase }, { on := 4, ground := Go.Ground.phase }, { on := 5, ground := Go.Ground.phase }, { on := 6, ground := Go.Ground.phase }, { on := 7, ground := Go.Ground.phase }, { on := 8, ground := Go.Ground.phase }, { on := 9, ground := Go.Ground.phase }, { on := 10, ground := Go.Ground.phase }, { on := 11, ground := Go.Ground.phase }, { on := 12, ground := Go.Ground.phase }, { on := 13, ground := Go.Ground.phase }, { on := 14, ground := Go.Ground.phase }], guard := none }) (v := ?v15) rfl (by kernel_rfl) (by kernel_rfl) (by kernel_rfl) (fun _ _ _ h => h) (Or.inl ⟨by rfl, ?h15⟩) hHeld ?r15
                case h15 => (intro w hSw; (try dsimp only at hSw); go_simp; try with_reducible rfl)
                try simp only [Act.put, List.setIfInBounds_toArray, List.set_cons_zero, List.set_cons_succ]
                refine wpAnyH_ready (rs := [17]) (by kernel_rfl) (by simp) ?_
                refine AllReadyH.cons (o := { dst := none, op := Go.Op.store 114 (Go.Operand.tmp 79) (Go.Operand.tmp 77), type := 0, pos := "l04_facts.go:352", after := #[{ on := 16, ground := Go.Ground.data }, { on := 14, ground := Go.Ground.data }, { on := 14, ground := Go.Ground.chain }, { on := 0, ground := Go.Ground.phase }, { on := 1, ground := Go.Ground.phase }, { on := 2, ground := Go.Ground.phase }, { on := 3, ground := Go.Ground.phase }, { on := 4, ground := Go.Ground.phase }, { on := 5, ground := Go.Ground.phase }, { on := 6, ground := Go.Ground.phase }, { on := 7, ground := Go.Ground.phase }, { on := 8, ground := Go.Ground.phase }, { on := 9, ground := Go.Ground.phase }, { on := 10, ground := Go.Ground.phase }, { on := 11, ground := Go.Ground.phase }, { on := 12, ground := Go.Ground.phase }, { on := 13, ground := Go.Ground.phase }, { on := 14, ground := Go.Ground.phase }], guard := none }) rfl (fun K hK => ?_) AllReadyH.nil
                go_simp
                clear hHeld
                refine hK.out _ _ (by first | exact hS0 | exact hS1 | exact hS2 | exact HSG.out _ hgr8 | exact HSS.out _ _ hgr8) (fun hHeld => ?_)
                clear hK K
                try simp only [Act.put, List.setIfInBounds_toArray, List.set_cons_zero, List.set_cons_succ]
                refine wpAnyH_done (by kernel_rfl) ?_ _
                have HF := (show Hid _ from HFM.out _ _ _ hown8 hgr8 hat8)
                clear hown8 hgr8 hat8 hlt8 G8 Z8 hHeld
                go_wp2_with fail
                exact ⟨⟨pp + 1, by go_num, by omega, HF⟩, by simp [intOf]; omega⟩
              · go_simp
                clear hHeld
                refine hK.out _ _ (by first | exact hS0 | exact hS1 | exact hS2 | exact HSG.out _ hgr8 | exact HSS.out _ _ hgr8) (fun hHeld => ?_)
                clear hK K
                try simp only [Act.put, List.setIfInBounds_toArray, List.set_cons_zero, List.set_cons_succ]
                refine wpAnyH_ready (rs := [4]) (by kernel_rfl) (by simp) ?_
                refine AllReadyH.cons (o := { dst := some 67, op := Go.Op.load 114 (Go.Operand.tmp 66), type := 114, pos := "l04_facts.go:352", after := #[{ on := 3, ground := Go.Ground.data }], guard := none }) rfl (fun K hK => ?_) AllReadyH.nil
                go_simp
                clear hHeld
                refine hK.out _ _ (by first | exact hS0 | exact hS1 | exact hS2 | exact HSG.out _ hgr8 | exact HSS.out _ _ hgr8) (fun hHeld => ?_)
                clear hK K
                try simp only [Act.put, List.setIfInBounds_toArray, List.set_cons_zero, List.set_cons_succ]
                refine wpAnyH_ready (rs := [14]) (by kernel_rfl) (by simp) ?_
                refine AllReadyH.cons (o := { dst := some 77, op := Go.Op.call { callee := Go.Callee.builtin Go.Builtin.append, args := #[Go.Operand.tmp 67, Go.Operand.tmp 76], argTypes := #[114, 114] }, type := 114, pos := "l04_facts.go:352", after := #[{ on := 4, ground := Go.Ground.data }, { on := 13, ground := Go.Ground.data }], guard := none }) rfl (fun K hK => ?_) AllReadyH.nil
                (refine step_append_lies _ rfl (.tmp 67) (.tmp 76) 114 rfl w1.heap.size 54 i54 _ 1 24 Try.underlying114 hi54 hx0 hx1 hx2 rfl (by decide) _ pp _ (by simp [Act.eval, Act.put]) HO7.out ⟨w0.heap.size + 1, 0, none⟩ 1 1 [.slice (some ⟨w0.heap.size, 0, none⟩) rln rln] (by simp [Act.eval, Act.put]) rfl HNW.out (one_cell rfl) (by decide) HLX.out.1 HLX.out.2.1 HLX.out.2.2 _ rfl ?_; intro g8 cap8 w8 hown8 hgr8 hat8 hlt8)
                clear hHeld
                refine hK.out _ _ (by first | exact hS0 | exact hS1 | exact hS2 | exact HSG.out _ hgr8 | exact HSS.out _ _ hgr8) (fun hHeld => ?_)
                clear hK K
                try simp only [Act.put, List.setIfInBounds_toArray, List.set_cons_zero, List.set_cons_succ]
                obtain ⟨G8, Z8⟩ := HG7.out _ hgr8
                refine wpAnyH_take (i := 15) (oi := { dst := some 78, op := Go.Op.nilCheck (Go.Operand.tmp 63), type := 0, pos := "l04_facts.go:352", after := #[{ on := 0, ground := Go.Ground.data }, { on := 0, ground := Go.Ground.phase }, { on := 1, ground := Go.Ground.phase }, { on := 2, ground := Go.Ground.phase }, { on := 3, ground := Go.Ground.phase }, { on := 4, ground := Go.Ground.phase }, { on := 5, ground := Go.Ground.phase }, { on := 6, ground := Go.Ground.phase }, { on := 7, ground := Go.Ground.phase }, { on := 8, ground := Go.Ground.phase }, { on := 9, ground := Go.Ground.phase }, { on := 10, ground := Go.Ground.phase }, { on := 11, ground := Go.Ground.phase }, { on := 12, ground := Go.Ground.phase }, { on := 13, ground := Go.Ground.phase }, { on := 14, ground := Go.Ground.phase }], guard := none }) (v := ?v16) rfl (by kernel_rfl) (by kernel_rfl) (by kernel_rfl) (fun _ _ _ h => h) (Or.inl ⟨by rfl, ?h16⟩) hHeld ?r16
                case h16 => (intro w hSw; (try dsimp only at hSw); go_simp; try with_reducible rfl)
                try simp only [Act.put, List.setIfInBounds_toArray, List.set_cons_zero, List.set_cons_succ]
                refine wpAnyH_take (i := 16) (oi := { dst := some 79, op := Go.Op.fieldAddr 116 (Go.Operand.tmp 78) 4, type := 0, pos := "l04_facts.go:352", after := #[{ on := 15, ground := Go.Ground.data }, { on := 0, ground := Go.Ground.phase }, { on := 1, ground := Go.Ground.phase }, { on := 2, ground := Go.Ground.phase }, { on := 3, ground := Go.Ground.phase }, { on := 4, ground := Go.Ground.phase }, { on := 5, ground := Go.Ground.phase }, { on := 6, ground := Go.Ground.phase }, { on := 7, ground := Go.Ground.phase }, { on := 8, ground := Go.Ground.phase }, { on := 9, ground := Go.Ground.phase }, { on := 10, ground := Go.Ground.phase }, { on := 11, ground := Go.Ground.phase }, { on := 12, ground := Go.Ground.phase }, { on := 13, ground := Go.Ground.phase }, { on := 14, ground := Go.Ground.phase }], guard := none }) (v := ?v17) rfl (by kernel_rfl) (by kernel_rfl) (by kernel_rfl) (fun _ _ _ h => h) (Or.inl ⟨by rfl, ?h17⟩) hHeld ?r17
                case h17 => (intro w hSw; (try dsimp only at hSw); go_simp; try with_reducible rfl)
                try simp only [Act.put, List.setIfInBounds_toArray, List.set_cons_zero, List.set_cons_succ]
                refine wpAnyH_ready (rs := [17]) (by kernel_rfl) (by simp) ?_
                refine AllReadyH.cons (o := { dst := none, op := Go.Op.store 114 (Go.Operand.tmp 79) (Go.Operand.tmp 77), type := 0, pos := "l04_facts.go:352", after := #[{ on := 16, ground := Go.Ground.data }, { on := 14, ground := Go.Ground.data }, { on := 14, ground := Go.Ground.chain }, { on := 0, ground := Go.Ground.phase }, { on := 1, ground := Go.Ground.phase }, { on := 2, ground := Go.Ground.phase }, { on := 3, ground := Go.Ground.phase }, { on := 4, ground := Go.Ground.phase }, { on := 5, ground := Go.Ground.phase }, { on := 6, ground := Go.Ground.phase }, { on := 7, ground := Go.Ground.phase }, { on := 8, ground := Go.Ground.phase }, { on := 9, ground := Go.Ground.phase }, { on := 10, ground := Go.Ground.phase }, { on := 11, ground := Go.Ground.phase }, { on := 12, ground := Go.Ground.phase }, { on := 13, ground := Go.Ground.phase }, { on := 14, ground := Go.Ground.phase }], guard := none }) rfl (fun K hK => ?_) AllReadyH.nil
                go_simp
                clear hHeld
                refine hK.out _ _ (by first | exact hS0 | exact hS1 | exact hS2 | exact HSG.out _ hgr8 | exact HSS.out _ _ hgr8) (fun hHeld => ?_)
                clear hK K
                try simp only [Act.put, List.setIfInBounds_toArray, List.set_cons_zero, List.set_cons_succ]
                refine wpAnyH_done (by kernel_rfl) ?_ _
                have HF := (show Hid _ from HFM.out _ _ _ hown8 hgr8 hat8)
                clear hown8 hgr8 hat8 hlt8 G8 Z8 hHeld
                go_wp2_with fail
                exact ⟨⟨pp + 1, by go_num, by omega, HF⟩, by simp [intOf]; omega⟩
          · obtain rfl : pp = d.prods.length := by omega
            have HFIN := (show Hid (∃ s : Sx, s.d = d ∧ s.W = W ∧ s.V = V ∧ s.h = hh ∧ w.heap.size ≤ s.W0.heap.size ∧ Below w.heap.size w s.W0 ∧ SxOK (fun _ => True) s ∧ (∃ ow, TB s ow (fun _ _ => none) wr) ∧ s.g = g) from by
              have h4 := HQ.out
              rw [HL4.out] at h4
              obtain ⟨x, bN, cN, v7, hP, hnb, hcN1, hcN2, hbx, how, hun⟩ := h4
              obtain ⟨hV, hh1, hh2⟩ := HVV.out
              obtain ⟨hnl, hns, hqu, hbg, hbl⟩ := HNS.out
              obtain ⟨bM, cM, hM1, hM2, hM3⟩ : ∃ bM cM : Nat, (d.prods.length ≤ cM ∧ cM ≤ maxLen) ∧ (0 < d.prods.length → v7 = .slice (some ⟨bM, 0, none⟩) d.prods.length cM) ∧ (0 < d.prods.length → x.ow bM = (0, 0, 0) ∧ w1.heap.size ≤ bM ∧ bM < wr.heap.size ∧ ∀ p, p < d.prods.length → wr.cell? ⟨bM, p, none⟩ = some (pV rl x p)) := by
                by_cases h0 : 0 < d.prods.length
                · have hv7 : ∃ bM cM, v7 = .slice (some ⟨bM, 0, none⟩) d.prods.length cM := by
                    rcases how.2 with ⟨_, e0⟩ | ⟨g9, c9, _, e, _⟩
                    · omega
                    · exact ⟨g9, c9, e⟩
                  obtain ⟨bM, cM, rfl⟩ := hv7
                  obtain ⟨r1, r2, r3, r4, f, r5, r6⟩ := own_row how
                  refine ⟨bM, cM, ⟨r3, r4⟩, fun _ => rfl, fun _ => ⟨hun bM rfl, r1, r2, fun p hp => ?_⟩⟩
                  rw [World.rowIs.cell r5 (by omega)]
                  have := r6 p hp
                  rw [List.getElem?_map, List.getElem?_range hp] at this
                  exact this.symm
                · exact ⟨0, 0, ⟨by omega, Nat.zero_le _⟩, fun h => absurd h h0, fun h => absurd h h0⟩
              obtain ⟨s, hsd⟩ : ∃ s : Sx, s = ⟨w1, d, W, V, hh, g, bnl, nl, a0, c0, a1, c1, a3, c3, .slice av W.length cv, bN, cN, v7, bM, cM, x.bk, x.ck, x.rr, x.cr, x.bp⟩ := ⟨_, rfl⟩
              have hsn : s.n1 = n1 := by rw [hsd, HN1.out]; rfl
              refine ⟨s, by rw [hsd], by rw [hsd], by rw [hsd], by rw [hsd], by rw [hsd]; exact HB0.out.size, by rw [hsd]; exact HB0.out, ?_, ?_, by rw [hsd]⟩
              · have hk1 := fun k hk => (hP.krow k hk).2.1
                have hk2 := fun k i (hk : k < d.nons.length) (hi : i < n1) => (hP.vals k i (.inl ⟨hk, hi⟩)).2.1
                have hsn2 := hsn
                refine ⟨?_, ?_, ?_, ?_, ?_, ?_, ?_, ?_, ?_, ?_, ?_, ?_, ?_, ?_, ?_⟩
                · rw [hsd]; exact HOK.out
                · rw [hsd]; exact hV
                · rw [hsd]; exact hns
                · rw [hsd]; exact hqu
                · rw [hsd]; exact hnl
                · rw [hsd]; exact HBL.out.prods.mono (fun _ _ => trivial)
                · rw [hsd]; exact Ints.mono HWD.out (fun _ _ => trivial)
                · rw [hsd]; exact hwl
                · rw [hsd]; exact hh1
                · rw [hsd]; exact hh2
                · rw [hsd]; exact ⟨hcN1, hcN2⟩
                · rw [hsd]; exact hM1
                · rw [hsd]; exact hM2
                · rw [hsn]; rw [hsd]; exact hk1
                · rw [hsn]; rw [hsd]; exact hk2
              · have hP' : PB s.W0 s.n1 s.g s.bnl s.nl rl s.d.nons.length 0 s.d.prods.length x wr := by rw [hsn, hsd]; exact hP
                refine hP'.table (by rw [hsd]; exact hnb) (fun p hp => ?_) (by rw [hsd]) (by rw [hsd]) (by rw [hsd]) (by rw [hsd]) (by rw [hsd]) (by rw [hsd]; exact hbx) (by rw [hsd]; exact hM3)
                rw [HRL.out, hsd]
                rfl)
            clear HQ
            go_wp2_with fail
            go_ret
            obtain ⟨s, h1, h2, h3, h4, h5, h6, h7, h8, h9⟩ := HFIN.out
            exact ⟨s, h1, h2, h3, h4, h5, h6, h7, h8, by rw [h9]; rfl⟩
end Go.Proofs.Ytpbpmhgoppbfnaa
