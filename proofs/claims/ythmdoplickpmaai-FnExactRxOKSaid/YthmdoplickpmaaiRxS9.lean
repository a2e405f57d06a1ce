import Derived.Test.YthmdoplickpmaaiRxS8
namespace Go.Proofs.Ythmdoplickpmaai
open Go.RowKit Go.Deep Go.Lib
set_option linter.unusedVariables false
set_option maxRecDepth 100000
set_option linter.unusedSimpArgs false

theorem info3 : (Try.prog.info? 3).map (fun i => (i.zero, i.size, i.bytes)) = some (some (.int .i64 0), 1, 8) := by kernel_rfl
/-- The kids of a node, a row of the call's own. -/
structure Kd (w : World) (p : Nat) (g : Option Nat) (v : Value) (m L : Nat) : Prop where
  ex : ∃ ys, w.ownsRow 0 3 1 v m ys ∧ ∀ b, v.ownBlock = some b → b ≠ p ∧ g ≠ some b ∧ L ≤ b
theorem Kd.mv {w w' : World} {p m L : Nat} {g g' : Option Nat} {v : Value} (h : Kd w p g v m L) (k : Mv p g w g' w') : Kd w' p g' v m L := by
  obtain ⟨ys, h1, h2⟩ := h
  refine ⟨ys, own_of h1 (fun b hb => k.fr.2.2.2.2 b (ownlt h1 hb) (h2 b hb).1 (h2 b hb).2.1), fun b hb => ⟨(h2 b hb).1, ?_, (h2 b hb).2.2⟩⟩
  have hlt := ownlt h1 hb
  rcases k.to with rfl | ⟨x, rfl, hx⟩
  · exact (h2 b hb).2.1
  · intro e; cases e; omega
theorem Kd.new {w : World} {p : Nat} {g : Option Nat} (cs : Array Value) (n : Nat) (hn : cs.size = n * 1) (hm : n ≤ maxLen) (hp : p < w.heap.size) (hg : ∀ k, g = some k → k < w.heap.size) : Kd (w.alloc (.cells cs 3)) p g (.slice (some ⟨w.heap.size, 0, none⟩) n n) n w.heap.size := by
  refine ⟨_, World.ownsRow_lit (base := 0) (e := 3) (size := 1) w cs n (Nat.zero_le _) hm hn, fun b hb => ?_⟩
  cases hb
  exact ⟨by show w.heap.size ≠ p; omega, fun e => by have := hg _ e; have e2 : (⟨w.heap.size, 0, none⟩ : Addr).block = w.heap.size := rfl; omega, Nat.le_refl _⟩
theorem Rd.lts {w : World} {p k c : Nat} {s : ByteArray} {g : Option Nat} (h : Rd w p s k c g) : p < w.heap.size ∧ ∀ k, g = some k → k < w.heap.size := by
  obtain ⟨_, n, h2, _⟩ := h; exact ⟨h2.lt.1, fun k hk => (h2.lt.2.1 k hk).1⟩
theorem Bd.lts {w : World} {p j c : Nat} {s : ByteArray} {g : Option Nat} (h : Bd w p s j c g) : p < w.heap.size ∧ ∀ k, g = some k → k < w.heap.size := by
  obtain ⟨_, n, h2, _⟩ := h; exact ⟨h2.lt.1, fun k hk => (h2.lt.2.1 k hk).1⟩
/-- What an append to the kids leaves. -/
structure Gr (w w' : World) (o : Option Nat) : Prop where
  by_ : w.grownBy w' o
theorem Rdx.gr {w w' : World} {p : Nat} {s : ByteArray} {z b : Int} {n : Nat} {g o : Option Nat} (h : Rdx w p s z b n g) (k : w.grownBy w' o) (ho : ∀ b, o = some b → b ≠ p ∧ g ≠ some b) : Rdx w' p s z b n g :=
  h.keep (k.block p h.lt.1 (fun e => (ho p e.symm).1 rfl)) (fun i hi => k.block i (h.lt.2.1 i hi).1 (fun e => (ho i e.symm).2 hi))
theorem Rd.gr {w w' : World} {p k c : Nat} {s : ByteArray} {g o : Option Nat} (h : Rd w p s k c g) (q : w.grownBy w' o) (ho : ∀ b, o = some b → b ≠ p ∧ g ≠ some b) : Rd w' p s k c g := by
  obtain ⟨h1, n, h2, h3⟩ := h; exact ⟨h1, n, h2.gr q ho, h3⟩
theorem Bd.gr {w w' : World} {p j c : Nat} {s : ByteArray} {g o : Option Nat} (h : Bd w p s j c g) (q : w.grownBy w' o) (ho : ∀ b, o = some b → b ≠ p ∧ g ≠ some b) : Bd w' p s j c g := by
  obtain ⟨z, n, h2, h3⟩ := h; exact ⟨z, n, h2.gr q ho, h3⟩
theorem Mv.gr {w0 w w' : World} {p : Nat} {g g' o : Option Nat} (h : Mv p g w0 g' w) (q : w.grownBy w' o) (ho : ∀ b, o = some b → w0.heap.size ≤ b) : Mv p g w0 g' w' :=
  ⟨⟨q.os.trans h.fr.1, q.tape.trans h.fr.2.1, q.output.trans h.fr.2.2.1, Nat.le_trans h.fr.2.2.2.1 q.size, fun k hk e1 e2 => (q.block k (Nat.lt_of_lt_of_le hk h.fr.2.2.2.1) (fun e => by have := ho k e.symm; omega)).trans (h.fr.2.2.2.2 k hk e1 e2)⟩, h.to⟩
/-- A byte of the text that is seen, or not. -/
theorem sees_ne {s : ByteArray} {k : Nat} (hlt : k < s.size) (b : UInt8) (h : ¬ s[k] = b) : seesB s k b = false := by unfold seesB; rw [get!_eq s k hlt]; simp [h]
theorem sees_eq {s : ByteArray} {k : Nat} (hlt : k < s.size) (b : UInt8) (h : s[k] = b) : seesB s k b = true := by unfold seesB; rw [get!_eq s k hlt, h]; simp [hlt]

/-- What stands while a sequence is read. -/
def CatS (R : Except Nat Nat) (f : Nat → Except Nat Nat) (p k : Nat) (s : ByteArray) (c d k' m : Nat) (g' : Option Nat) (wr : World) : Prop := (k ≤ k' ∧ m ≤ k' ∧ k' ≤ s.size ∧ Rd wr p s k' (c + d) g' ∧ f k' = R) ∨ ∃ j, Bd wr p s j (c + d + 1) g' ∧ R = .error j
set_option maxHeartbeats 3200000 in
theorem cat_s {pC : Nat → Except Nat Nat} {p k c : Nat} {s : ByteArray} {g : Option Nat} (w : World) (hC : SDoes pC p s k) (hE : Ends pC s k) (hg : RxGood s k pC) (h : Rd w p s k c g) (hc : c ≤ 1000) :
    Calls Try.prog 56 #[.pointer (some ⟨p, 0, none⟩)] w fun e w' => AGot (cat pC s k) p s c 1 g w e w' := by
  have hs := h.small
  have hk := h.1
  have HG := (show Hid _ from (⟨hC, hE, hg⟩ : SDoes pC p s k ∧ Ends pC s k ∧ RxGood s k pC)); clear hC hE hg
  generalize hR : cat pC s k = R
  have HR0 := (show Hid _ from hR); clear hR
  have hzr := (zero_of_info (P := Try.prog) (t := 113) (v := .agg (nd 0 (.slice none 0 0))) (n := 258) (by kernel_rfl)).1
  obtain ⟨i3, hi3, hzz⟩ := Option.map_eq_some_iff.1 info3
  simp only [Prod.mk.injEq] at hzz
  obtain ⟨hz0, hz1, hz2⟩ := hzz
  have H0 := (show Hid _ from h); clear h
  go_enter Try.func56, Try.ntmps56
  go_wp2_with fail
  have hk0 := Kd.new (w := w) (p := p) (g := g) #[] 0 rfl (Nat.zero_le _) H0.out.lts.1 H0.out.lts.2
  have HK0 := (show Hid _ from (⟨hk0, Mv.bel (bel_alloc _ _), .inl ⟨Nat.le_refl _, Nat.zero_le _, hk, H0.out.bel (bel_alloc _ _), HR0.out⟩⟩ : Kd (w.alloc (.cells #[] 3)) p g (.slice (some ⟨w.heap.size, 0, none⟩) 0 0) 0 w.heap.size ∧ Mv p g w g (w.alloc (.cells #[] 3)) ∧ CatS R (cat pC s) p k s c 0 k 0 g (w.alloc (.cells #[] 3)))); clear hk0
  go_loopw [3] (fun v wr => ∃ (a : Option Addr) (m cap k' : Nat) (g' : Option Nat), v = .slice a m cap ∧ m ≤ s.size ∧ Hid (Kd wr p g' v m w.heap.size ∧ Mv p g w g' wr ∧ CatS R (cat pC s) p k s c 0 k' m g' wr)) (fun _ wr => ms s p wr)
  case atStart => exact ⟨some ⟨w.heap.size, 0, none⟩, 0, 0, k, g, rfl, Nat.zero_le _, HK0⟩
  case round =>
    clear HK0 H0 HR0
    obtain ⟨a, m, cap, k', g', rfl, hms, HRR⟩ := hrel
    obtain ⟨hkd, hmv, hst⟩ := HRR.out
    clear HRR
    rcases hst with ⟨hkk, hmk, hk', hrd, hcat⟩ | ⟨j, hbd, hrj⟩
    case inr =>
      have HQ := (show Hid _ from fun n => moreQb wr hbd n)
      have HD := (show Hid _ from (⟨fun n => hbd.drewN n, fun n => hmv.drewN n⟩ : (∀ n, Bd (wr.drewN n) p s j (c + 0 + 1) g') ∧ ∀ n, Mv p g w g' (wr.drewN n)))
      have HE := (show Hid (R = .error j) from hrj)
      clear hkd hmv hbd hrj
      go_wp2_with fail
      go_quiet ((go_at_call 50; refine Calls.quiet_of (HQ.out _)))
      have HX := (show Hid _ from (⟨HD.out.1 nq, HD.out.2 nq⟩ : Bd (wr.drewN nq) p s j (c + 0 + 1) g' ∧ Mv p g w g' (wr.drewN nq))); clear HD
      generalize wr.drewN nq = W1 at *
      have HP := (show Hid _ from put_bad (((nd 0 (.slice none 0 0)).setIfInBounds 0 (.int .i64 2)).setIfInBounds 257 (.slice a m cap)) (by rw [nd_two]; rfl) (by rw [nd_two]; exact nd_one _ _ rfl) _ HX.out.1 (by omega))
      go_wp2_with fail
      refine Calls.mono HP.out ?_
      rintro e w9 ⟨⟨m9, rfl⟩, g9, h9, v9⟩
      have HZ := (show Hid _ from (⟨h9.mono (by omega), HX.out.2.trans v9⟩ : Bd w9 p s (j) (c + 1 + 1) g9 ∧ Mv p g w g9 w9)); clear h9 v9
      go_wp2_with fail
      go_ret
      rw [HE.out]
      exact ⟨⟨m9, rfl⟩, g9, HZ.out.1, HZ.out.2⟩
    case inl =>
      obtain ⟨x0, x1, x2, y1, y2, _⟩ := hrd.cells
      have HM2 := (show Hid _ from ms_ok hrd)
      have HR := (show Hid _ from (⟨hrd, hkd, hmv, hcat⟩ : Rd wr p s k' (c + 0) g' ∧ Kd wr p g' (.slice a m cap) m w.heap.size ∧ Mv p g w g' wr ∧ cat pC s k' = R)); clear hrd hkd hmv hcat
      generalize hon : goes s k' = on
      have HON := (show Hid _ from hon); clear hon
      go_upto_region 2 with fail
      go_cut [30] from 5 to 29 (fun v wx => v = .bool on ∧ Hid (∃ m, wx = wr.drewN m))
      case first =>
        by_cases hl2 : k' < s.size
        · have hl2' : (k' : Int) < s.size := by omega
          have HQ := (show Hid _ from fun n => moreQ wr HR.out.1 (r := true) (by simp [hl2]) n)
          by_cases h124 : s[k'] = 124
          · have hq : ((s[k'].toNat : Int) == 124) = true := by rw [h124]; simp
            have hq2 : ((s[k'].toNat : Int) != 124) = false := by rw [h124]; simp
            have HT : Hid (on = false) := by show on = false; rw [← HON.out]; unfold goes; rw [sees_eq hl2 124 h124]; simp
            clear h124
            go_quiet ((go_at_call 50; refine Calls.quiet_of (HQ.out _)))
            go_wp2_with fail
            go_meet
            exact ⟨by rw [HT.out], _, rfl⟩
          · have hq : ((s[k'].toNat : Int) == 124) = false := ne_of h124
            have hq2 : ((s[k'].toNat : Int) != 124) = true := by simpa [bne] using hq
            by_cases h41 : s[k'] = 41
            · have hq3 : ((s[k'].toNat : Int) == 41) = true := by rw [h41]; simp
              have hq4 : ((s[k'].toNat : Int) != 41) = false := by rw [h41]; simp
              have HT : Hid (on = false) := by show on = false; rw [← HON.out]; unfold goes; rw [sees_eq hl2 41 h41]; simp
              clear h41 h124
              go_quiet ((go_at_call 50; refine Calls.quiet_of (HQ.out _)))
              go_wp2_with fail
              go_meet
              exact ⟨by rw [HT.out], _, rfl⟩
            · have hq3 : ((s[k'].toNat : Int) == 41) = false := ne_of h41
              have hq4 : ((s[k'].toNat : Int) != 41) = true := by simpa [bne] using hq3
              have HT : Hid (on = true) := by show on = true; rw [← HON.out]; unfold goes; rw [sees_ne hl2 41 h41, sees_ne hl2 124 h124]; simp [hl2]
              clear h41 h124
              go_quiet ((go_at_call 50; refine Calls.quiet_of (HQ.out _)))
              go_wp2_with fail
              go_meet
              exact ⟨by rw [HT.out], _, rfl⟩
        · have HQ := (show Hid _ from fun n => moreQ wr HR.out.1 (r := false) (by simp [hl2]) n)
          have HT : Hid (on = false) := by show on = false; rw [← HON.out]; unfold goes; simp [hl2]
          go_quiet ((go_at_call 50; refine Calls.quiet_of (HQ.out _)))
          go_wp2_with fail
          go_meet
          exact ⟨by rw [HT.out], _, rfl⟩
      case rest =>
        obtain ⟨rfl, HC⟩ := hcut
        have hX : Rd wc p s k' (c + 0) g' ∧ Kd wc p g' (.slice a m cap) m w.heap.size ∧ Mv p g w g' wc := by
          obtain ⟨mq, rfl⟩ := HC.out
          exact ⟨HR.out.1.drewN mq, HR.out.2.1.mv ((Mv.refl p g' wr).drewN mq), HR.out.2.2.1.drewN mq⟩
        have HF := (show Hid _ from HR.out.2.2.2)
        clear HC HR x0 x1 x2 y1 y2
        cases on
        case false =>
          have HE : Hid (R = .ok k') := HF.out.symm.trans (cat_stop HON.out)
          have HX := (show Hid _ from (⟨hX.1, hX.2.2⟩ : Rd wc p s k' (c + 0) g' ∧ Mv p g w g' wc)); clear hX
          have HP := (show Hid _ from put_ok (((nd 0 (.slice none 0 0)).setIfInBounds 0 (.int .i64 2)).setIfInBounds 257 (.slice a m cap)) (by rw [nd_two]; rfl) (by rw [nd_two]; exact nd_one _ _ rfl) _ HX.out.1 (by omega))
          go_wp2_with fail
          refine Calls.mono HP.out ?_
          rintro e w9 ⟨⟨m9, rfl⟩, g9, h9, v9⟩
          have HZ := (show Hid _ from (⟨h9.mono (by omega), HX.out.2.trans v9⟩ : Rd w9 p s (k') (c + 1) g9 ∧ Mv p g w g9 w9)); clear h9 v9
          go_wp2_with fail
          go_ret
          rw [HE.out]
          exact ⟨⟨m9, rfl⟩, g9, HZ.out.1, HZ.out.2⟩
        case true =>
          have hl2 : k' < s.size := goes_lt HON.out
          have hgk := HG.out.2.2.mono hkk
          have hst := HF.out.symm.trans (cat_step hgk HON.out)
          have hin := xRep_in hgk hk'
          have HRP := (show Hid _ from rep_s wc (fun a b c d e f => HG.out.1 a b c d (by omega) f) (fun a b e => HG.out.2.1 a b (by omega)) hgk hX.1 (by omega) hl2)
          have HX := (show Hid _ from hX); clear hX hgk
          generalize xRep pC s k' = r at *
          cases r with
          | error j =>
            have HE := (show Hid (R = .error j) from hst); clear hst hin
            go_wp2_with fail
            refine Calls.mono HRP.out ?_
            rintro e w5 ⟨⟨mm, rfl⟩, g5, h5, v5⟩
            have H5 := (show Hid _ from (⟨h5, HX.out.2.1.mv v5, HX.out.2.2.trans v5⟩ : Bd w5 p s j (c + 0 + 1) g5 ∧ Kd w5 p g5 (.slice a m cap) m w.heap.size ∧ Mv p g w g5 w5)); clear h5 v5
            have hbl := bel_alloc w5 (.cells #[.int .i64 (mm : Int)] 3)
            have hkk := H5.out.2.1.mv (Mv.bel hbl : Mv p g5 w5 g5 _)
            obtain ⟨ys, hown, hky⟩ := hkk
            have HO := (show Hid _ from (⟨hown, hky⟩ : _ ∧ _)); clear hown hky hbl
            go_wp2_with (at_builtin; refine wpList_append_lies _ rfl (.tmp 31) (.tmp 34) 25 rfl 0 3 i3 _ 1 8 Try.underlying25 hi3 hz0 hz1 hz2 rfl (by decide) _ m ys rfl HO.out.1 ⟨w5.heap.size, 0, none⟩ 1 1 [.int .i64 (mm : Int)] rfl rfl ?c1 ?c2 (by decide) ?c3 (by omega) (Nat.zero_le _) _ rfl ?nx)
            case c1 => exact World.news_of_block (cs := #[.int .i64 (mm : Int)]) (blk_alloc_new _ _)
            case c2 => intro u hu; simp at hu; subst hu; rfl
            case c3 => unfold maxLen; omega
            case nx =>
              intro g3 cap3 w6 hown6 hgr6 hat6 hlt6
              have hob : ∀ b, (Value.slice a m cap).ownBlock = some b → b ≠ p ∧ g5 ≠ some b ∧ w.heap.size ≤ b := HO.out.2
              have hlts := H5.out.1.lts
              have hsz : (w5.alloc (.cells #[.int .i64 (mm : Int)] 3)).heap.size = w5.heap.size + 1 := World.size_alloc _ _
              have hKd : Kd w6 p g5 (.slice (some ⟨g3, 0, none⟩) (m + 1) cap3) (m + 1) w.heap.size := by
                refine ⟨_, hown6, fun b hb => ?_⟩
                cases hb
                rcases hat6 with e | e
                · exact hob g3 e
                · refine ⟨?_, fun e2 => ?_, ?_⟩
                  · show g3 ≠ p; omega
                  · have := hlts.2 _ e2; have e3 : (⟨g3, 0, none⟩ : Addr).block = g3 := rfl; omega
                  · show w.heap.size ≤ g3; have := H5.out.2.2.fr.2.2.2.1; omega
              have hS6 := (H5.out.1.bel (bel_alloc w5 (.cells #[.int .i64 (mm : Int)] 3))).gr hgr6 (fun b hb => ⟨(hob b hb).1, (hob b hb).2.1⟩)
              have hM6 := (H5.out.2.2.trans (Mv.bel (bel_alloc w5 (.cells #[.int .i64 (mm : Int)] 3)))).gr hgr6 (fun b hb => (hob b hb).2.2)
              have H6 := (show Hid _ from (⟨hS6, hKd, hM6⟩ : Bd w6 p s j (c + 0 + 1) g5 ∧ Kd w6 p g5 (.slice (some ⟨g3, 0, none⟩) (m + 1) cap3) (m + 1) w.heap.size ∧ Mv p g w g5 w6)); clear hS6 hKd hM6 hown6 hgr6 hat6 hlt6 hob hlts hsz HO
              go_wp2_with fail
              refine ⟨⟨some ⟨g3, 0, none⟩, m + 1, cap3, k', g5, rfl, by omega, ⟨H6.out.2.1, H6.out.2.2, .inr ⟨j, H6.out.1, HE.out⟩⟩⟩, ?_⟩
              rw [ms_bad H6.out.1, HM2.out]
              omega
          | ok k1 =>
            have HE := (show Hid (cat pC s k1 = R) from hst.symm); clear hst
            have hk1a : k' + 1 ≤ k1 := hin.1
            have hk1 : k1 ≤ s.size := hin.2
            clear hin
            go_wp2_with fail
            refine Calls.mono HRP.out ?_
            rintro e w5 ⟨⟨mm, rfl⟩, g5, h5, v5⟩
            have H5 := (show Hid _ from (⟨h5, HX.out.2.1.mv v5, HX.out.2.2.trans v5⟩ : Rd w5 p s k1 (c + 0 + 0) g5 ∧ Kd w5 p g5 (.slice a m cap) m w.heap.size ∧ Mv p g w g5 w5)); clear h5 v5
            have hbl := bel_alloc w5 (.cells #[.int .i64 (mm : Int)] 3)
            have hkk := H5.out.2.1.mv (Mv.bel hbl : Mv p g5 w5 g5 _)
            obtain ⟨ys, hown, hky⟩ := hkk
            have HO := (show Hid _ from (⟨hown, hky⟩ : _ ∧ _)); clear hown hky hbl
            go_wp2_with (at_builtin; refine wpList_append_lies _ rfl (.tmp 31) (.tmp 34) 25 rfl 0 3 i3 _ 1 8 Try.underlying25 hi3 hz0 hz1 hz2 rfl (by decide) _ m ys rfl HO.out.1 ⟨w5.heap.size, 0, none⟩ 1 1 [.int .i64 (mm : Int)] rfl rfl ?c1 ?c2 (by decide) ?c3 (by omega) (Nat.zero_le _) _ rfl ?nx)
            case c1 => exact World.news_of_block (cs := #[.int .i64 (mm : Int)]) (blk_alloc_new _ _)
            case c2 => intro u hu; simp at hu; subst hu; rfl
            case c3 => unfold maxLen; omega
            case nx =>
              intro g3 cap3 w6 hown6 hgr6 hat6 hlt6
              have hob : ∀ b, (Value.slice a m cap).ownBlock = some b → b ≠ p ∧ g5 ≠ some b ∧ w.heap.size ≤ b := HO.out.2
              have hlts := H5.out.1.lts
              have hsz : (w5.alloc (.cells #[.int .i64 (mm : Int)] 3)).heap.size = w5.heap.size + 1 := World.size_alloc _ _
              have hKd : Kd w6 p g5 (.slice (some ⟨g3, 0, none⟩) (m + 1) cap3) (m + 1) w.heap.size := by
                refine ⟨_, hown6, fun b hb => ?_⟩
                cases hb
                rcases hat6 with e | e
                · exact hob g3 e
                · refine ⟨?_, fun e2 => ?_, ?_⟩
                  · show g3 ≠ p; omega
                  · have := hlts.2 _ e2; have e3 : (⟨g3, 0, none⟩ : Addr).block = g3 := rfl; omega
                  · show w.heap.size ≤ g3; have := H5.out.2.2.fr.2.2.2.1; omega
              have hS6 := (H5.out.1.bel (bel_alloc w5 (.cells #[.int .i64 (mm : Int)] 3))).gr hgr6 (fun b hb => ⟨(hob b hb).1, (hob b hb).2.1⟩)
              have hM6 := (H5.out.2.2.trans (Mv.bel (bel_alloc w5 (.cells #[.int .i64 (mm : Int)] 3)))).gr hgr6 (fun b hb => (hob b hb).2.2)
              have H6 := (show Hid _ from (⟨hS6, hKd, hM6⟩ : Rd w6 p s k1 (c + 0 + 0) g5 ∧ Kd w6 p g5 (.slice (some ⟨g3, 0, none⟩) (m + 1) cap3) (m + 1) w.heap.size ∧ Mv p g w g5 w6)); clear hS6 hKd hM6 hown6 hgr6 hat6 hlt6 hob hlts hsz HO
              go_wp2_with fail
              refine ⟨⟨some ⟨g3, 0, none⟩, m + 1, cap3, k1, g5, rfl, by omega, ⟨H6.out.2.1, H6.out.2.2, .inl ⟨by omega, by omega, hk1, H6.out.1, HE.out⟩⟩⟩, ?_⟩
              rw [ms_ok H6.out.1, HM2.out]
              omega
end Go.Proofs.Ythmdoplickpmaai
