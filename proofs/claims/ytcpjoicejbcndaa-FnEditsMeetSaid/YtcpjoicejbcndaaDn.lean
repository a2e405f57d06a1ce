import Derived.Test.YtcpjoicejbcndaaDm
/-! DrawMoveEdit. -/
namespace Go.Proofs.Ytcpjoicejbcndaa
open Go.RowKit Go.Deep Go.Lib
set_option linter.unusedVariables false
set_option maxRecDepth 100000
set_option linter.unusedSimpArgs false

set_option maxHeartbeats 6400000 in
theorem draw5 {cs : List UInt8} {a : Option Addr} {cap b off : Nat} (w : World) (h2 : cs.length ≤ 1048576) (h3 : cs.length ≤ cap) (h4 : cap ≤ 2 ^ 63 - 1) (hb : 0 < cs.length → b < w.heap.size) (h6 : 0 < cs.length → a = some ⟨b, off, none⟩) (h7 : Byts w cs b off) :
    Calls Try.prog 5 #[.slice a cs.length cap] w fun e w' => e = .returned (.tuple #[edV (cMe cs).1.a (cMe cs).1.d (cMe cs).1.s, edV (cMe cs).2.a (cMe cs).2.d (cMe cs).2.s]) ∧ Below w.heap.size w w' := by
  obtain ⟨i25, hi25, hzz⟩ := Option.map_eq_some_iff.1 info25p
  simp only [Prod.mk.injEq] at hzz
  obtain ⟨hz0, hz1, hz2⟩ := hzz
  have hbb : Below w.heap.size w ((w.alloc (.cells #[.int .i64 0, .int .i64 0, .string ⟨#[]⟩] 25)).alloc (.cells #[.int .i64 0, .int .i64 0, .string ⟨#[]⟩] 25)) := (bel_alloc _ _).alloc (by simp) _
  have HDC := (show Hid _ from drawCur_any (cs := cs) (a := a) (cap := cap) (b := b) (off := off) ((w.alloc (.cells #[.int .i64 0, .int .i64 0, .string ⟨#[]⟩] 25)).alloc (.cells #[.int .i64 0, .int .i64 0, .string ⟨#[]⟩] 25)) h2 h3 h4 (fun h => by simp; have := hb h; omega) h6 (fun i hi => (hbb.cell (lt_of_cell (h7 i hi))).trans (h7 i hi)))
  have HX : Hid (Below w.heap.size w ((w.alloc (.cells #[.int .i64 0, .int .i64 0, .string ⟨#[]⟩] 25)).alloc (.cells #[.int .i64 0, .int .i64 0, .string ⟨#[]⟩] 25)) ∧ Box ((w.alloc (.cells #[.int .i64 0, .int .i64 0, .string ⟨#[]⟩] 25)).alloc (.cells #[.int .i64 0, .int .i64 0, .string ⟨#[]⟩] 25)) w.heap.size 25 (edC 0 0 ⟨#[]⟩) ∧ Box ((w.alloc (.cells #[.int .i64 0, .int .i64 0, .string ⟨#[]⟩] 25)).alloc (.cells #[.int .i64 0, .int .i64 0, .string ⟨#[]⟩] 25)) (w.heap.size + 1) 25 (edC 0 0 ⟨#[]⟩)) := by
    refine ⟨hbb, (Box.new w 25 (edC 0 0 ⟨#[]⟩)).still (bel_alloc _ _), ?_⟩
    have := Box.new (w.alloc (.cells #[.int .i64 0, .int .i64 0, .string ⟨#[]⟩] 25)) 25 (edC 0 0 ⟨#[]⟩)
    simpa using this
  have HP : Hid (∀ (n : Nat) (s : Nat × Nat) (wq : World), n ≤ 1048576 → DS w cs a cap b off s wq → Calls Try.prog 11 #[.pointer (some ⟨w.heap.size + 1 + 1, 0, none⟩), .int .i64 (n : Int)] wq (PkA w cs a cap b off n s wq)) := fun n s wq hn h => pick11 n hn h
  have HLT : Hid (∀ (n : Nat) (s : Nat × Nat), 0 < n → (cPick cs n s).1 < n) := fun n s h => cPick_lt cs n s h
  unfold cMe
  generalize hs0 : (0, 17 + cs.length) = s0 at *
  have HS0 := (show Hid _ from hs0); clear hs0
  obtain ⟨⟨X, Y⟩, hT⟩ : ∃ T, T = cTwo cs (cEs cs s0 2).2 (cEd cs s0).1 (cEd cs (cEd cs s0).2).1 := ⟨_, rfl⟩
  rw [← hT]
  have HT := (show Hid _ from hT); clear hT
  simp only
  generalize hn : cs.length = n at *
  clear hbb hb h6 h7
  unfold edV
  go_enter Try.func5, Try.ntmps5
  go_wp2_with fail
  simp only [World.size_alloc] at HDC
  refine Calls.mono HDC.out ?_
  rintro e w1 ⟨rfl, hb1, hs1, hc1⟩
  have H1 := (show Hid (DS w cs a cap b off s0 w1) from ⟨bel_trans HX.out.1 (by simpa using hb1), hc1, HX.out.2.1.still (by simpa using hb1), HX.out.2.2.still (by simpa using hb1), by rw [hs1]; omega⟩)
  have hsz1 : w1.heap.size = w.heap.size + 1 + 1 + 1 := hs1
  have HI1 := (show Hid ((w1.alloc (.cells #[] 25)).ownsRow w1.heap.size 25 3 (.slice (some ⟨w1.heap.size, 0, none⟩) 0 0) 0 []) from ⟨rfl, .inr ⟨w1.heap.size, 0, #[], rfl, Nat.le_refl _, blk_alloc_new _ _, Nat.le_refl _, Nat.zero_le _, rfl, rfl⟩⟩)
  have H2 := (show Hid (DS w cs a cap b off s0 (w1.alloc (.cells #[] 25))) from H1.out.still (bel_alloc _ _))
  rw [hsz1] at HI1
  have HZ1 := (show Hid _ from hsz1)
  clear hb1 hs1 hc1 H1 HX HDC hsz1
  go_wp2_with fail
  go_loopw [5, 6] (fun v5 v6 wr => ∃ j g c : Nat, v5 = .slice (some ⟨g, 0, none⟩) j c ∧ v6 = .int .i64 j ∧ j ≤ 2 ∧ Hid (DS w cs a cap b off (cEs cs s0 j).2 wr ∧ wr.ownsRow (w.heap.size + 1 + 1 + 1) 25 3 (.slice (some ⟨g, 0, none⟩) j c) j (ev (cEs cs s0 j).1))) (fun _ v6 _ => 2 - (intOf v6).toNat)
  case atStart =>
    refine ⟨0, _, _, ?_, rfl, by omega, H2.out, HI1.out⟩
    rw [HZ1.out]
  case round =>
    obtain ⟨j, g, c, rfl, rfl, hj, HJ⟩ := hrel
    by_cases hjl : j < 2
    · have HLS := (show Hid _ from cEs_succ cs s0 j hjl)
      obtain ⟨E, hE⟩ : ∃ E, E = cEs cs s0 j := ⟨_, rfl⟩
      rw [← hE] at HJ HLS
      obtain ⟨el, es⟩ := E
      obtain ⟨CE, hCE⟩ : ∃ CE, CE = cEd cs es := ⟨_, rfl⟩
      simp only at HLS
      rw [← hCE] at HLS
      unfold cEd at hCE
      have HCE := (show Hid _ from hCE)
      clear hCE
      have HEE := (show Hid _ from hE)
      clear hE
      simp only at HJ HLS HCE
      have HC1 := (show Hid _ from HP.out 8 es wr (by omega) HJ.out.1)
      have hl1 := HLT.out 8 es (by omega)
      unfold PkA at HC1
      generalize cPick cs 8 es = p1 at *
      obtain ⟨x1, s1⟩ := p1
      simp only at HC1 hl1 HCE
      go_wp2_with fail
      refine Calls.mono HC1.out ?_
      rintro e w2 ⟨rfl, hd2, ho2, hz2'⟩
      have HO2 := (show Hid _ from own_out HJ.out.2 ho2 (Nat.le_refl _))
      have HC2 := (show Hid _ from HP.out 5 s1 w2 (by omega) hd2)
      have hl2 := HLT.out 5 s1 (by omega)
      unfold PkA at HC2
      generalize cPick cs 5 s1 = p2 at *
      obtain ⟨x2, s2⟩ := p2
      simp only at HC2 hl2 HCE
      clear HC1 hd2 ho2 hz2' HJ
      go_wp2_with fail
      refine Calls.mono HC2.out ?_
      rintro e w3 ⟨rfl, hd3, ho3, hz3'⟩
      have HO3 := (show Hid _ from own_keep (own_out HO2.out ho3 (Nat.le_refl _)) (w' := w3.alloc (.cells #[.string ⟨#[]⟩, .string ⟨#[97]⟩, .string ⟨#[98, 99]⟩, .string ⟨#[100, 101, 102]⟩] 9)) (fun q hq => (bel_alloc w3 (.cells #[.string ⟨#[]⟩, .string ⟨#[97]⟩, .string ⟨#[98, 99]⟩, .string ⟨#[100, 101, 102]⟩] 9)).block q (own_lt (own_out HO2.out ho3 (Nat.le_refl _)) hq).2))
      have HC3 := (show Hid _ from HP.out 4 s2 (w3.alloc (.cells #[.string ⟨#[]⟩, .string ⟨#[97]⟩, .string ⟨#[98, 99]⟩, .string ⟨#[100, 101, 102]⟩] 9)) (by omega) (hd3.still (bel_alloc _ _)))
      have hl3 := HLT.out 4 s2 (by omega)
      unfold PkA at HC3
      generalize cPick cs 4 s2 = p3 at *
      obtain ⟨x3, s3⟩ := p3
      simp only at HC3 hl3 HCE
      have HX3 := (show Hid _ from cell_lit w3 x3 hl3)
      have HG3 := (show Hid _ from hd3.sz)
      clear HC2 hd3 ho3 hz3' HO2
      go_wp2_with fail
      refine Calls.mono HC3.out ?_
      rintro e w4 ⟨rfl, hd4, ho4, hz4'⟩
      have x4 : w4.cell? ⟨w3.heap.size, x3, none⟩ = some (.string (pickOf litE x3)) := cell_out HX3.out ho4 HG3.out
      have HO4 := (show Hid _ from own_out HO3.out ho4 (Nat.le_refl _))
      generalize pickOf litE x3 = st at *
      have HD5 := (show Hid _ from hd4.still (bel_alloc w4 (.cells #[.int .i64 (x1 : Nat), .int .i64 (x2 : Nat), .string st] 25)))
      have HO5 := (show Hid _ from own_keep HO4.out (w' := w4.alloc (.cells #[.int .i64 (x1 : Nat), .int .i64 (x2 : Nat), .string st] 25)) (fun q hq => (bel_alloc w4 _).block q (own_lt HO4.out hq).2))
      have HNB := (show Hid _ from World.news_of_block (blk_alloc_new w4 (.cells #[.int .i64 (x1 : Nat), .int .i64 (x2 : Nat), .string st] 25)))
      have HSZ := (show Hid _ from hd4.sz)
      clear HC3 hd4 ho4 hz4' HO3 HO4 HX3 HG3
      go_wp2_with (at_builtin; refine wpList_append_lies _ rfl (.tmp 16) (.tmp 27) 34 rfl (w.heap.size + 1 + 1 + 1) 25 i25 _ 3 32 Try.underlying34 hi25 hz0 hz1 hz2 rfl (by decide) _ j _ rfl HO5.out ⟨w4.heap.size, 0, none⟩ 1 1 [.int .i64 (x1 : Nat), .int .i64 (x2 : Nat), .string st] rfl rfl HNB.out (by intro u hu; simp at hu; rcases hu with rfl | rfl | rfl <;> rfl) (by decide) (by unfold maxLen; omega) (by omega) (by have := HSZ.out; simp; omega) _ rfl ?_; intro g8 cap8 w8 hown8 hgr8 hat8 hlt8; have HB8 := (show Hid _ from HD5.out.low ((Below.refl (w.heap.size + 1 + 1 + 1) _).grown hgr8 (by have := HSZ.out; simp; omega) (fun q hq => (own_lt HO5.out hq).1))); have HO8 := (show Hid _ from hown8); clear hown8 hgr8 hat8 hlt8)
      refine ⟨⟨j + 1, g8, cap8, rfl, by go_num, by omega, ?_⟩, by simp [intOf]; omega⟩
      rw [HLS.out, HCE.out]
      refine ⟨HB8.out, ?_⟩
      rw [ev_append]
      exact HO8.out
    · obtain rfl : j = 2 := by omega
      have HX6 := (show Hid (R6 wr g (cEd cs s0).1 (cEd cs (cEd cs s0).2).1) from R6.of HJ.out.2)
      have hgl := (own_lt HJ.out.2 (b := g) rfl).1
      have HD1 := (show Hid _ from HJ.out.1)
      have hg0 : g ≠ w.heap.size := by omega
      have hg1 : g ≠ w.heap.size + 1 := by omega
      have HGL := (show Hid _ from hgl)
      clear HJ hgl hj hjl
      generalize (cEs cs s0 2).2 = st at *
      generalize (cEd cs s0).1 = x at *
      generalize (cEd cs (cEd cs s0).2).1 = y at *
      unfold cTwo at HT
      have HC1 := (show Hid _ from HP.out 10 st wr (by omega) HD1.out)
      unfold PkA at HC1
      generalize cPick cs 10 st = p1 at *
      obtain ⟨q, s1⟩ := p1
      simp only at HC1 HT
      by_cases hq : q = 0
      rotate_left
      · have HXE := (show Hid (X = x ∧ Y = y) from (by have h := HT.out; rw [if_neg hq] at h; exact Prod.mk.injEq _ _ _ _ ▸ h))
        have hqb : ((q : Int) == 0) = false := by simp; omega
        clear HT hq
        go_wp2_with fail
        refine Calls.mono HC1.out ?_
        rintro e w2 ⟨rfl, hd2, ho2, hz2'⟩
        have HR := (show Hid (R6 w2 g x y) from HX6.out.keep (ho2.2.2.2.2 g HX6.out.lt (.inr HGL.out)))
        have HD := (show Hid _ from hd2)
        clear hd2 ho2 hz2' HX6 HD1 HC1
        go_wp2_with fail
        obtain ⟨⟨x0, x1, x2⟩, y0, y1, y2⟩ := HR.out.cells
        have HSE := (show Hid (∀ wq, R6 wq g x y → (wq.cell? ⟨g, 0, none⟩ = some (.int .i64 x.a) ∧ wq.cell? ⟨g, 1, none⟩ = some (.int .i64 x.d) ∧ wq.cell? ⟨g, 2, none⟩ = some (.string x.s)) ∧ wq.cell? ⟨g, 3, none⟩ = some (.int .i64 y.a) ∧ wq.cell? ⟨g, 4, none⟩ = some (.int .i64 y.d) ∧ wq.cell? ⟨g, 5, none⟩ = some (.string y.s)) from fun wq h => h.cells)
        have hbd := (Below.refl w2.heap.size w2).drew
        have hS0 := HSE.out _ (HR.out.keep (hbd.block g HR.out.lt))
        have r0 : w2.cell? ⟨w.heap.size, 0, none⟩ = some (.int .i64 0) := HD.out.r0.cell 0 (by simp)
        have q0 : w2.cell? ⟨w.heap.size + 1, 0, none⟩ = some (.int .i64 0) := HD.out.r1.cell 0 (by simp)
        have rf0 := HD.out.r0.frozen 0
        have qf0 := HD.out.r1.frozen 0
        have r1 : w2.cell? ⟨w.heap.size, 1, none⟩ = some (.int .i64 0) := HD.out.r0.cell 1 (by simp)
        have q1 : w2.cell? ⟨w.heap.size + 1, 1, none⟩ = some (.int .i64 0) := HD.out.r1.cell 1 (by simp)
        have rf1 := HD.out.r0.frozen 1
        have qf1 := HD.out.r1.frozen 1
        have r2 : w2.cell? ⟨w.heap.size, 2, none⟩ = some (.string ⟨#[]⟩) := HD.out.r0.cell 2 (by simp)
        have q2 : w2.cell? ⟨w.heap.size + 1, 2, none⟩ = some (.string ⟨#[]⟩) := HD.out.r1.cell 2 (by simp)
        have rf2 := HD.out.r0.frozen 2
        have qf2 := HD.out.r1.frozen 2
        have HB := (show Hid _ from HD.out.bel)
        go_region_held3 (fun wq => (wq.cell? ⟨g, 0, none⟩ = some (.int .i64 x.a) ∧ wq.cell? ⟨g, 1, none⟩ = some (.int .i64 x.d) ∧ wq.cell? ⟨g, 2, none⟩ = some (.string x.s)) ∧ wq.cell? ⟨g, 3, none⟩ = some (.int .i64 y.a) ∧ wq.cell? ⟨g, 4, none⟩ = some (.int .i64 y.d) ∧ wq.cell? ⟨g, 5, none⟩ = some (.string y.s)) (first | with_reducible exact hS0 | (refine HSE.out _ ?_; repeat (first | with_reducible exact HR.out | with_reducible refine R6.past ?_ (by first | exact hg0 | exact hg1) | with_reducible refine R6.drew ?_))) (fail)
        all_goals go_wp2_with fail
        all_goals refine bodyPost_ret (v := .tuple #[.agg #[.int .i64 X.a, .int .i64 X.d, .string X.s], .agg #[.int .i64 Y.a, .int .i64 Y.d, .string Y.s]]) (by rw [HXE.out.1, HXE.out.2]; simp [results, Try.results5, go_sem, r0, r1, r2, q0, q1, q2]) rfl ?_
        all_goals exact ⟨rfl, by first | exact (((((((HB.out.setCell (by simp) _).setCell (by simp) _).setCell (by simp) _).setCell (by simp) _).setCell (by simp) _).setCell (by simp) _).drew) | exact ((((((HB.out.setCell (by simp) _).setCell (by simp) _).setCell (by simp) _).setCell (by simp) _).setCell (by simp) _).setCell (by simp) _)⟩
      · subst hq
        rw [if_pos rfl] at HT
        have HK := (show Hid (∀ wq, DS w cs a cap b off s1 wq → _) from fun wq h => HP.out 2 s1 wq (by omega) h)
        have hkl := HLT.out 2 s1 (by omega)
        unfold PkA at HK
        generalize cPick cs 2 s1 = p2 at *
        obtain ⟨k, s2⟩ := p2
        simp only at HK hkl HT
        go_wp2_with fail
        refine Calls.mono HC1.out ?_
        rintro e w2 ⟨rfl, hd2, ho2, hz2'⟩
        have HR2 := (show Hid (R6 w2 g x y) from HX6.out.keep (ho2.2.2.2.2 g HX6.out.lt (.inr HGL.out)))
        have HC2 := (show Hid _ from HK.out w2 hd2)
        clear hd2 ho2 hz2' HX6 HD1 HC1 HK
        go_wp2_with fail
        refine Calls.mono HC2.out ?_
        rintro e w3 ⟨rfl, hd3, ho3, hz3'⟩
        have HR3 := (show Hid (R6 w3 g x y) from HR2.out.keep (ho3.2.2.2.2 g HR2.out.lt (.inr HGL.out)))
        have HD3 := (show Hid _ from hd3)
        clear hd3 ho3 hz3' HR2 HC2
        have hk2 : k = 0 ∨ k = 1 := by omega
        clear hkl
        rcases hk2 with rfl | rfl
        · rw [if_pos rfl] at HT
          obtain ⟨M, hM⟩ : ∃ M, M = cMod cs s2 x := ⟨_, rfl⟩
          rw [← hM] at HT
          unfold cMod at hM
          have HM := (show Hid _ from hM); clear hM
          have HXE0 := (show Hid (X = M ∧ Y = y) from (by have h := HT.out; exact Prod.mk.injEq _ _ _ _ ▸ h))
          clear HT
          obtain ⟨⟨x0, x1, x2⟩, y0, y1, y2⟩ := HR3.out.cells
          have HC3 := (show Hid _ from HP.out 3 s2 (w3.alloc (.cells #[.int .i64 x.a, .int .i64 x.d, .string x.s] 25)) (by omega) (HD3.out.still (bel_alloc _ _)))
          have hvl := HLT.out 3 s2 (by omega)
          unfold PkA at HC3
          generalize cPick cs 3 s2 = p3 at *
          obtain ⟨v, s3⟩ := p3
          simp only at HC3 hvl HM
          have HR4 := (show Hid (R6 (w3.alloc (.cells #[.int .i64 x.a, .int .i64 x.d, .string x.s] 25)) g x y) from HR3.out.keep ((bel_alloc _ _).block g HR3.out.lt))
          have HBX := (show Hid _ from Box.new w3 25 (edC x.a x.d x.s))
          have HZ3 := (show Hid _ from HD3.out.sz)
          have HGG := (show Hid (g < w3.heap.size) from HR3.out.lt)
          clear HD3 HR3
          go_wp2_with fail
          refine Calls.mono HC3.out ?_
          rintro e w4 ⟨rfl, hd4, ho4, hz4'⟩
          have HR5 := (show Hid (R6 w4 g x y) from HR4.out.keep (ho4.2.2.2.2 g HR4.out.lt (.inr HGL.out)))
          have HBX5 := (show Hid (Box w4 w3.heap.size 25 (edC x.a x.d x.s)) from HBX.out.keep (ho4.2.2.2.2 _ HBX.out.lt (.inr HZ3.out)))
          have HD4 := (show Hid _ from hd4)
          have HEQ := (show Hid (w4.heap.size = w3.heap.size + 1) from (by show _ = _; rw [hz4']; simp))
          clear hd4 ho4 hz4' HR4 HBX HC3 x0 x1 x2 y0 y1 y2
          generalize hq3 : w3.heap.size = q3 at *
          have hv3 : v = 0 ∨ v = 1 ∨ v = 2 := by omega
          clear hvl hq3
          rcases hv3 with rfl | rfl | rfl
          · rw [if_pos rfl] at HM
            have HC4 := (show Hid _ from HP.out 3 s3 (w4.alloc (.cells #[.int .i64 (-1), .int .i64 4000, .int .i64 4001] 3)) (by omega) (HD4.out.still (bel_alloc _ _)))
            have hul := HLT.out 3 s3 (by omega)
            unfold PkA at HC4
            generalize cPick cs 3 s3 = p4 at *
            obtain ⟨u, s4⟩ := p4
            simp only at HC4 hul HM
            have HN4 := (show Hid _ from cell_num w4 u hul)
            have HGZ := (show Hid _ from HD4.out.sz)
            have HR6 := (show Hid (R6 (w4.alloc (.cells #[.int .i64 (-1), .int .i64 4000, .int .i64 4001] 3)) g x y) from HR5.out.keep ((bel_alloc _ _).block g HR5.out.lt))
            have HBX6 := (show Hid (Box (w4.alloc (.cells #[.int .i64 (-1), .int .i64 4000, .int .i64 4001] 3)) q3 25 (edC x.a x.d x.s)) from HBX5.out.still (bel_alloc _ _))
            clear HD4 HR5 HBX5
            go_wp2_with fail
            refine Calls.mono HC4.out ?_
            rintro e w5 ⟨rfl, hd5, ho5, hz5'⟩
            have n5 : w5.cell? ⟨w4.heap.size, u, none⟩ = some (.int .i64 (numE u)) := cell_out HN4.out ho5 HGZ.out
            generalize numE u = nu at *
            have HR7 := (show Hid (R6 w5 g x y) from HR6.out.keep (ho5.2.2.2.2 g HR6.out.lt (.inr HGL.out)))
            have hb7 : Box w5 q3 25 (edC x.a x.d x.s) := HBX6.out.keep (ho5.2.2.2.2 _ HBX6.out.lt (.inr HZ3.out))
            have HD7 := (show Hid _ from hd5)
            clear hd5 ho5 hz5' HR6 HBX6 HN4 HC4
            have e0 : w5.cell? ⟨q3, 0, none⟩ = some (.int .i64 x.a) := hb7.cell 0 (by simp)
            have e1 : w5.cell? ⟨q3, 1, none⟩ = some (.int .i64 x.d) := hb7.cell 1 (by simp)
            have e2 : w5.cell? ⟨q3, 2, none⟩ = some (.string x.s) := hb7.cell 2 (by simp)
            have ef0 := hb7.frozen 0
            have ef1 := hb7.frozen 1
            have ef2 := hb7.frozen 2
            have hb8 : Box (w5.setCell ⟨q3, 0, none⟩ (.int .i64 nu)) q3 25 [.int .i64 nu, .int .i64 x.d, .string x.s] := hb7.set 0 (.int .i64 nu)
            have HR8 := (show Hid (R6 (w5.setCell ⟨q3, 0, none⟩ (.int .i64 nu)) g x y) from HR7.out.keep (blk_setCell_other _ _ _ _ (by show g ≠ q3; have := HGG.out; omega)))
            have HD8 := (show Hid (DS w cs a cap b off s4 (w5.setCell ⟨q3, 0, none⟩ (.int .i64 nu))) from HD7.out.low ((Below.refl _ _).setCell (p := ⟨q3, 0, none⟩) (by show _ ≤ q3; exact HZ3.out) _))
            clear HR7 HD7 hb7
            have d0 : (w5.setCell ⟨q3, 0, none⟩ (.int .i64 nu)).cell? ⟨q3, 0, none⟩ = some (.int .i64 nu) := hb8.cell 0 (by simp)
            have d1 : (w5.setCell ⟨q3, 0, none⟩ (.int .i64 nu)).cell? ⟨q3, 1, none⟩ = some (.int .i64 x.d) := hb8.cell 1 (by simp)
            have d2 : (w5.setCell ⟨q3, 0, none⟩ (.int .i64 nu)).cell? ⟨q3, 2, none⟩ = some (.string x.s) := hb8.cell 2 (by simp)
            obtain ⟨⟨x0, x1, x2⟩, y0, y1, y2⟩ := HR8.out.cells
            have gf0 := HR8.out.frozen 0
            have gf1 := HR8.out.frozen 1
            have gf2 := HR8.out.frozen 2
            have HR := (show Hid (R6 ((((w5.setCell ⟨q3, 0, none⟩ (.int .i64 nu)).setCell ⟨g, 0, none⟩ (.int .i64 nu)).setCell ⟨g, 1, none⟩ (.int .i64 x.d)).setCell ⟨g, 2, none⟩ (.string x.s)) g (Ed3.mk nu x.d x.s) y) from HR8.out.set0 (e := ⟨nu, x.d, x.s⟩))
            have HD := (show Hid (DS w cs a cap b off s4 ((((w5.setCell ⟨q3, 0, none⟩ (.int .i64 nu)).setCell ⟨g, 0, none⟩ (.int .i64 nu)).setCell ⟨g, 1, none⟩ (.int .i64 x.d)).setCell ⟨g, 2, none⟩ (.string x.s))) from HD8.out.low ((((Below.refl _ _).setCell (p := ⟨g, 0, none⟩) (by show _ ≤ g; exact HGL.out) _).setCell (p := ⟨g, 1, none⟩) (by show _ ≤ g; exact HGL.out) _).setCell (p := ⟨g, 2, none⟩) (by show _ ≤ g; exact HGL.out) _))
            have HXE := (show Hid (X = (Ed3.mk nu x.d x.s) ∧ Y = y) from (by have h := HXE0.out; rw [HM.out] at h; exact h))
            clear HR8 HD8 hb8 HM HXE0
            go_wp2_with fail
            obtain ⟨w9, hw9⟩ : ∃ w9, w9 = ((((w5.setCell ⟨q3, 0, none⟩ (.int .i64 nu)).setCell ⟨g, 0, none⟩ (.int .i64 nu)).setCell ⟨g, 1, none⟩ (.int .i64 x.d)).setCell ⟨g, 2, none⟩ (.string x.s)) := ⟨_, rfl⟩
            rw [← hw9] at HR HD
            rw [← hw9]
            clear hw9 d0 d1 d2 e0 e1 e2 ef0 ef1 ef2 x0 x1 x2 y0 y1 y2 gf0 gf1 gf2
            obtain ⟨⟨x0, x1, x2⟩, y0, y1, y2⟩ := HR.out.cells
            have HSE := (show Hid (∀ wq, R6 wq g (Ed3.mk nu x.d x.s) y → (wq.cell? ⟨g, 0, none⟩ = some (.int .i64 nu) ∧ wq.cell? ⟨g, 1, none⟩ = some (.int .i64 x.d) ∧ wq.cell? ⟨g, 2, none⟩ = some (.string x.s)) ∧ wq.cell? ⟨g, 3, none⟩ = some (.int .i64 y.a) ∧ wq.cell? ⟨g, 4, none⟩ = some (.int .i64 y.d) ∧ wq.cell? ⟨g, 5, none⟩ = some (.string y.s)) from fun wq h => h.cells)
            have hbd := (Below.refl w9.heap.size w9).drew
            have hS0 := HSE.out _ (HR.out.keep (hbd.block g HR.out.lt))
            have r0 : w9.cell? ⟨w.heap.size, 0, none⟩ = some (.int .i64 0) := HD.out.r0.cell 0 (by simp)
            have q0 : w9.cell? ⟨w.heap.size + 1, 0, none⟩ = some (.int .i64 0) := HD.out.r1.cell 0 (by simp)
            have rf0 := HD.out.r0.frozen 0
            have qf0 := HD.out.r1.frozen 0
            have r1 : w9.cell? ⟨w.heap.size, 1, none⟩ = some (.int .i64 0) := HD.out.r0.cell 1 (by simp)
            have q1 : w9.cell? ⟨w.heap.size + 1, 1, none⟩ = some (.int .i64 0) := HD.out.r1.cell 1 (by simp)
            have rf1 := HD.out.r0.frozen 1
            have qf1 := HD.out.r1.frozen 1
            have r2 : w9.cell? ⟨w.heap.size, 2, none⟩ = some (.string ⟨#[]⟩) := HD.out.r0.cell 2 (by simp)
            have q2 : w9.cell? ⟨w.heap.size + 1, 2, none⟩ = some (.string ⟨#[]⟩) := HD.out.r1.cell 2 (by simp)
            have rf2 := HD.out.r0.frozen 2
            have qf2 := HD.out.r1.frozen 2
            have HB := (show Hid _ from HD.out.bel)
            go_region_held3 (fun wq => (wq.cell? ⟨g, 0, none⟩ = some (.int .i64 nu) ∧ wq.cell? ⟨g, 1, none⟩ = some (.int .i64 x.d) ∧ wq.cell? ⟨g, 2, none⟩ = some (.string x.s)) ∧ wq.cell? ⟨g, 3, none⟩ = some (.int .i64 y.a) ∧ wq.cell? ⟨g, 4, none⟩ = some (.int .i64 y.d) ∧ wq.cell? ⟨g, 5, none⟩ = some (.string y.s)) (first | with_reducible exact hS0 | (refine HSE.out _ ?_; repeat (first | with_reducible exact HR.out | with_reducible refine R6.past ?_ (by first | exact hg0 | exact hg1) | with_reducible refine R6.drew ?_))) (fail)
            all_goals go_wp2_with fail
            all_goals refine bodyPost_ret (v := .tuple #[.agg #[.int .i64 X.a, .int .i64 X.d, .string X.s], .agg #[.int .i64 Y.a, .int .i64 Y.d, .string Y.s]]) (by rw [HXE.out.1, HXE.out.2]; simp [results, Try.results5, go_sem, r0, r1, r2, q0, q1, q2]) rfl ?_
            all_goals exact ⟨rfl, by first | exact (((((((HB.out.setCell (by simp) _).setCell (by simp) _).setCell (by simp) _).setCell (by simp) _).setCell (by simp) _).setCell (by simp) _).drew) | exact ((((((HB.out.setCell (by simp) _).setCell (by simp) _).setCell (by simp) _).setCell (by simp) _).setCell (by simp) _).setCell (by simp) _)⟩
          · rw [if_neg (by decide), if_pos rfl] at HM
            have HC4 := (show Hid _ from HP.out 3 s3 (w4.alloc (.cells #[.int .i64 (-1), .int .i64 4000, .int .i64 4001] 3)) (by omega) (HD4.out.still (bel_alloc _ _)))
            have hul := HLT.out 3 s3 (by omega)
            unfold PkA at HC4
            generalize cPick cs 3 s3 = p4 at *
            obtain ⟨u, s4⟩ := p4
            simp only at HC4 hul HM
            have HN4 := (show Hid _ from cell_num w4 u hul)
            have HGZ := (show Hid _ from HD4.out.sz)
            have HR6 := (show Hid (R6 (w4.alloc (.cells #[.int .i64 (-1), .int .i64 4000, .int .i64 4001] 3)) g x y) from HR5.out.keep ((bel_alloc _ _).block g HR5.out.lt))
            have HBX6 := (show Hid (Box (w4.alloc (.cells #[.int .i64 (-1), .int .i64 4000, .int .i64 4001] 3)) q3 25 (edC x.a x.d x.s)) from HBX5.out.still (bel_alloc _ _))
            clear HD4 HR5 HBX5
            go_wp2_with fail
            refine Calls.mono HC4.out ?_
            rintro e w5 ⟨rfl, hd5, ho5, hz5'⟩
            have n5 : w5.cell? ⟨w4.heap.size, u, none⟩ = some (.int .i64 (numE u)) := cell_out HN4.out ho5 HGZ.out
            generalize numE u = nu at *
            have HR7 := (show Hid (R6 w5 g x y) from HR6.out.keep (ho5.2.2.2.2 g HR6.out.lt (.inr HGL.out)))
            have hb7 : Box w5 q3 25 (edC x.a x.d x.s) := HBX6.out.keep (ho5.2.2.2.2 _ HBX6.out.lt (.inr HZ3.out))
            have HD7 := (show Hid _ from hd5)
            clear hd5 ho5 hz5' HR6 HBX6 HN4 HC4
            have e0 : w5.cell? ⟨q3, 0, none⟩ = some (.int .i64 x.a) := hb7.cell 0 (by simp)
            have e1 : w5.cell? ⟨q3, 1, none⟩ = some (.int .i64 x.d) := hb7.cell 1 (by simp)
            have e2 : w5.cell? ⟨q3, 2, none⟩ = some (.string x.s) := hb7.cell 2 (by simp)
            have ef0 := hb7.frozen 0
            have ef1 := hb7.frozen 1
            have ef2 := hb7.frozen 2
            have hb8 : Box (w5.setCell ⟨q3, 1, none⟩ (.int .i64 nu)) q3 25 [.int .i64 x.a, .int .i64 nu, .string x.s] := hb7.set 1 (.int .i64 nu)
            have HR8 := (show Hid (R6 (w5.setCell ⟨q3, 1, none⟩ (.int .i64 nu)) g x y) from HR7.out.keep (blk_setCell_other _ _ _ _ (by show g ≠ q3; have := HGG.out; omega)))
            have HD8 := (show Hid (DS w cs a cap b off s4 (w5.setCell ⟨q3, 1, none⟩ (.int .i64 nu))) from HD7.out.low ((Below.refl _ _).setCell (p := ⟨q3, 1, none⟩) (by show _ ≤ q3; exact HZ3.out) _))
            clear HR7 HD7 hb7
            have d0 : (w5.setCell ⟨q3, 1, none⟩ (.int .i64 nu)).cell? ⟨q3, 0, none⟩ = some (.int .i64 x.a) := hb8.cell 0 (by simp)
            have d1 : (w5.setCell ⟨q3, 1, none⟩ (.int .i64 nu)).cell? ⟨q3, 1, none⟩ = some (.int .i64 nu) := hb8.cell 1 (by simp)
            have d2 : (w5.setCell ⟨q3, 1, none⟩ (.int .i64 nu)).cell? ⟨q3, 2, none⟩ = some (.string x.s) := hb8.cell 2 (by simp)
            obtain ⟨⟨x0, x1, x2⟩, y0, y1, y2⟩ := HR8.out.cells
            have gf0 := HR8.out.frozen 0
            have gf1 := HR8.out.frozen 1
            have gf2 := HR8.out.frozen 2
            have HR := (show Hid (R6 ((((w5.setCell ⟨q3, 1, none⟩ (.int .i64 nu)).setCell ⟨g, 0, none⟩ (.int .i64 x.a)).setCell ⟨g, 1, none⟩ (.int .i64 nu)).setCell ⟨g, 2, none⟩ (.string x.s)) g (Ed3.mk x.a nu x.s) y) from HR8.out.set0 (e := ⟨x.a, nu, x.s⟩))
            have HD := (show Hid (DS w cs a cap b off s4 ((((w5.setCell ⟨q3, 1, none⟩ (.int .i64 nu)).setCell ⟨g, 0, none⟩ (.int .i64 x.a)).setCell ⟨g, 1, none⟩ (.int .i64 nu)).setCell ⟨g, 2, none⟩ (.string x.s))) from HD8.out.low ((((Below.refl _ _).setCell (p := ⟨g, 0, none⟩) (by show _ ≤ g; exact HGL.out) _).setCell (p := ⟨g, 1, none⟩) (by show _ ≤ g; exact HGL.out) _).setCell (p := ⟨g, 2, none⟩) (by show _ ≤ g; exact HGL.out) _))
            have HXE := (show Hid (X = (Ed3.mk x.a nu x.s) ∧ Y = y) from (by have h := HXE0.out; rw [HM.out] at h; exact h))
            clear HR8 HD8 hb8 HM HXE0
            go_wp2_with fail
            obtain ⟨w9, hw9⟩ : ∃ w9, w9 = ((((w5.setCell ⟨q3, 1, none⟩ (.int .i64 nu)).setCell ⟨g, 0, none⟩ (.int .i64 x.a)).setCell ⟨g, 1, none⟩ (.int .i64 nu)).setCell ⟨g, 2, none⟩ (.string x.s)) := ⟨_, rfl⟩
            rw [← hw9] at HR HD
            rw [← hw9]
            clear hw9 d0 d1 d2 e0 e1 e2 ef0 ef1 ef2 x0 x1 x2 y0 y1 y2 gf0 gf1 gf2
            obtain ⟨⟨x0, x1, x2⟩, y0, y1, y2⟩ := HR.out.cells
            have HSE := (show Hid (∀ wq, R6 wq g (Ed3.mk x.a nu x.s) y → (wq.cell? ⟨g, 0, none⟩ = some (.int .i64 x.a) ∧ wq.cell? ⟨g, 1, none⟩ = some (.int .i64 nu) ∧ wq.cell? ⟨g, 2, none⟩ = some (.string x.s)) ∧ wq.cell? ⟨g, 3, none⟩ = some (.int .i64 y.a) ∧ wq.cell? ⟨g, 4, none⟩ = some (.int .i64 y.d) ∧ wq.cell? ⟨g, 5, none⟩ = some (.string y.s)) from fun wq h => h.cells)
            have hbd := (Below.refl w9.heap.size w9).drew
            have hS0 := HSE.out _ (HR.out.keep (hbd.block g HR.out.lt))
            have r0 : w9.cell? ⟨w.heap.size, 0, none⟩ = some (.int .i64 0) := HD.out.r0.cell 0 (by simp)
            have q0 : w9.cell? ⟨w.heap.size + 1, 0, none⟩ = some (.int .i64 0) := HD.out.r1.cell 0 (by simp)
            have rf0 := HD.out.r0.frozen 0
            have qf0 := HD.out.r1.frozen 0
            have r1 : w9.cell? ⟨w.heap.size, 1, none⟩ = some (.int .i64 0) := HD.out.r0.cell 1 (by simp)
            have q1 : w9.cell? ⟨w.heap.size + 1, 1, none⟩ = some (.int .i64 0) := HD.out.r1.cell 1 (by simp)
            have rf1 := HD.out.r0.frozen 1
            have qf1 := HD.out.r1.frozen 1
            have r2 : w9.cell? ⟨w.heap.size, 2, none⟩ = some (.string ⟨#[]⟩) := HD.out.r0.cell 2 (by simp)
            have q2 : w9.cell? ⟨w.heap.size + 1, 2, none⟩ = some (.string ⟨#[]⟩) := HD.out.r1.cell 2 (by simp)
            have rf2 := HD.out.r0.frozen 2
            have qf2 := HD.out.r1.frozen 2
            have HB := (show Hid _ from HD.out.bel)
            go_region_held3 (fun wq => (wq.cell? ⟨g, 0, none⟩ = some (.int .i64 x.a) ∧ wq.cell? ⟨g, 1, none⟩ = some (.int .i64 nu) ∧ wq.cell? ⟨g, 2, none⟩ = some (.string x.s)) ∧ wq.cell? ⟨g, 3, none⟩ = some (.int .i64 y.a) ∧ wq.cell? ⟨g, 4, none⟩ = some (.int .i64 y.d) ∧ wq.cell? ⟨g, 5, none⟩ = some (.string y.s)) (first | with_reducible exact hS0 | (refine HSE.out _ ?_; repeat (first | with_reducible exact HR.out | with_reducible refine R6.past ?_ (by first | exact hg0 | exact hg1) | with_reducible refine R6.drew ?_))) (fail)
            all_goals go_wp2_with fail
            all_goals refine bodyPost_ret (v := .tuple #[.agg #[.int .i64 X.a, .int .i64 X.d, .string X.s], .agg #[.int .i64 Y.a, .int .i64 Y.d, .string Y.s]]) (by rw [HXE.out.1, HXE.out.2]; simp [results, Try.results5, go_sem, r0, r1, r2, q0, q1, q2]) rfl ?_
            all_goals exact ⟨rfl, by first | exact (((((((HB.out.setCell (by simp) _).setCell (by simp) _).setCell (by simp) _).setCell (by simp) _).setCell (by simp) _).setCell (by simp) _).drew) | exact ((((((HB.out.setCell (by simp) _).setCell (by simp) _).setCell (by simp) _).setCell (by simp) _).setCell (by simp) _).setCell (by simp) _)⟩
          · rw [if_neg (by decide), if_neg (by decide)] at HM
            have HC4 := (show Hid _ from HP.out 2 s3 w4 (by omega) HD4.out)
            have hul := HLT.out 2 s3 (by omega)
            unfold PkA at HC4
            generalize cPick cs 2 s3 = p4 at *
            obtain ⟨u, s4⟩ := p4
            simp only at HC4 hul HM
            have kw : IntKind.i64.wrap (4000 + (u : Int)) = ((4000 + u : Nat) : Int) := by rw [IntKind.wrap_i64]; omega
            have hmk := fun w' => run_makeZ (4000 + u) (by omega) w'
            have hcv := fun w' => run_convZ (4000 + u) w'
            go_wp2_with fail
            refine Calls.mono HC4.out ?_
            rintro e w5 ⟨rfl, hd5, ho5, hz5'⟩
            have HR7 := (show Hid (R6 (w5.alloc (.cells (madeCells #[.int .u8 0] (4000 + u)) 5)) g x y) from (HR5.out.keep (ho5.2.2.2.2 g HR5.out.lt (.inr HGL.out))).keep ((bel_alloc _ _).block g (by have := HR5.out.lt; rw [hz5']; exact this)))
            have hb7 : Box (w5.alloc (.cells (madeCells #[.int .u8 0] (4000 + u)) 5)) q3 25 (edC x.a x.d x.s) := (HBX5.out.keep (ho5.2.2.2.2 _ HBX5.out.lt (.inr HZ3.out))).still (bel_alloc _ _)
            have HD7 := (show Hid _ from hd5.still (bel_alloc w5 (.cells (madeCells #[.int .u8 0] (4000 + u)) 5)))
            have hcv5 := hcv w5
            have hmk5 := hmk w5
            clear hmk hcv
            generalize 4000 + u = nz at *
            generalize hW6 : w5.alloc (.cells (madeCells #[.int .u8 0] nz) 5) = w6 at *
            clear hd5 ho5 hz5' HR5 HBX5 HC4 hW6 HD4
            have e0 : w6.cell? ⟨q3, 0, none⟩ = some (.int .i64 x.a) := hb7.cell 0 (by simp)
            have e1 : w6.cell? ⟨q3, 1, none⟩ = some (.int .i64 x.d) := hb7.cell 1 (by simp)
            have e2 : w6.cell? ⟨q3, 2, none⟩ = some (.string x.s) := hb7.cell 2 (by simp)
            have ef0 := hb7.frozen 0
            have ef1 := hb7.frozen 1
            have ef2 := hb7.frozen 2
            have hb8 : Box (w6.setCell ⟨q3, 2, none⟩ (.string (zrs nz))) q3 25 [.int .i64 x.a, .int .i64 x.d, .string (zrs nz)] := hb7.set 2 (.string (zrs nz))
            have HR8 := (show Hid (R6 (w6.setCell ⟨q3, 2, none⟩ (.string (zrs nz))) g x y) from HR7.out.keep (blk_setCell_other _ _ _ _ (by show g ≠ q3; have := HGG.out; omega)))
            have HD8 := (show Hid (DS w cs a cap b off s4 (w6.setCell ⟨q3, 2, none⟩ (.string (zrs nz)))) from HD7.out.low ((Below.refl _ _).setCell (p := ⟨q3, 2, none⟩) (by show _ ≤ q3; exact HZ3.out) _))
            clear HR7 HD7 hb7
            have d0 : (w6.setCell ⟨q3, 2, none⟩ (.string (zrs nz))).cell? ⟨q3, 0, none⟩ = some (.int .i64 x.a) := hb8.cell 0 (by simp)
            have d1 : (w6.setCell ⟨q3, 2, none⟩ (.string (zrs nz))).cell? ⟨q3, 1, none⟩ = some (.int .i64 x.d) := hb8.cell 1 (by simp)
            have d2 : (w6.setCell ⟨q3, 2, none⟩ (.string (zrs nz))).cell? ⟨q3, 2, none⟩ = some (.string (zrs nz)) := hb8.cell 2 (by simp)
            obtain ⟨⟨x0, x1, x2⟩, y0, y1, y2⟩ := HR8.out.cells
            have gf0 := HR8.out.frozen 0
            have gf1 := HR8.out.frozen 1
            have gf2 := HR8.out.frozen 2
            have HR := (show Hid (R6 ((((w6.setCell ⟨q3, 2, none⟩ (.string (zrs nz))).setCell ⟨g, 0, none⟩ (.int .i64 x.a)).setCell ⟨g, 1, none⟩ (.int .i64 x.d)).setCell ⟨g, 2, none⟩ (.string (zrs nz))) g (Ed3.mk x.a x.d (zrs nz)) y) from HR8.out.set0 (e := ⟨x.a, x.d, (zrs nz)⟩))
            have HD := (show Hid (DS w cs a cap b off s4 ((((w6.setCell ⟨q3, 2, none⟩ (.string (zrs nz))).setCell ⟨g, 0, none⟩ (.int .i64 x.a)).setCell ⟨g, 1, none⟩ (.int .i64 x.d)).setCell ⟨g, 2, none⟩ (.string (zrs nz)))) from HD8.out.low ((((Below.refl _ _).setCell (p := ⟨g, 0, none⟩) (by show _ ≤ g; exact HGL.out) _).setCell (p := ⟨g, 1, none⟩) (by show _ ≤ g; exact HGL.out) _).setCell (p := ⟨g, 2, none⟩) (by show _ ≤ g; exact HGL.out) _))
            have HXE := (show Hid (X = (Ed3.mk x.a x.d (zrs nz)) ∧ Y = y) from (by have h := HXE0.out; rw [HM.out] at h; exact h))
            clear HR8 HD8 hb8 HM HXE0
            go_wp2_with fail
            obtain ⟨w9, hw9⟩ : ∃ w9, w9 = ((((w6.setCell ⟨q3, 2, none⟩ (.string (zrs nz))).setCell ⟨g, 0, none⟩ (.int .i64 x.a)).setCell ⟨g, 1, none⟩ (.int .i64 x.d)).setCell ⟨g, 2, none⟩ (.string (zrs nz))) := ⟨_, rfl⟩
            rw [← hw9] at HR HD
            rw [← hw9]
            clear hw9 d0 d1 d2 e0 e1 e2 ef0 ef1 ef2 x0 x1 x2 y0 y1 y2 gf0 gf1 gf2
            obtain ⟨⟨x0, x1, x2⟩, y0, y1, y2⟩ := HR.out.cells
            have HSE := (show Hid (∀ wq, R6 wq g (Ed3.mk x.a x.d (zrs nz)) y → (wq.cell? ⟨g, 0, none⟩ = some (.int .i64 x.a) ∧ wq.cell? ⟨g, 1, none⟩ = some (.int .i64 x.d) ∧ wq.cell? ⟨g, 2, none⟩ = some (.string (zrs nz))) ∧ wq.cell? ⟨g, 3, none⟩ = some (.int .i64 y.a) ∧ wq.cell? ⟨g, 4, none⟩ = some (.int .i64 y.d) ∧ wq.cell? ⟨g, 5, none⟩ = some (.string y.s)) from fun wq h => h.cells)
            have hbd := (Below.refl w9.heap.size w9).drew
            have hS0 := HSE.out _ (HR.out.keep (hbd.block g HR.out.lt))
            have r0 : w9.cell? ⟨w.heap.size, 0, none⟩ = some (.int .i64 0) := HD.out.r0.cell 0 (by simp)
            have q0 : w9.cell? ⟨w.heap.size + 1, 0, none⟩ = some (.int .i64 0) := HD.out.r1.cell 0 (by simp)
            have rf0 := HD.out.r0.frozen 0
            have qf0 := HD.out.r1.frozen 0
            have r1 : w9.cell? ⟨w.heap.size, 1, none⟩ = some (.int .i64 0) := HD.out.r0.cell 1 (by simp)
            have q1 : w9.cell? ⟨w.heap.size + 1, 1, none⟩ = some (.int .i64 0) := HD.out.r1.cell 1 (by simp)
            have rf1 := HD.out.r0.frozen 1
            have qf1 := HD.out.r1.frozen 1
            have r2 : w9.cell? ⟨w.heap.size, 2, none⟩ = some (.string ⟨#[]⟩) := HD.out.r0.cell 2 (by simp)
            have q2 : w9.cell? ⟨w.heap.size + 1, 2, none⟩ = some (.string ⟨#[]⟩) := HD.out.r1.cell 2 (by simp)
            have rf2 := HD.out.r0.frozen 2
            have qf2 := HD.out.r1.frozen 2
            have HB := (show Hid _ from HD.out.bel)
            go_region_held3 (fun wq => (wq.cell? ⟨g, 0, none⟩ = some (.int .i64 x.a) ∧ wq.cell? ⟨g, 1, none⟩ = some (.int .i64 x.d) ∧ wq.cell? ⟨g, 2, none⟩ = some (.string (zrs nz))) ∧ wq.cell? ⟨g, 3, none⟩ = some (.int .i64 y.a) ∧ wq.cell? ⟨g, 4, none⟩ = some (.int .i64 y.d) ∧ wq.cell? ⟨g, 5, none⟩ = some (.string y.s)) (first | with_reducible exact hS0 | (refine HSE.out _ ?_; repeat (first | with_reducible exact HR.out | with_reducible refine R6.past ?_ (by first | exact hg0 | exact hg1) | with_reducible refine R6.drew ?_))) (fail)
            all_goals go_wp2_with fail
            all_goals refine bodyPost_ret (v := .tuple #[.agg #[.int .i64 X.a, .int .i64 X.d, .string X.s], .agg #[.int .i64 Y.a, .int .i64 Y.d, .string Y.s]]) (by rw [HXE.out.1, HXE.out.2]; simp [results, Try.results5, go_sem, r0, r1, r2, q0, q1, q2]) rfl ?_
            all_goals exact ⟨rfl, by first | exact (((((((HB.out.setCell (by simp) _).setCell (by simp) _).setCell (by simp) _).setCell (by simp) _).setCell (by simp) _).setCell (by simp) _).drew) | exact ((((((HB.out.setCell (by simp) _).setCell (by simp) _).setCell (by simp) _).setCell (by simp) _).setCell (by simp) _).setCell (by simp) _)⟩
        · rw [if_neg (by decide)] at HT
          obtain ⟨M, hM⟩ : ∃ M, M = cMod cs s2 y := ⟨_, rfl⟩
          rw [← hM] at HT
          unfold cMod at hM
          have HM := (show Hid _ from hM); clear hM
          have HXE0 := (show Hid (X = x ∧ Y = M) from (by have h := HT.out; exact Prod.mk.injEq _ _ _ _ ▸ h))
          clear HT
          obtain ⟨⟨x0, x1, x2⟩, y0, y1, y2⟩ := HR3.out.cells
          have HC3 := (show Hid _ from HP.out 3 s2 (w3.alloc (.cells #[.int .i64 y.a, .int .i64 y.d, .string y.s] 25)) (by omega) (HD3.out.still (bel_alloc _ _)))
          have hvl := HLT.out 3 s2 (by omega)
          unfold PkA at HC3
          generalize cPick cs 3 s2 = p3 at *
          obtain ⟨v, s3⟩ := p3
          simp only at HC3 hvl HM
          have HR4 := (show Hid (R6 (w3.alloc (.cells #[.int .i64 y.a, .int .i64 y.d, .string y.s] 25)) g x y) from HR3.out.keep ((bel_alloc _ _).block g HR3.out.lt))
          have HBX := (show Hid _ from Box.new w3 25 (edC y.a y.d y.s))
          have HZ3 := (show Hid _ from HD3.out.sz)
          have HGG := (show Hid (g < w3.heap.size) from HR3.out.lt)
          clear HD3 HR3
          go_wp2_with fail
          refine Calls.mono HC3.out ?_
          rintro e w4 ⟨rfl, hd4, ho4, hz4'⟩
          have HR5 := (show Hid (R6 w4 g x y) from HR4.out.keep (ho4.2.2.2.2 g HR4.out.lt (.inr HGL.out)))
          have HBX5 := (show Hid (Box w4 w3.heap.size 25 (edC y.a y.d y.s)) from HBX.out.keep (ho4.2.2.2.2 _ HBX.out.lt (.inr HZ3.out)))
          have HD4 := (show Hid _ from hd4)
          have HEQ := (show Hid (w4.heap.size = w3.heap.size + 1) from (by show _ = _; rw [hz4']; simp))
          clear hd4 ho4 hz4' HR4 HBX HC3 x0 x1 x2 y0 y1 y2
          generalize hq3 : w3.heap.size = q3 at *
          have hv3 : v = 0 ∨ v = 1 ∨ v = 2 := by omega
          clear hvl hq3
          rcases hv3 with rfl | rfl | rfl
          · rw [if_pos rfl] at HM
            have HC4 := (show Hid _ from HP.out 3 s3 (w4.alloc (.cells #[.int .i64 (-1), .int .i64 4000, .int .i64 4001] 3)) (by omega) (HD4.out.still (bel_alloc _ _)))
            have hul := HLT.out 3 s3 (by omega)
            unfold PkA at HC4
            generalize cPick cs 3 s3 = p4 at *
            obtain ⟨u, s4⟩ := p4
            simp only at HC4 hul HM
            have HN4 := (show Hid _ from cell_num w4 u hul)
            have HGZ := (show Hid _ from HD4.out.sz)
            have HR6 := (show Hid (R6 (w4.alloc (.cells #[.int .i64 (-1), .int .i64 4000, .int .i64 4001] 3)) g x y) from HR5.out.keep ((bel_alloc _ _).block g HR5.out.lt))
            have HBX6 := (show Hid (Box (w4.alloc (.cells #[.int .i64 (-1), .int .i64 4000, .int .i64 4001] 3)) q3 25 (edC y.a y.d y.s)) from HBX5.out.still (bel_alloc _ _))
            clear HD4 HR5 HBX5
            go_wp2_with fail
            refine Calls.mono HC4.out ?_
            rintro e w5 ⟨rfl, hd5, ho5, hz5'⟩
            have n5 : w5.cell? ⟨w4.heap.size, u, none⟩ = some (.int .i64 (numE u)) := cell_out HN4.out ho5 HGZ.out
            generalize numE u = nu at *
            have HR7 := (show Hid (R6 w5 g x y) from HR6.out.keep (ho5.2.2.2.2 g HR6.out.lt (.inr HGL.out)))
            have hb7 : Box w5 q3 25 (edC y.a y.d y.s) := HBX6.out.keep (ho5.2.2.2.2 _ HBX6.out.lt (.inr HZ3.out))
            have HD7 := (show Hid _ from hd5)
            clear hd5 ho5 hz5' HR6 HBX6 HN4 HC4
            have e0 : w5.cell? ⟨q3, 0, none⟩ = some (.int .i64 y.a) := hb7.cell 0 (by simp)
            have e1 : w5.cell? ⟨q3, 1, none⟩ = some (.int .i64 y.d) := hb7.cell 1 (by simp)
            have e2 : w5.cell? ⟨q3, 2, none⟩ = some (.string y.s) := hb7.cell 2 (by simp)
            have ef0 := hb7.frozen 0
            have ef1 := hb7.frozen 1
            have ef2 := hb7.frozen 2
            have hb8 : Box (w5.setCell ⟨q3, 0, none⟩ (.int .i64 nu)) q3 25 [.int .i64 nu, .int .i64 y.d, .string y.s] := hb7.set 0 (.int .i64 nu)
            have HR8 := (show Hid (R6 (w5.setCell ⟨q3, 0, none⟩ (.int .i64 nu)) g x y) from HR7.out.keep (blk_setCell_other _ _ _ _ (by show g ≠ q3; have := HGG.out; omega)))
            have HD8 := (show Hid (DS w cs a cap b off s4 (w5.setCell ⟨q3, 0, none⟩ (.int .i64 nu))) from HD7.out.low ((Below.refl _ _).setCell (p := ⟨q3, 0, none⟩) (by show _ ≤ q3; exact HZ3.out) _))
            clear HR7 HD7 hb7
            have d0 : (w5.setCell ⟨q3, 0, none⟩ (.int .i64 nu)).cell? ⟨q3, 0, none⟩ = some (.int .i64 nu) := hb8.cell 0 (by simp)
            have d1 : (w5.setCell ⟨q3, 0, none⟩ (.int .i64 nu)).cell? ⟨q3, 1, none⟩ = some (.int .i64 y.d) := hb8.cell 1 (by simp)
            have d2 : (w5.setCell ⟨q3, 0, none⟩ (.int .i64 nu)).cell? ⟨q3, 2, none⟩ = some (.string y.s) := hb8.cell 2 (by simp)
            obtain ⟨⟨x0, x1, x2⟩, y0, y1, y2⟩ := HR8.out.cells
            have gf3 := HR8.out.frozen 3
            have gf4 := HR8.out.frozen 4
            have gf5 := HR8.out.frozen 5
            have HR := (show Hid (R6 ((((w5.setCell ⟨q3, 0, none⟩ (.int .i64 nu)).setCell ⟨g, 3, none⟩ (.int .i64 nu)).setCell ⟨g, 4, none⟩ (.int .i64 y.d)).setCell ⟨g, 5, none⟩ (.string y.s)) g x (Ed3.mk nu y.d y.s)) from HR8.out.set1 (e := ⟨nu, y.d, y.s⟩))
            have HD := (show Hid (DS w cs a cap b off s4 ((((w5.setCell ⟨q3, 0, none⟩ (.int .i64 nu)).setCell ⟨g, 3, none⟩ (.int .i64 nu)).setCell ⟨g, 4, none⟩ (.int .i64 y.d)).setCell ⟨g, 5, none⟩ (.string y.s))) from HD8.out.low ((((Below.refl _ _).setCell (p := ⟨g, 3, none⟩) (by show _ ≤ g; exact HGL.out) _).setCell (p := ⟨g, 4, none⟩) (by show _ ≤ g; exact HGL.out) _).setCell (p := ⟨g, 5, none⟩) (by show _ ≤ g; exact HGL.out) _))
            have HXE := (show Hid (X = x ∧ Y = (Ed3.mk nu y.d y.s)) from (by have h := HXE0.out; rw [HM.out] at h; exact h))
            clear HR8 HD8 hb8 HM HXE0
            go_wp2_with fail
            obtain ⟨w9, hw9⟩ : ∃ w9, w9 = ((((w5.setCell ⟨q3, 0, none⟩ (.int .i64 nu)).setCell ⟨g, 3, none⟩ (.int .i64 nu)).setCell ⟨g, 4, none⟩ (.int .i64 y.d)).setCell ⟨g, 5, none⟩ (.string y.s)) := ⟨_, rfl⟩
            rw [← hw9] at HR HD
            rw [← hw9]
            clear hw9 d0 d1 d2 e0 e1 e2 ef0 ef1 ef2 x0 x1 x2 y0 y1 y2 gf3 gf4 gf5
            obtain ⟨⟨x0, x1, x2⟩, y0, y1, y2⟩ := HR.out.cells
            have HSE := (show Hid (∀ wq, R6 wq g x (Ed3.mk nu y.d y.s) → (wq.cell? ⟨g, 0, none⟩ = some (.int .i64 x.a) ∧ wq.cell? ⟨g, 1, none⟩ = some (.int .i64 x.d) ∧ wq.cell? ⟨g, 2, none⟩ = some (.string x.s)) ∧ wq.cell? ⟨g, 3, none⟩ = some (.int .i64 nu) ∧ wq.cell? ⟨g, 4, none⟩ = some (.int .i64 y.d) ∧ wq.cell? ⟨g, 5, none⟩ = some (.string y.s)) from fun wq h => h.cells)
            have hbd := (Below.refl w9.heap.size w9).drew
            have hS0 := HSE.out _ (HR.out.keep (hbd.block g HR.out.lt))
            have r0 : w9.cell? ⟨w.heap.size, 0, none⟩ = some (.int .i64 0) := HD.out.r0.cell 0 (by simp)
            have q0 : w9.cell? ⟨w.heap.size + 1, 0, none⟩ = some (.int .i64 0) := HD.out.r1.cell 0 (by simp)
            have rf0 := HD.out.r0.frozen 0
            have qf0 := HD.out.r1.frozen 0
            have r1 : w9.cell? ⟨w.heap.size, 1, none⟩ = some (.int .i64 0) := HD.out.r0.cell 1 (by simp)
            have q1 : w9.cell? ⟨w.heap.size + 1, 1, none⟩ = some (.int .i64 0) := HD.out.r1.cell 1 (by simp)
            have rf1 := HD.out.r0.frozen 1
            have qf1 := HD.out.r1.frozen 1
            have r2 : w9.cell? ⟨w.heap.size, 2, none⟩ = some (.string ⟨#[]⟩) := HD.out.r0.cell 2 (by simp)
            have q2 : w9.cell? ⟨w.heap.size + 1, 2, none⟩ = some (.string ⟨#[]⟩) := HD.out.r1.cell 2 (by simp)
            have rf2 := HD.out.r0.frozen 2
            have qf2 := HD.out.r1.frozen 2
            have HB := (show Hid _ from HD.out.bel)
            go_region_held3 (fun wq => (wq.cell? ⟨g, 0, none⟩ = some (.int .i64 x.a) ∧ wq.cell? ⟨g, 1, none⟩ = some (.int .i64 x.d) ∧ wq.cell? ⟨g, 2, none⟩ = some (.string x.s)) ∧ wq.cell? ⟨g, 3, none⟩ = some (.int .i64 nu) ∧ wq.cell? ⟨g, 4, none⟩ = some (.int .i64 y.d) ∧ wq.cell? ⟨g, 5, none⟩ = some (.string y.s)) (first | with_reducible exact hS0 | (refine HSE.out _ ?_; repeat (first | with_reducible exact HR.out | with_reducible refine R6.past ?_ (by first | exact hg0 | exact hg1) | with_reducible refine R6.drew ?_))) (fail)
            all_goals go_wp2_with fail
            all_goals refine bodyPost_ret (v := .tuple #[.agg #[.int .i64 X.a, .int .i64 X.d, .string X.s], .agg #[.int .i64 Y.a, .int .i64 Y.d, .string Y.s]]) (by rw [HXE.out.1, HXE.out.2]; simp [results, Try.results5, go_sem, r0, r1, r2, q0, q1, q2]) rfl ?_
            all_goals exact ⟨rfl, by first | exact (((((((HB.out.setCell (by simp) _).setCell (by simp) _).setCell (by simp) _).setCell (by simp) _).setCell (by simp) _).setCell (by simp) _).drew) | exact ((((((HB.out.setCell (by simp) _).setCell (by simp) _).setCell (by simp) _).setCell (by simp) _).setCell (by simp) _).setCell (by simp) _)⟩
          · rw [if_neg (by decide), if_pos rfl] at HM
            have HC4 := (show Hid _ from HP.out 3 s3 (w4.alloc (.cells #[.int .i64 (-1), .int .i64 4000, .int .i64 4001] 3)) (by omega) (HD4.out.still (bel_alloc _ _)))
            have hul := HLT.out 3 s3 (by omega)
            unfold PkA at HC4
            generalize cPick cs 3 s3 = p4 at *
            obtain ⟨u, s4⟩ := p4
            simp only at HC4 hul HM
            have HN4 := (show Hid _ from cell_num w4 u hul)
            have HGZ := (show Hid _ from HD4.out.sz)
            have HR6 := (show Hid (R6 (w4.alloc (.cells #[.int .i64 (-1), .int .i64 4000, .int .i64 4001] 3)) g x y) from HR5.out.keep ((bel_alloc _ _).block g HR5.out.lt))
            have HBX6 := (show Hid (Box (w4.alloc (.cells #[.int .i64 (-1), .int .i64 4000, .int .i64 4001] 3)) q3 25 (edC y.a y.d y.s)) from HBX5.out.still (bel_alloc _ _))
            clear HD4 HR5 HBX5
            go_wp2_with fail
            refine Calls.mono HC4.out ?_
            rintro e w5 ⟨rfl, hd5, ho5, hz5'⟩
            have n5 : w5.cell? ⟨w4.heap.size, u, none⟩ = some (.int .i64 (numE u)) := cell_out HN4.out ho5 HGZ.out
            generalize numE u = nu at *
            have HR7 := (show Hid (R6 w5 g x y) from HR6.out.keep (ho5.2.2.2.2 g HR6.out.lt (.inr HGL.out)))
            have hb7 : Box w5 q3 25 (edC y.a y.d y.s) := HBX6.out.keep (ho5.2.2.2.2 _ HBX6.out.lt (.inr HZ3.out))
            have HD7 := (show Hid _ from hd5)
            clear hd5 ho5 hz5' HR6 HBX6 HN4 HC4
            have e0 : w5.cell? ⟨q3, 0, none⟩ = some (.int .i64 y.a) := hb7.cell 0 (by simp)
            have e1 : w5.cell? ⟨q3, 1, none⟩ = some (.int .i64 y.d) := hb7.cell 1 (by simp)
            have e2 : w5.cell? ⟨q3, 2, none⟩ = some (.string y.s) := hb7.cell 2 (by simp)
            have ef0 := hb7.frozen 0
            have ef1 := hb7.frozen 1
            have ef2 := hb7.frozen 2
            have hb8 : Box (w5.setCell ⟨q3, 1, none⟩ (.int .i64 nu)) q3 25 [.int .i64 y.a, .int .i64 nu, .string y.s] := hb7.set 1 (.int .i64 nu)
            have HR8 := (show Hid (R6 (w5.setCell ⟨q3, 1, none⟩ (.int .i64 nu)) g x y) from HR7.out.keep (blk_setCell_other _ _ _ _ (by show g ≠ q3; have := HGG.out; omega)))
            have HD8 := (show Hid (DS w cs a cap b off s4 (w5.setCell ⟨q3, 1, none⟩ (.int .i64 nu))) from HD7.out.low ((Below.refl _ _).setCell (p := ⟨q3, 1, none⟩) (by show _ ≤ q3; exact HZ3.out) _))
            clear HR7 HD7 hb7
            have d0 : (w5.setCell ⟨q3, 1, none⟩ (.int .i64 nu)).cell? ⟨q3, 0, none⟩ = some (.int .i64 y.a) := hb8.cell 0 (by simp)
            have d1 : (w5.setCell ⟨q3, 1, none⟩ (.int .i64 nu)).cell? ⟨q3, 1, none⟩ = some (.int .i64 nu) := hb8.cell 1 (by simp)
            have d2 : (w5.setCell ⟨q3, 1, none⟩ (.int .i64 nu)).cell? ⟨q3, 2, none⟩ = some (.string y.s) := hb8.cell 2 (by simp)
            obtain ⟨⟨x0, x1, x2⟩, y0, y1, y2⟩ := HR8.out.cells
            have gf3 := HR8.out.frozen 3
            have gf4 := HR8.out.frozen 4
            have gf5 := HR8.out.frozen 5
            have HR := (show Hid (R6 ((((w5.setCell ⟨q3, 1, none⟩ (.int .i64 nu)).setCell ⟨g, 3, none⟩ (.int .i64 y.a)).setCell ⟨g, 4, none⟩ (.int .i64 nu)).setCell ⟨g, 5, none⟩ (.string y.s)) g x (Ed3.mk y.a nu y.s)) from HR8.out.set1 (e := ⟨y.a, nu, y.s⟩))
            have HD := (show Hid (DS w cs a cap b off s4 ((((w5.setCell ⟨q3, 1, none⟩ (.int .i64 nu)).setCell ⟨g, 3, none⟩ (.int .i64 y.a)).setCell ⟨g, 4, none⟩ (.int .i64 nu)).setCell ⟨g, 5, none⟩ (.string y.s))) from HD8.out.low ((((Below.refl _ _).setCell (p := ⟨g, 3, none⟩) (by show _ ≤ g; exact HGL.out) _).setCell (p := ⟨g, 4, none⟩) (by show _ ≤ g; exact HGL.out) _).setCell (p := ⟨g, 5, none⟩) (by show _ ≤ g; exact HGL.out) _))
            have HXE := (show Hid (X = x ∧ Y = (Ed3.mk y.a nu y.s)) from (by have h := HXE0.out; rw [HM.out] at h; exact h))
            clear HR8 HD8 hb8 HM HXE0
            go_wp2_with fail
            obtain ⟨w9, hw9⟩ : ∃ w9, w9 = ((((w5.setCell ⟨q3, 1, none⟩ (.int .i64 nu)).setCell ⟨g, 3, none⟩ (.int .i64 y.a)).setCell ⟨g, 4, none⟩ (.int .i64 nu)).setCell ⟨g, 5, none⟩ (.string y.s)) := ⟨_, rfl⟩
            rw [← hw9] at HR HD
            rw [← hw9]
            clear hw9 d0 d1 d2 e0 e1 e2 ef0 ef1 ef2 x0 x1 x2 y0 y1 y2 gf3 gf4 gf5
            obtain ⟨⟨x0, x1, x2⟩, y0, y1, y2⟩ := HR.out.cells
            have HSE := (show Hid (∀ wq, R6 wq g x (Ed3.mk y.a nu y.s) → (wq.cell? ⟨g, 0, none⟩ = some (.int .i64 x.a) ∧ wq.cell? ⟨g, 1, none⟩ = some (.int .i64 x.d) ∧ wq.cell? ⟨g, 2, none⟩ = some (.string x.s)) ∧ wq.cell? ⟨g, 3, none⟩ = some (.int .i64 y.a) ∧ wq.cell? ⟨g, 4, none⟩ = some (.int .i64 nu) ∧ wq.cell? ⟨g, 5, none⟩ = some (.string y.s)) from fun wq h => h.cells)
            have hbd := (Below.refl w9.heap.size w9).drew
            have hS0 := HSE.out _ (HR.out.keep (hbd.block g HR.out.lt))
            have r0 : w9.cell? ⟨w.heap.size, 0, none⟩ = some (.int .i64 0) := HD.out.r0.cell 0 (by simp)
            have q0 : w9.cell? ⟨w.heap.size + 1, 0, none⟩ = some (.int .i64 0) := HD.out.r1.cell 0 (by simp)
            have rf0 := HD.out.r0.frozen 0
            have qf0 := HD.out.r1.frozen 0
            have r1 : w9.cell? ⟨w.heap.size, 1, none⟩ = some (.int .i64 0) := HD.out.r0.cell 1 (by simp)
            have q1 : w9.cell? ⟨w.heap.size + 1, 1, none⟩ = some (.int .i64 0) := HD.out.r1.cell 1 (by simp)
            have rf1 := HD.out.r0.frozen 1
            have qf1 := HD.out.r1.frozen 1
            have r2 : w9.cell? ⟨w.heap.size, 2, none⟩ = some (.string ⟨#[]⟩) := HD.out.r0.cell 2 (by simp)
            have q2 : w9.cell? ⟨w.heap.size + 1, 2, none⟩ = some (.string ⟨#[]⟩) := HD.out.r1.cell 2 (by simp)
            have rf2 := HD.out.r0.frozen 2
            have qf2 := HD.out.r1.frozen 2
            have HB := (show Hid _ from HD.out.bel)
            go_region_held3 (fun wq => (wq.cell? ⟨g, 0, none⟩ = some (.int .i64 x.a) ∧ wq.cell? ⟨g, 1, none⟩ = some (.int .i64 x.d) ∧ wq.cell? ⟨g, 2, none⟩ = some (.string x.s)) ∧ wq.cell? ⟨g, 3, none⟩ = some (.int .i64 y.a) ∧ wq.cell? ⟨g, 4, none⟩ = some (.int .i64 nu) ∧ wq.cell? ⟨g, 5, none⟩ = some (.string y.s)) (first | with_reducible exact hS0 | (refine HSE.out _ ?_; repeat (first | with_reducible exact HR.out | with_reducible refine R6.past ?_ (by first | exact hg0 | exact hg1) | with_reducible refine R6.drew ?_))) (fail)
            all_goals go_wp2_with fail
            all_goals refine bodyPost_ret (v := .tuple #[.agg #[.int .i64 X.a, .int .i64 X.d, .string X.s], .agg #[.int .i64 Y.a, .int .i64 Y.d, .string Y.s]]) (by rw [HXE.out.1, HXE.out.2]; simp [results, Try.results5, go_sem, r0, r1, r2, q0, q1, q2]) rfl ?_
            all_goals exact ⟨rfl, by first | exact (((((((HB.out.setCell (by simp) _).setCell (by simp) _).setCell (by simp) _).setCell (by simp) _).setCell (by simp) _).setCell (by simp) _).drew) | exact ((((((HB.out.setCell (by simp) _).setCell (by simp) _).setCell (by simp) _).setCell (by simp) _).setCell (by simp) _).setCell (by simp) _)⟩
          · rw [if_neg (by decide), if_neg (by decide)] at HM
            have HC4 := (show Hid _ from HP.out 2 s3 w4 (by omega) HD4.out)
            have hul := HLT.out 2 s3 (by omega)
            unfold PkA at HC4
            generalize cPick cs 2 s3 = p4 at *
            obtain ⟨u, s4⟩ := p4
            simp only at HC4 hul HM
            have kw : IntKind.i64.wrap (4000 + (u : Int)) = ((4000 + u : Nat) : Int) := by rw [IntKind.wrap_i64]; omega
            have hmk := fun w' => run_makeZ (4000 + u) (by omega) w'
            have hcv := fun w' => run_convZ (4000 + u) w'
            go_wp2_with fail
            refine Calls.mono HC4.out ?_
            rintro e w5 ⟨rfl, hd5, ho5, hz5'⟩
            have HR7 := (show Hid (R6 (w5.alloc (.cells (madeCells #[.int .u8 0] (4000 + u)) 5)) g x y) from (HR5.out.keep (ho5.2.2.2.2 g HR5.out.lt (.inr HGL.out))).keep ((bel_alloc _ _).block g (by have := HR5.out.lt; rw [hz5']; exact this)))
            have hb7 : Box (w5.alloc (.cells (madeCells #[.int .u8 0] (4000 + u)) 5)) q3 25 (edC y.a y.d y.s) := (HBX5.out.keep (ho5.2.2.2.2 _ HBX5.out.lt (.inr HZ3.out))).still (bel_alloc _ _)
            have HD7 := (show Hid _ from hd5.still (bel_alloc w5 (.cells (madeCells #[.int .u8 0] (4000 + u)) 5)))
            have hcv5 := hcv w5
            have hmk5 := hmk w5
            clear hmk hcv
            generalize 4000 + u = nz at *
            generalize hW6 : w5.alloc (.cells (madeCells #[.int .u8 0] nz) 5) = w6 at *
            clear hd5 ho5 hz5' HR5 HBX5 HC4 hW6 HD4
            have e0 : w6.cell? ⟨q3, 0, none⟩ = some (.int .i64 y.a) := hb7.cell 0 (by simp)
            have e1 : w6.cell? ⟨q3, 1, none⟩ = some (.int .i64 y.d) := hb7.cell 1 (by simp)
            have e2 : w6.cell? ⟨q3, 2, none⟩ = some (.string y.s) := hb7.cell 2 (by simp)
            have ef0 := hb7.frozen 0
            have ef1 := hb7.frozen 1
            have ef2 := hb7.frozen 2
            have hb8 : Box (w6.setCell ⟨q3, 2, none⟩ (.string (zrs nz))) q3 25 [.int .i64 y.a, .int .i64 y.d, .string (zrs nz)] := hb7.set 2 (.string (zrs nz))
            have HR8 := (show Hid (R6 (w6.setCell ⟨q3, 2, none⟩ (.string (zrs nz))) g x y) from HR7.out.keep (blk_setCell_other _ _ _ _ (by show g ≠ q3; have := HGG.out; omega)))
            have HD8 := (show Hid (DS w cs a cap b off s4 (w6.setCell ⟨q3, 2, none⟩ (.string (zrs nz)))) from HD7.out.low ((Below.refl _ _).setCell (p := ⟨q3, 2, none⟩) (by show _ ≤ q3; exact HZ3.out) _))
            clear HR7 HD7 hb7
            have d0 : (w6.setCell ⟨q3, 2, none⟩ (.string (zrs nz))).cell? ⟨q3, 0, none⟩ = some (.int .i64 y.a) := hb8.cell 0 (by simp)
            have d1 : (w6.setCell ⟨q3, 2, none⟩ (.string (zrs nz))).cell? ⟨q3, 1, none⟩ = some (.int .i64 y.d) := hb8.cell 1 (by simp)
            have d2 : (w6.setCell ⟨q3, 2, none⟩ (.string (zrs nz))).cell? ⟨q3, 2, none⟩ = some (.string (zrs nz)) := hb8.cell 2 (by simp)
            obtain ⟨⟨x0, x1, x2⟩, y0, y1, y2⟩ := HR8.out.cells
            have gf3 := HR8.out.frozen 3
            have gf4 := HR8.out.frozen 4
            have gf5 := HR8.out.frozen 5
            have HR := (show Hid (R6 ((((w6.setCell ⟨q3, 2, none⟩ (.string (zrs nz))).setCell ⟨g, 3, none⟩ (.int .i64 y.a)).setCell ⟨g, 4, none⟩ (.int .i64 y.d)).setCell ⟨g, 5, none⟩ (.string (zrs nz))) g x (Ed3.mk y.a y.d (zrs nz))) from HR8.out.set1 (e := ⟨y.a, y.d, (zrs nz)⟩))
            have HD := (show Hid (DS w cs a cap b off s4 ((((w6.setCell ⟨q3, 2, none⟩ (.string (zrs nz))).setCell ⟨g, 3, none⟩ (.int .i64 y.a)).setCell ⟨g, 4, none⟩ (.int .i64 y.d)).setCell ⟨g, 5, none⟩ (.string (zrs nz)))) from HD8.out.low ((((Below.refl _ _).setCell (p := ⟨g, 3, none⟩) (by show _ ≤ g; exact HGL.out) _).setCell (p := ⟨g, 4, none⟩) (by show _ ≤ g; exact HGL.out) _).setCell (p := ⟨g, 5, none⟩) (by show _ ≤ g; exact HGL.out) _))
            have HXE := (show Hid (X = x ∧ Y = (Ed3.mk y.a y.d (zrs nz))) from (by have h := HXE0.out; rw [HM.out] at h; exact h))
            clear HR8 HD8 hb8 HM HXE0
            go_wp2_with fail
            obtain ⟨w9, hw9⟩ : ∃ w9, w9 = ((((w6.setCell ⟨q3, 2, none⟩ (.string (zrs nz))).setCell ⟨g, 3, none⟩ (.int .i64 y.a)).setCell ⟨g, 4, none⟩ (.int .i64 y.d)).setCell ⟨g, 5, none⟩ (.string (zrs nz))) := ⟨_, rfl⟩
            rw [← hw9] at HR HD
            rw [← hw9]
            clear hw9 d0 d1 d2 e0 e1 e2 ef0 ef1 ef2 x0 x1 x2 y0 y1 y2 gf3 gf4 gf5
            obtain ⟨⟨x0, x1, x2⟩, y0, y1, y2⟩ := HR.out.cells
            have HSE := (show Hid (∀ wq, R6 wq g x (Ed3.mk y.a y.d (zrs nz)) → (wq.cell? ⟨g, 0, none⟩ = some (.int .i64 x.a) ∧ wq.cell? ⟨g, 1, none⟩ = some (.int .i64 x.d) ∧ wq.cell? ⟨g, 2, none⟩ = some (.string x.s)) ∧ wq.cell? ⟨g, 3, none⟩ = some (.int .i64 y.a) ∧ wq.cell? ⟨g, 4, none⟩ = some (.int .i64 y.d) ∧ wq.cell? ⟨g, 5, none⟩ = some (.string (zrs nz))) from fun wq h => h.cells)
            have hbd := (Below.refl w9.heap.size w9).drew
            have hS0 := HSE.out _ (HR.out.keep (hbd.block g HR.out.lt))
            have r0 : w9.cell? ⟨w.heap.size, 0, none⟩ = some (.int .i64 0) := HD.out.r0.cell 0 (by simp)
            have q0 : w9.cell? ⟨w.heap.size + 1, 0, none⟩ = some (.int .i64 0) := HD.out.r1.cell 0 (by simp)
            have rf0 := HD.out.r0.frozen 0
            have qf0 := HD.out.r1.frozen 0
            have r1 : w9.cell? ⟨w.heap.size, 1, none⟩ = some (.int .i64 0) := HD.out.r0.cell 1 (by simp)
            have q1 : w9.cell? ⟨w.heap.size + 1, 1, none⟩ = some (.int .i64 0) := HD.out.r1.cell 1 (by simp)
            have rf1 := HD.out.r0.frozen 1
            have qf1 := HD.out.r1.frozen 1
            have r2 : w9.cell? ⟨w.heap.size, 2, none⟩ = some (.string ⟨#[]⟩) := HD.out.r0.cell 2 (by simp)
            have q2 : w9.cell? ⟨w.heap.size + 1, 2, none⟩ = some (.string ⟨#[]⟩) := HD.out.r1.cell 2 (by simp)
            have rf2 := HD.out.r0.frozen 2
            have qf2 := HD.out.r1.frozen 2
            have HB := (show Hid _ from HD.out.bel)
            go_region_held3 (fun wq => (wq.cell? ⟨g, 0, none⟩ = some (.int .i64 x.a) ∧ wq.cell? ⟨g, 1, none⟩ = some (.int .i64 x.d) ∧ wq.cell? ⟨g, 2, none⟩ = some (.string x.s)) ∧ wq.cell? ⟨g, 3, none⟩ = some (.int .i64 y.a) ∧ wq.cell? ⟨g, 4, none⟩ = some (.int .i64 y.d) ∧ wq.cell? ⟨g, 5, none⟩ = some (.string (zrs nz))) (first | with_reducible exact hS0 | (refine HSE.out _ ?_; repeat (first | with_reducible exact HR.out | with_reducible refine R6.past ?_ (by first | exact hg0 | exact hg1) | with_reducible refine R6.drew ?_))) (fail)
            all_goals go_wp2_with fail
            all_goals refine bodyPost_ret (v := .tuple #[.agg #[.int .i64 X.a, .int .i64 X.d, .string X.s], .agg #[.int .i64 Y.a, .int .i64 Y.d, .string Y.s]]) (by rw [HXE.out.1, HXE.out.2]; simp [results, Try.results5, go_sem, r0, r1, r2, q0, q1, q2]) rfl ?_
            all_goals exact ⟨rfl, by first | exact (((((((HB.out.setCell (by simp) _).setCell (by simp) _).setCell (by simp) _).setCell (by simp) _).setCell (by simp) _).setCell (by simp) _).drew) | exact ((((((HB.out.setCell (by simp) _).setCell (by simp) _).setCell (by simp) _).setCell (by simp) _).setCell (by simp) _).setCell (by simp) _)⟩
end Go.Proofs.Ytcpjoicejbcndaa
