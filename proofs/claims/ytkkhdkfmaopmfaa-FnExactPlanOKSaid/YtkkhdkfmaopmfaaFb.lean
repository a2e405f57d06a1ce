import Derived.Test.YtkkhdkfmaopmfaaFg
/-! The specification: l11Fill. -/
namespace Go.Proofs.Ytkkhdkfmaopmfaa
open Go.RowKit Go.Deep Go.Lib
set_option linter.unusedVariables false
set_option maxRecDepth 100000
set_option linter.unusedSimpArgs false

/-- What filling leaves. -/
def FlA (C : Nat) (T : Tr) (w : World) (e : Ending) (w' : World) : Prop :=
  ∃ u, e = .returned (T.val u) ∧ Below w.heap.size w w' ∧ Lies w' (fun q => q < C ∨ w.heap.size ≤ q) T u
theorem nth_map (bl : List (ByteArray × Tr)) {k : List Tr} {j : Nat} (h : j < k.length) : nth (k.map (flT bl)) j = flT bl k[j] := by
  rw [nth_eq (by simpa using h), List.getElem_map]
set_option maxHeartbeats 1600000 in
theorem fill50 (W0 : World) (bl : List (ByteArray × Tr)) (bv : Value) (hB : BLi W0 bl bv) (p : Tr) : ∀ (v : Value) (w : World), Lies W0 (fun _ => True) p v → Below W0.heap.size W0 w → hvT bl p = true → p.cnt ≤ 1000 →
    Calls Try.prog 50 #[p.val v, bv] w (FlA W0.heap.size (flT bl p) w) := by
  refine Tr.ind (P := fun p => ∀ (v : Value) (w : World), Lies W0 (fun _ => True) p v → Below W0.heap.size W0 w → hvT bl p = true → p.cnt ≤ 1000 → Calls Try.prog 50 #[p.val v, bv] w (FlA W0.heap.size (flT bl p) w)) ?_ p
  intro n x lf k ih v w hl hbel hhv hcnt
  rw [Tr.cnt_mk] at hcnt
  rw [hvT_mk] at hhv
  rw [flT_mk]
  obtain ⟨a, cap, b, off, sv, rfl, hn, hx, hc, hm, ha, hcell, hk⟩ := hl.out
  dsimp only at hn hx hc hm ha hcell hk
  have HX := (show Hid (n.size ≤ maxLen ∧ x.size ≤ maxLen) from ⟨hn, hx⟩)
  have hkl : k.length ≤ 1000 := by
    have := Tr.len_le_cntL k
    omega
  have hCw := hbel.size
  have hb2 : Below w.heap.size w ((w.alloc (.cells #[.string n, .string x, .bool lf, .slice a k.length cap] 31)).alloc (.cells #[.string ByteArray.empty, .string ByteArray.empty, .bool false, .slice none 0 0] 31)) := (bel_alloc _ _).alloc (by simp) _
  have HV := (show Hid _ from var70 ⟨n, x, lf, k⟩ (.slice a k.length cap) ((w.alloc (.cells #[.string n, .string x, .bool lf, .slice a k.length cap] 31)).alloc (.cells #[.string ByteArray.empty, .string ByteArray.empty, .bool false, .slice none 0 0] 31)) rfl)
  have HX1 := (show Hid (Box ((w.alloc (.cells #[.string n, .string x, .bool lf, .slice a k.length cap] 31)).alloc (.cells #[.string ByteArray.empty, .string ByteArray.empty, .bool false, .slice none 0 0] 31)) w.heap.size 31 [.string n, .string x, .bool lf, .slice a k.length cap]) from (Box.new w 31 _).still (bel_alloc _ _))
  have HX2 := (show Hid (Box ((w.alloc (.cells #[.string n, .string x, .bool lf, .slice a k.length cap] 31)).alloc (.cells #[.string ByteArray.empty, .string ByteArray.empty, .bool false, .slice none 0 0] 31)) (w.heap.size + 1) 31 [.string ByteArray.empty, .string ByteArray.empty, .bool false, .slice none 0 0]) from (by
    have h := Box.new (w.alloc (.cells #[.string n, .string x, .bool lf, .slice a k.length cap] 31)) 31 [.string ByteArray.empty, .string ByteArray.empty, .bool false, .slice none 0 0]
    rw [show (w.alloc (.cells #[.string n, .string x, .bool lf, .slice a k.length cap] 31)).heap.size = w.heap.size + 1 from by simp] at h
    exact h))
  have hz2 : ((w.alloc (.cells #[.string n, .string x, .bool lf, .slice a k.length cap] 31)).alloc (.cells #[.string ByteArray.empty, .string ByteArray.empty, .bool false, .slice none 0 0] 31)).heap.size = w.heap.size + 2 := by simp
  have HZ2 := (show Hid _ from hz2); clear hz2
  have HB2 := (show Hid _ from hb2)
  have HBL := (show Hid (Below W0.heap.size W0 w) from hbel)
  have HI := (show Hid _ from ih); clear ih
  have HC := (show Hid _ from hcell); clear hcell
  have HK := (show Hid _ from hk); clear hk
  have HA := (show Hid (0 < k.length → a = some ⟨b, off, none⟩) from fun h => (ha h).1); clear ha hl hbel hb2
  have hBf := hB
  obtain ⟨bb, bcap, bsv, rfl, hbo, hbs, hbls⟩ := hB
  simp only [Tr.val] at HV ⊢
  unfold maxLen at hm
  cases hvr : vrB n lf
  · rw [hvr, if_neg (by simp)] at hhv
    rw [hvr] at HV
    rw [if_neg (by simp)]
    have HHV := (show Hid (∀ i (hi : i < k.length), hvT bl k[i] = true) from fun i hi => List.all_eq_true.1 hhv _ (List.getElem_mem hi))
    have HCN := (show Hid (∀ i (hi : i < k.length), k[i].cnt ≤ 1000) from fun i hi => by
      have := Tr.cnt_mem k i hi
      omega)
    clear hvr hhv hcnt hbo hbs hbls
    obtain ⟨i29, hi29, hzz⟩ := Option.map_eq_some_iff.1 info31
    simp only [Prod.mk.injEq] at hzz
    obtain ⟨hz0, hz1, hz2⟩ := hzz
    go_enter Try.func50, Try.ntmps50
    go_wp2_with fail
    refine Calls.mono HV.out ?_
    rintro e w1 ⟨rfl, hb1⟩
    have HR1 := (show Hid (Below (w.heap.size + 2) ((w.alloc (.cells #[.string n, .string x, .bool lf, .slice a k.length cap] 31)).alloc (.cells #[.string ByteArray.empty, .string ByteArray.empty, .bool false, .slice none 0 0] 31)) w1) from (by have := hb1; rw [HZ2.out] at this; exact this))
    clear hb1 HV
    go_wp2_with fail
    go_loopw [5, 6] (fun u i wr => ∃ (j : Nat), j ≤ k.length ∧ i = .int .i64 j ∧ (∃ a' m' c', u = .slice a' m' c') ∧ Hid (Below (w.heap.size + 2) ((w.alloc (.cells #[.string n, .string x, .bool lf, .slice a k.length cap] 31)).alloc (.cells #[.string ByteArray.empty, .string ByteArray.empty, .bool false, .slice none 0 0] 31)) wr) ∧ Hid (FGr (k.map (flT bl)) W0.heap.size (w.heap.size + 2) j u wr)) (fun _ i _ => k.length - (intOf i).toNat)
    case atStart =>
      refine ⟨0, Nat.zero_le _, rfl, ⟨_, _, _, rfl⟩, ?_, ?_⟩
      · exact HR1.out.alloc (by have := HR1.out.size; rw [HZ2.out] at this; exact this) _
      · exact FGr.nil _ _ (World.ownsRow_made w1 #[] 0 (by have := HR1.out.size; rw [HZ2.out] at this; exact this) (Nat.zero_le _) rfl)
    case round =>
      obtain ⟨j, hj, rfl, ⟨a', m', c', rfl⟩, HR, HG⟩ := hrel
      clear HR1
      have hwz : w.heap.size + 2 ≤ wr.heap.size := by have := HR.out.size; rw [HZ2.out] at this; exact this
      have hbw : Below W0.heap.size W0 wr := HBL.out.trans ((HB2.out.mono hCw).trans (HR.out.mono (by omega)))
      have bx1 := HX1.out.keep (HR.out.block w.heap.size (by omega))
      have A3 : wr.cell? ⟨w.heap.size, 3, none⟩ = some (.slice a k.length cap) := bx1.cell 3 (by simp)
      by_cases hlt : j < k.length
      · obtain rfl := HA.out (by omega)
        obtain ⟨c0, c1, c2, c3⟩ := HC.out j hlt
        rw [← hbw.cell (lt_of_cell c0)] at c0
        rw [← hbw.cell (lt_of_cell c1)] at c1
        rw [← hbw.cell (lt_of_cell c2)] at c2
        rw [← hbw.cell (lt_of_cell c3)] at c3
        obtain ⟨a1, l1, p1, hsv⟩ := (HK.out j hlt).form
        have hcl := HI.out j hlt (sv j) wr (HK.out j hlt) hbw (HHV.out j hlt) (HCN.out j hlt)
        rw [hsv] at c3 hcl
        simp only [Tr.val] at hcl
        unfold FlA at hcl
        have HCL := (show Hid _ from hcl); clear hcl hsv
        have HNT := (show Hid (nth (k.map (flT bl)) j = flT bl k[j]) from nth_map bl hlt)
        generalize flT bl k[j] = T at *
        generalize k[j].name = kn at *
        generalize k[j].text = kx at *
        generalize k[j].leaf = kl at *
        have q1 : (j : Int) < (k.length : Int) := by omega
        clear bx1
        go_wp2_with fail
        refine Calls.mono HCL.out ?_
        rintro e w1 ⟨u1, rfl, hb1, hl1⟩
        obtain ⟨a2, l2, p2, rfl⟩ := hl1.form
        obtain ⟨fs, hown, hls⟩ := HG.out
        have hown2 := own_still (own_still hown hb1) (bel_alloc w1 (.cells #[.string T.name, .string T.text, .bool T.leaf, .slice a2 l2 p2] 31))
        have HO2 := (show Hid _ from hown2)
        have HF := (show Hid _ from (⟨hl1, hown, hls, hb1⟩ : _ ∧ _ ∧ _ ∧ _))
        have hs1 := hb1.size
        clear hl1 hown hls hown2 c0 c1 c2 c3 A3 hb1 HCL
        go_wp2_with (at_builtin; refine wpList_append_lies _ rfl (.tmp 25) (.tmp 33) 29 rfl (w.heap.size + 2) 31 i29 _ 4 64 Try.underlying29 hi29 hz0 hz1 hz2 rfl (by decide) _ j (kc (k.map (flT bl)) fs j) rfl HO2.out ⟨w1.heap.size, 0, none⟩ 1 1 [.string T.name, .string T.text, .bool T.leaf, .slice a2 l2 p2] rfl rfl ?c1 ?c2 (by decide) ?c3 (by omega) (by simp; omega) _ rfl ?nx)
        case c1 => exact cell_four_box _ _ _ _ _ _
        case c2 => intro u hu; simp at hu; rcases hu with rfl | rfl | rfl | rfl <;> rfl
        case c3 => unfold maxLen; omega
        case nx =>
          intro g3 cap3 w3 hown3 hgr3 hat3 hlt3
          obtain ⟨hl1, hown, hls, hb1⟩ := HF.out
          have hG3 : FGr (k.map (flT bl)) W0.heap.size (w.heap.size + 2) (j + 1) (.slice (some ⟨g3, 0, none⟩) (j + 1) cap3) w3 := by
            rw [← HNT.out] at hown3 hl1
            exact FGr.step hown hls (by omega) hwz (bel_trans hb1 (bel_alloc _ _)) (hl1.still (bel_alloc _ _)) hown3 hgr3 (by rw [World.size_alloc]; exact hat3)
          have hb3 := (HR.out.trans ((bel_trans hb1 (bel_alloc w1 (.cells #[.string T.name, .string T.text, .bool T.leaf, .slice a2 l2 p2] 31))).mono (by omega))).grown hgr3 (by simp; omega) (fun q hq => by
            have := (World.ownsRow.lt hown q hq).1
            omega)
          have HG3 := (show Hid _ from hG3)
          have HR3 := (show Hid _ from hb3)
          clear hG3 hown3 hgr3 hat3 hl1 hown hls hb1 hb3 HF HO2 HG HR
          go_wp2_with fail
          exact ⟨⟨j + 1, by omega, by go_num, ⟨_, _, _, rfl⟩, HR3, HG3⟩, by simp [intOf]; omega⟩
      · have hje : j = k.length := by omega
        have hfin : Lies wr (fun q => q < W0.heap.size ∨ w.heap.size + 2 ≤ q) ⟨n, x, lf, k.map (flT bl)⟩ (.slice a' m' c') := by
          refine FGr.done (n := n) (x := x) (le := lf) ?_ HX.out.1 HX.out.2
          rw [List.length_map, ← hje]
          exact HG.out
        have bx2 := HX2.out.keep (HR.out.block (w.heap.size + 1) (by omega))
        have A0 : wr.cell? ⟨w.heap.size, 0, none⟩ = some (.string n) := bx1.cell 0 (by simp)
        have A1 : wr.cell? ⟨w.heap.size, 1, none⟩ = some (.string x) := bx1.cell 1 (by simp)
        have A2 : wr.cell? ⟨w.heap.size, 2, none⟩ = some (.bool lf) := bx1.cell 2 (by simp)
        have f3 : wr.frozen? ⟨w.heap.size, 3, none⟩ = false := bx1.frozen 3
        have Z0 : wr.cell? ⟨w.heap.size + 1, 0, none⟩ = some (.string ByteArray.empty) := bx2.cell 0 (by simp)
        have Z1 : wr.cell? ⟨w.heap.size + 1, 1, none⟩ = some (.string ByteArray.empty) := bx2.cell 1 (by simp)
        have Z2 : wr.cell? ⟨w.heap.size + 1, 2, none⟩ = some (.bool false) := bx2.cell 2 (by simp)
        have Z3 : wr.cell? ⟨w.heap.size + 1, 3, none⟩ = some (.slice none 0 0) := bx2.cell 3 (by simp)
        have y0 : wr.frozen? ⟨w.heap.size + 1, 0, none⟩ = false := bx2.frozen 0
        have y1 : wr.frozen? ⟨w.heap.size + 1, 1, none⟩ = false := bx2.frozen 1
        have y2 : wr.frozen? ⟨w.heap.size + 1, 2, none⟩ = false := bx2.frozen 2
        have y3 : wr.frozen? ⟨w.heap.size + 1, 3, none⟩ = false := bx2.frozen 3
        have HBW := (show Hid (Below w.heap.size w wr) from HB2.out.trans (HR.out.mono (by omega)))
        have HF := (show Hid (Lies wr (fun q => q < W0.heap.size ∨ w.heap.size + 2 ≤ q) ⟨n, x, lf, k.map (flT bl)⟩ (.slice a' m' c')) from hfin)
        have q1 : ¬ ((j : Int) < (k.length : Int)) := by omega
        clear hfin bx1 bx2 HG HR hje
        go_wp2_with fail
        refine bodyPost_ret (v := .agg #[.string n, .string x, .bool lf, .slice a' m' c']) (by simp [results, Try.results50, go_sem, Z0, Z1, Z2, Z3]) rfl ⟨_, rfl, ?_, ?_⟩
        · exact ((((HBW.out.setCell (by simp) _).setCell (by simp) _).setCell (by simp) _).setCell (by simp) _).setCell (by simp) _
        · refine Lies.mono (S := fun q => q < W0.heap.size ∨ w.heap.size + 2 ≤ q) (fun q hq => by omega) (Lies.keep (w := wr) (fun q hq => ?_) HF.out)
          have e1 : q ≠ w.heap.size := by omega
          have e2 : q ≠ w.heap.size + 1 := by omega
          exact (blk_setCell_other _ _ _ _ e2).trans ((blk_setCell_other _ _ _ _ e2).trans ((blk_setCell_other _ _ _ _ e2).trans ((blk_setCell_other _ _ _ _ e2).trans (blk_setCell_other _ _ _ _ e1))))
  · rw [hvr, if_pos rfl] at hhv
    rw [hvr] at HV
    rw [if_pos rfl]
    obtain ⟨T, hT⟩ := Option.isSome_iff_exists.1 hhv
    rw [hT]
    dsimp only [Option.getD]
    have HLK := (show Hid (look bl x = some T) from hT)
    clear hT hhv
    have HFD := (show Hid (∀ wq : World, Below W0.heap.size W0 wq → Calls Try.prog 48 #[.slice (some ⟨bb, 0, none⟩) bl.length bcap, .string x] wq fun e w' => ∃ i : Int, e = .returned (.int .i64 i) ∧ FdI bl x i ∧ w' = wq) from fun wq hb => first48 bl x _ wq (hBf.still hb))
    have HOW := (show Hid (∀ i (hi : i < bl.length), W0.cell? ⟨bb, i * 5 + 1, none⟩ = some (.string bl[i].2.name) ∧ W0.cell? ⟨bb, i * 5 + 2, none⟩ = some (.string bl[i].2.text) ∧ W0.cell? ⟨bb, i * 5 + 3, none⟩ = some (.bool bl[i].2.leaf) ∧ W0.cell? ⟨bb, i * 5 + 4, none⟩ = some (bsv i)) from fun i hi => by
      obtain ⟨g0, g1, g2, g3, g4⟩ := bcs_get bl bsv bl.length i hi
      rw [nb_eq hi] at g0 g1 g2 g3
      exact ⟨by rw [World.ownsRow.cellAt hbo _ (by omega), g1], by rw [World.ownsRow.cellAt hbo _ (by omega), g2], by rw [World.ownsRow.cellAt hbo _ (by omega), g3], by rw [World.ownsRow.cellAt hbo _ (by omega), g4]⟩)
    have hbm : bl.length ≤ 2 ^ 63 - 1 := by
      rcases hbo.2 with ⟨e, e0⟩ | ⟨g, cp, cur, r1, r2, r3, r4, r5, r6⟩
      · rw [e0]; exact Nat.zero_le _
      · unfold maxLen at r5; omega
    have HBS := (show Hid _ from (⟨hbs, hbls⟩ : _ ∧ _))
    clear hvr hBf hbo hbs hbls HI HK HC HA
    go_enter Try.func50, Try.ntmps50
    go_wp2_with fail
    refine Calls.mono HV.out ?_
    rintro e w1 ⟨rfl, hb1⟩
    have bx1 := HX1.out.still hb1
    have bx2 := HX2.out.still hb1
    have HW1 := (show Hid (Below w.heap.size w w1) from bel_trans HB2.out hb1)
    have A1 : w1.cell? ⟨w.heap.size, 1, none⟩ = some (.string x) := bx1.cell 1 (by simp)
    have Z0 : w1.cell? ⟨w.heap.size + 1, 0, none⟩ = some (.string ByteArray.empty) := bx2.cell 0 (by simp)
    have Z1 : w1.cell? ⟨w.heap.size + 1, 1, none⟩ = some (.string ByteArray.empty) := bx2.cell 1 (by simp)
    have Z2 : w1.cell? ⟨w.heap.size + 1, 2, none⟩ = some (.bool false) := bx2.cell 2 (by simp)
    have Z3 : w1.cell? ⟨w.heap.size + 1, 3, none⟩ = some (.slice none 0 0) := bx2.cell 3 (by simp)
    have y0 : w1.frozen? ⟨w.heap.size + 1, 0, none⟩ = false := bx2.frozen 0
    have y1 : w1.frozen? ⟨w.heap.size + 1, 1, none⟩ = false := bx2.frozen 1
    have y2 : w1.frozen? ⟨w.heap.size + 1, 2, none⟩ = false := bx2.frozen 2
    have y3 : w1.frozen? ⟨w.heap.size + 1, 3, none⟩ = false := bx2.frozen 3
    have HC1 := (show Hid _ from HFD.out w1 (HBL.out.trans (HW1.out.mono hCw)))
    clear hb1 HV bx1 bx2 HFD
    go_wp2_with fail
    refine Calls.mono HC1.out ?_
    rintro e w2 ⟨i, rfl, hfd, rfl⟩
    obtain ⟨kk, hkk, rfl, hlk⟩ : ∃ (kk : Nat) (hk : kk < bl.length), i = kk ∧ bl[kk].2 = T := by
      rcases hfd.look with ⟨_, h⟩ | ⟨kk, hk, e1, e2⟩
      · rw [HLK.out] at h; cases h
      · rw [HLK.out] at e2
        injection e2 with e2
        exact ⟨kk, hk, e1, e2.symm⟩
    have hbw : Below W0.heap.size W0 w2 := HBL.out.trans (HW1.out.mono hCw)
    obtain ⟨c1, c2, c3, c4⟩ := HOW.out kk hkk
    rw [hlk] at c1 c2 c3
    rw [← hbw.cell (lt_of_cell c1)] at c1
    rw [← hbw.cell (lt_of_cell c2)] at c2
    rw [← hbw.cell (lt_of_cell c3)] at c3
    rw [← hbw.cell (lt_of_cell c4)] at c4
    obtain ⟨a4, l4, p4, e4⟩ := HBS.out.1 kk
    have hly := HBS.out.2 kk hkk
    rw [e4] at c4 hly
    rw [hlk] at hly
    have HLY := (show Hid (Lies w2 (fun q => q < W0.heap.size) T (.slice a4 l4 p4)) from (hly.lt.keep (fun q hq => hbw.block q hq.2)).mono (fun q hq => hq.2))
    have i1 : (0 : Int) ≤ (kk : Int) := by omega
    have i2 : (kk : Int) < (bl.length : Int) := by omega
    clear hfd hlk hly e4 HC1 HOW HBS hbw HLK
    go_wp2_with fail
    refine bodyPost_ret (v := .agg #[.string T.name, .string T.text, .bool T.leaf, .slice a4 l4 p4]) (by simp [results, Try.results50, go_sem, Z0, Z1, Z2, Z3]) rfl ⟨_, rfl, ?_, ?_⟩
    · exact (((HW1.out.setCell (by simp) _).setCell (by simp) _).setCell (by simp) _).setCell (by simp) _
    · refine Lies.mono (S := fun q => q < W0.heap.size) (fun q hq => .inl hq) (Lies.keep (w := w2) (fun q hq => ?_) HLY.out)
      have e2 : q ≠ w.heap.size + 1 := by omega
      exact (blk_setCell_other _ _ _ _ e2).trans ((blk_setCell_other _ _ _ _ e2).trans ((blk_setCell_other _ _ _ _ e2).trans (blk_setCell_other _ _ _ _ e2)))
end Go.Proofs.Ytkkhdkfmaopmfaa
