import Derived.Test.YtkkhdkfmaopmfaaFe
import Derived.Test.YtkkhdkfmaopmfaaOutw
import Derived.Deep.RegionHeld3
/-! The program: fill. -/
namespace Go.Proofs.Ytkkhdkfmaopmfaa
open Go.RowKit Go.Deep Go.Maps Go.WideMaps Go.ChangeMaps Go.Lib
set_option linter.unusedVariables false
set_option maxRecDepth 100000
set_option linter.unusedSimpArgs false

theorem FGr.past {k : List Tr} {C B j g o : Nat} {v x : Value} {w : World} (h : FGr k C B j v w) (h1 : C ≤ g) (h2 : g < B) : FGr k C B j v (w.setCell ⟨g, o, none⟩ x) := by
  obtain ⟨fs, hown, hls⟩ := h
  refine ⟨fs, own_keep1 hown (fun q hq => blk_setCell_other _ _ _ _ (by have := (World.ownsRow.lt hown q hq).1; show q ≠ g; omega)), fun i hi => (hls i hi).keep (fun q hq => blk_setCell_other _ _ _ _ (by show q ≠ g; have := hq.2; omega))⟩
theorem KS.at {w : World} {bl : List (ByteArray × Tr)} {gb mb : Nat} {a : Option Addr} {cap : Nat} (h : KS w bl gb mb a cap) {x : ByteArray} (hx : x.size ≤ maxLen) {T : Tr} (hl : look bl x = some T) :
    ∃ (n b : Nat) (hn : n < bl.length) (x1 : Option Addr) (x2 x3 : Nat), a = some ⟨b, 0, none⟩ ∧ bl[n].2 = T ∧ (∀ w' : World, w'.heap[mb]? = w.heap[mb]? → (Instr.lookup 65 (.map (some mb)) (.string x) false).run Try.prog w' = .ok (.int .i64 (n : Nat)) w') ∧
      w.cell? ⟨b, n * 5 + 1, none⟩ = some (.string T.name) ∧ w.cell? ⟨b, n * 5 + 2, none⟩ = some (.string T.text) ∧ w.cell? ⟨b, n * 5 + 3, none⟩ = some (.bool T.leaf) ∧ w.cell? ⟨b, n * 5 + 4, none⟩ = some (.slice x1 x2 x3) ∧ Lies w (fun _ => True) T (.slice x1 x2 x3) := by
  have hm : Value.string x ∈ bks bl := look_mem.1 (by rw [hl]; rfl)
  obtain ⟨n, hn, hne⟩ := List.mem_iff_getElem.1 hm
  have hng : (bks bl)[n]? = some (.string x) := by rw [List.getElem?_eq_getElem hn, hne]
  have hnd : (bks bl).Nodup := by obtain ⟨D, _, _, _, d4, _⟩ := h.mn.ex; exact d4
  obtain ⟨hnb, hlk⟩ := look_key (bl := bl) hnd hng
  obtain ⟨a', cap', b, sv, e, hm', ha, hc, hls⟩ := h.rd
  injection e with e1 e2 e3
  subst e1
  have hT : bl[n].2 = T := by rw [hlk] at hl; injection hl
  obtain ⟨c0, c1, c2, c3, c4⟩ := hc n hnb
  have hlies := hls n hnb
  obtain ⟨x1, x2, x3, es⟩ := hlies.form
  rw [hT] at c1 c2 c3 hlies
  rw [es] at c4 hlies
  exact ⟨n, b, hnb, x1, x2, x3, ha (by omega), hT, fun w' hw => h.mn.look hx hng w' hw, c1, c2, c3, c4, hlies⟩
set_option maxHeartbeats 3200000 in
theorem ifill54 (W0 : World) (bl : List (ByteArray × Tr)) (gb mb : Nat) (a : Option Addr) (cap : Nat) (hks : KS W0 bl gb mb a cap) (p : Tr) : ∀ (v : Value) (w : World), Lies W0 (fun _ => True) p v → Below W0.heap.size W0 w → hvT bl p = true → p.cnt ≤ 1000 →
    Calls Try.prog 54 #[.pointer (some ⟨gb, 0, none⟩), p.val v] w (FlA W0.heap.size (flT bl p) w) := by
  refine Tr.ind (P := fun p => ∀ (v : Value) (w : World), Lies W0 (fun _ => True) p v → Below W0.heap.size W0 w → hvT bl p = true → p.cnt ≤ 1000 → Calls Try.prog 54 #[.pointer (some ⟨gb, 0, none⟩), p.val v] w (FlA W0.heap.size (flT bl p) w)) ?_ p
  intro n x lf k ih v w hl hbel hhv hcnt
  rw [Tr.cnt_mk] at hcnt
  rw [hvT_mk] at hhv
  rw [flT_mk]
  obtain ⟨a1, cap1, b1, off1, sv, rfl, hn, hx, hc, hm, ha, hcell, hk⟩ := hl.out
  dsimp only at hn hx hc hm ha hcell hk
  have HX := (show Hid (n.size ≤ maxLen ∧ x.size ≤ maxLen) from ⟨hn, hx⟩)
  have hkl : k.length ≤ 1000 := by
    have := Tr.len_le_cntL k
    omega
  have hCw := hbel.size
  have hb2 : Below w.heap.size w ((w.alloc (.cells #[.string n, .string x, .bool lf, .slice a1 k.length cap1] 31)).alloc (.cells #[.string ByteArray.empty, .string ByteArray.empty, .bool false, .slice none 0 0] 31)) := (bel_alloc _ _).alloc (by simp) _
  have HV := (show Hid _ from var72 ⟨n, x, lf, k⟩ (.slice a1 k.length cap1) ((w.alloc (.cells #[.string n, .string x, .bool lf, .slice a1 k.length cap1] 31)).alloc (.cells #[.string ByteArray.empty, .string ByteArray.empty, .bool false, .slice none 0 0] 31)) rfl)
  have HX1 := (show Hid (Box ((w.alloc (.cells #[.string n, .string x, .bool lf, .slice a1 k.length cap1] 31)).alloc (.cells #[.string ByteArray.empty, .string ByteArray.empty, .bool false, .slice none 0 0] 31)) w.heap.size 31 [.string n, .string x, .bool lf, .slice a1 k.length cap1]) from (Box.new w 31 _).still (bel_alloc _ _))
  have HX2 := (show Hid (Box ((w.alloc (.cells #[.string n, .string x, .bool lf, .slice a1 k.length cap1] 31)).alloc (.cells #[.string ByteArray.empty, .string ByteArray.empty, .bool false, .slice none 0 0] 31)) (w.heap.size + 1) 31 [.string ByteArray.empty, .string ByteArray.empty, .bool false, .slice none 0 0]) from (by
    have h := Box.new (w.alloc (.cells #[.string n, .string x, .bool lf, .slice a1 k.length cap1] 31)) 31 [.string ByteArray.empty, .string ByteArray.empty, .bool false, .slice none 0 0]
    rw [show (w.alloc (.cells #[.string n, .string x, .bool lf, .slice a1 k.length cap1] 31)).heap.size = w.heap.size + 1 from by simp] at h
    exact h))
  have HZ2 := (show Hid (((w.alloc (.cells #[.string n, .string x, .bool lf, .slice a1 k.length cap1] 31)).alloc (.cells #[.string ByteArray.empty, .string ByteArray.empty, .bool false, .slice none 0 0] 31)).heap.size = w.heap.size + 2) from (by show _ = _; simp))
  have HB2 := (show Hid _ from hb2)
  have HBL := (show Hid (Below W0.heap.size W0 w) from hbel)
  have HI := (show Hid _ from ih); clear ih
  have HC := (show Hid _ from hcell); clear hcell
  have HK := (show Hid _ from hk); clear hk
  have HA := (show Hid (0 < k.length → a1 = some ⟨b1, off1, none⟩) from fun h => (ha h).1); clear ha hl hbel hb2
  simp only [Tr.val] at HV ⊢
  unfold maxLen at hm
  cases hvr : vrB n lf
  · rw [hvr, if_neg (by simp)] at hhv
    rw [hvr] at HV
    rw [if_neg (by simp)]
    have HHV := (show Hid (∀ i (hi : i < k.length), hvT bl k[i] = true) from fun i hi => List.all_eq_true.1 hhv _ (List.getElem_mem hi))
    have HCN := (show Hid (∀ i (hi : i < k.length), k[i].cnt ≤ 1000) from fun i hi => by
      have := Tr.cnt_mem k i hi
      omega)
    clear hvr hhv hcnt hks
    obtain ⟨i29, hi29, hzz⟩ := Option.map_eq_some_iff.1 info31
    simp only [Prod.mk.injEq] at hzz
    obtain ⟨hz0, hz1, hz2⟩ := hzz
    go_enter Try.func54, Try.ntmps54
    go_wp2_with fail
    refine Calls.mono HV.out ?_
    rintro e w1 ⟨rfl, hb1⟩
    have bx1 := HX1.out.still hb1
    have A0 : w1.cell? ⟨w.heap.size, 0, none⟩ = some (.string n) := bx1.cell 0 (by simp)
    have A1 : w1.cell? ⟨w.heap.size, 1, none⟩ = some (.string x) := bx1.cell 1 (by simp)
    have A2 : w1.cell? ⟨w.heap.size, 2, none⟩ = some (.bool lf) := bx1.cell 2 (by simp)
    have A3 : w1.cell? ⟨w.heap.size, 3, none⟩ = some (.slice a1 k.length cap1) := bx1.cell 3 (by simp)
    have HW1 := (show Hid (Below w.heap.size w w1 ∧ w.heap.size + 2 ≤ w1.heap.size ∧ Box w1 (w.heap.size + 1) 31 [.string ByteArray.empty, .string ByteArray.empty, .bool false, .slice none 0 0]) from ⟨bel_trans HB2.out hb1, (by have := hb1.size; rw [HZ2.out] at this; exact this), HX2.out.still hb1⟩)
    have A4 : (w1.alloc (.cells #[.string n, .string x, .bool lf, .slice none 0 0] 31)).cell? ⟨w.heap.size, 3, none⟩ = some (.slice a1 k.length cap1) := (bx1.still (bel_alloc _ _)).cell 3 (by simp)
    clear hb1 HV bx1 HB2 HZ2 HX1 HX2
    go_wp2_with fail
    go_loopw [34] (fun i wr => ∃ (j : Nat) (a' : Option Addr) (m' c' : Nat), j ≤ k.length ∧ i = .int .i64 j ∧ Hid (Below w1.heap.size w1 wr) ∧ Hid (Box4 wr w1.heap.size (.string n) (.string x) (.bool lf) (.slice a' m' c')) ∧ Hid (FGr (k.map (flT bl)) W0.heap.size (w1.heap.size + 1) j (.slice a' m' c') wr)) (fun i _ => k.length - (intOf i).toNat)
    case atStart => exact ⟨0, none, 0, 0, Nat.zero_le _, rfl, bel_alloc _ _, Box4.new w1 (.string n) (.string x) (.bool lf) (.slice none 0 0), FGr.nil _ _ (World.ownsRow_nil _ _ _ _)⟩
    case round =>
      obtain ⟨j, a', m', c', hj, rfl, HR, HB, HG⟩ := hrel
      clear A0 A1 A2 A3 A4
      by_cases hlt : j < k.length
      · have q1 : (j : Int) < (k.length : Int) := by omega
        have q0 : (0 : Int) ≤ (j : Int) := by omega
        have hbw : Below W0.heap.size W0 wr := HBL.out.trans ((HW1.out.1.mono hCw).trans (HR.out.mono (by have := HW1.out.2.1; omega)))
        have hwz : w1.heap.size + 1 ≤ wr.heap.size := by have := HB.out.lt; omega
        have hw1z := HW1.out.2.1
        obtain rfl := HA.out (by omega)
        obtain ⟨c0, c1, c2, c3⟩ := HC.out j hlt
        rw [← hbw.cell (lt_of_cell c0)] at c0
        rw [← hbw.cell (lt_of_cell c1)] at c1
        rw [← hbw.cell (lt_of_cell c2)] at c2
        rw [← hbw.cell (lt_of_cell c3)] at c3
        obtain ⟨a4, l4, p4, hsv⟩ := (HK.out j hlt).form
        have hcl := fun (wq : World) (hq : Below wr.heap.size wr wq) => HI.out j hlt (sv j) wq (HK.out j hlt) (hbw.trans (hq.mono (by omega))) (HHV.out j hlt) (HCN.out j hlt)
        rw [hsv] at c3
        simp only [hsv, Tr.val] at hcl
        unfold FlA at hcl
        have HNT := (show Hid (nth (k.map (flT bl)) j = flT bl k[j]) from nth_map bl hlt)
        generalize flT bl k[j] = T at *
        generalize k[j].name = kn at *
        generalize k[j].text = kx at *
        generalize k[j].leaf = kl at *
        have hba := bel_alloc wr (.cells #[.string kn, .string kx, .bool kl, .slice a4 l4 p4] 31)
        have hdr := hba.drew
        have HCL := (show Hid _ from hcl _ hdr)
        have HDR := (show Hid (Below wr.heap.size wr (wr.alloc (.cells #[.string kn, .string kx, .bool kl, .slice a4 l4 p4] 31)).drew) from hdr)
        have HSZ := (show Hid ((wr.alloc (.cells #[.string kn, .string kx, .bool kl, .slice a4 l4 p4] 31)).drew.heap.size = wr.heap.size + 1) from (by show _ = _; simp))
        obtain ⟨fs, hown, hls⟩ := HG.out
        have HF := (show Hid _ from (⟨hown, hls⟩ : _ ∧ _)); clear hown hls hcl hsv
        have HBA := (show Hid (Box4 (wr.alloc (.cells #[.string kn, .string kx, .bool kl, .slice a4 l4 p4] 31)) w1.heap.size (.string n) (.string x) (.bool lf) (.slice a' m' c')) from HB.out.still hba)
        have T3 := HBA.out.cells.2.2.2
        have f3 := HBA.out.frozen 3
        have hlen1 : j + 1 ≤ 1000 := by omega
        clear hba hdr HG
        go_wp2_with fail
        go_region_law (first
          | (refine step_append_lies _ rfl (.tmp 39) (.tmp 43) 29 rfl (w1.heap.size + 1) 31 i29 _ 4 64 Try.underlying29 hi29 hz0 hz1 hz2 rfl (by decide) _ j (kc (k.map (flT bl)) fs j) (by simp [Act.eval, Act.put]) HO2.out ⟨w2.heap.size, 0, none⟩ 1 1 [.string T.name, .string T.text, .bool T.leaf, .slice a2 l2 p2] (by simp [Act.eval, Act.put]) rfl (cell_four_box _ _ _ _ _ _) (by intro u hu; simp at hu; rcases hu with rfl | rfl | rfl | rfl <;> rfl) (by decide) (by unfold maxLen; omega) (by omega) (by simp; omega) _ rfl ?_; intro g3 cap3 w3 hown3 hgr3 hat3 hlt3; have B3 := (B1.still (bel_alloc _ _)).keep (hgr3.block _ (by simp; omega) (fun e => by have := (World.ownsRow.lt HF.out.1 _ e.symm).1; omega)); have V3 := B3.cells.2.2.2; have g3f := B3.frozen 3)
          | (go_simp; go_at_call 54; refine Calls.mono HCL.out ?_; rintro e w2 ⟨u1, rfl, hb1, hl1⟩; obtain ⟨a2, l2, p2, rfl⟩ := hl1.form; have hbA := bel_trans HDR.out hb1; have hs1 : wr.heap.size ≤ w2.heap.size := hbA.size; have B1 := HB.out.still hbA; have U3 := B1.cells.2.2.2; have U4 := (B1.still (bel_alloc w2 (.cells #[.string T.name, .string T.text, .bool T.leaf, .slice a2 l2 p2] 31))).cells.2.2.2; have HO2 := (show Hid _ from own_still (own_still HF.out.1 hbA) (bel_alloc w2 (.cells #[.string T.name, .string T.text, .bool T.leaf, .slice a2 l2 p2] 31)))))
        all_goals
          obtain ⟨hown, hls⟩ := HF.out
          have hl2 : Lies w2 (fun q => q < W0.heap.size ∨ wr.heap.size ≤ q) T (.slice a2 l2 p2) := hl1.mono (fun q hq => by have := HSZ.out; omega)
          have hG3 : FGr (k.map (flT bl)) W0.heap.size (w1.heap.size + 1) (j + 1) (.slice (some ⟨g3, 0, none⟩) (j + 1) cap3) w3 := by
            rw [← HNT.out] at hown3 hl2
            exact FGr.step hown hls (by omega) hwz (bel_trans hbA (bel_alloc _ _)) (hl2.still (bel_alloc _ _)) hown3 hgr3 hat3
          have hb3 := ((HR.out.trans ((bel_trans hbA (bel_alloc w2 (.cells #[.string T.name, .string T.text, .bool T.leaf, .slice a2 l2 p2] 31))).mono (by omega))).grown hgr3 (by simp; omega) (fun q hq => by
            have := (World.ownsRow.lt hown q hq).1
            omega)).setCell (p := ⟨w1.heap.size, 3, none⟩) (Nat.le_refl _) (.slice (some ⟨g3, 0, none⟩) (j + 1) cap3)
          have H3 := (show Hid _ from hG3.past (g := w1.heap.size) (o := 3) (x := .slice (some ⟨g3, 0, none⟩) (j + 1) cap3) (by omega) (by omega))
          have H4 := (show Hid _ from B3.set3 (.slice (some ⟨g3, 0, none⟩) (j + 1) cap3))
          have H5 := (show Hid _ from hb3)
          clear hG3 B3 hown3 hgr3 hat3 hl1 hl2 hown hls V3 U3 U4 B1 T3 f3 g3f hb3
          go_wp2_with fail
          exact ⟨⟨j + 1, _, _, _, by omega, by go_num, H5, H4, H3⟩, by simp [intOf]; omega⟩
      · have q1 : ¬ ((j : Int) < (k.length : Int)) := by omega
        have hje : j = k.length := by omega
        have hfin : Lies wr (fun q => q < W0.heap.size ∨ w1.heap.size + 1 ≤ q) ⟨n, x, lf, k.map (flT bl)⟩ (.slice a' m' c') := by
          refine FGr.done (n := n) (x := x) (le := lf) ?_ HX.out.1 HX.out.2
          rw [List.length_map, ← hje]
          exact HG.out
        have hw1z := HW1.out.2.1
        have bx2 := HW1.out.2.2.keep (HR.out.block (w.heap.size + 1) (by omega))
        have Z0 : wr.cell? ⟨w.heap.size + 1, 0, none⟩ = some (.string ByteArray.empty) := bx2.cell 0 (by simp)
        have Z1 : wr.cell? ⟨w.heap.size + 1, 1, none⟩ = some (.string ByteArray.empty) := bx2.cell 1 (by simp)
        have Z2 : wr.cell? ⟨w.heap.size + 1, 2, none⟩ = some (.bool false) := bx2.cell 2 (by simp)
        have Z3 : wr.cell? ⟨w.heap.size + 1, 3, none⟩ = some (.slice none 0 0) := bx2.cell 3 (by simp)
        have y0 : wr.frozen? ⟨w.heap.size + 1, 0, none⟩ = false := bx2.frozen 0
        have y1 : wr.frozen? ⟨w.heap.size + 1, 1, none⟩ = false := bx2.frozen 1
        have y2 : wr.frozen? ⟨w.heap.size + 1, 2, none⟩ = false := bx2.frozen 2
        have y3 : wr.frozen? ⟨w.heap.size + 1, 3, none⟩ = false := bx2.frozen 3
        obtain ⟨T0, T1, T2, T3⟩ := HB.out.cells
        have HBW := (show Hid (Below w.heap.size w wr) from HW1.out.1.trans (HR.out.mono (by omega)))
        have HF := (show Hid (Lies wr (fun q => q < W0.heap.size ∨ w1.heap.size + 1 ≤ q) ⟨n, x, lf, k.map (flT bl)⟩ (.slice a' m' c')) from hfin)
        clear hfin bx2 HG HR hje HB
        go_wp2_with fail
        refine bodyPost_ret (v := .agg #[.string n, .string x, .bool lf, .slice a' m' c']) (by simp [results, Try.results54, go_sem, Z0, Z1, Z2, Z3]) rfl ⟨_, rfl, ?_, ?_⟩
        · exact (((HBW.out.setCell (by simp) _).setCell (by simp) _).setCell (by simp) _).setCell (by simp) _
        · refine Lies.mono (S := fun q => q < W0.heap.size ∨ w1.heap.size + 1 ≤ q) (fun q hq => by omega) (Lies.keep (w := wr) (fun q hq => ?_) HF.out)
          have e2 : q ≠ w.heap.size + 1 := by omega
          exact (blk_setCell_other _ _ _ _ e2).trans ((blk_setCell_other _ _ _ _ e2).trans ((blk_setCell_other _ _ _ _ e2).trans (blk_setCell_other _ _ _ _ e2)))
  · rw [hvr, if_pos rfl] at hhv
    rw [hvr] at HV
    rw [if_pos rfl]
    obtain ⟨T, hT⟩ := Option.isSome_iff_exists.1 hhv
    rw [hT]
    dsimp only [Option.getD]
    have HLK := (show Hid (look bl x = some T) from hT)
    have HKS := (show Hid (KS W0 bl gb mb a cap) from hks)
    clear hT hhv hvr HI HK HC HA hks
    go_enter Try.func54, Try.ntmps54
    go_wp2_with fail
    refine Calls.mono HV.out ?_
    rintro e w1 ⟨rfl, hb1⟩
    have bx1 := HX1.out.still hb1
    have bx2 := HX2.out.still hb1
    have HW1 := (show Hid (Below w.heap.size w w1) from bel_trans HB2.out hb1)
    have hbw : Below W0.heap.size W0 w1 := HBL.out.trans (HW1.out.mono hCw)
    have hk1 := HKS.out.still hbw
    obtain ⟨m, bb, hmb, x1, x2, x3, rfl, hbt, hrun, d1, d2, d3, d4, dl⟩ := HKS.out.at HX.out.2 HLK.out
    have hbb : bb ≠ w.heap.size + 1 := by have : bb < W0.heap.size := lt_of_cell d1; omega
    rw [← hbw.cell (lt_of_cell d1)] at d1
    rw [← hbw.cell (lt_of_cell d2)] at d2
    rw [← hbw.cell (lt_of_cell d3)] at d3
    rw [← hbw.cell (lt_of_cell d4)] at d4
    have hmbb : w1.heap[mb]? = W0.heap[mb]? := hbw.block mb HKS.out.mn.lt
    have G0 : w1.cell? ⟨gb, 0, none⟩ = some (.map (some mb)) := hk1.bx.cell 0 (by simp)
    have G1 : w1.cell? ⟨gb, 1, none⟩ = some (.slice (some ⟨bb, 0, none⟩) bl.length cap) := hk1.bx.cell 1 (by simp)
    have A1 : w1.cell? ⟨w.heap.size, 1, none⟩ = some (.string x) := bx1.cell 1 (by simp)
    have Z0 : w1.cell? ⟨w.heap.size + 1, 0, none⟩ = some (.string ByteArray.empty) := bx2.cell 0 (by simp)
    have Z1 : w1.cell? ⟨w.heap.size + 1, 1, none⟩ = some (.string ByteArray.empty) := bx2.cell 1 (by simp)
    have Z2 : w1.cell? ⟨w.heap.size + 1, 2, none⟩ = some (.bool false) := bx2.cell 2 (by simp)
    have Z3 : w1.cell? ⟨w.heap.size + 1, 3, none⟩ = some (.slice none 0 0) := bx2.cell 3 (by simp)
    have y0 : w1.frozen? ⟨w.heap.size + 1, 0, none⟩ = false := bx2.frozen 0
    have y1 : w1.frozen? ⟨w.heap.size + 1, 1, none⟩ = false := bx2.frozen 1
    have y2 : w1.frozen? ⟨w.heap.size + 1, 2, none⟩ = false := bx2.frozen 2
    have y3 : w1.frozen? ⟨w.heap.size + 1, 3, none⟩ = false := bx2.frozen 3
    have HLY := (show Hid (Lies w1 (fun q => q < W0.heap.size) T (.slice x1 x2 x3)) from (dl.lt.keep (fun q hq => hbw.block q hq.2)).mono (fun q hq => hq.2))
    have hlen : bl.length ≤ 9223372036854775807 := by
      obtain ⟨_, _, _, _, _, h, _⟩ := HKS.out.rd
      exact h
    have i1 : (0 : Int) ≤ (m : Int) := by omega
    have i2 : (m : Int) < (bl.length : Int) := by omega
    have g1 : gb ≠ w.heap.size + 1 := by have := HKS.out.bx.lt; omega
    have g2 : mb ≠ w.heap.size + 1 := by have := HKS.out.mn.lt; omega
    have g3 : bb ≠ w.heap.size + 1 := hbb
    have hSQ : ∀ wq : World, (∀ q, q ≠ w.heap.size + 1 → wq.heap[q]? = w1.heap[q]?) → wq.cell? ⟨gb, 0, none⟩ = some (.map (some mb)) ∧ wq.cell? ⟨gb, 1, none⟩ = some (.slice (some ⟨bb, 0, none⟩) bl.length cap) ∧ wq.cell? ⟨w.heap.size, 1, none⟩ = some (.string x) ∧ wq.cell? ⟨bb, m * 5 + 1, none⟩ = some (.string T.name) ∧ wq.cell? ⟨bb, m * 5 + 2, none⟩ = some (.string T.text) ∧ wq.cell? ⟨bb, m * 5 + 3, none⟩ = some (.bool T.leaf) ∧ wq.cell? ⟨bb, m * 5 + 4, none⟩ = some (.slice x1 x2 x3) ∧ (Instr.lookup 65 (.map (some mb)) (.string x) false).run Try.prog wq = .ok (.int .i64 (m : Nat)) wq := fun wq h =>
      ⟨(World.cell?_of_block (w := w1) (h gb g1)).trans G0, (World.cell?_of_block (w := w1) (h gb g1)).trans G1, (World.cell?_of_block (w := w1) (h w.heap.size (by omega))).trans A1, (World.cell?_of_block (w := w1) (h bb g3)).trans d1, (World.cell?_of_block (w := w1) (h bb g3)).trans d2, (World.cell?_of_block (w := w1) (h bb g3)).trans d3, (World.cell?_of_block (w := w1) (h bb g3)).trans d4, hrun _ ((h mb g2).trans hmbb)⟩
    have hS0 := hSQ w1.drew (fun q _ => rfl)
    have hS1 := hSQ ((((w1.setCell ⟨w.heap.size + 1, 0, none⟩ (.string T.name)).setCell ⟨w.heap.size + 1, 1, none⟩ (.string T.text)).setCell ⟨w.heap.size + 1, 2, none⟩ (.bool T.leaf)).setCell ⟨w.heap.size + 1, 3, none⟩ (.slice x1 x2 x3)).drew (fun q e2 => (blk_setCell_other _ _ _ _ e2).trans ((blk_setCell_other _ _ _ _ e2).trans ((blk_setCell_other _ _ _ _ e2).trans (blk_setCell_other _ _ _ _ e2))))
    clear hb1 HV bx1 bx2 hk1 hrun dl G0 G1 A1 d1 d2 d3 d4 HLK hbt hmb hmbb HX1 HX2 hSQ g1 g2 g3 hbb
    go_wp2_with fail
    go_region_held3 (fun wq => wq.cell? ⟨gb, 0, none⟩ = some (.map (some mb)) ∧ wq.cell? ⟨gb, 1, none⟩ = some (.slice (some ⟨bb, 0, none⟩) bl.length cap) ∧ wq.cell? ⟨w.heap.size, 1, none⟩ = some (.string x) ∧ wq.cell? ⟨bb, m * 5 + 1, none⟩ = some (.string T.name) ∧ wq.cell? ⟨bb, m * 5 + 2, none⟩ = some (.string T.text) ∧ wq.cell? ⟨bb, m * 5 + 3, none⟩ = some (.bool T.leaf) ∧ wq.cell? ⟨bb, m * 5 + 4, none⟩ = some (.slice x1 x2 x3) ∧ (Instr.lookup 65 (.map (some mb)) (.string x) false).run Try.prog wq = .ok (.int .i64 (m : Nat)) wq) (first | with_reducible exact hS0 | with_reducible exact hS1) (fail)
    clear hS0 hS1
    go_wp2_with fail
    refine bodyPost_ret (v := .agg #[.string T.name, .string T.text, .bool T.leaf, .slice x1 x2 x3]) (by simp [results, Try.results54, go_sem, Z0, Z1, Z2, Z3]) rfl ⟨_, rfl, ?_, ?_⟩
    · exact ((((HW1.out.setCell (by simp) _).setCell (by simp) _).setCell (by simp) _).setCell (by simp) _).drew
    · refine Lies.mono (S := fun q => q < W0.heap.size) (fun q hq => .inl hq) (Lies.keep (w := w1) (fun q hq => ?_) HLY.out)
      have e2 : q ≠ w.heap.size + 1 := by omega
      exact (blk_setCell_other _ _ _ _ e2).trans ((blk_setCell_other _ _ _ _ e2).trans ((blk_setCell_other _ _ _ _ e2).trans (blk_setCell_other _ _ _ _ e2)))
end Go.Proofs.Ytkkhdkfmaopmfaa
