import Derived.Test.YtpmlagenakcdfaaTsp
import Derived.Test.YtpmlagenakcdfaaDb
/-! Terminals of the program. -/
namespace Go.Proofs.Ytpmlagenakcdfaa
open Go.RowKit Go.Deep Go.Maps Go.WideMaps Go.ChangeMaps
set_option linter.unusedVariables false
set_option maxRecDepth 100000
set_option linter.unusedSimpArgs false

theorem Met.keep {w w' : World} {b : Nat} {ts : List ByteArray} (h : Met w b ts) (hb : w'.heap[b]? = w.heap[b]?) : Met w' b ts := by
  obtain ⟨D, h1, h2⟩ := h
  refine ⟨D, ?_, h2⟩
  obtain ⟨es, clock, g1, g2⟩ := h1
  exact ⟨es, clock, hb.trans g1, g2⟩
theorem Met.grown {w w' : World} {b : Nat} {ts : List ByteArray} {o : Option Nat} (h : Met w b ts) (hg : w.grownBy w' o) (hne : ∀ k, o = some k → b ≠ k) : Met w' b ts :=
  h.keep (hg.block b h.lt (fun e => hne b e.symm rfl))
/-- Between two rounds. -/
structure ImI (w : World) (M : Nat) (d : Bn) (l : List Wd) (RR : List Int × List Int × Int) (j : Nat) (ts ps : List Int) (u v : Value) (wr : World) : Prop where
  bel : Below w.heap.size w wr
  met : Met wr M (nms d)
  rows : Rws wr (M + 1) ts ps u v
  eq : tmGo (nms d) (l.drop j) j ts ps = RR
  len : ts.length ≤ j ∧ ps.length ≤ j
theorem take_nm {d : Bn} {j : Nat} (h : j < d.terms.length) : (nms d).take (j + 1) = (nms d).take j ++ [d.terms[j].name] := by
  rw [List.take_add_one]
  congr 1
  simp [nms, h]
theorem new_nm {d : Bn} (hb : bnB d = true) {j : Nat} (h : j < d.terms.length) : d.terms[j].name ∉ (nms d).take j := by
  have h1 : apB (nms d) = true := by
    unfold bnB at hb
    simp only [Bool.and_eq_true] at hb
    exact hb.2.1.2
  have h2 : (nms d).Nodup := by simpa [apB] using h1
  intro hm
  obtain ⟨i, hi, e⟩ := List.mem_iff_getElem.1 hm
  rw [List.length_take] at hi
  rw [List.getElem_take] at e
  have h3 := List.pairwise_iff_getElem.1 h2 i j (by omega) (by simpa [nms] using h) (by omega)
  apply h3
  rw [e]
  simp [nms]
theorem tn_size {x : Wd} (h1 : x.name.size ≤ 1048576) (h2 : x.text.size ≤ 1048576) : (tn x).size ≤ 1048578 := by
  unfold tn
  split
  · rw [ByteArray.size_append, ByteArray.size_append]
    have : quoB.size = 1 := rfl
    omega
  · omega
set_option maxHeartbeats 3200000 in
theorem iTm_any {S S' : Nat → Prop} (d : Bn) (l : List Wd) (v0 v1 v3 vl : Value) (w : World) (h : BLies w S d v0 v1 v3) (hl : Wds w S' l vl) (hs : ∀ i (hi : i < l.length), l[i].name.size ≤ 1048576 ∧ l[i].text.size ≤ 1048576 ∧ l[i].modes.size ≤ 1048576) :
    Calls Try.prog 53 #[.agg #[v0, v1, .int .i64 d.own, v3], vl] w fun e w' => TmAns (tmR d l) w e w' := by
  have hb0 := bel_alloc w (.cells #[v0, v1, .int .i64 d.own, v3] 34)
  have HB := (show Hid _ from iBnf_any d v0 v1 v3 _ (h.still hb0))
  have hq := four_box w v0 v1 (.int .i64 d.own) v3 34
  have HS := (show Hid _ from hs); clear hs
  obtain ⟨a0, p0, bt, ot, rfl, hct, hmt, hat, hcellt⟩ := h.terms
  obtain ⟨a1, p1, rfl, _⟩ := h.nons.form
  obtain ⟨a3, p3, rfl, _⟩ := h.prods.form
  have HT := (show Hid _ from (⟨hat, hcellt⟩ : _ ∧ _)); clear hat hcellt
  obtain ⟨al, cl, bl, ol, rfl, hcl, hml, hal, hcl2⟩ := hl
  have HL := (show Hid _ from (⟨hal, hcl2⟩ : _ ∧ _)); clear hal hcl2
  unfold maxLen at hml hmt
  have H0 := (show Hid _ from (⟨hb0, hq⟩ : _ ∧ _))
  obtain ⟨q0, q1, q2, q3⟩ := hq
  clear hb0 h
  obtain ⟨i3, hi3, hzz⟩ := Option.map_eq_some_iff.1 info3i
  simp only [Prod.mk.injEq] at hzz
  obtain ⟨hz0, hz1, hz2⟩ := hzz
  have hmk := fun w => run_makeMap (P := Try.prog) 144 w
  generalize hRR : tmR d l = RR
  unfold tmR at hRR
  cases hbn : bnB d
  · rw [hbn] at HB hRR
    have hR2 : RR = ([], [], 1) := by rw [← hRR, if_neg (by simp)]
    subst hR2
    clear hRR hbn
    go_enter Try.func53, Try.ntmps53
    go_wp2_with fail
    refine Calls.mono HB.out ?_
    rintro e w1 ⟨rfl, hb1⟩
    have HB1 := (show Hid _ from bel_trans H0.out.1 hb1); clear hb1 q0 q1 q2 q3
    go_wp2_with fail
    exact bodyPost_ret (v := .tuple #[.slice none 0 0, .slice none 0 0, .int .i64 1]) (by simp [results, Try.results53, go_sem]) rfl (ans_nil HB1.out)
  · have HBN := (show Hid _ from hbn)
    have hz : szB d = true := by
      unfold bnB at hbn
      simp only [Bool.and_eq_true] at hbn
      exact hbn.1
    have hT60 : d.terms.length ≤ 60 := by
      simp only [szB, decide_eq_true_eq] at hz
      exact hz.1
    rw [hbn] at HB hRR
    clear hbn hz
    by_cases hle : l.length ≤ 1000
    · rw [if_pos ⟨rfl, hle⟩] at hRR
      have HRR := (show Hid _ from hRR); clear hRR
      go_enter Try.func53, Try.ntmps53
      go_wp2_with fail
      refine Calls.mono HB.out ?_
      rintro e w1 ⟨rfl, hb1⟩
      have HB1 := (show Hid _ from bel_trans H0.out.1 hb1)
      clear q0 q1 q2 q3
      obtain ⟨q0, q1, q2, q3⟩ := (Four.still H0.out.2 hb1).still (bel_alloc w1 (.map #[] 0))
      clear hb1
      go_wp2_with fail
      clear q0 q1 q2 q3
      go_loopw [28] (fun i wr => ∃ j : Nat, i = .int .i64 j ∧ j ≤ d.terms.length ∧ Hid (Met wr w1.heap.size ((nms d).take j) ∧ Below w.heap.size w wr)) (fun i _ => d.terms.length - (intOf i).toNat)
      case atStart => exact ⟨0, rfl, Nat.zero_le _, by simpa using Met.new w1, bel_trans HB1.out (bel_alloc _ _)⟩
      case round =>
        obtain ⟨j, rfl, hj, HJ⟩ := hrel
        by_cases hjl : j < d.terms.length
        · have hjl' := hjl
          obtain ⟨rfl, _⟩ := HT.out.1 (by omega)
          obtain ⟨c0, c1, c2, hts⟩ := HT.out.2 j hjl'
          have hbel := HJ.out.2
          rw [← hbel.cell (lt_of_cell c0)] at c0
          rw [← hbel.cell (lt_of_cell c1)] at c1
          rw [← hbel.cell (lt_of_cell c2)] at c2
          have hnn := numberOf_new d.terms[j].name hts (wr.alloc (.cells #[.string d.terms[j].name, .int .i64 d.terms[j].lev, .int .i64 d.terms[j].asc] 115)) (HJ.out.1.still (bel_alloc _ _)) (new_nm HBN.out hjl') (by simp; omega)
          rw [← take_nm hjl'] at hnn
          have HNN := (show Hid _ from hnn); clear hnn hbel
          go_wp2_with fail
          refine Calls.mono HNN.out ?_
          rintro e w2 ⟨rfl, hm2, hg2⟩
          have H2 := (show Hid _ from (⟨hm2, grown_below (bel_trans HJ.out.2 (bel_alloc _ _)) hg2 HB1.out.size (bel_trans HJ.out.2 (bel_alloc _ _)).size⟩ : Met w2 w1.heap.size ((nms d).take (j + 1)) ∧ Below w.heap.size w w2)); clear hm2 hg2 c0 c1 c2
          go_wp2_with fail
          exact ⟨⟨j + 1, by go_num, by omega, H2⟩, by simp [intOf]; omega⟩
        · have hmet : Met wr w1.heap.size (nms d) := by
            have := HJ.out.1
            rw [List.take_of_length_le (by simp [nms]; omega)] at this
            exact this
          have HMet := (show Hid _ from hmet); clear hmet
          go_wp2_with fail
          go_loopw [10, 11, 39] (fun u v i wr => ∃ (j : Nat) (ts ps : List Int) (a : Option Addr) (c : Nat) (a' : Option Addr) (c' : Nat), u = .slice a ts.length c ∧ v = .slice a' ps.length c' ∧ i = .int .i64 j ∧ j ≤ l.length ∧ Hid (ImI w w1.heap.size d l RR j ts ps u v wr)) (fun _ _ i _ => l.length - (intOf i).toNat)
          case atStart =>
            exact ⟨0, [], [], none, 0, none, 0, rfl, rfl, rfl, Nat.zero_le _, HJ.out.2, HMet.out, ⟨World.ownsRow_nil _ _ _ _, World.ownsRow_nil _ _ _ _, fun k hk => by simp [Value.ownBlock] at hk⟩, HRR.out, Nat.le_refl _, Nat.le_refl _⟩
          case round =>
            clear HJ HMet
            obtain ⟨n, ts, ps, a, c, a', c', rfl, rfl, rfl, hn, HI⟩ := hrel
            have hbel := HI.out.bel
            by_cases hnl : n < l.length
            · have hnl' := hnl
              obtain ⟨rfl, _⟩ := HL.out.1 (by omega)
              obtain ⟨c0, c1, c2, c3, c4, c5, _, _, _⟩ := HL.out.2 n hnl'
              rw [← hbel.cell (lt_of_cell c0)] at c0
              rw [← hbel.cell (lt_of_cell c1)] at c1
              rw [← hbel.cell (lt_of_cell c2)] at c2
              rw [← hbel.cell (lt_of_cell c3)] at c3
              rw [← hbel.cell (lt_of_cell c4)] at c4
              rw [← hbel.cell (lt_of_cell c5)] at c5
              cases hsk : l[n].skip
              · rw [hsk] at c4
                have HTN := (show Hid _ from termName_any l[n] (wr.alloc (.cells #[.string l[n].name, .string l[n].text, .int .i64 l[n].at_, .int .i64 l[n].reach, .bool false, .string l[n].modes] 93)) (HS.out n hnl').2.1)
                rw [hsk] at HTN
                have htz := tn_size (HS.out n hnl').1 (HS.out n hnl').2.1
                have hk := keyOf_string_mk (P := Try.prog) (s := tn l[n]) Try.underlying9 (by unfold maxLen; omega)
                go_wp2_with fail
                refine Calls.mono HTN.out ?_
                rintro e w2 ⟨rfl, hb2⟩
                have hbW : Below wr.heap.size wr w2 := bel_trans (bel_alloc _ _) hb2
                have hm2 := HI.out.met.still hbW
                have HR2 := (show Hid _ from HI.out.rows.still hbW)
                have HB2 := (show Hid _ from bel_trans hbel hbW)
                have HB2b := (show Hid _ from hb2)
                have x0 := (show Hid _ from hb2)
                have hn0 : w2.cell? ⟨wr.heap.size, 4, none⟩ = some (.bool false) := by
                  rw [hb2.cell (by show wr.heap.size < (wr.alloc _).heap.size; simp)]
                  simp [go_sem]
                obtain ⟨D, g1, g2, g3, g4, g5⟩ := hm2
                clear hb2 hbW hbel c0 c1 c2 c3 c4 c5 HTN x0 HB2b
                cases hf : fnd (nms d) (tn l[n]) with
                | none =>
                  have hh : has D (ky (tn l[n])) = false := by
                    cases e : has D (ky (tn l[n]))
                    · rfl
                    · exact absurd ((g4 _).1 e) (fnd_none hf)
                  have HE := (show Hid _ from (tmGo_none (ts := ts) (ps := ps) hnl' hsk hf).symm.trans HI.out.eq)
                  have HD := (show Hid _ from g1); clear g1 g2 g3 g4 g5 hf
                  generalize tn l[n] = T at *
                  go_wp2_with (at_lookup; refine wpList_lookup_own_ok_int _ rfl _ _ 144 rfl 9 3 .i64 (string_keyed Try.underlying9) Try.underlying144 Try.underlying3 (zero3 _) w1.heap.size _ D rfl HD.out _ _ rfl hk ?_; intro x hat hwc)
                  rw [← HE.out]
                  exact bodyPost_ret (v := .tuple #[.slice none 0 0, .slice none 0 0, .int .i64 8]) (by simp [results, Try.results53, go_sem]) rfl (ans_nil HB2.out)
                | some i =>
                  obtain ⟨hi, hti, _⟩ := fnd_some hf
                  have hh : has D (ky (tn l[n])) = true := (g4 _).2 (by rw [← hti]; exact List.getElem_mem hi)
                  have ha := g5 i hi (.lit (.int .i64 0))
                  rw [hti] at ha
                  have HE := (show Hid _ from (tmGo_some (ts := ts) (ps := ps) hnl' hsk hf).symm.trans HI.out.eq)
                  have HM2 := (show Hid _ from (⟨D, g1, g2, g3, g4, g5⟩ : Met w2 w1.heap.size (nms d)))
                  have HD := (show Hid _ from (⟨g1, ha⟩ : _ ∧ _)); clear g1 g2 g3 g4 g5 hf ha hti
                  have hlen := HI.out.len
                  have HX := (show Hid _ from (⟨HR2.out.still (bel_alloc w2 (.cells #[.int .i64 (i : Int)] 3)), bel_trans HB2.out (bel_alloc w2 (.cells #[.int .i64 (i : Int)] 3)), HM2.out.lt⟩ : Rws (w2.alloc (.cells #[.int .i64 (i : Int)] 3)) (w1.heap.size + 1) ts ps (.slice a ts.length c) (.slice a' ps.length c') ∧ _ ∧ _))
                  generalize tn l[n] = T at *
                  go_upto_region 15 with (at_lookup; refine wpList_lookup_own_ok_int _ rfl _ _ 144 rfl 9 3 .i64 (string_keyed Try.underlying9) Try.underlying144 Try.underlying3 (zero3 _) w1.heap.size _ D rfl HD.out.1 _ _ rfl hk ?_; intro x hat hwc)
                  have hx : x = (i : Int) := by
                    have h2 : D.atKey (ky T) (DataW.lit (Lit.int IntKind.i64 0)) = DataW.lit (Lit.int IntKind.i64 x) := hat
                    rw [HD.out.2] at h2
                    simpa using h2.symm
                  subst hx
                  clear hat hwc
                  go_wp2_with (at_builtin; refine wpList_append_lies _ rfl (.tmp 55) (.tmp 57) 27 rfl (w1.heap.size + 1) 3 i3 _ 1 8 Try.underlying27 hi3 hz0 hz1 hz2 rfl (by decide) _ ts.length _ rfl HX.out.1.fst ⟨w2.heap.size, 0, none⟩ 1 1 [.int .i64 (i : Int)] rfl rfl ?c1 ?c2 (by decide) ?c3 (by omega) ?c4 _ rfl ?nx)
                  case c1 => exact cell_one_new _ _ _
                  case c2 => intro u hu; simp at hu; subst hu; rfl
                  case c3 => unfold maxLen; omega
                  case c4 => have := HX.out.2.2; simp; omega
                  case nx =>
                    intro g3 cap3 w6 hown6 hgr6 hat6 hlt6
                    have HR6 := (show Hid _ from HX.out.1.grow1 (n := ts.length + 1) (World.size_alloc _ _) hown6 hgr6 hat6 rfl)
                    have hz6 : w1.heap.size < w6.heap.size := by have := HX.out.2.2; have := hgr6.size; simp at this; omega
                    have HB6 := (show Hid _ from grown_below' HX.out.2.1 hgr6 (fun b hb => by have h1 := (HX.out.1.fst.lt b hb).1; have := HB1.out.size; omega) (by have := HX.out.2.1.size; omega))
                    have HM6 := (show Hid _ from (HM2.out.still (bel_alloc w2 (.cells #[.int .i64 (i : Int)] 3))).grown hgr6 (fun k hk => by have h1 := (HX.out.1.fst.lt k hk).1; omega))
                    have HX2 := (show Hid _ from (HR6.out.still (bel_alloc w6 (.cells #[.int .i64 (n : Int)] 3))))
                    clear hown6 hgr6 hat6 hlt6
                    go_wp2_with (at_builtin; refine wpList_append_lies _ rfl (.tmp 59) (.tmp 61) 27 rfl (w1.heap.size + 1) 3 i3 _ 1 8 Try.underlying27 hi3 hz0 hz1 hz2 rfl (by decide) _ ps.length _ rfl HX2.out.snd ⟨w6.heap.size, 0, none⟩ 1 1 [.int .i64 (n : Int)] rfl rfl ?c1 ?c2 (by decide) ?c3 (by omega) ?c4 _ rfl ?nx)
                    case c1 => exact cell_one_new _ _ _
                    case c2 => intro u hu; simp at hu; subst hu; rfl
                    case c3 => unfold maxLen; omega
                    case c4 => simp; omega
                    case nx =>
                      intro g4 cap4 w7 hown7 hgr7 hat7 hlt7
                      have HR7 := (show Hid _ from HX2.out.grow2 (n := ps.length + 1) (World.size_alloc _ _) hown7 hgr7 hat7 rfl)
                      have hb6' := bel_trans HB6.out (bel_alloc w6 (.cells #[.int .i64 (n : Int)] 3))
                      have HB7 := (show Hid _ from grown_below' hb6' hgr7 (fun b hb => by have h1 := (HX2.out.snd.lt b hb).1; have := HB1.out.size; omega) hb6'.size)
                      have HM7 := (show Hid _ from (HM6.out.still (bel_alloc w6 (.cells #[.int .i64 (n : Int)] 3))).grown hgr7 (fun k hk => by have h1 := (HX2.out.snd.lt k hk).1; omega))
                      clear hown7 hgr7 hat7 hlt7 hb6'
                      go_wp2_with fail
                      exact ⟨⟨n + 1, ts ++ [(i : Int)], ps ++ [(n : Int)], _, _, _, _, by rw [List.length_append]; rfl, by rw [List.length_append]; rfl, by go_num, by omega, ⟨HB7.out, HM7.out, HR7.out, HE.out, by simp; omega, by simp; omega⟩⟩, by simp [intOf]; omega⟩
              · rw [hsk] at c4
                have HN := (show Hid (∀ o, ImI w w1.heap.size d l RR (n + 1) ts ps (.slice a ts.length c) (.slice a' ps.length c') (wr.alloc o)) from fun o => ⟨bel_trans hbel (bel_alloc _ _), HI.out.met.still (bel_alloc _ _), HI.out.rows.still (bel_alloc _ _), by rw [← tmGo_skip hnl' hsk]; exact HI.out.eq, by have := HI.out.len.1; omega, by have := HI.out.len.2; omega⟩)
                clear hsk hbel
                go_wp2_with fail
                exact ⟨⟨n + 1, ts, ps, a, c, a', c', rfl, rfl, by go_num, by omega, HN.out _⟩, by simp [intOf]; omega⟩
            · have HE := (show Hid _ from (tmGo_end (nm := nms d) (ts := ts) (ps := ps) (by omega : l.length ≤ n)).symm.trans HI.out.eq)
              clear hbel
              go_wp2_with fail
              rw [← HE.out]
              exact bodyPost_ret (v := .tuple #[.slice a ts.length c, .slice a' ps.length c', .int .i64 0]) (by simp [results, Try.results53, go_sem]) rfl (HI.out.rows.ans (by have := HB1.out.size; omega) HI.out.bel)
    · rw [if_neg (fun h => hle h.2)] at hRR
      subst hRR
      go_enter Try.func53, Try.ntmps53
      go_wp2_with fail
      refine Calls.mono HB.out ?_
      rintro e w1 ⟨rfl, hb1⟩
      have HB1 := (show Hid _ from bel_trans H0.out.1 hb1); clear hb1 q0 q1 q2 q3
      go_wp2_with fail
      exact bodyPost_ret (v := .tuple #[.slice none 0 0, .slice none 0 0, .int .i64 1]) (by simp [results, Try.results53, go_sem]) rfl (ans_nil HB1.out)
end Go.Proofs.Ytpmlagenakcdfaa
