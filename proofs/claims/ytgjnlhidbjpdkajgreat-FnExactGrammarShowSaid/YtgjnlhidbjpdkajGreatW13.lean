import Derived.Test.YtgjnlhidbjpdkajGreatW12
/-! The program's writer: the whole text. -/
namespace Go.Proofs.YtgjnlhidbjpdkajGreat
open Go.RowKit Go.Deep Go.Lib
set_option linter.unusedVariables false
set_option maxRecDepth 100000
set_option linter.unusedSimpArgs false

theorem fits {T X Y : ByteArray} {f s : List ByteArray} (hg : Gd f s) (he : T ++ (lnT s ++ Y) = X) (hX : X.size ≤ 1099511627776) : (wAll T true f).1.size ≤ 4398046511104 := by
  have h1 := congrArg ByteArray.size (line_text (T := T) hg)
  have h2 := congrArg ByteArray.size he
  simp only [ByteArray.size_append] at h1 h2
  omega
theorem shw_parts (d : DGrammar) (hsm : (shw d).size ≤ 1099511627776) : (lnT (langW d.name) ++ cat (d.tokens.map tokT)).size ≤ 1099511627776 ∧ (lnT (langW d.name) ++ cat (d.tokens.map tokT) ++ cat (d.levels.map levT)).size ≤ 1099511627776 := by
  unfold shw at hsm
  simp only [ByteArray.size_append] at hsm ⊢
  omega

set_option maxHeartbeats 12800000 in
theorem wlang_any {S : Nat → Prop} (d : DGrammar) (hok : Gok d) (hsm : d.Sm) (v1 v2 v3 v4 : Value) (p : Nat) (W0 w : World) (hW : Below W0.heap.size W0 w) (hp : W0.heap.size ≤ p) (hL : DGrammarL W0 S d v1 v2 v3 v4) (h : Wr p [.string d.name, v1, v2, v3, v4] ⟨#[]⟩ false w) :
    Calls Tryz.prog 21 #[.pointer (some ⟨p, 0, none⟩)] w fun e w' => WL p [.string d.name, v1, v2, v3, v4] (shw d) w e w' := by
  obtain ⟨hT, hV, hR, hP⟩ := hL
  obtain ⟨at1, ct, bt, ot, rfl, hct, hmt, hat, hcellt⟩ := hT
  obtain ⟨av, cv, bv, ov, sv, rfl, hcv, hmv, hav, hcellv, hrv⟩ := hV
  obtain ⟨ar, cr, br, orr, sr, rfl, hcr, hmr, har, hcellr, hrr⟩ := hR
  have HCT := (show Hid _ from hcellt); clear hcellt
  have HCV := (show Hid _ from hcellv); clear hcellv
  have HCR := (show Hid _ from hcellr); clear hcellr
  have HAT := (show Hid _ from hat); clear hat
  have HAV := (show Hid _ from hav); clear hav
  have HAR := (show Hid _ from har); clear har
  have HRV := (show Hid _ from hrv); clear hrv
  have HRR := (show Hid _ from hrr); clear hrr
  have HP := (show Hid _ from hP); clear hP
  unfold maxLen at hmt hmv hmr
  have HSZ := (show Hid _ from hok.size hsm)
  have HSP := (show Hid _ from shw_parts d HSZ.out)
  have hlt0 := h.lt
  have hnm := own_size hok.name
  have HB0 := (show Hid _ from Box.new w 101 [.pointer (some ⟨p, 0, none⟩)])
  have HF0 := (show Hid _ from Fr.of_below (p := p) (bel_alloc w (.cells #[.pointer (some ⟨p, 0, none⟩)] 101)) (by omega))
  have HWA := (show Hid _ from bel_trans hW (bel_alloc w (.cells #[.pointer (some ⟨p, 0, none⟩)] 101)))
  have hl1 := wline53 #[.pointer (some ⟨w.heap.size, 0, none⟩)] p _ (langW d.name) _ _ _ (h.still (bel_alloc w (.cells #[.pointer (some ⟨p, 0, none⟩)] 101))) (fits (Y := ⟨#[]⟩) (lang_gd hok.name) rfl (by
      have h1 := HSP.out.1
      rw [ByteArray.size_append] at h1
      have q : (ByteArray.mk #[]).size = 0 := rfl
      simp only [ByteArray.size_append, q]
      omega))
    (fun w' hF hw' => cl53 p d.name _ _ _ _ w.heap.size (by omega) (⟨#[]⟩, true) w' hw' (hF.box HB0.out (by omega) (by decide)))
  rw [line_text (lang_gd hok.name), nil_ba] at hl1
  have HL1 := (show Hid _ from hl1); clear hl1 h
  have HOK := (show Hid _ from hok); clear hok
  have HSM := (show Hid _ from hsm); clear hsm
  go_enter Tryz.func21, Tryz.ntmps21
  go_wp2_with fail
  refine Calls.mono HL1.out ?_
  rintro e w1 ⟨rfl, ⟨G1, h1⟩, h2⟩
  have Q0 : w1.cell? ⟨w.heap.size, 0, none⟩ = some (.pointer (some ⟨p, 0, none⟩)) := (h2.box HB0.out (by omega) (by decide)).cell 0 (by simp)
  have C1 := h1.cell4.2.1
  have H1 := (show Hid _ from (⟨h1, h2⟩ : _ ∧ _)); clear h1 h2 HL1
  go_wp2_with fail
  go_loopw [17] (fun i wr => ∃ j : Nat, i = .int .i64 j ∧ j ≤ d.tokens.length ∧ Hid (∃ (T : ByteArray) (G : Bool), Wr p [.string d.name, .slice at1 d.tokens.length ct, .slice av d.levels.length cv, .slice ar d.rules.length cr, v4] T G wr ∧ Fr p (w.alloc (.cells #[.pointer (some ⟨p, 0, none⟩)] 101)) wr ∧ T ++ cat ((d.tokens.drop (j)).map tokT) = lnT (langW d.name) ++ cat (d.tokens.map tokT))) (fun i _ => d.tokens.length - (intOf i).toNat)
  case atStart => exact ⟨0, rfl, Nat.zero_le _, _, G1, H1.out.1, H1.out.2, rfl⟩
  case round =>
    obtain ⟨j, rfl, hj, HR⟩ := hrel
    clear Q0 C1
    by_cases hlt : j < d.tokens.length
    · have hlt' := hlt
      obtain ⟨rfl, _⟩ := HAT.out (by omega)
      obtain ⟨T, G, hw, hF, hE⟩ := HR.out
      have hplt := hw.lt
      have hbw := hF.below HWA.out hp
      have hqw := hF.box HB0.out (by omega) (by decide)
      have Q0 : wr.cell? ⟨w.heap.size, 0, none⟩ = some (.pointer (some ⟨p, 0, none⟩)) := hqw.cell 0 (by simp)
      rw [cat_drop tokT hlt'] at hE
      obtain ⟨c0, c1, c2, _⟩ := HCT.out j hlt'
      rw [← hbw.cell (lt_of_cell c0)] at c0
      rw [← hbw.cell (lt_of_cell c1)] at c1
      rw [← hbw.cell (lt_of_cell c2)] at c2
      have hgd := tok_gd (HOK.out.tok j hlt')
      have hts := HOK.out.tok_size j hlt'
      have QA : (wr.alloc (.cells #[.string d.tokens[j].name, .string d.tokens[j].rx, .bool d.tokens[j].skip] 46)).cell? ⟨w.heap.size, 0, none⟩ = some (.pointer (some ⟨p, 0, none⟩)) := (hqw.still (bel_alloc _ _)).cell 0 (by simp)
      have hBn := Box.new wr 46 [.string d.tokens[j].name, .string d.tokens[j].rx, .bool d.tokens[j].skip]
      have HFn := (show Hid _ from Fr.of_below (p := p) (bel_alloc wr (.cells #[.string d.tokens[j].name, .string d.tokens[j].rx, .bool d.tokens[j].skip] 46)) (by omega))
      have hln := wline55 #[.pointer (some ⟨w.heap.size, 0, none⟩), .pointer (some ⟨wr.heap.size, 0, none⟩)] p _ (tokW d.tokens[j]) T G _ (hw.still (bel_alloc wr (.cells #[.string d.tokens[j].name, .string d.tokens[j].rx, .bool d.tokens[j].skip] 46))) (fits hgd hE HSP.out.1)
        (fun w' hF' hw' => cl55 p _ d.tokens[j] (by omega) (by omega) w.heap.size wr.heap.size (T, true) w' hw' (hF'.box (hqw.still (bel_alloc _ _)) (by omega) (by decide)) (hF'.box hBn (by omega) (by decide)))
      rw [line_text hgd] at hln
      rw [← ba_assoc] at hE
      have HE := (show Hid _ from (⟨hF, hE⟩ : _ ∧ _))
      have HLN := (show Hid _ from hln)
      clear hln hE hF hw hbw hqw hgd hts hBn HR
      have htT : tokT d.tokens[j] = lnT (tokW d.tokens[j]) := rfl
      rw [htT] at HE
      clear htT
      generalize d.tokens[j] = t at *
      go_wp2_with fail
      refine Calls.mono HLN.out ?_
      rintro e w2 ⟨rfl, ⟨G2, h3⟩, h4⟩
      have HN : Hid (∃ (T : ByteArray) (G : Bool), Wr p [.string d.name, .slice (some ⟨bt, ot, none⟩) d.tokens.length ct, .slice av d.levels.length cv, .slice ar d.rules.length cr, v4] T G w2 ∧ Fr p (w.alloc (.cells #[.pointer (some ⟨p, 0, none⟩)] 101)) w2 ∧ T ++ cat ((d.tokens.drop (j + 1)).map tokT) = lnT (langW d.name) ++ cat (d.tokens.map tokT)) := ⟨_, G2, h3, HE.out.1.trans (HFn.out.trans h4), HE.out.2⟩
      clear h3 h4 HLN HE HFn Q0 QA c0 c1
      go_wp2_with fail
      exact ⟨⟨j + 1, by go_num, by omega, HN⟩, by simp [intOf]; omega⟩
    · obtain ⟨T, G, hw, hF, hE⟩ := HR.out
      rw [cat_end tokT (by omega), ba_nil] at hE
      have Q0 : wr.cell? ⟨w.heap.size, 0, none⟩ = some (.pointer (some ⟨p, 0, none⟩)) := (hF.box HB0.out (by omega) (by decide)).cell 0 (by simp)
      have C1 := hw.cell4.2.2.1
      have HS := (show Hid _ from (⟨T, G, hw, hF, by rw [hE]; rfl⟩ : ∃ (T : ByteArray) (G : Bool), Wr p [.string d.name, .slice at1 d.tokens.length ct, .slice av d.levels.length cv, .slice ar d.rules.length cr, v4] T G wr ∧ Fr p (w.alloc (.cells #[.pointer (some ⟨p, 0, none⟩)] 101)) wr ∧ T ++ cat ((d.levels.drop 0).map levT) = lnT (langW d.name) ++ cat (d.tokens.map tokT) ++ cat (d.levels.map levT)))
      clear hw hF hE HR
      go_wp2_with fail
      go_loopw [31] (fun i wr => ∃ j : Nat, i = .int .i64 j ∧ j ≤ d.levels.length ∧ Hid (∃ (T : ByteArray) (G : Bool), Wr p [.string d.name, .slice at1 d.tokens.length ct, .slice av d.levels.length cv, .slice ar d.rules.length cr, v4] T G wr ∧ Fr p (w.alloc (.cells #[.pointer (some ⟨p, 0, none⟩)] 101)) wr ∧ T ++ cat ((d.levels.drop (j)).map levT) = lnT (langW d.name) ++ cat (d.tokens.map tokT) ++ cat (d.levels.map levT))) (fun i _ => d.levels.length - (intOf i).toNat)
      case atStart => exact ⟨0, rfl, Nat.zero_le _, HS.out⟩
      case round =>
        obtain ⟨j, rfl, hj, HR⟩ := hrel
        clear Q0 C1
        by_cases hlt : j < d.levels.length
        · have hlt' := hlt
          obtain ⟨rfl, _⟩ := HAV.out (by omega)
          obtain ⟨T, G, hw, hF, hE⟩ := HR.out
          have hplt := hw.lt
          have hbw := hF.below HWA.out hp
          have hqw := hF.box HB0.out (by omega) (by decide)
          have Q0 : wr.cell? ⟨w.heap.size, 0, none⟩ = some (.pointer (some ⟨p, 0, none⟩)) := hqw.cell 0 (by simp)
          rw [cat_drop levT hlt'] at hE
          obtain ⟨c0, c1⟩ := HCV.out j hlt'
          have hst := HRV.out j hlt'
          obtain ⟨al, cl, el, _⟩ := hst.form
          rw [el] at c1 hst
          rw [← hbw.cell (lt_of_cell c0)] at c0
          rw [← hbw.cell (lt_of_cell c1)] at c1
          have hgd := lev_gd d.levels[j]
          have hts := (HSM.out.levels.2 j hlt').lits.2
          have QA : (wr.alloc (.cells #[.int .i64 d.levels[j].assoc, .slice al d.levels[j].lits.length cl] 49)).cell? ⟨w.heap.size, 0, none⟩ = some (.pointer (some ⟨p, 0, none⟩)) := (hqw.still (bel_alloc _ _)).cell 0 (by simp)
          have hBn := Box.new wr 49 [.int .i64 d.levels[j].assoc, .slice al d.levels[j].lits.length cl]
          have HFn := (show Hid _ from Fr.of_below (p := p) (bel_alloc wr (.cells #[.int .i64 d.levels[j].assoc, .slice al d.levels[j].lits.length cl] 49)) (by omega))
          have hln := wline57 #[.pointer (some ⟨w.heap.size, 0, none⟩), .pointer (some ⟨wr.heap.size, 0, none⟩)] p _ (levW d.levels[j]) T G _ (hw.still (bel_alloc wr (.cells #[.int .i64 d.levels[j].assoc, .slice al d.levels[j].lits.length cl] 49))) (fits hgd hE HSP.out.2)
            (fun w' hF' hw' => cl57 p _ d.levels[j] _ W0 w' (hF'.below (bel_trans hbw (bel_alloc _ _)) hp) hp hst hts w.heap.size wr.heap.size (T, true) hw' (hF'.box (hqw.still (bel_alloc _ _)) (by omega) (by decide)) (hF'.box hBn (by omega) (by decide)))
          rw [line_text hgd] at hln
          rw [← ba_assoc] at hE
          have HE := (show Hid _ from (⟨hF, hE⟩ : _ ∧ _))
          have HLN := (show Hid _ from hln)
          clear hln hE hF hw hbw hqw hgd hts hBn HR hst el
          have htT : levT d.levels[j] = lnT (levW d.levels[j]) := rfl
          rw [htT] at HE
          clear htT
          generalize d.levels[j] = t at *
          go_wp2_with fail
          refine Calls.mono HLN.out ?_
          rintro e w2 ⟨rfl, ⟨G2, h3⟩, h4⟩
          have HN : Hid (∃ (T : ByteArray) (G : Bool), Wr p [.string d.name, .slice at1 d.tokens.length ct, .slice (some ⟨bv, ov, none⟩) d.levels.length cv, .slice ar d.rules.length cr, v4] T G w2 ∧ Fr p (w.alloc (.cells #[.pointer (some ⟨p, 0, none⟩)] 101)) w2 ∧ T ++ cat ((d.levels.drop (j + 1)).map levT) = lnT (langW d.name) ++ cat (d.tokens.map tokT) ++ cat (d.levels.map levT)) := ⟨_, G2, h3, HE.out.1.trans (HFn.out.trans h4), HE.out.2⟩
          clear h3 h4 HLN HE HFn Q0 QA c0 c1
          go_wp2_with fail
          exact ⟨⟨j + 1, by go_num, by omega, HN⟩, by simp [intOf]; omega⟩
        · obtain ⟨T, G, hw, hF, hE⟩ := HR.out
          rw [cat_end levT (by omega), ba_nil] at hE
          have Q0 : wr.cell? ⟨w.heap.size, 0, none⟩ = some (.pointer (some ⟨p, 0, none⟩)) := (hF.box HB0.out (by omega) (by decide)).cell 0 (by simp)
          have C1 := hw.cell4.2.2.2.1
          have HS := (show Hid _ from (⟨T, G, hw, hF, by rw [hE]; rfl⟩ : ∃ (T : ByteArray) (G : Bool), Wr p [.string d.name, .slice at1 d.tokens.length ct, .slice av d.levels.length cv, .slice ar d.rules.length cr, v4] T G wr ∧ Fr p (w.alloc (.cells #[.pointer (some ⟨p, 0, none⟩)] 101)) wr ∧ T ++ cat ((d.rules.drop 0).map (rulT d.parts)) = shw d))
          clear hw hF hE HR
          go_wp2_with fail
          go_loopw [45] (fun i wr => ∃ j : Nat, i = .int .i64 j ∧ j ≤ d.rules.length ∧ Hid (∃ (T : ByteArray) (G : Bool), Wr p [.string d.name, .slice at1 d.tokens.length ct, .slice av d.levels.length cv, .slice ar d.rules.length cr, v4] T G wr ∧ Fr p (w.alloc (.cells #[.pointer (some ⟨p, 0, none⟩)] 101)) wr ∧ T ++ cat ((d.rules.drop (j)).map (rulT d.parts)) = shw d)) (fun i _ => d.rules.length - (intOf i).toNat)
          case atStart => exact ⟨0, rfl, Nat.zero_le _, HS.out⟩
          case round =>
            obtain ⟨j, rfl, hj, HR⟩ := hrel
            clear Q0 C1
            by_cases hlt : j < d.rules.length
            · have hlt' := hlt
              obtain ⟨rfl, _⟩ := HAR.out (by omega)
              obtain ⟨T, G, hw, hF, hE⟩ := HR.out
              have hplt := hw.lt
              have hbw := hF.below HWA.out hp
              have hqw := hF.box HB0.out (by omega) (by decide)
              have Q0 : wr.cell? ⟨w.heap.size, 0, none⟩ = some (.pointer (some ⟨p, 0, none⟩)) := hqw.cell 0 (by simp)
              rw [cat_drop (rulT d.parts) hlt'] at hE
              obtain ⟨c0, c1, _⟩ := HCR.out j hlt'
              have hst := HRR.out j hlt'
              obtain ⟨al, cl, el, _⟩ := hst.form
              rw [el] at c1 hst
              rw [← hbw.cell (lt_of_cell c0)] at c0
              rw [← hbw.cell (lt_of_cell c1)] at c1
              have hgd := HOK.out.rule_gd j hlt'
              have hts := HSM.out.rules.2 j hlt'
              obtain ⟨e1, e2, hord, _⟩ := HOK.out.ord j hlt'
              have hmem := sAlts_mem d.parts _ _ _ hord
              have hps : ∀ x (hx : x < d.parts.length), d.parts[x].s.size ≤ 1048576 := fun x hx => (HSM.out.parts.2 x hx).s
              have QA : (wr.alloc (.cells #[.string d.rules[j].name, .slice al d.rules[j].alts.length cl] 54)).cell? ⟨w.heap.size, 0, none⟩ = some (.pointer (some ⟨p, 0, none⟩)) := (hqw.still (bel_alloc _ _)).cell 0 (by simp)
              have hBn := Box.new wr 54 [.string d.rules[j].name, .slice al d.rules[j].alts.length cl]
              have HFn := (show Hid _ from Fr.of_below (p := p) (bel_alloc wr (.cells #[.string d.rules[j].name, .slice al d.rules[j].alts.length cl] 54)) (by omega))
              have hln := wline59 #[.pointer (some ⟨w.heap.size, 0, none⟩), .pointer (some ⟨wr.heap.size, 0, none⟩)] p _ (d.rules[j].name :: ⟨#[61]⟩ :: bars (altF (flI d.parts d.parts.length)) d.rules[j].alts) T G _ (hw.still (bel_alloc wr (.cells #[.string d.rules[j].name, .slice al d.rules[j].alts.length cl] 54))) (fits hgd hE HSZ.out)
                (fun w' hF' hw' => cl59 (flI d.parts d.parts.length) _ p d.rules[j] _ W0 w' (hF'.below (bel_trans hbw (bel_alloc _ _)) hp) hp hst hts.name (fun k hk => (hts.alts.2 k hk).label)
                  (fun k hk w3 v3 A3 hW3 hI3 h3 => by
                    obtain ⟨ea', eb', hit⟩ := hmem k hk
                    exact witems_any d.parts HOK.out.fit.2.2.2 hps d.name _ _ _ _ p W0 hp HP.out _ _ v3 _ _ _ w3 A3 hit (Int.le_refl _) hW3 hI3 h3)
                  w.heap.size wr.heap.size (T, true) hw' (hF'.box (hqw.still (bel_alloc _ _)) (by omega) (by decide)) (hF'.box hBn (by omega) (by decide)))
              rw [line_text hgd] at hln
              rw [← ba_assoc] at hE
              have HE := (show Hid _ from (⟨hF, hE⟩ : _ ∧ _))
              have HLN := (show Hid _ from hln)
              clear hln hE hF hw hbw hqw hgd hts hBn HR hst el hord hmem hps
              have htT : rulT d.parts d.rules[j] = lnT (sayR d.parts d.parts.length d.rules[j]) := rfl
              rw [htT] at HE
              clear htT
              generalize d.rules[j] = t at *
              go_wp2_with fail
              refine Calls.mono HLN.out ?_
              rintro e w2 ⟨rfl, ⟨G2, h3⟩, h4⟩
              have HN : Hid (∃ (T : ByteArray) (G : Bool), Wr p [.string d.name, .slice at1 d.tokens.length ct, .slice av d.levels.length cv, .slice (some ⟨br, orr, none⟩) d.rules.length cr, v4] T G w2 ∧ Fr p (w.alloc (.cells #[.pointer (some ⟨p, 0, none⟩)] 101)) w2 ∧ T ++ cat ((d.rules.drop (j + 1)).map (rulT d.parts)) = shw d) := ⟨_, G2, h3, HE.out.1.trans (HFn.out.trans h4), HE.out.2⟩
              clear h3 h4 HLN HE HFn Q0 QA c0 c1
              go_wp2_with fail
              exact ⟨⟨j + 1, by go_num, by omega, HN⟩, by simp [intOf]; omega⟩
            · obtain ⟨T, G, hw, hF, hE⟩ := HR.out
              rw [cat_end (rulT d.parts) (by omega), ba_nil] at hE
              have HS := (show Hid _ from (⟨hw, HF0.out.trans hF, hE⟩ : _ ∧ _ ∧ _))
              clear hw hF hE HR
              go_wp2_with fail
              refine bodyPost_end (v := .tuple #[]) (by simp [results, Tryz.results21]) rfl ?_
              exact ⟨rfl, ⟨G, by rw [← HS.out.2.2]; exact HS.out.1⟩, HS.out.2.1⟩
end Go.Proofs.YtgjnlhidbjpdkajGreat
