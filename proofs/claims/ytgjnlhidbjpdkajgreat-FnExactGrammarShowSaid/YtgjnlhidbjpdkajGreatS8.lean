import Derived.Test.YtgjnlhidbjpdkajGreatW14
import Derived.Test.YtgjnlhidbjpdkajGreatG10
/-! The specification's GrammarShow. -/
namespace Go.Proofs.YtgjnlhidbjpdkajGreat
open Go.RowKit Go.Deep Go.Lib
set_option linter.unusedVariables false
set_option maxRecDepth 100000
set_option linter.unusedSimpArgs false

theorem tok_text0 (T : ByteArray) (t : DToken) (hs : t.skip = false) : T ++ ⟨#[116, 111, 107, 101, 110, 32]⟩ ++ t.name ++ ⟨#[32, 126]⟩ ++ t.rx ++ ⟨#[126, 59, 10]⟩ = T ++ tokT t := ba_ext (by simp [tokT, lnT, tokW, jn, jr, hs])
theorem tok_text1 (T : ByteArray) (t : DToken) (hs : t.skip = true) : T ++ ⟨#[115, 107, 105, 112, 32]⟩ ++ t.name ++ ⟨#[32, 126]⟩ ++ t.rx ++ ⟨#[126, 59, 10]⟩ = T ++ tokT t := ba_ext (by simp [tokT, lnT, tokW, jn, jr, hs])
theorem lang_text (nm : ByteArray) : (⟨#[108, 97, 110, 103, 117, 97, 103, 101, 32]⟩ : ByteArray) ++ nm ++ ⟨#[59, 10]⟩ = lnT (langW nm) := ba_ext (by simp [langW, lnT, jn, jr])
theorem pre_size {T Y X : ByteArray} (he : T ++ Y = X) (hX : X.size ≤ 1099511627776) : T.size ≤ 1099511627776 := by
  have h := congrArg ByteArray.size he
  rw [ByteArray.size_append] at h
  omega
theorem own_made1 (w : World) (T : Nat) (a : Value) : (w.alloc (.cells #[a] T)).ownsRow w.heap.size T 1 (.slice (some ⟨w.heap.size, 0, none⟩) 1 1) 1 [a] :=
  ⟨rfl, .inr ⟨w.heap.size, 1, #[a], rfl, Nat.le_refl _, blk_alloc_new _ _, Nat.le_refl _, by unfold maxLen; omega, rfl, rfl⟩⟩

set_option maxHeartbeats 12800000 in
theorem sShow_any {S : Nat → Prop} (d : DGrammar) (hsm : d.Sm) (v1 v2 v3 v4 : Value) (w : World) (h : DGrammarL w S d v1 v2 v3 v4) :
    Calls Tryz.prog 5 #[.agg #[.string d.name, v1, v2, v3, v4]] w fun e w' => e = .returned (.tuple #[.string (shR d).1, .int .i64 (shR d).2]) ∧ Below w.heap.size w w' := by
  have hnm : d.name.size ≤ maxLen := by have := hsm.name; unfold maxLen; omega
  have HD := (show Hid _ from h)
  obtain ⟨hT, hV, hR, hP⟩ := h
  obtain ⟨at1, ct, bt, ot, rfl, hct, hmt, hat, hcellt⟩ := hT
  obtain ⟨av, cv, bv, ov, sv, rfl, hcv, hmv, hav, hcellv, hrv⟩ := hV
  obtain ⟨ar, cr, br, orr, sr, rfl, hcr, hmr, har, hcellr, hrr⟩ := hR
  obtain ⟨ap, cp, rfl, _⟩ := hP.form
  have HCT := (show Hid _ from hcellt); clear hcellt
  have HCV := (show Hid _ from hcellv); clear hcellv
  have HCR := (show Hid _ from hcellr); clear hcellr
  have HAT := (show Hid _ from hat); clear hat
  have HAV := (show Hid _ from hav); clear hav
  have HAR := (show Hid _ from har); clear har
  have HRV := (show Hid _ from hrv); clear hrv
  have HRR := (show Hid _ from hrr); clear hrr
  have HP := (show Hid _ from hP); clear hP
  unfold maxLen at hmt hmv hmr
  obtain ⟨i9, hi9, hzz⟩ := Option.map_eq_some_iff.1 info9s
  simp only [Prod.mk.injEq] at hzz
  obtain ⟨hz0, hz1, hz2⟩ := hzz
  have HG := (show Hid _ from sGr_any d _ _ _ _ _ (DGrammarL.still HD.out (bel_alloc w (.cells #[.string d.name, .slice at1 d.tokens.length ct, .slice av d.levels.length cv, .slice ar d.rules.length cr, .slice ap d.parts.length cp] 36))) hnm)
  have HB0 := (show Hid _ from Box.new w 36 [.string d.name, .slice at1 d.tokens.length ct, .slice av d.levels.length cv, .slice ar d.rules.length cr, .slice ap d.parts.length cp])
  have HBA := (show Hid _ from bel_alloc w (.cells #[.string d.name, .slice at1 d.tokens.length ct, .slice av d.levels.length cv, .slice ar d.rules.length cr, .slice ap d.parts.length cp] 36))
  cases hsp : spB d
  · have hR : shR d = (⟨#[]⟩, 1) := by unfold shR; rw [hsp]; rfl
    rw [hR]
    rw [hsp] at HG
    clear hR hsp hsm
    go_enter Tryz.func5, Tryz.ntmps5
    go_wp2_with fail
    refine Calls.mono HG.out ?_
    rintro e w1 ⟨rfl, hb1⟩
    have HN := (show Hid _ from bel_trans HBA.out hb1); clear hb1
    go_wp2_with fail
    refine bodyPost_ret (v := .tuple #[.string ⟨#[]⟩, .int .i64 1]) (by simp [results, Tryz.results5, go_sem]) rfl ?_
    exact ⟨rfl, HN.out⟩
  · rw [hsp] at HG
    have hok := spB_ok hsp
    have HR := (show Hid (shR d = if 6000 < (shw d).size then (⟨#[]⟩, 3) else (shw d, 0)) from by unfold shR; rw [hsp]; rfl)
    have HSZ := (show Hid _ from hok.size hsm)
    have HSP := (show Hid _ from shw_parts d HSZ.out)
    have hns := own_size hok.name
    have HOK := (show Hid _ from hok); clear hok
    have HSM := (show Hid _ from hsm); clear hsm hsp hnm
    have q1 : (ByteArray.mk #[108, 97, 110, 103, 117, 97, 103, 101, 32]).size = 9 := rfl
    have q2 : (ByteArray.mk #[59, 10]).size = 2 := rfl
    have q3 : (ByteArray.mk #[116, 111, 107, 101, 110, 32]).size = 6 := rfl
    have q4 : (ByteArray.mk #[115, 107, 105, 112, 32]).size = 5 := rfl
    have q5 : (ByteArray.mk #[32, 126]).size = 2 := rfl
    have q6 : (ByteArray.mk #[126, 59, 10]).size = 3 := rfl
    have q7 : (ByteArray.mk #[39]).size = 1 := rfl
    go_enter Tryz.func5, Tryz.ntmps5
    go_wp2_with fail
    refine Calls.mono HG.out ?_
    rintro e w1 ⟨rfl, hb1⟩
    have T0 : w1.cell? ⟨w.heap.size, 0, none⟩ = some (.string d.name) := (HB0.out.still hb1).cell 0 (by simp)
    have H1 := (show Hid _ from (⟨bel_trans HBA.out hb1, HB0.out.still hb1⟩ : _ ∧ _)); clear hb1 HG HB0
    go_wp2_with fail
    go_loopw [4, 5] (fun u i wr => ∃ (T : ByteArray) (j : Nat), u = .string T ∧ i = .int .i64 j ∧ j ≤ d.tokens.length ∧ Hid (Below w.heap.size w wr ∧ Box wr w.heap.size 36 [.string d.name, .slice at1 d.tokens.length ct, .slice av d.levels.length cv, .slice ar d.rules.length cr, .slice ap d.parts.length cp] ∧ T ++ cat ((d.tokens.drop (j)).map tokT) = lnT (langW d.name) ++ cat (d.tokens.map tokT))) (fun _ i _ => d.tokens.length - (intOf i).toNat)
    case atStart => exact ⟨_, 0, rfl, rfl, Nat.zero_le _, H1.out.1, H1.out.2, by rw [lang_text]; rfl⟩
    case round =>
      obtain ⟨T, j, rfl, rfl, hj, HR1⟩ := hrel
      clear T0
      have T1 : wr.cell? ⟨w.heap.size, 1, none⟩ = some (.slice at1 d.tokens.length ct) := HR1.out.2.1.cell 1 (by simp)
      have hTs := pre_size HR1.out.2.2 HSP.out.1
      by_cases hlt : j < d.tokens.length
      · have hlt' := hlt
        obtain ⟨rfl, _⟩ := HAT.out (by omega)
        obtain ⟨c0, c1, c2, _⟩ := HCT.out j hlt'
        rw [← HR1.out.1.cell (lt_of_cell c0)] at c0
        rw [← HR1.out.1.cell (lt_of_cell c1)] at c1
        rw [← HR1.out.1.cell (lt_of_cell c2)] at c2
        obtain ⟨z1, z2, _⟩ := HOK.out.tok_size j hlt'
        have hE := HR1.out.2.2
        rw [cat_drop tokT hlt', ← ba_assoc] at hE
        cases hs : d.tokens[j].skip
        · rw [hs] at c2
          have HN : Hid (Below w.heap.size w (wr.alloc (.cells #[.string d.tokens[j].name, .string d.tokens[j].rx, .bool false] 46)) ∧ Box (wr.alloc (.cells #[.string d.tokens[j].name, .string d.tokens[j].rx, .bool false] 46)) w.heap.size 36 [.string d.name, .slice (some ⟨bt, ot, none⟩) d.tokens.length ct, .slice av d.levels.length cv, .slice ar d.rules.length cr, .slice ap d.parts.length cp] ∧ (T ++ ⟨#[116, 111, 107, 101, 110, 32]⟩ ++ d.tokens[j].name ++ ⟨#[32, 126]⟩ ++ d.tokens[j].rx ++ ⟨#[126, 59, 10]⟩) ++ cat ((d.tokens.drop (j + 1)).map tokT) = lnT (langW d.name) ++ cat (d.tokens.map tokT)) := ⟨bel_trans HR1.out.1 (bel_alloc _ _), HR1.out.2.1.still (bel_alloc _ _), by rw [tok_text0 T _ hs]; exact hE⟩
          clear hE hs HR1
          generalize d.tokens[j] = t at *
          go_wp2_with fail
          exact ⟨⟨_, j + 1, by rfl, by go_num, by omega, HN⟩, by simp [intOf]; omega⟩
        · rw [hs] at c2
          have HN : Hid (Below w.heap.size w (wr.alloc (.cells #[.string d.tokens[j].name, .string d.tokens[j].rx, .bool true] 46)) ∧ Box (wr.alloc (.cells #[.string d.tokens[j].name, .string d.tokens[j].rx, .bool true] 46)) w.heap.size 36 [.string d.name, .slice (some ⟨bt, ot, none⟩) d.tokens.length ct, .slice av d.levels.length cv, .slice ar d.rules.length cr, .slice ap d.parts.length cp] ∧ (T ++ ⟨#[115, 107, 105, 112, 32]⟩ ++ d.tokens[j].name ++ ⟨#[32, 126]⟩ ++ d.tokens[j].rx ++ ⟨#[126, 59, 10]⟩) ++ cat ((d.tokens.drop (j + 1)).map tokT) = lnT (langW d.name) ++ cat (d.tokens.map tokT)) := ⟨bel_trans HR1.out.1 (bel_alloc _ _), HR1.out.2.1.still (bel_alloc _ _), by rw [tok_text1 T _ hs]; exact hE⟩
          clear hE hs HR1
          generalize d.tokens[j] = t at *
          go_wp2_with fail
          exact ⟨⟨_, j + 1, by rfl, by go_num, by omega, HN⟩, by simp [intOf]; omega⟩
      · have hE := HR1.out.2.2
        rw [cat_end tokT (by omega), ba_nil] at hE
        have HS := (show Hid _ from (⟨HR1.out.1, HR1.out.2.1, by rw [hE]; rfl⟩ : Below w.heap.size w wr ∧ Box wr w.heap.size 36 [.string d.name, .slice at1 d.tokens.length ct, .slice av d.levels.length cv, .slice ar d.rules.length cr, .slice ap d.parts.length cp] ∧ T ++ cat ((d.levels.drop 0).map levT) = lnT (langW d.name) ++ cat (d.tokens.map tokT) ++ cat (d.levels.map levT)))
        clear hE HR1
        go_wp2_with fail
        go_loopw [4, 8] (fun u i wr => ∃ (T : ByteArray) (j : Nat), u = .string T ∧ i = .int .i64 j ∧ j ≤ d.levels.length ∧ Hid (Below w.heap.size w wr ∧ Box wr w.heap.size 36 [.string d.name, .slice at1 d.tokens.length ct, .slice av d.levels.length cv, .slice ar d.rules.length cr, .slice ap d.parts.length cp] ∧ T ++ cat ((d.levels.drop (j)).map levT) = lnT (langW d.name) ++ cat (d.tokens.map tokT) ++ cat (d.levels.map levT))) (fun _ i _ => d.levels.length - (intOf i).toNat)
        case atStart => exact ⟨_, 0, rfl, rfl, Nat.zero_le _, HS.out⟩
        case round =>
          obtain ⟨T, j, rfl, rfl, hj, HR1⟩ := hrel
          clear T1
          have T2 : wr.cell? ⟨w.heap.size, 2, none⟩ = some (.slice av d.levels.length cv) := HR1.out.2.1.cell 2 (by simp)
          have hTs := pre_size HR1.out.2.2 HSP.out.2
          by_cases hlt : j < d.levels.length
          · have hlt' := hlt
            obtain ⟨rfl, _⟩ := HAV.out (by omega)
            obtain ⟨c0, c1⟩ := HCV.out j hlt'
            obtain ⟨al, cl, bl, ol, el, hcl, hml, hal, hcelll⟩ := HRV.out j hlt'
            rw [el] at c1
            unfold maxLen at hml
            have HAL := (show Hid _ from hal); clear hal
            have HCL := (show Hid _ from hcelll); clear hcelll el
            have HC0 := (show Hid _ from c0); clear c0
            have HC1 := (show Hid _ from c1); clear c1
            have hlv := HOK.out.lev j hlt'
            unfold levB wiB at hlv
            simp only [Bool.and_eq_true, decide_eq_true_eq] at hlv
            have hl13 := hlv.1
            clear hlv
            obtain ⟨hlsz, hl16⟩ := HOK.out.lev_size HSM.out j hlt'
            have hnl := (HSM.out.levels.2 j hlt').lits.1
            have HL16 := (show Hid _ from hl16); clear hl16
            have hE := HR1.out.2.2
            rw [cat_drop levT hlt', ← ba_assoc] at hE
            have htT : levT d.levels[j] = lnT (levW d.levels[j]) := rfl
            rw [htT] at hE
            clear htT
            have hlw : levW d.levels[j] = ascW d.levels[j].assoc :: d.levels[j].lits.map quoW := rfl
            generalize d.levels[j] = t at *
            obtain ⟨k0, hk0⟩ : ∃ k : Nat, t.assoc = k := ⟨t.assoc.toNat, by omega⟩
            rw [hk0] at hl13 HC0 hlw
            have hwz : w.heap.size + 1 ≤ wr.heap.size := HR1.out.2.1.lt
            have hb4 := bel_alloc wr (.cells #[.string ⟨#[]⟩, .string ⟨#[108, 101, 102, 116]⟩, .string ⟨#[114, 105, 103, 104, 116]⟩, .string ⟨#[110, 111, 110, 101]⟩] 9)
            have T2' : (wr.alloc (.cells #[.string ⟨#[]⟩, .string ⟨#[108, 101, 102, 116]⟩, .string ⟨#[114, 105, 103, 104, 116]⟩, .string ⟨#[110, 111, 110, 101]⟩] 9)).cell? ⟨w.heap.size, 2, none⟩ = some (.slice (some ⟨bv, ov, none⟩) d.levels.length cv) := (HR1.out.2.1.still hb4).cell 2 (by simp)
            have c0 := HC0.out
            rw [← (bel_trans HR1.out.1 hb4).cell (lt_of_cell c0)] at c0
            have hasc : (wr.alloc (.cells #[.string ⟨#[]⟩, .string ⟨#[108, 101, 102, 116]⟩, .string ⟨#[114, 105, 103, 104, 116]⟩, .string ⟨#[110, 111, 110, 101]⟩] 9)).cell? ⟨wr.heap.size, k0, none⟩ = some (.string (ascW k0)) := by
              have hbx := Box.new wr 9 [.string ⟨#[]⟩, .string ⟨#[108, 101, 102, 116]⟩, .string ⟨#[114, 105, 103, 104, 116]⟩, .string ⟨#[110, 111, 110, 101]⟩]
              have hkk : k0 = 1 ∨ k0 = 2 ∨ k0 = 3 := by omega
              rcases hkk with rfl | rfl | rfl
              · exact hbx.cell 1 (by simp)
              · exact hbx.cell 2 (by simp)
              · exact hbx.cell 3 (by simp)
            have hasz : wsz (ascW k0 :: t.lits.map quoW) ≤ 67108864 := by rw [← hlw]; exact hlsz
            rw [hlw] at hE
            have HL0 := (show Hid _ from (⟨bel_trans (bel_trans HR1.out.1 hb4) (bel_alloc _ (.cells #[.string (ascW k0)] 9)), (HR1.out.2.1.still hb4).still (bel_alloc _ (.cells #[.string (ascW k0)] 9)), own_made1 (wr.alloc (.cells #[.string ⟨#[]⟩, .string ⟨#[108, 101, 102, 116]⟩, .string ⟨#[114, 105, 103, 104, 116]⟩, .string ⟨#[110, 111, 110, 101]⟩] 9)) 9 (.string (ascW k0))⟩ : _ ∧ _ ∧ _))
            have HE := (show Hid _ from hE)
            clear hE hb4 hlw hlsz HR1
            generalize ascW k0 = AW at *
            obtain ⟨Z, hZ⟩ : ∃ Z, Z = wr.heap.size + 1 := ⟨_, rfl⟩
            have hZ2 : w.heap.size + 2 ≤ Z := by omega
            have HZ := (show Hid _ from hZ); clear hZ
            go_wp2_with fail
            go_loopw [9, 10] (fun u i wi => ∃ (dn : List ByteArray) (a' : Option Addr) (c' k : Nat), u = .slice a' dn.length c' ∧ i = .int .i64 k ∧ k ≤ t.lits.length ∧ Hid (Below w.heap.size w wi ∧ Box wi w.heap.size 36 [.string d.name, .slice at1 d.tokens.length ct, .slice (some ⟨bv, ov, none⟩) d.levels.length cv, .slice ar d.rules.length cr, .slice ap d.parts.length cp] ∧ wi.ownsRow Z 9 1 (.slice a' dn.length c') dn.length (sc dn) ∧ dn ++ (t.lits.drop k).map quoW = AW :: t.lits.map quoW ∧ Z ≤ wi.heap.size)) (fun _ i _ => t.lits.length - (intOf i).toNat)
            case atStart =>
              refine ⟨[AW], _, _, 0, rfl, rfl, Nat.zero_le _, HL0.out.1, HL0.out.2.1, ?_, rfl, ?_⟩
              · have h := HL0.out.2.2
                simp only [World.size_alloc] at h
                rw [HZ.out]
                exact h
              · rw [HZ.out]; simp
            case round =>
              clear T2 T2' c0 hasc HL0
              obtain ⟨dn, a', c', k, rfl, rfl, hk, HR2⟩ := hrel
              have T2 : wr.cell? ⟨w.heap.size, 2, none⟩ = some (.slice (some ⟨bv, ov, none⟩) d.levels.length cv) := HR2.out.2.1.cell 2 (by simp)
              have c1 := HC1.out
              rw [← HR2.out.1.cell (lt_of_cell c1)] at c1
              have hdl : dn.length ≤ 1048577 := by
                have h1 := congrArg List.length HR2.out.2.2.2.1
                simp only [List.length_append, List.length_cons, List.length_map] at h1
                omega
              by_cases hkl : k < t.lits.length
              · have hkl' := hkl
                obtain ⟨rfl, _⟩ := HAL.out (by omega)
                obtain ⟨l0, _⟩ := HCL.out k hkl'
                rw [← HR2.out.1.cell (lt_of_cell l0)] at l0
                have z1 := HL16.out k hkl'
                have hE2 := HR2.out.2.2.2.1
                rw [List.drop_eq_getElem_cons hkl', List.map_cons] at hE2
                have hqe : quoW t.lits[k] = ⟨#[39]⟩ ++ t.lits[k] ++ ⟨#[39]⟩ := rfl
                rw [hqe] at hE2
                clear hqe
                generalize t.lits[k] = x at *
                have HO1 := (show Hid _ from own_still HR2.out.2.2.1 (bel_alloc wr (.cells #[.string (⟨#[39]⟩ ++ x ++ ⟨#[39]⟩)] 9)))
                have hzz := HR2.out.2.2.2.2
                have HE2 := (show Hid _ from hE2); clear hE2
                go_wp2_with (at_builtin; refine wpList_append_lies _ rfl (.tmp 72) (.tmp 84) 47 rfl Z 9 i9 _ 1 16 Tryz.underlying47 hi9 hz0 hz1 hz2 rfl (by decide) _ dn.length (sc dn) rfl HO1.out ⟨wr.heap.size, 0, none⟩ 1 1 [.string (⟨#[39]⟩ ++ x ++ ⟨#[39]⟩)] rfl rfl (cell_one_box _ _ _) (by intro u hu; simp at hu; subst hu; rfl) (by decide) ?c1 ?c2 ?c3 _ rfl ?nx)
                case c1 => unfold maxLen; omega
                case c2 => omega
                case c3 => first | omega | (simp; omega)
                case nx =>
                  intro g2 cap2 U hown2 hgr2 hat2 hlt2
                  have hbU : Below w.heap.size w U := ((bel_trans HR2.out.1 (bel_alloc wr (.cells #[.string (⟨#[39]⟩ ++ x ++ ⟨#[39]⟩)] 9))).grown hgr2 (by have := HR2.out.1.size; simp; omega) (fun q hq => by
                    have := (World.ownsRow.lt HR2.out.2.2.1 q hq).1
                    omega))
                  have hxU := (Box.still HR2.out.2.1 (bel_alloc wr (.cells #[.string (⟨#[39]⟩ ++ x ++ ⟨#[39]⟩)] 9))).keep (hgr2.block _ (by simp; omega) (fun e => by have := (World.ownsRow.lt HR2.out.2.2.1 _ e.symm).1; omega))
                  have hoU : U.ownsRow Z 9 1 (.slice (some ⟨g2, 0, none⟩) (dn ++ [⟨#[39]⟩ ++ x ++ ⟨#[39]⟩]).length cap2) (dn ++ [⟨#[39]⟩ ++ x ++ ⟨#[39]⟩]).length (sc (dn ++ [⟨#[39]⟩ ++ x ++ ⟨#[39]⟩])) := by
                    rw [sc_append, List.length_append]; exact hown2
                  have hlU : dn.length + 1 = (dn ++ [⟨#[39]⟩ ++ x ++ ⟨#[39]⟩]).length := by simp
                  have hzU : Z ≤ U.heap.size := Nat.le_trans hzz (Nat.le_trans (by simp) hgr2.size)
                  have HM := (show Hid _ from (⟨hbU, hxU, hoU, by rw [List.append_assoc]; exact HE2.out, hzU⟩ : Below w.heap.size w U ∧ _ ∧ _ ∧ (dn ++ [⟨#[39]⟩ ++ x ++ ⟨#[39]⟩]) ++ (t.lits.drop (k + 1)).map quoW = AW :: t.lits.map quoW ∧ _))
                  clear hbU hxU hoU hown2 hgr2 hat2 HO1 HR2 HE2 T2 c1 l0 hzU
                  rw [hlU]
                  go_wp2_with fail
                  exact ⟨⟨_, _, _, k + 1, by rfl, by go_num, by omega, HM⟩, by simp [intOf]; omega⟩
              · have hdn : dn = AW :: t.lits.map quoW := by
                  have h1 := HR2.out.2.2.2.1
                  rw [List.drop_eq_nil_of_le (by omega), List.map_nil, List.append_nil] at h1
                  exact h1
                have hws : wsz dn ≤ 67108864 := by rw [hdn]; exact hasz
                have hjs := Nat.le_trans (jn_size dn) hws
                have hE3 := HE.out
                rw [← hdn] at hE3
                have HV := (show Hid _ from words_any _ _ wr (own_strs HR2.out.2.2.1 (fun i hi => Nat.le_trans (mem_wsz _ i hi) (by unfold maxLen; omega))) (Nat.le_trans hjs (by unfold maxLen; omega)))
                have HM := (show Hid _ from (⟨HR2.out.1, HR2.out.2.1, by rw [ba_assoc T]; exact hE3⟩ : Below w.heap.size w wr ∧ _ ∧ T ++ jn dn ++ ⟨#[59, 10]⟩ ++ cat ((d.levels.drop (j + 1)).map levT) = lnT (langW d.name) ++ cat (d.tokens.map tokT) ++ cat (d.levels.map levT)))
                clear hE3 HR2 hdn
                generalize jn dn = JD at *
                go_wp2_with fail
                refine Calls.mono HV.out ?_
                rintro e w9 ⟨rfl, rfl⟩
                clear T2 c1 HV
                go_wp2_with fail
                exact ⟨⟨_, j + 1, by rfl, by go_num, by omega, HM⟩, by simp [intOf]; omega⟩
          · have hE := HR1.out.2.2
            rw [cat_end levT (by omega), ba_nil] at hE
            have HS2 := (show Hid _ from (⟨HR1.out.1, HR1.out.2.1, by rw [hE]; rfl⟩ : Below w.heap.size w wr ∧ Box wr w.heap.size 36 [.string d.name, .slice at1 d.tokens.length ct, .slice av d.levels.length cv, .slice ar d.rules.length cr, .slice ap d.parts.length cp] ∧ T ++ cat ((d.rules.drop 0).map (rulT d.parts)) = shw d))
            clear hE HR1
            go_wp2_with fail
            go_loopw [4, 11] (fun u i wr => ∃ (T : ByteArray) (j : Nat), u = .string T ∧ i = .int .i64 j ∧ j ≤ d.rules.length ∧ Hid (Below w.heap.size w wr ∧ Box wr w.heap.size 36 [.string d.name, .slice at1 d.tokens.length ct, .slice av d.levels.length cv, .slice ar d.rules.length cr, .slice ap d.parts.length cp] ∧ T ++ cat ((d.rules.drop (j)).map (rulT d.parts)) = shw d)) (fun _ i _ => d.rules.length - (intOf i).toNat)
            case atStart => exact ⟨_, 0, rfl, rfl, Nat.zero_le _, HS2.out⟩
            case round =>
              obtain ⟨T, j, rfl, rfl, hj, HR1⟩ := hrel
              clear T2
              have T3 : wr.cell? ⟨w.heap.size, 3, none⟩ = some (.slice ar d.rules.length cr) := HR1.out.2.1.cell 3 (by simp)
              have hTs := pre_size HR1.out.2.2 HSZ.out
              by_cases hlt : j < d.rules.length
              · have hlt' := hlt
                obtain ⟨rfl, _⟩ := HAR.out (by omega)
                obtain ⟨c0, c1, _⟩ := HCR.out j hlt'
                have hst := HRR.out j hlt'
                obtain ⟨al, cl, el, _⟩ := hst.form
                rw [el] at c1 hst
                rw [← HR1.out.1.cell (lt_of_cell c0)] at c0
                rw [← HR1.out.1.cell (lt_of_cell c1)] at c1
                obtain ⟨e1, e2, hord, _⟩ := HOK.out.ord j hlt'
                have hmem := sAlts_mem d.parts _ _ _ hord
                have hps : ∀ p, (d.parts.getD p dfl).s.size ≤ 1048576 ∧ (d.parts.getD p dfl).alts.length ≤ 1048576 := by
                  intro p
                  by_cases hp : p < d.parts.length
                  · rw [getD_lt _ _ hp]
                    exact ⟨(HSM.out.parts.2 p hp).s, (HSM.out.parts.2 p hp).alts.1⟩
                  · have : d.parts.getD p dfl = dfl := by simp [List.getD_eq_getElem?_getD, Nat.le_of_not_lt hp]
                    rw [this]
                    exact ⟨Nat.zero_le _, Nat.zero_le _⟩
                have hbd := HR1.out.1.drew
                have hrs := HOK.out.rule_size HSM.out j hlt'
                have hcl := sayRule_step (S := S) (sayP d.parts (sayF d.parts d.parts.length)) d.name at1 av (some ⟨br, orr, none⟩) ap d.tokens.length ct d.levels.length cv d.rules.length cr d.parts.length cp d.rules[j] _ wr.drew (hst.still hbd) (Nat.le_trans hrs (by omega))
                  (fun k hk w' v' hb' hI' => by
                    obtain ⟨ea', eb', hit⟩ := hmem k hk
                    exact sayI_any d.parts HOK.out.fit.2.2.2 hps d.name at1 av (some ⟨br, orr, none⟩) ap d.tokens.length ct d.levels.length cv d.rules.length cr d.parts.length cp _ _ v' _ _ _ w' hit (Int.le_refl _) hI' (PartR.still (PartR.still HP.out hbd) hb'))
                have hE := HR1.out.2.2
                rw [cat_drop (rulT d.parts) hlt', ← ba_assoc] at hE
                have hrt : jn (d.rules[j].name :: ⟨#[61]⟩ :: bars (altG (sayP d.parts (sayF d.parts d.parts.length))) d.rules[j].alts) ++ ⟨#[59, 10]⟩ = rulT d.parts d.rules[j] := rfl
                rw [hrt] at hcl
                have hTs2 := pre_size hE HSZ.out
                rw [ByteArray.size_append] at hTs2
                have HCL := (show Hid _ from hcl)
                have T0 : wr.cell? ⟨w.heap.size, 0, none⟩ = some (.string d.name) := HR1.out.2.1.cell 0 (by simp)
                have T1 : wr.cell? ⟨w.heap.size, 1, none⟩ = some (.slice at1 d.tokens.length ct) := HR1.out.2.1.cell 1 (by simp)
                have T2 : wr.cell? ⟨w.heap.size, 2, none⟩ = some (.slice av d.levels.length cv) := HR1.out.2.1.cell 2 (by simp)
                have T4 : wr.cell? ⟨w.heap.size, 4, none⟩ = some (.slice ap d.parts.length cp) := HR1.out.2.1.cell 4 (by simp)
                have HX := (show Hid _ from (⟨HR1.out.1, HR1.out.2.1, hE⟩ : _ ∧ _ ∧ _))
                clear hcl hrt hE hbd hrs hmem hps hord hst el HR1
                generalize rulT d.parts d.rules[j] = RT at *
                generalize d.rules[j] = t at *
                go_wp2_with fail
                go_region_with (go_at_call 15; refine Calls.mono HCL.out ?_; rintro e w2 ⟨rfl, hb2⟩; have HN := (show Hid _ from (⟨bel_trans HX.out.1.drew hb2, (HX.out.2.1.still ((Below.refl _ _).drew)).still hb2, HX.out.2.2⟩ : _ ∧ _ ∧ _)); clear hb2)
                all_goals
                  clear T0 T1 T2 T3 T4 c0 c1 HX HCL
                  go_wp2_with fail
                  exact ⟨⟨_, j + 1, by rfl, by go_num, by omega, HN⟩, by simp [intOf]; omega⟩
              · have hE := HR1.out.2.2
                rw [cat_end (rulT d.parts) (by omega), ba_nil] at hE
                have HB9 := (show Hid _ from HR1.out.1)
                clear HR1
                by_cases hlong : 6000 < T.size
                · have hd : decide ((6000 : Int) < T.size) = true := by simp; omega
                  have HX := (show Hid _ from HR.out.trans (if_pos (by rw [← hE]; exact hlong)))
                  clear hE
                  go_wp2_with fail
                  refine bodyPost_ret (v := .tuple #[.string ⟨#[]⟩, .int .i64 3]) (by simp [results, Tryz.results5, go_sem]) rfl ?_
                  exact ⟨by rw [HX.out], HB9.out⟩
                · have hd : decide ((6000 : Int) < T.size) = false := by simp; omega
                  have HX := (show Hid (shR d = (T, 0)) from by show shR d = (T, 0); rw [HR.out, if_neg (by rw [← hE]; exact hlong), hE])
                  clear hE
                  go_wp2_with fail
                  refine bodyPost_ret (v := .tuple #[.string T, .int .i64 0]) (by simp [results, Tryz.results5, go_sem]) rfl ?_
                  exact ⟨by rw [HX.out], HB9.out⟩
end Go.Proofs.YtgjnlhidbjpdkajGreat
