import Derived.Test.YtgjnlhidbjpdkajGreatW9
/-! The program's writer: a rule. -/
namespace Go.Proofs.YtgjnlhidbjpdkajGreat
open Go.RowKit Go.Deep Go.Lib
set_option linter.unusedVariables false
set_option maxRecDepth 100000
set_option linter.unusedSimpArgs false

/-- An alternative's words, one by one. -/
def altF (g : List Int → List ByteArray) (a : DGAlt) : List ByteArray := g a.items ++ labG a.label
theorem two_cells {p : Nat} {gc : List Value} {A : ByteArray × Bool} (x y : ByteArray) (hx : x.size ≤ 4294967296) (hy : y.size ≤ 4294967296) (w : World) (h : Wr p gc A.1 A.2 w) :
    Calls Tryz.prog 54 #[.pointer (some ⟨p, 0, none⟩), .slice (some ⟨w.heap.size, 0, none⟩) 2 2] (w.alloc (.cells #[.string x, .string y] 9)) fun e w' => WD p gc (wAll A.1 A.2 [x, y]) w e w' := by
  have hlt := h.lt
  have hw := wds_any p gc [x, y] (by intro z hz; simp at hz; rcases hz with rfl | rfl <;> assumption) w.heap.size 0 2 (by simp) (by omega) A _ (h.still (bel_alloc w (.cells #[.string x, .string y] 9))) (made_cells (p := p) w 9 [.string x, .string y] [x, y] rfl (by decide) hlt)
  refine Calls.mono hw ?_
  rintro e w' ⟨rfl, h1, h2⟩
  exact ⟨rfl, h1, (Fr.of_below (bel_alloc w _) (by omega)).trans h2⟩

set_option maxHeartbeats 6400000 in
theorem wrule_any {S : Nat → Prop} (g : List Int → List ByteArray) (gc : List Value) (p : Nat) (r : DGRule) (v : Value) (W0 w : World) (hW : Below W0.heap.size W0 w) (hp : W0.heap.size ≤ p) (hA : GAltR W0 S r.alts v) (hnm : r.name.size ≤ 1048576) (hlb : ∀ k (hk : k < r.alts.length), r.alts[k].label.size ≤ 1048576)
    (hit : ∀ k (hk : k < r.alts.length) (w' : World) (v' : Value) (A : ByteArray × Bool), Below W0.heap.size W0 w' → Ints W0 S r.alts[k].items v' → Wr p gc A.1 A.2 w' → Calls Tryz.prog 88 #[.pointer (some ⟨p, 0, none⟩), v'] w' fun e w'' => WD p gc (wAll A.1 A.2 (g r.alts[k].items)) w' e w'')
    (A : ByteArray × Bool) (h : Wr p gc A.1 A.2 w) :
    Calls Tryz.prog 60 #[.pointer (some ⟨p, 0, none⟩), .agg #[.string r.name, v]] w fun e w' => WD p gc (wAll A.1 A.2 (r.name :: ⟨#[61]⟩ :: bars (altF g) r.alts)) w e w' := by
  obtain ⟨aa, ca, ba, oa, s0, rfl, hc, hm, ha, hcell, hin⟩ := hA
  have HC := (show Hid _ from hcell); clear hcell
  have HA := (show Hid _ from ha); clear ha
  have HI := (show Hid _ from hin); clear hin
  have HT := (show Hid _ from hit); clear hit
  have HL := (show Hid _ from hlb); clear hlb
  have hlt0 := h.lt
  have q1 : (ByteArray.mk #[61]).size = 1 := rfl
  have q2 : (ByteArray.mk #[35]).size = 1 := rfl
  have HB0 := (show Hid _ from Box.new w 54 [.string r.name, .slice aa r.alts.length ca])
  have HF0 := (show Hid _ from Fr.of_below (p := p) (bel_alloc w (.cells #[.string r.name, .slice aa r.alts.length ca] 54)) (by omega))
  have hO := two_cells r.name ⟨#[61]⟩ (by omega) (by omega) _ (h.still (bel_alloc w (.cells #[.string r.name, .slice aa r.alts.length ca] 54)))
  rw [World.size_alloc] at hO
  have HO := (show Hid _ from hO); clear hO
  unfold maxLen at hm
  clear h
  generalize r.name = NM at *
  generalize r.alts = L at *
  go_enter Tryz.func60, Tryz.ntmps60
  go_wp2_with fail
  refine Calls.mono HO.out ?_
  rintro e w1 ⟨rfl, h1, h2⟩
  have C2 : w1.cell? ⟨w.heap.size, 1, none⟩ = some (.slice aa L.length ca) := (h2.box HB0.out (by omega) (by decide)).cell 1 (by simp)
  have H1 := (show Hid _ from (⟨h1, HF0.out.trans h2⟩ : _ ∧ _))
  clear h1 h2 HO HB0
  go_wp2_with fail
  go_loopw [14] (fun i wr => ∃ j : Nat, i = .int .i64 j ∧ j ≤ L.length ∧ Hid (∃ B : ByteArray × Bool, Wr p gc B.1 B.2 wr ∧ Fr p w wr ∧ wAll B.1 B.2 (bark (altF g) L j) = wAll A.1 A.2 (NM :: ⟨#[61]⟩ :: bars (altF g) L))) (fun i _ => L.length - (intOf i).toNat)
  case atStart => exact ⟨0, rfl, Nat.zero_le _, _, H1.out.1, H1.out.2, rfl⟩
  case round =>
    obtain ⟨j, rfl, hj, HR⟩ := hrel
    clear C2
    by_cases hlt : j < L.length
    · have hlt' := hlt
      obtain ⟨rfl, _⟩ := HA.out (by omega)
      obtain ⟨B, hB, hF, hE⟩ := HR.out
      obtain ⟨c0, c1, z1⟩ := HC.out j hlt'
      have hbw := hF.below hW hp
      obtain ⟨si, ci', ei, mi⟩ := (HI.out j hlt').form
      have hII := HI.out j hlt'
      have hTT := HT.out j hlt'
      have hzl := HL.out j hlt'
      have haf : altF g L[j] = g L[j].items ++ labG L[j].label := rfl
      rw [bark_bar hlt', wAll_append, haf, List.append_assoc, wAll_append, wAll_append] at hE
      rw [ei] at c0 hII
      rw [← hbw.cell (lt_of_cell c0)] at c0
      rw [← hbw.cell (lt_of_cell c1)] at c1
      have hplt := hB.lt
      have HB1 := (show Hid _ from Box.new wr 85 [.slice si L[j].items.length ci', .string L[j].label])
      have HF1 := (show Hid _ from Fr.of_below (p := p) (bel_alloc wr (.cells #[.slice si L[j].items.length ci', .string L[j].label] 85)) (by omega))
      have HV := (show Hid _ from wbar_any p gc j B _ (hB.still (bel_alloc wr (.cells #[.slice si L[j].items.length ci', .string L[j].label] 85))))
      have hbw2 := bel_trans hbw (bel_alloc wr (.cells #[.slice si L[j].items.length ci', .string L[j].label] 85))
      have HE := (show Hid _ from (⟨hF, hE, hbw2, hII, hTT⟩ : _ ∧ _ ∧ _ ∧ _ ∧ _)); clear hE hF HR hB hbw hbw2 hII hTT ei mi haf z1
      have hEm := isEmpty_iff L[j].label
      generalize L[j] = al at *
      go_wp2_with fail
      refine Calls.mono HV.out ?_
      rintro e w2 ⟨rfl, h3, h4⟩
      have hb2 := h4.box HB1.out (by omega) (by decide)
      have HV2 := (show Hid _ from HE.out.2.2.2.2 w2 _ _ (h4.below HE.out.2.2.1 hp) HE.out.2.2.2.1 h3)
      have HF4 := (show Hid _ from (HE.out.1.trans HF1.out).trans h4)
      have D0 : w2.cell? ⟨wr.heap.size, 0, none⟩ = some (.slice si al.items.length ci') := hb2.cell 0 (by simp)
      have D1 : w2.cell? ⟨wr.heap.size, 1, none⟩ = some (.string al.label) := hb2.cell 1 (by simp)
      have HB2 := (show Hid _ from hb2)
      clear h3 h4 HV c0 c1 hb2
      go_wp2_with fail
      refine Calls.mono HV2.out ?_
      rintro e w3 ⟨rfl, h5, h6⟩
      have D2 : w3.cell? ⟨wr.heap.size, 1, none⟩ = some (.string al.label) := (h6.box HB2.out (by omega) (by decide)).cell 1 (by simp)
      have HF6 := (show Hid _ from HF4.out.trans h6)
      have H5 := (show Hid _ from h5)
      clear h6 HV2 D0 D1 HF4
      by_cases hl0 : al.label.size = 0
      · rw [decide_eq_true hl0] at hEm
        have hlab : labG al.label = [] := if_pos hl0
        have hE2 := HE.out.2.1
        rw [hlab] at hE2
        have HN : Hid (∃ B : ByteArray × Bool, Wr p gc B.1 B.2 w3 ∧ Fr p w w3 ∧ wAll B.1 B.2 (bark (altF g) L (j + 1)) = wAll A.1 A.2 (NM :: ⟨#[61]⟩ :: bars (altF g) L)) := ⟨_, h5, HF6.out, hE2⟩
        clear h5 HE hE2 HF6 hlab H5
        go_wp2_with fail
        exact ⟨⟨j + 1, by go_num, by omega, HN⟩, by simp [intOf]; omega⟩
      · rw [decide_eq_false hl0] at hEm
        have hlab : labG al.label = [⟨#[35]⟩, al.label] := if_neg hl0
        have hE2 := HE.out.2.1
        rw [hlab] at hE2
        have HE2 := (show Hid _ from hE2)
        have HV3 := (show Hid _ from two_cells ⟨#[35]⟩ al.label (by omega) (by omega) w3 h5)
        clear h5 HE hE2 hlab
        go_wp2_with fail
        refine Calls.mono HV3.out ?_
        rintro e w4 ⟨rfl, h7, h8⟩
        have HN : Hid (∃ B : ByteArray × Bool, Wr p gc B.1 B.2 w4 ∧ Fr p w w4 ∧ wAll B.1 B.2 (bark (altF g) L (j + 1)) = wAll A.1 A.2 (NM :: ⟨#[61]⟩ :: bars (altF g) L)) := ⟨_, h7, HF6.out.trans h8, HE2.out⟩
        clear h7 h8 HE2 HF6 HV3 H5 D2
        go_wp2_with fail
        exact ⟨⟨j + 1, by go_num, by omega, HN⟩, by simp [intOf]; omega⟩
    · obtain ⟨B, hB, hF, hE⟩ := HR.out
      rw [bark_end (by omega)] at hE
      have HN := (show Hid _ from (⟨hB, hF, hE⟩ : _ ∧ _ ∧ _)); clear hB hF hE
      go_wp2_with fail
      refine bodyPost_end (v := .tuple #[]) (by simp [results, Tryz.results60]) rfl ?_
      refine ⟨rfl, ?_, HN.out.2.1⟩
      rw [← HN.out.2.2]
      exact HN.out.1
end Go.Proofs.YtgjnlhidbjpdkajGreat
