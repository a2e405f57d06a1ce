import Derived.Test.YtgjnlhidbjpdkajGreatW7
/-! The program's writer: items and brackets. -/
namespace Go.Proofs.YtgjnlhidbjpdkajGreat
open Go.RowKit Go.Deep Go.Lib
set_option linter.unusedVariables false
set_option maxRecDepth 100000
set_option linter.unusedSimpArgs false

theorem Wr.cell4 {p : Nat} {g0 g1 g2 g3 g4 : Value} {T : ByteArray} {G : Bool} {w : World} (h : Wr p [g0, g1, g2, g3, g4] T G w) : w.cell? ⟨p, 0, none⟩ = some g0 ∧ w.cell? ⟨p, 1, none⟩ = some g1 ∧ w.cell? ⟨p, 2, none⟩ = some g2 ∧ w.cell? ⟨p, 3, none⟩ = some g3 ∧ w.cell? ⟨p, 4, none⟩ = some g4 := by
  obtain ⟨_, _, ⟨_, _, _, h, _⟩, _⟩ := h
  exact ⟨h.cell 0 (by simp), h.cell 1 (by simp), h.cell 2 (by simp), h.cell 3 (by simp), h.cell 4 (by simp)⟩

set_option maxHeartbeats 3200000 in
theorem witems_step {S : Nat → Prop} (parts : List DPart) (R : List (List Int) → List ByteArray) (nm : ByteArray) (v1 v2 v3 vp : Value) (p : Nat) (items : List Int) (v : Value) (W0 w : World) (hW : Below W0.heap.size W0 w) (hp : W0.heap.size ≤ p) (hI : Ints W0 S items v) (hP : PartR W0 S parts vp)
    (hin : ∀ k (hk : k < items.length), 0 ≤ items[k] ∧ items[k] < parts.length) (hs : ∀ x (hx : x < parts.length), parts[x].s.size ≤ 1048576)
    (hbr : ∀ k (hk : k < items.length) (w' : World) (v' : Value) (A : ByteArray × Bool), Below W0.heap.size W0 w' → IRws W0 S (parts.getD items[k].toNat dfl).alts v' → ¬ (parts.getD items[k].toNat dfl).kind = 1 → ¬ (parts.getD items[k].toNat dfl).kind = 2 → Wr p [.string nm, v1, v2, v3, vp] A.1 A.2 w' →
      Calls Tryz.prog 106 #[.pointer (some ⟨p, 0, none⟩), .agg #[.int .i64 (parts.getD items[k].toNat dfl).kind, .string (parts.getD items[k].toNat dfl).s, v']] w' fun e w'' => WD p [.string nm, v1, v2, v3, vp] (wAll A.1 A.2 (opn (parts.getD items[k].toNat dfl).kind :: (R (parts.getD items[k].toNat dfl).alts ++ [sht (parts.getD items[k].toNat dfl).kind]))) w' e w'')
    (A : ByteArray × Bool) (h : Wr p [.string nm, v1, v2, v3, vp] A.1 A.2 w) :
    Calls Tryz.prog 88 #[.pointer (some ⟨p, 0, none⟩), v] w fun e w' => WD p [.string nm, v1, v2, v3, vp] (wAll A.1 A.2 (items.flatMap (flP parts R))) w e w' := by
  obtain ⟨ai, ci, bi, oi, rfl, hci, hmi, hai, hcelli⟩ := hI
  obtain ⟨a, cap, b, off, s2, rfl, hc, hm, ha, hcell, r2⟩ := hP
  have HCI := (show Hid _ from hcelli); clear hcelli
  have HAI := (show Hid _ from hai); clear hai
  have HCP := (show Hid _ from hcell); clear hcell
  have HAP := (show Hid _ from ha); clear ha
  have HR2 := (show Hid _ from r2); clear r2
  have HIN := (show Hid _ from hin); clear hin
  have HSZ := (show Hid _ from hs); clear hs
  have HBR := (show Hid _ from hbr); clear hbr
  have H0 := (show Hid _ from h); clear h
  unfold maxLen at hm hmi
  go_enter Tryz.func88, Tryz.ntmps88
  go_wp2_with fail
  go_loopw [9] (fun i wr => ∃ j : Nat, i = .int .i64 j ∧ j ≤ items.length ∧ Hid (∃ B : ByteArray × Bool, Wr p [.string nm, v1, v2, v3, .slice a parts.length cap] B.1 B.2 wr ∧ Fr p w wr ∧ wAll B.1 B.2 ((items.drop j).flatMap (flP parts R)) = wAll A.1 A.2 (items.flatMap (flP parts R)))) (fun i _ => items.length - (intOf i).toNat)
  case atStart => exact ⟨0, rfl, Nat.zero_le _, A, H0.out, Fr.refl _ _, rfl⟩
  case round =>
    obtain ⟨j, rfl, hj, HR⟩ := hrel
    by_cases hlt : j < items.length
    · have hlt' := hlt
      obtain ⟨rfl, _⟩ := HAI.out (by omega)
      obtain ⟨B, hB, hF, hE⟩ := HR.out
      have c0 := HCI.out j hlt'
      have hbw := hF.below hW hp
      rw [← hbw.cell (lt_of_cell c0)] at c0
      obtain ⟨i1, i2⟩ := HIN.out j hlt'
      have hbrk := HBR.out j hlt'
      rw [List.drop_eq_getElem_cons hlt', List.flatMap_cons, wAll_append] at hE
      obtain ⟨x, hx⟩ : ∃ x : Nat, items[j] = x := ⟨items[j].toNat, by omega⟩
      rw [hx] at i1 i2 c0 hbrk hE
      have hxl : x < parts.length := by omega
      have hgd : parts.getD ((x : Int)).toNat dfl = parts[x] := by simp [List.getD_eq_getElem?_getD, hxl]
      have hfl : flP parts R x = if parts[x].kind = 1 then [parts[x].s] else if parts[x].kind = 2 then [⟨#[39]⟩ ++ parts[x].s ++ ⟨#[39]⟩] else opn parts[x].kind :: (R parts[x].alts ++ [sht parts[x].kind]) := by
        unfold flP; rw [hgd]
      rw [hfl] at hE
      rw [hgd] at hbrk
      obtain ⟨rfl, _⟩ := HAP.out (by omega)
      obtain ⟨d0, d1, d2, _⟩ := HCP.out x hxl
      have hia := HR2.out x hxl
      obtain ⟨aa, ca, ea, ma⟩ := hia.form
      rw [ea] at d2 hia
      have HIA := (show Hid _ from hia)
      rw [← hbw.cell (lt_of_cell d0)] at d0
      rw [← hbw.cell (lt_of_cell d1)] at d1
      rw [← hbw.cell (lt_of_cell d2)] at d2
      have z1 := HSZ.out x hxl
      have C4 := hB.cell4.2.2.2.2
      have hplt := hB.lt
      have HE := (show Hid _ from (⟨hF, hE, hB, hbw⟩ : _ ∧ _ ∧ _ ∧ _)); clear hE hF HR hB hbw
      have HBK := (show Hid _ from hbrk); clear hbrk
      clear hia ea hfl hgd ma hx
      generalize parts[x] = P at *
      have hFa := fun (u : Value) => Fr.of_below (p := p) (bel_alloc wr (.cells #[.int .i64 P.kind, .string P.s, .slice aa P.alts.length ca] 91)) (by omega)
      have HFa := (show Hid _ from hFa .nilFunc); clear hFa
      have HWa := (show Hid _ from HE.out.2.2.1.still (bel_alloc wr (.cells #[.int .i64 P.kind, .string P.s, .slice aa P.alts.length ca] 91)))
      by_cases k1 : P.kind = 1
      · have k1' : (P.kind == 1) = true := by simp [k1]
        have hE := HE.out.2.1
        rw [if_pos k1] at hE
        have HE2 := (show Hid _ from hE); clear hE
        have HV := (show Hid _ from word_one p _ P.s (by omega) B _ HWa.out)
        clear k1 HBK
        go_wp2_with fail
        refine Calls.mono HV.out ?_
        rintro e w3 ⟨rfl, h3, h4⟩
        have HN : Hid (∃ B : ByteArray × Bool, Wr p [.string nm, v1, v2, v3, .slice (some ⟨b, off, none⟩) parts.length cap] B.1 B.2 w3 ∧ Fr p w w3 ∧ wAll B.1 B.2 ((items.drop (j + 1)).flatMap (flP parts R)) = wAll A.1 A.2 (items.flatMap (flP parts R))) := ⟨_, h3, HE.out.1.trans (HFa.out.trans h4), HE2.out⟩
        clear h3 h4 c0 HV HE HE2 HFa HWa d0 d1 d2 C4
        go_wp2_with fail
        exact ⟨⟨j + 1, by go_num, by omega, HN⟩, by simp [intOf]; omega⟩
      have k1' : (P.kind == 1) = false := by simp [k1]
      by_cases k2 : P.kind = 2
      · have k2' : (P.kind == 2) = true := by simp [k2]
        have hE := HE.out.2.1
        rw [if_neg k1, if_pos k2] at hE
        have HE2 := (show Hid _ from hE); clear hE
        have q1 : (ByteArray.mk #[39]).size = 1 := rfl
        have HQ := (show Hid _ from fun w => quoted_any P.s z1 w)
        have HV := (show Hid _ from word_one p _ (⟨#[39]⟩ ++ P.s ++ ⟨#[39]⟩) (by simp [ByteArray.size_append, q1]; omega) B _ HWa.out)
        clear k1 k2 HBK q1
        generalize (⟨#[39]⟩ : ByteArray) ++ P.s ++ ⟨#[39]⟩ = qx at *
        go_wp2_with fail
        refine Calls.mono (HQ.out _) ?_
        rintro e w2 ⟨rfl, rfl⟩
        go_wp2_with fail
        refine Calls.mono HV.out ?_
        rintro e w3 ⟨rfl, h3, h4⟩
        have HN : Hid (∃ B : ByteArray × Bool, Wr p [.string nm, v1, v2, v3, .slice (some ⟨b, off, none⟩) parts.length cap] B.1 B.2 w3 ∧ Fr p w w3 ∧ wAll B.1 B.2 ((items.drop (j + 1)).flatMap (flP parts R)) = wAll A.1 A.2 (items.flatMap (flP parts R))) := ⟨_, h3, HE.out.1.trans (HFa.out.trans h4), HE2.out⟩
        clear h3 h4 c0 HV HE HE2 HFa HWa d0 d1 d2 C4
        go_wp2_with fail
        exact ⟨⟨j + 1, by go_num, by omega, HN⟩, by simp [intOf]; omega⟩
      · have k2' : (P.kind == 2) = false := by simp [k2]
        have hE := HE.out.2.1
        rw [if_neg k1, if_neg k2] at hE
        have HE2 := (show Hid _ from hE); clear hE
        have HV := (show Hid _ from HBK.out _ _ B (bel_trans HE.out.2.2.2 (bel_alloc wr (.cells #[.int .i64 P.kind, .string P.s, .slice aa P.alts.length ca] 91))) HIA.out k1 k2 HWa.out)
        clear k1 k2 HBK
        go_wp2_with fail
        refine Calls.mono HV.out ?_
        rintro e w3 ⟨rfl, h3, h4⟩
        have HN : Hid (∃ B : ByteArray × Bool, Wr p [.string nm, v1, v2, v3, .slice (some ⟨b, off, none⟩) parts.length cap] B.1 B.2 w3 ∧ Fr p w w3 ∧ wAll B.1 B.2 ((items.drop (j + 1)).flatMap (flP parts R)) = wAll A.1 A.2 (items.flatMap (flP parts R))) := ⟨_, h3, HE.out.1.trans (HFa.out.trans h4), HE2.out⟩
        clear h3 h4 c0 HV HE HE2 HFa HWa d0 d1 d2 C4
        go_wp2_with fail
        exact ⟨⟨j + 1, by go_num, by omega, HN⟩, by simp [intOf]; omega⟩
    · obtain ⟨B, hB, hF, hE⟩ := HR.out
      rw [List.drop_eq_nil_of_le (by omega)] at hE
      have HN := (show Hid _ from (⟨hB, hF, hE⟩ : _ ∧ _ ∧ _)); clear hB hF hE
      go_wp2_with fail
      refine bodyPost_end (v := .tuple #[]) (by simp [results, Tryz.results88]) rfl ?_
      refine ⟨rfl, ?_, HN.out.2.1⟩
      rw [← HN.out.2.2]
      exact HN.out.1
theorem bark_bar {α : Type} {g : α → List ByteArray} {l : List α} {k : Nat} (h : k < l.length) : bark g l k = barL k ++ (g l[k] ++ bark g l (k + 1)) := by
  by_cases h0 : 0 < k
  · rw [bark_next h h0, barL, if_pos h0]; rfl
  · obtain rfl : k = 0 := by omega
    rw [bark_first h, barL, if_neg (by omega)]; rfl
theorem opn_size (k : Int) : (opn k).size ≤ 1 ∧ (sht k).size ≤ 1 := by
  unfold opn sht
  constructor <;> repeat' split
  all_goals decide

set_option maxHeartbeats 3200000 in
theorem wbracket_step {S : Nat → Prop} (g : List Int → List ByteArray) (kind : Int) (s : ByteArray) (alts : List (List Int)) (gc : List Value) (p : Nat) (v : Value) (W0 w : World) (hW : Below W0.heap.size W0 w) (hp : W0.heap.size ≤ p) (hA : IRws W0 S alts v)
    (hit : ∀ k (hk : k < alts.length) (w' : World) (v' : Value) (A : ByteArray × Bool), Below W0.heap.size W0 w' → Ints W0 S alts[k] v' → Wr p gc A.1 A.2 w' → Calls Tryz.prog 88 #[.pointer (some ⟨p, 0, none⟩), v'] w' fun e w'' => WD p gc (wAll A.1 A.2 (g alts[k])) w' e w'')
    (A : ByteArray × Bool) (h : Wr p gc A.1 A.2 w) :
    Calls Tryz.prog 106 #[.pointer (some ⟨p, 0, none⟩), .agg #[.int .i64 kind, .string s, v]] w fun e w' => WD p gc (wAll A.1 A.2 (opn kind :: (bars g alts ++ [sht kind]))) w e w' := by
  obtain ⟨aa, ca, ba, oa, s0, rfl, hc, hm, ha, hcell, hin⟩ := hA
  have HC := (show Hid _ from hcell); clear hcell
  have HA := (show Hid _ from ha); clear ha
  have HI := (show Hid _ from hin); clear hin
  have HT := (show Hid _ from hit); clear hit
  have hlt0 := h.lt
  have HB0 := (show Hid _ from Box.new w 91 [.int .i64 kind, .string s, .slice aa alts.length ca])
  have HF0 := (show Hid _ from Fr.of_below (p := p) (bel_alloc w (.cells #[.int .i64 kind, .string s, .slice aa alts.length ca] 91)) (by omega))
  have hz := opn_size kind
  have HO := (show Hid _ from word_one p gc (opn kind) (by omega) A _ (h.still (bel_alloc w (.cells #[.int .i64 kind, .string s, .slice aa alts.length ca] 91))))
  have hz2 : (sht kind).size ≤ 4294967296 := by omega
  have HK := (show Hid _ from fun w => brackets_any kind w)
  unfold maxLen at hm
  clear h hz
  generalize opn kind = O at *
  generalize sht kind = H at *
  go_enter Tryz.func106, Tryz.ntmps106
  go_wp2_with fail
  refine Calls.mono (HK.out _) ?_
  rintro e w0 ⟨rfl, rfl⟩
  go_wp2_with fail
  refine Calls.mono HO.out ?_
  rintro e w1 ⟨rfl, h1, h2⟩
  have C2 : w1.cell? ⟨w.heap.size, 2, none⟩ = some (.slice aa alts.length ca) := (h2.box HB0.out (by omega) (by decide)).cell 2 (by simp)
  have H1 := (show Hid _ from (⟨h1, HF0.out.trans h2⟩ : _ ∧ _))
  clear h1 h2 HO HB0
  go_wp2_with fail
  go_loopw [20] (fun i wr => ∃ j : Nat, i = .int .i64 j ∧ j ≤ alts.length ∧ Hid (∃ B : ByteArray × Bool, Wr p gc B.1 B.2 wr ∧ Fr p w wr ∧ wAll B.1 B.2 (bark g alts j ++ [H]) = wAll A.1 A.2 (O :: (bars g alts ++ [H])))) (fun i _ => alts.length - (intOf i).toNat)
  case atStart => exact ⟨0, rfl, Nat.zero_le _, _, H1.out.1, H1.out.2, rfl⟩
  case round =>
    obtain ⟨j, rfl, hj, HR⟩ := hrel
    clear C2
    by_cases hlt : j < alts.length
    · have hlt' := hlt
      obtain ⟨rfl, _⟩ := HA.out (by omega)
      obtain ⟨B, hB, hF, hE⟩ := HR.out
      have c0 := HC.out j hlt'
      have hbw := hF.below hW hp
      obtain ⟨si, ci', ei, mi⟩ := (HI.out j hlt').form
      have hII := HI.out j hlt'
      have hTT := HT.out j hlt'
      rw [bark_bar hlt', List.append_assoc, wAll_append, List.append_assoc, wAll_append] at hE
      rw [ei] at c0 hII
      rw [← hbw.cell (lt_of_cell c0)] at c0
      have HV := (show Hid _ from wbar_any p gc j B wr hB)
      have HE := (show Hid _ from (⟨hF, hE, hbw, hII, hTT⟩ : _ ∧ _ ∧ _ ∧ _ ∧ _)); clear hE hF HR hB hbw hII hTT ei mi
      generalize alts[j] = al at *
      go_wp2_with fail
      refine Calls.mono HV.out ?_
      rintro e w2 ⟨rfl, h3, h4⟩
      have HV2 := (show Hid _ from HE.out.2.2.2.2 w2 _ _ (h4.below HE.out.2.2.1 hp) HE.out.2.2.2.1 h3)
      have HF4 := (show Hid _ from HE.out.1.trans h4)
      clear h3 h4 HV c0
      go_wp2_with fail
      refine Calls.mono HV2.out ?_
      rintro e w3 ⟨rfl, h5, h6⟩
      have HN : Hid (∃ B : ByteArray × Bool, Wr p gc B.1 B.2 w3 ∧ Fr p w w3 ∧ wAll B.1 B.2 (bark g alts (j + 1) ++ [H]) = wAll A.1 A.2 (O :: (bars g alts ++ [H]))) := ⟨_, h5, HF4.out.trans h6, HE.out.2.1⟩
      clear h5 h6 HV2 HE HF4
      go_wp2_with fail
      exact ⟨⟨j + 1, by go_num, by omega, HN⟩, by simp [intOf]; omega⟩
    · obtain ⟨B, hB, hF, hE⟩ := HR.out
      rw [bark_end (by omega)] at hE
      have HV := (show Hid _ from word_one p gc H hz2 B wr hB)
      have HN := (show Hid _ from (⟨hF, hE⟩ : _ ∧ _)); clear hB hF hE
      go_wp2_with fail
      refine Calls.mono HV.out ?_
      rintro e w2 ⟨rfl, h3, h4⟩
      have HM := (show Hid _ from (⟨h3, HN.out.1.trans h4⟩ : _ ∧ _)); clear h3 h4 HV
      go_wp2_with fail
      refine bodyPost_end (v := .tuple #[]) (by simp [results, Tryz.results106]) rfl ?_
      refine ⟨rfl, ?_, HM.out.2⟩
      rw [← HN.out.2]
      exact HM.out.1
/-- Items, to any depth. -/
theorem witems_any {S : Nat → Prop} (parts : List DPart) (hpl : parts.length ≤ 200) (hs : ∀ x (hx : x < parts.length), parts[x].s.size ≤ 1048576) (nm : ByteArray) (v1 v2 v3 vp : Value) (p : Nat) (W0 : World) (hp : W0.heap.size ≤ p) (hP : PartR W0 S parts vp) :
    ∀ (f : Nat) (items : List Int) (v : Value) (b : Int) (e e' : Nat) (w : World) (A : ByteArray × Bool), its parts f items b e = some e' → b ≤ parts.length → Below W0.heap.size W0 w → Ints W0 S items v → Wr p [.string nm, v1, v2, v3, vp] A.1 A.2 w →
    Calls Tryz.prog 88 #[.pointer (some ⟨p, 0, none⟩), v] w fun e w' => WD p [.string nm, v1, v2, v3, vp] (wAll A.1 A.2 (flI parts f items)) w e w' := by
  intro f
  induction f with
  | zero =>
    intro items v b e e' w A hit hb hW hI h
    have hrec0 : ∀ (l : List (List Int)) (x : Int) (e e' : Nat), altsL (fun _ _ _ => none) l x e = some e' → e ≤ e' ∧ l = [] := by
      intro l x e e' h
      cases l with
      | nil => simp [altsL] at h; subst h; exact ⟨Nat.le_refl _, rfl⟩
      | cons a r => simp [altsL] at h
    obtain ⟨h1, h2, h3, h4⟩ := itsL_mem (parts := parts) (rec := fun _ _ _ => none) (fun l x e e' h => (hrec0 l x e e' h).1) items b e e' hit
    refine witems_step (S := S) parts (flF parts 0) nm v1 v2 v3 vp p items v W0 w hW hp hI hP (fun k hk => ⟨(h4 k hk).1, by have := (h4 k hk).2.1; omega⟩) hs ?_ A h
    intro k hk w' v' A' _ _ k1 k2 _
    obtain ⟨q1, q2, q3, e1, q4⟩ := h4 k hk
    obtain ⟨k3, k4⟩ := par_kind q3
    have hnil := (hrec0 _ _ _ _ q4).2
    have := k4 (by omega)
    rw [hnil] at this
    exact absurd this (Nat.not_lt_zero _)
  | succ f ih =>
    intro items v b e e' w A hit hb hW hI h
    have hrec1 : ∀ (l : List (List Int)) (x : Int) (e e' : Nat), altsL (its parts f) l x e = some e' → e ≤ e' := fun l x e e' h => (altsL_mem (fun l x e e' h => its_le parts f l x e e' h) l x e e' h).1
    obtain ⟨h1, h2, h3, h4⟩ := itsL_mem (parts := parts) (rec := its parts f) hrec1 items b e e' hit
    refine witems_step (S := S) parts (flF parts (f + 1)) nm v1 v2 v3 vp p items v W0 w hW hp hI hP (fun k hk => ⟨(h4 k hk).1, by have := (h4 k hk).2.1; omega⟩) hs ?_ A h
    intro k hk w' v' A' hW' hI' k1 k2 h'
    obtain ⟨q1, q2, q3, e1, q4⟩ := h4 k hk
    refine wbracket_step (S := S) (flI parts f) _ _ _ _ p v' W0 w' hW' hp hI' ?_ A' h'
    intro k3 hk3 w3 v3 A3 hW3 hI3 h3'
    obtain ⟨_, hm⟩ := altsL_mem (fun l x e e' h => its_le parts f l x e e' h) _ _ _ _ q4
    obtain ⟨ea, eb, hr, _⟩ := hm k3 hk3
    exact ih _ v3 _ ea eb w3 A3 hr (by omega) hW3 hI3 h3'
end Go.Proofs.YtgjnlhidbjpdkajGreat
