import Derived.Test.YtblfeifedcddnaaVo
import Derived.Test.YtblfeifedcddnaaVl
import Derived.Test.YtblfeifedcddnaaCp
/-! The program: Patch. -/
namespace Go.Proofs.Ytblfeifedcddnaa
open Go.RowKit Go.Deep Go.Lib
set_option linter.unusedVariables false
set_option maxRecDepth 100000
set_option linter.unusedSimpArgs false

theorem QT.ok {n : Nat} {t t' : Tr} (h : QT 0 n t t') : t'.ok = t.ok ∧ (t.ok = true → t' = t) := by
  obtain ⟨h1, h2, h3, h4⟩ := h
  by_cases hn : n ≤ 1000
  · have := h2 hn
    subst this
    exact ⟨rfl, fun _ => rfl⟩
  · have a1 : t.ok = false := by
      cases e : t.ok
      · rfl
      · have := ok_cntF e; omega
    have a2 : t'.ok = false := by
      cases e : t'.ok
      · rfl
      · have := ok_cntF e; omega
    rw [a1, a2]
    exact ⟨rfl, fun h => by cases h⟩
set_option maxHeartbeats 3200000 in
theorem iPatch37 {S : Nat → Prop} (a : Tr) (d : De) (v tv kv : Value) (w : World) (ha : Lies w S a v) (hd : DLies w S d tv kv) (hwt : d.wt ≤ 1048576) :
    Calls Try.prog 37 #[a.val v, d.val tv kv] w (PaA a d w) := by
  obtain ⟨hbW, bA, bD, bR⟩ := w79_box w a v d tv kv
  have HOK := (show Hid (∀ wq, Below w.heap.size w wq → Calls Try.prog 47 #[a.val v] wq fun e w' => e = .returned (.bool a.ok) ∧ Below wq.heap.size wq w') from fun wq h => iOK_any a v wq (ha.still h))
  have HPT := (show Hid (∀ wq, Below w.heap.size w wq → Calls Try.prog 82 #[.pointer (some ⟨wq.heap.size, 0, none⟩), a.val v, d.val tv kv] (wq.alloc (.cells #[.int .i64 0] 119)) (IpA wq.heap.size wq.heap.size 0 d.wt (pa d a) (wq.alloc (.cells #[.int .i64 0] 119)))) from fun wq h => patch82 wq d a v tv kv (wq.alloc (.cells #[.int .i64 0] 119)) wq.heap.size 0 ((ha.still h).mono (fun _ _ => trivial)) (hd.still h).any (bel_alloc _ _) (Nat.le_refl _) (Box.new wq 119 [.int .i64 0]) (by omega) hwt)
  obtain ⟨aa, al, ap, rfl⟩ := ha.form
  obtain ⟨⟨ta, tl, tp, rfl⟩, ka, kp, rfl⟩ := hd.form
  have HBX := (show Hid _ from (⟨hbW, bA, bD, bR⟩ : _ ∧ _ ∧ _ ∧ _))
  clear ha hd hbW bA bD bR
  simp only [Tr.val, De.val] at HOK HPT HBX ⊢
  cases ho : a.ok
  · have HNO := (show Hid (∀ w', Below w.heap.size w w' → _) from fun w' hb => PaA.no (d := d) (c := 1) (by unfold ptR; rw [ho]; rfl) hb)
    rw [ho] at HOK
    have HC := (show Hid _ from HOK.out _ HBX.out.1)
    clear ho HOK HPT
    go_enter Try.func37, Try.ntmps37
    go_wp2_with fail
    refine Calls.mono HC.out ?_
    rintro e w1 ⟨rfl, hb1⟩
    have hbr := HBX.out.2.2.2.still hb1
    have r0 : w1.cell? ⟨w.heap.size + 1 + 1, 0, none⟩ = some (.string ⟨#[]⟩) := hbr.cell 0 (by simp)
    have r1 : w1.cell? ⟨w.heap.size + 1 + 1, 1, none⟩ = some (.string ⟨#[]⟩) := hbr.cell 1 (by simp)
    have r2 : w1.cell? ⟨w.heap.size + 1 + 1, 2, none⟩ = some (.bool false) := hbr.cell 2 (by simp)
    have r3 : w1.cell? ⟨w.heap.size + 1 + 1, 3, none⟩ = some (.slice none 0 0) := hbr.cell 3 (by simp)
    have fr0 := hbr.frozen 0
    have fr1 := hbr.frozen 1
    have fr2 := hbr.frozen 2
    have fr3 := hbr.frozen 3
    have HB1 := (show Hid (Below w.heap.size w w1) from bel_trans HBX.out.1 hb1)
    clear hb1 hbr HC HBX
    go_wp2_with fail
    refine bodyPost_ret (v := .tuple #[.agg #[.string ⟨#[]⟩, .string ⟨#[]⟩, .bool false, .slice none 0 0], .int .i64 1]) (by simp [results, Try.results37, go_sem, r0, r1, r2, r3]) rfl ?_
    exact HNO.out _ ((((HB1.out.setCell (by simp; omega) _).setCell (by simp; omega) _).setCell (by simp; omega) _).setCell (by simp; omega) _)
  · rw [ho] at HOK
    have HC := (show Hid _ from HOK.out _ HBX.out.1)
    have HR := (show Hid (∀ c : Nat, ptR a d = (noTr, c) → ∀ w', Below w.heap.size w w' → _) from fun c h w' hb => PaA.no h hb)
    have HP := (show Hid (ptR a d = (match pa d a with | none => (noTr, 10) | some t => if t.ok = true then (t, 0) else (noTr, 3))) from (by show _ = _; unfold ptR; rw [ho]; rfl))
    clear ho HOK
    go_enter Try.func37, Try.ntmps37
    go_wp2_with fail
    refine Calls.mono HC.out ?_
    rintro e w1 ⟨rfl, hb1⟩
    have hba := (HBX.out.2.1.still hb1).still (bel_alloc _ (.cells #[.int .i64 0] 119))
    have hbd := (HBX.out.2.2.1.still hb1).still (bel_alloc _ (.cells #[.int .i64 0] 119))
    have a0 : (w1.alloc (.cells #[.int .i64 0] 119)).cell? ⟨w.heap.size, 0, none⟩ = some (.string a.name) := hba.cell 0 (by simp)
    have a1 : (w1.alloc (.cells #[.int .i64 0] 119)).cell? ⟨w.heap.size, 1, none⟩ = some (.string a.text) := hba.cell 1 (by simp)
    have a2 : (w1.alloc (.cells #[.int .i64 0] 119)).cell? ⟨w.heap.size, 2, none⟩ = some (.bool a.leaf) := hba.cell 2 (by simp)
    have a3 : (w1.alloc (.cells #[.int .i64 0] 119)).cell? ⟨w.heap.size, 3, none⟩ = some (.slice aa al ap) := hba.cell 3 (by simp)
    have b0 : (w1.alloc (.cells #[.int .i64 0] 119)).cell? ⟨w.heap.size + 1, 0, none⟩ = some (.int .i64 d.kind) := hbd.cell 0 (by simp)
    have b1 : (w1.alloc (.cells #[.int .i64 0] 119)).cell? ⟨w.heap.size + 1, 1, none⟩ = some (.string d.tree.name) := hbd.cell 1 (by simp)
    have b2 : (w1.alloc (.cells #[.int .i64 0] 119)).cell? ⟨w.heap.size + 1, 2, none⟩ = some (.string d.tree.text) := hbd.cell 2 (by simp)
    have b3 : (w1.alloc (.cells #[.int .i64 0] 119)).cell? ⟨w.heap.size + 1, 3, none⟩ = some (.bool d.tree.leaf) := hbd.cell 3 (by simp)
    have b4 : (w1.alloc (.cells #[.int .i64 0] 119)).cell? ⟨w.heap.size + 1, 4, none⟩ = some (.slice ta tl tp) := hbd.cell 4 (by simp)
    have b5 : (w1.alloc (.cells #[.int .i64 0] 119)).cell? ⟨w.heap.size + 1, 5, none⟩ = some (.slice ka d.kids.length kp) := hbd.cell 5 (by simp)
    have HB1 := (show Hid (Below w.heap.size w w1) from bel_trans HBX.out.1 hb1)
    have HBR1 := (show Hid _ from HBX.out.2.2.2.still hb1)
    have HC2 := (show Hid _ from HPT.out w1 HB1.out)
    clear hb1 hba hbd HC HBX HPT
    go_wp2_with fail
    refine Calls.mono HC2.out ?_
    rintro e w2 ⟨T, u2, B, n2, rfl, hb2, hx2, hl2, hn2, h3, h4⟩
    obtain ⟨x1, x2, x3, rfl⟩ := hl2.form
    simp only [Tr.val]
    have hw1l := HBR1.out.lt
    have hbr := (HBR1.out.still (bel_alloc _ (.cells #[.int .i64 0] 119))).keep (hb2.block (by simp; omega) (by omega))
    have r0 : w2.cell? ⟨w.heap.size + 1 + 1, 0, none⟩ = some (.string ⟨#[]⟩) := hbr.cell 0 (by simp)
    have r1 : w2.cell? ⟨w.heap.size + 1 + 1, 1, none⟩ = some (.string ⟨#[]⟩) := hbr.cell 1 (by simp)
    have r2 : w2.cell? ⟨w.heap.size + 1 + 1, 2, none⟩ = some (.bool false) := hbr.cell 2 (by simp)
    have r3 : w2.cell? ⟨w.heap.size + 1 + 1, 3, none⟩ = some (.slice none 0 0) := hbr.cell 3 (by simp)
    have fr0 := hbr.frozen 0
    have fr1 := hbr.frozen 1
    have fr2 := hbr.frozen 2
    have fr3 := hbr.frozen 3
    have HB2 := (show Hid (Below w.heap.size w w2) from (by
      have h0 := bel_trans HB1.out (bel_alloc w1 (.cells #[.int .i64 0] 119))
      have h9 := HB1.out.size
      have h8 := h0.size
      exact ⟨hb2.1.trans h0.os, hb2.2.1.trans h0.tape, hb2.2.2.1.trans h0.output, Nat.le_trans h0.size hb2.size, fun q hq => (hb2.block (by omega) (by omega)).trans (h0.block q hq)⟩))
    have HBR2 := (show Hid _ from hbr)
    have hsr := hbr.lt
    clear hb2 hx2 hn2 hbr HC2 HBR1 HB1
    cases B
    · have HE := (show Hid (∀ w', Below w.heap.size w w' → _) from fun w' hb => HR.out 10 (HP.out.trans (by rw [h4 rfl])) w' hb)
      have hq := ((((HBR2.out.set 0 (.string ⟨#[]⟩)).set 1 (.string ⟨#[]⟩)).set 2 (.bool false)).set 3 (.slice none 0 0)).still (bel_alloc _ (.cells #[.string T.name, .string T.text, .bool T.leaf, .slice x1 x2 x3] 51))
      have q0 : (((((w2.setCell ⟨w.heap.size + 1 + 1, 0, none⟩ (.string ⟨#[]⟩)).setCell ⟨w.heap.size + 1 + 1, 1, none⟩ (.string ⟨#[]⟩)).setCell ⟨w.heap.size + 1 + 1, 2, none⟩ (.bool false)).setCell ⟨w.heap.size + 1 + 1, 3, none⟩ (.slice none 0 0)).alloc (.cells #[.string T.name, .string T.text, .bool T.leaf, .slice x1 x2 x3] 51)).cell? ⟨w.heap.size + 1 + 1, 0, none⟩ = some (.string ⟨#[]⟩) := hq.cell 0 (by simp)
      have q1 : (((((w2.setCell ⟨w.heap.size + 1 + 1, 0, none⟩ (.string ⟨#[]⟩)).setCell ⟨w.heap.size + 1 + 1, 1, none⟩ (.string ⟨#[]⟩)).setCell ⟨w.heap.size + 1 + 1, 2, none⟩ (.bool false)).setCell ⟨w.heap.size + 1 + 1, 3, none⟩ (.slice none 0 0)).alloc (.cells #[.string T.name, .string T.text, .bool T.leaf, .slice x1 x2 x3] 51)).cell? ⟨w.heap.size + 1 + 1, 1, none⟩ = some (.string ⟨#[]⟩) := hq.cell 1 (by simp)
      have q2 : (((((w2.setCell ⟨w.heap.size + 1 + 1, 0, none⟩ (.string ⟨#[]⟩)).setCell ⟨w.heap.size + 1 + 1, 1, none⟩ (.string ⟨#[]⟩)).setCell ⟨w.heap.size + 1 + 1, 2, none⟩ (.bool false)).setCell ⟨w.heap.size + 1 + 1, 3, none⟩ (.slice none 0 0)).alloc (.cells #[.string T.name, .string T.text, .bool T.leaf, .slice x1 x2 x3] 51)).cell? ⟨w.heap.size + 1 + 1, 2, none⟩ = some (.bool false) := hq.cell 2 (by simp)
      have q3 : (((((w2.setCell ⟨w.heap.size + 1 + 1, 0, none⟩ (.string ⟨#[]⟩)).setCell ⟨w.heap.size + 1 + 1, 1, none⟩ (.string ⟨#[]⟩)).setCell ⟨w.heap.size + 1 + 1, 2, none⟩ (.bool false)).setCell ⟨w.heap.size + 1 + 1, 3, none⟩ (.slice none 0 0)).alloc (.cells #[.string T.name, .string T.text, .bool T.leaf, .slice x1 x2 x3] 51)).cell? ⟨w.heap.size + 1 + 1, 3, none⟩ = some (.slice none 0 0) := hq.cell 3 (by simp)
      clear h3 h4 hl2 HR HP hq
      go_wp2_with fail
      refine bodyPost_ret (v := .tuple #[.agg #[.string ⟨#[]⟩, .string ⟨#[]⟩, .bool false, .slice none 0 0], .int .i64 10]) (by simp [results, Try.results37, go_sem, q0, q1, q2, q3]) rfl ?_
      exact HE.out _ (by first | exact (((((HB2.out.setCell (by simp; omega) _).setCell (by simp; omega) _).setCell (by simp; omega) _).setCell (by simp; omega) _).alloc (by have := HB2.out.size; simp; omega) _) | exact (((((HB2.out.alloc (by have := HB2.out.size; omega) _).setCell (by simp; omega) _).setCell (by simp; omega) _).setCell (by simp; omega) _).setCell (by simp; omega) _))
    · obtain ⟨T0, hT0, hQT⟩ := h3 rfl
      obtain ⟨hq1, hq2⟩ := hQT.ok
      have HPT := (show Hid (pa d a = some T0) from hT0)
      have HL2 := (show Hid (Lies (w2.alloc (.cells #[.string T.name, .string T.text, .bool T.leaf, .slice x1 x2 x3] 51)) (fun _ => True) T (.slice x1 x2 x3)) from (hl2.still (bel_alloc _ _)).mono (fun _ _ => trivial))
      have HBT := (show Hid _ from Box.new w2 51 [.string T.name, .string T.text, .bool T.leaf, .slice x1 x2 x3])
      have HOT := (show Hid _ from iOK_any T _ _ HL2.out)
      have HBR3 := (show Hid _ from HBR2.out.still (bel_alloc w2 (.cells #[.string T.name, .string T.text, .bool T.leaf, .slice x1 x2 x3] 51)))
      have HB3 := (show Hid (Below w.heap.size w (w2.alloc (.cells #[.string T.name, .string T.text, .bool T.leaf, .slice x1 x2 x3] 51))) from bel_trans HB2.out (bel_alloc _ _))
      rw [hq1] at HOT
      simp only [Tr.val] at HOT
      have HTE := (show Hid (T0.ok = true → T = T0) from hq2)
      clear h3 h4 hl2 HB2 HBR2 hT0 hQT hq1 hq2
      go_wp2_with fail
      refine Calls.mono HOT.out ?_
      rintro e w3 ⟨rfl, hb3⟩
      have hbr := HBR3.out.still hb3
      have hbt := HBT.out.still hb3
      clear r0 r1 r2 r3 fr0 fr1 fr2 fr3
      have r0 : w3.cell? ⟨w.heap.size + 1 + 1, 0, none⟩ = some (.string ⟨#[]⟩) := hbr.cell 0 (by simp)
      have r1 : w3.cell? ⟨w.heap.size + 1 + 1, 1, none⟩ = some (.string ⟨#[]⟩) := hbr.cell 1 (by simp)
      have r2 : w3.cell? ⟨w.heap.size + 1 + 1, 2, none⟩ = some (.bool false) := hbr.cell 2 (by simp)
      have r3 : w3.cell? ⟨w.heap.size + 1 + 1, 3, none⟩ = some (.slice none 0 0) := hbr.cell 3 (by simp)
      have fr0 := hbr.frozen 0
      have fr1 := hbr.frozen 1
      have fr2 := hbr.frozen 2
      have fr3 := hbr.frozen 3
      have t0 : w3.cell? ⟨w2.heap.size, 0, none⟩ = some (.string T.name) := hbt.cell 0 (by simp)
      have t1 : w3.cell? ⟨w2.heap.size, 1, none⟩ = some (.string T.text) := hbt.cell 1 (by simp)
      have t2 : w3.cell? ⟨w2.heap.size, 2, none⟩ = some (.bool T.leaf) := hbt.cell 2 (by simp)
      have t3 : w3.cell? ⟨w2.heap.size, 3, none⟩ = some (.slice x1 x2 x3) := hbt.cell 3 (by simp)
      have HB1 := (show Hid (Below w.heap.size w w3) from bel_trans HB3.out hb3)
      have HL3 := (show Hid _ from HL2.out.still hb3)
      have hs3 := hbr.lt
      have HBRX := (show Hid _ from hbr)
      clear hb3 hbr hbt HOT HL2 HB3 HBR3 HBT
      cases hT : T0.ok
      · have HE := (show Hid (∀ w', Below w.heap.size w w' → _) from fun w' hb => HR.out 3 (HP.out.trans (by rw [HPT.out]; show (if T0.ok = true then _ else _) = _; rw [hT]; rfl)) w' hb)
        clear HR HP HPT hT HTE
        go_wp2_with fail
        refine bodyPost_ret (v := .tuple #[.agg #[.string ⟨#[]⟩, .string ⟨#[]⟩, .bool false, .slice none 0 0], .int .i64 3]) (by simp [results, Try.results37, go_sem, r0, r1, r2, r3]) rfl ?_
        exact HE.out _ ((((HB1.out.setCell (by simp; omega) _).setCell (by simp; omega) _).setCell (by simp; omega) _).setCell (by simp; omega) _)
      · have HQ := (show Hid (ptR a d = (T, 0)) from HP.out.trans (by rw [HPT.out]; show (if T0.ok = true then _ else _) = _; rw [hT, HTE.out hT]; rfl))
        have hTT : T.ok = true := by rw [HTE.out hT]; exact hT
        have HCP := (show Hid _ from copied40 T _ w3 HL3.out (ok_wt hTT) (ok_right hTT))
        simp only [Tr.val] at HCP
        clear HR HP HPT hT HL3 HTE hTT
        go_wp2_with fail
        refine Calls.mono HCP.out ?_
        rintro e w4 ⟨u4, rfl, hb4, ho4⟩
        obtain ⟨y1, y2, y3, rfl⟩ := ho4.form
        have hbr := HBRX.out.still hb4
        clear r0 r1 r2 r3 fr0 fr1 fr2 fr3 t0 t1 t2 t3
        have r0 : w4.cell? ⟨w.heap.size + 1 + 1, 0, none⟩ = some (.string ⟨#[]⟩) := hbr.cell 0 (by simp)
        have r1 : w4.cell? ⟨w.heap.size + 1 + 1, 1, none⟩ = some (.string ⟨#[]⟩) := hbr.cell 1 (by simp)
        have r2 : w4.cell? ⟨w.heap.size + 1 + 1, 2, none⟩ = some (.bool false) := hbr.cell 2 (by simp)
        have r3 : w4.cell? ⟨w.heap.size + 1 + 1, 3, none⟩ = some (.slice none 0 0) := hbr.cell 3 (by simp)
        have fr0 := hbr.frozen 0
        have fr1 := hbr.frozen 1
        have fr2 := hbr.frozen 2
        have fr3 := hbr.frozen 3
        have HFI := (show Hid (Below w.heap.size w w4 ∧ Own w4 w3.heap.size w4.heap.size T (.slice y1 y2 y3)) from ⟨bel_trans HB1.out hb4, ho4⟩)
        clear hb4 ho4 hbr HCP HB1 HBRX
        go_wp2_with fail
        refine bodyPost_ret (v := .tuple #[.agg #[.string T.name, .string T.text, .bool T.leaf, .slice y1 y2 y3], .int .i64 0]) (by simp [results, Try.results37, go_sem, r0, r1, r2, r3]) rfl ⟨.slice y1 y2 y3, by rw [HQ.out]; rfl, ?_, ?_⟩
        · exact (((HFI.out.1.setCell (by simp; omega) _).setCell (by simp; omega) _).setCell (by simp; omega) _).setCell (by simp; omega) _
        · rw [HQ.out]
          exact ((((HFI.out.2.past (.inl (by omega))).past (.inl (by omega))).past (.inl (by omega))).past (.inl (by omega))).keep (by omega) (by simp) (fun _ _ _ _ => rfl)
end Go.Proofs.Ytblfeifedcddnaa
