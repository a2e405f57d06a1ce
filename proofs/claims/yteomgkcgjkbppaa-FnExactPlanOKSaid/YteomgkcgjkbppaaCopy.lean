import Derived.Test.YteomgkcgjkbppaaGrow
namespace Go.Proofs.Yteomgkcgjkbppaa
open Go.RowKit Go.Deep Go.Lib
set_option linter.unusedVariables false
set_option maxRecDepth 100000
set_option linter.unusedSimpArgs false

set_option maxHeartbeats 800000 in
theorem copy_any {S : Nat → Prop} (t : Tr) : ∀ (v : Value) (w : World), Lies w S t v → t.wt ≤ 1048576 →
    Calls Try.prog 35 #[t.val v] w fun e w' => ∃ v', e = .returned (t.val v') ∧ Below w.heap.size w w' ∧ Own w' w.heap.size w'.heap.size t v' := by
  refine Tr.ind (P := fun t => ∀ (v : Value) (w : World), Lies w S t v → t.wt ≤ 1048576 →
    Calls Try.prog 35 #[t.val v] w fun e w' => ∃ v', e = .returned (t.val v') ∧ Below w.heap.size w w' ∧ Own w' w.heap.size w'.heap.size t v') ?_ t
  intro n x l k ih v w hlies hwt
  rw [Tr.wt_mk] at hwt
  obtain ⟨a, cap, b, off, sv, rfl, hn, hx, hc, hm, ha, hcell, hk⟩ := hlies.out
  dsimp only at hn hx hc ha hcell hk ⊢
  have HI := (show Hid _ from ih); clear ih
  have HC := (show Hid _ from hcell); clear hcell
  have HK := (show Hid _ from hk); clear hk
  have HA := (show Hid _ from ha); clear ha
  have HX := (show Hid _ from (⟨hn, hx, hm⟩ : _ ∧ _ ∧ _))
  unfold maxLen at hm
  obtain ⟨i29, hi29, hzz⟩ := Option.map_eq_some_iff.1 info31
  simp only [Prod.mk.injEq] at hzz
  obtain ⟨hz0, hz1, hz2⟩ := hzz
  simp only [Tr.val]
  go_enter Try.func35, Try.ntmps35
  go_wp2_with fail
  go_loopw [3, 4] (fun u i wr => ∃ (j : Nat), j ≤ k.length ∧ i = .int .i64 j ∧ (∃ a' m' c', u = .slice a' m' c') ∧ Below ((w.alloc (.cells #[.string n, .string x, .bool l, .slice a k.length cap] 31)).alloc (.cells #[.string ByteArray.empty, .string ByteArray.empty, .bool false, .slice none 0 0] 31)).heap.size ((w.alloc (.cells #[.string n, .string x, .bool l, .slice a k.length cap] 31)).alloc (.cells #[.string ByteArray.empty, .string ByteArray.empty, .bool false, .slice none 0 0] 31)) wr ∧ Hid (Grw k (w.heap.size + 2) j u wr)) (fun _ i _ => k.length - (intOf i).toNat)
  case atStart =>
    refine ⟨0, Nat.zero_le _, rfl, ⟨_, _, _, rfl⟩, bel_alloc _ _, fun _ => .bool false, fun _ => 0, fun _ => 0, ?_, fun i hi => absurd hi (Nat.not_lt_zero _), fun i hi => absurd hi (Nat.not_lt_zero _), fun i i' _ hi => absurd hi (Nat.not_lt_zero _)⟩
    have := World.ownsRow_made (base := w.heap.size + 2) (e := 31) (size := 4) ((w.alloc (.cells #[.string n, .string x, .bool l, .slice a k.length cap] 31)).alloc (.cells #[.string ByteArray.empty, .string ByteArray.empty, .bool false, .slice none 0 0] 31)) #[] 0 (by simp) (Nat.zero_le _) rfl
    simp only [World.size_alloc] at this
    exact this
  case round =>
    obtain ⟨j, hj, rfl, ⟨a', m', c', rfl⟩, hbw, HG⟩ := hrel
    have hbw' : Below w.heap.size w wr := ((bel_alloc _ _).alloc (by simp) _).trans (hbw.mono (by simp; omega))
    have hwz : w.heap.size + 2 ≤ wr.heap.size := by have := hbw.size; simp at this; omega
    obtain ⟨hcc, hff⟩ := bcell hbw
    by_cases hlt : j < k.length
    · obtain ⟨rfl, _⟩ := HA.out (by omega)
      obtain ⟨c0, c1, c2, c3⟩ := HC.out j hlt
      rw [← hbw'.cell (lt_of_cell c0)] at c0
      rw [← hbw'.cell (lt_of_cell c1)] at c1
      rw [← hbw'.cell (lt_of_cell c2)] at c2
      rw [← hbw'.cell (lt_of_cell c3)] at c3
      obtain ⟨a1, l1, p1, hsv⟩ := (HK.out j hlt).form
      have hcl := HI.out j hlt (sv j) wr ((HK.out j hlt).still hbw') (by have := Tr.wt_mem k j hlt; omega)
      rw [hsv] at c3 hcl
      have HCL := (show Hid _ from hcl); clear hcl hsv
      have A3 : wr.cell? ⟨w.heap.size, 3, none⟩ = some (.slice (some ⟨b, off, none⟩) k.length cap) := by rw [hcc _ _ (by simp; omega)]; simp [go_sem]
      clear hcc hff
      go_wp2_with fail
      refine Calls.mono HCL.out ?_
      rintro e w1 ⟨v1, rfl, hb1, hl1⟩
      obtain ⟨a2, l2, p2, rfl⟩ := hl1.form
      obtain ⟨fs, ls, hs, hown, hls, hr, hd⟩ := HG.out
      have hown2 := own_still (own_still hown hb1) (bel_alloc w1 (.cells #[.string k[j].name, .string k[j].text, .bool k[j].leaf, .slice a2 l2 p2] 31))
      have HO2 := (show Hid _ from hown2)
      have HF := (show Hid _ from (⟨hl1, hown, hls, hr, hd⟩ : _ ∧ _ ∧ _ ∧ _ ∧ _)); clear hl1 hown hls hr hd hown2 c0 c1 c2 c3 A3
      have hs1 := hb1.size
      go_wp2_with (at_builtin; refine wpList_append_lies _ rfl (.tmp 13) (.tmp 20) 29 rfl (w.heap.size + 2) 31 i29 _ 4 64 Try.underlying29 hi29 hz0 hz1 hz2 rfl (by decide) _ j (kc k fs j) rfl HO2.out ⟨w1.heap.size, 0, none⟩ 1 1 [.string k[j].name, .string k[j].text, .bool k[j].leaf, .slice a2 l2 p2] rfl rfl ?c1 ?c2 (by decide) ?c3 (by omega) (by simp; omega) _ rfl ?nx)
      case c1 => exact cell_four_box _ _ _ _ _ _
      case c2 => intro u hu; simp at hu; rcases hu with rfl | rfl | rfl | rfl <;> rfl
      case c3 => unfold maxLen; omega
      case nx =>
        intro g3 cap3 w3 hown3 hgr3 hat3 hlt3
        obtain ⟨hl1, hown, hls, hr, hd⟩ := HF.out
        have hG3 : Grw k (w.heap.size + 2) (j + 1) (.slice (some ⟨g3, 0, none⟩) (j + 1) cap3) w3 := by
          rw [← nth_eq hlt] at hown3 hl1
          exact Grw.step hown hls hr hd hwz (bel_trans hb1 (bel_alloc _ _)) (hl1.still (bel_alloc _ _)) (Nat.le_refl _) (by simp) hown3 hgr3 (by rw [World.size_alloc]; exact hat3)
        have hb3 := (hbw.trans ((bel_trans hb1 (bel_alloc w1 (.cells #[.string k[j].name, .string k[j].text, .bool k[j].leaf, .slice a2 l2 p2] 31))).mono (by simp; omega))).grown hgr3 (by simp; omega) (fun q hq => by
          have := (World.ownsRow.lt hown q hq).1
          simp; omega)
        have HG3 := (show Hid _ from hG3); clear hG3 hown3 hgr3 hat3 hl1 hown hls hr hd
        go_wp2_with fail
        exact ⟨⟨j + 1, by omega, by go_num, ⟨_, _, _, rfl⟩, hb3, HG3⟩, by simp [intOf]; omega⟩
    · have : j = k.length := by omega
      subst this
      have hfin := Grw.done (n := n) (x := x) (le := l) HG.out HX.out.1 HX.out.2.1
      have HF := (show Hid _ from hfin); clear hfin
      have A0 : wr.cell? ⟨w.heap.size, 0, none⟩ = some (.string n) := by rw [hcc _ _ (by simp; omega)]; simp [go_sem]
      have A1 : wr.cell? ⟨w.heap.size, 1, none⟩ = some (.string x) := by rw [hcc _ _ (by simp; omega)]; simp [go_sem]
      have A2 : wr.cell? ⟨w.heap.size, 2, none⟩ = some (.bool l) := by rw [hcc _ _ (by simp; omega)]; simp [go_sem]
      have A3 : wr.cell? ⟨w.heap.size, 3, none⟩ = some (.slice a k.length cap) := by rw [hcc _ _ (by simp; omega)]; simp [go_sem]
      have f3 : wr.frozen? ⟨w.heap.size, 3, none⟩ = false := by rw [hff _ _ (by simp; omega)]; simp [go_sem]
      have Z0 : wr.cell? ⟨w.heap.size + 1, 0, none⟩ = some (.string ByteArray.empty) := by rw [hcc _ _ (by simp)]; simp [go_sem]
      have Z1 : wr.cell? ⟨w.heap.size + 1, 1, none⟩ = some (.string ByteArray.empty) := by rw [hcc _ _ (by simp)]; simp [go_sem]
      have Z2 : wr.cell? ⟨w.heap.size + 1, 2, none⟩ = some (.bool false) := by rw [hcc _ _ (by simp)]; simp [go_sem]
      have Z3 : wr.cell? ⟨w.heap.size + 1, 3, none⟩ = some (.slice none 0 0) := by rw [hcc _ _ (by simp)]; simp [go_sem]
      have y0 : wr.frozen? ⟨w.heap.size + 1, 0, none⟩ = false := by rw [hff _ _ (by simp)]; simp [go_sem]
      have y1 : wr.frozen? ⟨w.heap.size + 1, 1, none⟩ = false := by rw [hff _ _ (by simp)]; simp [go_sem]
      have y2 : wr.frozen? ⟨w.heap.size + 1, 2, none⟩ = false := by rw [hff _ _ (by simp)]; simp [go_sem]
      have y3 : wr.frozen? ⟨w.heap.size + 1, 3, none⟩ = false := by rw [hff _ _ (by simp)]; simp [go_sem]
      clear hcc hff
      go_wp2_with fail
      refine bodyPost_ret (v := .agg #[.string n, .string x, .bool l, .slice a' m' c']) (by simp [results, Try.results35, go_sem, Z0, Z1, Z2, Z3]) rfl ⟨_, rfl, ?_, ?_⟩
      · exact ((((hbw'.setCell (by simp) _).setCell (by simp) _).setCell (by simp) _).setCell (by simp) _).setCell (by simp) _
      · have hfin : Own wr (w.heap.size + 2) wr.heap.size _ _ := HF.out
        exact (((((hfin.past (.inl (by omega))).past (.inl (by omega))).past (.inl (by omega))).past (.inl (by omega))).past (.inl (by omega))).keep (by omega) (by simp) (fun _ _ _ _ => rfl)
end Go.Proofs.Yteomgkcgjkbppaa
