import Derived.Test.YtblfeifedcddnaaVc
import Derived.Test.YtblfeifedcddnaaMark2
/-! The laws' marks in a change that owns its rows: nothing else is turned. -/
namespace Go.Proofs.Ytblfeifedcddnaa
set_option linter.unusedVariables false
set_option linter.unusedSimpArgs false
set_option maxRecDepth 100000
open Go.RowKit Go.Deep Go.Lib

/-- markTree. -/
theorem mark31 (t : Tr) (v : Value) (w : World) (lo hi n : Nat) (h : Own w lo hi t v) (hhi : hi ≤ w.heap.size) (hn : 0 < n) (hnk : n + 3 * Tr.cntL t.kids ≤ 67108864) :
    Calls Try.prog 31 #[t.val v, .int .i64 n] w fun e w' => e = .returned (.int .i64 (n + 3 * Tr.cntL t.kids : Nat)) ∧ Out lo hi w w' ∧ Own w' lo hi (mk t n) v := by
  have hcl := markS_any t v (w.alloc (.cells #[.string t.name, .string t.text, .bool t.leaf, v] 51)) lo hi n (h.keep (Nat.le_refl _) (Nat.le_refl _) (fun k _ _ hk => (bel_alloc w _).block k hk)) (by simp; omega) hn hnk
  obtain ⟨a, len, cap, rfl⟩ := h.form
  have HCL := (show Hid _ from hcl); clear hcl h
  simp only [Tr.val]
  go_enter Try.func31, Try.ntmps31
  go_wp2_with fail
  refine Calls.mono HCL.out ?_
  rintro e w1 ⟨rfl, ho, hown⟩
  have HO := (show Hid _ from (⟨ho, hown⟩ : _ ∧ _)); clear ho hown
  go_wp2_with fail
  go_ret
  exact ⟨rfl, (Out.of_below (bel_alloc _ _)).trans HO.out.1, HO.out.2⟩
/-- The row of a change's Kids owns what it leads to. -/
def DOwnK (w : World) (lo hi : Nat) (k : List De) (kv : Value) : Prop :=
  ∃ (a : Option Addr) (cap b : Nat) (f : Nat → Value) (l h : Nat → Nat), kv = .slice a k.length cap ∧ k.length ≤ cap ∧ cap ≤ maxLen ∧
    (0 < k.length → a = some ⟨b, 0, none⟩ ∧ lo ≤ b ∧ b < hi ∧ w.rowIs b 57 (cap * 6) f) ∧
    (∀ i (hi : i < k.length), DOwn w (l i) (h i) k[i] (f (i * 6 + 4)) (f (i * 6 + 5))) ∧
    (∀ i, i < k.length → lo ≤ l i ∧ h i ≤ hi ∧ (b < l i ∨ h i ≤ b)) ∧
    ∀ i j, i < j → j < k.length → h i ≤ l j ∨ h j ≤ l i
theorem DOwn.parts {w : World} {lo hi : Nat} {d : De} {tv kv : Value} (hh : DOwn w lo hi d tv kv) : ∃ lt ht, Own w lt ht d.tree tv ∧ lo ≤ lt ∧ ht ≤ hi ∧ ∀ w', Out lt ht w w' → DOwnK w' lo hi d.kids kv := by
  obtain ⟨lt, ht, ho, g1, g2, a, cap, b, f, l, h, hv, hc, hm, ha, hf, hk, hr, hd⟩ := hh.out
  refine ⟨lt, ht, ho, g1, g2, fun w' hout => ⟨a, cap, b, f, l, h, hv, hc, hm, fun h0 => ?_, fun i hi => (hk i hi).outs hout (hr i hi).2.2.2, fun i hi => ⟨(hr i hi).1, (hr i hi).2.1, (hr i hi).2.2.1⟩, hd⟩⟩
  obtain ⟨q1, q2, q3, q5, q4⟩ := ha h0
  exact ⟨q1, q2, q3, q4.of_block (hout.2.2.2.2 b q4.lt (by omega))⟩
/-- What stands while the row is marked: the rest of it owns its rows still. -/
def MkD (k : List De) (cap b : Nat) (ts ks : Nat → Value) (l h : Nat → Nat) (j : Nat) (wr : World) : Prop :=
  ∃ f : Nat → Value, wr.rowIs b 57 (cap * 6) f ∧ (∀ i, i < k.length → f (i * 6 + 4) = ts i ∧ f (i * 6 + 5) = ks i) ∧ ∀ i (_ : j ≤ i) (hi : i < k.length), DOwn wr (l i) (h i) k[i] (ts i) (ks i)
set_option maxHeartbeats 1600000 in
theorem dmarkS76 (d : De) : ∀ (kv : Value) (w : World) (lo hi n : Nat), DOwnK w lo hi d.kids kv → hi ≤ w.heap.size → 0 < n → n + De.dmL d.kids ≤ 67108864 →
    Calls Try.prog 76 #[kv, .int .i64 n] w fun e w' => e = .returned (.int .i64 (n + De.dmL d.kids : Nat)) ∧ Out lo hi w w' := by
  refine De.ind (P := fun d => ∀ (kv : Value) (w : World) (lo hi n : Nat), DOwnK w lo hi d.kids kv → hi ≤ w.heap.size → 0 < n → n + De.dmL d.kids ≤ 67108864 →
    Calls Try.prog 76 #[kv, .int .i64 n] w fun e w' => e = .returned (.int .i64 (n + De.dmL d.kids : Nat)) ∧ Out lo hi w w') ?_ d
  intro c t k ih kv w lo hi n hown hhi hn hnk
  dsimp only at hown hnk ⊢
  obtain ⟨a, cap, b, f, l, h, rfl, hc, hm, ha, hk, hr, hd⟩ := hown
  have HI := (show Hid _ from ih); clear ih
  have HA := (show Hid (0 < k.length → a = some ⟨b, 0, none⟩ ∧ lo ≤ b ∧ b < hi) from fun h0 => ⟨(ha h0).1, (ha h0).2.1, (ha h0).2.2.1⟩)
  have HR := (show Hid _ from (⟨hr, hd⟩ : _ ∧ _))
  have HS := (show Hid (0 < k.length → MkD k cap b (fun i => f (i * 6 + 4)) (fun i => f (i * 6 + 5)) l h 0 w) from fun h0 => ⟨f, (ha h0).2.2.2, fun i hi => ⟨rfl, rfl⟩, fun i _ hi => hk i hi⟩)
  have HTS := (show Hid (∀ i, i < k.length → (∃ a m c, f (i * 6 + 4) = .slice a m c) ∧ ∃ a m c, f (i * 6 + 5) = .slice a m c) from fun i hi => ⟨(hk i hi).lies.form.1, by obtain ⟨_, p, q, e⟩ := (hk i hi).lies.form; exact ⟨_, _, _, e⟩⟩)
  clear ha hk hr hd
  unfold maxLen at hm
  generalize hts : (fun i => f (i * 6 + 4)) = ts at *
  generalize hks : (fun i => f (i * 6 + 5)) = ks at *
  have HT4 := (show Hid (∀ i, f (i * 6 + 4) = ts i ∧ f (i * 6 + 5) = ks i) from fun i => ⟨by rw [← hts], by rw [← hks]⟩)
  clear hts hks
  go_enter Try.func76, Try.ntmps76
  go_wp2_with fail
  go_loopw [1, 5] (fun u i wr => ∃ (j q : Nat), j ≤ k.length ∧ i = .int .i64 j ∧ u = .int .i64 q ∧ q ≤ 67108864 ∧ 0 < q ∧ Hid (q = n + De.dmL (k.take j)) ∧ Hid (Out lo hi w wr) ∧ Hid (0 < k.length → MkD k cap b ts ks l h j wr)) (fun _ i _ => k.length - (intOf i).toNat)
  case atStart => exact ⟨0, n, Nat.zero_le _, rfl, rfl, by omega, hn, by show n = _; simp [De.dmL], Out.refl _ _ _, HS⟩
  case round =>
    obtain ⟨j, q, hj, rfl, rfl, hq1, hq0, HQ, HO, HM⟩ := hrel
    clear HS
    by_cases hlt : j < k.length
    · obtain ⟨rfl, hb1', hb2'⟩ := HA.out (by omega)
      obtain ⟨f1, hrow, hsv, hol⟩ := HM.out (by omega)
      have g1 := De.dmL_take_succ k j hlt
      have g2 := De.dmL_take_le k (j + 1)
      have hqe := HQ.out
      have hdm : De.dm k[j] = 3 * Tr.cntL k[j].tree.kids + De.dmL k[j].kids := by
        generalize k[j] = d
        cases d
        exact De.dm_mk _ _ _
      have hq2 : q + 4 + 3 * Tr.cntL k[j].tree.kids + De.dmL k[j].kids ≤ 67108864 := by omega
      have HQ3 := (show Hid (q + 4 + 3 * Tr.cntL k[j].tree.kids + De.dmL k[j].kids = n + De.dmL (k.take (j + 1))) from (by show _ = _; omega)); clear g1 g2 hqe hdm
      obtain ⟨⟨ta, tl, tp, htv⟩, ka, kl, kp, hkv⟩ := HTS.out j hlt
      rw [(HT4.out j).1] at htv
      rw [(HT4.out j).2] at hkv
      have c0 := hrow.cell (i := j * 6) (by omega)
      have z0 := hrow.frozen (j * 6)
      have H1 := (show Hid _ from (⟨hrow, hsv, hol, htv, hkv⟩ : _ ∧ _ ∧ _ ∧ _ ∧ _)); clear hrow hsv hol htv hkv
      have hszb := H1.out.1.lt
      go_wp2_with fail
      refine Calls.mono (markText_any (q + 1) (by omega) (by omega) _) ?_
      rintro e w1 ⟨rfl, hb1⟩
      have hR0 := H1.out.1.set (j * 6) (.int .i64 q)
      have hrow1 := hR0.of_block (hb1.block _ hR0.lt)
      have c1 := hrow1.cell (i := j * 6 + 1) (by omega)
      have z1 := hrow1.frozen (j * 6 + 1)
      have HR1 := (show Hid _ from hrow1)
      clear hrow1 hR0 c0 z0
      go_wp2_with fail
      refine Calls.mono (markText_any (q + 1 + 1) (by omega) (by omega) _) ?_
      rintro e w2 ⟨rfl, hb2⟩
      have hrow1 : w1.rowIs b 57 (cap * 6) _ := HR1.out
      have hR1 := hrow1.set (j * 6 + 1) (.string (mt (q + 1)))
      clear hrow1
      have hrow2 := hR1.of_block (hb2.block _ hR1.lt)
      have c2 := hrow2.cell (i := j * 6 + 2) (by omega)
      have z2 := hrow2.frozen (j * 6 + 2)
      have c3 := hrow2.cell (i := j * 6 + 3) (by omega)
      have z3 := hrow2.frozen (j * 6 + 3)
      have c4 := hrow2.cell (i := j * 6 + 4) (by omega)
      have hs4 : f1 (j * 6 + 4) = .slice ta tl tp := (H1.out.2.1 j hlt).1.trans H1.out.2.2.2.1
      rw [if_neg (by omega), if_neg (by omega), hs4] at c4
      have HR2 := (show Hid _ from hrow2)
      clear hrow2 hR1 c1 z1 hs4
      go_wp2_with fail
      have eq4 : ((q : Int) + 1 + 1 + 1 + 1) = ((q + 4 : Nat) : Int) := by omega
      rw [eq4]
      generalize (((q : Int) + 1 + 1 + 1) % 3 == 0) = B
      have hrow2 : w2.rowIs b 57 (cap * 6) _ := HR2.out
      have hR3 := (hrow2.set (j * 6 + 2) (.string (mt (q + 1 + 1)))).set (j * 6 + 3) (.bool B)
      have hs1 := hb1.size
      have hs2 := hb2.size
      simp only [World.size_setCell] at hs1 hs2
      have hW : ∀ p, p < wr.heap.size → p ≠ b → ((w2.setCell ⟨b, j * 6 + 2, none⟩ (.string (mt (q + 1 + 1)))).setCell ⟨b, j * 6 + 3, none⟩ (.bool B)).heap[p]? = wr.heap[p]? := by
        intro p hp hpb
        rw [blk_setCell_other _ _ _ _ (by exact hpb), blk_setCell_other _ _ _ _ (by exact hpb), hb2.block p (by simp; omega), blk_setCell_other _ _ _ _ (by exact hpb), hb1.block p (by simp; omega), blk_setCell_other _ _ _ _ (by exact hpb)]
      have hwsz : wr.heap.size ≤ ((w2.setCell ⟨b, j * 6 + 2, none⟩ (.string (mt (q + 1 + 1)))).setCell ⟨b, j * 6 + 3, none⟩ (.bool B)).heap.size := by simp; omega
      have hOW : Out lo hi wr ((w2.setCell ⟨b, j * 6 + 2, none⟩ (.string (mt (q + 1 + 1)))).setCell ⟨b, j * 6 + 3, none⟩ (.bool B)) :=
        (((((Out.set _ _ hb1' hb2').trans (Out.of_below hb1)).trans (Out.set _ _ hb1' hb2')).trans (Out.of_below hb2)).trans (Out.set _ _ hb1' hb2')).trans (Out.set _ _ hb1' hb2')
      generalize hW3 : ((w2.setCell ⟨b, j * 6 + 2, none⟩ (.string (mt (q + 1 + 1)))).setCell ⟨b, j * 6 + 3, none⟩ (.bool B)) = W3 at *
      clear hW3 c2 c3 c4 z2 z3
      obtain ⟨hr, hd⟩ := HR.out
      have hjr := hr j hlt
      have hhi2 : hi ≤ wr.heap.size := Nat.le_trans hhi HO.out.2.2.2.1
      obtain ⟨g1, g2, g3, g4, g5⟩ := H1.out
      have hall : ∀ i (_ : j ≤ i) (hi : i < k.length), DOwn W3 (l i) (h i) k[i] (ts i) (ks i) := fun i hi1 hi2 => (g3 i hi1 hi2).keep (Nat.le_refl _) (Nat.le_refl _) (fun p h1 h2 h3 => hW p h3 (by have := hr i hi2; omega))
      obtain ⟨lt, ht, hot, p1, p2, hK⟩ := (hall j (Nat.le_refl _) hlt).parts
      have hf4 : ∀ i, i < k.length → (if i * 6 + 4 = j * 6 + 3 then Value.bool B else if i * 6 + 4 = j * 6 + 2 then Value.string (mt (q + 1 + 1)) else if i * 6 + 4 = j * 6 + 1 then Value.string (mt (q + 1)) else if i * 6 + 4 = j * 6 then Value.int .i64 q else f1 (i * 6 + 4)) = ts i := fun i hi => by
        rw [if_neg (by omega), if_neg (by omega), if_neg (by omega), if_neg (by omega)]; exact (g2 i hi).1
      have hf5 : ∀ i, i < k.length → (if i * 6 + 5 = j * 6 + 3 then Value.bool B else if i * 6 + 5 = j * 6 + 2 then Value.string (mt (q + 1 + 1)) else if i * 6 + 5 = j * 6 + 1 then Value.string (mt (q + 1)) else if i * 6 + 5 = j * 6 then Value.int .i64 q else f1 (i * 6 + 5)) = ks i := fun i hi => by
        rw [if_neg (by omega), if_neg (by omega), if_neg (by omega), if_neg (by omega)]; exact (g2 i hi).2
      have HMK := (show Hid (∀ w', Out (l j) (h j) W3 w' → 0 < k.length → MkD k cap b ts ks l h (j + 1) w') from fun w' ho _ => by
        refine ⟨_, hR3.of_block (ho.2.2.2.2 b hR3.lt (by omega)), fun i hi => ⟨hf4 i hi, hf5 i hi⟩, fun i hi1 hi2 => (hall i (by omega) hi2).outs ho ?_⟩
        have := hd j i (by omega) hi2
        omega)
      have HC5 := (show Hid (∀ w', Out (l j) (h j) W3 w' → w'.cell? ⟨b, j * 6 + 5, none⟩ = some (.slice ka kl kp)) from fun w' ho => by
        have hc := (hR3.of_block (ho.2.2.2.2 b hR3.lt (by omega))).cell (i := j * 6 + 5) (by omega)
        rw [hf5 j hlt, g5] at hc
        exact hc)
      have HCT := (show Hid _ from markS_any k[j].tree (ts j) W3 lt ht (q + 4) hot (by omega) (by omega) (by omega))
      have HK5 := (show Hid (∀ w', Out lt ht W3 w' → DOwnK w' (l j) (h j) k[j].kids (.slice ka kl kp)) from fun w' ho => by rw [← g5]; exact hK w' ho)
      rw [g4] at HCT
      have HOW := (show Hid (Out lo hi w W3) from HO.out.trans hOW)
      clear hall hf4 hf5 hR3 hrow2 hK hot hW hOW g1 g2 g3 g4 g5 hb1 hb2 H1 HR1 HR2 HM HO
      refine Calls.mono HCT.out ?_
      rintro e w4 ⟨rfl, ho4, _⟩
      have c5 := HC5.out w4 (ho4.mono p1 p2)
      have HCK := (show Hid _ from HI.out j hlt (.slice ka kl kp) w4 (l j) (h j) (q + 4 + 3 * Tr.cntL k[j].tree.kids) (HK5.out w4 ho4) (by have := ho4.2.2.2.1; omega) (by omega) (by omega))
      have HO4 := (show Hid (Out (l j) (h j) W3 w4) from ho4.mono p1 p2)
      clear ho4 HCT HK5
      have hq40 : 0 < q + 4 + 3 * Tr.cntL k[j].tree.kids := by omega
      generalize q + 4 + 3 * Tr.cntL k[j].tree.kids = q4 at *
      go_wp2_with fail
      refine Calls.mono HCK.out ?_
      rintro e w5 ⟨rfl, ho5⟩
      have HO5 := (show Hid (Out (l j) (h j) W3 w5) from HO4.out.trans ho5)
      have HM5 := (show Hid (0 < k.length → MkD k cap b ts ks l h (j + 1) w5) from HMK.out w5 HO5.out)
      have HOF := (show Hid (Out lo hi w w5) from HOW.out.trans (HO5.out.mono (by omega) (by omega)))
      have hqb : q4 + De.dmL k[j].kids ≤ 67108864 := hq2
      clear ho5 HCK HO4 HO5 HMK HC5 HOW c5 hq2
      generalize hqq : q4 + De.dmL k[j].kids = qq at *
      have hqq0 : 0 < qq := by omega
      clear hqq
      go_wp2_with fail
      exact ⟨⟨j + 1, qq, by omega, by go_num, rfl, hqb, hqq0, HQ3, HOF, HM5⟩, by simp [intOf]; omega⟩
    · have : j = k.length := by omega
      subst this
      have hqe := HQ.out
      rw [List.take_length] at hqe
      have HF := (show Hid _ from (⟨HO.out, hqe⟩ : _ ∧ _)); clear hqe HQ HO HM
      go_wp2_with fail
      go_ret
      exact ⟨by rw [← HF.out.2]; rfl, HF.out.1⟩
/-- markDelta. -/
theorem dmark32 (d : De) (tv kv : Value) (w : World) (lo hi n : Nat) (h : DOwn w lo hi d tv kv) (hhi : hi ≤ w.heap.size) (hn : 0 < n) (hnk : n + De.dm d ≤ 67108864) :
    Calls Try.prog 32 #[d.val tv kv, .int .i64 n] w fun e w' => e = .returned (.int .i64 (n + De.dm d : Nat)) ∧ Out lo hi w w' := by
  have hdm : De.dm d = 3 * Tr.cntL d.tree.kids + De.dmL d.kids := by
    cases d
    exact De.dm_mk _ _ _
  obtain ⟨⟨ta, tl, tp, rfl⟩, ka, kp, rfl⟩ := h.lies.form
  obtain ⟨lt, ht, hot, g1, g2, hK⟩ := h.parts
  have hbA := bel_alloc w (.cells #[.int .i64 d.kind, .string d.tree.name, .string d.tree.text, .bool d.tree.leaf, .slice ta tl tp, .slice ka d.kids.length kp] 57)
  have HT := (show Hid _ from mark31 d.tree _ _ lt ht n (hot.still hbA) (by simp; omega) hn (by omega))
  have HK := (show Hid (∀ w', Out lt ht (w.alloc (.cells #[.int .i64 d.kind, .string d.tree.name, .string d.tree.text, .bool d.tree.leaf, .slice ta tl tp, .slice ka d.kids.length kp] 57)) w' → DOwnK w' lo hi d.kids (.slice ka d.kids.length kp)) from fun w' ho => hK w' ((Out.of_below hbA).trans ho))
  have HBX := (show Hid _ from Box.new w 57 [.int .i64 d.kind, .string d.tree.name, .string d.tree.text, .bool d.tree.leaf, .slice ta tl tp, .slice ka d.kids.length kp])
  clear hot hK h
  simp only [De.val, Tr.val] at HT ⊢
  have HD := (show Hid _ from hdm); clear hdm
  go_enter Try.func32, Try.ntmps32
  go_wp2_with fail
  refine Calls.mono HT.out ?_
  rintro e w1 ⟨rfl, ho1, _⟩
  have bx := HBX.out.out ho1 (.inr (by omega))
  have A5 : w1.cell? ⟨w.heap.size, 5, none⟩ = some (.slice ka d.kids.length kp) := bx.cell 5 (by simp)
  have HC := (show Hid _ from dmarkS76 d _ w1 lo hi (n + 3 * Tr.cntL d.tree.kids) (HK.out w1 ho1) (by have := ho1.2.2.2.1; simp at this; omega) (by omega) (by have := HD.out; omega))
  have HO := (show Hid (Out lo hi w w1) from (Out.of_below hbA).trans (ho1.mono g1 g2))
  have HD2 := (show Hid (n + 3 * Tr.cntL d.tree.kids + De.dmL d.kids = n + De.dm d) from (by have := HD.out; show _ = _; omega))
  clear ho1 HT HK HBX bx hbA HD
  generalize n + 3 * Tr.cntL d.tree.kids = n1 at *
  go_wp2_with fail
  refine Calls.mono HC.out ?_
  rintro e w2 ⟨rfl, ho2⟩
  have HE := (show Hid (Out lo hi w w2) from HO.out.trans ho2)
  clear ho2 HC
  rw [HD2.out]
  go_wp2_with fail
  go_ret
  exact ⟨rfl, HE.out⟩
end Go.Proofs.Ytblfeifedcddnaa
