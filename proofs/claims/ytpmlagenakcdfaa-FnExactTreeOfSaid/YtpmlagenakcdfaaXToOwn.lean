import Derived.Test.YtpmlagenakcdfaaXMark2
import Derived.Deep.RegionWith
namespace Go.Proofs.Ytpmlagenakcdfaa.T
open Go.RowKit Go.Deep Go.Lib
set_option linter.unusedVariables false
set_option linter.unusedSimpArgs false

set_option maxHeartbeats 1600000 in
theorem heldS_any {S : Nat → Prop} (t : Tr) : ∀ (nm x : ByteArray) (le : Bool) (v : Value) (w : World) (n : Nat), Lies w S ⟨nm, x, le, (mkP t).2 n⟩ v → 0 < n → n + 3 * Tr.cntL t.kids ≤ 67108864 →
    Calls Try.prog 62 #[v, .int .i64 n] w fun e w' => e = .returned (.int .i64 (n + 3 * Tr.cntL t.kids : Nat)) ∧ Below w.heap.size w w' := by
  refine Tr.ind (P := fun t => ∀ (nm x : ByteArray) (le : Bool) (v : Value) (w : World) (n : Nat), Lies w S ⟨nm, x, le, (mkP t).2 n⟩ v → 0 < n → n + 3 * Tr.cntL t.kids ≤ 67108864 →
    Calls Try.prog 62 #[v, .int .i64 n] w fun e w' => e = .returned (.int .i64 (n + 3 * Tr.cntL t.kids : Nat)) ∧ Below w.heap.size w w') ?_ t
  intro nm0 x0 le0 k ih nm x le v w n hlies hn0 hnk
  have ek : (mkP ⟨nm0, x0, le0, k⟩).2 n = mkL k n := by rw [mkP_mk]; rfl
  rw [ek] at hlies
  obtain ⟨a, cap, b, off, sv, rfl, hn, hx, hc, hm, ha, hcell, hk⟩ := hlies.out
  dsimp only at hn hx hc ha hcell hk hnk ⊢
  have hlen := mkL_len k n
  rw [hlen] at hc ha ⊢
  have hcell' : ∀ i (hi : i < k.length), w.cell? ⟨b, off + i * 4, none⟩ = some (.string (mt (n + 3 * Tr.cntL (k.take i)))) ∧ w.cell? ⟨b, off + i * 4 + 1, none⟩ = some (.string (mt (n + 3 * Tr.cntL (k.take i) + 1))) ∧
        w.cell? ⟨b, off + i * 4 + 2, none⟩ = some (.bool (decide ((n + 3 * Tr.cntL (k.take i) + 2) % 3 = 0))) ∧ w.cell? ⟨b, off + i * 4 + 3, none⟩ = some (sv i) := by
    intro i hi
    have := hcell i (by rw [hlen]; exact hi)
    rw [mkL_get k n i hi] at this
    exact this
  have hk' : ∀ i (hi : i < k.length), ∃ nm x le, Lies w S ⟨nm, x, le, (mkP k[i]).2 (n + 3 * Tr.cntL (k.take i) + 3)⟩ (sv i) := by
    intro i hi
    have := hk i (by rw [hlen]; exact hi)
    rw [mkL_get k n i hi] at this
    exact ⟨_, _, _, this⟩
  clear hcell hk hlen ek hlies
  have HI := (show Hid _ from ih); clear ih
  have HC := (show Hid _ from hcell'); clear hcell'
  have HK := (show Hid _ from hk'); clear hk'
  have HA := (show Hid _ from ha); clear ha
  unfold maxLen at hm
  go_enter Try.func62, Try.ntmps62
  go_wp2_with fail
  go_loopw [1, 5] (fun u i wr => ∃ (j q : Nat), j ≤ k.length ∧ i = .int .i64 j ∧ u = .int .i64 q ∧ q ≤ 67108864 ∧ 0 < q ∧ Hid (q = n + 3 * Tr.cntL (k.take j)) ∧ Below w.heap.size w wr) (fun _ i _ => k.length - (intOf i).toNat)
  case atStart => exact ⟨0, n, Nat.zero_le _, rfl, rfl, by omega, hn0, by show n = _; simp [Tr.cntL], Below.refl _ _⟩
  case round =>
    obtain ⟨j, q, hj, rfl, rfl, hq1, hq0, HQ, hbw⟩ := hrel
    by_cases hlt : j < k.length
    · obtain ⟨rfl, _⟩ := HA.out (by omega)
      obtain ⟨c0, c1, c2, c3⟩ := HC.out j hlt
      obtain ⟨n1, x1, le1, hkj⟩ := HK.out j hlt
      rw [← HQ.out] at c0 c1 c2 hkj
      have hcp := cnt_eq k[j]
      have hq2 : q + 3 * k[j].cnt ≤ 67108864 := by
        have := Tr.cntL_take_succ k j hlt
        have := Tr.cntL_take_le k (j + 1)
        have := HQ.out
        omega
      have eb : decide ((q + 2) % 3 = 0) = (((q : Int) + 1 + 1) % 3 == 0) := by
        rw [Bool.eq_iff_iff]
        simp
        omega
      rw [eb] at c2
      clear eb
      rw [← hbw.cell (lt_of_cell c0)] at c0
      rw [← hbw.cell (lt_of_cell c1)] at c1
      rw [← hbw.cell (lt_of_cell c2)] at c2
      rw [← hbw.cell (lt_of_cell c3)] at c3
      obtain ⟨a1, l1, p1, hsvj⟩ := hkj.form
      have hcl := fun (w' : World) (hw : Below wr.heap.size wr w') => HI.out j hlt n1 x1 le1 (sv j) w' (q + 3) (hkj.still (bel_trans hbw hw)) (by omega) (by omega)
      rw [hsvj] at hcl c3
      have HCL := (show Hid _ from hcl); clear hcl hkj hsvj
      have hmt := fun (w' : World) => markText_any q hq0 hq1 w'
      have hmt1 := fun (w' : World) => markText_any (q + 1) (by omega) (by omega) w'
      have HM0 := (show Hid _ from hmt); clear hmt
      have HM1 := (show Hid _ from hmt1); clear hmt1
      have C0 := (show Hid _ from c0)
      have C1 := (show Hid _ from (⟨c1, c2, c3⟩ : _ ∧ _ ∧ _)); clear c1 c2 c3
      have hdr := (Below.refl wr.heap.size wr).drew
      go_wp2_with fail
      go_region_with (go_at_call 60; refine Calls.mono (HM0.out _) ?_; rintro e w1 ⟨rfl, hb1⟩; have d0 := ((hdr.trans (hb1.mono (Nat.le_refl _))).cell (lt_of_cell C0.out)).trans C0.out)
      all_goals
        have hbA : Below wr.heap.size wr w1 := hdr.trans (hb1.mono (Nat.le_refl _))
        obtain ⟨c1, c2, c3⟩ := C1.out
        rw [← hbA.cell (lt_of_cell c1)] at c1
        rw [← hbA.cell (lt_of_cell c2)] at c2
        rw [← hbA.cell (lt_of_cell c3)] at c3
        have D1 := (show Hid _ from c1)
        have D2 := (show Hid _ from (⟨c2, c3⟩ : _ ∧ _)); clear c2 c3 d0 c0 C0 C1
        have hdr1 := (Below.refl w1.heap.size w1).drew
        go_wp2_with fail
        go_region_with (go_at_call 60; refine Calls.mono (HM1.out _) ?_; rintro e w2 ⟨rfl, hb2⟩; have d1 := ((hdr1.trans (hb2.mono (Nat.le_refl _))).cell (lt_of_cell D1.out)).trans D1.out)
      all_goals
        have hbB : Below wr.heap.size wr w2 := bel_trans hbA (hdr1.trans (hb2.mono (Nat.le_refl _)))
        obtain ⟨c2, c3⟩ := D2.out
        have hbC := hdr1.trans (hb2.mono (Nat.le_refl _))
        rw [← hbC.cell (lt_of_cell c2)] at c2
        rw [← hbC.cell (lt_of_cell c3)] at c3
        clear D1 D2 d1 c1 hdr1 hdr hbC
        go_wp2_with fail
        have eq3 : ((q : Int) + 1 + 1 + 1) = ((q + 3 : Nat) : Int) := by omega
        rw [eq3]
        refine Calls.mono (HCL.out w2 hbB) ?_
        rintro e w4 ⟨rfl, hb4⟩
        have hb5 : Below w.heap.size w w4 := bel_trans hbw (bel_trans hbB hb4)
        have hq4 : q + 3 + 3 * Tr.cntL k[j].kids = n + 3 * Tr.cntL (k.take (j + 1)) := by
          have := Tr.cntL_take_succ k j hlt
          have := HQ.out
          omega
        have HQ4 := (show Hid _ from hq4); clear hq4
        generalize hqq : q + 3 + 3 * Tr.cntL k[j].kids = qq at *
        have hqq2 : qq ≤ 67108864 := by omega
        have hqq0 : 0 < qq := by omega
        clear hqq
        go_wp2_with fail
        exact ⟨⟨j + 1, qq, by omega, by go_num, rfl, hqq2, hqq0, HQ4, hb5⟩, by simp [intOf]; omega⟩
    · have : j = k.length := by omega
      subst this
      have hqe := HQ.out
      rw [List.take_length] at hqe
      have HF := (show Hid _ from hqe); clear hqe
      go_wp2_with fail
      go_ret
      exact ⟨by rw [← HF.out]; rfl, hbw⟩
end Go.Proofs.Ytpmlagenakcdfaa.T

namespace Go.Proofs.Ytpmlagenakcdfaa.T
open Go.RowKit Go.Deep Go.Lib
set_option linter.unusedVariables false
set_option linter.unusedSimpArgs false

set_option maxRecDepth 100000
theorem mark_any (t : Tr) (v : Value) (w : World) (lo hi n : Nat) (h : Own w lo hi t v) (hhi : hi ≤ w.heap.size) (hn : 0 < n) (hnk : n + 3 * Tr.cntL t.kids ≤ 67108864) :
    Calls Try.prog 25 #[t.val v, .int .i64 n] w fun e w' => e = .returned (.int .i64 (n + 3 * Tr.cntL t.kids : Nat)) ∧ Out lo hi w w' ∧ Own w' lo hi (mk t n) v := by
  have hcl := markS_any t v (w.alloc (.cells #[.string t.name, .string t.text, .bool t.leaf, v] 48)) lo hi n (h.keep (Nat.le_refl _) (Nat.le_refl _) (fun k _ _ hk => (bel_alloc w _).block k hk)) (by simp; omega) hn hnk
  obtain ⟨a, len, cap, rfl⟩ := h.form
  have HCL := (show Hid _ from hcl); clear hcl h
  simp only [Tr.val]
  go_enter Try.func25, Try.ntmps25
  go_wp2_with fail
  refine Calls.mono HCL.out ?_
  rintro e w1 ⟨rfl, ho, hown⟩
  have HO := (show Hid _ from (⟨ho, hown⟩ : _ ∧ _)); clear ho hown
  go_wp2_with fail
  go_ret
  exact ⟨rfl, (Out.of_below (bel_alloc _ _)).trans HO.out.1, HO.out.2⟩
theorem held_any {S : Nat → Prop} (t : Tr) (nm x : ByteArray) (le : Bool) (v : Value) (w : World) (n : Nat) (h : Lies w S ⟨nm, x, le, (mkP t).2 n⟩ v) (hn : 0 < n) (hnk : n + 3 * Tr.cntL t.kids ≤ 67108864) (nm' x' : ByteArray) (le' : Bool) :
    Calls Try.prog 26 #[.agg #[.string nm', .string x', .bool le', v], .int .i64 n] w fun e w' => e = .returned (.int .i64 (n + 3 * Tr.cntL t.kids : Nat)) ∧ Below w.heap.size w w' := by
  have hcl := heldS_any t nm x le v (w.alloc (.cells #[.string nm', .string x', .bool le', v] 48)) n (h.still (bel_alloc _ _)) hn hnk
  obtain ⟨a, len, cap, rfl⟩ := h.form
  have HCL := (show Hid _ from hcl); clear hcl h
  go_enter Try.func26, Try.ntmps26
  go_wp2_with fail
  refine Calls.mono HCL.out ?_
  rintro e w1 ⟨rfl, hb⟩
  go_wp2_with fail
  go_ret
  exact ⟨rfl, bel_box hb⟩
end Go.Proofs.Ytpmlagenakcdfaa.T

namespace Go.Proofs.Ytpmlagenakcdfaa.T
open Go.RowKit Go.Deep Go.Lib
set_option linter.unusedVariables false
set_option linter.unusedSimpArgs false

/-- What the loop of toTreeS has made of the first j Kids: each owns a range behind the row g. -/
def MadeO (k : List Tr) (g : Nat) (j : Nat) (wr : World) : Prop :=
  ∃ (f : Nat → Value) (l h : Nat → Nat), wr.rowIs g 48 (k.length * 4) f ∧
    (∀ i (_ : i < j) (hi : i < k.length), f (i * 4) = .string k[i].name ∧ f (i * 4 + 1) = .string k[i].text ∧ f (i * 4 + 2) = .bool k[i].leaf) ∧
    (∀ i (_ : i < j) (hi : i < k.length), Own wr (l i) (h i) k[i] (f (i * 4 + 3))) ∧ (∀ i, i < j → g < l i ∧ h i ≤ wr.heap.size) ∧ ∀ i i', i < i' → i' < j → h i ≤ l i'

theorem Own.past {w : World} {t : Tr} {v u : Value} {lo hi g o : Nat} (h : Own w lo hi t v) (hg : g < lo ∨ hi ≤ g) : Own (w.setCell ⟨g, o, none⟩ u) lo hi t v :=
  h.keep (Nat.le_refl _) (Nat.le_refl _) (fun k h1 h2 _ => blk_setCell_other _ _ _ _ (by show k ≠ g; omega))
theorem Own.still {w w' : World} {t : Tr} {v : Value} {lo hi : Nat} (h : Own w lo hi t v) (hb : Below w.heap.size w w') : Own w' lo hi t v :=
  h.keep (Nat.le_refl _) (Nat.le_refl _) (fun k _ _ hk => hb.block k hk)

theorem madeO_step {k : List Tr} {g j : Nat} {wr w1 : World} (hj : j < k.length) (hM : MadeO k g j wr) (hg : g < wr.heap.size) (hb1 : Below wr.heap.size wr w1) {v : Value} (hl : Own w1 wr.heap.size w1.heap.size k[j] v) :
    MadeO k g (j + 1) ((((w1.setCell ⟨g, j * 4, none⟩ (.string k[j].name)).setCell ⟨g, j * 4 + 1, none⟩ (.string k[j].text)).setCell ⟨g, j * 4 + 2, none⟩ (.bool k[j].leaf)).setCell ⟨g, j * 4 + 3, none⟩ v) := by
  obtain ⟨f, l, h, hrow, hcs, hls, hr, hd⟩ := hM
  have hrow1 := hrow.of_block (hb1.block _ hrow.lt)
  have hs := hb1.size
  refine ⟨_, fun i => if i = j then wr.heap.size else l i, fun i => if i = j then w1.heap.size else h i, (((hrow1.set _ _).set _ _).set _ _).set _ _, fun i hi hk => ?_, fun i hi hk => ?_, fun i hi => ?_, fun i i' hii hi' => ?_⟩
  · by_cases e : i = j
    · subst e; simp
    · obtain ⟨q0, q1, q2⟩ := hcs i (by omega) hk
      refine ⟨?_, ?_, ?_⟩
      · rw [if_neg (by omega), if_neg (by omega), if_neg (by omega), if_neg (by omega)]; exact q0
      · rw [if_neg (by omega), if_neg (by omega), if_neg (by omega), if_neg (by omega)]; exact q1
      · rw [if_neg (by omega), if_neg (by omega), if_neg (by omega), if_neg (by omega)]; exact q2
  · by_cases e : i = j
    · subst e
      simp only [if_true]
      exact (((hl.past (.inl hg)).past (.inl hg)).past (.inl hg)).past (.inl hg)
    · rw [if_neg (by omega), if_neg (by omega), if_neg (by omega), if_neg (by omega)]
      simp only [if_neg e]
      have hlt := (hr i (by omega)).1
      exact (((((hls i (by omega) hk).still hb1).past (.inl hlt)).past (.inl hlt)).past (.inl hlt)).past (.inl hlt)
  · by_cases e : i = j
    · subst e; simp; exact hg
    · simp only [if_neg e]; have := hr i (by omega); simp; omega
  · by_cases e : i' = j
    · subst e
      simp only [if_true]
      rw [if_neg (by omega)]
      exact (hr i (by omega)).2
    · dsimp only; rw [if_neg e, if_neg (by omega)]; exact hd i i' hii (by omega)

theorem madeO_own {k : List Tr} {g : Nat} {w : World} (h : MadeO k g k.length w) {n x : ByteArray} {l : Bool} (hn : n.size ≤ maxLen) (hx : x.size ≤ maxLen) (hk : k.length ≤ maxLen) :
    Own w g w.heap.size (.mk n x l k) (.slice (some ⟨g, 0, none⟩) k.length k.length) := by
  obtain ⟨f, l, h, hrow, hcs, hls, hr, hd⟩ := h
  exact Own.shut ⟨_, _, g, f, l, h, rfl, hn, hx, Nat.le_refl _, hk, fun _ => ⟨rfl, Nat.le_refl _, hrow.lt, hrow⟩, fun i hi => hcs i hi hi, fun i hi => hls i hi hi, fun i hi => ⟨Nat.le_of_lt (hr i hi).1, (hr i hi).2, .inl (hr i hi).1⟩, fun i j hij hj => .inl (hd i j hij hj)⟩

end Go.Proofs.Ytpmlagenakcdfaa.T
