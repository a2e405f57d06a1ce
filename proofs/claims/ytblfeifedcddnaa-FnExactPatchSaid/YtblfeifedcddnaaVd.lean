import Derived.Test.YtblfeifedcddnaaVb
import Derived.Test.YtblfeifedcddnaaEq
/-! The laws' comparison of a change with itself. -/
namespace Go.Proofs.Ytblfeifedcddnaa
set_option linter.unusedVariables false
set_option linter.unusedSimpArgs false
set_option maxRecDepth 100000
open Go.RowKit

set_option maxHeartbeats 800000 in
theorem deqS75 (k : List De) (a a' : Option Addr) (cap b off cap' b' off' : Nat) (ts ks ts' ks' : Nat → Value) (S S' : Nat → Prop) (hc : k.length ≤ cap) (hm : cap ≤ maxLen) (hc' : k.length ≤ cap') (hm' : cap' ≤ maxLen)
    (ha : 0 < k.length → a = some ⟨b, off, none⟩ ∧ S b) (ha' : 0 < k.length → a' = some ⟨b', off', none⟩ ∧ S' b')
    (ih : ∀ i (hi : i < k.length) (w : World), DLies w S k[i] (ts i) (ks i) → DLies w S' k[i] (ts' i) (ks' i) →
      Calls Try.prog 30 #[k[i].val (ts i) (ks i), k[i].val (ts' i) (ks' i)] w fun e w' => e = .returned (.bool true) ∧ Below w.heap.size w w')
    (w : World)
    (hcell : ∀ i (hi : i < k.length), C6 w b (off + i * 6) k[i] (ts i) (ks i))
    (hcell' : ∀ i (hi : i < k.length), C6 w b' (off' + i * 6) k[i] (ts' i) (ks' i))
    (hk : ∀ i (hi : i < k.length), DLies w S k[i] (ts i) (ks i)) (hk' : ∀ i (hi : i < k.length), DLies w S' k[i] (ts' i) (ks' i)) :
    Calls Try.prog 75 #[.slice a k.length cap, .slice a' k.length cap'] w fun e w' => e = .returned (.bool true) ∧ Below w.heap.size w w' := by
  unfold maxLen at hm hm'
  have HI := (show Hid _ from ih); clear ih
  have HC := (show Hid _ from hcell); clear hcell
  have HC' := (show Hid _ from hcell'); clear hcell'
  have HK := (show Hid _ from hk); clear hk
  have HK' := (show Hid _ from hk'); clear hk'
  have HA := (show Hid _ from ha); clear ha
  have HA' := (show Hid _ from ha'); clear ha'
  go_enter Try.func75, Try.ntmps75
  go_wp2_with fail
  go_loopw [5] (fun i wr => ∃ j : Nat, j ≤ k.length ∧ i = .int .i64 j ∧ Below w.heap.size w wr) (fun i _ => k.length - (intOf i).toNat)
  case atStart => exact ⟨0, Nat.zero_le _, rfl, Below.refl _ _⟩
  case round =>
    obtain ⟨j, hj, rfl, hbel⟩ := hrel
    by_cases hlt : j < k.length
    · obtain ⟨rfl, _⟩ := HA.out (by omega)
      obtain ⟨rfl, _⟩ := HA'.out (by omega)
      obtain ⟨c0, c1, c2, c3, c4, c5⟩ := (HC.out j hlt).still hbel (HC.out j hlt).lt
      obtain ⟨d0, d1, d2, d3, d4, d5⟩ := (HC'.out j hlt).still hbel (HC'.out j hlt).lt
      have hcall := HI.out j hlt wr.drew (((HK.out j hlt).still hbel).still ((Below.refl _ _).drew)) (((HK'.out j hlt).still hbel).still ((Below.refl _ _).drew))
      have HCL := (show Hid _ from hcall); clear hcall
      go_wp2_with fail
      go_region_with (go_at_call 30; refine Calls.mono (HCL.out) ?_; rintro e w1 ⟨rfl, hb1⟩)
      all_goals
        have hb2 : Below w.heap.size w w1 := hbel.trans (((Below.refl _ _).drew).trans (hb1.mono hbel.size))
        go_wp2_with fail
        exact ⟨⟨j + 1, by omega, by go_num, hb2⟩, by simp [intOf]; omega⟩
    · go_wp2_with fail
      go_ret
      exact ⟨rfl, hbel⟩
set_option maxHeartbeats 800000 in
theorem deq30 {S S' : Nat → Prop} (d : De) : ∀ (tv kv tv' kv' : Value) (w : World), DLies w S d tv kv → DLies w S' d tv' kv' →
    Calls Try.prog 30 #[d.val tv kv, d.val tv' kv'] w fun e w' => e = .returned (.bool true) ∧ Below w.heap.size w w' := by
  refine De.ind (P := fun d => ∀ (tv kv tv' kv' : Value) (w : World), DLies w S d tv kv → DLies w S' d tv' kv' →
    Calls Try.prog 30 #[d.val tv kv, d.val tv' kv'] w fun e w' => e = .returned (.bool true) ∧ Below w.heap.size w w') ?_ d
  intro c t k ih tv kv tv' kv' w hlies hlies'
  obtain ⟨ht, a, cap, b, off, ts, ks, rfl, hc, hm, ha, hcell, hk⟩ := hlies.out
  obtain ⟨ht', a', cap', b', off', ts', ks', rfl, hc', hm', ha', hcell', hk'⟩ := hlies'.out
  dsimp only at ht hc ha hcell hk ht' hc' ha' hcell' hk' ⊢
  have HI := (show Hid _ from fun (w' : World) (hw : Below w.heap.size w w') =>
    deqS75 k _ _ _ b off _ b' off' ts ks ts' ks' S S' hc hm hc' hm' ha ha' (fun i hi w hl hl' => ih i hi (ts i) (ks i) (ts' i) (ks' i) w hl hl') w'
      (fun i hi => C6.still (hcell i hi) hw (lt_of_cell (hcell i hi).1)) (fun i hi => C6.still (hcell' i hi) hw (lt_of_cell (hcell' i hi).1))
      (fun i hi => (hk i hi).still hw) (fun i hi => (hk' i hi).still hw))
  have HT := (show Hid _ from fun (w' : World) (hw : Below w.heap.size w w') => eq_any t tv tv' w' (ht.still hw) (ht'.still hw))
  obtain ⟨ta, tl, tp, rfl⟩ := ht.form
  obtain ⟨ta', tl', tp', rfl⟩ := ht'.form
  clear hcell hk ha ih hcell' hk' ha' hlies hlies' ht ht'
  simp only [De.val, Tr.val] at HT ⊢
  have hcc : (c != c) = false := by simp
  go_enter Try.func30, Try.ntmps30
  go_wp2_with fail
  refine Calls.mono (HT.out _ ((bel_alloc _ _).alloc (by simp) _)) ?_
  rintro e w1 ⟨rfl, hb1⟩
  have hb2 := bel_trans ((bel_alloc w (.cells #[.int .i64 c, .string t.name, .string t.text, .bool t.leaf, .slice ta tl tp, .slice a k.length cap] 57)).alloc (by simp) (.cells #[.int .i64 c, .string t.name, .string t.text, .bool t.leaf, .slice ta' tl' tp', .slice a' k.length cap'] 57)) hb1
  obtain ⟨hcc, hff⟩ := bcell hb1
  have A5 : w1.cell? ⟨w.heap.size, 5, none⟩ = some (.slice a k.length cap) := by rw [hcc _ _ (by simp; omega)]; simp [go_sem]
  have B5 : w1.cell? ⟨w.heap.size + 1, 5, none⟩ = some (.slice a' k.length cap') := by rw [hcc _ _ (by simp)]; simp [go_sem]
  have HB := (show Hid _ from hb2)
  have HC := (show Hid _ from HI.out w1 hb2)
  clear hcc hff hb1 hb2 HT
  go_wp2_with fail
  refine Calls.mono HC.out ?_
  rintro e w2 ⟨rfl, hb3⟩
  have HE := (show Hid _ from bel_trans HB.out hb3)
  clear hb3 HC
  go_wp2_with fail
  go_ret
  exact ⟨rfl, HE.out⟩
end Go.Proofs.Ytblfeifedcddnaa
