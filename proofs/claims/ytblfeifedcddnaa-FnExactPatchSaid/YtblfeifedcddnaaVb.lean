import Derived.Test.YtblfeifedcddnaaVa
import Derived.Test.YtblfeifedcddnaaSz
/-! The laws' size of a change. -/
namespace Go.Proofs.Ytblfeifedcddnaa
set_option linter.unusedVariables false
set_option linter.unusedSimpArgs false
set_option maxRecDepth 100000
open Go.RowKit

/-- The six cells of a change in a row. -/
def C6 (w : World) (b o : Nat) (d : De) (tv kv : Value) : Prop := w.cell? ⟨b, o, none⟩ = some (.int .i64 d.kind) ∧ w.cell? ⟨b, o + 1, none⟩ = some (.string d.tree.name) ∧ w.cell? ⟨b, o + 2, none⟩ = some (.string d.tree.text) ∧
  w.cell? ⟨b, o + 3, none⟩ = some (.bool d.tree.leaf) ∧ w.cell? ⟨b, o + 4, none⟩ = some tv ∧ w.cell? ⟨b, o + 5, none⟩ = some kv
theorem C6.still {w w' : World} {b o : Nat} {d : De} {tv kv : Value} {B : Nat} (h : C6 w b o d tv kv) (hb : Below B w w') (hB : b < B) : C6 w' b o d tv kv :=
  ⟨(hb.cell (p := ⟨b, _, none⟩) hB).trans h.1, (hb.cell (p := ⟨b, _, none⟩) hB).trans h.2.1, (hb.cell (p := ⟨b, _, none⟩) hB).trans h.2.2.1, (hb.cell (p := ⟨b, _, none⟩) hB).trans h.2.2.2.1, (hb.cell (p := ⟨b, _, none⟩) hB).trans h.2.2.2.2.1, (hb.cell (p := ⟨b, _, none⟩) hB).trans h.2.2.2.2.2⟩
theorem C6.lt {w : World} {b o : Nat} {d : De} {tv kv : Value} (h : C6 w b o d tv kv) : b < w.heap.size := lt_of_cell h.1
set_option maxHeartbeats 400000 in
theorem dszS78 (k : List De) (a : Option Addr) (cap b off : Nat) (ts ks : Nat → Value) (S : Nat → Prop) (hc : k.length ≤ cap) (hm : cap ≤ maxLen)
    (ha : 0 < k.length → a = some ⟨b, off, none⟩ ∧ S b)
    (ih : ∀ i (hi : i < k.length) (w : World) (left : Int), DLies w S k[i] (ts i) (ks i) → 0 ≤ left → left ≤ 1048576 →
      Calls Try.prog 34 #[k[i].val (ts i) (ks i), .int .i64 left] w fun e w' => e = .returned (.int .i64 (szR k[i].wt left)) ∧ Below w.heap.size w w')
    (w : World) (left : Int) (h0 : 0 ≤ left) (h1 : left ≤ 1048576)
    (hcell : ∀ i (hi : i < k.length), C6 w b (off + i * 6) k[i] (ts i) (ks i))
    (hk : ∀ i (hi : i < k.length), DLies w S k[i] (ts i) (ks i)) :
    Calls Try.prog 78 #[.slice a k.length cap, .int .i64 left] w fun e w' => e = .returned (.int .i64 (szR (k.length + De.wtL k) left)) ∧ Below w.heap.size w w' := by
  unfold maxLen at hm
  have HI := (show Hid _ from ih); clear ih
  have HC := (show Hid _ from hcell); clear hcell
  have HK := (show Hid _ from hk); clear hk
  have HA := (show Hid _ from ha); clear ha
  by_cases hl : (k.length : Int) ≤ left
  · go_enter Try.func78, Try.ntmps78
    go_wp2_with fail
    go_loopw [1, 5] (fun l i wr => ∃ j : Nat, j ≤ k.length ∧ i = .int .i64 j ∧ 0 ≤ left - k.length - De.wtL (k.take j) ∧ l = .int .i64 (left - k.length - De.wtL (k.take j)) ∧ Below w.heap.size w wr) (fun _ i _ => k.length - (intOf i).toNat)
    case atStart => exact ⟨0, Nat.zero_le _, rfl, by simp [De.wtL]; omega, by simp [De.wtL], Below.refl _ _⟩
    case round =>
      obtain ⟨j, hj, rfl, hp, rfl, hbel⟩ := hrel
      by_cases hlt : j < k.length
      · obtain ⟨rfl, _⟩ := HA.out (by omega)
        obtain ⟨c0, c1, c2, c3, c4, c5⟩ := (HC.out j hlt).still hbel (HC.out j hlt).lt
        have hts := De.wtL_take_succ k j hlt
        have HT := (show Hid _ from hts); clear hts
        have HCL := (show Hid _ from HI.out j hlt wr _ ((HK.out j hlt).still hbel) hp (by omega))
        go_wp2_with fail
        refine Calls.mono HCL.out ?_
        rintro e w1 ⟨rfl, hb1⟩
        have hb2 := hbel.trans (hb1.mono hbel.size)
        clear HCL
        by_cases hw : (k[j].wt : Int) ≤ left - k.length - De.wtL (k.take j)
        · rw [szR_yes hw]
          go_wp2_with fail
          refine ⟨⟨j + 1, by omega, by go_num, ?_, ?_, hb2⟩, by simp [intOf]; omega⟩
          · rw [HT.out]; omega
          · rw [HT.out]; exact val_int (by omega)
        · rw [szR_no (by omega)]
          have hle := De.wtL_take_le k (j + 1)
          rw [HT.out] at hle
          go_wp2_with fail
          go_ret
          exact ⟨ret_int (by rw [szR_no (by omega)]), hb2⟩
      · go_wp2_with fail
        go_ret
        have : j = k.length := by omega
        subst this
        rw [List.take_length] at hp ⊢
        exact ⟨ret_int (by rw [szR_yes (by omega)]; omega), hbel⟩
  · go_enter Try.func78, Try.ntmps78
    go_wp2_with fail
    go_ret
    exact ⟨ret_int (by rw [szR_no (by omega)]), Below.refl _ _⟩
set_option maxHeartbeats 400000 in
theorem dsz34 {S : Nat → Prop} (d : De) : ∀ (tv kv : Value) (w : World) (left : Int), DLies w S d tv kv → 0 ≤ left → left ≤ 1048576 →
    Calls Try.prog 34 #[d.val tv kv, .int .i64 left] w fun e w' => e = .returned (.int .i64 (szR d.wt left)) ∧ Below w.heap.size w w' := by
  refine De.ind (P := fun d => ∀ (tv kv : Value) (w : World) (left : Int), DLies w S d tv kv → 0 ≤ left → left ≤ 1048576 →
    Calls Try.prog 34 #[d.val tv kv, .int .i64 left] w fun e w' => e = .returned (.int .i64 (szR d.wt left)) ∧ Below w.heap.size w w') ?_ d
  intro c t k ih tv kv w left hlies h0 h1
  obtain ⟨ht, a, cap, b, off, ts, ks, rfl, hc, hm, ha, hcell, hk⟩ := hlies.out
  dsimp only at ht hc ha hcell hk ⊢
  have HI := (show Hid _ from fun (w' : World) (hw : Below w.heap.size w w') (lf : Int) (h0 : 0 ≤ lf) (h1 : lf ≤ 1048576) =>
    dszS78 k _ _ b off ts ks S hc hm ha (fun i hi w left hl => ih i hi (ts i) (ks i) w left hl) w' lf h0 h1
      (fun i hi => C6.still (hcell i hi) hw (lt_of_cell (hcell i hi).1)) (fun i hi => (hk i hi).still hw))
  have HT := (show Hid _ from fun (w' : World) (hw : Below w.heap.size w w') => sz_any t tv w' left (ht.still hw) h0 h1)
  obtain ⟨ta, tl, tp, rfl⟩ := ht.form
  clear hcell hk ha ih ht hlies
  have HW := (show Hid _ from De.wt_mk c t k)
  simp only [De.val, Tr.val] at HT ⊢
  generalize (De.mk c t k).wt = W at *
  go_enter Try.func34, Try.ntmps34
  go_wp2_with fail
  refine Calls.mono (HT.out _ (bel_alloc _ _)) ?_
  rintro e w1 ⟨rfl, hb1⟩
  obtain ⟨hcc, hff⟩ := bcell hb1
  have A5 : w1.cell? ⟨w.heap.size, 5, none⟩ = some (.slice a k.length cap) := by rw [hcc _ _ (by simp)]; simp [go_sem]
  have HB := (show Hid _ from bel_box hb1)
  clear hcc hff hb1 HT
  by_cases h2 : (t.wt : Int) ≤ left
  · rw [szR_yes h2]
    have HC := (show Hid _ from HI.out w1 HB.out (left - t.wt) (by omega) (by omega))
    go_wp2_with fail
    refine Calls.mono HC.out ?_
    rintro e w2 ⟨rfl, hb2⟩
    have HE := (show Hid _ from bel_trans HB.out hb2)
    clear hb2 HC A5
    by_cases h3 : ((k.length + De.wtL k : Nat) : Int) ≤ left - t.wt
    · rw [szR_yes h3]
      go_wp2_with fail
      go_ret
      exact ⟨ret_int (by rw [szR_yes (by rw [HW.out]; omega), HW.out]; omega), HE.out⟩
    · rw [szR_no (by omega)]
      go_wp2_with fail
      go_ret
      exact ⟨ret_int (by rw [szR_no (by rw [HW.out]; omega)]), HE.out⟩
  · rw [szR_no (by omega)]
    go_wp2_with fail
    go_ret
    exact ⟨ret_int (by rw [szR_no (by rw [HW.out]; omega)]), HB.out⟩
end Go.Proofs.Ytblfeifedcddnaa
