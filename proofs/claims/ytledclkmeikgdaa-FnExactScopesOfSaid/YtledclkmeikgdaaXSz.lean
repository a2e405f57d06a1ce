import Derived.Test.YtledclkmeikgdaaChecked
import Derived.Test.YtledclkmeikgdaaXBase
import Derived.Outline
namespace Go.Proofs.Ytledclkmeikgdaa.T
set_option linter.unusedVariables false
set_option linter.unusedSimpArgs false
open Go.RowKit

/-- What is left of 'left' behind so much: -1 where it is not enough. -/
def szR (n : Nat) (left : Int) : Int := if (n : Int) ≤ left then left - n else -1

theorem szR_yes {n : Nat} {left : Int} (h : (n : Int) ≤ left) : szR n left = left - n := if_pos h
theorem szR_no {n : Nat} {left : Int} (h : left < n) : szR n left = -1 := if_neg (by omega)

set_option maxHeartbeats 400000 in
theorem szS_any (k : List Tr) (a : Option Addr) (cap b off : Nat) (sv : Nat → Value) (S : Nat → Prop) (hc : k.length ≤ cap) (hm : cap ≤ maxLen)
    (ha : 0 < k.length → a = some ⟨b, off, none⟩ ∧ S b)
    (ih : ∀ i (hi : i < k.length) (w : World) (left : Int), Lies w S k[i] (sv i) → 0 ≤ left → left ≤ 1048576 →
      Calls Try.prog 18 #[k[i].val (sv i), .int .i64 left] w fun e w' => e = .returned (.int .i64 (szR k[i].wt left)) ∧ Below w.heap.size w w')
    (w : World) (left : Int) (h0 : 0 ≤ left) (h1 : left ≤ 1048576)
    (hcell : ∀ i (hi : i < k.length), w.cell? ⟨b, off + i * 4, none⟩ = some (.string k[i].name) ∧ w.cell? ⟨b, off + i * 4 + 1, none⟩ = some (.string k[i].text) ∧
        w.cell? ⟨b, off + i * 4 + 2, none⟩ = some (.bool k[i].leaf) ∧ w.cell? ⟨b, off + i * 4 + 3, none⟩ = some (sv i))
    (hk : ∀ i (hi : i < k.length), Lies w S k[i] (sv i)) :
    Calls Try.prog 61 #[.slice a k.length cap, .int .i64 left] w fun e w' => e = .returned (.int .i64 (szR (k.length + Tr.wtL k) left)) ∧ Below w.heap.size w w' := by
  unfold maxLen at hm
  have HI := (show Hid _ from ih); clear ih
  have HC := (show Hid _ from hcell); clear hcell
  have HK := (show Hid _ from hk); clear hk
  have HA := (show Hid _ from ha); clear ha
  by_cases hl : (k.length : Int) ≤ left
  · go_enter Try.func61, Try.ntmps61
    go_wp2_with fail
    go_loopw [1, 5] (fun l i wr => ∃ j : Nat, j ≤ k.length ∧ i = .int .i64 j ∧ 0 ≤ left - k.length - Tr.wtL (k.take j) ∧ l = .int .i64 (left - k.length - Tr.wtL (k.take j)) ∧ Below w.heap.size w wr) (fun _ i _ => k.length - (intOf i).toNat)
    case atStart => exact ⟨0, Nat.zero_le _, rfl, by simp [Tr.wtL]; omega, by simp [Tr.wtL], Below.refl _ _⟩
    case round =>
      obtain ⟨j, hj, rfl, hp, rfl, hbel⟩ := hrel
      by_cases hlt : j < k.length
      · obtain ⟨rfl, _⟩ := HA.out (by omega)
        obtain ⟨c0, c1, c2, c3⟩ := HC.out j hlt
        rw [← hbel.cell (lt_of_cell c0)] at c0
        rw [← hbel.cell (lt_of_cell c1)] at c1
        rw [← hbel.cell (lt_of_cell c2)] at c2
        rw [← hbel.cell (lt_of_cell c3)] at c3
        have hts := Tr.wtL_take_succ k j hlt
        have HT := (show Hid _ from hts); clear hts
        go_wp2_with fail
        refine (HI.out j hlt wr _ ((HK.out j hlt).still hbel) hp (by omega)).mono ?_
        rintro e w1 ⟨rfl, hb1⟩
        have hb2 := hbel.trans (hb1.mono hbel.size)
        by_cases hw : (k[j].wt : Int) ≤ left - k.length - Tr.wtL (k.take j)
        · rw [szR_yes hw]
          go_wp2_with fail
          refine ⟨⟨j + 1, by omega, by go_num, ?_, ?_, hb2⟩, by simp [intOf]; omega⟩
          · rw [HT.out]; omega
          · rw [HT.out]; exact val_int (by omega)
        · rw [szR_no (by omega)]
          have hle := Tr.wtL_take_le k (j + 1)
          rw [HT.out] at hle
          go_wp2_with fail
          go_ret
          exact ⟨ret_int (by rw [szR_no (by omega)]), hb2⟩
      · go_wp2_with fail
        go_ret
        have : j = k.length := by omega
        subst this
        rw [List.take_length] at hp ⊢
        exact ⟨ret_int (by rw [szR_yes (by omega)]; omega), hbel⟩
  · go_enter Try.func61, Try.ntmps61
    go_wp2_with fail
    go_ret
    exact ⟨ret_int (by rw [szR_no (by omega)]), Below.refl _ _⟩

set_option maxHeartbeats 400000 in
theorem sz_any {S : Nat → Prop} (t : Tr) : ∀ (v : Value) (w : World) (left : Int), Lies w S t v → 0 ≤ left → left ≤ 1048576 →
    Calls Try.prog 18 #[t.val v, .int .i64 left] w fun e w' => e = .returned (.int .i64 (szR t.wt left)) ∧ Below w.heap.size w w' := by
  refine Tr.ind (P := fun t => ∀ (v : Value) (w : World) (left : Int), Lies w S t v → 0 ≤ left → left ≤ 1048576 →
    Calls Try.prog 18 #[t.val v, .int .i64 left] w fun e w' => e = .returned (.int .i64 (szR t.wt left)) ∧ Below w.heap.size w w') ?_ t
  intro n x l k ih v w left hlies h0 h1
  obtain ⟨a, cap, b, off, sv, rfl, hn, hx, hc, hm, ha, hcell, hk⟩ := hlies.out
  dsimp only at hn hx hc ha hcell hk ⊢
  have hcall := fun (w' : World) (hw : Below w.heap.size w w') (lf : Int) (h0 : 0 ≤ lf) (h1 : lf ≤ 1048576) =>
    szS_any k _ _ b off sv S hc hm ha (fun i hi w left hl => ih i hi (sv i) w left hl) w' lf h0 h1
      (fun i hi => by
        obtain ⟨c0, c1, c2, c3⟩ := hcell i hi
        exact ⟨(hw.cell (lt_of_cell c0)).trans c0, (hw.cell (lt_of_cell c1)).trans c1, (hw.cell (lt_of_cell c2)).trans c2, (hw.cell (lt_of_cell c3)).trans c3⟩)
      (fun i hi => (hk i hi).still hw)
  have HI := (show Hid _ from hcall)
  clear hcall hcell hk ha ih
  have hwt := Tr.wt_mk n x l k
  have HW := (show Hid _ from hwt); clear hwt
  unfold maxLen at hn hx
  simp only [Tr.val]
  generalize (Tr.mk n x l k).wt = W at *
  by_cases h2 : (n.size : Int) ≤ left
  · by_cases h3 : (x.size : Int) ≤ left - n.size
    · go_enter Try.func18, Try.ntmps18
      go_wp2_with fail
      refine (HI.out _ (bel_alloc _ _) _ (by omega) (by omega)).mono ?_
      rintro e w1 ⟨rfl, hb1⟩
      have hb2 := bel_box hb1
      by_cases h4 : ((k.length + Tr.wtL k : Nat) : Int) ≤ left - n.size - x.size
      · rw [szR_yes h4]
        go_wp2_with fail
        go_ret
        exact ⟨ret_int (by rw [szR_yes (by rw [HW.out]; omega), HW.out]; omega), hb2⟩
      · rw [szR_no (by omega)]
        go_wp2_with fail
        go_ret
        exact ⟨ret_int (by rw [szR_no (by rw [HW.out]; omega)]), hb2⟩
    · go_enter Try.func18, Try.ntmps18
      go_wp2_with fail
      go_ret
      exact ⟨ret_int (by rw [szR_no (by rw [HW.out]; omega)]), (Below.refl _ _).alloc (Nat.le_refl _) _⟩
  · go_enter Try.func18, Try.ntmps18
    go_wp2_with fail
    go_ret
    exact ⟨ret_int (by rw [szR_no (by rw [HW.out]; omega)]), (Below.refl _ _).alloc (Nat.le_refl _) _⟩
end Go.Proofs.Ytledclkmeikgdaa.T
