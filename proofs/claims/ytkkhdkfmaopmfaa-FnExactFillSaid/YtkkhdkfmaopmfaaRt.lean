import Derived.Test.YtkkhdkfmaopmfaaChecked
import Derived.Test.YtkkhdkfmaopmfaaBase
import Derived.Outline
import Derived.Test.YtkkhdkfmaopmfaaGrow
import Derived.Test.YtkkhdkfmaopmfaaEq
namespace Go.Proofs.Ytkkhdkfmaopmfaa
set_option linter.unusedVariables false
set_option linter.unusedSimpArgs false
open Go.RowKit

/-- What is left of 'left' behind so much: -1 where it is not enough. -/
def szR (n : Nat) (left : Int) : Int := if (n : Int) ≤ left then left - n else -1

theorem szR_yes {n : Nat} {left : Int} (h : (n : Int) ≤ left) : szR n left = left - n := if_pos h
theorem szR_no {n : Nat} {left : Int} (h : left < n) : szR n left = -1 := if_neg (by omega)

set_option maxHeartbeats 400000 in
theorem szS_any (k : List Tr) (a : Option Addr) (cap b off : Nat) (sv : Nat → Value) (S : Nat → Prop) (hc : k.length ≤ cap) (hm : cap ≤ maxLen)
    (ha : 0 < k.length → a = some ⟨b, off, none⟩ ∧ S b)
    (ih : ∀ i (hi : i < k.length) (w : World) (left : Int), Lies w S k[i] (sv i) → 0 ≤ left → left ≤ 1048576 →
      Calls Try.prog 7 #[k[i].val (sv i), .int .i64 left] w fun e w' => e = .returned (.int .i64 (szR k[i].wt left)) ∧ Below w.heap.size w w')
    (w : World) (left : Int) (h0 : 0 ≤ left) (h1 : left ≤ 1048576)
    (hcell : ∀ i (hi : i < k.length), w.cell? ⟨b, off + i * 4, none⟩ = some (.string k[i].name) ∧ w.cell? ⟨b, off + i * 4 + 1, none⟩ = some (.string k[i].text) ∧
        w.cell? ⟨b, off + i * 4 + 2, none⟩ = some (.bool k[i].leaf) ∧ w.cell? ⟨b, off + i * 4 + 3, none⟩ = some (sv i))
    (hk : ∀ i (hi : i < k.length), Lies w S k[i] (sv i)) :
    Calls Try.prog 31 #[.slice a k.length cap, .int .i64 left] w fun e w' => e = .returned (.int .i64 (szR (k.length + Tr.wtL k) left)) ∧ Below w.heap.size w w' := by
  unfold maxLen at hm
  have HI := (show Hid _ from ih); clear ih
  have HC := (show Hid _ from hcell); clear hcell
  have HK := (show Hid _ from hk); clear hk
  have HA := (show Hid _ from ha); clear ha
  by_cases hl : (k.length : Int) ≤ left
  · go_enter Try.func31, Try.ntmps31
    go_wp2_with fail
    go_loopw [1, 5] (fun l i wr => ∃ j : Nat, j ≤ k.length ∧ i = .int .i64 j ∧ 0 ≤ left - k.length - Tr.wtL (k.take j) ∧ l = .int .i64 (left - k.length - Tr.wtL (k.take j)) ∧ Below w.heap.size w wr) (fun _ i _ => k.length - (intOf i).toNat)
    case atStart => exact ⟨0, Nat.zero_le _, rfl, by simp [Tr.wtL]; omega, by simp [Tr.wtL], Below.refl _ _⟩
    case round =>
      obtain ⟨j, hj, rfl, hp, rfl, hbel⟩ := hrel
      by_cases hlt : j < k.length
      · obtain ⟨rfl, _⟩ := HA.out (by omega)
        obtain ⟨c0, c1, c2, c3⟩ := HC.out j hlt
        rw [← hbel.cell (lt_of_cell c0)] at c0
        rw [← hbel.cell (lt_of_cell c1)] at c1
        rw [← hbel.cell (lt_of_cell c2)] at c2
        rw [← hbel.cell (lt_of_cell c3)] at c3
        have hts := Tr.wtL_take_succ k j hlt
        have HT := (show Hid _ from hts); clear hts
        go_wp2_with fail
        refine (HI.out j hlt wr _ ((HK.out j hlt).still hbel) hp (by omega)).mono ?_
        rintro e w1 ⟨rfl, hb1⟩
        have hb2 := hbel.trans (hb1.mono hbel.size)
        by_cases hw : (k[j].wt : Int) ≤ left - k.length - Tr.wtL (k.take j)
        · rw [szR_yes hw]
          go_wp2_with fail
          refine ⟨⟨j + 1, by omega, by go_num, ?_, ?_, hb2⟩, by simp [intOf]; omega⟩
          · rw [HT.out]; omega
          · rw [HT.out]; exact val_int (by omega)
        · rw [szR_no (by omega)]
          have hle := Tr.wtL_take_le k (j + 1)
          rw [HT.out] at hle
          go_wp2_with fail
          go_ret
          exact ⟨ret_int (by rw [szR_no (by omega)]), hb2⟩
      · go_wp2_with fail
        go_ret
        have : j = k.length := by omega
        subst this
        rw [List.take_length] at hp ⊢
        exact ⟨ret_int (by rw [szR_yes (by omega)]; omega), hbel⟩
  · go_enter Try.func31, Try.ntmps31
    go_wp2_with fail
    go_ret
    exact ⟨ret_int (by rw [szR_no (by omega)]), Below.refl _ _⟩

set_option maxHeartbeats 400000 in
theorem sz_any {S : Nat → Prop} (t : Tr) : ∀ (v : Value) (w : World) (left : Int), Lies w S t v → 0 ≤ left → left ≤ 1048576 →
    Calls Try.prog 7 #[t.val v, .int .i64 left] w fun e w' => e = .returned (.int .i64 (szR t.wt left)) ∧ Below w.heap.size w w' := by
  refine Tr.ind (P := fun t => ∀ (v : Value) (w : World) (left : Int), Lies w S t v → 0 ≤ left → left ≤ 1048576 →
    Calls Try.prog 7 #[t.val v, .int .i64 left] w fun e w' => e = .returned (.int .i64 (szR t.wt left)) ∧ Below w.heap.size w w') ?_ t
  intro n x l k ih v w left hlies h0 h1
  obtain ⟨a, cap, b, off, sv, rfl, hn, hx, hc, hm, ha, hcell, hk⟩ := hlies.out
  dsimp only at hn hx hc ha hcell hk ⊢
  have hcall := fun (w' : World) (hw : Below w.heap.size w w') (lf : Int) (h0 : 0 ≤ lf) (h1 : lf ≤ 1048576) =>
    szS_any k _ _ b off sv S hc hm ha (fun i hi w left hl => ih i hi (sv i) w left hl) w' lf h0 h1
      (fun i hi => by
        obtain ⟨c0, c1, c2, c3⟩ := hcell i hi
        exact ⟨(hw.cell (lt_of_cell c0)).trans c0, (hw.cell (lt_of_cell c1)).trans c1, (hw.cell (lt_of_cell c2)).trans c2, (hw.cell (lt_of_cell c3)).trans c3⟩)
      (fun i hi => (hk i hi).still hw)
  have HI := (show Hid _ from hcall)
  clear hcall hcell hk ha ih
  have hwt := Tr.wt_mk n x l k
  have HW := (show Hid _ from hwt); clear hwt
  unfold maxLen at hn hx
  simp only [Tr.val]
  generalize (Tr.mk n x l k).wt = W at *
  by_cases h2 : (n.size : Int) ≤ left
  · by_cases h3 : (x.size : Int) ≤ left - n.size
    · go_enter Try.func7, Try.ntmps7
      go_wp2_with fail
      refine (HI.out _ (bel_alloc _ _) _ (by omega) (by omega)).mono ?_
      rintro e w1 ⟨rfl, hb1⟩
      have hb2 := bel_box hb1
      by_cases h4 : ((k.length + Tr.wtL k : Nat) : Int) ≤ left - n.size - x.size
      · rw [szR_yes h4]
        go_wp2_with fail
        go_ret
        exact ⟨ret_int (by rw [szR_yes (by rw [HW.out]; omega), HW.out]; omega), hb2⟩
      · rw [szR_no (by omega)]
        go_wp2_with fail
        go_ret
        exact ⟨ret_int (by rw [szR_no (by rw [HW.out]; omega)]), hb2⟩
    · go_enter Try.func7, Try.ntmps7
      go_wp2_with fail
      go_ret
      exact ⟨ret_int (by rw [szR_no (by rw [HW.out]; omega)]), (Below.refl _ _).alloc (Nat.le_refl _) _⟩
  · go_enter Try.func7, Try.ntmps7
    go_wp2_with fail
    go_ret
    exact ⟨ret_int (by rw [szR_no (by rw [HW.out]; omega)]), (Below.refl _ _).alloc (Nat.le_refl _) _⟩
end Go.Proofs.Ytkkhdkfmaopmfaa

/-! Rows of trees; whether all are right. -/
namespace Go.Proofs.Ytkkhdkfmaopmfaa
open Go.RowKit Go.Deep
set_option linter.unusedVariables false
set_option maxRecDepth 100000
set_option linter.unusedSimpArgs false

/-- Trees that lie behind a slice, all in blocks of S. -/
def Trs (w : World) (S : Nat → Prop) (k : List Tr) (v : Value) : Prop :=
  ∃ (a : Option Addr) (cap b off : Nat) (sv : Nat → Value), v = .slice a k.length cap ∧ k.length ≤ cap ∧ cap ≤ maxLen ∧ (0 < k.length → a = some ⟨b, off, none⟩ ∧ S b) ∧
    (∀ i (hi : i < k.length), w.cell? ⟨b, off + i * 4, none⟩ = some (.string k[i].name) ∧ w.cell? ⟨b, off + i * 4 + 1, none⟩ = some (.string k[i].text) ∧ w.cell? ⟨b, off + i * 4 + 2, none⟩ = some (.bool k[i].leaf) ∧ w.cell? ⟨b, off + i * 4 + 3, none⟩ = some (sv i)) ∧
    ∀ i (hi : i < k.length), Lies w S k[i] (sv i)
theorem Trs.still {w w' : World} {S : Nat → Prop} {k : List Tr} {v : Value} (h : Trs w S k v) (hb : Below w.heap.size w w') : Trs w' S k v := by
  obtain ⟨a, cap, b, off, sv, hv, hc, hm, ha, hcell, hr⟩ := h
  refine ⟨a, cap, b, off, sv, hv, hc, hm, ha, fun i hi => ?_, fun i hi => (hr i hi).still hb⟩
  obtain ⟨c0, c1, c2, c3⟩ := hcell i hi
  exact ⟨(hb.cell (lt_of_cell c0)).trans c0, (hb.cell (lt_of_cell c1)).trans c1, (hb.cell (lt_of_cell c2)).trans c2, (hb.cell (lt_of_cell c3)).trans c3⟩
theorem Trs.form {w : World} {S : Nat → Prop} {k : List Tr} {v : Value} (h : Trs w S k v) : ∃ a cap, v = .slice a k.length cap ∧ k.length ≤ maxLen := by
  obtain ⟨a, cap, b, off, sv, hv, hc, hm, _⟩ := h
  exact ⟨_, _, hv, by omega⟩
/-- They may be shared. -/
def tksB (k : List Tr) : Bool := decide (k.length ≤ 20) && k.all Tr.ok
set_option maxHeartbeats 1600000 in
theorem allOK34 {S : Nat → Prop} (k : List Tr) (v : Value) (w : World) (h : Trs w S k v) :
    Calls Try.prog 82 #[v, .func (.func 38) #[] #[]] w fun e w' => e = .returned (.bool (k.all Tr.ok)) ∧ Below w.heap.size w w' := by
  obtain ⟨a, cap, b, off, sv, rfl, hc, hm, ha, hcell, hr⟩ := h
  have HC := (show Hid _ from hcell); clear hcell
  have HA := (show Hid _ from ha); clear ha
  have HR := (show Hid _ from hr); clear hr
  unfold maxLen at hm
  generalize hRes : k.all Tr.ok = R
  have HRes := (show Hid _ from hRes); clear hRes
  go_enter Try.func82, Try.ntmps82
  go_wp2_with fail
  go_loopw [9] (fun i wr => ∃ j : Nat, i = .int .i64 j ∧ j ≤ k.length ∧ Hid (∀ i (hi : i < k.length), i < j → k[i].ok = true) ∧ Below w.heap.size w wr) (fun i _ => k.length - (intOf i).toNat)
  case atStart => exact ⟨0, rfl, Nat.zero_le _, fun i hi h0 => absurd h0 (Nat.not_lt_zero _), Below.refl _ _⟩
  case round =>
    obtain ⟨j, rfl, hj, HJ, hbel⟩ := hrel
    by_cases hjl : j < k.length
    · obtain ⟨rfl, _⟩ := HA.out (by omega)
      obtain ⟨c0, c1, c2, c3⟩ := HC.out j hjl
      rw [← hbel.cell (lt_of_cell c0)] at c0
      rw [← hbel.cell (lt_of_cell c1)] at c1
      rw [← hbel.cell (lt_of_cell c2)] at c2
      rw [← hbel.cell (lt_of_cell c3)] at c3
      have hl := HR.out j hjl
      have hcl := fun (w' : World) (hb : Below w.heap.size w w') => iOK_any k[j] (sv j) w' (hl.still hb)
      obtain ⟨a3, l3, p3, e3⟩ := hl.form
      simp only [Tr.val] at hcl
      rw [e3] at c3 hcl
      clear e3 hl
      have HCL := (show Hid _ from hcl); clear hcl
      generalize hB : k[j].ok = B at HCL
      have HB := (show Hid _ from hB); clear hB
      have HNX := (show Hid (B = true → ∀ i (hi : i < k.length), i < j + 1 → k[i].ok = true) from fun h i hi hij => by
        by_cases e : i = j
        · subst e; exact HB.out.trans h
        · exact HJ.out i hi (by omega))
      have HFX := (show Hid (B = false → R = false) from fun h => by
        rw [← HRes.out, List.all_eq_false]
        exact ⟨k[j], List.getElem_mem hjl, by rw [HB.out, h]; simp⟩)
      generalize k[j].name = nm at *
      generalize k[j].text = tx at *
      generalize k[j].leaf = lf at *
      cases B
      · have HF := (show Hid (R = false) from HFX.out rfl)
        go_wp2_with fail
        go_at_call 38
        refine Calls.mono (HCL.out _ (hbel.alloc hbel.size _)) ?_
        rintro e w1 ⟨rfl, hb1⟩
        have HE := (show Hid _ from bel_trans (hbel.alloc hbel.size _) hb1); clear hb1 c0 c1 c2 c3 hbel
        go_wp2_with fail
        go_ret
        exact ⟨by rw [HF.out]; rfl, HE.out⟩
      · have HN := (show Hid _ from HNX.out rfl)
        go_wp2_with fail
        go_at_call 38
        refine Calls.mono (HCL.out _ (hbel.alloc hbel.size _)) ?_
        rintro e w1 ⟨rfl, hb1⟩
        have HE := (show Hid _ from bel_trans (hbel.alloc hbel.size _) hb1); clear hb1 c0 c1 c2 c3 hbel
        go_wp2_with fail
        exact ⟨⟨j + 1, by go_num, by omega, HN, HE.out⟩, by simp [intOf]; omega⟩
    · have HF := (show Hid (R = true) from by
        show R = true
        rw [← HRes.out, List.all_eq_true]
        intro x hx
        obtain ⟨i, hi, rfl⟩ := List.mem_iff_getElem.1 hx
        exact HJ.out i hi (by omega))
      go_wp2_with fail
      go_ret
      exact ⟨by rw [HF.out]; rfl, hbel⟩
end Go.Proofs.Ytkkhdkfmaopmfaa
