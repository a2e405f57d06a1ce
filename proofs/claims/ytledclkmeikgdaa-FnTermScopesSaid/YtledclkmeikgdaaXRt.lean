import Derived.Test.YtledclkmeikgdaaChecked
import Derived.Test.YtledclkmeikgdaaXBase
import Derived.Outline
import Derived.Deep.RegionWith
import Derived.Test.YtledclkmeikgdaaXSize
namespace Go.Proofs.Ytledclkmeikgdaa.T
set_option linter.unusedVariables false
set_option linter.unusedSimpArgs false
open Go.RowKit

/-- What is left of 'left' behind so much: -1 where it is not enough. -/
def szR (n : Nat) (left : Int) : Int := if (n : Int) ≤ left then left - n else -1

theorem szR_yes {n : Nat} {left : Int} (h : (n : Int) ≤ left) : szR n left = left - n := if_pos h
theorem szR_no {n : Nat} {left : Int} (h : left < n) : szR n left = -1 := if_neg (by omega)

set_option maxHeartbeats 400000 in
theorem szS_any (k : List Tr) (a : Option Addr) (cap b off : Nat) (sv : Nat → Value) (S : Nat → Prop) (hc : k.length ≤ cap) (hm : cap ≤ maxLen)
    (ha : 0 < k.length → a = some ⟨b, off, none⟩ ∧ S b)
    (ih : ∀ i (hi : i < k.length) (w : World) (left : Int), Lies w S k[i] (sv i) → 0 ≤ left → left ≤ 1048576 →
      Calls Try.prog 18 #[k[i].val (sv i), .int .i64 left] w fun e w' => e = .returned (.int .i64 (szR k[i].wt left)) ∧ Below w.heap.size w w')
    (w : World) (left : Int) (h0 : 0 ≤ left) (h1 : left ≤ 1048576)
    (hcell : ∀ i (hi : i < k.length), w.cell? ⟨b, off + i * 4, none⟩ = some (.string k[i].name) ∧ w.cell? ⟨b, off + i * 4 + 1, none⟩ = some (.string k[i].text) ∧
        w.cell? ⟨b, off + i * 4 + 2, none⟩ = some (.bool k[i].leaf) ∧ w.cell? ⟨b, off + i * 4 + 3, none⟩ = some (sv i))
    (hk : ∀ i (hi : i < k.length), Lies w S k[i] (sv i)) :
    Calls Try.prog 61 #[.slice a k.length cap, .int .i64 left] w fun e w' => e = .returned (.int .i64 (szR (k.length + Tr.wtL k) left)) ∧ Below w.heap.size w w' := by
  unfold maxLen at hm
  have HI := (show Hid _ from ih); clear ih
  have HC := (show Hid _ from hcell); clear hcell
  have HK := (show Hid _ from hk); clear hk
  have HA := (show Hid _ from ha); clear ha
  by_cases hl : (k.length : Int) ≤ left
  · go_enter Try.func61, Try.ntmps61
    go_wp2_with fail
    go_loopw [1, 5] (fun l i wr => ∃ j : Nat, j ≤ k.length ∧ i = .int .i64 j ∧ 0 ≤ left - k.length - Tr.wtL (k.take j) ∧ l = .int .i64 (left - k.length - Tr.wtL (k.take j)) ∧ Below w.heap.size w wr) (fun _ i _ => k.length - (intOf i).toNat)
    case atStart => exact ⟨0, Nat.zero_le _, rfl, by simp [Tr.wtL]; omega, by simp [Tr.wtL], Below.refl _ _⟩
    case round =>
      obtain ⟨j, hj, rfl, hp, rfl, hbel⟩ := hrel
      by_cases hlt : j < k.length
      · obtain ⟨rfl, _⟩ := HA.out (by omega)
        obtain ⟨c0, c1, c2, c3⟩ := HC.out j hlt
        rw [← hbel.cell (lt_of_cell c0)] at c0
        rw [← hbel.cell (lt_of_cell c1)] at c1
        rw [← hbel.cell (lt_of_cell c2)] at c2
        rw [← hbel.cell (lt_of_cell c3)] at c3
        have hts := Tr.wtL_take_succ k j hlt
        have HT := (show Hid _ from hts); clear hts
        go_wp2_with fail
        refine (HI.out j hlt wr _ ((HK.out j hlt).still hbel) hp (by omega)).mono ?_
        rintro e w1 ⟨rfl, hb1⟩
        have hb2 := hbel.trans (hb1.mono hbel.size)
        by_cases hw : (k[j].wt : Int) ≤ left - k.length - Tr.wtL (k.take j)
        · rw [szR_yes hw]
          go_wp2_with fail
          refine ⟨⟨j + 1, by omega, by go_num, ?_, ?_, hb2⟩, by simp [intOf]; omega⟩
          · rw [HT.out]; omega
          · rw [HT.out]; exact val_int (by omega)
        · rw [szR_no (by omega)]
          have hle := Tr.wtL_take_le k (j + 1)
          rw [HT.out] at hle
          go_wp2_with fail
          go_ret
          exact ⟨ret_int (by rw [szR_no (by omega)]), hb2⟩
      · go_wp2_with fail
        go_ret
        have : j = k.length := by omega
        subst this
        rw [List.take_length] at hp ⊢
        exact ⟨ret_int (by rw [szR_yes (by omega)]; omega), hbel⟩
  · go_enter Try.func61, Try.ntmps61
    go_wp2_with fail
    go_ret
    exact ⟨ret_int (by rw [szR_no (by omega)]), Below.refl _ _⟩

set_option maxHeartbeats 400000 in
theorem sz_any {S : Nat → Prop} (t : Tr) : ∀ (v : Value) (w : World) (left : Int), Lies w S t v → 0 ≤ left → left ≤ 1048576 →
    Calls Try.prog 18 #[t.val v, .int .i64 left] w fun e w' => e = .returned (.int .i64 (szR t.wt left)) ∧ Below w.heap.size w w' := by
  refine Tr.ind (P := fun t => ∀ (v : Value) (w : World) (left : Int), Lies w S t v → 0 ≤ left → left ≤ 1048576 →
    Calls Try.prog 18 #[t.val v, .int .i64 left] w fun e w' => e = .returned (.int .i64 (szR t.wt left)) ∧ Below w.heap.size w w') ?_ t
  intro n x l k ih v w left hlies h0 h1
  obtain ⟨a, cap, b, off, sv, rfl, hn, hx, hc, hm, ha, hcell, hk⟩ := hlies.out
  dsimp only at hn hx hc ha hcell hk ⊢
  have hcall := fun (w' : World) (hw : Below w.heap.size w w') (lf : Int) (h0 : 0 ≤ lf) (h1 : lf ≤ 1048576) =>
    szS_any k _ _ b off sv S hc hm ha (fun i hi w left hl => ih i hi (sv i) w left hl) w' lf h0 h1
      (fun i hi => by
        obtain ⟨c0, c1, c2, c3⟩ := hcell i hi
        exact ⟨(hw.cell (lt_of_cell c0)).trans c0, (hw.cell (lt_of_cell c1)).trans c1, (hw.cell (lt_of_cell c2)).trans c2, (hw.cell (lt_of_cell c3)).trans c3⟩)
      (fun i hi => (hk i hi).still hw)
  have HI := (show Hid _ from hcall)
  clear hcall hcell hk ha ih
  have hwt := Tr.wt_mk n x l k
  have HW := (show Hid _ from hwt); clear hwt
  unfold maxLen at hn hx
  simp only [Tr.val]
  generalize (Tr.mk n x l k).wt = W at *
  by_cases h2 : (n.size : Int) ≤ left
  · by_cases h3 : (x.size : Int) ≤ left - n.size
    · go_enter Try.func18, Try.ntmps18
      go_wp2_with fail
      refine (HI.out _ (bel_alloc _ _) _ (by omega) (by omega)).mono ?_
      rintro e w1 ⟨rfl, hb1⟩
      have hb2 := bel_box hb1
      by_cases h4 : ((k.length + Tr.wtL k : Nat) : Int) ≤ left - n.size - x.size
      · rw [szR_yes h4]
        go_wp2_with fail
        go_ret
        exact ⟨ret_int (by rw [szR_yes (by rw [HW.out]; omega), HW.out]; omega), hb2⟩
      · rw [szR_no (by omega)]
        go_wp2_with fail
        go_ret
        exact ⟨ret_int (by rw [szR_no (by rw [HW.out]; omega)]), hb2⟩
    · go_enter Try.func18, Try.ntmps18
      go_wp2_with fail
      go_ret
      exact ⟨ret_int (by rw [szR_no (by rw [HW.out]; omega)]), (Below.refl _ _).alloc (Nat.le_refl _) _⟩
  · go_enter Try.func18, Try.ntmps18
    go_wp2_with fail
    go_ret
    exact ⟨ret_int (by rw [szR_no (by rw [HW.out]; omega)]), (Below.refl _ _).alloc (Nat.le_refl _) _⟩
end Go.Proofs.Ytledclkmeikgdaa.T

namespace Go.Proofs.Ytledclkmeikgdaa.T
open Go.RowKit
set_option linter.unusedVariables false
set_option linter.unusedSimpArgs false

set_option maxHeartbeats 800000 in
theorem eqS_any (k : List Tr) (a a' : Option Addr) (cap b off cap' b' off' : Nat) (sv sv' : Nat → Value) (S S' : Nat → Prop) (hc : k.length ≤ cap) (hm : cap ≤ maxLen) (hc' : k.length ≤ cap') (hm' : cap' ≤ maxLen)
    (ha : 0 < k.length → a = some ⟨b, off, none⟩ ∧ S b) (ha' : 0 < k.length → a' = some ⟨b', off', none⟩ ∧ S' b')
    (ih : ∀ i (hi : i < k.length) (w : World), Lies w S k[i] (sv i) → Lies w S' k[i] (sv' i) →
      Calls Try.prog 22 #[k[i].val (sv i), k[i].val (sv' i)] w fun e w' => e = .returned (.bool true) ∧ Below w.heap.size w w')
    (w : World)
    (hcell : ∀ i (hi : i < k.length), w.cell? ⟨b, off + i * 4, none⟩ = some (.string k[i].name) ∧ w.cell? ⟨b, off + i * 4 + 1, none⟩ = some (.string k[i].text) ∧
        w.cell? ⟨b, off + i * 4 + 2, none⟩ = some (.bool k[i].leaf) ∧ w.cell? ⟨b, off + i * 4 + 3, none⟩ = some (sv i))
    (hcell' : ∀ i (hi : i < k.length), w.cell? ⟨b', off' + i * 4, none⟩ = some (.string k[i].name) ∧ w.cell? ⟨b', off' + i * 4 + 1, none⟩ = some (.string k[i].text) ∧
        w.cell? ⟨b', off' + i * 4 + 2, none⟩ = some (.bool k[i].leaf) ∧ w.cell? ⟨b', off' + i * 4 + 3, none⟩ = some (sv' i))
    (hk : ∀ i (hi : i < k.length), Lies w S k[i] (sv i)) (hk' : ∀ i (hi : i < k.length), Lies w S' k[i] (sv' i)) :
    Calls Try.prog 66 #[.slice a k.length cap, .slice a' k.length cap'] w fun e w' => e = .returned (.bool true) ∧ Below w.heap.size w w' := by
  unfold maxLen at hm hm'
  have HI := (show Hid _ from ih); clear ih
  have HC := (show Hid _ from hcell); clear hcell
  have HC' := (show Hid _ from hcell'); clear hcell'
  have HK := (show Hid _ from hk); clear hk
  have HK' := (show Hid _ from hk'); clear hk'
  have HA := (show Hid _ from ha); clear ha
  have HA' := (show Hid _ from ha'); clear ha'
  go_enter Try.func66, Try.ntmps66
  go_wp2_with fail
  go_loopw [5] (fun i wr => ∃ j : Nat, j ≤ k.length ∧ i = .int .i64 j ∧ Below w.heap.size w wr) (fun i _ => k.length - (intOf i).toNat)
  case atStart => exact ⟨0, Nat.zero_le _, rfl, Below.refl _ _⟩
  case round =>
    obtain ⟨j, hj, rfl, hbel⟩ := hrel
    by_cases hlt : j < k.length
    · obtain ⟨rfl, _⟩ := HA.out (by omega)
      obtain ⟨rfl, _⟩ := HA'.out (by omega)
      obtain ⟨c0, c1, c2, c3⟩ := HC.out j hlt
      rw [← hbel.cell (lt_of_cell c0)] at c0
      rw [← hbel.cell (lt_of_cell c1)] at c1
      rw [← hbel.cell (lt_of_cell c2)] at c2
      rw [← hbel.cell (lt_of_cell c3)] at c3
      obtain ⟨d0, d1, d2, d3⟩ := HC'.out j hlt
      rw [← hbel.cell (lt_of_cell d0)] at d0
      rw [← hbel.cell (lt_of_cell d1)] at d1
      rw [← hbel.cell (lt_of_cell d2)] at d2
      rw [← hbel.cell (lt_of_cell d3)] at d3
      have hcall := HI.out j hlt wr.drew (((HK.out j hlt).still hbel).still ((Below.refl _ _).drew)) (((HK'.out j hlt).still hbel).still ((Below.refl _ _).drew))
      have HCL := (show Hid _ from hcall); clear hcall
      go_wp2_with fail
      go_region_with (go_at_call 22; refine Calls.mono (HCL.out) ?_; rintro e w1 ⟨rfl, hb1⟩)
      all_goals
        have hb2 : Below w.heap.size w w1 := hbel.trans (((Below.refl _ _).drew).trans (hb1.mono hbel.size))
        go_wp2_with fail
        exact ⟨⟨j + 1, by omega, by go_num, hb2⟩, by simp [intOf]; omega⟩
    · go_wp2_with fail
      go_ret
      exact ⟨rfl, hbel⟩

set_option maxHeartbeats 800000 in
theorem eq_any {S S' : Nat → Prop} (t : Tr) : ∀ (v v' : Value) (w : World), Lies w S t v → Lies w S' t v' →
    Calls Try.prog 22 #[t.val v, t.val v'] w fun e w' => e = .returned (.bool true) ∧ Below w.heap.size w w' := by
  refine Tr.ind (P := fun t => ∀ (v v' : Value) (w : World), Lies w S t v → Lies w S' t v' →
    Calls Try.prog 22 #[t.val v, t.val v'] w fun e w' => e = .returned (.bool true) ∧ Below w.heap.size w w') ?_ t
  intro n x l k ih v v' w hlies hlies'
  obtain ⟨a, cap, b, off, sv, rfl, hn, hx, hc, hm, ha, hcell, hk⟩ := hlies.out
  obtain ⟨a', cap', b', off', sv', rfl, _, _, hc', hm', ha', hcell', hk'⟩ := hlies'.out
  dsimp only at hn hx hc ha hcell hk hc' ha' hcell' hk' ⊢
  have hcall := fun (w' : World) (hw : Below w.heap.size w w') =>
    eqS_any k _ _ _ b off _ b' off' sv sv' S S' hc hm hc' hm' ha ha' (fun i hi w hl hl' => ih i hi (sv i) (sv' i) w hl hl') w'
      (fun i hi => by
        obtain ⟨c0, c1, c2, c3⟩ := hcell i hi
        exact ⟨(hw.cell (lt_of_cell c0)).trans c0, (hw.cell (lt_of_cell c1)).trans c1, (hw.cell (lt_of_cell c2)).trans c2, (hw.cell (lt_of_cell c3)).trans c3⟩)
      (fun i hi => by
        obtain ⟨c0, c1, c2, c3⟩ := hcell' i hi
        exact ⟨(hw.cell (lt_of_cell c0)).trans c0, (hw.cell (lt_of_cell c1)).trans c1, (hw.cell (lt_of_cell c2)).trans c2, (hw.cell (lt_of_cell c3)).trans c3⟩)
      (fun i hi => (hk i hi).still hw) (fun i hi => (hk' i hi).still hw)
  have HI := (show Hid _ from hcall)
  clear hcall hcell hk ha ih hcell' hk' ha'
  simp only [Tr.val]
  go_enter Try.func22, Try.ntmps22
  go_wp2_with fail
  refine Calls.mono (HI.out _ ((bel_alloc _ _).alloc (by simp) _)) ?_
  rintro e w1 ⟨rfl, hb1⟩
  go_wp2_with fail
  go_ret
  exact ⟨rfl, ((bel_alloc _ _).alloc (by simp) _).trans (hb1.mono (by simp; omega))⟩
end Go.Proofs.Ytledclkmeikgdaa.T

/-! Rows of trees; whether all are right. -/
namespace Go.Proofs.Ytledclkmeikgdaa.T
open Go.RowKit Go.Deep
set_option linter.unusedVariables false
set_option maxRecDepth 100000
set_option linter.unusedSimpArgs false

/-- Trees that lie behind a slice, all in blocks of S. -/
def Trs (w : World) (S : Nat → Prop) (k : List Tr) (v : Value) : Prop :=
  ∃ (a : Option Addr) (cap b off : Nat) (sv : Nat → Value), v = .slice a k.length cap ∧ k.length ≤ cap ∧ cap ≤ maxLen ∧ (0 < k.length → a = some ⟨b, off, none⟩ ∧ S b) ∧
    (∀ i (hi : i < k.length), w.cell? ⟨b, off + i * 4, none⟩ = some (.string k[i].name) ∧ w.cell? ⟨b, off + i * 4 + 1, none⟩ = some (.string k[i].text) ∧ w.cell? ⟨b, off + i * 4 + 2, none⟩ = some (.bool k[i].leaf) ∧ w.cell? ⟨b, off + i * 4 + 3, none⟩ = some (sv i)) ∧
    ∀ i (hi : i < k.length), Lies w S k[i] (sv i)
theorem Trs.still {w w' : World} {S : Nat → Prop} {k : List Tr} {v : Value} (h : Trs w S k v) (hb : Below w.heap.size w w') : Trs w' S k v := by
  obtain ⟨a, cap, b, off, sv, hv, hc, hm, ha, hcell, hr⟩ := h
  refine ⟨a, cap, b, off, sv, hv, hc, hm, ha, fun i hi => ?_, fun i hi => (hr i hi).still hb⟩
  obtain ⟨c0, c1, c2, c3⟩ := hcell i hi
  exact ⟨(hb.cell (lt_of_cell c0)).trans c0, (hb.cell (lt_of_cell c1)).trans c1, (hb.cell (lt_of_cell c2)).trans c2, (hb.cell (lt_of_cell c3)).trans c3⟩
theorem Trs.form {w : World} {S : Nat → Prop} {k : List Tr} {v : Value} (h : Trs w S k v) : ∃ a cap, v = .slice a k.length cap ∧ k.length ≤ maxLen := by
  obtain ⟨a, cap, b, off, sv, hv, hc, hm, _⟩ := h
  exact ⟨_, _, hv, by omega⟩
/-- They may be shared. -/
def tksB (k : List Tr) : Bool := decide (k.length ≤ 20) && k.all Tr.ok
set_option maxHeartbeats 1600000 in
theorem allOK34 {S : Nat → Prop} (k : List Tr) (v : Value) (w : World) (h : Trs w S k v) :
    Calls Try.prog 115 #[v, .func (.func 58) #[] #[]] w fun e w' => e = .returned (.bool (k.all Tr.ok)) ∧ Below w.heap.size w w' := by
  obtain ⟨a, cap, b, off, sv, rfl, hc, hm, ha, hcell, hr⟩ := h
  have HC := (show Hid _ from hcell); clear hcell
  have HA := (show Hid _ from ha); clear ha
  have HR := (show Hid _ from hr); clear hr
  unfold maxLen at hm
  generalize hRes : k.all Tr.ok = R
  have HRes := (show Hid _ from hRes); clear hRes
  go_enter Try.func115, Try.ntmps115
  go_wp2_with fail
  go_loopw [9] (fun i wr => ∃ j : Nat, i = .int .i64 j ∧ j ≤ k.length ∧ Hid (∀ i (hi : i < k.length), i < j → k[i].ok = true) ∧ Below w.heap.size w wr) (fun i _ => k.length - (intOf i).toNat)
  case atStart => exact ⟨0, rfl, Nat.zero_le _, fun i hi h0 => absurd h0 (Nat.not_lt_zero _), Below.refl _ _⟩
  case round =>
    obtain ⟨j, rfl, hj, HJ, hbel⟩ := hrel
    by_cases hjl : j < k.length
    · obtain ⟨rfl, _⟩ := HA.out (by omega)
      obtain ⟨c0, c1, c2, c3⟩ := HC.out j hjl
      rw [← hbel.cell (lt_of_cell c0)] at c0
      rw [← hbel.cell (lt_of_cell c1)] at c1
      rw [← hbel.cell (lt_of_cell c2)] at c2
      rw [← hbel.cell (lt_of_cell c3)] at c3
      have hl := HR.out j hjl
      have hcl := fun (w' : World) (hb : Below w.heap.size w w') => iOK_any k[j] (sv j) w' (hl.still hb)
      obtain ⟨a3, l3, p3, e3⟩ := hl.form
      simp only [Tr.val] at hcl
      rw [e3] at c3 hcl
      clear e3 hl
      have HCL := (show Hid _ from hcl); clear hcl
      generalize hB : k[j].ok = B at HCL
      have HB := (show Hid _ from hB); clear hB
      have HNX := (show Hid (B = true → ∀ i (hi : i < k.length), i < j + 1 → k[i].ok = true) from fun h i hi hij => by
        by_cases e : i = j
        · subst e; exact HB.out.trans h
        · exact HJ.out i hi (by omega))
      have HFX := (show Hid (B = false → R = false) from fun h => by
        rw [← HRes.out, List.all_eq_false]
        exact ⟨k[j], List.getElem_mem hjl, by rw [HB.out, h]; simp⟩)
      generalize k[j].name = nm at *
      generalize k[j].text = tx at *
      generalize k[j].leaf = lf at *
      cases B
      · have HF := (show Hid (R = false) from HFX.out rfl)
        go_wp2_with fail
        go_at_call 58
        refine Calls.mono (HCL.out _ (hbel.alloc hbel.size _)) ?_
        rintro e w1 ⟨rfl, hb1⟩
        have HE := (show Hid _ from bel_trans (hbel.alloc hbel.size _) hb1); clear hb1 c0 c1 c2 c3 hbel
        go_wp2_with fail
        go_ret
        exact ⟨by rw [HF.out]; rfl, HE.out⟩
      · have HN := (show Hid _ from HNX.out rfl)
        go_wp2_with fail
        go_at_call 58
        refine Calls.mono (HCL.out _ (hbel.alloc hbel.size _)) ?_
        rintro e w1 ⟨rfl, hb1⟩
        have HE := (show Hid _ from bel_trans (hbel.alloc hbel.size _) hb1); clear hb1 c0 c1 c2 c3 hbel
        go_wp2_with fail
        exact ⟨⟨j + 1, by go_num, by omega, HN, HE.out⟩, by simp [intOf]; omega⟩
    · have HF := (show Hid (R = true) from by
        show R = true
        rw [← HRes.out, List.all_eq_true]
        intro x hx
        obtain ⟨i, hi, rfl⟩ := List.mem_iff_getElem.1 hx
        exact HJ.out i hi (by omega))
      go_wp2_with fail
      go_ret
      exact ⟨by rw [HF.out]; rfl, hbel⟩
end Go.Proofs.Ytledclkmeikgdaa.T
