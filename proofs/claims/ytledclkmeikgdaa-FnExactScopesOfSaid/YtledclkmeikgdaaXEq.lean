import Derived.Test.YtledclkmeikgdaaChecked
import Derived.Test.YtledclkmeikgdaaXBase
import Derived.Deep.RegionWith
import Derived.Outline
namespace Go.Proofs.Ytledclkmeikgdaa.T
open Go.RowKit
set_option linter.unusedVariables false
set_option linter.unusedSimpArgs false

set_option maxHeartbeats 800000 in
theorem eqS_any (k : List Tr) (a a' : Option Addr) (cap b off cap' b' off' : Nat) (sv sv' : Nat → Value) (S S' : Nat → Prop) (hc : k.length ≤ cap) (hm : cap ≤ maxLen) (hc' : k.length ≤ cap') (hm' : cap' ≤ maxLen)
    (ha : 0 < k.length → a = some ⟨b, off, none⟩ ∧ S b) (ha' : 0 < k.length → a' = some ⟨b', off', none⟩ ∧ S' b')
    (ih : ∀ i (hi : i < k.length) (w : World), Lies w S k[i] (sv i) → Lies w S' k[i] (sv' i) →
      Calls Try.prog 22 #[k[i].val (sv i), k[i].val (sv' i)] w fun e w' => e = .returned (.bool true) ∧ Below w.heap.size w w')
    (w : World)
    (hcell : ∀ i (hi : i < k.length), w.cell? ⟨b, off + i * 4, none⟩ = some (.string k[i].name) ∧ w.cell? ⟨b, off + i * 4 + 1, none⟩ = some (.string k[i].text) ∧
        w.cell? ⟨b, off + i * 4 + 2, none⟩ = some (.bool k[i].leaf) ∧ w.cell? ⟨b, off + i * 4 + 3, none⟩ = some (sv i))
    (hcell' : ∀ i (hi : i < k.length), w.cell? ⟨b', off' + i * 4, none⟩ = some (.string k[i].name) ∧ w.cell? ⟨b', off' + i * 4 + 1, none⟩ = some (.string k[i].text) ∧
        w.cell? ⟨b', off' + i * 4 + 2, none⟩ = some (.bool k[i].leaf) ∧ w.cell? ⟨b', off' + i * 4 + 3, none⟩ = some (sv' i))
    (hk : ∀ i (hi : i < k.length), Lies w S k[i] (sv i)) (hk' : ∀ i (hi : i < k.length), Lies w S' k[i] (sv' i)) :
    Calls Try.prog 66 #[.slice a k.length cap, .slice a' k.length cap'] w fun e w' => e = .returned (.bool true) ∧ Below w.heap.size w w' := by
  unfold maxLen at hm hm'
  have HI := (show Hid _ from ih); clear ih
  have HC := (show Hid _ from hcell); clear hcell
  have HC' := (show Hid _ from hcell'); clear hcell'
  have HK := (show Hid _ from hk); clear hk
  have HK' := (show Hid _ from hk'); clear hk'
  have HA := (show Hid _ from ha); clear ha
  have HA' := (show Hid _ from ha'); clear ha'
  go_enter Try.func66, Try.ntmps66
  go_wp2_with fail
  go_loopw [5] (fun i wr => ∃ j : Nat, j ≤ k.length ∧ i = .int .i64 j ∧ Below w.heap.size w wr) (fun i _ => k.length - (intOf i).toNat)
  case atStart => exact ⟨0, Nat.zero_le _, rfl, Below.refl _ _⟩
  case round =>
    obtain ⟨j, hj, rfl, hbel⟩ := hrel
    by_cases hlt : j < k.length
    · obtain ⟨rfl, _⟩ := HA.out (by omega)
      obtain ⟨rfl, _⟩ := HA'.out (by omega)
      obtain ⟨c0, c1, c2, c3⟩ := HC.out j hlt
      rw [← hbel.cell (lt_of_cell c0)] at c0
      rw [← hbel.cell (lt_of_cell c1)] at c1
      rw [← hbel.cell (lt_of_cell c2)] at c2
      rw [← hbel.cell (lt_of_cell c3)] at c3
      obtain ⟨d0, d1, d2, d3⟩ := HC'.out j hlt
      rw [← hbel.cell (lt_of_cell d0)] at d0
      rw [← hbel.cell (lt_of_cell d1)] at d1
      rw [← hbel.cell (lt_of_cell d2)] at d2
      rw [← hbel.cell (lt_of_cell d3)] at d3
      have hcall := HI.out j hlt wr.drew (((HK.out j hlt).still hbel).still ((Below.refl _ _).drew)) (((HK'.out j hlt).still hbel).still ((Below.refl _ _).drew))
      have HCL := (show Hid _ from hcall); clear hcall
      go_wp2_with fail
      go_region_with (go_at_call 22; refine Calls.mono (HCL.out) ?_; rintro e w1 ⟨rfl, hb1⟩)
      all_goals
        have hb2 : Below w.heap.size w w1 := hbel.trans (((Below.refl _ _).drew).trans (hb1.mono hbel.size))
        go_wp2_with fail
        exact ⟨⟨j + 1, by omega, by go_num, hb2⟩, by simp [intOf]; omega⟩
    · go_wp2_with fail
      go_ret
      exact ⟨rfl, hbel⟩

set_option maxHeartbeats 800000 in
theorem eq_any {S S' : Nat → Prop} (t : Tr) : ∀ (v v' : Value) (w : World), Lies w S t v → Lies w S' t v' →
    Calls Try.prog 22 #[t.val v, t.val v'] w fun e w' => e = .returned (.bool true) ∧ Below w.heap.size w w' := by
  refine Tr.ind (P := fun t => ∀ (v v' : Value) (w : World), Lies w S t v → Lies w S' t v' →
    Calls Try.prog 22 #[t.val v, t.val v'] w fun e w' => e = .returned (.bool true) ∧ Below w.heap.size w w') ?_ t
  intro n x l k ih v v' w hlies hlies'
  obtain ⟨a, cap, b, off, sv, rfl, hn, hx, hc, hm, ha, hcell, hk⟩ := hlies.out
  obtain ⟨a', cap', b', off', sv', rfl, _, _, hc', hm', ha', hcell', hk'⟩ := hlies'.out
  dsimp only at hn hx hc ha hcell hk hc' ha' hcell' hk' ⊢
  have hcall := fun (w' : World) (hw : Below w.heap.size w w') =>
    eqS_any k _ _ _ b off _ b' off' sv sv' S S' hc hm hc' hm' ha ha' (fun i hi w hl hl' => ih i hi (sv i) (sv' i) w hl hl') w'
      (fun i hi => by
        obtain ⟨c0, c1, c2, c3⟩ := hcell i hi
        exact ⟨(hw.cell (lt_of_cell c0)).trans c0, (hw.cell (lt_of_cell c1)).trans c1, (hw.cell (lt_of_cell c2)).trans c2, (hw.cell (lt_of_cell c3)).trans c3⟩)
      (fun i hi => by
        obtain ⟨c0, c1, c2, c3⟩ := hcell' i hi
        exact ⟨(hw.cell (lt_of_cell c0)).trans c0, (hw.cell (lt_of_cell c1)).trans c1, (hw.cell (lt_of_cell c2)).trans c2, (hw.cell (lt_of_cell c3)).trans c3⟩)
      (fun i hi => (hk i hi).still hw) (fun i hi => (hk' i hi).still hw)
  have HI := (show Hid _ from hcall)
  clear hcall hcell hk ha ih hcell' hk' ha'
  simp only [Tr.val]
  go_enter Try.func22, Try.ntmps22
  go_wp2_with fail
  refine Calls.mono (HI.out _ ((bel_alloc _ _).alloc (by simp) _)) ?_
  rintro e w1 ⟨rfl, hb1⟩
  go_wp2_with fail
  go_ret
  exact ⟨rfl, ((bel_alloc _ _).alloc (by simp) _).trans (hb1.mono (by simp; omega))⟩
end Go.Proofs.Ytledclkmeikgdaa.T
