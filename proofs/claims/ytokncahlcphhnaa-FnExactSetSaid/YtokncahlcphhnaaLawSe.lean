import Derived.Test.YtokncahlcphhnaaTj
import Derived.Test.YtokncahlcphhnaaTk
import Derived.Test.YtokncahlcphhnaaTop
import Derived.Deep.RegionWith
/-! The law FnExactSet, walked. -/
namespace Go.Proofs.Ytokncahlcphhnaa
open Go.RowKit Go.Deep
set_option linter.unusedVariables false
set_option maxRecDepth 100000
set_option linter.unusedSimpArgs false

set_option maxHeartbeats 3200000 in
theorem lawSe {S S' : Nat → Prop} (l : List DLNode) (br : List Bool) (v bv : Value) (w : World) (h : LNodeR w S l v) (hb : Bls w S' br bv) :
    Calls Try.prog 4 #[v, bv] w fun e w' => e = .returned (.bool true) ∧ Below w.heap.size w w' := by
  have HSZ := (show Hid _ from szLNodeR_any l v w 1048576 h (Nat.le_refl _))
  have HTO : Hid (∀ w', Below w.heap.size w w' → LNodeR.Sm l → Calls Try.prog 8 #[v] w' fun e w'' => ∃ v', e = .returned v' ∧ Below w'.heap.size w' w'' ∧ LNodeRO w'' (fun b => w'.heap.size ≤ b) l v') := fun w' hb hs => toLNodeR_any l v w' (h.still hb) hs
  have HTB : Hid (∀ w', Below w.heap.size w w' → br.length ≤ 1048576 → Calls Try.prog 12 #[bv] w' fun e w'' => ∃ v', e = .returned v' ∧ Below w'.heap.size w' w'' ∧ Bls w'' (fun b => w'.heap.size ≤ b) br v') := fun w' hb' hs => toBls_any br bv w' (hb.still hb') hs
  obtain ⟨a, cap, rfl, _⟩ := h.form
  obtain ⟨a', cap', rfl, hbm⟩ := hb.form
  unfold maxLen at hbm
  clear h hb
  by_cases hbr : br.length ≤ 1048576
  rotate_left
  · go_enter Try.func4, Try.ntmps4
    go_wp2_with fail
    go_ret
    exact ⟨rfl, Below.refl _ _⟩
  have HBL := (show Hid _ from hbr)
  go_enter Try.func4, Try.ntmps4
  go_wp2_with fail
  refine Calls.mono HSZ.out ?_
  rintro e w1 ⟨rfl | ⟨m1, rfl, _, hsm1⟩, hb1⟩
  · go_wp2_with fail
    go_ret
    exact ⟨rfl, hb1⟩
  have HS := (show Hid _ from hsm1); clear hsm1
  go_wp2_with fail
  refine Calls.mono (HTO.out _ hb1 HS.out) ?_
  rintro e w2 ⟨u1, rfl, hb2, D2⟩
  have hbw2 := bel_trans hb1 hb2
  have D2' := (show Hid _ from D2.lies)
  clear D2 hb1 hb2
  obtain ⟨a2, c2, rfl, _⟩ := LNodeR.form D2'.out
  go_wp2_with fail
  refine Calls.mono (HTB.out _ hbw2 HBL.out) ?_
  rintro e w3 ⟨u2, rfl, hb3, E3⟩
  have hbw3 := bel_trans hbw2 hb3
  have H5 := (show Hid _ from sSet11 l br _ u2 w3 (LNodeR.still D2'.out hb3) HS.out E3)
  clear D2' E3 hb3 hbw2
  go_wp2_with fail
  refine Calls.mono H5.out ?_
  rintro e w4 ⟨rfl, hb4⟩
  have hbw4 := bel_trans hbw3 hb4
  clear H5 hb4 hbw3
  obtain ⟨X, N, hXN⟩ : ∃ X N, seR l br = (X, N) := ⟨_, _, rfl⟩
  have HX := (show Hid _ from hXN)
  rw [hXN]
  clear hXN
  dsimp only
  go_wp2_with fail
  refine Calls.mono (HTO.out _ hbw4 HS.out) ?_
  rintro e w5 ⟨x1, rfl, hb5, D5'⟩
  have D5 := (show Hid _ from D5'.lies)
  clear D5'
  have hbw5 := bel_trans hbw4 hb5
  clear hb5 hbw4
  obtain ⟨ax, cx, rfl, _⟩ := LNodeR.form D5.out
  go_wp2_with fail
  refine Calls.mono (HTB.out _ hbw5 HBL.out) ?_
  rintro e w6 ⟨x2, rfl, hb6, E6'⟩
  have E6 := (show Hid _ from E6')
  have D6 := (show Hid _ from LNodeR.still D5.out hb6)
  have hbw6 := bel_trans hbw5 hb6
  clear E6' D5 hb6 hbw5
  have H7 := (show Hid _ from iSet13 l br _ x2 w6 D6.out E6.out)
  rw [HX.out] at H7
  obtain ⟨ay, cy, rfl, _⟩ := Bls.form E6.out
  go_wp2_with fail
  refine Calls.mono H7.out ?_
  rintro e w7 ⟨rfl, hb7⟩
  have hbw7 := bel_trans hbw6 hb7
  have D7 := (show Hid _ from LNodeR.still D6.out hb7)
  have E7 := (show Hid _ from Bls.still E6.out hb7)
  clear hb7 hbw6 D6 E6 H7
  dsimp only
  go_wp2_with fail
  refine Calls.mono (HTO.out _ hbw7 HS.out) ?_
  rintro e w8 ⟨y1, rfl, hb8, D8⟩
  have hbw8 := bel_trans hbw7 hb8
  have H12 := (show Hid _ from eqLNodeR_any l _ y1 w8 (LNodeR.still D7.out hb8) D8.lies)
  have E8 := (show Hid _ from Bls.still E7.out hb8)
  clear hb8 D8 D7 E7 hbw7
  go_wp2_with fail
  refine Calls.mono H12.out ?_
  rintro e w9 ⟨rfl, hb9⟩
  have hbw9 := bel_trans hbw8 hb9
  have E9 := (show Hid _ from Bls.still E8.out hb9)
  clear hb9 E8 hbw8 H12
  go_wp2_with fail
  refine Calls.mono (HTB.out _ hbw9 HBL.out) ?_
  rintro e w10 ⟨y2, rfl, hb10, F10⟩
  have hbw10 := bel_trans hbw9 hb10
  have H14 := (show Hid _ from eqBls_any br _ y2 w10 (Bls.still E9.out hb10) F10)
  clear hb10 F10 E9 hbw9
  go_wp2_with fail
  refine Calls.mono H14.out ?_
  rintro e w11 ⟨rfl, hb11⟩
  have hbw11 := bel_trans hbw10 hb11
  go_wp2_with fail
  go_ret
  exact ⟨rfl, hbw11⟩
end Go.Proofs.Ytokncahlcphhnaa
