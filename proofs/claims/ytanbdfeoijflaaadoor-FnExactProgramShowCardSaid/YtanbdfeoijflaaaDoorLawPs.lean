import Derived.Test.YtanbdfeoijflaaaDoorLh
import Derived.Test.YtanbdfeoijflaaaDoorEq
import Derived.Test.YtanbdfeoijflaaaDoorTop
import Derived.Deep.RegionWith
/-! The law FnExactProgramShow, walked. -/
namespace Go.Proofs.YtanbdfeoijflaaaDoor
open Go.RowKit Go.Deep
set_option linter.unusedVariables false
set_option maxRecDepth 100000
set_option linter.unusedSimpArgs false

set_option maxHeartbeats 3200000 in
theorem lawPs {S : Nat → Prop} (l : List DIns) (v : Value) (w : World) (h : InsR w S l v) (ht : Lib.TabBelow Tryd.prog w.heap.size w "internal/strconv.uint64pow10" .u64 Lib.pow10Tab) :
    Calls Tryd.prog 3 #[v] w fun e w' => e = .returned (.bool true) ∧ Below w.heap.size w w' := by
  have HSZ := (show Hid _ from szInsR_any l v w 1048576 h (Nat.le_refl _))
  have HTO : Hid (∀ w', Below w.heap.size w w' → InsR.Sm l → Calls Tryd.prog 7 #[v] w' fun e w'' => ∃ v', e = .returned v' ∧ Below w'.heap.size w' w'' ∧ InsRO w'' (fun b => w'.heap.size ≤ b) l v') := fun w' hb hs => toInsR_any l v w' (h.still hb) hs
  have HTB := (show Hid (∀ w', Below w.heap.size w w' → Lib.TabBelow Tryd.prog w'.heap.size w' "internal/strconv.uint64pow10" .u64 Lib.pow10Tab) from fun w' hb w'' hb2 => ht w'' (hb.trans (hb2.mono hb.size)))
  obtain ⟨a, cap, rfl, _⟩ := h.form
  clear h ht
  go_enter Tryd.func3, Tryd.ntmps3
  go_wp2_with fail
  refine Calls.mono HSZ.out ?_
  rintro e w1 ⟨rfl | ⟨m1, rfl, _, hsm1⟩, hb1⟩
  · go_wp2_with fail
    go_ret
    exact ⟨rfl, hb1⟩
  have HS := (show Hid _ from hsm1); clear hsm1
  go_wp2_with fail
  refine Calls.mono (HTO.out _ hb1 HS.out) ?_
  rintro e w2 ⟨u1, rfl, hb2, D2⟩
  have hbw2 := bel_trans hb1 hb2
  have H5 := (show Hid _ from sShow6 l u1 w2 D2.lies)
  clear D2 hb1 hb2
  generalize hRS : (shR l).1 = sR at *
  generalize hRN : (shR l).2 = nR at *
  go_wp2_with fail
  refine Calls.mono H5.out ?_
  rintro e w3 ⟨rfl, hb3⟩
  have hbw3 := bel_trans hbw2 hb3
  clear H5 hb3 hbw2
  have HR1 := (show Hid _ from hRS); clear hRS
  have HR2 := (show Hid _ from hRN); clear hRN
  have hBB : (sR.toList == sR.toList) = true := by simp
  have hBN : (nR != nR) = false := by simp
  go_wp2_with fail
  refine Calls.mono (HTO.out _ hbw3 HS.out) ?_
  rintro e w4 ⟨x1, rfl, hb4, D4'⟩
  have D4 := (show Hid _ from D4'.lies)
  clear D4'
  have hbw4 := bel_trans hbw3 hb4
  clear hb4 hbw3
  have H7 := (show Hid _ from iShow8 l x1 w4 D4.out (HTB.out w4 hbw4))
  rw [HR1.out, HR2.out] at H7
  obtain ⟨ax, cx, rfl, _⟩ := InsR.form D4.out
  go_wp2_with fail
  refine Calls.mono H7.out ?_
  rintro e w6 ⟨rfl, hb6⟩
  have hbw6 := bel_trans hbw4 hb6
  have D6 := (show Hid _ from InsR.still D4.out hb6)
  clear hb6 hbw4 D4 H7
  go_wp2_with fail
  refine Calls.mono (HTO.out _ hbw6 HS.out) ?_
  rintro e w9 ⟨y1, rfl, hb9, D9⟩
  have hbw9 := bel_trans hbw6 hb9
  have H12 := (show Hid _ from eqInsR_any l _ y1 w9 (InsR.still D6.out hb9) D9.lies)
  clear hb9 D9 D6 hbw6
  go_wp2_with fail
  refine Calls.mono H12.out ?_
  rintro e w10 ⟨rfl, hb10⟩
  have hbw10 := bel_trans hbw9 hb10
  go_wp2_with fail
  go_ret
  exact ⟨rfl, hbw10⟩
end Go.Proofs.YtanbdfeoijflaaaDoor
