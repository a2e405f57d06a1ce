import Derived.Test.YtblfeifedcddnaaVf
import Derived.Test.YtblfeifedcddnaaVb
import Derived.Test.YtblfeifedcddnaaFg
import Derived.Test.YtblfeifedcddnaaNr
import Derived.Test.YtblfeifedcddnaaBxs
import Derived.Deep.RegionHeld3
/-! The specification: l15Zero, l15Patch. -/
namespace Go.Proofs.Ytblfeifedcddnaa
open Go.RowKit Go.Deep Go.Lib
set_option linter.unusedVariables false
set_option maxRecDepth 100000
set_option linter.unusedSimpArgs false

theorem toList_ne {s : ByteArray} (h : ¬ s.size = 0) : ¬ s.toList = [] := fun e => by
  have := isEmpty_iff s
  rw [e] at this
  simp at this
  exact h (by rw [this]; rfl)
set_option maxHeartbeats 800000 in
theorem zero108 {S : Nat → Prop} (t : Tr) (v : Value) (w : World) (h : Lies w S t v) :
    Calls Try.prog 108 #[t.val v] w fun e w' => e = .returned (.bool (zeB t)) ∧ Below w.heap.size w w' := by
  obtain ⟨a, cap, b, off, sv, rfl, hn, hx, hc, hm, ha, hcell, hk⟩ := h.out
  obtain ⟨n, x, l, k⟩ := t
  dsimp only at hc hm ⊢
  unfold maxLen at hm
  clear h ha hcell hk hn hx
  simp only [Tr.val]
  have HZ := (show Hid (zeB ⟨n, x, l, k⟩ = (decide (n.size = 0) && (decide (x.size = 0) && (!l && decide (k.length = 0))))) from rfl)
  generalize zeB ⟨n, x, l, k⟩ = Z at *
  by_cases e1 : n.size = 0
  case neg =>
    have hd := toList_ne e1
    have HE := (show Hid (Z = false) from (by show Z = false; rw [HZ.out]; simp [e1]))
    clear HZ
    go_enter Try.func108, Try.ntmps108
    go_wp2_with fail
    go_ret
    exact ⟨by rw [HE.out]; rfl, bel_alloc _ _⟩
  obtain rfl := size_zero e1
  by_cases e2 : x.size = 0
  case neg =>
    have hd := toList_ne e2
    have HE := (show Hid (Z = false) from (by show Z = false; rw [HZ.out]; simp [e2]))
    clear HZ e1
    go_enter Try.func108, Try.ntmps108
    go_wp2_with fail
    go_ret
    exact ⟨by rw [HE.out]; rfl, bel_alloc _ _⟩
  obtain rfl := size_zero e2
  cases l
  case true =>
    have HE := (show Hid (Z = false) from (by show Z = false; rw [HZ.out]; simp))
    clear HZ e1 e2
    go_enter Try.func108, Try.ntmps108
    go_wp2_with fail
    go_ret
    exact ⟨by rw [HE.out]; rfl, bel_alloc _ _⟩
  have HE := (show Hid (Z = ((k.length : Int) == 0)) from (by
    show Z = _
    rw [HZ.out, Bool.eq_iff_iff]
    simp))
  clear HZ e1 e2
  go_enter Try.func108, Try.ntmps108
  go_wp2_with fail
  go_ret
  exact ⟨by rw [HE.out]; rfl, bel_alloc _ _⟩
end Go.Proofs.Ytblfeifedcddnaa
