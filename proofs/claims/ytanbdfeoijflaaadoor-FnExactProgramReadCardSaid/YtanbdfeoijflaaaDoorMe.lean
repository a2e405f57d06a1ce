import Derived.Test.YtanbdfeoijflaaaDoorMd
import Derived.Test.YtanbdfeoijflaaaDoorLe
import Derived.Lib.SmallJoins
/-! Reading a program: the numbers are written. -/
namespace Go.Proofs.YtanbdfeoijflaaaDoor
open Go.RowKit Go.Deep
set_option linter.unusedVariables false
set_option maxRecDepth 100000
set_option linter.unusedSimpArgs false

/-- What stands behind j words. -/
def nuN (ls : List Nat) (xs : List (List UInt8)) : Nat → Nat × Nat
  | 0 => (0, 0)
  | j + 1 => if ls.getD j 0 = 1 then (vlN (xs.getD j []), (nuN ls xs j).2) else ((nuN ls xs j).1, vlN (xs.getD j []))
set_option maxHeartbeats 3200000 in
theorem nums51_no (xs : List (List UInt8)) (ls : List Nat) (p : Nat) (v u : Value) (w : World) (h : WdL w v xs) (hp : PtL w p ls u) (hl2 : ls.length ≤ 2) (hno : ¬ (xs.length = ls.length ∧ (xs.all fun x => numB (bs x)) = true)) :
    Calls Tryd.prog 51 #[v, u] w fun e w' => e = .returned (.bool false) ∧ Below w.heap.size w w' := by
  have HAL := (show Hid _ from all61 xs v w h)
  obtain ⟨a0, g0, off0, cap0, rfl, hc0, hm0, ha0, hcell0⟩ := h.ex
  obtain ⟨a1, g1, cap1, rfl, hc1, hm1, ha1, hcell1⟩ := id hp
  unfold maxLen at hm1
  by_cases hlen : xs.length = ls.length
  case neg =>
    have q1 : ((xs.length : Int) != (ls.length : Int)) = true := by simp; omega
    clear HAL hp ha0 hcell0 ha1 hcell1 h hno
    generalize xs.length = nx at *
    generalize ls.length = nl at *
    go_enter Tryd.func51, Tryd.ntmps51
    go_wp2_with fail
    go_ret
    exact ⟨rfl, Below.refl _ _⟩
  have hall : (xs.all fun x => numB (bs x)) = false := by
    cases e : (xs.all fun x => numB (bs x))
    · rfl
    · exact absurd ⟨hlen, e⟩ hno
  rw [hall] at HAL
  have q1 : ((xs.length : Int) != (xs.length : Int)) = false := by simp
  clear hp ha0 hcell0 ha1 hcell1 h hall hno
  rw [← hlen] at *
  clear hlen
  generalize xs.length = nx at *
  go_enter Tryd.func51, Tryd.ntmps51
  go_wp2_with fail
  refine Calls.mono HAL.out ?_
  rintro e w1 ⟨rfl, hb1⟩
  go_wp2_with fail
  go_ret
  exact ⟨rfl, hb1⟩
theorem Box.not_str {w : World} {p i : Nat} {k a b : Int} {s : ByteArray} (h : Box w p 38 [.int .i64 k, .int .i64 a, .int .i64 b]) (hc : w.cell? ⟨p, i, none⟩ = some (.string s)) : False := by
  obtain ⟨c, h1, h2, h3⟩ := h.ex
  have h4 := cell_of_row w p i c 38 (0, 0) h1
  rw [hc] at h4
  have hi : i < c.size := (Array.getElem?_eq_some_iff.1 h4.symm).1
  have h5 := h3 i (by rw [← h2]; exact hi)
  rw [← h4] at h5
  have h6 : i < 3 := by rw [h2] at hi; exact hi
  have h7 : i = 0 ∨ i = 1 ∨ i = 2 := by omega
  rcases h7 with rfl | rfl | rfl <;> cases h5
theorem Box.not_66 {w : World} {p : Nat} {cs : List Value} {cur : Array Value} {fz : Nat × Nat} (h : Box w p 38 cs) (hc : w.heap[p]? = some (.cells cur 66 fz)) : False := by
  obtain ⟨c, h1, h2, h3⟩ := h.ex
  have h1' : w.heap[p]? = some (.cells c 38 (0, 0)) := h1
  rw [hc] at h1'
  cases h1'
end Go.Proofs.YtanbdfeoijflaaaDoor
