import Derived.Test.YthmdoplickpmaaiRxS2
import Derived.Test.YthmdoplickpmaaiRxEsc
namespace Go.Proofs.Ythmdoplickpmaai
open Go.RowKit Go.Deep Go.Lib
set_option linter.unusedVariables false
set_option maxRecDepth 100000
set_option linter.unusedSimpArgs false

theorem put_ok {p k c : Nat} {s : ByteArray} {g : Option Nat} (cs : Array Value) (hcs : cs.size = 258) (h1 : ∀ u ∈ cs.toList, u.oneCell' = true) (w : World) (h : Rd w p s k c g) (hc : c ≤ 10000) :
    Calls Try.prog 57 #[.pointer (some ⟨p, 0, none⟩), .agg cs] w fun e w' => (∃ m : Nat, e = .returned (.int .i64 m)) ∧ ∃ g', Rd w' p s k (c + 1) g' ∧ Mv p g w g' w' := by
  obtain ⟨hk, n, h2, h3⟩ := h
  refine (put_any cs hcs h1 w h2 (by omega)).mono ?_
  rintro e w' ⟨rfl, g', h4, h5⟩
  exact ⟨⟨n, rfl⟩, g', ⟨hk, n + 1, h4, by omega⟩, h5⟩
theorem put_bad {p j c : Nat} {s : ByteArray} {g : Option Nat} (cs : Array Value) (hcs : cs.size = 258) (h1 : ∀ u ∈ cs.toList, u.oneCell' = true) (w : World) (h : Bd w p s j c g) (hc : c ≤ 10000) :
    Calls Try.prog 57 #[.pointer (some ⟨p, 0, none⟩), .agg cs] w fun e w' => (∃ m : Nat, e = .returned (.int .i64 m)) ∧ ∃ g', Bd w' p s j (c + 1) g' ∧ Mv p g w g' w' := by
  obtain ⟨z, n, h2, h3⟩ := h
  refine (put_any cs hcs h1 w h2 (by omega)).mono ?_
  rintro e w' ⟨rfl, g', h4, h5⟩
  exact ⟨⟨n, rfl⟩, g', ⟨z, n + 1, h4, by omega⟩, h5⟩
theorem more_st {p k c : Nat} {s : ByteArray} {g : Option Nat} (w : World) (h : Rd w p s k c g) {r : Bool} (hr : decide (k < s.size) = r) :
    Calls Try.prog 50 #[.pointer (some ⟨p, 0, none⟩)] w fun e w' => e = .returned (.bool r) ∧ Rd w' p s k c g ∧ Mv p g w g w' :=
  (more_ok w h).mono fun e w' ⟨h1, m, h2⟩ => ⟨by rw [h1, hr], by rw [h2]; exact h.drewN m, by rw [h2]; exact (Mv.refl p g w).drewN m⟩
theorem more_bst {p j c : Nat} {s : ByteArray} {g : Option Nat} (w : World) (h : Bd w p s j c g) :
    Calls Try.prog 50 #[.pointer (some ⟨p, 0, none⟩)] w fun e w' => e = .returned (.bool false) ∧ Bd w' p s j c g ∧ Mv p g w g w' :=
  (more_bad w h).mono fun e w' ⟨h1, m, h2⟩ => ⟨h1, by rw [h2]; exact h.drewN m, by rw [h2]; exact (Mv.refl p g w).drewN m⟩

/-- Whether a byte stands in a text. -/
def inS (gs : ByteArray) (b : UInt8) : Nat → Bool
  | 0 => false
  | j + 1 => inS gs b j || (gs.get! j == b)
theorem inS_iff (gs : ByteArray) (b : UInt8) : ∀ j, inS gs b j = true ↔ ∃ i, i < j ∧ gs.get! i = b
  | 0 => by simp [inS]
  | j + 1 => by
    rw [inS, Bool.or_eq_true, inS_iff gs b j]
    constructor
    · rintro (⟨i, hi, h⟩ | h)
      · exact ⟨i, by omega, h⟩
      · exact ⟨j, by omega, by simpa using h⟩
    · rintro ⟨i, hi, h⟩
      by_cases e : i = j
      · subst e; exact .inr (by simpa using h)
      · exact .inl ⟨i, by omega, h⟩
theorem inS_all (gs : ByteArray) (b : UInt8) : inS gs b gs.size = gs.data.toList.contains b := by
  rw [Bool.eq_iff_iff, inS_iff]
  simp only [List.contains_iff_mem]
  rw [List.mem_iff_getElem]
  constructor
  · rintro ⟨i, hi, h⟩
    refine ⟨i, hi, ?_⟩
    rw [get!_eq gs i hi] at h
    exact h
  · rintro ⟨i, hi, h⟩
    refine ⟨i, hi, ?_⟩
    rw [get!_eq gs i hi]
    exact h
set_option maxHeartbeats 800000 in
theorem in_any (gs : ByteArray) (b : UInt8) (hs : gs.size ≤ 1000) (w : World) : Calls Try.prog 70 #[.string gs, .int .u8 b.toNat] w fun e w' => e = .returned (.bool (gs.data.toList.contains b)) ∧ w' = w := by
  have HA := (show Hid _ from inS_all gs b)
  generalize gs.data.toList.contains b = R at *
  go_enter Try.func70, Try.ntmps70
  go_wp2_with fail
  go_loopw [5] (fun i wr => ∃ j : Nat, i = .int .i64 j ∧ j ≤ gs.size ∧ Hid (inS gs b j = false) ∧ wr = w) (fun i _ => gs.size - (intOf i).toNat)
  case atStart => exact ⟨0, rfl, Nat.zero_le _, rfl, rfl⟩
  case round =>
    obtain ⟨j, rfl, hj, HI, rfl⟩ := hrel
    by_cases hlt : j < gs.size
    · have hlt' : (j : Int) < gs.size := by omega
      have hg := get!_eq gs j hlt
      by_cases he : gs[j] = b
      · have hq : ((gs[j].toNat : Int) == (b.toNat : Int)) = true := by rw [he]; simp
        have HR : Hid (R = true) := by
          show R = true
          rw [← HA.out, inS_iff]
          exact ⟨j, hlt, by rw [hg, he]⟩
        clear he hg
        go_wp2_with fail
        go_ret
        exact ⟨by rw [HR.out]; rfl, rfl⟩
      · have hq : ((gs[j].toNat : Int) == (b.toNat : Int)) = false := by
          rw [beq_eq_false_iff_ne]
          intro e
          exact he (UInt8.toNat_inj.1 (by omega))
        have HI2 : Hid (inS gs b (j + 1) = false) := by
          show inS gs b (j + 1) = false
          rw [inS, HI.out, hg]
          simpa using he
        clear he hg
        go_wp2_with fail
        exact ⟨⟨j + 1, by go_num, by omega, HI2, trivial⟩, by simp [intOf]; omega⟩
    · obtain rfl : j = gs.size := by omega
      have HR : Hid (R = false) := by
        show R = false
        rw [← HA.out]; exact HI.out
      go_wp2_with fail
      go_ret
      exact ⟨by rw [HR.out]; rfl, rfl⟩
end Go.Proofs.Ythmdoplickpmaai
