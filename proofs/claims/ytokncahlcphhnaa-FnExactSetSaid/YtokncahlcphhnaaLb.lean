import Derived.Test.YtokncahlcphhnaaLa
import Derived.Laws.Externs
/-! Layouts that are right: the small functions of both sides. -/
namespace Go.Proofs.Ytokncahlcphhnaa
open Go.RowKit Go.Deep
set_option linter.unusedVariables false
set_option maxRecDepth 100000
set_option linter.unusedSimpArgs false

def btG (x a b : Int) : Bool := decide (a ≤ x) && decide (x ≤ b)
theorem bet18 (x a b : Int) (w : World) : Calls Try.prog 18 #[.int .i64 x, .int .i64 a, .int .i64 b] w fun e w' => e = .returned (.bool (btG x a b)) ∧ w' = w := by
  by_cases h1 : a ≤ x <;> by_cases h2 : x ≤ b
  all_goals
    go_enter Try.func18, Try.ntmps18
    go_wp2_with fail
    go_ret
    exact ⟨ret_bool (by simp [btG, h1, h2]), rfl⟩
set_option maxHeartbeats 800000 in
theorem in20 (gs : ByteArray) (b : UInt8) (hs : gs.size ≤ 1000) (w : World) : Calls Try.prog 20 #[.string gs, .int .u8 b.toNat] w fun e w' => e = .returned (.bool (gs.data.toList.contains b)) ∧ w' = w := by
  have HA := (show Hid _ from inS_all gs b)
  generalize gs.data.toList.contains b = R at *
  go_enter Try.func20, Try.ntmps20
  go_wp2_with fail
  go_loopw [5] (fun i wr => ∃ j : Nat, i = .int .i64 j ∧ j ≤ gs.size ∧ Hid (inS gs b j = false) ∧ wr = w) (fun i _ => gs.size - (intOf i).toNat)
  case atStart => exact ⟨0, rfl, Nat.zero_le _, rfl, rfl⟩
  case round =>
    obtain ⟨j, rfl, hj, HI, rfl⟩ := hrel
    by_cases hlt : j < gs.size
    · have hlt' : (j : Int) < gs.size := by omega
      have hg := get!_eq gs j hlt
      by_cases he : gs[j] = b
      · have hq : ((gs[j].toNat : Int) == (b.toNat : Int)) = true := by rw [he]; simp
        have HR : Hid (R = true) := by
          show R = true
          rw [← HA.out, inS_iff]
          exact ⟨j, hlt, by rw [hg, he]⟩
        clear he hg
        go_wp2_with fail
        go_ret
        exact ⟨by rw [HR.out]; rfl, rfl⟩
      · have hq : ((gs[j].toNat : Int) == (b.toNat : Int)) = false := by
          rw [beq_eq_false_iff_ne]
          intro e
          exact he (UInt8.toNat_inj.1 (by omega))
        have HI2 : Hid (inS gs b (j + 1) = false) := by
          show inS gs b (j + 1) = false
          rw [inS, HI.out, hg]
          simpa using he
        clear he hg
        go_wp2_with fail
        exact ⟨⟨j + 1, by go_num, by omega, HI2, trivial⟩, by simp [intOf]; omega⟩
    · obtain rfl : j = gs.size := by omega
      have HR : Hid (R = false) := by
        show R = false
        rw [← HA.out]; exact HI.out
      go_wp2_with fail
      go_ret
      exact ⟨by rw [HR.out]; rfl, rfl⟩
set_option maxHeartbeats 1600000 in
theorem groups19 {S : Nat → Prop} (l : List DLNode) (v : Value) (w : World) (h : LNodeR w S l v) :
    Calls Try.prog 19 #[v] w fun e w' => e = .returned (.int .i64 (gpl l l.length).length) ∧ w' = w := by
  obtain ⟨a, cap, b, off, s3, rfl, hc, hm, ha, hcell, r3⟩ := h
  have HC := (show Hid _ from hcell); clear hcell
  have HA := (show Hid _ from ha); clear ha
  clear r3
  unfold maxLen at hm
  go_enter Try.func19, Try.ntmps19
  go_wp2_with fail
  go_loopw [3, 4] (fun u i wr => ∃ j m : Nat, i = .int .i64 j ∧ j ≤ l.length ∧ u = .int .i64 m ∧ Hid (m = (gpl l j).length) ∧ m ≤ j ∧ wr = w) (fun _ i _ => l.length - (intOf i).toNat)
  case atStart => exact ⟨0, 0, rfl, Nat.zero_le _, rfl, rfl, Nat.le_refl _, rfl⟩
  case round =>
    obtain ⟨j, m, rfl, hj, rfl, HM, hmj, rfl⟩ := hrel
    by_cases hjl : j < l.length
    · obtain ⟨rfl, _⟩ := HA.out (by omega)
      obtain ⟨c0, -, -, -, -⟩ := HC.out j hjl
      have HY := (show Hid (l[j].kind = 6 → m + 1 = (gpl l (j + 1)).length) from fun h => by
        rw [gpl_yes (by rw [getZ hjl]; exact h), HM.out]; simp)
      have HN := (show Hid (¬ l[j].kind = 6 → m = (gpl l (j + 1)).length) from fun h => by
        rw [gpl_no (by rw [getZ hjl]; exact h), HM.out])
      generalize l[j].kind = kd at *
      clear HM
      by_cases hk : kd = 6
      · have HM := (show Hid _ from HY.out hk)
        subst hk
        go_wp2_with fail
        exact ⟨⟨j + 1, m + 1, by go_num, by omega, by go_num, HM, by omega, trivial⟩, by simp [intOf]; omega⟩
      · have HM := (show Hid _ from HN.out hk)
        have kb : (kd == 6) = false := by simp [hk]
        go_wp2_with fail
        exact ⟨⟨j + 1, m, by go_num, by omega, rfl, HM, by omega, trivial⟩, by simp [intOf]; omega⟩
    · obtain rfl : j = l.length := by omega
      go_wp2_with fail
      go_ret
      exact ⟨by rw [HM.out]; rfl, rfl⟩
theorem byte82 (s : ByteArray) (c : Int) (w : World) :
    Calls Try.prog 82 #[.string s, .int .u8 c] w fun e w' => e = .returned (.int .i64 (Lib.indexByte s.data.toList c.toNat.toUInt8)) ∧ w' = w := by
  go_enter Try.func82, Try.ntmps82
  go_wp2_with fail
  rw [run_callFunc_extern Try.func86 (by kernel_rfl) (by kernel_rfl) (by kernel_rfl) (e := Extern.BytealgIndexByte.indexByte) (by kernel_rfl), Lib.run_indexByteString]
  simp only [Result.andThen]
  rw [Oper.upon_value]
  go_wp2_with fail
  go_ret
  exact ⟨rfl, rfl⟩
end Go.Proofs.Ytokncahlcphhnaa
