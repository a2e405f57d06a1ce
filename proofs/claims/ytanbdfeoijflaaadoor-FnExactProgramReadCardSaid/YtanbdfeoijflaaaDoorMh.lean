import Derived.Test.YtanbdfeoijflaaaDoorMf
/-! Reading a program: the specification's end of a line. -/
namespace Go.Proofs.YtanbdfeoijflaaaDoor
open Go.RowKit Go.Deep
set_option linter.unusedVariables false
set_option maxRecDepth 100000
set_option linter.unusedSimpArgs false

theorem pre_at {s : List UInt8} {j : Nat} (hj : j < s.length) : (pre 10 (s.drop j)).length = if s[j] = 10 then 0 else 1 + (pre 10 (s.drop (j + 1))).length := by
  rw [List.drop_eq_getElem_cons hj]
  show (if s[j] = 10 then ([] : List UInt8) else s[j] :: pre 10 (s.drop (j + 1))).length = _
  split <;> simp
  omega
set_option maxHeartbeats 1600000 in
theorem until21A (S : ByteArray) (s : List UInt8) (hsz : S.size = s.length) (hg : ∀ j (hj : j < s.length) (hj2 : j < S.size), S[j] = s[j]) (i R : Nat) (hi : i ≤ S.size) (hs : S.size ≤ 1000000000) (hR : i + (pre 10 (s.drop i)).length = R) (w : World) :
    Calls Tryd.prog 21 #[.string S, .int .i64 (i : Nat), .int .u8 10] w fun e w' => e = .returned (.int .i64 (R : Nat)) ∧ w' = w := by
  have HG := (show Hid _ from hg)
  have HR := (show Hid _ from hR)
  have HN := (show Hid (s.length = S.size) from hsz.symm)
  clear hsz hg hR
  go_enter Tryd.func21, Tryd.ntmps21
  go_wp2_with fail
  go_loopw [1] (fun u wr => ∃ j : Nat, u = .int .i64 (j : Nat) ∧ j ≤ S.size ∧ Hid (j + (pre 10 (s.drop j)).length = R) ∧ wr = w) (fun u _ => S.size - (intOf u).toNat)
  case atStart => exact ⟨i, rfl, hi, HR.out, rfl⟩
  case round =>
    obtain ⟨j, rfl, hj, HJ, rfl⟩ := hrel
    by_cases hlt : j < S.size
    · have hjs : j < s.length := by have := HN.out; omega
      have hp := pre_at hjs
      rw [← HG.out j hjs hlt] at hp
      by_cases h10 : (S[j].toNat : Int) = 10
      · have hq : ((S[j].toNat : Int) != 10) = false := by simp; omega
        have HF := (show Hid (R = j) from by
          have e : S[j] = 10 := UInt8.toNat_inj.1 (by show S[j].toNat = 10; omega)
          rw [if_pos e] at hp
          have := HJ.out
          show R = j
          omega)
        clear hp h10
        go_wp2_with fail
        go_ret
        exact ⟨by rw [HF.out]; rfl, rfl⟩
      · have hq : ((S[j].toNat : Int) != 10) = true := by simp; omega
        have HF := (show Hid (j + 1 + (pre 10 (s.drop (j + 1))).length = R) from by
          have e : ¬ S[j] = 10 := fun e => h10 (by rw [e]; rfl)
          rw [if_neg e] at hp
          have := HJ.out
          show _ = _
          omega)
        clear hp h10
        go_wp2_with fail
        exact ⟨⟨j + 1, by go_num, by omega, HF, trivial⟩, by simp [intOf]; omega⟩
    · have HF := (show Hid (R = j) from by
        have h1 : s.drop j = [] := List.drop_eq_nil_of_le (by have := HN.out; omega)
        have := HJ.out
        rw [h1] at this
        show R = j
        simp [pre] at this
        omega)
      clear HJ HR
      go_wp2_with fail
      go_ret
      exact ⟨by rw [HF.out]; rfl, rfl⟩
theorem bs_get (s : List UInt8) (j : Nat) (hj : j < s.length) (hj2 : j < (bs s).size) : (bs s)[j] = s[j] := by
  have h := Lib.data_getElem? (bs s) j hj2
  have e : (bs s).data.toList = s := by simp [bs]
  rw [e, List.getElem?_eq_getElem hj] at h
  exact (Option.some.inj h).symm
theorem until21 (s : List UInt8) (i : Nat) (hi : i ≤ s.length) (hs : s.length ≤ 1000000000) (w : World) :
    Calls Tryd.prog 21 #[.string (bs s), .int .i64 (i : Nat), .int .u8 10] w fun e w' => e = .returned (.int .i64 ((i + (pre 10 (s.drop i)).length : Nat))) ∧ w' = w :=
  until21A (bs s) s (bs_size s) (bs_get s) i _ (by rw [bs_size]; exact hi) (by rw [bs_size]; exact hs) rfl w
end Go.Proofs.YtanbdfeoijflaaaDoor
