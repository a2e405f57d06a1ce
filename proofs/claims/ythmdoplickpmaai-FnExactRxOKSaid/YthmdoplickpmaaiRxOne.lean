import Derived.Test.YthmdoplickpmaaiRxScan2
import Derived.Test.YthmdoplickpmaaiNm
import Derived.Laws.Externs
import Derived.Lib.Bytealg
import Derived.Lib.IndexAny
namespace Go.Proofs.Ythmdoplickpmaai
open Go.RowKit Go.Deep Go.Lib
set_option linter.unusedVariables false
set_option maxRecDepth 100000
set_option linter.unusedSimpArgs false

theorem idxRun (s : ByteArray) (c : Int) (w : World) : (callFunc 107 #[.string s, .int .u8 c]).run Try.prog w = .ok (.value (.int .i64 (indexByte s.data.toList c.toNat.toUInt8))) w := by
  rw [run_callFunc_extern (e := Extern.BytealgIndexByte.indexByte) Try.func107 (by kernel_rfl) (by kernel_rfl) (by kernel_rfl) (by kernel_rfl), run_indexByteString]
  rfl
theorem idx106 (s : ByteArray) (c : Int) (w : World) : Calls Try.prog 106 #[.string s, .int .u8 c] w fun e w' => e = .returned (.int .i64 (indexByte s.data.toList c.toNat.toUInt8)) ∧ w' = w := by
  have hd := idxRun s c w
  go_enter Try.func106, Try.ntmps106
  go_wp2_with fail
  go_ret
  exact ⟨rfl, rfl⟩
theorem idx_any (s : ByteArray) (c : Int) (w : World) : Calls Try.prog 101 #[.string s, .int .u8 c] w fun e w' => e = .returned (.int .i64 (indexByte s.data.toList c.toNat.toUInt8)) ∧ w' = w := by
  have h := idx106 s c w
  have HH := (show Hid _ from h); clear h
  go_enter Try.func101, Try.ntmps101
  go_wp2_with fail
  refine Calls.mono HH.out ?_
  rintro e w1 ⟨rfl, rfl⟩
  go_wp2_with fail
  go_ret
  exact ⟨rfl, rfl⟩

set_option maxHeartbeats 800000 in
theorem seesQ {p q k : Nat} {s : ByteArray} (b : UInt8) (w : World) (h : Scn w p q s k) :
    Calls Try.prog 65 #[.pointer (some ⟨p, 0, none⟩), .int .u8 b.toNat] w fun e w' => e = .returned (.bool (seesB s k b)) ∧ ∃ m, w' = w.drewN m := by
  obtain ⟨x0, x1, y1⟩ := h.cells
  have hk := h.1
  have hs := h.2.1
  clear h
  by_cases hlt : k < s.size
  · have e : seesB s k b = ((s[k].toNat : Int) == (b.toNat : Int)) := by
      unfold seesB
      rw [get!_eq s k hlt]
      simp [hlt]
      rw [Bool.eq_iff_iff]
      simp
      constructor
      · intro h; rw [h]
      · intro h; exact UInt8.toNat_inj.1 (by omega)
    have hlt' : (k : Int) < s.size := by omega
    have HE := (show Hid _ from e); clear e
    go_enter Try.func65, Try.ntmps65
    go_wp2_with fail
    go_quiet (fail)
    go_wp2_with fail
    go_ret
    exact ⟨by rw [HE.out]; rfl, _, rfl⟩
  · have e : seesB s k b = false := by unfold seesB; simp [hlt]
    rw [e]
    have hd : decide ((k : Int) < s.size) = false := by simp; omega
    clear e
    go_enter Try.func65, Try.ntmps65
    go_wp2_with fail
    go_quiet (fail)
    go_wp2_with fail
    go_ret
    exact ⟨rfl, _, rfl⟩
end Go.Proofs.Ythmdoplickpmaai
