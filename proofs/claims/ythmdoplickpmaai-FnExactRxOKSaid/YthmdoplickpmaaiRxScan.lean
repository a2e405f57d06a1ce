import Derived.Test.YthmdoplickpmaaiMark
import Derived.Test.YthmdoplickpmaaiRxP
import Derived.BigQuiet
import Derived.Deep.QuietTactic
namespace Go.Proofs.Ythmdoplickpmaai
open Go.RowKit Go.Deep Go.Lib
set_option linter.unusedVariables false
set_option maxRecDepth 100000
set_option linter.unusedSimpArgs false

/-- The program's scanner, and where it stands. -/
def Scn (w : World) (p q : Nat) (s : ByteArray) (k : Nat) : Prop := k ≤ s.size ∧ s.size ≤ 1048576 ∧ ∃ f, w.rowIs p 105 3 f ∧ f 0 = .string s ∧ f 1 = .int .i64 k ∧ f 2 = .pointer (some ⟨q, 0, none⟩)
theorem Scn.lt {w : World} {p q k : Nat} {s : ByteArray} (h : Scn w p q s k) : p < w.heap.size := by
  obtain ⟨_, _, f, h, _⟩ := h; exact h.lt
theorem Scn.keep {w w' : World} {p q k : Nat} {s : ByteArray} (h : Scn w p q s k) (hk : w'.heap[p]? = w.heap[p]?) : Scn w' p q s k := by
  obtain ⟨h1, h2, f, h, e⟩ := h; exact ⟨h1, h2, f, h.of_block hk, e⟩
theorem Scn.still {w w' : World} {p q k : Nat} {s : ByteArray} (h : Scn w p q s k) (hb : Below w.heap.size w w') : Scn w' p q s k := h.keep (hb.block p h.lt)
theorem Scn.cells {w : World} {p q k : Nat} {s : ByteArray} (h : Scn w p q s k) : w.cell? ⟨p, 0, none⟩ = some (.string s) ∧ w.cell? ⟨p, 1, none⟩ = some (.int .i64 k) ∧ w.frozen? ⟨p, 1, none⟩ = false := by
  obtain ⟨_, _, f, h, e0, e1, _⟩ := h
  exact ⟨by rw [h.cell (by omega), e0], by rw [h.cell (by omega), e1], h.frozen 1⟩
theorem Scn.net {w : World} {p q k : Nat} {s : ByteArray} (h : Scn w p q s k) : w.cell? ⟨p, 2, none⟩ = some (.pointer (some ⟨q, 0, none⟩)) := by
  obtain ⟨_, _, f, h, e0, e1, e2⟩ := h
  rw [h.cell (by omega), e2]
theorem Scn.set {w : World} {p q k k' : Nat} {s : ByteArray} (h : Scn w p q s k) (hk : k' ≤ s.size) : Scn (w.setCell ⟨p, 1, none⟩ (.int .i64 k')) p q s k' := by
  obtain ⟨_, h2, f, h, e0, e1, e2⟩ := h
  exact ⟨hk, h2, _, h.set 1 _, by rw [if_neg (by omega)]; exact e0, if_pos rfl, by rw [if_neg (by omega)]; exact e2⟩
theorem Out.drew' {lo hi : Nat} {w w' : World} (h : Out lo hi w w') : Out lo hi w w'.drew := ⟨h.1, h.2.1, h.2.2.1, h.2.2.2.1, h.2.2.2.2⟩

set_option maxHeartbeats 800000 in
theorem sees_any {p q k : Nat} {s : ByteArray} (b : UInt8) (w : World) (h : Scn w p q s k) :
    Calls Try.prog 65 #[.pointer (some ⟨p, 0, none⟩), .int .u8 b.toNat] w fun e w' => e = .returned (.bool (seesB s k b)) ∧ Out p (p + 1) w w' ∧ Scn w' p q s k := by
  obtain ⟨x0, x1, y1⟩ := h.cells
  have hk := h.1
  have hs := h.2.1
  have HS := (show Hid _ from h); clear h
  by_cases hlt : k < s.size
  · have e : seesB s k b = ((s[k].toNat : Int) == (b.toNat : Int)) := by
      unfold seesB
      rw [get!_eq s k hlt]
      simp [hlt]
      rw [Bool.eq_iff_iff]
      simp
      constructor
      · intro h; rw [h]
      · intro h; exact UInt8.toNat_inj.1 (by omega)
    have hlt' : (k : Int) < s.size := by omega
    have HE := (show Hid _ from e); clear e
    go_enter Try.func65, Try.ntmps65
    go_wp2_with fail
    go_region
    all_goals
      go_wp2_with fail
      go_ret
      exact ⟨by rw [HE.out]; rfl, Out.drew' (Out.refl _ _ _), Scn.keep HS.out rfl⟩
  · have e : seesB s k b = false := by unfold seesB; simp [hlt]
    rw [e]
    have hlt' : (s.size : Int) ≤ k := by omega
    clear e
    go_enter Try.func65, Try.ntmps65
    go_wp2_with fail
    go_region
    all_goals
      go_wp2_with fail
      go_ret
      exact ⟨rfl, Out.drew' (Out.refl _ _ _), Scn.keep HS.out rfl⟩

/-- What the scanner panics with. -/
abbrev flt (k : Nat) : PanicEntry := { v := .iface 71 (.agg #[.int .i64 2, .int .i64 k]), recovered := false }
theorem fault_any {p q k : Nat} {s : ByteArray} (w : World) (h : Scn w p q s k) : Calls Try.prog 59 #[.pointer (some ⟨p, 0, none⟩)] w fun e w' => e = .returned (.agg #[.int .i64 2, .int .i64 k]) ∧ Below w.heap.size w w' := by
  obtain ⟨x0, x1, y1⟩ := (h.still (bel_alloc w (.cells #[.int .i64 0, .int .i64 0] 71))).cells
  clear h
  go_enter Try.func59, Try.ntmps59
  go_wp2_with fail
  refine bodyPost_ret (v := .agg #[.int .i64 2, .int .i64 k]) (by simp [results, Try.results59, go_sem]) rfl ⟨rfl, ?_⟩
  exact bel_alloc _ _

set_option maxHeartbeats 800000 in
theorem pass_any {p q k : Nat} {s : ByteArray} (b : UInt8) (w : World) (h : Scn w p q s k) :
    Calls Try.prog 98 #[.pointer (some ⟨p, 0, none⟩), .int .u8 b.toNat] w fun e w' => Out p (p + 1) w w' ∧ ((seesB s k b = true ∧ e = .returned (.tuple #[]) ∧ Scn w' p q s (k + 1)) ∨ (seesB s k b = false ∧ e = .panicked [flt k])) := by
  have hcl := sees_any b w h
  have hs := h.2.1
  have HCL := (show Hid _ from hcl); clear hcl h
  cases hb : seesB s k b
  · rw [hb] at HCL
    clear hb
    go_enter Try.func98, Try.ntmps98
    go_wp2_with fail
    refine Calls.mono HCL.out ?_
    rintro e w1 ⟨rfl, ho1, hs1⟩
    have hf := fault_any w1 hs1
    have HF := (show Hid _ from hf); clear hf
    have HO := (show Hid _ from ho1); clear ho1 hs1
    go_wp2_with fail
    refine Calls.mono HF.out ?_
    rintro e w2 ⟨rfl, hb2⟩
    go_wp2_with fail
    exact ⟨rfl, Out.trans HO.out (Out.of_below hb2), .inr ⟨trivial, rfl⟩⟩
  · have hlt : k < s.size := by
      unfold seesB at hb
      simp at hb
      exact hb.1
    rw [hb] at HCL
    clear hb
    go_enter Try.func98, Try.ntmps98
    go_wp2_with fail
    refine Calls.mono HCL.out ?_
    rintro e w1 ⟨rfl, ho1, hs1⟩
    obtain ⟨x0, x1, y1⟩ := hs1.cells
    have hs2 := hs1.set (k' := k + 1) hlt
    have H1 := (show Hid _ from (⟨ho1.trans (Out.set (o := 1) w1 (.int .i64 ((k + 1 : Nat) : Int)) (Nat.le_refl p) (Nat.lt_succ_self p)), hs2⟩ : _ ∧ _)); clear ho1 hs1 hs2
    go_wp2_with fail
    go_end0
    exact ⟨H1.out.1, .inl ⟨trivial, rfl, H1.out.2⟩⟩

end Go.Proofs.Ythmdoplickpmaai
