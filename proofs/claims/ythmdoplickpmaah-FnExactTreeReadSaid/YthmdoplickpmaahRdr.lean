import Derived.Test.YthmdoplickpmaahScan5
/-! The specification's reader of a tree's text. -/
namespace Go.Proofs.Ythmdoplickpmaah
open Go.RowKit Go.Deep Go.Lib
set_option linter.unusedVariables false
set_option maxRecDepth 100000
set_option linter.unusedSimpArgs false

/-- The reader, where it stands, and no fault yet; or the place of its fault. -/
def RdB (w : World) (p : Nat) (s : ByteArray) (k : Nat) (b : Int) : Prop := ∃ f, w.rowIs p 60 3 f ∧ f 0 = .string s ∧ f 1 = .int .i64 k ∧ f 2 = .int .i64 b
theorem RdB.lt {w : World} {p k : Nat} {b : Int} {s : ByteArray} (h : RdB w p s k b) : p < w.heap.size := by obtain ⟨f, h, _⟩ := h; exact h.lt
theorem RdB.keep {w w' : World} {p k : Nat} {b : Int} {s : ByteArray} (h : RdB w p s k b) (hk : w'.heap[p]? = w.heap[p]?) : RdB w' p s k b := by obtain ⟨f, h, e⟩ := h; exact ⟨f, h.of_block hk, e⟩
theorem RdB.still {w w' : World} {p k : Nat} {b : Int} {s : ByteArray} (h : RdB w p s k b) (hb : Below w.heap.size w w') : RdB w' p s k b := h.keep (hb.block p h.lt)
theorem RdB.cells {w : World} {p k : Nat} {b : Int} {s : ByteArray} (h : RdB w p s k b) : w.cell? ⟨p, 0, none⟩ = some (.string s) ∧ w.cell? ⟨p, 1, none⟩ = some (.int .i64 k) ∧ w.cell? ⟨p, 2, none⟩ = some (.int .i64 b) ∧ w.frozen? ⟨p, 1, none⟩ = false ∧ w.frozen? ⟨p, 2, none⟩ = false := by
  obtain ⟨f, h, e0, e1, e2⟩ := h
  exact ⟨by rw [h.cell (by omega), e0], by rw [h.cell (by omega), e1], by rw [h.cell (by omega), e2], h.frozen 1, h.frozen 2⟩
theorem RdB.next {w : World} {p k : Nat} {b : Int} {s : ByteArray} (h : RdB w p s k b) : RdB (w.setCell ⟨p, 1, none⟩ (.int .i64 ((k : Int) + 1))) p s (k + 1) b := by
  obtain ⟨f, h, e0, e1, e2⟩ := h
  exact ⟨_, h.set 1 _, by rw [if_neg (by omega)]; exact e0, if_pos rfl, by rw [if_neg (by omega)]; exact e2⟩
theorem RdB.fault {w : World} {p k : Nat} {b : Int} {s : ByteArray} (h : RdB w p s k b) (j : Nat) : RdB (w.setCell ⟨p, 2, none⟩ (.int .i64 (j : Int))) p s k j := by
  obtain ⟨f, h, e0, e1, e2⟩ := h
  exact ⟨_, h.set 2 _, by rw [if_neg (by omega)]; exact e0, by rw [if_neg (by omega)]; exact e1, if_pos rfl⟩
theorem RdB.cells' {w : World} {p k : Nat} {b : Int} {s : ByteArray} (h : RdB w p s (k + 1) b) : w.cell? ⟨p, 0, none⟩ = some (.string s) ∧ w.cell? ⟨p, 1, none⟩ = some (.int .i64 ((k : Int) + 1)) ∧ w.cell? ⟨p, 2, none⟩ = some (.int .i64 b) ∧ w.frozen? ⟨p, 1, none⟩ = false ∧ w.frozen? ⟨p, 2, none⟩ = false := h.cells
/-- No fault yet. -/
def Rdr (w : World) (p : Nat) (s : ByteArray) (k : Nat) : Prop := k ≤ s.size ∧ s.size ≤ 20000 ∧ RdB w p s k (-1)
theorem Rdr.keep {w w' : World} {p k : Nat} {s : ByteArray} (h : Rdr w p s k) (hk : w'.heap[p]? = w.heap[p]?) : Rdr w' p s k := ⟨h.1, h.2.1, h.2.2.keep hk⟩
theorem Rdr.next {w : World} {p k : Nat} {s : ByteArray} (h : Rdr w p s k) (hk : k < s.size) : Rdr (w.setCell ⟨p, 1, none⟩ (.int .i64 ((k : Int) + 1))) p s (k + 1) := ⟨hk, h.2.1, h.2.2.next⟩
/-- A fault. -/
def Bad (w : World) (p : Nat) (s : ByteArray) (j : Nat) : Prop := s.size ≤ 20000 ∧ ∃ a, a ≤ s.size ∧ RdB w p s a j
/-- A fault; one byte more may have been passed. -/
def BadT (w : World) (p : Nat) (s : ByteArray) (j : Nat) : Prop := s.size ≤ 20000 ∧ ∃ a, a ≤ s.size + 1 ∧ RdB w p s a j
theorem Bad.t {w : World} {p j : Nat} {s : ByteArray} (h : Bad w p s j) : BadT w p s j := by obtain ⟨h1, a, h2, h3⟩ := h; exact ⟨h1, a, by omega, h3⟩
theorem BadT.keep {w w' : World} {p j : Nat} {s : ByteArray} (h : BadT w p s j) (hk : w'.heap[p]? = w.heap[p]?) : BadT w' p s j := by obtain ⟨h1, a, h2, h3⟩ := h; exact ⟨h1, a, h2, h3.keep hk⟩
theorem BadT.lt {w : World} {p j : Nat} {s : ByteArray} (h : BadT w p s j) : p < w.heap.size := by obtain ⟨h1, a, h2, h3⟩ := h; exact h3.lt

set_option maxHeartbeats 800000 in
theorem more_any {p k : Nat} {s : ByteArray} (w : World) (h : Rdr w p s k) :
    Calls Try.prog 47 #[.pointer (some ⟨p, 0, none⟩)] w fun e w' => e = .returned (.bool (decide (k < s.size))) ∧ ∃ m, w' = w.drewN m := by
  obtain ⟨x0, x1, x2, _⟩ := h.2.2.cells
  have hk := h.1
  have hs := h.2.1
  clear h
  by_cases hlt : k < s.size
  · rw [decide_eq_true hlt]
    have hlt' : (k : Int) < s.size := by omega
    go_enter Try.func47, Try.ntmps47
    go_wp2_with fail
    go_quiet (fail)
    go_wp2_with fail
    go_ret
    exact ⟨rfl, _, rfl⟩
  · rw [decide_eq_false hlt]
    have hd : decide ((k : Int) < s.size) = false := by simp; omega
    go_enter Try.func47, Try.ntmps47
    go_wp2_with fail
    go_quiet (fail)
    go_wp2_with fail
    go_ret
    exact ⟨rfl, _, rfl⟩
set_option maxHeartbeats 800000 in
theorem more_bad {p j : Nat} {s : ByteArray} (w : World) (h : BadT w p s j) :
    Calls Try.prog 47 #[.pointer (some ⟨p, 0, none⟩)] w fun e w' => e = .returned (.bool false) ∧ ∃ m, w' = w.drewN m := by
  obtain ⟨hs, a, ha, h⟩ := h
  obtain ⟨x0, x1, x2, _⟩ := h.cells
  clear h
  have hd : decide ((j : Int) < 0) = false := by simp
  go_enter Try.func47, Try.ntmps47
  go_wp2_with fail
  go_quiet (fail)
  go_wp2_with fail
  go_ret
  exact ⟨rfl, _, rfl⟩
theorem fail_any {p k : Nat} {s : ByteArray} (w : World) (h : Rdr w p s k) :
    Calls Try.prog 37 #[.pointer (some ⟨p, 0, none⟩)] w fun e w' => e = .returned (.tuple #[]) ∧ Out p (p + 1) w w' ∧ Bad w' p s k := by
  obtain ⟨x0, x1, x2, y1, y2⟩ := h.2.2.cells
  have hk := h.1
  have hs := h.2.1
  have HE := (show Hid _ from (⟨Out.set (o := 2) w (.int .i64 (k : Int)) (Nat.le_refl p) (Nat.lt_succ_self p), h.2.2.fault k⟩ : _ ∧ _)); clear h
  go_enter Try.func37, Try.ntmps37
  go_wp2_with fail
  go_end0
  exact ⟨rfl, HE.out.1, hs, k, by omega, HE.out.2⟩

set_option maxHeartbeats 1600000 in
theorem blanksS_any {p k : Nat} {s : ByteArray} (w : World) (h : Rdr w p s k) :
    Calls Try.prog 35 #[.pointer (some ⟨p, 0, none⟩)] w fun e w' => e = .returned (.int .i64 (skip s k - k : Nat)) ∧ Out p (p + 1) w w' ∧ Rdr w' p s (skip s k) := by
  have hk := h.1
  have hs := h.2.1
  have hsk := skip_le hk
  have HS := (show Hid _ from h); clear h
  go_enter Try.func35, Try.ntmps35
  go_wp2_with fail
  go_loopw [3] (fun n wr => ∃ j : Nat, k ≤ j ∧ j ≤ s.size ∧ n = .int .i64 (j - k : Nat) ∧ Hid (Out p (p + 1) w wr ∧ Rdr wr p s j ∧ skip s k = skip s j)) (fun _ wr => s.size - (intOf ((wr.cell? ⟨p, 1, none⟩).getD (.bool false))).toNat)
  case atStart => exact ⟨k, Nat.le_refl _, hk, by rw [Nat.sub_self]; rfl, Out.refl _ _ _, HS.out, rfl⟩
  case round =>
    obtain ⟨j, hkj, hj, rfl, HR⟩ := hrel
    obtain ⟨x0, x1, x2, y1, y2⟩ := RdB.cells HR.out.2.1.2.2
    have HM := (show Hid _ from fun n => more_any (wr.drewN n) (p := p) (k := j) (s := s) ⟨hj, hs, HR.out.2.1.2.2.keep rfl⟩)
    generalize hjk : j - k = jk at *
    have hjk' : jk ≤ 20000 := by omega
    by_cases hlt : j < s.size
    case neg =>
      rw [decide_eq_false hlt] at HM
      have hst : skip s k = j := HR.out.2.2.trans (skip_stop (by unfold seesB; simp [hlt]))
      have HST := (show Hid _ from hst); clear hst
      go_wp2_with fail
      go_quiet ((go_at_call 47; refine Calls.quiet_of (HM.out _)))
      go_wp2_with fail
      go_ret
      rw [HST.out, hjk]
      exact ⟨rfl, Out.drewN HR.out.1 _, hj, hs, RdB.keep (w := wr) HR.out.2.1.2.2 rfl⟩
    rw [decide_eq_true hlt] at HM
    have hg := get!_eq s j hlt
    have hlt' : (j : Int) < s.size := by omega
    by_cases h32 : s[j].toNat = 32
    · have hb1 : ((s[j].toNat : Int) == 32) = true := by simp; omega
      have hst : skip s k = skip s (j + 1) := HR.out.2.2.trans (skip_step (by unfold seesB; rw [hg]; simp [hlt]; exact .inl (UInt8.toNat_inj.1 h32)))
      have H3 := (show Hid _ from fun n => (⟨Out.trans (Out.drewN HR.out.1 n) (Out.set (o := 1) (wr.drewN n) (.int .i64 ((j : Int) + 1)) (Nat.le_refl p) (Nat.lt_succ_self p)), Rdr.next (Rdr.keep (w := wr) (w' := wr.drewN n) HR.out.2.1 rfl) hlt, hst⟩ : _ ∧ _ ∧ _)); clear hst
      have HM2 := (show Hid _ from x1)
      clear h32 hg
      go_wp2_with fail
      go_quiet ((go_at_call 47; refine Calls.quiet_of (HM.out _)))
      go_wp2_with fail
      refine ⟨⟨j + 1, by omega, hlt, val_int (by omega), H3.out nq⟩, ?_⟩
      have m1 := (RdB.cells' (H3.out nq).2.1.2.2).2.1
      rw [m1, HM2.out]
      simp [intOf]
      omega
    have hb1 : ((s[j].toNat : Int) == 32) = false := by simp; omega
    by_cases h10 : s[j].toNat = 10
    · have hb2 : ((s[j].toNat : Int) == 10) = true := by simp; omega
      have hst : skip s k = skip s (j + 1) := HR.out.2.2.trans (skip_step (by unfold seesB; rw [hg]; simp [hlt]; exact .inr (UInt8.toNat_inj.1 h10)))
      have H3 := (show Hid _ from fun n => (⟨Out.trans (Out.drewN HR.out.1 n) (Out.set (o := 1) (wr.drewN n) (.int .i64 ((j : Int) + 1)) (Nat.le_refl p) (Nat.lt_succ_self p)), Rdr.next (Rdr.keep (w := wr) (w' := wr.drewN n) HR.out.2.1 rfl) hlt, hst⟩ : _ ∧ _ ∧ _)); clear hst
      have HM2 := (show Hid _ from x1)
      clear h32 h10 hg
      go_wp2_with fail
      go_quiet ((go_at_call 47; refine Calls.quiet_of (HM.out _)))
      go_wp2_with fail
      refine ⟨⟨j + 1, by omega, hlt, val_int (by omega), H3.out nq⟩, ?_⟩
      have m1 := (RdB.cells' (H3.out nq).2.1.2.2).2.1
      rw [m1, HM2.out]
      simp [intOf]
      omega
    · have hb2 : ((s[j].toNat : Int) == 10) = false := by simp; omega
      have hst : skip s k = j := HR.out.2.2.trans (skip_stop (by unfold seesB; rw [hg]; simp [hlt]; exact ⟨fun e => h32 (by rw [e]; rfl), fun e => h10 (by rw [e]; rfl)⟩))
      have HST := (show Hid _ from hst); clear hst h32 h10 hg
      go_wp2_with fail
      go_quiet ((go_at_call 47; refine Calls.quiet_of (HM.out _)))
      go_wp2_with fail
      go_ret
      rw [HST.out, hjk]
      exact ⟨rfl, Out.drewN HR.out.1 _, hj, hs, RdB.keep (w := wr) HR.out.2.1.2.2 rfl⟩
set_option maxHeartbeats 800000 in
theorem blanksS_bad {p j : Nat} {s : ByteArray} (w : World) (h : BadT w p s j) :
    Calls Try.prog 35 #[.pointer (some ⟨p, 0, none⟩)] w fun e w' => e = .returned (.int .i64 0) ∧ Out p (p + 1) w w' ∧ BadT w' p s j := by
  have HS := (show Hid _ from h); clear h
  go_enter Try.func35, Try.ntmps35
  go_wp2_with fail
  go_loopw [3] (fun n wr => n = .int .i64 0 ∧ wr = w) (fun _ wr => 0)
  case atStart => exact ⟨rfl, by trivial⟩
  case round =>
    obtain ⟨rfl, rfl⟩ := hrel
    have HM := (show Hid _ from fun n => more_bad (wr.drewN n) (p := p) (j := j) (s := s) (by obtain ⟨h1, a, h2, h3⟩ := HS.out; exact ⟨h1, a, h2, h3.keep rfl⟩))
    go_wp2_with fail
    go_quiet ((go_at_call 47; refine Calls.quiet_of (HM.out _)))
    go_wp2_with fail
    go_ret
    obtain ⟨h1, a, h2, h3⟩ := HS.out
    exact ⟨rfl, Out.drewN (Out.refl _ _ _) _, h1, a, h2, RdB.keep (w := wr) h3 rfl⟩
end Go.Proofs.Ythmdoplickpmaah
