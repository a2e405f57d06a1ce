import Derived.Test.YtpbpmhgoppbfnaaLs
/-! The program: isShorter, isTerm. -/
namespace Go.Proofs.Ytpbpmhgoppbfnaa
open Go.RowKit Go.Deep
set_option linter.unusedVariables false
set_option maxRecDepth 100000
set_option linter.unusedSimpArgs false

/-- A Prod in numbers. -/
def pN (p : Pd) : Nat × List Nat := (p.left.toNat, nats p.right)
theorem lnew_bad {L : Nat → Int} {p : Nat × List Nat} (h : lof L p.2 = -1) : lnew L p = false := by unfold lnew; rw [h]; simp
theorem lnew_old {L : Nat → Int} {p : Nat × List Nat} (h : ¬ lof L p.2 = -1) (h1 : ¬ L p.1 = -1) (h2 : L p.1 ≤ lof L p.2) : lnew L p = false := by unfold lnew; simp [h, h1, h2]
theorem lnew_yes {L : Nat → Int} {p : Nat × List Nat} (h : ¬ lof L p.2 = -1) (h1 : L p.1 = -1 ∨ ¬ L p.1 ≤ lof L p.2) : lnew L p = true := by
  unfold lnew
  rcases h1 with h1 | h1
  · simp [h, h1]
  · have : ¬ L p.1 = -1 ∨ True := .inr trivial
    simp only [Bool.not_eq_true', Bool.or_eq_false_iff, beq_eq_false_iff_ne, ne_eq, h, not_false_eq_true, true_and, Bool.and_eq_false_iff, decide_eq_false_iff_not]
    exact .inr h1
theorem bel_drewN (B : Nat) (w : World) (n : Nat) : Below B w (w.drewN n) := ⟨rfl, rfl, rfl, Nat.le_refl _, fun _ _ => rfl⟩
theorem lof_range {L : Nat → Int} (hlo : ∀ x, -1 ≤ L x) (r : List Nat) : -1 ≤ lof L r ∧ lof L r ≤ 1000 := by
  have key : ∀ r s, lsum L r = some s → 0 ≤ s := by
    intro r
    induction r with
    | nil => intro s h; simp only [lsum, Option.some.injEq] at h; omega
    | cons x r ih =>
      intro s h
      rw [lsum] at h
      by_cases e : L x = -1
      · rw [if_pos e] at h; cases h
      · rw [if_neg e] at h
        obtain ⟨t, ht, rfl⟩ := Option.map_eq_some_iff.1 h
        have := ih t ht
        have := hlo x
        omega
  unfold lof
  cases hs : lsum L r with
  | none => simp
  | some s => have := key r s hs; simp only; omega

set_option maxHeartbeats 3200000 in
theorem shorter_any {S : Nat → Prop} (w : World) (g b : Nat) (v0 v1 vo v3 : Value) (L : List Int) (p : Pd) (v : Value) (h : St w g b v0 v1 vo v3 L) (hr : Ints w S p.right v) (hin : ∀ i (hi : i < p.right.length), 0 ≤ p.right[i] ∧ p.right[i] < L.length) (hl0 : 0 ≤ p.left) (hl1 : p.left < L.length) (hlo : ∀ x, -1 ≤ Lf L x) (hto : ∀ x, Lf L x ≤ 1000) (hlen : p.right.length ≤ 1048576) (hLl : L.length ≤ 1048576) :
    Calls Try.prog 66 #[.pointer (some ⟨g, 0, none⟩), .agg #[.int .i64 p.left, v, .string p.label, .int .i64 p.lev, .int .i64 p.asc]] w fun e w' => e = .returned (.bool (lnew (Lf L) (pN p))) ∧ St w' g b v0 v1 vo v3 (if lnew (Lf L) (pN p) then L.set p.left.toNat (lof (Lf L) (nats p.right)) else L) ∧ Bt b w w' := by
  obtain ⟨x, hx⟩ : ∃ x : Nat, p.left = x := ⟨p.left.toNat, by omega⟩
  have hpN : pN p = (x, nats p.right) := by unfold pN; rw [hx]; rfl
  have hxl : x < L.length := by omega
  obtain ⟨ai, ci, ei, _⟩ := hr.form
  have hri := hr
  rw [ei] at hri
  subst ei
  have hb0 := bel_alloc w (.cells #[.int .i64 x, .slice ai p.right.length ci, .string p.label, .int .i64 p.lev, .int .i64 p.asc] 57)
  have HS := (show Hid _ from h.still hb0)
  have HV := (show Hid _ from leastOf_any _ g b v0 v1 vo v3 L p.right _ (h.still hb0) (hri.still hb0) hin hlo hto hlen hLl)
  have HB := (show Hid _ from Bt.of_below (g := b) hb0)
  have d0 := HS.out.cell x hxl
  have T4 : (w.alloc (.cells #[.int .i64 x, .slice ai p.right.length ci, .string p.label, .int .i64 p.lev, .int .i64 p.asc] 57)).cell? ⟨g, 4, none⟩ = some (.slice (some ⟨b, 0, none⟩) L.length L.length) := HS.out.box.cell 4 (by simp)
  have f0 : (w.alloc (.cells #[.int .i64 x, .slice ai p.right.length ci, .string p.label, .int .i64 p.lev, .int .i64 p.asc] 57)).frozen? ⟨b, x, none⟩ = false := World.rowIs.frozen HS.out.row x
  obtain ⟨hR1, hR2⟩ := lof_range hlo (nats p.right)
  have hlx := hlo x
  have hf := Lf_lt hxl
  rw [hf] at hlx
  rw [hx, hpN]
  have hq0 : (Int.toNat (x : Int)) = x := Int.toNat_natCast x
  rw [hq0]
  clear h hri hr hin hlo hto hb0 hpN hq0
  generalize hRR : lof (Lf L) (nats p.right) = R at *
  by_cases e1 : R = -1
  · have HN := (show Hid _ from lnew_bad (L := Lf L) (p := (x, nats p.right)) (by rw [hRR]; exact e1))
    rw [HN.out]
    have HF := (show Hid _ from HS.out)
    subst e1
    clear hRR hf
    go_enter Try.func66, Try.ntmps66
    go_wp2_with fail
    refine Calls.mono HV.out ?_
    rintro e w1 ⟨rfl, rfl⟩
    go_wp2_with fail
    go_quiet (fail)
    go_wp2_with fail
    go_ret
    exact ⟨rfl, HF.out.still (bel_drewN _ _ _), HB.out.trans (Bt.of_below (bel_drewN _ _ _))⟩
  have e1' : (R == -1) = false := by simp [e1]
  by_cases e2 : ¬ L[x] = -1 ∧ L[x] ≤ R
  · have HN := (show Hid _ from lnew_old (L := Lf L) (p := (x, nats p.right)) (by rw [hRR]; exact e1) (by rw [hf]; exact e2.1) (by rw [hf, hRR]; exact e2.2))
    rw [HN.out]
    have HF := (show Hid _ from HS.out)
    have k1 : (L[x] != -1) = true := by simp [e2.1]
    have k2 : decide (L[x] ≤ R) = true := by simp [e2.2]
    clear hRR hf
    generalize L[x] = Lx at *
    go_enter Try.func66, Try.ntmps66
    go_wp2_with fail
    refine Calls.mono HV.out ?_
    rintro e w1 ⟨rfl, rfl⟩
    go_wp2_with fail
    go_quiet (fail)
    go_wp2_with fail
    go_ret
    exact ⟨rfl, HF.out.still (bel_drewN _ _ _), HB.out.trans (Bt.of_below (bel_drewN _ _ _))⟩
  · have HN := (show Hid _ from lnew_yes (L := Lf L) (p := (x, nats p.right)) (by rw [hRR]; exact e1) (by rw [hf, hRR]; by_cases h : L[x] = -1; exact .inl h; exact .inr (fun k => e2 ⟨h, k⟩)))
    rw [HN.out]
    have HF := (show Hid _ from HS.out)
    clear hRR hf
    by_cases e3 : L[x] = -1
    · have k1 : (L[x] != -1) = false := by simp [e3]
      rw [e3] at d0
      clear e2
      go_enter Try.func66, Try.ntmps66
      go_wp2_with fail
      refine Calls.mono HV.out ?_
      rintro e w1 ⟨rfl, rfl⟩
      go_wp2_with fail
      go_quiet (fail)
      go_wp2_with fail
      go_region
      all_goals
        go_wp2_with fail
        go_ret
        refine ⟨rfl, ?_, ?_⟩
        · exact (HF.out.still (bel_drewN _ _ (nq + 1))).set x hxl R
        · exact (HB.out.trans (Bt.of_below (bel_drewN _ _ (nq + 1)))).trans (Bt.set _ _)
    · have k1 : (L[x] != -1) = true := by simp [e3]
      have k2 : decide (L[x] ≤ R) = false := by simp; omega
      clear e2
      generalize L[x] = Lx at *
      go_enter Try.func66, Try.ntmps66
      go_wp2_with fail
      refine Calls.mono HV.out ?_
      rintro e w1 ⟨rfl, rfl⟩
      go_wp2_with fail
      go_quiet (fail)
      go_wp2_with fail
      go_region
      all_goals
        go_wp2_with fail
        go_ret
        refine ⟨rfl, ?_, ?_⟩
        · exact (HF.out.still (bel_drewN _ _ (nq + 1))).set x hxl R
        · exact (HB.out.trans (Bt.of_below (bel_drewN _ _ (nq + 1)))).trans (Bt.set _ _)
theorem isTerm_any {S : Nat → Prop} (w : World) (g b : Nat) (d : Bn) (a0 : Option Addr) (c0 : Nat) (v1 vo v3 : Value) (L : List Int) (x : Nat) (h : St w g b (.slice a0 d.terms.length c0) v1 vo v3 L) :
    Calls Try.prog 64 #[.pointer (some ⟨g, 0, none⟩), .int .i64 x] w fun e w' => e = .returned (.bool (decide (x < d.terms.length))) ∧ w' = w := by
  have T0 : w.cell? ⟨g, 0, none⟩ = some (.slice a0 d.terms.length c0) := h.box.cell 0 (by simp)
  clear h
  go_enter Try.func64, Try.ntmps64
  go_wp2_with fail
  go_ret
  exact ⟨ret_bool (by simp), rfl⟩
end Go.Proofs.Ytpbpmhgoppbfnaa
