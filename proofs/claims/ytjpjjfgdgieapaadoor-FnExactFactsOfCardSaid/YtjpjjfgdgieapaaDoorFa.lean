import Derived.Test.YtjpjjfgdgieapaaDoorAl
/-! The program: whole, begins, start. -/
namespace Go.Proofs.YtjpjjfgdgieapaaDoor
open Go.RowKit Go.Deep
set_option linter.unusedVariables false
set_option maxRecDepth 100000
set_option linter.unusedSimpArgs false

/-- Those ahead of which there are only ones that make the empty word. -/
def bgn (L : Nat → Int) : List Int → List Int
  | [] => []
  | x :: r => x :: (if L x.toNat = 0 then bgn L r else [])
theorem bgn_take (L : Nat → Int) : ∀ (r : List Int) (j : Nat) (hj : j < r.length), (∀ i (hi : i < r.length), i < j → L r[i].toNat = 0) → L r[j].toNat ≠ 0 → bgn L r = r.take (j + 1) := by
  intro r
  induction r with
  | nil => intro j hj; exact absurd hj (Nat.not_lt_zero _)
  | cons x r ih =>
    intro j hj h hn
    cases j with
    | zero => simp only [List.getElem_cons_zero] at hn; simp [bgn, hn]
    | succ j =>
      have h0 := h 0 (by simp) (by omega)
      simp only [List.getElem_cons_zero] at h0
      simp only [bgn, h0, if_true, List.take_succ_cons, List.cons.injEq, true_and]
      exact ih j (by simpa using hj) (fun i hi hij => by have := h (i + 1) (by simpa using hi) (by omega); simpa using this) (by simpa using hn)
theorem bgn_all (L : Nat → Int) : ∀ (r : List Int), (∀ i (hi : i < r.length), L r[i].toNat = 0) → bgn L r = r := by
  intro r
  induction r with
  | nil => intro _; rfl
  | cons x r ih =>
    intro h
    have h0 := h 0 (by simp)
    simp only [List.getElem_cons_zero] at h0
    simp only [bgn, h0, if_true, List.cons.injEq, true_and]
    exact ih (fun i hi => by have := h (i + 1) (by simpa using hi); simpa using this)
theorem bgn_sub (L : Nat → Int) : ∀ (r : List Int), (bgn L r).length ≤ r.length ∧ ∀ x ∈ bgn L r, x ∈ r := by
  intro r
  induction r with
  | nil => exact ⟨Nat.le_refl _, fun x hx => hx⟩
  | cons x r ih =>
    unfold bgn
    split
    · exact ⟨by simp only [List.length_cons]; omega, fun y hy => by
        rcases List.mem_cons.1 hy with rfl | hy
        · simp
        · exact List.mem_cons_of_mem _ (ih.2 y hy)⟩
    · exact ⟨by simp, fun y hy => by simp at hy; simp [hy]⟩
theorem bgn_mem (L : Nat → Int) : ∀ (r : List Int) (x : Int), x ∈ bgn L r ↔ ∃ i, ∃ hi : i < r.length, r[i] = x ∧ ∀ j (hj : j < r.length), j < i → L r[j].toNat = 0 := by
  intro r
  induction r with
  | nil => intro x; simp [bgn]
  | cons y r ih =>
    intro x
    unfold bgn
    constructor
    · intro h
      rcases List.mem_cons.1 h with rfl | h
      · exact ⟨0, by simp, rfl, fun j hj h0 => absurd h0 (Nat.not_lt_zero _)⟩
      · split at h
        · rename_i h0
          obtain ⟨i, hi, e, hz⟩ := (ih x).1 h
          refine ⟨i + 1, by simpa using hi, by simpa using e, fun j hj hji => ?_⟩
          cases j with
          | zero => simpa using h0
          | succ j => have := hz j (by simpa using hj) (by omega); simpa using this
        · simp at h
    · rintro ⟨i, hi, e, hz⟩
      cases i with
      | zero => simp only [List.getElem_cons_zero] at e; simp [e]
      | succ i =>
        have h0 := hz 0 (by simp) (by omega)
        simp only [List.getElem_cons_zero] at h0
        rw [if_pos h0]
        refine List.mem_cons_of_mem _ ((ih x).2 ⟨i, by simpa using hi, by simpa using e, fun j hj hji => ?_⟩)
        have := hz (j + 1) (by simpa using hj) (by omega)
        simpa using this
def whl (L : Nat → Int) (r : List Int) : List Int := r
theorem whl_sub (L : Nat → Int) (r : List Int) : (whl L r).length ≤ r.length ∧ ∀ x ∈ whl L r, x ∈ r := ⟨Nat.le_refl _, fun x hx => hx⟩
theorem Ints.take {w : World} {S : Nat → Prop} {l : List Int} {a : Option Addr} {n cap k : Nat} (h : Ints w S l (.slice a n cap)) (hk : k ≤ l.length) : Ints w S (l.take k) (.slice a k cap) := by
  obtain ⟨a', cap', b, off, e, hc, hm, ha, hcell⟩ := h
  simp only [Value.slice.injEq] at e
  obtain ⟨rfl, rfl, rfl⟩ := e
  refine ⟨a, cap, b, off, by simp [Nat.min_eq_left hk], by rw [List.length_take]; omega, hm, fun h0 => ha (by rw [List.length_take] at h0; omega), fun i hi => ?_⟩
  rw [List.length_take] at hi
  rw [List.getElem_take]
  exact hcell i (by omega)
theorem whole_any (b0 : Nat) (w : World) (hb0 : b0 < w.heap.size) (g b : Nat) (v0 v1 vo v3 : Value) (L r : List Int) (v : Value) (h : St w g b v0 v1 vo v3 L) (hr : Ints w (fun c => c ≠ b0) r v) (hin : ∀ i (hi : i < r.length), 0 ≤ r[i] ∧ r[i] < L.length) (hlen : r.length ≤ 1048576) (hLl : L.length ≤ 1048576) :
    Calls Tryd.prog 65 #[v] w fun e w' => ∃ v', e = .returned v' ∧ Below w.heap.size w w' ∧ Ints w' (fun c => c ≠ b0) (whl (Lf L) r) v' := by
  have HI0 := (show Hid _ from hr); clear hr
  go_enter Tryd.func65, Tryd.ntmps65
  go_wp2_with fail
  go_ret
  exact ⟨v, rfl, Below.refl _ _, HI0.out⟩
theorem start_any (w : World) (g b : Nat) (v0 a0 : Value) (n0 c0 : Nat) (ad : Option Addr) (v1 vo v3 : Value) (L : List Int) (hv : v0 = .slice ad n0 c0) (h : St w g b v0 v1 vo v3 L) :
    Calls Tryd.prog 66 #[.pointer (some ⟨g, 0, none⟩)] w fun e w' => e = .returned (.int .i64 (n0 : Nat)) ∧ w' = w := by
  subst hv
  have T0 : w.cell? ⟨g, 0, none⟩ = some (.slice ad n0 c0) := h.box.cell 0 (by simp)
  clear h
  go_enter Tryd.func66, Tryd.ntmps66
  go_wp2_with fail
  go_ret
  exact ⟨rfl, rfl⟩
set_option maxHeartbeats 3200000 in
theorem begins_any (b0 : Nat) (w : World) (hb0 : b0 < w.heap.size) (g b : Nat) (v0 v1 vo v3 : Value) (L r : List Int) (v : Value) (h : St w g b v0 v1 vo v3 L) (hr : Ints w (fun c => c ≠ b0) r v) (hin : ∀ i (hi : i < r.length), 0 ≤ r[i] ∧ r[i] < L.length) (hlen : r.length ≤ 1048576) (hLl : L.length ≤ 1048576) :
    Calls Tryd.prog 68 #[.pointer (some ⟨g, 0, none⟩), v] w fun e w' => ∃ v', e = .returned v' ∧ Below w.heap.size w w' ∧ Ints w' (fun c => c ≠ b0) (bgn (Lf L) r) v' := by
  have HI0 := (show Hid _ from hr)
  obtain ⟨a, cap, bb, off, rfl, hc, hm, ha, hcell⟩ := hr
  have HC := (show Hid _ from hcell); clear hcell
  have HA := (show Hid _ from ha); clear ha
  have HI := (show Hid _ from hin); clear hin
  have T4 : w.cell? ⟨g, 4, none⟩ = some (.slice (some ⟨b, 0, none⟩) L.length L.length) := h.box.cell 4 (by simp)
  have HS := (show Hid _ from h); clear h
  unfold maxLen at hm
  go_enter Tryd.func68, Tryd.ntmps68
  go_wp2_with fail
  go_loopw [9] (fun i wr => ∃ j : Nat, i = .int .i64 j ∧ j ≤ r.length ∧ wr = w ∧ Hid (∀ i (hi : i < r.length), i < j → Lf L r[i].toNat = 0)) (fun i _ => r.length - (intOf i).toNat)
  case atStart => exact ⟨0, rfl, Nat.zero_le _, rfl, fun i hi h0 => absurd h0 (Nat.not_lt_zero _)⟩
  case round =>
    obtain ⟨j, rfl, hj, hw, HJ⟩ := hrel
    obtain rfl : w = wr := hw.symm
    clear hw
    by_cases hlt : j < r.length
    · have hlt' := hlt
      obtain ⟨rfl, _⟩ := HA.out (by omega)
      have c0 := HC.out j hlt'
      obtain ⟨i1, i2⟩ := HI.out j hlt'
      have hbt := bgn_take (Lf L) r j hlt' HJ.out
      obtain ⟨x, hx⟩ : ∃ x : Nat, r[j] = x := ⟨r[j].toNat, by omega⟩
      rw [hx] at i1 i2 c0 hbt
      have hxl : x < L.length := by omega
      have d0 := HS.out.cell x hxl
      have hlf := Lf_lt hxl
      by_cases e : L[x] = 0
      · rw [e] at d0
        have HN := (show Hid (∀ i (hi : i < r.length), i < j + 1 → Lf L r[i].toNat = 0) from fun i hi h1 => by
          by_cases h2 : i < j
          · exact HJ.out i hi h2
          · obtain rfl : i = j := by omega
            rw [hx, Int.toNat_natCast, hlf, e])
        clear HJ hlf e hbt
        go_wp2_with fail
        exact ⟨⟨j + 1, by go_num, by omega, by first | rfl | trivial, HN⟩, by simp [intOf]; omega⟩
      · have HN := (show Hid (Ints w (fun c => c ≠ b0) (bgn (Lf L) r) (.slice (some ⟨bb, off, none⟩) (j + 1) cap)) from by
          show Ints w (fun c => c ≠ b0) (bgn (Lf L) r) _
          rw [hbt (by rw [Int.toNat_natCast, hlf]; exact e)]
          exact Ints.take HI0.out (by omega))
        have e' : (L[x] != 0) = true := by simp [e]
        have e'' : (L[x] == 0) = false := by simp [e]
        clear HJ hlf hbt
        generalize L[x] = Lx at *
        have hwr : IntKind.i64.wrap ((j : Int) + 1) = (j : Int) + 1 := by simp [IntKind.wrap, IntKind.bits, IntKind.signed]; omega
        have hcap : j + 1 ≤ cap := by omega
        go_wp2_with fail
        go_ret
        exact ⟨_, rfl, Below.refl _ _, HN.out⟩
    · have HN := (show Hid (Ints w (fun c => c ≠ b0) (bgn (Lf L) r) (.slice a r.length cap)) from by
        show Ints w (fun c => c ≠ b0) (bgn (Lf L) r) _
        rw [bgn_all (Lf L) r (fun i hi => HJ.out i hi (by omega))]
        exact HI0.out)
      clear HJ
      go_wp2_with fail
      go_ret
      exact ⟨_, rfl, Below.refl _ _, HN.out⟩
end Go.Proofs.YtjpjjfgdgieapaaDoor
