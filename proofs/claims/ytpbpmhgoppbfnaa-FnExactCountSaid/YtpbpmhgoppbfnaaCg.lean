import Derived.Test.YtpbpmhgoppbfnaaCf
/-! The program: a question of the rest of a Right. -/
namespace Go.Proofs.Ytpbpmhgoppbfnaa
open Go.RowKit Go.Deep
set_option linter.unusedVariables false
set_option maxRecDepth 100000
set_option linter.unusedSimpArgs false

theorem LF_one (V : Nat → Nat → Nat → Nat) (y i j : Nat) (hij : i ≤ j) : LF V [y] i j = V y i j := by
  show sm (fun t => V y i (i + t) * (if i + t = j then 1 else 0)) (j + 1 - i) = _
  obtain ⟨k, rfl⟩ : ∃ k, j = i + k := ⟨j - i, by omega⟩
  rw [show i + k + 1 - i = k + 1 by omega]
  show sm _ k + _ = _
  rw [sm_zero (fun t ht => by rw [if_neg (by omega), Nat.mul_zero])]
  simp
/-- The rest of a row from a place on. -/
theorem Ints.dropAt {w : World} {S : Nat → Prop} {l : List Int} {a : Option Addr} {cap : Nat} (h : Ints w S l (.slice a l.length cap)) (p : Nat) (hp : p ≤ l.length) (a' : Option Addr) (ha : ∀ b off, a = some ⟨b, off, none⟩ → p < l.length → a' = some ⟨b, off + p, none⟩) : Ints w S (l.drop p) (.slice a' (l.length - p) (cap - p)) := by
  obtain ⟨a1, c1, b, off, hv, hc, hm, h1, h2⟩ := h
  simp only [Value.slice.injEq] at hv
  obtain ⟨rfl, _, rfl⟩ := hv
  refine ⟨a', cap - p, b, off + p, by simp, by simp; omega, by omega, fun h0 => ?_, fun q hq => ?_⟩
  · simp at h0
    obtain ⟨e1, e2⟩ := h1 (by omega)
    exact ⟨ha _ _ e1 (by omega), e2⟩
  · simp at hq
    have := h2 (p + q) (by omega)
    simp only [List.getElem_drop]
    rw [show off + p + q = off + (p + q) by omega]
    exact this
theorem Ints.none0 {w : World} {S : Nat → Prop} {l : List Int} {a : Option Addr} {n cap : Nat} (hn : n = 0) (hl : l.length = 0) (hc : cap ≤ 9223372036854775807 := by omega) : Ints w S l (.slice a n cap) := by
  have e := List.eq_nil_of_length_eq_zero hl
  subst e hn
  exact ⟨a, cap, 0, 0, rfl, Nat.zero_le _, (by unfold maxLen; omega), fun h => absurd h (Nat.not_lt_zero _), fun i hi => absurd hi (Nat.not_lt_zero _)⟩
set_option maxHeartbeats 1600000 in
theorem rest84 {S : Nat → Prop} (c : Cx) (hc : CxOK S c) (k p i j : Nat) (hk : k < c.d.prods.length) (hp : p ≤ c.d.prods[k].right.length) (hij : i ≤ j) (hj : j ≤ c.W.length)
    (hP1 : ∀ y, (pAt (bps c.d) k).2.drop p = [y] → PS c y i j)
    (hPS : ∀ y r, (pAt (bps c.d) k).2.drop p = y :: r → ∀ s, Qs c.L y r (j - i) s → PS c y i (i + s))
    (hPR : ∀ y r, (pAt (bps c.d) k).2.drop p = y :: r → ∀ s, Qs c.L y r (j - i) s → c.V y i (i + s) ≠ 0 → PR c k (p + 1) (i + s) j) : PR c k p i j := by
  intro w hw
  have hnt := hc.hok.nt
  have hnn := hc.hok.nn
  have hnp := hc.hok.np
  have hwl := hc.wlen
  have hrl := hc.hok.len k hk
  have hpa : (pAt (bps c.d) k).2 = nats c.d.prods[k].right := by rw [pAt_bps c.d hk]; rfl
  obtain ⟨w5, hw5⟩ : ∃ w5, ((((w.alloc (.cells #[.pointer (some ⟨c.gc, 0, none⟩)] 81)).alloc (.cells #[.int .i64 k] 3)).alloc (.cells #[.int .i64 p] 3)).alloc (.cells #[.int .i64 i] 3)).alloc (.cells #[.int .i64 j] 3) = w5 := ⟨_, rfl⟩
  have hB5 : Below w.heap.size w w5 := by rw [← hw5]; exact ((((bel_alloc _ _).alloc (by simp) _).alloc (by simp; omega) _).alloc (by simp; omega) _).alloc (by simp; omega) _
  have HW5 := (show Hid _ from hw.still hB5)
  have HZ := (show Hid (c.bn < w.heap.size ∧ c.br < w.heap.size ∧ w5.heap.size = w.heap.size + 5) from ⟨hw.nons.lt, hw.rests.lt, by rw [← hw5]; simp⟩)
  have HCE := (show Hid (∀ wq, Below w5.heap.size w5 wq → (wq.cell? ⟨w.heap.size, 0, none⟩ = some (.pointer (some ⟨c.gc, 0, none⟩)) ∧ wq.cell? ⟨w.heap.size + 1, 0, none⟩ = some (.int .i64 k) ∧ wq.cell? ⟨w.heap.size + 1 + 1, 0, none⟩ = some (.int .i64 p) ∧ wq.cell? ⟨w.heap.size + 1 + 1 + 1, 0, none⟩ = some (.int .i64 i) ∧ wq.cell? ⟨w.heap.size + 1 + 1 + 1 + 1, 0, none⟩ = some (.int .i64 j)) ∧ WC c wq) from fun wq hb => by
    have h0 : w5.cell? ⟨w.heap.size, 0, none⟩ = some (.pointer (some ⟨c.gc, 0, none⟩)) ∧ w5.cell? ⟨w.heap.size + 1, 0, none⟩ = some (.int .i64 k) ∧ w5.cell? ⟨w.heap.size + 1 + 1, 0, none⟩ = some (.int .i64 p) ∧ w5.cell? ⟨w.heap.size + 1 + 1 + 1, 0, none⟩ = some (.int .i64 i) ∧ w5.cell? ⟨w.heap.size + 1 + 1 + 1 + 1, 0, none⟩ = some (.int .i64 j) := by rw [← hw5]; simp [go_sem]
    exact ⟨⟨(hb.cell (lt_of_cell h0.1)).trans h0.1, (hb.cell (lt_of_cell h0.2.1)).trans h0.2.1, (hb.cell (lt_of_cell h0.2.2.1)).trans h0.2.2.1, (hb.cell (lt_of_cell h0.2.2.2.1)).trans h0.2.2.2.1, (hb.cell (lt_of_cell h0.2.2.2.2)).trans h0.2.2.2.2⟩, HW5.out.still hb⟩)
  have HKB := (show Hid _ from hB5)
  obtain ⟨a, cap, b, off, sv, hv3, hcc, hm3, ha, hcell, hr⟩ := hc.prods
  obtain ⟨ha, hSb⟩ := ha (by omega)
  subst ha
  obtain ⟨_, c1, _⟩ := hcell k hk
  have hri := hr k hk
  obtain ⟨ai, ci, ei, hlm⟩ := hri.form
  rw [ei] at c1 hri
  have hcr : c.d.prods[k].right.length ≤ ci := by
    obtain ⟨_, _, _, _, hv, h1, _⟩ := hri
    simp only [Value.slice.injEq] at hv
    omega
  have hcm : ci ≤ 9223372036854775807 := by
    obtain ⟨_, _, _, _, hv, _, h2, _⟩ := hri
    simp only [Value.slice.injEq] at hv
    unfold maxLen at h2
    omega
  have HRI := (show Hid _ from hri)
  have HC5 := (show Hid (∀ wq, Below w5.heap.size w5 wq → wq.cell? ⟨w.heap.size, 0, none⟩ = some (.pointer (some ⟨c.gc, 0, none⟩)) ∧ wq.cell? ⟨c.gc, 0, none⟩ = some (.pointer (some ⟨c.gs, 0, none⟩)) ∧ wq.cell? ⟨c.gs, 3, none⟩ = some (.slice (some ⟨b, off, none⟩) c.d.prods.length cap) ∧ wq.cell? ⟨w.heap.size + 1, 0, none⟩ = some (.int .i64 k) ∧ wq.cell? ⟨b, off + k * 5 + 1, none⟩ = some (.slice ai c.d.prods[k].right.length ci) ∧ wq.cell? ⟨w.heap.size + 1 + 1, 0, none⟩ = some (.int .i64 p)) from fun wq hb => by
    obtain ⟨⟨f0, f1, f2, f3, f4⟩, hwc⟩ := HCE.out wq hb
    refine ⟨f0, hwc.box.cell 0 (by simp), ?_, f1, (hwc.bel.cell (lt_of_cell c1)).trans c1, f2⟩
    rw [← hv3]
    exact hwc.st.box.cell 3 (by simp))
  unfold maxLen at hm3 hlm
  clear hcell hr hri ei c1 hw hB5
  have HP1 := (show Hid _ from hP1)
  have HPS := (show Hid _ from hPS)
  have HPR := (show Hid _ from hPR)
  have HCX := (show Hid _ from hc)
  have HPA := (show Hid _ from hpa)
  clear hP1 hPS hPR hpa hSb
  generalize hPd : c.d.prods[k].right = R at *
  have HPD := (show Hid _ from hPd); clear hPd
  go_enter Try.func84, Try.ntmps84
  go_wp2_with fail
  go_cut [11] from 12 to 25 (fun v wx => v = .pointer (some ⟨w.heap.size + 5, 0, none⟩) ∧ Hid (∃ ar cr, Below w5.heap.size w5 wx ∧ w.heap.size + 5 < wx.heap.size ∧ wx.cell? ⟨w.heap.size + 5, 0, none⟩ = some (.slice ar (R.length - p) cr) ∧ Ints c.W0 S (R.drop p) (.slice ar (R.length - p) cr)))
  case first =>
    have hbd := (Below.refl w5.heap.size w5).drew
    have hS0 := HC5.out _ hbd
    have hS1 := HC5.out _ (hbd.alloc (Nat.le_refl _) (.cells #[.slice none 0 0] 28))
    have HS2 := (show Hid (∀ v : Value, _) from fun v => HC5.out _ ((hbd.alloc (Nat.le_refl _) (.cells #[v] 28))))
    have hz := HZ.out
    have hc5 : ∀ v, (w5.alloc (.cells #[v] 28)).drew.cell? ⟨w.heap.size + 5, 0, none⟩ = some v := fun v => by rw [← hz.2.2]; exact box1 w5 v 28
    cases ai with
    | none =>
      have hR0 : R.length = 0 := by
        apply Decidable.byContradiction
        intro h
        obtain ⟨_, _, _, _, hv, _, _, h1, _⟩ := HRI.out
        simp only [Value.slice.injEq] at hv
        have := (h1 (by omega)).1
        rw [this] at hv
        cases hv.1
      have HR0 := (show Hid _ from hR0); clear hR0
      go_region_held3 (fun w' => w'.cell? ⟨w.heap.size, 0, none⟩ = some (.pointer (some ⟨c.gc, 0, none⟩)) ∧ w'.cell? ⟨c.gc, 0, none⟩ = some (.pointer (some ⟨c.gs, 0, none⟩)) ∧ w'.cell? ⟨c.gs, 3, none⟩ = some (.slice (some ⟨b, off, none⟩) c.d.prods.length cap) ∧ w'.cell? ⟨w.heap.size + 1, 0, none⟩ = some (.int .i64 k) ∧ w'.cell? ⟨b, off + k * 5 + 1, none⟩ = some (.slice none R.length ci) ∧ w'.cell? ⟨w.heap.size + 1 + 1, 0, none⟩ = some (.int .i64 p)) (first | exact hS0 | exact hS1 | exact HS2.out _) (fail)
      all_goals go_wp2_with fail
      all_goals go_meet
      all_goals refine ⟨rfl, _, _, ((Below.refl _ _).alloc (Nat.le_refl _) _).drew, by (show w.heap.size + 5 < (w5.alloc _).heap.size); (rw [World.size_alloc]); omega, hc5 _, ?_⟩
      all_goals first
        | exact Ints.none0 (by omega) (by simp; omega)
        | exact Ints.none0 (by have := HR0.out; omega) (by have := HR0.out; simp; omega)
        | exact Ints.dropAt HRI.out p hp _ (fun b9 o9 e9 _ => by cases e9; simp [Addr.add])
    | some ad =>
      obtain ⟨bi, oi, spi⟩ := ad
      go_region_held3 (fun w' => w'.cell? ⟨w.heap.size, 0, none⟩ = some (.pointer (some ⟨c.gc, 0, none⟩)) ∧ w'.cell? ⟨c.gc, 0, none⟩ = some (.pointer (some ⟨c.gs, 0, none⟩)) ∧ w'.cell? ⟨c.gs, 3, none⟩ = some (.slice (some ⟨b, off, none⟩) c.d.prods.length cap) ∧ w'.cell? ⟨w.heap.size + 1, 0, none⟩ = some (.int .i64 k) ∧ w'.cell? ⟨b, off + k * 5 + 1, none⟩ = some (.slice (some ⟨bi, oi, spi⟩) R.length ci) ∧ w'.cell? ⟨w.heap.size + 1 + 1, 0, none⟩ = some (.int .i64 p)) (first | exact hS0 | exact hS1 | exact HS2.out _) (fail)
      all_goals go_wp2_with fail
      all_goals go_meet
      all_goals refine ⟨rfl, _, _, ((Below.refl _ _).alloc (Nat.le_refl _) _).drew, by (show w.heap.size + 5 < (w5.alloc _).heap.size); (rw [World.size_alloc]); omega, hc5 _, ?_⟩
      all_goals first
        | exact Ints.none0 (by omega) (by simp; omega)
        | exact Ints.none0 (by have := HR0.out; omega) (by have := HR0.out; simp; omega)
        | exact Ints.dropAt HRI.out p hp _ (fun b9 o9 e9 _ => by cases e9; simp [Addr.add])
  case rest =>
    obtain ⟨rfl, HX⟩ := hcut
    obtain ⟨ar, cr, hbx, hsz, hcx, hin⟩ := HX.out
    have HBX := (show Hid _ from hbx)
    have HIN := (show Hid _ from hin)
    have HCX2 := (show Hid (∀ wq, Below wc.heap.size wc wq → (wq.cell? ⟨w.heap.size, 0, none⟩ = some (.pointer (some ⟨c.gc, 0, none⟩)) ∧ wq.cell? ⟨w.heap.size + 1, 0, none⟩ = some (.int .i64 k) ∧ wq.cell? ⟨w.heap.size + 1 + 1, 0, none⟩ = some (.int .i64 p) ∧ wq.cell? ⟨w.heap.size + 1 + 1 + 1, 0, none⟩ = some (.int .i64 i) ∧ wq.cell? ⟨w.heap.size + 1 + 1 + 1 + 1, 0, none⟩ = some (.int .i64 j) ∧ wq.cell? ⟨w.heap.size + 5, 0, none⟩ = some (.slice ar (R.length - p) cr)) ∧ WC c wq ∧ Kq c.bn c.br w wq) from fun wq hb => by
      have hb2 := bel_trans HBX.out hb
      obtain ⟨⟨f0, f1, f2, f3, f4⟩, hwc⟩ := HCE.out wq hb2
      exact ⟨⟨f0, f1, f2, f3, f4, (hb.cell (lt_of_cell hcx)).trans hcx⟩, hwc, Kq.of_below (bel_trans HKB.out hb2)⟩)
    have hlr : (nats (R.drop p)).length = R.length - p := by simp [nats]
    have hdn : (pAt (bps c.d) k).2.drop p = nats (R.drop p) := by rw [HPA.out]; simp [nats, List.map_drop]
    have HDN := (show Hid _ from hdn)
    clear HX hin hsz hbx HC5 hdn
    obtain ⟨⟨f0, f1, f2, f3, f4, f5⟩, hwc, hkq⟩ := HCX2.out wc (Below.refl _ _)
    have HWC := (show Hid _ from hwc); clear hwc
    have HKQ := (show Hid _ from hkq); clear hkq
    by_cases hl0 : R.length - p = 0
    · have hnil : R.drop p = [] := List.eq_nil_of_length_eq_zero (by simp; omega)
      have HV := (show Hid (LF c.V (nats (R.drop p)) i j = if i = j then 1 else 0) from (by rw [hnil]; rfl))
      clear hnil
      by_cases hijq : i = j
      · have hd : decide ((i : Int) = (j : Int)) = true := by simp; omega
        have hd' : ((i : Int) == (j : Int)) = true := by simp; omega
        rw [if_pos hijq] at HV
        clear hijq
        go_wp2_with fail
        refine Calls.mono (oneIf_any true wc) ?_
        rintro e w9 ⟨rfl, rfl⟩
        go_wp2_with fail
        go_ret
        exact ⟨by rw [HDN.out, HV.out]; rfl, HWC.out, HKQ.out⟩
      · have hd : decide ((i : Int) = (j : Int)) = false := by simp; omega
        have hd' : ((i : Int) == (j : Int)) = false := by simp; omega
        rw [if_neg hijq] at HV
        clear hijq
        go_wp2_with fail
        refine Calls.mono (oneIf_any false wc) ?_
        rintro e w9 ⟨rfl, rfl⟩
        go_wp2_with fail
        go_ret
        exact ⟨by rw [HDN.out, HV.out]; rfl, HWC.out, HKQ.out⟩
    obtain ⟨y, r, hyr⟩ : ∃ y r, R.drop p = y :: r := by
      cases h : R.drop p with
      | nil => have := congrArg List.length h; simp at this; omega
      | cons y r => exact ⟨y, r, rfl⟩
    have hRp : R[p]? = some y := by
      have := congrArg (·[0]?) hyr
      simpa using this
    have hrr : R.drop (p + 1) = r := by
      have := congrArg (List.drop 1) hyr
      simpa [List.drop_drop, Nat.add_comm] using this
    have hrlen : r.length + 1 = R.length - p := by
      have := congrArg List.length hyr
      simp at this
      omega
    have hinR : ∀ q (hq : q < R.length), 0 ≤ R[q] ∧ R[q] < (c.L.length : Int) := fun q hq => by
      have e1 := HPD.out
      have h1 := HCX.out.hok.right k hk q (by rw [e1]; exact hq)
      have h2 : c.d.prods[k].right[q]'(by rw [e1]; exact hq) = R[q] := by simp [e1]
      rw [h2] at h1
      have h3 := HCX.out.len
      omega
    obtain ⟨hpl, hRpe⟩ := List.getElem?_eq_some_iff.1 hRp
    have hy0 := hinR p hpl
    rw [hRpe] at hy0
    obtain ⟨yn, rfl⟩ : ∃ yn : Nat, y = yn := ⟨y.toNat, by omega⟩
    have hdy : (pAt (bps c.d) k).2.drop p = yn :: nats r := by rw [HDN.out, hyr]; simp [nats]
    have HDY := (show Hid _ from hdy); clear hdy
    have hin2 : Ints c.W0 S (((yn : Nat) : Int) :: r) (.slice ar (R.length - p) cr) := by rw [← hyr]; exact HIN.out
    have HIN2 := (show Hid (Ints c.W0 S (((yn : Nat) : Int) :: r) (.slice ar (R.length - p) cr)) from hin2); clear hin2
    obtain ⟨a9, c9, b9, o9, h9, _, _, h10, h11⟩ := HIN2.out
    simp only [Value.slice.injEq] at h9
    obtain ⟨e3, _, e5⟩ := h9
    obtain ⟨e6, hSb⟩ := h10 (by simp)
    rw [e6] at e3
    subst e3
    have y0 := h11 0 (by simp)
    simp only [List.getElem_cons_zero, Nat.add_zero] at y0
    have HY0 := (show Hid (∀ wq, Below wc.heap.size wc wq → wq.cell? ⟨b9, o9, none⟩ = some (.int .i64 yn)) from fun wq hb => ((HWC.out.bel.trans (hb.mono HWC.out.bel.size)).cell (lt_of_cell y0)).trans y0)
    clear h11 h10 e6 hSb y0 hRp hRpe hyr
    have hbd := (Below.refl wc.heap.size wc).drew
    by_cases hl1 : R.length - p = 1
    · have hr0 : r = [] := List.eq_nil_of_length_eq_zero (by omega)
      subst hr0
      have HPS1 := (show Hid _ from HP1.out yn HDY.out _ (HCX2.out _ hbd).2.1)
      have HV := (show Hid (LF c.V (yn :: nats []) i j = c.V yn i j) from LF_one c.V yn i j hij)
      have hS0 : wc.drew.cell? ⟨w.heap.size, 0, none⟩ = some (.pointer (some ⟨c.gc, 0, none⟩)) ∧ wc.drew.cell? ⟨w.heap.size + 5, 0, none⟩ = some (.slice (some ⟨b9, o9, none⟩) 1 cr) ∧ wc.drew.cell? ⟨b9, o9, none⟩ = some (.int .i64 yn) ∧ wc.drew.cell? ⟨w.heap.size + 1 + 1 + 1, 0, none⟩ = some (.int .i64 i) ∧ wc.drew.cell? ⟨w.heap.size + 1 + 1 + 1 + 1, 0, none⟩ = some (.int .i64 j) := ⟨(HCX2.out _ hbd).1.1, by rw [← hl1]; exact (HCX2.out _ hbd).1.2.2.2.2.2, HY0.out _ hbd, (HCX2.out _ hbd).1.2.2.2.1, (HCX2.out _ hbd).1.2.2.2.2.1⟩
      rw [hl1] at f5
      have hcr1 : 1 ≤ cr := by
        obtain ⟨_, _, _, _, hv, h1, _⟩ := HIN2.out
        simp only [Value.slice.injEq] at hv
        simp at h1
        omega
      have hz := HZ.out
      have HSK := (show Hid (∀ w9, Kq c.bn c.br wc.drew w9 → (w9.cell? ⟨w.heap.size, 0, none⟩ = some (.pointer (some ⟨c.gc, 0, none⟩)) ∧ w9.cell? ⟨w.heap.size + 5, 0, none⟩ = some (.slice (some ⟨b9, o9, none⟩) 1 cr) ∧ w9.cell? ⟨b9, o9, none⟩ = some (.int .i64 yn) ∧ w9.cell? ⟨w.heap.size + 1 + 1 + 1, 0, none⟩ = some (.int .i64 i) ∧ w9.cell? ⟨w.heap.size + 1 + 1 + 1 + 1, 0, none⟩ = some (.int .i64 j)) ∧ Kq c.bn c.br w w9) from fun w9 hk9 => by
        have hb9 : b9 < c.W0.heap.size := by
          obtain ⟨a8, c8, b8, o8, h8, _, _, h10, h11⟩ := HIN2.out
          simp only [Value.slice.injEq] at h8
          obtain ⟨e3, _, _⟩ := h8
          obtain ⟨e6, _⟩ := h10 (by simp)
          rw [e6] at e3
          have h12 := lt_of_cell (h11 0 (by simp))
          cases e3
          exact h12
        have s1 := HCX.out.s1
        have s2 := HCX.out.s2
        exact ⟨⟨hk9.cell hS0.1 (by dsimp only; omega) (by dsimp only; omega), hk9.cell hS0.2.1 (by dsimp only; omega) (by dsimp only; omega), hk9.cell hS0.2.2.1 (by dsimp only; omega) (by dsimp only; omega), hk9.cell hS0.2.2.2.1 (by dsimp only; omega) (by dsimp only; omega), hk9.cell hS0.2.2.2.2 (by dsimp only; omega) (by dsimp only; omega)⟩, (HCX2.out _ hbd).2.2.trans hk9⟩)
      clear hl1 hl0 hrlen hlr hpl hinR hrr e5 hz hy0 hp hcr hcm hrl HIN HIN2 HRI HPD hcx
      go_wp2_with fail
      go_region_held3 (fun w' => w'.cell? ⟨w.heap.size, 0, none⟩ = some (.pointer (some ⟨c.gc, 0, none⟩)) ∧ w'.cell? ⟨w.heap.size + 5, 0, none⟩ = some (.slice (some ⟨b9, o9, none⟩) 1 cr) ∧ w'.cell? ⟨b9, o9, none⟩ = some (.int .i64 yn) ∧ w'.cell? ⟨w.heap.size + 1 + 1 + 1, 0, none⟩ = some (.int .i64 i) ∧ w'.cell? ⟨w.heap.size + 1 + 1 + 1 + 1, 0, none⟩ = some (.int .i64 j)) (first | exact hS0 | exact hS1.1) ((go_at_call 50; refine Calls.mono HPS1.out ?_; rintro e w9 ⟨rfl, hw9, hk9⟩; have hS1 := HSK.out w9 hk9))
      all_goals go_wp2_with fail
      all_goals go_ret
      all_goals exact ⟨by rw [HDY.out, HV.out]; rfl, hw9, hS1.2⟩
    · have hz := HZ.out
      have HCL := (show Hid (∀ wq, Below wc.heap.size wc wq → Calls Try.prog 96 #[.map (some c.br), .agg #[.int .i64 k, .int .i64 p, .int .i64 i, .int .i64 j], .func (.func 97) #[] #[.pointer (some ⟨w.heap.size, 0, none⟩), .pointer (some ⟨w.heap.size + 5, 0, none⟩), .pointer (some ⟨w.heap.size + 1 + 1 + 1 + 1, 0, none⟩), .pointer (some ⟨w.heap.size + 1 + 1 + 1, 0, none⟩), .pointer (some ⟨w.heap.size + 1, 0, none⟩), .pointer (some ⟨w.heap.size + 1 + 1, 0, none⟩)]] wq (Rt c (LF c.V ((pAt (bps c.d) k).2.drop p) i j) wq)) from fun wq hb => by
        refine ask96 c hc k p i j (by omega) (by omega) (by omega) (by omega) _ wq (HCX2.out wq hb).2.1 (fun w' hb' hwc => ?_)
        obtain ⟨⟨q0, q1, q2, q3, q4, q5⟩, _, _⟩ := HCX2.out w' (bel_trans hb hb')
        have hlL := HCX.out.len
        have hnx : (pAt (bps c.d) k).2.drop (p + 1) = nats r := by
          have := congrArg (List.drop 1) HDY.out
          simpa [List.drop_drop, Nat.add_comm] using this
        exact clo97 c hc k p i j yn r (by omega) (fun q hq => by
          have h1 := hinR (p + 1 + q) (by omega)
          have h2 : R[p + 1 + q]'(by omega) = r[q] := by
            have := congrArg (·[q]?) hrr
            simp only [List.getElem?_drop] at this
            rw [List.getElem?_eq_getElem (by omega), List.getElem?_eq_getElem hq] at this
            injection this
          rw [h2] at h1
          exact h1) (by omega) HDY.out hnx (by omega) (by omega) hij hj (fun s hs => HPS.out yn (nats r) HDY.out s hs) (fun s hs hv => HPR.out yn (nats r) HDY.out s hs hv) _ _ _ _ _ _ _ w' hwc (by have h := HIN2.out; rw [← hrlen] at h; exact h) ⟨by omega, by omega⟩ ⟨by omega, by omega⟩ ⟨by omega, by omega⟩ ⟨by omega, by omega⟩ ⟨by omega, by omega⟩ ⟨by omega, by omega⟩ q0 (by rw [← hrlen] at q5; exact q5) q4 q3 q1 q2)
      have HG3 := (show Hid (∀ wq, Below wc.heap.size wc wq → wq.cell? ⟨c.gc, 3, none⟩ = some (.map (some c.br))) from fun wq hb => (HCX2.out wq hb).2.1.box.cell 3 (by simp))
      have hS0 : wc.drew.cell? ⟨w.heap.size, 0, none⟩ = some (.pointer (some ⟨c.gc, 0, none⟩)) ∧ wc.drew.cell? ⟨c.gc, 3, none⟩ = some (.map (some c.br)) ∧ wc.drew.cell? ⟨w.heap.size + 1, 0, none⟩ = some (.int .i64 k) ∧ wc.drew.cell? ⟨w.heap.size + 1 + 1, 0, none⟩ = some (.int .i64 p) ∧ wc.drew.cell? ⟨w.heap.size + 1 + 1 + 1, 0, none⟩ = some (.int .i64 i) ∧ wc.drew.cell? ⟨w.heap.size + 1 + 1 + 1 + 1, 0, none⟩ = some (.int .i64 j) := ⟨(HCX2.out _ hbd).1.1, HG3.out _ hbd, (HCX2.out _ hbd).1.2.1, (HCX2.out _ hbd).1.2.2.1, (HCX2.out _ hbd).1.2.2.2.1, (HCX2.out _ hbd).1.2.2.2.2.1⟩
      have HCQ := (show Hid _ from HCL.out _ hbd)
      have HSK := (show Hid (∀ w9, Kq c.bn c.br wc.drew w9 → (w9.cell? ⟨w.heap.size, 0, none⟩ = some (.pointer (some ⟨c.gc, 0, none⟩)) ∧ w9.cell? ⟨c.gc, 3, none⟩ = some (.map (some c.br)) ∧ w9.cell? ⟨w.heap.size + 1, 0, none⟩ = some (.int .i64 k) ∧ w9.cell? ⟨w.heap.size + 1 + 1, 0, none⟩ = some (.int .i64 p) ∧ w9.cell? ⟨w.heap.size + 1 + 1 + 1, 0, none⟩ = some (.int .i64 i) ∧ w9.cell? ⟨w.heap.size + 1 + 1 + 1 + 1, 0, none⟩ = some (.int .i64 j)) ∧ Kq c.bn c.br w w9) from fun w9 hk9 => by
        exact ⟨⟨hk9.cell hS0.1 (by dsimp only; omega) (by dsimp only; omega), hk9.cell hS0.2.1 hc.n0 hc.n1, hk9.cell hS0.2.2.1 (by dsimp only; omega) (by dsimp only; omega), hk9.cell hS0.2.2.2.1 (by dsimp only; omega) (by dsimp only; omega), hk9.cell hS0.2.2.2.2.1 (by dsimp only; omega) (by dsimp only; omega), hk9.cell hS0.2.2.2.2.2 (by dsimp only; omega) (by dsimp only; omega)⟩, (HCX2.out _ hbd).2.2.trans hk9⟩)
      have hq0 : ((R.length - p : Nat) == 0) = false := by simp; omega
      have hq1 : ((R.length - p : Nat) == 1) = false := by simp; omega
      obtain ⟨ln, hln⟩ : ∃ ln, R.length - p = ln := ⟨_, rfl⟩
      rw [hln] at f5 hl0 hl1
      clear hln hq0 hq1 hrlen hlr hpl hinR hrr e5 hz hy0 hp hcr hcm hrl HIN HIN2 HRI HPD hcx HCL
      go_wp2_with fail
      go_region_held3 (fun w' => w'.cell? ⟨w.heap.size, 0, none⟩ = some (.pointer (some ⟨c.gc, 0, none⟩)) ∧ w'.cell? ⟨c.gc, 3, none⟩ = some (.map (some c.br)) ∧ w'.cell? ⟨w.heap.size + 1, 0, none⟩ = some (.int .i64 k) ∧ w'.cell? ⟨w.heap.size + 1 + 1, 0, none⟩ = some (.int .i64 p) ∧ w'.cell? ⟨w.heap.size + 1 + 1 + 1, 0, none⟩ = some (.int .i64 i) ∧ w'.cell? ⟨w.heap.size + 1 + 1 + 1 + 1, 0, none⟩ = some (.int .i64 j)) (first | exact hS0 | exact hS1.1) ((go_at_call 96; refine Calls.mono HCQ.out ?_; rintro e w9 ⟨rfl, hw9, hk9⟩; have hS1 := HSK.out w9 hk9))
      all_goals go_wp2_with fail
      all_goals go_ret
      all_goals exact ⟨rfl, hw9, hS1.2⟩
end Go.Proofs.Ytpbpmhgoppbfnaa
