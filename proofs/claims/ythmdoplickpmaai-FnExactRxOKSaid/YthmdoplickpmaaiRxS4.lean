import Derived.Test.YthmdoplickpmaaiRxS3
namespace Go.Proofs.Ythmdoplickpmaai
open Go.RowKit Go.Deep Go.Lib
set_option linter.unusedVariables false
set_option maxRecDepth 100000
set_option linter.unusedSimpArgs false

/-- A byte was read by the spec's reader, or it is a fault. -/
def OGot (r : Except Nat (UInt8 × Nat)) (p : Nat) (s : ByteArray) (c : Nat) (g : Option Nat) (e : Ending) (w' : World) : Prop := match r with
  | .ok a => e = .returned (.int .i64 a.1.toNat) ∧ Rd w' p s a.2 (c - 3) g
  | .error j => ∃ z : Nat, z < 256 ∧ e = .returned (.int .i64 z) ∧ Bd w' p s j c g
theorem Rd.adv {w : World} {p k c : Nat} {s : ByteArray} {g : Option Nat} (h : Rd w p s k c g) (hk : k < s.size) : Rd (w.setCell ⟨p, 1, none⟩ (.int .i64 ((k : Int) + 1))) p s (k + 1) (c - 3) g := (h.next hk).2
theorem Rd.adv2 {w : World} {p k c : Nat} {s : ByteArray} {g : Option Nat} (h : Rd w p s (k + 1) c g) (hk : k + 1 < s.size) : Rd (w.setCell ⟨p, 1, none⟩ (.int .i64 ((k : Int) + 2))) p s (k + 2) c g := by
  have h2 := (h.next hk).2
  have e : ((k + 1 : Nat) : Int) + 1 = (k : Int) + 2 := by omega
  rw [e] at h2
  exact h2.mono (by omega)
theorem Bd.adv {w : World} {p j c : Nat} {s : ByteArray} {g : Option Nat} (h : Bd w p s j c g) (z : Int) : Bd (w.setCell ⟨p, 1, none⟩ (.int .i64 z)) p s j c g := by
  obtain ⟨z0, n, h2, h3⟩ := h; exact ⟨z, n, h2.setAt z, h3⟩
theorem Bd.cells {w : World} {p j c : Nat} {s : ByteArray} {g : Option Nat} (h : Bd w p s j c g) : ∃ z, w.cell? ⟨p, 1, none⟩ = some (.int .i64 z) ∧ w.cell? ⟨p, 2, none⟩ = some (.int .i64 j) ∧ w.frozen? ⟨p, 1, none⟩ = false := by
  obtain ⟨z0, n, h2, h3⟩ := h; obtain ⟨_, x1, x2, y1, _⟩ := h2.cells; exact ⟨z0, x1, x2, y1⟩
/-- What fails keeps the place. -/
theorem fail_at {p k c : Nat} {s : ByteArray} {g : Option Nat} (w : World) (h : Rd w p s k c g) :
    Calls Try.prog 51 #[.pointer (some ⟨p, 0, none⟩), .int .i64 k] w fun e w' => e = .returned (.tuple #[]) ∧ Bd w' p s k c g ∧ Mv p g w g w' ∧ w'.cell? ⟨p, 1, none⟩ = some (.int .i64 k) ∧ w'.frozen? ⟨p, 1, none⟩ = false := by
  obtain ⟨x0, x1, x2, y1, y2, _⟩ := h.cells
  have H := (show Hid _ from (⟨h.fail k, Mv.set1 (p := p) (g := g) 2 (.int .i64 k)⟩ : _ ∧ Mv p g w g _)); clear h
  go_enter Try.func51, Try.ntmps51
  go_wp2_with fail
  go_end0
  exact ⟨rfl, H.out.1, H.out.2, by simp [go_sem, x1], by simp [go_sem, y1]⟩

set_option maxHeartbeats 6400000 in
theorem one_s {p k c : Nat} {s : ByteArray} {g : Option Nat} (l : List UInt8) (gs : ByteArray) (hl : ∀ b : UInt8, b ≠ 92 → gs.data.toList.contains b = l.contains b) (hgs : gs.size ≤ 1000) (w : World) (h : Rd w p s k c g) :
    Calls Try.prog 80 #[.pointer (some ⟨p, 0, none⟩), .string gs] w fun e w' => OGot (xOne l s k) p s c g e w' ∧ Mv p g w g w' := by
  have hs := h.small
  have hk := h.1
  by_cases hlt : k < s.size
  case neg =>
    have hr : xOne l s k = .error k := by unfold xOne xPlain seesB; simp [hlt]
    rw [hr]
    have HM := (show Hid _ from more_st w h (r := false) (by simp [hlt])); clear h hr hl
    go_enter Try.func80, Try.ntmps80
    go_wp2_with fail
    refine Calls.mono HM.out ?_
    rintro e w1 ⟨rfl, h1, v1⟩
    obtain ⟨x0, x1, x2, y1, y2, _⟩ := h1.cells
    have HF := (show Hid _ from fail_at w1 h1)
    have HV := (show Hid _ from v1); clear h1 v1
    go_wp2_with fail
    refine Calls.mono HF.out ?_
    rintro e w2 ⟨rfl, h2, v2, _⟩
    have HV2 := (show Hid _ from (⟨h2, HV.out.trans v2⟩ : _ ∧ _)); clear h2 v2
    go_wp2_with fail
    go_ret
    exact ⟨⟨0, by omega, rfl, HV2.out.1⟩, HV2.out.2⟩
  have hlt' : (k : Int) < s.size := by omega
  have hg := get!_eq s k hlt
  have HM := (show Hid _ from more_st w h (r := true) (by simp [hlt])); clear h
  by_cases h92 : s[k] = 92
  case neg =>
    have hq92 : ((s[k].toNat : Int) == 92) = false := by
      rw [beq_eq_false_iff_ne]
      intro e
      exact h92 (UInt8.toNat_inj.1 (by show s[k].toNat = 92; omega))
    have h92' : ¬ ((s[k].toNat : Int) = 92) := by simpa using hq92
    have hsee : seesB s k 92 = false := by unfold seesB; rw [hg]; simp [h92]
    have hlk := hl s[k] h92
    have hxo : xOne l s k = (if decide (k < s.size) && l.contains s[k] then .error k else xPlain s k) := by unfold xOne; rw [if_neg (by rw [hsee]; simp), hg]
    have HIN := (show Hid _ from fun w => in_any gs s[k] hgs w)
    rw [hlk] at HIN
    have hub := s[k].toNat_lt
    clear hl hlk hsee h92
    by_cases h32 : s[k].toNat < 32
    · have hd : decide ((s[k].toNat : Int) < 32) = true := by simp; omega
      have hd' : (s[k].toNat : Int) < 32 := by omega
      have hr : xOne l s k = .error k := by
        rw [hxo]
        split
        · rfl
        · unfold xPlain; rw [hg]; simp; omega
      rw [hr]
      clear hr hxo hg HIN
      go_enter Try.func80, Try.ntmps80
      go_wp2_with fail
      refine Calls.mono HM.out ?_
      rintro e w1 ⟨rfl, h1, v1⟩
      obtain ⟨x0, x1, x2, y1, y2, _⟩ := h1.cells
      have H1 := (show Hid _ from (⟨fun n => h1.drewN n, fun n => v1.drewN n⟩ : (∀ n, Rd (w1.drewN n) p s k c g) ∧ ∀ n, Mv p g w g (w1.drewN n))); clear h1 v1
      go_wp2_with fail
      go_quiet (fail)
      have hF0 := fail_at (w1.drewN nq) (H1.out.1 nq)
      have hR0 := H1.out.1 nq
      have hV0 := H1.out.2 nq
      obtain ⟨x0, x1, x2, y1, y2, _⟩ := hR0.cells
      have HF := (show Hid _ from (⟨hF0, hR0, hV0⟩ : _ ∧ _ ∧ _)); clear hF0 hR0 hV0 H1
      generalize w1.drewN nq = W1 at *
      go_wp2_with fail
      refine Calls.mono HF.out.1 ?_
      rintro e w3 ⟨rfl, h3, v3, x1, y1⟩
      have HV3 := (show Hid _ from (⟨h3.adv ((k : Int) + 1), (HF.out.2.2.trans v3).trans (Mv.set1 1 (.int .i64 ((k : Int) + 1)))⟩ : _ ∧ _)); clear h3 v3
      go_wp2_with fail
      go_ret
      exact ⟨⟨s[k].toNat, hub, by go_num, HV3.out.1⟩, HV3.out.2⟩
    have hd : decide ((s[k].toNat : Int) < 32) = false := by simp; omega
    have hd' : ¬ ((s[k].toNat : Int) < 32) := by omega
    have hd1 : (32 : Int) ≤ s[k].toNat := by omega
    by_cases h126 : 126 < s[k].toNat
    · have he : decide ((126 : Int) < s[k].toNat) = true := by simp; omega
      have he' : (126 : Int) < s[k].toNat := by omega
      have hr : xOne l s k = .error k := by
        rw [hxo]
        split
        · rfl
        · unfold xPlain; rw [hg]; simp; omega
      rw [hr]
      clear hr hxo hg HIN
      go_enter Try.func80, Try.ntmps80
      go_wp2_with fail
      refine Calls.mono HM.out ?_
      rintro e w1 ⟨rfl, h1, v1⟩
      obtain ⟨x0, x1, x2, y1, y2, _⟩ := h1.cells
      have H1 := (show Hid _ from (⟨fun n => h1.drewN n, fun n => v1.drewN n⟩ : (∀ n, Rd (w1.drewN n) p s k c g) ∧ ∀ n, Mv p g w g (w1.drewN n))); clear h1 v1
      go_wp2_with fail
      go_quiet (fail)
      have hF0 := fail_at (w1.drewN nq) (H1.out.1 nq)
      have hR0 := H1.out.1 nq
      have hV0 := H1.out.2 nq
      obtain ⟨x0, x1, x2, y1, y2, _⟩ := hR0.cells
      have HF := (show Hid _ from (⟨hF0, hR0, hV0⟩ : _ ∧ _ ∧ _)); clear hF0 hR0 hV0 H1
      generalize w1.drewN nq = W1 at *
      go_wp2_with fail
      refine Calls.mono HF.out.1 ?_
      rintro e w3 ⟨rfl, h3, v3, x1, y1⟩
      have HV3 := (show Hid _ from (⟨h3.adv ((k : Int) + 1), (HF.out.2.2.trans v3).trans (Mv.set1 1 (.int .i64 ((k : Int) + 1)))⟩ : _ ∧ _)); clear h3 v3
      go_wp2_with fail
      go_ret
      exact ⟨⟨s[k].toNat, hub, by go_num, HV3.out.1⟩, HV3.out.2⟩
    have he : decide ((126 : Int) < s[k].toNat) = false := by simp; omega
    have he' : ¬ ((126 : Int) < s[k].toNat) := by omega
    have he1 : (s[k].toNat : Int) ≤ 126 := by omega
    cases hc : l.contains s[k]
    case true =>
      have hr : xOne l s k = .error k := by rw [hxo, hc]; simp [hlt]
      rw [hr]
      rw [hc] at HIN
      clear hr hxo hg hc
      go_enter Try.func80, Try.ntmps80
      go_wp2_with fail
      refine Calls.mono HM.out ?_
      rintro e w1 ⟨rfl, h1, v1⟩
      obtain ⟨x0, x1, x2, y1, y2, _⟩ := h1.cells
      have H1 := (show Hid _ from (⟨fun n => h1.drewN n, fun n => v1.drewN n⟩ : (∀ n, Rd (w1.drewN n) p s k c g) ∧ ∀ n, Mv p g w g (w1.drewN n))); clear h1 v1
      go_wp2_with fail
      go_quiet (fail)
      have hF0 := fail_at (w1.drewN nq) (H1.out.1 nq)
      have hR0 := H1.out.1 nq
      have hV0 := H1.out.2 nq
      obtain ⟨x0, x1, x2, y1, y2, _⟩ := hR0.cells
      have HF := (show Hid _ from (⟨hF0, hR0, hV0⟩ : _ ∧ _ ∧ _)); clear hF0 hR0 hV0 H1
      generalize w1.drewN nq = W1 at *
      go_wp2_with fail
      refine Calls.mono (HIN.out _) ?_
      rintro e w2 ⟨rfl, rfl⟩
      go_wp2_with fail
      refine Calls.mono HF.out.1 ?_
      rintro e w3 ⟨rfl, h3, v3, x1, y1⟩
      have HV3 := (show Hid _ from (⟨h3.adv ((k : Int) + 1), (HF.out.2.2.trans v3).trans (Mv.set1 1 (.int .i64 ((k : Int) + 1)))⟩ : _ ∧ _)); clear h3 v3
      go_wp2_with fail
      go_ret
      exact ⟨⟨s[k].toNat, hub, by go_num, HV3.out.1⟩, HV3.out.2⟩
    have hr : xOne l s k = .ok (s[k], k + 1) := by
      rw [hxo, hc]
      unfold xPlain
      rw [hg]
      simp [hlt]
      omega
    rw [hr]
    rw [hc] at HIN
    clear hr hxo hg hc
    go_enter Try.func80, Try.ntmps80
    go_wp2_with fail
    refine Calls.mono HM.out ?_
    rintro e w1 ⟨rfl, h1, v1⟩
    obtain ⟨x0, x1, x2, y1, y2, _⟩ := h1.cells
    have H1 := (show Hid _ from (⟨fun n => h1.drewN n, fun n => v1.drewN n⟩ : (∀ n, Rd (w1.drewN n) p s k c g) ∧ ∀ n, Mv p g w g (w1.drewN n))); clear h1 v1
    go_wp2_with fail
    go_quiet (fail)
    have hF0 := fail_at (w1.drewN nq) (H1.out.1 nq)
    have hR0 := H1.out.1 nq
    have hV0 := H1.out.2 nq
    obtain ⟨x0, x1, x2, y1, y2, _⟩ := hR0.cells
    have HF := (show Hid _ from (⟨hF0, hR0, hV0⟩ : _ ∧ _ ∧ _)); clear hF0 hR0 hV0 H1
    generalize w1.drewN nq = W1 at *
    go_wp2_with fail
    refine Calls.mono (HIN.out _) ?_
    rintro e w2 ⟨rfl, rfl⟩
    go_wp2_with fail
    go_ret
    exact ⟨⟨by go_num, Rd.adv HF.out.2.1 hlt⟩, HF.out.2.2.trans (Mv.set1 1 _)⟩
  have hq92 : ((s[k].toNat : Int) == 92) = true := by rw [h92]; simp
  have h92' : (s[k].toNat : Int) = 92 := by rw [h92]; rfl
  have hsee : seesB s k 92 = true := by unfold seesB; rw [hg, h92]; simp [hlt]
  have hxo : xOne l s k = xEsc s (k + 1) := by unfold xOne; rw [if_pos hsee]
  rw [hxo]
  clear hl hsee hxo hg h92 hgs
  obtain ⟨m, hm⟩ : ∃ m, m = k + 1 := ⟨_, rfl⟩
  rw [← hm]
  have hmle : m ≤ s.size := by omega
  have HN : Hid (∀ W, Rd W p s k c g → Rd (W.setCell ⟨p, 1, none⟩ (.int .i64 ((k : Int) + 1))) p s m (c - 3) g) := fun W h => hm ▸ h.adv hlt
  clear hm
  by_cases hml : m < s.size
  case neg =>
    have hr : xEsc s m = .error m := by unfold xEsc xPlain seesB; simp [hml]
    rw [hr]
    clear hr
    go_enter Try.func80, Try.ntmps80
    go_wp2_with fail
    refine Calls.mono HM.out ?_
    rintro e w1 ⟨rfl, h1, v1⟩
    obtain ⟨x0, x1, x2, y1, y2, _⟩ := h1.cells
    have H1 := (show Hid _ from (⟨fun n => h1.drewN n, fun n => v1.drewN n⟩ : (∀ n, Rd (w1.drewN n) p s k c g) ∧ ∀ n, Mv p g w g (w1.drewN n))); clear h1 v1
    go_wp2_with fail
    go_quiet (fail)
    have hR0 := H1.out.1 nq
    have hV0 := H1.out.2 nq
    clear x0 x1 x2 y1 y2 H1
    obtain ⟨x0, x1, x2, y1, y2, _⟩ := hR0.cells
    have H2 := (show Hid _ from (⟨HN.out _ hR0, hV0.trans (Mv.set1 1 (.int .i64 ((k : Int) + 1)))⟩ : Rd ((w1.drewN nq).setCell ⟨p, 1, none⟩ (.int .i64 ((k : Int) + 1))) p s m (c - 3) g ∧ Mv p g w g ((w1.drewN nq).setCell ⟨p, 1, none⟩ (.int .i64 ((k : Int) + 1))))); clear hR0 hV0 HN
    generalize w1.drewN nq = W1 at *
    go_wp2_with fail
    generalize W1.setCell ⟨p, 1, none⟩ (.int .i64 ((k : Int) + 1)) = W2 at *
    clear x0 x1 x2 y1 y2
    refine Calls.mono (more_st W2 H2.out.1 (r := false) (by simp [hml])) ?_
    rintro e w3 ⟨rfl, h3, v3⟩
    obtain ⟨x0, x1, x2, y1, y2, _⟩ := h3.cells
    have HF := (show Hid _ from (⟨fail_at w3 h3, H2.out.2.trans v3⟩ : _ ∧ _)); clear h3 v3 H2
    go_wp2_with fail
    refine Calls.mono HF.out.1 ?_
    rintro e w4 ⟨rfl, h4, v4, _⟩
    have HV := (show Hid _ from (⟨h4.mono (by omega), HF.out.2.trans v4⟩ : Bd w4 p s m c g ∧ _)); clear h4 v4
    go_wp2_with fail
    go_ret
    exact ⟨⟨0, by omega, rfl, HV.out.1⟩, HV.out.2⟩
  have hml' : (m : Int) < s.size := by omega
  have hgm := get!_eq s m hml
  have hub := s[m].toNat_lt
  by_cases h110 : s[m] = 110
  · have hq : ((s[m].toNat : Int) == 110) = true := by rw [h110]; simp
    have hr : xEsc s m = .ok (10, m + 1) := by unfold xEsc; rw [if_pos (by unfold seesB; rw [hgm, h110]; simp [hml])]
    rw [hr]
    clear hr hgm h110
    go_enter Try.func80, Try.ntmps80
    go_wp2_with fail
    refine Calls.mono HM.out ?_
    rintro e w1 ⟨rfl, h1, v1⟩
    obtain ⟨x0, x1, x2, y1, y2, _⟩ := h1.cells
    have H1 := (show Hid _ from (⟨fun n => h1.drewN n, fun n => v1.drewN n⟩ : (∀ n, Rd (w1.drewN n) p s k c g) ∧ ∀ n, Mv p g w g (w1.drewN n))); clear h1 v1
    go_wp2_with fail
    go_quiet (fail)
    have hR0 := H1.out.1 nq
    have hV0 := H1.out.2 nq
    clear x0 x1 x2 y1 y2 H1
    obtain ⟨x0, x1, x2, y1, y2, _⟩ := hR0.cells
    have H2 := (show Hid _ from (⟨HN.out _ hR0, hV0.trans (Mv.set1 1 (.int .i64 ((k : Int) + 1)))⟩ : Rd ((w1.drewN nq).setCell ⟨p, 1, none⟩ (.int .i64 ((k : Int) + 1))) p s m (c - 3) g ∧ Mv p g w g ((w1.drewN nq).setCell ⟨p, 1, none⟩ (.int .i64 ((k : Int) + 1))))); clear hR0 hV0 HN
    generalize w1.drewN nq = W1 at *
    go_wp2_with fail
    generalize W1.setCell ⟨p, 1, none⟩ (.int .i64 ((k : Int) + 1)) = W2 at *
    clear x0 x1 x2 y1 y2
    refine Calls.mono (more_st W2 H2.out.1 (r := true) (by simp [hml])) ?_
    rintro e w3 ⟨rfl, h3, v3⟩
    obtain ⟨x0, x1, x2, y1, y2, _⟩ := h3.cells
    have H3 := (show Hid _ from (⟨fun n => h3.drewN n, fun n => (H2.out.2.trans v3).drewN n⟩ : (∀ n, Rd (w3.drewN n) p s m (c - 3) g) ∧ ∀ n, Mv p g w g (w3.drewN n))); clear h3 v3 H2
    go_wp2_with fail
    go_quiet (fail)
    have hF0 := fail_at (w3.drewN nq) (H3.out.1 nq)
    have hR0 := H3.out.1 nq
    have hV0 := H3.out.2 nq
    clear x0 x1 x2 y1 y2 H3
    obtain ⟨x0, x1, x2, y1, y2, _⟩ := hR0.cells
    have HF := (show Hid _ from (⟨hF0, hR0, hV0⟩ : _ ∧ _ ∧ _)); clear hF0 hR0 hV0
    generalize w3.drewN nq = W3 at *
    go_wp2_with fail
    go_ret
    exact ⟨⟨by go_num, (Rd.adv HF.out.2.1 hml).mono (by omega)⟩, HF.out.2.2.trans (Mv.set1 1 _)⟩
  have hq110 : ((s[m].toNat : Int) == 110) = false := by
    rw [beq_eq_false_iff_ne]
    intro e
    exact h110 (UInt8.toNat_inj.1 (by show s[m].toNat = 110; omega))
  have hs110 : seesB s m 110 = false := by unfold seesB; rw [hgm]; simp [h110]
  clear h110
  by_cases h116 : s[m] = 116
  · have hq : ((s[m].toNat : Int) == 116) = true := by rw [h116]; simp
    have hr : xEsc s m = .ok (9, m + 1) := by unfold xEsc; rw [if_neg (by rw [hs110]; simp), if_pos (by unfold seesB; rw [hgm, h116]; simp [hml])]
    rw [hr]
    clear hr hgm h116 hs110
    go_enter Try.func80, Try.ntmps80
    go_wp2_with fail
    refine Calls.mono HM.out ?_
    rintro e w1 ⟨rfl, h1, v1⟩
    obtain ⟨x0, x1, x2, y1, y2, _⟩ := h1.cells
    have H1 := (show Hid _ from (⟨fun n => h1.drewN n, fun n => v1.drewN n⟩ : (∀ n, Rd (w1.drewN n) p s k c g) ∧ ∀ n, Mv p g w g (w1.drewN n))); clear h1 v1
    go_wp2_with fail
    go_quiet (fail)
    have hR0 := H1.out.1 nq
    have hV0 := H1.out.2 nq
    clear x0 x1 x2 y1 y2 H1
    obtain ⟨x0, x1, x2, y1, y2, _⟩ := hR0.cells
    have H2 := (show Hid _ from (⟨HN.out _ hR0, hV0.trans (Mv.set1 1 (.int .i64 ((k : Int) + 1)))⟩ : Rd ((w1.drewN nq).setCell ⟨p, 1, none⟩ (.int .i64 ((k : Int) + 1))) p s m (c - 3) g ∧ Mv p g w g ((w1.drewN nq).setCell ⟨p, 1, none⟩ (.int .i64 ((k : Int) + 1))))); clear hR0 hV0 HN
    generalize w1.drewN nq = W1 at *
    go_wp2_with fail
    generalize W1.setCell ⟨p, 1, none⟩ (.int .i64 ((k : Int) + 1)) = W2 at *
    clear x0 x1 x2 y1 y2
    refine Calls.mono (more_st W2 H2.out.1 (r := true) (by simp [hml])) ?_
    rintro e w3 ⟨rfl, h3, v3⟩
    obtain ⟨x0, x1, x2, y1, y2, _⟩ := h3.cells
    have H3 := (show Hid _ from (⟨fun n => h3.drewN n, fun n => (H2.out.2.trans v3).drewN n⟩ : (∀ n, Rd (w3.drewN n) p s m (c - 3) g) ∧ ∀ n, Mv p g w g (w3.drewN n))); clear h3 v3 H2
    go_wp2_with fail
    go_quiet (fail)
    have hF0 := fail_at (w3.drewN nq) (H3.out.1 nq)
    have hR0 := H3.out.1 nq
    have hV0 := H3.out.2 nq
    clear x0 x1 x2 y1 y2 H3
    obtain ⟨x0, x1, x2, y1, y2, _⟩ := hR0.cells
    have HF := (show Hid _ from (⟨hF0, hR0, hV0⟩ : _ ∧ _ ∧ _)); clear hF0 hR0 hV0
    generalize w3.drewN nq = W3 at *
    go_wp2_with fail
    go_ret
    exact ⟨⟨by go_num, (Rd.adv HF.out.2.1 hml).mono (by omega)⟩, HF.out.2.2.trans (Mv.set1 1 _)⟩
  have hq116 : ((s[m].toNat : Int) == 116) = false := by
    rw [beq_eq_false_iff_ne]
    intro e
    exact h116 (UInt8.toNat_inj.1 (by show s[m].toNat = 116; omega))
  have hs116 : seesB s m 116 = false := by unfold seesB; rw [hgm]; simp [h116]
  clear h116
  have hxe : xEsc s m = (if seesB s m 32 || (decide (m < s.size) && (letB s[m].toNat || digB s[m].toNat)) then .error m else xPlain s m) := by
    unfold xEsc
    rw [if_neg (by rw [hs110]; simp), if_neg (by rw [hs116]; simp), hgm]
  have hs32 : seesB s m 32 = decide (s[m].toNat = 32) := by
    unfold seesB
    rw [hgm, Bool.eq_iff_iff]
    simp [hml]
    constructor
    · intro e; rw [e]; rfl
    · intro e; exact UInt8.toNat_inj.1 e
  clear hs110 hs116
  by_cases h33 : s[m].toNat < 33
  · have hd : decide ((s[m].toNat : Int) < 33) = true := by simp; omega
    have hd' : (s[m].toNat : Int) < 33 := by omega
    have hr : xEsc s m = .error m := by
      rw [hxe]
      split
      · rfl
      · rename_i hn
        simp [hs32] at hn
        unfold xPlain; rw [hgm]; simp; omega
    rw [hr]
    clear hr hgm hxe hs32
    go_enter Try.func80, Try.ntmps80
    go_wp2_with fail
    refine Calls.mono HM.out ?_
    rintro e w1 ⟨rfl, h1, v1⟩
    obtain ⟨x0, x1, x2, y1, y2, _⟩ := h1.cells
    have H1 := (show Hid _ from (⟨fun n => h1.drewN n, fun n => v1.drewN n⟩ : (∀ n, Rd (w1.drewN n) p s k c g) ∧ ∀ n, Mv p g w g (w1.drewN n))); clear h1 v1
    go_wp2_with fail
    go_quiet (fail)
    have hR0 := H1.out.1 nq
    have hV0 := H1.out.2 nq
    clear x0 x1 x2 y1 y2 H1
    obtain ⟨x0, x1, x2, y1, y2, _⟩ := hR0.cells
    have H2 := (show Hid _ from (⟨HN.out _ hR0, hV0.trans (Mv.set1 1 (.int .i64 ((k : Int) + 1)))⟩ : Rd ((w1.drewN nq).setCell ⟨p, 1, none⟩ (.int .i64 ((k : Int) + 1))) p s m (c - 3) g ∧ Mv p g w g ((w1.drewN nq).setCell ⟨p, 1, none⟩ (.int .i64 ((k : Int) + 1))))); clear hR0 hV0 HN
    generalize w1.drewN nq = W1 at *
    go_wp2_with fail
    generalize W1.setCell ⟨p, 1, none⟩ (.int .i64 ((k : Int) + 1)) = W2 at *
    clear x0 x1 x2 y1 y2
    refine Calls.mono (more_st W2 H2.out.1 (r := true) (by simp [hml])) ?_
    rintro e w3 ⟨rfl, h3, v3⟩
    obtain ⟨x0, x1, x2, y1, y2, _⟩ := h3.cells
    have H3 := (show Hid _ from (⟨fun n => h3.drewN n, fun n => (H2.out.2.trans v3).drewN n⟩ : (∀ n, Rd (w3.drewN n) p s m (c - 3) g) ∧ ∀ n, Mv p g w g (w3.drewN n))); clear h3 v3 H2
    go_wp2_with fail
    go_quiet (fail)
    have hF0 := fail_at (w3.drewN nq) (H3.out.1 nq)
    have hR0 := H3.out.1 nq
    have hV0 := H3.out.2 nq
    clear x0 x1 x2 y1 y2 H3
    obtain ⟨x0, x1, x2, y1, y2, _⟩ := hR0.cells
    have HF := (show Hid _ from (⟨hF0, hR0, hV0⟩ : _ ∧ _ ∧ _)); clear hF0 hR0 hV0
    generalize w3.drewN nq = W3 at *
    go_wp2_with fail
    refine Calls.mono HF.out.1 ?_
    rintro e w5 ⟨rfl, h5, v5, x1, y1⟩
    have HV5 := (show Hid _ from (⟨(h5.adv ((m : Int) + 1)).mono (by omega), (HF.out.2.2.trans v5).trans (Mv.set1 1 (.int .i64 ((m : Int) + 1)))⟩ : Bd _ p s m c g ∧ _)); clear h5 v5
    go_wp2_with fail
    go_ret
    exact ⟨⟨s[m].toNat, hub, by go_num, HV5.out.1⟩, HV5.out.2⟩
  have hd : decide ((s[m].toNat : Int) < 33) = false := by simp; omega
  have hd' : ¬ ((s[m].toNat : Int) < 33) := by omega
  have hd1 : (33 : Int) ≤ s[m].toNat := by omega
  by_cases h126 : 126 < s[m].toNat
  · have he : decide ((126 : Int) < s[m].toNat) = true := by simp; omega
    have he' : (126 : Int) < s[m].toNat := by omega
    have hr : xEsc s m = .error m := by
      rw [hxe]
      split
      · rfl
      · unfold xPlain; rw [hgm]; simp; omega
    rw [hr]
    clear hr hgm hxe hs32
    go_enter Try.func80, Try.ntmps80
    go_wp2_with fail
    refine Calls.mono HM.out ?_
    rintro e w1 ⟨rfl, h1, v1⟩
    obtain ⟨x0, x1, x2, y1, y2, _⟩ := h1.cells
    have H1 := (show Hid _ from (⟨fun n => h1.drewN n, fun n => v1.drewN n⟩ : (∀ n, Rd (w1.drewN n) p s k c g) ∧ ∀ n, Mv p g w g (w1.drewN n))); clear h1 v1
    go_wp2_with fail
    go_quiet (fail)
    have hR0 := H1.out.1 nq
    have hV0 := H1.out.2 nq
    clear x0 x1 x2 y1 y2 H1
    obtain ⟨x0, x1, x2, y1, y2, _⟩ := hR0.cells
    have H2 := (show Hid _ from (⟨HN.out _ hR0, hV0.trans (Mv.set1 1 (.int .i64 ((k : Int) + 1)))⟩ : Rd ((w1.drewN nq).setCell ⟨p, 1, none⟩ (.int .i64 ((k : Int) + 1))) p s m (c - 3) g ∧ Mv p g w g ((w1.drewN nq).setCell ⟨p, 1, none⟩ (.int .i64 ((k : Int) + 1))))); clear hR0 hV0 HN
    generalize w1.drewN nq = W1 at *
    go_wp2_with fail
    generalize W1.setCell ⟨p, 1, none⟩ (.int .i64 ((k : Int) + 1)) = W2 at *
    clear x0 x1 x2 y1 y2
    refine Calls.mono (more_st W2 H2.out.1 (r := true) (by simp [hml])) ?_
    rintro e w3 ⟨rfl, h3, v3⟩
    obtain ⟨x0, x1, x2, y1, y2, _⟩ := h3.cells
    have H3 := (show Hid _ from (⟨fun n => h3.drewN n, fun n => (H2.out.2.trans v3).drewN n⟩ : (∀ n, Rd (w3.drewN n) p s m (c - 3) g) ∧ ∀ n, Mv p g w g (w3.drewN n))); clear h3 v3 H2
    go_wp2_with fail
    go_quiet (fail)
    have hF0 := fail_at (w3.drewN nq) (H3.out.1 nq)
    have hR0 := H3.out.1 nq
    have hV0 := H3.out.2 nq
    clear x0 x1 x2 y1 y2 H3
    obtain ⟨x0, x1, x2, y1, y2, _⟩ := hR0.cells
    have HF := (show Hid _ from (⟨hF0, hR0, hV0⟩ : _ ∧ _ ∧ _)); clear hF0 hR0 hV0
    generalize w3.drewN nq = W3 at *
    go_wp2_with fail
    refine Calls.mono HF.out.1 ?_
    rintro e w5 ⟨rfl, h5, v5, x1, y1⟩
    have HV5 := (show Hid _ from (⟨(h5.adv ((m : Int) + 1)).mono (by omega), (HF.out.2.2.trans v5).trans (Mv.set1 1 (.int .i64 ((m : Int) + 1)))⟩ : Bd _ p s m c g ∧ _)); clear h5 v5
    go_wp2_with fail
    go_ret
    exact ⟨⟨s[m].toNat, hub, by go_num, HV5.out.1⟩, HV5.out.2⟩
  have he : decide ((126 : Int) < s[m].toNat) = false := by simp; omega
  have he' : ¬ ((126 : Int) < s[m].toNat) := by omega
  have he1 : (s[m].toNat : Int) ≤ 126 := by omega
  have h32f : seesB s m 32 = false := by rw [hs32]; simp; omega
  have HLT := (show Hid _ from fun w => sLetter (s[m].toNat : Int) w)
  have HDG := (show Hid _ from fun w => sDigit (s[m].toNat : Int) w)
  cases hlet : letB s[m].toNat
  case true =>
    have hr : xEsc s m = .error m := by rw [hxe, hlet]; simp [hml]
    rw [hr]
    rw [hlet] at HLT
    clear hr hgm hxe hs32 hlet h32f HDG
    go_enter Try.func80, Try.ntmps80
    go_wp2_with fail
    refine Calls.mono HM.out ?_
    rintro e w1 ⟨rfl, h1, v1⟩
    obtain ⟨x0, x1, x2, y1, y2, _⟩ := h1.cells
    have H1 := (show Hid _ from (⟨fun n => h1.drewN n, fun n => v1.drewN n⟩ : (∀ n, Rd (w1.drewN n) p s k c g) ∧ ∀ n, Mv p g w g (w1.drewN n))); clear h1 v1
    go_wp2_with fail
    go_quiet (fail)
    have hR0 := H1.out.1 nq
    have hV0 := H1.out.2 nq
    clear x0 x1 x2 y1 y2 H1
    obtain ⟨x0, x1, x2, y1, y2, _⟩ := hR0.cells
    have H2 := (show Hid _ from (⟨HN.out _ hR0, hV0.trans (Mv.set1 1 (.int .i64 ((k : Int) + 1)))⟩ : Rd ((w1.drewN nq).setCell ⟨p, 1, none⟩ (.int .i64 ((k : Int) + 1))) p s m (c - 3) g ∧ Mv p g w g ((w1.drewN nq).setCell ⟨p, 1, none⟩ (.int .i64 ((k : Int) + 1))))); clear hR0 hV0 HN
    generalize w1.drewN nq = W1 at *
    go_wp2_with fail
    generalize W1.setCell ⟨p, 1, none⟩ (.int .i64 ((k : Int) + 1)) = W2 at *
    clear x0 x1 x2 y1 y2
    refine Calls.mono (more_st W2 H2.out.1 (r := true) (by simp [hml])) ?_
    rintro e w3 ⟨rfl, h3, v3⟩
    obtain ⟨x0, x1, x2, y1, y2, _⟩ := h3.cells
    have H3 := (show Hid _ from (⟨fun n => h3.drewN n, fun n => (H2.out.2.trans v3).drewN n⟩ : (∀ n, Rd (w3.drewN n) p s m (c - 3) g) ∧ ∀ n, Mv p g w g (w3.drewN n))); clear h3 v3 H2
    go_wp2_with fail
    go_quiet (fail)
    have hF0 := fail_at (w3.drewN nq) (H3.out.1 nq)
    have hR0 := H3.out.1 nq
    have hV0 := H3.out.2 nq
    clear x0 x1 x2 y1 y2 H3
    obtain ⟨x0, x1, x2, y1, y2, _⟩ := hR0.cells
    have HF := (show Hid _ from (⟨hF0, hR0, hV0⟩ : _ ∧ _ ∧ _)); clear hF0 hR0 hV0
    generalize w3.drewN nq = W3 at *
    go_wp2_with fail
    refine Calls.mono (HLT.out _) ?_
    rintro e w4 ⟨rfl, rfl⟩
    go_wp2_with fail
    refine Calls.mono HF.out.1 ?_
    rintro e w5 ⟨rfl, h5, v5, x1, y1⟩
    have HV5 := (show Hid _ from (⟨(h5.adv ((m : Int) + 1)).mono (by omega), (HF.out.2.2.trans v5).trans (Mv.set1 1 (.int .i64 ((m : Int) + 1)))⟩ : Bd _ p s m c g ∧ _)); clear h5 v5
    go_wp2_with fail
    go_ret
    exact ⟨⟨s[m].toNat, hub, by go_num, HV5.out.1⟩, HV5.out.2⟩
  rw [hlet] at HLT
  cases hdig : digB s[m].toNat
  case true =>
    have hr : xEsc s m = .error m := by rw [hxe, hlet, hdig]; simp [hml]
    rw [hr]
    rw [hdig] at HDG
    clear hr hgm hxe hs32 hlet h32f hdig
    go_enter Try.func80, Try.ntmps80
    go_wp2_with fail
    refine Calls.mono HM.out ?_
    rintro e w1 ⟨rfl, h1, v1⟩
    obtain ⟨x0, x1, x2, y1, y2, _⟩ := h1.cells
    have H1 := (show Hid _ from (⟨fun n => h1.drewN n, fun n => v1.drewN n⟩ : (∀ n, Rd (w1.drewN n) p s k c g) ∧ ∀ n, Mv p g w g (w1.drewN n))); clear h1 v1
    go_wp2_with fail
    go_quiet (fail)
    have hR0 := H1.out.1 nq
    have hV0 := H1.out.2 nq
    clear x0 x1 x2 y1 y2 H1
    obtain ⟨x0, x1, x2, y1, y2, _⟩ := hR0.cells
    have H2 := (show Hid _ from (⟨HN.out _ hR0, hV0.trans (Mv.set1 1 (.int .i64 ((k : Int) + 1)))⟩ : Rd ((w1.drewN nq).setCell ⟨p, 1, none⟩ (.int .i64 ((k : Int) + 1))) p s m (c - 3) g ∧ Mv p g w g ((w1.drewN nq).setCell ⟨p, 1, none⟩ (.int .i64 ((k : Int) + 1))))); clear hR0 hV0 HN
    generalize w1.drewN nq = W1 at *
    go_wp2_with fail
    generalize W1.setCell ⟨p, 1, none⟩ (.int .i64 ((k : Int) + 1)) = W2 at *
    clear x0 x1 x2 y1 y2
    refine Calls.mono (more_st W2 H2.out.1 (r := true) (by simp [hml])) ?_
    rintro e w3 ⟨rfl, h3, v3⟩
    obtain ⟨x0, x1, x2, y1, y2, _⟩ := h3.cells
    have H3 := (show Hid _ from (⟨fun n => h3.drewN n, fun n => (H2.out.2.trans v3).drewN n⟩ : (∀ n, Rd (w3.drewN n) p s m (c - 3) g) ∧ ∀ n, Mv p g w g (w3.drewN n))); clear h3 v3 H2
    go_wp2_with fail
    go_quiet (fail)
    have hF0 := fail_at (w3.drewN nq) (H3.out.1 nq)
    have hR0 := H3.out.1 nq
    have hV0 := H3.out.2 nq
    clear x0 x1 x2 y1 y2 H3
    obtain ⟨x0, x1, x2, y1, y2, _⟩ := hR0.cells
    have HF := (show Hid _ from (⟨hF0, hR0, hV0⟩ : _ ∧ _ ∧ _)); clear hF0 hR0 hV0
    generalize w3.drewN nq = W3 at *
    go_wp2_with fail
    refine Calls.mono (HLT.out _) ?_
    rintro e w4 ⟨rfl, rfl⟩
    go_wp2_with fail
    refine Calls.mono (HDG.out _) ?_
    rintro e w4 ⟨rfl, rfl⟩
    go_wp2_with fail
    refine Calls.mono HF.out.1 ?_
    rintro e w5 ⟨rfl, h5, v5, x1, y1⟩
    have HV5 := (show Hid _ from (⟨(h5.adv ((m : Int) + 1)).mono (by omega), (HF.out.2.2.trans v5).trans (Mv.set1 1 (.int .i64 ((m : Int) + 1)))⟩ : Bd _ p s m c g ∧ _)); clear h5 v5
    go_wp2_with fail
    go_ret
    exact ⟨⟨s[m].toNat, hub, by go_num, HV5.out.1⟩, HV5.out.2⟩
  rw [hdig] at HDG
  have hr : xEsc s m = .ok (s[m], m + 1) := by
    rw [hxe, hlet, hdig, h32f]
    simp
    unfold xPlain
    rw [hgm]
    simp [hml]
    omega
  rw [hr]
  clear hr hgm hxe hs32 hlet h32f hdig
  go_enter Try.func80, Try.ntmps80
  go_wp2_with fail
  refine Calls.mono HM.out ?_
  rintro e w1 ⟨rfl, h1, v1⟩
  obtain ⟨x0, x1, x2, y1, y2, _⟩ := h1.cells
  have H1 := (show Hid _ from (⟨fun n => h1.drewN n, fun n => v1.drewN n⟩ : (∀ n, Rd (w1.drewN n) p s k c g) ∧ ∀ n, Mv p g w g (w1.drewN n))); clear h1 v1
  go_wp2_with fail
  go_quiet (fail)
  have hR0 := H1.out.1 nq
  have hV0 := H1.out.2 nq
  clear x0 x1 x2 y1 y2 H1
  obtain ⟨x0, x1, x2, y1, y2, _⟩ := hR0.cells
  have H2 := (show Hid _ from (⟨HN.out _ hR0, hV0.trans (Mv.set1 1 (.int .i64 ((k : Int) + 1)))⟩ : Rd ((w1.drewN nq).setCell ⟨p, 1, none⟩ (.int .i64 ((k : Int) + 1))) p s m (c - 3) g ∧ Mv p g w g ((w1.drewN nq).setCell ⟨p, 1, none⟩ (.int .i64 ((k : Int) + 1))))); clear hR0 hV0 HN
  generalize w1.drewN nq = W1 at *
  go_wp2_with fail
  generalize W1.setCell ⟨p, 1, none⟩ (.int .i64 ((k : Int) + 1)) = W2 at *
  clear x0 x1 x2 y1 y2
  refine Calls.mono (more_st W2 H2.out.1 (r := true) (by simp [hml])) ?_
  rintro e w3 ⟨rfl, h3, v3⟩
  obtain ⟨x0, x1, x2, y1, y2, _⟩ := h3.cells
  have H3 := (show Hid _ from (⟨fun n => h3.drewN n, fun n => (H2.out.2.trans v3).drewN n⟩ : (∀ n, Rd (w3.drewN n) p s m (c - 3) g) ∧ ∀ n, Mv p g w g (w3.drewN n))); clear h3 v3 H2
  go_wp2_with fail
  go_quiet (fail)
  have hF0 := fail_at (w3.drewN nq) (H3.out.1 nq)
  have hR0 := H3.out.1 nq
  have hV0 := H3.out.2 nq
  clear x0 x1 x2 y1 y2 H3
  obtain ⟨x0, x1, x2, y1, y2, _⟩ := hR0.cells
  have HF := (show Hid _ from (⟨hF0, hR0, hV0⟩ : _ ∧ _ ∧ _)); clear hF0 hR0 hV0
  generalize w3.drewN nq = W3 at *
  go_wp2_with fail
  refine Calls.mono (HLT.out _) ?_
  rintro e w4 ⟨rfl, rfl⟩
  go_wp2_with fail
  refine Calls.mono (HDG.out _) ?_
  rintro e w4 ⟨rfl, rfl⟩
  go_wp2_with fail
  go_ret
  exact ⟨⟨by go_num, (Rd.adv HF.out.2.1 hml).mono (by omega)⟩, HF.out.2.2.trans (Mv.set1 1 _)⟩
end Go.Proofs.Ythmdoplickpmaai
