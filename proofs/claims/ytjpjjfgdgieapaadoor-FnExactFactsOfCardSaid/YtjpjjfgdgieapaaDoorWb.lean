import Derived.Test.YtjpjjfgdgieapaaDoorRe
import Derived.Test.YtjpjjfgdgieapaaDoorRg
import Derived.Test.YtjpjjfgdgieapaaDoorEq
/-! Pure: both sides' least sets are the same. -/
namespace Go.Proofs.YtjpjjfgdgieapaaDoor
open Go.RowKit Go.Deep
set_option linter.unusedVariables false
set_option maxRecDepth 100000
set_option linter.unusedSimpArgs false

theorem B.led_all {d : Bn} (hok : Bok d) {L : List Int} {V : List Nat} {N : Nat} (hN : N = d.terms.length + d.nons.length) (hlen : V.length = N * 3) (hq : ∀ k, k < d.prods.length → B.newW d L V k = false) {a y : Nat} (h : Tc (B.Ed d (Lf L)) a y) : y < 192 ∧ mem V a y = true := by
  have hN160 : N ≤ 160 := by rw [hN]; have := hok.nt; have := hok.nn.2; omega
  have key : ∀ k (hk : k < d.prods.length), ∀ x ∈ nats (bgn (Lf L) d.prods[k].right), x < 192 ∧ mem V d.prods[k].left.toNat x = true ∧ ∀ y, y < 192 → mem V x y = true → mem V d.prods[k].left.toNat y = true := by
    intro k hk x hx
    have hl := hok.left k hk
    have hq2 : ∀ x ∈ nats (bgn (Lf L) d.prods[k].right), x < N := B.bgn_nats (fun i hi => by rw [hN]; exact hok.right k hk i hi)
    have hll : d.prods[k].left.toNat * 3 + 3 ≤ V.length := by rw [hlen]; omega
    have hn := hq k hk
    have hst : B.stpW d L V k = stepW V d.prods[k].left.toNat (nats (bgn (Lf L) d.prods[k].right)) := by unfold B.stpW; rw [getD_lt _ _ hk]
    unfold B.newW at hn
    rw [hst, getD_lt _ _ hk] at hn
    have hfix := grew_no (stepW_len _ _ _) (fun i hi => stepW_other _ _ (fun x hx => by have := hq2 x hx; omega) _ hll i hi) hn
    obtain ⟨h1, h2⟩ := stepW_fix _ _ (fun x hx => by have := hq2 x hx; omega) V hll hfix x hx
    exact ⟨by have := hq2 x hx; omega, h1, h2⟩
  induction h using Tc.ind with
  | one h =>
    obtain ⟨k, hk, rfl, hx⟩ := h
    obtain ⟨h1, h2, _⟩ := key k hk _ hx
    exact ⟨h1, h2⟩
  | step h _ ih =>
    obtain ⟨k, hk, rfl, hx⟩ := h
    obtain ⟨h1, h2, h3⟩ := key k hk _ hx
    exact ⟨ih.1, h3 _ ih.1 ih.2⟩
theorem B.non {d : Bn} (hok : Bok d) {L : Nat → Int} {a b : Nat} (h : B.Ed d L a b) : d.terms.length ≤ a ∧ a < d.terms.length + d.nons.length := by
  obtain ⟨k, hk, rfl, _⟩ := h
  have := hok.left k hk
  omega
theorem W.led_all {d : Bn} (hok : Bok d) {L : List Int} {V : List Nat} {N : Nat} (hN : N = d.terms.length + d.nons.length) (hlen : V.length = N * 3) (hq : ∀ k, k < d.prods.length → W.newW d L V k = false) {a y : Nat} (h : Tc (W.Ed d (Lf L)) a y) : y < 192 ∧ mem V a y = true := by
  have hN160 : N ≤ 160 := by rw [hN]; have := hok.nt; have := hok.nn.2; omega
  have key : ∀ k (hk : k < d.prods.length), ∀ x ∈ nats (whl (Lf L) d.prods[k].right), x < 192 ∧ mem V d.prods[k].left.toNat x = true ∧ ∀ y, y < 192 → mem V x y = true → mem V d.prods[k].left.toNat y = true := by
    intro k hk x hx
    have hl := hok.left k hk
    have hq2 : ∀ x ∈ nats (whl (Lf L) d.prods[k].right), x < N := W.whl_nats (fun i hi => by rw [hN]; exact hok.right k hk i hi)
    have hll : d.prods[k].left.toNat * 3 + 3 ≤ V.length := by rw [hlen]; omega
    have hn := hq k hk
    have hst : W.stpW d L V k = stepW V d.prods[k].left.toNat (nats (whl (Lf L) d.prods[k].right)) := by unfold W.stpW; rw [getD_lt _ _ hk]
    unfold W.newW at hn
    rw [hst, getD_lt _ _ hk] at hn
    have hfix := grew_no (stepW_len _ _ _) (fun i hi => stepW_other _ _ (fun x hx => by have := hq2 x hx; omega) _ hll i hi) hn
    obtain ⟨h1, h2⟩ := stepW_fix _ _ (fun x hx => by have := hq2 x hx; omega) V hll hfix x hx
    exact ⟨by have := hq2 x hx; omega, h1, h2⟩
  induction h using Tc.ind with
  | one h =>
    obtain ⟨k, hk, rfl, hx⟩ := h
    obtain ⟨h1, h2, _⟩ := key k hk _ hx
    exact ⟨h1, h2⟩
  | step h _ ih =>
    obtain ⟨k, hk, rfl, hx⟩ := h
    obtain ⟨h1, h2, h3⟩ := key k hk _ hx
    exact ⟨ih.1, h3 _ ih.1 ih.2⟩
theorem W.non {d : Bn} (hok : Bok d) {L : Nat → Int} {a b : Nat} (h : W.Ed d L a b) : d.terms.length ≤ a ∧ a < d.terms.length + d.nons.length := by
  obtain ⟨k, hk, rfl, _⟩ := h
  have := hok.left k hk
  omega

/-- Steps between Nons, told in symbols. -/
theorem tc_shift {nt : Nat} {E F : Nat → Nat → Prop} (h : ∀ a b, E (nt + a) (nt + b) ↔ F a b) (hn : ∀ a b, E a b → nt ≤ a) (a b : Nat) : Tc E (nt + a) (nt + b) ↔ Tc F a b := by
  constructor
  · intro hh
    have key : ∀ x y, Tc E x y → ∀ a b, x = nt + a → y = nt + b → Tc F a b := by
      intro x y hxy
      induction hxy using Tc.ind with
      | one h1 => rintro a b rfl rfl; exact Tc.one ((h a b).1 h1)
      | step h1 h2 ih =>
        rename_i x c y
        rintro a b rfl rfl
        obtain ⟨c', hc'⟩ := h2.fst
        have := hn _ _ hc'
        have e : c = nt + (c - nt) := by omega
        rw [e] at h1
        exact Tc.step ((h _ _).1 h1) (ih _ b e rfl)
    exact key _ _ hh a b rfl rfl
  · intro hh
    induction hh using Tc.ind with
    | one h1 => exact Tc.one ((h _ _).2 h1)
    | step h1 _ ih => exact Tc.step ((h _ _).2 h1) ih
theorem mem_nats_whl {L : Nat → Int} {r : List Int} {b : Nat} : b ∈ nats (whl L r) ↔ ∃ i, ∃ hi : i < r.length, r[i].toNat = b := by
  unfold nats whl
  rw [List.mem_map]
  constructor
  · rintro ⟨x, hx, rfl⟩
    obtain ⟨i, hi, rfl⟩ := List.mem_iff_getElem.1 hx
    exact ⟨i, hi, rfl⟩
  · rintro ⟨i, hi, rfl⟩
    exact ⟨_, List.getElem_mem hi, rfl⟩
theorem mem_nats_bgn {L : Nat → Int} : ∀ {r : List Int} {b : Nat}, b ∈ nats (bgn L r) ↔ ∃ i, ∃ hi : i < r.length, r[i].toNat = b ∧ ∀ j (hj : j < r.length), j < i → L r[j].toNat = 0 := by
  intro r
  induction r with
  | nil => intro b; simp [nats, bgn]
  | cons x r ih =>
    intro b
    have e : nats (bgn L (x :: r)) = x.toNat :: nats (if L x.toNat = 0 then bgn L r else []) := rfl
    rw [e, List.mem_cons]
    constructor
    · rintro (h1 | h1)
      · exact ⟨0, by simp, by simp [h1], fun j _ hj => absurd hj (Nat.not_lt_zero _)⟩
      · by_cases hx : L x.toNat = 0
        · rw [if_pos hx] at h1
          obtain ⟨i, hi, h2, h3⟩ := ih.1 h1
          refine ⟨i + 1, by simpa using hi, by simpa using h2, fun j hj hji => ?_⟩
          cases j with
          | zero => simpa using hx
          | succ j => simpa using h3 j (by simpa using hj) (by omega)
        · rw [if_neg hx] at h1; simp [nats] at h1
    · rintro ⟨i, hi, h2, h3⟩
      cases i with
      | zero => left; simpa using h2.symm
      | succ i =>
        right
        have hx : L x.toNat = 0 := h3 0 (by simp) (by omega)
        rw [if_pos hx]
        exact ih.2 ⟨i, by simpa using hi, by simpa using h2, fun j hj hji => h3 (j + 1) (by simpa using hj) (by omega)⟩
/-- What is known: the program's lengths, the specification's Nons. -/
theorem zero_iff {d : Bn} {L : List Int} {nl : List Bool} (hs : Snd d.terms.length (bps d) (Lf L)) (hq : ∀ p ∈ bps d, lnew (Lf L) p = false) (hn : Nsd d.terms.length (bps d) (Nf d.terms.length nl)) (hnq : ∀ p ∈ bps d, quN d.terms.length nl p) (x : Nat) : Nf d.terms.length nl x = true ↔ Lf L x = 0 := by
  rw [hn.zero hnq, hs.zero hq]
theorem edW {d : Bn} {L : Nat → Int} (hok : Bok d) (a b : Nat) : W.Ed d L (d.terms.length + a) (d.terms.length + b) ↔ En false d a b := by
  constructor
  · rintro ⟨k, hk, hl, hb⟩
    obtain ⟨i, hi, e⟩ := mem_nats_whl.1 hb
    exact ⟨k, i, hk, hl, hi, e, fun h => by cases h⟩
  · rintro ⟨k, i, hk, hl, hi, e, _⟩
    exact ⟨k, hk, hl, mem_nats_whl.2 ⟨i, hi, e⟩⟩
theorem edB {d : Bn} {L : Nat → Int} (hok : Bok d) (hs : Snd d.terms.length (bps d) L) (hq : ∀ p ∈ bps d, lnew L p = false) (a b : Nat) : B.Ed d L (d.terms.length + a) (d.terms.length + b) ↔ En true d a b := by
  constructor
  · rintro ⟨k, hk, hl, hb⟩
    obtain ⟨i, hi, e, hz⟩ := mem_nats_bgn.1 hb
    exact ⟨k, i, hk, hl, hi, e, fun _ j hj hji => (hs.zero hq _).1 (hz j hj hji)⟩
  · rintro ⟨k, i, hk, hl, hi, e, hz⟩
    exact ⟨k, hk, hl, mem_nats_bgn.2 ⟨i, hi, e, fun j hj hji => (hs.zero hq _).2 (hz rfl j hj hji)⟩⟩
/-- What begins symbols, found among those that may begin. -/
theorem bg_iff {nt : Nat} {z : Nat → Bool} {L : Nat → Int} {G : Nat → Int → Prop} (hz : ∀ x, z x = true ↔ L x = 0) {y : Int} : ∀ {r : List Int}, (∀ x ∈ r, 0 ≤ x) → (Bg nt z G r y ↔ ∃ s, s ∈ nats (bgn L r) ∧ if s < nt then y = s else G (s - nt) y) := by
  intro r
  induction r with
  | nil => intro _; simp [Bg, nats, bgn]
  | cons x r ih =>
    intro hr
    have e : nats (bgn L (x :: r)) = x.toNat :: nats (if L x.toNat = 0 then bgn L r else []) := rfl
    have hx0 := hr x (by simp)
    have ex : ((x.toNat : Nat) : Int) = x := by omega
    rw [e]
    unfold Bg
    constructor
    · rintro (h | ⟨h1, h2⟩)
      · exact ⟨x.toNat, by simp, by rw [ex]; exact h⟩
      · obtain ⟨s, hs, h3⟩ := (ih (fun x hx => hr x (List.mem_cons_of_mem _ hx))).1 h2
        exact ⟨s, by rw [if_pos ((hz _).1 h1)]; exact List.mem_cons_of_mem _ hs, h3⟩
    · rintro ⟨s, hs, h3⟩
      rcases List.mem_cons.1 hs with rfl | hs
      · left; rw [ex] at h3; exact h3
      · by_cases hx : L x.toNat = 0
        · rw [if_pos hx] at hs
          exact .inr ⟨(hz _).2 hx, (ih (fun x hx => hr x (List.mem_cons_of_mem _ hx))).2 ⟨s, hs, h3⟩⟩
        · rw [if_neg hx] at hs; simp [nats] at hs
/-- A Non begins with a terminal just when one comes from it to the terminal. -/
theorem fst_tc {d : Bn} (hok : Bok d) {z : Nat → Bool} {L : Nat → Int} (hz : ∀ x, z x = true ↔ L x = 0) (n y : Nat) (hy : y < d.terms.length) : Fst d z n (y : Int) ↔ Tc (B.Ed d L) (d.terms.length + n) y := by
  have hr : ∀ k (hk : k < d.prods.length), ∀ x ∈ d.prods[k].right, 0 ≤ x := fun k hk x hx => by
    obtain ⟨i, hi, rfl⟩ := List.mem_iff_getElem.1 hx
    exact (hok.right k hk i hi).1
  constructor
  · intro h
    have h1 := h (fun n y => 0 ≤ y ∧ y < d.terms.length ∧ Tc (B.Ed d L) (d.terms.length + n) y.toNat) (fun k hk y hy => by
      obtain ⟨s, hs, h2⟩ := (bg_iff hz (hr k hk)).1 hy
      have hl := hok.left k hk
      have hE : B.Ed d L (d.terms.length + (d.prods[k].left.toNat - d.terms.length)) s := ⟨k, hk, by omega, hs⟩
      by_cases e : s < d.terms.length
      · rw [if_pos e] at h2
        subst h2
        exact ⟨by omega, by omega, Tc.one (by simpa using hE)⟩
      · rw [if_neg e] at h2
        obtain ⟨h3, h4, h5⟩ := h2
        refine ⟨h3, h4, Tc.step hE ?_⟩
        have e2 : d.terms.length + (s - d.terms.length) = s := by omega
        rw [e2] at h5
        exact h5)
    simpa using h1.2.2
  · intro h
    have key : ∀ a b, Tc (B.Ed d L) a b → b < d.terms.length → Fst d z (a - d.terms.length) (b : Int) := by
      intro a b hab
      induction hab using Tc.ind with
      | one h1 =>
        rename_i a b
        intro hb
        obtain ⟨k, hk, rfl, hs⟩ := h1
        exact Fst.closed d z k hk _ ((bg_iff hz (hr k hk)).2 ⟨_, hs, by rw [if_pos hb]⟩)
      | step h1 h2 ih =>
        rename_i a c b
        intro hb
        obtain ⟨k, hk, rfl, hs⟩ := h1
        obtain ⟨c', hc'⟩ := h2.fst
        have hc := (B.non hok hc').1
        exact Fst.closed d z k hk _ ((bg_iff hz (hr k hk)).2 ⟨_, hs, by rw [if_neg (by omega)]; exact ih hb⟩)
    have := key _ _ h hy
    have e : d.terms.length + n - d.terms.length = n := by omega
    rw [e] at this
    exact this
/-- What follows may be gathered of what begins. -/
theorem folH {d : Bn} (hok : Bok d) {z : Nat → Bool} {L : List Int} (hz : ∀ x, z x = true ↔ Lf L x = 0) {WB WF : List Nat} (hlen : WB.length = (d.terms.length + d.nons.length) * 3) (hs : ∀ a y, y < 192 → mem WB a y = true → Tc (B.Ed d (Lf L)) a y) (hq : ∀ k, k < d.prods.length → B.newW d L WB k = false) (hf : FsA WB (d.terms.length + d.nons.length) d.terms.length (d.terms.length + d.nons.length) 0 WF) : FolH d z (Fst d z) L WF := by
  refine ⟨fun x _ => hz x, fun s hsN y hy => ?_⟩
  rw [hf.2.2 s y hsN hy]
  have hs1 : (decide (s < d.terms.length + d.nons.length) || decide (s = d.terms.length + d.nons.length) && decide (y < 0)) = true := by simp [hsN]
  rw [hs1, Bool.true_and, Bool.and_eq_true, Bool.or_eq_true, decide_eq_true_eq, decide_eq_true_eq]
  by_cases e : s < d.terms.length
  · rw [if_pos e]
    constructor
    · rintro ⟨h1, h2 | h2⟩
      · exact h2.symm
      · exfalso
        obtain ⟨c, hc⟩ := (hs s y hy h2).fst
        have := (B.non hok hc).1
        omega
    · rintro rfl
      exact ⟨e, .inl rfl⟩
  · rw [if_neg e]
    have e2 : d.terms.length + (s - d.terms.length) = s := by omega
    constructor
    · rintro ⟨h1, h2 | h2⟩
      · omega
      · have := hs s y hy h2
        rw [← e2] at this
        exact (fst_tc hok hz _ _ h1).2 this
    · intro h
      have hr := h.range hok
      have hyt : y < d.terms.length := by omega
      have h1 := (fst_tc hok hz _ _ hyt).1 h
      rw [e2] at h1
      exact ⟨hyt, .inr (B.led_all hok rfl hlen hq h1).2⟩
end Go.Proofs.YtjpjjfgdgieapaaDoor

/-! Pure: what both sides answer is the same. -/
namespace Go.Proofs.YtjpjjfgdgieapaaDoor
open Go.RowKit Go.Deep
set_option linter.unusedVariables false
set_option maxRecDepth 100000
set_option linter.unusedSimpArgs false

theorem ascI_asc (W : List Nat) (l p : Nat) : Asc (ascI W l p) := by
  unfold Asc ascI filt
  rw [List.pairwise_map]
  exact (List.pairwise_lt_range.filter _).imp (fun h => by omega)
theorem ascI_mem (W : List Nat) (l p : Nat) (x : Int) : x ∈ ascI W l p ↔ ∃ y : Nat, x = y ∧ y < p ∧ mem W l y = true := by
  unfold ascI filt
  simp only [List.mem_map, List.mem_filter, List.mem_range]
  constructor
  · rintro ⟨y, ⟨h1, h2⟩, rfl⟩; exact ⟨y, rfl, h1, h2⟩
  · rintro ⟨y, rfl, h1, h2⟩; exact ⟨y, ⟨h1, h2⟩, rfl⟩
theorem map_range_eq {α : Type} {n : Nat} {f : Nat → α} {l : List α} (hl : l.length = n) (h : ∀ i (hi : i < l.length), f i = l[i]) : (List.range n).map f = l := by
  refine List.ext_getElem (by simp [hl]) (fun i h1 h2 => ?_)
  simp only [List.getElem_map, List.getElem_range]
  exact h i h2
/-- Both sides' fields are the same. -/
theorem fields_eq {d : Bn} (hok : Bok d) {L : List Int} {Rr WW WB WF WO : List Nat} {nl : List Bool} {M : List Int} {F O : List (List Int)} {FA FL : Nat → Nat → Bool}
    (hs : Snd d.terms.length (bps d) (Lf L)) (hq : ∀ p ∈ bps d, lnew (Lf L) p = false)
    (hRr : ∀ y, y < 192 → (mem Rr 0 y = true ↔ y = d.terms.length ∨ mem WW d.terms.length y = true)) (hWl : WW.length = (d.terms.length + d.nons.length) * 3) (hWs : ∀ a y, y < 192 → mem WW a y = true → Tc (W.Ed d (Lf L)) a y) (hWq : ∀ k, k < d.prods.length → W.newW d L WW k = false)
    (hBl : WB.length = (d.terms.length + d.nons.length) * 3) (hBs : ∀ a y, y < 192 → mem WB a y = true → Tc (B.Ed d (Lf L)) a y) (hBq : ∀ k, k < d.prods.length → B.newW d L WB k = false) (hFs : FsA WB (d.terms.length + d.nons.length) d.terms.length (d.terms.length + d.nons.length) 0 WF)
    (hO : ∀ n y, n < d.nons.length → y < 192 → (mem WO (d.terms.length + n) y = true ↔ Fol d (Nf d.terms.length nl) (Fst d (Nf d.terms.length nl)) n y))
    (hn : nl.length = d.nons.length ∧ Nsd d.terms.length (bps d) (Nf d.terms.length nl) ∧ ∀ p ∈ bps d, quN d.terms.length nl p) (hm : M.length = d.nons.length ∧ Snd d.terms.length (bps d) (Mf d.terms.length M) ∧ ∀ p ∈ bps d, lnew (Mf d.terms.length M) p = false)
    (hFl : F.length = d.nons.length) (hOl : O.length = d.nons.length) (hF : OkF d nl F ∧ ∀ n y, y ∈ F.getD n [] ↔ Fst d (Nf d.terms.length nl) n y) (hO2 : OkO d nl O ∧ ∀ n y, y ∈ O.getD n [] ↔ Fol d (Nf d.terms.length nl) (Fst d (Nf d.terms.length nl)) n y) (hA : ∀ a b, FA a b = true ↔ Tc (En false d) a b) (hL : ∀ a b, FL a b = true ↔ Tc (En true d) a b) :
    (List.range d.nons.length).map (fun i => Lf L (d.terms.length + i) == 0) = nl ∧
    (∀ i, i < d.nons.length → (Lf L (d.terms.length + i) != -1) = decide (0 ≤ M.getD i 0)) ∧
    (∀ i, i < d.nons.length → mem Rr 0 (d.terms.length + i) = (i == 0 || FA 0 i)) ∧
    (∀ i, i < d.nons.length → mem WB (d.terms.length + i) (d.terms.length + i) = FL i i) ∧
    (List.range d.nons.length).map (fun i => Lf L (d.terms.length + i)) = M ∧
    (List.range d.nons.length).map (fun i => ascI WF (d.terms.length + i) 192) = F ∧
    (List.range d.nons.length).map (fun i => ascI WO (d.terms.length + i) 192) = O := by
  have h160 : d.terms.length + d.nons.length ≤ 160 := by have := hok.nt; have := hok.nn.2; omega
  have hM : ∀ i (hi : i < M.length), Lf L (d.terms.length + i) = M[i] := fun i hi => by
    rw [hs.uniq hq hm.2.1 hm.2.2, Mf_non hi]
  have hz := zero_iff hs hq hn.2.1 hn.2.2
  have hH := folH hok hz hBl hBs hBq hFs
  refine ⟨map_range_eq hn.1 (fun i hi => ?_), fun i hi => ?_, fun i hi => ?_, fun i hi => ?_, map_range_eq hm.1 hM, map_range_eq hFl (fun i hi => ?_), map_range_eq hOl (fun i hi => ?_)⟩
  · have h1 := hz (d.terms.length + i)
    have h2 : Nf d.terms.length nl (d.terms.length + i) = nl[i] := by
      unfold Nf
      rw [Nat.add_sub_cancel_left, getD_lt _ _ hi]
      simp
    rw [h2] at h1
    rw [Bool.eq_iff_iff, h1, beq_iff_eq]
  · have hi' : i < M.length := by rw [hm.1]; exact hi
    have h1 := hs.low (d.terms.length + i)
    rw [hM i hi'] at h1 ⊢
    rw [getD_lt _ _ hi', Bool.eq_iff_iff, bne_iff_ne, decide_eq_true_eq]
    omega
  · rw [Bool.eq_iff_iff, hRr _ (by omega), Bool.or_eq_true, beq_iff_eq, hA]
    have h1 : mem WW d.terms.length (d.terms.length + i) = true ↔ Tc (En false d) 0 i := by
      rw [← tc_shift (E := W.Ed d (Lf L)) (edW hok) (fun a b h => (W.non hok h).1) 0 i, Nat.add_zero]
      exact ⟨hWs _ _ (by omega), fun h => (W.led_all hok rfl hWl hWq h).2⟩
    rw [h1]
    constructor
    · rintro (h | h)
      · exact .inl (by omega)
      · exact .inr h
    · rintro (h | h)
      · exact .inl (by omega)
      · exact .inr h
  · rw [Bool.eq_iff_iff, hL, ← tc_shift (E := B.Ed d (Lf L)) (edB hok hs hq) (fun a b h => (B.non hok h).1) i i]
    exact ⟨hBs _ _ (by omega), fun h => (B.led_all hok rfl hBl hBq h).2⟩
  · have hi' : i < d.nons.length := by omega
    have h2 := hF.1.ok i
    rw [getD_lt _ _ hi] at h2
    refine asc_ext _ _ (ascI_asc _ _ _) h2.1 (fun x => ?_)
    rw [ascI_mem]
    have h3 := hF.2 i x
    rw [getD_lt _ _ hi] at h3
    rw [h3]
    constructor
    · rintro ⟨y, rfl, hy, hmm⟩
      have h4 := (hH.hf _ (by omega) y hy).1 hmm
      rw [if_neg (by omega), Nat.add_sub_cancel_left] at h4
      exact h4
    · intro h4
      have hr := h4.range hok
      refine ⟨x.toNat, by omega, by omega, ?_⟩
      rw [hH.hf _ (by omega) _ (by omega), if_neg (by omega), Nat.add_sub_cancel_left]
      have e : ((x.toNat : Nat) : Int) = x := by omega
      rw [e]
      exact h4
  · have hi' : i < d.nons.length := by omega
    have h2 := hO2.1.ok i
    rw [getD_lt _ _ hi] at h2
    refine asc_ext _ _ (ascI_asc _ _ _) h2.1 (fun x => ?_)
    rw [ascI_mem]
    have h3 := hO2.2 i x
    rw [getD_lt _ _ hi] at h3
    rw [h3]
    constructor
    · rintro ⟨y, rfl, hy, hmm⟩
      exact (hO i y hi' hy).1 hmm
    · intro h4
      have hr := h4.range hok (fun n y h => h.range hok)
      refine ⟨x.toNat, by omega, by have := hok.nt; omega, ?_⟩
      rw [hO i _ hi' (by have := hok.nt; omega)]
      have e : ((x.toNat : Nat) : Int) = x := by omega
      rw [e]
      exact h4
end Go.Proofs.YtjpjjfgdgieapaaDoor

/-! The law's comparisons and marks. -/
namespace Go.Proofs.YtjpjjfgdgieapaaDoor
open Go.RowKit Go.Deep
set_option linter.unusedVariables false
set_option maxRecDepth 100000
set_option linter.unusedSimpArgs false

/-- A row of booleans, as it lies. -/
def Bls (w : World) (l : List Bool) (v : Value) : Prop :=
  ∃ (a : Option Addr) (cap b off : Nat), v = .slice a l.length cap ∧ l.length ≤ cap ∧ cap ≤ maxLen ∧ (0 < l.length → a = some ⟨b, off, none⟩ ∧ True) ∧ ∀ i (hi : i < l.length), w.cell? ⟨b, off + i, none⟩ = some (.bool l[i])
theorem Bls.form {w : World} {l : List Bool} {v : Value} (h : Bls w l v) : ∃ a cap, v = .slice a l.length cap ∧ cap ≤ maxLen := by
  obtain ⟨a, cap, b, off, rfl, h1, h2, _⟩ := h
  exact ⟨_, _, rfl, h2⟩
theorem Bls.still {w w' : World} {l : List Bool} {v : Value} (h : Bls w l v) (hb : Below w.heap.size w w') : Bls w' l v := by
  obtain ⟨a, cap, b, off, hv, hc, hm, ha, hcell⟩ := h
  exact ⟨a, cap, b, off, hv, hc, hm, ha, fun i hi => (hb.cell (lt_of_cell (hcell i hi))).trans (hcell i hi)⟩
theorem own_bls {w : World} {B : Nat} {v : Value} {l : List Bool} (h : w.ownsRow B 4 1 v l.length (l.map .bool)) : Bls w l v := by
  obtain ⟨a, cap, g, rfl, h1, h2, h3, h4⟩ := own_cell h
  exact ⟨a, cap, g, 0, rfl, h1, h2, fun h => ⟨(h3 h).1, trivial⟩, fun i hi => by rw [Nat.zero_add]; exact h4 i _ (by simp [hi])⟩
/-- Marks in a row of booleans. -/
def cntb (k m : Nat) : List Value := (List.range m).map fun i => Value.bool ((k + i) % 3 == 0)
theorem cntb_len (k m : Nat) : (cntb k m).length = m := by simp [cntb]
theorem cntb_get (k m i : Nat) (h : i < m) : (cntb k m)[i]? = some (.bool ((k + i) % 3 == 0)) := by simp [cntb, h]
set_option maxHeartbeats 400000 in
theorem eqBls_any (l : List Bool) (v v' : Value) (w : World) (h : Bls w l v) (h' : Bls w l v') :
    Calls Tryd.prog 28 #[v, v'] w fun e w' => e = .returned (.bool true) ∧ Below w.heap.size w w' := by
  obtain ⟨a, cap, b, off, rfl, hc, hm, ha, hcell⟩ := h
  obtain ⟨a', cap', b', off', rfl, hc', hm', ha', hcell'⟩ := h'
  have HC := (show Hid _ from hcell); clear hcell
  have HA := (show Hid _ from ha); clear ha
  have HC' := (show Hid _ from hcell'); clear hcell'
  have HA' := (show Hid _ from ha'); clear ha'
  unfold maxLen at hm hm'
  go_enter Tryd.func28, Tryd.ntmps28
  go_wp2_with fail
  go_loopw [5] (fun i wr => ∃ j : Nat, j ≤ l.length ∧ i = .int .i64 j ∧ Below w.heap.size w wr) (fun i _ => l.length - (intOf i).toNat)
  case atStart => exact ⟨0, Nat.zero_le _, rfl, Below.refl _ _⟩
  case round =>
    obtain ⟨j, hj, rfl, hbel⟩ := hrel
    by_cases hlt : j < l.length
    · obtain ⟨rfl, _⟩ := HA.out (by omega)
      obtain ⟨rfl, _⟩ := HA'.out (by omega)
      have c0 := HC.out j hlt
      rw [← hbel.cell (lt_of_cell c0)] at c0
      have c1 := HC'.out j hlt
      rw [← hbel.cell (lt_of_cell c1)] at c1
      have hbd := hbel.drew
      go_wp2_with fail
      go_region
      all_goals
        go_wp2_with fail
        exact ⟨⟨j + 1, by omega, by go_num, hbd⟩, by simp [intOf]; omega⟩
    · go_wp2_with fail
      go_ret
      exact ⟨rfl, hbel⟩

set_option maxHeartbeats 800000 in
theorem eqRows_any {S S' : Nat → Prop} (ls : List (List Int)) (v v' : Value) (w : World) (h : IRows w S ls v) (h' : IRows w S' ls v') :
    Calls Tryd.prog 30 #[v, v'] w fun e w' => e = .returned (.bool true) ∧ Below w.heap.size w w' := by
  obtain ⟨a, cap, b, off, sv, rfl, hc, hm, ha, hcell, hr⟩ := h
  obtain ⟨a', cap', b', off', sv', rfl, hc', hm', ha', hcell', hr'⟩ := h'
  have HC := (show Hid _ from hcell); clear hcell
  have HA := (show Hid _ from ha); clear ha
  have HR := (show Hid _ from hr); clear hr
  have HC' := (show Hid _ from hcell'); clear hcell'
  have HA' := (show Hid _ from ha'); clear ha'
  have HR' := (show Hid _ from hr'); clear hr'
  unfold maxLen at hm hm'
  go_enter Tryd.func30, Tryd.ntmps30
  go_wp2_with fail
  go_loopw [5] (fun i wr => ∃ j : Nat, j ≤ ls.length ∧ i = .int .i64 j ∧ Below w.heap.size w wr) (fun i _ => ls.length - (intOf i).toNat)
  case atStart => exact ⟨0, Nat.zero_le _, rfl, Below.refl _ _⟩
  case round =>
    obtain ⟨j, hj, rfl, hbel⟩ := hrel
    by_cases hlt : j < ls.length
    · obtain ⟨rfl, _⟩ := HA.out (by omega)
      obtain ⟨rfl, _⟩ := HA'.out (by omega)
      have c0 := HC.out j hlt
      rw [← hbel.cell (lt_of_cell c0)] at c0
      have c1 := HC'.out j hlt
      rw [← hbel.cell (lt_of_cell c1)] at c1
      have hcl : Calls Tryd.prog 29 #[sv j, sv' j] wr.drew fun e w' => e = .returned (.bool true) ∧ Below wr.drew.heap.size wr.drew w' := eqInts_any ls[j] _ _ _ ((HR.out j hlt).still hbel.drew) ((HR'.out j hlt).still hbel.drew)
      have HCL := (show Hid _ from hcl); clear hcl
      obtain ⟨a2, cap2, e2, hm2⟩ := (HR.out j hlt).form
      obtain ⟨a3, cap3, e3, hm3⟩ := (HR'.out j hlt).form
      rw [e2] at c0 HCL
      rw [e3] at c1 HCL
      clear e2 e3
      generalize ls[j].length = n at *
      go_wp2_with fail
      go_region_with (go_at_call 29; refine Calls.mono HCL.out ?_; rintro e w1 ⟨rfl, hb1⟩)
      all_goals
        have hbw : Below w.heap.size w w1 := bel_trans hbel.drew hb1
        go_wp2_with fail
        exact ⟨⟨j + 1, by omega, by go_num, hbw⟩, by simp [intOf]; omega⟩
    · go_wp2_with fail
      go_ret
      exact ⟨rfl, hbel⟩

set_option maxHeartbeats 1600000 in
theorem markB_any (B n k : Nat) (v : Value) (cs : List Value) (w : World) (h : w.ownsRow B 4 1 v n cs) (hn : n ≤ 1048576) (hk : k ≤ 1125899906842624) :
    Calls Tryd.prog 37 #[v, .int .i64 k] w fun e w' => e = .returned (.int .i64 (k + n : Nat)) ∧ w.grownBy w' v.ownBlock ∧ w'.ownsRow B 4 1 v n (cntb k (n)) := by
  by_cases h0 : 0 < n
  case neg =>
    have hn0 : n = 0 := by omega
    obtain ⟨a, cap, g, rfl, _⟩ := own_cell h
    have hz : w.ownsRow B 4 1 (.slice a n cap) n (cntb k (n)) := by
      subst hn0
      exact own_zero h (by rw [cntb_len]; try omega)
    have HZ := (show Hid _ from hz)
    have hd : decide ((0 : Int) < (n : Int)) = false := by simp; omega
    have HN0 := (show Hid _ from hn0)
    clear h hz hn0
    go_enter Tryd.func37, Tryd.ntmps37
    go_wp2_with fail
    go_loopw [1, 5] (fun u i wr => u = .int .i64 k ∧ i = .int .i64 0 ∧ wr = w) (fun _ _ _ => 0)
    case atStart => exact ⟨rfl, rfl, rfl⟩
    case round =>
      obtain ⟨rfl, rfl, rfl⟩ := hrel
      go_wp2_with fail
      go_ret
      exact ⟨by rw [HN0.out]; rfl, grown_refl _ _, HZ.out⟩
  obtain ⟨g, cap, f0, rfl, hB, hnc, hcm, hr0⟩ := own_row h h0
  have HR0 := (show Hid _ from hr0)
  have HCM := (show Hid _ from hcm)
  unfold maxLen at hcm
  clear h hr0
  go_enter Tryd.func37, Tryd.ntmps37
  go_wp2_with fail
  go_loopw [1, 5] (fun u i wr => ∃ (j : Nat), j ≤ n ∧ i = .int .i64 j ∧ u = .int .i64 (k + j : Nat) ∧ w.grownBy wr (some g) ∧ ∃ f, wr.rowIs g 4 (cap * 1) f ∧ ∀ i, i < j → f i = .bool ((k + i) % 3 == 0)) (fun _ i _ => n - (intOf i).toNat)
  case atStart => exact ⟨0, Nat.zero_le _, rfl, rfl, grown_refl _ _, _, HR0.out, fun i hi => absurd hi (by omega)⟩
  case round =>
    obtain ⟨j, hj, rfl, rfl, hg, f, hrow, hf⟩ := hrel
    by_cases hlt : j < n
    · have hlt' := hlt
      have e0 := hrow.cell (i := j) (by omega)
      have z0 := hrow.frozen j
      have HR := (show Hid _ from (⟨hrow, hf⟩ : _ ∧ _)); clear hrow hf
      go_wp2_with fail
      refine ⟨⟨j + 1, by omega, by go_num, by go_num, hg.trans (grown_set _ _ _ _), _, World.rowIs.set HR.out.1 j _, fun i hi => ?_⟩, by simp [intOf]; omega⟩
      by_cases e : i = j
      · subst e; simp; rw [Bool.eq_iff_iff, beq_iff_eq, beq_iff_eq]; omega
      · rw [if_neg e]; exact HR.out.2 i (by omega)
    · obtain rfl : j = n := by omega
      have HX := (show Hid _ from (⟨hg, row_own (B := B) (n := j) (cs := cntb k (j)) hrow hB hnc HCM.out (by rw [cntb_len]; try omega) (fun i hi => by rw [cntb_get k _ i (by omega), hf i (by omega)])⟩ : _ ∧ _))
      clear hrow hf hg
      go_wp2_with fail
      go_ret
      exact ⟨rfl, HX.out.1, HX.out.2⟩
set_option maxHeartbeats 1600000 in
theorem heldB_any (B n k : Nat) (v : Value) (w : World) (h : w.ownsRow B 4 1 v n (cntb k (n))) (hn : n ≤ 1048576) (hk : k ≤ 1125899906842624) :
    Calls Tryd.prog 40 #[v, .int .i64 k] w fun e w' => e = .returned (.int .i64 (k + n : Nat)) ∧ w' = w := by
  obtain ⟨a, cap, g, rfl, hnc, hcm, ha, hcell⟩ := own_cell h
  have HC := (show Hid (∀ i, i < n → w.cell? ⟨g, i, none⟩ = some (.bool ((k + i) % 3 == 0))) from fun i hi => hcell i _ (cntb_get k _ i hi))
  have HA := (show Hid _ from ha)
  unfold maxLen at hcm
  clear h hcell ha
  go_enter Tryd.func40, Tryd.ntmps40
  go_wp2_with fail
  go_loopw [1, 5] (fun u i wr => ∃ (j : Nat), j ≤ n ∧ i = .int .i64 j ∧ u = .int .i64 (k + j : Nat) ∧ wr = w) (fun _ i _ => n - (intOf i).toNat)
  case atStart => exact ⟨0, Nat.zero_le _, rfl, rfl, rfl⟩
  case round =>
    obtain ⟨j, hj, rfl, rfl, rfl⟩ := hrel
    by_cases hlt : j < n
    · have hlt' := hlt
      obtain ⟨rfl, hcb⟩ := HA.out (by omega)
      clear hcb
      have c0 := HC.out j (by omega)
      obtain ⟨bz, hbz⟩ : ∃ b, ((k + j) % 3 == 0) = b := ⟨_, rfl⟩
      have hm1 : (((k : Int) + (j : Int)) % 3 == 0) = bz := by rw [← hbz, Bool.eq_iff_iff, beq_iff_eq, beq_iff_eq]; omega
      have hne : (bz != bz) = false := by simp
      rw [hbz] at c0
      go_wp2_with fail
      exact ⟨⟨j + 1, by omega, by go_num, by go_num, trivial⟩, by simp [intOf]; omega⟩
    · obtain rfl : j = n := by omega
      go_wp2_with fail
      go_ret
      exact ⟨rfl, rfl⟩
end Go.Proofs.YtjpjjfgdgieapaaDoor
