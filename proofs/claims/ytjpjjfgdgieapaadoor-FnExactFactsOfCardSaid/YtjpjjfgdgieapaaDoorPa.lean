import Derived.Test.YtjpjjfgdgieapaaDoorBase
/-! What plain rules make: lengths, and what leads where. Nothing here hangs on the program. -/
namespace Go.Proofs.YtjpjjfgdgieapaaDoor
set_option linter.unusedVariables false
set_option linter.unusedSimpArgs false

/-- Symbols make a word of this length (a Non's at most 1000), by a derivation that is not deeper than so. -/
def LensF (nt : Nat) (ps : List (Nat × List Nat)) : Nat → List Nat → Nat → Prop
  | 0, _, _ => False
  | _ + 1, [], n => n = 0
  | f + 1, x :: r, n => (∃ k, x < nt ∧ LensF nt ps f r k ∧ n = 1 + k) ∨ (∃ p m k, p ∈ ps ∧ p.1 = x ∧ LensF nt ps f p.2 m ∧ LensF nt ps f r k ∧ n = min m 1000 + k)
theorem LensF.up {nt : Nat} {ps : List (Nat × List Nat)} : ∀ (f : Nat) (r : List Nat) (n : Nat), LensF nt ps f r n → LensF nt ps (f + 1) r n := by
  intro f
  induction f with
  | zero => intro r n h; exact absurd h (by simp [LensF])
  | succ f ih =>
    intro r n h
    cases r with
    | nil => exact h
    | cons x r =>
      rcases h with ⟨k, hx, h1, e⟩ | ⟨p, m, k, hp, e1, h1, h2, e⟩
      · exact .inl ⟨k, hx, ih _ _ h1, e⟩
      · exact .inr ⟨p, m, k, hp, e1, ih _ _ h1, ih _ _ h2, e⟩
theorem LensF.mono {nt : Nat} {ps : List (Nat × List Nat)} {f : Nat} {r : List Nat} {n : Nat} (h : LensF nt ps f r n) : ∀ k, LensF nt ps (f + k) r n := by
  intro k
  induction k with
  | zero => exact h
  | succ k ih => exact LensF.up _ _ _ ih
/-- Symbols make a word of this length (a Non's at most 1000). -/
def Lens (nt : Nat) (ps : List (Nat × List Nat)) (r : List Nat) (n : Nat) : Prop := ∃ f, LensF nt ps f r n
theorem Lens.nil {nt : Nat} {ps : List (Nat × List Nat)} : Lens nt ps [] 0 := ⟨1, rfl⟩
theorem Lens.term {nt : Nat} {ps : List (Nat × List Nat)} {x n : Nat} {r : List Nat} (hx : x < nt) (h : Lens nt ps r n) : Lens nt ps (x :: r) (1 + n) := by
  obtain ⟨f, hf⟩ := h
  exact ⟨f + 1, .inl ⟨n, hx, hf, rfl⟩⟩
theorem Lens.non {nt : Nat} {ps : List (Nat × List Nat)} {p : Nat × List Nat} {r : List Nat} {m n : Nat} (hp : p ∈ ps) (h1 : Lens nt ps p.2 m) (h2 : Lens nt ps r n) : Lens nt ps (p.1 :: r) (min m 1000 + n) := by
  obtain ⟨f, hf⟩ := h1
  obtain ⟨g, hg⟩ := h2
  refine ⟨f + g + 1, .inr ⟨p, m, n, hp, rfl, hf.mono g, ?_, rfl⟩⟩
  rw [Nat.add_comm]
  exact hg.mono f
theorem Lens.ind {nt : Nat} {ps : List (Nat × List Nat)} {motive : (r : List Nat) → (n : Nat) → Lens nt ps r n → Prop}
    (nil : motive [] 0 Lens.nil)
    (term : ∀ {x n : Nat} {r : List Nat} (hx : x < nt) (h : Lens nt ps r n), motive r n h → motive (x :: r) (1 + n) (Lens.term hx h))
    (non : ∀ {p : Nat × List Nat} {r : List Nat} {m n : Nat} (hp : p ∈ ps) (h1 : Lens nt ps p.2 m) (h2 : Lens nt ps r n), motive p.2 m h1 → motive r n h2 → motive (p.1 :: r) (min m 1000 + n) (Lens.non hp h1 h2))
    {r : List Nat} {n : Nat} (h : Lens nt ps r n) : motive r n h := by
  obtain ⟨f, hf⟩ := h
  have key : ∀ (f : Nat) (r : List Nat) (n : Nat), LensF nt ps f r n → ∀ h : Lens nt ps r n, motive r n h := by
    intro f
    induction f with
    | zero => intro r n h; exact absurd h (by simp [LensF])
    | succ f ih =>
      intro r n h h'
      cases r with
      | nil =>
        obtain rfl : n = 0 := h
        exact nil
      | cons x r =>
        rcases h with ⟨k, hx, h1, rfl⟩ | ⟨p, m, k, hp, rfl, h1, h2, rfl⟩
        · exact term hx ⟨f, h1⟩ (ih _ _ h1 _)
        · exact non hp ⟨f, h1⟩ ⟨f, h2⟩ (ih _ _ h1 _) (ih _ _ h2 _)
  exact key f r n hf _
theorem Lens.cs {nt : Nat} {ps : List (Nat × List Nat)} {x a : Nat} {r : List Nat} (h : Lens nt ps (x :: r) a) : (∃ k, x < nt ∧ Lens nt ps r k ∧ a = 1 + k) ∨ (∃ p m k, p ∈ ps ∧ p.1 = x ∧ Lens nt ps p.2 m ∧ Lens nt ps r k ∧ a = min m 1000 + k) := by
  obtain ⟨f, hf⟩ := h
  cases f with
  | zero => exact absurd hf (by simp [LensF])
  | succ f =>
    rcases hf with ⟨k, hx, h1, e⟩ | ⟨p, m, k, hp, e1, h1, h2, e⟩
    · exact .inl ⟨k, hx, ⟨f, h1⟩, e⟩
    · exact .inr ⟨p, m, k, hp, e1, ⟨f, h1⟩, ⟨f, h2⟩, e⟩
theorem Lens.nil_eq {nt : Nat} {ps : List (Nat × List Nat)} {a : Nat} (h : Lens nt ps [] a) : a = 0 := by
  obtain ⟨f, hf⟩ := h
  cases f with
  | zero => exact absurd hf (by simp [LensF])
  | succ f => exact hf
theorem Lens.cons {nt : Nat} {ps : List (Nat × List Nat)} {x a b : Nat} {r : List Nat} (h : Lens nt ps [x] a) (k : Lens nt ps r b) : Lens nt ps (x :: r) (a + b) := by
  rcases h.cs with ⟨c, hx, h1, rfl⟩ | ⟨p, m, c, hp, rfl, h1, h2, rfl⟩
  · obtain rfl := h1.nil_eq; exact Lens.term hx k
  · obtain rfl := h2.nil_eq; exact Lens.non hp h1 k
/-- The sum, where all are known. -/
def lsum (L : Nat → Int) : List Nat → Option Int
  | [] => some 0
  | x :: r => if L x = -1 then none else (lsum L r).map (L x + ·)
def lof (L : Nat → Int) (r : List Nat) : Int := match lsum L r with
  | none => -1
  | some s => min s 1000
/-- A shorter one is known by this Prod. -/
def lnew (L : Nat → Int) (p : Nat × List Nat) : Bool := !(lof L p.2 == -1 || (L p.1 != -1 && decide (L p.1 ≤ lof L p.2)))
/-- What is known is so. -/
structure Snd (nt : Nat) (ps : List (Nat × List Nat)) (L : Nat → Int) : Prop where
  low : ∀ x, -1 ≤ L x
  top : ∀ x, L x ≤ 1000
  tm : ∀ x, x < nt → L x = 1
  is : ∀ x, 0 ≤ L x → Lens nt ps [x] (L x).toNat
theorem lsum_sound {nt : Nat} {ps : List (Nat × List Nat)} {L : Nat → Int} (h : Snd nt ps L) : ∀ (r : List Nat) (s : Int), lsum L r = some s → 0 ≤ s ∧ Lens nt ps r s.toNat := by
  intro r
  induction r with
  | nil => intro s hs; simp only [lsum, Option.some.injEq] at hs; subst hs; exact ⟨Int.le_refl _, Lens.nil⟩
  | cons x r ih =>
    intro s hs
    rw [lsum] at hs
    by_cases hx : L x = -1
    · rw [if_pos hx] at hs; cases hs
    · rw [if_neg hx] at hs
      obtain ⟨t, ht, rfl⟩ := Option.map_eq_some_iff.1 hs
      obtain ⟨h1, h2⟩ := ih t ht
      have h3 := h.low x
      have h4 : 0 ≤ L x := by omega
      refine ⟨by omega, ?_⟩
      have e : (L x + t).toNat = (L x).toNat + t.toNat := by omega
      rw [e]
      exact Lens.cons (h.is x h4) h2
/-- The state with one more known. -/
def upd (L : Nat → Int) (x : Nat) (v : Int) : Nat → Int := fun y => if y = x then v else L y
theorem Snd.step {nt : Nat} {ps : List (Nat × List Nat)} {L : Nat → Int} (h : Snd nt ps L) {p : Nat × List Nat} (hp : p ∈ ps) (hl : nt ≤ p.1) (hn : lnew L p = true) : Snd nt ps (upd L p.1 (lof L p.2)) := by
  unfold lnew at hn
  simp only [Bool.not_eq_true', Bool.or_eq_false_iff] at hn
  have h1 : lof L p.2 ≠ -1 := by have := hn.1; simpa using this
  unfold lof at h1 ⊢
  cases hs : lsum L p.2 with
  | none => rw [hs] at h1; exact absurd rfl h1
  | some s =>
    obtain ⟨h2, h3⟩ := lsum_sound h _ _ hs
    simp only
    refine ⟨fun x => ?_, fun x => ?_, fun x hx => ?_, fun x hx => ?_⟩
    · unfold upd; split
      · omega
      · exact h.low x
    · unfold upd; split
      · omega
      · exact h.top x
    · unfold upd; rw [if_neg (by omega)]; exact h.tm x hx
    · unfold upd at hx ⊢
      by_cases e : x = p.1
      · rw [if_pos e]
        subst e
        have := Lens.non hp h3 Lens.nil
        have e2 : (min s 1000).toNat = min s.toNat 1000 + 0 := by omega
        rw [e2]
        exact this
      · rw [if_neg e] at hx ⊢
        exact h.is x hx
/-- When nothing is news, all that is so is known. -/
theorem Snd.all {nt : Nat} {ps : List (Nat × List Nat)} {L : Nat → Int} (h : Snd nt ps L) (hq : ∀ p ∈ ps, lnew L p = false) : ∀ r n, Lens nt ps r n → ∃ s, lsum L r = some s ∧ 0 ≤ s ∧ s ≤ n := by
  intro r n hl
  induction hl using Lens.ind with
  | nil => exact ⟨0, rfl, Int.le_refl _, Int.le_refl _⟩
  | term hx _ ih =>
    obtain ⟨s, h1, h2, h3⟩ := ih
    have := h.tm _ hx
    refine ⟨1 + s, ?_, by omega, by omega⟩
    rw [lsum, if_neg (by omega), h1, this]; rfl
  | non hp _ _ ih1 ih2 =>
    rename_i p r m n _ _
    obtain ⟨s, h1, h2, h3⟩ := ih1
    obtain ⟨t, g1, g2, g3⟩ := ih2
    have hn := hq _ hp
    unfold lnew lof at hn
    rw [h1] at hn
    simp only [Bool.not_eq_false', Bool.or_eq_true, beq_iff_eq, Bool.and_eq_true, bne_iff_ne, ne_eq, decide_eq_true_eq] at hn
    have hlow := h.low p.1
    have hk : 0 ≤ L p.1 ∧ L p.1 ≤ min s 1000 := by
      rcases hn with hn | hn
      · omega
      · omega
    refine ⟨L p.1 + t, ?_, by omega, by omega⟩
    rw [lsum, if_neg (by omega), g1]; rfl
theorem Snd.zero {nt : Nat} {ps : List (Nat × List Nat)} {L : Nat → Int} (h : Snd nt ps L) (hq : ∀ p ∈ ps, lnew L p = false) (x : Nat) : L x = 0 ↔ Lens nt ps [x] 0 := by
  constructor
  · intro hx
    have := h.is x (by omega)
    rw [hx] at this
    exact this
  · intro hl
    obtain ⟨s, h1, h2, h3⟩ := h.all hq _ _ hl
    rw [lsum] at h1
    by_cases e : L x = -1
    · rw [if_pos e] at h1; cases h1
    · rw [if_neg e] at h1
      simp [lsum] at h1
      have := h.low x
      omega

/-- Which make the empty word: what the specification keeps. -/
structure Nsd (nt : Nat) (ps : List (Nat × List Nat)) (N : Nat → Bool) : Prop where
  is : ∀ x, N x = true → nt ≤ x ∧ Lens nt ps [x] 0
def nall (N : Nat → Bool) (r : List Nat) : Bool := r.all N
theorem nall_lens {nt : Nat} {ps : List (Nat × List Nat)} {N : Nat → Bool} (h : Nsd nt ps N) (r : List Nat) (hr : nall N r = true) : Lens nt ps r 0 := by
  induction r with
  | nil => exact Lens.nil
  | cons x r ih =>
    unfold nall at hr ih
    simp only [List.all_cons, Bool.and_eq_true] at hr
    exact Lens.cons (a := 0) (h.is x hr.1).2 (ih hr.2)
def nupd (N : Nat → Bool) (x : Nat) : Nat → Bool := fun y => if y = x then true else N y
theorem Nsd.step {nt : Nat} {ps : List (Nat × List Nat)} {N : Nat → Bool} (h : Nsd nt ps N) {p : Nat × List Nat} (hp : p ∈ ps) (hl : nt ≤ p.1) (hn : nall N p.2 = true) : Nsd nt ps (nupd N p.1) := by
  refine ⟨fun x hx => ?_⟩
  unfold nupd at hx
  by_cases e : x = p.1
  · subst e
    refine ⟨hl, ?_⟩
    have := Lens.non hp (nall_lens h _ hn) Lens.nil
    simpa using this
  · rw [if_neg e] at hx
    exact h.is x hx
theorem Nsd.all {nt : Nat} {ps : List (Nat × List Nat)} {N : Nat → Bool} (hq : ∀ p ∈ ps, nall N p.2 = true → N p.1 = true) : ∀ r n, Lens nt ps r n → n = 0 → nall N r = true := by
  intro r n hl
  induction hl using Lens.ind with
  | nil => intro _; rfl
  | term _ _ _ => intro e; omega
  | non hp _ _ ih1 ih2 =>
    intro e
    have h1 := hq _ hp (ih1 (by omega))
    have h2 := ih2 (by omega)
    unfold nall at h2 ⊢
    simp only [List.all_cons, h1, h2, Bool.and_self]
theorem Nsd.zero {nt : Nat} {ps : List (Nat × List Nat)} {N : Nat → Bool} (h : Nsd nt ps N) (hq : ∀ p ∈ ps, nall N p.2 = true → N p.1 = true) (x : Nat) : N x = true ↔ Lens nt ps [x] 0 := by
  refine ⟨fun hx => (h.is x hx).2, fun hl => ?_⟩
  have := Nsd.all hq _ _ hl rfl
  unfold nall at this
  simpa using this

/-- One comes from a to b, by one step of E more than so many. -/
def TcF (E : Nat → Nat → Prop) : Nat → Nat → Nat → Prop
  | 0, a, b => E a b
  | f + 1, a, c => ∃ b, E a b ∧ TcF E f b c
/-- One comes from a to b, by steps of E. -/
def Tc (E : Nat → Nat → Prop) (a b : Nat) : Prop := ∃ f, TcF E f a b
theorem Tc.one {E : Nat → Nat → Prop} {a b : Nat} (h : E a b) : Tc E a b := ⟨0, h⟩
theorem Tc.step {E : Nat → Nat → Prop} {a b c : Nat} (h : E a b) (k : Tc E b c) : Tc E a c := by
  obtain ⟨f, hf⟩ := k
  exact ⟨f + 1, b, h, hf⟩
theorem Tc.ind {E : Nat → Nat → Prop} {motive : (a b : Nat) → Tc E a b → Prop} (one : ∀ {a b : Nat} (h : E a b), motive a b (Tc.one h)) (step : ∀ {a b c : Nat} (h : E a b) (k : Tc E b c), motive b c k → motive a c (Tc.step h k)) {a b : Nat} (h : Tc E a b) : motive a b h := by
  obtain ⟨f, hf⟩ := h
  have key : ∀ (f a b : Nat), TcF E f a b → ∀ h : Tc E a b, motive a b h := by
    intro f
    induction f with
    | zero => intro a b h h'; exact one h
    | succ f ih =>
      intro a c h h'
      obtain ⟨b, h1, h2⟩ := h
      exact step h1 ⟨f, h2⟩ (ih _ _ h2 _)
  exact key f a b hf _
theorem Tc.fst {E : Nat → Nat → Prop} {a b : Nat} (h : Tc E a b) : ∃ c, E a c := by
  obtain ⟨f, hf⟩ := h
  cases f with
  | zero => exact ⟨_, hf⟩
  | succ f => obtain ⟨c, h1, _⟩ := hf; exact ⟨c, h1⟩
theorem Tc.trans {E : Nat → Nat → Prop} {a b c : Nat} (h : Tc E a b) (k : Tc E b c) : Tc E a c := by
  induction h using Tc.ind with
  | one h => exact Tc.step h k
  | step h _ ih => exact Tc.step h (ih k)
theorem Tc.mono {E F : Nat → Nat → Prop} (hEF : ∀ a b, E a b → F a b) {a b : Nat} (h : Tc E a b) : Tc F a b := by
  induction h using Tc.ind with
  | one h => exact Tc.one (hEF _ _ h)
  | step h _ ih => exact Tc.step (hEF _ _ h) ih
/-- A walk of steps whose every end but the first has a step of F behind .. -/
theorem Tc.of_sub {E F : Nat → Nat → Prop} {P : Nat → Prop} (hEF : ∀ a b, E a b → P b → F a b) (hP : ∀ a b, E a b → P a) {a b : Nat} (h : Tc E a b) (hb : P b) : Tc F a b := by
  induction h using Tc.ind with
  | one h => exact Tc.one (hEF _ _ h hb)
  | step h k ih =>
    rename_i a' b' c'
    have hm : P b' := by
      obtain ⟨_, hk⟩ := k.fst
      exact hP _ _ hk
    exact Tc.step (hEF _ _ h hm) (ih hb)
end Go.Proofs.YtjpjjfgdgieapaaDoor
