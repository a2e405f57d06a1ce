import Derived.Test.YtjpjjfgdgieapaaDoorPa
import Derived.Test.YtjpjjfgdgieapaaDoorSn
/-! Words that symbols make, and the first of the shortest ones. Nothing here hangs on the program. -/
namespace Go.Proofs.YtjpjjfgdgieapaaDoor
set_option linter.unusedVariables false
set_option linter.unusedSimpArgs false

/-- The rank of a word among those of its length. -/
def rk : List Nat → Nat
  | [] => 0
  | a :: r => a * 256 ^ r.length + rk r
def sml (u : List Nat) : Prop := ∀ a ∈ u, a < 256
theorem rk_lt : ∀ (u : List Nat), sml u → rk u < 256 ^ u.length := by
  intro u
  induction u with
  | nil => intro _; simp [rk]
  | cons a r ih =>
    intro h
    have h1 := ih (fun x hx => h x (List.mem_cons_of_mem _ hx))
    have h2 : a < 256 := h a List.mem_cons_self
    rw [rk, List.length_cons, Nat.pow_succ]
    generalize 256 ^ r.length = K at *
    have h3 : a * K + K ≤ 256 * K := by
      have : (a + 1) * K ≤ 256 * K := Nat.mul_le_mul_right _ h2
      rw [Nat.add_mul, Nat.one_mul] at this
      exact this
    have h4 : K * 256 = 256 * K := Nat.mul_comm _ _
    omega
theorem rk_cons_lt {a b : Nat} {x y : List Nat} (hl : x.length = y.length) (hx : sml x) (h : a < b) : rk (a :: x) < rk (b :: y) := by
  have h1 := rk_lt x hx
  rw [rk, rk, ← hl]
  generalize 256 ^ x.length = K at *
  have h3 : a * K + K ≤ b * K := by
    have : (a + 1) * K ≤ b * K := Nat.mul_le_mul_right _ h
    rw [Nat.add_mul, Nat.one_mul] at this
    exact this
  omega
theorem rk_inj : ∀ (u v : List Nat), u.length = v.length → sml u → sml v → rk u = rk v → u = v := by
  intro u
  induction u with
  | nil => intro v hl _ _ _; cases v with
    | nil => rfl
    | cons b y => simp at hl
  | cons a x ih =>
    intro v hl hu hv h
    cases v with
    | nil => simp at hl
    | cons b y =>
      have hl' : x.length = y.length := by simpa using hl
      have hx : sml x := fun z hz => hu z (List.mem_cons_of_mem _ hz)
      have hy : sml y := fun z hz => hv z (List.mem_cons_of_mem _ hz)
      rcases Nat.lt_trichotomy a b with e | e | e
      · have := rk_cons_lt hl' hx e; omega
      · subst e
        rw [rk, rk, hl'] at h
        rw [ih y hl' hx hy (by omega)]
      · have := rk_cons_lt hl'.symm hy e; omega
theorem rk_append : ∀ (a b : List Nat), rk (a ++ b) = rk a * 256 ^ b.length + rk b := by
  intro a
  induction a with
  | nil => intro b; simp [rk]
  | cons x r ih =>
    intro b
    rw [List.cons_append, rk, rk, ih b, List.length_append, Nat.pow_add, Nat.add_mul]
    generalize 256 ^ r.length = K
    generalize 256 ^ b.length = M
    rw [Nat.mul_assoc]
    omega
theorem rk_app_le {a b c e : List Nat} (h1 : rk a ≤ rk c) (h2 : rk b ≤ rk e) (hl : b.length = e.length) : rk (a ++ b) ≤ rk (c ++ e) := by
  rw [rk_append, rk_append, hl]
  exact Nat.add_le_add (Nat.mul_le_mul_right _ h1) h2

/-- Symbols make this word, by a derivation that is not deeper than so. -/
def WoF (nt : Nat) (ps : List (Nat × List Nat)) : Nat → List Nat → List Nat → Prop
  | 0, _, _ => False
  | _ + 1, [], w => w = []
  | f + 1, x :: r, w => (∃ u, x < nt ∧ WoF nt ps f r u ∧ w = x :: u) ∨ (∃ p u v, p ∈ ps ∧ p.1 = x ∧ WoF nt ps f p.2 u ∧ WoF nt ps f r v ∧ w = u ++ v)
theorem WoF.up {nt : Nat} {ps : List (Nat × List Nat)} : ∀ (f : Nat) (r w : List Nat), WoF nt ps f r w → WoF nt ps (f + 1) r w := by
  intro f
  induction f with
  | zero => intro r w h; exact absurd h (by simp [WoF])
  | succ f ih =>
    intro r w h
    cases r with
    | nil => exact h
    | cons x r =>
      rcases h with ⟨u, hx, h1, e⟩ | ⟨p, u, v, hp, e1, h1, h2, e⟩
      · exact .inl ⟨u, hx, ih _ _ h1, e⟩
      · exact .inr ⟨p, u, v, hp, e1, ih _ _ h1, ih _ _ h2, e⟩
theorem WoF.mono {nt : Nat} {ps : List (Nat × List Nat)} {f : Nat} {r w : List Nat} (h : WoF nt ps f r w) : ∀ k, WoF nt ps (f + k) r w := by
  intro k
  induction k with
  | zero => exact h
  | succ k ih => exact WoF.up _ _ _ ih
/-- Symbols make this word. -/
def Wo (nt : Nat) (ps : List (Nat × List Nat)) (r w : List Nat) : Prop := ∃ f, WoF nt ps f r w
section
variable {nt : Nat} {ps : List (Nat × List Nat)}
theorem Wo.nil : Wo nt ps [] [] := ⟨1, rfl⟩
theorem Wo.term {x : Nat} {r u : List Nat} (hx : x < nt) (h : Wo nt ps r u) : Wo nt ps (x :: r) (x :: u) := by
  obtain ⟨f, hf⟩ := h
  exact ⟨f + 1, .inl ⟨u, hx, hf, rfl⟩⟩
theorem Wo.non {p : Nat × List Nat} {r u v : List Nat} (hp : p ∈ ps) (h1 : Wo nt ps p.2 u) (h2 : Wo nt ps r v) : Wo nt ps (p.1 :: r) (u ++ v) := by
  obtain ⟨f, hf⟩ := h1
  obtain ⟨g, hg⟩ := h2
  refine ⟨f + g + 1, .inr ⟨p, u, v, hp, rfl, hf.mono g, ?_, rfl⟩⟩
  rw [Nat.add_comm]
  exact hg.mono f
theorem Wo.nil_eq {w : List Nat} (h : Wo nt ps [] w) : w = [] := by
  obtain ⟨f, hf⟩ := h
  cases f with
  | zero => exact absurd hf (by simp [WoF])
  | succ f => exact hf
theorem Wo.cs {x : Nat} {r w : List Nat} (h : Wo nt ps (x :: r) w) : (∃ u, x < nt ∧ Wo nt ps r u ∧ w = x :: u) ∨ (∃ p u v, p ∈ ps ∧ p.1 = x ∧ Wo nt ps p.2 u ∧ Wo nt ps r v ∧ w = u ++ v) := by
  obtain ⟨f, hf⟩ := h
  cases f with
  | zero => exact absurd hf (by simp [WoF])
  | succ f =>
    rcases hf with ⟨u, hx, h1, e⟩ | ⟨p, u, v, hp, e1, h1, h2, e⟩
    · exact .inl ⟨u, hx, ⟨f, h1⟩, e⟩
    · exact .inr ⟨p, u, v, hp, e1, ⟨f, h1⟩, ⟨f, h2⟩, e⟩
theorem Wo.cons {x : Nat} {r u v : List Nat} (h : Wo nt ps [x] u) (k : Wo nt ps r v) : Wo nt ps (x :: r) (u ++ v) := by
  rcases h.cs with ⟨c, hx, h1, rfl⟩ | ⟨p, a, c, hp, rfl, h1, h2, rfl⟩
  · obtain rfl := h1.nil_eq; exact Wo.term hx k
  · obtain rfl := h2.nil_eq; rw [List.append_nil]; exact Wo.non hp h1 k
theorem Wo.lens {r w : List Nat} (h : Wo nt ps r w) : ∃ n, Lens nt ps r n ∧ n ≤ w.length := by
  obtain ⟨f, hf⟩ := h
  induction f generalizing r w with
  | zero => exact absurd hf (by simp [WoF])
  | succ f ih =>
    cases r with
    | nil => obtain rfl : w = [] := hf; exact ⟨0, Lens.nil, Nat.le_refl _⟩
    | cons x r =>
      rcases hf with ⟨u, hx, h1, rfl⟩ | ⟨p, u, v, hp, rfl, h1, h2, rfl⟩
      · obtain ⟨n, h3, h4⟩ := ih h1
        exact ⟨1 + n, Lens.term hx h3, by simp; omega⟩
      · obtain ⟨n, h3, h4⟩ := ih h1
        obtain ⟨m, h5, h6⟩ := ih h2
        refine ⟨min n 1000 + m, Lens.non hp h3 h5, ?_⟩
        rw [List.length_append]
        omega
theorem Wo.of_lens {r : List Nat} {n : Nat} (h : Lens nt ps r n) : n < 1000 → ∃ w, Wo nt ps r w ∧ w.length = n := by
  induction h using Lens.ind with
  | nil => intro _; exact ⟨[], Wo.nil, rfl⟩
  | term hx _ ih =>
    rename_i x n r _
    intro hn
    obtain ⟨w, h1, h2⟩ := ih (by omega)
    exact ⟨x :: w, Wo.term hx h1, by simp; omega⟩
  | non hp _ _ ih1 ih2 =>
    intro hn
    obtain ⟨u, h1, h2⟩ := ih1 (by omega)
    obtain ⟨v, h3, h4⟩ := ih2 (by omega)
    exact ⟨u ++ v, Wo.non hp h1 h3, by rw [List.length_append]; omega⟩
theorem Wo.sml {r w : List Nat} (h : Wo nt ps r w) (hnt : nt ≤ 256) : sml w := by
  obtain ⟨f, hf⟩ := h
  induction f generalizing r w with
  | zero => exact absurd hf (by simp [WoF])
  | succ f ih =>
    cases r with
    | nil => obtain rfl : w = [] := hf; intro a ha; simp at ha
    | cons x r =>
      rcases hf with ⟨u, hx, h1, rfl⟩ | ⟨p, u, v, hp, rfl, h1, h2, rfl⟩
      · intro a ha
        rcases List.mem_cons.1 ha with rfl | ha
        · omega
        · exact ih h1 a ha
      · intro a ha
        rcases List.mem_append.1 ha with ha | ha
        · exact ih h1 a ha
        · exact ih h2 a ha
/-- Words one behind the other. -/
def cat (W : Nat → List Nat) : List Nat → List Nat
  | [] => []
  | x :: r => W x ++ cat W r
theorem Wo.cat {W : Nat → List Nat} : ∀ (r : List Nat), (∀ x ∈ r, Wo nt ps [x] (W x)) → Wo nt ps r (cat W r) := by
  intro r
  induction r with
  | nil => intro _; exact Wo.nil
  | cons x r ih =>
    intro h
    exact Wo.cons (h x List.mem_cons_self) (ih fun y hy => h y (List.mem_cons_of_mem _ hy))
theorem cat_len {L : Nat → Int} {W : Nat → List Nat} : ∀ (r : List Nat) (s : Int), lsum L r = some s → (∀ x ∈ r, ((W x).length : Int) = L x) → ((Go.Proofs.YtjpjjfgdgieapaaDoor.cat W r).length : Int) = s := by
  intro r
  induction r with
  | nil => intro s hs _; simp only [lsum, Option.some.injEq] at hs; subst hs; rfl
  | cons x r ih =>
    intro s hs h
    rw [lsum] at hs
    by_cases hx : L x = -1
    · rw [if_pos hx] at hs; cases hs
    · rw [if_neg hx] at hs
      obtain ⟨t, ht, rfl⟩ := Option.map_eq_some_iff.1 hs
      have h1 := ih t ht fun y hy => h y (List.mem_cons_of_mem _ hy)
      have h2 := h x List.mem_cons_self
      rw [Go.Proofs.YtjpjjfgdgieapaaDoor.cat, List.length_append]
      omega
/-- Where no word is longer than its Least, and all together are, each one is just that. -/
theorem cat_full {L : Nat → Int} {W : Nat → List Nat} : ∀ (r : List Nat) (s : Int), lsum L r = some s → (∀ x ∈ r, ((W x).length : Int) ≤ L x) → ((Go.Proofs.YtjpjjfgdgieapaaDoor.cat W r).length : Int) ≤ s ∧ (((Go.Proofs.YtjpjjfgdgieapaaDoor.cat W r).length : Int) = s → ∀ x ∈ r, ((W x).length : Int) = L x) := by
  intro r
  induction r with
  | nil => intro s hs _; simp only [lsum, Option.some.injEq] at hs; subst hs; exact ⟨by simp [Go.Proofs.YtjpjjfgdgieapaaDoor.cat], fun _ x hx => by simp at hx⟩
  | cons x r ih =>
    intro s hs h
    rw [lsum] at hs
    by_cases hx : L x = -1
    · rw [if_pos hx] at hs; cases hs
    · rw [if_neg hx] at hs
      obtain ⟨t, ht, rfl⟩ := Option.map_eq_some_iff.1 hs
      obtain ⟨h1, h3⟩ := ih t ht fun y hy => h y (List.mem_cons_of_mem _ hy)
      have h2 := h x List.mem_cons_self
      rw [Go.Proofs.YtjpjjfgdgieapaaDoor.cat, List.length_append]
      refine ⟨by omega, fun e y hy => ?_⟩
      rcases List.mem_cons.1 hy with rfl | hy
      · omega
      · exact h3 (by omega) y hy
/-- Of a sum that is known each one is, and none is more. -/
theorem lsum_each {L : Nat → Int} (hlo : ∀ x, -1 ≤ L x) : ∀ (r : List Nat) (s : Int), lsum L r = some s → 0 ≤ s ∧ ∀ x ∈ r, 0 ≤ L x ∧ L x ≤ s := by
  intro r
  induction r with
  | nil => intro s hs; simp only [lsum, Option.some.injEq] at hs; exact ⟨by omega, fun x hx => by simp at hx⟩
  | cons x r ih =>
    intro s hs
    rw [lsum] at hs
    by_cases hx : L x = -1
    · rw [if_pos hx] at hs; cases hs
    · rw [if_neg hx] at hs
      obtain ⟨t, ht, rfl⟩ := Option.map_eq_some_iff.1 hs
      obtain ⟨h1, h2⟩ := ih t ht
      have h3 := hlo x
      refine ⟨by omega, fun y hy => ?_⟩
      rcases List.mem_cons.1 hy with rfl | hy
      · omega
      · have := h2 y hy; omega
/-- A word is not shorter than the Least. -/
theorem Snd.least {L : Nat → Int} (h : Snd nt ps L) (hq : ∀ p ∈ ps, lnew L p = false) {r w : List Nat} (hw : Wo nt ps r w) : ∃ s, lsum L r = some s ∧ 0 ≤ s ∧ s ≤ w.length := by
  obtain ⟨n, h1, h2⟩ := hw.lens
  obtain ⟨s, h3, h4, h5⟩ := h.all hq _ _ h1
  exact ⟨s, h3, h4, by omega⟩
/-- The first of the shortest words of a symbol. -/
structure Bst (nt : Nat) (ps : List (Nat × List Nat)) (L : Nat → Int) (x : Nat) (u : List Nat) : Prop where
  made : Wo nt ps [x] u
  len : (u.length : Int) = L x
  least : ∀ v, Wo nt ps [x] v → v.length = u.length → rk u ≤ rk v
theorem Bst.uniq {L : Nat → Int} {x : Nat} {u v : List Nat} (hnt : nt ≤ 256) (h : Bst nt ps L x u) (k : Bst nt ps L x v) : u = v := by
  have hl : u.length = v.length := by have := h.len; have := k.len; omega
  exact rk_inj u v hl (h.made.sml hnt) (k.made.sml hnt) (Nat.le_antisymm (h.least v k.made hl.symm) (k.least u h.made hl))
/-- What is known, when nothing is news, is the first of the shortest ones. -/
theorem bst_of {L : Nat → Int} (h : Snd nt ps L) (hq : ∀ p ∈ ps, lnew L p = false) (K : Nat → Bool) (W : Nat → List Nat)
    (hs : ∀ x, 0 ≤ L x → L x ≤ 200 → K x = true → Wo nt ps [x] (W x) ∧ ((W x).length : Int) = L x)
    (ht : ∀ x, x < nt → K x = true ∧ W x = [x])
    (hn : ∀ p ∈ ps, 0 ≤ L p.1 → L p.1 ≤ 200 → lof L p.2 = L p.1 → (∀ x ∈ p.2, K x = true) → K p.1 = true ∧ rk (W p.1) ≤ rk (cat W p.2)) :
    ∀ x, 0 ≤ L x → L x ≤ 200 → K x = true ∧ Bst nt ps L x (W x) := by
  have key : ∀ (f : Nat) (r w : List Nat), WoF nt ps f r w → ∀ s, lsum L r = some s → (w.length : Int) = s → s ≤ 200 → (∀ x ∈ r, K x = true) ∧ rk (cat W r) ≤ rk w := by
    intro f
    induction f with
    | zero => intro r w hw; exact absurd hw (by simp [WoF])
    | succ f ih =>
      intro r w hw s hsum hlen h200
      cases r with
      | nil => obtain rfl : w = [] := hw; exact ⟨fun x hx => by simp at hx, by simp [cat, rk]⟩
      | cons x r =>
        have hx1 : ¬ L x = -1 := fun e => by rw [lsum, if_pos e] at hsum; cases hsum
        rw [lsum, if_neg hx1] at hsum
        obtain ⟨t, ht2, rfl⟩ := Option.map_eq_some_iff.1 hsum
        have hlx := h.low x
        obtain ⟨ht0, hte⟩ := lsum_each h.low r t ht2
        rcases hw with ⟨u, hx, h1, rfl⟩ | ⟨p, u, v, hp, rfl, h1, h2, rfl⟩
        · have htm := h.tm x hx
          rw [List.length_cons] at hlen
          obtain ⟨h3, h4⟩ := ih r u h1 t ht2 (by omega) (by omega)
          obtain ⟨h5, h6⟩ := ht x hx
          refine ⟨fun y hy => ?_, ?_⟩
          · rcases List.mem_cons.1 hy with rfl | hy
            · exact h5
            · exact h3 y hy
          · rw [cat, h6]
            have hcl := cat_len (W := W) r t ht2 (fun y hy => (hs y (hte y hy).1 (by have := (hte y hy).2; omega) (h3 y hy)).2)
            have : x :: u = [x] ++ u := rfl
            rw [this]
            exact rk_app_le (Nat.le_refl _) h4 (by omega)
        · rw [List.length_append] at hlen
          obtain ⟨s2, g1, g2, g3⟩ := h.least hq ⟨f, h1⟩
          obtain ⟨t2, g4, g5, g6⟩ := h.least hq ⟨f, h2⟩
          rw [ht2] at g4
          cases g4
          have hnew := hq p hp
          unfold lnew lof at hnew
          rw [g1] at hnew
          simp only [Bool.not_eq_false', Bool.or_eq_true, beq_iff_eq, Bool.and_eq_true, bne_iff_ne, ne_eq, decide_eq_true_eq] at hnew
          have hk : L p.1 ≤ min s2 1000 := by
            rcases hnew with e | e
            · omega
            · exact e.2
          obtain ⟨h3, h4⟩ := ih p.2 u h1 s2 g1 (by omega) (by omega)
          obtain ⟨h5, h6⟩ := ih r v h2 t ht2 (by omega) (by omega)
          have hlof : lof L p.2 = L p.1 := by unfold lof; rw [g1]; show min s2 1000 = _; omega
          obtain ⟨h7, h8⟩ := hn p hp (by omega) (by omega) hlof h3
          refine ⟨fun y hy => ?_, ?_⟩
          · rcases List.mem_cons.1 hy with rfl | hy
            · exact h7
            · exact h5 y hy
          · rw [cat]
            have hcl := cat_len (W := W) r t ht2 (fun y hy => (hs y (hte y hy).1 (by have := (hte y hy).2; omega) (h5 y hy)).2)
            exact rk_app_le (Nat.le_trans h8 h4) h6 (by omega)
  intro x hx0 hx2
  have hne : ¬ L x = -1 := by omega
  have hsum : lsum L [x] = some (L x) := by rw [lsum, if_neg hne, lsum]; simp
  obtain ⟨w, h1, h2⟩ := Wo.of_lens (h.is x hx0) (by omega)
  obtain ⟨f, hf⟩ := h1
  have hk := (key f [x] w hf _ hsum (by omega) hx2).1 x List.mem_cons_self
  obtain ⟨g1, g2⟩ := hs x hx0 hx2 hk
  refine ⟨hk, g1, g2, fun v ⟨f, hv⟩ hl => ?_⟩
  have := (key f [x] v hv _ hsum (by omega) hx2).2
  rw [cat, cat, List.append_nil] at this
  exact this
end
/-- The Least is one. -/
theorem Snd.uniq {nt : Nat} {ps : List (Nat × List Nat)} {L M : Nat → Int} (h : Snd nt ps L) (hq : ∀ p ∈ ps, lnew L p = false) (k : Snd nt ps M) (kq : ∀ p ∈ ps, lnew M p = false) (x : Nat) : L x = M x := by
  have one : ∀ {A B : Nat → Int}, Snd nt ps A → (∀ p ∈ ps, lnew A p = false) → Snd nt ps B → 0 ≤ B x → 0 ≤ A x ∧ A x ≤ B x := by
    intro A B hA hqA hB hb
    obtain ⟨s, h1, h2, h3⟩ := hA.all hqA _ _ (hB.is x hb)
    rw [lsum] at h1
    by_cases e : A x = -1
    · rw [if_pos e] at h1; cases h1
    · rw [if_neg e] at h1
      simp [lsum] at h1
      have := hA.low x
      omega
  have h1 := h.low x
  have h2 := k.low x
  by_cases e : 0 ≤ L x
  · have a := one k kq h e
    have b := one h hq k a.1
    omega
  · by_cases e2 : 0 ≤ M x
    · have b := one h hq k e2
      omega
    · omega
/-- A sum that gets less at one place, and nowhere more. -/
theorem sum_lt {f g : Nat → Nat} : ∀ (l : List Nat), (∀ i ∈ l, f i ≤ g i) → ∀ x ∈ l, f x < g x → (l.map f).sum < (l.map g).sum := by
  intro l
  induction l with
  | nil => intro _ x hx; simp at hx
  | cons y r ih =>
    intro hle x hx h
    rw [List.map_cons, List.map_cons, List.sum_cons, List.sum_cons]
    have h0 := hle y List.mem_cons_self
    have hr : (r.map f).sum ≤ (r.map g).sum := by
      have : ∀ (l : List Nat), (∀ i ∈ l, f i ≤ g i) → (l.map f).sum ≤ (l.map g).sum := by
        intro l
        induction l with
        | nil => intro _; exact Nat.le_refl _
        | cons z q ih2 =>
          intro hh
          rw [List.map_cons, List.map_cons, List.sum_cons, List.sum_cons]
          exact Nat.add_le_add (hh z List.mem_cons_self) (ih2 fun i hi => hh i (List.mem_cons_of_mem _ hi))
      exact this r fun i hi => hle i (List.mem_cons_of_mem _ hi)
    rcases List.mem_cons.1 hx with rfl | hx
    · omega
    · have := ih (fun i hi => hle i (List.mem_cons_of_mem _ hi)) x hx h
      omega
end Go.Proofs.YtjpjjfgdgieapaaDoor

/-! The specification: l04Sum. -/
namespace Go.Proofs.YtjpjjfgdgieapaaDoor
open Go.RowKit Go.Deep
set_option linter.unusedVariables false
set_option maxRecDepth 100000
set_option linter.unusedSimpArgs false

/-- The Least of each symbol, by that of the Nons. -/
def Mf (nt : Nat) (M : List Int) : Nat → Int := fun x => if x < nt then 1 else M.getD (x - nt) (-1)
theorem Mf_tm {nt : Nat} {M : List Int} {x : Nat} (h : x < nt) : Mf nt M x = 1 := by unfold Mf; rw [if_pos h]
theorem Mf_non {nt : Nat} {M : List Int} {y : Nat} (h : y < M.length) : Mf nt M (nt + y) = M[y] := by
  unfold Mf
  rw [if_neg (by omega)]
  have : nt + y - nt = y := by omega
  rw [this, getD_lt _ _ h]
theorem Mf_set {nt : Nat} {M : List Int} {y : Nat} (hy : y < M.length) (u : Int) : Mf nt (M.set y u) = upd (Mf nt M) (nt + y) u := by
  funext x
  unfold Mf upd
  by_cases e : x = nt + y
  · subst e
    rw [if_pos rfl, if_neg (by omega)]
    have e1 : nt + y - nt = y := by omega
    rw [e1]
    simp [List.getD_eq_getElem?_getD, hy]
  · rw [if_neg e]
    dsimp only
    by_cases h : x < nt
    · rw [if_pos h, if_pos h]
    · rw [if_neg h, if_neg h]
      have e2 : (M.set y u)[x - nt]? = M[x - nt]? := List.getElem?_set_ne (fun h : y = x - nt => e (by omega))
      simp [List.getD_eq_getElem?_getD, e2]
theorem irow_cell {w : World} {b : Nat} {L : List Int} (h : IRow w b L) {x : Nat} (hx : x < L.length) : w.cell? ⟨b, x, none⟩ = some (.int .i64 L[x]) := by
  have := World.rowIs.cell h hx
  simpa [List.getD_eq_getElem?_getD, hx] using this
theorem irow_still {w w' : World} {b : Nat} {L : List Int} (h : IRow w b L) (hb : Below w.heap.size w w') : IRow w' b L := World.rowIs.of_block h (hb.block b (World.rowIs.lt h))

set_option maxHeartbeats 6400000 in
theorem sum_any {S : Nat → Prop} (d : Bn) (a0 a1 a3 : Option Addr) (c0 c1 c3 n1 n3 : Nat) (b : Nat) (M r : List Int) (v : Value) (w : World) (hnt : d.terms.length ≤ 60) (hnl : M.length ≤ 100) (hb : IRow w b M) (hr : Ints w S r v) (hin : ∀ i (hi : i < r.length), 0 ≤ r[i] ∧ r[i] < ((d.terms.length + M.length : Nat) : Int)) (hlo : ∀ x, -1 ≤ Mf d.terms.length M x) (hto : ∀ x, Mf d.terms.length M x ≤ 1000) (hlen : r.length ≤ 12) :
    Calls Tryd.prog 53 #[.agg #[.slice a0 d.terms.length c0, .slice a1 n1 c1, .int .i64 d.own, .slice a3 n3 c3], .slice (some ⟨b, 0, none⟩) M.length M.length, v] w fun e w' => e = .returned (.int .i64 (lof (Mf d.terms.length M) (nats r))) ∧ Below w.heap.size w w' := by
  obtain ⟨a, cap, bb, off, rfl, hc, hm, ha, hcell⟩ := hr
  have HC := (show Hid _ from hcell); clear hcell
  have HA := (show Hid _ from ha); clear ha
  have HI := (show Hid _ from hin); clear hin
  have HBR := (show Hid _ from hb); clear hb
  have HLO := (show Hid _ from hlo); clear hlo
  have HTO := (show Hid _ from hto); clear hto
  unfold maxLen at hm
  generalize hR : lof (Mf d.terms.length M) (nats r) = R
  have HR := (show Hid _ from hR); clear hR
  have HX := (show Hid _ from Box.new w 38 [.slice a0 d.terms.length c0, .slice a1 n1 c1, .int .i64 d.own, .slice a3 n3 c3])
  have HB0 := (show Hid _ from bel_alloc w (.cells #[.slice a0 d.terms.length c0, .slice a1 n1 c1, .int .i64 d.own, .slice a3 n3 c3] 38))
  go_enter Tryd.func53, Tryd.ntmps53
  go_wp2_with fail
  go_loopw [7, 8] (fun u i wr => ∃ (s j : Nat), u = .int .i64 s ∧ i = .int .i64 j ∧ j ≤ r.length ∧ s ≤ 1000 * j ∧ Hid (Below w.heap.size w wr ∧ Box wr w.heap.size 38 [.slice a0 d.terms.length c0, .slice a1 n1 c1, .int .i64 d.own, .slice a3 n3 c3] ∧ lsum (Mf d.terms.length M) (nats r) = (lsum (Mf d.terms.length M) ((nats r).drop j)).map ((s : Int) + ·))) (fun _ i _ => r.length - (intOf i).toNat)
  case atStart =>
    refine ⟨0, 0, rfl, rfl, Nat.zero_le _, Nat.zero_le _, HB0.out, HX.out, ?_⟩
    rw [List.drop_zero]
    cases lsum (Mf d.terms.length M) (nats r) with
    | none => rfl
    | some t => simp
  case round =>
    obtain ⟨s, j, rfl, rfl, hj, hs, HJ⟩ := hrel
    by_cases hlt : j < r.length
    · have hlt' := hlt
      obtain ⟨rfl, _⟩ := HA.out (by omega)
      have q0 := HC.out j hlt'
      rw [← HJ.out.1.cell (lt_of_cell q0)] at q0
      obtain ⟨i1, i2⟩ := HI.out j hlt'
      have hE := HJ.out.2.2
      rw [nats_drop r j hlt'] at hE
      obtain ⟨x, hx⟩ : ∃ x : Nat, r[j] = x := ⟨r[j].toNat, by omega⟩
      rw [hx] at i1 i2 q0 hE
      rw [Int.toNat_natCast] at hE
      have T0 : wr.cell? ⟨w.heap.size, 0, none⟩ = some (.slice a0 d.terms.length c0) := HJ.out.2.1.cell 0 (by simp)
      have T1 : wr.cell? ⟨w.heap.size, 1, none⟩ = some (.slice a1 n1 c1) := HJ.out.2.1.cell 1 (by simp)
      have T2 : wr.cell? ⟨w.heap.size, 2, none⟩ = some (.int .i64 d.own) := HJ.out.2.1.cell 2 (by simp)
      have T3 : wr.cell? ⟨w.heap.size, 3, none⟩ = some (.slice a3 n3 c3) := HJ.out.2.1.cell 3 (by simp)
      have HV := (show Hid _ from non_any d a0 c0 (.slice a1 n1 c1) (.slice a3 n3 c3) x wr.drew (by omega) hnt)
      have HJ2 := (show Hid _ from (⟨HJ.out.1.drew, HJ.out.2.1.still ((Below.refl _ _).drew)⟩ : Below w.heap.size w wr.drew ∧ Box wr.drew w.heap.size 38 [.slice a0 d.terms.length c0, .slice a1 n1 c1, .int .i64 d.own, .slice a3 n3 c3]))
      have HE := (show Hid _ from hE); clear hE HJ hx
      by_cases ht : d.terms.length ≤ x
      · obtain ⟨y, hy⟩ : ∃ y, x = d.terms.length + y := ⟨x - d.terms.length, by omega⟩
        have hbl : y < M.length := by omega
        have hk : ((x : Int) - d.terms.length) = (y : Int) := by omega
        have hnf : Mf d.terms.length M x = M[y] := by rw [hy]; exact Mf_non hbl
        have HB2 := (show Hid _ from fun (w' : World) (hb' : Below w.heap.size w w') => irow_cell (irow_still HBR.out hb') hbl)
        rw [hk] at HV
        have hlx := HLO.out x
        have htx := HTO.out x
        rw [hnf] at hlx htx
        have hE := HE.out
        clear HE hk hy
        by_cases e : M[y] = -1
        · have HF : Hid (R = -1) := by
            show R = -1
            rw [← HR.out]
            unfold lof
            rw [hE]
            have : lsum (Mf d.terms.length M) (x :: (nats r).drop (j + 1)) = none := by rw [lsum, if_pos (by rw [hnf]; exact e)]
            rw [this]
            rfl
          rw [e] at HB2
          clear hE hnf hlx htx e
          go_wp2_with fail
          go_region_with (go_at_call 49; refine Calls.mono HV.out ?_; rintro e w1 ⟨rfl, hb1⟩; have hbw := bel_trans HJ2.out.1 hb1; have b1 := HB2.out w1 hbw; have HN := (show Hid _ from hbw); clear hbw hb1)
          all_goals
            go_wp2_with fail
            go_ret
            exact ⟨by rw [HF.out]; rfl, HN.out⟩
        · obtain ⟨z, hz⟩ : ∃ z : Nat, M[y] = z := ⟨M[y].toNat, by omega⟩
          have HF : Hid (lsum (Mf d.terms.length M) (nats r) = (lsum (Mf d.terms.length M) ((nats r).drop (j + 1))).map (((s + z : Nat) : Int) + ·)) := by
            show lsum (Mf d.terms.length M) (nats r) = _
            rw [hE]
            have : lsum (Mf d.terms.length M) (x :: (nats r).drop (j + 1)) = (lsum (Mf d.terms.length M) ((nats r).drop (j + 1))).map ((z : Int) + ·) := by rw [lsum, if_neg (by rw [hnf]; exact e), hnf, hz]
            rw [this]
            cases lsum (Mf d.terms.length M) ((nats r).drop (j + 1)) with
            | none => rfl
            | some t => simp; omega
          rw [hz] at HB2 htx
          clear hE hnf hlx e hz
          go_wp2_with fail
          go_region_with (go_at_call 49; refine Calls.mono HV.out ?_; rintro e w1 ⟨rfl, hb1⟩; have hbw := bel_trans HJ2.out.1 hb1; have b1 := HB2.out w1 hbw; have HN := (show Hid _ from (⟨hbw, Box.still HJ2.out.2 hb1, HF.out⟩ : _ ∧ _ ∧ _)); clear hbw hb1)
          all_goals
            go_wp2_with fail
            exact ⟨⟨s + z, j + 1, by go_num, by go_num, by omega, by omega, HN⟩, by simp [intOf]; omega⟩
      · have hx2 : x < d.terms.length := by omega
        have hnf := Mf_tm (M := M) hx2
        have hneg : decide ((x : Int) - d.terms.length < 0) = true := by simp; omega
        have hE := HE.out
        have HF : Hid (lsum (Mf d.terms.length M) (nats r) = (lsum (Mf d.terms.length M) ((nats r).drop (j + 1))).map (((s + 1 : Nat) : Int) + ·)) := by
          show lsum (Mf d.terms.length M) (nats r) = _
          rw [hE]
          have : lsum (Mf d.terms.length M) (x :: (nats r).drop (j + 1)) = (lsum (Mf d.terms.length M) ((nats r).drop (j + 1))).map ((1 : Int) + ·) := by rw [lsum, if_neg (by rw [hnf]; omega), hnf]
          rw [this]
          cases lsum (Mf d.terms.length M) ((nats r).drop (j + 1)) with
          | none => rfl
          | some t => simp; omega
        clear hE hnf HE
        go_wp2_with fail
        go_region_with (go_at_call 49; refine Calls.mono HV.out ?_; rintro e w1 ⟨rfl, hb1⟩; have hbw := bel_trans HJ2.out.1 hb1; have HN := (show Hid _ from (⟨hbw, Box.still HJ2.out.2 hb1, HF.out⟩ : _ ∧ _ ∧ _)); clear hbw hb1)
        all_goals
          go_wp2_with fail
          exact ⟨⟨s + 1, j + 1, by go_num, by go_num, by omega, by omega, HN⟩, by simp [intOf]; omega⟩
    · have hF : R = min (s : Int) 1000 := by
        have h1 := HJ.out.2.2
        rw [List.drop_eq_nil_of_le (by simp [nats]; omega)] at h1
        rw [← HR.out]
        unfold lof
        rw [h1]
        simp [lsum]
      have HN := (show Hid _ from HJ.out.1)
      clear HJ
      by_cases hs1 : 1000 < s
      · have hF2 : R = 1000 := by omega
        have HF := (show Hid _ from hF2)
        clear hF hF2
        go_wp2_with fail
        go_ret
        exact ⟨by rw [HF.out]; rfl, HN.out⟩
      · have hF2 : R = s := by omega
        have HF := (show Hid _ from hF2)
        clear hF hF2
        go_wp2_with fail
        go_ret
        exact ⟨by rw [HF.out]; rfl, HN.out⟩
end Go.Proofs.YtjpjjfgdgieapaaDoor
