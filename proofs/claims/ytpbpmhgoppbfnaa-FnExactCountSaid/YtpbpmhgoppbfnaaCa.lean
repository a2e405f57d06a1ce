import Derived.Test.YtpbpmhgoppbfnaaPc
/-! How many derivations there are: counts by depth, and one that goes by its own rule. Nothing here hangs on the program. -/
namespace Go.Proofs.Ytpbpmhgoppbfnaa
open Go.RowKit Go.Deep
set_option linter.unusedVariables false
set_option maxRecDepth 100000
set_option linter.unusedSimpArgs false

/-- The sum of the first k. -/
def sm (f : Nat → Nat) : Nat → Nat
  | 0 => 0
  | k + 1 => sm f k + f k
theorem sm_congr {f g : Nat → Nat} : ∀ {k : Nat}, (∀ t, t < k → f t = g t) → sm f k = sm g k
  | 0, _ => rfl
  | k + 1, h => by
    show sm f k + f k = sm g k + g k
    rw [sm_congr (fun t ht => h t (by omega)), h k (by omega)]
theorem sm_zero {f : Nat → Nat} : ∀ {k : Nat}, (∀ t, t < k → f t = 0) → sm f k = 0
  | 0, _ => rfl
  | k + 1, h => by
    show sm f k + f k = 0
    rw [sm_zero (fun t ht => h t (by omega)), h k (by omega)]
theorem sm_ne {f : Nat → Nat} : ∀ {k : Nat}, sm f k ≠ 0 → ∃ t, t < k ∧ f t ≠ 0
  | 0, h => absurd rfl h
  | k + 1, h => by
    by_cases h1 : f k = 0
    · have h2 : sm f k ≠ 0 := fun e => h (by show sm f k + f k = 0; omega)
      obtain ⟨t, ht, he⟩ := sm_ne h2
      exact ⟨t, by omega, he⟩
    · exact ⟨k, by omega, h1⟩
/-- Nothing ahead of a, and nothing from b on. -/
theorem sm_mid {f : Nat → Nat} {k b : Nat} (hb : b ≤ k) (h : ∀ t, b ≤ t → t < k → f t = 0) : sm f k = sm f b := by
  induction k with
  | zero =>
    obtain rfl : b = 0 := by omega
    rfl
  | succ k ih =>
    by_cases e : b = k + 1
    · rw [e]
    · show sm f k + f k = _
      rw [h k (by omega) (by omega), ih (by omega) (fun t h1 h2 => h t h1 (by omega))]
      omega
/-- No more than a million. -/
def cp (n : Nat) : Nat := min n 1000000
theorem cp_le (n : Nat) : cp n ≤ 1000000 := by unfold cp; omega
theorem cp_zero {n : Nat} : cp n = 0 ↔ n = 0 := by unfold cp; omega
theorem cp_add (a b : Nat) : cp (cp a + b) = cp (a + b) := by unfold cp; omega
theorem cp_add' (a b : Nat) : cp (cp a + cp b) = cp (a + b) := by unfold cp; omega
theorem cp_mul (a b : Nat) : cp (cp a * cp b) = cp (a * b) := by
  by_cases ha : a ≤ 1000000
  · by_cases hb : b ≤ 1000000
    · have e1 : cp a = a := by unfold cp; omega
      have e2 : cp b = b := by unfold cp; omega
      rw [e1, e2]
    · have e2 : cp b = 1000000 := by unfold cp; omega
      have e1 : cp a = a := by unfold cp; omega
      rw [e1, e2]
      by_cases h0 : a = 0
      · subst h0; simp
      · have h1 : 1 * 1000000 ≤ a * 1000000 := Nat.mul_le_mul_right _ (by omega)
        have h2 : 1 * b ≤ a * b := Nat.mul_le_mul_right _ (by omega)
        unfold cp; omega
  · have e1 : cp a = 1000000 := by unfold cp; omega
    rw [e1]
    by_cases h0 : b = 0
    · subst h0; simp [cp]
    · have h1 : 1000000 * 1 ≤ 1000000 * cp b := Nat.mul_le_mul_left _ (by unfold cp; omega)
      have h2 : a * 1 ≤ a * b := Nat.mul_le_mul_left _ (by omega)
      unfold cp at h1 ⊢; omega
theorem cp_step (s a b : Nat) : cp (cp s + cp a * cp b) = cp (s + a * b) := by
  rw [cp_add]
  have h := cp_mul a b
  unfold cp at h ⊢
  omega

/-- A terminal over a part of the word. -/
def tmc (W : List Int) (x i j : Nat) : Nat := if j = i + 1 ∧ W[i]? = some (x : Int) then 1 else 0
/-- Symbols over a part of the word, when this is how many there are of each one. -/
def LF (N : Nat → Nat → Nat → Nat) : List Nat → Nat → Nat → Nat
  | [], i, j => if i = j then 1 else 0
  | x :: r, i, j => sm (fun t => N x i (i + t) * LF N r (i + t) j) (j + 1 - i)
def pAt (ps : List (Nat × List Nat)) (k : Nat) : Nat × List Nat := ps.getD k (0, [])
/-- By derivations that are not deeper than so. -/
def NF (nt : Nat) (ps : List (Nat × List Nat)) (W : List Int) : Nat → Nat → Nat → Nat → Nat
  | 0, x, i, j => if x < nt then tmc W x i j else 0
  | f + 1, x, i, j => if x < nt then tmc W x i j else sm (fun k => if (pAt ps k).1 = x then LF (NF nt ps W f) (pAt ps k).2 i j else 0) ps.length
theorem NF_term {nt : Nat} {ps : List (Nat × List Nat)} {W : List Int} {f x i j : Nat} (hx : x < nt) : NF nt ps W f x i j = tmc W x i j := by
  cases f <;> (unfold NF; rw [if_pos hx])
theorem NF_non {nt : Nat} {ps : List (Nat × List Nat)} {W : List Int} {f x i j : Nat} (hx : nt ≤ x) : NF nt ps W (f + 1) x i j = sm (fun k => if (pAt ps k).1 = x then LF (NF nt ps W f) (pAt ps k).2 i j else 0) ps.length := by
  rw [NF, if_neg (by omega)]
theorem tmc_ne {W : List Int} {x i j : Nat} (h : tmc W x i j ≠ 0) : j = i + 1 := by
  unfold tmc at h
  split at h
  · rename_i h1; exact h1.1
  · exact absurd rfl h
/-- What counts is made. -/
def Mk1 (nt : Nat) (ps : List (Nat × List Nat)) (N : Nat → Nat → Nat → Nat) : Prop := ∀ x i j, N x i j ≠ 0 → i ≤ j ∧ (j - i ≤ 1000 → Lens nt ps [x] (j - i))
theorem LF_ne {nt : Nat} {ps : List (Nat × List Nat)} {N : Nat → Nat → Nat → Nat} (hN : Mk1 nt ps N) : ∀ (r : List Nat) (i j : Nat), LF N r i j ≠ 0 → i ≤ j ∧ (j - i ≤ 1000 → Lens nt ps r (j - i)) := by
  intro r
  induction r with
  | nil =>
    intro i j h
    unfold LF at h
    split at h
    · rename_i e
      subst e
      exact ⟨Nat.le_refl _, fun _ => by rw [Nat.sub_self]; exact Lens.nil⟩
    · exact absurd rfl h
  | cons x r ih =>
    intro i j h
    unfold LF at h
    obtain ⟨t, ht, he⟩ := sm_ne h
    have h1 : N x i (i + t) ≠ 0 := fun e => he (by rw [e, Nat.zero_mul])
    have h2 : LF N r (i + t) j ≠ 0 := fun e => he (by rw [e, Nat.mul_zero])
    obtain ⟨a1, a2⟩ := hN _ _ _ h1
    obtain ⟨b1, b2⟩ := ih _ _ h2
    refine ⟨by omega, fun hl => ?_⟩
    have := Lens.cons (a2 (by omega)) (b2 (by omega))
    rw [show j - i = i + t - i + (j - (i + t)) by omega]
    exact this
theorem pAt_mem {ps : List (Nat × List Nat)} {k : Nat} (h : k < ps.length) : pAt ps k ∈ ps := by
  unfold pAt
  rw [List.getD_eq_getElem?_getD, List.getElem?_eq_getElem h]
  exact List.getElem_mem h
theorem NF_mk (nt : Nat) (ps : List (Nat × List Nat)) (W : List Int) : ∀ f, Mk1 nt ps (NF nt ps W f) := by
  intro f
  induction f with
  | zero =>
    intro x i j h
    by_cases hx : x < nt
    · rw [NF_term hx] at h
      obtain rfl := tmc_ne h
      exact ⟨by omega, fun _ => by rw [show i + 1 - i = 1 + 0 by omega]; exact Lens.term hx Lens.nil⟩
    · unfold NF at h
      rw [if_neg hx] at h
      exact absurd rfl h
  | succ f ih =>
    intro x i j h
    by_cases hx : x < nt
    · rw [NF_term hx] at h
      obtain rfl := tmc_ne h
      exact ⟨by omega, fun _ => by rw [show i + 1 - i = 1 + 0 by omega]; exact Lens.term hx Lens.nil⟩
    · rw [NF_non (by omega)] at h
      obtain ⟨k, hk, he⟩ := sm_ne h
      by_cases hp : (pAt ps k).1 = x
      · rw [if_pos hp] at he
        obtain ⟨a1, a2⟩ := LF_ne ih _ _ _ he
        refine ⟨a1, fun hl => ?_⟩
        have := Lens.non (pAt_mem hk) (a2 hl) Lens.nil
        rw [hp] at this
        rw [show j - i = min (j - i) 1000 + 0 by omega]
        exact this
      · rw [if_neg hp] at he
        exact absurd rfl he
/-- What makes the empty word is made of such. -/
theorem Lens.each {nt : Nat} {ps : List (Nat × List Nat)} : ∀ {r : List Nat}, Lens nt ps r 0 → ∀ x ∈ r, Lens nt ps [x] 0 := by
  intro r
  induction r with
  | nil => intro _ x hx; simp at hx
  | cons y r ih =>
    intro h x hx
    rcases h.cs with ⟨k, _, _, e⟩ | ⟨p, m, k, hp, rfl, h1, h2, e⟩
    · omega
    · obtain rfl : k = 0 := by omega
      obtain rfl : m = 0 := by omega
      rcases List.mem_cons.1 hx with rfl | hx
      · have := Lens.non hp h1 Lens.nil
        simpa using this
      · exact ih h2 x hx
theorem Lens.cat0 {nt : Nat} {ps : List (Nat × List Nat)} {r : List Nat} {x : Nat} (h : Lens nt ps r 0) (hx : Lens nt ps [x] 0) : Lens nt ps (r ++ [x]) 0 := by
  induction r with
  | nil => exact hx
  | cons y r ih =>
    have h1 := Lens.each h y (by simp)
    have h2 : Lens nt ps r 0 := by
      rcases h.cs with ⟨k, _, _, e⟩ | ⟨p, m, k, hp, e1, _, h2, e⟩
      · omega
      · obtain rfl : k = 0 := by omega
        exact h2
    exact Lens.cons (a := 0) (b := 0) h1 (ih h2)
/-- Symbols have a height, where none makes itself: what a symbol leads to is lower. -/
theorem hgt (d : Bn) (hc : ¬ Cyc d) (M : Nat) : ∃ h : Nat → Nat, (∀ x, h x ≤ M) ∧ ∀ x y, y < M → Es d x y → h y < h x := by
  classical
  refine ⟨fun x => ((List.range M).filter (fun y => decide (Tc (Es d) x y))).length, fun x => ?_, fun x y hy he => ?_⟩
  · have := List.length_filter_le (fun y => decide (Tc (Es d) x y)) (List.range M)
    simpa using this
  · have hsub : ∀ (l : List Nat), y ∈ l → (l.filter (fun z => decide (Tc (Es d) y z))).length < (l.filter (fun z => decide (Tc (Es d) x z))).length := by
      have hle : ∀ (l : List Nat), (l.filter (fun z => decide (Tc (Es d) y z))).length ≤ (l.filter (fun z => decide (Tc (Es d) x z))).length := by
        intro l
        induction l with
        | nil => simp
        | cons z l ih =>
          rw [List.filter_cons, List.filter_cons]
          by_cases h1 : Tc (Es d) y z
          · have h2 : Tc (Es d) x z := Tc.step he h1
            simp [h1, h2]
            exact ih
          · by_cases h2 : Tc (Es d) x z
            · simp [h1, h2]
              omega
            · simp [h1, h2]
              exact ih
      intro l
      induction l with
      | nil => intro h; simp at h
      | cons z l ih =>
        intro h
        rw [List.filter_cons, List.filter_cons]
        have hyy : ¬ Tc (Es d) y y := fun h => hc ⟨y, h⟩
        by_cases e : z = y
        · subst e
          have h2 : Tc (Es d) x z := Tc.one he
          simp [hyy, h2]
          have := hle l
          omega
        · have hm : y ∈ l := by
            rcases List.mem_cons.1 h with h | h
            · exact absurd h.symm e
            · exact h
          have h3 := ih hm
          by_cases h1 : Tc (Es d) y z
          · have h2 : Tc (Es d) x z := Tc.step he h1
            simp [h1, h2]
            exact h3
          · by_cases h2 : Tc (Es d) x z
            · simp [h1, h2]
              omega
            · simp [h1, h2]
              exact h3
    exact hsub _ (List.mem_range.2 hy)
/-- The place of a question in the order in which they are answered. -/
def rnk (M : Nat) (h : Nat → Nat) (x i j : Nat) : Nat := (j - i) * (M + 1) + h x
theorem rnk_span {M : Nat} {h : Nat → Nat} (hh : ∀ x, h x ≤ M) {x y i j m m' : Nat} (hlt : m' - m < j - i) : rnk M h y m m' < rnk M h x i j := by
  unfold rnk
  have h1 := hh y
  have h2 : (m' - m + 1) * (M + 1) ≤ (j - i) * (M + 1) := Nat.mul_le_mul_right _ hlt
  rw [Nat.add_mul] at h2
  omega
/-- A symbol of a Right, with what stands ahead of it and behind it. -/
structure Spot (d : Bn) (x : Nat) (pre : List Nat) (y : Nat) (r : List Nat) : Prop where
  ex : ∃ k, ∃ hk : k < d.prods.length, d.prods[k].left.toNat = x ∧ nats d.prods[k].right = pre ++ y :: r
theorem Spot.es {d : Bn} {x y : Nat} {pre r : List Nat} (h : Spot d x pre y r) (h1 : Lens d.terms.length (bps d) pre 0) (h2 : Lens d.terms.length (bps d) r 0) : Es d x y := by
  obtain ⟨k, hk, e, hr⟩ := h.ex
  have hl : (nats d.prods[k].right).length = d.prods[k].right.length := by simp [nats]
  have hg : ∀ (j : Nat) (hj : j < d.prods[k].right.length), (pre ++ y :: r)[j]? = some d.prods[k].right[j].toNat := fun j hj => by
    rw [← hr]
    simp [nats, hj]
  have hpl : pre.length < d.prods[k].right.length := by rw [← hl, hr]; simp
  refine ⟨k, hk, e, pre.length, hpl, ?_, fun j hj hji => ?_⟩
  · have := hg pre.length hpl
    simpa using this.symm
  · have := hg j hj
    by_cases hlt : j < pre.length
    · rw [List.getElem?_append_left hlt] at this
      exact Lens.each h1 _ (List.mem_of_getElem? this)
    · rw [List.getElem?_append_right (by omega)] at this
      obtain ⟨q, hq⟩ : ∃ q, j - pre.length = q + 1 := ⟨j - pre.length - 1, by omega⟩
      rw [hq, List.getElem?_cons_succ] at this
      exact Lens.each h2 _ (List.mem_of_getElem? this)
/-- Of a part of a part: it is lower, when it can count at all. -/
theorem Spot.low {d : Bn} {M : Nat} {h : Nat → Nat} (hh : ∀ x, h x ≤ M) (hl : ∀ x y, y < M → Es d x y → h y < h x) {x y : Nat} {pre r : List Nat} (hs : Spot d x pre y r) (hy : y < M) {i j m m' : Nat} (him : i ≤ m) (hmm : m ≤ m') (hmj : m' ≤ j)
    (hp : m = i → Lens d.terms.length (bps d) pre 0) (hr : m' = j → Lens d.terms.length (bps d) r 0) : rnk M h y m m' < rnk M h x i j := by
  by_cases hlt : m' - m < j - i
  · exact rnk_span hh hlt
  · obtain rfl : m = i := by omega
    obtain rfl : m' = j := by omega
    have := hl x y hy (hs.es (hp rfl) (hr rfl))
    unfold rnk
    omega
theorem LF_eq {d : Bn} {M : Nat} {h : Nat → Nat} (hh : ∀ x, h x ≤ M) (hl : ∀ x y, y < M → Es d x y → h y < h x) {N N' : Nat → Nat → Nat → Nat} (hN : Mk1 d.terms.length (bps d) N) (hN' : Mk1 d.terms.length (bps d) N') {x i j : Nat} (hij : j - i ≤ 1000)
    (hst : ∀ y m m', y < M → i ≤ m → m ≤ m' → m' ≤ j → rnk M h y m m' < rnk M h x i j → N y m m' = N' y m m') {k : Nat} (hk : k < d.prods.length) (he : d.prods[k].left.toNat = x) :
    ∀ (r pre : List Nat), nats d.prods[k].right = pre ++ r → (∀ y ∈ r, y < M) → ∀ m, i ≤ m → m ≤ j → (m = i → Lens d.terms.length (bps d) pre 0) → LF N r m j = LF N' r m j := by
  intro r
  induction r with
  | nil => intro pre _ _ m _ _ _; rfl
  | cons y r ih =>
    intro pre hr hM m him hmj hp
    unfold LF
    refine sm_congr fun t ht => ?_
    by_cases c1 : Lens d.terms.length (bps d) r (j - (m + t))
    · by_cases c2 : Lens d.terms.length (bps d) [y] t
      · have e1 : N y m (m + t) = N' y m (m + t) := by
          refine hst y m (m + t) (hM y (by simp)) him (by omega) (by omega) ?_
          exact Spot.low hh hl (pre := pre) (r := r) ⟨k, hk, he, hr⟩ (hM y (by simp)) him (by omega) (by omega) hp (fun e => by rw [← e, Nat.sub_self] at c1; exact c1)
        have e2 : LF N r (m + t) j = LF N' r (m + t) j := by
          refine ih (pre ++ [y]) (by rw [hr]; simp) (fun z hz => hM z (by simp [hz])) (m + t) (by omega) (by omega) fun e => ?_
          have hm : m = i := by omega
          have ht0 : t = 0 := by omega
          subst ht0
          exact Lens.cat0 (hp hm) c2
        rw [e1, e2]
      · have e1 : N y m (m + t) = 0 := Decidable.byContradiction fun e => c2 (by have := (hN _ _ _ e).2 (by omega); rwa [Nat.add_sub_cancel_left] at this)
        have e2 : N' y m (m + t) = 0 := Decidable.byContradiction fun e => c2 (by have := (hN' _ _ _ e).2 (by omega); rwa [Nat.add_sub_cancel_left] at this)
        rw [e1, e2, Nat.zero_mul, Nat.zero_mul]
    · have e1 : LF N r (m + t) j = 0 := Decidable.byContradiction fun e => c1 ((LF_ne hN _ _ _ e).2 (by omega))
      have e2 : LF N' r (m + t) j = 0 := Decidable.byContradiction fun e => c1 ((LF_ne hN' _ _ _ e).2 (by omega))
      rw [e1, e2, Nat.mul_zero, Nat.mul_zero]
theorem pAt_bps (d : Bn) {k : Nat} (hk : k < d.prods.length) : pAt (bps d) k = pN d.prods[k] := by
  unfold pAt bps
  simp [List.getD_eq_getElem?_getD, hk]
theorem bps_len (d : Bn) : (bps d).length = d.prods.length := by simp [bps]
theorem nats_lt {d : Bn} (hok : Bok d) {k : Nat} (hk : k < d.prods.length) : ∀ y ∈ nats d.prods[k].right, y < d.terms.length + d.nons.length := by
  intro y hy
  obtain ⟨z, hz, rfl⟩ := List.mem_map.1 hy
  obtain ⟨i, hi, rfl⟩ := List.mem_iff_getElem.1 hz
  have := hok.right k hk i hi
  omega
theorem NF_stable {d : Bn} (hok : Bok d) {h : Nat → Nat} (hh : ∀ x, h x ≤ d.terms.length + d.nons.length) (hl : ∀ x y, y < d.terms.length + d.nons.length → Es d x y → h y < h x) (W : List Int) : ∀ (r x i j : Nat), j - i ≤ 1000 → rnk (d.terms.length + d.nons.length) h x i j < r → ∀ f, r ≤ f → NF d.terms.length (bps d) W f x i j = NF d.terms.length (bps d) W (f + 1) x i j := by
  intro r
  induction r with
  | zero => intro x i j _ h0; exact absurd h0 (Nat.not_lt_zero _)
  | succ r ih =>
    intro x i j hij hr f hf
    by_cases hx : x < d.terms.length
    · rw [NF_term hx, NF_term hx]
    · obtain ⟨g, rfl⟩ : ∃ g, f = g + 1 := ⟨f - 1, by omega⟩
      rw [NF_non (by omega), NF_non (by omega)]
      refine sm_congr fun k hk => ?_
      rw [bps_len] at hk
      rw [pAt_bps d hk]
      by_cases he : (pN d.prods[k]).1 = x
      · rw [if_pos he, if_pos he]
        by_cases hle : i ≤ j
        · refine LF_eq hh hl (NF_mk _ _ _ _) (NF_mk _ _ _ _) hij (fun y m m' hy h1 h2 h3 h4 => ih y m m' (by omega) (by omega) g (by omega)) hk he _ [] rfl (nats_lt hok hk) i (Nat.le_refl _) hle (fun _ => Lens.nil)
        · have z1 : ∀ N, Mk1 d.terms.length (bps d) N → LF N (pN d.prods[k]).2 i j = 0 := fun N hN => Decidable.byContradiction fun e => hle (LF_ne hN _ _ _ e).1
          rw [z1 _ (NF_mk _ _ _ _), z1 _ (NF_mk _ _ _ _)]
      · rw [if_neg he, if_neg he]
/-- One count goes by its own rule. -/
structure Cn (d : Bn) (W : List Int) (V : Nat → Nat → Nat → Nat) : Prop where
  made : Mk1 d.terms.length (bps d) V
  tm : ∀ x i j, x < d.terms.length → V x i j = tmc W x i j
  nn : ∀ x i j, d.terms.length ≤ x → j ≤ W.length → V x i j = sm (fun k => if (pAt (bps d) k).1 = x then LF V (pAt (bps d) k).2 i j else 0) d.prods.length
theorem cn_ex {d : Bn} (hok : Bok d) (hc : ¬ Cyc d) (W : List Int) (hW : W.length ≤ 1000) : ∃ V, Cn d W V := by
  obtain ⟨h, hh, hl⟩ := hgt d hc (d.terms.length + d.nons.length)
  refine ⟨NF d.terms.length (bps d) W (1001 * (d.terms.length + d.nons.length + 1) + 1), NF_mk _ _ _ _, fun x i j hx => NF_term hx, fun x i j hx hj => ?_⟩
  have hij : j - i ≤ 1000 := by omega
  have hr : rnk (d.terms.length + d.nons.length) h x i j < 1001 * (d.terms.length + d.nons.length + 1) := by
    unfold rnk
    have h1 := hh x
    have h2 : (j - i) * (d.terms.length + d.nons.length + 1) ≤ 1000 * (d.terms.length + d.nons.length + 1) := Nat.mul_le_mul_right _ hij
    omega
  rw [NF_stable hok hh hl W _ x i j hij hr _ (Nat.le_succ _), NF_non hx, bps_len]
/-- .. and what it counts of the start is one number, whichever it is. -/
def CnR (d : Bn) (W : List Int) (x n : Nat) : Prop := ∃ V, Cn d W V ∧ n = cp (V x 0 W.length)
theorem Cn.uniq {d : Bn} (hok : Bok d) (hc : ¬ Cyc d) {W : List Int} (hW : W.length ≤ 1000) {V V' : Nat → Nat → Nat → Nat} (hV : Cn d W V) (hV' : Cn d W V') : ∀ x i j, x < d.terms.length + d.nons.length → j ≤ W.length → V x i j = V' x i j := by
  obtain ⟨h, hh, hl⟩ := hgt d hc (d.terms.length + d.nons.length)
  have key : ∀ (r x i j : Nat), j ≤ W.length → rnk (d.terms.length + d.nons.length) h x i j < r → V x i j = V' x i j := by
    intro r
    induction r with
    | zero => intro x i j _ h0; exact absurd h0 (Nat.not_lt_zero _)
    | succ r ih =>
      intro x i j hj hr
      by_cases hx : x < d.terms.length
      · rw [hV.tm _ _ _ hx, hV'.tm _ _ _ hx]
      · rw [hV.nn _ _ _ (by omega) hj, hV'.nn _ _ _ (by omega) hj]
        refine sm_congr fun k hk => ?_
        rw [pAt_bps d hk]
        by_cases he : (pN d.prods[k]).1 = x
        · rw [if_pos he, if_pos he]
          by_cases hle : i ≤ j
          · exact LF_eq hh hl hV.made hV'.made (by omega) (fun y m m' hy h1 h2 h3 h4 => ih y m m' (by omega) (by omega)) hk he _ [] rfl (nats_lt hok hk) i (Nat.le_refl _) hle (fun _ => Lens.nil)
          · have z1 : ∀ N, Mk1 d.terms.length (bps d) N → LF N (pN d.prods[k]).2 i j = 0 := fun N hN => Decidable.byContradiction fun e => hle (LF_ne hN _ _ _ e).1
            rw [z1 _ hV.made, z1 _ hV'.made]
        · rw [if_neg he, if_neg he]
  exact fun x i j _ hj => key _ x i j hj (Nat.lt_succ_self _)
end Go.Proofs.Ytpbpmhgoppbfnaa
