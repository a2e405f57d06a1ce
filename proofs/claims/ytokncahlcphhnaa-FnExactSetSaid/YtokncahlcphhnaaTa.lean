import Derived.Test.YtokncahlcphhnaaLa
/-! A layout as text: plain mathematics. -/
namespace Go.Proofs.Ytokncahlcphhnaa
open Go.RowKit Go.Deep
set_option linter.unusedVariables false
set_option maxRecDepth 100000
set_option linter.unusedSimpArgs false

/-- A line feed, and blanks. -/
def fdT (ind : Nat) : List UInt8 := 10 :: List.replicate ind 32
/-- A line, at a place that is flat or not. -/
def lnT (kind : Int) (ind : Nat) (flat : Bool) : List UInt8 := if flat = true then (if kind = 2 then [32] else []) else fdT ind
/-- What a node gives by itself. -/
def ownT (t : DLNode) (ind : Nat) (flat : Bool) : List UInt8 :=
  if t.kind = 1 then t.s.data.toList
  else if t.kind = 2 ∨ t.kind = 3 then lnT t.kind ind flat
  else if t.kind = 4 then fdT ind
  else []
/-- How far its Kids stand in, and whether they are flat. -/
def inT (t : DLNode) (ind : Nat) : Nat := if t.kind = 5 then ind + t.n.toNat else ind
def flT (l : List DLNode) (br : List Bool) (i : Nat) (flat : Bool) : Bool := if (l.getD i zN).kind = 6 then flat || !(br.getD (gpl l i).length false) else flat
/-- The text of a node, by fuel. -/
def tx (l : List DLNode) (br : List Bool) : Nat → Nat → Nat → Bool → List UInt8
  | 0, _, _, _ => []
  | f + 1, i, ind, flat => ownT (l.getD i zN) ind flat ++ ((l.getD i zN).kids.map fun k => tx l br f k.toNat (inT (l.getD i zN) ind) (flT l br i flat)).flatten
/-- The texts of the first so many Kids. -/
def txK (l : List DLNode) (br : List Bool) (f i ind : Nat) (flat : Bool) (q : Nat) : List UInt8 :=
  (((l.getD i zN).kids.take q).map fun k => tx l br f k.toNat (inT (l.getD i zN) ind) (flT l br i flat)).flatten
theorem txK_next {l : List DLNode} {br : List Bool} {f i ind q : Nat} {flat : Bool} (hi : i < l.length) (hq : q < l[i].kids.length) :
    txK l br f i ind flat (q + 1) = txK l br f i ind flat q ++ tx l br f l[i].kids[q].toNat (inT l[i] ind) (flT l br i flat) := by
  unfold txK
  rw [getZ hi, List.take_succ_eq_append_getElem hq, List.map_append, List.flatten_append]
  simp
theorem tx_succ {l : List DLNode} {br : List Bool} {f i ind : Nat} {flat : Bool} (hi : i < l.length) :
    tx l br (f + 1) i ind flat = ownT l[i] ind flat ++ txK l br f i ind flat l[i].kids.length := by
  unfold txK
  rw [tx, getZ hi, List.take_length]
theorem txK_le {l : List DLNode} {br : List Bool} {f i ind q : Nat} {flat : Bool} (hi : i < l.length) : (txK l br f i ind flat q).length ≤ (txK l br f i ind flat l[i].kids.length).length := by
  have e : txK l br f i ind flat l[i].kids.length = txK l br f i ind flat q ++ ((l[i].kids.drop q).map fun k => tx l br f k.toNat (inT l[i] ind) (flT l br i flat)).flatten := by
    unfold txK
    rw [getZ hi, List.take_length, ← List.flatten_append, ← List.map_append, List.take_append_drop]
  rw [e, List.length_append]; omega
/-- More fuel than needed does no harm. -/
theorem tx_fuel {l : List DLNode} (hl : LoP l) (br : List Bool) : ∀ (f f' i ind : Nat) (flat : Bool), i < l.length → i < f → i < f' → tx l br f i ind flat = tx l br f' i ind flat := by
  intro f
  induction f with
  | zero => intro f' i ind flat _ h; omega
  | succ f ih =>
    intro f' i ind flat hi h1 h2
    cases f' with
    | zero => omega
    | succ f' =>
      rw [tx, tx, getZ hi]
      congr 2
      apply List.map_congr_left
      intro k hk
      have := hl.kd i hi k hk
      exact ih f' k.toNat _ _ (by omega) (by omega) (by omega)
/-- All that is within a node. -/
def ds (l : List DLNode) : Nat → Nat → List Nat
  | 0, _ => []
  | f + 1, i => i :: ((l.getD i zN).kids.map fun k => ds l f k.toNat).flatten
theorem ds_lt {l : List DLNode} (hl : LoP l) : ∀ (f i : Nat), i < l.length → ∀ x ∈ ds l f i, x ≤ i := by
  intro f
  induction f with
  | zero => intro i hi x hx; simp [ds] at hx
  | succ f ih =>
    intro i hi x hx
    rw [ds, getZ hi] at hx
    rcases List.mem_cons.1 hx with rfl | hx
    · exact Nat.le_refl _
    · obtain ⟨L, hL, hx⟩ := List.mem_flatten.1 hx
      obtain ⟨k, hk, rfl⟩ := List.mem_map.1 hL
      have h2 := hl.kd i hi k hk
      have := ih k.toNat (by omega) x hx
      omega
def kc (l : List DLNode) (x p : Nat) : Nat := (l.getD p zN).kids.count (x : Int)
theorem sum_append (a b : List Nat) : (a ++ b).sum = a.sum + b.sum := by simp
theorem count_flat (x : Nat) : ∀ L : List (List Nat), L.flatten.count x = (L.map fun a => a.count x).sum
  | [] => rfl
  | a :: L => by rw [List.flatten_cons, List.count_append, count_flat x L]; simp
theorem sum_flat (c : Nat → Nat) : ∀ L : List (List Nat), (L.flatten.map c).sum = (L.map fun a => (a.map c).sum).sum
  | [] => rfl
  | a :: L => by rw [List.flatten_cons, List.map_append, sum_append, sum_flat c L]; simp
/-- Each one that is within is there by those that have it as a Kid. -/
theorem ds_count {l : List DLNode} (hl : LoP l) (x : Nat) : ∀ (f i : Nat), i < l.length → i < f → (ds l f i).count x = (if x = i then 1 else 0) + ((ds l f i).map (kc l x)).sum := by
  intro f
  induction f with
  | zero => intro i _ h; omega
  | succ f ih =>
    intro i hi hf
    rw [ds]
    have hk : ∀ k ∈ (l.getD i zN).kids, 0 ≤ k ∧ k < (i : Int) := fun k h => hl.kd i hi k (by rw [getZ hi] at h; exact h)
    rw [List.count_cons, List.map_cons, List.sum_cons, count_flat, sum_flat, List.map_map, List.map_map]
    have e : ((l.getD i zN).kids.map ((fun a => List.count x a) ∘ fun k => ds l f k.toNat)).sum = kc l x i + ((l.getD i zN).kids.map ((fun a => (List.map (kc l x) a).sum) ∘ fun k => ds l f k.toNat)).sum := by
      unfold kc
      generalize (l.getD i zN).kids = K at hk ⊢
      induction K with
      | nil => simp
      | cons k K ihK =>
        have h1 := hk k (List.mem_cons_self ..)
        have h2 := ih k.toNat (by omega) (by omega)
        have h3 := ihK (fun k' h => hk k' (List.mem_cons_of_mem _ h))
        simp only [List.map_cons, List.sum_cons, Function.comp, List.count_cons] at h3 ⊢
        rw [h2, h3]
        have e1 : (if x = k.toNat then 1 else 0) = (if (k == (x : Int)) = true then 1 else 0) := by
          by_cases e : x = k.toNat
          · have : k = (x : Int) := by omega
            rw [if_pos e, if_pos (by rw [this]; simp)]
          · have : ¬ k = (x : Int) := fun h => e (by omega)
            rw [if_neg e, if_neg (by simp [this])]
        rw [e1]
        unfold kc
        omega
    rw [e]
    have e2 : (if (i == x) = true then 1 else 0) = (if x = i then 1 else 0) := by
      by_cases h : x = i
      · subst h; simp
      · rw [if_neg h, if_neg (by simp; omega)]
    omega
theorem sum_once (c : Nat → Nat) : ∀ (n : Nat) (D : List Nat), (∀ p ∈ D, p < n) → (∀ p, 0 < c p → D.count p ≤ 1) → (D.map c).sum ≤ ((List.range n).map c).sum := by
  intro n
  induction n with
  | zero =>
    intro D h _
    cases D with
    | nil => simp
    | cons a D => exact absurd (h a (List.mem_cons_self ..)) (Nat.not_lt_zero _)
  | succ n ih =>
    intro D h h1
    rw [List.range_succ, List.map_append, sum_append]
    have hs : ∀ D : List Nat, (D.map c).sum = ((D.filter (· ≠ n)).map c).sum + D.count n * c n := by
      intro D
      induction D with
      | nil => simp
      | cons a D ihD =>
        by_cases e : a = n
        · subst e
          rw [List.map_cons, List.sum_cons, ihD, List.filter_cons_of_neg (by simp), List.count_cons_self, Nat.add_mul]; omega
        · rw [List.map_cons, List.sum_cons, ihD, List.filter_cons_of_pos (by simp [e]), List.count_cons_of_ne e, List.map_cons, List.sum_cons]; omega
    rw [hs D]
    have h2 := ih (D.filter (· ≠ n)) (fun p hp => by
      rw [List.mem_filter] at hp
      have := h p hp.1
      have : p ≠ n := by simpa using hp.2
      omega) (fun p hp => Nat.le_trans (List.Sublist.count_le (l₁ := D.filter (· ≠ n)) (l₂ := D) p List.filter_sublist) (h1 p hp))
    have h3 : D.count n * c n ≤ c n := by
      by_cases e : 0 < c n
      · have := Nat.mul_le_mul_right (c n) (h1 n e); omega
      · have : c n = 0 := by omega
        rw [this]; omega
    simp only [List.map_cons, List.map_nil, List.sum_cons, List.sum_nil]
    omega
/-- No more of them than there are numbers. -/
theorem nodup_le : ∀ (n : Nat) (l : List Nat), l.Nodup → (∀ x ∈ l, x < n) → l.length ≤ n := by
  intro n
  induction n with
  | zero =>
    intro l _ h
    cases l with
    | nil => simp
    | cons x l => exact absurd (h x (by simp)) (Nat.not_lt_zero _)
  | succ n ih =>
    intro l hl h
    by_cases hm : n ∈ l
    · have h1 := ih (l.erase n) (hl.erase n) (fun x hx => by
        have h2 := (hl.mem_erase_iff).1 hx
        have := h x h2.2
        omega)
      rw [List.length_erase_of_mem hm] at h1
      omega
    · have := ih l hl (fun x hx => by
        have h1 := h x hx
        have : x ≠ n := fun e => hm (e ▸ hx)
        omega)
      omega
theorem count_flatI (x : Int) : ∀ L : List (List Int), L.flatten.count x = (L.map fun a => a.count x).sum
  | [] => rfl
  | a :: L => by rw [List.flatten_cons, List.count_append, count_flatI x L]; simp
theorem kal_count (l : List DLNode) (x : Nat) : (kal l).count (x : Int) = ((List.range l.length).map (kc l x)).sum := by
  unfold kal
  rw [count_flatI, List.map_map]
  congr 1
  apply List.ext_getElem
  · simp
  · intro i h1 h2
    rw [List.length_map] at h1
    simp [kc, getZ h1, h1]
theorem ds_once {l : List DLNode} (hl : LoP l) {f i : Nat} (hi : i < l.length) (hf : i < f) : ∀ (n x : Nat), i - x ≤ n → (ds l f i).count x ≤ 1 := by
  intro n
  have hz : ∀ x p, p < l.length → ¬ x < p → kc l x p = 0 := fun x p hp h => by
    unfold kc
    rw [getZ hp]
    exact List.count_eq_zero.2 (fun hm => by have := hl.kd p hp _ hm; omega)
  have hlt := ds_lt hl f i hi
  induction n with
  | zero =>
    intro x hx
    by_cases e : x = i
    · subst e
      rw [ds_count hl x f x hi hf, if_pos rfl]
      have : ((ds l f x).map (kc l x)).sum = 0 := by
        have h : ∀ D : List Nat, (∀ p ∈ D, kc l x p = 0) → (D.map (kc l x)).sum = 0 := by
          intro D
          induction D with
          | nil => intro _; rfl
          | cons a D ihD =>
            intro h
            rw [List.map_cons, List.sum_cons, h a (List.mem_cons_self ..), ihD (fun p hp => h p (List.mem_cons_of_mem _ hp))]
        exact h _ (fun p hp => hz x p (by have := hlt p hp; omega) (by have := hlt p hp; omega))
      omega
    · have : x ∉ ds l f i := fun h => by have := hlt x h; omega
      rw [List.count_eq_zero.2 this]; omega
  | succ n ih =>
    intro x hx
    by_cases hxi : i - x ≤ n
    · exact ih x hxi
    · rw [ds_count hl x f i hi hf, if_neg (by omega), Nat.zero_add]
      have h1 := sum_once (kc l x) l.length (ds l f i) (fun p hp => by have := hlt p hp; omega) (fun p hp => by
        by_cases hpl : p < l.length
        · have : x < p := Classical.byContradiction (fun h => by rw [hz x p hpl h] at hp; omega)
          exact ih p (by omega)
        · have : p ∉ ds l f i := fun h => by have := hlt p h; omega
          rw [List.count_eq_zero.2 this]; omega)
      rw [← kal_count, hl.on x (by omega)] at h1
      exact h1
theorem ds_len {l : List DLNode} (hl : LoP l) {f i : Nat} (hi : i < l.length) (hf : i < f) : (ds l f i).length ≤ 300 := by
  have h1 : (ds l f i).Nodup := List.nodup_iff_count.2 (fun x => ds_once hl hi hf (i - x) x (Nat.le_refl _))
  have := nodup_le l.length _ h1 (fun x hx => by have := ds_lt hl f i hi x hx; omega)
  have := hl.n2
  omega
theorem ownT_len {l : List DLNode} (hl : LoP l) {i ind : Nat} {flat : Bool} (hi : i < l.length) (hind : ind ≤ 6000) : (ownT l[i] ind flat).length ≤ 6001 := by
  have hf : ∀ k, k ≤ 6000 → (fdT k).length ≤ 6001 := fun k hk => by unfold fdT; simp; omega
  unfold ownT
  by_cases h1 : l[i].kind = 1
  · rw [if_pos h1]
    have h2 := hl.nd i hi
    unfold ndB at h2
    rw [if_pos h1] at h2
    simp only [Bool.and_eq_true, decide_eq_true_eq] at h2
    have h3 := h2.1
    show l[i].s.size ≤ 6001
    omega
  · rw [if_neg h1]
    by_cases h2 : l[i].kind = 2 ∨ l[i].kind = 3
    · rw [if_pos h2]
      unfold lnT
      cases flat
      · exact hf ind hind
      · by_cases h3 : l[i].kind = 2 <;> simp [h3]
    · rw [if_neg h2]
      by_cases h3 : l[i].kind = 4
      · rw [if_pos h3]; exact hf ind hind
      · rw [if_neg h3]; simp
theorem inT_le {l : List DLNode} (hl : LoP l) {i ind : Nat} (hi : i < l.length) : ind ≤ inT l[i] ind ∧ inT l[i] ind ≤ ind + 20 := by
  unfold inT
  by_cases h : l[i].kind = 5
  · rw [if_pos h]
    have h2 := hl.nd i hi
    unfold ndB at h2
    rw [if_neg (by omega), if_neg (by omega), if_pos h] at h2
    simp only [Bool.and_eq_true, decide_eq_true_eq] at h2
    omega
  · rw [if_neg h]; omega
theorem tx_len {l : List DLNode} (hl : LoP l) (br : List Bool) : ∀ (f i ind : Nat) (flat : Bool), i < l.length → ind + 20 * i ≤ 6000 → (tx l br f i ind flat).length ≤ (ds l f i).length * 6001 := by
  intro f
  induction f with
  | zero => intro i ind flat _ _; simp [tx]
  | succ f ih =>
    intro i ind flat hi hind
    rw [tx, ds, getZ hi, List.length_append, List.length_cons]
    have h1 := ownT_len hl (flat := flat) hi (ind := ind) (by omega)
    have h2 := inT_le hl (ind := ind) hi
    have hk := hl.kd i hi
    have h3 : ((l[i].kids.map fun k => tx l br f k.toNat (inT l[i] ind) (flT l br i flat)).flatten).length ≤ ((l[i].kids.map fun k => ds l f k.toNat).flatten).length * 6001 := by
      generalize l[i].kids = K at hk ⊢
      induction K with
      | nil => simp
      | cons k K ihK =>
        have h4 := hk k (List.mem_cons_self ..)
        have h5 := ih k.toNat (inT l[i] ind) (flT l br i flat) (by omega) (by omega)
        have h6 := ihK (fun k' h => hk k' (List.mem_cons_of_mem _ h))
        simp only [List.map_cons, List.flatten_cons, List.length_append]
        omega
    omega
/-- The text of a layout that is right is not long. -/
theorem tx_short {l : List DLNode} (hl : LoP l) (br : List Bool) (f : Nat) (hf : l.length ≤ f) : (tx l br f (l.length - 1) 0 false).length ≤ 1800300 := by
  have h1 := hl.n1
  have h2 := hl.n2
  have h3 := tx_len hl br f (l.length - 1) 0 false (by omega) (by omega)
  have h4 := ds_len hl (f := f) (i := l.length - 1) (by omega) (by omega)
  omega
end Go.Proofs.Ytokncahlcphhnaa
