import Derived.Test.YtflhfimgeladaaaQa
import Derived.Test.YtflhfimgeladaaaIt
import Derived.Deep.AppendLies
import Derived.Maps.AppendAt
/-! Rows that the call owns, and no two of which share a block. -/
namespace Go.Proofs.Ytflhfimgeladaaa
open Go.RowKit Go.Deep
set_option linter.unusedVariables false
set_option maxRecDepth 100000
set_option linter.unusedSimpArgs false

/-- A row that is owned: type and cells of an element, the value, how many, the cells. -/
structure Ent where
  t : TypeId
  k : Nat
  v : Value
  n : Nat
  cs : List Value
def Ent.ok (w : World) (B : Nat) (e : Ent) : Prop := w.ownsRow B e.t e.k e.v e.n e.cs
def Apt (e e' : Ent) : Prop := ∀ k, e.v.ownBlock = some k → e'.v.ownBlock ≠ some k
theorem Apt.symm {e e' : Ent} (h : Apt e e') : Apt e' e := fun k h1 h2 => h k h2 h1
/-- All these are owned, and no two share a block. -/
structure Own (w : World) (B : Nat) (es : List Ent) : Prop where
  ok : ∀ e ∈ es, e.ok w B
  ne : es.Pairwise Apt
theorem Own.nil (w : World) (B : Nat) : Own w B [] := ⟨fun _ h => absurd h (by simp), List.Pairwise.nil⟩
theorem Own.still {w w' : World} {B : Nat} {es : List Ent} (h : Own w B es) (hb : Below w.heap.size w w') : Own w' B es := ⟨fun e he => own_still (h.ok e he) hb, h.ne⟩
theorem Own.perm {w : World} {B : Nat} {es fs : List Ent} (h : Own w B es) (hp : es.Perm fs) : Own w B fs :=
  ⟨fun e he => h.ok e (hp.mem_iff.2 he), (hp.pairwise_iff (fun hh => Apt.symm hh)).1 h.ne⟩
theorem Own.sub {w : World} {B : Nat} {es fs : List Ent} (h : Own w B es) (hs : fs.Sublist es) : Own w B fs :=
  ⟨fun e he => h.ok e (hs.subset he), h.ne.sublist hs⟩
theorem Own.tail {w : World} {B : Nat} {e : Ent} {es : List Ent} (h : Own w B (e :: es)) : Own w B es := h.sub (List.sublist_cons_self _ _)
/-- The first is put anew, in its own block or in a new one. -/
theorem Own.grow {w w' : World} {B : Nat} {e e' : Ent} {es : List Ent} (h : Own w B (e :: es)) (hg : w.grownBy w' e.v.ownBlock) (ho : e'.ok w' B) (hat : ∀ k, e'.v.ownBlock = some k → e.v.ownBlock = some k ∨ w.heap.size ≤ k) : Own w' B (e' :: es) := by
  obtain ⟨h1, h2⟩ := List.pairwise_cons.1 h.ne
  refine ⟨fun x hx => ?_, List.pairwise_cons.2 ⟨fun x hx k hk hk' => ?_, h2⟩⟩
  · rcases List.mem_cons.1 hx with rfl | hx
    · exact ho
    · refine (h.ok x (List.mem_cons_of_mem _ hx)).kept hg ?_
      cases e2 : x.v.ownBlock with
      | none => exact .inl rfl
      | some k => exact .inr (fun e3 => h1 x hx k e3.symm e2)
  · rcases hat k hk with h3 | h3
    · exact h1 x hx k h3 hk'
    · have := ((h.ok x (List.mem_cons_of_mem _ hx)).lt k hk').2
      omega
/-- One more, in a new block. -/
theorem Own.add {w w' : World} {B : Nat} {e' : Ent} {es : List Ent} (h : Own w B es) (hb : Below w.heap.size w w') (ho : e'.ok w' B) (hat : ∀ k, e'.v.ownBlock = some k → w.heap.size ≤ k) : Own w' B (e' :: es) := by
  refine ⟨fun x hx => ?_, List.pairwise_cons.2 ⟨fun x hx k hk hk' => ?_, h.ne⟩⟩
  · rcases List.mem_cons.1 hx with rfl | hx
    · exact ho
    · exact own_still (h.ok x hx) hb
  · have := ((h.ok x hx).lt k hk').2
    have := hat k hk
    omega
theorem grown_bel {B : Nat} {w0 w w' : World} {o : Option Nat} (h : Below B w0 w) (hg : w.grownBy w' o) (ho : ∀ k, o = some k → B ≤ k) (hB : B ≤ w.heap.size) : Below B w0 w' := grown_below' h hg ho hB
/-- Numbers and Acts as cells. -/
def encI (l : List Int) : List Value := l.map (Value.int .i64)
def encA : List (Int × Int) → List Value
  | [] => []
  | p :: l => .int .i64 p.1 :: .int .i64 p.2 :: encA l
theorem encI_len (l : List Int) : (encI l).length = l.length * 1 := by simp [encI]
theorem encA_len : ∀ (l : List (Int × Int)), (encA l).length = l.length * 2
  | [] => rfl
  | p :: l => by simp [encA, encA_len l]; omega
theorem encA_get : ∀ (l : List (Int × Int)) (i : Nat) (hi : i < l.length), (encA l)[i * 2]? = some (.int .i64 l[i].1) ∧ (encA l)[i * 2 + 1]? = some (.int .i64 l[i].2)
  | [], i, hi => absurd hi (Nat.not_lt_zero _)
  | p :: l, 0, hi => by simp [encA]
  | p :: l, i + 1, hi => by
    have := encA_get l i (by simpa using hi)
    rw [show (i + 1) * 2 = i * 2 + 1 + 1 by omega]
    simpa [encA] using this
theorem encI_one (l : List Int) : ∀ u ∈ encI l, u.oneCell' = true := fun u hu => by
  obtain ⟨x, _, rfl⟩ := List.mem_map.1 hu
  rfl
theorem encA_one : ∀ (l : List (Int × Int)), ∀ u ∈ encA l, u.oneCell' = true
  | [], u, hu => absurd hu (by simp [encA])
  | p :: l, u, hu => by
    simp only [encA, List.mem_cons] at hu
    rcases hu with rfl | rfl | hu
    · rfl
    · rfl
    · exact encA_one l u hu
theorem encA_snoc : ∀ (l : List (Int × Int)) (p : Int × Int), encA (l ++ [p]) = encA l ++ [.int .i64 p.1, .int .i64 p.2]
  | [], p => rfl
  | q :: l, p => by simp [encA, encA_snoc l p]
/-- A cell of an owned row. -/
theorem own_cell {w : World} {B t k n : Nat} {v : Value} {cs : List Value} (h : w.ownsRow B t k v n cs) : ∃ (a : Option Addr) (cap g : Nat), v = .slice a n cap ∧ n ≤ cap ∧ cap ≤ maxLen ∧ (0 < n → a = some ⟨g, 0, none⟩ ∧ B ≤ g) ∧ ∀ i u, cs[i]? = some u → w.cell? ⟨g, i, none⟩ = some u := by
  rcases h.2 with ⟨rfl, h0⟩ | ⟨g, cap, cur, rfl, hB, hg, hnc, hcm, hcs, htk⟩
  · subst h0
    refine ⟨none, 0, 0, rfl, Nat.le_refl _, Nat.zero_le _, fun h => absurd h (Nat.not_lt_zero _), fun i u hu => ?_⟩
    have : cs = [] := List.eq_nil_of_length_eq_zero (by have := h.1; omega)
    subst this
    simp at hu
  · refine ⟨_, cap, g, rfl, hnc, hcm, fun _ => ⟨rfl, hB⟩, fun i u hu => ?_⟩
    rw [cell_of_row w g i cur t (0, 0) hg]
    rw [← htk, List.getElem?_take] at hu
    split at hu
    · simpa using hu
    · simp at hu
theorem own_ints {w : World} {B : Nat} {v : Value} {l : List Int} (h : w.ownsRow B 3 1 v l.length (encI l)) : Ints w (fun b => B ≤ b) l v := by
  obtain ⟨a, cap, g, rfl, h1, h2, h3, h4⟩ := own_cell h
  refine ⟨a, cap, g, 0, rfl, h1, h2, h3, fun i hi => ?_⟩
  rw [Nat.zero_add]
  exact h4 i _ (by simp [encI, hi])
theorem own_acs {w : World} {B : Nat} {v : Value} {l : List (Int × Int)} (h : w.ownsRow B 71 2 v l.length (encA l)) : Acs w (fun b => B ≤ b) l v := by
  obtain ⟨a, cap, g, rfl, h1, h2, h3, h4⟩ := own_cell h
  refine ⟨a, cap, g, 0, rfl, h1, h2, h3, fun i hi => ?_⟩
  rw [Nat.zero_add]
  exact ⟨h4 _ _ (encA_get l i hi).1, h4 _ _ (encA_get l i hi).2⟩
/-- Rows: their values and what they hold. -/
def entA (p : Value × List (Int × Int)) : Ent := ⟨71, 2, p.1, p.2.length, encA p.2⟩
def entI (p : Value × List Int) : Ent := ⟨3, 1, p.1, p.2.length, encI p.2⟩
theorem own_arows {w : World} {B : Nat} {u : Value} {rv : List (Value × List (Int × Int))} (h : w.ownsRow B 69 1 u rv.length (rv.map (·.1))) (hr : ∀ p ∈ rv, (entA p).ok w B) : ARows w (fun b => B ≤ b) (rv.map (·.2)) u := by
  obtain ⟨a, cap, g, rfl, h1, h2, h3, h4⟩ := own_cell h
  refine ⟨a, cap, g, 0, fun i => ((rv.map (·.1))[i]?).getD .nilFunc, by simp, by simpa using h1, h2, by simpa using h3, fun i hi => ?_, fun i hi => ?_⟩
  · have hi' : i < rv.length := by simpa using hi
    rw [Nat.zero_add]
    exact h4 i _ (by simp [hi'])
  · have hi' : i < rv.length := by simpa using hi
    have := own_acs (hr rv[i] (List.getElem_mem hi'))
    simpa [hi', entA] using this
theorem own_irows {w : World} {B : Nat} {u : Value} {rv : List (Value × List Int)} (h : w.ownsRow B 46 1 u rv.length (rv.map (·.1))) (hr : ∀ p ∈ rv, (entI p).ok w B) : IRows w (fun b => B ≤ b) (rv.map (·.2)) u := by
  obtain ⟨a, cap, g, rfl, h1, h2, h3, h4⟩ := own_cell h
  refine ⟨a, cap, g, 0, fun i => ((rv.map (·.1))[i]?).getD .nilFunc, by simp, by simpa using h1, h2, by simpa using h3, fun i hi => ?_, fun i hi => ?_⟩
  · have hi' : i < rv.length := by simpa using hi
    rw [Nat.zero_add]
    exact h4 i _ (by simp [hi'])
  · have hi' : i < rv.length := by simpa using hi
    have := own_ints (hr rv[i] (List.getElem_mem hi'))
    simpa [hi', entI] using this
/-- Where a thing first stands; behind the last where it does not. -/
def ixO {α : Type} [DecidableEq α] (m : α) : List α → Nat
  | [] => 0
  | x :: l => if x = m then 0 else ixO m l + 1
theorem ixO_le {α : Type} [DecidableEq α] (m : α) : ∀ (l : List α), ixO m l ≤ l.length
  | [] => Nat.le_refl _
  | x :: l => by
    unfold ixO
    split
    · exact Nat.zero_le _
    · have := ixO_le m l; simp; omega
theorem ixO_at {α : Type} [DecidableEq α] (m : α) : ∀ (l : List α) (j : Nat) (hj : j < l.length), l[j] = m → (∀ i (hi : i < l.length), i < j → l[i] ≠ m) → ixO m l = j
  | [], j, hj, _, _ => absurd hj (Nat.not_lt_zero _)
  | x :: l, 0, hj, h, _ => by
    have : x = m := h
    unfold ixO
    rw [if_pos this]
  | x :: l, j + 1, hj, h, hn => by
    have h0 : x ≠ m := hn 0 (by simp) (by omega)
    unfold ixO
    rw [if_neg h0, ixO_at m l j (by simpa using hj) (by simpa using h) (fun i hi hij => by have := hn (i + 1) (by simpa using hi) (by omega); simpa using this)]
theorem ixO_no {α : Type} [DecidableEq α] (m : α) : ∀ (l : List α), (∀ i (hi : i < l.length), l[i] ≠ m) → ixO m l = l.length
  | [], _ => rfl
  | x :: l, hn => by
    have h0 : x ≠ m := hn 0 (by simp)
    unfold ixO
    rw [if_neg h0, ixO_no m l (fun i hi => by have := hn (i + 1) (by simpa using hi); simpa using this)]
    rfl
/-- Each row once, and the numbers of all. -/
def onc {α : Type} [DecidableEq α] : List α → List Int → List α → List α × List Int
  | acc, nums, [] => (acc, nums)
  | acc, nums, r :: rs => onc (if ixO r acc < acc.length then acc else acc ++ [r]) (nums ++ [((ixO r acc : Nat) : Int)]) rs
theorem onc_len {α : Type} [DecidableEq α] : ∀ (rs acc : List α) (nums : List Int), (onc acc nums rs).2.length = nums.length + rs.length ∧ (onc acc nums rs).1.length ≤ acc.length + rs.length
  | [], acc, nums => by simp [onc]
  | r :: rs, acc, nums => by
    have := onc_len rs (if ixO r acc < acc.length then acc else acc ++ [r]) (nums ++ [((ixO r acc : Nat) : Int)])
    unfold onc
    by_cases h : ixO r acc < acc.length
    · rw [if_pos h] at this ⊢
      exact ⟨by rw [this.1]; simp; omega, by have := this.2; simp; omega⟩
    · rw [if_neg h] at this ⊢
      exact ⟨by rw [this.1]; simp; omega, by have := this.2; simp at this ⊢; omega⟩
end Go.Proofs.Ytflhfimgeladaaa
