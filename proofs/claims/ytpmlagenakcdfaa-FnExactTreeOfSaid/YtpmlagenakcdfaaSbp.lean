import Derived.Test.YtpmlagenakcdfaaBok
/-! Derivations: where one ends, and whether it keeps to the levels: plain mathematics. -/
namespace Go.Proofs.Ytpmlagenakcdfaa
set_option linter.unusedVariables false
set_option linter.unusedSimpArgs false

/-- The number at a place. -/
def numAt (L : List Int) (a : Nat) : Int := L.getD a 0
/-- The Prod of a number. -/
def pdAt (d : Bn) (x : Int) : Pd := d.prods.getD x.toNat ⟨0, [], ⟨#[]⟩, 0, 0⟩
/-- The Prod at a place. -/
def pa (d : Bn) (L : List Int) (a : Nat) : Pd := pdAt d (numAt L a)
/-- Whether there is one by this symbol at a place. -/
def okAt (d : Bn) (L : List Int) (s : Int) (a : Nat) : Bool := decide (a < L.length) && (wiB (numAt L a) 0 ((d.prods.length : Int) - 1) && decide ((pa d L a).left = s))
/-- Where symbols end that begin at a place, one behind the other. -/
def rdk (T : Nat) (r : Int → Nat → Option Nat) : List Int → Nat → Option Nat
  | [], a => some a
  | s :: ss, a => if s < (T : Int) then rdk T r ss a else (r s a).bind (rdk T r ss)
/-- Where a derivation by a symbol ends that begins at a place. -/
def rd (d : Bn) (L : List Int) : Nat → Int → Nat → Option Nat
  | 0, _, _ => none
  | f + 1, s, a => if okAt d L s a = true then rdk d.terms.length (rd d L f) (pa d L a).right (a + 1) else none
theorem rdk_append (T : Nat) (r : Int → Nat → Option Nat) (xs ys : List Int) (a : Nat) : rdk T r (xs ++ ys) a = (rdk T r xs a).bind (rdk T r ys) := by
  induction xs generalizing a with
  | nil => rfl
  | cons s ss ih =>
    simp only [List.cons_append, rdk]
    split
    · exact ih a
    · cases r s a with
      | none => rfl
      | some a' => exact ih a'
theorem rdk_one (T : Nat) (r : Int → Nat → Option Nat) (s : Int) (a : Nat) : rdk T r [s] a = if s < (T : Int) then some a else r s a := by
  simp only [rdk]
  split
  · rfl
  · cases r s a <;> rfl
theorem rdk_take (T : Nat) (r : Int → Nat → Option Nat) (ss : List Int) (j : Nat) (hj : j < ss.length) (a : Nat) : rdk T r (ss.take (j + 1)) a = (rdk T r (ss.take j) a).bind (fun b => if ss[j] < (T : Int) then some b else r ss[j] b) := by
  rw [List.take_succ_eq_append_getElem hj, rdk_append]
  congr 1
  funext b
  exact rdk_one T r ss[j] b
theorem rdk_none (T : Nat) (r : Int → Nat → Option Nat) (ss : List Int) (j : Nat) (a : Nat) (h : rdk T r (ss.take j) a = none) : rdk T r ss a = none := by
  rw [← List.take_append_drop j ss, rdk_append, h]
  rfl
theorem okAt_lt {d : Bn} {L : List Int} {s : Int} {a : Nat} (h : okAt d L s a = true) : a < L.length := by
  unfold okAt at h
  simp only [Bool.and_eq_true, decide_eq_true_eq] at h
  exact h.1
theorem rdk_ge {T : Nat} {r : Int → Nat → Option Nat} {n : Nat} (hr : ∀ s a b, r s a = some b → a < b ∧ b ≤ n) : ∀ (ss : List Int) (a b : Nat), rdk T r ss a = some b → a ≤ b ∧ (a ≤ n → b ≤ n)
  | [], a, b, h => by
    simp only [rdk, Option.some.injEq] at h
    omega
  | s :: ss, a, b, h => by
    simp only [rdk] at h
    split at h
    · exact rdk_ge hr ss a b h
    · cases e : r s a with
      | none => rw [e] at h; cases h
      | some c =>
        rw [e] at h
        have h1 := hr s a c e
        have h2 := rdk_ge hr ss c b h
        exact ⟨by omega, fun _ => h2.2 h1.2⟩
theorem rd_gt (d : Bn) (L : List Int) : ∀ (f : Nat) (s : Int) (a b : Nat), rd d L f s a = some b → a < b ∧ b ≤ L.length
  | 0, s, a, b, h => by cases h
  | f + 1, s, a, b, h => by
    simp only [rd] at h
    split at h
    · rename_i ho
      have h1 := okAt_lt ho
      have h2 := rdk_ge (rd_gt d L f) _ _ _ h
      exact ⟨by omega, h2.2 (by omega)⟩
    · cases h

/-- Whether a Prod may not stand at the side of another one. -/
def wk (q p : Pd) (side : Int) : Bool := if q.left ≠ p.left ∨ q.lev = 0 then false else if q.lev = p.lev then decide (p.asc ≠ side) else decide (q.lev < p.lev)
/-- .. at place i of n symbols. -/
def tw (i n : Nat) (q p : Pd) : Bool := (decide (i = 0) && wk q p 1) || (decide (0 < i ∧ i + 1 = n) && wk q p 2)
/-- Whether what stands at the symbols, from number i on and place a on, keeps to the levels. -/
def gk (d : Bn) (L : List Int) (r : Int → Nat → Option Nat) (g : Nat → Bool) (p : Pd) : Nat → List Int → Nat → Bool
  | _, [], _ => true
  | i, s :: ss, a => if s < (d.terms.length : Int) then gk d L r g p (i + 1) ss a else (!tw i p.right.length (pa d L a) p && (g a && gk d L r g p (i + 1) ss ((r s a).getD 0)))
/-- Whether the derivation at a place keeps to the levels. -/
def gd (d : Bn) (L : List Int) : Nat → Nat → Bool
  | 0, _ => true
  | f + 1, a => gk d L (rd d L f) (gd d L f) (pa d L a) 0 (pa d L a).right (a + 1)
/-- The specification's test. -/
def ts (i n : Nat) (x : Int) (q p : Pd) : Bool := decide (i = 0 ∨ i + 1 = n) && (decide (x = p.left) && (decide (0 < p.lev) && (decide (0 < q.lev) && (decide (q.lev < p.lev) || (decide (q.lev = p.lev) && decide (p.asc ≠ (if 0 < i then 2 else 1)))))))
theorem wk_iff (q p : Pd) (side : Int) : wk q p side = true ↔ q.left = p.left ∧ q.lev ≠ 0 ∧ (q.lev = p.lev → p.asc ≠ side) ∧ (q.lev ≠ p.lev → q.lev < p.lev) := by
  unfold wk
  by_cases h1 : q.left ≠ p.left ∨ q.lev = 0
  · rw [if_pos h1]
    constructor
    · intro h; cases h
    · intro ⟨a, b, _⟩; omega
  · rw [if_neg h1]
    by_cases h3 : q.lev = p.lev
    · rw [if_pos h3, decide_eq_true_eq]
      omega
    · rw [if_neg h3, decide_eq_true_eq]
      omega
theorem ts_tw (i n : Nat) (x : Int) (q p : Pd) (hx : q.left = x) (hp : 0 ≤ p.lev) (hq : 0 ≤ q.lev) : ts i n x q p = tw i n q p := by
  subst hx
  rw [Bool.eq_iff_iff]
  unfold ts tw
  simp only [Bool.and_eq_true, Bool.or_eq_true, decide_eq_true_eq, wk_iff]
  by_cases h0 : i = 0
  · subst h0
    rw [if_neg (by omega)]
    omega
  · rw [if_pos (by omega)]
    omega

/-- What Good answers. -/
def goodR (d : Bn) (non : Int) (L : List Int) : Bool × Int :=
  if bnB d = false ∨ 4000 < L.length then (false, 1)
  else if wiB non 0 ((d.nons.length : Int) - 1) = false then (false, 4)
  else if rd d L (L.length + 1) (d.terms.length + non) 0 = some L.length then (gd d L (L.length + 1) 0, 0)
  else (false, 2)
end Go.Proofs.Ytpmlagenakcdfaa

/-! The specification's BnfOK: the place of a text. -/
namespace Go.Proofs.Ytpmlagenakcdfaa
open Go.RowKit Go.Deep
set_option linter.unusedVariables false
set_option maxRecDepth 100000
set_option linter.unusedSimpArgs false

theorem ne_bytes {a b : ByteArray} (h : ¬ a = b) : (a.toList == b.toList) = false := by
  rw [beq_eq_false_iff_ne]
  intro e
  rw [ByteArray.toList_eq, ByteArray.toList_eq] at e
  exact h (ByteArray.ext (Array.toList_inj.mp e))
theorem eq_bytes {a b : ByteArray} (h : a = b) : (a.toList == b.toList) = true := by subst h; simp
set_option maxHeartbeats 800000 in
theorem l03At_any {S : Nat → Prop} (l : List ByteArray) (v : Value) (w : World) (h : Strs w S l v) (j : Nat) (hj : j < l.length) :
    Calls Try.prog 91 #[v, .string l[j]] w fun e w' => (∃ r : Nat, e = .returned (.int .i64 r) ∧ r ≤ j ∧ (r = j ↔ l[j] ∉ l.take j)) ∧ w' = w := by
  obtain ⟨a, cap, b, off, rfl, hc, hm, ha, hcell⟩ := h
  have HC := (show Hid _ from hcell); clear hcell
  have HA := (show Hid _ from ha); clear ha
  unfold maxLen at hm
  go_enter Try.func91, Try.ntmps91
  go_wp2_with fail
  go_loopw [5] (fun i wr => ∃ k : Nat, i = .int .i64 k ∧ k ≤ j ∧ Hid (∀ i (hi : i < l.length), i < k → l[i] ≠ l[j]) ∧ wr = w) (fun i _ => l.length - (intOf i).toNat)
  case atStart => exact ⟨0, rfl, Nat.zero_le _, fun i hi h0 => absurd h0 (Nat.not_lt_zero _), rfl⟩
  case round =>
    obtain ⟨k, rfl, hk, HK, rfl⟩ := hrel
    have hkl : k < l.length := by omega
    obtain ⟨rfl, _⟩ := HA.out (by omega)
    have c0 := (HC.out k hkl).1
    by_cases he : l[k] = l[j]
    · have HP : Hid (k = j ↔ l[j] ∉ l.take j) := by
        show k = j ↔ l[j] ∉ l.take j
        constructor
        · rintro rfl hmem
          obtain ⟨i, hi, e⟩ := List.mem_iff_getElem.1 hmem
          rw [List.length_take] at hi
          rw [List.getElem_take] at e
          exact HK.out i (by omega) (by omega) e
        · intro hno
          refine Decidable.byContradiction fun hne => hno ?_
          rw [← he]
          exact List.mem_iff_getElem.2 ⟨k, by rw [List.length_take]; omega, by rw [List.getElem_take]⟩
      rw [he] at c0
      clear he
      go_wp2_with fail
      go_ret
      exact ⟨⟨k, rfl, hk, HP.out⟩, rfl⟩
    · have hkj : k < j := by
        refine Nat.lt_of_le_of_ne hk fun e => he ?_
        subst e; rfl
      have HN : Hid (∀ i (hi : i < l.length), i < k + 1 → l[i] ≠ l[j]) := fun i hi hik => by
        by_cases e : i = k
        · subst e; exact he
        · exact HK.out i hi (by omega)
      have hbe := ne_bytes he
      clear he
      go_wp2_with fail
      exact ⟨⟨k + 1, by go_num, by omega, HN, trivial⟩, by simp [intOf]; omega⟩
end Go.Proofs.Ytpmlagenakcdfaa

/-! The specification's BnfOK where there is too much. -/
namespace Go.Proofs.Ytpmlagenakcdfaa
open Go.RowKit Go.Deep
set_option linter.unusedVariables false
set_option maxRecDepth 100000
set_option linter.unusedSimpArgs false

set_option maxHeartbeats 1600000 in
theorem sBnf_no {S : Nat → Prop} (d : Bn) (v0 v1 v3 : Value) (w : World) (h : BLies w S d v0 v1 v3) (hz : ¬ szB d = true) :
    Calls Try.prog 65 #[.agg #[v0, v1, .int .i64 d.own, v3]] w fun e w' => e = .returned (.bool false) ∧ Below w.heap.size w w' := by
  have HB := (show Hid _ from fun (x a b : Int) (w : World) => between_any x a b w)
  obtain ⟨a0, p0, rfl, hT⟩ := h.terms.form
  obtain ⟨a1, p1, rfl, hN⟩ := h.nons.form
  obtain ⟨a3, p3, rfl, hP⟩ := h.prods.form
  clear h
  simp only [szB, decide_eq_true_eq] at hz
  unfold maxLen at hT hN hP
  have HE := (show Hid _ from fun o => bel_alloc w o)
  by_cases c1 : d.terms.length ≤ 60
  · by_cases c2 : 1 ≤ d.nons.length ∧ d.nons.length ≤ 100
    · have e2 : wiB d.nons.length 1 100 = true := by simp [wiB]; omega
      by_cases c3 : 1 ≤ d.own ∧ d.own ≤ d.nons.length
      · have e3 : wiB d.own 1 d.nons.length = true := by simp [wiB]; omega
        have c4 : ¬ d.prods.length ≤ 120 := fun h4 => hz ⟨c1, c2.1, c2.2, c3.1, c3.2, h4⟩
        clear hz
        go_enter Try.func65, Try.ntmps65
        go_wp2_with fail
        refine Calls.mono (HB.out _ _ _ _) ?_
        rintro e w1 ⟨rfl, rfl⟩
        rw [e2]
        go_wp2_with fail
        refine Calls.mono (HB.out _ _ _ _) ?_
        rintro e w1 ⟨rfl, rfl⟩
        rw [e3]
        go_wp2_with fail
        go_ret
        exact ⟨rfl, HE.out _⟩
      · have e3 : wiB d.own 1 d.nons.length = false := by simp [wiB]; omega
        clear hz
        go_enter Try.func65, Try.ntmps65
        go_wp2_with fail
        refine Calls.mono (HB.out _ _ _ _) ?_
        rintro e w1 ⟨rfl, rfl⟩
        rw [e2]
        go_wp2_with fail
        refine Calls.mono (HB.out _ _ _ _) ?_
        rintro e w1 ⟨rfl, rfl⟩
        rw [e3]
        go_wp2_with fail
        go_ret
        exact ⟨rfl, HE.out _⟩
    · have e2 : wiB d.nons.length 1 100 = false := by simp [wiB]; omega
      clear hz
      go_enter Try.func65, Try.ntmps65
      go_wp2_with fail
      refine Calls.mono (HB.out _ _ _ _) ?_
      rintro e w1 ⟨rfl, rfl⟩
      rw [e2]
      go_wp2_with fail
      go_ret
      exact ⟨rfl, HE.out _⟩
  · clear hz
    go_enter Try.func65, Try.ntmps65
    go_wp2_with fail
    go_ret
    exact ⟨rfl, HE.out _⟩
end Go.Proofs.Ytpmlagenakcdfaa

/-! The specification's BnfOK: what its loops tell; the place of a text, at its very number. -/
namespace Go.Proofs.Ytpmlagenakcdfaa
open Go.RowKit Go.Deep
set_option linter.unusedVariables false
set_option maxRecDepth 100000
set_option linter.unusedSimpArgs false

theorem first_of (P : Nat → Prop) : ∀ n, P n → ∃ r, r ≤ n ∧ P r ∧ ∀ i, i < r → ¬ P i := by
  intro n
  induction n using Nat.strongRecOn with
  | _ n ih =>
    intro hn
    by_cases h : ∃ i, i < n ∧ P i
    · obtain ⟨i, hi, hp⟩ := h
      obtain ⟨r, hr, h1, h2⟩ := ih i hi hp
      exact ⟨r, by omega, h1, h2⟩
    · exact ⟨n, Nat.le_refl _, hn, fun i hi hp => h ⟨i, hi, hp⟩⟩
/-- The first place of what stands at j. -/
structure Fst (l : List ByteArray) (j r : Nat) : Prop where
  le : r ≤ j
  eq : l.getD r ByteArray.empty = l.getD j ByteArray.empty
  min : ∀ i, i < r → l.getD i ByteArray.empty ≠ l.getD j ByteArray.empty
theorem Fst.ex (l : List ByteArray) (j : Nat) : ∃ r, Fst l j r := by
  obtain ⟨r, h1, h2, h3⟩ := first_of (fun i => l.getD i ByteArray.empty = l.getD j ByteArray.empty) j rfl
  exact ⟨r, h1, h2, h3⟩
theorem Fst.again {l : List ByteArray} {j r : Nat} (h : Fst l j r) (hj : j < l.length) (hr : r ≠ j) : l[j] ∈ l.take j := by
  have h1 := h.le
  have h2 := h.eq
  rw [getD_lt _ _ hj, getD_lt _ _ (by omega)] at h2
  rw [← h2]
  exact List.mem_iff_getElem.2 ⟨r, by rw [List.length_take]; omega, by rw [List.getElem_take]⟩
theorem Fst.new {l : List ByteArray} {j r : Nat} (h : Fst l j r) (hj : j < l.length) (hr : r = j) : l[j] ∉ l.take j := by
  subst hr
  intro hm
  obtain ⟨i, hi, e⟩ := List.mem_iff_getElem.1 hm
  rw [List.length_take] at hi
  rw [List.getElem_take] at e
  have := h.min i (by omega)
  rw [getD_lt _ _ hj, getD_lt _ _ (by omega)] at this
  exact this e
set_option maxHeartbeats 800000 in
theorem l03At_is {S : Nat → Prop} (l : List ByteArray) (v : Value) (w : World) (h : Strs w S l v) (j : Nat) (hj : j < l.length) (r : Nat) (hf : Fst l j r) :
    Calls Try.prog 91 #[v, .string l[j]] w fun e w' => e = .returned (.int .i64 r) ∧ w' = w := by
  obtain ⟨a, cap, b, off, rfl, hc, hm, ha, hcell⟩ := h
  have HC := (show Hid _ from hcell); clear hcell
  have HA := (show Hid _ from ha); clear ha
  have HF := (show Hid _ from hf)
  have hrj := hf.le
  clear hf
  unfold maxLen at hm
  go_enter Try.func91, Try.ntmps91
  go_wp2_with fail
  go_loopw [5] (fun i wr => ∃ k : Nat, i = .int .i64 k ∧ k ≤ r ∧ wr = w) (fun i _ => l.length - (intOf i).toNat)
  case atStart => exact ⟨0, rfl, Nat.zero_le _, rfl⟩
  case round =>
    obtain ⟨k, rfl, hk, rfl⟩ := hrel
    have hkl : k < l.length := by omega
    obtain ⟨rfl, _⟩ := HA.out (by omega)
    have c0 := (HC.out k hkl).1
    by_cases he : l[k] = l[j]
    · have HP : Hid (k = r) := by
        show k = r
        refine Decidable.byContradiction fun hne => ?_
        have := HF.out.min k (by omega)
        rw [getD_lt _ _ hj, getD_lt _ _ hkl] at this
        exact this he
      rw [he] at c0
      clear he
      go_wp2_with fail
      go_ret
      exact ⟨by rw [HP.out]; rfl, rfl⟩
    · have hkr : k < r := by
        refine Nat.lt_of_le_of_ne hk fun e => he ?_
        have := HF.out.eq
        rw [getD_lt _ _ hj, getD_lt _ _ (by omega)] at this
        subst e; exact this
      have hbe := ne_bytes he
      clear he
      go_wp2_with fail
      exact ⟨⟨k + 1, by go_num, by omega, trivial⟩, by simp [intOf]; omega⟩

theorem bn_no_st {d : Bn} (i : Nat) (hi : i < d.terms.length) (h : stB d.terms[i].lev d.terms[i].asc = false) : bnB d = false := by
  have : d.terms.all (fun t => stB t.lev t.asc) = false := List.all_eq_false.2 ⟨d.terms[i], List.getElem_mem hi, by simp [h]⟩
  unfold bnB
  simp [this]
theorem bn_no_ap {d : Bn} (k i : Nat) (hk : k < i) (hi : i < d.terms.length) (e : d.terms[k].name = d.terms[i].name) : bnB d = false := by
  have : apB (d.terms.map (·.name)) = false := by
    unfold apB
    rw [decide_eq_false_iff_not]
    intro hn
    have := List.pairwise_iff_getElem.1 hn k i (by simp; omega) (by simpa using hi) hk
    simp only [List.getElem_map] at this
    exact this e
  unfold bnB
  simp [this]
theorem bn_no_nn {d : Bn} (j : Nat) (hj : j < d.nons.length) (h : d.nons[j] ∈ d.nons.take j) : bnB d = false := by
  have : apB d.nons = false := by
    unfold apB
    rw [decide_eq_false_iff_not]
    intro hn
    obtain ⟨i, hi, e⟩ := List.mem_iff_getElem.1 h
    rw [List.length_take] at hi
    rw [List.getElem_take] at e
    exact List.pairwise_iff_getElem.1 hn i j (by omega) hj (by omega) e
  unfold bnB
  simp [this]
theorem bn_no_pd {d : Bn} (i : Nat) (hi : i < d.prods.length) (h : pdB d.terms.length d.nons.length d.prods[i] = false) : bnB d = false := by
  have : d.prods.all (pdB d.terms.length d.nons.length) = false := List.all_eq_false.2 ⟨d.prods[i], List.getElem_mem hi, by simp [h]⟩
  unfold bnB
  simp [this]
theorem bn_yes {d : Bn} (hz : szB d = true) (h1 : ∀ i (hi : i < d.terms.length), stB d.terms[i].lev d.terms[i].asc = true) (h2 : ∀ k i (hk : k < i) (hi : i < d.terms.length), d.terms[k].name ≠ d.terms[i].name)
    (h3 : ∀ j (hj : j < d.nons.length), d.nons[j] ∉ d.nons.take j) (h4 : ∀ i (hi : i < d.prods.length), pdB d.terms.length d.nons.length d.prods[i] = true) : bnB d = true := by
  have e1 : d.terms.all (fun t => stB t.lev t.asc) = true := by
    rw [List.all_eq_true]
    intro x hx
    obtain ⟨i, hi, rfl⟩ := List.mem_iff_getElem.1 hx
    exact h1 i hi
  have e2 : apB (d.terms.map (·.name)) = true := by
    unfold apB
    rw [decide_eq_true_iff]
    refine List.pairwise_iff_getElem.2 fun k i hk hi hki => ?_
    simp only [List.getElem_map]
    exact h2 k i hki (by simpa using hi)
  have e3 : apB d.nons = true := by
    unfold apB
    rw [decide_eq_true_iff]
    refine List.pairwise_iff_getElem.2 fun k i hk hi hki e => h3 i hi ?_
    rw [← e]
    exact List.mem_iff_getElem.2 ⟨k, by rw [List.length_take]; omega, by rw [List.getElem_take]⟩
  have e4 : d.prods.all (pdB d.terms.length d.nons.length) = true := by
    rw [List.all_eq_true]
    intro x hx
    obtain ⟨i, hi, rfl⟩ := List.mem_iff_getElem.1 hx
    exact h4 i hi
  unfold bnB
  rw [hz, e1, e2, e3, e4]
  rfl
end Go.Proofs.Ytpmlagenakcdfaa
