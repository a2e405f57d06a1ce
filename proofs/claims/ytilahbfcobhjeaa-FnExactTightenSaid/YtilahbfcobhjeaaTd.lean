import Derived.Test.YtilahbfcobhjeaaTc
/-! Programs that are made tighter: what leaves, told once (of all places) and twice (of those that are come to, renumbered), is the same. -/
namespace Go.Proofs.Ytilahbfcobhjeaa
open Go.RowKit Go.Deep
set_option linter.unusedVariables false
set_option maxRecDepth 100000
set_option linter.unusedSimpArgs false

/-- It leads to a place behind it, ahead of which none stays. -/
def LvC (l : List DIns) (lv : List Bool) (i : Nat) : Prop := htB (insAt l i).op = true ∧ (i : Int) < (insAt l i).to_ ∧ ∀ j : Nat, i < j → (j : Int) < (insAt l i).to_ → lv.getD j true = true
/-- What leaves: b, and what leads no further. -/
structure Lvs (l : List DIns) (b lv : List Bool) : Prop where
  len : lv.length = l.length
  at_ : ∀ i, i < l.length → (lv.getD i true = true ↔ (b.getD i false = true ∨ LvC l lv i))
/-- .. known from k on; nx is the first that stays from there on. -/
structure Bw (l : List DIns) (b lv : List Bool) (k nx : Nat) : Prop where
  len : lv.length = l.length
  kn : k ≤ nx
  nl : nx ≤ l.length
  at_ : ∀ i, i < l.length → k ≤ i → (lv.getD i true = true ↔ (b.getD i false = true ∨ LvC l lv i))
  mid : ∀ j, k ≤ j → j < nx → lv.getD j true = true
  end_ : nx < l.length → lv.getD nx true = false
theorem Bw.start {l : List DIns} {b lv : List Bool} (h : lv.length = l.length) : Bw l b lv l.length l.length :=
  ⟨h, Nat.le_refl _, Nat.le_refl _, fun i h1 h2 => absurd h1 (by omega), fun j h1 h2 => absurd h1 (by omega), fun h => absurd h (Nat.lt_irrefl _)⟩
theorem Bw.done {l : List DIns} {b lv : List Bool} {nx : Nat} (h : Bw l b lv 0 nx) : Lvs l b lv := ⟨h.len, fun i hi => h.at_ i hi (Nat.zero_le _)⟩
theorem getD_set_ne {lv : List Bool} {i j : Nat} {v d : Bool} (h : i ≠ j) : (lv.set i v).getD j d = lv.getD j d := by
  simp [List.getD_eq_getElem?_getD, List.getElem?_set_ne h]
theorem getD_set_at {lv : List Bool} {i : Nat} {v d : Bool} (h : i < lv.length) : (lv.set i v).getD i d = v := by
  simp [List.getD_eq_getElem?_getD, h]
/-- .. and from the one ahead on. -/
theorem Bw.step {l : List DIns} {b lv : List Bool} {i nx : Nat} (h : Bw l b lv (i + 1) nx) (hi : i < l.length) (hto : htB (insAt l i).op = true → (insAt l i).to_ ≤ l.length) {v : Bool}
    (hv : v = true ↔ (b.getD i false = true ∨ (htB (insAt l i).op = true ∧ (i : Int) < (insAt l i).to_ ∧ (insAt l i).to_ ≤ nx))) : Bw l b (lv.set i v) i (if v = true then nx else i) := by
  have hlen : i < lv.length := by rw [h.len]; exact hi
  have hkn := h.kn
  have hnl := h.nl
  have hC : ∀ q, i ≤ q → (LvC l (lv.set i v) q ↔ LvC l lv q) := by
    intro q hq
    unfold LvC
    constructor
    · rintro ⟨h1, h2, h3⟩
      refine ⟨h1, h2, fun j hj1 hj2 => ?_⟩
      have := h3 j hj1 hj2
      rwa [getD_set_ne (by omega)] at this
    · rintro ⟨h1, h2, h3⟩
      refine ⟨h1, h2, fun j hj1 hj2 => ?_⟩
      rw [getD_set_ne (by omega)]
      exact h3 j hj1 hj2
  have hK : LvC l lv i ↔ (htB (insAt l i).op = true ∧ (i : Int) < (insAt l i).to_ ∧ (insAt l i).to_ ≤ nx) := by
    constructor
    · rintro ⟨h1, h2, h3⟩
      refine ⟨h1, h2, ?_⟩
      apply Decidable.byContradiction
      intro hn
      have ht := hto h1
      have h4 := h3 nx (by omega) (by omega)
      rw [h.end_ (by omega)] at h4
      cases h4
    · rintro ⟨h1, h2, h3⟩
      exact ⟨h1, h2, fun j hj1 hj2 => h.mid j (by omega) (by omega)⟩
  refine ⟨by simp [h.len], ?_, ?_, ?_, ?_, ?_⟩
  · split <;> omega
  · split <;> omega
  · intro q hq hiq
    rw [hC q hiq]
    by_cases e : q = i
    · subst e
      rw [getD_set_at hlen, hv, hK]
    · rw [getD_set_ne (fun h => e h.symm)]
      exact h.at_ q hq (by omega)
  · intro j hj1 hj2
    by_cases e : j = i
    · subst e
      rw [getD_set_at hlen]
      split at hj2
      · assumption
      · omega
    · rw [getD_set_ne (fun h => e h.symm)]
      split at hj2
      · exact h.mid j (by omega) hj2
      · omega
  · intro hx
    split at hx
    · rename_i hvt
      rw [if_pos hvt, getD_set_ne (by omega)]
      exact h.end_ hx
    · rename_i hvf
      rw [if_neg hvf, getD_set_at hlen]
      simpa using hvf
/-- The leaves of those that are not come to. -/
def notB (bs : List Bool) : List Bool := bs.map (fun x => !x)
theorem notB_len (bs : List Bool) : (notB bs).length = bs.length := by simp [notB]
theorem notB_getD {bs : List Bool} {i : Nat} (h : i < bs.length) : (notB bs)[i]'(by rw [notB_len]; exact h) = !bs[i] := by simp [notB]

section
variable {l : List DIns} {lb : List Bool} (hlb : lb.length = l.length)
theorem getD_at {lv : List Bool} {i : Nat} {d : Bool} (h : i < lv.length) : lv.getD i d = lv[i] := by simp [List.getD_eq_getElem?_getD, h]
theorem stN_mono (lv : List Bool) {i j : Nat} (h : i ≤ j) : stN lv i ≤ stN lv j := by
  unfold stN
  have e : lv.take j = (lv.take j).take i ++ (lv.take j).drop i := (List.take_append_drop _ _).symm
  rw [List.take_take, Nat.min_eq_left h] at e
  rw [e, List.filter_append, List.length_append]
  omega
theorem stN_step {lv : List Bool} {i : Nat} (hi : i < lv.length) (hs : lv[i] = false) : stN lv (i + 1) = stN lv i + 1 := by
  rw [stN_succ hi, hs]; rfl
theorem stN_skip {lv : List Bool} {i : Nat} (hi : i < lv.length) (hs : lv[i] = true) : stN lv (i + 1) = stN lv i := by
  rw [stN_succ hi, hs]; rfl
/-- Each number below is one that stays. -/
theorem stN_onto (lv : List Bool) : ∀ (m k : Nat), m ≤ lv.length → k < stN lv m → ∃ j, ∃ hj : j < lv.length, j < m ∧ lv[j] = false ∧ stN lv j = k := by
  intro m
  induction m with
  | zero => intro k _ h; rw [stN_zero] at h; omega
  | succ m ih =>
    intro k hm h
    have hml : m < lv.length := by omega
    by_cases hk : k < stN lv m
    · obtain ⟨j, hj, h1, h2, h3⟩ := ih k (by omega) hk
      exact ⟨j, hj, by omega, h2, h3⟩
    · cases hb : lv[m]
      · rw [stN_step hml hb] at h
        exact ⟨m, hml, by omega, hb, by omega⟩
      · rw [stN_skip hml hb] at h
        omega
include hlb
theorem wtO_leng : ∀ m, m ≤ l.length → (wtO lb l m).length = stN lb m := by
  intro m
  induction m with
  | zero => intro _; rfl
  | succ m ih =>
    intro hm
    rw [wtO_succ (by omega) (by omega), List.length_append, ih (by omega), stN_succ (by omega)]
    split <;> rfl
theorem wtO_pre : ∀ (d m : Nat), m + d = l.length → ∃ r, wtO lb l l.length = wtO lb l m ++ r := by
  intro d
  induction d with
  | zero => intro m h; exact ⟨[], by rw [show m = l.length by omega]; simp⟩
  | succ d ih =>
    intro m h
    obtain ⟨r, hr⟩ := ih (m + 1) (by omega)
    rw [wtO_succ (by omega) (by omega), List.append_assoc] at hr
    exact ⟨_, hr⟩
theorem wtO_at {i : Nat} (hi : i < l.length) (hs : lb[i]'(by omega) = false) : ∃ h : stN lb i < (wtO lb l l.length).length, (wtO lb l l.length)[stN lb i] = wtX lb l[i] := by
  obtain ⟨r, hr⟩ := wtO_pre hlb (l.length - (i + 1)) (i + 1) (by omega)
  rw [wtO_succ hi (by omega), hs] at hr
  have hl := wtO_leng hlb i (by omega)
  have h1 : (wtO lb l l.length)[stN lb i]? = some (wtX lb l[i]) := by
    rw [hr, ← hl]
    simp
  obtain ⟨h2, h3⟩ := List.getElem?_eq_some_iff.1 h1
  exact ⟨h2, h3⟩
/-- What leaves of those that are come to, in the one numbering and in the other. -/
theorem lvs_same {lt ls : List Bool} (hto : ∀ i (hi : i < l.length), htB l[i].op = true → 0 ≤ l[i].to_ ∧ l[i].to_ < l.length)
    (ht : Lvs (wtO lb l l.length) (List.replicate (wtO lb l l.length).length false) lt) (hs : Lvs l lb ls) :
    ∀ (d i : Nat) (hi : i < l.length), i + d = l.length → (ls.getD i true = true ↔ (lb[i]'(by omega) = true ∨ lt.getD (stN lb i) true = true)) := by
  intro d
  induction d using Nat.strongRecOn with
  | _ d ih =>
  intro i hi hd
  have hib : i < lb.length := by omega
  rw [hs.at_ i hi, getD_at hib]
  cases hb : lb[i]
  · obtain ⟨h1, h2⟩ := wtO_at hlb hi hb
    have hq := ht.at_ (stN lb i) h1
    rw [hq]
    have hr : (List.replicate (wtO lb l l.length).length false).getD (stN lb i) false = false := by simp [List.getD_eq_getElem?_getD, h1]
    rw [hr]
    simp only [Bool.false_eq_true, false_or]
    unfold LvC
    rw [insAt_at h1, h2, insAt_at hi]
    have hop : (wtX lb l[i]).op = l[i].op := by unfold wtX; split <;> rfl
    rw [hop]
    by_cases hh : htB l[i].op = true
    · obtain ⟨t0, t1⟩ := hto i hi hh
      have hx : (wtX lb l[i]).to_ = (stN lb l[i].to_.toNat : Nat) := by unfold wtX; rw [if_pos hh]
      rw [hx]
      obtain ⟨t, et⟩ : ∃ t : Nat, l[i].to_ = t := ⟨l[i].to_.toNat, by omega⟩
      rw [et] at t0 t1 ⊢
      rw [Int.toNat_natCast]
      have htl : t < l.length := by omega
      have hst := stN_step hib hb
      constructor
      · rintro ⟨_, g2, g3⟩
        have g2' : i < t := by omega
        have m1 := stN_mono lb (i := i + 1) (j := t) (by omega)
        refine ⟨hh, by omega, fun j h4 h5 => ?_⟩
        obtain ⟨q, hq1, hq2, hq3, hq4⟩ := stN_onto lb t j (by omega) (by omega)
        have hiq : i < q := by
          apply Decidable.byContradiction
          intro hn
          have := stN_mono lb (i := q) (j := i) (by omega)
          omega
        have h6 := g3 q hiq (by omega)
        have h7 := (ih (l.length - q) (by omega) q (by omega) (by omega)).1 h6
        rw [hq3, hq4] at h7
        exact h7.resolve_left (by simp)
      · rintro ⟨_, g2, g3⟩
        have g2' : i < t := by
          apply Decidable.byContradiction
          intro hn
          have := stN_mono lb (i := t) (j := i) (by omega)
          omega
        refine ⟨hh, by omega, fun j h4 h5 => ?_⟩
        have hjl : j < l.length := by omega
        have h5' : j < t := by omega
        rw [ih (l.length - j) (by omega) j hjl (by omega)]
        cases hbj : lb[j]'(by omega)
        · have e1 := stN_step (by omega) hbj
          have m1 := stN_mono lb (i := i + 1) (j := j) (by omega)
          have m2 := stN_mono lb (i := j + 1) (j := t) (by omega)
          exact .inr (g3 _ (by omega) (by omega))
        · exact .inl rfl
    · constructor
      · rintro ⟨g1, _⟩; exact absurd g1 hh
      · rintro ⟨g1, _⟩; exact absurd g1 hh
  · simp
/-- Made tighter in two steps or in one. -/
theorem tight_same {lt ls : List Bool} (hto : ∀ i (hi : i < l.length), htB l[i].op = true → 0 ≤ l[i].to_ ∧ l[i].to_ < l.length)
    (ht : Lvs (wtO lb l l.length) (List.replicate (wtO lb l l.length).length false) lt) (hs : Lvs l lb ls) :
    wtO lt (wtO lb l l.length) (wtO lb l l.length).length = wtO ls l l.length := by
  have hlt := ht.len
  have hls := hs.len
  have hl2 := wtO_leng hlb l.length (Nat.le_refl _)
  have key : ∀ i (hi : i < l.length), (lb[i]'(by omega) = true → ls[i]'(by omega) = true) ∧ (lb[i]'(by omega) = false → ∃ h : stN lb i < lt.length, lt[stN lb i] = ls[i]'(by omega)) := by
    intro i hi
    have h := lvs_same hlb hto ht hs (l.length - i) i hi (by omega)
    rw [getD_at (by omega)] at h
    constructor
    · intro hb; exact h.2 (.inl hb)
    · intro hb
      obtain ⟨h1, _⟩ := wtO_at hlb hi hb
      refine ⟨by omega, ?_⟩
      rw [getD_at (by omega), hb] at h
      simp only [Bool.false_eq_true, false_or] at h
      cases h3 : lt[stN lb i]'(by omega) <;> cases h4 : ls[i]'(by omega)
      · rfl
      · rw [h3, h4] at h; simp at h
      · rw [h3, h4] at h; simp at h
      · rfl
  have cnt : ∀ m, m ≤ l.length → stN lt (stN lb m) = stN ls m := by
    intro m
    induction m with
    | zero => intro _; rfl
    | succ m ih =>
      intro hm
      obtain ⟨k1, k2⟩ := key m (by omega)
      cases hb : lb[m]'(by omega)
      · obtain ⟨h1, h2⟩ := k2 hb
        rw [stN_step (by omega) hb, stN_succ h1, stN_succ (lv := ls) (by omega), ih (by omega), h2]
      · rw [stN_skip (by omega) hb, stN_skip (lv := ls) (by omega) (k1 hb), ih (by omega)]
  have all : ∀ m, m ≤ l.length → wtO lt (wtO lb l l.length) (stN lb m) = wtO ls l m := by
    intro m
    induction m with
    | zero => intro _; rfl
    | succ m ih =>
      intro hm
      obtain ⟨k1, k2⟩ := key m (by omega)
      rw [wtO_succ (lv := ls) (by omega) (by omega)]
      cases hb : lb[m]'(by omega)
      · obtain ⟨h1, h2⟩ := k2 hb
        obtain ⟨h3, h4⟩ := wtO_at hlb (i := m) (by omega) hb
        rw [stN_step (by omega) hb, wtO_succ h3 h1, ih (by omega), h2, h4]
        congr 1
        have e : wtX lt (wtX lb (l[m]'(by omega))) = wtX ls (l[m]'(by omega)) := by
          by_cases hh : htB (l[m]'(by omega)).op = true
          · obtain ⟨t0, t1⟩ := hto m (by omega) hh
            unfold wtX
            rw [if_pos hh, if_pos hh]
            dsimp only
            rw [if_pos hh, Int.toNat_natCast, cnt _ (by omega)]
          · unfold wtX
            rw [if_neg hh, if_neg hh, if_neg hh]
        rw [e]
      · rw [stN_skip (by omega) hb, ih (by omega), k1 hb]
        simp
  have := all l.length (Nat.le_refl _)
  rw [← hl2] at this
  exact this
end
end Go.Proofs.Ytilahbfcobhjeaa
