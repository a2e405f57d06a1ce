import Derived.Test.YtflhfimgeladaaaWa
/-! A packed table and its table. -/
namespace Go.Proofs.Ytflhfimgeladaaa
open Go.RowKit Go.Deep
set_option linter.unusedVariables false
set_option maxRecDepth 100000
set_option linter.unusedSimpArgs false

theorem ixO_get {α : Type} [DecidableEq α] (m : α) : ∀ (l : List α), ixO m l < l.length → l[ixO m l]? = some m
  | [], h => absurd h (by simp [ixO])
  | x :: l, h => by
    unfold ixO at h ⊢
    by_cases e : x = m
    · rw [if_pos e]; simp [e]
    · rw [if_neg e] at h ⊢
      simp only [List.length_cons] at h
      simpa using ixO_get m l (by omega)
theorem ixO_not {α : Type} [DecidableEq α] (m : α) : ∀ (l : List α), ¬ ixO m l < l.length → m ∉ l
  | [], _ => by simp
  | x :: l, h => by
    unfold ixO at h
    by_cases e : x = m
    · rw [if_pos e] at h; simp at h
    · rw [if_neg e] at h
      simp only [List.length_cons] at h
      have := ixO_not m l (by omega)
      simp only [List.mem_cons, not_or]
      exact ⟨fun q => e q.symm, this⟩
/-- What `onc` makes: no row twice; each number leads to its row; each new row has a number. -/
theorem onc_spec {α : Type} [DecidableEq α] : ∀ (rs acc : List α) (nums : List Int), acc.Nodup → (onc acc nums rs).1.Nodup ∧ acc <+: (onc acc nums rs).1 ∧ ∃ ns : List Int, (onc acc nums rs).2 = nums ++ ns ∧ ns.length = rs.length ∧ (∀ (i : Nat) (r : α), rs[i]? = some r → ∃ n : Nat, ns[i]? = some (n : Int) ∧ (onc acc nums rs).1[n]? = some r) ∧ ∀ k : Nat, acc.length ≤ k → k < (onc acc nums rs).1.length → ∃ i : Nat, ns[i]? = some (k : Int)
  | [], acc, nums, h => ⟨h, List.prefix_refl _, [], by simp [onc], rfl, fun i r hr => by simp at hr, fun k h1 h2 => by simp only [onc] at h2; omega⟩
  | r :: rs, acc, nums, h => by
    unfold onc
    by_cases hx : ixO r acc < acc.length
    · rw [if_pos hx]
      obtain ⟨h1, h2, ns, h3, h4, h5, h6⟩ := onc_spec rs acc (nums ++ [((ixO r acc : Nat) : Int)]) h
      refine ⟨h1, h2, ((ixO r acc : Nat) : Int) :: ns, by rw [h3]; simp, by simp [h4], fun i q hq => ?_, fun k hk hk' => ?_⟩
      · cases i with
        | zero =>
          have : r = q := by simpa using hq
          subst this
          refine ⟨ixO r acc, rfl, ?_⟩
          obtain ⟨ys, hy⟩ := h2
          rw [← hy, List.getElem?_append_left hx]
          exact ixO_get r acc hx
        | succ i => exact h5 i q (by simpa using hq)
      · obtain ⟨i, hi⟩ := h6 k hk hk'
        exact ⟨i + 1, by simpa using hi⟩
    · rw [if_neg hx]
      have hle := ixO_le r acc
      have hxe : ixO r acc = acc.length := by omega
      have hn : (acc ++ [r]).Nodup := by
        have := ixO_not r acc hx
        refine List.pairwise_append.2 ⟨h, by simp, fun a ha b hb => ?_⟩
        rw [List.mem_singleton.1 hb]
        exact fun e => this (e ▸ ha)
      obtain ⟨h1, h2, ns, h3, h4, h5, h6⟩ := onc_spec rs (acc ++ [r]) (nums ++ [((ixO r acc : Nat) : Int)]) hn
      refine ⟨h1, (List.prefix_append acc [r]).trans h2, ((ixO r acc : Nat) : Int) :: ns, by rw [h3]; simp, by simp [h4], fun i q hq => ?_, fun k hk hk' => ?_⟩
      · cases i with
        | zero =>
          have : r = q := by simpa using hq
          subst this
          refine ⟨ixO r acc, rfl, ?_⟩
          obtain ⟨ys, hy⟩ := h2
          rw [← hy, hxe, List.getElem?_append_left (by simp)]
          simp
        | succ i => exact h5 i q (by simpa using hq)
      · by_cases hk2 : (acc ++ [r]).length ≤ k
        · obtain ⟨i, hi⟩ := h6 k hk2 hk'
          exact ⟨i + 1, by simpa using hi⟩
        · simp only [List.length_append, List.length_singleton] at hk2
          exact ⟨0, by simp; omega⟩
theorem agn_get {α : Type} (ls : List (List α)) (N : List Int) (i : Nat) (hi : i < N.length) (h : N.all (wnB 0 ((ls.length : Int) - 1)) = true) : ∃ k : Nat, N[i] = (k : Int) ∧ ∃ hk : k < ls.length, (agn ls N)[i]? = some ls[k] := by
  obtain ⟨k, hk, hl⟩ := agn_at ls N i hi h
  refine ⟨k, hk, hl, ?_⟩
  unfold agn
  simp [hi, hk, hl]
/-- The rows are the same just when the numbers are, and there are as many. -/
theorem wid_eq {α : Type} [DecidableEq α] (ls : List (List α)) (N : List Int) (h : N.all (wnB 0 ((ls.length : Int) - 1)) = true) : (onc [] [] (agn ls N)).1 = ls ↔ (onc [] [] (agn ls N)).1.length = ls.length ∧ (onc [] [] (agn ls N)).2 = N := by
  obtain ⟨h1, _, ns, h3, h4, h5, h6⟩ := onc_spec (agn ls N) [] [] List.Pairwise.nil
  rw [List.nil_append] at h3
  rw [h3]
  have hlen : ns.length = N.length := by rw [h4]; simp [agn]
  constructor
  · intro e
    rw [e] at h1 h5
    refine ⟨by rw [e], List.ext_getElem hlen (fun i hi hi' => ?_)⟩
    obtain ⟨k, hk, hkl, hg⟩ := agn_get ls N i hi' h
    obtain ⟨n, hn, hnn⟩ := h5 i _ hg
    have hn' : ns[i] = (n : Int) := by rw [List.getElem?_eq_getElem hi] at hn; injection hn
    obtain ⟨hnl, hne⟩ := List.getElem?_eq_some_iff.1 hnn
    have : n = k := by
      rcases Nat.lt_trichotomy n k with hlt | he | hgt
      · exact absurd hne (List.pairwise_iff_getElem.1 h1 n k hnl hkl hlt)
      · exact he
      · exact absurd hne.symm (List.pairwise_iff_getElem.1 h1 k n hkl hnl hgt)
    rw [hn', hk, this]
  · rintro ⟨hl, he⟩
    subst he
    refine List.ext_getElem hl (fun k hk hk' => ?_)
    obtain ⟨i, hi⟩ := h6 k (Nat.zero_le _) hk
    obtain ⟨hil, hie⟩ := List.getElem?_eq_some_iff.1 hi
    obtain ⟨k', hk2, hkl, hg⟩ := agn_get ls ns i hil h
    obtain ⟨n, hn, hnn⟩ := h5 i _ hg
    rw [hi] at hn
    injection hn with hn
    have e1 : n = k := by omega
    have e2 : k' = k := by omega
    subst e1 e2
    obtain ⟨_, hx⟩ := List.getElem?_eq_some_iff.1 hnn
    exact hx
/-- The table of a packed one. -/
def wdT (R : PkD) : Tb := ⟨agn R.1 R.2.2.1, agn R.2.1 R.2.2.2⟩
/-- Whether it is one, as the program asks. -/
def wdB (R : PkD) : Bool := ((decide (R.2.2.1.length ≤ 250) && R.2.2.1.all (wnB 0 ((R.1.length : Int) - 1))) && (decide (R.2.2.2.length ≤ 250) && R.2.2.2.all (wnB 0 ((R.2.1.length : Int) - 1)))) && (evB (wdT R) && (decide ((onc [] [] (wdT R).acts).1 = R.1) && decide ((onc [] [] (wdT R).gotos).1 = R.2.1)))
/-- .. and as the specification does. -/
def sdB (R : PkD) : Bool := ((decide (R.2.2.1.length = R.2.2.2.length) && decide (R.2.2.1.length ≤ 250)) && (R.2.2.1.all (wnB 0 ((R.1.length : Int) - 1)) && R.2.2.2.all (wnB 0 ((R.2.1.length : Int) - 1)))) && (evB (wdT R) && ((decide ((onc [] [] (wdT R).acts).1.length = R.1.length) && decide ((onc [] [] (wdT R).gotos).1.length = R.2.1.length)) && (decide ((onc [] [] (wdT R).acts).2 = R.2.2.1) && decide ((onc [] [] (wdT R).gotos).2 = R.2.2.2))))
theorem evB_len {t : Tb} (h : evB t = true) : t.acts.length ≤ 250 ∧ t.gotos.length = t.acts.length := by
  unfold evB at h
  simp only [Bool.and_eq_true, decide_eq_true_eq] at h
  exact ⟨h.1, h.2.1⟩
theorem sdB_wdB (R : PkD) : sdB R = wdB R := by
  rw [Bool.eq_iff_iff]
  unfold sdB wdB
  simp only [Bool.and_eq_true, decide_eq_true_eq]
  constructor
  · rintro ⟨⟨⟨a1, a2⟩, a3, a4⟩, a5, ⟨a6, a7⟩, a8, a9⟩
    exact ⟨⟨⟨a2, a3⟩, by omega, a4⟩, a5, (wid_eq _ _ a3).2 ⟨a6, a8⟩, (wid_eq _ _ a4).2 ⟨a7, a9⟩⟩
  · rintro ⟨⟨⟨b1, b2⟩, b3, b4⟩, b5, b6, b7⟩
    have hl := evB_len b5
    obtain ⟨c1, c2⟩ := (wid_eq _ _ b2).1 b6
    obtain ⟨c3, c4⟩ := (wid_eq _ _ b4).1 b7
    refine ⟨⟨⟨?_, b1⟩, b2, b4⟩, b5, ⟨c1, c3⟩, c2, c4⟩
    have := hl.2
    simp only [wdT, agn, List.length_map] at this
    omega
/-- What Widen answers. -/
def wdR (R : PkD) : Tb × Int := if wdB R = true then (wdT R, 0) else (⟨[], []⟩, 10)
end Go.Proofs.Ytflhfimgeladaaa
