import Derived.Test.YtaimlmjgicmbeaaDd
/-! Derivations: how the Kids of the specification's tree, and of the program's, come together. -/
namespace Go.Proofs.Ytaimlmjgicmbeaa
open Go.RowKit Go.Deep
set_option linter.unusedVariables false
set_option maxRecDepth 100000
set_option linter.unusedSimpArgs false

theorem atP_prefix {d : Bn} {L : List Int} {f a i x : Nat} (h : atP d L f a i = some x) : ∀ i', i' ≤ i → ∃ y, atP d L f a i' = some y := fun i' hi => by
  cases e : atP d L f a i' with
  | some y => exact ⟨y, rfl⟩
  | none =>
    exfalso
    unfold atP at h e
    have : (pa d L a).right.take i = (pa d L a).right.take i' ++ ((pa d L a).right.take i).drop i' := by
      have h2 := (List.take_append_drop i' ((pa d L a).right.take i)).symm
      rw [List.take_take, Nat.min_eq_left hi] at h2
      exact h2
    rw [this, rdk_append, e] at h
    cases h
theorem cn_mono (T : Nat) (ss : List Int) {i j : Nat} (h : i ≤ j) : cn T (ss.take i) ≤ cn T (ss.take j) := by
  have : ss.take i = (ss.take j).take i := by rw [List.take_take, Nat.min_eq_left h]
  rw [this]
  exact (List.take_sublist _ _).countP_le
theorem cn_lt {T : Nat} {ss : List Int} {i j : Nat} (hi : i < ss.length) (hn : ¬ ss[i] < (T : Int)) (h : i < j) : cn T (ss.take i) < cn T (ss.take j) := by
  have h1 := cn_take T ss i hi
  rw [if_neg hn] at h1
  have h2 := cn_mono T ss (show i + 1 ≤ j from h)
  omega
theorem add0 (g j : Nat) : (⟨g, 0, none⟩ : Addr).add j = ⟨g, j, none⟩ := by
  unfold Addr.add
  split <;> simp_all
/-- The cells of Kids, one behind the other. -/
def kf (L : List Int) (ks : List (Nat × Value)) : List Value := ks.flatMap (fun p => [.int .i64 (numAt L p.1), p.2])
theorem kf_len (L : List Int) (ks : List (Nat × Value)) : (kf L ks).length = ks.length * 2 := by
  induction ks with
  | nil => rfl
  | cons p ks ih => simp only [kf, List.flatMap_cons, List.length_append, List.length_cons, List.length_nil] at ih ⊢; omega
theorem kf_append (L : List Int) (ks ls : List (Nat × Value)) : kf L (ks ++ ls) = kf L ks ++ kf L ls := by simp [kf]
theorem kf_get (L : List Int) : ∀ (ks : List (Nat × Value)) (i : Nat) (p : Nat × Value), ks[i]? = some p → (kf L ks)[i * 2]? = some (.int .i64 (numAt L p.1)) ∧ (kf L ks)[i * 2 + 1]? = some p.2
  | [], i, p, h => by simp at h
  | q :: ks, 0, p, h => by
    simp only [List.getElem?_cons_zero, Option.some.injEq] at h
    subst h
    exact ⟨rfl, rfl⟩
  | q :: ks, i + 1, p, h => by
    have h' : ks[i]? = some p := by simpa using h
    obtain ⟨h1, h2⟩ := kf_get L ks i p h'
    have e : kf L (q :: ks) = .int .i64 (numAt L q.1) :: q.2 :: kf L ks := rfl
    rw [e]
    have e1 : (i + 1) * 2 = i * 2 + 1 + 1 := by omega
    rw [e1]
    exact ⟨by simpa using h1, by simpa using h2⟩
/-- The Kids of the first i symbols. -/
structure KS (d : Bn) (L : List Int) (w : World) (K : Nat → Prop) (f a i : Nat) (ks : List (Nat × Value)) : Prop where
  len : ks.length = cn d.terms.length ((pa d L a).right.take i)
  all : ∀ i' (hi : i' < (pa d L a).right.length), i' < i → ¬ (pa d L a).right[i'] < (d.terms.length : Int) → ∃ y v, ks[cn d.terms.length ((pa d L a).right.take i')]? = some (y, v) ∧ atP d L f a i' = some y ∧ SP d L w K f y v
theorem KS.nil (d : Bn) (L : List Int) (w : World) (K : Nat → Prop) (f a : Nat) : KS d L w K f a 0 [] := ⟨by simp [cn], fun i' _ h => absurd h (Nat.not_lt_zero _)⟩
theorem KS.keep {d : Bn} {L : List Int} {w w' : World} {K : Nat → Prop} {f a i : Nat} {ks : List (Nat × Value)} (h : KS d L w K f a i ks) (hb : ∀ b, K b → b < w.heap.size → w'.heap[b]? = w.heap[b]?) : KS d L w' K f a i ks :=
  ⟨h.len, fun i' hi h1 h2 => by obtain ⟨y, v, e1, e2, e3⟩ := h.all i' hi h1 h2; exact ⟨y, v, e1, e2, SP.keep hb _ _ _ e3⟩⟩
theorem KS.mono {d : Bn} {L : List Int} {w : World} {K K' : Nat → Prop} {f a i : Nat} {ks : List (Nat × Value)} (h : KS d L w K f a i ks) (hK : ∀ b, K b → K' b) : KS d L w K' f a i ks :=
  ⟨h.len, fun i' hi h1 h2 => by obtain ⟨y, v, e1, e2, e3⟩ := h.all i' hi h1 h2; exact ⟨y, v, e1, e2, SP.mono hK _ _ _ e3⟩⟩
theorem KS.term {d : Bn} {L : List Int} {w : World} {K : Nat → Prop} {f a i : Nat} {ks : List (Nat × Value)} (h : KS d L w K f a i ks) (hi : i < (pa d L a).right.length) (ht : (pa d L a).right[i] < (d.terms.length : Int)) : KS d L w K f a (i + 1) ks :=
  ⟨by have := cn_take d.terms.length (pa d L a).right i hi; rw [if_pos ht] at this; rw [this]; exact h.len, fun i' hi' h1 h2 => by
    by_cases e : i' = i
    · subst e; exact absurd ht h2
    · exact h.all i' hi' (by omega) h2⟩
theorem KS.non {d : Bn} {L : List Int} {w : World} {K : Nat → Prop} {f a i x : Nat} {v : Value} {ks : List (Nat × Value)} (h : KS d L w K f a i ks) (hi : i < (pa d L a).right.length) (ht : ¬ (pa d L a).right[i] < (d.terms.length : Int)) (hx : atP d L f a i = some x) (hv : SP d L w K f x v) : KS d L w K f a (i + 1) (ks ++ [(x, v)]) :=
  ⟨by have := cn_take d.terms.length (pa d L a).right i hi; rw [if_neg ht] at this; rw [this, List.length_append, h.len]; rfl, fun i' hi' h1 h2 => by
    by_cases e : i' = i
    · subst e
      exact ⟨x, v, by rw [← h.len]; simp, hx, hv⟩
    · obtain ⟨y, u, e1, e2, e3⟩ := h.all i' hi' (by omega) h2
      have hlt := cn_lt hi' h2 (show i' < i by omega)
      exact ⟨y, u, by rw [List.getElem?_append_left (by rw [h.len]; exact hlt)]; exact e1, e2, e3⟩⟩
/-- All of them: the tree. -/
theorem KS.tree {d : Bn} {L : List Int} {w : World} {K : Nat → Prop} {f a B x : Nat} {u : Value} {ks : List (Nat × Value)} (h : KS d L w K f a (pa d L a).right.length ks) (hx : atP d L f a (pa d L a).right.length = some x) (ho : w.ownsRow B 48 2 u ks.length (kf L ks)) (hK : ∀ k, u.ownBlock = some k → K k) : SP d L w K (f + 1) a u := by
  have hl := h.len
  rw [List.take_length] at hl
  obtain ⟨ka, kc, kb, hle, rfl, hblk⟩ : ∃ (ka : Option Addr) (kc kb : Nat), ks.length ≤ kc ∧ u = .slice ka ks.length kc ∧ (0 < ks.length → ka = some ⟨kb, 0, none⟩) := by
    rcases ho.2 with ⟨h0, h1⟩ | ⟨g, cp, cur, r1, r2, r3, r4, r5, r6⟩
    · exact ⟨none, 0, 0, by omega, by rw [h0, h1], fun h => by omega⟩
    · exact ⟨_, cp, g, by omega, r1, fun _ => rfl⟩
  refine ⟨kb, kc, ka, fun i => ((ks[cn d.terms.length ((pa d L a).right.take i)]?).getD (0, .nilFunc)).2, fun i => (atP d L f a i).getD 0, by rw [hl], by rw [← hl]; exact hle, fun h0 => ?_, fun i hi => ?_⟩
  · have e := hblk (by omega)
    exact ⟨e, hK kb (by rw [e]; rfl)⟩
  · obtain ⟨y, hy⟩ := atP_prefix hx i (by omega)
    dsimp only
    refine ⟨by rw [hy]; rfl, fun hn => ?_⟩
    obtain ⟨y', v, e1, e2, e3⟩ := h.all i hi hi hn
    have hyy : y = y' := by rw [hy] at e2; simpa using e2
    subst hyy
    rw [hy, e1]
    have hp : 0 < ks.length := by rw [hl]; exact cn_pos hi hn
    have e := hblk hp
    obtain ⟨g1, g2⟩ := kf_get L ks _ _ e1
    have c1 := World.ownsRow.cells ho (g := kb) (by rw [e]; rfl) _ _ g1
    have c2 := World.ownsRow.cells ho (g := kb) (by rw [e]; rfl) _ _ g2
    rw [add0] at c1 c2
    exact ⟨c1, c2, e3⟩
/-- The program's Kids of the first i symbols. -/
structure DS (d : Bn) (L : List Int) (w : World) (K : Nat → Prop) (f a i : Nat) (vs : List Value) : Prop where
  len : vs.length = i
  all : ∀ i' (hi : i' < (pa d L a).right.length) (h2 : i' < vs.length), ((pa d L a).right[i'] < (d.terms.length : Int) → vs[i'] = .pointer none) ∧ (¬ (pa d L a).right[i'] < (d.terms.length : Int) → ∃ y, atP d L f a i' = some y ∧ DP d L w K f y vs[i'])
theorem DS.nil (d : Bn) (L : List Int) (w : World) (K : Nat → Prop) (f a : Nat) : DS d L w K f a 0 [] := ⟨rfl, fun i' _ h => absurd h (Nat.not_lt_zero _)⟩
theorem DS.keep {d : Bn} {L : List Int} {w w' : World} {K : Nat → Prop} {f a i : Nat} {vs : List Value} (h : DS d L w K f a i vs) (hb : ∀ b, K b → b < w.heap.size → w'.heap[b]? = w.heap[b]?) : DS d L w' K f a i vs :=
  ⟨h.len, fun i' hi h2 => ⟨(h.all i' hi h2).1, fun hn => by obtain ⟨y, e1, e2⟩ := (h.all i' hi h2).2 hn; exact ⟨y, e1, DP.keep hb _ _ _ e2⟩⟩⟩
theorem DS.mono {d : Bn} {L : List Int} {w : World} {K K' : Nat → Prop} {f a i : Nat} {vs : List Value} (h : DS d L w K f a i vs) (hK : ∀ b, K b → K' b) : DS d L w K' f a i vs :=
  ⟨h.len, fun i' hi h2 => ⟨(h.all i' hi h2).1, fun hn => by obtain ⟨y, e1, e2⟩ := (h.all i' hi h2).2 hn; exact ⟨y, e1, DP.mono hK _ _ _ e2⟩⟩⟩
theorem DS.next {d : Bn} {L : List Int} {w : World} {K : Nat → Prop} {f a i x : Nat} {v : Value} {vs : List Value} (h : DS d L w K f a i vs) (hi : i < (pa d L a).right.length) (hx : atP d L f a i = some x) (h1 : (pa d L a).right[i] < (d.terms.length : Int) → v = .pointer none) (h2 : ¬ (pa d L a).right[i] < (d.terms.length : Int) → DP d L w K f x v) : DS d L w K f a (i + 1) (vs ++ [v]) :=
  ⟨by simp [h.len], fun i' hi' hl => by
    by_cases e : i' < vs.length
    · rw [List.getElem_append_left e]
      exact h.all i' hi' e
    · have e2 : i' = i := by have := h.len; simp at hl; omega
      subst e2
      have e3 : (vs ++ [v])[i']'hl = v := by rw [List.getElem_append_right (by omega)]; simp [h.len]
      rw [e3]
      exact ⟨h1, fun hn => ⟨x, hx, h2 hn⟩⟩⟩
theorem DS.tree {d : Bn} {L : List Int} {w : World} {K : Nat → Prop} {f a B x g : Nat} {u : Value} {vs : List Value} (h : DS d L w K f a (pa d L a).right.length vs) (hx : atP d L f a (pa d L a).right.length = some x) (ho : w.ownsRow B 55 1 u vs.length vs) (hK : ∀ k, u.ownBlock = some k → K k) (hg : K g) (h0 : w.cell? ⟨g, 0, none⟩ = some (.int .i64 (numAt L a))) (h1 : w.cell? ⟨g, 1, none⟩ = some u) (hn2 : ∃ n : Int, w.cell? ⟨g, 2, none⟩ = some (.int .i64 n) ∧ 0 ≤ n ∧ n ≤ 1073741825) : DP d L w K (f + 1) a (.pointer (some ⟨g, 0, none⟩)) := by
  have hl := h.len
  obtain ⟨ka, kc, kb, hle, rfl, hblk⟩ : ∃ (ka : Option Addr) (kc kb : Nat), vs.length ≤ kc ∧ u = .slice ka vs.length kc ∧ (0 < vs.length → ka = some ⟨kb, 0, none⟩) := by
    rcases ho.2 with ⟨h0, h1⟩ | ⟨g, cp, cur, r1, r2, r3, r4, r5, r6⟩
    · exact ⟨none, 0, 0, by omega, by rw [h0, h1], fun h => by omega⟩
    · exact ⟨_, cp, g, by omega, r1, fun _ => rfl⟩
  rw [hl] at h1 hle hblk
  refine ⟨g, kb, kc, ka, fun i => vs.getD i .nilFunc, fun i => (atP d L f a i).getD 0, rfl, hg, h0, h1, hle, fun hp => ⟨hblk hp, hK kb (by rw [hblk hp]; rfl)⟩, fun i hi => ?_, hn2⟩
  obtain ⟨y, hy⟩ := atP_prefix hx i (by omega)
  have hi2 : i < vs.length := by omega
  have e := hblk (by omega)
  have c1 := World.ownsRow.cells ho (g := kb) (by rw [e]; rfl) i vs[i] (by simp [hi2])
  rw [add0] at c1
  have eg : vs.getD i .nilFunc = vs[i] := by simp [List.getD_eq_getElem?_getD, hi2]
  dsimp only
  refine ⟨by rw [hy]; rfl, by rw [eg]; exact c1, fun ht => by rw [eg]; exact (h.all i hi hi2).1 ht, fun hn => ?_⟩
  obtain ⟨y', e1, e2⟩ := (h.all i hi hi2).2 hn
  rw [e1, eg]
  exact e2
end Go.Proofs.Ytaimlmjgicmbeaa
