import Derived.Test.YtledclkmeikgdaaSi
import Derived.Test.YtledclkmeikgdaaSj
import Derived.Test.YtledclkmeikgdaaGa
/-! The specification: a term is gone through, whole; what is gathered of it. -/
namespace Go.Proofs.Ytledclkmeikgdaa
open Go.RowKit Go.Deep Go.Lib
open Go.Proofs.Ytledclkmeikgdaa.T (Tr)
set_option linter.unusedVariables false
set_option maxRecDepth 100000
set_option linter.unusedSimpArgs false

theorem tm_node {n x : ByteArray} {k : List Tr} {m : Nat} {d : Bool} (h : T.kdN n = some (m, d)) (ht : T.tm ⟨n, x, false, k⟩ = true) : k.length = m ∧ (∀ i (hi : i < k.length), T.tm k[i] = true) ∧ (d = true → T.id0 k = true) := by
  rw [T.tmN n x k m d h] at ht
  simp only [Bool.and_eq_true, decide_eq_true_eq, List.all_eq_true, Bool.or_eq_true, Bool.not_eq_true'] at ht
  refine ⟨ht.1, fun i hi => ht.2.1 _ (List.getElem_mem hi), fun hd => ?_⟩
  rcases ht.2.2 with h | h
  · rw [hd] at h; cases h
  · exact h
theorem id_nm {k : List Tr} (h : T.id0 k = true) (ht : ∀ i (hi : i < k.length), T.tm k[i] = true) : T.nmB (nm0 k) = true := by
  cases k with
  | nil => simp [T.id0] at h
  | cons t k =>
    have h1 : T.idT t = true := h
    have h2 := ht 0 (by simp)
    rw [List.getElem_cons_zero, T.tm_id h1] at h2
    exact h2
/-- All names are names. -/
def Sw.Nm (s : Sw) : Prop := (∀ y ∈ s.ds, T.nmB y.name = true) ∧ ∀ y ∈ s.rs, T.nmB y.name = true
theorem sw_nm (t : Tr) : ∀ (sc : Nat) (p : List Nat) (s : Sw), T.tm t = true → s.Nm → (sw t sc p s).Nm := by
  induction t using T.Tr.ind with
  | h n x l k ih =>
    intro sc p s ht hs
    have hk : ∀ (d : Bool) (inn : Nat) (s : Sw), (∀ i (hi : i < k.length), T.tm k[i] = true) → s.Nm → ∀ j, j ≤ k.length → (swJ d sc inn p k j s).Nm := by
      intro d inn s hkt hs j
      induction j with
      | zero => intro _; exact hs
      | succ j ihj =>
        intro hj
        by_cases hd : d = true ∧ j = 0
        · obtain ⟨rfl, rfl⟩ := hd
          rw [swJ_one]
          exact hs
        · rw [swJ_succ (by omega) hd]
          exact ih j (by omega) _ _ _ (hkt j (by omega)) (ihj (by omega))
    rw [sw_mk]
    cases l
    · rw [if_neg (by simp)]
      have hn : T.kdN n ≠ none := fun e => by
        rw [T.tm_mk, e] at ht
        simp at ht
      obtain ⟨⟨m, d⟩, hmd⟩ := Option.ne_none_iff_exists'.1 hn
      obtain ⟨h1, h2, h3⟩ := tm_node hmd ht
      have hd := (T.kd_dcl hmd).1
      rw [hd]
      cases d
      · rw [if_neg (by simp), ← swJ_all]
        exact hk false 0 s h2 hs _ (Nat.le_refl _)
      · rw [if_pos rfl, ← swJ_all]
        refine hk true s.n (s.dcl (nm0 k) sc p) h2 ⟨fun y hy => ?_, hs.2⟩ _ (Nat.le_refl _)
        rcases List.mem_append.1 hy with hy | hy
        · exact hs.1 y hy
        · rw [List.mem_singleton] at hy
          subst hy
          exact id_nm (h3 rfl) h2
    · rw [if_pos rfl]
      split
      · rename_i hid
        refine ⟨hs.1, fun y hy => ?_⟩
        rcases List.mem_append.1 hy with hy | hy
        · exact hs.2 y hy
        · rw [List.mem_singleton] at hy
          subst hy
          have hi : T.idT ⟨n, x, true, k⟩ = true := by unfold T.idT; simp only [Bool.true_and]; exact hid
          have := T.tm_id hi
          rw [ht] at this
          exact this.symm
      · exact hs
set_option maxHeartbeats 3200000 in
/-- A leaf that is no reference. -/
theorem walk50_leaf {A q : Nat} (n x : ByteArray) (hid : (n.toList == ([73, 100] : List UInt8)) = false) (v : Value) (hv : ∃ a c d, v = .slice a c d) (sc : Nat) (p : List Nat) (g cp : Nat) (s : Sw) (c : CV) (w : World) (h : Co w A q 85 s c) :
    Calls Try.prog 50 #[.pointer (some ⟨q, 0, none⟩), .agg #[.string n, .string x, .bool true, v], .slice (some ⟨g, 0, none⟩) p.length cp, .int .i64 (sc : Nat)] w fun e w' => e = .returned (.tuple #[]) ∧ ∃ c', St A q 85 w s c w' s c' (fun _ => False) (fun b => b = g) := by
  obtain ⟨a, cc, d, rfl⟩ := hv
  have HF := (show Hid (St A q 85 w s c (w.alloc (.cells #[.string n, .string x, .bool true, .slice a cc d] 40)) s c (fun _ => False) (fun b => b = g)) from St.below h (bel_alloc _ _))
  clear h
  go_enter Try.func50, Try.ntmps50
  go_wp2_with fail
  refine bodyPost_ret (v := .tuple #[]) (by simp [results, Try.results50, go_sem]) rfl ?_
  exact ⟨rfl, c, HF.out⟩
theorem walk50 {A q : Nat} (t : Tr) : WkC A q t := by
  induction t using T.Tr.ind with
  | h n x l k ih =>
    intro v sc p g cp s c w h hp hg hlies hsz hdp hsc ht
    have hform := hlies.form
    obtain ⟨a, cap, b, off, sv, hv, hrest⟩ := hlies.out
    rw [T.Tr.cnt_mk] at hsz
    rw [T.Tr.deep_mk] at hdp
    unfold WkA
    rw [sw_mk]
    cases l
    · rw [if_neg (by simp)]
      have hn : T.kdN n ≠ none := fun e => by
        rw [T.tm_mk, e] at ht
        simp at ht
      obtain ⟨⟨m, d⟩, hmd⟩ := Option.ne_none_iff_exists'.1 hn
      obtain ⟨h1, h2, h3⟩ := tm_node hmd ht
      have hd := (T.kd_dcl hmd).1
      rw [hd]
      cases d
      · rw [if_neg (by simp), ← swJ_all]
        have hl : (n.toList == T.cLam) = false ∧ (n.toList == T.cLet) = false := by
          unfold T.dclB at hd
          simpa using hd
        exact walk50_kids n x k ih hl.1 hl.2 v sc p g cp s c w h hp hg hlies (by omega) (by omega) hsc h2
      · rw [if_pos rfl, ← swJ_all]
        rcases T.kd_cases n with ⟨e, g'⟩ | ⟨e, g'⟩ | ⟨e, g'⟩ | ⟨e, g'⟩ | ⟨e, g'⟩ | ⟨e, g'⟩ | ⟨_, _, _, _, _, _, g'⟩
        all_goals rw [hmd] at g'
        all_goals (try (simp at g'; done))
        · injection g' with g'
          injection g' with g1 g2
          subst g1
          exact walk50_lam n x k h1 ih (by rw [e]; rfl) (by rw [e]; rfl) v sc p g cp s c w h hp hg hlies (by omega) (by omega) hsc h2
        · injection g' with g'
          injection g' with g1 g2
          subst g1
          exact walk50_let n x k h1 ih (by rw [e]; rfl) (by rw [e]; rfl) v sc p g cp s c w h hp hg hlies (by omega) (by omega) hsc h2
    · rw [if_pos rfl]
      split
      · rename_i hid
        subst hv
        exact walk50_ref n x k hid a cap sc p g cp s c w h hp hg (by omega) hsc
      · rename_i hid
        exact walk50_leaf n x (by unfold T.cId at hid; simpa using hid) v hform sc p g cp s c w h
end Go.Proofs.Ytledclkmeikgdaa
