import Derived.Test.YtblfeifedcddnaaPm
/-! Filling a pattern: plain mathematics. -/
namespace Go.Proofs.Ytblfeifedcddnaa
set_option linter.unusedVariables false
set_option maxRecDepth 100000
set_option linter.unusedSimpArgs false

theorem Tr.len_le_cntL : ∀ k : List Tr, k.length ≤ Tr.cntL k
  | [] => Nat.zero_le _
  | t :: r => by
    have h := Tr.len_le_cntL r
    have h1 := Tr.cnt_pos t
    have e : Tr.cntL (t :: r) = t.cnt + Tr.cntL r := by simp [Tr.cntL]
    simp only [List.length_cons]
    omega
theorem Tr.cnt_mem (k : List Tr) (i : Nat) (h : i < k.length) : k[i].cnt ≤ Tr.cntL k := by
  have h1 := Tr.cntL_take_succ k i h
  have h2 := Tr.cntL_take_le k (i + 1)
  omega
theorem Tr.wtL_right : ∀ (k : List Tr), (∀ i (hi : i < k.length), k[i].right = true → k[i].wt + 1 ≤ 225 * k[i].cnt) → Tr.rightL k = true → k.length + Tr.wtL k ≤ 225 * Tr.cntL k
  | [], _, _ => by simp [Tr.wtL]
  | t :: r, h, hr => by
    have hr2 : t.right = true ∧ Tr.rightL r = true := by
      unfold Tr.rightL at hr ⊢
      rw [List.all_cons, Bool.and_eq_true] at hr
      exact hr
    have h0 := h 0 (by simp)
    simp only [List.getElem_cons_zero] at h0
    have h0' := h0 hr2.1
    have h1 := Tr.wtL_right r (fun i hi => by have := h (i + 1) (by simp; omega); simpa using this) hr2.2
    have e : Tr.cntL (t :: r) = t.cnt + Tr.cntL r := by simp [Tr.cntL]
    have e2 : Tr.wtL (t :: r) = t.wt + Tr.wtL r := by simp [Tr.wtL]
    simp only [List.length_cons]
    omega
/-- A right tree holds little. -/
theorem Tr.wt_right (t : Tr) : t.right = true → t.wt + 1 ≤ 225 * t.cnt := by
  refine Tr.ind (P := fun t => t.right = true → t.wt + 1 ≤ 225 * t.cnt) ?_ t
  intro n x l k ih hr
  rw [Tr.right_mk, Bool.and_eq_true] at hr
  rw [Tr.wt_mk, Tr.cnt_mk]
  have h1 := Tr.wtL_right k ih hr.2
  have hn : n.size ≤ 24 := by
    have h := hr.1
    unfold Tr.alone at h
    rw [Bool.and_eq_true] at h
    obtain ⟨_, h2, _⟩ := nmB_iff.1 h.1
    exact h2
  have hx : x.size ≤ 200 := by
    rcases Tr.alone_yes hr.1 with ⟨_, _, h⟩ | ⟨_, h⟩
    · exact h
    · rw [isEmpty_iff, decide_eq_true_eq] at h
      omega
  omega
theorem ok_right {t : Tr} (h : t.ok = true) : t.right = true := by
  unfold Tr.ok at h
  simp only [Bool.and_eq_true, decide_eq_true_eq] at h
  simp [h]
theorem ok_cntF {t : Tr} (h : t.ok = true) : t.cnt ≤ 1000 := by
  unfold Tr.ok at h
  simp only [Bool.and_eq_true, decide_eq_true_eq] at h
  exact h.1.1
theorem ok_wt {t : Tr} (h : t.ok = true) : t.wt ≤ 1048576 := by
  have h1 := Tr.wt_right t (ok_right h)
  have h2 := ok_cntF h
  omega
/-- No tree: what stands beside a code that is not OK. -/
def noTr : Tr := ⟨ByteArray.empty, ByteArray.empty, false, []⟩
end Go.Proofs.Ytblfeifedcddnaa
