import Derived.Test.YtkkcdkfmlamgcaaUs
/-! The program's tree: when it answers and when it panics. Plain mathematics. -/
namespace Go.Proofs.Ytkkcdkfmlamgcaa
set_option linter.unusedVariables false
set_option maxRecDepth 100000
set_option linter.unusedSimpArgs false

/-- The tree of number z, with g grown ahead of it and at depth d, is within the limits. -/
def Fit (ns : List Rd) (z g d : Int) (t : Tr) : Prop := isR t ns z ∧ g + t.cnt ≤ 1000 ∧ d + t.deep ≤ 61
theorem isR_at {t : Tr} {ns : List Rd} {z : Int} (h : isR t ns z) : 0 ≤ z ∧ z < (ns.length : Int) := by
  obtain ⟨n, x, l, k⟩ := t
  rw [isR_mk] at h
  obtain ⟨qs, h0, h1, _⟩ := h
  have := (List.getElem?_eq_some_iff.1 h1).1
  omega
theorem Fit.uniq {ns : List Rd} {z g d : Int} {t t' : Tr} (h : Fit ns z g d t) (h' : Fit ns z g d t') : t = t' := isR_uniq _ h.1 h'.1
theorem Fit.head {ns : List Rd} {z g d : Int} {t : Tr} (h : Fit ns z g d t) : 0 ≤ z ∧ z < (ns.length : Int) ∧ g + 1 ≤ 1000 ∧ d ≤ 60 := by
  have h1 := isR_at h.1
  have h2 := Tr.cnt_pos t
  have h3 := Tr.deep_pos t
  have h4 := h.2.1
  have h5 := h.2.2
  omega
/-- Trees that the first Kids stand for. -/
def KsR (ns : List Rd) (qs : List Int) (k' : List Tr) : Prop := k'.length ≤ qs.length ∧ ∀ i (h1 : i < k'.length) (h2 : i < qs.length), isR k'[i] ns qs[i]
theorem KsR.nil (ns : List Rd) (qs : List Int) : KsR ns qs [] := ⟨Nat.zero_le _, fun i h => absurd h (Nat.not_lt_zero _)⟩
theorem KsR.add {ns : List Rd} {qs : List Int} {k' : List Tr} {t : Tr} (h : KsR ns qs k') (hl : k'.length < qs.length) (ht : isR t ns qs[k'.length]) : KsR ns qs (k' ++ [t]) := by
  obtain ⟨h1, h3⟩ := h
  refine ⟨by simp; omega, fun i g1 g2 => ?_⟩
  by_cases e : i < k'.length
  · rw [List.getElem_append_left e]; exact h3 i e g2
  · obtain rfl : i = k'.length := by simp at g1; omega
    simpa using ht
theorem Fit.kid {ns : List Rd} {z g d : Int} {t : Tr} {n x : ByteArray} {l : Bool} {qs : List Int} {k' : List Tr} (h : Fit ns z g d t) (hn : ns[z.toNat]? = some ⟨n, x, l, qs⟩) (hk : KsR ns qs k') (hl : k'.length < qs.length) :
    ∃ t', Fit ns qs[k'.length] (g + 1 + (Tr.cntL k' : Nat)) (d + 1) t' := by
  obtain ⟨n', x', l', k⟩ := t
  obtain ⟨h1, h2, h3⟩ := h
  rw [isR_mk] at h1
  obtain ⟨qs', h0, e1, e2, e3⟩ := h1
  rw [hn] at e1
  simp only [Option.some.injEq, Rd.mk.injEq] at e1
  obtain ⟨rfl, rfl, rfl, rfl⟩ := e1
  have hkl : k'.length < k.length := by omega
  have hpre : k' = k.take k'.length := List.ext_getElem (by rw [List.length_take]; omega) (fun i g1 g2 => by
    rw [List.getElem_take]
    exact isR_uniq _ (hk.2 i g1 (by omega)) (e3 i (by omega) (by omega)))
  refine ⟨k[k'.length], e3 _ hkl hl, ?_, ?_⟩
  · have h4 := Tr.cntL_take_succ k k'.length hkl
    have h5 := Tr.cntL_take_le k (k'.length + 1)
    rw [← hpre] at h4
    rw [Tr.cnt_mk] at h2
    omega
  · have h4 := Tr.deepL_take_succ k k'.length hkl
    have h5 := Tr.deepL_take_le k (k'.length + 1)
    rw [Tr.deep_mk] at h3
    omega
theorem Fit.done {ns : List Rd} {z g d : Int} {n x : ByteArray} {l : Bool} {qs : List Int} {k' : List Tr} (hz : 0 ≤ z) (hn : ns[z.toNat]? = some ⟨n, x, l, qs⟩) (hk : KsR ns qs k') (hl : k'.length = qs.length) (hc : g + 1 + (Tr.cntL k' : Nat) ≤ 1000) (hd : d + 1 + (Tr.deepL k' : Nat) ≤ 61) : Fit ns z g d ⟨n, x, l, k'⟩ := by
  refine ⟨?_, ?_, ?_⟩
  · rw [isR_mk]
    exact ⟨qs, hz, hn, hl.symm, fun i g1 g2 => hk.2 i g1 g2⟩
  · rw [Tr.cnt_mk]; omega
  · rw [Tr.deep_mk]; omega
/-- Each root of what is right has a tree within the limits. -/
theorem UnOK.fit {ns : List Rd} {rs : List Int} {T : List Tr} (h : UnOK ns rs T) (i : Nat) (h1 : i < rs.length) (h2 : i < T.length) : Fit ns rs[i] 0 1 T[i] := by
  obtain ⟨_, _, a3⟩ := h.root
  have h3 := a3 i h1 h2
  refine ⟨h3.1, ?_, ?_⟩
  · have := ok_cntU h3.2.1; omega
  · have h4 := h3.2.1
    unfold Tr.ok at h4
    simp only [Bool.and_eq_true, decide_eq_true_eq] at h4
    omega
end Go.Proofs.Ytkkcdkfmlamgcaa
