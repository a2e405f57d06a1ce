import Derived.Test.YtledclkmeikgdaaHk
import Derived.Test.YtledclkmeikgdaaHg
/-! Rename: what is answered. -/
namespace Go.Proofs.Ytledclkmeikgdaa
open Go.RowKit Go.Deep
set_option linter.unusedVariables false
set_option maxRecDepth 100000
set_option linter.unusedSimpArgs false

/-- Spots, some of them with a new name. -/
def nwN (p : Nat → Bool) (nm : ByteArray) (l : List DSpot) : List DSpot := l.mapIdx fun i r => if p i = true then ⟨r.scope, nm⟩ else r
theorem nwN_len (p : Nat → Bool) (nm : ByteArray) (l : List DSpot) : (nwN p nm l).length = l.length := by simp [nwN]
theorem nwN_at {p : Nat → Bool} {nm : ByteArray} {l : List DSpot} {i : Nat} (hi : i < (nwN p nm l).length) : (nwN p nm l)[i] = if p i = true then ⟨(l[i]'(by rw [nwN_len] at hi; exact hi)).scope, nm⟩ else l[i]'(by rw [nwN_len] at hi; exact hi) := by simp [nwN]
theorem nwN_none {p : Nat → Bool} {nm : ByteArray} {l : List DSpot} (h : ∀ i, i < l.length → p i = false) : nwN p nm l = l := by
  refine List.ext_getElem (nwN_len _ _ _) (fun i h1 h2 => ?_)
  rw [nwN_at h1, h i h2]; rfl
theorem nwN_same {p q : Nat → Bool} {nm : ByteArray} {l : List DSpot} (h : ∀ i, i < l.length → p i = q i) : nwN p nm l = nwN q nm l := by
  refine List.ext_getElem (by rw [nwN_len, nwN_len]) (fun i h1 h2 => ?_)
  rw [nwN_at h1, nwN_at h2, h i (by rw [nwN_len] at h1; exact h1)]
theorem nwN_set {p q : Nat → Bool} {nm : ByteArray} {l : List DSpot} {j : Nat} (hj : j < l.length) (hq : q j = true) (h : ∀ i, i < l.length → i ≠ j → p i = q i) (sc : Int) (hsc : sc = l[j].scope) : (nwN p nm l).set j ⟨sc, nm⟩ = nwN q nm l := by
  subst hsc
  refine List.ext_getElem (by rw [List.length_set, nwN_len, nwN_len]) (fun i h1 h2 => ?_)
  have hi : i < l.length := by rw [nwN_len] at h2; exact h2
  rw [nwN_at h2, List.getElem_set]
  by_cases e : j = i
  · subst e; rw [if_pos rfl, hq]; rfl
  · rw [if_neg e, nwN_at, h i hi (fun q => e q.symm)]
theorem nwN_scope {p : Nat → Bool} {nm : ByteArray} {l : List DSpot} {i : Nat} (hi : i < (nwN p nm l).length) : (nwN p nm l)[i].scope = (l[i]'(by rw [nwN_len] at hi; exact hi)).scope := by
  rw [nwN_at hi]; split <;> rfl
theorem nwN_ok {n : Int} {p : Nat → Bool} {nm : ByteArray} {l : List DSpot} (hn : nmB nm = true) (h : l.all (spB n) = true) : (nwN p nm l).all (spB n) = true := by
  rw [List.all_eq_true] at h ⊢
  intro x hx
  obtain ⟨i, hi, rfl⟩ := List.getElem_of_mem hx
  have hi2 : i < l.length := by rw [nwN_len] at hi; exact hi
  have hb := h _ (List.getElem_mem hi2)
  rw [nwN_at hi]
  split
  · unfold spB at hb ⊢
    rw [Bool.and_eq_true] at hb ⊢
    exact ⟨hb.1, hn⟩
  · exact hb
def zSg : DSg := ⟨0, [], [], []⟩
/-- Whether reference i stands for it. -/
def htI (t : DSg) (d : Int) (i : Nat) : Bool := hasI (rsv t (t.refs.getD i ⟨0, ByteArray.empty⟩)) d
theorem htI_at {t : DSg} {d : Int} {i : Nat} (hi : i < t.refs.length) : htI t d i = hasI (rsv t t.refs[i]) d := by unfold htI; rw [getD_lt _ _ hi]
/-- .. and for others, too. -/
def twI (t : DSg) (d : Int) (i : Nat) : Bool := htI t d i && decide (1 < (rsv t (t.refs.getD i ⟨0, ByteArray.empty⟩)).length)
theorem twI_at {t : DSg} {d : Int} {i : Nat} (hi : i < t.refs.length) : twI t d i = (hasI (rsv t t.refs[i]) d && decide (1 < (rsv t t.refs[i]).length)) := by unfold twI; rw [htI_at hi, getD_lt _ _ hi]
def twB (t : DSg) (d : Int) : Bool := (List.range t.refs.length).any (twI t d)
theorem twB_yes {t : DSg} {d : Int} {i : Nat} (hi : i < t.refs.length) (h : twI t d i = true) : twB t d = true := List.any_eq_true.2 ⟨i, List.mem_range.2 hi, h⟩
theorem twB_no {t : DSg} {d : Int} (h : ∀ i, i < t.refs.length → twI t d i = false) : twB t d = false := by
  rw [← Bool.not_eq_true]
  intro hx
  obtain ⟨i, hi, h2⟩ := List.any_eq_true.1 hx
  rw [h i (List.mem_range.1 hi)] at h2
  cases h2
/-- The references, the first j of them looked at. -/
def rnF (t : DSg) (d : Int) (nm : ByteArray) (j : Nat) : List DSpot := nwN (fun i => decide (i < j) && htI t d i) nm t.refs
def rnD (t : DSg) (d : Nat) (nm : ByteArray) : List DSpot := nwN (fun i => i == d) nm t.decls
def rnT (t : DSg) (d : Nat) (nm : ByteArray) : DSg := ⟨t.scopes, t.edges, rnD t d nm, rnF t (d : Int) nm t.refs.length⟩
def rnR (t : DSg) (d : Int) (nm : ByteArray) : DSg × Int :=
  if sgB t = true ∧ nmB nm = true then
    if 0 ≤ d ∧ d < t.decls.length then
      if twB t d = true then (zSg, 5)
      else if (rnT t d.toNat nm).refs.map (rsv (rnT t d.toNat nm)) = t.refs.map (rsv t) then (rnT t d.toNat nm, 0) else (zSg, 12)
    else (zSg, 4)
  else (zSg, 1)
theorem rnR_bad {t : DSg} {d : Int} {nm : ByteArray} (h : ¬ (sgB t = true ∧ nmB nm = true)) : rnR t d nm = (zSg, 1) := by unfold rnR; rw [if_neg h]
theorem rnR_place {t : DSg} {d : Int} {nm : ByteArray} (h : sgB t = true ∧ nmB nm = true) (h2 : ¬ (0 ≤ d ∧ d < t.decls.length)) : rnR t d nm = (zSg, 4) := by unfold rnR; rw [if_pos h, if_neg h2]
theorem rnR_twice {t : DSg} {d : Nat} {nm : ByteArray} (h : sgB t = true ∧ nmB nm = true) (h2 : d < t.decls.length) (h3 : twB t (d : Int) = true) : rnR t (d : Int) nm = (zSg, 5) := by unfold rnR; rw [if_pos h, if_pos (by omega), if_pos h3]
theorem rnR_catch {t : DSg} {d : Nat} {nm : ByteArray} (h : sgB t = true ∧ nmB nm = true) (h2 : d < t.decls.length) (h3 : twB t (d : Int) = false) (h4 : ¬ (rnT t d nm).refs.map (rsv (rnT t d nm)) = t.refs.map (rsv t)) : rnR t (d : Int) nm = (zSg, 12) := by
  unfold rnR; rw [if_pos h, if_pos (by omega), if_neg (by rw [h3]; simp), Int.toNat_natCast, if_neg h4]
theorem rnR_ok {t : DSg} {d : Nat} {nm : ByteArray} (h : sgB t = true ∧ nmB nm = true) (h2 : d < t.decls.length) (h3 : twB t (d : Int) = false) (h4 : (rnT t d nm).refs.map (rsv (rnT t d nm)) = t.refs.map (rsv t)) : rnR t (d : Int) nm = (rnT t d nm, 0) := by
  unfold rnR; rw [if_pos h, if_pos (by omega), if_neg (by rw [h3]; simp), Int.toNat_natCast, if_pos h4]
theorem rnT_ok {t : DSg} {d : Nat} {nm : ByteArray} (h : sgB t = true) (hn : nmB nm = true) : sgB (rnT t d nm) = true := by
  unfold sgB at h ⊢
  unfold rnT rnD rnF
  unfold spsB at h ⊢
  simp only [nwN_len, Bool.and_eq_true] at h ⊢
  exact ⟨h.1, h.2.1, ⟨h.2.2.1.1, nwN_ok hn h.2.2.1.2⟩, ⟨h.2.2.2.1.1, nwN_ok hn h.2.2.2.1.2⟩, h.2.2.2.2⟩
theorem rnF_zero (t : DSg) (d : Int) (nm : ByteArray) : rnF t d nm 0 = t.refs := nwN_none (fun i hi => by simp)
theorem rnF_len (t : DSg) (d : Int) (nm : ByteArray) (j : Nat) : (rnF t d nm j).length = t.refs.length := nwN_len _ _ _
theorem rnD_len (t : DSg) (d : Nat) (nm : ByteArray) : (rnD t d nm).length = t.decls.length := nwN_len _ _ _
theorem rnF_no {t : DSg} {d : Int} {nm : ByteArray} {j : Nat} (hj : j < t.refs.length) (h : hasI (rsv t t.refs[j]) d = false) : rnF t d nm (j + 1) = rnF t d nm j := by
  refine nwN_same (fun i hi => ?_)
  by_cases e : i = j
  · subst e; rw [htI_at hi, h]; simp
  · have : (i < j + 1) = (i < j) := by rw [eq_iff_iff]; omega
    simp [this]
theorem rnF_yes {t : DSg} {d : Int} {nm : ByteArray} {j : Nat} (hj : j < t.refs.length) (h : hasI (rsv t t.refs[j]) d = true) (sc : Int) (hsc : sc = t.refs[j].scope) : (rnF t d nm j).set j ⟨sc, nm⟩ = rnF t d nm (j + 1) := by
  refine nwN_set hj (by simp [htI_at hj, h]) (fun i hi e => ?_) sc hsc
  have : (i < j + 1) = (i < j) := by rw [eq_iff_iff]; omega
  simp [this]
theorem rnF_scope {t : DSg} {d : Int} {nm : ByteArray} {j i : Nat} (hi : i < (rnF t d nm j).length) : (rnF t d nm j)[i].scope = (t.refs[i]'(by rw [rnF_len] at hi; exact hi)).scope := nwN_scope hi
theorem rnD_set {t : DSg} {d : Nat} {nm : ByteArray} (hd : d < t.decls.length) : t.decls.set d ⟨t.decls[d].scope, nm⟩ = rnD t d nm := by
  have := nwN_set (p := fun _ => false) (q := fun i => i == d) (nm := nm) hd (by simp) (fun i hi e => by simp; exact e) t.decls[d].scope rfl
  rw [nwN_none (fun _ _ => rfl)] at this
  exact this
theorem nm_small {nm : ByteArray} (h : nmB nm = true) : nm.size ≤ 24 := by
  obtain ⟨h1, h2, _⟩ := nmB_iff.1 h
  exact h2
theorem sg_names {t : DSg} (h : sgB t = true) : (∀ i (hi : i < t.decls.length), t.decls[i].name.size ≤ maxLen) ∧ ∀ i (hi : i < t.refs.length), t.refs[i].name.size ≤ maxLen := by
  unfold sgB spsB at h
  simp only [Bool.and_eq_true, List.all_eq_true] at h
  refine ⟨fun i hi => ?_, fun i hi => ?_⟩
  · have := h.2.2.1.2 _ (List.getElem_mem hi)
    unfold spB at this
    rw [Bool.and_eq_true] at this
    have := nm_small this.2
    unfold maxLen; omega
  · have := h.2.2.2.1.2 _ (List.getElem_mem hi)
    unfold spB at this
    rw [Bool.and_eq_true] at this
    have := nm_small this.2
    unfold maxLen; omega
theorem nwN_names {p : Nat → Bool} {nm : ByteArray} {l : List DSpot} (hn : nmB nm = true) (h : ∀ i (hi : i < l.length), l[i].name.size ≤ maxLen) : ∀ i (hi : i < (nwN p nm l).length), (nwN p nm l)[i].name.size ≤ maxLen := fun i hi => by
  rw [nwN_at hi]
  split
  · have := nm_small hn; show nm.size ≤ maxLen; unfold maxLen; omega
  · exact h i _
end Go.Proofs.Ytledclkmeikgdaa
