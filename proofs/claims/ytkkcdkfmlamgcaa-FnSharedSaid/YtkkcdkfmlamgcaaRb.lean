import Derived.Test.YtkkcdkfmlamgcaaRa
/-! Nodes as they are given are marked; a Dag that is given. -/
namespace Go.Proofs.Ytkkcdkfmlamgcaa
open Go.RowKit Go.Deep
set_option linter.unusedVariables false
set_option maxRecDepth 100000
set_option linter.unusedSimpArgs false

theorem cnt_nil {n m : Nat} : cnt n m = [] ↔ m = 0 := by
  rw [← List.length_eq_zero_iff, cnt_len]
/-- How many marks the first i nodes take. -/
def mor (ns : List Rd) (i : Nat) : Nat := ((ns.take i).map fun a => 3 + a.ks.length).sum
theorem mor_zero (ns : List Rd) : mor ns 0 = 0 := by simp [mor]
theorem mor_succ {ns : List Rd} {i : Nat} (h : i < ns.length) : mor ns (i + 1) = mor ns i + (3 + (rdn ns i).ks.length) := by
  unfold mor
  rw [List.take_succ_eq_append_getElem h, rdn_eq h, List.map_append, List.sum_append]
  simp only [List.map_cons, List.map_nil, List.sum_cons, List.sum_nil, Nat.add_zero]
theorem mor_le (ns : List Rd) (i : Nat) : mor ns i ≤ mor ns ns.length := by
  unfold mor
  rw [List.take_length]
  have h : (ns.map fun a => 3 + a.ks.length).sum = ((ns.take i).map fun a => 3 + a.ks.length).sum + ((ns.drop i).map fun a => 3 + a.ks.length).sum := by
    rw [← List.sum_append, ← List.map_append, List.take_append_drop]
  omega
/-- A node with its marks. -/
def mkr (ns : List Rd) (n i : Nat) : Rd := ⟨mt (n + mor ns i), mt (n + mor ns i + 1), decide ((n + mor ns i + 2) % 3 = 0), cnt (n + mor ns i + 3) (rdn ns i).ks.length⟩
/-- The first j nodes with their marks. -/
def mxr (ns : List Rd) (n j : Nat) : List Rd := (List.range ns.length).map fun i => if i < j then mkr ns n i else rdn ns i
theorem mxr_len (ns : List Rd) (n j : Nat) : (mxr ns n j).length = ns.length := by simp [mxr]
theorem mxr_nd {ns : List Rd} {n j i : Nat} (h : i < ns.length) : rdn (mxr ns n j) i = if i < j then mkr ns n i else rdn ns i := by
  unfold rdn mxr
  simp [h, rdn]
theorem mxr_zero (ns : List Rd) (n : Nat) : mxr ns n 0 = ns := by
  apply List.ext_getElem (mxr_len ns n 0)
  intro i h1 h2
  have := mxr_nd (n := n) (j := 0) h2
  rw [rdn_eq h1, if_neg (by omega), rdn_eq h2] at this
  exact this
theorem mxr_ks {ns : List Rd} {n j i : Nat} (h : i < ns.length) : (rdn (mxr ns n j) i).ks = [] ↔ (rdn ns i).ks = [] := by
  rw [mxr_nd h]
  split
  · show cnt _ _ = [] ↔ _
    rw [cnt_nil, List.length_eq_zero_iff]
  · exact Iff.rfl
theorem rc_set (ns ms : List Rd) (kv : Nat → Value) (j : Nat) (a b : ByteArray) (c : Bool) (hj : (rdn ms j).nm = a ∧ (rdn ms j).tx = b ∧ (rdn ms j).lf = c) : ∀ m, j < m → (∀ i, i < m → i ≠ j → rdn ms i = rdn ns i) →
    (((rc ns kv m).set (j * 4) (.string a)).set (j * 4 + 1) (.string b)).set (j * 4 + 2) (.bool c) = rc ms kv m := by
  intro m
  induction m with
  | zero => intro h; omega
  | succ m ih =>
    intro h hne
    have hl := rc_len ns kv m
    rw [rc, rc]
    by_cases e : j = m
    · subst e
      rw [rc_congr (ns := ns) (ms := ms) (lv := kv) j (fun i hi => ⟨(hne i (by omega) (by omega)).symm, rfl⟩)]
      have hl2 := rc_len ms kv j
      rw [List.set_append_right _ _ (by omega), List.set_append_right _ _ (by omega), List.set_append_right _ _ (by omega), hl2, hj.1, hj.2.1, hj.2.2]
      simp
    · rw [List.set_append_left _ _ (by omega), List.set_append_left _ _ (by simp; omega), List.set_append_left _ _ (by simp; omega), ih (by omega) (fun i hi he => hne i (by omega) he), hne m (by omega) (fun e2 => e e2.symm)]
/-- One more node has its marks. -/
theorem Rn.mark {B n j g cap b : Nat} {wr W3 w4 : World} {ns : List Rd} {K : Nat → Prop} {kv : Nat → Value} {kb : Nat → Nat} (h : Rn B wr (.slice (some ⟨g, 0, none⟩) ns.length cap) (mxr ns n j) K kv kb) (hj : j < ns.length)
    (hrow : W3.ownsRow B 34 4 (.slice (some ⟨g, 0, none⟩) ns.length cap) ns.length ((((rc (mxr ns n j) kv ns.length).set (j * 4) (.string (mt (n + mor ns j)))).set (j * 4 + 1) (.string (mt (n + mor ns j + 1)))).set (j * 4 + 2) (.bool (decide ((n + mor ns j + 2) % 3 = 0)))))
    (hs3 : wr.heap.size ≤ W3.heap.size) (hblk : ∀ q, q < wr.heap.size → q ≠ g → W3.heap[q]? = wr.heap[q]?) (ho3 : W3.os = wr.os ∧ W3.tape = wr.tape ∧ W3.output = wr.output)
    (hout : Out b (b + 1) W3 w4) (hb : ((rdn ns j).ks = [] ∧ W3.heap.size ≤ b) ∨ ((rdn ns j).ks ≠ [] ∧ b = kb j)) (how : OwnI w4 b (cnt (n + mor ns j + 3) (rdn ns j).ks.length) (kv j)) :
    Rn B w4 (.slice (some ⟨g, 0, none⟩) ns.length cap) (mxr ns n (j + 1)) K kv kb ∧ OutK K (.slice (some ⟨g, 0, none⟩) ns.length cap) wr w4 := by
  have hml := mxr_len ns n j
  have hml1 := mxr_len ns n (j + 1)
  have hkj : rdn (mxr ns n j) j = rdn ns j := by rw [mxr_nd hj, if_neg (Nat.lt_irrefl _)]
  have hk1 : rdn (mxr ns n (j + 1)) j = mkr ns n j := by rw [mxr_nd hj, if_pos (Nat.lt_succ_self _)]
  have hko : ∀ i, i < ns.length → i ≠ j → rdn (mxr ns n (j + 1)) i = rdn (mxr ns n j) i := fun i hi he => by
    rw [mxr_nd hi, mxr_nd hi]
    by_cases e : i < j
    · rw [if_pos e, if_pos (by omega)]
    · rw [if_neg e, if_neg (by omega)]
  have hgl : g < wr.heap.size := (World.ownsRow.lt h.row g rfl).2
  have hgb : g ≠ b := by
    rcases hb with ⟨_, e⟩ | ⟨e1, e2⟩
    · omega
    · intro e
      exact h.ne (kb j) (h.ink j (by omega) (by rw [hkj]; exact e1)) (by rw [← e2, ← e]; rfl)
  have hb34 : ∀ q, q < W3.heap.size → q ≠ b → w4.heap[q]? = W3.heap[q]? := fun q hq hne => hout.2.2.2.2 q hq (by omega)
  have hs4 := hout.2.2.2.1
  have hkb : ∀ i, i < ns.length → i ≠ j → (rdn ns i).ks ≠ [] → kb i ≠ b ∧ kb i < wr.heap.size ∧ kb i ≠ g := fun i hi he hne => by
    have hK := h.ink i (by omega) (by rw [ne_eq, mxr_ks hi]; exact hne)
    refine ⟨?_, (h.lo _ hK).2, fun e => h.ne _ hK (by rw [e]; rfl)⟩
    rcases hb with ⟨_, e⟩ | ⟨e1, e2⟩
    · have := (h.lo _ hK).2; omega
    · intro e
      exact he (h.inj i j (by omega) (by omega) (by rw [ne_eq, mxr_ks hi]; exact hne) (by rw [hkj]; exact e1) (by rw [e, e2]))
  refine ⟨⟨?_, fun i hi => ?_, fun i hi hne => ?_, fun i q hi hq h1 h2 e => ?_, fun q hq => ⟨(h.lo q hq).1, by have := (h.lo q hq).2; omega⟩, h.ne⟩, ?_⟩
  · rw [hml1]
    have e1 := rc_set (mxr ns n j) (mxr ns n (j + 1)) kv j (mt (n + mor ns j)) (mt (n + mor ns j + 1)) (decide ((n + mor ns j + 2) % 3 = 0)) (by rw [hk1]; exact ⟨rfl, rfl, rfl⟩) ns.length hj (fun i hi he => hko i hi he)
    rw [e1] at hrow
    exact own_keep1 hrow (fun q hq => by
      have e : g = q := by simpa [Value.ownBlock] using hq
      exact hb34 q (by omega) (by omega))
  · rw [hml1] at hi
    by_cases e : i = j
    · subst e
      rw [hk1]
      show OwnI w4 (kb i) ((cnt (n + mor ns i + 3) (rdn ns i).ks.length)) (kv i)
      refine how.at0 (fun hne => ?_)
      rcases hb with ⟨e1, e2⟩ | ⟨e1, e2⟩
      · rw [e1] at hne
        exact absurd (by simp [cnt]) hne
      · exact e2
    · rw [hko i hi e]
      refine (h.kid i (by omega)).keep0 (fun hne => ?_)
      have hne2 : (rdn ns i).ks ≠ [] := by
        have := id hne
        rw [ne_eq, mxr_ks hi] at this
        exact this
      obtain ⟨k1, k2, k3⟩ := hkb i hi e hne2
      exact (hb34 _ (by omega) k1).trans (hblk _ k2 k3)
  · rw [hml1] at hi
    exact h.ink i (by omega) (by rw [ne_eq, mxr_ks hi]; rw [ne_eq, mxr_ks hi] at hne; exact hne)
  · rw [hml1] at hi hq
    exact h.inj i q (by omega) (by omega) (by rw [ne_eq, mxr_ks hi]; rw [ne_eq, mxr_ks hi] at h1; exact h1) (by rw [ne_eq, mxr_ks hq]; rw [ne_eq, mxr_ks hq] at h2; exact h2) e
  · refine ⟨hout.1.trans ho3.1, hout.2.1.trans ho3.2.1, hout.2.2.1.trans ho3.2.2, by omega, fun q hq h1 h2 => ?_⟩
    have hqg : q ≠ g := fun e => h2 (by rw [e]; rfl)
    have hqb : q ≠ b := fun e => by
      rcases hb with ⟨_, e2⟩ | ⟨e1, e2⟩
      · omega
      · exact h1 (by rw [e, e2]; exact h.ink j (by omega) (by rw [hkj]; exact e1))
    exact (hb34 q (by omega) hqb).trans (hblk q hq hqg)
end Go.Proofs.Ytkkcdkfmlamgcaa
