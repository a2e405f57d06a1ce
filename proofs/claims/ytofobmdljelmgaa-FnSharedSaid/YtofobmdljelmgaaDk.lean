import Derived.Test.YtofobmdljelmgaaLs
import Derived.Test.YtofobmdljelmgaaMark2
/-! Nodes that are the same, compared. -/
namespace Go.Proofs.Ytofobmdljelmgaa
open Go.RowKit Go.Deep
set_option linter.unusedVariables false
set_option maxRecDepth 100000
set_option linter.unusedSimpArgs false

theorem neq_refl_bytes (a : ByteArray) : (a.toList != a.toList) = false := by simp
end Go.Proofs.Ytofobmdljelmgaa

/-! Nodes are marked, and held. -/
namespace Go.Proofs.Ytofobmdljelmgaa
open Go.RowKit Go.Deep
set_option linter.unusedVariables false
set_option maxRecDepth 100000
set_option linter.unusedSimpArgs false

def cntN (n m : Nat) : List Nat := (List.range m).map fun i => n + i
theorem ins_cntN (n m : Nat) : ins (cntN n m) = cnt n m := by simp [ins, cntN, cnt]
theorem cntN_len (n m : Nat) : (cntN n m).length = m := by simp [cntN]
theorem cntN_nil {n m : Nat} : cntN n m = [] ↔ m = 0 := by
  rw [← List.length_eq_zero_iff, cntN_len]
/-- How many marks the first i nodes take. -/
def mo (ns : List Nd) (i : Nat) : Nat := ((ns.take i).map fun a => 3 + a.ks.length).sum
theorem mo_zero (ns : List Nd) : mo ns 0 = 0 := by simp [mo]
theorem mo_succ {ns : List Nd} {i : Nat} (h : i < ns.length) : mo ns (i + 1) = mo ns i + (3 + (nd ns i).ks.length) := by
  unfold mo
  rw [List.take_succ_eq_append_getElem h, nd_eq h, List.map_append, List.sum_append]
  simp only [List.map_cons, List.map_nil, List.sum_cons, List.sum_nil, Nat.add_zero]
theorem mo_le (ns : List Nd) (i : Nat) : mo ns i ≤ mo ns ns.length := by
  unfold mo
  rw [List.take_length]
  have h : (ns.map fun a => 3 + a.ks.length).sum = ((ns.take i).map fun a => 3 + a.ks.length).sum + ((ns.drop i).map fun a => 3 + a.ks.length).sum := by
    rw [← List.sum_append, ← List.map_append, List.take_append_drop]
  omega
/-- A node with its marks. -/
def mk1 (ns : List Nd) (n i : Nat) : Nd := ⟨mt (n + mo ns i), mt (n + mo ns i + 1), decide ((n + mo ns i + 2) % 3 = 0), cntN (n + mo ns i + 3) (nd ns i).ks.length⟩
/-- The first j nodes with their marks. -/
def mx (ns : List Nd) (n j : Nat) : List Nd := (List.range ns.length).map fun i => if i < j then mk1 ns n i else nd ns i
theorem mx_len (ns : List Nd) (n j : Nat) : (mx ns n j).length = ns.length := by simp [mx]
theorem mx_nd {ns : List Nd} {n j i : Nat} (h : i < ns.length) : nd (mx ns n j) i = if i < j then mk1 ns n i else nd ns i := by
  unfold nd mx
  simp [h, nd]
theorem mx_zero (ns : List Nd) (n : Nat) : mx ns n 0 = ns := by
  apply List.ext_getElem (mx_len ns n 0)
  intro i h1 h2
  have := mx_nd (n := n) (j := 0) h2
  rw [nd_eq h1, if_neg (by omega), nd_eq h2] at this
  exact this
theorem mx_ks {ns : List Nd} {n j i : Nat} (h : i < ns.length) : (nd (mx ns n j) i).ks = [] ↔ (nd ns i).ks = [] := by
  rw [mx_nd h]
  split
  · show cntN _ _ = [] ↔ _
    rw [cntN_nil, List.length_eq_zero_iff]
  · exact Iff.rfl
theorem nc_set (ns ms : List Nd) (kv : Nat → Value) (j : Nat) (a b : ByteArray) (c : Bool) (hj : (nd ms j).nm = a ∧ (nd ms j).tx = b ∧ (nd ms j).lf = c) : ∀ m, j < m → (∀ i, i < m → i ≠ j → nd ms i = nd ns i) →
    (((nc ns kv m).set (j * 4) (.string a)).set (j * 4 + 1) (.string b)).set (j * 4 + 2) (.bool c) = nc ms kv m := by
  intro m
  induction m with
  | zero => intro h; omega
  | succ m ih =>
    intro h hne
    have hl := nc_len ns kv m
    rw [nc, nc]
    by_cases e : j = m
    · subst e
      rw [nc_congr (ns := ns) (ms := ms) (lv := kv) j (fun i hi => ⟨(hne i (by omega) (by omega)).symm, rfl⟩)]
      have hl2 := nc_len ms kv j
      rw [List.set_append_right _ _ (by omega), List.set_append_right _ _ (by omega), List.set_append_right _ _ (by omega), hl2, hj.1, hj.2.1, hj.2.2]
      simp
    · rw [List.set_append_left _ _ (by omega), List.set_append_left _ _ (by simp; omega), List.set_append_left _ _ (by simp; omega), ih (by omega) (fun i hi he => hne i (by omega) he), hne m (by omega) (fun e2 => e e2.symm)]
/-- All but what the nodes own is as it was. -/
structure OutK (K : Nat → Prop) (u : Value) (w w' : World) : Prop where
  os : w'.os = w.os
  tape : w'.tape = w.tape
  output : w'.output = w.output
  size : w.heap.size ≤ w'.heap.size
  block : ∀ q, q < w.heap.size → ¬ K q → u.ownBlock ≠ some q → w'.heap[q]? = w.heap[q]?
theorem OutK.refl (K : Nat → Prop) (u : Value) (w : World) : OutK K u w w := ⟨rfl, rfl, rfl, Nat.le_refl _, fun _ _ _ _ => rfl⟩
theorem OutK.trans {K : Nat → Prop} {u : Value} {x y z : World} (h : OutK K u x y) (k : OutK K u y z) : OutK K u x z :=
  ⟨k.os.trans h.os, k.tape.trans h.tape, k.output.trans h.output, Nat.le_trans h.size k.size, fun q hq h1 h2 => (k.block q (Nat.lt_of_lt_of_le hq h.size) h1 h2).trans (h.block q hq h1 h2)⟩
/-- One more node has its marks. -/
theorem Dn.mark {B n j g cap b : Nat} {wr W3 w4 : World} {ns : List Nd} {K : Nat → Prop} {kv : Nat → Value} {kb : Nat → Nat} (h : Dn B wr (.slice (some ⟨g, 0, none⟩) ns.length cap) (mx ns n j) K kv kb) (hj : j < ns.length)
    (hrow : W3.ownsRow B 34 4 (.slice (some ⟨g, 0, none⟩) ns.length cap) ns.length ((((nc (mx ns n j) kv ns.length).set (j * 4) (.string (mt (n + mo ns j)))).set (j * 4 + 1) (.string (mt (n + mo ns j + 1)))).set (j * 4 + 2) (.bool (decide ((n + mo ns j + 2) % 3 = 0)))))
    (hs3 : wr.heap.size ≤ W3.heap.size) (hblk : ∀ q, q < wr.heap.size → q ≠ g → W3.heap[q]? = wr.heap[q]?) (ho3 : W3.os = wr.os ∧ W3.tape = wr.tape ∧ W3.output = wr.output)
    (hout : Out b (b + 1) W3 w4) (hb : ((nd ns j).ks = [] ∧ W3.heap.size ≤ b) ∨ ((nd ns j).ks ≠ [] ∧ b = kb j)) (how : OwnI w4 b (cnt (n + mo ns j + 3) (nd ns j).ks.length) (kv j)) :
    Dn B w4 (.slice (some ⟨g, 0, none⟩) ns.length cap) (mx ns n (j + 1)) K kv kb ∧ OutK K (.slice (some ⟨g, 0, none⟩) ns.length cap) wr w4 := by
  have hml := mx_len ns n j
  have hml1 := mx_len ns n (j + 1)
  have hkj : nd (mx ns n j) j = nd ns j := by rw [mx_nd hj, if_neg (Nat.lt_irrefl _)]
  have hk1 : nd (mx ns n (j + 1)) j = mk1 ns n j := by rw [mx_nd hj, if_pos (Nat.lt_succ_self _)]
  have hko : ∀ i, i < ns.length → i ≠ j → nd (mx ns n (j + 1)) i = nd (mx ns n j) i := fun i hi he => by
    rw [mx_nd hi, mx_nd hi]
    by_cases e : i < j
    · rw [if_pos e, if_pos (by omega)]
    · rw [if_neg e, if_neg (by omega)]
  have hgl : g < wr.heap.size := (World.ownsRow.lt h.row g rfl).2
  have hgb : g ≠ b := by
    rcases hb with ⟨_, e⟩ | ⟨e1, e2⟩
    · omega
    · intro e
      exact h.ne (kb j) (h.ink j (by omega) (by rw [hkj]; exact e1)) (by rw [← e2, ← e]; rfl)
  have hb34 : ∀ q, q < W3.heap.size → q ≠ b → w4.heap[q]? = W3.heap[q]? := fun q hq hne => hout.2.2.2.2 q hq (by omega)
  have hs4 := hout.2.2.2.1
  have hkb : ∀ i, i < ns.length → i ≠ j → (nd ns i).ks ≠ [] → kb i ≠ b ∧ kb i < wr.heap.size ∧ kb i ≠ g := fun i hi he hne => by
    have hK := h.ink i (by omega) (by rw [ne_eq, mx_ks hi]; exact hne)
    refine ⟨?_, (h.lo _ hK).2, fun e => h.ne _ hK (by rw [e]; rfl)⟩
    rcases hb with ⟨_, e⟩ | ⟨e1, e2⟩
    · have := (h.lo _ hK).2; omega
    · intro e
      exact he (h.inj i j (by omega) (by omega) (by rw [ne_eq, mx_ks hi]; exact hne) (by rw [hkj]; exact e1) (by rw [e, e2]))
  refine ⟨⟨?_, fun i hi => ?_, fun i hi hne => ?_, fun i q hi hq h1 h2 e => ?_, fun q hq => ⟨(h.lo q hq).1, by have := (h.lo q hq).2; omega⟩, h.ne⟩, ?_⟩
  · rw [hml1]
    have e1 := nc_set (mx ns n j) (mx ns n (j + 1)) kv j (mt (n + mo ns j)) (mt (n + mo ns j + 1)) (decide ((n + mo ns j + 2) % 3 = 0)) (by rw [hk1]; exact ⟨rfl, rfl, rfl⟩) ns.length hj (fun i hi he => hko i hi he)
    rw [e1] at hrow
    exact own_keep1 hrow (fun q hq => by
      have e : g = q := by simpa [Value.ownBlock] using hq
      exact hb34 q (by omega) (by omega))
  · rw [hml1] at hi
    by_cases e : i = j
    · subst e
      rw [hk1]
      show OwnI w4 (kb i) (ins (cntN (n + mo ns i + 3) (nd ns i).ks.length)) (kv i)
      rw [ins_cntN]
      refine how.at0 (fun hne => ?_)
      rcases hb with ⟨e1, e2⟩ | ⟨e1, e2⟩
      · rw [e1] at hne
        exact absurd (by simp [cnt]) hne
      · exact e2
    · rw [hko i hi e]
      refine (h.kid i (by omega)).keep0 (fun hne => ?_)
      have hne2 : (nd ns i).ks ≠ [] := by
        have := ins_ne.1 hne
        rw [ne_eq, mx_ks hi] at this
        exact this
      obtain ⟨k1, k2, k3⟩ := hkb i hi e hne2
      exact (hb34 _ (by omega) k1).trans (hblk _ k2 k3)
  · rw [hml1] at hi
    exact h.ink i (by omega) (by rw [ne_eq, mx_ks hi]; rw [ne_eq, mx_ks hi] at hne; exact hne)
  · rw [hml1] at hi hq
    exact h.inj i q (by omega) (by omega) (by rw [ne_eq, mx_ks hi]; rw [ne_eq, mx_ks hi] at h1; exact h1) (by rw [ne_eq, mx_ks hq]; rw [ne_eq, mx_ks hq] at h2; exact h2) e
  · refine ⟨hout.1.trans ho3.1, hout.2.1.trans ho3.2.1, hout.2.2.1.trans ho3.2.2, by omega, fun q hq h1 h2 => ?_⟩
    have hqg : q ≠ g := fun e => h2 (by rw [e]; rfl)
    have hqb : q ≠ b := fun e => by
      rcases hb with ⟨_, e2⟩ | ⟨e1, e2⟩
      · omega
      · exact h1 (by rw [e, e2]; exact h.ink j (by omega) (by rw [hkj]; exact e1))
    exact (hb34 q (by omega) hqb).trans (hblk q hq hqg)
theorem neq_refl_bytes' (a : ByteArray) : (a.toList != a.toList) = false := by simp
/-- All marks of a Dag. -/
def dgM (ns : List Nd) (rs : List Nat) (n : Nat) : Nat := n + mo ns ns.length + rs.length
theorem DgR.top {B : Nat} {w : World} {ns : List Nd} {rs : List Nat} {u r : Value} {K : Nat → Prop} (d1 : DN B w u ns K) (d2 : w.ownsRow B 3 1 r rs.length (iv (ins rs))) : ∀ q, (K q ∨ u.ownBlock = some q ∨ r.ownBlock = some q) → B ≤ q ∧ q < w.heap.size := fun q hq => by
  rcases hq with hq | hq | hq
  · exact d1.lt q (.inl hq)
  · exact d1.lt q (.inr hq)
  · exact World.ownsRow.lt d2 q hq
theorem own_of_int {w : World} {B b : Nat} {l : List Int} {v : Value} (h : OwnI w b l v) (hne : l ≠ []) (hB : B ≤ b) : w.ownsRow B 3 1 v l.length (iv l) := by
  obtain ⟨a, cap, f, hv, hc, hm, ha, hf⟩ := h
  have h0 : 0 < l.length := List.length_pos_iff.2 hne
  obtain ⟨e1, cs, x1, x2, x3⟩ := ha h0
  subst e1
  refine ⟨by simp, .inr ⟨b, cap, cs, hv, hB, x1, hc, hm, by omega, ?_⟩⟩
  apply List.ext_getElem?
  intro i
  rw [Nat.mul_one, List.getElem?_take]
  by_cases hi : i < l.length
  · rw [if_pos hi]
    have x4 := x3 i (by omega)
    rw [hf i hi] at x4
    rw [Array.getElem?_toList, x4]
    simp [iv, hi]
  · rw [if_neg hi, List.getElem?_eq_none (by simp [iv]; omega)]
end Go.Proofs.Ytofobmdljelmgaa
