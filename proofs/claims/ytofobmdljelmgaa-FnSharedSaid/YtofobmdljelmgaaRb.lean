import Derived.Test.YtofobmdljelmgaaDz
/-! Nodes as they are given: their Kids may be any numbers. -/
namespace Go.Proofs.Ytofobmdljelmgaa
open Go.RowKit Go.Deep
set_option linter.unusedVariables false
set_option maxRecDepth 100000
set_option linter.unusedSimpArgs false

/-- A node as it is given. -/
structure Rd where
  nm : ByteArray
  tx : ByteArray
  lf : Bool
  ks : List Int
def rdn (ns : List Rd) (j : Nat) : Rd := (ns[j]?).getD ⟨ByteArray.empty, ByteArray.empty, false, []⟩
theorem rdn_eq {ns : List Rd} {j : Nat} (h : j < ns.length) : rdn ns j = ns[j] := by simp [rdn, h]
theorem rdn_app {ns : List Rd} {n : Rd} {j : Nat} (h : j < ns.length) : rdn (ns ++ [n]) j = rdn ns j := by simp [rdn, List.getElem?_append_left h]
theorem rdn_last (ns : List Rd) (n : Rd) : rdn (ns ++ [n]) ns.length = n := by simp [rdn]
/-- The cells of the first j nodes. -/
def rc (ns : List Rd) (kv : Nat → Value) : Nat → List Value
  | 0 => []
  | j + 1 => rc ns kv j ++ [.string (rdn ns j).nm, .string (rdn ns j).tx, .bool (rdn ns j).lf, kv j]
theorem rc_len (ns : List Rd) (kv : Nat → Value) : ∀ j, (rc ns kv j).length = j * 4
  | 0 => rfl
  | j + 1 => by rw [rc, List.length_append, rc_len ns kv j]; simp; omega
theorem rc_congr {ns ms : List Rd} {kv lv : Nat → Value} : ∀ j, (∀ i, i < j → rdn ns i = rdn ms i ∧ kv i = lv i) → rc ns kv j = rc ms lv j
  | 0, _ => rfl
  | j + 1, h => by rw [rc, rc, rc_congr j (fun i hi => h i (by omega)), (h j (by omega)).1, (h j (by omega)).2]
theorem rc_get (ns : List Rd) (kv : Nat → Value) : ∀ j i, i < j → (rc ns kv j)[i * 4]? = some (.string (rdn ns i).nm) ∧ (rc ns kv j)[i * 4 + 1]? = some (.string (rdn ns i).tx) ∧ (rc ns kv j)[i * 4 + 2]? = some (.bool (rdn ns i).lf) ∧ (rc ns kv j)[i * 4 + 3]? = some (kv i)
  | 0, _, h => absurd h (Nat.not_lt_zero _)
  | j + 1, i, h => by
    have hl := rc_len ns kv j
    by_cases e : i = j
    · subst e
      rw [rc]
      refine ⟨?_, ?_, ?_, ?_⟩ <;> (rw [List.getElem?_append_right (by omega), hl]; simp)
    · obtain ⟨h0, h1, h2, h3⟩ := rc_get ns kv j i (by omega)
      rw [rc]
      refine ⟨?_, ?_, ?_, ?_⟩ <;> (rw [List.getElem?_append_left (by omega)]; assumption)

/-- THE NODES LIE BEHIND u, their Kids behind kv in the blocks kb; K: all these blocks. -/
structure Rn (B : Nat) (w : World) (u : Value) (ns : List Rd) (K : Nat → Prop) (kv : Nat → Value) (kb : Nat → Nat) : Prop where
  row : w.ownsRow B 34 4 u ns.length (rc ns kv ns.length)
  kid : ∀ i, i < ns.length → OwnI w (kb i) ((rdn ns i).ks) (kv i)
  ink : ∀ i, i < ns.length → (rdn ns i).ks ≠ [] → K (kb i)
  inj : ∀ i j, i < ns.length → j < ns.length → (rdn ns i).ks ≠ [] → (rdn ns j).ks ≠ [] → kb i = kb j → i = j
  lo : ∀ b, K b → B ≤ b ∧ b < w.heap.size
  ne : ∀ b, K b → u.ownBlock ≠ some b
def RN (B : Nat) (w : World) (u : Value) (ns : List Rd) (K : Nat → Prop) : Prop := ∃ kv kb, Rn B w u ns K kv kb
theorem Rn.keep {B : Nat} {w w' : World} {u : Value} {ns : List Rd} {K : Nat → Prop} {kv : Nat → Value} {kb : Nat → Nat} (h : Rn B w u ns K kv kb) (hs : w.heap.size ≤ w'.heap.size) (hb : ∀ b, K b ∨ u.ownBlock = some b → b < w.heap.size → w'.heap[b]? = w.heap[b]?) : Rn B w' u ns K kv kb :=
  ⟨own_keep1 h.row (fun k hk => hb k (.inr hk) (World.ownsRow.lt h.row k hk).2), fun i hi => (h.kid i hi).keep0 (fun hne => hb _ (.inl (h.ink i hi (id hne))) (h.lo _ (h.ink i hi (id hne))).2), h.ink, h.inj, fun b hk => ⟨(h.lo b hk).1, Nat.lt_of_lt_of_le (h.lo b hk).2 hs⟩, h.ne⟩
theorem RN.keep {B : Nat} {w w' : World} {u : Value} {ns : List Rd} {K : Nat → Prop} (h : RN B w u ns K) (hs : w.heap.size ≤ w'.heap.size) (hb : ∀ b, K b ∨ u.ownBlock = some b → b < w.heap.size → w'.heap[b]? = w.heap[b]?) : RN B w' u ns K := by
  obtain ⟨kv, kb, h⟩ := h
  exact ⟨kv, kb, h.keep hs hb⟩
theorem RN.still {B : Nat} {w w' : World} {u : Value} {ns : List Rd} {K : Nat → Prop} (h : RN B w u ns K) (hb : Below w.heap.size w w') : RN B w' u ns K := h.keep hb.size (fun b _ hlt => hb.block b hlt)
theorem Rn.lt {B : Nat} {w : World} {u : Value} {ns : List Rd} {K : Nat → Prop} {kv : Nat → Value} {kb : Nat → Nat} (h : Rn B w u ns K kv kb) : ∀ b, K b ∨ u.ownBlock = some b → B ≤ b ∧ b < w.heap.size := fun b hb => by
  rcases hb with hb | hb
  · exact h.lo b hb
  · exact World.ownsRow.lt h.row b hb
theorem RN.lt {B : Nat} {w : World} {u : Value} {ns : List Rd} {K : Nat → Prop} (h : RN B w u ns K) : ∀ b, K b ∨ u.ownBlock = some b → B ≤ b ∧ b < w.heap.size := by
  obtain ⟨kv, kb, h⟩ := h
  exact h.lt
theorem RN.nil (B : Nat) (w : World) : RN B w (.slice none 0 0) [] (fun _ => False) :=
  ⟨fun _ => .bool false, fun _ => 0, own_nil _ _ _ _, fun i hi => absurd hi (Nat.not_lt_zero _), fun i hi => absurd hi (Nat.not_lt_zero _), fun i j hi => absurd hi (Nat.not_lt_zero _), fun b h => h.elim, fun b h => h.elim⟩
theorem RN.form {B : Nat} {w : World} {u : Value} {ns : List Rd} {K : Nat → Prop} (h : RN B w u ns K) : ∃ a cap, u = .slice a ns.length cap ∧ ns.length ≤ cap ∧ cap ≤ maxLen := by
  obtain ⟨kv, kb, h⟩ := h
  rcases h.row.2 with ⟨e, h0⟩ | ⟨g, cp, cur, r1, r2, r3, r4, r5, r6⟩
  · exact ⟨none, 0, by rw [e, h0], by omega, Nat.zero_le _⟩
  · exact ⟨_, _, r1, r4, r5⟩
/-- One node. -/
theorem RN.node {B : Nat} {w : World} {u : Value} {ns : List Rd} {K : Nat → Prop} (h : RN B w u ns K) {i : Nat} (hi : i < ns.length) :
    ∃ g cap v, u = .slice (some ⟨g, 0, none⟩) ns.length cap ∧ B ≤ g ∧ w.cell? ⟨g, i * 4, none⟩ = some (.string (rdn ns i).nm) ∧ w.cell? ⟨g, i * 4 + 1, none⟩ = some (.string (rdn ns i).tx) ∧ w.cell? ⟨g, i * 4 + 2, none⟩ = some (.bool (rdn ns i).lf) ∧ w.cell? ⟨g, i * 4 + 3, none⟩ = some v ∧ Ints w (fun c => B ≤ c) ((rdn ns i).ks) v := by
  obtain ⟨kv, kb, h⟩ := h
  have hr := h.row
  obtain ⟨g, cap, hu⟩ : ∃ g cap, u = .slice (some ⟨g, 0, none⟩) ns.length cap := by
    rcases hr.2 with ⟨e, h0⟩ | ⟨g, cp, cur, r1, r2, r3, r4, r5, r6⟩
    · omega
    · exact ⟨_, _, r1⟩
  subst hu
  obtain ⟨h0, h1, h2, h3⟩ := rc_get ns kv ns.length i hi
  have hB := (World.ownsRow.lt hr g rfl).1
  refine ⟨g, cap, kv i, rfl, hB, ?_, ?_, ?_, ?_, ?_⟩
  · rw [World.ownsRow.cellAt hr _ (by omega)]; exact h0
  · rw [World.ownsRow.cellAt hr _ (by omega)]; exact h1
  · rw [World.ownsRow.cellAt hr _ (by omega)]; exact h2
  · rw [World.ownsRow.cellAt hr _ (by omega)]; exact h3
  · obtain ⟨a, c, b, o, e1, e2, e3, e4, e5⟩ := (h.kid i hi).ints
    exact ⟨a, c, b, o, e1, e2, e3, fun hp => ⟨(e4 hp).1, by rw [(e4 hp).2]; exact (h.lo _ (h.ink i hi (by intro e; rw [e] at hp; exact absurd hp (Nat.not_lt_zero _)))).1⟩, e5⟩
/-- One more. -/
theorem Rn.add {B : Nat} {w w' : World} {u v : Value} {ns : List Rd} {n : Rd} {K : Nat → Prop} {kv : Nat → Value} {kb : Nat → Nat} {g cap q : Nat} (h : Rn B w u ns K kv kb) (hv : OwnI w q (n.ks) v) (hq : n.ks ≠ [] → B ≤ q ∧ q < w.heap.size ∧ ¬ K q ∧ u.ownBlock ≠ some q)
    (hown : w'.ownsRow B 34 4 (.slice (some ⟨g, 0, none⟩) (ns.length + 1) cap) (ns.length + 1) (rc ns kv ns.length ++ [.string n.nm, .string n.tx, .bool n.lf, v])) (hgr : w.grownBy w' u.ownBlock) (hat : u.ownBlock = some g ∨ g = w.heap.size) :
    RN B w' (.slice (some ⟨g, 0, none⟩) (ns.length + 1) cap) (ns ++ [n]) (fun b => K b ∨ (n.ks ≠ [] ∧ b = q)) := by
  have hs := hgr.size
  have hgn : ∀ b, K b → ¬ g = b := fun b hb e => by
    rcases hat with e1 | e1
    · exact h.ne b hb (by rw [e1, e])
    · have := (h.lo b hb).2; omega
  refine ⟨fun i => if i = ns.length then v else kv i, fun i => if i = ns.length then q else kb i, ?_, fun i hi => ?_, fun i hi hne => ?_, fun i j hi hj h1 h2 e => ?_, fun b hb => ?_, fun b hb e => ?_⟩
  · have e1 : rc (ns ++ [n]) (fun i => if i = ns.length then v else kv i) (ns ++ [n]).length = rc ns kv ns.length ++ [.string n.nm, .string n.tx, .bool n.lf, v] := by
      rw [List.length_append, List.length_singleton, rc, rdn_last, if_pos rfl]
      rw [rc_congr (ns := ns ++ [n]) (ms := ns) (lv := kv) ns.length (fun i hi => ⟨rdn_app hi, if_neg (by omega)⟩)]
    rw [e1, List.length_append, List.length_singleton]
    exact hown
  · rw [List.length_append, List.length_singleton] at hi
    by_cases e : i = ns.length
    · subst e
      rw [if_pos rfl, if_pos rfl, rdn_last]
      exact hv.keep0 (fun hne => hgr.block q (hq (id hne)).2.1 (fun e => (hq (id hne)).2.2.2 e.symm))
    · rw [if_neg e, if_neg e, rdn_app (by omega)]
      exact (h.kid i (by omega)).keep0 (fun hne => hgr.block _ (h.lo _ (h.ink i (by omega) (id hne))).2 (fun e => h.ne _ (h.ink i (by omega) (id hne)) e.symm))
  · rw [List.length_append, List.length_singleton] at hi
    by_cases e : i = ns.length
    · subst e
      rw [if_pos rfl]
      rw [rdn_last] at hne
      exact .inr ⟨hne, rfl⟩
    · rw [if_neg e]
      rw [rdn_app (by omega)] at hne
      exact .inl (h.ink i (by omega) hne)
  · rw [List.length_append, List.length_singleton] at hi hj
    by_cases ei : i = ns.length
    · by_cases ej : j = ns.length
      · omega
      · rw [if_pos ei, if_neg ej] at e
        subst ei
        rw [rdn_last] at h1
        rw [rdn_app (by omega)] at h2
        exact absurd (h.ink j (by omega) h2) (by rw [← e]; exact (hq h1).2.2.1)
    · by_cases ej : j = ns.length
      · rw [if_neg ei, if_pos ej] at e
        subst ej
        rw [rdn_last] at h2
        rw [rdn_app (by omega)] at h1
        exact absurd (h.ink i (by omega) h1) (by rw [e]; exact (hq h2).2.2.1)
      · rw [if_neg ei, if_neg ej] at e
        rw [rdn_app (by omega)] at h1 h2
        exact h.inj i j (by omega) (by omega) h1 h2 e
  · rcases hb with hb | ⟨hb, rfl⟩
    · have := h.lo b hb; omega
    · have := hq hb; omega
  · have e' : some g = some b := e
    injection e' with e'
    rcases hb with hb | ⟨hb, rfl⟩
    · exact hgn b hb e'
    · rcases hat with e1 | e1
      · exact (hq hb).2.2.2 (by rw [e1, e'])
      · have := hq hb; omega

end Go.Proofs.Ytofobmdljelmgaa

/-! Nodes as they are given are marked; a Dag that is given. -/
namespace Go.Proofs.Ytofobmdljelmgaa
open Go.RowKit Go.Deep
set_option linter.unusedVariables false
set_option maxRecDepth 100000
set_option linter.unusedSimpArgs false

theorem cnt_nil {n m : Nat} : cnt n m = [] ↔ m = 0 := by
  rw [← List.length_eq_zero_iff, cnt_len]
/-- How many marks the first i nodes take. -/
def mor (ns : List Rd) (i : Nat) : Nat := ((ns.take i).map fun a => 3 + a.ks.length).sum
theorem mor_zero (ns : List Rd) : mor ns 0 = 0 := by simp [mor]
theorem mor_succ {ns : List Rd} {i : Nat} (h : i < ns.length) : mor ns (i + 1) = mor ns i + (3 + (rdn ns i).ks.length) := by
  unfold mor
  rw [List.take_succ_eq_append_getElem h, rdn_eq h, List.map_append, List.sum_append]
  simp only [List.map_cons, List.map_nil, List.sum_cons, List.sum_nil, Nat.add_zero]
theorem mor_le (ns : List Rd) (i : Nat) : mor ns i ≤ mor ns ns.length := by
  unfold mor
  rw [List.take_length]
  have h : (ns.map fun a => 3 + a.ks.length).sum = ((ns.take i).map fun a => 3 + a.ks.length).sum + ((ns.drop i).map fun a => 3 + a.ks.length).sum := by
    rw [← List.sum_append, ← List.map_append, List.take_append_drop]
  omega
/-- A node with its marks. -/
def mkr (ns : List Rd) (n i : Nat) : Rd := ⟨mt (n + mor ns i), mt (n + mor ns i + 1), decide ((n + mor ns i + 2) % 3 = 0), cnt (n + mor ns i + 3) (rdn ns i).ks.length⟩
/-- The first j nodes with their marks. -/
def mxr (ns : List Rd) (n j : Nat) : List Rd := (List.range ns.length).map fun i => if i < j then mkr ns n i else rdn ns i
theorem mxr_len (ns : List Rd) (n j : Nat) : (mxr ns n j).length = ns.length := by simp [mxr]
theorem mxr_nd {ns : List Rd} {n j i : Nat} (h : i < ns.length) : rdn (mxr ns n j) i = if i < j then mkr ns n i else rdn ns i := by
  unfold rdn mxr
  simp [h, rdn]
theorem mxr_zero (ns : List Rd) (n : Nat) : mxr ns n 0 = ns := by
  apply List.ext_getElem (mxr_len ns n 0)
  intro i h1 h2
  have := mxr_nd (n := n) (j := 0) h2
  rw [rdn_eq h1, if_neg (by omega), rdn_eq h2] at this
  exact this
theorem mxr_ks {ns : List Rd} {n j i : Nat} (h : i < ns.length) : (rdn (mxr ns n j) i).ks = [] ↔ (rdn ns i).ks = [] := by
  rw [mxr_nd h]
  split
  · show cnt _ _ = [] ↔ _
    rw [cnt_nil, List.length_eq_zero_iff]
  · exact Iff.rfl
theorem rc_set (ns ms : List Rd) (kv : Nat → Value) (j : Nat) (a b : ByteArray) (c : Bool) (hj : (rdn ms j).nm = a ∧ (rdn ms j).tx = b ∧ (rdn ms j).lf = c) : ∀ m, j < m → (∀ i, i < m → i ≠ j → rdn ms i = rdn ns i) →
    (((rc ns kv m).set (j * 4) (.string a)).set (j * 4 + 1) (.string b)).set (j * 4 + 2) (.bool c) = rc ms kv m := by
  intro m
  induction m with
  | zero => intro h; omega
  | succ m ih =>
    intro h hne
    have hl := rc_len ns kv m
    rw [rc, rc]
    by_cases e : j = m
    · subst e
      rw [rc_congr (ns := ns) (ms := ms) (lv := kv) j (fun i hi => ⟨(hne i (by omega) (by omega)).symm, rfl⟩)]
      have hl2 := rc_len ms kv j
      rw [List.set_append_right _ _ (by omega), List.set_append_right _ _ (by omega), List.set_append_right _ _ (by omega), hl2, hj.1, hj.2.1, hj.2.2]
      simp
    · rw [List.set_append_left _ _ (by omega), List.set_append_left _ _ (by simp; omega), List.set_append_left _ _ (by simp; omega), ih (by omega) (fun i hi he => hne i (by omega) he), hne m (by omega) (fun e2 => e e2.symm)]
/-- One more node has its marks. -/
theorem Rn.mark {B n j g cap b : Nat} {wr W3 w4 : World} {ns : List Rd} {K : Nat → Prop} {kv : Nat → Value} {kb : Nat → Nat} (h : Rn B wr (.slice (some ⟨g, 0, none⟩) ns.length cap) (mxr ns n j) K kv kb) (hj : j < ns.length)
    (hrow : W3.ownsRow B 34 4 (.slice (some ⟨g, 0, none⟩) ns.length cap) ns.length ((((rc (mxr ns n j) kv ns.length).set (j * 4) (.string (mt (n + mor ns j)))).set (j * 4 + 1) (.string (mt (n + mor ns j + 1)))).set (j * 4 + 2) (.bool (decide ((n + mor ns j + 2) % 3 = 0)))))
    (hs3 : wr.heap.size ≤ W3.heap.size) (hblk : ∀ q, q < wr.heap.size → q ≠ g → W3.heap[q]? = wr.heap[q]?) (ho3 : W3.os = wr.os ∧ W3.tape = wr.tape ∧ W3.output = wr.output)
    (hout : Out b (b + 1) W3 w4) (hb : ((rdn ns j).ks = [] ∧ W3.heap.size ≤ b) ∨ ((rdn ns j).ks ≠ [] ∧ b = kb j)) (how : OwnI w4 b (cnt (n + mor ns j + 3) (rdn ns j).ks.length) (kv j)) :
    Rn B w4 (.slice (some ⟨g, 0, none⟩) ns.length cap) (mxr ns n (j + 1)) K kv kb ∧ OutK K (.slice (some ⟨g, 0, none⟩) ns.length cap) wr w4 := by
  have hml := mxr_len ns n j
  have hml1 := mxr_len ns n (j + 1)
  have hkj : rdn (mxr ns n j) j = rdn ns j := by rw [mxr_nd hj, if_neg (Nat.lt_irrefl _)]
  have hk1 : rdn (mxr ns n (j + 1)) j = mkr ns n j := by rw [mxr_nd hj, if_pos (Nat.lt_succ_self _)]
  have hko : ∀ i, i < ns.length → i ≠ j → rdn (mxr ns n (j + 1)) i = rdn (mxr ns n j) i := fun i hi he => by
    rw [mxr_nd hi, mxr_nd hi]
    by_cases e : i < j
    · rw [if_pos e, if_pos (by omega)]
    · rw [if_neg e, if_neg (by omega)]
  have hgl : g < wr.heap.size := (World.ownsRow.lt h.row g rfl).2
  have hgb : g ≠ b := by
    rcases hb with ⟨_, e⟩ | ⟨e1, e2⟩
    · omega
    · intro e
      exact h.ne (kb j) (h.ink j (by omega) (by rw [hkj]; exact e1)) (by rw [← e2, ← e]; rfl)
  have hb34 : ∀ q, q < W3.heap.size → q ≠ b → w4.heap[q]? = W3.heap[q]? := fun q hq hne => hout.2.2.2.2 q hq (by omega)
  have hs4 := hout.2.2.2.1
  have hkb : ∀ i, i < ns.length → i ≠ j → (rdn ns i).ks ≠ [] → kb i ≠ b ∧ kb i < wr.heap.size ∧ kb i ≠ g := fun i hi he hne => by
    have hK := h.ink i (by omega) (by rw [ne_eq, mxr_ks hi]; exact hne)
    refine ⟨?_, (h.lo _ hK).2, fun e => h.ne _ hK (by rw [e]; rfl)⟩
    rcases hb with ⟨_, e⟩ | ⟨e1, e2⟩
    · have := (h.lo _ hK).2; omega
    · intro e
      exact he (h.inj i j (by omega) (by omega) (by rw [ne_eq, mxr_ks hi]; exact hne) (by rw [hkj]; exact e1) (by rw [e, e2]))
  refine ⟨⟨?_, fun i hi => ?_, fun i hi hne => ?_, fun i q hi hq h1 h2 e => ?_, fun q hq => ⟨(h.lo q hq).1, by have := (h.lo q hq).2; omega⟩, h.ne⟩, ?_⟩
  · rw [hml1]
    have e1 := rc_set (mxr ns n j) (mxr ns n (j + 1)) kv j (mt (n + mor ns j)) (mt (n + mor ns j + 1)) (decide ((n + mor ns j + 2) % 3 = 0)) (by rw [hk1]; exact ⟨rfl, rfl, rfl⟩) ns.length hj (fun i hi he => hko i hi he)
    rw [e1] at hrow
    exact own_keep1 hrow (fun q hq => by
      have e : g = q := by simpa [Value.ownBlock] using hq
      exact hb34 q (by omega) (by omega))
  · rw [hml1] at hi
    by_cases e : i = j
    · subst e
      rw [hk1]
      show OwnI w4 (kb i) ((cnt (n + mor ns i + 3) (rdn ns i).ks.length)) (kv i)
      refine how.at0 (fun hne => ?_)
      rcases hb with ⟨e1, e2⟩ | ⟨e1, e2⟩
      · rw [e1] at hne
        exact absurd (by simp [cnt]) hne
      · exact e2
    · rw [hko i hi e]
      refine (h.kid i (by omega)).keep0 (fun hne => ?_)
      have hne2 : (rdn ns i).ks ≠ [] := by
        have := id hne
        rw [ne_eq, mxr_ks hi] at this
        exact this
      obtain ⟨k1, k2, k3⟩ := hkb i hi e hne2
      exact (hb34 _ (by omega) k1).trans (hblk _ k2 k3)
  · rw [hml1] at hi
    exact h.ink i (by omega) (by rw [ne_eq, mxr_ks hi]; rw [ne_eq, mxr_ks hi] at hne; exact hne)
  · rw [hml1] at hi hq
    exact h.inj i q (by omega) (by omega) (by rw [ne_eq, mxr_ks hi]; rw [ne_eq, mxr_ks hi] at h1; exact h1) (by rw [ne_eq, mxr_ks hq]; rw [ne_eq, mxr_ks hq] at h2; exact h2) e
  · refine ⟨hout.1.trans ho3.1, hout.2.1.trans ho3.2.1, hout.2.2.1.trans ho3.2.2, by omega, fun q hq h1 h2 => ?_⟩
    have hqg : q ≠ g := fun e => h2 (by rw [e]; rfl)
    have hqb : q ≠ b := fun e => by
      rcases hb with ⟨_, e2⟩ | ⟨e1, e2⟩
      · omega
      · exact h1 (by rw [e, e2]; exact h.ink j (by omega) (by rw [hkj]; exact e1))
    exact (hb34 q (by omega) hqb).trans (hblk q hq hqg)
end Go.Proofs.Ytofobmdljelmgaa
