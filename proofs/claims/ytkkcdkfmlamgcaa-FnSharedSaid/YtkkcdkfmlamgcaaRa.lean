import Derived.Test.YtkkcdkfmlamgcaaDz
/-! Nodes as they are given: their Kids may be any numbers. -/
namespace Go.Proofs.Ytkkcdkfmlamgcaa
open Go.RowKit Go.Deep
set_option linter.unusedVariables false
set_option maxRecDepth 100000
set_option linter.unusedSimpArgs false

/-- A node as it is given. -/
structure Rd where
  nm : ByteArray
  tx : ByteArray
  lf : Bool
  ks : List Int
def rdn (ns : List Rd) (j : Nat) : Rd := (ns[j]?).getD ⟨ByteArray.empty, ByteArray.empty, false, []⟩
theorem rdn_eq {ns : List Rd} {j : Nat} (h : j < ns.length) : rdn ns j = ns[j] := by simp [rdn, h]
theorem rdn_app {ns : List Rd} {n : Rd} {j : Nat} (h : j < ns.length) : rdn (ns ++ [n]) j = rdn ns j := by simp [rdn, List.getElem?_append_left h]
theorem rdn_last (ns : List Rd) (n : Rd) : rdn (ns ++ [n]) ns.length = n := by simp [rdn]
/-- The cells of the first j nodes. -/
def rc (ns : List Rd) (kv : Nat → Value) : Nat → List Value
  | 0 => []
  | j + 1 => rc ns kv j ++ [.string (rdn ns j).nm, .string (rdn ns j).tx, .bool (rdn ns j).lf, kv j]
theorem rc_len (ns : List Rd) (kv : Nat → Value) : ∀ j, (rc ns kv j).length = j * 4
  | 0 => rfl
  | j + 1 => by rw [rc, List.length_append, rc_len ns kv j]; simp; omega
theorem rc_congr {ns ms : List Rd} {kv lv : Nat → Value} : ∀ j, (∀ i, i < j → rdn ns i = rdn ms i ∧ kv i = lv i) → rc ns kv j = rc ms lv j
  | 0, _ => rfl
  | j + 1, h => by rw [rc, rc, rc_congr j (fun i hi => h i (by omega)), (h j (by omega)).1, (h j (by omega)).2]
theorem rc_get (ns : List Rd) (kv : Nat → Value) : ∀ j i, i < j → (rc ns kv j)[i * 4]? = some (.string (rdn ns i).nm) ∧ (rc ns kv j)[i * 4 + 1]? = some (.string (rdn ns i).tx) ∧ (rc ns kv j)[i * 4 + 2]? = some (.bool (rdn ns i).lf) ∧ (rc ns kv j)[i * 4 + 3]? = some (kv i)
  | 0, _, h => absurd h (Nat.not_lt_zero _)
  | j + 1, i, h => by
    have hl := rc_len ns kv j
    by_cases e : i = j
    · subst e
      rw [rc]
      refine ⟨?_, ?_, ?_, ?_⟩ <;> (rw [List.getElem?_append_right (by omega), hl]; simp)
    · obtain ⟨h0, h1, h2, h3⟩ := rc_get ns kv j i (by omega)
      rw [rc]
      refine ⟨?_, ?_, ?_, ?_⟩ <;> (rw [List.getElem?_append_left (by omega)]; assumption)

/-- THE NODES LIE BEHIND u, their Kids behind kv in the blocks kb; K: all these blocks. -/
structure Rn (B : Nat) (w : World) (u : Value) (ns : List Rd) (K : Nat → Prop) (kv : Nat → Value) (kb : Nat → Nat) : Prop where
  row : w.ownsRow B 34 4 u ns.length (rc ns kv ns.length)
  kid : ∀ i, i < ns.length → OwnI w (kb i) ((rdn ns i).ks) (kv i)
  ink : ∀ i, i < ns.length → (rdn ns i).ks ≠ [] → K (kb i)
  inj : ∀ i j, i < ns.length → j < ns.length → (rdn ns i).ks ≠ [] → (rdn ns j).ks ≠ [] → kb i = kb j → i = j
  lo : ∀ b, K b → B ≤ b ∧ b < w.heap.size
  ne : ∀ b, K b → u.ownBlock ≠ some b
def RN (B : Nat) (w : World) (u : Value) (ns : List Rd) (K : Nat → Prop) : Prop := ∃ kv kb, Rn B w u ns K kv kb
theorem Rn.keep {B : Nat} {w w' : World} {u : Value} {ns : List Rd} {K : Nat → Prop} {kv : Nat → Value} {kb : Nat → Nat} (h : Rn B w u ns K kv kb) (hs : w.heap.size ≤ w'.heap.size) (hb : ∀ b, K b ∨ u.ownBlock = some b → b < w.heap.size → w'.heap[b]? = w.heap[b]?) : Rn B w' u ns K kv kb :=
  ⟨own_keep1 h.row (fun k hk => hb k (.inr hk) (World.ownsRow.lt h.row k hk).2), fun i hi => (h.kid i hi).keep0 (fun hne => hb _ (.inl (h.ink i hi (id hne))) (h.lo _ (h.ink i hi (id hne))).2), h.ink, h.inj, fun b hk => ⟨(h.lo b hk).1, Nat.lt_of_lt_of_le (h.lo b hk).2 hs⟩, h.ne⟩
theorem RN.keep {B : Nat} {w w' : World} {u : Value} {ns : List Rd} {K : Nat → Prop} (h : RN B w u ns K) (hs : w.heap.size ≤ w'.heap.size) (hb : ∀ b, K b ∨ u.ownBlock = some b → b < w.heap.size → w'.heap[b]? = w.heap[b]?) : RN B w' u ns K := by
  obtain ⟨kv, kb, h⟩ := h
  exact ⟨kv, kb, h.keep hs hb⟩
theorem RN.still {B : Nat} {w w' : World} {u : Value} {ns : List Rd} {K : Nat → Prop} (h : RN B w u ns K) (hb : Below w.heap.size w w') : RN B w' u ns K := h.keep hb.size (fun b _ hlt => hb.block b hlt)
theorem Rn.lt {B : Nat} {w : World} {u : Value} {ns : List Rd} {K : Nat → Prop} {kv : Nat → Value} {kb : Nat → Nat} (h : Rn B w u ns K kv kb) : ∀ b, K b ∨ u.ownBlock = some b → B ≤ b ∧ b < w.heap.size := fun b hb => by
  rcases hb with hb | hb
  · exact h.lo b hb
  · exact World.ownsRow.lt h.row b hb
theorem RN.lt {B : Nat} {w : World} {u : Value} {ns : List Rd} {K : Nat → Prop} (h : RN B w u ns K) : ∀ b, K b ∨ u.ownBlock = some b → B ≤ b ∧ b < w.heap.size := by
  obtain ⟨kv, kb, h⟩ := h
  exact h.lt
theorem RN.nil (B : Nat) (w : World) : RN B w (.slice none 0 0) [] (fun _ => False) :=
  ⟨fun _ => .bool false, fun _ => 0, own_nil _ _ _ _, fun i hi => absurd hi (Nat.not_lt_zero _), fun i hi => absurd hi (Nat.not_lt_zero _), fun i j hi => absurd hi (Nat.not_lt_zero _), fun b h => h.elim, fun b h => h.elim⟩
theorem RN.form {B : Nat} {w : World} {u : Value} {ns : List Rd} {K : Nat → Prop} (h : RN B w u ns K) : ∃ a cap, u = .slice a ns.length cap ∧ ns.length ≤ cap ∧ cap ≤ maxLen := by
  obtain ⟨kv, kb, h⟩ := h
  rcases h.row.2 with ⟨e, h0⟩ | ⟨g, cp, cur, r1, r2, r3, r4, r5, r6⟩
  · exact ⟨none, 0, by rw [e, h0], by omega, Nat.zero_le _⟩
  · exact ⟨_, _, r1, r4, r5⟩
/-- One node. -/
theorem RN.node {B : Nat} {w : World} {u : Value} {ns : List Rd} {K : Nat → Prop} (h : RN B w u ns K) {i : Nat} (hi : i < ns.length) :
    ∃ g cap v, u = .slice (some ⟨g, 0, none⟩) ns.length cap ∧ B ≤ g ∧ w.cell? ⟨g, i * 4, none⟩ = some (.string (rdn ns i).nm) ∧ w.cell? ⟨g, i * 4 + 1, none⟩ = some (.string (rdn ns i).tx) ∧ w.cell? ⟨g, i * 4 + 2, none⟩ = some (.bool (rdn ns i).lf) ∧ w.cell? ⟨g, i * 4 + 3, none⟩ = some v ∧ Ints w (fun c => B ≤ c) ((rdn ns i).ks) v := by
  obtain ⟨kv, kb, h⟩ := h
  have hr := h.row
  obtain ⟨g, cap, hu⟩ : ∃ g cap, u = .slice (some ⟨g, 0, none⟩) ns.length cap := by
    rcases hr.2 with ⟨e, h0⟩ | ⟨g, cp, cur, r1, r2, r3, r4, r5, r6⟩
    · omega
    · exact ⟨_, _, r1⟩
  subst hu
  obtain ⟨h0, h1, h2, h3⟩ := rc_get ns kv ns.length i hi
  have hB := (World.ownsRow.lt hr g rfl).1
  refine ⟨g, cap, kv i, rfl, hB, ?_, ?_, ?_, ?_, ?_⟩
  · rw [World.ownsRow.cellAt hr _ (by omega)]; exact h0
  · rw [World.ownsRow.cellAt hr _ (by omega)]; exact h1
  · rw [World.ownsRow.cellAt hr _ (by omega)]; exact h2
  · rw [World.ownsRow.cellAt hr _ (by omega)]; exact h3
  · obtain ⟨a, c, b, o, e1, e2, e3, e4, e5⟩ := (h.kid i hi).ints
    exact ⟨a, c, b, o, e1, e2, e3, fun hp => ⟨(e4 hp).1, by rw [(e4 hp).2]; exact (h.lo _ (h.ink i hi (by intro e; rw [e] at hp; exact absurd hp (Nat.not_lt_zero _)))).1⟩, e5⟩
/-- One more. -/
theorem Rn.add {B : Nat} {w w' : World} {u v : Value} {ns : List Rd} {n : Rd} {K : Nat → Prop} {kv : Nat → Value} {kb : Nat → Nat} {g cap q : Nat} (h : Rn B w u ns K kv kb) (hv : OwnI w q (n.ks) v) (hq : n.ks ≠ [] → B ≤ q ∧ q < w.heap.size ∧ ¬ K q ∧ u.ownBlock ≠ some q)
    (hown : w'.ownsRow B 34 4 (.slice (some ⟨g, 0, none⟩) (ns.length + 1) cap) (ns.length + 1) (rc ns kv ns.length ++ [.string n.nm, .string n.tx, .bool n.lf, v])) (hgr : w.grownBy w' u.ownBlock) (hat : u.ownBlock = some g ∨ g = w.heap.size) :
    RN B w' (.slice (some ⟨g, 0, none⟩) (ns.length + 1) cap) (ns ++ [n]) (fun b => K b ∨ (n.ks ≠ [] ∧ b = q)) := by
  have hs := hgr.size
  have hgn : ∀ b, K b → ¬ g = b := fun b hb e => by
    rcases hat with e1 | e1
    · exact h.ne b hb (by rw [e1, e])
    · have := (h.lo b hb).2; omega
  refine ⟨fun i => if i = ns.length then v else kv i, fun i => if i = ns.length then q else kb i, ?_, fun i hi => ?_, fun i hi hne => ?_, fun i j hi hj h1 h2 e => ?_, fun b hb => ?_, fun b hb e => ?_⟩
  · have e1 : rc (ns ++ [n]) (fun i => if i = ns.length then v else kv i) (ns ++ [n]).length = rc ns kv ns.length ++ [.string n.nm, .string n.tx, .bool n.lf, v] := by
      rw [List.length_append, List.length_singleton, rc, rdn_last, if_pos rfl]
      rw [rc_congr (ns := ns ++ [n]) (ms := ns) (lv := kv) ns.length (fun i hi => ⟨rdn_app hi, if_neg (by omega)⟩)]
    rw [e1, List.length_append, List.length_singleton]
    exact hown
  · rw [List.length_append, List.length_singleton] at hi
    by_cases e : i = ns.length
    · subst e
      rw [if_pos rfl, if_pos rfl, rdn_last]
      exact hv.keep0 (fun hne => hgr.block q (hq (id hne)).2.1 (fun e => (hq (id hne)).2.2.2 e.symm))
    · rw [if_neg e, if_neg e, rdn_app (by omega)]
      exact (h.kid i (by omega)).keep0 (fun hne => hgr.block _ (h.lo _ (h.ink i (by omega) (id hne))).2 (fun e => h.ne _ (h.ink i (by omega) (id hne)) e.symm))
  · rw [List.length_append, List.length_singleton] at hi
    by_cases e : i = ns.length
    · subst e
      rw [if_pos rfl]
      rw [rdn_last] at hne
      exact .inr ⟨hne, rfl⟩
    · rw [if_neg e]
      rw [rdn_app (by omega)] at hne
      exact .inl (h.ink i (by omega) hne)
  · rw [List.length_append, List.length_singleton] at hi hj
    by_cases ei : i = ns.length
    · by_cases ej : j = ns.length
      · omega
      · rw [if_pos ei, if_neg ej] at e
        subst ei
        rw [rdn_last] at h1
        rw [rdn_app (by omega)] at h2
        exact absurd (h.ink j (by omega) h2) (by rw [← e]; exact (hq h1).2.2.1)
    · by_cases ej : j = ns.length
      · rw [if_neg ei, if_pos ej] at e
        subst ej
        rw [rdn_last] at h2
        rw [rdn_app (by omega)] at h1
        exact absurd (h.ink i (by omega) h1) (by rw [e]; exact (hq h2).2.2.1)
      · rw [if_neg ei, if_neg ej] at e
        rw [rdn_app (by omega)] at h1 h2
        exact h.inj i j (by omega) (by omega) h1 h2 e
  · rcases hb with hb | ⟨hb, rfl⟩
    · have := h.lo b hb; omega
    · have := hq hb; omega
  · have e' : some g = some b := e
    injection e' with e'
    rcases hb with hb | ⟨hb, rfl⟩
    · exact hgn b hb e'
    · rcases hat with e1 | e1
      · exact (hq hb).2.2.2 (by rw [e1, e'])
      · have := hq hb; omega

end Go.Proofs.Ytkkcdkfmlamgcaa
