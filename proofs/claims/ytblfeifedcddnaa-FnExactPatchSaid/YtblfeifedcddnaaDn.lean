import Derived.Test.YtblfeifedcddnaaIw
import Derived.Deep.AppendLies
import Derived.Laws.OwnMore
/-! Nodes in memory, while they are made: the row of nodes is owned, the Kids of each are a row of their own. -/
namespace Go.Proofs.Ytblfeifedcddnaa
open Go.RowKit Go.Deep
set_option linter.unusedVariables false
set_option maxRecDepth 100000
set_option linter.unusedSimpArgs false

/-- A box whose cells may be written. -/
structure Box (w : World) (g T : Nat) (cs : List Value) : Prop where
  ex : w.rowIs g T cs.length (fun i => cs.getD i .nilFunc)
theorem Box.new (w : World) (T : Nat) (cs : List Value) : Box (w.alloc (.cells cs.toArray T)) w.heap.size T cs :=
  ⟨cs.toArray, blk_alloc_new _ _, by simp, fun i hi => by simp [List.getD_eq_getElem?_getD, hi]⟩
theorem Box.lt {w : World} {g T : Nat} {cs : List Value} (h : Box w g T cs) : g < w.heap.size := World.rowIs.lt h.ex
theorem Box.keep {w w' : World} {g T : Nat} {cs : List Value} (h : Box w g T cs) (hb : w'.heap[g]? = w.heap[g]?) : Box w' g T cs := ⟨World.rowIs.of_block h.ex hb⟩
theorem Box.still {w w' : World} {g T : Nat} {cs : List Value} (h : Box w g T cs) (hb : Below w.heap.size w w') : Box w' g T cs := h.keep (hb.block g h.lt)
theorem Box.cell {w : World} {g T : Nat} {cs : List Value} (h : Box w g T cs) (i : Nat) (hi : i < cs.length) : w.cell? ⟨g, i, none⟩ = some (cs.getD i .nilFunc) := h.ex.cell hi
theorem Box.frozen {w : World} {g T : Nat} {cs : List Value} (h : Box w g T cs) (i : Nat) : w.frozen? ⟨g, i, none⟩ = false := h.ex.frozen i
theorem Box.set {w : World} {g T : Nat} {cs : List Value} (h : Box w g T cs) (i : Nat) (u : Value) : Box (w.setCell ⟨g, i, none⟩ u) g T (cs.set i u) := by
  obtain ⟨c, h1, h2, h3⟩ := World.rowIs.set h.ex i u
  refine ⟨c, h1, by simpa using h2, fun j hj => ?_⟩
  rw [List.length_set] at hj
  rw [h3 j hj]
  by_cases e : j = i
  · subst e; simp [List.getD_eq_getElem?_getD, hj]
  · have e2 : (cs.set i u)[j]? = cs[j]? := List.getElem?_set_ne (fun h : i = j => e h.symm)
    simp [List.getD_eq_getElem?_getD, e, e2]
theorem Box.past {w : World} {g T q o : Nat} {cs : List Value} {u : Value} (h : Box w g T cs) (hq : g ≠ q) : Box (w.setCell ⟨q, o, none⟩ u) g T cs := h.keep (blk_setCell_other _ _ _ _ (by exact hq))

/-- A row grows: all but it is as it was, and it is where it was or in a new block. -/
structure GW (w w' : World) (u u' : Value) : Prop where
  g : w.grownBy w' u.ownBlock
  at' : u'.ownBlock = u.ownBlock ∨ ∃ q, u'.ownBlock = some q ∧ w.heap.size ≤ q
theorem GW.of_below {w w' : World} {u : Value} (h : Below w.heap.size w w') : GW w w' u u := ⟨⟨h.os, h.tape, h.output, h.size, fun k hk _ => h.block k hk⟩, .inl rfl⟩
theorem GW.trans {w w1 w2 : World} {u u1 u2 : Value} (h : GW w w1 u u1) (k : GW w1 w2 u1 u2) : GW w w2 u u2 := by
  have s1 := h.g.size
  have s2 := k.g.size
  refine ⟨⟨k.g.os.trans h.g.os, k.g.tape.trans h.g.tape, k.g.output.trans h.g.output, by omega, fun q hq hne => ?_⟩, ?_⟩
  · refine (k.g.block q (by omega) (fun e => ?_)).trans (h.g.block q hq hne)
    rcases h.at' with e1 | ⟨p, e1, hp⟩
    · exact hne (e.trans e1)
    · rw [e1] at e
      injection e with e
      omega
  · rcases k.at' with e1 | ⟨p, e1, hp⟩
    · rcases h.at' with e2 | ⟨p, e2, hp⟩
      · exact .inl (e1.trans e2)
      · exact .inr ⟨p, e1.trans e2, hp⟩
    · exact .inr ⟨p, e1, by omega⟩
/-- What is written into a block that was not there does no harm. -/
theorem GW.over {w w1 w2 : World} {u u1 : Value} (h : GW w w1 u u1) (hb : Below w.heap.size w1 w2) : GW w w2 u u1 :=
  ⟨⟨hb.os.trans h.g.os, hb.tape.trans h.g.tape, hb.output.trans h.g.output, Nat.le_trans h.g.size hb.size, fun q hq hne => (hb.block q hq).trans (h.g.block q hq hne)⟩, h.at'⟩
theorem GW.step {w w' : World} {u : Value} {g n cap H : Nat} (h : w.grownBy w' u.ownBlock) (hat : u.ownBlock = some g ∨ g = H) (hH : w.heap.size ≤ H) : GW w w' u (.slice (some ⟨g, 0, none⟩) n cap) := by
  refine ⟨h, ?_⟩
  rcases hat with e | e
  · exact .inl e.symm
  · exact .inr ⟨g, rfl, by omega⟩
theorem GW.below {w w' : World} {u u' : Value} {B : Nat} (h : GW w w' u u') (hB : B ≤ w.heap.size) (hu : ∀ g, u.ownBlock = some g → B ≤ g) : Below B w w' :=
  ⟨h.g.os, h.g.tape, h.g.output, h.g.size, fun k hk => h.g.block k (by omega) (fun e => by have := hu k e.symm; omega)⟩
theorem own_keep1 {w w' : World} {B e z : Nat} {v : Value} {n : Nat} {xs : List Value} (h : w.ownsRow B e z v n xs) (hb : ∀ k, v.ownBlock = some k → w'.heap[k]? = w.heap[k]?) : w'.ownsRow B e z v n xs := by
  refine ⟨h.1, ?_⟩
  rcases h.2 with h0 | ⟨g, cp, cur, r1, r2, r3, r4⟩
  · exact .inl h0
  · exact .inr ⟨g, cp, cur, r1, r2, by rw [hb g (by rw [r1]; rfl)]; exact r3, r4⟩
theorem own_nil (w : World) (B e z : Nat) : w.ownsRow B e z (.slice none 0 0) 0 [] := ⟨by simp, .inl ⟨rfl, rfl⟩⟩
/-- Numbers as values. -/
abbrev iv (l : List Int) : List Value := l.map (Value.int .i64)
/-- A row of numbers that is owned. -/
theorem own_ints {w : World} {B : Nat} {v : Value} {l : List Int} (h : w.ownsRow B 3 1 v l.length (iv l)) : OwnI w (v.ownBlock.getD 0) l v := by
  rcases h.2 with ⟨rfl, h0⟩ | ⟨g, cap, cur, rfl, hB, hg, hnc, hcm, hcs, htk⟩
  · obtain rfl : l = [] := List.eq_nil_of_length_eq_zero h0
    exact ⟨none, 0, fun _ => .bool false, rfl, Nat.le_refl _, Nat.zero_le _, fun h => absurd h (Nat.not_lt_zero _), fun i hi => absurd hi (Nat.not_lt_zero _)⟩
  · rw [Nat.mul_one] at hcs htk
    refine ⟨some ⟨g, 0, none⟩, cap, fun i => (cur[i]?).getD (.bool false), rfl, hnc, hcm, fun _ => ⟨rfl, cur, hg, hcs, fun i hi => by simp [hcs, hi]⟩, fun i hi => ?_⟩
    have h1 : (iv l)[i]? = some (.int .i64 l[i]) := by simp [iv, hi]
    rw [← htk, List.getElem?_take, if_pos hi] at h1
    simp only [Array.getElem?_toList] at h1
    dsimp only
    rw [h1]
    rfl

def nd (ns : List Nd) (j : Nat) : Nd := (ns[j]?).getD ⟨ByteArray.empty, ByteArray.empty, false, []⟩
theorem nd_eq {ns : List Nd} {j : Nat} (h : j < ns.length) : nd ns j = ns[j] := by simp [nd, h]
theorem nd_app {ns : List Nd} {n : Nd} {j : Nat} (h : j < ns.length) : nd (ns ++ [n]) j = nd ns j := by simp [nd, List.getElem?_append_left h]
theorem nd_last (ns : List Nd) (n : Nd) : nd (ns ++ [n]) ns.length = n := by simp [nd]
/-- The cells of the first j nodes. -/
def nc (ns : List Nd) (kv : Nat → Value) : Nat → List Value
  | 0 => []
  | j + 1 => nc ns kv j ++ [.string (nd ns j).nm, .string (nd ns j).tx, .bool (nd ns j).lf, kv j]
theorem nc_len (ns : List Nd) (kv : Nat → Value) : ∀ j, (nc ns kv j).length = j * 4
  | 0 => rfl
  | j + 1 => by rw [nc, List.length_append, nc_len ns kv j]; simp; omega
theorem nc_congr {ns ms : List Nd} {kv lv : Nat → Value} : ∀ j, (∀ i, i < j → nd ns i = nd ms i ∧ kv i = lv i) → nc ns kv j = nc ms lv j
  | 0, _ => rfl
  | j + 1, h => by rw [nc, nc, nc_congr j (fun i hi => h i (by omega)), (h j (by omega)).1, (h j (by omega)).2]
theorem nc_get (ns : List Nd) (kv : Nat → Value) : ∀ j i, i < j → (nc ns kv j)[i * 4]? = some (.string (nd ns i).nm) ∧ (nc ns kv j)[i * 4 + 1]? = some (.string (nd ns i).tx) ∧ (nc ns kv j)[i * 4 + 2]? = some (.bool (nd ns i).lf) ∧ (nc ns kv j)[i * 4 + 3]? = some (kv i)
  | 0, _, h => absurd h (Nat.not_lt_zero _)
  | j + 1, i, h => by
    have hl := nc_len ns kv j
    by_cases e : i = j
    · subst e
      rw [nc]
      refine ⟨?_, ?_, ?_, ?_⟩ <;> (rw [List.getElem?_append_right (by omega), hl]; simp)
    · obtain ⟨h0, h1, h2, h3⟩ := nc_get ns kv j i (by omega)
      rw [nc]
      refine ⟨?_, ?_, ?_, ?_⟩ <;> (rw [List.getElem?_append_left (by omega)]; assumption)

/-- THE NODES LIE BEHIND u, their Kids behind kv in the blocks kb; K: all these blocks. -/
structure Dn (B : Nat) (w : World) (u : Value) (ns : List Nd) (K : Nat → Prop) (kv : Nat → Value) (kb : Nat → Nat) : Prop where
  row : w.ownsRow B 93 4 u ns.length (nc ns kv ns.length)
  kid : ∀ i, i < ns.length → OwnI w (kb i) (ins (nd ns i).ks) (kv i)
  ink : ∀ i, i < ns.length → (nd ns i).ks ≠ [] → K (kb i)
  inj : ∀ i j, i < ns.length → j < ns.length → (nd ns i).ks ≠ [] → (nd ns j).ks ≠ [] → kb i = kb j → i = j
  lo : ∀ b, K b → B ≤ b ∧ b < w.heap.size
  ne : ∀ b, K b → u.ownBlock ≠ some b
def DN (B : Nat) (w : World) (u : Value) (ns : List Nd) (K : Nat → Prop) : Prop := ∃ kv kb, Dn B w u ns K kv kb
theorem ins_len (l : List Nat) : (ins l).length = l.length := by simp [ins]
theorem OwnI.keep0 {w w' : World} {b : Nat} {l : List Int} {v : Value} (h : OwnI w b l v) (hb : l ≠ [] → w'.heap[b]? = w.heap[b]?) : OwnI w' b l v := by
  obtain ⟨a, cap, f, hv, hc, hm, ha, hf⟩ := h
  exact ⟨a, cap, f, hv, hc, hm, fun h0 => ⟨(ha h0).1, World.rowIs.of_block (ha h0).2 (hb (by intro e; rw [e] at h0; exact absurd h0 (Nat.not_lt_zero _)))⟩, hf⟩
theorem OwnI.at0 {w : World} {b c : Nat} {l : List Int} {v : Value} (h : OwnI w b l v) (hb : l ≠ [] → b = c) : OwnI w c l v := by
  obtain ⟨a, cap, f, hv, hc, hm, ha, hf⟩ := h
  exact ⟨a, cap, f, hv, hc, hm, fun h0 => by rw [← hb (by intro e; rw [e] at h0; exact absurd h0 (Nat.not_lt_zero _))]; exact ha h0, hf⟩
theorem ins_ne {l : List Nat} : ins l ≠ [] ↔ l ≠ [] := by unfold ins; simp
theorem Dn.keep {B : Nat} {w w' : World} {u : Value} {ns : List Nd} {K : Nat → Prop} {kv : Nat → Value} {kb : Nat → Nat} (h : Dn B w u ns K kv kb) (hs : w.heap.size ≤ w'.heap.size) (hb : ∀ b, K b ∨ u.ownBlock = some b → b < w.heap.size → w'.heap[b]? = w.heap[b]?) : Dn B w' u ns K kv kb :=
  ⟨own_keep1 h.row (fun k hk => hb k (.inr hk) (World.ownsRow.lt h.row k hk).2), fun i hi => (h.kid i hi).keep0 (fun hne => hb _ (.inl (h.ink i hi (ins_ne.1 hne))) (h.lo _ (h.ink i hi (ins_ne.1 hne))).2), h.ink, h.inj, fun b hk => ⟨(h.lo b hk).1, Nat.lt_of_lt_of_le (h.lo b hk).2 hs⟩, h.ne⟩
theorem DN.keep {B : Nat} {w w' : World} {u : Value} {ns : List Nd} {K : Nat → Prop} (h : DN B w u ns K) (hs : w.heap.size ≤ w'.heap.size) (hb : ∀ b, K b ∨ u.ownBlock = some b → b < w.heap.size → w'.heap[b]? = w.heap[b]?) : DN B w' u ns K := by
  obtain ⟨kv, kb, h⟩ := h
  exact ⟨kv, kb, h.keep hs hb⟩
theorem DN.still {B : Nat} {w w' : World} {u : Value} {ns : List Nd} {K : Nat → Prop} (h : DN B w u ns K) (hb : Below w.heap.size w w') : DN B w' u ns K := h.keep hb.size (fun b _ hlt => hb.block b hlt)
theorem Dn.lt {B : Nat} {w : World} {u : Value} {ns : List Nd} {K : Nat → Prop} {kv : Nat → Value} {kb : Nat → Nat} (h : Dn B w u ns K kv kb) : ∀ b, K b ∨ u.ownBlock = some b → B ≤ b ∧ b < w.heap.size := fun b hb => by
  rcases hb with hb | hb
  · exact h.lo b hb
  · exact World.ownsRow.lt h.row b hb
theorem DN.lt {B : Nat} {w : World} {u : Value} {ns : List Nd} {K : Nat → Prop} (h : DN B w u ns K) : ∀ b, K b ∨ u.ownBlock = some b → B ≤ b ∧ b < w.heap.size := by
  obtain ⟨kv, kb, h⟩ := h
  exact h.lt
theorem DN.nil (B : Nat) (w : World) : DN B w (.slice none 0 0) [] (fun _ => False) :=
  ⟨fun _ => .bool false, fun _ => 0, own_nil _ _ _ _, fun i hi => absurd hi (Nat.not_lt_zero _), fun i hi => absurd hi (Nat.not_lt_zero _), fun i j hi => absurd hi (Nat.not_lt_zero _), fun b h => h.elim, fun b h => h.elim⟩
theorem DN.form {B : Nat} {w : World} {u : Value} {ns : List Nd} {K : Nat → Prop} (h : DN B w u ns K) : ∃ a cap, u = .slice a ns.length cap ∧ ns.length ≤ cap ∧ cap ≤ maxLen := by
  obtain ⟨kv, kb, h⟩ := h
  rcases h.row.2 with ⟨e, h0⟩ | ⟨g, cp, cur, r1, r2, r3, r4, r5, r6⟩
  · exact ⟨none, 0, by rw [e, h0], by omega, Nat.zero_le _⟩
  · exact ⟨_, _, r1, r4, r5⟩
/-- One node. -/
theorem DN.node {B : Nat} {w : World} {u : Value} {ns : List Nd} {K : Nat → Prop} (h : DN B w u ns K) {i : Nat} (hi : i < ns.length) :
    ∃ g cap v, u = .slice (some ⟨g, 0, none⟩) ns.length cap ∧ B ≤ g ∧ w.cell? ⟨g, i * 4, none⟩ = some (.string (nd ns i).nm) ∧ w.cell? ⟨g, i * 4 + 1, none⟩ = some (.string (nd ns i).tx) ∧ w.cell? ⟨g, i * 4 + 2, none⟩ = some (.bool (nd ns i).lf) ∧ w.cell? ⟨g, i * 4 + 3, none⟩ = some v ∧ Ints w (fun c => B ≤ c) (ins (nd ns i).ks) v := by
  obtain ⟨kv, kb, h⟩ := h
  have hr := h.row
  obtain ⟨g, cap, hu⟩ : ∃ g cap, u = .slice (some ⟨g, 0, none⟩) ns.length cap := by
    rcases hr.2 with ⟨e, h0⟩ | ⟨g, cp, cur, r1, r2, r3, r4, r5, r6⟩
    · omega
    · exact ⟨_, _, r1⟩
  subst hu
  obtain ⟨h0, h1, h2, h3⟩ := nc_get ns kv ns.length i hi
  have hB := (World.ownsRow.lt hr g rfl).1
  refine ⟨g, cap, kv i, rfl, hB, ?_, ?_, ?_, ?_, ?_⟩
  · rw [World.ownsRow.cellAt hr _ (by omega)]; exact h0
  · rw [World.ownsRow.cellAt hr _ (by omega)]; exact h1
  · rw [World.ownsRow.cellAt hr _ (by omega)]; exact h2
  · rw [World.ownsRow.cellAt hr _ (by omega)]; exact h3
  · obtain ⟨a, c, b, o, e1, e2, e3, e4, e5⟩ := (h.kid i hi).ints
    exact ⟨a, c, b, o, e1, e2, e3, fun hp => ⟨(e4 hp).1, by rw [(e4 hp).2]; exact (h.lo _ (h.ink i hi (by intro e; rw [e] at hp; exact absurd hp (Nat.not_lt_zero _)))).1⟩, e5⟩
/-- One more. -/
theorem Dn.add {B : Nat} {w w' : World} {u v : Value} {ns : List Nd} {n : Nd} {K : Nat → Prop} {kv : Nat → Value} {kb : Nat → Nat} {g cap q : Nat} (h : Dn B w u ns K kv kb) (hv : OwnI w q (ins n.ks) v) (hq : n.ks ≠ [] → B ≤ q ∧ q < w.heap.size ∧ ¬ K q ∧ u.ownBlock ≠ some q)
    (hown : w'.ownsRow B 93 4 (.slice (some ⟨g, 0, none⟩) (ns.length + 1) cap) (ns.length + 1) (nc ns kv ns.length ++ [.string n.nm, .string n.tx, .bool n.lf, v])) (hgr : w.grownBy w' u.ownBlock) (hat : u.ownBlock = some g ∨ g = w.heap.size) :
    DN B w' (.slice (some ⟨g, 0, none⟩) (ns.length + 1) cap) (ns ++ [n]) (fun b => K b ∨ (n.ks ≠ [] ∧ b = q)) := by
  have hs := hgr.size
  have hgn : ∀ b, K b → ¬ g = b := fun b hb e => by
    rcases hat with e1 | e1
    · exact h.ne b hb (by rw [e1, e])
    · have := (h.lo b hb).2; omega
  refine ⟨fun i => if i = ns.length then v else kv i, fun i => if i = ns.length then q else kb i, ?_, fun i hi => ?_, fun i hi hne => ?_, fun i j hi hj h1 h2 e => ?_, fun b hb => ?_, fun b hb e => ?_⟩
  · have e1 : nc (ns ++ [n]) (fun i => if i = ns.length then v else kv i) (ns ++ [n]).length = nc ns kv ns.length ++ [.string n.nm, .string n.tx, .bool n.lf, v] := by
      rw [List.length_append, List.length_singleton, nc, nd_last, if_pos rfl]
      rw [nc_congr (ns := ns ++ [n]) (ms := ns) (lv := kv) ns.length (fun i hi => ⟨nd_app hi, if_neg (by omega)⟩)]
    rw [e1, List.length_append, List.length_singleton]
    exact hown
  · rw [List.length_append, List.length_singleton] at hi
    by_cases e : i = ns.length
    · subst e
      rw [if_pos rfl, if_pos rfl, nd_last]
      exact hv.keep0 (fun hne => hgr.block q (hq (ins_ne.1 hne)).2.1 (fun e => (hq (ins_ne.1 hne)).2.2.2 e.symm))
    · rw [if_neg e, if_neg e, nd_app (by omega)]
      exact (h.kid i (by omega)).keep0 (fun hne => hgr.block _ (h.lo _ (h.ink i (by omega) (ins_ne.1 hne))).2 (fun e => h.ne _ (h.ink i (by omega) (ins_ne.1 hne)) e.symm))
  · rw [List.length_append, List.length_singleton] at hi
    by_cases e : i = ns.length
    · subst e
      rw [if_pos rfl]
      rw [nd_last] at hne
      exact .inr ⟨hne, rfl⟩
    · rw [if_neg e]
      rw [nd_app (by omega)] at hne
      exact .inl (h.ink i (by omega) hne)
  · rw [List.length_append, List.length_singleton] at hi hj
    by_cases ei : i = ns.length
    · by_cases ej : j = ns.length
      · omega
      · rw [if_pos ei, if_neg ej] at e
        subst ei
        rw [nd_last] at h1
        rw [nd_app (by omega)] at h2
        exact absurd (h.ink j (by omega) h2) (by rw [← e]; exact (hq h1).2.2.1)
    · by_cases ej : j = ns.length
      · rw [if_neg ei, if_pos ej] at e
        subst ej
        rw [nd_last] at h2
        rw [nd_app (by omega)] at h1
        exact absurd (h.ink i (by omega) h1) (by rw [e]; exact (hq h2).2.2.1)
      · rw [if_neg ei, if_neg ej] at e
        rw [nd_app (by omega)] at h1 h2
        exact h.inj i j (by omega) (by omega) h1 h2 e
  · rcases hb with hb | ⟨hb, rfl⟩
    · have := h.lo b hb; omega
    · have := hq hb; omega
  · have e' : some g = some b := e
    injection e' with e'
    rcases hb with hb | ⟨hb, rfl⟩
    · exact hgn b hb e'
    · rcases hat with e1 | e1
      · exact (hq hb).2.2.2 (by rw [e1, e'])
      · have := hq hb; omega

theorem put1_len (ns : List Nd) (n : Nd) : (put1 ns n).1.length ≤ ns.length + 1 := by
  unfold put1
  split
  · exact Nat.le_succ _
  · simp
theorem putK_len : ∀ (k : List Tr) (ns : List Nd), (∀ i (hi : i < k.length) ns, (putT k[i] ns).1.length ≤ ns.length + Tr.cnt k[i]) → (putK (k.map putT) ns).1.length ≤ ns.length + Tr.cntL k
  | [], ns, _ => by simp [putK, Tr.cntL]
  | t :: r, ns, h => by
    have h0 := h 0 (by simp) ns
    have h1 := putK_len r (putT t ns).1 (fun i hi ms => h (i + 1) (by simp; omega) ms)
    simp only [List.map_cons, putK, Tr.cntL, List.sum_cons] at h0 h1 ⊢
    simp only [List.getElem_cons_zero] at h0
    have e2 : (List.map Tr.cnt r).sum = Tr.cntL r := rfl
    rw [e2]
    simp only [Tr.cntL] at h1 ⊢
    omega
theorem putT_len (t : Tr) : ∀ ns, (putT t ns).1.length ≤ ns.length + t.cnt := by
  refine Tr.ind (P := fun t => ∀ ns, (putT t ns).1.length ≤ ns.length + t.cnt) ?_ t
  intro n x l k ih ns
  rw [putT_mk, Tr.cnt_mk]
  have h1 := putK_len k ns ih
  have h2 := put1_len (putK (k.map putT) ns).1 ⟨n, x, l, (putK (k.map putT) ns).2⟩
  omega
theorem putK_append : ∀ (fs gs : List (List Nd → List Nd × Nat)) (ns : List Nd), putK (fs ++ gs) ns = ((putK gs (putK fs ns).1).1, (putK fs ns).2 ++ (putK gs (putK fs ns).1).2)
  | [], gs, ns => rfl
  | f :: fs, gs, ns => by
    simp only [List.cons_append, putK]
    rw [putK_append fs gs]
/-- The first i Kids. -/
def pk (k : List Tr) (i : Nat) (ns : List Nd) : List Nd × List Nat := putK ((k.take i).map putT) ns
theorem pk_zero (k : List Tr) (ns : List Nd) : pk k 0 ns = (ns, []) := by simp [pk, putK]
theorem pk_succ {k : List Tr} {i : Nat} (h : i < k.length) (ns : List Nd) : pk k (i + 1) ns = ((putT k[i] (pk k i ns).1).1, (pk k i ns).2 ++ [(putT k[i] (pk k i ns).1).2]) := by
  unfold pk
  rw [List.take_succ_eq_append_getElem h, List.map_append, putK_append]
  simp [putK]
theorem pk_all (k : List Tr) (ns : List Nd) : pk k k.length ns = putK (k.map putT) ns := by unfold pk; rw [List.take_length]
theorem pk_len (k : List Tr) (i : Nat) (ns : List Nd) : (pk k i ns).1.length ≤ ns.length + Tr.cntL (k.take i) := putK_len _ _ (fun j hj ms => putT_len _ ms)
theorem pk_num (k : List Tr) (i : Nat) (h : i ≤ k.length) (ns : List Nd) : (pk k i ns).2.length = i := by
  have : ∀ (fs : List (List Nd → List Nd × Nat)) (ns : List Nd), (putK fs ns).2.length = fs.length := by
    intro fs
    induction fs with
    | nil => intro ns; rfl
    | cons f fs ih => intro ns; simp [putK, ih]
  unfold pk
  rw [this]
  simp [h]
end Go.Proofs.Ytblfeifedcddnaa
