import Derived.Test.YtledclkmeikgdaaXTs
import Derived.Test.YtledclkmeikgdaaGDat
import Derived.Test.YtledclkmeikgdaaGMk2
import Derived.Deep.AppendLies
import Derived.Maps.AppendAt
import Derived.Lib.BufferMore
/-! What is gathered of a term's scopes: plain mathematics. -/
namespace Go.Proofs.Ytledclkmeikgdaa
open Go.Proofs.Ytledclkmeikgdaa.T (Tr)
set_option linter.unusedVariables false
set_option maxRecDepth 100000
set_option linter.unusedSimpArgs false

/-- What is gathered: how many scopes, edges, declarations, references, and the paths of both. -/
structure Sw where
  n : Nat
  es : List DSEdge
  ds : List DSpot
  rs : List DSpot
  dp : List (List Nat)
  rp : List (List Nat)
def Sw.ref (s : Sw) (sc : Nat) (x : ByteArray) (p : List Nat) : Sw := { s with rs := s.rs ++ [⟨sc, x⟩], rp := s.rp ++ [p] }
def Sw.dcl (s : Sw) (x : ByteArray) (sc : Nat) (p : List Nat) : Sw := { s with n := s.n + 1, es := s.es ++ [⟨s.n, sc, 1⟩], ds := s.ds ++ [⟨s.n, x⟩], dp := s.dp ++ [p ++ [0]] }
/-- Through Kids, from the i-th on. -/
def kidS (d : Bool) (N sc inn : Nat) (p : List Nat) : List (Nat → List Nat → Sw → Sw) → Nat → Sw → Sw
  | [], _, s => s
  | g :: gs, i, s => kidS d N sc inn p gs (i + 1) (if d = true ∧ i = 0 then s else g (if d = true ∧ i + 1 = N then inn else sc) (p ++ [i]) s)
theorem kidS_app (d : Bool) (N sc inn : Nat) (p : List Nat) : ∀ (gs hs : List (Nat → List Nat → Sw → Sw)) (i : Nat) (s : Sw), kidS d N sc inn p (gs ++ hs) i s = kidS d N sc inn p hs (i + gs.length) (kidS d N sc inn p gs i s)
  | [], hs, i, s => rfl
  | g :: gs, hs, i, s => by
    simp only [List.cons_append, kidS, List.length_cons]
    rw [kidS_app d N sc inn p gs hs (i + 1), show i + 1 + gs.length = i + (gs.length + 1) by omega]
def swF : Tr → ByteArray × (Nat → List Nat → Sw → Sw) := Tr.fold fun n x l ks => (x, fun sc p s =>
  if l = true then (if (n.toList == T.cId) = true then s.ref sc x p else s)
  else if T.dclB n = true then kidS true ks.length sc s.n p (ks.map Prod.snd) 0 (s.dcl ((ks.head?.map Prod.fst).getD ByteArray.empty) sc p)
  else kidS false ks.length sc 0 p (ks.map Prod.snd) 0 s)
/-- A term is gone through. -/
def sw (t : Tr) : Nat → List Nat → Sw → Sw := (swF t).2
/-- The name that is declared. -/
def nm0 (k : List Tr) : ByteArray := (k.head?.map Tr.text).getD ByteArray.empty
theorem swF_fst (t : Tr) : (swF t).1 = t.text := by
  obtain ⟨n, x, l, k⟩ := t
  unfold swF
  rw [T.Tr.fold_mk]
theorem sw_mk (n x : ByteArray) (l : Bool) (k : List Tr) (sc : Nat) (p : List Nat) (s : Sw) : sw ⟨n, x, l, k⟩ sc p s =
    if l = true then (if (n.toList == T.cId) = true then s.ref sc x p else s)
    else if T.dclB n = true then kidS true k.length sc s.n p (k.map sw) 0 (s.dcl (nm0 k) sc p)
    else kidS false k.length sc 0 p (k.map sw) 0 s := by
  have e : swF ⟨n, x, l, k⟩ = (x, fun sc p s =>
    if l = true then (if (n.toList == T.cId) = true then s.ref sc x p else s)
    else if T.dclB n = true then kidS true (k.map swF).length sc s.n p ((k.map swF).map Prod.snd) 0 (s.dcl (((k.map swF).head?.map Prod.fst).getD ByteArray.empty) sc p)
    else kidS false (k.map swF).length sc 0 p ((k.map swF).map Prod.snd) 0 s) := by
    unfold swF
    rw [T.Tr.fold_mk]
  have h1 : (k.map swF).map Prod.snd = k.map sw := by rw [List.map_map]; rfl
  have h2 : ((k.map swF).head?.map Prod.fst).getD ByteArray.empty = nm0 k := by
    unfold nm0
    cases k with
    | nil => rfl
    | cons t k => simp [swF_fst]
  show (swF ⟨n, x, l, k⟩).2 sc p s = _
  rw [e]
  simp only [h1, h2, List.length_map]
/-- Behind the first j Kids. -/
def swJ (d : Bool) (sc inn : Nat) (p : List Nat) (k : List Tr) (j : Nat) (s : Sw) : Sw := kidS d k.length sc inn p ((k.take j).map sw) 0 s
theorem swJ_zero (d : Bool) (sc inn : Nat) (p : List Nat) (k : List Tr) (s : Sw) : swJ d sc inn p k 0 s = s := rfl
theorem swJ_one (sc inn : Nat) (p : List Nat) (k : List Tr) (s : Sw) : swJ true sc inn p k 1 s = s := by
  unfold swJ
  cases k <;> rfl
theorem swJ_succ {d : Bool} {sc inn : Nat} {p : List Nat} {k : List Tr} {j : Nat} {s : Sw} (hj : j < k.length) (hd : ¬ (d = true ∧ j = 0)) : swJ d sc inn p k (j + 1) s = sw k[j] (if d = true ∧ j + 1 = k.length then inn else sc) (p ++ [j]) (swJ d sc inn p k j s) := by
  unfold swJ
  rw [List.take_succ_eq_append_getElem hj, List.map_append, kidS_app]
  simp only [List.map_cons, List.map_nil, kidS, List.length_map, List.length_take]
  rw [Nat.min_eq_left (by omega), Nat.zero_add, if_neg hd]
theorem swJ_all (d : Bool) (sc inn : Nat) (p : List Nat) (k : List Tr) (s : Sw) : swJ d sc inn p k k.length s = kidS d k.length sc inn p (k.map sw) 0 s := by
  unfold swJ
  rw [List.take_length]
/-- How much it is. -/
def Sw.sz (s : Sw) : Nat := s.n + s.es.length + s.ds.length + s.rs.length + s.dp.length + s.rp.length
theorem ref_sz (s : Sw) (sc : Nat) (x : ByteArray) (p : List Nat) : (s.ref sc x p).sz = s.sz + 2 := by
  unfold Sw.sz Sw.ref
  simp only [List.length_append, List.length_singleton]
  omega
theorem dcl_sz (s : Sw) (x : ByteArray) (sc : Nat) (p : List Nat) : (s.dcl x sc p).sz = s.sz + 4 := by
  unfold Sw.sz Sw.dcl
  simp only [List.length_append, List.length_singleton]
  omega
theorem sw_sz (t : Tr) : ∀ (sc : Nat) (p : List Nat) (s : Sw), (sw t sc p s).sz ≤ s.sz + 4 * t.cnt := by
  induction t using T.Tr.ind with
  | h n x l k ih =>
    intro sc p s
    have hk : ∀ (d : Bool) (inn : Nat) (s : Sw) (j : Nat), j ≤ k.length → (swJ d sc inn p k j s).sz ≤ s.sz + 4 * T.Tr.cntL (k.take j) := by
      intro d inn s j
      induction j with
      | zero => intro _; rw [swJ_zero]; omega
      | succ j ihj =>
        intro hj
        have h1 := ihj (by omega)
        have h2 := T.Tr.cntL_take_succ k j (by omega)
        by_cases hd : d = true ∧ j = 0
        · obtain ⟨rfl, rfl⟩ := hd
          rw [swJ_one]
          omega
        · rw [swJ_succ (by omega) hd]
          have h3 := ih j (by omega) (if d = true ∧ j + 1 = k.length then inn else sc) (p ++ [j]) (swJ d sc inn p k j s)
          omega
    rw [sw_mk, T.Tr.cnt_mk]
    split
    · split
      · rw [ref_sz]; omega
      · omega
    · split
      · rw [← swJ_all]
        have := hk true s.n (s.dcl (nm0 k) sc p) k.length (Nat.le_refl _)
        rw [List.take_length, dcl_sz] at this
        omega
      · rw [← swJ_all]
        have := hk false 0 s k.length (Nat.le_refl _)
        rw [List.take_length] at this
        omega
theorem swJ_sz (d : Bool) (sc inn : Nat) (p : List Nat) (k : List Tr) (s : Sw) (j : Nat) (hj : j ≤ k.length) : (swJ d sc inn p k j s).sz ≤ s.sz + 4 * T.Tr.cntL (k.take j) := by
  induction j with
  | zero => rw [swJ_zero]; omega
  | succ j ihj =>
    have h1 := ihj (by omega)
    have h2 := T.Tr.cntL_take_succ k j (by omega)
    by_cases hd : d = true ∧ j = 0
    · obtain ⟨rfl, rfl⟩ := hd
      rw [swJ_one]
      omega
    · rw [swJ_succ (by omega) hd]
      have h3 := sw_sz k[j] (if d = true ∧ j + 1 = k.length then inn else sc) (p ++ [j]) (swJ d sc inn p k j s)
      omega
end Go.Proofs.Ytledclkmeikgdaa

namespace Go.Proofs.Ytledclkmeikgdaa
open Go.RowKit Go.Deep
set_option linter.unusedVariables false
set_option maxRecDepth 100000
set_option linter.unusedSimpArgs false

theorem Ints.top {w : World} {S : Nat → Prop} {l : List Int} {v : Value} (h : Ints w S l v) : Ints w (fun b => S b ∧ b < w.heap.size) l v := by
  obtain ⟨a, cap, b, off, hv, hc, hm, ha, hcell⟩ := h
  exact ⟨a, cap, b, off, hv, hc, hm, fun h0 => ⟨(ha h0).1, (ha h0).2, lt_of_cell (hcell 0 h0)⟩, hcell⟩
theorem Strs.top {w : World} {S : Nat → Prop} {l : List ByteArray} {v : Value} (h : Strs w S l v) : Strs w (fun b => S b ∧ b < w.heap.size) l v := by
  obtain ⟨a, cap, b, off, hv, hc, hm, ha, hcell⟩ := h
  exact ⟨a, cap, b, off, hv, hc, hm, fun h0 => ⟨(ha h0).1, (ha h0).2, lt_of_cell (hcell 0 h0).1⟩, hcell⟩
theorem IRws.top {w : World} {S : Nat → Prop} {l : List (List Int)} {v : Value} (h : IRws w S l v) : IRws w (fun b => S b ∧ b < w.heap.size) l v := by
  obtain ⟨a, cap, b, off, s0, hv, hc, hm, ha, hcell, r0⟩ := h
  exact ⟨a, cap, b, off, s0, hv, hc, hm, fun h0 => ⟨(ha h0).1, (ha h0).2, lt_of_cell (hcell 0 h0)⟩, hcell, fun i hi => (r0 i hi).top⟩
theorem SEdgeR.top {w : World} {S : Nat → Prop} {l : List DSEdge} {v : Value} (h : SEdgeR w S l v) : SEdgeR w (fun b => S b ∧ b < w.heap.size) l v := by
  obtain ⟨a, cap, b, off, hv, hc, hm, ha, hcell⟩ := h
  exact ⟨a, cap, b, off, hv, hc, hm, fun h0 => ⟨(ha h0).1, (ha h0).2, lt_of_cell (hcell 0 h0).1⟩, hcell⟩
theorem SpotR.top {w : World} {S : Nat → Prop} {l : List DSpot} {v : Value} (h : SpotR w S l v) : SpotR w (fun b => S b ∧ b < w.heap.size) l v := by
  obtain ⟨a, cap, b, off, hv, hc, hm, ha, hcell⟩ := h
  exact ⟨a, cap, b, off, hv, hc, hm, fun h0 => ⟨(ha h0).1, (ha h0).2, lt_of_cell (hcell 0 h0).1⟩, hcell⟩
theorem DSgL.top {w : World} {S : Nat → Prop} {t : DSg} {v1 v2 v3 : Value} (h : DSgL w S t v1 v2 v3) : DSgL w (fun b => S b ∧ b < w.heap.size) t v1 v2 v3 := ⟨h.edges.top, h.decls.top, h.refs.top⟩
end Go.Proofs.Ytledclkmeikgdaa

/-! Rows of rows of numbers that are owned, frames, a row with one more behind it; slices.Clone. -/
namespace Go.Proofs.Ytledclkmeikgdaa
open Go.RowKit Go.Deep Go.Lib
set_option linter.unusedVariables false
set_option maxRecDepth 100000
set_option linter.unusedSimpArgs false

theorem own_keep1 {w w' : World} {B e z : Nat} {v : Value} {n : Nat} {xs : List Value} (h : w.ownsRow B e z v n xs) (hb : ∀ k, v.ownBlock = some k → w'.heap[k]? = w.heap[k]?) : w'.ownsRow B e z v n xs := by
  refine ⟨h.1, ?_⟩
  rcases h.2 with h0 | ⟨g, cp, cur, r1, r2, r3, r4⟩
  · exact .inl h0
  · exact .inr ⟨g, cp, cur, r1, r2, by rw [hb g (by rw [r1]; rfl)]; exact r3, r4⟩
theorem own_nil (w : World) (B e z : Nat) : w.ownsRow B e z (.slice none 0 0) 0 [] := ⟨by simp, .inl ⟨rfl, rfl⟩⟩
theorem own_ne {w : World} {B e z n : Nat} {v : Value} {xs : List Value} (h : w.ownsRow B e z v n xs) : ∃ a cap, v = .slice a n cap ∧ (a = none → n = 0) := by
  rcases h.2 with ⟨rfl, h0⟩ | ⟨g, cp, cur, r1, r2⟩
  · exact ⟨none, 0, by rw [h0], fun _ => h0⟩
  · exact ⟨_, _, r1, fun e => by cases e⟩
def nums (xs : List Nat) : List Value := xs.map fun i => .int .i64 (i : Nat)
theorem nums_app (xs : List Nat) (j : Nat) : nums (xs ++ [j]) = nums xs ++ [.int .i64 (j : Nat)] := by simp [nums]
/-- Rows of different types lie in different blocks. -/
theorem own_apart {W : World} {B B' n m k k' : Nat} {e e' : TypeId} {v u : Value} {xs ys : List Value} (h : W.ownsRow B e k v n xs) (h' : W.ownsRow B' e' k' u m ys) (hne : e ≠ e') {q : Nat} (hq : u.ownBlock = some q) : v.ownBlock ≠ some q := by
  intro hv
  rcases h.2 with ⟨rfl, _⟩ | ⟨g, cap, cur, rfl, _, h3, _⟩
  · cases hv
  · rcases h'.2 with ⟨rfl, _⟩ | ⟨g', cap', cur', rfl, _, h3', _⟩
    · cases hq
    · simp [Value.ownBlock] at hv hq
      subst hv
      subst hq
      rw [h3] at h3'
      injection h3' with h3'
      injection h3' with _ e1
      exact hne e1
/-- The slices in a row of rows. -/
def slv (vs : Nat → Value) (n : Nat) : List Value := (List.range n).map vs
theorem slv_len (vs : Nat → Value) (n : Nat) : (slv vs n).length = n := by simp [slv]
theorem slv_get (vs : Nat → Value) {n i : Nat} (h : i < n) : (slv vs n)[i]? = some (vs i) := by simp [slv, h]
theorem slv_succ (vs : Nat → Value) (n : Nat) (u : Value) : slv (fun i => if i = n then u else vs i) (n + 1) = slv vs n ++ [u] := by
  unfold slv
  rw [List.range_succ, List.map_append]
  congr 1
  · apply List.map_congr_left
    intro i hi
    rw [if_neg (by have := List.mem_range.1 hi; omega)]
  · simp
/-- A row of rows of numbers, all of them owned, in blocks of their own. -/
structure RRv (W : World) (B : Nat) (ls : List (List Nat)) (v : Value) (vs : Nat → Value) : Prop where
  out : W.ownsRow B 34 1 v ls.length (slv vs ls.length)
  row : ∀ i (hi : i < ls.length), W.ownsRow B 3 1 (vs i) ls[i].length (nums ls[i])
  apart : ∀ i, i < ls.length → ∀ q, (vs i).ownBlock = some q → v.ownBlock ≠ some q
  dis : ∀ i j, i < j → j < ls.length → ∀ q, (vs i).ownBlock = some q → (vs j).ownBlock ≠ some q
theorem RRv.keep {W W' : World} {B : Nat} {ls : List (List Nat)} {v : Value} {vs : Nat → Value} (h : RRv W B ls v vs) (h1 : ∀ q, v.ownBlock = some q → W'.heap[q]? = W.heap[q]?) (h2 : ∀ i, i < ls.length → ∀ q, (vs i).ownBlock = some q → W'.heap[q]? = W.heap[q]?) : RRv W' B ls v vs :=
  ⟨own_keep1 h.out h1, fun i hi => own_keep1 (h.row i hi) (h2 i hi), h.apart, h.dis⟩
theorem RRv.still {W W' : World} {B : Nat} {ls : List (List Nat)} {v : Value} {vs : Nat → Value} (h : RRv W B ls v vs) (hb : Below W.heap.size W W') : RRv W' B ls v vs :=
  h.keep (fun q hq => hb.block q (World.ownsRow.lt h.out q hq).2) (fun i hi q hq => hb.block q (World.ownsRow.lt (h.row i hi) q hq).2)
theorem RRv.nil (W : World) (B : Nat) : RRv W B [] (.slice none 0 0) (fun _ => .slice none 0 0) :=
  ⟨own_nil _ _ _ _, fun i hi => absurd hi (Nat.not_lt_zero _), fun i hi => absurd hi (Nat.not_lt_zero _), fun i j _ hj => absurd hj (Nat.not_lt_zero _)⟩
theorem nums_one (xs : List Nat) : ∀ u ∈ nums xs, u.oneCell' = true := by
  intro u hu
  unfold nums at hu
  obtain ⟨i, _, rfl⟩ := List.mem_map.1 hu
  rfl
/-- All but what T says is as it was. -/
structure Fm (T : Nat → Prop) (w w' : World) : Prop where
  os : w'.os = w.os
  tape : w'.tape = w.tape
  output : w'.output = w.output
  size : w.heap.size ≤ w'.heap.size
  block : ∀ q, q < w.heap.size → ¬ T q → w'.heap[q]? = w.heap[q]?
theorem Fm.of_below {T : Nat → Prop} {w w' : World} (h : Below w.heap.size w w') : Fm T w w' := ⟨h.os, h.tape, h.output, h.size, fun q hq _ => h.block q hq⟩
theorem Fm.refl (T : Nat → Prop) (w : World) : Fm T w w := Fm.of_below (Below.refl _ _)
theorem Fm.trans {T T' : Nat → Prop} {a b c : World} (h : Fm T a b) (k : Fm T' b c) (hT : ∀ q, q < a.heap.size → T' q → T q) : Fm T a c :=
  ⟨k.os.trans h.os, k.tape.trans h.tape, k.output.trans h.output, Nat.le_trans h.size k.size, fun q hq hn => (k.block q (Nat.lt_of_lt_of_le hq h.size) (fun e => hn (hT q hq e))).trans (h.block q hq hn)⟩
theorem Fm.still {T : Nat → Prop} {a b c : World} (h : Fm T a b) (k : Below b.heap.size b c) : Fm T a c := h.trans (T' := T) (Fm.of_below k) (fun _ _ e => e)
theorem Fm.set {T : Nat → Prop} {b o : Nat} {w : World} {u : Value} (h : T b) : Fm T w (w.setCell ⟨b, o, none⟩ u) :=
  ⟨rfl, rfl, rfl, by simp [World.setCell], fun q _ hn => blk_setCell_other _ _ _ _ (by show q ≠ b; exact fun e => hn (e ▸ h))⟩
theorem Fm.of_grown {T : Nat → Prop} {v : Value} {w w' : World} (h : w.grownBy w' v.ownBlock) (hT : ∀ q, v.ownBlock = some q → T q) : Fm T w w' := ⟨h.os, h.tape, h.output, h.size, fun q hq hn => h.block q hq (fun e => hn (hT q e.symm))⟩
theorem Fm.below {T : Nat → Prop} {B : Nat} {w w' : World} (h : Fm T w w') (hT : ∀ q, T q → B ≤ q) (hB : B ≤ w.heap.size) : Below B w w' :=
  ⟨h.os, h.tape, h.output, h.size, fun q hq => h.block q (by omega) (fun e => by have := hT q e; omega)⟩
theorem Fm.drew {T : Nat → Prop} {w w' : World} (h : Fm T w w') : Fm T w w'.drew := h.still ((Below.refl _ _).drew)
theorem Box.fm {T : Nat → Prop} {w w' : World} {g ty : Nat} {cs : List Value} (h : Box w g ty cs) (hf : Fm T w w') (hn : ¬ T g) : Box w' g ty cs := h.keep (hf.block g h.lt hn)
theorem own_some {w : World} {B t k n : Nat} {v : Value} {cs : List Value} (h : w.ownsRow B t k v n cs) (hn : v ≠ .slice none 0 0) : ∃ g cap, v = .slice (some ⟨g, 0, none⟩) n cap := by
  rcases h.2 with ⟨rfl, h0⟩ | ⟨g, cap, cur, rfl, _⟩
  · exact absurd rfl hn
  · exact ⟨g, cap, rfl⟩
/-- What one more behind a row leaves: it lies where the row lay, and who owns it owns the row; or it is new, and all that was is as it was. -/
def OneMore (B : Nat) (v v' : Value) (n : Nat) (xs : List Value) (u : Value) (w w' : World) : Prop :=
  w'.ownsRow B 3 1 v' (n + 1) (xs ++ [u]) ∧ (∃ g c, v' = .slice (some ⟨g, 0, none⟩) (n + 1) c) ∧ w.grownBy w' v.ownBlock ∧
    ((v'.ownBlock = v.ownBlock ∧ ∀ w'' : World, w''.ownsRow B 3 1 v' (n + 1) (xs ++ [u]) → w''.ownsRow B 3 1 v n xs) ∨ (v'.ownBlock = some w.heap.size ∧ w.grownBy w' none))
theorem own_shorter {w : World} {B g n cap : Nat} {xs : List Value} {u : Value} (hx : xs.length = n) (h : w.ownsRow B 3 1 (.slice (some ⟨g, 0, none⟩) (n + 1) cap) (n + 1) (xs ++ [u])) : w.ownsRow B 3 1 (.slice (some ⟨g, 0, none⟩) n cap) n xs := by
  refine ⟨by omega, ?_⟩
  rcases h.2 with ⟨e, _⟩ | ⟨g', cap', cur, e, r2, r3, r4, r5, r6, r7⟩
  · cases e
  · injection e with e1 _ e3
    injection e1 with e1
    injection e1 with e1
    subst e1 e3
    refine .inr ⟨g, cap, cur, rfl, r2, r3, by omega, r5, r6, ?_⟩
    have := congrArg (List.take (n * 1)) r7
    rw [List.take_take, Nat.min_eq_left (by omega)] at this
    rw [this]
    simp [← hx]
theorem append_one {P : Program} (w : World) (B : Nat) (t ty : TypeId) (i : TypeInfo) (z : Value) (bytes : Nat) (ht : P.underlying t = some (.slice 3)) (hi : P.info? 3 = some i) (hz : i.zero = some z) (hsize : i.size = 1) (hby : i.bytes = bytes) (hzs : z.cells.size = 1)
    (v : Value) (n : Nat) (xs : List Value) (hown : w.ownsRow B 3 1 v n xs) (ad : Addr) (c : Nat) (u : Value) (hu : w.cell? ad = some u) (h1 : u.oneCell' = true) (h63 : n + 1 ≤ maxLen) (hbytes : (n + 1) * bytes ≤ 140737488355328) (hbase : B ≤ w.heap.size) :
    ∃ v' w', (Builtin.append_ #[t, t] ty #[v, .slice (some ad) 1 c]).run P w = .ok v' w' ∧ OneMore B v v' n xs u w w' := by
  have hnews : ∀ j y, [u][j]? = some y → w.cell? (ad.add j) = some y := fun j y hj => by
    cases j with
    | zero =>
      simp at hj
      subst hj
      have : ad.add 0 = ad := by unfold Addr.add; split <;> simp_all
      rw [this]
      exact hu
    | succ j => simp at hj
  have hone : ∀ y ∈ [u], y.oneCell' = true := fun y hy => by simp at hy; subst hy; exact h1
  obtain ⟨v', w', hr, h2, h3, h4, h5⟩ := run_append_own_at (P := P) w B t ty 3 i z 1 bytes ht hi hz hsize hby hzs (by decide) v n xs hown ad 1 c [u] rfl hnews hone h63 hbytes hbase
  obtain ⟨g', c', rfl⟩ := own_some h2 (fun e => by have := (h4.1 e).2; cases this)
  rcases hown.2 with ⟨rfl, rfl⟩ | ⟨g, cap, cur, rfl, hbg, hg, hnc, hcm, hcs, htake⟩
  · refine ⟨_, _, hr, h2, ⟨_, _, rfl⟩, h3, .inr ⟨?_, h3⟩⟩
    rcases h5 with e | e
    · cases e
    · exact e
  · by_cases hroom : n + 1 ≤ cap
    · obtain ⟨w2, hr2, h6, h7⟩ := run_append_fits (P := P) w B t ty 3 i 1 ht hi hsize g n cap xs hown ad 1 c [u] rfl hnews hone hroom
      refine ⟨_, _, hr2, h6, ⟨_, _, rfl⟩, h7, .inl ⟨rfl, fun w'' hw => own_shorter (by have := hown.1; omega) hw⟩⟩
    · have holds : ∀ j y, xs[j]? = some y → w.cell? ((⟨g, 0, none⟩ : Addr).add j) = some y := hown.cells (g := g) rfl
      have hr3 := run_append_grow (P := P) w t ty 3 i z ht hi hz ⟨g, 0, none⟩ n cap xs (by rw [hsize]; exact hown.1) holds ad 1 c [u] (by rw [hsize]; rfl) hnews (by omega) (by unfold maxLen at h63; omega) (growslice_fits (by omega) (by rw [hby]; exact hbytes))
      rw [hr3] at hr
      injection hr with e1 e2
      have hgn : w.grownBy w' none := by
        rw [← e2]
        exact ⟨rfl, rfl, rfl, by simp, fun k hk _ => (bel_alloc w.drew _).block k hk⟩
      refine ⟨_, _, hr3.trans (by rw [e1, e2]), h2, ⟨_, _, rfl⟩, h3, .inr ⟨?_, hgn⟩⟩
      rw [← e1]
      rfl
theorem step_append_one {P : Program} (w : World) {ops : Array Oper} {o : Oper} {a : Act} {K : Act → World → Prop} {Q : Exit → Act → World → Prop} {E : Prop} (hgd : o.guard = none) (s x : Operand) (t : TypeId)
    (ho : o.op = .call { callee := .builtin .append, args := #[s, x], argTypes := #[t, t] })
    (B : Nat) (i : TypeInfo) (z : Value) (bytes : Nat) (ht : P.underlying t = some (.slice 3)) (hi : P.info? 3 = some i) (hz : i.zero = some z) (hsize : i.size = 1) (hby : i.bytes = bytes) (hzs : z.cells.size = 1)
    (v : Value) (n : Nat) (xs : List Value) (hs : a.eval s = v) (hown : w.ownsRow B 3 1 v n xs) (ad : Addr) (c : Nat) (u : Value) (hx : a.eval x = .slice (some ad) 1 c) (hu : w.cell? ad = some u) (h1 : u.oneCell' = true) (h63 : n + 1 ≤ maxLen) (hbytes : (n + 1) * bytes ≤ 140737488355328) (hbase : B ≤ w.heap.size)
    (h : ∀ v' w', OneMore B v v' n xs u w w' → K (a.put o.dst v') w') :
    if Region.wanted o (yielded ops a.tmps) = true then Oper.wp P o a w K Q else E := by
  have hw : Region.wanted o (yielded ops a.tmps) = true := by simp [Region.wanted, hgd]
  rw [if_pos hw]
  obtain ⟨v', w', hr, h2⟩ := append_one (P := P) w B t o.type i z bytes ht hi hz hsize hby hzs v n xs hown ad c u hu h1 h63 hbytes hbase
  unfold Oper.wp execOp
  simp only [ho, resolve, invoke, builtin, Sem.run_bind, Sem.run_pure, Result.andThen_ok, List.map_toArray, List.map_cons, List.map_nil, hs, hx, hr]
  exact h v' w' h2
theorem info3s : (Try.prog.info? 3).map (fun i => (i.zero, i.size, i.bytes)) = some (some (.int .i64 0), 1, 8) := by kernel_rfl
theorem eqNil34 (a : Addr) (n c : Nat) (w : World) : (binOp .eql 34 (.slice (some a) n c) (.slice none 0 0)).run Try.prog w = .ok (.bool false) w := Lib.run_eql_slice_some_nil w _ _ _ Try.underlying34
set_option maxHeartbeats 1600000 in
theorem clone98 {B : Nat} (xs : List Nat) (pv : Value) (w : World) (h : w.ownsRow B 3 1 pv xs.length (nums xs)) (hl : xs.length ≤ 1000000) :
    Calls Try.prog 98 #[pv] w fun e w' => ∃ (ua : Option Addr) (uc : Nat), e = .returned (.slice ua xs.length uc) ∧ Below w.heap.size w w' ∧ w'.ownsRow w.heap.size 3 1 (.slice ua xs.length uc) xs.length (nums xs) := by
  obtain ⟨i3, hi3, hzz⟩ := Option.map_eq_some_iff.1 info3s
  simp only [Prod.mk.injEq] at hzz
  obtain ⟨hz0, hz1, hz2⟩ := hzz
  rcases h.2 with ⟨rfl, h0⟩ | ⟨g, cap, cur, rfl, r2, r3, r4, r5, r6⟩
  · have hx : xs = [] := List.eq_nil_of_length_eq_zero h0
    subst hx
    clear h h0
    have hq : ∀ W, (binOp .eql 34 (.slice none 0 0) (.slice none 0 0)).run Try.prog W = .ok (.bool true) W := fun W => Lib.run_eql_slice_nil_nil W _ _ Try.underlying34
    simp only [List.length_nil]
    go_enter Try.func98, Try.ntmps98
    go_wp2_with fail
    go_ret
    exact ⟨none, 0, rfl, Below.refl _ _, own_nil _ _ _ _⟩
  · have hb0 := bel_alloc w (.cells #[] 3)
    have ho0 : (w.alloc (.cells #[] 3)).ownsRow w.heap.size 3 1 (.slice (some ⟨w.heap.size, 0, none⟩) 0 0) 0 [] := World.ownsRow_made w #[] 0 (Nat.le_refl _) (Nat.zero_le _) rfl
    have HO := (show Hid _ from ho0)
    have h1 := own_keep1 h (fun q hq => hb0.block q (World.ownsRow.lt h q hq).2)
    have HNW := (show Hid (∀ j u, (nums xs)[j]? = some u → (w.alloc (.cells #[] 3)).cell? ((⟨g, 0, none⟩ : Addr).add j) = some u) from h1.cells (g := g) rfl)
    have HB0 := (show Hid (Below w.heap.size w (w.alloc (.cells #[] 3))) from hb0)
    have hq := eqNil34 ⟨g, 0, none⟩ xs.length cap
    have hnl : (nums xs).length = xs.length * 1 := by simp [nums]
    have HNL := (show Hid _ from hnl)
    clear h h1 hb0 ho0 r2 r3 r4 r5 r6 hnl
    go_enter Try.func98, Try.ntmps98
    go_wp2_with (at_builtin; refine wpList_append_own_at _ rfl (.tmp 5) (.tmp 6) 34 rfl w.heap.size 3 i3 _ 1 8 Try.underlying34 hi3 hz0 hz1 hz2 rfl (by decide) _ 0 [] rfl HO.out ⟨g, 0, none⟩ xs.length cap (nums xs) rfl HNL.out HNW.out (nums_one xs) ?c3 (by omega) ?c4 ?nx)
    case c3 => unfold maxLen; omega
    case nx =>
      intro v' w1 hown hgr hnil hat
      have hb1 : Below w.heap.size w w1 := HB0.out.grown hgr HB0.out.size (fun k hk => by
        have e : w.heap.size = k := by simpa [Value.ownBlock] using hk
        omega)
      obtain ⟨ua, uc, rfl, _⟩ := own_ne hown
      have HY := (show Hid _ from (⟨hown, hb1⟩ : _ ∧ _))
      clear hown hb1 hgr hnil hat
      go_wp2_with fail
      go_ret
      exact ⟨ua, uc, rfl, HY.out.2, HY.out.1⟩
end Go.Proofs.Ytledclkmeikgdaa
