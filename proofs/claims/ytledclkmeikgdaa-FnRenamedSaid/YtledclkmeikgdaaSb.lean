import Derived.Test.YtledclkmeikgdaaXTs
import Derived.Test.YtledclkmeikgdaaGDat
import Derived.Test.YtledclkmeikgdaaGMk2
import Derived.Deep.AppendLies
import Derived.Maps.AppendAt
import Derived.Lib.BufferMore
/-! What is gathered of a term's scopes: plain mathematics. -/
namespace Go.Proofs.Ytledclkmeikgdaa
open Go.Proofs.Ytledclkmeikgdaa.T (Tr)
set_option linter.unusedVariables false
set_option maxRecDepth 100000
set_option linter.unusedSimpArgs false

/-- What is gathered: how many scopes, edges, declarations, references, and the paths of both. -/
structure Sw where
  n : Nat
  es : List DSEdge
  ds : List DSpot
  rs : List DSpot
  dp : List (List Nat)
  rp : List (List Nat)
def Sw.ref (s : Sw) (sc : Nat) (x : ByteArray) (p : List Nat) : Sw := { s with rs := s.rs ++ [⟨sc, x⟩], rp := s.rp ++ [p] }
def Sw.dcl (s : Sw) (x : ByteArray) (sc : Nat) (p : List Nat) : Sw := { s with n := s.n + 1, es := s.es ++ [⟨s.n, sc, 1⟩], ds := s.ds ++ [⟨s.n, x⟩], dp := s.dp ++ [p ++ [0]] }
/-- Through Kids, from the i-th on. -/
def kidS (d : Bool) (N sc inn : Nat) (p : List Nat) : List (Nat → List Nat → Sw → Sw) → Nat → Sw → Sw
  | [], _, s => s
  | g :: gs, i, s => kidS d N sc inn p gs (i + 1) (if d = true ∧ i = 0 then s else g (if d = true ∧ i + 1 = N then inn else sc) (p ++ [i]) s)
theorem kidS_app (d : Bool) (N sc inn : Nat) (p : List Nat) : ∀ (gs hs : List (Nat → List Nat → Sw → Sw)) (i : Nat) (s : Sw), kidS d N sc inn p (gs ++ hs) i s = kidS d N sc inn p hs (i + gs.length) (kidS d N sc inn p gs i s)
  | [], hs, i, s => rfl
  | g :: gs, hs, i, s => by
    simp only [List.cons_append, kidS, List.length_cons]
    rw [kidS_app d N sc inn p gs hs (i + 1), show i + 1 + gs.length = i + (gs.length + 1) by omega]
def swF : Tr → ByteArray × (Nat → List Nat → Sw → Sw) := Tr.fold fun n x l ks => (x, fun sc p s =>
  if l = true then (if (n.toList == T.cId) = true then s.ref sc x p else s)
  else if T.dclB n = true then kidS true ks.length sc s.n p (ks.map Prod.snd) 0 (s.dcl ((ks.head?.map Prod.fst).getD ByteArray.empty) sc p)
  else kidS false ks.length sc 0 p (ks.map Prod.snd) 0 s)
/-- A term is gone through. -/
def sw (t : Tr) : Nat → List Nat → Sw → Sw := (swF t).2
/-- The name that is declared. -/
def nm0 (k : List Tr) : ByteArray := (k.head?.map Tr.text).getD ByteArray.empty
theorem swF_fst (t : Tr) : (swF t).1 = t.text := by
  obtain ⟨n, x, l, k⟩ := t
  unfold swF
  rw [T.Tr.fold_mk]
theorem sw_mk (n x : ByteArray) (l : Bool) (k : List Tr) (sc : Nat) (p : List Nat) (s : Sw) : sw ⟨n, x, l, k⟩ sc p s =
    if l = true then (if (n.toList == T.cId) = true then s.ref sc x p else s)
    else if T.dclB n = true then kidS true k.length sc s.n p (k.map sw) 0 (s.dcl (nm0 k) sc p)
    else kidS false k.length sc 0 p (k.map sw) 0 s := by
  have e : swF ⟨n, x, l, k⟩ = (x, fun sc p s =>
    if l = true then (if (n.toList == T.cId) = true then s.ref sc x p else s)
    else if T.dclB n = true then kidS true (k.map swF).length sc s.n p ((k.map swF).map Prod.snd) 0 (s.dcl (((k.map swF).head?.map Prod.fst).getD ByteArray.empty) sc p)
    else kidS false (k.map swF).length sc 0 p ((k.map swF).map Prod.snd) 0 s) := by
    unfold swF
    rw [T.Tr.fold_mk]
  have h1 : (k.map swF).map Prod.snd = k.map sw := by rw [List.map_map]; rfl
  have h2 : ((k.map swF).head?.map Prod.fst).getD ByteArray.empty = nm0 k := by
    unfold nm0
    cases k with
    | nil => rfl
    | cons t k => simp [swF_fst]
  show (swF ⟨n, x, l, k⟩).2 sc p s = _
  rw [e]
  simp only [h1, h2, List.length_map]
/-- Behind the first j Kids. -/
def swJ (d : Bool) (sc inn : Nat) (p : List Nat) (k : List Tr) (j : Nat) (s : Sw) : Sw := kidS d k.length sc inn p ((k.take j).map sw) 0 s
theorem swJ_zero (d : Bool) (sc inn : Nat) (p : List Nat) (k : List Tr) (s : Sw) : swJ d sc inn p k 0 s = s := rfl
theorem swJ_one (sc inn : Nat) (p : List Nat) (k : List Tr) (s : Sw) : swJ true sc inn p k 1 s = s := by
  unfold swJ
  cases k <;> rfl
theorem swJ_succ {d : Bool} {sc inn : Nat} {p : List Nat} {k : List Tr} {j : Nat} {s : Sw} (hj : j < k.length) (hd : ¬ (d = true ∧ j = 0)) : swJ d sc inn p k (j + 1) s = sw k[j] (if d = true ∧ j + 1 = k.length then inn else sc) (p ++ [j]) (swJ d sc inn p k j s) := by
  unfold swJ
  rw [List.take_succ_eq_append_getElem hj, List.map_append, kidS_app]
  simp only [List.map_cons, List.map_nil, kidS, List.length_map, List.length_take]
  rw [Nat.min_eq_left (by omega), Nat.zero_add, if_neg hd]
theorem swJ_all (d : Bool) (sc inn : Nat) (p : List Nat) (k : List Tr) (s : Sw) : swJ d sc inn p k k.length s = kidS d k.length sc inn p (k.map sw) 0 s := by
  unfold swJ
  rw [List.take_length]
/-- How much it is. -/
def Sw.sz (s : Sw) : Nat := s.n + s.es.length + s.ds.length + s.rs.length + s.dp.length + s.rp.length
theorem ref_sz (s : Sw) (sc : Nat) (x : ByteArray) (p : List Nat) : (s.ref sc x p).sz = s.sz + 2 := by
  unfold Sw.sz Sw.ref
  simp only [List.length_append, List.length_singleton]
  omega
theorem dcl_sz (s : Sw) (x : ByteArray) (sc : Nat) (p : List Nat) : (s.dcl x sc p).sz = s.sz + 4 := by
  unfold Sw.sz Sw.dcl
  simp only [List.length_append, List.length_singleton]
  omega
theorem sw_sz (t : Tr) : ∀ (sc : Nat) (p : List Nat) (s : Sw), (sw t sc p s).sz ≤ s.sz + 4 * t.cnt := by
  induction t using T.Tr.ind with
  | h n x l k ih =>
    intro sc p s
    have hk : ∀ (d : Bool) (inn : Nat) (s : Sw) (j : Nat), j ≤ k.length → (swJ d sc inn p k j s).sz ≤ s.sz + 4 * T.Tr.cntL (k.take j) := by
      intro d inn s j
      induction j with
      | zero => intro _; rw [swJ_zero]; omega
      | succ j ihj =>
        intro hj
        have h1 := ihj (by omega)
        have h2 := T.Tr.cntL_take_succ k j (by omega)
        by_cases hd : d = true ∧ j = 0
        · obtain ⟨rfl, rfl⟩ := hd
          rw [swJ_one]
          omega
        · rw [swJ_succ (by omega) hd]
          have h3 := ih j (by omega) (if d = true ∧ j + 1 = k.length then inn else sc) (p ++ [j]) (swJ d sc inn p k j s)
          omega
    rw [sw_mk, T.Tr.cnt_mk]
    split
    · split
      · rw [ref_sz]; omega
      · omega
    · split
      · rw [← swJ_all]
        have := hk true s.n (s.dcl (nm0 k) sc p) k.length (Nat.le_refl _)
        rw [List.take_length, dcl_sz] at this
        omega
      · rw [← swJ_all]
        have := hk false 0 s k.length (Nat.le_refl _)
        rw [List.take_length] at this
        omega
theorem swJ_sz (d : Bool) (sc inn : Nat) (p : List Nat) (k : List Tr) (s : Sw) (j : Nat) (hj : j ≤ k.length) : (swJ d sc inn p k j s).sz ≤ s.sz + 4 * T.Tr.cntL (k.take j) := by
  induction j with
  | zero => rw [swJ_zero]; omega
  | succ j ihj =>
    have h1 := ihj (by omega)
    have h2 := T.Tr.cntL_take_succ k j (by omega)
    by_cases hd : d = true ∧ j = 0
    · obtain ⟨rfl, rfl⟩ := hd
      rw [swJ_one]
      omega
    · rw [swJ_succ (by omega) hd]
      have h3 := sw_sz k[j] (if d = true ∧ j + 1 = k.length then inn else sc) (p ++ [j]) (swJ d sc inn p k j s)
      omega
end Go.Proofs.Ytledclkmeikgdaa

namespace Go.Proofs.Ytledclkmeikgdaa
open Go.RowKit Go.Deep
set_option linter.unusedVariables false
set_option maxRecDepth 100000
set_option linter.unusedSimpArgs false

theorem SEdgeR.top {w : World} {S : Nat → Prop} {l : List DSEdge} {v : Value} (h : SEdgeR w S l v) : SEdgeR w (fun b => S b ∧ b < w.heap.size) l v := by
  obtain ⟨a, cap, b, off, hv, hc, hm, ha, hcell⟩ := h
  exact ⟨a, cap, b, off, hv, hc, hm, fun h0 => ⟨(ha h0).1, (ha h0).2, lt_of_cell (hcell 0 h0).1⟩, hcell⟩
theorem SpotR.top {w : World} {S : Nat → Prop} {l : List DSpot} {v : Value} (h : SpotR w S l v) : SpotR w (fun b => S b ∧ b < w.heap.size) l v := by
  obtain ⟨a, cap, b, off, hv, hc, hm, ha, hcell⟩ := h
  exact ⟨a, cap, b, off, hv, hc, hm, fun h0 => ⟨(ha h0).1, (ha h0).2, lt_of_cell (hcell 0 h0).1⟩, hcell⟩
theorem DSgL.top {w : World} {S : Nat → Prop} {t : DSg} {v1 v2 v3 : Value} (h : DSgL w S t v1 v2 v3) : DSgL w (fun b => S b ∧ b < w.heap.size) t v1 v2 v3 := ⟨h.edges.top, h.decls.top, h.refs.top⟩
end Go.Proofs.Ytledclkmeikgdaa

/-! Rows of rows of numbers that are owned, frames, a row with one more behind it; slices.Clone. -/
namespace Go.Proofs.Ytledclkmeikgdaa
open Go.RowKit Go.Deep Go.Lib
set_option linter.unusedVariables false
set_option maxRecDepth 100000
set_option linter.unusedSimpArgs false

theorem own_keep1 {w w' : World} {B e z : Nat} {v : Value} {n : Nat} {xs : List Value} (h : w.ownsRow B e z v n xs) (hb : ∀ k, v.ownBlock = some k → w'.heap[k]? = w.heap[k]?) : w'.ownsRow B e z v n xs := by
  refine ⟨h.1, ?_⟩
  rcases h.2 with h0 | ⟨g, cp, cur, r1, r2, r3, r4⟩
  · exact .inl h0
  · exact .inr ⟨g, cp, cur, r1, r2, by rw [hb g (by rw [r1]; rfl)]; exact r3, r4⟩
theorem own_nil (w : World) (B e z : Nat) : w.ownsRow B e z (.slice none 0 0) 0 [] := ⟨by simp, .inl ⟨rfl, rfl⟩⟩
theorem own_ne {w : World} {B e z n : Nat} {v : Value} {xs : List Value} (h : w.ownsRow B e z v n xs) : ∃ a cap, v = .slice a n cap ∧ (a = none → n = 0) := by
  rcases h.2 with ⟨rfl, h0⟩ | ⟨g, cp, cur, r1, r2⟩
  · exact ⟨none, 0, by rw [h0], fun _ => h0⟩
  · exact ⟨_, _, r1, fun e => by cases e⟩
def nums (xs : List Nat) : List Value := xs.map fun i => .int .i64 (i : Nat)
theorem nums_app (xs : List Nat) (j : Nat) : nums (xs ++ [j]) = nums xs ++ [.int .i64 (j : Nat)] := by simp [nums]
/-- Rows of different types lie in different blocks. -/
theorem own_apart {W : World} {B B' n m k k' : Nat} {e e' : TypeId} {v u : Value} {xs ys : List Value} (h : W.ownsRow B e k v n xs) (h' : W.ownsRow B' e' k' u m ys) (hne : e ≠ e') {q : Nat} (hq : u.ownBlock = some q) : v.ownBlock ≠ some q := by
  intro hv
  rcases h.2 with ⟨rfl, _⟩ | ⟨g, cap, cur, rfl, _, h3, _⟩
  · cases hv
  · rcases h'.2 with ⟨rfl, _⟩ | ⟨g', cap', cur', rfl, _, h3', _⟩
    · cases hq
    · simp [Value.ownBlock] at hv hq
      subst hv
      subst hq
      rw [h3] at h3'
      injection h3' with h3'
      injection h3' with _ e1
      exact hne e1
/-- The slices in a row of rows. -/
def slv (vs : Nat → Value) (n : Nat) : List Value := (List.range n).map vs
theorem slv_succ (vs : Nat → Value) (n : Nat) (u : Value) : slv (fun i => if i = n then u else vs i) (n + 1) = slv vs n ++ [u] := by
  unfold slv
  rw [List.range_succ, List.map_append]
  congr 1
  · apply List.map_congr_left
    intro i hi
    rw [if_neg (by have := List.mem_range.1 hi; omega)]
  · simp
/-- A row of rows of numbers, all of them owned, in blocks of their own. -/
structure RRv (W : World) (B : Nat) (ls : List (List Nat)) (v : Value) (vs : Nat → Value) : Prop where
  out : W.ownsRow B 34 1 v ls.length (slv vs ls.length)
  row : ∀ i (hi : i < ls.length), W.ownsRow B 3 1 (vs i) ls[i].length (nums ls[i])
  apart : ∀ i, i < ls.length → ∀ q, (vs i).ownBlock = some q → v.ownBlock ≠ some q
  dis : ∀ i j, i < j → j < ls.length → ∀ q, (vs i).ownBlock = some q → (vs j).ownBlock ≠ some q
theorem RRv.keep {W W' : World} {B : Nat} {ls : List (List Nat)} {v : Value} {vs : Nat → Value} (h : RRv W B ls v vs) (h1 : ∀ q, v.ownBlock = some q → W'.heap[q]? = W.heap[q]?) (h2 : ∀ i, i < ls.length → ∀ q, (vs i).ownBlock = some q → W'.heap[q]? = W.heap[q]?) : RRv W' B ls v vs :=
  ⟨own_keep1 h.out h1, fun i hi => own_keep1 (h.row i hi) (h2 i hi), h.apart, h.dis⟩
theorem RRv.still {W W' : World} {B : Nat} {ls : List (List Nat)} {v : Value} {vs : Nat → Value} (h : RRv W B ls v vs) (hb : Below W.heap.size W W') : RRv W' B ls v vs :=
  h.keep (fun q hq => hb.block q (World.ownsRow.lt h.out q hq).2) (fun i hi q hq => hb.block q (World.ownsRow.lt (h.row i hi) q hq).2)
theorem RRv.nil (W : World) (B : Nat) : RRv W B [] (.slice none 0 0) (fun _ => .slice none 0 0) :=
  ⟨own_nil _ _ _ _, fun i hi => absurd hi (Nat.not_lt_zero _), fun i hi => absurd hi (Nat.not_lt_zero _), fun i j _ hj => absurd hj (Nat.not_lt_zero _)⟩
theorem nums_one (xs : List Nat) : ∀ u ∈ nums xs, u.oneCell' = true := by
  intro u hu
  unfold nums at hu
  obtain ⟨i, _, rfl⟩ := List.mem_map.1 hu
  rfl
/-- All but what T says is as it was. -/
structure Fm (T : Nat → Prop) (w w' : World) : Prop where
  os : w'.os = w.os
  tape : w'.tape = w.tape
  output : w'.output = w.output
  size : w.heap.size ≤ w'.heap.size
  block : ∀ q, q < w.heap.size → ¬ T q → w'.heap[q]? = w.heap[q]?
theorem Fm.of_below {T : Nat → Prop} {w w' : World} (h : Below w.heap.size w w') : Fm T w w' := ⟨h.os, h.tape, h.output, h.size, fun q hq _ => h.block q hq⟩
theorem Fm.below {T : Nat → Prop} {B : Nat} {w w' : World} (h : Fm T w w') (hT : ∀ q, T q → B ≤ q) (hB : B ≤ w.heap.size) : Below B w w' :=
  ⟨h.os, h.tape, h.output, h.size, fun q hq => h.block q (by omega) (fun e => by have := hT q e; omega)⟩
theorem own_some {w : World} {B t k n : Nat} {v : Value} {cs : List Value} (h : w.ownsRow B t k v n cs) (hn : v ≠ .slice none 0 0) : ∃ g cap, v = .slice (some ⟨g, 0, none⟩) n cap := by
  rcases h.2 with ⟨rfl, h0⟩ | ⟨g, cap, cur, rfl, _⟩
  · exact absurd rfl hn
  · exact ⟨g, cap, rfl⟩
theorem info3s : (Try.prog.info? 3).map (fun i => (i.zero, i.size, i.bytes)) = some (some (.int .i64 0), 1, 8) := by kernel_rfl
end Go.Proofs.Ytledclkmeikgdaa
