import Derived.Test.YtledclkmeikgdaaXTs
import Derived.Test.YtledclkmeikgdaaGDat
/-! What is gathered of a term's scopes: plain mathematics. -/
namespace Go.Proofs.Ytledclkmeikgdaa
open Go.Proofs.Ytledclkmeikgdaa.T (Tr)
set_option linter.unusedVariables false
set_option maxRecDepth 100000
set_option linter.unusedSimpArgs false

/-- What is gathered: how many scopes, edges, declarations, references, and the paths of both. -/
structure Sw where
  n : Nat
  es : List DSEdge
  ds : List DSpot
  rs : List DSpot
  dp : List (List Nat)
  rp : List (List Nat)
def Sw.ref (s : Sw) (sc : Nat) (x : ByteArray) (p : List Nat) : Sw := { s with rs := s.rs ++ [⟨sc, x⟩], rp := s.rp ++ [p] }
def Sw.dcl (s : Sw) (x : ByteArray) (sc : Nat) (p : List Nat) : Sw := { s with n := s.n + 1, es := s.es ++ [⟨s.n, sc, 1⟩], ds := s.ds ++ [⟨s.n, x⟩], dp := s.dp ++ [p ++ [0]] }
/-- Through Kids, from the i-th on. -/
def kidS (d : Bool) (N sc inn : Nat) (p : List Nat) : List (Nat → List Nat → Sw → Sw) → Nat → Sw → Sw
  | [], _, s => s
  | g :: gs, i, s => kidS d N sc inn p gs (i + 1) (if d = true ∧ i = 0 then s else g (if d = true ∧ i + 1 = N then inn else sc) (p ++ [i]) s)
theorem kidS_app (d : Bool) (N sc inn : Nat) (p : List Nat) : ∀ (gs hs : List (Nat → List Nat → Sw → Sw)) (i : Nat) (s : Sw), kidS d N sc inn p (gs ++ hs) i s = kidS d N sc inn p hs (i + gs.length) (kidS d N sc inn p gs i s)
  | [], hs, i, s => rfl
  | g :: gs, hs, i, s => by
    simp only [List.cons_append, kidS, List.length_cons]
    rw [kidS_app d N sc inn p gs hs (i + 1), show i + 1 + gs.length = i + (gs.length + 1) by omega]
def swF : Tr → ByteArray × (Nat → List Nat → Sw → Sw) := Tr.fold fun n x l ks => (x, fun sc p s =>
  if l = true then (if (n.toList == T.cId) = true then s.ref sc x p else s)
  else if T.dclB n = true then kidS true ks.length sc s.n p (ks.map Prod.snd) 0 (s.dcl ((ks.head?.map Prod.fst).getD ByteArray.empty) sc p)
  else kidS false ks.length sc 0 p (ks.map Prod.snd) 0 s)
/-- A term is gone through. -/
def sw (t : Tr) : Nat → List Nat → Sw → Sw := (swF t).2
/-- The name that is declared. -/
def nm0 (k : List Tr) : ByteArray := (k.head?.map Tr.text).getD ByteArray.empty
theorem swF_fst (t : Tr) : (swF t).1 = t.text := by
  obtain ⟨n, x, l, k⟩ := t
  unfold swF
  rw [T.Tr.fold_mk]
theorem sw_mk (n x : ByteArray) (l : Bool) (k : List Tr) (sc : Nat) (p : List Nat) (s : Sw) : sw ⟨n, x, l, k⟩ sc p s =
    if l = true then (if (n.toList == T.cId) = true then s.ref sc x p else s)
    else if T.dclB n = true then kidS true k.length sc s.n p (k.map sw) 0 (s.dcl (nm0 k) sc p)
    else kidS false k.length sc 0 p (k.map sw) 0 s := by
  have e : swF ⟨n, x, l, k⟩ = (x, fun sc p s =>
    if l = true then (if (n.toList == T.cId) = true then s.ref sc x p else s)
    else if T.dclB n = true then kidS true (k.map swF).length sc s.n p ((k.map swF).map Prod.snd) 0 (s.dcl (((k.map swF).head?.map Prod.fst).getD ByteArray.empty) sc p)
    else kidS false (k.map swF).length sc 0 p ((k.map swF).map Prod.snd) 0 s) := by
    unfold swF
    rw [T.Tr.fold_mk]
  have h1 : (k.map swF).map Prod.snd = k.map sw := by rw [List.map_map]; rfl
  have h2 : ((k.map swF).head?.map Prod.fst).getD ByteArray.empty = nm0 k := by
    unfold nm0
    cases k with
    | nil => rfl
    | cons t k => simp [swF_fst]
  show (swF ⟨n, x, l, k⟩).2 sc p s = _
  rw [e]
  simp only [h1, h2, List.length_map]
/-- Behind the first j Kids. -/
def swJ (d : Bool) (sc inn : Nat) (p : List Nat) (k : List Tr) (j : Nat) (s : Sw) : Sw := kidS d k.length sc inn p ((k.take j).map sw) 0 s
theorem swJ_zero (d : Bool) (sc inn : Nat) (p : List Nat) (k : List Tr) (s : Sw) : swJ d sc inn p k 0 s = s := rfl
theorem swJ_one (sc inn : Nat) (p : List Nat) (k : List Tr) (s : Sw) : swJ true sc inn p k 1 s = s := by
  unfold swJ
  cases k <;> rfl
theorem swJ_succ {d : Bool} {sc inn : Nat} {p : List Nat} {k : List Tr} {j : Nat} {s : Sw} (hj : j < k.length) (hd : ¬ (d = true ∧ j = 0)) : swJ d sc inn p k (j + 1) s = sw k[j] (if d = true ∧ j + 1 = k.length then inn else sc) (p ++ [j]) (swJ d sc inn p k j s) := by
  unfold swJ
  rw [List.take_succ_eq_append_getElem hj, List.map_append, kidS_app]
  simp only [List.map_cons, List.map_nil, kidS, List.length_map, List.length_take]
  rw [Nat.min_eq_left (by omega), Nat.zero_add, if_neg hd]
theorem swJ_all (d : Bool) (sc inn : Nat) (p : List Nat) (k : List Tr) (s : Sw) : swJ d sc inn p k k.length s = kidS d k.length sc inn p (k.map sw) 0 s := by
  unfold swJ
  rw [List.take_length]
/-- How much it is. -/
def Sw.sz (s : Sw) : Nat := s.n + s.es.length + s.ds.length + s.rs.length + s.dp.length + s.rp.length
theorem ref_sz (s : Sw) (sc : Nat) (x : ByteArray) (p : List Nat) : (s.ref sc x p).sz = s.sz + 2 := by
  unfold Sw.sz Sw.ref
  simp only [List.length_append, List.length_singleton]
  omega
theorem dcl_sz (s : Sw) (x : ByteArray) (sc : Nat) (p : List Nat) : (s.dcl x sc p).sz = s.sz + 4 := by
  unfold Sw.sz Sw.dcl
  simp only [List.length_append, List.length_singleton]
  omega
theorem sw_sz (t : Tr) : ∀ (sc : Nat) (p : List Nat) (s : Sw), (sw t sc p s).sz ≤ s.sz + 4 * t.cnt := by
  induction t using T.Tr.ind with
  | h n x l k ih =>
    intro sc p s
    have hk : ∀ (d : Bool) (inn : Nat) (s : Sw) (j : Nat), j ≤ k.length → (swJ d sc inn p k j s).sz ≤ s.sz + 4 * T.Tr.cntL (k.take j) := by
      intro d inn s j
      induction j with
      | zero => intro _; rw [swJ_zero]; omega
      | succ j ihj =>
        intro hj
        have h1 := ihj (by omega)
        have h2 := T.Tr.cntL_take_succ k j (by omega)
        by_cases hd : d = true ∧ j = 0
        · obtain ⟨rfl, rfl⟩ := hd
          rw [swJ_one]
          omega
        · rw [swJ_succ (by omega) hd]
          have h3 := ih j (by omega) (if d = true ∧ j + 1 = k.length then inn else sc) (p ++ [j]) (swJ d sc inn p k j s)
          omega
    rw [sw_mk, T.Tr.cnt_mk]
    split
    · split
      · rw [ref_sz]; omega
      · omega
    · split
      · rw [← swJ_all]
        have := hk true s.n (s.dcl (nm0 k) sc p) k.length (Nat.le_refl _)
        rw [List.take_length, dcl_sz] at this
        omega
      · rw [← swJ_all]
        have := hk false 0 s k.length (Nat.le_refl _)
        rw [List.take_length] at this
        omega
theorem swJ_sz (d : Bool) (sc inn : Nat) (p : List Nat) (k : List Tr) (s : Sw) (j : Nat) (hj : j ≤ k.length) : (swJ d sc inn p k j s).sz ≤ s.sz + 4 * T.Tr.cntL (k.take j) := by
  induction j with
  | zero => rw [swJ_zero]; omega
  | succ j ihj =>
    have h1 := ihj (by omega)
    have h2 := T.Tr.cntL_take_succ k j (by omega)
    by_cases hd : d = true ∧ j = 0
    · obtain ⟨rfl, rfl⟩ := hd
      rw [swJ_one]
      omega
    · rw [swJ_succ (by omega) hd]
      have h3 := sw_sz k[j] (if d = true ∧ j + 1 = k.length then inn else sc) (p ++ [j]) (swJ d sc inn p k j s)
      omega
end Go.Proofs.Ytledclkmeikgdaa
