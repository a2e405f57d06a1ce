import Derived.Test.YtledclkmeikgdaaSi
import Derived.Test.YtledclkmeikgdaaSj
import Derived.Test.YtledclkmeikgdaaGa
/-! The specification: a term is gone through, whole; what is gathered of it. -/
namespace Go.Proofs.Ytledclkmeikgdaa
open Go.RowKit Go.Deep Go.Lib
open Go.Proofs.Ytledclkmeikgdaa.T (Tr)
set_option linter.unusedVariables false
set_option maxRecDepth 100000
set_option linter.unusedSimpArgs false

theorem tm_node {n x : ByteArray} {k : List Tr} {m : Nat} {d : Bool} (h : T.kdN n = some (m, d)) (ht : T.tm ⟨n, x, false, k⟩ = true) : k.length = m ∧ (∀ i (hi : i < k.length), T.tm k[i] = true) ∧ (d = true → T.id0 k = true) := by
  rw [T.tmN n x k m d h] at ht
  simp only [Bool.and_eq_true, decide_eq_true_eq, List.all_eq_true, Bool.or_eq_true, Bool.not_eq_true'] at ht
  refine ⟨ht.1, fun i hi => ht.2.1 _ (List.getElem_mem hi), fun hd => ?_⟩
  rcases ht.2.2 with h | h
  · rw [hd] at h; cases h
  · exact h
theorem id_nm {k : List Tr} (h : T.id0 k = true) (ht : ∀ i (hi : i < k.length), T.tm k[i] = true) : T.nmB (nm0 k) = true := by
  cases k with
  | nil => simp [T.id0] at h
  | cons t k =>
    have h1 : T.idT t = true := h
    have h2 := ht 0 (by simp)
    rw [List.getElem_cons_zero, T.tm_id h1] at h2
    exact h2
/-- All names are names. -/
def Sw.Nm (s : Sw) : Prop := (∀ y ∈ s.ds, T.nmB y.name = true) ∧ ∀ y ∈ s.rs, T.nmB y.name = true
theorem sw_nm (t : Tr) : ∀ (sc : Nat) (p : List Nat) (s : Sw), T.tm t = true → s.Nm → (sw t sc p s).Nm := by
  induction t using T.Tr.ind with
  | h n x l k ih =>
    intro sc p s ht hs
    have hk : ∀ (d : Bool) (inn : Nat) (s : Sw), (∀ i (hi : i < k.length), T.tm k[i] = true) → s.Nm → ∀ j, j ≤ k.length → (swJ d sc inn p k j s).Nm := by
      intro d inn s hkt hs j
      induction j with
      | zero => intro _; exact hs
      | succ j ihj =>
        intro hj
        by_cases hd : d = true ∧ j = 0
        · obtain ⟨rfl, rfl⟩ := hd
          rw [swJ_one]
          exact hs
        · rw [swJ_succ (by omega) hd]
          exact ih j (by omega) _ _ _ (hkt j (by omega)) (ihj (by omega))
    rw [sw_mk]
    cases l
    · rw [if_neg (by simp)]
      have hn : T.kdN n ≠ none := fun e => by
        rw [T.tm_mk, e] at ht
        simp at ht
      obtain ⟨⟨m, d⟩, hmd⟩ := Option.ne_none_iff_exists'.1 hn
      obtain ⟨h1, h2, h3⟩ := tm_node hmd ht
      have hd := (T.kd_dcl hmd).1
      rw [hd]
      cases d
      · rw [if_neg (by simp), ← swJ_all]
        exact hk false 0 s h2 hs _ (Nat.le_refl _)
      · rw [if_pos rfl, ← swJ_all]
        refine hk true s.n (s.dcl (nm0 k) sc p) h2 ⟨fun y hy => ?_, hs.2⟩ _ (Nat.le_refl _)
        rcases List.mem_append.1 hy with hy | hy
        · exact hs.1 y hy
        · rw [List.mem_singleton] at hy
          subst hy
          exact id_nm (h3 rfl) h2
    · rw [if_pos rfl]
      split
      · rename_i hid
        refine ⟨hs.1, fun y hy => ?_⟩
        rcases List.mem_append.1 hy with hy | hy
        · exact hs.2 y hy
        · rw [List.mem_singleton] at hy
          subst hy
          have hi : T.idT ⟨n, x, true, k⟩ = true := by unfold T.idT; simp only [Bool.true_and]; exact hid
          have := T.tm_id hi
          rw [ht] at this
          exact this.symm
      · exact hs
set_option maxHeartbeats 3200000 in
/-- A leaf that is no reference. -/
theorem walk50_leaf {A q : Nat} (n x : ByteArray) (hid : (n.toList == ([73, 100] : List UInt8)) = false) (v : Value) (hv : ∃ a c d, v = .slice a c d) (sc : Nat) (p : List Nat) (g cp : Nat) (s : Sw) (c : CV) (w : World) (h : Co w A q 85 s c) :
    Calls Try.prog 50 #[.pointer (some ⟨q, 0, none⟩), .agg #[.string n, .string x, .bool true, v], .slice (some ⟨g, 0, none⟩) p.length cp, .int .i64 (sc : Nat)] w fun e w' => e = .returned (.tuple #[]) ∧ ∃ c', St A q 85 w s c w' s c' (fun _ => False) (fun b => b = g) := by
  obtain ⟨a, cc, d, rfl⟩ := hv
  have HF := (show Hid (St A q 85 w s c (w.alloc (.cells #[.string n, .string x, .bool true, .slice a cc d] 40)) s c (fun _ => False) (fun b => b = g)) from St.below h (bel_alloc _ _))
  clear h
  go_enter Try.func50, Try.ntmps50
  go_wp2_with fail
  refine bodyPost_ret (v := .tuple #[]) (by simp [results, Try.results50, go_sem]) rfl ?_
  exact ⟨rfl, c, HF.out⟩
theorem walk50 {A q : Nat} (t : Tr) : WkC A q t := by
  induction t using T.Tr.ind with
  | h n x l k ih =>
    intro v sc p g cp s c w h hp hg hlies hsz hdp hsc ht
    have hform := hlies.form
    obtain ⟨a, cap, b, off, sv, hv, hrest⟩ := hlies.out
    rw [T.Tr.cnt_mk] at hsz
    rw [T.Tr.deep_mk] at hdp
    unfold WkA
    rw [sw_mk]
    cases l
    · rw [if_neg (by simp)]
      have hn : T.kdN n ≠ none := fun e => by
        rw [T.tm_mk, e] at ht
        simp at ht
      obtain ⟨⟨m, d⟩, hmd⟩ := Option.ne_none_iff_exists'.1 hn
      obtain ⟨h1, h2, h3⟩ := tm_node hmd ht
      have hd := (T.kd_dcl hmd).1
      rw [hd]
      cases d
      · rw [if_neg (by simp), ← swJ_all]
        have hl : (n.toList == T.cLam) = false ∧ (n.toList == T.cLet) = false := by
          unfold T.dclB at hd
          simpa using hd
        exact walk50_kids n x k ih hl.1 hl.2 v sc p g cp s c w h hp hg hlies (by omega) (by omega) hsc h2
      · rw [if_pos rfl, ← swJ_all]
        rcases T.kd_cases n with ⟨e, g'⟩ | ⟨e, g'⟩ | ⟨e, g'⟩ | ⟨e, g'⟩ | ⟨e, g'⟩ | ⟨e, g'⟩ | ⟨_, _, _, _, _, _, g'⟩
        all_goals rw [hmd] at g'
        all_goals (try (simp at g'; done))
        · injection g' with g'
          injection g' with g1 g2
          subst g1
          exact walk50_lam n x k h1 ih (by rw [e]; rfl) (by rw [e]; rfl) v sc p g cp s c w h hp hg hlies (by omega) (by omega) hsc h2
        · injection g' with g'
          injection g' with g1 g2
          subst g1
          exact walk50_let n x k h1 ih (by rw [e]; rfl) (by rw [e]; rfl) v sc p g cp s c w h hp hg hlies (by omega) (by omega) hsc h2
    · rw [if_pos rfl]
      split
      · rename_i hid
        subst hv
        exact walk50_ref n x k hid a cap sc p g cp s c w h hp hg (by omega) hsc
      · rename_i hid
        exact walk50_leaf n x (by unfold T.cId at hid; simpa using hid) v hform sc p g cp s c w h
end Go.Proofs.Ytledclkmeikgdaa

/-! The specification: ScopesOf. -/
namespace Go.Proofs.Ytledclkmeikgdaa
open Go.RowKit Go.Deep Go.Lib
open Go.Proofs.Ytledclkmeikgdaa.T (Tr)
set_option linter.unusedVariables false
set_option maxRecDepth 100000
set_option linter.unusedSimpArgs false

/-- What is answered, as it is owned. -/
structure Ow (w : World) (A : Nat) (s : Sw) (c : CV) : Prop where
  e : w.ownsRow A 74 3 c.v1 s.es.length (edL s.es)
  d : w.ownsRow A 33 2 c.v2 s.ds.length (spL s.ds)
  r : w.ownsRow A 33 2 c.v3 s.rs.length (spL s.rs)
  dp : RRv w A s.dp c.v4 c.D
  rp : RRv w A s.rp c.v5 c.R
  dr : ∀ b, c.v2.ownBlock = some b → c.v3.ownBlock ≠ some b
  pp : ∀ b, c.v4.ownBlock = some b → c.v5.ownBlock ≠ some b
  px : ∀ i j, i < s.dp.length → j < s.rp.length → ∀ b, (c.D i).ownBlock = some b → (c.R j).ownBlock ≠ some b
theorem Co.ow {w : World} {A q ty : Nat} {s : Sw} {c : CV} (h : Co w A q ty s c) : Ow w A s c := ⟨h.e, h.d, h.r, h.dp, h.rp, h.dr, h.pp, h.px⟩
theorem Ow.still {w w' : World} {A : Nat} {s : Sw} {c : CV} (h : Ow w A s c) (hb : Below w.heap.size w w') : Ow w' A s c :=
  ⟨own_keep1 h.e (fun b e => hb.block b (World.ownsRow.lt h.e b e).2), own_keep1 h.d (fun b e => hb.block b (World.ownsRow.lt h.d b e).2), own_keep1 h.r (fun b e => hb.block b (World.ownsRow.lt h.r b e).2), h.dp.still hb, h.rp.still hb, h.dr, h.pp, h.px⟩
/-- As it is kept: a step away from its blocks. -/
theorem Ow.keep {w w' : World} {A : Nat} {s : Sw} {c : CV} (h : Ow w A s c) (hb : ∀ b, A ≤ b → b < w.heap.size → w'.heap[b]? = w.heap[b]?) : Ow w' A s c :=
  ⟨own_keep1 h.e (fun b e => hb b (World.ownsRow.lt h.e b e).1 (World.ownsRow.lt h.e b e).2), own_keep1 h.d (fun b e => hb b (World.ownsRow.lt h.d b e).1 (World.ownsRow.lt h.d b e).2), own_keep1 h.r (fun b e => hb b (World.ownsRow.lt h.r b e).1 (World.ownsRow.lt h.r b e).2),
    h.dp.keep (fun b e => hb b (World.ownsRow.lt h.dp.out b e).1 (World.ownsRow.lt h.dp.out b e).2) (fun i hi b e => hb b (World.ownsRow.lt (h.dp.row i hi) b e).1 (World.ownsRow.lt (h.dp.row i hi) b e).2), h.rp.keep (fun b e => hb b (World.ownsRow.lt h.rp.out b e).1 (World.ownsRow.lt h.rp.out b e).2) (fun i hi b e => hb b (World.ownsRow.lt (h.rp.row i hi) b e).1 (World.ownsRow.lt (h.rp.row i hi) b e).2), h.dr, h.pp, h.px⟩
def sgW (s : Sw) : DSg := ⟨s.n, s.es, s.ds, s.rs⟩
theorem edL_at (l : List DSEdge) : ∀ (i : Nat) (hi : i < l.length), (edL l)[i * 3]? = some (.int .i64 l[i].from_) ∧ (edL l)[i * 3 + 1]? = some (.int .i64 l[i].to_) ∧ (edL l)[i * 3 + 2]? = some (.int .i64 l[i].kind) := by
  induction l with
  | nil => intro i hi; exact absurd hi (Nat.not_lt_zero _)
  | cons x l ih =>
    intro i hi
    have e : edL (x :: l) = [.int .i64 x.from_, .int .i64 x.to_, .int .i64 x.kind] ++ edL l := rfl
    cases i with
    | zero => exact ⟨rfl, rfl, rfl⟩
    | succ i =>
      have := ih i (by simpa using hi)
      rw [e, List.getElem?_append_right (by simp; omega), List.getElem?_append_right (by simp; omega), List.getElem?_append_right (by simp; omega)]
      simp only [List.length_cons, List.length_nil]
      rw [show (i + 1) * 3 - (0 + 1 + 1 + 1) = i * 3 by omega, show (i + 1) * 3 + 1 - (0 + 1 + 1 + 1) = i * 3 + 1 by omega, show (i + 1) * 3 + 2 - (0 + 1 + 1 + 1) = i * 3 + 2 by omega]
      exact this
theorem spL_at (l : List DSpot) : ∀ (i : Nat) (hi : i < l.length), (spL l)[i * 2]? = some (.int .i64 l[i].scope) ∧ (spL l)[i * 2 + 1]? = some (.string l[i].name) := by
  induction l with
  | nil => intro i hi; exact absurd hi (Nat.not_lt_zero _)
  | cons x l ih =>
    intro i hi
    have e : spL (x :: l) = [.int .i64 x.scope, .string x.name] ++ spL l := rfl
    cases i with
    | zero => exact ⟨rfl, rfl⟩
    | succ i =>
      have := ih i (by simpa using hi)
      rw [e, List.getElem?_append_right (by simp; omega), List.getElem?_append_right (by simp; omega)]
      simp only [List.length_cons, List.length_nil]
      rw [show (i + 1) * 2 - (0 + 1 + 1) = i * 2 by omega, show (i + 1) * 2 + 1 - (0 + 1 + 1) = i * 2 + 1 by omega]
      exact this
theorem own_cells {w : World} {B e z n : Nat} {v : Value} {xs : List Value} (h : w.ownsRow B e z v n xs) : ∃ (a : Option Addr) (cap b : Nat), v = .slice a n cap ∧ n ≤ cap ∧ cap ≤ maxLen ∧ (0 < n → a = some ⟨b, 0, none⟩ ∧ B ≤ b) ∧ ∀ j u, xs[j]? = some u → 0 < n → w.cell? ⟨b, j, none⟩ = some u := by
  rcases h.2 with ⟨rfl, rfl⟩ | ⟨g, cap, cur, rfl, r1, r2, r3, r4, r5⟩
  · exact ⟨none, 0, 0, rfl, Nat.le_refl _, Nat.zero_le _, fun h => absurd h (Nat.lt_irrefl _), fun j u _ h => absurd h (Nat.lt_irrefl _)⟩
  · refine ⟨_, cap, g, rfl, r3, r4, fun _ => ⟨rfl, r1⟩, fun j u hu _ => ?_⟩
    have h1 := World.ownsRow.cells h (g := g) rfl j u hu
    have e : (⟨g, 0, none⟩ : Addr).add j = ⟨g, j, none⟩ := by cases j <;> simp [Addr.add]
    rw [e] at h1
    exact h1
theorem nm_size {x : ByteArray} (h : T.nmB x = true) : x.size ≤ maxLen := by
  have := (T.nmB_iff.1 h)
  obtain ⟨_, h1, _⟩ := this
  unfold maxLen
  omega
/-- Scopes that are answered may be read. -/
theorem Ow.sg {w : World} {A : Nat} {s : Sw} {c : CV} (h : Ow w A s c) (hn : s.Nm) : DSgL w (fun b => A ≤ b) (sgW s) c.v1 c.v2 c.v3 := by
  refine ⟨?_, ?_, ?_⟩
  · obtain ⟨a, cap, b, hv, h1, h2, h3, h4⟩ := own_cells h.e
    refine ⟨a, cap, b, 0, hv, h1, h2, h3, fun i hi => ?_⟩
    obtain ⟨q0, q1, q2⟩ := edL_at s.es i hi
    simp only [Nat.zero_add]
    exact ⟨h4 _ _ q0 (Nat.lt_of_le_of_lt (Nat.zero_le _) hi), h4 _ _ q1 (Nat.lt_of_le_of_lt (Nat.zero_le _) hi), h4 _ _ q2 (Nat.lt_of_le_of_lt (Nat.zero_le _) hi)⟩
  · obtain ⟨a, cap, b, hv, h1, h2, h3, h4⟩ := own_cells h.d
    refine ⟨a, cap, b, 0, hv, h1, h2, h3, fun i hi => ?_⟩
    obtain ⟨q0, q1⟩ := spL_at s.ds i hi
    simp only [Nat.zero_add]
    exact ⟨h4 _ _ q0 (Nat.lt_of_le_of_lt (Nat.zero_le _) hi), h4 _ _ q1 (Nat.lt_of_le_of_lt (Nat.zero_le _) hi), nm_size (hn.1 _ (List.getElem_mem hi))⟩
  · obtain ⟨a, cap, b, hv, h1, h2, h3, h4⟩ := own_cells h.r
    refine ⟨a, cap, b, 0, hv, h1, h2, h3, fun i hi => ?_⟩
    obtain ⟨q0, q1⟩ := spL_at s.rs i hi
    simp only [Nat.zero_add]
    exact ⟨h4 _ _ q0 (Nat.lt_of_le_of_lt (Nat.zero_le _) hi), h4 _ _ q1 (Nat.lt_of_le_of_lt (Nat.zero_le _) hi), nm_size (hn.2 _ (List.getElem_mem hi))⟩
def sw0 (n : Nat) : Sw := ⟨n, [], [], [], [], []⟩
/-- What ScopesOf answers. -/
def scR (t : Tr) : Sw × Int := if (t.ok && T.tm t) = false then (sw0 0, 1) else if sgB (sgW (sw t 0 [] (sw0 1))) = false then (sw0 0, 3) else (sw t 0 [] (sw0 1), 0)
theorem nm_sw0 (n : Nat) : (sw0 n).Nm := ⟨fun y hy => absurd hy (by simp [sw0]), fun y hy => absurd hy (by simp [sw0])⟩
theorem scR_nm (t : Tr) : (scR t).1.Nm := by
  unfold scR
  split
  · exact nm_sw0 _
  · rename_i h
    split
    · exact nm_sw0 _
    · have : T.tm t = true := by
        have h : (t.ok && T.tm t) = true := by simpa using h
        rw [Bool.and_eq_true] at h
        exact h.2
      exact sw_nm t 0 [] (sw0 1) this (nm_sw0 _)
/-- .. and leaves. -/
def ScA (R : Sw × Int) (w : World) (e : Ending) (w' : World) : Prop :=
  ∃ (A : Nat) (c : CV), e = .returned (.tuple #[.agg #[.int .i64 (R.1.n : Nat), c.v1, c.v2, c.v3], c.v4, c.v5, .int .i64 R.2]) ∧ w.heap.size ≤ A ∧ Below w.heap.size w w' ∧ Ow w' A R.1 c
def nilC : CV := ⟨.slice none 0 0, .slice none 0 0, .slice none 0 0, .slice none 0 0, .slice none 0 0, fun _ => .slice none 0 0, fun _ => .slice none 0 0⟩
theorem Ow.nil (w : World) (A n : Nat) (v4 v5 : Value) (h4 : w.ownsRow A 34 1 v4 0 []) (h5 : w.ownsRow A 34 1 v5 0 []) (h : ∀ b, v4.ownBlock = some b → v5.ownBlock ≠ some b) : Ow w A (sw0 n) { nilC with v4 := v4, v5 := v5 } :=
  ⟨own_nil _ _ _ _, own_nil _ _ _ _, own_nil _ _ _ _, ⟨h4, fun i hi => absurd hi (Nat.not_lt_zero _), fun i hi => absurd hi (Nat.not_lt_zero _), fun i j _ hj => absurd hj (Nat.not_lt_zero _)⟩, ⟨h5, fun i hi => absurd hi (Nat.not_lt_zero _), fun i hi => absurd hi (Nat.not_lt_zero _), fun i j _ hj => absurd hj (Nat.not_lt_zero _)⟩, (fun b e => by cases e), h, fun i j hi => absurd hi (Nat.not_lt_zero _)⟩
theorem Co.start (w : World) (ty : Nat) (hty : ty ≠ 74 ∧ ty ≠ 33 ∧ ty ≠ 34 ∧ ty ≠ 3) : Co (w.alloc (.cells #[.int .i64 1, .slice none 0 0, .slice none 0 0, .slice none 0 0, .slice none 0 0, .slice none 0 0] ty)) w.heap.size w.heap.size ty (sw0 1) nilC :=
  ⟨Box.new w ty [.int .i64 1, .slice none 0 0, .slice none 0 0, .slice none 0 0, .slice none 0 0, .slice none 0 0], own_nil _ _ _ _, own_nil _ _ _ _, own_nil _ _ _ _, RRv.nil _ _, RRv.nil _ _, (fun b e => by cases e), (fun b e => by cases e), fun i j hi => absurd hi (Nat.not_lt_zero _), Nat.le_refl _, hty⟩
end Go.Proofs.Ytledclkmeikgdaa
