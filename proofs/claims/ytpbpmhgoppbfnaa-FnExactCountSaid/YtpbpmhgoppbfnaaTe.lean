import Derived.Test.YtpbpmhgoppbfnaaTa
import Derived.Test.YtpbpmhgoppbfnaaIbt
/-! The specification's table of counts, while it is made. -/
namespace Go.Proofs.Ytpbpmhgoppbfnaa
open Go.RowKit Go.Deep
set_option linter.unusedVariables false
set_option maxRecDepth 100000
set_option linter.unusedSimpArgs false

/-- What a row that is owned is, once it is there. -/
theorem own_row {w : World} {B e g n c : Nat} {xs : List Value} (h : w.ownsRow B e 1 (.slice (some ⟨g, 0, none⟩) n c) n xs) : B ≤ g ∧ g < w.heap.size ∧ n ≤ c ∧ c ≤ maxLen ∧ ∃ f, w.rowIs g e c f ∧ ∀ j, j < n → xs[j]? = some (f j) := by
  rcases h.2 with ⟨h0, _⟩ | ⟨g', cap, cur, hv, hB, hg, hnc, hcm, hcs, htk⟩
  · cases h0
  · simp only [Value.slice.injEq, Option.some.injEq, Addr.mk.injEq] at hv
    obtain ⟨⟨rfl, _⟩, _, rfl⟩ := hv
    rw [Nat.mul_one] at hcs htk
    refine ⟨hB, (Array.getElem?_eq_some_iff.1 hg).1, hnc, hcm, fun i => cur[i]!, ⟨cur, hg, hcs, fun i hi => ?_⟩, fun j hj => ?_⟩
    · have : i < cur.size := by omega
      simp [this]
    · have hj2 : j < cur.size := by omega
      rw [← htk]
      simp [List.getElem?_take, hj, hj2]
theorem Box.set {w : World} {g T i : Nat} {cs : List Value} (h : Box w g T cs) (u : Value) : Box (w.setCell ⟨g, i, none⟩ u) g T (cs.set i u) := by
  obtain ⟨cells, h1, h2, h3⟩ := World.rowIs.set h.ex i u
  refine ⟨⟨cells, h1, by simpa using h2, fun q hq => ?_⟩⟩
  rw [List.length_set] at hq
  have := h3 q hq
  rw [this]
  congr 1
  dsimp only
  by_cases e : q = i
  · subst e
    simp [List.getD_eq_getElem?_getD, hq]
  · rw [if_neg e]
    simp [List.getD_eq_getElem?_getD, List.getElem?_set, Ne.symm e]
structure Px where
  ow : Nat → Nat × Nat × Nat
  bk : Nat → Nat
  ck : Nat → Nat
  rr : Nat → Nat → Nat
  cr : Nat → Nat → Nat
  bp : Nat → Nat
  nb : Option Nat
def nV (n1 : Nat) (x : Px) (k : Nat) : Value := .slice (some ⟨x.bk k, 0, none⟩) n1 (x.ck k)
def rV (n1 : Nat) (x : Px) (k i : Nat) : Value := .slice (some ⟨x.rr k i, 0, none⟩) n1 (x.cr k i)
def pV (rl : Nat → Nat) (x : Px) (p : Nat) : Value := .slice (some ⟨x.bp p, 0, none⟩) (rl p) (rl p)
/-- So far it is made: kk Nons, of the next one ii rows, the memos of pp Prods. -/
structure PB (W0 : World) (n1 g bnl : Nat) (nl : List Bool) (rl : Nat → Nat) (kk ii pp : Nat) (x : Px) (w : World) : Prop where
  bel : Below W0.heap.size W0 w
  nul : BRow w bnl nl
  krow : ∀ k, k < kk → x.ow (x.bk k) = (5, k, 0) ∧ (n1 ≤ x.ck k ∧ x.ck k ≤ maxLen) ∧ ∀ i, i < n1 → w.cell? ⟨x.bk k, i, none⟩ = some (rV n1 x k i)
  vals : ∀ k i, (k < kk ∧ i < n1 ∨ k = kk ∧ i < ii) → x.ow (x.rr k i) = (7, k, i) ∧ (n1 ≤ x.cr k i ∧ x.cr k i ≤ maxLen) ∧ ∃ f, w.rowIs (x.rr k i) 3 (x.cr k i) f ∧ ∀ j, j < n1 → f j = .int .i64 (-1)
  prow : ∀ p, p < pp → x.ow (x.bp p) = (6, p, 0) ∧ ∃ f, w.rowIs (x.bp p) 28 (rl p) f ∧ ∀ a, a < rl p → f a = .slice none 0 0
  nrow : ∀ b, x.nb = some b → x.ow b = (3, 0, 0) ∧ ∀ k, k < kk → w.cell? ⟨b, k, none⟩ = some (nV n1 x k)
  oG : x.ow g = (1, 0, 0)
  oB : x.ow bnl = (2, 0, 0)
  hi : ∀ b, x.ow b ≠ (0, 0, 0) → W0.heap.size ≤ b ∧ b < w.heap.size
section
variable {W0 : World} {n1 g bnl : Nat} {nl : List Bool} {rl : Nat → Nat} {kk ii pp : Nat} {x : Px} {w w' : World}
theorem PB.keep (h : PB W0 n1 g bnl nl rl kk ii pp x w) (hb : Below W0.heap.size w w') (hk : ∀ b, x.ow b ≠ (0, 0, 0) → b ≠ g → w'.heap[b]? = w.heap[b]?) : PB W0 n1 g bnl nl rl kk ii pp x w' := by
  have hk' : ∀ b t, x.ow b = t → t ≠ (0, 0, 0) → t ≠ (1, 0, 0) → w'.heap[b]? = w.heap[b]? := fun b t e h0 h1 => hk b (by rw [e]; exact h0) (fun eg => h1 (by rw [← e, eg, h.oG]))
  have hc : ∀ b t o v, x.ow b = t → t ≠ (0, 0, 0) → t ≠ (1, 0, 0) → w.cell? ⟨b, o, none⟩ = some v → w'.cell? ⟨b, o, none⟩ = some v := fun b t o v e h0 h1 hv => (World.cell?_of_block (w := w) (hk' b t e h0 h1)).trans hv
  refine ⟨h.bel.trans hb, World.rowIs.of_block h.nul (hk' _ _ h.oB (by simp) (by simp)), fun k hkk => ?_, fun k i hki => ?_, fun p hp => ?_, fun b hb => ?_, h.oG, h.oB, fun b ho => ⟨(h.hi b ho).1, Nat.lt_of_lt_of_le (h.hi b ho).2 hb.size⟩⟩
  · obtain ⟨h1, h2, h3⟩ := h.krow k hkk
    exact ⟨h1, h2, fun i hi => hc _ _ _ _ h1 (by simp) (by simp) (h3 i hi)⟩
  · obtain ⟨h1, h2, f, h3, h4⟩ := h.vals k i hki
    exact ⟨h1, h2, f, World.rowIs.of_block h3 (hk' _ _ h1 (by simp) (by simp)), h4⟩
  · obtain ⟨h1, f, h3, h4⟩ := h.prow p hp
    exact ⟨h1, f, World.rowIs.of_block h3 (hk' _ _ h1 (by simp) (by simp)), h4⟩
  · obtain ⟨h1, h3⟩ := h.nrow b hb
    exact ⟨h1, fun k hk => hc _ _ _ _ h1 (by simp) (by simp) (h3 k hk)⟩
theorem PB.still (h : PB W0 n1 g bnl nl rl kk ii pp x w) (hb : Below w.heap.size w w') : PB W0 n1 g bnl nl rl kk ii pp x w' :=
  h.keep (hb.mono h.bel.size) (fun b ho _ => hb.block b (h.hi b ho).2)
/-- A row grows that is none of its own. -/
theorem PB.grown (h : PB W0 n1 g bnl nl rl kk ii pp x w) {o : Option Nat} (hg : w.grownBy w' o) (ho : ∀ b, o = some b → x.ow b = (0, 0, 0) ∧ W0.heap.size ≤ b) : PB W0 n1 g bnl nl rl kk ii pp x w' :=
  h.keep ⟨hg.os, hg.tape, hg.output, hg.size, fun k hk => hg.block k (by have := h.bel.size; omega) (fun e => by have := (ho k e.symm).2; omega)⟩ (fun b hb _ => hg.block b (h.hi b hb).2 (fun e => hb (ho b e.symm).1))
/-- The table itself is written. -/
theorem PB.setG (h : PB W0 n1 g bnl nl rl kk ii pp x w) (o : Nat) (u : Value) : PB W0 n1 g bnl nl rl kk ii pp x (w.setCell ⟨g, o, none⟩ u) :=
  h.keep ((Below.refl _ _).setCell (p := ⟨g, o, none⟩) (h.hi g (by rw [h.oG]; simp)).1 _) (fun b _ hne => blk_setCell_other _ _ _ _ (by exact hne))
def Px.tag (x : Px) (q : Nat) (t : Nat × Nat × Nat) : Px := { x with ow := fun b => if b = q then t else x.ow b }
theorem PB.tag (h : PB W0 n1 g bnl nl rl kk ii pp x w) {q : Nat} (hq : x.ow q = (0, 0, 0)) (h1 : W0.heap.size ≤ q) (h2 : q < w.heap.size) (t : Nat × Nat × Nat) : PB W0 n1 g bnl nl rl kk ii pp (x.tag q t) w := by
  have ho : ∀ b t', x.ow b = t' → t' ≠ (0, 0, 0) → (x.tag q t).ow b = t' := fun b t' e h0 => by
    show (if b = q then t else x.ow b) = t'
    rw [if_neg (fun eb => h0 (by rw [← e, eb, hq])), e]
  refine ⟨h.bel, h.nul, fun k hk => ?_, fun k i hki => ?_, fun p hp => ?_, fun b hb => ?_, ho _ _ h.oG (by simp), ho _ _ h.oB (by simp), fun b hb => ?_⟩
  · obtain ⟨e1, e2, e3⟩ := h.krow k hk
    exact ⟨ho _ _ e1 (by simp), e2, e3⟩
  · obtain ⟨e1, e2, e3⟩ := h.vals k i hki
    exact ⟨ho _ _ e1 (by simp), e2, e3⟩
  · obtain ⟨e1, e2⟩ := h.prow p hp
    exact ⟨ho _ _ e1 (by simp), e2⟩
  · obtain ⟨e1, e2⟩ := h.nrow b hb
    exact ⟨ho _ _ e1 (by simp), e2⟩
  · by_cases e : b = q
    · subst e; exact ⟨h1, h2⟩
    · have hb' : (if b = q then t else x.ow b) ≠ (0, 0, 0) := hb
      rw [if_neg e] at hb'
      exact h.hi b hb'
def Px.row (x : Px) (kk ii q c : Nat) : Px := { x.tag q (7, kk, ii) with rr := fun k i => if k = kk ∧ i = ii then q else x.rr k i, cr := fun k i => if k = kk ∧ i = ii then c else x.cr k i }
theorem rV_row (x : Px) {n1 kk ii q c k i : Nat} (h : ¬ (k = kk ∧ i = ii)) : rV n1 (x.row kk ii q c) k i = rV n1 x k i := by
  show Value.slice (some ⟨if k = kk ∧ i = ii then q else x.rr k i, 0, none⟩) n1 (if k = kk ∧ i = ii then c else x.cr k i) = _
  rw [if_neg h, if_neg h]
  rfl
theorem rV_row' (x : Px) {n1 kk ii q c : Nat} : rV n1 (x.row kk ii q c) kk ii = .slice (some ⟨q, 0, none⟩) n1 c := by
  show Value.slice (some ⟨if kk = kk ∧ ii = ii then q else x.rr kk ii, 0, none⟩) n1 (if kk = kk ∧ ii = ii then c else x.cr kk ii) = _
  rw [if_pos ⟨rfl, rfl⟩, if_pos ⟨rfl, rfl⟩]
theorem PB.addRow (h : PB W0 n1 g bnl nl rl kk ii pp x w) {q c : Nat} (hq : x.ow q = (0, 0, 0)) (h1 : W0.heap.size ≤ q) (h2 : q < w.heap.size) (hc : n1 ≤ c ∧ c ≤ maxLen) (hf : ∃ f, w.rowIs q 3 c f ∧ ∀ j, j < n1 → f j = .int .i64 (-1)) : PB W0 n1 g bnl nl rl kk (ii + 1) pp (x.row kk ii q c) w := by
  have h' := h.tag hq h1 h2 (7, kk, ii)
  refine ⟨h'.bel, h'.nul, fun k hk => ?_, fun k i hki => ?_, h'.prow, h'.nrow, h'.oG, h'.oB, h'.hi⟩
  · obtain ⟨e1, e2, e3⟩ := h'.krow k hk
    exact ⟨e1, e2, fun i hi => by rw [rV_row x (by omega)]; exact e3 i hi⟩
  · show (x.tag q (7, kk, ii)).ow (if k = kk ∧ i = ii then q else x.rr k i) = _ ∧ (n1 ≤ (if k = kk ∧ i = ii then c else x.cr k i) ∧ (if k = kk ∧ i = ii then c else x.cr k i) ≤ maxLen) ∧ ∃ f, w.rowIs (if k = kk ∧ i = ii then q else x.rr k i) 3 (if k = kk ∧ i = ii then c else x.cr k i) f ∧ _
    by_cases e : k = kk ∧ i = ii
    · rw [if_pos e, if_pos e]
      obtain ⟨rfl, rfl⟩ := e
      exact ⟨if_pos rfl, hc, hf⟩
    · rw [if_neg e, if_neg e]
      exact h'.vals k i (by omega)
def Px.non (x : Px) (kk q c : Nat) : Px := { x.tag q (5, kk, 0) with bk := fun k => if k = kk then q else x.bk k, ck := fun k => if k = kk then c else x.ck k }
theorem nV_non (x : Px) {n1 kk q c k : Nat} (h : k ≠ kk) : nV n1 (x.non kk q c) k = nV n1 x k := by
  show Value.slice (some ⟨if k = kk then q else x.bk k, 0, none⟩) n1 (if k = kk then c else x.ck k) = _
  rw [if_neg h, if_neg h]
  rfl
theorem nV_non' (x : Px) {n1 kk q c : Nat} : nV n1 (x.non kk q c) kk = .slice (some ⟨q, 0, none⟩) n1 c := by
  show Value.slice (some ⟨if kk = kk then q else x.bk kk, 0, none⟩) n1 (if kk = kk then c else x.ck kk) = _
  rw [if_pos rfl, if_pos rfl]
theorem PB.addNon (h : PB W0 n1 g bnl nl rl kk n1 pp x w) (hnb : x.nb = none) {q c : Nat} (hq : x.ow q = (0, 0, 0)) (h1 : W0.heap.size ≤ q) (h2 : q < w.heap.size) (hc : n1 ≤ c ∧ c ≤ maxLen) (hf : ∀ i, i < n1 → w.cell? ⟨q, i, none⟩ = some (rV n1 x kk i)) : PB W0 n1 g bnl nl rl (kk + 1) 0 pp (x.non kk q c) w := by
  have h' := h.tag hq h1 h2 (5, kk, 0)
  refine ⟨h'.bel, h'.nul, fun k hk => ?_, fun k i hki => h'.vals k i (by omega), h'.prow, fun b hb => ?_, h'.oG, h'.oB, h'.hi⟩
  · show (x.tag q (5, kk, 0)).ow (if k = kk then q else x.bk k) = _ ∧ (n1 ≤ (if k = kk then c else x.ck k) ∧ (if k = kk then c else x.ck k) ≤ maxLen) ∧ ∀ i, i < n1 → w.cell? ⟨if k = kk then q else x.bk k, i, none⟩ = some (rV n1 x k i)
    by_cases e : k = kk
    · rw [if_pos e, if_pos e]
      subst e
      exact ⟨if_pos rfl, hc, hf⟩
    · rw [if_neg e, if_neg e]
      exact h'.krow k (by omega)
  · have : x.nb = some b := hb
    rw [hnb] at this
    cases this
def Px.all (x : Px) (q : Nat) : Px := { x.tag q (3, 0, 0) with nb := some q }
theorem PB.addAll (h : PB W0 n1 g bnl nl rl kk 0 pp x w) {q : Nat} (hq : x.ow q = (0, 0, 0)) (h1 : W0.heap.size ≤ q) (h2 : q < w.heap.size) (hf : ∀ k, k < kk → w.cell? ⟨q, k, none⟩ = some (nV n1 x k)) : PB W0 n1 g bnl nl rl kk 0 pp (x.all q) w := by
  have h' := h.tag hq h1 h2 (3, 0, 0)
  refine ⟨h'.bel, h'.nul, h'.krow, h'.vals, h'.prow, fun b hb => ?_, h'.oG, h'.oB, h'.hi⟩
  have : some q = some b := hb
  injection this with e
  subst e
  exact ⟨if_pos rfl, hf⟩
def Px.memo (x : Px) (pp q : Nat) : Px := { x.tag q (6, pp, 0) with bp := fun p => if p = pp then q else x.bp p }
theorem pV_memo (x : Px) (rl : Nat → Nat) {pp q p : Nat} (h : p ≠ pp) : pV rl (x.memo pp q) p = pV rl x p := by
  show Value.slice (some ⟨if p = pp then q else x.bp p, 0, none⟩) (rl p) (rl p) = _
  rw [if_neg h]
  rfl
theorem pV_memo' (x : Px) (rl : Nat → Nat) {pp q : Nat} : pV rl (x.memo pp q) pp = .slice (some ⟨q, 0, none⟩) (rl pp) (rl pp) := by
  show Value.slice (some ⟨if pp = pp then q else x.bp pp, 0, none⟩) (rl pp) (rl pp) = _
  rw [if_pos rfl]
theorem PB.addMemo (h : PB W0 n1 g bnl nl rl kk 0 pp x w) {q : Nat} (hq : x.ow q = (0, 0, 0)) (h1 : W0.heap.size ≤ q) (h2 : q < w.heap.size) (hf : ∃ f, w.rowIs q 28 (rl pp) f ∧ ∀ a, a < rl pp → f a = .slice none 0 0) : PB W0 n1 g bnl nl rl kk 0 (pp + 1) (x.memo pp q) w := by
  have h' := h.tag hq h1 h2 (6, pp, 0)
  refine ⟨h'.bel, h'.nul, h'.krow, h'.vals, fun p hp => ?_, h'.nrow, h'.oG, h'.oB, h'.hi⟩
  show (x.tag q (6, pp, 0)).ow (if p = pp then q else x.bp p) = _ ∧ ∃ f, w.rowIs (if p = pp then q else x.bp p) 28 (rl p) f ∧ _
  by_cases e : p = pp
  · rw [if_pos e]
    subst e
    exact ⟨if_pos rfl, hf⟩
  · rw [if_neg e]
    exact h'.prow p (by omega)
theorem range_map_succ {f f' : Nat → Value} {n : Nat} {u : Value} (h : ∀ k, k < n → f' k = f k) (hu : f' n = u) : (List.range (n + 1)).map f' = (List.range n).map f ++ [u] := by
  rw [List.range_succ, List.map_append, List.map_singleton, hu]
  congr 1
  exact List.map_congr_left (fun k hk => h k (List.mem_range.1 hk))
end
/-- It is made: the table. -/
theorem PB.table {s : Sx} {x : Px} {w : World} {rl : Nat → Nat} (h : PB s.W0 s.n1 s.g s.bnl s.nl rl s.d.nons.length 0 s.d.prods.length x w) (hnb : x.nb = some s.bN) (hrl : ∀ p, p < s.d.prods.length → rl p = (s.rt p).length)
    (hbk : s.bk = x.bk) (hck : s.ck = x.ck) (hrr : s.rr = x.rr) (hcr : s.cr = x.cr) (hbp : s.bp = x.bp)
    (hbox : Box w s.g 116 [.slice s.a0 s.d.terms.length s.c0, .slice s.a1 s.d.nons.length s.c1, .int .i64 s.d.own, .slice s.a3 s.d.prods.length s.c3, .slice (some ⟨s.bnl, 0, none⟩) s.nl.length s.nl.length, s.vw, .slice (some ⟨s.bN, 0, none⟩) s.d.nons.length s.cN, s.vM])
    (hM : 0 < s.d.prods.length → x.ow s.bM = (0, 0, 0) ∧ s.W0.heap.size ≤ s.bM ∧ s.bM < w.heap.size ∧ ∀ p, p < s.d.prods.length → w.cell? ⟨s.bM, p, none⟩ = some (pV rl x p)) :
    ∃ ow, TB s ow (fun _ _ => none) w := by
  have key : ∀ y : Px, y.bk = x.bk → y.ck = x.ck → y.rr = x.rr → y.cr = x.cr → y.bp = x.bp → y.nb = x.nb → PB s.W0 s.n1 s.g s.bnl s.nl rl s.d.nons.length 0 s.d.prods.length y w → (0 < s.d.prods.length → y.ow s.bM = (4, 0, 0)) → ∃ ow, TB s ow (fun _ _ => none) w := by
    intro y e1 e2 e3 e4 e5 e6 h hyM
    obtain ⟨n1e, n2e⟩ := h.nrow s.bN (by rw [e6]; exact hnb)
    refine ⟨y.ow, h.bel, hbox, h.nul, fun k hk => ?_, fun k i hk hi => ?_, fun k i hk hi => ?_, fun p hp => ?_, fun p hp => ?_, fun p a q hp ha hq => (by cases hq), h.oG, h.oB, n1e, hyM, fun k hk => ?_, fun p hp => ?_, fun k i hk hi => ?_, fun p a q hp ha hq => (by cases hq), h.hi⟩
    · have := n2e k hk
      unfold nV at this
      rw [hbk, hck, ← e1, ← e2]
      exact this
    · have := (h.krow k hk).2.2 i hi
      unfold rV at this
      rw [hbk, hrr, hcr, ← e1, ← e3, ← e4]
      exact this
    · obtain ⟨_, _, f, h3, h4⟩ := h.vals k i (.inl ⟨hk, hi⟩)
      rw [hrr, hcr, ← e3, ← e4]
      exact ⟨f, h3, fun j hj => .inl (h4 j hj)⟩
    · have := (hM (by omega)).2.2.2 p hp
      unfold pV at this
      rw [hbp, ← hrl p hp]
      exact this
    · obtain ⟨_, f, h3, h4⟩ := h.prow p hp
      rw [hbp, ← hrl p hp, ← e5]
      exact ⟨f, h3, fun a ha => h4 a ha⟩
    · rw [hbk, ← e1]; exact (h.krow k hk).1
    · rw [hbp, ← e5]; exact (h.prow p hp).1
    · rw [hrr, ← e3]; exact (h.vals k i (.inl ⟨hk, hi⟩)).1
  by_cases h0 : 0 < s.d.prods.length
  · obtain ⟨q1, q2, q3, q4⟩ := hM h0
    exact key (x.tag s.bM (4, 0, 0)) rfl rfl rfl rfl rfl rfl (h.tag q1 q2 q3 (4, 0, 0)) (fun _ => if_pos rfl)
  · exact key x rfl rfl rfl rfl rfl rfl h (fun h1 => absurd h1 h0)
end Go.Proofs.Ytpbpmhgoppbfnaa
