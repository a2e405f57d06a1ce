import Derived.Test.YtledclkmeikgdaaHj
import Derived.Maps.AppendAt
/-! Rows that a call owns, each with its block; rows of edges and of spots as cells. -/
namespace Go.Proofs.Ytledclkmeikgdaa
open Go.RowKit Go.Deep
set_option linter.unusedVariables false
set_option maxRecDepth 100000
set_option linter.unusedSimpArgs false

/-- A row of n things of z cells each in block g, cap of them have room. -/
structure Rw (w : World) (e z g n cap : Nat) (xs : List Value) : Prop where
  len : xs.length = n * z
  le : n ≤ cap
  mx : cap ≤ maxLen
  ex : ∃ f, w.rowIs g e (cap * z) f ∧ ∀ j (hj : j < xs.length), f j = xs[j]
theorem Rw.lt {w : World} {e z g n cap : Nat} {xs : List Value} (h : Rw w e z g n cap xs) : g < w.heap.size := by
  obtain ⟨f, hf, _⟩ := h.ex
  exact World.rowIs.lt hf
theorem Rw.keep {w w' : World} {e z g n cap : Nat} {xs : List Value} (h : Rw w e z g n cap xs) (hb : w'.heap[g]? = w.heap[g]?) : Rw w' e z g n cap xs := by
  obtain ⟨f, hf, hx⟩ := h.ex
  exact ⟨h.len, h.le, h.mx, f, World.rowIs.of_block hf hb, hx⟩
theorem Rw.room {w : World} {e z g n cap : Nat} {xs : List Value} (h : Rw w e z g n cap xs) : xs.length ≤ cap * z := by
  rw [h.len]; exact Nat.mul_le_mul_right _ h.le
theorem Rw.cell {w : World} {e z g n cap : Nat} {xs : List Value} (h : Rw w e z g n cap xs) (j : Nat) (hj : j < xs.length) : w.cell? ⟨g, j, none⟩ = some xs[j] := by
  obtain ⟨f, hf, hx⟩ := h.ex
  rw [World.rowIs.cell hf (by have := h.room; omega), hx j hj]
theorem Rw.cell? {w : World} {e z g n cap : Nat} {xs : List Value} (h : Rw w e z g n cap xs) {j : Nat} {u : Value} (hj : xs[j]? = some u) : w.cell? ⟨g, j, none⟩ = some u := by
  obtain ⟨hl, rfl⟩ := List.getElem?_eq_some_iff.1 hj
  exact h.cell j hl
theorem Rw.frozen {w : World} {e z g n cap : Nat} {xs : List Value} (h : Rw w e z g n cap xs) (j : Nat) : w.frozen? ⟨g, j, none⟩ = false := by
  obtain ⟨f, hf, hx⟩ := h.ex
  exact World.rowIs.frozen hf j
theorem Rw.set {w : World} {e z g n cap : Nat} {xs : List Value} (h : Rw w e z g n cap xs) (j : Nat) (u : Value) : Rw (w.setCell ⟨g, j, none⟩ u) e z g n cap (xs.set j u) := by
  obtain ⟨f, hf, hx⟩ := h.ex
  refine ⟨by rw [List.length_set]; exact h.len, h.le, h.mx, _, World.rowIs.set hf j u, fun i hi => ?_⟩
  rw [List.length_set] at hi
  rw [List.getElem_set]
  by_cases e : i = j
  · subst e; simp
  · rw [if_neg e, if_neg (fun h => e h.symm)]; exact hx i hi
theorem Rw.own {w : World} {B e z g n cap : Nat} {xs : List Value} (h : Rw w e z g n cap xs) (hB : B ≤ g) : w.ownsRow B e z (.slice (some ⟨g, 0, none⟩) n cap) n xs := by
  obtain ⟨f, ⟨c, hc, hs, hcf⟩, hx⟩ := h.ex
  refine ⟨h.len, .inr ⟨g, cap, c, rfl, hB, hc, h.le, h.mx, hs, ?_⟩⟩
  refine List.ext_getElem? (fun i => ?_)
  rw [List.getElem?_take, ← h.len]
  by_cases hi : i < xs.length
  · rw [if_pos hi, Array.getElem?_toList, hcf i (by have := h.room; omega), hx i hi, List.getElem?_eq_getElem hi]
  · rw [if_neg hi, List.getElem?_eq_none (by omega)]
theorem Rw.of {w : World} {B e z n : Nat} {v : Value} {xs : List Value} (h : w.ownsRow B e z v n xs) (hv : ¬ v = .slice none 0 0) : ∃ g cap, v = .slice (some ⟨g, 0, none⟩) n cap ∧ B ≤ g ∧ Rw w e z g n cap xs := by
  rcases h with ⟨hl, ⟨rfl, _⟩ | ⟨g, cap, cur, rfl, hB, hg, hn, hm, hs, htk⟩⟩
  · exact absurd rfl hv
  · refine ⟨g, cap, rfl, hB, hl, hn, hm, fun i => cur.getD i .nilFunc, ⟨cur, hg, hs, fun i hi => by simp [Array.getD, hs, hi]⟩, fun j hj => ?_⟩
    have e := congrArg (·[j]?) htk
    simp only [List.getElem?_take, ← hl, if_pos hj, List.getElem?_eq_getElem hj] at e
    have hc : j < cur.size := by rw [hs]; have := Nat.mul_le_mul_right z hn; omega
    simp [Array.getD, hc] at e ⊢
    exact e
theorem Rw.made (w : World) (e z : Nat) : Rw (w.alloc (.cells #[] e)) e z w.heap.size 0 0 [] :=
  ⟨by simp, Nat.le_refl _, Nat.zero_le _, fun _ => .nilFunc, ⟨#[], blk_alloc_new _ _, by simp, fun i hi => by simp at hi⟩, fun j hj => absurd hj (Nat.not_lt_zero _)⟩
theorem Rw.box (w : World) (e : Nat) (c0 c1 c2 c3 : Value) : Rw (w.alloc (.cells #[c0, c1, c2, c3] e)) e 4 w.heap.size 1 1 [c0, c1, c2, c3] :=
  ⟨rfl, Nat.le_refl _, by unfold maxLen; omega, fun i => [c0, c1, c2, c3].getD i .nilFunc, ⟨_, blk_alloc_new _ _, rfl, fun i hi => by
    match i, hi with
    | 0, _ => rfl
    | 1, _ => rfl
    | 2, _ => rfl
    | 3, _ => rfl⟩, fun j hj => by
    match j, hj with
    | 0, _ => rfl
    | 1, _ => rfl
    | 2, _ => rfl
    | 3, _ => rfl⟩
theorem Rw.news {w : World} {e z g n cap : Nat} {xs : List Value} (h : Rw w e z g n cap xs) : ∀ j u, xs[j]? = some u → w.cell? ((⟨g, 0, none⟩ : Addr).add j) = some u := by
  intro j u hj
  have hadd : (⟨g, 0, none⟩ : Addr).add j = ⟨g, j, none⟩ := by unfold Addr.add; split <;> simp_all
  rw [hadd]
  exact h.cell? hj
theorem Rw.rk {w : World} {e z g n cap : Nat} {xs : List Value} (h : Rw w e z g n cap xs) (hn : n ≤ 1048576) : Rk w g e n z (.slice (some ⟨g, 0, none⟩) n cap) := by
  obtain ⟨f, hf, _⟩ := h.ex
  exact ⟨_, cap, cap * z, rfl, hn, fun _ => ⟨rfl, Nat.mul_le_mul_right _ h.le, f, hf⟩⟩
/-- A thing that is owned. -/
structure Own where
  e : Nat
  z : Nat
  g : Nat
  n : Nat
  cap : Nat
  xs : List Value
def Own.v (x : Own) : Value := .slice (some ⟨x.g, 0, none⟩) x.n x.cap
def V4 (a b c d : Option Own) : Nat → Option Own
  | 0 => a
  | 1 => b
  | 2 => c
  | 3 => d
  | _ => none
def upS (st : Nat → Option Own) (i : Nat) (x : Own) : Nat → Option Own := fun j => if j = i then some x else st j
theorem upd0 {a b c d : Option Own} {x : Own} : upS (V4 a b c d) 0 x = V4 (some x) b c d := by
  funext j
  match j with
  | 0 => rfl
  | 1 => rfl
  | 2 => rfl
  | 3 => rfl
  | _ + 4 => rfl
theorem upd1 {a b c d : Option Own} {x : Own} : upS (V4 a b c d) 1 x = V4 a (some x) c d := by
  funext j
  match j with
  | 0 => rfl
  | 1 => rfl
  | 2 => rfl
  | 3 => rfl
  | _ + 4 => rfl
theorem upd2 {a b c d : Option Own} {x : Own} : upS (V4 a b c d) 2 x = V4 a b (some x) d := by
  funext j
  match j with
  | 0 => rfl
  | 1 => rfl
  | 2 => rfl
  | 3 => rfl
  | _ + 4 => rfl
theorem upd3 {a b c d : Option Own} {x : Own} : upS (V4 a b c d) 3 x = V4 a b c (some x) := by
  funext j
  match j with
  | 0 => rfl
  | 1 => rfl
  | 2 => rfl
  | 3 => rfl
  | _ + 4 => rfl
/-- What is owned, since a world: all else is as it was. -/
structure Fo (w0 w : World) (st : Nat → Option Own) : Prop where
  bel : Below w0.heap.size w0 w
  own : ∀ i x, st i = some x → w0.heap.size ≤ x.g ∧ Rw w x.e x.z x.g x.n x.cap x.xs
  dis : ∀ i j x y, i ≠ j → st i = some x → st j = some y → x.g ≠ y.g
theorem V4_none (i : Nat) : V4 none none none none i = none := by
  match i with
  | 0 => rfl
  | 1 => rfl
  | 2 => rfl
  | 3 => rfl
  | _ + 4 => rfl
theorem Fo.new {w0 w : World} (h : Below w0.heap.size w0 w) : Fo w0 w (V4 none none none none) :=
  ⟨h, fun i x hi => (by rw [V4_none] at hi; cases hi), fun i j x y _ hi _ => (by rw [V4_none] at hi; cases hi)⟩
theorem Fo.upd {w0 w w' : World} {st : Nat → Option Own} (h : Fo w0 w st) (i : Nat) (x : Own) (hB : Below w0.heap.size w0 w') (hx : Rw w' x.e x.z x.g x.n x.cap x.xs) (hxg : w0.heap.size ≤ x.g)
    (hk : ∀ k, k < w.heap.size → (∀ y, st i = some y → k ≠ y.g) → w'.heap[k]? = w.heap[k]?) (hn : w.heap.size ≤ x.g ∨ ∃ y, st i = some y ∧ x.g = y.g) : Fo w0 w' (upS st i x) := by
  have hne : ∀ j y, j ≠ i → st j = some y → x.g ≠ y.g := fun j y hj hy => by
    rcases hn with hn | ⟨u, hu, hg⟩
    · have := (h.own j y hy).2.lt; omega
    · rw [hg]; exact h.dis i j u y (fun e => hj e.symm) hu hy
  refine ⟨hB, fun j y hy => ?_, fun j k y u hjk hy hu => ?_⟩
  · unfold upS at hy
    by_cases e : j = i
    · rw [if_pos e] at hy; injection hy with hy; subst hy; exact ⟨hxg, hx⟩
    · rw [if_neg e] at hy
      have ho := h.own j y hy
      exact ⟨ho.1, ho.2.keep (hk _ ho.2.lt (fun u hu => (h.dis i j u y (fun q => e q.symm) hu hy).symm))⟩
  · unfold upS at hy hu
    by_cases e : j = i
    · rw [if_pos e] at hy; injection hy with hy; subst hy
      rw [if_neg (fun q => hjk (e.trans q.symm))] at hu
      exact hne k u (fun q => hjk (e.trans q.symm)) hu
    · rw [if_neg e] at hy
      by_cases e2 : k = i
      · rw [if_pos e2] at hu; injection hu with hu; subst hu
        exact (hne j y e hy).symm
      · rw [if_neg e2] at hu; exact h.dis j k y u hjk hy hu
theorem Fo.still {w0 w w' : World} {st : Nat → Option Own} (h : Fo w0 w st) (hb : Below w.heap.size w w') : Fo w0 w' st :=
  ⟨h.bel.trans (hb.mono h.bel.size), fun i x hx => ⟨(h.own i x hx).1, (h.own i x hx).2.keep (hb.block _ (h.own i x hx).2.lt)⟩, h.dis⟩
/-- A new block. -/
theorem Fo.alloc {w0 w : World} {st : Nat → Option Own} (h : Fo w0 w st) (i : Nat) (x : Own) (o : Obj) (hx : Rw (w.alloc o) x.e x.z x.g x.n x.cap x.xs) (hg : x.g = w.heap.size) : Fo w0 (w.alloc o) (upS st i x) :=
  h.upd i x (h.bel.alloc h.bel.size o) hx (by have := h.bel.size; omega) (fun k hk _ => blk_alloc_lt _ _ _ hk) (.inl (by omega))
/-- A store into a thing that is owned. -/
theorem Fo.set {w0 w : World} {st : Nat → Option Own} (h : Fo w0 w st) (i : Nat) {x : Own} (hx : st i = some x) (j : Nat) (u : Value) : Fo w0 (w.setCell ⟨x.g, j, none⟩ u) (upS st i ⟨x.e, x.z, x.g, x.n, x.cap, x.xs.set j u⟩) :=
  h.upd i ⟨x.e, x.z, x.g, x.n, x.cap, x.xs.set j u⟩ (h.bel.setCell (h.own i x hx).1 _) ((h.own i x hx).2.set j u) (h.own i x hx).1 (fun k hk hne => blk_setCell_other _ _ _ _ (by exact hne x hx)) (.inr ⟨x, hx, rfl⟩)
/-- append to an empty row. -/
theorem Fo.app {w0 w w' : World} {st : Nat → Option Own} (h : Fo w0 w st) (i : Nat) {x : Own} (hx : st i = some x) {v' : Value} {n : Nat} {xs : List Value} (ho : w'.ownsRow w0.heap.size x.e x.z v' n xs) (hg : w.grownBy w' x.v.ownBlock) (hnil : ¬ v' = .slice none 0 0) (hat : v'.ownBlock = x.v.ownBlock ∨ v'.ownBlock = some w.heap.size) :
    ∃ g cap, v' = .slice (some ⟨g, 0, none⟩) n cap ∧ Fo w0 w' (upS st i ⟨x.e, x.z, g, n, cap, xs⟩) := by
  obtain ⟨g, cap, rfl, hB, hr⟩ := Rw.of ho hnil
  refine ⟨g, cap, rfl, h.upd i ⟨x.e, x.z, g, n, cap, xs⟩ (h.bel.grown hg h.bel.size (fun k hk => ?_)) hr hB (fun k hk hne => hg.block k hk (fun e => ?_)) ?_⟩
  · have e : x.g = k := by simpa [Own.v, Value.ownBlock] using hk
    exact e ▸ (h.own i x hx).1
  · have e : k = x.g := by simpa [Own.v, Value.ownBlock] using e
    exact hne x hx e
  · rcases hat with e | e
    · exact .inr ⟨x, hx, by simpa [Own.v, Value.ownBlock] using e⟩
    · exact .inl (by have e : g = w.heap.size := by simpa [Value.ownBlock] using e
                     show w.heap.size ≤ g; omega)
/-- Spots, cell by cell. -/
def spC (l : List DSpot) : List Value := l.flatMap fun s => [.int .i64 s.scope, .string s.name]
def edC (l : List DSEdge) : List Value := l.flatMap fun s => [.int .i64 s.from_, .int .i64 s.to_, .int .i64 s.kind]
theorem spC_at : ∀ (l : List DSpot) (i : Nat) (hi : i < l.length), (spC l)[i * 2]? = some (.int .i64 l[i].scope) ∧ (spC l)[i * 2 + 1]? = some (.string l[i].name)
  | a :: l, 0, _ => ⟨rfl, rfl⟩
  | a :: l, i + 1, hi => by
    have ih := spC_at l i (by simpa using hi)
    rw [show (i + 1) * 2 = i * 2 + 2 by omega]
    exact ih
theorem edC_at : ∀ (l : List DSEdge) (i : Nat) (hi : i < l.length), (edC l)[i * 3]? = some (.int .i64 l[i].from_) ∧ (edC l)[i * 3 + 1]? = some (.int .i64 l[i].to_) ∧ (edC l)[i * 3 + 2]? = some (.int .i64 l[i].kind)
  | a :: l, 0, _ => ⟨rfl, rfl, rfl⟩
  | a :: l, i + 1, hi => by
    have ih := edC_at l i (by simpa using hi)
    rw [show (i + 1) * 3 = i * 3 + 3 by omega]
    exact ih
theorem spC_one (l : List DSpot) : ∀ u ∈ spC l, u.oneCell' = true := by
  intro u hu
  obtain ⟨s, _, hs⟩ := List.mem_flatMap.1 hu
  simp at hs
  rcases hs with rfl | rfl <;> rfl
theorem edC_one (l : List DSEdge) : ∀ u ∈ edC l, u.oneCell' = true := by
  intro u hu
  obtain ⟨s, _, hs⟩ := List.mem_flatMap.1 hu
  simp at hs
  rcases hs with rfl | rfl | rfl <;> rfl
theorem spC_set1 : ∀ (l : List DSpot) (i : Nat) (hi : i < l.length) (nm : ByteArray), (spC l).set (i * 2 + 1) (.string nm) = spC (l.set i ⟨l[i].scope, nm⟩)
  | a :: l, 0, _, nm => rfl
  | a :: l, i + 1, hi, nm => by
    have ih := spC_set1 l i (by simpa using hi) nm
    rw [show (i + 1) * 2 + 1 = (i * 2 + 1) + 2 by omega]
    show (.int .i64 a.scope) :: (.string a.name) :: (spC l).set (i * 2 + 1) (.string nm) = _
    rw [ih]
    rfl
theorem spC_set0 (l : List DSpot) (i : Nat) (hi : i < l.length) : (spC l).set (i * 2) (.int .i64 l[i].scope) = spC l := by
  have h := (spC_at l i hi).1
  obtain ⟨hl, h⟩ := List.getElem?_eq_some_iff.1 h
  rw [← h]
  exact List.set_getElem_self hl
theorem Rw.spots {w : World} {S : Nat → Prop} {g n cap : Nat} {l : List DSpot} (h : Rw w 33 2 g n cap (spC l)) (hn : n = l.length) (hS : S g) (hs : ∀ i (hi : i < l.length), l[i].name.size ≤ maxLen) : SpotR w S l (.slice (some ⟨g, 0, none⟩) n cap) := by
  subst hn
  refine ⟨_, cap, g, 0, rfl, h.le, h.mx, fun _ => ⟨rfl, hS⟩, fun i hi => ?_⟩
  rw [Nat.zero_add]
  exact ⟨h.cell? (spC_at l i hi).1, h.cell? (spC_at l i hi).2, hs i hi⟩
theorem Rw.edges {w : World} {S : Nat → Prop} {g n cap : Nat} {l : List DSEdge} (h : Rw w 74 3 g n cap (edC l)) (hn : n = l.length) (hS : S g) : SEdgeR w S l (.slice (some ⟨g, 0, none⟩) n cap) := by
  subst hn
  refine ⟨_, cap, g, 0, rfl, h.le, h.mx, fun _ => ⟨rfl, hS⟩, fun i hi => ?_⟩
  rw [Nat.zero_add]
  exact ⟨h.cell? (edC_at l i hi).1, h.cell? (edC_at l i hi).2.1, h.cell? (edC_at l i hi).2.2⟩
theorem eqNil28 (a : Addr) (n c : Nat) (w : World) : (binOp .eql 24 (.slice (some a) n c) (.slice none 0 0)).run Try.prog w = .ok (.bool false) w := by
  have h : ∀ d : Nat, (Op.equalIn (d + 1) 24 (.slice (some a) n c) (.slice none 0 0)).run Try.prog w = .ok false w := fun d => by
    simp [Op.equalIn, run_underlying Try.underlying24]
  simp only [binOp]
  simp [Op.equal, Op.maxDepth, h 9999]
set_option maxHeartbeats 1600000 in
theorem clone61 (n b c : Nat) (xs : List Value) (w : World) (h : Rw w 74 3 b n c xs) (hn : n ≤ 120) (h1 : ∀ u ∈ xs, u.oneCell' = true) :
    Calls Try.prog 40 #[.slice (some ⟨b, 0, none⟩) n c] w fun e w' => ∃ g cap, e = .returned (.slice (some ⟨g, 0, none⟩) n cap) ∧ Below w.heap.size w w' ∧ w.heap.size ≤ g ∧ Rw w' 74 3 g n cap xs := by
  obtain ⟨i68, hi, hzz⟩ := Option.map_eq_some_iff.1 info74
  simp only [Prod.mk.injEq] at hzz
  obtain ⟨hz0, hz1, hz2⟩ := hzz
  have HR := (show Hid _ from h); clear h
  have HB0 := (show Hid (Below w.heap.size w (w.alloc (.cells #[] 74))) from bel_alloc _ _)
  have HO0 := (show Hid ((w.alloc (.cells #[] 74)).ownsRow w.heap.size 74 3 (.slice (some ⟨w.heap.size, 0, none⟩) 0 0) 0 []) from (Rw.made w 74 3).own (Nat.le_refl _))
  have HR1 := (show Hid (Rw (w.alloc (.cells #[] 74)) 74 3 b n c xs) from HR.out.keep (HB0.out.block _ HR.out.lt))
  have hq := eqNil28 ⟨b, 0, none⟩ n c w
  go_enter Try.func40, Try.ntmps40
  go_wp2_with (at_builtin; refine wpList_append_own_at _ rfl (.tmp 5) (.tmp 6) 24 rfl w.heap.size 74 i68 _ 3 24 Try.underlying24 hi hz0 hz1 hz2 rfl (by decide) _ 0 _ rfl HO0.out ⟨b, 0, none⟩ n c xs rfl HR.out.len HR1.out.news h1 ?c3 ?c5 ?c4 ?nx)
  case c3 => unfold maxLen; omega
  case c5 => omega
  case c4 => simp
  case nx =>
    intro v' w' hown hgr hnil hat
    have HX := (show Hid (∃ g cap, v' = .slice (some ⟨g, 0, none⟩) n cap ∧ Below w.heap.size w w' ∧ w.heap.size ≤ g ∧ Rw w' 74 3 g n cap xs) from by
      obtain ⟨g, cap, e, hg, hr⟩ := Rw.of hown hnil
      exact ⟨g, cap, e, HB0.out.grown hgr HB0.out.size (fun k hk => by have e : w.heap.size = k := by simpa [Value.ownBlock] using hk
                                                                       omega), hg, hr⟩)
    clear hown hgr hnil hat
    obtain ⟨g, cap, rfl, h2, h3, h4⟩ := HX.out
    have HY := (show Hid _ from And.intro h2 (And.intro h3 h4))
    clear h2 h3 h4 HX HB0 HO0 HR1 HR
    go_wp2_with fail
    go_ret
    exact ⟨g, cap, rfl, HY.out⟩
theorem eqNil29 (a : Addr) (n c : Nat) (w : World) : (binOp .eql 25 (.slice (some a) n c) (.slice none 0 0)).run Try.prog w = .ok (.bool false) w := by
  have h : ∀ d : Nat, (Op.equalIn (d + 1) 25 (.slice (some a) n c) (.slice none 0 0)).run Try.prog w = .ok false w := fun d => by
    simp [Op.equalIn, run_underlying Try.underlying25]
  simp only [binOp]
  simp [Op.equal, Op.maxDepth, h 9999]
set_option maxHeartbeats 1600000 in
theorem clone62 (n b c : Nat) (xs : List Value) (w : World) (h : Rw w 33 2 b n c xs) (hn : n ≤ 120) (h1 : ∀ u ∈ xs, u.oneCell' = true) :
    Calls Try.prog 41 #[.slice (some ⟨b, 0, none⟩) n c] w fun e w' => ∃ g cap, e = .returned (.slice (some ⟨g, 0, none⟩) n cap) ∧ Below w.heap.size w w' ∧ w.heap.size ≤ g ∧ Rw w' 33 2 g n cap xs := by
  obtain ⟨i74, hi, hzz⟩ := Option.map_eq_some_iff.1 info33
  simp only [Prod.mk.injEq] at hzz
  obtain ⟨hz0, hz1, hz2⟩ := hzz
  have HR := (show Hid _ from h); clear h
  have HB0 := (show Hid (Below w.heap.size w (w.alloc (.cells #[] 33))) from bel_alloc _ _)
  have HO0 := (show Hid ((w.alloc (.cells #[] 33)).ownsRow w.heap.size 33 2 (.slice (some ⟨w.heap.size, 0, none⟩) 0 0) 0 []) from (Rw.made w 33 2).own (Nat.le_refl _))
  have HR1 := (show Hid (Rw (w.alloc (.cells #[] 33)) 33 2 b n c xs) from HR.out.keep (HB0.out.block _ HR.out.lt))
  have hq := eqNil29 ⟨b, 0, none⟩ n c w
  go_enter Try.func41, Try.ntmps41
  go_wp2_with (at_builtin; refine wpList_append_own_at _ rfl (.tmp 5) (.tmp 6) 25 rfl w.heap.size 33 i74 _ 2 24 Try.underlying25 hi hz0 hz1 hz2 rfl (by decide) _ 0 _ rfl HO0.out ⟨b, 0, none⟩ n c xs rfl HR.out.len HR1.out.news h1 ?c3 ?c5 ?c4 ?nx)
  case c3 => unfold maxLen; omega
  case c5 => omega
  case c4 => simp
  case nx =>
    intro v' w' hown hgr hnil hat
    have HX := (show Hid (∃ g cap, v' = .slice (some ⟨g, 0, none⟩) n cap ∧ Below w.heap.size w w' ∧ w.heap.size ≤ g ∧ Rw w' 33 2 g n cap xs) from by
      obtain ⟨g, cap, e, hg, hr⟩ := Rw.of hown hnil
      exact ⟨g, cap, e, HB0.out.grown hgr HB0.out.size (fun k hk => by have e : w.heap.size = k := by simpa [Value.ownBlock] using hk
                                                                       omega), hg, hr⟩)
    clear hown hgr hnil hat
    obtain ⟨g, cap, rfl, h2, h3, h4⟩ := HX.out
    have HY := (show Hid _ from And.intro h2 (And.intro h3 h4))
    clear h2 h3 h4 HX HB0 HO0 HR1 HR
    go_wp2_with fail
    go_ret
    exact ⟨g, cap, rfl, HY.out⟩
end Go.Proofs.Ytledclkmeikgdaa
