import Derived.Test.YtflhfimgeladaaaWh
/-! What the specification's Widen keeps. -/
namespace Go.Proofs.Ytflhfimgeladaaa
open Go.RowKit Go.Deep
set_option linter.unusedVariables false
set_option maxRecDepth 100000
set_option linter.unusedSimpArgs false

/-- append of a copy onto an empty slice that is made, at a step of a region that draws: what comes is made. -/
theorem step_append_made {P : Program} (w : World) {ops : Array Oper} {o : Oper} {a : Act} {K : Act → World → Prop} {Q : Exit → Act → World → Prop} {E : Prop} (hgd : o.guard = none) (s x : Operand) (t : TypeId)
    (ho : o.op = .call { callee := .builtin .append, args := #[s, x], argTypes := #[t, t] })
    (base : Nat) (e : TypeId) (i : TypeInfo) (z : Value) (size bytes : Nat) (ht : P.underlying t = some (.slice e)) (hi : P.info? e = some i) (hz : i.zero = some z)
    (hsize : i.size = size) (hby : i.bytes = bytes) (hzs : z.cells.size = size) (hsz : 0 < size)
    (b : Nat) (hs : a.eval s = .slice (some ⟨b, 0, none⟩) 0 0) (hown : w.ownsRow base e size (.slice (some ⟨b, 0, none⟩) 0 0) 0 [])
    (ad : Addr) (m c : Nat) (news : List Value) (hx : a.eval x = .slice (some ad) m c) (hl : news.length = m * size) (hnews : ∀ j u, news[j]? = some u → w.cell? (ad.add j) = some u) (h1 : ∀ u ∈ news, u.oneCell' = true)
    (h63 : m ≤ maxLen) (hbytes : m * bytes ≤ 140737488355328) (hbase : base ≤ w.heap.size)
    (h : ∀ g' cap' w', w'.ownsRow base e size (.slice (some ⟨g', 0, none⟩) m cap') m news → w.grownBy w' (some b) → K (a.put o.dst (.slice (some ⟨g', 0, none⟩) m cap')) w') :
    if Region.wanted o (yielded ops a.tmps) = true then Oper.wp P o a w K Q else E := by
  have hw : Region.wanted o (yielded ops a.tmps) = true := by simp [Region.wanted, hgd]
  rw [if_pos hw]
  obtain ⟨v', w', hr, h2, h3, h4, h5⟩ := run_append_own_at (P := P) w base t o.type e i z size bytes ht hi hz hsize hby hzs hsz _ 0 [] hown ad m c news hl hnews h1 (by omega) (by rw [Nat.zero_add]; exact hbytes) hbase
  rw [Nat.zero_add, List.nil_append] at h2
  obtain ⟨g', cap', e'⟩ := own_some h2 (fun q => by have := (h4.1 q).1; cases this)
  subst e'
  have h3' : w.grownBy w' (some b) := by simpa [Value.ownBlock] using h3
  unfold Oper.wp execOp
  simp only [ho, resolve, invoke, builtin, Sem.run_bind, Sem.run_pure, Result.andThen_ok, List.map_toArray, List.map_cons, List.map_nil, hs, hx, hr]
  exact h g' cap' w' h2 h3'
/-- The boxes: the argument, the answer, the table that grows. -/
structure Mtb (w wr : World) (x0 x1 x2 x3 u0 u1 : Value) : Prop where
  bel : Below w.heap.size w wr
  sz : w.heap.size + 3 ≤ wr.heap.size
  p : Box4 wr w.heap.size 48 x0 x1 x2 x3
  r : Box2 wr (w.heap.size + 1) 41 (.slice none 0 0) (.slice none 0 0)
  t : Box2 wr (w.heap.size + 1 + 1) 41 u0 u1
theorem Mtb.still {w wr w' : World} {x0 x1 x2 x3 u0 u1 : Value} (h : Mtb w wr x0 x1 x2 x3 u0 u1) (hb : Below wr.heap.size wr w') : Mtb w w' x0 x1 x2 x3 u0 u1 :=
  ⟨bel_trans h.bel hb, Nat.le_trans h.sz hb.size, h.p.still hb, h.r.still hb, h.t.still hb⟩
theorem Mtb.grown {w wr w' : World} {x0 x1 x2 x3 u0 u1 : Value} {o : Option Nat} (h : Mtb w wr x0 x1 x2 x3 u0 u1) (hg : wr.grownBy w' o) (ho : ∀ k, o = some k → w.heap.size + 3 ≤ k) : Mtb w w' x0 x1 x2 x3 u0 u1 := by
  have hz := h.sz
  have hk : ∀ k, k < w.heap.size + 3 → w'.heap[k]? = wr.heap[k]? := fun k hk => hg.block k (by omega) (fun e => by have := ho k e.symm; omega)
  exact ⟨grown_bel h.bel hg (fun k hk => by have := ho k hk; omega) (by omega), Nat.le_trans hz hg.size, h.p.keep (hk _ (by omega)), h.r.keep (hk _ (by omega)), h.t.keep (hk _ (by omega))⟩
theorem Mtb.set {w wr : World} {x0 x1 x2 x3 u0 u1 v0 v1 u : Value} {o : Nat} (h : Mtb w wr x0 x1 x2 x3 u0 u1) (hp : Box2 (wr.setCell ⟨w.heap.size + 1 + 1, o, none⟩ u) (w.heap.size + 1 + 1) 41 v0 v1) : Mtb w (wr.setCell ⟨w.heap.size + 1 + 1, o, none⟩ u) x0 x1 x2 x3 v0 v1 :=
  ⟨h.bel.setCell (by show w.heap.size ≤ w.heap.size + 1 + 1; omega) _, by have := h.sz; simpa [World.setCell] using this, h.p.past (by omega), h.r.keep (blk_setCell_other _ _ _ _ (by show w.heap.size + 1 ≠ w.heap.size + 1 + 1; omega)), hp⟩
/-- All of it. -/
structure Mt (w wr : World) (x0 x1 x2 x3 u0 u1 : Value) (ra : List (Value × List (Int × Int))) (rg : List (Value × List Int)) : Prop where
  mb : Mtb w wr x0 x1 x2 x3 u0 u1
  own : Own wr (w.heap.size + 3) (TEnt u0 u1 ra rg [])
  na : ∀ p ∈ ra, ∃ ad c, p.1 = .slice (some ad) p.2.length c
  ng : ∀ p ∈ rg, ∃ ad c, p.1 = .slice (some ad) p.2.length c
theorem Mt.still {w wr w' : World} {x0 x1 x2 x3 u0 u1 : Value} {ra : List (Value × List (Int × Int))} {rg : List (Value × List Int)} (h : Mt w wr x0 x1 x2 x3 u0 u1 ra rg) (hb : Below wr.heap.size wr w') : Mt w w' x0 x1 x2 x3 u0 u1 ra rg := ⟨h.mb.still hb, h.own.still hb, h.na, h.ng⟩
theorem Mt.rowA {w wr w1 w3 : World} {x0 x1 x2 x3 u0 u1 u' : Value} {ra : List (Value × List (Int × Int))} {rg : List (Value × List Int)} {row : List (Int × Int)} {ad : Addr} {c5 : Nat} (m : Mt w wr x0 x1 x2 x3 u0 u1 ra rg) (hb : Below wr.heap.size wr w1) (ho : w1.ownsRow wr.heap.size 71 2 (.slice (some ad) row.length c5) row.length (encA row)) (hg : (w1.alloc (.cells #[.slice (some ad) row.length c5] 69)).grownBy w3 u0.ownBlock) (hh : w3.ownsRow (w.heap.size + 3) 69 1 u' (ra.length + 1) (ra.map (·.1) ++ [.slice (some ad) row.length c5])) (hat : ∀ k, u'.ownBlock = some k → u0.ownBlock = some k ∨ (w1.alloc (.cells #[.slice (some ad) row.length c5] 69)).heap.size ≤ k) :
    Mt w (w3.setCell ⟨w.heap.size + 1 + 1, 0, none⟩ u') x0 x1 x2 x3 u' u1 (ra ++ [(.slice (some ad) row.length c5, row)]) rg := by
  have hs := m.mb.sz
  have hb2 := bel_trans hb (bel_alloc w1 (.cells #[.slice (some ad) row.length c5] 69))
  have h1 := m.own.add (e' := entA (.slice (some ad) row.length c5, row)) hb (by
    show w1.ownsRow _ _ _ _ _ _
    refine ⟨ho.1, ?_⟩
    rcases ho.2 with h0 | ⟨g, cp, cur, r1, r2, r3⟩
    · exact .inl h0
    · exact .inr ⟨g, cp, cur, r1, Nat.le_trans hs r2, r3⟩) (fun k hk => (World.ownsRow.lt ho k hk).1)
  have h2 := h1.still (bel_alloc w1 (.cells #[.slice (some ad) row.length c5] 69))
  have hold : (w1.alloc (.cells #[.slice (some ad) row.length c5] 69)).ownsRow (w.heap.size + 3) 69 1 u0 ra.length (ra.map (·.1)) := h2.ok (hdA u0 ra) (by simp [TEnt])
  have h3 : Own (w1.alloc (.cells #[.slice (some ad) row.length c5] 69)) (w.heap.size + 3) (hdA u0 ra :: (entA (.slice (some ad) row.length c5, row) :: (ra.map entA ++ (rg.map entI ++ [hdG u1 rg])))) := h2.perm (by classical exact List.perm_iff_count.2 (fun a => by simp only [TEnt, List.map_append, List.map_cons, List.map_nil, List.count_append, List.count_cons, List.count_nil]; first | omega | ac_rfl))
  have h4 := h3.grow (e' := hdA u' (ra ++ [(.slice (some ad) row.length c5, row)])) hg (by show w3.ownsRow _ _ _ _ _ _; simpa using hh) hat
  have h5 : Own w3 (w.heap.size + 3) (TEnt u' u1 (ra ++ [(.slice (some ad) row.length c5, row)]) rg []) := h4.perm (by classical exact List.perm_iff_count.2 (fun a => by simp only [TEnt, List.map_append, List.map_cons, List.map_nil, List.count_append, List.count_cons, List.count_nil]; first | omega | ac_rfl))
  have m3 := (m.mb.still hb2).grown hg (fun k hk => (World.ownsRow.lt hold k hk).1)
  refine ⟨m3.set (m3.t.set0 u'), h5.set (by show w.heap.size + 1 + 1 < w.heap.size + 3; omega), ?_, ?_⟩
  · intro p hp
    rcases List.mem_append.1 hp with hp | hp
    · exact m.na p hp
    · have := List.mem_singleton.1 hp
      subst this
      exact ⟨_, _, rfl⟩
  · exact m.ng
theorem Mt.rowI {w wr w1 w3 : World} {x0 x1 x2 x3 u0 u1 u' : Value} {ra : List (Value × List (Int × Int))} {rg : List (Value × List Int)} {row : List Int} {ad : Addr} {c5 : Nat} (m : Mt w wr x0 x1 x2 x3 u0 u1 ra rg) (hb : Below wr.heap.size wr w1) (ho : w1.ownsRow wr.heap.size 3 1 (.slice (some ad) row.length c5) row.length (encI row)) (hg : (w1.alloc (.cells #[.slice (some ad) row.length c5] 46)).grownBy w3 u1.ownBlock) (hh : w3.ownsRow (w.heap.size + 3) 46 1 u' (rg.length + 1) (rg.map (·.1) ++ [.slice (some ad) row.length c5])) (hat : ∀ k, u'.ownBlock = some k → u1.ownBlock = some k ∨ (w1.alloc (.cells #[.slice (some ad) row.length c5] 46)).heap.size ≤ k) :
    Mt w (w3.setCell ⟨w.heap.size + 1 + 1, 1, none⟩ u') x0 x1 x2 x3 u0 u' ra (rg ++ [(.slice (some ad) row.length c5, row)]) := by
  have hs := m.mb.sz
  have hb2 := bel_trans hb (bel_alloc w1 (.cells #[.slice (some ad) row.length c5] 46))
  have h1 := m.own.add (e' := entI (.slice (some ad) row.length c5, row)) hb (by
    show w1.ownsRow _ _ _ _ _ _
    refine ⟨ho.1, ?_⟩
    rcases ho.2 with h0 | ⟨g, cp, cur, r1, r2, r3⟩
    · exact .inl h0
    · exact .inr ⟨g, cp, cur, r1, Nat.le_trans hs r2, r3⟩) (fun k hk => (World.ownsRow.lt ho k hk).1)
  have h2 := h1.still (bel_alloc w1 (.cells #[.slice (some ad) row.length c5] 46))
  have hold : (w1.alloc (.cells #[.slice (some ad) row.length c5] 46)).ownsRow (w.heap.size + 3) 46 1 u1 rg.length (rg.map (·.1)) := h2.ok (hdG u1 rg) (by simp [TEnt])
  have h3 : Own (w1.alloc (.cells #[.slice (some ad) row.length c5] 46)) (w.heap.size + 3) (hdG u1 rg :: (entI (.slice (some ad) row.length c5, row) :: (ra.map entA ++ (rg.map entI ++ [hdA u0 ra])))) := h2.perm (by classical exact List.perm_iff_count.2 (fun a => by simp only [TEnt, List.map_append, List.map_cons, List.map_nil, List.count_append, List.count_cons, List.count_nil]; first | omega | ac_rfl))
  have h4 := h3.grow (e' := hdG u' (rg ++ [(.slice (some ad) row.length c5, row)])) hg (by show w3.ownsRow _ _ _ _ _ _; simpa using hh) hat
  have h5 : Own w3 (w.heap.size + 3) (TEnt u0 u' ra (rg ++ [(.slice (some ad) row.length c5, row)]) []) := h4.perm (by classical exact List.perm_iff_count.2 (fun a => by simp only [TEnt, List.map_append, List.map_cons, List.map_nil, List.count_append, List.count_cons, List.count_nil]; first | omega | ac_rfl))
  have m3 := (m.mb.still hb2).grown hg (fun k hk => (World.ownsRow.lt hold k hk).1)
  refine ⟨m3.set (m3.t.set1 u'), h5.set (by show w.heap.size + 1 + 1 < w.heap.size + 3; omega), ?_, ?_⟩
  · exact m.na
  · intro p hp
    rcases List.mem_append.1 hp with hp | hp
    · exact m.ng p hp
    · have := List.mem_singleton.1 hp
      subst this
      exact ⟨_, _, rfl⟩
end Go.Proofs.Ytflhfimgeladaaa
