import Derived.Test.YtflhfimgeladaaaWc
import Derived.Test.YtflhfimgeladaaaWb
import Derived.Test.YtflhfimgeladaaaWp
import Derived.Test.YtflhfimgeladaaaWf
/-! The program: Widen: what it makes. -/
namespace Go.Proofs.Ytflhfimgeladaaa
open Go.RowKit Go.Deep
set_option linter.unusedVariables false
set_option maxRecDepth 100000
set_option linter.unusedSimpArgs false

/-- A packed table of which all rows are made. -/
structure PLN (w : World) (S : Nat → Prop) (R : PkD) (v0 v1 v2 v3 : Value) : Prop where
  acts : ARowsN w S R.1 v0
  gotos : IRowsN w S R.2.1 v1
  arow : Ints w S R.2.2.1 v2
  grow : Ints w S R.2.2.2 v3
theorem PLN.still {w w' : World} {S : Nat → Prop} {R : PkD} {v0 v1 v2 v3 : Value} (h : PLN w S R v0 v1 v2 v3) (hb : Below w.heap.size w w') : PLN w' S R v0 v1 v2 v3 := ⟨h.acts.still hb, h.gotos.still hb, h.arow.still hb, h.grow.still hb⟩
theorem PLN.pl {w : World} {S : Nat → Prop} {R : PkD} {v0 v1 v2 v3 : Value} (h : PLN w S R v0 v1 v2 v3) : PL w S R v0 v1 v2 v3 := ⟨h.acts.rows, h.gotos.rows, h.arow, h.grow⟩
def TAns (R : PkD) (w : World) (e : Ending) (w' : World) : Prop :=
  ∃ (u0 u1 : Value) (ra : List (Value × List (Int × Int))) (rg : List (Value × List Int)), e = .returned (.tuple #[.agg #[u0, u1], .int .i64 (wdR R).2]) ∧ Below w.heap.size w w' ∧ Own w' w.heap.size (TEnt u0 u1 ra rg []) ∧ ra.map (·.2) = (wdR R).1.acts ∧ rg.map (·.2) = (wdR R).1.gotos
theorem tent_nil (w : World) (B : Nat) : Own w B (TEnt (.slice none 0 0) (.slice none 0 0) [] [] []) := by
  refine ⟨fun e he => ?_, ?_⟩
  · simp only [TEnt, List.map_nil, List.append_nil, List.nil_append, List.mem_append, List.mem_singleton] at he
    rcases he with rfl | rfl <;> exact World.ownsRow_nil _ _ _ _
  · have hn : ∀ (e e' : Ent), e.v = .slice none 0 0 → Apt e e' := fun e e' h k hk => by rw [h] at hk; simp [Value.ownBlock] at hk
    exact List.pairwise_cons.2 ⟨fun x _ => hn _ x rfl, List.pairwise_cons.2 ⟨fun x hx => absurd hx (by simp), List.Pairwise.nil⟩⟩
theorem agn_small {α : Type} {ls : List (List α)} {N : List Int} (h : N.all (wnB 0 ((ls.length : Int) - 1)) = true) (hs : ∀ i (hi : i < ls.length), ls[i].length ≤ 1048576) : ∀ i (hi : i < (agn ls N).length), (agn ls N)[i].length ≤ 1048576 := fun i hi => by
  obtain ⟨k, _, hk, hg⟩ := agn_get ls N i (by simpa [agn] using hi) h
  obtain ⟨_, e⟩ := List.getElem?_eq_some_iff.1 hg
  rw [e]
  exact hs k hk
theorem wdT_small {R : PkD} (hs : PSm R) (l1 : R.2.2.1.length ≤ 250) (a1 : R.2.2.1.all (wnB 0 ((R.1.length : Int) - 1)) = true) (l2 : R.2.2.2.length ≤ 250) (a2 : R.2.2.2.all (wnB 0 ((R.2.1.length : Int) - 1)) = true) : (wdT R).Small :=
  ⟨by simp only [wdT, agn, List.length_map]; omega, agn_small a1 hs.act, by simp only [wdT, agn, List.length_map]; omega, agn_small a2 hs.goto⟩
/-- The boxes of Widen. -/
structure WBx (w wr : World) (v0 v1 v2 v3 : Value) : Prop where
  bel : Below w.heap.size w wr
  sz : w.heap.size + 1 < wr.heap.size
  p : Box4 wr w.heap.size 48 v0 v1 v2 v3
  r : Box2 wr (w.heap.size + 1) 41 (.slice none 0 0) (.slice none 0 0)
theorem WBx.still {w wr w' : World} {v0 v1 v2 v3 : Value} (h : WBx w wr v0 v1 v2 v3) (hb : Below wr.heap.size wr w') : WBx w w' v0 v1 v2 v3 := ⟨bel_trans h.bel hb, Nat.lt_of_lt_of_le h.sz hb.size, h.p.still hb, h.r.still hb⟩
theorem Own.setBx {w : World} {B g o : Nat} {u : Value} {es : List Ent} (h : Own w B es) (hn : ∀ e ∈ es, e.v.ownBlock ≠ some g) : Own (w.setCell ⟨g, o, none⟩ u) B es :=
  ⟨fun x hx => (h.ok x hx).kept (grown_set w g o u) (by
    cases e2 : x.v.ownBlock with
    | none => exact .inl rfl
    | some k => exact .inr (fun e3 => hn x hx (by rw [e2, e3]))), h.ne⟩
theorem againA_sl {S S' : Nat → Prop} (ls : List (List (Int × Int))) (N : List Int) (v nv : Value) (w : World) (h : ARowsN w S ls v) (hN : Ints w S' N nv) (hlen : N.length ≤ 250) (hin : N.all (wnB 0 ((ls.length : Int) - 1)) = true) (hrl : ∀ i (hi : i < ls.length), ls[i].length ≤ 1048576) :
    Calls Try.prog 68 #[v, nv] w fun e w' => ∃ (yp : Option Addr) (yq : Nat) (rv : List (Value × List (Int × Int))), e = .returned (.slice yp rv.length yq) ∧ Below w.heap.size w w' ∧ Own w' w.heap.size (hdA (.slice yp rv.length yq) rv :: rv.map entA) ∧ (∀ p ∈ rv, ∃ ad c, p.1 = .slice (some ad) p.2.length c) ∧ rv.map (·.2) = agn ls N :=
  Calls.mono (againA_any ls N v nv w h hN hlen hin hrl) (fun e w' ⟨u, rv, e1, hb, ho, hs, he⟩ => by
    obtain ⟨p, q, _, rfl, _⟩ := own_cell (show w'.ownsRow _ 69 1 u rv.length (rv.map (·.1)) from ho.ok _ (List.mem_cons_self ..))
    exact ⟨p, q, rv, e1, hb, ho, hs, he⟩)
theorem againI_sl {S S' : Nat → Prop} (ls : List (List Int)) (N : List Int) (v nv : Value) (w : World) (h : IRowsN w S ls v) (hN : Ints w S' N nv) (hlen : N.length ≤ 250) (hin : N.all (wnB 0 ((ls.length : Int) - 1)) = true) (hrl : ∀ i (hi : i < ls.length), ls[i].length ≤ 1048576) :
    Calls Try.prog 69 #[v, nv] w fun e w' => ∃ (yp : Option Addr) (yq : Nat) (rv : List (Value × List Int)), e = .returned (.slice yp rv.length yq) ∧ Below w.heap.size w w' ∧ Own w' w.heap.size (hdG (.slice yp rv.length yq) rv :: rv.map entI) ∧ (∀ p ∈ rv, ∃ ad c, p.1 = .slice (some ad) p.2.length c) ∧ rv.map (·.2) = agn ls N :=
  Calls.mono (againI_any ls N v nv w h hN hlen hin hrl) (fun e w' ⟨u, rv, e1, hb, ho, hs, he⟩ => by
    obtain ⟨p, q, _, rfl, _⟩ := own_cell (show w'.ownsRow _ 46 1 u rv.length (rv.map (·.1)) from ho.ok _ (List.mem_cons_self ..))
    exact ⟨p, q, rv, e1, hb, ho, hs, he⟩)
/-- What stands once the table is made. -/
structure CT (R : PkD) (w2 wx : World) (g : Nat) (y0 y1 : Value) (ya : List (Value × List (Int × Int))) (yg : List (Value × List Int)) : Prop where
  bel : Below w2.heap.size w2 wx
  box : Box2 wx g 41 y0 y1
  own : Own wx w2.heap.size (TEnt y0 y1 ya yg [])
  da : ya.map (·.2) = (wdT R).acts
  dg : yg.map (·.2) = (wdT R).gotos
  na : ∀ p ∈ ya, ∃ ad c, p.1 = .slice (some ad) p.2.length c
  ng : ∀ p ∈ yg, ∃ ad c, p.1 = .slice (some ad) p.2.length c
theorem ct_own {w3 w4 : World} {b B3 B4 : Nat} {y0 y1 : Value} {ya : List (Value × List (Int × Int))} {yg : List (Value × List Int)} (oy : Own w3 B3 (hdA y0 ya :: ya.map entA)) (hb : Below w3.heap.size w3 w4) (og : Own w4 B4 (hdG y1 yg :: yg.map entI)) (h1 : b ≤ B3) (h3 : B3 ≤ w3.heap.size) (h2 : w3.heap.size ≤ B4) : Own w4 b (TEnt y0 y1 ya yg []) ∧ ∀ g, (∀ k, B3 ≤ k → k < w3.heap.size → k ≠ g) → (∀ k, B4 ≤ k → k ≠ g) → ∀ e ∈ TEnt y0 y1 ya yg [], e.v.ownBlock ≠ some g := by
  have hj := (Own.join oy hb og h2 (Nat.le_trans h3 h2)).base h1
  have e : TEnt y0 y1 ya yg [] = (hdA y0 ya :: ya.map entA) ++ (hdG y1 yg :: yg.map entI) := by simp [TEnt]
  rw [e]
  refine ⟨hj, fun g g1 g2 x hx hk => ?_⟩
  rcases List.mem_append.1 hx with hx | hx
  · have := World.ownsRow.lt (oy.ok x hx) g hk
    exact g1 g this.1 this.2 rfl
  · have := World.ownsRow.lt (og.ok x hx) g hk
    exact g2 g this.1 rfl
theorem CT.late {R : PkD} {w2 w4 : World} {y0 y1 : Value} {ya : List (Value × List (Int × Int))} {yg : List (Value × List Int)} (hb : Below w2.heap.size w2 w4) (ho : Own w4 w2.heap.size (TEnt y0 y1 ya yg [])) (da : ya.map (·.2) = agn R.1 R.2.2.1) (dg : yg.map (·.2) = agn R.2.1 R.2.2.2) (na : ∀ p ∈ ya, ∃ ad c, p.1 = .slice (some ad) p.2.length c) (ng : ∀ p ∈ yg, ∃ ad c, p.1 = .slice (some ad) p.2.length c) : CT R w2 (w4.alloc (.cells #[y0, y1] 41)) w4.heap.size y0 y1 ya yg :=
  ⟨bel_trans hb (bel_alloc _ _), box2_alloc _ _ _ _, ho.still (bel_alloc _ _), da, dg, na, ng⟩
theorem CT.early {R : PkD} {w2 w4 : World} {g : Nat} {y0 y1 : Value} {ya : List (Value × List (Int × Int))} {yg : List (Value × List Int)} (hb : Below w2.heap.size w2 w4) (hg : w2.heap.size ≤ g) (bx : Box2 w4 g 41 (.slice none 0 0) (.slice none 0 0)) (ho : Own w4 w2.heap.size (TEnt y0 y1 ya yg [])) (hn : ∀ e ∈ TEnt y0 y1 ya yg [], e.v.ownBlock ≠ some g) (da : ya.map (·.2) = agn R.1 R.2.2.1) (dg : yg.map (·.2) = agn R.2.1 R.2.2.2) (na : ∀ p ∈ ya, ∃ ad c, p.1 = .slice (some ad) p.2.length c) (ng : ∀ p ∈ yg, ∃ ad c, p.1 = .slice (some ad) p.2.length c) : CT R w2 ((w4.setCell ⟨g, 0, none⟩ y0).setCell ⟨g, 1, none⟩ y1) g y0 y1 ya yg :=
  ⟨(hb.setCell hg _).setCell hg _, (bx.set0 y0).set1 y1, (ho.setBx hn).setBx hn, da, dg, na, ng⟩
end Go.Proofs.Ytflhfimgeladaaa
