import Derived.Test.YtflhfimgeladaaaQu
import Derived.Test.YtflhfimgeladaaaQp
/-! What l05Pack keeps in memory. -/
namespace Go.Proofs.Ytflhfimgeladaaa
open Go.RowKit Go.Deep
set_option linter.unusedVariables false
set_option maxRecDepth 100000
set_option linter.unusedSimpArgs false

/-- append of a copy onto an empty slice, at a step of a region that draws. -/
theorem step_append_copy {P : Program} (w : World) {ops : Array Oper} {o : Oper} {a : Act} {K : Act → World → Prop} {Q : Exit → Act → World → Prop} {E : Prop} (hgd : o.guard = none) (s x : Operand) (t : TypeId)
    (ho : o.op = .call { callee := .builtin .append, args := #[s, x], argTypes := #[t, t] })
    (base : Nat) (e : TypeId) (i : TypeInfo) (z : Value) (size bytes : Nat) (ht : P.underlying t = some (.slice e)) (hi : P.info? e = some i) (hz : i.zero = some z)
    (hsize : i.size = size) (hby : i.bytes = bytes) (hzs : z.cells.size = size) (hsz : 0 < size)
    (v : Value) (hs : a.eval s = v) (hown : w.ownsRow base e size v 0 [])
    (ad : Addr) (m c : Nat) (news : List Value) (hx : a.eval x = .slice (some ad) m c) (hl : news.length = m * size) (hnews : ∀ j u, news[j]? = some u → w.cell? (ad.add j) = some u) (h1 : ∀ u ∈ news, u.oneCell' = true)
    (h63 : m ≤ maxLen) (hbytes : m * bytes ≤ 140737488355328) (hbase : base ≤ w.heap.size)
    (h : ∀ a' cap' w', w'.ownsRow base e size (.slice a' m cap') m news → w.grownBy w' v.ownBlock → K (a.put o.dst (.slice a' m cap')) w') :
    if Region.wanted o (yielded ops a.tmps) = true then Oper.wp P o a w K Q else E := by
  refine step_append_at w hgd s x t ho base e i z size bytes ht hi hz hsize hby hzs hsz v 0 [] hs hown ad m c news hx hl hnews h1 (by omega) (by rw [Nat.zero_add]; exact hbytes) hbase ?_
  intro a' cap' w' h2 h3
  rw [Nat.zero_add, List.nil_append] at h2
  rw [Nat.zero_add]
  exact h a' cap' w' h2 h3
/-- The boxes of l05Pack. -/
structure Mb (w wr : World) (x0 x1 u0 u1 u2 u3 : Value) : Prop where
  bel : Below w.heap.size w wr
  sz : w.heap.size + 3 ≤ wr.heap.size
  tb : Two wr w.heap.size x0 x1
  rb : Box4 wr (w.heap.size + 1) 48 (.slice none 0 0) (.slice none 0 0) (.slice none 0 0) (.slice none 0 0)
  pb : Box4 wr (w.heap.size + 1 + 1) 48 u0 u1 u2 u3
theorem Mb.still {w wr w' : World} {x0 x1 u0 u1 u2 u3 : Value} (h : Mb w wr x0 x1 u0 u1 u2 u3) (hb : Below wr.heap.size wr w') : Mb w w' x0 x1 u0 u1 u2 u3 :=
  ⟨bel_trans h.bel hb, Nat.le_trans h.sz hb.size, ⟨(hb.cell (lt_of_cell h.tb.1)).trans h.tb.1, (hb.cell (lt_of_cell h.tb.2)).trans h.tb.2⟩, h.rb.still hb, h.pb.still hb⟩
theorem Mb.grown {w wr w' : World} {x0 x1 u0 u1 u2 u3 : Value} {o : Option Nat} (h : Mb w wr x0 x1 u0 u1 u2 u3) (hg : wr.grownBy w' o) (ho : ∀ k, o = some k → w.heap.size + 3 ≤ k) : Mb w w' x0 x1 u0 u1 u2 u3 := by
  have hk : ∀ b, b < w.heap.size + 3 → w'.heap[b]? = wr.heap[b]? := fun b hb => hg.block b (by have := h.sz; omega) (fun e => by have := ho b e.symm; omega)
  exact ⟨grown_bel h.bel hg (fun k hk => by have := ho k hk; omega) h.bel.size, Nat.le_trans h.sz hg.size, ⟨(World.cell?_of_block (w := wr) (hk _ (by show w.heap.size < _; omega))).trans h.tb.1, (World.cell?_of_block (w := wr) (hk _ (by show w.heap.size < _; omega))).trans h.tb.2⟩, h.rb.keep (hk _ (by omega)), h.pb.keep (hk _ (by omega))⟩
theorem Mb.set {w wr : World} {x0 x1 u0 u1 u2 u3 v0 v1 v2 v3 u : Value} {o : Nat} (h : Mb w wr x0 x1 u0 u1 u2 u3) (hp : Box4 (wr.setCell ⟨w.heap.size + 1 + 1, o, none⟩ u) (w.heap.size + 1 + 1) 48 v0 v1 v2 v3) : Mb w (wr.setCell ⟨w.heap.size + 1 + 1, o, none⟩ u) x0 x1 v0 v1 v2 v3 := by
  have hk : ∀ b, b ≠ w.heap.size + 1 + 1 → (wr.setCell ⟨w.heap.size + 1 + 1, o, none⟩ u).heap[b]? = wr.heap[b]? := fun b hb => blk_setCell_other _ _ _ _ hb
  exact ⟨h.bel.setCell (p := ⟨w.heap.size + 1 + 1, o, none⟩) (by show w.heap.size ≤ w.heap.size + 1 + 1; omega) _, by simpa [World.setCell] using h.sz, ⟨(World.cell?_of_block (w := wr) (hk _ (by show w.heap.size ≠ _; omega))).trans h.tb.1, (World.cell?_of_block (w := wr) (hk _ (by show w.heap.size ≠ _; omega))).trans h.tb.2⟩, h.rb.keep (hk _ (by omega)), hp⟩
/-- All of it. -/
structure Mem (w wr : World) (x0 x1 u0 u1 u2 u3 : Value) (ra : List (Value × List (Int × Int))) (rg : List (Value × List Int)) (na ng : List Int) : Prop where
  mb : Mb w wr x0 x1 u0 u1 u2 u3
  own : Own wr (w.heap.size + 3) (PEnt u0 u1 u2 u3 ra rg na ng [])
theorem Mem.still {w wr w' : World} {x0 x1 u0 u1 u2 u3 : Value} {ra : List (Value × List (Int × Int))} {rg : List (Value × List Int)} {na ng : List Int} (h : Mem w wr x0 x1 u0 u1 u2 u3 ra rg na ng) (hb : Below wr.heap.size wr w') : Mem w w' x0 x1 u0 u1 u2 u3 ra rg na ng := ⟨h.mb.still hb, h.own.still hb⟩
theorem Mem.rowA {w wr w1 w3 : World} {x0 x1 u0 u1 u2 u3 v5 u' : Value} {ra : List (Value × List (Int × Int))} {rg : List (Value × List Int)} {na ng : List Int} {row : List (Int × Int)} (m : Mem w wr x0 x1 u0 u1 u2 u3 ra rg na ng) (hb : Below wr.heap.size wr w1) (ho : w1.ownsRow wr.heap.size 71 2 v5 row.length (encA row)) (hg : (w1.alloc (.cells #[v5] 69)).grownBy w3 u0.ownBlock) (hh : w3.ownsRow (w.heap.size + 3) 69 1 u' (ra.length + 1) (ra.map (·.1) ++ [v5])) (hat : ∀ k, u'.ownBlock = some k → u0.ownBlock = some k ∨ (w1.alloc (.cells #[v5] 69)).heap.size ≤ k) :
    Mem w (w3.setCell ⟨w.heap.size + 1 + 1, 0, none⟩ u') x0 x1 u' u1 u2 u3 (ra ++ [(v5, row)]) rg na ng := by
  have hs := m.mb.sz
  have hb2 := bel_trans hb (bel_alloc w1 (.cells #[v5] 69))
  have h1 := m.own.add (e' := entA (v5, row)) hb (by
    show w1.ownsRow _ _ _ _ _ _
    refine ⟨ho.1, ?_⟩
    rcases ho.2 with h0 | ⟨g, cp, cur, r1, r2, r3⟩
    · exact .inl h0
    · exact .inr ⟨g, cp, cur, r1, Nat.le_trans hs r2, r3⟩) (fun k hk => (World.ownsRow.lt ho k hk).1)
  have h2 := h1.still (bel_alloc w1 (.cells #[v5] 69))
  have hold : (w1.alloc (.cells #[v5] 69)).ownsRow (w.heap.size + 3) 69 1 u0 ra.length (ra.map (·.1)) := h2.ok (hdA u0 ra) (by simp [PEnt])
  have h3 : Own (w1.alloc (.cells #[v5] 69)) (w.heap.size + 3) (hdA u0 ra :: (entA (v5, row) :: (ra.map entA ++ (rg.map entI ++ ([hdG u1 rg] ++ ([nmI u2 na] ++ [nmI u3 ng])))))) := h2.perm (by classical exact List.perm_iff_count.2 (fun a => by simp only [PEnt, List.map_append, List.map_cons, List.map_nil, List.count_append, List.count_cons, List.count_nil]; first | omega | ac_rfl))
  have h4 := h3.grow (e' := hdA u' (ra ++ [(v5, row)])) hg (by show w3.ownsRow _ _ _ _ _ _; simpa using hh) hat
  have h5 : Own w3 (w.heap.size + 3) (PEnt u' u1 u2 u3 (ra ++ [(v5, row)]) rg na ng []) := h4.perm (by classical exact List.perm_iff_count.2 (fun a => by simp only [PEnt, List.map_append, List.map_cons, List.map_nil, List.count_append, List.count_cons, List.count_nil]; first | omega | ac_rfl))
  have m3 := (m.mb.still hb2).grown hg (fun k hk => (World.ownsRow.lt hold k hk).1)
  exact ⟨m3.set (m3.pb.set0 u'), h5.set (by omega)⟩
theorem Mem.rowI {w wr w1 w3 : World} {x0 x1 u0 u1 u2 u3 v5 u' : Value} {ra : List (Value × List (Int × Int))} {rg : List (Value × List Int)} {na ng : List Int} {row : List Int} (m : Mem w wr x0 x1 u0 u1 u2 u3 ra rg na ng) (hb : Below wr.heap.size wr w1) (ho : w1.ownsRow wr.heap.size 3 1 v5 row.length (encI row)) (hg : (w1.alloc (.cells #[v5] 46)).grownBy w3 u1.ownBlock) (hh : w3.ownsRow (w.heap.size + 3) 46 1 u' (rg.length + 1) (rg.map (·.1) ++ [v5])) (hat : ∀ k, u'.ownBlock = some k → u1.ownBlock = some k ∨ (w1.alloc (.cells #[v5] 46)).heap.size ≤ k) :
    Mem w (w3.setCell ⟨w.heap.size + 1 + 1, 1, none⟩ u') x0 x1 u0 u' u2 u3 ra (rg ++ [(v5, row)]) na ng := by
  have hs := m.mb.sz
  have hb2 := bel_trans hb (bel_alloc w1 (.cells #[v5] 46))
  have h1 := m.own.add (e' := entI (v5, row)) hb (by
    show w1.ownsRow _ _ _ _ _ _
    refine ⟨ho.1, ?_⟩
    rcases ho.2 with h0 | ⟨g, cp, cur, r1, r2, r3⟩
    · exact .inl h0
    · exact .inr ⟨g, cp, cur, r1, Nat.le_trans hs r2, r3⟩) (fun k hk => (World.ownsRow.lt ho k hk).1)
  have h2 := h1.still (bel_alloc w1 (.cells #[v5] 46))
  have hold : (w1.alloc (.cells #[v5] 46)).ownsRow (w.heap.size + 3) 46 1 u1 rg.length (rg.map (·.1)) := h2.ok (hdG u1 rg) (by simp [PEnt])
  have h3 : Own (w1.alloc (.cells #[v5] 46)) (w.heap.size + 3) (hdG u1 rg :: (entI (v5, row) :: (ra.map entA ++ (rg.map entI ++ ([hdA u0 ra] ++ ([nmI u2 na] ++ [nmI u3 ng])))))) := h2.perm (by classical exact List.perm_iff_count.2 (fun a => by simp only [PEnt, List.map_append, List.map_cons, List.map_nil, List.count_append, List.count_cons, List.count_nil]; first | omega | ac_rfl))
  have h4 := h3.grow (e' := hdG u' (rg ++ [(v5, row)])) hg (by show w3.ownsRow _ _ _ _ _ _; simpa using hh) hat
  have h5 : Own w3 (w.heap.size + 3) (PEnt u0 u' u2 u3 ra (rg ++ [(v5, row)]) na ng []) := h4.perm (by classical exact List.perm_iff_count.2 (fun a => by simp only [PEnt, List.map_append, List.map_cons, List.map_nil, List.count_append, List.count_cons, List.count_nil]; first | omega | ac_rfl))
  have m3 := (m.mb.still hb2).grown hg (fun k hk => (World.ownsRow.lt hold k hk).1)
  exact ⟨m3.set (m3.pb.set1 u'), h5.set (by omega)⟩
theorem Mem.numA {w wr w3 : World} {x0 x1 u0 u1 u2 u3 u' : Value} {ra : List (Value × List (Int × Int))} {rg : List (Value × List Int)} {na ng : List Int} {x : Int} (m : Mem w wr x0 x1 u0 u1 u2 u3 ra rg na ng) (hg : (wr.alloc (.cells #[.int .i64 x] 3)).grownBy w3 u2.ownBlock) (hh : w3.ownsRow (w.heap.size + 3) 3 1 u' (na.length + 1) (encI na ++ [.int .i64 x])) (hat : ∀ k, u'.ownBlock = some k → u2.ownBlock = some k ∨ (wr.alloc (.cells #[.int .i64 x] 3)).heap.size ≤ k) :
    Mem w (w3.setCell ⟨w.heap.size + 1 + 1, 2, none⟩ u') x0 x1 u0 u1 u' u3 ra rg (na ++ [x]) ng := by
  have hb2 := bel_alloc wr (.cells #[.int .i64 x] 3)
  have h2 := m.own.still hb2
  have hold : (wr.alloc (.cells #[.int .i64 x] 3)).ownsRow (w.heap.size + 3) 3 1 u2 na.length (encI na) := h2.ok (nmI u2 na) (by simp [PEnt])
  have h3 : Own (wr.alloc (.cells #[.int .i64 x] 3)) (w.heap.size + 3) (nmI u2 na :: ([hdA u0 ra] ++ (ra.map entA ++ ([hdG u1 rg] ++ (rg.map entI ++ [nmI u3 ng]))))) := h2.perm (by classical exact List.perm_iff_count.2 (fun a => by simp only [PEnt, List.map_append, List.map_cons, List.map_nil, List.count_append, List.count_cons, List.count_nil]; first | omega | ac_rfl))
  have h4 := h3.grow (e' := nmI u' (na ++ [x])) hg (by show w3.ownsRow _ _ _ _ _ _; simpa [encI] using hh) hat
  have h5 : Own w3 (w.heap.size + 3) (PEnt u0 u1 u' u3 ra rg (na ++ [x]) ng []) := h4.perm (by classical exact List.perm_iff_count.2 (fun a => by simp only [PEnt, List.map_append, List.map_cons, List.map_nil, List.count_append, List.count_cons, List.count_nil]; first | omega | ac_rfl))
  have m3 := (m.mb.still hb2).grown hg (fun k hk => (World.ownsRow.lt hold k hk).1)
  exact ⟨m3.set (m3.pb.set2 u'), h5.set (by omega)⟩
theorem Mem.numI {w wr w3 : World} {x0 x1 u0 u1 u2 u3 u' : Value} {ra : List (Value × List (Int × Int))} {rg : List (Value × List Int)} {na ng : List Int} {x : Int} (m : Mem w wr x0 x1 u0 u1 u2 u3 ra rg na ng) (hg : (wr.alloc (.cells #[.int .i64 x] 3)).grownBy w3 u3.ownBlock) (hh : w3.ownsRow (w.heap.size + 3) 3 1 u' (ng.length + 1) (encI ng ++ [.int .i64 x])) (hat : ∀ k, u'.ownBlock = some k → u3.ownBlock = some k ∨ (wr.alloc (.cells #[.int .i64 x] 3)).heap.size ≤ k) :
    Mem w (w3.setCell ⟨w.heap.size + 1 + 1, 3, none⟩ u') x0 x1 u0 u1 u2 u' ra rg na (ng ++ [x]) := by
  have hb2 := bel_alloc wr (.cells #[.int .i64 x] 3)
  have h2 := m.own.still hb2
  have hold : (wr.alloc (.cells #[.int .i64 x] 3)).ownsRow (w.heap.size + 3) 3 1 u3 ng.length (encI ng) := h2.ok (nmI u3 ng) (by simp [PEnt])
  have h3 : Own (wr.alloc (.cells #[.int .i64 x] 3)) (w.heap.size + 3) (nmI u3 ng :: ([hdA u0 ra] ++ (ra.map entA ++ ([hdG u1 rg] ++ (rg.map entI ++ [nmI u2 na]))))) := h2.perm (by classical exact List.perm_iff_count.2 (fun a => by simp only [PEnt, List.map_append, List.map_cons, List.map_nil, List.count_append, List.count_cons, List.count_nil]; first | omega | ac_rfl))
  have h4 := h3.grow (e' := nmI u' (ng ++ [x])) hg (by show w3.ownsRow _ _ _ _ _ _; simpa [encI] using hh) hat
  have h5 : Own w3 (w.heap.size + 3) (PEnt u0 u1 u2 u' ra rg na (ng ++ [x]) []) := h4.perm (by classical exact List.perm_iff_count.2 (fun a => by simp only [PEnt, List.map_append, List.map_cons, List.map_nil, List.count_append, List.count_cons, List.count_nil]; first | omega | ac_rfl))
  have m3 := (m.mb.still hb2).grown hg (fun k hk => (World.ownsRow.lt hold k hk).1)
  exact ⟨m3.set (m3.pb.set3 u'), h5.set (by omega)⟩
end Go.Proofs.Ytflhfimgeladaaa
