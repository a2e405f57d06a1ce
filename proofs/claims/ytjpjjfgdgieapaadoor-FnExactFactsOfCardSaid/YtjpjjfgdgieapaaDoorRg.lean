import Derived.Test.YtjpjjfgdgieapaaDoorRd
import Derived.Test.YtjpjjfgdgieapaaDoorRe
import Derived.Test.YtjpjjfgdgieapaaDoorQb
import Derived.Test.YtjpjjfgdgieapaaDoorSqa
import Derived.Test.YtjpjjfgdgieapaaDoorSql
import Derived.Test.YtjpjjfgdgieapaaDoorHi
import Derived.Test.YtjpjjfgdgieapaaDoorSbo
import Derived.Test.YtjpjjfgdgieapaaDoorSbq
/-! A struct whose rows grow, where what was made after it stays. -/
namespace Go.Proofs.YtjpjjfgdgieapaaDoor
open Go.RowKit Go.Deep
set_option linter.unusedVariables false
set_option maxRecDepth 100000
set_option linter.unusedSimpArgs false

structure FSv (w1 wA : World) (B0 B1 g : Nat) (us : List Value) (cs : List (TypeId × List Value)) (W : World) : Prop where
  fs : FSu w1 B0 g us cs [] W
  sz : B1 ≤ W.heap.size
  low : ∀ q, q < B1 → q ≠ g → W.heap[q]? = wA.heap[q]?
  gB : g < B1
  hi : ∀ j, j = 1 ∨ j = 2 ∨ j = 3 → ∀ k, (us.getD j .nilFunc).ownBlock = some k → B1 ≤ k
theorem FSv.still {w1 wA W W' : World} {B0 B1 g : Nat} {us : List Value} {cs : List (TypeId × List Value)} (h : FSv w1 wA B0 B1 g us cs W) (hb : Below W.heap.size W W') : FSv w1 wA B0 B1 g us cs W' :=
  ⟨h.fs.still hb, Nat.le_trans h.sz hb.size, fun q hq hg => (hb.block q (Nat.lt_of_lt_of_le hq h.sz)).trans (h.low q hq hg), h.gB, h.hi⟩
theorem FSv.push4 {w1 wA W : World} {B0 B1 g : Nat} {us : List Value} {cs : List (TypeId × List Value)} (h : FSv w1 wA B0 B1 g us cs W) (j : Nat) (h123 : j = 1 ∨ j = 2 ∨ j = 3) (hj : j < cs.length) (xs : List Value) (hc : cs[j] = (4, xs)) (N : Nat) (x : Bool) (hN : W.heap.size = N) (hn : xs.length ≤ 100000) (u : Value) (hu : us[j]? = some u) :
    ∃ a' c' n' w', (Builtin.append_ #[28, 28] 28 #[u, .slice (some ⟨N, 0, none⟩) 1 1]).run Tryd.prog (W.alloc (.cells #[.bool x] 4)) = .ok (.slice a' n' c') w' ∧ (∃ y, w'.cell? ⟨g, j, none⟩ = some y) ∧ w'.frozen? ⟨g, j, none⟩ = false ∧ FSv w1 wA B0 B1 g (us.set j (.slice a' n' c')) (cs.set j (4, xs ++ [.bool x])) (w'.setCell ⟨g, j, none⟩ (.slice a' n' c')) ∧ (∀ q, q < B1 → w'.heap[q]? = W.heap[q]?) := by
  obtain ⟨a', c', n', w', h1, h2, h3, h4, h5⟩ := h.fs.push4 j hj xs hc N x hN hn u hu
  have hju : j < us.length := by rw [h.fs.len]; exact hj
  have hjc : j < (colE cs us).length := by rw [colE_len cs us h.fs.len]; exact hj
  have hue : us[j] = u := by rw [List.getElem?_eq_getElem hju] at hu; injection hu
  have e2 := colE_get cs us h.fs.len j hj
  rw [hc, hue] at e2
  have hok : (colE cs us)[j].ok W B0 := h.fs.own.ok _ (List.mem_cons_of_mem _ (List.mem_append_left _ (List.getElem_mem hjc)))
  rw [e2] at hok
  have hba := bel_alloc W (.cells #[.bool x] 4)
  have ho : World.ownsRow (W.alloc (.cells #[.bool x] 4)) B0 4 1 u xs.length xs := al_still hok hba
  obtain ⟨i, hi, hzz⟩ := Option.map_eq_some_iff.1 info4i
  simp only [Prod.mk.injEq] at hzz
  obtain ⟨hz0, hz1, hz2⟩ := hzz
  subst hN
  obtain ⟨g2, cap, w'', hr, k2, k3, k4, k5⟩ := run_append_lies (P := Tryd.prog) (W.alloc (.cells #[.bool x] 4)) 28 28 B0 4 i _ 1 1 Tryd.underlying28 hi hz0 hz1 hz2 rfl (by decide) u xs.length xs ho ⟨W.heap.size, 0, none⟩ 1 1 [.bool x] rfl (al_box _ _ _) (by intro u hu; simp at hu; subst hu; rfl) (by decide) (by unfold maxLen; omega) (by omega) (by have := h.fs.bz; simp; omega) _ rfl
  rw [h1] at hr
  injection hr with hr1 hr2
  subst hr2
  have hlow : ∀ q, q < B1 → w'.heap[q]? = W.heap[q]? := by
    have hb1 : Below B1 W w' := (hba.mono h.sz).grown k3 (by have := h.sz; simp; omega) (fun q hq => h.hi j h123 q (by
      rw [getD_lt _ _ hju, hue]; exact hq))
    exact fun q hq => hb1.block q hq
  refine ⟨a', c', n', w', h1, h2, h3, ⟨h4, ?_, fun q hq hg => ?_, h.gB, fun j' hj' k hk => ?_⟩, hlow⟩
  · have := k3.size
    have := h.sz
    simp at *
    omega
  · exact (blk_setCell_other _ _ _ _ (by exact hg)).trans ((hlow q hq).trans (h.low q hq hg))
  · by_cases e : j' = j
    · subst e
      rw [getD_lt _ _ (by rw [List.length_set]; exact hju), List.getElem_set_self, hr1] at hk
      have e3 : g2 = k := by simpa [Value.ownBlock] using hk
      subst e3
      rcases k4 with k4 | k4
      · exact h.hi j' h123 _ (by rw [getD_lt _ _ hju, hue]; exact k4)
      · rw [k4]
        have := h.sz
        simp
        omega
    · have e' : j ≠ j' := fun h => e h.symm
      refine h.hi j' hj' k ?_
      simpa [List.getD_eq_getElem?_getD, List.getElem?_set_ne e'] using hk
end Go.Proofs.YtjpjjfgdgieapaaDoor

/-! The specification: what stays where a struct's fields are put anew. -/
namespace Go.Proofs.YtjpjjfgdgieapaaDoor
open Go.RowKit Go.Deep
set_option linter.unusedVariables false
set_option maxRecDepth 100000
set_option linter.unusedSimpArgs false

theorem tyNe {w : World} {g g' T T' n n' : Nat} {f f' : Nat → Value} (h : w.rowIs g T n f) (k : w.rowIs g' T' n' f') (hT : T ≠ T') : g ≠ g' := by
  rintro rfl
  obtain ⟨c, h1, _⟩ := h
  obtain ⟨c', k1, _⟩ := k
  rw [h1] at k1
  injection k1 with k1
  injection k1 with k2 k3
  exact hT k3
theorem bx_row {w : World} {B g : Nat} {us : List Value} {es : List Ent} (h : Own w B (bx 32 7 g us :: es)) : ∃ f, w.rowIs g 32 7 f := by
  obtain ⟨g1, cap, f, e1, hB, hnc, hcm, hr⟩ := own_row (show w.ownsRow B 32 7 (.slice (some ⟨g, 0, none⟩) 1 1) 1 us from h.ok _ (List.mem_cons_self ..)) (by omega)
  injection e1 with e3 e4 e5
  injection e3 with e3
  injection e3 with e3
  subst e3 e5
  exact ⟨f, hr⟩
/-- A box of seven rows. -/
def SB (w : World) (g : Nat) : Prop := ∃ f, w.rowIs g 32 7 f ∧ ∀ i, i < 7 → ∃ a n c, f i = .slice a n c
theorem Own.sb {w : World} {B g : Nat} {us : List Value} {es : List Ent} (h : Own w B (bx 32 7 g us :: es)) (hf : ∀ v ∈ us, ∃ a n c, v = .slice a n c) : SB w g := by
  obtain ⟨f, hr⟩ := bx_row h
  refine ⟨f, hr, fun i hi => ?_⟩
  have hl : us.length = 1 * 7 := (show w.ownsRow B 32 7 (.slice (some ⟨g, 0, none⟩) 1 1) 1 us from h.ok _ (List.mem_cons_self ..)).1
  have h1 := bx_cell (h.ok _ (List.mem_cons_self ..)) (List.getElem?_eq_getElem (l := us) (i := i) (by omega))
  rw [World.rowIs.cell hr hi] at h1
  injection h1 with h1
  rw [h1]
  exact hf us[i] (List.getElem_mem (by omega))
theorem noInt {w : World} {g : Nat} (h : SB w g) (off : Nat) (k : Int) : w.cell? ⟨g, off, none⟩ ≠ some (.int .i64 k) := by
  intro hc
  obtain ⟨f, hr, hf⟩ := h
  by_cases ho : off < 7
  · obtain ⟨a, n, c, e⟩ := hf off ho
    rw [World.rowIs.cell hr ho, e] at hc
    injection hc with h1
    cases h1
  · obtain ⟨c, h1, h2, h3⟩ := hr
    rw [cell_of_row w g off c 32 (0, 0) h1, Array.getElem?_eq_none (by omega)] at hc
    cases hc
/-- What lies elsewhere stays. -/
theorem FR.past {w W : World} {b N g : Nat} {F : List (List Int)} (h : FR w b N F) (hO : SB w g) (hl : ∀ q, q < w.heap.size → q ≠ g → W.heap[q]? = w.heap[q]?) : FR W b N F := by
  obtain ⟨vs, h1, h2⟩ := h.ex
  have hO' := hO
  obtain ⟨f, hr, _⟩ := hO'
  have hbg : b ≠ g := (tyNe hr h1 (by decide)).symm
  refine ⟨h.len, vs, World.rowIs.of_block h1 (hl b (World.rowIs.lt h1) hbg), fun i hi => ?_⟩
  obtain ⟨a, cap, c, off, hv, hc, hm, ha, hcell⟩ := h2 i hi
  refine ⟨a, cap, c, off, hv, hc, hm, ha, fun j hj => ?_⟩
  have hcg : c ≠ g := by
    rintro rfl
    exact noInt hO _ _ (hcell j hj)
  exact (World.cell?_of_block (hl c (lt_of_cell (hcell j hj)) hcg)).trans (hcell j hj)
theorem MxF.past {w W : World} {T n g : Nat} {F : Nat → Nat → Bool} (h : MxF w T n F) (hO : SB w g) (hl : ∀ q, q < w.heap.size → q ≠ g → W.heap[q]? = w.heap[q]?) : MxF W T n F := by
  obtain ⟨f, hr, _⟩ := hO
  exact ⟨World.rowIs.of_block h.head (hl _ (World.rowIs.lt h.head) (tyNe hr h.head (by decide)).symm), fun i hi => World.rowIs.of_block (h.rows i hi) (hl _ (World.rowIs.lt (h.rows i hi)) (tyNe hr (h.rows i hi) (by decide)).symm)⟩
theorem row_past {w W : World} {b T n g : Nat} {f : Nat → Value} (h : w.rowIs b T n f) (hT : 32 ≠ T) (hO : SB w g) (hl : ∀ q, q < w.heap.size → q ≠ g → W.heap[q]? = w.heap[q]?) : W.rowIs b T n f := by
  obtain ⟨f', hr, _⟩ := hO
  exact World.rowIs.of_block h (hl _ (World.rowIs.lt h) (tyNe hr h hT).symm)
theorem Own.put7 {W : World} {B g : Nat} {a0 a1 a2 a3 a4 a5 a6 : Value} {es : List Ent} (b0 b1 b2 b3 b4 b5 b6 : Value) (h : Own W B (bx 32 7 g [a0, a1, a2, a3, a4, a5, a6] :: es)) : Own (((((((W.setCell ⟨g, 0, none⟩ b0).setCell ⟨g, 1, none⟩ b1).setCell ⟨g, 2, none⟩ b2).setCell ⟨g, 3, none⟩ b3).setCell ⟨g, 4, none⟩ b4).setCell ⟨g, 5, none⟩ b5).setCell ⟨g, 6, none⟩ b6) B (bx 32 7 g [b0, b1, b2, b3, b4, b5, b6] :: es) :=
  ((((((h.fld 0 b0 (by simp)).fld 1 b1 (by simp)).fld 2 b2 (by simp)).fld 3 b3 (by simp)).fld 4 b4 (by simp)).fld 5 b5 (by simp)).fld 6 b6 (by simp)
theorem blk7 {W : World} {g q : Nat} (b0 b1 b2 b3 b4 b5 b6 : Value) (hne : q ≠ g) : (((((((W.setCell ⟨g, 0, none⟩ b0).setCell ⟨g, 1, none⟩ b1).setCell ⟨g, 2, none⟩ b2).setCell ⟨g, 3, none⟩ b3).setCell ⟨g, 4, none⟩ b4).setCell ⟨g, 5, none⟩ b5).setCell ⟨g, 6, none⟩ b6).heap[q]? = W.heap[q]? :=
  ((((((blk_setCell_other _ _ _ _ (by exact hne)).trans (blk_setCell_other _ _ _ _ (by exact hne))).trans (blk_setCell_other _ _ _ _ (by exact hne))).trans (blk_setCell_other _ _ _ _ (by exact hne))).trans (blk_setCell_other _ _ _ _ (by exact hne))).trans (blk_setCell_other _ _ _ _ (by exact hne))).trans (blk_setCell_other _ _ _ _ (by exact hne))
theorem size7 {W : World} {g : Nat} (b0 b1 b2 b3 b4 b5 b6 : Value) : (((((((W.setCell ⟨g, 0, none⟩ b0).setCell ⟨g, 1, none⟩ b1).setCell ⟨g, 2, none⟩ b2).setCell ⟨g, 3, none⟩ b3).setCell ⟨g, 4, none⟩ b4).setCell ⟨g, 5, none⟩ b5).setCell ⟨g, 6, none⟩ b6).heap.size = W.heap.size := by simp
theorem bel7 {w W : World} {B g : Nat} (b0 b1 b2 b3 b4 b5 b6 : Value) (h : Below B w W) (hg : B ≤ g) : Below B w (((((((W.setCell ⟨g, 0, none⟩ b0).setCell ⟨g, 1, none⟩ b1).setCell ⟨g, 2, none⟩ b2).setCell ⟨g, 3, none⟩ b3).setCell ⟨g, 4, none⟩ b4).setCell ⟨g, 5, none⟩ b5).setCell ⟨g, 6, none⟩ b6) :=
  ((((((h.setCell hg _).setCell hg _).setCell hg _).setCell hg _).setCell hg _).setCell hg _).setCell hg _
/-- A row of its own, as an Ent. -/
def rowE (t b n : Nat) (cs : List Value) : Ent := ⟨t, 1, .slice (some ⟨b, 0, none⟩) n n, cs.length, cs⟩
theorem rowE_ok {w : World} {B t b n : Nat} {f : Nat → Value} {cs : List Value} (h : w.rowIs b t n f) (hB : B ≤ b) (hn : n ≤ 1000) (hl : cs.length = n) (hf : ∀ i, i < n → cs[i]? = some (f i)) : (rowE t b n cs).ok w B := by
  subst hl
  exact show w.ownsRow B t 1 (.slice (some ⟨b, 0, none⟩) cs.length cs.length) cs.length cs from
  row_own (f := f) (by rw [Nat.mul_one]; exact h) hB (Nat.le_refl _) (by unfold maxLen; omega) (by omega) (fun i hi => hf i (by omega))
theorem rowE_add {w w' : World} {B t b n : Nat} {f : Nat → Value} {cs : List Value} {es : List Ent} (hO : Own w B es) (hb : Below w.heap.size w w') (hB : B ≤ w.heap.size) (hbb : w.heap.size ≤ b) (h : w'.rowIs b t n f) (hn : n ≤ 1000) (hl : cs.length = n) (hf : ∀ i, i < n → cs[i]? = some (f i)) : Own w' B (rowE t b n cs :: es) :=
  hO.add hb (rowE_ok h (Nat.le_trans hB hbb) hn hl hf) (fun k hk => by
    have : b = k := by simpa [rowE, Value.ownBlock] using hk
    omega)
theorem Own.ins1 {w : World} {B : Nat} {e a0 : Ent} {l : List Ent} (h : Own w B (e :: a0 :: l)) : Own w B (a0 :: e :: l) := h.perm (List.perm_middle (l₁ := [a0])).symm
theorem Own.ins2 {w : World} {B : Nat} {e a0 a1 : Ent} {l : List Ent} (h : Own w B (e :: a0 :: a1 :: l)) : Own w B (a0 :: a1 :: e :: l) := h.perm (List.perm_middle (l₁ := [a0, a1])).symm
theorem Own.ins3 {w : World} {B : Nat} {e a0 a1 a2 : Ent} {l : List Ent} (h : Own w B (e :: a0 :: a1 :: a2 :: l)) : Own w B (a0 :: a1 :: a2 :: e :: l) := h.perm (List.perm_middle (l₁ := [a0, a1, a2])).symm
theorem Own.ins4 {w : World} {B : Nat} {e a0 a1 a2 a3 : Ent} {l : List Ent} (h : Own w B (e :: a0 :: a1 :: a2 :: a3 :: l)) : Own w B (a0 :: a1 :: a2 :: a3 :: e :: l) := h.perm (List.perm_middle (l₁ := [a0, a1, a2, a3])).symm
theorem Own.ins5 {w : World} {B : Nat} {e a0 a1 a2 a3 a4 : Ent} {l : List Ent} (h : Own w B (e :: a0 :: a1 :: a2 :: a3 :: a4 :: l)) : Own w B (a0 :: a1 :: a2 :: a3 :: a4 :: e :: l) := h.perm (List.perm_middle (l₁ := [a0, a1, a2, a3, a4])).symm
theorem Own.ins6 {w : World} {B : Nat} {e a0 a1 a2 a3 a4 a5 : Ent} {l : List Ent} (h : Own w B (e :: a0 :: a1 :: a2 :: a3 :: a4 :: a5 :: l)) : Own w B (a0 :: a1 :: a2 :: a3 :: a4 :: a5 :: e :: l) := h.perm (List.perm_middle (l₁ := [a0, a1, a2, a3, a4, a5])).symm
theorem Own.ins7 {w : World} {B : Nat} {e a0 a1 a2 a3 a4 a5 a6 : Ent} {l : List Ent} (h : Own w B (e :: a0 :: a1 :: a2 :: a3 :: a4 :: a5 :: a6 :: l)) : Own w B (a0 :: a1 :: a2 :: a3 :: a4 :: a5 :: a6 :: e :: l) := h.perm (List.perm_middle (l₁ := [a0, a1, a2, a3, a4, a5, a6])).symm
/-- A nil row. -/
def nilE : Ent := ⟨4, 1, .slice none 0 0, ([] : List Value).length, []⟩
theorem Own.nilE {w : World} {B : Nat} {l : List Ent} (h : Own w B l) : Own w B (nilE :: l) :=
  h.add (Below.refl _ _) (World.ownsRow_nil _ _ _ _) (fun k hk => by simp [Go.Proofs.YtjpjjfgdgieapaaDoor.nilE, Value.ownBlock] at hk)
/-- What lies ahead of the loop. -/
structure KA (d : Bn) (wB : World) (B0 nb fb : Nat) (nl : List Bool) (F : List (List Int)) (vF : List Value) (g lb ob : Nat) (M : List Int) (O : List (List Int)) (vO : List Value) (W : World) : Prop where
  fs : FSu wB B0 g [.slice (some ⟨nb, 0, none⟩) d.nons.length d.nons.length, .slice none 0 0, .slice none 0 0, .slice none 0 0, .slice (some ⟨lb, 0, none⟩) d.nons.length d.nons.length, .slice (some ⟨fb, 0, none⟩) d.nons.length d.nons.length, .slice (some ⟨ob, 0, none⟩) d.nons.length d.nons.length] [(4, nl.map .bool), (4, []), (4, []), (4, []), (3, encI M), (29, vF), (29, vO)] [] W
  fF : FR W fb d.nons.length F
  fO : FR W ob d.nons.length O
  mr : IRow W lb M
  nr : BRow W nb nl
  mlen : M.length = d.nons.length
  msnd : Snd d.terms.length (bps d) (Mf d.terms.length M)
  mq : ∀ p ∈ bps d, lnew (Mf d.terms.length M) p = false
  oo : OkO d nl O
  om : ∀ n y, y ∈ O.getD n [] ↔ Fol d (Nf d.terms.length nl) (Fst d (Nf d.terms.length nl)) n y
theorem KA.still {d : Bn} {wB : World} {B0 nb fb : Nat} {nl : List Bool} {F : List (List Int)} {vF : List Value} {g lb ob : Nat} {M : List Int} {O : List (List Int)} {vO : List Value} {W W' : World} (h : KA d wB B0 nb fb nl F vF g lb ob M O vO W) (hb : Below W.heap.size W W') : KA d wB B0 nb fb nl F vF g lb ob M O vO W' :=
  ⟨h.fs.still hb, h.fF.still hb, h.fO.still hb, World.rowIs.of_block h.mr (hb.block _ (World.rowIs.lt h.mr)), World.rowIs.of_block h.nr (hb.block _ (World.rowIs.lt h.nr)), h.mlen, h.msnd, h.mq, h.oo, h.om⟩
/-- What is gathered of the first k Nons. -/
def csK (nl : List Bool) (M : List Int) (FA FL : Nat → Nat → Bool) (vF vO : List Value) (k : Nat) : List (TypeId × List Value) :=
  [(4, nl.map .bool), (4, (List.range k).map fun i => .bool (decide (0 ≤ M.getD i 0))), (4, (List.range k).map fun i => .bool (i == 0 || FA 0 i)), (4, (List.range k).map fun i => .bool (FL i i)), (3, encI M), (29, vF), (29, vO)]
theorem Box.sb {w : World} {g : Nat} {us : List Value} (h : Box w g 32 us) (hl : us.length = 7) (hf : ∀ v ∈ us, ∃ a n c, v = .slice a n c) : SB w g := by
  have h1 := h.ex
  rw [hl] at h1
  refine ⟨_, h1, fun i hi => ?_⟩
  show ∃ a n c, us.getD i .nilFunc = .slice a n c
  rw [getD_lt us _ (by omega)]
  exact hf _ (List.getElem_mem (by omega))
/-- What the specification answers to right rules. -/
def SpA (d : Bn) (w' : World) (us : List Value) (nl : List Bool) (F : List (List Int)) (M : List Int) (O : List (List Int)) (FA FL : Nat → Nat → Bool) : Prop :=
  ∃ B nb fb lb ob vF vO, us.length = 7 ∧ Own w' B (colE (csK nl M FA FL vF vO d.nons.length) us) ∧ us[0]? = some (.slice (some ⟨nb, 0, none⟩) d.nons.length d.nons.length) ∧ us[4]? = some (.slice (some ⟨lb, 0, none⟩) d.nons.length d.nons.length) ∧ us[5]? = some (.slice (some ⟨fb, 0, none⟩) d.nons.length d.nons.length) ∧ us[6]? = some (.slice (some ⟨ob, 0, none⟩) d.nons.length d.nons.length) ∧
  BRow w' nb nl ∧ IRow w' lb M ∧ FR w' fb d.nons.length F ∧ FR w' ob d.nons.length O ∧ (nl.length = d.nons.length ∧ Nsd d.terms.length (bps d) (Nf d.terms.length nl) ∧ ∀ p ∈ bps d, quN d.terms.length nl p) ∧ (M.length = d.nons.length ∧ Snd d.terms.length (bps d) (Mf d.terms.length M) ∧ ∀ p ∈ bps d, lnew (Mf d.terms.length M) p = false) ∧ (OkF d nl F ∧ ∀ n y, y ∈ F.getD n [] ↔ Fst d (Nf d.terms.length nl) n y) ∧ (OkO d nl O ∧ ∀ n y, y ∈ O.getD n [] ↔ Fol d (Nf d.terms.length nl) (Fst d (Nf d.terms.length nl)) n y) ∧ (∀ a b, FA a b = true ↔ Tc (En false d) a b) ∧ ∀ a b, FL a b = true ↔ Tc (En true d) a b
end Go.Proofs.YtjpjjfgdgieapaaDoor
