import Derived.Test.YtkkhdkfmaopmfaaBq
import Derived.Test.YtkkhdkfmaopmfaaMark2
/-! The law: binds are marked. -/
namespace Go.Proofs.Ytkkhdkfmaopmfaa
open Go.RowKit Go.Deep Go.Lib
set_option linter.unusedVariables false
set_option maxRecDepth 100000
set_option linter.unusedSimpArgs false

/-- How many marks the first j binds take. -/
def bo (bl : List (ByteArray × Tr)) : Nat → Nat
  | 0 => 0
  | j + 1 => bo bl j + (4 + 3 * Tr.cntL (nb bl j).2.kids)
theorem bo_le (bl : List (ByteArray × Tr)) {i : Nat} : ∀ j, i ≤ j → bo bl i ≤ bo bl j
  | 0, h => by rw [Nat.le_zero.1 h]; exact Nat.le_refl _
  | j + 1, h => by
    by_cases e : i = j + 1
    · rw [e]; exact Nat.le_refl _
    · exact Nat.le_trans (bo_le bl j (by omega)) (by rw [bo]; exact Nat.le_add_right _ _)
/-- What markBindS has done when it comes to the bind j. -/
def BMk (bl : List (ByteArray × Tr)) (n m b : Nat) (sv : Nat → Value) (l h : Nat → Nat) (j : Nat) (wr : World) : Prop :=
  ∃ f, wr.rowIs b 62 m f ∧ (∀ i, i < bl.length → f (i * 5 + 4) = sv i) ∧
    (∀ i, i < j → i < bl.length → f (i * 5) = .string (mt (n + bo bl i)) ∧ f (i * 5 + 1) = .string (mt (n + bo bl i + 1)) ∧ f (i * 5 + 2) = .string (mt (n + bo bl i + 2)) ∧ f (i * 5 + 3) = .bool (decide ((n + bo bl i + 3) % 3 = 0))) ∧
    (∀ i (_ : i < j) (hi : i < bl.length), Own wr (l i) (h i) (mk (nb bl i).2 (n + bo bl i + 4)) (sv i)) ∧
    ∀ i (_ : j ≤ i) (hi : i < bl.length), Own wr (l i) (h i) (nb bl i).2 (sv i)
theorem bmk_step {bl : List (ByteArray × Tr)} {n m b q lo hi j : Nat} {sv : Nat → Value} {l h : Nat → Nat} {wr W3 w4 : World} {f1 f3 : Nat → Value} (hlt : j < bl.length) (hq : q = n + bo bl j)
    (hr : ∀ i, i < bl.length → lo ≤ l i ∧ h i ≤ hi ∧ (b < l i ∨ h i ≤ b)) (hd : ∀ i j, i < j → j < bl.length → h i ≤ l j) (hhi : hi ≤ wr.heap.size)
    (hsv1 : ∀ i, i < bl.length → f1 (i * 5 + 4) = sv i)
    (hmk : ∀ i, i < j → i < bl.length → f1 (i * 5) = .string (mt (n + bo bl i)) ∧ f1 (i * 5 + 1) = .string (mt (n + bo bl i + 1)) ∧ f1 (i * 5 + 2) = .string (mt (n + bo bl i + 2)) ∧ f1 (i * 5 + 3) = .bool (decide ((n + bo bl i + 3) % 3 = 0)))
    (hol : ∀ i (_ : i < j) (hi : i < bl.length), Own wr (l i) (h i) (mk (nb bl i).2 (n + bo bl i + 4)) (sv i))
    (hor : ∀ i (_ : j ≤ i) (hi : i < bl.length), Own wr (l i) (h i) (nb bl i).2 (sv i))
    (hsz : wr.heap.size ≤ W3.heap.size) (hW : ∀ p, p < wr.heap.size → p ≠ b → W3.heap[p]? = wr.heap[p]?) (hrow : W3.rowIs b 62 m f3)
    (e0 : f3 (j * 5) = .string (mt q)) (e1 : f3 (j * 5 + 1) = .string (mt (q + 1))) (e1' : f3 (j * 5 + 2) = .string (mt (q + 2))) (e2 : f3 (j * 5 + 3) = .bool (decide ((q + 3) % 3 = 0))) (e3 : ∀ i, i < j * 5 ∨ j * 5 + 4 ≤ i → f3 i = f1 i)
    (hout : Out (l j) (h j) W3 w4) (hown : Own w4 (l j) (h j) (mk (nb bl j).2 (q + 4)) (sv j)) : BMk bl n m b sv l h (j + 1) w4 := by
  have hb := hrow.lt
  have hjr := hr j hlt
  have hoth : ∀ i, i < bl.length → i ≠ j → ∀ p, l i ≤ p → p < h i → p < wr.heap.size → w4.heap[p]? = wr.heap[p]? := by
    intro i hi hij p h1 h2 h3
    have hir := hr i hi
    rw [hout.2.2.2.2 p (by omega) (by rcases Nat.lt_or_gt_of_ne hij with g | g; (have := hd i j g hlt; omega); (have := hd j i g hi; omega))]
    exact hW p h3 (by omega)
  refine ⟨f3, hrow.of_block (hout.2.2.2.2 b hb hjr.2.2), fun i hi => ?_, fun i hi hk => ?_, fun i hi hk => ?_, fun i hi hk => ?_⟩
  · rw [e3 _ (by omega)]; exact hsv1 i hi
  · by_cases e : i = j
    · subst e; rw [← hq]; exact ⟨e0, e1, e1', e2⟩
    · rw [e3 _ (by omega), e3 _ (by omega), e3 _ (by omega), e3 _ (by omega)]; exact hmk i (by omega) hk
  · by_cases e : i = j
    · subst e; rw [← hq]; exact hown
    · exact (hol i (by omega) hk).keep (Nat.le_refl _) (Nat.le_refl _) (hoth i hk e)
  · exact (hor i (by omega) hk).keep (Nat.le_refl _) (Nat.le_refl _) (hoth i hk (by omega))
/-- A row of binds whose blocks are known. -/
structure BRow (bl : List (ByteArray × Tr)) (lo hi : Nat) (a : Option Addr) (cap b : Nat) (sv : Nat → Value) (l h : Nat → Nat) (w : World) : Prop where
  len : bl.length ≤ cap ∧ cap ≤ maxLen
  row : 0 < bl.length → a = some ⟨b, 0, none⟩ ∧ lo ≤ b ∧ b < hi ∧ BMk bl 0 (cap * 5) b sv l h 0 w
  rng : ∀ i, i < bl.length → lo ≤ l i ∧ h i ≤ hi ∧ (b < l i ∨ h i ≤ b)
  dis : ∀ i j, i < j → j < bl.length → h i ≤ l j
theorem BGr.rows {bl : List (ByteArray × Tr)} {B : Nat} {v : Value} {w : World} (h : BGr bl B bl.length v w) : ∃ a cap b sv l hh, v = .slice a bl.length cap ∧ BRow bl B w.heap.size a cap b sv l hh w := by
  obtain ⟨fs, l, hh, h1, h2, h3, h4⟩ := h
  rcases h1.2 with ⟨rfl, h0⟩ | ⟨g, cap, cur, rfl, hBg, hg, hnc, hcm, hcs, htake⟩
  · exact ⟨none, 0, 0, fs, l, hh, by rw [h0], ⟨⟨by omega, Nat.zero_le _⟩, fun h => by omega, fun i hi => by omega, fun i j hi hj => by omega⟩⟩
  · have hlt : g < w.heap.size := (Array.getElem?_eq_some_iff.1 hg).1
    refine ⟨some ⟨g, 0, none⟩, cap, g, fs, l, hh, rfl, ⟨⟨hnc, hcm⟩, fun _ => ⟨rfl, hBg, hlt, fun i => (cur[i]?).getD (.bool false), ⟨cur, hg, hcs, fun i hi => by simp [hcs, hi]⟩, fun i hi => ?_, fun i hi => absurd hi (Nat.not_lt_zero _), fun i hi => absurd hi (Nat.not_lt_zero _), fun i _ hi => h2 i hi⟩, fun i hi => ?_, h4⟩⟩
    · obtain ⟨_, _, _, _, g4⟩ := bcs_get bl fs bl.length i hi
      rw [← htake, List.getElem?_take, if_pos (by omega)] at g4
      simp only [Array.getElem?_toList] at g4
      dsimp only
      rw [g4]
      rfl
    · have := h3 i hi
      exact ⟨this.1, this.2.1, this.2.2 g rfl⟩
/-- What markBindS leaves. -/
def BHd (bl : List (ByteArray × Tr)) (n : Nat) (v : Value) (w : World) : Prop :=
  ∃ (a : Option Addr) (cap b : Nat) (sv : Nat → Value), v = .slice a bl.length cap ∧ bl.length ≤ 9223372036854775807 ∧ (0 < bl.length → a = some ⟨b, 0, none⟩) ∧ (∀ i, i < bl.length → w.cell? ⟨b, i * 5, none⟩ = some (.string (mt (n + bo bl i))) ∧ w.cell? ⟨b, i * 5 + 1, none⟩ = some (.string (mt (n + bo bl i + 1))) ∧ w.cell? ⟨b, i * 5 + 2, none⟩ = some (.string (mt (n + bo bl i + 2))) ∧ w.cell? ⟨b, i * 5 + 3, none⟩ = some (.bool (decide ((n + bo bl i + 3) % 3 = 0))) ∧ w.cell? ⟨b, i * 5 + 4, none⟩ = some (sv i)) ∧ ∀ i, i < bl.length → ∃ nm x le, Lies w (fun _ => True) ⟨nm, x, le, (mkP (nb bl i).2).2 (n + bo bl i + 4)⟩ (sv i)
theorem BHd.still {w w' : World} {bl : List (ByteArray × Tr)} {n : Nat} {v : Value} (h : BHd bl n v w) (hb : Below w.heap.size w w') : BHd bl n v w' := by
  obtain ⟨a, cap, b, sv, h1, h2, h3, h4, h5⟩ := h
  have mv : ∀ {b o : Nat} {v : Value}, w.cell? ⟨b, o, none⟩ = some v → w'.cell? ⟨b, o, none⟩ = some v := fun h => (hb.cell (lt_of_cell h)).trans h
  refine ⟨a, cap, b, sv, h1, h2, h3, fun i hi => ?_, fun i hi => ?_⟩
  · obtain ⟨c0, c1, c2, c3, c4⟩ := h4 i hi
    exact ⟨mv c0, mv c1, mv c2, mv c3, mv c4⟩
  · obtain ⟨nm, x, le, h⟩ := h5 i hi
    exact ⟨nm, x, le, h.still hb⟩
theorem bhd_done {bl : List (ByteArray × Tr)} {n cap b : Nat} {a : Option Addr} {sv : Nat → Value} {l h : Nat → Nat} {w : World} (hc : bl.length ≤ cap) (hm : cap ≤ maxLen) (ha : 0 < bl.length → a = some ⟨b, 0, none⟩) (hM : 0 < bl.length → BMk bl n (cap * 5) b sv l h bl.length w) : BHd bl n (.slice a bl.length cap) w := by
  refine ⟨a, cap, b, sv, rfl, by unfold maxLen at hm; omega, ha, fun i hi => ?_, fun i hi => ?_⟩
  · obtain ⟨f, hrow, hsv, hmk, _, _⟩ := hM (by omega)
    obtain ⟨e0, e1, e2, e3⟩ := hmk i hi hi
    exact ⟨by rw [hrow.cell (by omega), e0], by rw [hrow.cell (by omega), e1], by rw [hrow.cell (by omega), e2], by rw [hrow.cell (by omega), e3], by rw [hrow.cell (by omega), hsv i hi]⟩
  · obtain ⟨f, hrow, hsv, hmk, hol, _⟩ := hM (by omega)
    exact ⟨_, _, _, (hol i hi hi).lies.mono (fun _ _ => trivial)⟩
set_option maxHeartbeats 3200000 in
theorem markBinds14 (bl : List (ByteArray × Tr)) (n lo hi : Nat) (a : Option Addr) (cap b : Nat) (sv : Nat → Value) (l h : Nat → Nat) (w : World) (hB : BRow bl lo hi a cap b sv l h w) (hhi : hi ≤ w.heap.size) (hn0 : 0 < n) (hnk : n + bo bl bl.length ≤ 67108864) :
    Calls Try.prog 14 #[.slice a bl.length cap, .int .i64 n] w fun e w' => e = .returned (.int .i64 (n + bo bl bl.length : Nat)) ∧ Out lo hi w w' ∧ BHd bl n (.slice a bl.length cap) w' := by
  have hc := hB.len.1
  have hm := hB.len.2
  have HX := (show Hid ((∀ i, i < bl.length → lo ≤ l i ∧ h i ≤ hi ∧ (b < l i ∨ h i ≤ b)) ∧ ∀ i j, i < j → j < bl.length → h i ≤ l j) from ⟨hB.rng, hB.dis⟩)
  have HA := (show Hid (0 < bl.length → a = some ⟨b, 0, none⟩ ∧ lo ≤ b ∧ b < hi) from fun h0 => ⟨(hB.row h0).1, (hB.row h0).2.1, (hB.row h0).2.2.1⟩)
  have HS := (show Hid (0 < bl.length → BMk bl n (cap * 5) b sv l h 0 w) from fun h0 => by
    obtain ⟨f, h1, h2, h3, h4, h5⟩ := (hB.row h0).2.2.2
    exact ⟨f, h1, h2, fun i hi => absurd hi (Nat.not_lt_zero _), fun i hi => absurd hi (Nat.not_lt_zero _), h5⟩)
  have HMX := (show Hid (cap ≤ maxLen) from hm)
  clear hB
  unfold maxLen at hm
  go_enter Try.func14, Try.ntmps14
  go_wp2_with fail
  go_loopw [1, 5] (fun u i wr => ∃ (j q : Nat), j ≤ bl.length ∧ i = .int .i64 j ∧ u = .int .i64 q ∧ q ≤ 67108864 ∧ 0 < q ∧ Hid (q = n + bo bl j) ∧ Out lo hi w wr ∧ Hid (0 < bl.length → BMk bl n (cap * 5) b sv l h j wr)) (fun _ i _ => bl.length - (intOf i).toNat)
  case atStart => exact ⟨0, n, Nat.zero_le _, rfl, rfl, by omega, hn0, by show n = _; simp [bo], Out.refl _ _ _, HS⟩
  case round =>
    obtain ⟨j, q, hj, rfl, rfl, hq1, hq0, HQ, hout, HM⟩ := hrel
    by_cases hlt : j < bl.length
    · obtain ⟨rfl, hb1', hb2'⟩ := HA.out (by omega)
      obtain ⟨f1, hrow, hsv1, hmk, hol, hor⟩ := HM.out (by omega)
      have hq2 : q + (4 + 3 * Tr.cntL (nb bl j).2.kids) ≤ 67108864 := by
        have hqe := HQ.out
        have := bo_le bl (i := j + 1) bl.length (by omega)
        rw [bo] at this
        omega
      obtain ⟨a1, l1, p1, hsvj⟩ := (hor j (Nat.le_refl _) hlt).form
      have HCL := (show Hid (∀ (w : World) (lo hi n : Nat), Own w lo hi (nb bl j).2 (.slice a1 l1 p1) → hi ≤ w.heap.size → 0 < n → n + 3 * Tr.cntL (nb bl j).2.kids ≤ 67108864 → Calls Try.prog 43 #[.slice a1 l1 p1, .int .i64 n] w fun e w' => e = .returned (.int .i64 (n + 3 * Tr.cntL (nb bl j).2.kids : Nat)) ∧ Out lo hi w w' ∧ Own w' lo hi (mk (nb bl j).2 n) (.slice a1 l1 p1)) from markS_any (nb bl j).2 (.slice a1 l1 p1))
      have H1 := (show Hid _ from (⟨hrow, hsv1, hmk, hol, hor, hsvj⟩ : _ ∧ _ ∧ _ ∧ _ ∧ _ ∧ _)); clear hrow hsv1 hmk hol hor hsvj
      go_wp2_with fail
      refine Calls.mono (markText_any q hq0 hq1 _) ?_
      rintro e w1 ⟨rfl, hb1⟩
      have hrow1 := H1.out.1.of_block (hb1.block _ H1.out.1.lt)
      have c0 := hrow1.cell (i := j * 5) (by omega)
      have z0 := hrow1.frozen (j * 5)
      have HR1 := (show Hid (w1.rowIs b 62 (cap * 5) f1) from hrow1); clear hrow1
      go_wp2_with fail
      refine Calls.mono (markText_any (q + 1) (by omega) (by omega) _) ?_
      rintro e w2 ⟨rfl, hb2⟩
      clear c0 z0
      have hR1 := HR1.out.set (j * 5) (.string (mt q))
      have hrow2 := hR1.of_block (hb2.block _ hR1.lt)
      have c1 := hrow2.cell (i := j * 5 + 1) (by omega)
      have z1 := hrow2.frozen (j * 5 + 1)
      have HR2 := (show Hid (w2.rowIs b 62 (cap * 5) _) from hrow2); clear hrow2 hR1
      go_wp2_with fail
      have eq2 : ((q : Int) + 1 + 1) = ((q + 2 : Nat) : Int) := by omega
      rw [eq2]
      refine Calls.mono (markText_any (q + 2) (by omega) (by omega) _) ?_
      rintro e w3 ⟨rfl, hb3⟩
      clear c1 z1
      have hR2 := HR2.out.set (j * 5 + 1) (.string (mt (q + 1)))
      have hrow3 := hR2.of_block (hb3.block _ hR2.lt)
      have c2 := hrow3.cell (i := j * 5 + 2) (by omega)
      have z2 := hrow3.frozen (j * 5 + 2)
      have c3 := hrow3.cell (i := j * 5 + 3) (by omega)
      have z3 := hrow3.frozen (j * 5 + 3)
      have c4 := hrow3.cell (i := j * 5 + 4) (by omega)
      have hsv3 : f1 (j * 5 + 4) = .slice a1 l1 p1 := (H1.out.2.1 j hlt).trans H1.out.2.2.2.2.2
      rw [if_neg (by omega), if_neg (by omega), hsv3] at c4
      have HR3 := (show Hid (w3.rowIs b 62 (cap * 5) _) from hrow3); clear hrow3 hR2 hsv3
      go_wp2_with fail
      have eq4 : ((q : Int) + 2 + 1 + 1) = ((q + 4 : Nat) : Int) := by omega
      have eb : (((q : Int) + 2 + 1) % 3 == 0) = decide ((q + 3) % 3 = 0) := by
        rw [Bool.eq_iff_iff]
        simp
        omega
      rw [eq4, eb, show j * 5 + 1 + 1 = j * 5 + 2 from rfl, show j * 5 + 1 + 2 = j * 5 + 3 from rfl]
      have hrow3 : w3.rowIs b 62 (cap * 5) _ := HR3.out
      have hR4 := (hrow3.set (j * 5 + 2) (.string (mt (q + 2)))).set (j * 5 + 3) (.bool (decide ((q + 3) % 3 = 0)))
      have hszb := H1.out.1.lt
      have hs1 := hb1.size
      have hs2 := hb2.size
      have hs3 := hb3.size
      simp at hs2 hs3
      have hW : ∀ p, p < wr.heap.size → p ≠ b → ((w3.setCell ⟨b, j * 5 + 2, none⟩ (.string (mt (q + 2)))).setCell ⟨b, j * 5 + 3, none⟩ (.bool (decide ((q + 3) % 3 = 0)))).heap[p]? = wr.heap[p]? := by
        intro p hp hpb
        rw [blk_setCell_other _ _ _ _ (by exact hpb), blk_setCell_other _ _ _ _ (by exact hpb), hb3.block p (by simp; omega), blk_setCell_other _ _ _ _ (by exact hpb), hb2.block p (by simp; omega), blk_setCell_other _ _ _ _ (by exact hpb), hb1.block p hp]
      have hwsz : wr.heap.size ≤ ((w3.setCell ⟨b, j * 5 + 2, none⟩ (.string (mt (q + 2)))).setCell ⟨b, j * 5 + 3, none⟩ (.bool (decide ((q + 3) % 3 = 0)))).heap.size := by simp; omega
      have hOW : Out lo hi wr ((w3.setCell ⟨b, j * 5 + 2, none⟩ (.string (mt (q + 2)))).setCell ⟨b, j * 5 + 3, none⟩ (.bool (decide ((q + 3) % 3 = 0)))) :=
        ((((((Out.of_below hb1).trans (Out.set _ _ hb1' hb2')).trans (Out.of_below hb2)).trans (Out.set _ _ hb1' hb2')).trans (Out.of_below hb3)).trans (Out.set _ _ hb1' hb2')).trans (Out.set _ _ hb1' hb2')
      generalize hW3 : ((w3.setCell ⟨b, j * 5 + 2, none⟩ (.string (mt (q + 2)))).setCell ⟨b, j * 5 + 3, none⟩ (.bool (decide ((q + 3) % 3 = 0)))) = W3 at *
      clear hW3
      obtain ⟨hr, hd⟩ := HX.out
      have hjr := hr j hlt
      have hhi2 : hi ≤ wr.heap.size := Nat.le_trans hhi hout.2.2.2.1
      have hoj : Own W3 (l j) (h j) (nb bl j).2 (.slice a1 l1 p1) := by
        rw [← H1.out.2.2.2.2.2]
        refine (H1.out.2.2.2.2.1 j (Nat.le_refl _) hlt).keep (Nat.le_refl _) (Nat.le_refl _) (fun p h1 h2 h3 => hW p h3 (by omega))
      refine Calls.mono (HCL.out W3 (l j) (h j) (q + 4) hoj (by omega) (by omega) (by omega)) ?_
      rintro e w4 ⟨rfl, ho4, hown4⟩
      have hm4 : BMk bl n (cap * 5) b sv l h (j + 1) w4 := by
        obtain ⟨g1, g2, g3, g4, g5, g6⟩ := H1.out
        rw [← g6] at hown4
        refine bmk_step hlt HQ.out hr hd hhi2 g2 g3 g4 g5 hwsz hW hR4 ?_ ?_ ?_ ?_ ?_ ho4 hown4
        · rw [if_neg (by omega), if_neg (by omega), if_neg (by omega), if_pos rfl]
        · rw [if_neg (by omega), if_neg (by omega), if_pos rfl]
        · rw [if_neg (by omega), if_pos rfl]
        · rw [if_pos rfl]
        · intro i hi
          rw [if_neg (by omega), if_neg (by omega), if_neg (by omega), if_neg (by omega)]
      have hout4 : Out lo hi w w4 := (hout.trans hOW).trans (ho4.mono (by omega) (by omega))
      have HM4 := (show Hid _ from hm4); clear hm4 hown4 ho4 hOW hW hR4 hrow3 hoj
      have hq4 : q + 4 + 3 * Tr.cntL (nb bl j).2.kids = n + bo bl (j + 1) := by
        have := HQ.out
        rw [bo]
        omega
      have HQ4 := (show Hid _ from hq4); clear hq4
      generalize hqq : q + 4 + 3 * Tr.cntL (nb bl j).2.kids = qq at *
      have hqq2 : qq ≤ 67108864 := by omega
      have hqq0 : 0 < qq := by omega
      clear hqq
      go_wp2_with fail
      exact ⟨⟨j + 1, qq, by omega, by go_num, rfl, hqq2, hqq0, HQ4, hout4, fun _ => HM4.out⟩, by simp [intOf]; omega⟩
    · have : j = bl.length := by omega
      subst this
      have hfin := bhd_done (a := a) (n := n) hc HMX.out (fun h0 => (HA.out h0).1) HM.out
      have HF := (show Hid _ from (⟨hfin, HQ.out⟩ : _ ∧ _)); clear hfin
      go_wp2_with fail
      go_ret
      exact ⟨by rw [← HF.out.2]; rfl, hout, HF.out.1⟩
end Go.Proofs.Ytkkhdkfmaopmfaa
