import Derived.Test.YtledclkmeikgdaaXTo
import Derived.Test.YtledclkmeikgdaaXMark2
import Derived.Deep.AppendLies
namespace Go.Proofs.Ytledclkmeikgdaa.T
open Go.RowKit Go.Deep Go.Lib
set_option linter.unusedVariables false
set_option maxRecDepth 100000
set_option linter.unusedSimpArgs false

/-- What the loop of toTreeS has made of the first j Kids: each owns a range behind the row g. -/
def MadeO (k : List Tr) (g : Nat) (j : Nat) (wr : World) : Prop :=
  ∃ (f : Nat → Value) (l h : Nat → Nat), wr.rowIs g 40 (k.length * 4) f ∧
    (∀ i (_ : i < j) (hi : i < k.length), f (i * 4) = .string k[i].name ∧ f (i * 4 + 1) = .string k[i].text ∧ f (i * 4 + 2) = .bool k[i].leaf) ∧
    (∀ i (_ : i < j) (hi : i < k.length), Own wr (l i) (h i) k[i] (f (i * 4 + 3))) ∧ (∀ i, i < j → g < l i ∧ h i ≤ wr.heap.size) ∧ ∀ i i', i < i' → i' < j → h i ≤ l i'

theorem Own.past {w : World} {t : Tr} {v u : Value} {lo hi g o : Nat} (h : Own w lo hi t v) (hg : g < lo ∨ hi ≤ g) : Own (w.setCell ⟨g, o, none⟩ u) lo hi t v :=
  h.keep (Nat.le_refl _) (Nat.le_refl _) (fun k h1 h2 _ => blk_setCell_other _ _ _ _ (by show k ≠ g; omega))
theorem Own.still {w w' : World} {t : Tr} {v : Value} {lo hi : Nat} (h : Own w lo hi t v) (hb : Below w.heap.size w w') : Own w' lo hi t v :=
  h.keep (Nat.le_refl _) (Nat.le_refl _) (fun k _ _ hk => hb.block k hk)

theorem madeO_step {k : List Tr} {g j : Nat} {wr w1 : World} (hj : j < k.length) (hM : MadeO k g j wr) (hg : g < wr.heap.size) (hb1 : Below wr.heap.size wr w1) {v : Value} (hl : Own w1 wr.heap.size w1.heap.size k[j] v) :
    MadeO k g (j + 1) ((((w1.setCell ⟨g, j * 4, none⟩ (.string k[j].name)).setCell ⟨g, j * 4 + 1, none⟩ (.string k[j].text)).setCell ⟨g, j * 4 + 2, none⟩ (.bool k[j].leaf)).setCell ⟨g, j * 4 + 3, none⟩ v) := by
  obtain ⟨f, l, h, hrow, hcs, hls, hr, hd⟩ := hM
  have hrow1 := hrow.of_block (hb1.block _ hrow.lt)
  have hs := hb1.size
  refine ⟨_, fun i => if i = j then wr.heap.size else l i, fun i => if i = j then w1.heap.size else h i, (((hrow1.set _ _).set _ _).set _ _).set _ _, fun i hi hk => ?_, fun i hi hk => ?_, fun i hi => ?_, fun i i' hii hi' => ?_⟩
  · by_cases e : i = j
    · subst e; simp
    · obtain ⟨q0, q1, q2⟩ := hcs i (by omega) hk
      refine ⟨?_, ?_, ?_⟩
      · rw [if_neg (by omega), if_neg (by omega), if_neg (by omega), if_neg (by omega)]; exact q0
      · rw [if_neg (by omega), if_neg (by omega), if_neg (by omega), if_neg (by omega)]; exact q1
      · rw [if_neg (by omega), if_neg (by omega), if_neg (by omega), if_neg (by omega)]; exact q2
  · by_cases e : i = j
    · subst e
      simp only [if_true]
      exact (((hl.past (.inl hg)).past (.inl hg)).past (.inl hg)).past (.inl hg)
    · rw [if_neg (by omega), if_neg (by omega), if_neg (by omega), if_neg (by omega)]
      simp only [if_neg e]
      have hlt := (hr i (by omega)).1
      exact (((((hls i (by omega) hk).still hb1).past (.inl hlt)).past (.inl hlt)).past (.inl hlt)).past (.inl hlt)
  · by_cases e : i = j
    · subst e; simp; exact hg
    · simp only [if_neg e]; have := hr i (by omega); simp; omega
  · by_cases e : i' = j
    · subst e
      simp only [if_true]
      rw [if_neg (by omega)]
      exact (hr i (by omega)).2
    · dsimp only; rw [if_neg e, if_neg (by omega)]; exact hd i i' hii (by omega)

theorem madeO_own {k : List Tr} {g : Nat} {w : World} (h : MadeO k g k.length w) {n x : ByteArray} {l : Bool} (hn : n.size ≤ maxLen) (hx : x.size ≤ maxLen) (hk : k.length ≤ maxLen) :
    Own w g w.heap.size (.mk n x l k) (.slice (some ⟨g, 0, none⟩) k.length k.length) := by
  obtain ⟨f, l, h, hrow, hcs, hls, hr, hd⟩ := h
  exact Own.shut ⟨_, _, g, f, l, h, rfl, hn, hx, Nat.le_refl _, hk, fun _ => ⟨rfl, Nat.le_refl _, hrow.lt, hrow⟩, fun i hi => hcs i hi hi, fun i hi => hls i hi hi, fun i hi => ⟨Nat.le_of_lt (hr i hi).1, (hr i hi).2, .inl (hr i hi).1⟩, fun i j hij hj => .inl (hd i j hij hj)⟩

set_option maxHeartbeats 400000 in
theorem toSO_any (k : List Tr) (a : Option Addr) (cap b off : Nat) (sv : Nat → Value) (S : Nat → Prop) (hc : k.length ≤ cap) (hm : cap ≤ maxLen)
    (ha : 0 < k.length → a = some ⟨b, off, none⟩ ∧ S b) (hlen : k.length ≤ 1048576)
    (ih : ∀ i (hi : i < k.length) (w : World), Lies w S k[i] (sv i) →
      Calls Try.prog 19 #[k[i].val (sv i)] w fun e w' => ∃ v', e = .returned (k[i].val v') ∧ Below w.heap.size w w' ∧ Own w' w.heap.size w'.heap.size k[i] v')
    (w : World)
    (hcell : ∀ i (hi : i < k.length), w.cell? ⟨b, off + i * 4, none⟩ = some (.string k[i].name) ∧ w.cell? ⟨b, off + i * 4 + 1, none⟩ = some (.string k[i].text) ∧
        w.cell? ⟨b, off + i * 4 + 2, none⟩ = some (.bool k[i].leaf) ∧ w.cell? ⟨b, off + i * 4 + 3, none⟩ = some (sv i))
    (hk : ∀ i (hi : i < k.length), Lies w S k[i] (sv i)) :
    Calls Try.prog 62 #[.slice a k.length cap] w fun e w' => e = .returned (.slice (some ⟨w.heap.size, 0, none⟩) k.length k.length) ∧ Below w.heap.size w w' ∧ MadeO k w.heap.size k.length w' := by
  unfold maxLen at hm
  have HI := (show Hid _ from ih); clear ih
  have HC := (show Hid _ from hcell); clear hcell
  have HK := (show Hid _ from hk); clear hk
  have HA := (show Hid _ from ha); clear ha
  have hmk := run_makeTrees k.length hlen
  go_enter Try.func62, Try.ntmps62
  go_wp2_with fail
  go_loopw [4] (fun i wr => ∃ j : Nat, j ≤ k.length ∧ i = .int .i64 j ∧ Below w.heap.size w wr ∧ Hid (MadeO k w.heap.size j wr)) (fun i _ => k.length - (intOf i).toNat)
  case atStart =>
    obtain ⟨f, hf⟩ := row_made w #[.string ByteArray.empty, .string ByteArray.empty, .bool false, .slice none 0 0] (k.length * 4) 40
    exact ⟨0, Nat.zero_le _, rfl, bel_alloc _ _, f, fun _ => 0, fun _ => 0, hf, fun i hi => absurd hi (Nat.not_lt_zero _), fun i hi => absurd hi (Nat.not_lt_zero _), fun i hi => absurd hi (Nat.not_lt_zero _), fun i i' _ hi => absurd hi (Nat.not_lt_zero _)⟩
  case round =>
    obtain ⟨j, hj, rfl, hbel, HM⟩ := hrel
    by_cases hlt : j < k.length
    · obtain ⟨rfl, _⟩ := HA.out (by omega)
      obtain ⟨c0, c1, c2, c3⟩ := HC.out j hlt
      rw [← hbel.cell (lt_of_cell c0)] at c0
      rw [← hbel.cell (lt_of_cell c1)] at c1
      rw [← hbel.cell (lt_of_cell c2)] at c2
      rw [← hbel.cell (lt_of_cell c3)] at c3
      go_wp2_with fail
      refine (HI.out j hlt wr ((HK.out j hlt).still hbel)).mono ?_
      rintro e w1 ⟨v', rfl, hb1, hl1⟩
      clear c0 c1 c2 c3
      obtain ⟨f, l, h, hrow, _⟩ := HM.out
      have hg := hrow.lt
      have hrow1 := hrow.of_block (hb1.block _ hrow.lt)
      have e0 := hrow1.cell (i := j * 4) (by omega)
      have e1 := hrow1.cell (i := j * 4 + 1) (by omega)
      have e2 := hrow1.cell (i := j * 4 + 2) (by omega)
      have e3 := hrow1.cell (i := j * 4 + 3) (by omega)
      have z0 := hrow1.frozen (j * 4)
      have z1 := hrow1.frozen (j * 4 + 1)
      have z2 := hrow1.frozen (j * 4 + 2)
      have z3 := hrow1.frozen (j * 4 + 3)
      obtain ⟨a1, l1, p1, rfl⟩ := hl1.form
      have hM1 := madeO_step hlt HM.out hg hb1 hl1
      have H1 := (show Hid _ from hM1); clear hrow hrow1 hM1 hl1
      go_wp2_with fail
      have hb2 := hbel.trans (hb1.mono hbel.size)
      exact ⟨⟨j + 1, by omega, by go_num, (((hb2.setCell (Nat.le_refl _) _).setCell (Nat.le_refl _) _).setCell (Nat.le_refl _) _).setCell (Nat.le_refl _) _, H1⟩, by simp [intOf]; omega⟩
    · go_wp2_with fail
      go_ret
      have : j = k.length := by omega
      subst this
      exact ⟨rfl, hbel, HM.out⟩

set_option maxHeartbeats 400000 in
theorem toO_any {S : Nat → Prop} (t : Tr) : ∀ (v : Value) (w : World), Lies w S t v → t.wt ≤ 1048576 →
    Calls Try.prog 19 #[t.val v] w fun e w' => ∃ v', e = .returned (t.val v') ∧ Below w.heap.size w w' ∧ Own w' w.heap.size w'.heap.size t v' := by
  refine Tr.ind (P := fun t => ∀ (v : Value) (w : World), Lies w S t v → t.wt ≤ 1048576 →
    Calls Try.prog 19 #[t.val v] w fun e w' => ∃ v', e = .returned (t.val v') ∧ Below w.heap.size w w' ∧ Own w' w.heap.size w'.heap.size t v') ?_ t
  intro n x l k ih v w hlies hwt
  rw [Tr.wt_mk] at hwt
  obtain ⟨a, cap, b, off, sv, rfl, hn, hx, hc, hm, ha, hcell, hk⟩ := hlies.out
  dsimp only at hn hx hc ha hcell hk ⊢
  have hcall := fun (w' : World) (hw : Below w.heap.size w w') =>
    toSO_any k _ _ b off sv S hc hm ha (by omega) (fun i hi w hl => ih i hi (sv i) w hl (by have := Tr.wt_mem k i hi; omega)) w'
      (fun i hi => by
        obtain ⟨c0, c1, c2, c3⟩ := hcell i hi
        exact ⟨(hw.cell (lt_of_cell c0)).trans c0, (hw.cell (lt_of_cell c1)).trans c1, (hw.cell (lt_of_cell c2)).trans c2, (hw.cell (lt_of_cell c3)).trans c3⟩)
      (fun i hi => (hk i hi).still hw)
  have HI := (show Hid _ from hcall)
  clear hcall hcell hk ha ih
  simp only [Tr.val]
  go_enter Try.func19, Try.ntmps19
  go_wp2_with fail
  refine (HI.out _ (((bel_alloc _ _).alloc (by simp) _).alloc (by simp; omega) _)).mono ?_
  rintro e w1 ⟨rfl, hb1, hmade⟩
  obtain ⟨hcc, hff⟩ := bcell hb1
  have HB := (show Hid _ from hb1); clear hb1
  have HM := (show Hid _ from hmade); clear hmade
  have hsz : w.heap.size + 3 ≤ w1.heap.size := by have := HB.out.size; simp at this; omega
  go_wp2_with fail
  have hbel : Below w.heap.size w w1 := (((bel_alloc _ _).alloc (by simp) _).alloc (by simp; omega) _).trans (HB.out.mono (by simp; omega))
  have hml := madeO_own HM.out (n := n) (x := x) (l := l) hn hx (Nat.le_trans hc hm)
  simp only [World.size_alloc] at hml
  refine bodyPost_ret (v := .agg #[.string n, .string x, .bool l, .slice (some ⟨w.heap.size + 1 + 1 + 1, 0, none⟩) k.length k.length]) (by simp [results, Try.results19, go_sem, hcc]) rfl ⟨_, rfl, ?_, ?_⟩
  · exact ((((hbel.setCell (by simp; omega) _).setCell (by simp) _).setCell (by simp) _).setCell (by simp) _).setCell (by simp) _
  · exact (((((hml.past (.inl (by omega))).past (.inl (by omega))).past (.inl (by omega))).past (.inl (by omega))).past (.inl (by omega))).keep (by omega) (by simp) (fun _ _ _ _ => rfl)
end Go.Proofs.Ytledclkmeikgdaa.T

namespace Go.Proofs.Ytledclkmeikgdaa.T
open Go.RowKit Go.Deep Go.Lib
set_option linter.unusedVariables false
set_option maxRecDepth 100000
set_option linter.unusedSimpArgs false

def nth (k : List Tr) (i : Nat) : Tr := (k[i]?).getD ⟨ByteArray.empty, ByteArray.empty, false, []⟩
theorem nth_eq {k : List Tr} {i : Nat} (h : i < k.length) : nth k i = k[i] := by simp [nth, h]
/-- The cells of the first j Kids. -/
def kc (k : List Tr) (fs : Nat → Value) : Nat → List Value
  | 0 => []
  | j + 1 => kc k fs j ++ [.string (nth k j).name, .string (nth k j).text, .bool (nth k j).leaf, fs j]
theorem kc_len (k : List Tr) (fs : Nat → Value) : ∀ j, (kc k fs j).length = j * 4
  | 0 => rfl
  | j + 1 => by rw [kc, List.length_append, kc_len k fs j]; simp; omega
theorem kc_congr (k : List Tr) {fs gs : Nat → Value} : ∀ j, (∀ i, i < j → fs i = gs i) → kc k fs j = kc k gs j
  | 0, _ => rfl
  | j + 1, h => by rw [kc, kc, kc_congr k j (fun i hi => h i (by omega)), h j (by omega)]
theorem kc_get (k : List Tr) (fs : Nat → Value) : ∀ j i, i < j → (kc k fs j)[i * 4]? = some (.string (nth k i).name) ∧ (kc k fs j)[i * 4 + 1]? = some (.string (nth k i).text) ∧ (kc k fs j)[i * 4 + 2]? = some (.bool (nth k i).leaf) ∧ (kc k fs j)[i * 4 + 3]? = some (fs i)
  | 0, _, h => absurd h (Nat.not_lt_zero _)
  | j + 1, i, h => by
    have hl := kc_len k fs j
    by_cases e : i = j
    · subst e
      rw [kc]
      refine ⟨?_, ?_, ?_, ?_⟩ <;> (rw [List.getElem?_append_right (by omega), hl]; simp)
    · obtain ⟨h0, h1, h2, h3⟩ := kc_get k fs j i (by omega)
      rw [kc]
      refine ⟨?_, ?_, ?_, ?_⟩ <;> (rw [List.getElem?_append_left (by omega)]; assumption)

/-- A row of Kids that grows by append: the first j of k stand in it, each in a range of its own. -/
def Grw (k : List Tr) (B j : Nat) (v : Value) (wr : World) : Prop :=
  ∃ (fs : Nat → Value) (l h : Nat → Nat), wr.ownsRow B 40 4 v j (kc k fs j) ∧ (∀ i, i < j → Own wr (l i) (h i) (nth k i) (fs i)) ∧
    (∀ i, i < j → B ≤ l i ∧ h i ≤ wr.heap.size ∧ ∀ g, v.ownBlock = some g → g < l i ∨ h i ≤ g) ∧ ∀ i i', i < i' → i' < j → h i ≤ l i'

theorem Grw.step {k : List Tr} {B j g cap a c : Nat} {v u : Value} {wr w2 w3 : World} {fs : Nat → Value} {l h : Nat → Nat} (hown : wr.ownsRow B 40 4 v j (kc k fs j)) (hls : ∀ i, i < j → Own wr (l i) (h i) (nth k i) (fs i))
    (hr : ∀ i, i < j → B ≤ l i ∧ h i ≤ wr.heap.size ∧ ∀ g, v.ownBlock = some g → g < l i ∨ h i ≤ g) (hd : ∀ i i', i < i' → i' < j → h i ≤ l i') (hB : B ≤ wr.heap.size)
    (hb : Below wr.heap.size wr w2) (hu : Own w2 a c (nth k j) u) (ha : wr.heap.size ≤ a) (hc : c ≤ w2.heap.size)
    (hown3 : w3.ownsRow B 40 4 (.slice (some ⟨g, 0, none⟩) (j + 1) cap) (j + 1) (kc k fs j ++ [.string (nth k j).name, .string (nth k j).text, .bool (nth k j).leaf, u]))
    (hgr : w2.grownBy w3 v.ownBlock) (hat : v.ownBlock = some g ∨ g = w2.heap.size) : Grw k B (j + 1) (.slice (some ⟨g, 0, none⟩) (j + 1) cap) w3 := by
  have hs := hb.size
  have hs3 := hgr.size
  have hvl := hown.lt
  refine ⟨fun i => if i = j then u else fs i, fun i => if i = j then a else l i, fun i => if i = j then c else h i, ?_, fun i hi => ?_, fun i hi => ?_, fun i i' hii hi' => ?_⟩
  · rw [kc, kc_congr k (fs := fun i => if i = j then u else fs i) (gs := fs) j (fun i hi => if_neg (by omega))]
    simp only [if_true]
    exact hown3
  · by_cases e : i = j
    · subst e
      simp only [if_true]
      exact hu.keep (Nat.le_refl _) (Nat.le_refl _) (fun q h1 h2 h3 => hgr.block q h3 (fun e => by have := hvl q e.symm; omega))
    · simp only [if_neg e]
      have hri := hr i (by omega)
      exact ((hls i (by omega)).still hb).keep (Nat.le_refl _) (Nat.le_refl _) (fun q h1 h2 h3 => hgr.block q h3 (fun e => by have := hri.2.2 q e.symm; omega))
  · refine ⟨?_, ?_, fun q hq => ?_⟩
    · dsimp only
      split
      · omega
      · exact (hr i (by omega)).1
    · dsimp only
      split
      · omega
      · have := (hr i (by omega)).2.1; omega
    · simp [Value.ownBlock] at hq
      subst hq
      dsimp only
      split
      · rcases hat with e | e
        · have := hvl g e; omega
        · omega
      · have hri := hr i (by omega)
        rcases hat with e | e
        · exact hri.2.2 g e
        · omega
  · dsimp only
    by_cases e : i' = j
    · subst e
      rw [if_pos rfl, if_neg (by omega)]
      have := (hr i (by omega)).2.1
      omega
    · rw [if_neg e, if_neg (by omega)]; exact hd i i' hii (by omega)

theorem Grw.done {k : List Tr} {B : Nat} {v : Value} {w : World} {n x : ByteArray} {le : Bool} (h : Grw k B k.length v w) (hn : n.size ≤ maxLen) (hx : x.size ≤ maxLen) : Own w B w.heap.size ⟨n, x, le, k⟩ v := by
  obtain ⟨fs, l, h, hown, hls, hr, hd⟩ := h
  rcases hown.2 with ⟨rfl, h0⟩ | ⟨g, cap, cur, rfl, hBg, hg, hnc, hcm, hcs, htake⟩
  · obtain rfl : k = [] := List.eq_nil_of_length_eq_zero h0
    exact Own.shut ⟨none, 0, B, fs, l, h, rfl, hn, hx, Nat.le_refl _, Nat.zero_le _, fun h => absurd h (Nat.not_lt_zero _), fun i hi => absurd hi (Nat.not_lt_zero _), fun i hi => absurd hi (Nat.not_lt_zero _), fun i hi => absurd hi (Nat.not_lt_zero _), fun i j hi hj => absurd hj (Nat.not_lt_zero _)⟩
  · have hlt : g < w.heap.size := (Array.getElem?_eq_some_iff.1 hg).1
    refine Own.shut ⟨some ⟨g, 0, none⟩, cap, g, fun i => (cur[i]?).getD (.bool false), l, h, rfl, hn, hx, hnc, hcm, fun _ => ⟨rfl, hBg, hlt, cur, hg, hcs, fun i hi => by simp [hcs, hi]⟩, fun i hi => ?_, fun i hi => ?_, fun i hi => ?_, fun i j hij hj => .inl (hd i j hij hj)⟩
    · dsimp only at hi ⊢
      obtain ⟨h0, h1, h2, h3⟩ := kc_get k fs k.length i hi
      rw [← htake, List.getElem?_take, if_pos (by omega)] at h0 h1 h2
      simp only [Array.getElem?_toList] at h0 h1 h2
      rw [h0, h1, h2, nth_eq hi]
      exact ⟨rfl, rfl, rfl⟩
    · dsimp only at hi ⊢
      obtain ⟨h0, h1, h2, h3⟩ := kc_get k fs k.length i hi
      rw [← htake, List.getElem?_take, if_pos (by omega)] at h3
      simp only [Array.getElem?_toList] at h3
      rw [h3, ← nth_eq hi]
      exact hls i hi
    · have := hr i hi
      exact ⟨this.1, this.2.1, this.2.2 g rfl⟩

theorem cell_four_box (w : World) (c0 c1 c2 c3 : Value) (T : TypeId) : ∀ j x, [c0, c1, c2, c3][j]? = some x → (w.alloc (.cells #[c0, c1, c2, c3] T)).cell? ((⟨w.heap.size, 0, none⟩ : Addr).add j) = some x :=
  World.news_of_block (cs := #[c0, c1, c2, c3]) (blk_alloc_new _ _)
theorem own_keep1 {w w' : World} {B e z : Nat} {v : Value} {n : Nat} {xs : List Value} (h : w.ownsRow B e z v n xs) (hb : ∀ k, v.ownBlock = some k → w'.heap[k]? = w.heap[k]?) : w'.ownsRow B e z v n xs := by
  refine ⟨h.1, ?_⟩
  rcases h.2 with h0 | ⟨g, cp, cur, r1, r2, r3, r4⟩
  · exact .inl h0
  · exact .inr ⟨g, cp, cur, r1, r2, by rw [hb g (by rw [r1]; rfl)]; exact r3, r4⟩
theorem Grw.past {k : List Tr} {B j g o : Nat} {v x : Value} {w : World} (h : Grw k B j v w) (hg : g < B) : Grw k B j v (w.setCell ⟨g, o, none⟩ x) := by
  obtain ⟨fs, l, hh, hown, hls, hr, hd⟩ := h
  refine ⟨fs, l, hh, own_keep1 hown (fun q hq => blk_setCell_other _ _ _ _ (by have := hown.lt q hq; show q ≠ g; omega)), fun i hi => (hls i hi).past (.inl (by have := hr i hi; omega)), fun i hi => ?_, hd⟩
  have := hr i hi
  simp only [World.size_setCell]
  exact this
end Go.Proofs.Ytledclkmeikgdaa.T
