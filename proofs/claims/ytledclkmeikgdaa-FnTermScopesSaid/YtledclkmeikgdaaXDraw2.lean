import Derived.Test.YtledclkmeikgdaaXDraw
import Derived.Test.YtledclkmeikgdaaXOutw
namespace Go.Proofs.Ytledclkmeikgdaa.T
open Go.RowKit Go.Deep Go.Lib
set_option linter.unusedVariables false
set_option maxRecDepth 100000
set_option linter.unusedSimpArgs false

theorem Grw.carry {k : List Tr} {B j : Nat} {v : Value} {w w' : World} (h : Grw k B j v w) (hs : w.heap.size ≤ w'.heap.size) (hk : ∀ q, B ≤ q → q < w.heap.size → w'.heap[q]? = w.heap[q]?) : Grw k B j v w' := by
  obtain ⟨fs, l, h, hown, hls, hr, hd⟩ := h
  refine ⟨fs, l, h, ⟨hown.1, ?_⟩, fun i hi => ?_, fun i hi => ?_, hd⟩
  · rcases hown.2 with e | ⟨g, cap, cur, e, hB, hg, rest⟩
    · exact .inl e
    · exact .inr ⟨g, cap, cur, e, hB, (hk g hB (Array.getElem?_eq_some_iff.1 hg).1).trans hg, rest⟩
  · exact (hls i hi).keep (Nat.le_refl _) (Nat.le_refl _) (fun q h1 h2 h3 => hk q (Nat.le_trans (hr i hi).1 h1) h3)
  · exact ⟨(hr i hi).1, Nat.le_trans (hr i hi).2.1 hs, (hr i hi).2.2⟩
theorem Grw.still {k : List Tr} {B j : Nat} {v : Value} {w w' : World} (h : Grw k B j v w) (hb : Below w.heap.size w w') : Grw k B j v w' := h.carry hb.size (fun q _ hq => hb.block q hq)
theorem Grw.out {k : List Tr} {B j c : Nat} {v : Value} {w w' : World} (h : Grw k B j v w) (ho : Out c (c + 1) w w') (hc : c < B) : Grw k B j v w' := h.carry ho.2.2.2.1 (fun q hq hl => ho.2.2.2.2 q hl (by omega))
theorem Grw.low {k : List Tr} {B B' j : Nat} {v : Value} {w : World} (h : Grw k B j v w) (hB : B' ≤ B) : Grw k B' j v w := by
  obtain ⟨fs, l, h, hown, hls, hr, hd⟩ := h
  refine ⟨fs, l, h, ⟨hown.1, ?_⟩, hls, fun i hi => ⟨Nat.le_trans hB (hr i hi).1, (hr i hi).2⟩, hd⟩
  rcases hown.2 with e | ⟨g, cap, cur, e, hB1, rest⟩
  · exact .inl e
  · exact .inr ⟨g, cap, cur, e, Nat.le_trans hB hB1, rest⟩
theorem Grw.form {k : List Tr} {B j : Nat} {v : Value} {w : World} (h : Grw k B j v w) : ∃ a m c, v = .slice a m c := by
  obtain ⟨fs, l, h, hown, _⟩ := h
  obtain ⟨a, cap, e⟩ := own_slice hown
  exact ⟨a, j, cap, e⟩
theorem Grw.nil (w : World) (B : Nat) (k : List Tr) : Grw k B 0 (.slice none 0 0) w :=
  ⟨fun _ => .bool false, fun _ => 0, fun _ => 0, World.ownsRow_nil _ _ _ _, fun i hi => absurd hi (Nat.not_lt_zero _), fun i hi => absurd hi (Nat.not_lt_zero _), fun i i' _ hi => absurd hi (Nat.not_lt_zero _)⟩
theorem Grw.made (w : World) (B : Nat) (k : List Tr) (hB : B ≤ w.heap.size) : Grw k B 0 (.slice (some ⟨w.heap.size, 0, none⟩) 0 0) (w.alloc (.cells #[] 40)) :=
  ⟨fun _ => .bool false, fun _ => 0, fun _ => 0, World.ownsRow_made (size := 4) w #[] 0 hB (Nat.zero_le _) rfl, fun i hi => absurd hi (Nat.not_lt_zero _), fun i hi => absurd hi (Nat.not_lt_zero _), fun i i' _ hi => absurd hi (Nat.not_lt_zero _)⟩
/-- One more Kid, made by a call that may write below B. -/
theorem Grw.stepO {k : List Tr} {B j g cap a c : Nat} {v u : Value} {wr w2 w3 : World} {fs : Nat → Value} {l h : Nat → Nat} (hown : wr.ownsRow B 40 4 v j (kc k fs j)) (hls : ∀ i, i < j → Own w2 (l i) (h i) (nth k i) (fs i))
    (hr : ∀ i, i < j → B ≤ l i ∧ h i ≤ wr.heap.size ∧ ∀ g, v.ownBlock = some g → g < l i ∨ h i ≤ g) (hd : ∀ i i', i < i' → i' < j → h i ≤ l i') (hB : B ≤ wr.heap.size)
    (hs : wr.heap.size ≤ w2.heap.size) (hu : Own w2 a c (nth k j) u) (ha : wr.heap.size ≤ a) (hc : c ≤ w2.heap.size)
    (hown3 : w3.ownsRow B 40 4 (.slice (some ⟨g, 0, none⟩) (j + 1) cap) (j + 1) (kc k fs j ++ [.string (nth k j).name, .string (nth k j).text, .bool (nth k j).leaf, u]))
    (hgr : w2.grownBy w3 v.ownBlock) (hat : v.ownBlock = some g ∨ g = w2.heap.size) : Grw k B (j + 1) (.slice (some ⟨g, 0, none⟩) (j + 1) cap) w3 := by
  have hs3 := hgr.size
  have hvl := hown.lt
  refine ⟨fun i => if i = j then u else fs i, fun i => if i = j then a else l i, fun i => if i = j then c else h i, ?_, fun i hi => ?_, fun i hi => ?_, fun i i' hii hi' => ?_⟩
  · rw [kc, kc_congr k (fs := fun i => if i = j then u else fs i) (gs := fs) j (fun i hi => if_neg (by omega))]
    simp only [if_true]
    exact hown3
  · by_cases e : i = j
    · subst e
      simp only [if_true]
      exact hu.keep (Nat.le_refl _) (Nat.le_refl _) (fun q h1 h2 h3 => hgr.block q h3 (fun e => by have := hvl q e.symm; omega))
    · simp only [if_neg e]
      have hri := hr i (by omega)
      exact (hls i (by omega)).keep (Nat.le_refl _) (Nat.le_refl _) (fun q h1 h2 h3 => hgr.block q h3 (fun e => by have := hri.2.2 q e.symm; omega))
  · refine ⟨?_, ?_, fun q hq => ?_⟩
    · dsimp only
      split
      · omega
      · exact (hr i (by omega)).1
    · dsimp only
      split
      · omega
      · have := (hr i (by omega)).2.1; omega
    · simp [Value.ownBlock] at hq
      subst hq
      dsimp only
      split
      · rcases hat with e | e
        · have := hvl g e; omega
        · omega
      · have hri := hr i (by omega)
        rcases hat with e | e
        · exact hri.2.2 g e
        · omega
  · dsimp only
    by_cases e : i' = j
    · subst e
      rw [if_pos rfl, if_neg (by omega)]
      have := (hr i (by omega)).2.1
      omega
    · rw [if_neg e, if_neg (by omega)]; exact hd i i' hii (by omega)
theorem Box4.out {w w' : World} {b c : Nat} {c0 c1 c2 c3 : Value} (h : Box4 w b c0 c1 c2 c3) (ho : Out c (c + 1) w w') (hb : c < b) : Box4 w' b c0 c1 c2 c3 := h.keep (ho.2.2.2.2 b h.lt (by omega))
theorem Out.below {c : Nat} {a b d : World} (h : Out c (c + 1) a b) (g : Below b.heap.size b d) : Out c (c + 1) a d := h.trans (Out.of_below g)
theorem Cur.lt {w : World} {cs : List UInt8} {a : Option Addr} {cap b off c : Nat} {s : Nat × Nat} (h : Cur w cs a cap b off c s) : c < w.heap.size := h.2.2.2.2.2.2.2.2.lt
theorem Cur.set {w : World} {cs : List UInt8} {a : Option Addr} {cap b off c g o : Nat} {s : Nat × Nat} {x : Value} (h : Cur w cs a cap b off c s) (hg : c < g) : Cur (w.setCell ⟨g, o, none⟩ x) cs a cap b off c s :=
  h.keep (fun k hk => blk_setCell_other _ _ _ _ (by show k ≠ g; omega))
theorem Grw.set {k : List Tr} {B j g o : Nat} {v x : Value} {w : World} (h : Grw k B j v w) (hg : g < B) : Grw k B j v (w.setCell ⟨g, o, none⟩ x) :=
  h.carry (by simp [World.setCell]) (fun q hq _ => blk_setCell_other _ _ _ _ (by show q ≠ g; omega))
theorem Out.put {c g o : Nat} {a b : World} {x : Value} (h : Out c (c + 1) a b) (hg : a.heap.size ≤ g) : Out c (c + 1) a (b.setCell ⟨g, o, none⟩ x) :=
  ⟨h.1, h.2.1, h.2.2.1, by have := h.2.2.2.1; simp [World.setCell]; omega, fun k hk hn => (blk_setCell_other _ _ _ _ (by show k ≠ g; omega)).trans (h.2.2.2.2 k hk hn)⟩

/-- A leaf drawn. -/
def cLeaf (cs : List UInt8) (s : Nat × Nat) : Tr × (Nat × Nat) := (⟨(cName cs s).1, (cText cs (cName cs s).2).1, true, []⟩, (cText cs (cName cs s).2).2)
/-- The state behind j draws. -/
def cSt (f : Nat × Nat → Tr × (Nat × Nat)) : Nat → Nat × Nat → Nat × Nat
  | 0, s => s
  | j + 1, s => (f (cSt f j s)).2
def cKids (f : Nat × Nat → Tr × (Nat × Nat)) (m : Nat) (s : Nat × Nat) : List Tr := (List.range m).map fun j => (f (cSt f j s)).1
theorem cKids_len (f : Nat × Nat → Tr × (Nat × Nat)) (m : Nat) (s : Nat × Nat) : (cKids f m s).length = m := by simp [cKids]
theorem cKids_nth (f : Nat × Nat → Tr × (Nat × Nat)) (m : Nat) (s : Nat × Nat) (j : Nat) (h : j < m) : nth (cKids f m s) j = (f (cSt f j s)).1 := by simp [nth, cKids, h]
/-- A tree drawn. -/
def cNode (cs : List UInt8) (f : Nat × Nat → Tr × (Nat × Nat)) (m : Nat) (s : Nat × Nat) : Tr × (Nat × Nat) := (⟨(cName cs (cSt f m s)).1, ByteArray.empty, false, cKids f m s⟩, (cName cs (cSt f m s)).2)
def cTree (cs : List UInt8) : Nat → Nat × Nat → Tr × (Nat × Nat)
  | 0, s => cLeaf cs s
  | d + 1, s => if (cPick cs 3 s).1 = 0 then cLeaf cs (cPick cs 3 s).2 else cNode cs (cTree cs d) (cPick cs 4 (cPick cs 3 s).2).1 (cPick cs 4 (cPick cs 3 s).2).2
theorem wtL_le (k : List Tr) (W : Nat) (h : ∀ x ∈ k, x.wt ≤ W) : Tr.wtL k ≤ k.length * W := by
  induction k with
  | nil => simp [Tr.wtL]
  | cons t r ih =>
    have h1 := h t (by simp)
    have h2 := ih (fun x hx => h x (by simp [hx]))
    simp [Tr.wtL] at h2 ⊢
    have e : (r.length + 1) * W = r.length * W + W := Nat.succ_mul _ _
    omega
theorem cTree_wt (cs : List UInt8) : ∀ d s, (cTree cs d s).1.wt ≤ 40 * 4 ^ d
  | 0, s => by
    have h1 := cName_size cs s
    have h2 := cText_size cs (cName cs s).2
    show Tr.wt ⟨_, _, _, _⟩ ≤ _
    rw [Tr.wt_mk]
    simp [Tr.wtL]
    omega
  | d + 1, s => by
    unfold cTree
    split
    · have h1 := cName_size cs (cPick cs 3 s).2
      have h2 := cText_size cs (cName cs (cPick cs 3 s).2).2
      show Tr.wt ⟨_, _, _, _⟩ ≤ _
      rw [Tr.wt_mk]
      simp [Tr.wtL]
      have : 0 < 4 ^ (d + 1) := Nat.pow_pos (by decide)
      omega
    · have hm := cPick_lt cs 4 (cPick cs 3 s).2 (by decide)
      generalize cPick cs 4 (cPick cs 3 s).2 = p at *
      obtain ⟨m, s2⟩ := p
      dsimp only at hm ⊢
      have h1 := cName_size cs (cSt (cTree cs d) m s2)
      have h2 := wtL_le (cKids (cTree cs d) m s2) (40 * 4 ^ d) (fun x hx => by
        obtain ⟨j, _, rfl⟩ := List.mem_map.1 hx
        exact cTree_wt cs d _)
      have h0 : 0 < 4 ^ d := Nat.pow_pos (by decide)
      rw [cKids_len] at h2
      show Tr.wt ⟨_, _, _, _⟩ ≤ _
      rw [Tr.wt_mk, cKids_len]
      have e : 4 ^ (d + 1) = 4 ^ d * 4 := Nat.pow_succ ..
      rw [e]
      have h3 : m * (40 * 4 ^ d) ≤ 3 * (40 * 4 ^ d) := Nat.mul_le_mul_right _ (by omega)
      have h4 : ByteArray.empty.size = 0 := rfl
      omega
theorem cTree_nm (cs : List UInt8) (d : Nat) (s : Nat × Nat) : (cTree cs d s).1.name.size ≤ maxLen ∧ (cTree cs d s).1.text.size ≤ maxLen := by
  have hn := fun s => cName_size cs s
  have ht := fun s => cText_size cs s
  cases d with
  | zero => exact ⟨Nat.le_trans (hn _) (by unfold maxLen; omega), Nat.le_trans (ht _) (by unfold maxLen; omega)⟩
  | succ d =>
    unfold cTree
    split
    · exact ⟨Nat.le_trans (hn _) (by unfold maxLen; omega), Nat.le_trans (ht _) (by unfold maxLen; omega)⟩
    · exact ⟨Nat.le_trans (hn _) (by unfold maxLen; omega), Nat.zero_le _⟩

/-- What a drawing call comes to. -/
def Drew (cs : List UInt8) (a : Option Addr) (cap b off c : Nat) (r : Tr × (Nat × Nat)) (w : World) (e : Ending) (w' : World) : Prop :=
  ∃ xa xm xc, e = .returned (r.1.val (.slice xa xm xc)) ∧ Out c (c + 1) w w' ∧ Cur w' cs a cap b off c r.2 ∧ Grw r.1.kids w.heap.size r.1.kids.length (.slice xa xm xc) w'

set_option maxHeartbeats 1600000 in
theorem drawTree_any {cs : List UInt8} {a : Option Addr} {cap b off c : Nat} (d : Nat) : ∀ (s : Nat × Nat) (w : World), Cur w cs a cap b off c s → d ≤ 6 →
    Calls Try.prog 109 #[.pointer (some ⟨c, 0, none⟩), .int .i64 d] w fun e w' => Drew cs a cap b off c (cTree cs d s) w e w' := by
  induction d with
  | zero =>
    intro s w hc hd
    have e : cTree cs 0 s = (⟨(cName cs s).1, (cText cs (cName cs s).2).1, true, []⟩, (cText cs (cName cs s).2).2) := rfl
    rw [e]
    have hlt := hc.lt
    have hcl := nameD_any _ (hc.still (bel_alloc w (.cells #[.string ByteArray.empty, .string ByteArray.empty, .bool false, .slice none 0 0] 40)))
    have HCL := (show Hid _ from hcl); clear hcl hc e
    have htx : ∀ s1 w1, Cur w1 cs a cap b off c s1 → _ := fun s1 w1 h => textD_any w1 h
    have HTX := (show Hid _ from htx); clear htx
    generalize cName cs s = q at *
    obtain ⟨nm, s1⟩ := q
    dsimp only
    have HT1 := (show Hid _ from HTX.out s1); clear HTX
    generalize cText cs s1 = q2 at *
    obtain ⟨tx, s2⟩ := q2
    dsimp only
    have R0 := Box4.new w (.string ByteArray.empty) (.string ByteArray.empty) (.bool false) (.slice none 0 0)
    have HR0 := (show Hid _ from R0); clear R0
    go_enter Try.func109, Try.ntmps109
    go_wp2_with fail
    refine Calls.mono HCL.out ?_
    rintro e w1 ⟨rfl, ho1, hc1⟩
    dsimp only at hc1 ⊢
    have HR1 := (show Hid _ from Box4.out HR0.out ho1 hlt)
    have hcl := HT1.out w1 hc1
    have HCL := (show Hid _ from hcl); clear hcl hc1
    go_wp2_with fail
    refine Calls.mono HCL.out ?_
    rintro e w2 ⟨rfl, ho2, hc2⟩
    dsimp only at hc2 ⊢
    have HR2 := (show Hid _ from Box4.out HR1.out ho2 hlt)
    have H2 := (show Hid _ from (⟨((Out.of_below (bel_alloc w _)).trans ho1).trans ho2, hc2⟩ : Out c (c + 1) w w2 ∧ _)); clear ho1 ho2 hc2
    go_wp2_with fail
    refine Calls.mono (leafD_any nm tx w2) ?_
    rintro e w3 ⟨rfl, hb3⟩
    have R3 := Box4.still HR2.out hb3
    obtain ⟨Z0, Z1, Z2, Z3⟩ := R3.cells
    have y0 := R3.frozen 0
    have y1 := R3.frozen 1
    have y2 := R3.frozen 2
    have y3 := R3.frozen 3
    have H3 := (show Hid _ from (⟨Out.below H2.out.1 hb3, Cur.still H2.out.2 hb3⟩ : _ ∧ _)); clear R3 hb3
    go_wp2_with fail
    refine bodyPost_ret (v := .agg #[.string nm, .string tx, .bool true, .slice none 0 0]) (by simp [results, Try.results109, go_sem, Z0, Z1, Z2, Z3]) rfl ?_
    exact ⟨none, 0, 0, rfl, (((H3.out.1.put (Nat.le_refl _)).put (Nat.le_refl _)).put (Nat.le_refl _)).put (Nat.le_refl _), (((Cur.set H3.out.2 hlt).set hlt).set hlt).set hlt, Grw.nil _ _ _⟩
  | succ d ih =>
    intro s w hc hd
    rw [show ((d + 1 : Nat) : Int) = (d : Int) + 1 from rfl]
    have hlt := hc.lt
    have hsub : (d : Int) + 1 - 1 = d := by omega
    have hd6 : (d : Int) ≤ 6 := by omega
    have hpk := pick_any 3 _ (hc.still (bel_alloc w (.cells #[.string ByteArray.empty, .string ByteArray.empty, .bool false, .slice none 0 0] 40))) (by decide)
    have HPK := (show Hid _ from hpk); clear hpk hc
    have HIH := (show Hid _ from ih); clear ih
    have R0 := Box4.new w (.string ByteArray.empty) (.string ByteArray.empty) (.bool false) (.slice none 0 0)
    have HR0 := (show Hid _ from R0); clear R0
    by_cases hk : (cPick cs 3 s).1 = 0
    · have e : cTree cs (d + 1) s = cLeaf cs (cPick cs 3 s).2 := if_pos hk
      have e2 : cLeaf cs (cPick cs 3 s).2 = (⟨(cName cs (cPick cs 3 s).2).1, (cText cs (cName cs (cPick cs 3 s).2).2).1, true, []⟩, (cText cs (cName cs (cPick cs 3 s).2).2).2) := rfl
      rw [e, e2]
      clear e e2
      generalize cPick cs 3 s = q at *
      obtain ⟨q, s1⟩ := q
      dsimp only at hk ⊢
      subst hk
      have hnm : ∀ w1, Cur w1 cs a cap b off c s1 → _ := fun w1 h => nameD_any w1 h
      have HNM := (show Hid _ from hnm); clear hnm
      generalize cName cs s1 = q1 at *
      obtain ⟨nm, s2⟩ := q1
      dsimp only
      have htx : ∀ w1, Cur w1 cs a cap b off c s2 → _ := fun w1 h => textD_any w1 h
      have HTX := (show Hid _ from htx); clear htx
      generalize cText cs s2 = q2 at *
      obtain ⟨tx, s3⟩ := q2
      dsimp only
      go_enter Try.func109, Try.ntmps109
      go_wp2_with fail
      refine Calls.mono HPK.out ?_
      rintro e w1 ⟨rfl, ho1, _, hc1⟩
      dsimp only at hc1 ⊢
      have HR1 := (show Hid _ from Box4.out HR0.out ho1 hlt)
      have hcl := HNM.out w1 hc1
      have HCL := (show Hid _ from hcl); clear hcl hc1
      go_wp2_with fail
      refine Calls.mono HCL.out ?_
      rintro e w2 ⟨rfl, ho2, hc2⟩
      dsimp only at hc2 ⊢
      have HR2 := (show Hid _ from Box4.out HR1.out ho2 hlt)
      have hcl := HTX.out w2 hc2
      have HCL := (show Hid _ from hcl); clear hcl hc2
      go_wp2_with fail
      refine Calls.mono HCL.out ?_
      rintro e w3 ⟨rfl, ho3, hc3⟩
      dsimp only at hc3 ⊢
      have HR3 := (show Hid _ from Box4.out HR2.out ho3 hlt)
      have H3 := (show Hid _ from (⟨(((Out.of_below (bel_alloc w _)).trans ho1).trans ho2).trans ho3, hc3⟩ : Out c (c + 1) w w3 ∧ _)); clear ho1 ho2 ho3 hc3
      go_wp2_with fail
      refine Calls.mono (leafD_any nm tx w3) ?_
      rintro e w4 ⟨rfl, hb4⟩
      have R4 := Box4.still HR3.out hb4
      obtain ⟨Z0, Z1, Z2, Z3⟩ := R4.cells
      have y0 := R4.frozen 0
      have y1 := R4.frozen 1
      have y2 := R4.frozen 2
      have y3 := R4.frozen 3
      have H4 := (show Hid _ from (⟨Out.below H3.out.1 hb4, Cur.still H3.out.2 hb4⟩ : _ ∧ _)); clear R4 hb4
      go_wp2_with fail
      refine bodyPost_ret (v := .agg #[.string nm, .string tx, .bool true, .slice none 0 0]) (by simp [results, Try.results109, go_sem, Z0, Z1, Z2, Z3]) rfl ?_
      exact ⟨none, 0, 0, rfl, (((H4.out.1.put (Nat.le_refl _)).put (Nat.le_refl _)).put (Nat.le_refl _)).put (Nat.le_refl _), (((Cur.set H4.out.2 hlt).set hlt).set hlt).set hlt, Grw.nil _ _ _⟩
    · have e : cTree cs (d + 1) s = cNode cs (cTree cs d) (cPick cs 4 (cPick cs 3 s).2).1 (cPick cs 4 (cPick cs 3 s).2).2 := if_neg hk
      rw [e]
      clear e
      generalize cPick cs 3 s = q at *
      obtain ⟨q, s1⟩ := q
      dsimp only at hk ⊢
      have hkb : ((q : Int) == 0) = false := by simp; omega
      have hkd : q ≠ 0 := hk
      have hp4 : ∀ w1, Cur w1 cs a cap b off c s1 → _ := fun w1 h => pick_any 4 w1 h (by decide)
      have HP4 := (show Hid _ from hp4); clear hp4
      have hm := cPick_lt cs 4 s1 (by decide)
      generalize cPick cs 4 s1 = q1 at *
      obtain ⟨m, s2⟩ := q1
      dsimp only at hm ⊢
      obtain ⟨i28, hi28, hzz⟩ := Option.map_eq_some_iff.1 info40
      simp only [Prod.mk.injEq] at hzz
      obtain ⟨hz0, hz1, hz2⟩ := hzz
      go_enter Try.func109, Try.ntmps109
      go_wp2_with fail
      refine Calls.mono HPK.out ?_
      rintro e w1 ⟨rfl, ho1, hs1, hc1⟩
      dsimp only at hc1 ⊢
      have hsz1 : w.heap.size + 1 ≤ w1.heap.size := by rw [hs1]; simp
      clear hs1
      have HR1 := (show Hid _ from (Box4.out HR0.out ho1 hlt).still (bel_alloc w1 (.cells #[] 40)))
      have hcl := HP4.out _ (hc1.still (bel_alloc w1 (.cells #[] 40)))
      have hG1 := Grw.made w1 (w.heap.size + 1) (cKids (cTree cs d) m s2) (by omega)
      have HG1 := (show Hid _ from hG1); clear hG1
      have HCL := (show Hid _ from hcl); clear hcl hc1
      have H1 := (show Hid _ from (((Out.of_below (bel_alloc w _)).trans ho1).below (bel_alloc w1 (.cells #[] 40)) : Out c (c + 1) w _)); clear ho1
      go_wp2_with fail
      refine Calls.mono HCL.out ?_
      rintro e w2 ⟨rfl, ho2, hs2, hc2⟩
      dsimp only at hc2 ⊢
      have H2 := (show Hid _ from (⟨Out.trans H1.out ho2, hc2, Box4.out HR1.out ho2 hlt, Grw.out HG1.out ho2 (by omega)⟩ : _ ∧ _ ∧ _ ∧ _)); clear ho2 hc2 hs2
      go_wp2_with fail
      go_loopw [5, 6] (fun u i wr => ∃ (j : Nat), j ≤ m ∧ i = .int .i64 (m - j : Nat) ∧ (∃ a' m' c', u = .slice a' m' c') ∧ w.heap.size + 1 ≤ wr.heap.size ∧ Hid (Out c (c + 1) w wr ∧ Cur wr cs a cap b off c (cSt (cTree cs d) j s2) ∧ Box4 wr w.heap.size (.string ByteArray.empty) (.string ByteArray.empty) (.bool false) (.slice none 0 0) ∧ Grw (cKids (cTree cs d) m s2) (w.heap.size + 1) j u wr)) (fun _ i _ => (intOf i).toNat)
      case atStart => exact ⟨0, Nat.zero_le _, rfl, ⟨_, _, _, rfl⟩, by have := H2.out.2.2.1.lt; omega, H2.out⟩
      case round =>
        obtain ⟨j, hj, rfl, ⟨a', m', c', rfl⟩, hwz, HR⟩ := hrel
        by_cases hlj : j < m
        · have hmj : (0 : Int) < ((m - j : Nat) : Int) := by omega
          have hcl := HIH.out _ wr HR.out.2.1 (by omega)
          have HCL := (show Hid _ from hcl); clear hcl
          have hnm := cTree_nm cs d (cSt (cTree cs d) j s2)
          have hnt : nth (cKids (cTree cs d) m s2) j = (cTree cs d (cSt (cTree cs d) j s2)).1 := cKids_nth _ _ _ _ hlj
          have hst : cSt (cTree cs d) (j + 1) s2 = (cTree cs d (cSt (cTree cs d) j s2)).2 := rfl
          have HE := (show Hid _ from (⟨hnt, hst⟩ : _ ∧ _)); clear hnt hst
          generalize hkd : cTree cs d (cSt (cTree cs d) j s2) = kd at *
          obtain ⟨kd, s3⟩ := kd
          dsimp only at hnm HE
          generalize hmm : m - j = mj at *
          go_wp2_with fail
          refine Calls.mono HCL.out ?_
          rintro e w3 ⟨xa, xm, xc, rfl, ho3, hc3, hg3⟩
          dsimp only at hc3 hg3 ⊢
          obtain ⟨fs, ls, hs, hown, hls, hr, hd'⟩ := HR.out.2.2.2
          have hok := Grw.done (n := kd.name) (x := kd.text) (le := kd.leaf) hg3 hnm.1 hnm.2
          have hkd' : Own w3 wr.heap.size w3.heap.size kd (.slice xa xm xc) := by cases kd; exact hok
          have hG := Grw.out (⟨fs, ls, hs, hown, hls, hr, hd'⟩ : Grw (cKids (cTree cs d) m s2) (w.heap.size + 1) j (.slice a' m' c') wr) ho3 (by omega)
          have hls3 : ∀ i, i < j → Own w3 (ls i) (hs i) (nth (cKids (cTree cs d) m s2) i) (fs i) := fun i hi => (hls i hi).keep (Nat.le_refl _) (Nat.le_refl _) (fun q h1 h2 h3 => ho3.2.2.2.2 q h3 (by have := (hr i hi).1; omega))
          have hown2 : (w3.alloc (.cells #[.string kd.name, .string kd.text, .bool kd.leaf, .slice xa xm xc] 40)).ownsRow (w.heap.size + 1) 40 4 (.slice a' m' c') j (kc (cKids (cTree cs d) m s2) fs j) := by
            refine own_still (w := w3) ⟨hown.1, ?_⟩ (bel_alloc _ _)
            rcases hown.2 with e | ⟨g, cap', cur, e, hB, hg, rest⟩
            · exact .inl e
            · exact .inr ⟨g, cap', cur, e, hB, (ho3.2.2.2.2 g (Array.getElem?_eq_some_iff.1 hg).1 (by omega)).trans hg, rest⟩
          have HO2 := (show Hid _ from hown2)
          have HF := (show Hid _ from (⟨hkd', hown, hls3, hr, hd', Out.trans HR.out.1 ho3, hc3, Box4.out HR.out.2.2.1 ho3 hlt, ho3.2.2.2.1⟩ : _ ∧ _ ∧ _ ∧ _ ∧ _ ∧ _ ∧ _ ∧ _ ∧ _)); clear hkd' hown hls hls3 hr hd' hown2 hok hG hg3 hc3 ho3
          have hj6 : j + 1 ≤ 4 := by omega
          go_wp2_with (at_builtin; refine wpList_append_lies _ rfl (.tmp 26) (.tmp 31) 38 rfl (w.heap.size + 1) 40 i28 _ 4 64 Try.underlying38 hi28 hz0 hz1 hz2 rfl (by decide) _ j (kc (cKids (cTree cs d) m s2) fs j) rfl HO2.out ⟨w3.heap.size, 0, none⟩ 1 1 [.string kd.name, .string kd.text, .bool kd.leaf, .slice xa xm xc] rfl rfl ?c1 ?c2 (by decide) ?c3 (by omega) ?c5 _ rfl ?nx)
          case c1 => exact cell_four_box _ _ _ _ _ _
          case c2 => intro u hu; simp at hu; rcases hu with rfl | rfl | rfl | rfl <;> rfl
          case c3 => unfold maxLen; omega
          case c5 => have := HF.out.2.2.2.2.2.2.2.2; simp; omega
          case nx =>
            intro g4 cap4 w4 hown4 hgr4 hat4 hlt4
            obtain ⟨hkd', hown, hls3, hr, hd', ho, hc3, hbx, hss⟩ := HF.out
            have hvl := hown.lt
            have hG4 : Grw (cKids (cTree cs d) m s2) (w.heap.size + 1) (j + 1) (.slice (some ⟨g4, 0, none⟩) (j + 1) cap4) w4 := by
              have h1 := hkd'
              rw [← HE.out.1] at hown4 h1
              exact Grw.stepO hown (fun i hi => (hls3 i hi).still (bel_alloc _ _)) hr hd' hwz (by simp; omega) (h1.still (bel_alloc _ _)) (Nat.le_refl _) (by simp) hown4 hgr4 (by rw [World.size_alloc]; exact hat4)
            have hblk : ∀ q, q < w.heap.size + 1 → w4.heap[q]? = w3.heap[q]? := fun q hq => (hgr4.block q (by simp; omega) (fun e => by have := hvl q e.symm; omega)).trans ((bel_alloc w3 _).block q (by omega))
            have hsz4 : w3.heap.size + 1 ≤ w4.heap.size := by have := hgr4.size; simp at this; omega
            have ho4 : Out c (c + 1) w w4 := ⟨hgr4.os.trans ho.1, hgr4.tape.trans ho.2.1, hgr4.output.trans ho.2.2.1, by have := ho.2.2.2.1; omega, fun k hk hn => (hblk k (by omega)).trans (ho.2.2.2.2 k hk hn)⟩
            have hc4 := hc3.keep (fun k hk => hblk k (by omega))
            have hb4 := hbx.keep (hblk w.heap.size (by omega))
            rw [← HE.out.2] at hc4
            have HG4 := (show Hid _ from (⟨ho4, hc4, hb4, hG4⟩ : _ ∧ _ ∧ _ ∧ _)); clear ho4 hc4 hb4 hG4 hown4 hgr4 hat4 hkd' hown hls3 hr hd' ho hc3 hbx hblk hvl
            go_wp2_with fail
            exact ⟨⟨j + 1, by omega, val_int (by omega), ⟨_, _, _, rfl⟩, by omega, HG4⟩, by simp [intOf]; omega⟩
        · have hje : j = m := by omega
          subst hje
          have hnm := nameD_any wr HR.out.2.1
          have HNM := (show Hid _ from hnm); clear hnm
          have hcn : cNode cs (cTree cs d) j s2 = (⟨(cName cs (cSt (cTree cs d) j s2)).1, ByteArray.empty, false, cKids (cTree cs d) j s2⟩, (cName cs (cSt (cTree cs d) j s2)).2) := rfl
          have HCN := (show Hid _ from hcn); clear hcn
          generalize cName cs (cSt (cTree cs d) j s2) = q1 at *
          obtain ⟨nm, s3⟩ := q1
          have hz : ((j - j : Nat) : Int) ≤ 0 := by omega
          generalize hjj : j - j = jj at *
          go_wp2_with fail
          refine Calls.mono HNM.out ?_
          rintro e w3 ⟨rfl, ho3, hc3⟩
          dsimp only at hc3 ⊢
          go_wp2_with fail
          refine Calls.mono (nodeD_any nm _ _ _ w3) ?_
          rintro e w4 ⟨rfl, hb4⟩
          have R4 := (Box4.out HR.out.2.2.1 ho3 hlt).still hb4
          obtain ⟨Z0, Z1, Z2, Z3⟩ := R4.cells
          have y0 := R4.frozen 0
          have y1 := R4.frozen 1
          have y2 := R4.frozen 2
          have y3 := R4.frozen 3
          have H4 := (show Hid _ from (⟨(Out.trans HR.out.1 ho3).below hb4, hc3.still hb4, (Grw.out HR.out.2.2.2 ho3 (by omega)).still hb4⟩ : _ ∧ _ ∧ _)); clear R4 hb4 ho3 hc3
          go_wp2_with fail
          refine bodyPost_ret (v := .agg #[.string nm, .string ByteArray.empty, .bool false, .slice a' m' c']) (by simp [results, Try.results109, go_sem, Z0, Z1, Z2, Z3]) rfl ?_
          rw [HCN.out]
          refine ⟨a', m', c', rfl, (((H4.out.1.put (Nat.le_refl _)).put (Nat.le_refl _)).put (Nat.le_refl _)).put (Nat.le_refl _), (((Cur.set H4.out.2.1 hlt).set hlt).set hlt).set hlt, ?_⟩
          dsimp only
          rw [cKids_len]
          exact Grw.low ((((Grw.set H4.out.2.2 (Nat.lt_succ_self _)).set (Nat.lt_succ_self _)).set (Nat.lt_succ_self _)).set (Nat.lt_succ_self _)) (Nat.le_succ w.heap.size)
end Go.Proofs.Ytledclkmeikgdaa.T
