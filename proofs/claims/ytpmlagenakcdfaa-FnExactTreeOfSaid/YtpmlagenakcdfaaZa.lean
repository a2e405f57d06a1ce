import Derived.Test.YtpmlagenakcdfaaXEq
import Derived.Test.YtpmlagenakcdfaaXSize
import Derived.Test.YtpmlagenakcdfaaXRight
import Derived.Test.YtpmlagenakcdfaaYb
import Derived.Test.YtpmlagenakcdfaaTim
/-! Rows of Kids that grow, marks and what is held of a tree. -/
namespace Go.Proofs.Ytpmlagenakcdfaa.T
open Go.RowKit Go.Deep Go.Lib
set_option linter.unusedVariables false
set_option maxRecDepth 100000
set_option linter.unusedSimpArgs false

theorem Grw.carry {k : List Tr} {B j : Nat} {v : Value} {w w' : World} (h : Grw k B j v w) (hs : w.heap.size ≤ w'.heap.size) (hk : ∀ q, B ≤ q → q < w.heap.size → w'.heap[q]? = w.heap[q]?) : Grw k B j v w' := by
  obtain ⟨fs, l, h, hown, hls, hr, hd⟩ := h
  refine ⟨fs, l, h, ⟨hown.1, ?_⟩, fun i hi => ?_, fun i hi => ?_, hd⟩
  · rcases hown.2 with e | ⟨g, cap, cur, e, hB, hg, rest⟩
    · exact .inl e
    · exact .inr ⟨g, cap, cur, e, hB, (hk g hB (Array.getElem?_eq_some_iff.1 hg).1).trans hg, rest⟩
  · exact (hls i hi).keep (Nat.le_refl _) (Nat.le_refl _) (fun q h1 h2 h3 => hk q (Nat.le_trans (hr i hi).1 h1) h3)
  · exact ⟨(hr i hi).1, Nat.le_trans (hr i hi).2.1 hs, (hr i hi).2.2⟩
theorem Grw.still {k : List Tr} {B j : Nat} {v : Value} {w w' : World} (h : Grw k B j v w) (hb : Below w.heap.size w w') : Grw k B j v w' := h.carry hb.size (fun q _ hq => hb.block q hq)
theorem Grw.low {k : List Tr} {B B' j : Nat} {v : Value} {w : World} (h : Grw k B j v w) (hB : B' ≤ B) : Grw k B' j v w := by
  obtain ⟨fs, l, h, hown, hls, hr, hd⟩ := h
  refine ⟨fs, l, h, ⟨hown.1, ?_⟩, hls, fun i hi => ⟨Nat.le_trans hB (hr i hi).1, (hr i hi).2⟩, hd⟩
  rcases hown.2 with e | ⟨g, cap, cur, e, hB1, rest⟩
  · exact .inl e
  · exact .inr ⟨g, cap, cur, e, Nat.le_trans hB hB1, rest⟩
theorem Grw.form {k : List Tr} {B j : Nat} {v : Value} {w : World} (h : Grw k B j v w) : ∃ a m c, v = .slice a m c := by
  obtain ⟨fs, l, h, hown, _⟩ := h
  obtain ⟨a, cap, e⟩ := own_slice hown
  exact ⟨a, j, cap, e⟩
theorem Grw.nil (w : World) (B : Nat) (k : List Tr) : Grw k B 0 (.slice none 0 0) w :=
  ⟨fun _ => .bool false, fun _ => 0, fun _ => 0, World.ownsRow_nil _ _ _ _, fun i hi => absurd hi (Nat.not_lt_zero _), fun i hi => absurd hi (Nat.not_lt_zero _), fun i i' _ hi => absurd hi (Nat.not_lt_zero _)⟩
theorem Grw.made (w : World) (B : Nat) (k : List Tr) (hB : B ≤ w.heap.size) : Grw k B 0 (.slice (some ⟨w.heap.size, 0, none⟩) 0 0) (w.alloc (.cells #[] 48)) :=
  ⟨fun _ => .bool false, fun _ => 0, fun _ => 0, World.ownsRow_made (size := 4) w #[] 0 hB (Nat.zero_le _) rfl, fun i hi => absurd hi (Nat.not_lt_zero _), fun i hi => absurd hi (Nat.not_lt_zero _), fun i i' _ hi => absurd hi (Nat.not_lt_zero _)⟩
/-- One more Kid, made by a call that may write below B. -/
theorem Grw.stepO {k : List Tr} {B j g cap a c : Nat} {v u : Value} {wr w2 w3 : World} {fs : Nat → Value} {l h : Nat → Nat} (hown : wr.ownsRow B 48 4 v j (kc k fs j)) (hls : ∀ i, i < j → Own w2 (l i) (h i) (nth k i) (fs i))
    (hr : ∀ i, i < j → B ≤ l i ∧ h i ≤ wr.heap.size ∧ ∀ g, v.ownBlock = some g → g < l i ∨ h i ≤ g) (hd : ∀ i i', i < i' → i' < j → h i ≤ l i') (hB : B ≤ wr.heap.size)
    (hs : wr.heap.size ≤ w2.heap.size) (hu : Own w2 a c (nth k j) u) (ha : wr.heap.size ≤ a) (hc : c ≤ w2.heap.size)
    (hown3 : w3.ownsRow B 48 4 (.slice (some ⟨g, 0, none⟩) (j + 1) cap) (j + 1) (kc k fs j ++ [.string (nth k j).name, .string (nth k j).text, .bool (nth k j).leaf, u]))
    (hgr : w2.grownBy w3 v.ownBlock) (hat : v.ownBlock = some g ∨ g = w2.heap.size) : Grw k B (j + 1) (.slice (some ⟨g, 0, none⟩) (j + 1) cap) w3 := by
  have hs3 := hgr.size
  have hvl := hown.lt
  refine ⟨fun i => if i = j then u else fs i, fun i => if i = j then a else l i, fun i => if i = j then c else h i, ?_, fun i hi => ?_, fun i hi => ?_, fun i i' hii hi' => ?_⟩
  · rw [kc, kc_congr k (fs := fun i => if i = j then u else fs i) (gs := fs) j (fun i hi => if_neg (by omega))]
    simp only [if_true]
    exact hown3
  · by_cases e : i = j
    · subst e
      simp only [if_true]
      exact hu.keep (Nat.le_refl _) (Nat.le_refl _) (fun q h1 h2 h3 => hgr.block q h3 (fun e => by have := hvl q e.symm; omega))
    · simp only [if_neg e]
      have hri := hr i (by omega)
      exact (hls i (by omega)).keep (Nat.le_refl _) (Nat.le_refl _) (fun q h1 h2 h3 => hgr.block q h3 (fun e => by have := hri.2.2 q e.symm; omega))
  · refine ⟨?_, ?_, fun q hq => ?_⟩
    · dsimp only
      split
      · omega
      · exact (hr i (by omega)).1
    · dsimp only
      split
      · omega
      · have := (hr i (by omega)).2.1; omega
    · simp [Value.ownBlock] at hq
      subst hq
      dsimp only
      split
      · rcases hat with e | e
        · have := hvl g e; omega
        · omega
      · have hri := hr i (by omega)
        rcases hat with e | e
        · exact hri.2.2 g e
        · omega
  · dsimp only
    by_cases e : i' = j
    · subst e
      rw [if_pos rfl, if_neg (by omega)]
      have := (hr i (by omega)).2.1
      omega
    · rw [if_neg e, if_neg (by omega)]; exact hd i i' hii (by omega)
theorem Grw.set {k : List Tr} {B j g o : Nat} {v x : Value} {w : World} (h : Grw k B j v w) (hg : g < B) : Grw k B j v (w.setCell ⟨g, o, none⟩ x) :=
  h.carry (by simp [World.setCell]) (fun q hq _ => blk_setCell_other _ _ _ _ (by show q ≠ g; omega))
theorem nth_ext (l r : List Tr) {i : Nat} (h : i < l.length) : nth (l ++ r) i = nth l i := by unfold nth; rw [List.getElem?_append_left h]
theorem kc_ext (l r : List Tr) (fs : Nat → Value) : ∀ j, j ≤ l.length → kc (l ++ r) fs j = kc l fs j
  | 0, _ => rfl
  | j + 1, h => by rw [kc, kc, kc_ext l r fs j (by omega), nth_ext l r (by omega)]
theorem Grw.ext {l : List Tr} {B : Nat} {v : Value} {w : World} (h : Grw l B l.length v w) (r : List Tr) : Grw (l ++ r) B l.length v w := by
  obtain ⟨fs, a, b, hown, hls, hr, hd⟩ := h
  exact ⟨fs, a, b, by rw [kc_ext l r fs _ (Nat.le_refl _)]; exact hown, fun i hi => by rw [nth_ext l r hi]; exact hls i hi, hr, hd⟩
theorem own_leaf (w : World) (lo hi : Nat) (n x : ByteArray) (hn : n.size ≤ maxLen) (hx : x.size ≤ maxLen) : Own w lo hi ⟨n, x, true, []⟩ (.slice none 0 0) :=
  Own.shut ⟨none, 0, 0, fun _ => .bool false, fun _ => 0, fun _ => 0, rfl, hn, hx, Nat.le_refl _, Nat.zero_le _, fun h => absurd h (Nat.not_lt_zero _), fun i hi => absurd hi (Nat.not_lt_zero _), fun i hi => absurd hi (Nat.not_lt_zero _), fun i hi => absurd hi (Nat.not_lt_zero _), fun i j hi hj => absurd hj (Nat.not_lt_zero _)⟩
/-- The tree of nothing. -/
def zt : Tr := ⟨ByteArray.empty, ByteArray.empty, false, []⟩
theorem zt_own (w : World) (lo hi : Nat) : Own w lo hi zt (.slice none 0 0) :=
  Own.shut ⟨none, 0, 0, fun _ => .bool false, fun _ => 0, fun _ => 0, rfl, Nat.zero_le _, Nat.zero_le _, Nat.le_refl _, Nat.zero_le _, fun h => absurd h (Nat.not_lt_zero _), fun i hi => absurd hi (Nat.not_lt_zero _), fun i hi => absurd hi (Nat.not_lt_zero _), fun i hi => absurd hi (Nat.not_lt_zero _), fun i j hi hj => absurd hj (Nat.not_lt_zero _)⟩
/-- How far the marks of a tree go, from 1 on. -/
def mkN (t : Tr) : Nat := 1 + 3 * Tr.cntL t.kids
theorem mkN_le {t : Tr} (h : t.cnt ≤ 1000) : mkN t ≤ 4000 := by
  have e : t.cnt = 1 + Tr.cntL t.kids := by cases t; rw [Tr.cnt_mk]
  unfold mkN
  omega
theorem mark_one (t : Tr) (v : Value) (w : World) (lo hi : Nat) (h : Own w lo hi t v) (hhi : hi ≤ w.heap.size) (hc : t.cnt ≤ 1000) :
    Calls Try.prog 25 #[t.val v, .int .i64 1] w fun e w' => e = .returned (.int .i64 (mkN t : Nat)) ∧ Out lo hi w w' ∧ Own w' lo hi (mk t 1) v :=
  mark_any t v w lo hi 1 h hhi (by decide) (by have := mkN_le hc; unfold mkN at this; omega)
theorem held_one {lo hi : Nat} (t : Tr) (v : Value) (w : World) (h : Own w lo hi (mk t 1) v) (hc : t.cnt ≤ 1000) :
    Calls Try.prog 26 #[t.val v, .int .i64 1] w fun e w' => e = .returned (.int .i64 (mkN t : Nat)) ∧ Below w.heap.size w w' :=
  held_any t t.name t.text t.leaf v w 1 (Own.lies h) (by decide) (by have := mkN_le hc; unfold mkN at this; omega) _ _ _

end Go.Proofs.Ytpmlagenakcdfaa.T

/-! The tree of a derivation with its words: plain mathematics. -/
namespace Go.Proofs.Ytpmlagenakcdfaa
open Go.RowKit Go.Deep
set_option linter.unusedVariables false
set_option maxRecDepth 100000
set_option linter.unusedSimpArgs false

/-- The leaf of a word. -/
def lf (x : Wd) : T.Tr := ⟨x.name, x.text, true, []⟩
/-- The leaves up to the next terminal's, and what is left of the words. -/
def lvs : List Wd → List T.Tr × List Wd
  | [] => ([], [])
  | x :: r => if x.skip = true then (lf x :: (lvs r).1, (lvs r).2) else ([lf x], r)
/-- The leaves of the words that are Skip ahead of the next terminal's. -/
def sks : List Wd → List T.Tr × List Wd
  | [] => ([], [])
  | x :: r => if x.skip = true then (lf x :: (sks r).1, (sks r).2) else ([], x :: r)
/-- How many are not Skip. -/
def nsk (ws : List Wd) : Nat := ws.countP (fun x => !x.skip)
theorem lvs_sks : ∀ (ws : List Wd), (∀ y r, (sks ws).2 = y :: r → lvs ws = ((sks ws).1 ++ [lf y], r)) ∧ ((sks ws).2 = [] → lvs ws = ((sks ws).1, [])) := by
  intro ws
  induction ws with
  | nil => exact ⟨fun y r h => by simp [sks] at h, fun _ => rfl⟩
  | cons x ws ih =>
    by_cases h : x.skip = true
    · simp only [sks, lvs, if_pos h]
      refine ⟨fun y r e => ?_, fun e => ?_⟩
      · rw [ih.1 y r e]; rfl
      · rw [ih.2 e]
    · simp only [sks, lvs, if_neg h]
      refine ⟨fun y r e => ?_, fun e => by cases e⟩
      injection e with e1 e2
      subst e1; subst e2
      rfl
theorem sks_nsk : ∀ (ws : List Wd), nsk (sks ws).2 = nsk ws ∧ (0 < nsk ws → (sks ws).2 ≠ []) ∧ (nsk ws = 0 → (sks ws).2 = []) := by
  intro ws
  induction ws with
  | nil => exact ⟨rfl, fun h => absurd h (Nat.lt_irrefl _), fun _ => rfl⟩
  | cons x ws ih =>
    by_cases h : x.skip = true
    · have e : nsk (x :: ws) = nsk ws := by simp [nsk, List.countP_cons, h]
      simp only [sks, if_pos h, e]
      exact ih
    · have e : nsk (x :: ws) = nsk ws + 1 := by simp [nsk, List.countP_cons, h]
      simp only [sks, if_neg h]
      exact ⟨trivial, fun _ => by simp, fun h0 => by omega⟩
theorem lvs_nsk (ws : List Wd) : nsk (lvs ws).2 = nsk ws - 1 := by
  induction ws with
  | nil => rfl
  | cons x ws ih =>
    by_cases h : x.skip = true
    · have e : nsk (x :: ws) = nsk ws := by simp [nsk, List.countP_cons, h]
      simp only [lvs, if_pos h, e]
      exact ih
    · have e : nsk (x :: ws) = nsk ws + 1 := by simp [nsk, List.countP_cons, h]
      simp only [lvs, if_neg h, e]
      omega
theorem lvs_len (ws : List Wd) : (lvs ws).1.length + (lvs ws).2.length = ws.length := by
  induction ws with
  | nil => rfl
  | cons x ws ih =>
    by_cases h : x.skip = true
    · simp only [lvs, if_pos h, List.length_cons]
      omega
    · simp only [lvs, if_neg h, List.length_cons, List.length_nil]
      omega
/-- What symbols give, one behind the other. -/
def tk (N : Nat) (r : Int → Nat → Option Nat) (g : Nat → List Wd → List T.Tr × List Wd) : List Int → Nat → List Wd → List T.Tr × List Wd
  | [], _, ws => ([], ws)
  | s :: ss, a, ws => if s < (N : Int) then ((lvs ws).1 ++ (tk N r g ss a (lvs ws).2).1, (tk N r g ss a (lvs ws).2).2) else ((g a ws).1 ++ (tk N r g ss ((r s a).getD 0) (g a ws).2).1, (tk N r g ss ((r s a).getD 0) (g a ws).2).2)
/-- The name of a node. -/
def ndN (d : Bn) (p : Pd) : ByteArray := if p.label.size = 0 then d.nons.getD (p.left - d.terms.length).toNat ByteArray.empty else p.label
/-- What a derivation gives: a node, or its Kids. -/
def gv (d : Bn) (L : List Int) : Nat → Nat → List Wd → List T.Tr × List Wd
  | 0, _, ws => ([], ws)
  | f + 1, a, ws => if (pa d L a).left - d.terms.length < d.own then ([⟨ndN d (pa d L a), ByteArray.empty, false, (tk d.terms.length (rd d L f) (gv d L f) (pa d L a).right (a + 1) ws).1⟩], (tk d.terms.length (rd d L f) (gv d L f) (pa d L a).right (a + 1) ws).2) else tk d.terms.length (rd d L f) (gv d L f) (pa d L a).right (a + 1) ws
/-- .. the first i symbols of it. -/
def tp (d : Bn) (L : List Int) (f a i : Nat) (ws : List Wd) : List T.Tr × List Wd := tk d.terms.length (rd d L f) (gv d L f) ((pa d L a).right.take i) (a + 1) ws
/-- .. all of them: the Kids. -/
def kd (d : Bn) (L : List Int) (f a : Nat) (ws : List Wd) : List T.Tr × List Wd := tp d L f a (pa d L a).right.length ws
theorem tk_append (N : Nat) (r : Int → Nat → Option Nat) (g : Nat → List Wd → List T.Tr × List Wd) (xs ys : List Int) : ∀ (a b : Nat) (ws : List Wd), rdk N r xs a = some b → tk N r g (xs ++ ys) a ws = ((tk N r g xs a ws).1 ++ (tk N r g ys b (tk N r g xs a ws).2).1, (tk N r g ys b (tk N r g xs a ws).2).2) := by
  induction xs with
  | nil =>
    intro a b ws h
    simp only [rdk, Option.some.injEq] at h
    subst h
    simp [tk]
  | cons s xs ih =>
    intro a b ws h
    simp only [rdk] at h
    simp only [List.cons_append, tk]
    split at h
    · rename_i hs
      rw [if_pos hs, if_pos hs, ih a b _ h]
      simp
    · rename_i hs
      rw [if_neg hs, if_neg hs]
      cases e : r s a with
      | none => rw [e] at h; cases h
      | some c =>
        rw [e] at h
        simp only [Option.getD_some]
        rw [ih c b _ h]
        simp
theorem tp_zero (d : Bn) (L : List Int) (f a : Nat) (ws : List Wd) : tp d L f a 0 ws = ([], ws) := rfl
theorem tp_succ {d : Bn} {L : List Int} {f a i x : Nat} {ws : List Wd} (hi : i < (pa d L a).right.length) (hx : atP d L f a i = some x) : tp d L f a (i + 1) ws = (if (pa d L a).right[i] < (d.terms.length : Int) then ((tp d L f a i ws).1 ++ (lvs (tp d L f a i ws).2).1, (lvs (tp d L f a i ws).2).2) else ((tp d L f a i ws).1 ++ (gv d L f x (tp d L f a i ws).2).1, (gv d L f x (tp d L f a i ws).2).2)) := by
  unfold tp
  rw [List.take_succ_eq_append_getElem hi, tk_append _ _ _ _ _ _ x _ hx]
  simp only [tk]
  split <;> simp
theorem gv_succ (d : Bn) (L : List Int) (f a : Nat) (ws : List Wd) : gv d L (f + 1) a ws = (if (pa d L a).left - d.terms.length < d.own then ([⟨ndN d (pa d L a), ByteArray.empty, false, (kd d L f a ws).1⟩], (kd d L f a ws).2) else kd d L f a ws) := by
  have e : kd d L f a ws = tk d.terms.length (rd d L f) (gv d L f) (pa d L a).right (a + 1) ws := by
    unfold kd tp
    rw [List.take_length]
  rw [e]
  rfl
/-- How many words are taken. -/
theorem tk_nsk {N : Nat} {r : Int → Nat → Option Nat} {g : Nat → List Wd → List T.Tr × List Wd} {h : Nat → List Int} (hg : ∀ s a b ws, r s a = some b → nsk (g a ws).2 = nsk ws - (h a).length ∧ (g a ws).2.length ≤ ws.length) (ss : List Int) : ∀ (a b : Nat) (ws : List Wd), rdk N r ss a = some b → nsk (tk N r g ss a ws).2 = nsk ws - (wdk N r h ss a).length ∧ (tk N r g ss a ws).2.length ≤ ws.length := by
  induction ss with
  | nil => intro a b ws e; exact ⟨by simp [tk, wdk], Nat.le_refl _⟩
  | cons s ss ih =>
    intro a b ws e
    simp only [rdk] at e
    simp only [tk, wdk]
    split at e
    · rename_i hs
      rw [if_pos hs, if_pos hs]
      have h1 := ih a b (lvs ws).2 e
      have h2 := lvs_nsk ws
      have h3 := lvs_len ws
      simp only [List.length_cons]
      omega
    · rename_i hs
      rw [if_neg hs, if_neg hs]
      cases e2 : r s a with
      | none => rw [e2] at e; cases e
      | some c =>
        rw [e2] at e
        simp only [Option.getD_some, List.length_append]
        have h1 := ih c b (g a ws).2 e
        have h2 := hg s a c ws e2
        omega
theorem gv_nsk (d : Bn) (L : List Int) : ∀ (f : Nat) (s : Int) (a b : Nat) (ws : List Wd), rd d L f s a = some b → nsk (gv d L f a ws).2 = nsk ws - (wd d L f a).length ∧ (gv d L f a ws).2.length ≤ ws.length := by
  intro f
  induction f with
  | zero => intro s a b ws e; cases e
  | succ f ih =>
    intro s a b ws e
    obtain ⟨_, hend⟩ := rd_succ e
    unfold atP at hend
    rw [List.take_length] at hend
    have h1 := tk_nsk (h := wd d L f) (g := gv d L f) (fun s a b ws e => ih s a b ws e) _ _ _ ws hend
    rw [gv_succ]
    have e2 : kd d L f a ws = tk d.terms.length (rd d L f) (gv d L f) (pa d L a).right (a + 1) ws := by
      unfold kd tp
      rw [List.take_length]
    split
    · rw [e2]; exact h1
    · rw [e2]; exact h1
theorem tp_nsk {d : Bn} {L : List Int} {f a i x : Nat} {ws : List Wd} (hx : atP d L f a i = some x) : nsk (tp d L f a i ws).2 = nsk ws - (wp d L f a i).length ∧ (tp d L f a i ws).2.length ≤ ws.length :=
  tk_nsk (h := wd d L f) (g := gv d L f) (fun s a b ws e => gv_nsk d L f s a b ws e) _ _ _ ws hx
end Go.Proofs.Ytpmlagenakcdfaa
