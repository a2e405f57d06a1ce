import Derived.Test.YtbgoikaelmacbaaMark
import Derived.Test.YtbgoikaelmacbaaTree
import Derived.Deep.RegionWith
import Derived.Deep.AppendLies
namespace Go.Proofs.Ytbgoikaelmacbaa
open Go.RowKit Go.Deep Go.Lib
set_option linter.unusedVariables false
set_option linter.unusedSimpArgs false

/-- The Kids, marked from n on. -/
def mkGo : List (Nat × (Nat → List Tr)) → Nat → List Tr
  | [], _ => []
  | p :: r, n => ⟨mt n, mt (n + 1), decide ((n + 2) % 3 = 0), p.2 (n + 3)⟩ :: mkGo r (n + 3 * p.1)
def mkP : Tr → Nat × (Nat → List Tr) := Tr.fold fun _ _ _ ks => (1 + (ks.map (·.1)).sum, fun n => mkGo ks n)
theorem mkP_mk (n x : ByteArray) (l : Bool) (k : List Tr) : mkP ⟨n, x, l, k⟩ = (1 + ((k.map mkP).map (·.1)).sum, fun m => mkGo (k.map mkP) m) := by
  unfold mkP; rw [Tr.fold_mk]
theorem mkP_cnt (t : Tr) : (mkP t).1 = t.cnt := by
  refine Tr.ind (P := fun t => (mkP t).1 = t.cnt) ?_ t
  intro n x l k ih
  rw [mkP_mk, Tr.cnt_mk]
  show 1 + ((k.map mkP).map (·.1)).sum = 1 + Tr.cntL k
  unfold Tr.cntL
  rw [List.map_map]
  congr 2
  apply List.ext_getElem
  · simp
  · intro i h1 h2
    simp at h1
    simpa using ih i h1
/-- A tree with all below it marked from n on. -/
def mk (t : Tr) (n : Nat) : Tr := ⟨t.name, t.text, t.leaf, (mkP t).2 n⟩
def mkL (k : List Tr) (n : Nat) : List Tr := mkGo (k.map mkP) n
theorem mk_kids (n x : ByteArray) (l : Bool) (k : List Tr) (m : Nat) : mk ⟨n, x, l, k⟩ m = ⟨n, x, l, mkL k m⟩ := by
  unfold mk mkL; rw [mkP_mk]
theorem mkL_len (k : List Tr) : ∀ n, (mkL k n).length = k.length := by
  induction k with
  | nil => intro n; rfl
  | cons t r ih => intro n; show (mkGo _ _).length + 1 = r.length + 1; have := ih (n + 3 * (mkP t).1); unfold mkL at this; rw [this]
theorem mkL_get (k : List Tr) : ∀ (n i : Nat) (h : i < k.length) (h' : i < (mkL k n).length), (mkL k n)[i] = ⟨mt (n + 3 * Tr.cntL (k.take i)), mt (n + 3 * Tr.cntL (k.take i) + 1), decide ((n + 3 * Tr.cntL (k.take i) + 2) % 3 = 0), (mkP k[i]).2 (n + 3 * Tr.cntL (k.take i) + 3)⟩ := by
  induction k with
  | nil => intro n i h; simp at h
  | cons t r ih =>
    intro n i h h'
    cases i with
    | zero => simp [Tr.cntL]; rfl
    | succ i =>
      have e : mkL (t :: r) n = ⟨mt n, mt (n + 1), decide ((n + 2) % 3 = 0), (mkP t).2 (n + 3)⟩ :: mkL r (n + 3 * (mkP t).1) := rfl
      have hi : i < r.length := by simpa using h
      have := ih (n + 3 * (mkP t).1) i hi (by rw [mkL_len]; exact hi)
      simp only [e, List.getElem_cons_succ, List.take_succ_cons]
      rw [this, mkP_cnt]
      have ec : n + 3 * t.cnt + 3 * Tr.cntL (r.take i) = n + 3 * Tr.cntL (t :: r.take i) := by
        have : Tr.cntL (t :: r.take i) = t.cnt + Tr.cntL (r.take i) := by simp [Tr.cntL]
        rw [this]; omega
      rw [ec]
      rfl

/-- What markTreeS has done when it comes to the Kid j. -/
def Marked (k : List Tr) (n cap b : Nat) (sv : Nat → Value) (l h : Nat → Nat) (j : Nat) (wr : World) : Prop :=
  ∃ f, wr.rowIs b 26 (cap * 4) f ∧ (∀ i, i < k.length → f (i * 4 + 3) = sv i) ∧
    (∀ i, i < j → i < k.length → f (i * 4) = .string (mt (n + 3 * Tr.cntL (k.take i))) ∧ f (i * 4 + 1) = .string (mt (n + 3 * Tr.cntL (k.take i) + 1)) ∧ f (i * 4 + 2) = .bool (decide ((n + 3 * Tr.cntL (k.take i) + 2) % 3 = 0))) ∧
    (∀ i (_ : i < j) (hi : i < k.length), Own wr (l i) (h i) (mk k[i] (n + 3 * Tr.cntL (k.take i) + 3)) (sv i)) ∧
    ∀ i (_ : j ≤ i) (hi : i < k.length), Own wr (l i) (h i) k[i] (sv i)

theorem mt_size (k : Nat) (hk : k ≤ 67108864) : (mt k).size ≤ 67108865 := by
  have h : ∀ (f q : Nat) (l : List UInt8), (dgF f q l).length ≤ l.length + f := by
    intro f
    induction f with
    | zero => intro q l; simp [dgF]
    | succ f ih =>
      intro q l
      by_cases hq : q = 0
      · subst hq; rw [dgF_zero]; omega
      · rw [dgF_step (by omega)]; have := ih (q / 10) (dg q :: l); simp at this; omega
  unfold mt
  rw [bs_size, List.length_cons]
  have := h k k []
  simp at this
  omega

theorem cnt_eq (t : Tr) : t.cnt = 1 + Tr.cntL t.kids := by cases t; exact Tr.cnt_mk _ _ _ _
theorem Own.form {w : World} {lo hi : Nat} {t : Tr} {v : Value} (h : Own w lo hi t v) : ∃ a len cap, v = .slice a len cap := by
  obtain ⟨a, cap, b, f, l, h, hv, _⟩ := h.out
  exact ⟨_, _, _, hv⟩

theorem marked_step {k : List Tr} {n cap b q lo hi j : Nat} {sv : Nat → Value} {l h : Nat → Nat} {wr W3 w4 : World} {f1 f3 : Nat → Value} (hlt : j < k.length) (hq : q = n + 3 * Tr.cntL (k.take j)) (hc : k.length ≤ cap)
    (hr : ∀ i, i < k.length → lo ≤ l i ∧ h i ≤ hi ∧ (b < l i ∨ h i ≤ b)) (hd : ∀ i j, i < j → j < k.length → h i ≤ l j ∨ h j ≤ l i) (hhi : hi ≤ wr.heap.size)
    (hsv1 : ∀ i, i < k.length → f1 (i * 4 + 3) = sv i)
    (hmk : ∀ i, i < j → i < k.length → f1 (i * 4) = .string (mt (n + 3 * Tr.cntL (k.take i))) ∧ f1 (i * 4 + 1) = .string (mt (n + 3 * Tr.cntL (k.take i) + 1)) ∧ f1 (i * 4 + 2) = .bool (decide ((n + 3 * Tr.cntL (k.take i) + 2) % 3 = 0)))
    (hol : ∀ i (_ : i < j) (hi : i < k.length), Own wr (l i) (h i) (mk k[i] (n + 3 * Tr.cntL (k.take i) + 3)) (sv i))
    (hor : ∀ i (_ : j ≤ i) (hi : i < k.length), Own wr (l i) (h i) k[i] (sv i))
    (hsz : wr.heap.size ≤ W3.heap.size) (hW : ∀ p, p < wr.heap.size → p ≠ b → W3.heap[p]? = wr.heap[p]?) (hrow : W3.rowIs b 26 (cap * 4) f3)
    (e0 : f3 (j * 4) = .string (mt q)) (e1 : f3 (j * 4 + 1) = .string (mt (q + 1))) (e2 : f3 (j * 4 + 2) = .bool (decide ((q + 2) % 3 = 0))) (e3 : ∀ i, i < j * 4 ∨ j * 4 + 3 ≤ i → f3 i = f1 i)
    (hout : Out (l j) (h j) W3 w4) (hown : Own w4 (l j) (h j) (mk k[j] (q + 3)) (sv j)) : Marked k n cap b sv l h (j + 1) w4 := by
  have hb := hrow.lt
  have hjr := hr j hlt
  have hoth : ∀ i, i < k.length → i ≠ j → ∀ p, l i ≤ p → p < h i → p < wr.heap.size → w4.heap[p]? = wr.heap[p]? := by
    intro i hi hij p h1 h2 h3
    have hir := hr i hi
    rw [hout.2.2.2.2 p (by omega) (by rcases Nat.lt_or_gt_of_ne hij with g | g; (have := hd i j g hlt; omega); (have := hd j i g hi; omega))]
    exact hW p h3 (by omega)
  refine ⟨f3, hrow.of_block (hout.2.2.2.2 b hb hjr.2.2), fun i hi => ?_, fun i hi hk => ?_, fun i hi hk => ?_, fun i hi hk => ?_⟩
  · rw [e3 _ (by omega)]; exact hsv1 i hi
  · by_cases e : i = j
    · subst e; rw [← hq]; exact ⟨e0, e1, e2⟩
    · rw [e3 _ (by omega), e3 _ (by omega), e3 _ (by omega)]; exact hmk i (by omega) hk
  · by_cases e : i = j
    · subst e; rw [← hq]; exact hown
    · exact (hol i (by omega) hk).keep (Nat.le_refl _) (Nat.le_refl _) (hoth i hk e)
  · exact (hor i (by omega) hk).keep (Nat.le_refl _) (Nat.le_refl _) (hoth i hk (by omega))

theorem marked_done {k : List Tr} {n cap b lo hi : Nat} {sv : Nat → Value} {l h : Nat → Nat} {w : World} {a : Option Addr} {nm x : ByteArray} {le : Bool} (hM : 0 < k.length → Marked k n cap b sv l h k.length w) (hc : k.length ≤ cap) (hm : cap ≤ maxLen) (hnm : nm.size ≤ maxLen) (hx : x.size ≤ maxLen) (hn : n + 3 * Tr.cntL k ≤ 67108864)
    (ha : 0 < k.length → a = some ⟨b, 0, none⟩ ∧ lo ≤ b ∧ b < hi)
    (hr : ∀ i, i < k.length → lo ≤ l i ∧ h i ≤ hi ∧ (b < l i ∨ h i ≤ b)) (hd : ∀ i j, i < j → j < k.length → h i ≤ l j ∨ h j ≤ l i) : Own w lo hi (mk ⟨nm, x, le, k⟩ n) (.slice a k.length cap) := by
  rw [mk_kids]
  by_cases h0 : 0 < k.length
  · obtain ⟨f, hrow, hsv, hmk, hol, _⟩ := hM h0
    refine Own.shut ⟨a, cap, b, f, l, h, by dsimp only; rw [mkL_len], hnm, hx, by dsimp only; rw [mkL_len]; exact hc, hm, fun _ => ⟨(ha h0).1, (ha h0).2.1, (ha h0).2.2, hrow⟩, fun i hi => ?_, fun i hi => ?_, fun i hi => ?_, fun i j hij hj => ?_⟩ <;> dsimp only at *
    · rw [mkL_len] at hi
      rw [mkL_get k n i hi]
      exact hmk i hi hi
    · rw [mkL_len] at hi
      rw [mkL_get k n i hi, hsv i hi]
      have := hol i hi hi
      obtain ⟨a', c', b', f', l', h', q1, q2, q3, q⟩ := this.out
      have g1 := Tr.cntL_take_succ k i hi
      have g2 := Tr.cntL_take_le k (i + 1)
      have g3 := Tr.cnt_pos k[i]
      refine Own.shut ⟨a', c', b', f', l', h', q1, ?_, ?_, q⟩
      · have := mt_size (n + 3 * Tr.cntL (k.take i)) (by omega); dsimp only; unfold maxLen; omega
      · have := mt_size (n + 3 * Tr.cntL (k.take i) + 1) (by omega); dsimp only; unfold maxLen; omega
    · rw [mkL_len] at hi; exact hr i hi
    · rw [mkL_len] at hj; exact hd i j hij hj
  · obtain rfl : k = [] := List.eq_nil_of_length_eq_zero (by omega)
    exact Own.shut ⟨a, cap, b, fun _ => .nilIface, l, h, rfl, hnm, hx, hc, hm, fun h => absurd h (Nat.not_lt_zero _), fun i hi => absurd hi (Nat.not_lt_zero _), fun i hi => absurd hi (Nat.not_lt_zero _), fun i hi => absurd hi (Nat.not_lt_zero _), fun i j hi hj => absurd hj (Nat.not_lt_zero _)⟩

end Go.Proofs.Ytbgoikaelmacbaa

namespace Go.Proofs.Ytbgoikaelmacbaa
open Go.RowKit Go.Deep Go.Lib
set_option linter.unusedVariables false
set_option linter.unusedSimpArgs false

end Go.Proofs.Ytbgoikaelmacbaa

namespace Go.Proofs.Ytbgoikaelmacbaa
open Go.RowKit Go.Deep Go.Lib
set_option linter.unusedVariables false
set_option maxRecDepth 100000
set_option linter.unusedSimpArgs false

/-- Numbers that lie behind a slice, in a block of S. -/
def Ints (w : World) (S : Nat → Prop) (l : List Int) (v : Value) : Prop :=
  ∃ (a : Option Addr) (cap b off : Nat), v = .slice a l.length cap ∧ l.length ≤ cap ∧ cap ≤ maxLen ∧ (0 < l.length → a = some ⟨b, off, none⟩ ∧ S b) ∧ ∀ i (hi : i < l.length), w.cell? ⟨b, off + i, none⟩ = some (.int .i64 l[i])
theorem Ints.still {w w' : World} {S : Nat → Prop} {l : List Int} {v : Value} (h : Ints w S l v) (hb : Below w.heap.size w w') : Ints w' S l v := by
  obtain ⟨a, cap, b, off, hv, hc, hm, ha, hcell⟩ := h
  exact ⟨a, cap, b, off, hv, hc, hm, ha, fun i hi => (hb.cell (lt_of_cell (hcell i hi))).trans (hcell i hi)⟩
theorem Ints.keep {w w' : World} {S : Nat → Prop} {l : List Int} {v : Value} (h : Ints w S l v) (hb : ∀ b, S b → b < w.heap.size → w'.heap[b]? = w.heap[b]?) : Ints w' S l v := by
  obtain ⟨a, cap, b, off, hv, hc, hm, ha, hcell⟩ := h
  exact ⟨a, cap, b, off, hv, hc, hm, ha, fun i hi => (World.cell?_of_block (w := w) (hb b (ha (by omega)).2 (lt_of_cell (hcell i hi)))).trans (hcell i hi)⟩
theorem Ints.form {w : World} {S : Nat → Prop} {l : List Int} {v : Value} (h : Ints w S l v) : ∃ a len cap, v = .slice a len cap := by
  obtain ⟨a, cap, b, off, hv, _⟩ := h
  exact ⟨_, _, _, hv⟩
/-- .. in a row of its own. -/
def IRow (w : World) (b : Nat) (l : List Int) : Prop := w.rowIs b 3 l.length (fun i => .int .i64 (l.getD i 0))
theorem IRow.ints {w : World} {b : Nat} {l : List Int} (h : IRow w b l) (hl : l.length ≤ maxLen) : Ints w (fun c => c = b) l (.slice (some ⟨b, 0, none⟩) l.length l.length) := by
  refine ⟨_, _, b, 0, rfl, Nat.le_refl _, hl, fun _ => ⟨rfl, rfl⟩, fun i hi => ?_⟩
  rw [Nat.zero_add, h.cell hi]
  simp [List.getD_eq_getElem?_getD, hi]

theorem info3i : (Try.prog.info? 3).map (fun i => (i.zero, i.size, i.bytes)) = some (some (.int .i64 0), 1, 8) := by kernel_rfl
theorem run_makeInts (n : Nat) (hn : n ≤ 1048576) (w : World) :
    (Instr.makeSlice 40 (.int .i64 (n : Int)) (.int .i64 (n : Int))).run Try.prog w = .ok (.slice (some ⟨w.heap.size, 0, none⟩) n n) (w.alloc (.cells (madeCells #[.int .i64 0] n) 3)) := by
  obtain ⟨i, hi, hz, hs, hb⟩ := info_parts info3i
  have hr := run_make (P := Try.prog) w 40 3 i _ Try.underlying40 hi hz .i64 .i64 n n (by omega) (Int.le_refl _) (by rw [hb]; omega) (by omega)
  simp only [Int.toNat_natCast, hs, Nat.mul_one] at hr
  exact hr

end Go.Proofs.Ytbgoikaelmacbaa

namespace Go.Proofs.Ytbgoikaelmacbaa
open Go.RowKit Go.Deep Go.Lib
set_option linter.unusedVariables false
set_option maxRecDepth 100000
set_option linter.unusedSimpArgs false

/-- What the loop of toTreeS has made of the first j Kids: each owns a range behind the row g. -/
def MadeO (k : List Tr) (g : Nat) (j : Nat) (wr : World) : Prop :=
  ∃ (f : Nat → Value) (l h : Nat → Nat), wr.rowIs g 26 (k.length * 4) f ∧
    (∀ i (_ : i < j) (hi : i < k.length), f (i * 4) = .string k[i].name ∧ f (i * 4 + 1) = .string k[i].text ∧ f (i * 4 + 2) = .bool k[i].leaf) ∧
    (∀ i (_ : i < j) (hi : i < k.length), Own wr (l i) (h i) k[i] (f (i * 4 + 3))) ∧ (∀ i, i < j → g < l i ∧ h i ≤ wr.heap.size) ∧ ∀ i i', i < i' → i' < j → h i ≤ l i'

theorem Own.past {w : World} {t : Tr} {v u : Value} {lo hi g o : Nat} (h : Own w lo hi t v) (hg : g < lo ∨ hi ≤ g) : Own (w.setCell ⟨g, o, none⟩ u) lo hi t v :=
  h.keep (Nat.le_refl _) (Nat.le_refl _) (fun k h1 h2 _ => blk_setCell_other _ _ _ _ (by show k ≠ g; omega))
theorem Own.still {w w' : World} {t : Tr} {v : Value} {lo hi : Nat} (h : Own w lo hi t v) (hb : Below w.heap.size w w') : Own w' lo hi t v :=
  h.keep (Nat.le_refl _) (Nat.le_refl _) (fun k _ _ hk => hb.block k hk)

theorem madeO_step {k : List Tr} {g j : Nat} {wr w1 : World} (hj : j < k.length) (hM : MadeO k g j wr) (hg : g < wr.heap.size) (hb1 : Below wr.heap.size wr w1) {v : Value} (hl : Own w1 wr.heap.size w1.heap.size k[j] v) :
    MadeO k g (j + 1) ((((w1.setCell ⟨g, j * 4, none⟩ (.string k[j].name)).setCell ⟨g, j * 4 + 1, none⟩ (.string k[j].text)).setCell ⟨g, j * 4 + 2, none⟩ (.bool k[j].leaf)).setCell ⟨g, j * 4 + 3, none⟩ v) := by
  obtain ⟨f, l, h, hrow, hcs, hls, hr, hd⟩ := hM
  have hrow1 := hrow.of_block (hb1.block _ hrow.lt)
  have hs := hb1.size
  refine ⟨_, fun i => if i = j then wr.heap.size else l i, fun i => if i = j then w1.heap.size else h i, (((hrow1.set _ _).set _ _).set _ _).set _ _, fun i hi hk => ?_, fun i hi hk => ?_, fun i hi => ?_, fun i i' hii hi' => ?_⟩
  · by_cases e : i = j
    · subst e; simp
    · obtain ⟨q0, q1, q2⟩ := hcs i (by omega) hk
      refine ⟨?_, ?_, ?_⟩
      · rw [if_neg (by omega), if_neg (by omega), if_neg (by omega), if_neg (by omega)]; exact q0
      · rw [if_neg (by omega), if_neg (by omega), if_neg (by omega), if_neg (by omega)]; exact q1
      · rw [if_neg (by omega), if_neg (by omega), if_neg (by omega), if_neg (by omega)]; exact q2
  · by_cases e : i = j
    · subst e
      simp only [if_true]
      exact (((hl.past (.inl hg)).past (.inl hg)).past (.inl hg)).past (.inl hg)
    · rw [if_neg (by omega), if_neg (by omega), if_neg (by omega), if_neg (by omega)]
      simp only [if_neg e]
      have hlt := (hr i (by omega)).1
      exact (((((hls i (by omega) hk).still hb1).past (.inl hlt)).past (.inl hlt)).past (.inl hlt)).past (.inl hlt)
  · by_cases e : i = j
    · subst e; simp; exact hg
    · simp only [if_neg e]; have := hr i (by omega); simp; omega
  · by_cases e : i' = j
    · subst e
      simp only [if_true]
      rw [if_neg (by omega)]
      exact (hr i (by omega)).2
    · dsimp only; rw [if_neg e, if_neg (by omega)]; exact hd i i' hii (by omega)

theorem madeO_own {k : List Tr} {g : Nat} {w : World} (h : MadeO k g k.length w) {n x : ByteArray} {l : Bool} (hn : n.size ≤ maxLen) (hx : x.size ≤ maxLen) (hk : k.length ≤ maxLen) :
    Own w g w.heap.size (.mk n x l k) (.slice (some ⟨g, 0, none⟩) k.length k.length) := by
  obtain ⟨f, l, h, hrow, hcs, hls, hr, hd⟩ := h
  exact Own.shut ⟨_, _, g, f, l, h, rfl, hn, hx, Nat.le_refl _, hk, fun _ => ⟨rfl, Nat.le_refl _, hrow.lt, hrow⟩, fun i hi => hcs i hi hi, fun i hi => hls i hi hi, fun i hi => ⟨Nat.le_of_lt (hr i hi).1, (hr i hi).2, .inl (hr i hi).1⟩, fun i j hij hj => .inl (hd i j hij hj)⟩

end Go.Proofs.Ytbgoikaelmacbaa

namespace Go.Proofs.Ytbgoikaelmacbaa
open Go.RowKit Go.Deep Go.Lib
set_option linter.unusedVariables false
set_option maxRecDepth 100000
set_option linter.unusedSimpArgs false

def nth (k : List Tr) (i : Nat) : Tr := (k[i]?).getD ⟨ByteArray.empty, ByteArray.empty, false, []⟩
theorem nth_eq {k : List Tr} {i : Nat} (h : i < k.length) : nth k i = k[i] := by simp [nth, h]
/-- The cells of the first j Kids. -/
def kc (k : List Tr) (fs : Nat → Value) : Nat → List Value
  | 0 => []
  | j + 1 => kc k fs j ++ [.string (nth k j).name, .string (nth k j).text, .bool (nth k j).leaf, fs j]
theorem kc_len (k : List Tr) (fs : Nat → Value) : ∀ j, (kc k fs j).length = j * 4
  | 0 => rfl
  | j + 1 => by rw [kc, List.length_append, kc_len k fs j]; simp; omega
theorem kc_congr (k : List Tr) {fs gs : Nat → Value} : ∀ j, (∀ i, i < j → fs i = gs i) → kc k fs j = kc k gs j
  | 0, _ => rfl
  | j + 1, h => by rw [kc, kc, kc_congr k j (fun i hi => h i (by omega)), h j (by omega)]
theorem kc_get (k : List Tr) (fs : Nat → Value) : ∀ j i, i < j → (kc k fs j)[i * 4]? = some (.string (nth k i).name) ∧ (kc k fs j)[i * 4 + 1]? = some (.string (nth k i).text) ∧ (kc k fs j)[i * 4 + 2]? = some (.bool (nth k i).leaf) ∧ (kc k fs j)[i * 4 + 3]? = some (fs i)
  | 0, _, h => absurd h (Nat.not_lt_zero _)
  | j + 1, i, h => by
    have hl := kc_len k fs j
    by_cases e : i = j
    · subst e
      rw [kc]
      refine ⟨?_, ?_, ?_, ?_⟩ <;> (rw [List.getElem?_append_right (by omega), hl]; simp)
    · obtain ⟨h0, h1, h2, h3⟩ := kc_get k fs j i (by omega)
      rw [kc]
      refine ⟨?_, ?_, ?_, ?_⟩ <;> (rw [List.getElem?_append_left (by omega)]; assumption)

/-- A row of Kids that grows by append: the first j of k stand in it, each in a range of its own. -/
def Grw (k : List Tr) (B j : Nat) (v : Value) (wr : World) : Prop :=
  ∃ (fs : Nat → Value) (l h : Nat → Nat), wr.ownsRow B 26 4 v j (kc k fs j) ∧ (∀ i, i < j → Own wr (l i) (h i) (nth k i) (fs i)) ∧
    (∀ i, i < j → B ≤ l i ∧ h i ≤ wr.heap.size ∧ ∀ g, v.ownBlock = some g → g < l i ∨ h i ≤ g) ∧ ∀ i i', i < i' → i' < j → h i ≤ l i'

theorem Grw.step {k : List Tr} {B j g cap a c : Nat} {v u : Value} {wr w2 w3 : World} {fs : Nat → Value} {l h : Nat → Nat} (hown : wr.ownsRow B 26 4 v j (kc k fs j)) (hls : ∀ i, i < j → Own wr (l i) (h i) (nth k i) (fs i))
    (hr : ∀ i, i < j → B ≤ l i ∧ h i ≤ wr.heap.size ∧ ∀ g, v.ownBlock = some g → g < l i ∨ h i ≤ g) (hd : ∀ i i', i < i' → i' < j → h i ≤ l i') (hB : B ≤ wr.heap.size)
    (hb : Below wr.heap.size wr w2) (hu : Own w2 a c (nth k j) u) (ha : wr.heap.size ≤ a) (hc : c ≤ w2.heap.size)
    (hown3 : w3.ownsRow B 26 4 (.slice (some ⟨g, 0, none⟩) (j + 1) cap) (j + 1) (kc k fs j ++ [.string (nth k j).name, .string (nth k j).text, .bool (nth k j).leaf, u]))
    (hgr : w2.grownBy w3 v.ownBlock) (hat : v.ownBlock = some g ∨ g = w2.heap.size) : Grw k B (j + 1) (.slice (some ⟨g, 0, none⟩) (j + 1) cap) w3 := by
  have hs := hb.size
  have hs3 := hgr.size
  have hvl := hown.lt
  refine ⟨fun i => if i = j then u else fs i, fun i => if i = j then a else l i, fun i => if i = j then c else h i, ?_, fun i hi => ?_, fun i hi => ?_, fun i i' hii hi' => ?_⟩
  · rw [kc, kc_congr k (fs := fun i => if i = j then u else fs i) (gs := fs) j (fun i hi => if_neg (by omega))]
    simp only [if_true]
    exact hown3
  · by_cases e : i = j
    · subst e
      simp only [if_true]
      exact hu.keep (Nat.le_refl _) (Nat.le_refl _) (fun q h1 h2 h3 => hgr.block q h3 (fun e => by have := hvl q e.symm; omega))
    · simp only [if_neg e]
      have hri := hr i (by omega)
      exact ((hls i (by omega)).still hb).keep (Nat.le_refl _) (Nat.le_refl _) (fun q h1 h2 h3 => hgr.block q h3 (fun e => by have := hri.2.2 q e.symm; omega))
  · refine ⟨?_, ?_, fun q hq => ?_⟩
    · dsimp only
      split
      · omega
      · exact (hr i (by omega)).1
    · dsimp only
      split
      · omega
      · have := (hr i (by omega)).2.1; omega
    · simp [Value.ownBlock] at hq
      subst hq
      dsimp only
      split
      · rcases hat with e | e
        · have := hvl g e; omega
        · omega
      · have hri := hr i (by omega)
        rcases hat with e | e
        · exact hri.2.2 g e
        · omega
  · dsimp only
    by_cases e : i' = j
    · subst e
      rw [if_pos rfl, if_neg (by omega)]
      have := (hr i (by omega)).2.1
      omega
    · rw [if_neg e, if_neg (by omega)]; exact hd i i' hii (by omega)

theorem Grw.done {k : List Tr} {B : Nat} {v : Value} {w : World} {n x : ByteArray} {le : Bool} (h : Grw k B k.length v w) (hn : n.size ≤ maxLen) (hx : x.size ≤ maxLen) : Own w B w.heap.size ⟨n, x, le, k⟩ v := by
  obtain ⟨fs, l, h, hown, hls, hr, hd⟩ := h
  rcases hown.2 with ⟨rfl, h0⟩ | ⟨g, cap, cur, rfl, hBg, hg, hnc, hcm, hcs, htake⟩
  · obtain rfl : k = [] := List.eq_nil_of_length_eq_zero h0
    exact Own.shut ⟨none, 0, B, fs, l, h, rfl, hn, hx, Nat.le_refl _, Nat.zero_le _, fun h => absurd h (Nat.not_lt_zero _), fun i hi => absurd hi (Nat.not_lt_zero _), fun i hi => absurd hi (Nat.not_lt_zero _), fun i hi => absurd hi (Nat.not_lt_zero _), fun i j hi hj => absurd hj (Nat.not_lt_zero _)⟩
  · have hlt : g < w.heap.size := (Array.getElem?_eq_some_iff.1 hg).1
    refine Own.shut ⟨some ⟨g, 0, none⟩, cap, g, fun i => (cur[i]?).getD (.bool false), l, h, rfl, hn, hx, hnc, hcm, fun _ => ⟨rfl, hBg, hlt, cur, hg, hcs, fun i hi => by simp [hcs, hi]⟩, fun i hi => ?_, fun i hi => ?_, fun i hi => ?_, fun i j hij hj => .inl (hd i j hij hj)⟩
    · dsimp only at hi ⊢
      obtain ⟨h0, h1, h2, h3⟩ := kc_get k fs k.length i hi
      rw [← htake, List.getElem?_take, if_pos (by omega)] at h0 h1 h2
      simp only [Array.getElem?_toList] at h0 h1 h2
      rw [h0, h1, h2, nth_eq hi]
      exact ⟨rfl, rfl, rfl⟩
    · dsimp only at hi ⊢
      obtain ⟨h0, h1, h2, h3⟩ := kc_get k fs k.length i hi
      rw [← htake, List.getElem?_take, if_pos (by omega)] at h3
      simp only [Array.getElem?_toList] at h3
      rw [h3, ← nth_eq hi]
      exact hls i hi
    · have := hr i hi
      exact ⟨this.1, this.2.1, this.2.2 g rfl⟩

theorem cell_four_box (w : World) (c0 c1 c2 c3 : Value) (T : TypeId) : ∀ j x, [c0, c1, c2, c3][j]? = some x → (w.alloc (.cells #[c0, c1, c2, c3] T)).cell? ((⟨w.heap.size, 0, none⟩ : Addr).add j) = some x :=
  World.news_of_block (cs := #[c0, c1, c2, c3]) (blk_alloc_new _ _)
end Go.Proofs.Ytbgoikaelmacbaa
