import Derived.Test.YtledclkmeikgdaaXMark
import Derived.Test.YtledclkmeikgdaaXTree
namespace Go.Proofs.Ytledclkmeikgdaa.T
open Go.RowKit Go.Deep Go.Lib
set_option linter.unusedVariables false
set_option linter.unusedSimpArgs false

/-- The Kids, marked from n on. -/
def mkGo : List (Nat × (Nat → List Tr)) → Nat → List Tr
  | [], _ => []
  | p :: r, n => ⟨mt n, mt (n + 1), decide ((n + 2) % 3 = 0), p.2 (n + 3)⟩ :: mkGo r (n + 3 * p.1)
def mkP : Tr → Nat × (Nat → List Tr) := Tr.fold fun _ _ _ ks => (1 + (ks.map (·.1)).sum, fun n => mkGo ks n)
theorem mkP_mk (n x : ByteArray) (l : Bool) (k : List Tr) : mkP ⟨n, x, l, k⟩ = (1 + ((k.map mkP).map (·.1)).sum, fun m => mkGo (k.map mkP) m) := by
  unfold mkP; rw [Tr.fold_mk]
theorem mkP_cnt (t : Tr) : (mkP t).1 = t.cnt := by
  refine Tr.ind (P := fun t => (mkP t).1 = t.cnt) ?_ t
  intro n x l k ih
  rw [mkP_mk, Tr.cnt_mk]
  show 1 + ((k.map mkP).map (·.1)).sum = 1 + Tr.cntL k
  unfold Tr.cntL
  rw [List.map_map]
  congr 2
  apply List.ext_getElem
  · simp
  · intro i h1 h2
    simp at h1
    simpa using ih i h1
/-- A tree with all below it marked from n on. -/
def mk (t : Tr) (n : Nat) : Tr := ⟨t.name, t.text, t.leaf, (mkP t).2 n⟩
def mkL (k : List Tr) (n : Nat) : List Tr := mkGo (k.map mkP) n
theorem mk_kids (n x : ByteArray) (l : Bool) (k : List Tr) (m : Nat) : mk ⟨n, x, l, k⟩ m = ⟨n, x, l, mkL k m⟩ := by
  unfold mk mkL; rw [mkP_mk]
theorem mkL_len (k : List Tr) : ∀ n, (mkL k n).length = k.length := by
  induction k with
  | nil => intro n; rfl
  | cons t r ih => intro n; show (mkGo _ _).length + 1 = r.length + 1; have := ih (n + 3 * (mkP t).1); unfold mkL at this; rw [this]
theorem mkL_get (k : List Tr) : ∀ (n i : Nat) (h : i < k.length) (h' : i < (mkL k n).length), (mkL k n)[i] = ⟨mt (n + 3 * Tr.cntL (k.take i)), mt (n + 3 * Tr.cntL (k.take i) + 1), decide ((n + 3 * Tr.cntL (k.take i) + 2) % 3 = 0), (mkP k[i]).2 (n + 3 * Tr.cntL (k.take i) + 3)⟩ := by
  induction k with
  | nil => intro n i h; simp at h
  | cons t r ih =>
    intro n i h h'
    cases i with
    | zero => simp [Tr.cntL]; rfl
    | succ i =>
      have e : mkL (t :: r) n = ⟨mt n, mt (n + 1), decide ((n + 2) % 3 = 0), (mkP t).2 (n + 3)⟩ :: mkL r (n + 3 * (mkP t).1) := rfl
      have hi : i < r.length := by simpa using h
      have := ih (n + 3 * (mkP t).1) i hi (by rw [mkL_len]; exact hi)
      simp only [e, List.getElem_cons_succ, List.take_succ_cons]
      rw [this, mkP_cnt]
      have ec : n + 3 * t.cnt + 3 * Tr.cntL (r.take i) = n + 3 * Tr.cntL (t :: r.take i) := by
        have : Tr.cntL (t :: r.take i) = t.cnt + Tr.cntL (r.take i) := by simp [Tr.cntL]
        rw [this]; omega
      rw [ec]
      rfl

/-- What markTreeS has done when it comes to the Kid j. -/
def Marked (k : List Tr) (n cap b : Nat) (sv : Nat → Value) (l h : Nat → Nat) (j : Nat) (wr : World) : Prop :=
  ∃ f, wr.rowIs b 40 (cap * 4) f ∧ (∀ i, i < k.length → f (i * 4 + 3) = sv i) ∧
    (∀ i, i < j → i < k.length → f (i * 4) = .string (mt (n + 3 * Tr.cntL (k.take i))) ∧ f (i * 4 + 1) = .string (mt (n + 3 * Tr.cntL (k.take i) + 1)) ∧ f (i * 4 + 2) = .bool (decide ((n + 3 * Tr.cntL (k.take i) + 2) % 3 = 0))) ∧
    (∀ i (_ : i < j) (hi : i < k.length), Own wr (l i) (h i) (mk k[i] (n + 3 * Tr.cntL (k.take i) + 3)) (sv i)) ∧
    ∀ i (_ : j ≤ i) (hi : i < k.length), Own wr (l i) (h i) k[i] (sv i)

theorem mt_size (k : Nat) (hk : k ≤ 67108864) : (mt k).size ≤ 67108865 := by
  have h : ∀ (f q : Nat) (l : List UInt8), (dgF f q l).length ≤ l.length + f := by
    intro f
    induction f with
    | zero => intro q l; simp [dgF]
    | succ f ih =>
      intro q l
      by_cases hq : q = 0
      · subst hq; rw [dgF_zero]; omega
      · rw [dgF_step (by omega)]; have := ih (q / 10) (dg q :: l); simp at this; omega
  unfold mt
  rw [bs_size, List.length_cons]
  have := h k k []
  simp at this
  omega

theorem cnt_eq (t : Tr) : t.cnt = 1 + Tr.cntL t.kids := by cases t; exact Tr.cnt_mk _ _ _ _
theorem Own.form {w : World} {lo hi : Nat} {t : Tr} {v : Value} (h : Own w lo hi t v) : ∃ a len cap, v = .slice a len cap := by
  obtain ⟨a, cap, b, f, l, h, hv, _⟩ := h.out
  exact ⟨_, _, _, hv⟩

theorem marked_step {k : List Tr} {n cap b q lo hi j : Nat} {sv : Nat → Value} {l h : Nat → Nat} {wr W3 w4 : World} {f1 f3 : Nat → Value} (hlt : j < k.length) (hq : q = n + 3 * Tr.cntL (k.take j)) (hc : k.length ≤ cap)
    (hr : ∀ i, i < k.length → lo ≤ l i ∧ h i ≤ hi ∧ (b < l i ∨ h i ≤ b)) (hd : ∀ i j, i < j → j < k.length → h i ≤ l j ∨ h j ≤ l i) (hhi : hi ≤ wr.heap.size)
    (hsv1 : ∀ i, i < k.length → f1 (i * 4 + 3) = sv i)
    (hmk : ∀ i, i < j → i < k.length → f1 (i * 4) = .string (mt (n + 3 * Tr.cntL (k.take i))) ∧ f1 (i * 4 + 1) = .string (mt (n + 3 * Tr.cntL (k.take i) + 1)) ∧ f1 (i * 4 + 2) = .bool (decide ((n + 3 * Tr.cntL (k.take i) + 2) % 3 = 0)))
    (hol : ∀ i (_ : i < j) (hi : i < k.length), Own wr (l i) (h i) (mk k[i] (n + 3 * Tr.cntL (k.take i) + 3)) (sv i))
    (hor : ∀ i (_ : j ≤ i) (hi : i < k.length), Own wr (l i) (h i) k[i] (sv i))
    (hsz : wr.heap.size ≤ W3.heap.size) (hW : ∀ p, p < wr.heap.size → p ≠ b → W3.heap[p]? = wr.heap[p]?) (hrow : W3.rowIs b 40 (cap * 4) f3)
    (e0 : f3 (j * 4) = .string (mt q)) (e1 : f3 (j * 4 + 1) = .string (mt (q + 1))) (e2 : f3 (j * 4 + 2) = .bool (decide ((q + 2) % 3 = 0))) (e3 : ∀ i, i < j * 4 ∨ j * 4 + 3 ≤ i → f3 i = f1 i)
    (hout : Out (l j) (h j) W3 w4) (hown : Own w4 (l j) (h j) (mk k[j] (q + 3)) (sv j)) : Marked k n cap b sv l h (j + 1) w4 := by
  have hb := hrow.lt
  have hjr := hr j hlt
  have hoth : ∀ i, i < k.length → i ≠ j → ∀ p, l i ≤ p → p < h i → p < wr.heap.size → w4.heap[p]? = wr.heap[p]? := by
    intro i hi hij p h1 h2 h3
    have hir := hr i hi
    rw [hout.2.2.2.2 p (by omega) (by rcases Nat.lt_or_gt_of_ne hij with g | g; (have := hd i j g hlt; omega); (have := hd j i g hi; omega))]
    exact hW p h3 (by omega)
  refine ⟨f3, hrow.of_block (hout.2.2.2.2 b hb hjr.2.2), fun i hi => ?_, fun i hi hk => ?_, fun i hi hk => ?_, fun i hi hk => ?_⟩
  · rw [e3 _ (by omega)]; exact hsv1 i hi
  · by_cases e : i = j
    · subst e; rw [← hq]; exact ⟨e0, e1, e2⟩
    · rw [e3 _ (by omega), e3 _ (by omega), e3 _ (by omega)]; exact hmk i (by omega) hk
  · by_cases e : i = j
    · subst e; rw [← hq]; exact hown
    · exact (hol i (by omega) hk).keep (Nat.le_refl _) (Nat.le_refl _) (hoth i hk e)
  · exact (hor i (by omega) hk).keep (Nat.le_refl _) (Nat.le_refl _) (hoth i hk (by omega))

theorem marked_done {k : List Tr} {n cap b lo hi : Nat} {sv : Nat → Value} {l h : Nat → Nat} {w : World} {a : Option Addr} {nm x : ByteArray} {le : Bool} (hM : 0 < k.length → Marked k n cap b sv l h k.length w) (hc : k.length ≤ cap) (hm : cap ≤ maxLen) (hnm : nm.size ≤ maxLen) (hx : x.size ≤ maxLen) (hn : n + 3 * Tr.cntL k ≤ 67108864)
    (ha : 0 < k.length → a = some ⟨b, 0, none⟩ ∧ lo ≤ b ∧ b < hi)
    (hr : ∀ i, i < k.length → lo ≤ l i ∧ h i ≤ hi ∧ (b < l i ∨ h i ≤ b)) (hd : ∀ i j, i < j → j < k.length → h i ≤ l j ∨ h j ≤ l i) : Own w lo hi (mk ⟨nm, x, le, k⟩ n) (.slice a k.length cap) := by
  rw [mk_kids]
  by_cases h0 : 0 < k.length
  · obtain ⟨f, hrow, hsv, hmk, hol, _⟩ := hM h0
    refine Own.shut ⟨a, cap, b, f, l, h, by dsimp only; rw [mkL_len], hnm, hx, by dsimp only; rw [mkL_len]; exact hc, hm, fun _ => ⟨(ha h0).1, (ha h0).2.1, (ha h0).2.2, hrow⟩, fun i hi => ?_, fun i hi => ?_, fun i hi => ?_, fun i j hij hj => ?_⟩ <;> dsimp only at *
    · rw [mkL_len] at hi
      rw [mkL_get k n i hi]
      exact hmk i hi hi
    · rw [mkL_len] at hi
      rw [mkL_get k n i hi, hsv i hi]
      have := hol i hi hi
      obtain ⟨a', c', b', f', l', h', q1, q2, q3, q⟩ := this.out
      have g1 := Tr.cntL_take_succ k i hi
      have g2 := Tr.cntL_take_le k (i + 1)
      have g3 := Tr.cnt_pos k[i]
      refine Own.shut ⟨a', c', b', f', l', h', q1, ?_, ?_, q⟩
      · have := mt_size (n + 3 * Tr.cntL (k.take i)) (by omega); dsimp only; unfold maxLen; omega
      · have := mt_size (n + 3 * Tr.cntL (k.take i) + 1) (by omega); dsimp only; unfold maxLen; omega
    · rw [mkL_len] at hi; exact hr i hi
    · rw [mkL_len] at hj; exact hd i j hij hj
  · obtain rfl : k = [] := List.eq_nil_of_length_eq_zero (by omega)
    exact Own.shut ⟨a, cap, b, fun _ => .nilIface, l, h, rfl, hnm, hx, hc, hm, fun h => absurd h (Nat.not_lt_zero _), fun i hi => absurd hi (Nat.not_lt_zero _), fun i hi => absurd hi (Nat.not_lt_zero _), fun i hi => absurd hi (Nat.not_lt_zero _), fun i j hi hj => absurd hj (Nat.not_lt_zero _)⟩

set_option maxHeartbeats 1600000 in
theorem markS_any (t : Tr) : ∀ (v : Value) (w : World) (lo hi n : Nat), Own w lo hi t v → hi ≤ w.heap.size → 0 < n → n + 3 * Tr.cntL t.kids ≤ 67108864 →
    Calls Try.prog 67 #[v, .int .i64 n] w fun e w' => e = .returned (.int .i64 (n + 3 * Tr.cntL t.kids : Nat)) ∧ Out lo hi w w' ∧ Own w' lo hi (mk t n) v := by
  refine Tr.ind (P := fun t => ∀ (v : Value) (w : World) (lo hi n : Nat), Own w lo hi t v → hi ≤ w.heap.size → 0 < n → n + 3 * Tr.cntL t.kids ≤ 67108864 →
    Calls Try.prog 67 #[v, .int .i64 n] w fun e w' => e = .returned (.int .i64 (n + 3 * Tr.cntL t.kids : Nat)) ∧ Out lo hi w w' ∧ Own w' lo hi (mk t n) v) ?_ t
  intro nm x le k ih v w lo hi n hown hhi hn0 hnk
  obtain ⟨a, cap, b, f, l, h, rfl, hnm, hx, hc, hm, ha, hf, hk, hr, hd⟩ := hown.out
  dsimp only at hc ha hf hk hr hd hnk ⊢
  have HI := (show Hid _ from ih); clear ih
  have HX := (show Hid _ from (⟨hnm, hx, hm, hr, hd⟩ : _ ∧ _ ∧ _ ∧ _ ∧ _))
  have HA := (show Hid _ from ha)
  have hst : 0 < k.length → Marked k n cap b (fun i => f (i * 4 + 3)) l h 0 w := fun h0 =>
    ⟨f, (ha h0).2.2.2, fun i hi => rfl, fun i hi => absurd hi (Nat.not_lt_zero _), fun i hi => absurd hi (Nat.not_lt_zero _), fun i _ hi => hk i hi⟩
  have HS := (show Hid _ from hst)
  have HON := (show Hid _ from hown)
  clear hst hk hf ha hr hd hown
  unfold maxLen at hm
  generalize hsv : (fun i => f (i * 4 + 3)) = sv at *
  go_enter Try.func67, Try.ntmps67
  go_wp2_with fail
  go_loopw [1, 5] (fun u i wr => ∃ (j q : Nat), j ≤ k.length ∧ i = .int .i64 j ∧ u = .int .i64 q ∧ q ≤ 67108864 ∧ 0 < q ∧ Hid (q = n + 3 * Tr.cntL (k.take j)) ∧ Out lo hi w wr ∧ Hid (0 < k.length → Marked k n cap b sv l h j wr)) (fun _ i _ => k.length - (intOf i).toNat)
  case atStart => exact ⟨0, n, Nat.zero_le _, rfl, rfl, by omega, hn0, by show n = _; simp [Tr.cntL], Out.refl _ _ _, HS⟩
  case round =>
    obtain ⟨j, q, hj, rfl, rfl, hq1, hq0, HQ, hout, HM⟩ := hrel
    by_cases hlt : j < k.length
    · obtain ⟨rfl, hb1', hb2', _⟩ := HA.out (by omega)
      obtain ⟨f1, hrow, hsv1, hmk, hol, hor⟩ := HM.out (by omega)
      have g1 := Tr.cntL_take_succ k j hlt
      have g2 := Tr.cntL_take_le k (j + 1)
      have hcp := Tr.cnt_pos k[j]
      have hq2 : q + 3 * k[j].cnt ≤ 67108864 := by have hqe := HQ.out; omega
      clear g1 g2
      obtain ⟨a1, l1, p1, hsvj⟩ := (hor j (Nat.le_refl _) hlt).form
      have hcl := HI.out j hlt (sv j)
      rw [hsvj] at hcl
      have HCL := (show Hid _ from hcl); clear hcl
      have H1 := (show Hid _ from (⟨hrow, hsv1, hmk, hol, hor, hsvj⟩ : _ ∧ _ ∧ _ ∧ _ ∧ _ ∧ _)); clear hrow hsv1 hmk hol hor hsvj
      go_wp2_with fail
      refine Calls.mono (markText_any q hq0 hq1 _) ?_
      rintro e w1 ⟨rfl, hb1⟩
      have hrow1 := H1.out.1.of_block (hb1.block _ H1.out.1.lt)
      have c0 := hrow1.cell (i := j * 4) (by omega)
      have z0 := hrow1.frozen (j * 4)
      have HR1 := (show Hid _ from hrow1); clear hrow1
      go_wp2_with fail
      refine Calls.mono (markText_any (q + 1) (by omega) (by omega) _) ?_
      rintro e w2 ⟨rfl, hb2⟩
      clear c0 z0
      have hrow1 : w1.rowIs b 40 (cap * 4) f1 := HR1.out
      have hR1 := hrow1.set (j * 4) (.string (mt q))
      clear hrow1
      have hrow2 := hR1.of_block (hb2.block _ hR1.lt)
      have c1 := hrow2.cell (i := j * 4 + 1) (by omega)
      have z1 := hrow2.frozen (j * 4 + 1)
      have c2 := hrow2.cell (i := j * 4 + 2) (by omega)
      have z2 := hrow2.frozen (j * 4 + 2)
      have c3 := hrow2.cell (i := j * 4 + 3) (by omega)
      have hsv3 : f1 (j * 4 + 3) = .slice a1 l1 p1 := (H1.out.2.1 j hlt).trans H1.out.2.2.2.2.2
      rw [if_neg (by omega), hsv3] at c3
      have HR2 := (show Hid _ from hrow2); clear hrow2 hR1 hsv3
      go_wp2_with fail
      have eq3 : ((q : Int) + 1 + 1 + 1) = ((q + 3 : Nat) : Int) := by omega
      have eb : (((q : Int) + 1 + 1) % 3 == 0) = decide ((q + 2) % 3 = 0) := by
        rw [Bool.eq_iff_iff]
        simp
        omega
      rw [eq3, eb]
      have hck : k[j].cnt = 1 + Tr.cntL k[j].kids := cnt_eq _
      have hrow2 : w2.rowIs b 40 (cap * 4) _ := HR2.out
      have hR3 := (hrow2.set (j * 4 + 1) (.string (mt (q + 1)))).set (j * 4 + 2) (.bool (decide ((q + 2) % 3 = 0)))
      have hszb := H1.out.1.lt
      have hs1 := hb1.size
      have hs2 := hb2.size
      simp at hs2
      have hW : ∀ p, p < wr.heap.size → p ≠ b → ((w2.setCell ⟨b, j * 4 + 1, none⟩ (.string (mt (q + 1)))).setCell ⟨b, j * 4 + 2, none⟩ (.bool (decide ((q + 2) % 3 = 0)))).heap[p]? = wr.heap[p]? := by
        intro p hp hpb
        rw [blk_setCell_other _ _ _ _ (by exact hpb), blk_setCell_other _ _ _ _ (by exact hpb), hb2.block p (by simp; omega), blk_setCell_other _ _ _ _ (by exact hpb), hb1.block p hp]
      have hwsz : wr.heap.size ≤ ((w2.setCell ⟨b, j * 4 + 1, none⟩ (.string (mt (q + 1)))).setCell ⟨b, j * 4 + 2, none⟩ (.bool (decide ((q + 2) % 3 = 0)))).heap.size := by simp; omega
      have hOW : Out lo hi wr ((w2.setCell ⟨b, j * 4 + 1, none⟩ (.string (mt (q + 1)))).setCell ⟨b, j * 4 + 2, none⟩ (.bool (decide ((q + 2) % 3 = 0)))) :=
        ((((Out.of_below hb1).trans (Out.set _ _ hb1' hb2')).trans (Out.of_below hb2)).trans (Out.set _ _ hb1' hb2')).trans (Out.set _ _ hb1' hb2')
      generalize hW3 : ((w2.setCell ⟨b, j * 4 + 1, none⟩ (.string (mt (q + 1)))).setCell ⟨b, j * 4 + 2, none⟩ (.bool (decide ((q + 2) % 3 = 0)))) = W3 at *
      clear hW3
      obtain ⟨_, _, _, hr, hd⟩ := HX.out
      have hjr := hr j hlt
      have hhi2 : hi ≤ wr.heap.size := Nat.le_trans hhi hout.2.2.2.1
      have hoj : Own W3 (l j) (h j) k[j] (.slice a1 l1 p1) := by
        rw [← H1.out.2.2.2.2.2]
        refine (H1.out.2.2.2.2.1 j (Nat.le_refl _) hlt).keep (Nat.le_refl _) (Nat.le_refl _) (fun p h1 h2 h3 => hW p h3 (by omega))
      refine Calls.mono (HCL.out W3 (l j) (h j) (q + 3) hoj (by omega) (by omega) (by omega)) ?_
      rintro e w4 ⟨rfl, ho4, hown4⟩
      have hm4 : Marked k n cap b sv l h (j + 1) w4 := by
        obtain ⟨g1, g2, g3, g4, g5, g6⟩ := H1.out
        rw [← g6] at hown4
        refine marked_step hlt HQ.out hc hr hd hhi2 g2 g3 g4 g5 hwsz hW hR3 ?_ ?_ ?_ ?_ ho4 hown4
        · rw [if_neg (by omega), if_neg (by omega), if_pos rfl]
        · rw [if_neg (by omega), if_pos rfl]
        · rw [if_pos rfl]
        · intro i hi
          rw [if_neg (by omega), if_neg (by omega), if_neg (by omega)]
      have hout4 : Out lo hi w w4 := (hout.trans hOW).trans (ho4.mono (by omega) (by omega))
      have HM4 := (show Hid _ from hm4); clear hm4 hown4 ho4 hOW hW hR3 hrow2 hoj
      have hq4 : q + 3 + 3 * Tr.cntL k[j].kids = n + 3 * Tr.cntL (k.take (j + 1)) := by
        have := Tr.cntL_take_succ k j hlt
        have := HQ.out
        omega
      have HQ4 := (show Hid _ from hq4); clear hq4
      generalize hqq : q + 3 + 3 * Tr.cntL k[j].kids = qq at *
      have hqq2 : qq ≤ 67108864 := by omega
      have hqq0 : 0 < qq := by omega
      clear hqq
      go_wp2_with fail
      exact ⟨⟨j + 1, qq, by omega, by go_num, rfl, hqq2, hqq0, HQ4, hout4, fun _ => HM4.out⟩, by simp [intOf]; omega⟩
    · have : j = k.length := by omega
      subst this
      have hqe := HQ.out
      rw [List.take_length] at hqe
      obtain ⟨hnm, hx, hm', hr, hd⟩ := HX.out
      have hfin := marked_done (a := a) (nm := nm) (x := x) (le := le) HM.out hc hm' hnm hx (by omega) (fun h0 => ⟨(HA.out h0).1, (HA.out h0).2.1, (HA.out h0).2.2.1⟩) hr hd
      have HF := (show Hid _ from (⟨hfin, hqe⟩ : _ ∧ _)); clear hfin hqe hr hd
      go_wp2_with fail
      go_ret
      exact ⟨by rw [← HF.out.2]; rfl, hout, HF.out.1⟩
end Go.Proofs.Ytledclkmeikgdaa.T
