import Derived.Test.YtledclkmeikgdaaSy
import Derived.Test.YtledclkmeikgdaaXToOwn
/-! What is answered: how much it is; what marks leave of it. -/
namespace Go.Proofs.Ytledclkmeikgdaa
open Go.RowKit Go.Deep Go.Lib
open Go.Proofs.Ytledclkmeikgdaa.T (Tr)
set_option linter.unusedVariables false
set_option maxRecDepth 100000
set_option linter.unusedSimpArgs false

/-- No path is longer. -/
def Sw.Pl (M : Nat) (s : Sw) : Prop := (∀ x ∈ s.dp, x.length ≤ M) ∧ ∀ x ∈ s.rp, x.length ≤ M
theorem sw_pl (M : Nat) (t : Tr) : ∀ (sc : Nat) (p : List Nat) (s : Sw), p.length + t.deep ≤ M → s.Pl M → (sw t sc p s).Pl M := by
  induction t using T.Tr.ind with
  | h n x l k ih =>
    intro sc p s hp hs
    rw [T.Tr.deep_mk] at hp
    have hk : ∀ (d : Bool) (inn : Nat) (s : Sw), s.Pl M → ∀ j, j ≤ k.length → (swJ d sc inn p k j s).Pl M := by
      intro d inn s hs j
      induction j with
      | zero => intro _; exact hs
      | succ j ihj =>
        intro hj
        by_cases hd : d = true ∧ j = 0
        · obtain ⟨rfl, rfl⟩ := hd
          rw [swJ_one]
          exact hs
        · rw [swJ_succ (by omega) hd]
          have h1 := T.Tr.deepL_take_succ k j (by omega)
          have h2 := T.Tr.deepL_take_le k (j + 1)
          exact ih j (by omega) _ _ _ (by rw [List.length_append, List.length_singleton]; omega) (ihj (by omega))
    rw [sw_mk]
    split
    · split
      · refine ⟨hs.1, fun y hy => ?_⟩
        rcases List.mem_append.1 hy with hy | hy
        · exact hs.2 y hy
        · rw [List.mem_singleton] at hy
          subst hy
          omega
      · exact hs
    · split
      · rw [← swJ_all]
        refine hk true s.n (s.dcl (nm0 k) sc p) ⟨fun y hy => ?_, hs.2⟩ _ (Nat.le_refl _)
        rcases List.mem_append.1 hy with hy | hy
        · exact hs.1 y hy
        · rw [List.mem_singleton] at hy
          subst hy
          rw [List.length_append, List.length_singleton]
          omega
      · rw [← swJ_all]
        exact hk false 0 s hs _ (Nat.le_refl _)
theorem sum_le (M : Nat) (ls : List (List Nat)) (h : ∀ x ∈ ls, x.length ≤ M) : (ls.map List.length).sum ≤ ls.length * M := by
  induction ls with
  | nil => simp
  | cons a ls ih =>
    have h1 := h a (by simp)
    have h2 := ih (fun x hx => h x (by simp [hx]))
    simp only [List.map_cons, List.sum_cons, List.length_cons]
    rw [Nat.succ_mul]
    omega
theorem ro_sum (M : Nat) (ls : List (List Nat)) (h : ∀ x ∈ ls, x.length ≤ M) : ro ls ls.length ≤ ls.length * M := by
  unfold ro
  rw [List.take_length]
  exact sum_le M ls h
theorem scR_few (t : Tr) : (scR t).1.es.length ≤ 5000 ∧ (scR t).1.ds.length ≤ 5000 ∧ (scR t).1.rs.length ≤ 5000 ∧ ro (scR t).1.dp (scR t).1.dp.length ≤ 300000 ∧ ro (scR t).1.rp (scR t).1.rp.length ≤ 300000 := by
  have h0 : ∀ n, (sw0 n).es.length ≤ 5000 ∧ (sw0 n).ds.length ≤ 5000 ∧ (sw0 n).rs.length ≤ 5000 ∧ ro (sw0 n).dp (sw0 n).dp.length ≤ 300000 ∧ ro (sw0 n).rp (sw0 n).rp.length ≤ 300000 := fun n => by
    unfold sw0
    simp [ro]
  unfold scR
  split
  · exact h0 _
  · rename_i h
    split
    · exact h0 _
    · have hok : (t.ok && T.tm t) = true := by simpa using h
      rw [Bool.and_eq_true] at hok
      have hok1 := hok.1
      unfold T.Tr.ok at hok1
      simp only [Bool.and_eq_true, decide_eq_true_eq] at hok1
      have h1 := sw_sz t 0 [] (sw0 1)
      have h2 := sw_pl 60 t 0 [] (sw0 1) (by simp; omega) ⟨fun x hx => absurd hx (by simp [sw0]), fun x hx => absurd hx (by simp [sw0])⟩
      have h3 : (sw0 1).sz = 1 := by unfold Sw.sz sw0; simp
      dsimp only
      generalize sw t 0 [] (sw0 1) = s at *
      have h4 := ro_sum 60 s.dp h2.1
      have h5 := ro_sum 60 s.rp h2.2
      unfold Sw.sz at h1
      unfold Sw.sz at h3
      refine ⟨by omega, by omega, by omega, ?_, ?_⟩ <;> omega
theorem own_rk {w : World} {B e z n : Nat} {v : Value} {xs : List Value} (h : w.ownsRow B e z v n xs) (hn : n ≤ 1048576) : ∃ b, Rk w b e n z v ∧ (0 < n → v.ownBlock = some b) := by
  rcases h.2 with ⟨rfl, h0⟩ | ⟨g, cap, cur, rfl, r2, r3, r4, r5, r6, r7⟩
  · subst h0
    exact ⟨0, ⟨none, 0, 0, rfl, Nat.zero_le _, fun h => absurd h (Nat.not_lt_zero _)⟩, fun h => absurd h (Nat.not_lt_zero _)⟩
  · refine ⟨g, ⟨some ⟨g, 0, none⟩, cap, cap * z, rfl, hn, fun _ => ⟨rfl, Nat.mul_le_mul_right _ r4, fun i => cur[i]?.getD .nilFunc, cur, r3, r6, fun i hi => ?_⟩⟩, fun _ => rfl⟩
    rw [Array.getElem?_eq_getElem (by omega)]
    simp [Array.getElem?_eq_getElem, show i < cur.size by omega]
/-- The three rows of the answered Sg: they are what its marks turn. -/
theorem Ow.rg {w : World} {A : Nat} {s : Sw} {c : CV} (h : Ow w A s c) (h1 : s.es.length ≤ 5000) (h2 : s.ds.length ≤ 5000) (h3 : s.rs.length ≤ 5000) : ∃ b1 b2 b3, Rg3 w A w.heap.size b1 b2 b3 s.es.length s.ds.length s.rs.length c.v1 c.v2 c.v3 ∧ (0 < s.es.length → c.v1.ownBlock = some b1) ∧ (0 < s.ds.length → c.v2.ownBlock = some b2) ∧ (0 < s.rs.length → c.v3.ownBlock = some b3) := by
  obtain ⟨b1, k1, e1⟩ := own_rk h.e (by omega)
  obtain ⟨b2, k2, e2⟩ := own_rk h.d (by omega)
  obtain ⟨b3, k3, e3⟩ := own_rk h.r (by omega)
  refine ⟨b1, b2, b3, ⟨k1, k2, k3, ⟨fun p q e => ?_, fun p q e => ?_, fun p q e => ?_⟩, ⟨fun p => ?_, fun p => ?_, fun p => ?_⟩⟩, e1, e2, e3⟩
  · exact own_apart h.e h.d (by decide) (e2 q) (by rw [e1 p, e])
  · exact own_apart h.e h.r (by decide) (e3 q) (by rw [e1 p, e])
  · exact h.dr b2 (e2 p) (by rw [e3 q, e])
  · exact World.ownsRow.lt h.e b1 (e1 p)
  · exact World.ownsRow.lt h.d b2 (e2 p)
  · exact World.ownsRow.lt h.r b3 (e3 p)
/-- What stands behind all marks: those of the Sg, those of both rows of paths. -/
structure MkS (W : World) (s : Sw) (c : CV) (b1 b2 b3 m : Nat) : Prop where
  sg : Mg3 W b1 b2 b3 s.es.length s.ds.length s.rs.length 1 c.v1 c.v2 c.v3
  dp : RdR W (mkJ m s.dp s.dp.length) c.v4
  rp : RdR W (mkJ (m + ro s.dp s.dp.length) s.rp s.rp.length) c.v5
theorem MkS.still {W W' : World} {s : Sw} {c : CV} {b1 b2 b3 m : Nat} (h : MkS W s c b1 b2 b3 m) (hb : Below W.heap.size W W') : MkS W' s c b1 b2 b3 m := ⟨h.sg.still hb, h.dp.still hb, h.rp.still hb⟩
/-- Behind the Sg's marks. -/
structure MkA (W : World) (A : Nat) (s : Sw) (c : CV) (b1 b2 b3 : Nat) : Prop where
  sg : Mg3 W b1 b2 b3 s.es.length s.ds.length s.rs.length 1 c.v1 c.v2 c.v3
  dp : RRv W A s.dp c.v4 c.D
  rp : RRv W A s.rp c.v5 c.R
  ot : ∀ b, (b = b1 ∧ 0 < s.es.length) ∨ (b = b2 ∧ 0 < s.ds.length) ∨ (b = b3 ∧ 0 < s.rs.length) → (∀ i, i < s.dp.length → (c.D i).ownBlock ≠ some b) ∧ (∀ i, i < s.rp.length → (c.R i).ownBlock ≠ some b)
  pp : ∀ b, c.v4.ownBlock = some b → c.v5.ownBlock ≠ some b
  px : ∀ i j, i < s.dp.length → j < s.rp.length → ∀ b, (c.D i).ownBlock = some b → (c.R j).ownBlock ≠ some b
theorem Ow.marked {w w' : World} {A b1 b2 b3 : Nat} {s : Sw} {c : CV} (h : Ow w A s c) (e1 : 0 < s.es.length → c.v1.ownBlock = some b1) (e2 : 0 < s.ds.length → c.v2.ownBlock = some b2) (e3 : 0 < s.rs.length → c.v3.ownBlock = some b3)
    (ho : ∀ k, k < w.heap.size → (0 < s.es.length → k ≠ b1) → (0 < s.ds.length → k ≠ b2) → (0 < s.rs.length → k ≠ b3) → w'.heap[k]? = w.heap[k]?) (hm : Mg3 w' b1 b2 b3 s.es.length s.ds.length s.rs.length 1 c.v1 c.v2 c.v3) : MkA w' A s c b1 b2 b3 := by
  have hot : ∀ b, (b = b1 ∧ 0 < s.es.length) ∨ (b = b2 ∧ 0 < s.ds.length) ∨ (b = b3 ∧ 0 < s.rs.length) → c.v1.ownBlock = some b ∨ c.v2.ownBlock = some b ∨ c.v3.ownBlock = some b := by
    rintro b (⟨rfl, h0⟩ | ⟨rfl, h0⟩ | ⟨rfl, h0⟩)
    · exact .inl (e1 h0)
    · exact .inr (.inl (e2 h0))
    · exact .inr (.inr (e3 h0))
  have rowE : ∀ {e k n B : Nat} {v : Value} {xs : List Value} {b : Nat}, w.ownsRow B e k v n xs → e ≠ 74 → e ≠ 33 → v.ownBlock = some b → ¬ (c.v1.ownBlock = some b ∨ c.v2.ownBlock = some b ∨ c.v3.ownBlock = some b) := by
    intro e k n B v xs b hr n1 n2 hb hc
    rcases hc with hc | hc | hc
    · exact own_apart hr h.e n1 hc hb
    · exact own_apart hr h.d n2 hc hb
    · exact own_apart hr h.r n2 hc hb
  have keep : ∀ b, b < w.heap.size → ¬ (c.v1.ownBlock = some b ∨ c.v2.ownBlock = some b ∨ c.v3.ownBlock = some b) → w'.heap[b]? = w.heap[b]? := fun b hb hn => ho b hb (fun h0 e => hn (hot b (.inl ⟨e, h0⟩))) (fun h0 e => hn (hot b (.inr (.inl ⟨e, h0⟩)))) (fun h0 e => hn (hot b (.inr (.inr ⟨e, h0⟩))))
  refine ⟨hm, h.dp.keep (fun b e => keep b (World.ownsRow.lt h.dp.out b e).2 (rowE h.dp.out (by decide) (by decide) e)) (fun i hi b e => keep b (World.ownsRow.lt (h.dp.row i hi) b e).2 (rowE (h.dp.row i hi) (by decide) (by decide) e)), h.rp.keep (fun b e => keep b (World.ownsRow.lt h.rp.out b e).2 (rowE h.rp.out (by decide) (by decide) e)) (fun i hi b e => keep b (World.ownsRow.lt (h.rp.row i hi) b e).2 (rowE (h.rp.row i hi) (by decide) (by decide) e)), fun b hb => ⟨fun i hi e => rowE (h.dp.row i hi) (by decide) (by decide) e (hot b hb), fun i hi e => rowE (h.rp.row i hi) (by decide) (by decide) e (hot b hb)⟩, h.pp, h.px⟩
theorem Mg3.keep {w w' : World} {b1 b2 b3 l1 l2 l3 n : Nat} {u1 u2 u3 : Value} (h : Mg3 w b1 b2 b3 l1 l2 l3 n u1 u2 u3) (hk : ∀ b, (b = b1 ∧ 0 < l1) ∨ (b = b2 ∧ 0 < l2) ∨ (b = b3 ∧ 0 < l3) → b < w.heap.size → w'.heap[b]? = w.heap[b]?) : Mg3 w' b1 b2 b3 l1 l2 l3 n u1 u2 u3 :=
  ⟨h.m1.keep' (fun h0 hl => hk _ (.inl ⟨rfl, h0⟩) hl), h.m2.keep' (fun h0 hl => hk _ (.inr (.inl ⟨rfl, h0⟩)) hl), h.m3.keep' (fun h0 hl => hk _ (.inr (.inr ⟨rfl, h0⟩)) hl)⟩
/-- Behind the first row of paths. -/
structure MkB (W : World) (A : Nat) (s : Sw) (c : CV) (b1 b2 b3 m : Nat) : Prop where
  sg : Mg3 W b1 b2 b3 s.es.length s.ds.length s.rs.length 1 c.v1 c.v2 c.v3
  dp : RRv W A (mkJ m s.dp s.dp.length) c.v4 c.D
  rp : RRv W A s.rp c.v5 c.R
  ot : ∀ b, (b = b1 ∧ 0 < s.es.length) ∨ (b = b2 ∧ 0 < s.ds.length) ∨ (b = b3 ∧ 0 < s.rs.length) → (∀ i, i < s.rp.length → (c.R i).ownBlock ≠ some b)
  px : ∀ i j, i < s.dp.length → j < s.rp.length → ∀ b, (c.D i).ownBlock = some b → (c.R j).ownBlock ≠ some b
theorem MkA.next {W W' : World} {A b1 b2 b3 m : Nat} {s : Sw} {c : CV} (h : MkA W A s c b1 b2 b3) (hd : RRv W' A (mkJ m s.dp s.dp.length) c.v4 c.D) (ho : ∀ k, k < W.heap.size → (∀ i, i < s.dp.length → (c.D i).ownBlock ≠ some k) → W'.heap[k]? = W.heap[k]?) : MkB W' A s c b1 b2 b3 m := by
  refine ⟨h.sg.keep (fun b hb hl => ho b hl (h.ot b hb).1), hd, h.rp.keep (fun b e => ho b (World.ownsRow.lt h.rp.out b e).2 (fun i hi e2 => own_apart (h.dp.row i hi) h.rp.out (by decide) e e2)) (fun j hj b e => ho b (World.ownsRow.lt (h.rp.row j hj) b e).2 (fun i hi e2 => h.px i j hi hj b e2 e)), fun b hb => (h.ot b hb).2, h.px⟩
theorem MkB.done {W W' : World} {A b1 b2 b3 m : Nat} {s : Sw} {c : CV} (h : MkB W A s c b1 b2 b3 m) (hd : RRv W' A (mkJ (m + ro s.dp s.dp.length) s.rp s.rp.length) c.v5 c.R) (ho : ∀ k, k < W.heap.size → (∀ i, i < s.rp.length → (c.R i).ownBlock ≠ some k) → W'.heap[k]? = W.heap[k]?) : MkS W' s c b1 b2 b3 m := by
  refine ⟨h.sg.keep (fun b hb hl => ho b hl (h.ot b hb)), (h.dp.keep (fun b e => ho b (World.ownsRow.lt h.dp.out b e).2 (fun j hj e2 => own_apart (h.rp.row j hj) h.dp.out (by decide) e e2)) (fun i hi b e => ho b (World.ownsRow.lt (h.dp.row i hi) b e).2 (fun j hj e2 => h.px i j (by rw [mkJ_len] at hi; exact hi) hj b e e2))).rd, hd.rd⟩
/-- What can be read of it. -/
theorem Ow.rd {w : World} {A : Nat} {s : Sw} {c : CV} (h : Ow w A s c) : RdR w s.dp c.v4 ∧ RdR w s.rp c.v5 := ⟨h.dp.rd, h.rp.rd⟩
namespace T
open Go.Proofs.Ytledclkmeikgdaa (Out)
theorem mark23 (t : Tr) (v : Value) (w : World) (lo hi n : Nat) (h : Own w lo hi t v) (hhi : hi ≤ w.heap.size) (hn : 0 < n) (hnk : n + 3 * Tr.cntL t.kids ≤ 67108864) :
    Calls Try.prog 23 #[t.val v, .int .i64 n] w fun e w' => e = .returned (.int .i64 (n + 3 * Tr.cntL t.kids : Nat)) ∧ T.Out lo hi w w' := by
  have hcl := markS_any t v (w.alloc (.cells #[.string t.name, .string t.text, .bool t.leaf, v] 40)) lo hi n (h.keep (Nat.le_refl _) (Nat.le_refl _) (fun k _ _ hk => (bel_alloc w _).block k hk)) (by simp; omega) hn hnk
  obtain ⟨a, len, cap, rfl⟩ := h.form
  have HCL := (show Hid _ from hcl); clear hcl h
  simp only [Tr.val]
  go_enter Try.func23, Try.ntmps23
  go_wp2_with fail
  refine Calls.mono HCL.out ?_
  rintro e w1 ⟨rfl, ho, hown⟩
  have HO := (show Hid _ from (⟨ho, hown⟩ : _ ∧ _)); clear ho hown
  go_wp2_with fail
  go_ret
  exact ⟨rfl, (Out.of_below (bel_alloc w _)).trans HO.out.1⟩
end T
end Go.Proofs.Ytledclkmeikgdaa
