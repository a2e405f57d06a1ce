import Derived.Test.YtofobmdljelmgaaDk
import Derived.Test.YtofobmdljelmgaaIs
/-! A Dag that is answered is marked; rows of trees, as the law handles them. -/
namespace Go.Proofs.Ytofobmdljelmgaa
open Go.RowKit Go.Deep
set_option linter.unusedVariables false
set_option maxRecDepth 100000
set_option linter.unusedSimpArgs false

/-- .. all in blocks below Z. -/
def DgZ (B Z : Nat) (w : World) (ns : List Nd) (rs : List Nat) (u r : Value) : Prop :=
  ∃ K, DN B w u ns K ∧ w.ownsRow B 3 1 r rs.length (iv (ins rs)) ∧ (∀ q, r.ownBlock = some q → ¬ K q ∧ u.ownBlock ≠ some q) ∧ ∀ q, (K q ∨ u.ownBlock = some q ∨ r.ownBlock = some q) → q < Z
theorem DgZ.r {B Z : Nat} {w : World} {ns : List Nd} {rs : List Nat} {u r : Value} (h : DgZ B Z w ns rs u r) : DgR B w ns rs u r := by
  obtain ⟨K, h1, h2, h3, _⟩ := h
  exact ⟨K, h1, h2, h3⟩
theorem DgR.z {B : Nat} {w : World} {ns : List Nd} {rs : List Nat} {u r : Value} (h : DgR B w ns rs u r) : DgZ B w.heap.size w ns rs u r := by
  obtain ⟨K, h1, h2, h3⟩ := h
  exact ⟨K, h1, h2, h3, fun q hq => (DgR.top h1 h2 q hq).2⟩
theorem DgZ.keep {B Z : Nat} {w w' : World} {ns : List Nd} {rs : List Nat} {u r : Value} (h : DgZ B Z w ns rs u r) (hs : w.heap.size ≤ w'.heap.size) (hb : ∀ q, B ≤ q → q < Z → q < w.heap.size → w'.heap[q]? = w.heap[q]?) : DgZ B Z w' ns rs u r := by
  obtain ⟨K, h1, h2, h3, h4⟩ := h
  have ht := DgR.top h1 h2
  refine ⟨K, h1.keep hs (fun q hq hlt => ?_), own_keep1 h2 (fun q hq => hb q (ht q (.inr (.inr hq))).1 (h4 q (.inr (.inr hq))) (ht q (.inr (.inr hq))).2), h3, h4⟩
  rcases hq with hq | hq
  · exact hb q (ht q (.inl hq)).1 (h4 q (.inl hq)) hlt
  · exact hb q (ht q (.inr (.inl hq))).1 (h4 q (.inr (.inl hq))) hlt
theorem DgZ.still {B Z : Nat} {w w' : World} {ns : List Nd} {rs : List Nat} {u r : Value} (h : DgZ B Z w ns rs u r) (hb : Below w.heap.size w w') : DgZ B Z w' ns rs u r := h.keep hb.size (fun q _ _ hlt => hb.block q hlt)
theorem DgZ.out {B Z lo hi : Nat} {w w' : World} {ns : List Nd} {rs : List Nat} {u r : Value} (h : DgZ B Z w ns rs u r) (ho : Out lo hi w w') (hr : Z ≤ lo ∨ hi ≤ B) : DgZ B Z w' ns rs u r := h.keep ho.2.2.2.1 (fun q h1 h2 hlt => ho.2.2.2.2 q hlt (by omega))
theorem Box.out {lo hi g T : Nat} {w w' : World} {cs : List Value} (h : Box w g T cs) (ho : Out lo hi w w') (hr : g < lo ∨ hi ≤ g) : Box w' g T cs := h.keep (ho.2.2.2.2 g h.lt hr)
/-- The dummy tree over a row of trees. -/
def dm (k : List Tr) : Tr := ⟨ByteArray.empty, ByteArray.empty, false, k⟩
theorem Own.trs {w : World} {lo hi : Nat} {k : List Tr} {v : Value} (h : Own w lo hi (dm k) v) : Trs w (fun b => lo ≤ b ∧ b < hi) k v := by
  obtain ⟨a, cap, b, off, sv, hv, hn, hx, hc, hm, ha, hcell, hk⟩ := h.lies.out
  exact ⟨a, cap, b, off, sv, hv, hc, hm, ha, hcell, hk⟩
/-- No node has too many Kids. -/
theorem put1_few {ns : List Nd} {n : Nd} {m : Nat} (h : ∀ x ∈ ns, x.ks.length ≤ m) (hn : n.ks.length ≤ m) : ∀ x ∈ (put1 ns n).1, x.ks.length ≤ m := by
  unfold put1
  split
  · exact h
  · intro x hx
    rcases List.mem_append.1 hx with hx | hx
    · exact h x hx
    · have e : x = n := by simpa using hx
      rw [e]
      exact hn
theorem putK_few {m : Nat} : ∀ (k : List Tr) (ns : List Nd), (∀ i (hi : i < k.length) ns, k[i].cnt ≤ m → (∀ x ∈ ns, x.ks.length ≤ m) → ∀ x ∈ (putT k[i] ns).1, x.ks.length ≤ m) → (∀ t ∈ k, t.cnt ≤ m) → (∀ x ∈ ns, x.ks.length ≤ m) → ∀ x ∈ (putK (k.map putT) ns).1, x.ks.length ≤ m
  | [], ns, _, _, h => h
  | t :: r, ns, ih, hc, h => by
    have h0 := ih 0 (by simp) ns (hc t (by simp)) h
    exact putK_few r (putT t ns).1 (fun i hi ms => ih (i + 1) (by simp; omega) ms) (fun x hx => hc x (by simp [hx])) h0
theorem cnt_mem {k : List Tr} {t : Tr} (h : t ∈ k) : t.cnt ≤ Tr.cntL k := by
  obtain ⟨i, hi, rfl⟩ := List.mem_iff_getElem.1 h
  have h1 := Tr.cntL_take_succ k i hi
  have h2 := Tr.cntL_take_le k (i + 1)
  omega
theorem putT_few {m : Nat} (t : Tr) : ∀ ns, t.cnt ≤ m → (∀ x ∈ ns, x.ks.length ≤ m) → ∀ x ∈ (putT t ns).1, x.ks.length ≤ m := by
  refine Tr.ind (P := fun t => ∀ ns, t.cnt ≤ m → (∀ x ∈ ns, x.ks.length ≤ m) → ∀ x ∈ (putT t ns).1, x.ks.length ≤ m) ?_ t
  intro n x l k ih ns hc h
  rw [Tr.cnt_mk] at hc
  rw [putT_mk]
  have hl : (putK (k.map putT) ns).2.length = k.length := by
    have := pk_num k k.length (Nat.le_refl _) ns
    rw [pk_all] at this
    exact this
  refine put1_few (putK_few k ns ih (fun t ht => by have := cnt_mem ht; omega) h) ?_
  show (putK (k.map putT) ns).2.length ≤ m
  have := len_le_cntL k
  omega
theorem mo_few {ns : List Nd} {m : Nat} (h : ∀ x ∈ ns, x.ks.length ≤ m) : mo ns ns.length ≤ ns.length * (3 + m) := by
  unfold mo
  rw [List.take_length]
  induction ns with
  | nil => simp
  | cons a r ih =>
    have h1 := ih (fun x hx => h x (by simp [hx]))
    have h2 := h a (by simp)
    simp only [List.map_cons, List.sum_cons, List.length_cons]
    rw [Nat.succ_mul]
    omega
/-- The marks suffice. -/
theorem sh_marks (k : List Tr) : dgM (shN k).1 (shN k).2 1 ≤ 67108864 := by
  unfold shN dgM
  split
  · rename_i ht
    have h1 := tks_len ht
    have h2 : (putTs k []).1.length ≤ Tr.cntL k := by
      have := pk_len k k.length []
      rw [pk_putTs, List.take_length] at this
      simpa using this
    have h3 : (putTs k []).2.length = k.length := by
      rw [← pk_putTs]
      exact pk_num k _ (Nat.le_refl _) []
    have h4 := len_le_cntL k
    have h5 : ∀ x ∈ (putTs k []).1, x.ks.length ≤ 1000 := by
      unfold tksB at ht
      rw [Bool.and_eq_true, decide_eq_true_eq, List.all_eq_true] at ht
      refine putK_few k [] (fun i hi ns => putT_few k[i] ns) (fun t htm => ?_) (fun x hx => by simp at hx)
      have h6 := ht.2 t htm
      unfold Tr.ok at h6
      simp only [Bool.and_eq_true, decide_eq_true_eq] at h6
      exact h6.1.1
    have h6 := mo_few h5
    have h7 : (putTs k []).1.length * (3 + 1000) ≤ 20000 * 1003 := Nat.mul_le_mul (by omega) (by omega)
    omega
  · simp [mo]
end Go.Proofs.Ytofobmdljelmgaa
