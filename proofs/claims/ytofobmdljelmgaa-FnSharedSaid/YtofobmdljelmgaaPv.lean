import Derived.Test.YtofobmdljelmgaaLp
/-! Trees that stand among nodes; values that are worked out from the Kids' values. Nothing here hangs on the program. -/
namespace Go.Proofs.Ytofobmdljelmgaa
set_option linter.unusedVariables false
set_option maxRecDepth 100000
set_option linter.unusedSimpArgs false

/-- The tree is the one that node q stands for. -/
def isT : Tr → List Nd → Nat → Prop := Tr.fold fun n x l fs => fun ns q => ∃ qs : List Nat, ns[q]? = some ⟨n, x, l, qs⟩ ∧ qs.length = fs.length ∧ ∀ i (h1 : i < fs.length) (h2 : i < qs.length), fs[i] ns qs[i]
theorem isT_mk (n x : ByteArray) (l : Bool) (k : List Tr) (ns : List Nd) (q : Nat) : isT ⟨n, x, l, k⟩ ns q ↔ ∃ qs : List Nat, ns[q]? = some ⟨n, x, l, qs⟩ ∧ qs.length = k.length ∧ ∀ i (h1 : i < k.length) (h2 : i < qs.length), isT k[i] ns qs[i] := by
  unfold isT
  rw [Tr.fold_mk]
  constructor
  · rintro ⟨qs, h1, h2, h3⟩
    refine ⟨qs, h1, by simpa using h2, fun i g1 g2 => ?_⟩
    have := h3 i (by simpa using g1) g2
    simpa using this
  · rintro ⟨qs, h1, h2, h3⟩
    refine ⟨qs, h1, by simpa using h2, fun i g1 g2 => ?_⟩
    have := h3 i (by simpa using g1) g2
    simpa using this
theorem pre_at' {α : Type} {l l' : List α} {i : Nat} {x : α} (h : l <+: l') (hi : l[i]? = some x) : l'[i]? = some x := by
  obtain ⟨t, rfl⟩ := h
  rw [List.getElem?_append_left (List.getElem?_eq_some_iff.1 hi).1]
  exact hi
theorem isT_mono (t : Tr) : ∀ {ns ms : List Nd} {q : Nat}, ns <+: ms → isT t ns q → isT t ms q := by
  refine Tr.ind (P := fun t => ∀ {ns ms : List Nd} {q : Nat}, ns <+: ms → isT t ns q → isT t ms q) ?_ t
  intro n x l k ih ns ms q hp h
  rw [isT_mk] at h ⊢
  obtain ⟨qs, h1, h2, h3⟩ := h
  exact ⟨qs, pre_at' hp h1, h2, fun i g1 g2 => ih i g1 hp (h3 i g1 g2)⟩
theorem pk_step_pre {k : List Tr} {j : Nat} (h : j < k.length) (ns : List Nd) : (pk k j ns).1 <+: (pk k (j + 1) ns).1 := by
  rw [pk_succ h]
  exact putT_pre _ _
theorem isT_put (t : Tr) : ∀ ns, isT t (putT t ns).1 (putT t ns).2 := by
  refine Tr.ind (P := fun t => ∀ ns, isT t (putT t ns).1 (putT t ns).2) ?_ t
  intro n x l k ih ns
  rw [isT_mk, putT_mk, ← pk_all]
  have key : ∀ j, j ≤ k.length → ∀ i (hi : i < k.length) (h2 : i < (pk k j ns).2.length), isT k[i] (pk k j ns).1 (pk k j ns).2[i] := by
    intro j
    induction j with
    | zero =>
      intro _ i hi h2
      rw [pk_zero] at h2
      simp at h2
    | succ j ihj =>
      intro hj i hi h2
      have hl := pk_num k j (by omega) ns
      have e := pk_succ (show j < k.length by omega) ns
      by_cases hij : i < j
      · have e2 : (pk k (j + 1) ns).2[i] = (pk k j ns).2[i]'(by omega) := by
          simp only [e]
          rw [List.getElem_append_left]
        rw [e2]
        exact isT_mono _ (pk_step_pre (by omega) ns) (ihj (by omega) i hi (by omega))
      · have hi2 : i = j := by
          have := pk_num k (j + 1) hj ns
          omega
        subst hi2
        have e2 : (pk k (i + 1) ns).2[i] = (putT k[i] (pk k i ns).1).2 := by
          simp only [e]
          rw [List.getElem_append_right (by omega)]
          simp
        rw [e2, e]
        exact ih i hi _
  refine ⟨(pk k k.length ns).2, put1_at _ _, pk_num k _ (Nat.le_refl _) ns, fun i g1 g2 => ?_⟩
  exact isT_mono _ (put1_pre _ _) (key k.length (Nat.le_refl _) i g1 g2)
theorem isT_stay (t : Tr) : ∀ {ns : List Nd} {q : Nat}, ns.Nodup → isT t ns q → putT t ns = (ns, q) := by
  refine Tr.ind (P := fun t => ∀ {ns : List Nd} {q : Nat}, ns.Nodup → isT t ns q → putT t ns = (ns, q)) ?_ t
  intro n x l k ih ns q hd h
  rw [isT_mk] at h
  obtain ⟨qs, h1, h2, h3⟩ := h
  have key : ∀ j, j ≤ k.length → pk k j ns = (ns, qs.take j) := by
    intro j
    induction j with
    | zero => intro _; rw [pk_zero]; simp
    | succ j ihj =>
      intro hj
      have e := pk_succ (show j < k.length by omega) ns
      rw [ihj (by omega)] at e
      have e2 := ih j (by omega) hd (h3 j (by omega) (by omega))
      dsimp only at e
      rw [e2] at e
      rw [e, List.take_succ_eq_append_getElem (by omega)]
  have e := key k.length (Nat.le_refl _)
  rw [← h2, List.take_length, h2] at e
  rw [putT_mk, ← pk_all, e]
  have h4 := fnd_at hd h1
  have h5 := (List.getElem?_eq_some_iff.1 h1).1
  unfold put1
  dsimp only
  rw [h4, if_pos h5]
/-- Kids have lesser numbers. -/
def gdN (ns : List Nd) : Prop := ∀ (q : Nat) n, ns[q]? = some n → ∀ c ∈ n.ks, c < q
theorem put1_gd {ns : List Nd} {n : Nd} (h : gdN ns) (hn : ∀ c ∈ n.ks, c < ns.length) : gdN (put1 ns n).1 := by
  unfold put1
  split
  · exact h
  · intro q m hq c hc
    by_cases e : q < ns.length
    · dsimp only at hq
      rw [List.getElem?_append_left e] at hq
      exact h q m hq c hc
    · have hq' : (ns ++ [n])[q]? = some m := hq
      have hql := (List.getElem?_eq_some_iff.1 hq').1
      simp at hql
      have e2 : q = ns.length := by omega
      subst e2
      have e3 : n = m := by simpa using hq'
      subst e3
      exact hn c hc
theorem putK_gd : ∀ (k : List Tr) (ns : List Nd), (∀ i (hi : i < k.length) ns, ns.Nodup → gdN ns → gdN (putT k[i] ns).1) → ns.Nodup → gdN ns → gdN (putK (k.map putT) ns).1
  | [], ns, _, _, h => h
  | t :: r, ns, ih, hd, h => putK_gd r (putT t ns).1 (fun i hi ms => ih (i + 1) (by simp; omega) ms) (putT_keep t ns hd).2.1 (ih 0 (by simp) ns hd h)
theorem putT_gd (t : Tr) : ∀ ns, ns.Nodup → gdN ns → gdN (putT t ns).1 := by
  refine Tr.ind (P := fun t => ∀ ns, ns.Nodup → gdN ns → gdN (putT t ns).1) ?_ t
  intro n x l k ih ns hd h
  rw [putT_mk]
  exact put1_gd (putK_gd k ns ih hd h) (putTs_keep k hd).2.2.1
/-- The first j values: of each node its own and its Kids'. -/
def vlN (f : Nat → Nat) (ns : List Nd) : Nat → List Nat
  | 0 => []
  | j + 1 => vlN f ns j ++ [f j + ((nd ns j).ks.map fun q => (vlN f ns j).getD q 0).sum]
theorem vlN_len (f : Nat → Nat) (ns : List Nd) : ∀ j, (vlN f ns j).length = j
  | 0 => rfl
  | j + 1 => by rw [vlN, List.length_append, vlN_len f ns j]; rfl
theorem vlN_congr {f : Nat → Nat} {ns ms : List Nd} : ∀ j, (∀ i, i < j → nd ns i = nd ms i) → vlN f ns j = vlN f ms j
  | 0, _ => rfl
  | j + 1, h => by rw [vlN, vlN, vlN_congr j (fun i hi => h i (by omega)), h j (by omega)]
theorem vlN_pre (f : Nat → Nat) (ns : List Nd) : ∀ {i j}, i ≤ j → vlN f ns i <+: vlN f ns j := by
  intro i j h
  induction h with
  | refl => exact List.prefix_refl _
  | step _ ih => exact ih.trans (by rw [vlN]; exact List.prefix_append _ _)
/-- The value of a node. -/
def vv (f : Nat → Nat) (ns : List Nd) (q : Nat) : Nat := (vlN f ns (q + 1)).getD q 0
theorem vlN_get (f : Nat → Nat) (ns : List Nd) {j q : Nat} (h : q < j) : (vlN f ns j)[q]? = some (vv f ns q) := by
  have h1 : q < (vlN f ns (q + 1)).length := by rw [vlN_len]; omega
  have h2 : (vlN f ns (q + 1))[q]? = some (vv f ns q) := by
    unfold vv
    simp [List.getD_eq_getElem?_getD, h1]
  exact pre_at' (vlN_pre f ns (by omega)) h2
theorem vv_eq (f : Nat → Nat) {ns : List Nd} (hg : gdN ns) {q : Nat} (hq : q < ns.length) : vv f ns q = f q + ((nd ns q).ks.map (vv f ns)).sum := by
  have h1 : vv f ns q = f q + ((nd ns q).ks.map fun c => (vlN f ns q).getD c 0).sum := by
    unfold vv
    rw [vlN, List.getD_eq_getElem?_getD, List.getElem?_append_right (by rw [vlN_len]; omega), vlN_len]
    simp
  rw [h1]
  congr 2
  refine List.map_congr_left (fun c hc => ?_)
  have h2 := hg q (nd ns q) (by rw [nd_eq hq]; exact List.getElem?_eq_getElem hq) c hc
  rw [List.getD_eq_getElem?_getD, vlN_get f ns h2]
  rfl
theorem vv_app {f : Nat → Nat} {ns ms : List Nd} (hp : ns <+: ms) {q : Nat} (hq : q < ns.length) : vv f ms q = vv f ns q := by
  unfold vv
  rw [vlN_congr (ns := ms) (ms := ns) (q + 1) (fun i hi => ?_)]
  obtain ⟨t, rfl⟩ := hp
  unfold nd
  rw [List.getElem?_append_left (by omega)]
/-- Nodes count their trees' trees. -/
theorem vv_cnt (t : Tr) : ∀ {ns : List Nd} {q : Nat}, gdN ns → isT t ns q → vv (fun _ => 1) ns q = t.cnt := by
  refine Tr.ind (P := fun t => ∀ {ns : List Nd} {q : Nat}, gdN ns → isT t ns q → vv (fun _ => 1) ns q = t.cnt) ?_ t
  intro n x l k ih ns q hg h
  rw [isT_mk] at h
  obtain ⟨qs, h1, h2, h3⟩ := h
  have hq := (List.getElem?_eq_some_iff.1 h1).1
  rw [vv_eq _ hg hq, Tr.cnt_mk]
  have e : nd ns q = ⟨n, x, l, qs⟩ := by unfold nd; rw [h1]; rfl
  rw [e]
  show 1 + (qs.map (vv (fun _ => 1) ns)).sum = 1 + Tr.cntL k
  unfold Tr.cntL
  congr 2
  refine List.ext_getElem (by simp [h2]) (fun i g1 g2 => ?_)
  simp only [List.getElem_map]
  exact ih i (by simpa using g2) hg (h3 i (by simpa using g2) (by simpa using g1))
def bdN (m : Nat) (ns : List Nd) : Prop := ∀ q, q < ns.length → vv (fun _ => 1) ns q ≤ m
theorem putK_bd {m : Nat} : ∀ (k : List Tr) (ns : List Nd), (∀ i (hi : i < k.length) ns, ns.Nodup → gdN ns → k[i].cnt ≤ m → bdN m ns → bdN m (putT k[i] ns).1) → (∀ t ∈ k, t.cnt ≤ m) → ns.Nodup → gdN ns → bdN m ns → bdN m (putK (k.map putT) ns).1
  | [], ns, _, _, _, _, h => h
  | t :: r, ns, ih, hc, hd, hg, h => putK_bd r (putT t ns).1 (fun i hi ms => ih (i + 1) (by simp; omega) ms) (fun x hx => hc x (by simp [hx])) (putT_keep t ns hd).2.1 (putT_gd t ns hd hg) (ih 0 (by simp) ns hd hg (hc t (by simp)) h)
theorem cnt_mem' {k : List Tr} {t : Tr} (h : t ∈ k) : t.cnt ≤ Tr.cntL k := by
  obtain ⟨i, hi, rfl⟩ := List.mem_iff_getElem.1 h
  have h1 := Tr.cntL_take_succ k i hi
  have h2 := Tr.cntL_take_le k (i + 1)
  omega
theorem putT_bd {m : Nat} (t : Tr) : ∀ ns, ns.Nodup → gdN ns → t.cnt ≤ m → bdN m ns → bdN m (putT t ns).1 := by
  refine Tr.ind (P := fun t => ∀ ns, ns.Nodup → gdN ns → t.cnt ≤ m → bdN m ns → bdN m (putT t ns).1) ?_ t
  intro n x l k ih ns hd hg hc h
  have hT := isT_put ⟨n, x, l, k⟩ ns
  have hgT := putT_gd ⟨n, x, l, k⟩ ns hd hg
  have hcn := vv_cnt _ hgT hT
  rw [putT_mk] at hcn ⊢
  have hk := putK_bd k ns ih (fun t ht => by have := cnt_mem' ht; rw [Tr.cnt_mk] at hc; omega) hd hg h
  unfold put1 at hcn ⊢
  split
  · exact hk
  · rename_i hne
    rw [if_neg hne] at hcn
    intro q hq
    dsimp only at hq hcn ⊢
    rw [List.length_append, List.length_singleton] at hq
    by_cases e : q < (putK (k.map putT) ns).1.length
    · rw [vv_app (List.prefix_append _ _) e]
      exact hk q e
    · have e2 : q = (putK (k.map putT) ns).1.length := by omega
      rw [e2, hcn]
      exact hc
/-- A tree's own node comes last when there was none. -/
theorem putT_last (t : Tr) : (putT t []).2 + 1 = (putT t []).1.length := by
  obtain ⟨n, x, l, k⟩ := t
  have hg0 : gdN [] := fun q n h => by simp at h
  have hT := isT_put ⟨n, x, l, k⟩ []
  have hgT := putT_gd ⟨n, x, l, k⟩ [] (by simp) hg0
  have hcn := vv_cnt _ hgT hT
  have hk := putK_bd (m := Tr.cntL k) k [] (fun i hi ns => putT_bd k[i] ns) (fun t ht => cnt_mem' ht) (by simp) hg0 (fun q hq => by simp at hq)
  rw [putT_mk, Tr.cnt_mk] at hcn
  rw [putT_mk]
  unfold put1 at hcn ⊢
  split
  · rename_i hlt
    rw [if_pos hlt] at hcn
    have := hk _ hlt
    dsimp only at hcn
    omega
  · simp
end Go.Proofs.Ytofobmdljelmgaa
