import Derived.Test.YtblfeifedcddnaaBxs
import Derived.Test.YtblfeifedcddnaaDk
import Derived.Test.YtblfeifedcddnaaDq
import Derived.Test.YtblfeifedcddnaaIs
/-! A Dag that is answered is marked; rows of trees, as the law handles them. -/
namespace Go.Proofs.Ytblfeifedcddnaa
open Go.RowKit Go.Deep
set_option linter.unusedVariables false
set_option maxRecDepth 100000
set_option linter.unusedSimpArgs false

/-- .. all in blocks below Z. -/
def DgZ (B Z : Nat) (w : World) (ns : List Nd) (rs : List Nat) (u r : Value) : Prop :=
  ∃ K, DN B w u ns K ∧ w.ownsRow B 3 1 r rs.length (iv (ins rs)) ∧ (∀ q, r.ownBlock = some q → ¬ K q ∧ u.ownBlock ≠ some q) ∧ ∀ q, (K q ∨ u.ownBlock = some q ∨ r.ownBlock = some q) → q < Z
theorem DgZ.r {B Z : Nat} {w : World} {ns : List Nd} {rs : List Nat} {u r : Value} (h : DgZ B Z w ns rs u r) : DgR B w ns rs u r := by
  obtain ⟨K, h1, h2, h3, _⟩ := h
  exact ⟨K, h1, h2, h3⟩
theorem DgR.z {B : Nat} {w : World} {ns : List Nd} {rs : List Nat} {u r : Value} (h : DgR B w ns rs u r) : DgZ B w.heap.size w ns rs u r := by
  obtain ⟨K, h1, h2, h3⟩ := h
  exact ⟨K, h1, h2, h3, fun q hq => (DgR.top h1 h2 q hq).2⟩
theorem DgZ.keep {B Z : Nat} {w w' : World} {ns : List Nd} {rs : List Nat} {u r : Value} (h : DgZ B Z w ns rs u r) (hs : w.heap.size ≤ w'.heap.size) (hb : ∀ q, B ≤ q → q < Z → q < w.heap.size → w'.heap[q]? = w.heap[q]?) : DgZ B Z w' ns rs u r := by
  obtain ⟨K, h1, h2, h3, h4⟩ := h
  have ht := DgR.top h1 h2
  refine ⟨K, h1.keep hs (fun q hq hlt => ?_), own_keep1 h2 (fun q hq => hb q (ht q (.inr (.inr hq))).1 (h4 q (.inr (.inr hq))) (ht q (.inr (.inr hq))).2), h3, h4⟩
  rcases hq with hq | hq
  · exact hb q (ht q (.inl hq)).1 (h4 q (.inl hq)) hlt
  · exact hb q (ht q (.inr (.inl hq))).1 (h4 q (.inr (.inl hq))) hlt
theorem DgZ.still {B Z : Nat} {w w' : World} {ns : List Nd} {rs : List Nat} {u r : Value} (h : DgZ B Z w ns rs u r) (hb : Below w.heap.size w w') : DgZ B Z w' ns rs u r := h.keep hb.size (fun q _ _ hlt => hb.block q hlt)
theorem DgZ.out {B Z lo hi : Nat} {w w' : World} {ns : List Nd} {rs : List Nat} {u r : Value} (h : DgZ B Z w ns rs u r) (ho : Out lo hi w w') (hr : Z ≤ lo ∨ hi ≤ B) : DgZ B Z w' ns rs u r := h.keep ho.2.2.2.1 (fun q h1 h2 hlt => ho.2.2.2.2 q hlt (by omega))
/-- The dummy tree over a row of trees. -/
def dm (k : List Tr) : Tr := ⟨ByteArray.empty, ByteArray.empty, false, k⟩
theorem Own.trs {w : World} {lo hi : Nat} {k : List Tr} {v : Value} (h : Own w lo hi (dm k) v) : Trs w (fun b => lo ≤ b ∧ b < hi) k v := by
  obtain ⟨a, cap, b, off, sv, hv, hn, hx, hc, hm, ha, hcell, hk⟩ := h.lies.out
  exact ⟨a, cap, b, off, sv, hv, hc, hm, ha, hcell, hk⟩
theorem szTrs {S : Nat → Prop} (k : List Tr) (v : Value) (w : World) (h : Trs w S k v) :
    Calls Try.prog 9 #[v, .int .i64 1048576] w fun e w' => e = .returned (.int .i64 (szR (k.length + Tr.wtL k) 1048576)) ∧ Below w.heap.size w w' := by
  obtain ⟨a, cap, b, off, sv, rfl, hc, hm, ha, hcell, hr⟩ := h
  exact szS_any k a cap b off sv S hc hm ha (fun i hi w left hl h0 h1 => sz_any k[i] (sv i) w left hl h0 h1) w 1048576 (by omega) (Int.le_refl _) hcell hr
theorem toTrs {S : Nat → Prop} (k : List Tr) (v : Value) (w : World) (h : Trs w S k v) (hs : k.length + Tr.wtL k ≤ 1048576) :
    Calls Try.prog 11 #[v] w fun e w' => e = .returned (.slice (some ⟨w.heap.size, 0, none⟩) k.length k.length) ∧ Below w.heap.size w w' ∧ Own w' w.heap.size w'.heap.size (dm k) (.slice (some ⟨w.heap.size, 0, none⟩) k.length k.length) := by
  obtain ⟨a, cap, b, off, sv, rfl, hc, hm, ha, hcell, hr⟩ := h
  refine Calls.mono (toSO_any k a cap b off sv S hc hm ha (by omega) (fun i hi w hl => toO_any k[i] (sv i) w hl (by have := Tr.wt_mem k i hi; omega)) w hcell hr) ?_
  rintro e w' ⟨h1, h2, h3⟩
  refine ⟨h1, h2, madeO_own h3 ?_ ?_ (by unfold maxLen; omega)⟩
  · show (0 : Nat) ≤ _; exact Nat.zero_le _
  · show (0 : Nat) ≤ _; exact Nat.zero_le _
theorem eqTrs {S S' : Nat → Prop} (k : List Tr) (v v' : Value) (w : World) (h : Trs w S k v) (h' : Trs w S' k v') :
    Calls Try.prog 14 #[v, v'] w fun e w' => e = .returned (.bool true) ∧ Below w.heap.size w w' := by
  obtain ⟨a, cap, b, off, sv, rfl, hc, hm, ha, hcell, hr⟩ := h
  obtain ⟨a', cap', b', off', sv', rfl, hc', hm', ha', hcell', hr'⟩ := h'
  exact eqS_any k a a' cap b off cap' b' off' sv sv' S S' hc hm hc' hm' ha ha' (fun i hi w h1 h2 => eq_any k[i] (sv i) (sv' i) w h1 h2) w hcell hcell' hr hr'
theorem markTrs (k : List Tr) (v : Value) (w : World) (lo hi : Nat) (h : Own w lo hi (dm k) v) (hh : hi ≤ w.heap.size) (hk : 1 + 3 * Tr.cntL k ≤ 67108864) :
    Calls Try.prog 15 #[v, .int .i64 (1 : Nat)] w fun e w' => e = .returned (.int .i64 (1 + 3 * Tr.cntL k : Nat)) ∧ Out lo hi w w' := by
  refine Calls.mono (markS_any (dm k) v w lo hi 1 h hh (by omega) hk) ?_
  rintro e w' ⟨h1, h2, _⟩
  exact ⟨h1, h2⟩
/-- No node has too many Kids. -/
theorem put1_few {ns : List Nd} {n : Nd} {m : Nat} (h : ∀ x ∈ ns, x.ks.length ≤ m) (hn : n.ks.length ≤ m) : ∀ x ∈ (put1 ns n).1, x.ks.length ≤ m := by
  unfold put1
  split
  · exact h
  · intro x hx
    rcases List.mem_append.1 hx with hx | hx
    · exact h x hx
    · have e : x = n := by simpa using hx
      rw [e]
      exact hn
theorem putK_few {m : Nat} : ∀ (k : List Tr) (ns : List Nd), (∀ i (hi : i < k.length) ns, k[i].cnt ≤ m → (∀ x ∈ ns, x.ks.length ≤ m) → ∀ x ∈ (putT k[i] ns).1, x.ks.length ≤ m) → (∀ t ∈ k, t.cnt ≤ m) → (∀ x ∈ ns, x.ks.length ≤ m) → ∀ x ∈ (putK (k.map putT) ns).1, x.ks.length ≤ m
  | [], ns, _, _, h => h
  | t :: r, ns, ih, hc, h => by
    have h0 := ih 0 (by simp) ns (hc t (by simp)) h
    exact putK_few r (putT t ns).1 (fun i hi ms => ih (i + 1) (by simp; omega) ms) (fun x hx => hc x (by simp [hx])) h0
theorem cnt_mem {k : List Tr} {t : Tr} (h : t ∈ k) : t.cnt ≤ Tr.cntL k := by
  obtain ⟨i, hi, rfl⟩ := List.mem_iff_getElem.1 h
  have h1 := Tr.cntL_take_succ k i hi
  have h2 := Tr.cntL_take_le k (i + 1)
  omega
theorem putT_few {m : Nat} (t : Tr) : ∀ ns, t.cnt ≤ m → (∀ x ∈ ns, x.ks.length ≤ m) → ∀ x ∈ (putT t ns).1, x.ks.length ≤ m := by
  refine Tr.ind (P := fun t => ∀ ns, t.cnt ≤ m → (∀ x ∈ ns, x.ks.length ≤ m) → ∀ x ∈ (putT t ns).1, x.ks.length ≤ m) ?_ t
  intro n x l k ih ns hc h
  rw [Tr.cnt_mk] at hc
  rw [putT_mk]
  have hl : (putK (k.map putT) ns).2.length = k.length := by
    have := pk_num k k.length (Nat.le_refl _) ns
    rw [pk_all] at this
    exact this
  refine put1_few (putK_few k ns ih (fun t ht => by have := cnt_mem ht; omega) h) ?_
  show (putK (k.map putT) ns).2.length ≤ m
  have := len_le_cntL k
  omega
theorem mo_few {ns : List Nd} {m : Nat} (h : ∀ x ∈ ns, x.ks.length ≤ m) : mo ns ns.length ≤ ns.length * (3 + m) := by
  unfold mo
  rw [List.take_length]
  induction ns with
  | nil => simp
  | cons a r ih =>
    have h1 := ih (fun x hx => h x (by simp [hx]))
    have h2 := h a (by simp)
    simp only [List.map_cons, List.sum_cons, List.length_cons]
    rw [Nat.succ_mul]
    omega
/-- The marks suffice. -/
theorem sh_marks (k : List Tr) : dgM (shN k).1 (shN k).2 1 ≤ 67108864 := by
  unfold shN dgM
  split
  · rename_i ht
    have h1 := tks_len ht
    have h2 : (putTs k []).1.length ≤ Tr.cntL k := by
      have := pk_len k k.length []
      rw [pk_putTs, List.take_length] at this
      simpa using this
    have h3 : (putTs k []).2.length = k.length := by
      rw [← pk_putTs]
      exact pk_num k _ (Nat.le_refl _) []
    have h4 := len_le_cntL k
    have h5 : ∀ x ∈ (putTs k []).1, x.ks.length ≤ 1000 := by
      unfold tksB at ht
      rw [Bool.and_eq_true, decide_eq_true_eq, List.all_eq_true] at ht
      refine putK_few k [] (fun i hi ns => putT_few k[i] ns) (fun t htm => ?_) (fun x hx => by simp at hx)
      have h6 := ht.2 t htm
      unfold Tr.ok at h6
      simp only [Bool.and_eq_true, decide_eq_true_eq] at h6
      exact h6.1.1
    have h6 := mo_few h5
    have h7 : (putTs k []).1.length * (3 + 1000) ≤ 20000 * 1003 := Nat.mul_le_mul (by omega) (by omega)
    omega
  · simp [mo]
set_option maxHeartbeats 1600000 in
theorem markDag18 {B Z n : Nat} (ns : List Nd) (rs : List Nat) (u r : Value) (w : World) (h : DgZ B Z w ns rs u r) (hB : B ≤ w.heap.size) (hZ : Z ≤ w.heap.size) (hn0 : 0 < n) (hnk : dgM ns rs n ≤ 67108864) :
    Calls Try.prog 16 #[.agg #[u, r], .int .i64 n] w fun e w' => e = .returned (.int .i64 (dgM ns rs n : Nat)) ∧ Out B Z w w' ∧ DgZ B Z w' (mx ns n ns.length) (cntN (n + mo ns ns.length) rs.length) u r := by
  have hb0 := bel_alloc w (.cells #[u, r] 27)
  have hbx := Box.new w 27 [u, r]
  unfold dgM at hnk ⊢
  obtain ⟨a1, c1, a2, c2, rfl, rfl, _, _⟩ := h.r.forms
  obtain ⟨K, d1, d2, d3, d4⟩ := h
  have htop := DgR.top d1 d2
  have HM := (show Hid _ from markNodes40 ns _ _ (d1.still hb0) hn0 (by omega))
  have HAF := (show Hid (∀ w1 : World, OutK K (.slice a1 ns.length c1) (w.alloc (.cells #[.slice a1 ns.length c1, .slice a2 rs.length c2] 27)) w1 → Box w1 w.heap.size 27 [.slice a1 ns.length c1, .slice a2 rs.length c2] ∧ w1.ownsRow B 3 1 (.slice a2 rs.length c2) rs.length (iv (ins rs)) ∧ Out B Z w w1) from fun w1 ho => by
    have hsz : (w.alloc (.cells #[.slice a1 ns.length c1, .slice a2 rs.length c2] 27)).heap.size = w.heap.size + 1 := by simp
    refine ⟨hbx.keep (ho.block _ (by omega) (fun e => by have := htop _ (.inl e); omega) (fun e => by have := htop _ (.inr (.inl e)); omega)), own_keep1 d2 (fun q hq => ?_), ho.os, ho.tape, ho.output, by have := ho.size; omega, fun q hq => ?_⟩
    · have h1 := htop q (.inr (.inr hq))
      exact (ho.block q (by omega) (d3 q hq).1 (d3 q hq).2).trans (hb0.block q h1.2)
    · intro hr
      exact (ho.block q (by omega) (fun e => by have := htop q (.inl e); have := d4 q (.inl e); omega) (fun e => by have := htop q (.inr (.inl e)); have := d4 q (.inr (.inl e)); omega)).trans (hb0.block q hq))
  have HD3 := (show Hid _ from d3)
  have HD4 := (show Hid _ from d4)
  have HTOP := (show Hid _ from htop)
  clear d1 d2 d3 d4 htop hb0 hbx
  go_enter Try.func16, Try.ntmps16
  go_wp2_with fail
  refine Calls.mono HM.out ?_
  rintro e w1 ⟨rfl, ho1, hd1⟩
  obtain ⟨x1, x2, x3⟩ := HAF.out w1 ho1
  have T1 : w1.cell? ⟨w.heap.size, 1, none⟩ = some (.slice a2 rs.length c2) := x1.cell 1 (by simp)
  obtain ⟨bb, hbb⟩ : ∃ bb, (rs = [] ∧ w1.heap.size ≤ bb) ∨ (rs ≠ [] ∧ (Value.slice a2 rs.length c2).ownBlock = some bb) := by
    by_cases e : rs = []
    · exact ⟨w1.heap.size, .inl ⟨e, Nat.le_refl _⟩⟩
    · rcases x2.2 with ⟨e1, e2⟩ | ⟨g, cp, cur, r1, r2⟩
      · exact absurd (List.eq_nil_of_length_eq_zero e2) e
      · exact ⟨g, .inr ⟨e, by rw [r1]; rfl⟩⟩
  have hki : OwnI w1 bb (ins rs) (.slice a2 rs.length c2) := (own_ints (l := ins rs) (by rw [ins_len]; exact x2)).at0 (fun hne => by
    rcases hbb with ⟨e1, e2⟩ | ⟨e1, e2⟩
    · exact absurd e1 (ins_ne.1 hne)
    · rw [e2]; rfl)
  have hcl := markInts_any (ins rs) bb (n + mo ns ns.length) _ w1 hki (by rw [ins_len]; omega)
  rw [ins_len] at hcl
  have HCL := (show Hid _ from hcl)
  have HX := (show Hid _ from (⟨hd1, x2, x3, hbb⟩ : _ ∧ _ ∧ _ ∧ _))
  clear hcl hki hbb x1 x2 x3 hd1 ho1 HM HAF
  go_wp2_with fail
  refine Calls.mono HCL.out ?_
  rintro e w2 ⟨rfl, ho2, hw2⟩
  obtain ⟨hd1, x2, x3, hbb⟩ := HX.out
  have hs2 := ho2.2.2.2.1
  have hblk : ∀ q, q < w1.heap.size → q ≠ bb → w2.heap[q]? = w1.heap[q]? := fun q hq hne => ho2.2.2.2.2 q hq (by omega)
  have HE : Hid (Out B Z w w2 ∧ DgZ B Z w2 (mx ns n ns.length) (cntN (n + mo ns ns.length) rs.length) (.slice a1 ns.length c1) (.slice a2 rs.length c2)) := by
    have hbB : w1.heap.size ≤ bb ∨ (B ≤ bb ∧ rs ≠ [] ∧ (Value.slice a2 rs.length c2).ownBlock = some bb) := by
      rcases hbb with ⟨e1, e2⟩ | ⟨e1, e2⟩
      · exact .inl e2
      · exact .inr ⟨(World.ownsRow.lt x2 bb e2).1, e1, e2⟩
    have hsx := x3.2.2.2.1
    refine ⟨x3.trans ⟨ho2.1, ho2.2.1, ho2.2.2.1, hs2, fun q hq hr => hblk q hq (fun e => ?_)⟩, K, hd1.keep hs2 (fun q hq hlt => hblk q hlt (fun e => ?_)), ?_, HD3.out, HD4.out⟩
    · subst e
      rcases hbB with e | ⟨e1, e2, e3⟩
      · omega
      · have := HD4.out q (.inr (.inr e3))
        omega
    · subst e
      rcases hbB with e | ⟨e1, e2, e3⟩
      · omega
      · rcases hq with hq | hq
        · exact (HD3.out q e3).1 hq
        · exact (HD3.out q e3).2 hq
    · rw [cntN_len, ins_cntN]
      rcases hbb with ⟨e1, e2⟩ | ⟨e1, e2⟩
      · subst e1
        have := own_keep1 (w' := w2) x2 (fun q hq => hblk q (World.ownsRow.lt x2 q hq).2 (by have := (World.ownsRow.lt x2 q hq).2; omega))
        simpa [cnt, ins] using this
      · have := own_of_int (B := B) hw2 (by
          intro e
          have h1 : (cnt (n + mo ns ns.length) rs.length).length = 0 := by rw [e]; rfl
          rw [cnt_len] at h1
          exact e1 (List.eq_nil_of_length_eq_zero h1)) (World.ownsRow.lt x2 bb e2).1
        rw [cnt_len] at this
        exact this
  clear hblk hs2 ho2 hw2 hd1 x2 x3 hbb HX HCL
  go_wp2_with fail
  go_ret
  exact ⟨rfl, HE.out⟩
end Go.Proofs.Ytblfeifedcddnaa
