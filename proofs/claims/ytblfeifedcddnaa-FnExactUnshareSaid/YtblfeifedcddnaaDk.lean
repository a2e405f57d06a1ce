import Derived.Test.YtblfeifedcddnaaLs
import Derived.Test.YtblfeifedcddnaaMark2
/-! Nodes are marked, and held. -/
namespace Go.Proofs.Ytblfeifedcddnaa
open Go.RowKit Go.Deep
set_option linter.unusedVariables false
set_option maxRecDepth 100000
set_option linter.unusedSimpArgs false

def cntN (n m : Nat) : List Nat := (List.range m).map fun i => n + i
theorem ins_cntN (n m : Nat) : ins (cntN n m) = cnt n m := by simp [ins, cntN, cnt]
theorem cntN_len (n m : Nat) : (cntN n m).length = m := by simp [cntN]
theorem cntN_nil {n m : Nat} : cntN n m = [] ↔ m = 0 := by
  rw [← List.length_eq_zero_iff, cntN_len]
/-- How many marks the first i nodes take. -/
def mo (ns : List Nd) (i : Nat) : Nat := ((ns.take i).map fun a => 3 + a.ks.length).sum
theorem mo_zero (ns : List Nd) : mo ns 0 = 0 := by simp [mo]
theorem mo_succ {ns : List Nd} {i : Nat} (h : i < ns.length) : mo ns (i + 1) = mo ns i + (3 + (nd ns i).ks.length) := by
  unfold mo
  rw [List.take_succ_eq_append_getElem h, nd_eq h, List.map_append, List.sum_append]
  simp only [List.map_cons, List.map_nil, List.sum_cons, List.sum_nil, Nat.add_zero]
theorem mo_le (ns : List Nd) (i : Nat) : mo ns i ≤ mo ns ns.length := by
  unfold mo
  rw [List.take_length]
  have h : (ns.map fun a => 3 + a.ks.length).sum = ((ns.take i).map fun a => 3 + a.ks.length).sum + ((ns.drop i).map fun a => 3 + a.ks.length).sum := by
    rw [← List.sum_append, ← List.map_append, List.take_append_drop]
  omega
/-- A node with its marks. -/
def mk1 (ns : List Nd) (n i : Nat) : Nd := ⟨mt (n + mo ns i), mt (n + mo ns i + 1), decide ((n + mo ns i + 2) % 3 = 0), cntN (n + mo ns i + 3) (nd ns i).ks.length⟩
/-- The first j nodes with their marks. -/
def mx (ns : List Nd) (n j : Nat) : List Nd := (List.range ns.length).map fun i => if i < j then mk1 ns n i else nd ns i
theorem mx_len (ns : List Nd) (n j : Nat) : (mx ns n j).length = ns.length := by simp [mx]
theorem mx_nd {ns : List Nd} {n j i : Nat} (h : i < ns.length) : nd (mx ns n j) i = if i < j then mk1 ns n i else nd ns i := by
  unfold nd mx
  simp [h, nd]
theorem mx_zero (ns : List Nd) (n : Nat) : mx ns n 0 = ns := by
  apply List.ext_getElem (mx_len ns n 0)
  intro i h1 h2
  have := mx_nd (n := n) (j := 0) h2
  rw [nd_eq h1, if_neg (by omega), nd_eq h2] at this
  exact this
theorem mx_ks {ns : List Nd} {n j i : Nat} (h : i < ns.length) : (nd (mx ns n j) i).ks = [] ↔ (nd ns i).ks = [] := by
  rw [mx_nd h]
  split
  · show cntN _ _ = [] ↔ _
    rw [cntN_nil, List.length_eq_zero_iff]
  · exact Iff.rfl
theorem nc_set (ns ms : List Nd) (kv : Nat → Value) (j : Nat) (a b : ByteArray) (c : Bool) (hj : (nd ms j).nm = a ∧ (nd ms j).tx = b ∧ (nd ms j).lf = c) : ∀ m, j < m → (∀ i, i < m → i ≠ j → nd ms i = nd ns i) →
    (((nc ns kv m).set (j * 4) (.string a)).set (j * 4 + 1) (.string b)).set (j * 4 + 2) (.bool c) = nc ms kv m := by
  intro m
  induction m with
  | zero => intro h; omega
  | succ m ih =>
    intro h hne
    have hl := nc_len ns kv m
    rw [nc, nc]
    by_cases e : j = m
    · subst e
      rw [nc_congr (ns := ns) (ms := ms) (lv := kv) j (fun i hi => ⟨(hne i (by omega) (by omega)).symm, rfl⟩)]
      have hl2 := nc_len ms kv j
      rw [List.set_append_right _ _ (by omega), List.set_append_right _ _ (by omega), List.set_append_right _ _ (by omega), hl2, hj.1, hj.2.1, hj.2.2]
      simp
    · rw [List.set_append_left _ _ (by omega), List.set_append_left _ _ (by simp; omega), List.set_append_left _ _ (by simp; omega), ih (by omega) (fun i hi he => hne i (by omega) he), hne m (by omega) (fun e2 => e e2.symm)]
/-- All but what the nodes own is as it was. -/
structure OutK (K : Nat → Prop) (u : Value) (w w' : World) : Prop where
  os : w'.os = w.os
  tape : w'.tape = w.tape
  output : w'.output = w.output
  size : w.heap.size ≤ w'.heap.size
  block : ∀ q, q < w.heap.size → ¬ K q → u.ownBlock ≠ some q → w'.heap[q]? = w.heap[q]?
theorem OutK.refl (K : Nat → Prop) (u : Value) (w : World) : OutK K u w w := ⟨rfl, rfl, rfl, Nat.le_refl _, fun _ _ _ _ => rfl⟩
theorem OutK.trans {K : Nat → Prop} {u : Value} {x y z : World} (h : OutK K u x y) (k : OutK K u y z) : OutK K u x z :=
  ⟨k.os.trans h.os, k.tape.trans h.tape, k.output.trans h.output, Nat.le_trans h.size k.size, fun q hq h1 h2 => (k.block q (Nat.lt_of_lt_of_le hq h.size) h1 h2).trans (h.block q hq h1 h2)⟩
/-- One more node has its marks. -/
theorem Dn.mark {B n j g cap b : Nat} {wr W3 w4 : World} {ns : List Nd} {K : Nat → Prop} {kv : Nat → Value} {kb : Nat → Nat} (h : Dn B wr (.slice (some ⟨g, 0, none⟩) ns.length cap) (mx ns n j) K kv kb) (hj : j < ns.length)
    (hrow : W3.ownsRow B 93 4 (.slice (some ⟨g, 0, none⟩) ns.length cap) ns.length ((((nc (mx ns n j) kv ns.length).set (j * 4) (.string (mt (n + mo ns j)))).set (j * 4 + 1) (.string (mt (n + mo ns j + 1)))).set (j * 4 + 2) (.bool (decide ((n + mo ns j + 2) % 3 = 0)))))
    (hs3 : wr.heap.size ≤ W3.heap.size) (hblk : ∀ q, q < wr.heap.size → q ≠ g → W3.heap[q]? = wr.heap[q]?) (ho3 : W3.os = wr.os ∧ W3.tape = wr.tape ∧ W3.output = wr.output)
    (hout : Out b (b + 1) W3 w4) (hb : ((nd ns j).ks = [] ∧ W3.heap.size ≤ b) ∨ ((nd ns j).ks ≠ [] ∧ b = kb j)) (how : OwnI w4 b (cnt (n + mo ns j + 3) (nd ns j).ks.length) (kv j)) :
    Dn B w4 (.slice (some ⟨g, 0, none⟩) ns.length cap) (mx ns n (j + 1)) K kv kb ∧ OutK K (.slice (some ⟨g, 0, none⟩) ns.length cap) wr w4 := by
  have hml := mx_len ns n j
  have hml1 := mx_len ns n (j + 1)
  have hkj : nd (mx ns n j) j = nd ns j := by rw [mx_nd hj, if_neg (Nat.lt_irrefl _)]
  have hk1 : nd (mx ns n (j + 1)) j = mk1 ns n j := by rw [mx_nd hj, if_pos (Nat.lt_succ_self _)]
  have hko : ∀ i, i < ns.length → i ≠ j → nd (mx ns n (j + 1)) i = nd (mx ns n j) i := fun i hi he => by
    rw [mx_nd hi, mx_nd hi]
    by_cases e : i < j
    · rw [if_pos e, if_pos (by omega)]
    · rw [if_neg e, if_neg (by omega)]
  have hgl : g < wr.heap.size := (World.ownsRow.lt h.row g rfl).2
  have hgb : g ≠ b := by
    rcases hb with ⟨_, e⟩ | ⟨e1, e2⟩
    · omega
    · intro e
      exact h.ne (kb j) (h.ink j (by omega) (by rw [hkj]; exact e1)) (by rw [← e2, ← e]; rfl)
  have hb34 : ∀ q, q < W3.heap.size → q ≠ b → w4.heap[q]? = W3.heap[q]? := fun q hq hne => hout.2.2.2.2 q hq (by omega)
  have hs4 := hout.2.2.2.1
  have hkb : ∀ i, i < ns.length → i ≠ j → (nd ns i).ks ≠ [] → kb i ≠ b ∧ kb i < wr.heap.size ∧ kb i ≠ g := fun i hi he hne => by
    have hK := h.ink i (by omega) (by rw [ne_eq, mx_ks hi]; exact hne)
    refine ⟨?_, (h.lo _ hK).2, fun e => h.ne _ hK (by rw [e]; rfl)⟩
    rcases hb with ⟨_, e⟩ | ⟨e1, e2⟩
    · have := (h.lo _ hK).2; omega
    · intro e
      exact he (h.inj i j (by omega) (by omega) (by rw [ne_eq, mx_ks hi]; exact hne) (by rw [hkj]; exact e1) (by rw [e, e2]))
  refine ⟨⟨?_, fun i hi => ?_, fun i hi hne => ?_, fun i q hi hq h1 h2 e => ?_, fun q hq => ⟨(h.lo q hq).1, by have := (h.lo q hq).2; omega⟩, h.ne⟩, ?_⟩
  · rw [hml1]
    have e1 := nc_set (mx ns n j) (mx ns n (j + 1)) kv j (mt (n + mo ns j)) (mt (n + mo ns j + 1)) (decide ((n + mo ns j + 2) % 3 = 0)) (by rw [hk1]; exact ⟨rfl, rfl, rfl⟩) ns.length hj (fun i hi he => hko i hi he)
    rw [e1] at hrow
    exact own_keep1 hrow (fun q hq => by
      have e : g = q := by simpa [Value.ownBlock] using hq
      exact hb34 q (by omega) (by omega))
  · rw [hml1] at hi
    by_cases e : i = j
    · subst e
      rw [hk1]
      show OwnI w4 (kb i) (ins (cntN (n + mo ns i + 3) (nd ns i).ks.length)) (kv i)
      rw [ins_cntN]
      refine how.at0 (fun hne => ?_)
      rcases hb with ⟨e1, e2⟩ | ⟨e1, e2⟩
      · rw [e1] at hne
        exact absurd (by simp [cnt]) hne
      · exact e2
    · rw [hko i hi e]
      refine (h.kid i (by omega)).keep0 (fun hne => ?_)
      have hne2 : (nd ns i).ks ≠ [] := by
        have := ins_ne.1 hne
        rw [ne_eq, mx_ks hi] at this
        exact this
      obtain ⟨k1, k2, k3⟩ := hkb i hi e hne2
      exact (hb34 _ (by omega) k1).trans (hblk _ k2 k3)
  · rw [hml1] at hi
    exact h.ink i (by omega) (by rw [ne_eq, mx_ks hi]; rw [ne_eq, mx_ks hi] at hne; exact hne)
  · rw [hml1] at hi hq
    exact h.inj i q (by omega) (by omega) (by rw [ne_eq, mx_ks hi]; rw [ne_eq, mx_ks hi] at h1; exact h1) (by rw [ne_eq, mx_ks hq]; rw [ne_eq, mx_ks hq] at h2; exact h2) e
  · refine ⟨hout.1.trans ho3.1, hout.2.1.trans ho3.2.1, hout.2.2.1.trans ho3.2.2, by omega, fun q hq h1 h2 => ?_⟩
    have hqg : q ≠ g := fun e => h2 (by rw [e]; rfl)
    have hqb : q ≠ b := fun e => by
      rcases hb with ⟨_, e2⟩ | ⟨e1, e2⟩
      · omega
      · exact h1 (by rw [e, e2]; exact h.ink j (by omega) (by rw [hkj]; exact e1))
    exact (hb34 q (by omega) hqb).trans (hblk q hq hqg)
set_option maxHeartbeats 3200000 in
theorem markNodes40 {B n : Nat} {K : Nat → Prop} (ns : List Nd) (u : Value) (w : World) (h : DN B w u ns K) (hn0 : 0 < n) (hnk : n + mo ns ns.length ≤ 67108864) :
    Calls Try.prog 52 #[u, .int .i64 n] w fun e w' => e = .returned (.int .i64 (n + mo ns ns.length : Nat)) ∧ OutK K u w w' ∧ DN B w' u (mx ns n ns.length) K := by
  obtain ⟨a, cap, rfl, hc, hm⟩ := h.form
  obtain ⟨kv, kb, hd⟩ := h
  have HA := (show Hid (0 < ns.length → ∃ g, a = some ⟨g, 0, none⟩) from fun h0 => by
    rcases hd.row.2 with ⟨e, h1⟩ | ⟨g, cp, cur, r1, r2⟩
    · omega
    · simp only [Value.slice.injEq] at r1
      exact ⟨g, r1.1⟩)
  have HD0 := (show Hid (Dn B w (.slice a ns.length cap) (mx ns n 0) K kv kb) from (by rw [mx_zero]; exact hd))
  clear hd
  unfold maxLen at hm
  go_enter Try.func52, Try.ntmps52
  go_wp2_with fail
  go_loopw [1, 5] (fun c i wr => ∃ (j q : Nat), j ≤ ns.length ∧ i = .int .i64 j ∧ c = .int .i64 q ∧ q ≤ 67108864 ∧ 0 < q ∧ Hid (q = n + mo ns j) ∧ Hid (OutK K (.slice a ns.length cap) w wr ∧ Dn B wr (.slice a ns.length cap) (mx ns n j) K kv kb)) (fun _ i _ => ns.length - (intOf i).toNat)
  case atStart => exact ⟨0, n, Nat.zero_le _, rfl, rfl, by omega, hn0, by show n = _; rw [mo_zero]; rfl, OutK.refl _ _ _, HD0.out⟩
  case round =>
    obtain ⟨j, q, hj, rfl, rfl, hq1, hq0, HQ, HJ⟩ := hrel
    by_cases hlt : j < ns.length
    · obtain ⟨g, rfl⟩ := HA.out (by omega)
      have hms := mo_succ hlt
      have hml := mo_le ns (j + 1)
      have hq2 : q + 3 + (nd ns j).ks.length ≤ 67108864 := by have := HQ.out; omega
      have hrow0 := HJ.out.2.row
      rw [mx_len] at hrow0
      have HR0 := (show Hid _ from hrow0)
      have hkid := HJ.out.2.kid j (by rw [mx_len]; exact hlt)
      rw [mx_nd hlt, if_neg (Nat.lt_irrefl _)] at hkid
      have hink : (nd ns j).ks ≠ [] → K (kb j) := fun hne => HJ.out.2.ink j (by rw [mx_len]; exact hlt) (by rw [ne_eq, mx_ks hlt]; exact hne)
      have HKB := (show Hid ((nd ns j).ks ≠ [] → kb j < wr.heap.size ∧ kb j ≠ g) from fun hne => ⟨(HJ.out.2.lo _ (hink hne)).2, fun e => HJ.out.2.ne _ (hink hne) (by rw [e]; rfl)⟩)
      obtain ⟨a4, c4, hv4, _⟩ := hkid.form
      rw [ins_len] at hv4
      have HKI := (show Hid _ from hkid)
      have hg3 := (nc_get (mx ns n j) kv ns.length j hlt).2.2.2
      rw [hv4] at hg3
      have HG3 := (show Hid _ from hg3)
      have hszg : g < wr.heap.size := (World.ownsRow.lt hrow0 g rfl).2
      have HZ := (show Hid _ from hszg)
      clear hrow0 hkid hink hms hml hg3 hszg
      go_wp2_with fail
      refine Calls.mono (markText_any q hq0 hq1 _) ?_
      rintro e w1 ⟨rfl, hb1⟩
      have hr1 := own_keep1 HR0.out (fun p hp => hb1.block p (World.ownsRow.lt HR0.out p hp).2)
      have HR1 := (show Hid _ from hr1)
      obtain ⟨c0, hc0⟩ : ∃ c0, w1.cell? ⟨g, j * 4, none⟩ = some c0 := by
        rw [World.ownsRow.cellAt hr1 (j * 4) (by omega), (nc_get (mx ns n j) kv ns.length j hlt).1]
        exact ⟨_, rfl⟩
      have z0 := World.ownsRow.frozenAt hr1 (j * 4)
      have HB1 := (show Hid _ from hb1)
      clear hr1 hb1
      go_wp2_with fail
      refine Calls.mono (markText_any (q + 1) (by omega) (by omega) _) ?_
      rintro e w2 ⟨rfl, hb2⟩
      clear c0 hc0 z0
      have hr1 := (World.ownsRow.stored HR1.out (j * 4) (.string (mt q))).1
      have hr2 := own_keep1 hr1 (fun p hp => hb2.block p (World.ownsRow.lt hr1 p hp).2)
      have HR2 := (show Hid _ from hr2)
      obtain ⟨c1, hc1⟩ : ∃ c1, w2.cell? ⟨g, j * 4 + 1, none⟩ = some c1 := by
        rw [World.ownsRow.cellAt hr2 (j * 4 + 1) (by omega), List.getElem?_set_ne (by omega), (nc_get (mx ns n j) kv ns.length j hlt).2.1]
        exact ⟨_, rfl⟩
      obtain ⟨c2, hc2⟩ : ∃ c2, w2.cell? ⟨g, j * 4 + 2, none⟩ = some c2 := by
        rw [World.ownsRow.cellAt hr2 (j * 4 + 2) (by omega), List.getElem?_set_ne (by omega), (nc_get (mx ns n j) kv ns.length j hlt).2.2.1]
        exact ⟨_, rfl⟩
      have hc3 : w2.cell? ⟨g, j * 4 + 3, none⟩ = some (.slice a4 (nd ns j).ks.length c4) := by
        rw [World.ownsRow.cellAt hr2 (j * 4 + 3) (by omega), List.getElem?_set_ne (by omega)]
        exact HG3.out
      have z1 := World.ownsRow.frozenAt hr2 (j * 4 + 1)
      have z2 := World.ownsRow.frozenAt hr2 (j * 4 + 2)
      have HB2 := (show Hid _ from hb2)
      clear hr1 hr2 hb2
      go_wp2_with fail
      have eq3 : ((q : Int) + 1 + 1 + 1) = ((q + 3 : Nat) : Int) := by omega
      have eb : (((q : Int) + 1 + 1) % 3 == 0) = decide ((q + 2) % 3 = 0) := by
        rw [Bool.eq_iff_iff]
        simp
        omega
      rw [eq3, eb]
      have hr2 := HR2.out
      have hr3 := (World.ownsRow.stored (World.ownsRow.stored hr2 (j * 4 + 1) (.string (mt (q + 1)))).1 (j * 4 + 2) (.bool (decide ((q + 2) % 3 = 0)))).1
      have hs1 := HB1.out.size
      have hs2 := HB2.out.size
      simp at hs2
      have hW : ∀ p, p < wr.heap.size → p ≠ g → ((w2.setCell ⟨g, j * 4 + 1, none⟩ (.string (mt (q + 1)))).setCell ⟨g, j * 4 + 2, none⟩ (.bool (decide ((q + 2) % 3 = 0)))).heap[p]? = wr.heap[p]? := by
        intro p hp hpb
        rw [blk_setCell_other _ _ _ _ (by exact hpb), blk_setCell_other _ _ _ _ (by exact hpb), HB2.out.block p (by simp; omega), blk_setCell_other _ _ _ _ (by exact hpb), HB1.out.block p hp]
      have hwsz : wr.heap.size ≤ ((w2.setCell ⟨g, j * 4 + 1, none⟩ (.string (mt (q + 1)))).setCell ⟨g, j * 4 + 2, none⟩ (.bool (decide ((q + 2) % 3 = 0)))).heap.size := by simp; omega
      have hos : ((w2.setCell ⟨g, j * 4 + 1, none⟩ (.string (mt (q + 1)))).setCell ⟨g, j * 4 + 2, none⟩ (.bool (decide ((q + 2) % 3 = 0)))).os = wr.os ∧ ((w2.setCell ⟨g, j * 4 + 1, none⟩ (.string (mt (q + 1)))).setCell ⟨g, j * 4 + 2, none⟩ (.bool (decide ((q + 2) % 3 = 0)))).tape = wr.tape ∧ ((w2.setCell ⟨g, j * 4 + 1, none⟩ (.string (mt (q + 1)))).setCell ⟨g, j * 4 + 2, none⟩ (.bool (decide ((q + 2) % 3 = 0)))).output = wr.output := ⟨HB2.out.os.trans HB1.out.os, HB2.out.tape.trans HB1.out.tape, HB2.out.output.trans HB1.out.output⟩
      generalize ((w2.setCell ⟨g, j * 4 + 1, none⟩ (.string (mt (q + 1)))).setCell ⟨g, j * 4 + 2, none⟩ (.bool (decide ((q + 2) % 3 = 0)))) = W3 at *
      obtain ⟨bb, hbb⟩ : ∃ bb, ((nd ns j).ks = [] ∧ W3.heap.size ≤ bb) ∨ ((nd ns j).ks ≠ [] ∧ bb = kb j) := by
        by_cases e : (nd ns j).ks = []
        · exact ⟨W3.heap.size, .inl ⟨e, Nat.le_refl _⟩⟩
        · exact ⟨kb j, .inr ⟨e, rfl⟩⟩
      have hki : OwnI W3 bb (ins (nd ns j).ks) (kv j) := by
        rcases hbb with ⟨e1, e2⟩ | ⟨e1, e2⟩
        · have h1 : OwnI wr bb (ins (nd ns j).ks) (kv j) := OwnI.at0 HKI.out (fun hne => absurd e1 (ins_ne.1 hne))
          exact h1.keep0 (fun hne => absurd e1 (ins_ne.1 hne))
        · rw [e2]
          exact OwnI.keep0 HKI.out (fun hne => hW _ (HKB.out e1).1 (HKB.out e1).2)
      have hcl := markInts_any (ins (nd ns j).ks) bb (q + 3) (kv j) W3 hki (by rw [ins_len]; omega)
      rw [ins_len, hv4] at hcl
      refine Calls.mono hcl ?_
      rintro e w4 ⟨rfl, ho4, hw4⟩
      have hqe := HQ.out
      have hst := Dn.mark (b := bb) (w4 := w4) HJ.out.2 hlt (by rw [← hqe]; exact hr3) hwsz hW hos ho4 hbb (by rw [← hqe, hv4]; exact hw4)
      have HF := (show Hid (OutK K (.slice (some ⟨g, 0, none⟩) ns.length cap) w w4 ∧ Dn B w4 (.slice (some ⟨g, 0, none⟩) ns.length cap) (mx ns n (j + 1)) K kv kb) from ⟨HJ.out.1.trans hst.2, hst.1⟩)
      have HQ2 := (show Hid (q + 3 + (nd ns j).ks.length = n + mo ns (j + 1)) from (by
        show _ = _
        rw [mo_succ hlt, hqe]
        omega))
      clear hst ho4 hw4 hcl hki hbb hr2 hr3 hW hos hwsz HJ HQ hqe
      go_wp2_with fail
      exact ⟨⟨j + 1, q + 3 + (nd ns j).ks.length, by omega, by go_num, rfl, by omega, by omega, HQ2, HF⟩, by simp [intOf]; omega⟩
    · obtain rfl : j = ns.length := by omega
      have HF := (show Hid _ from (⟨HJ.out.1, HJ.out.2⟩ : _ ∧ _))
      have HE := (show Hid _ from HQ.out)
      clear HJ HQ
      go_wp2_with fail
      go_ret
      exact ⟨by rw [HE.out]; rfl, HF.out.1, kv, kb, HF.out.2⟩
theorem neq_refl_bytes' (a : ByteArray) : (a.toList != a.toList) = false := by simp
set_option maxHeartbeats 3200000 in
theorem heldNodes42 {B n : Nat} {K : Nat → Prop} (ns : List Nd) (u : Value) (w : World) (h : DN B w u (mx ns n ns.length) K) (hn0 : 0 < n) (hnk : n + mo ns ns.length ≤ 67108864) :
    Calls Try.prog 54 #[u, .int .i64 n] w fun e w' => e = .returned (.int .i64 (n + mo ns ns.length : Nat)) ∧ Below w.heap.size w w' := by
  obtain ⟨a, cap, rfl, hc, hm⟩ := h.form
  rw [mx_len] at hc h ⊢
  have HD := (show Hid (DN B w (.slice a ns.length cap) (mx ns n ns.length) K) from h); clear h
  unfold maxLen at hm
  go_enter Try.func54, Try.ntmps54
  go_wp2_with fail
  go_loopw [1, 5] (fun c i wr => ∃ (j q : Nat), j ≤ ns.length ∧ i = .int .i64 j ∧ c = .int .i64 q ∧ q ≤ 67108864 ∧ 0 < q ∧ Hid (q = n + mo ns j) ∧ Hid (Below w.heap.size w wr)) (fun _ i _ => ns.length - (intOf i).toNat)
  case atStart => exact ⟨0, n, Nat.zero_le _, rfl, rfl, by omega, hn0, by show n = _; rw [mo_zero]; rfl, Below.refl _ _⟩
  case round =>
    obtain ⟨j, q, hj, rfl, rfl, hq1, hq0, HQ, HB⟩ := hrel
    by_cases hlt : j < ns.length
    · have hms := mo_succ hlt
      have hml := mo_le ns (j + 1)
      have hq2 : q + 3 + (nd ns j).ks.length ≤ 67108864 := by have := HQ.out; omega
      obtain ⟨kv, kb, hdn⟩ := DN.still HD.out HB.out
      have hnode := DN.node ⟨kv, kb, hdn⟩ (i := j) (by rw [mx_len]; exact hlt)
      obtain ⟨g, c4, v4, e4, hB4, d0, d1, d2, d3, hI4⟩ := hnode
      rw [mx_len] at e4
      simp only [Value.slice.injEq] at e4
      obtain ⟨rfl, _, rfl⟩ := e4
      have hkid := hdn.kid j (by rw [mx_len]; exact hlt)
      have hrow := hdn.row
      rw [mx_len] at hrow
      have hk3 : kv j = v4 := by
        have e1 := World.ownsRow.cellAt hrow (j * 4 + 3) (by omega)
        rw [(nc_get (mx ns n ns.length) kv ns.length j hlt).2.2.2, d3] at e1
        injection e1 with e1
        exact e1.symm
      rw [hk3] at hkid
      have hmx : nd (mx ns n ns.length) j = mk1 ns n j := by rw [mx_nd hlt, if_pos hlt]
      rw [hmx] at d0 d1 d2 hkid
      have hqe := HQ.out
      simp only [mk1] at d0 d1 d2 hkid
      rw [← hqe] at d0 d1 d2 hkid
      rw [ins_cntN] at hkid
      obtain ⟨a4, c4', hv4, _⟩ := hkid.form
      rw [cnt_len] at hv4
      subst hv4
      have HCL := (show Hid (∀ wq, Below wr.heap.size wr wq → Calls Try.prog 55 #[.slice a4 (nd ns j).ks.length c4', .int .i64 (q + 3 : Nat)] wq fun e w' => e = .returned (.int .i64 (q + 3 + (nd ns j).ks.length : Nat)) ∧ Below wq.heap.size wq w') from fun wq hb => heldInts_any (kb j) (q + 3) (nd ns j).ks.length _ wq (hkid.still hb) (by omega))
      have HC := (show Hid (∀ wq, Below wr.heap.size wr wq → wq.cell? ⟨g, j * 4, none⟩ = some (.string (mt q)) ∧ wq.cell? ⟨g, j * 4 + 1, none⟩ = some (.string (mt (q + 1))) ∧ wq.cell? ⟨g, j * 4 + 2, none⟩ = some (.bool (decide ((q + 2) % 3 = 0))) ∧ wq.cell? ⟨g, j * 4 + 3, none⟩ = some (.slice a4 (nd ns j).ks.length c4')) from fun wq hb => ⟨(hb.cell (lt_of_cell d0)).trans d0, (hb.cell (lt_of_cell d1)).trans d1, (hb.cell (lt_of_cell d2)).trans d2, (hb.cell (lt_of_cell d3)).trans d3⟩)
      have HQ2 := (show Hid (q + 3 + (nd ns j).ks.length = n + mo ns (j + 1)) from (by
        show _ = _
        rw [hms, hqe]
        omega))
      have q1 : (0 : Int) ≤ (j : Int) := by omega
      have q2 : (j : Int) < (ns.length : Int) := by omega
      clear d0 d1 d2 d3 hI4 hB4 hkid hrow hk3 hmx hqe hms hml hdn
      generalize (nd ns j).ks.length = m at *
      have n1 := neq_refl_bytes' (mt q)
      have n2 := neq_refl_bytes' (mt (q + 1))
      go_wp2_with fail
      go_cut [19] from 12 to 18 (fun vv wx => vv = .bool false ∧ Hid (Below wr.heap.size wr wx))
      case first =>
        have hbd := (Below.refl wr.heap.size wr).drew
        have hS0 := (HC.out _ hbd).1
        go_region_held3 (fun wq => wq.cell? ⟨g, j * 4, none⟩ = some (.string (mt q))) (first | with_reducible exact hS0 | with_reducible exact hS1) ((go_at_call 51; refine Calls.mono (markText_any q hq0 hq1 _) ?_; rintro e w3 ⟨rfl, hb3⟩; have hB3 := bel_trans hbd hb3; have hS1 := (HC.out _ hB3).1))
        all_goals go_wp2_with fail
        all_goals go_meet
        all_goals exact ⟨by first | rfl | simp, hB3⟩
      case rest =>
        obtain ⟨rfl, HX⟩ := hcut
        obtain ⟨wa, rfl⟩ : ∃ wa, wa = wc := ⟨_, rfl⟩
        have HB1 := (show Hid _ from HX.out); clear HX
        go_wp2_with fail
        go_cut [29] from 22 to 28 (fun vv wx => vv = .bool false ∧ Hid (Below wa.heap.size wa wx))
        case first =>
          have hbd := (Below.refl wa.heap.size wa).drew
          have hS0 := (HC.out _ (bel_trans HB1.out hbd)).2.1
          go_region_held3 (fun wq => wq.cell? ⟨g, j * 4 + 1, none⟩ = some (.string (mt (q + 1)))) (first | with_reducible exact hS0 | with_reducible exact hS1) ((go_at_call 51; refine Calls.mono (markText_any (q + 1) (by omega) (by omega) _) ?_; rintro e w3 ⟨rfl, hb3⟩; have hB3 := bel_trans hbd hb3; have hS1 := (HC.out _ (bel_trans HB1.out hB3)).2.1))
          all_goals go_wp2_with fail
          all_goals go_meet
          all_goals exact ⟨by first | rfl | simp, hB3⟩
        case rest =>
          obtain ⟨rfl, HX⟩ := hcut
          have HB2 := (show Hid _ from bel_trans HB1.out HX.out); clear HX HB1
          have e2 := (HC.out _ HB2.out).2.2.1
          have e3 := (HC.out _ HB2.out).2.2.2
          have HC2 := (show Hid _ from HCL.out _ HB2.out)
          have eb : (((q : Int) + 1 + 1) % 3 == 0) = decide ((q + 2) % 3 = 0) := by
            rw [Bool.eq_iff_iff]
            simp
            omega
          rw [← eb] at e2
          clear eb HC HCL
          go_wp2_with fail
          have eq3 : ((q : Int) + 1 + 1 + 1) = ((q + 3 : Nat) : Int) := by omega
          rw [eq3]
          refine Calls.mono HC2.out ?_
          rintro e w5 ⟨rfl, hb5⟩
          have HB5 := (show Hid _ from bel_trans HB.out (bel_trans HB2.out hb5))
          clear hb5 HB2 HC2 e2 e3 HB eq3
          generalize hqq : q + 3 + m = qq at *
          have hqq2 : qq ≤ 67108864 := hq2
          have hqq0 : 0 < qq := by omega
          clear hqq hq2
          go_wp2_with fail
          exact ⟨⟨j + 1, qq, by omega, by go_num, rfl, hqq2, hqq0, HQ2, HB5⟩, by simp [intOf]; omega⟩
    · obtain rfl : j = ns.length := by omega
      have HE := (show Hid _ from HQ.out)
      clear HQ
      go_wp2_with fail
      go_ret
      exact ⟨by rw [HE.out]; rfl, HB.out⟩
/-- All marks of a Dag. -/
def dgM (ns : List Nd) (rs : List Nat) (n : Nat) : Nat := n + mo ns ns.length + rs.length
theorem DgR.top {B : Nat} {w : World} {ns : List Nd} {rs : List Nat} {u r : Value} {K : Nat → Prop} (d1 : DN B w u ns K) (d2 : w.ownsRow B 3 1 r rs.length (iv (ins rs))) : ∀ q, (K q ∨ u.ownBlock = some q ∨ r.ownBlock = some q) → B ≤ q ∧ q < w.heap.size := fun q hq => by
  rcases hq with hq | hq | hq
  · exact d1.lt q (.inl hq)
  · exact d1.lt q (.inr hq)
  · exact World.ownsRow.lt d2 q hq
theorem own_of_int {w : World} {B b : Nat} {l : List Int} {v : Value} (h : OwnI w b l v) (hne : l ≠ []) (hB : B ≤ b) : w.ownsRow B 3 1 v l.length (iv l) := by
  obtain ⟨a, cap, f, hv, hc, hm, ha, hf⟩ := h
  have h0 : 0 < l.length := List.length_pos_iff.2 hne
  obtain ⟨e1, cs, x1, x2, x3⟩ := ha h0
  subst e1
  refine ⟨by simp, .inr ⟨b, cap, cs, hv, hB, x1, hc, hm, by omega, ?_⟩⟩
  apply List.ext_getElem?
  intro i
  rw [Nat.mul_one, List.getElem?_take]
  by_cases hi : i < l.length
  · rw [if_pos hi]
    have x4 := x3 i (by omega)
    rw [hf i hi] at x4
    rw [Array.getElem?_toList, x4]
    simp [iv, hi]
  · rw [if_neg hi, List.getElem?_eq_none (by simp [iv]; omega)]
set_option maxHeartbeats 1600000 in
theorem heldDag19 {B n : Nat} (ns : List Nd) (rs : List Nat) (u r : Value) (w : World) (h : DgR B w (mx ns n ns.length) (cntN (n + mo ns ns.length) rs.length) u r) (hn0 : 0 < n) (hnk : dgM ns rs n ≤ 67108864) :
    Calls Try.prog 17 #[.agg #[u, r], .int .i64 n] w fun e w' => e = .returned (.int .i64 (dgM ns rs n : Nat)) ∧ Below w.heap.size w w' := by
  have hb0 := bel_alloc w (.cells #[u, r] 27)
  have hbx := Box.new w 27 [u, r]
  unfold dgM at hnk ⊢
  obtain ⟨a1, c1, a2, c2, rfl, rfl, _, _⟩ := h.forms
  rw [mx_len, cntN_len] at *
  obtain ⟨K, d1, d2, d3⟩ := h
  have HM := (show Hid _ from heldNodes42 ns _ _ (d1.still hb0) hn0 (by omega))
  have HI := (show Hid (∀ wq, Below w.heap.size w wq → Calls Try.prog 55 #[.slice a2 rs.length c2, .int .i64 (n + mo ns ns.length : Nat)] wq fun e w' => e = .returned (.int .i64 (n + mo ns ns.length + rs.length : Nat)) ∧ Below wq.heap.size wq w') from fun wq hb => by
    rw [cntN_len, ins_cntN] at d2
    have := own_ints (l := cnt (n + mo ns ns.length) rs.length) (by rw [cnt_len]; exact d2)
    exact heldInts_any _ (n + mo ns ns.length) rs.length _ wq (this.still hb) (by omega))
  have HB0 := (show Hid _ from (⟨hb0, hbx⟩ : _ ∧ _))
  clear d1 d2 d3 hb0 hbx
  have hg1 : ∀ m : Nat, decide ((m : Int) < 0) = false := fun m => by simp
  have g1 := hg1 (n + mo ns ns.length)
  have g2 := hg1 (n + mo ns ns.length + rs.length)
  generalize n + mo ns ns.length = M at *
  go_enter Try.func17, Try.ntmps17
  go_wp2_with fail
  refine Calls.mono HM.out ?_
  rintro e w1 ⟨rfl, hb1⟩
  have x1 := HB0.out.2.still hb1
  have T1 : w1.cell? ⟨w.heap.size, 1, none⟩ = some (.slice a2 rs.length c2) := x1.cell 1 (by simp)
  have HC := (show Hid _ from HI.out w1 (bel_trans HB0.out.1 hb1))
  have HB1 := (show Hid _ from bel_trans HB0.out.1 hb1)
  clear hb1 x1 HM HI
  go_wp2_with fail
  refine Calls.mono HC.out ?_
  rintro e w2 ⟨rfl, hb2⟩
  have HN := (show Hid _ from bel_trans HB1.out hb2); clear hb2
  go_wp2_with fail
  go_ret
  exact ⟨rfl, HN.out⟩
end Go.Proofs.Ytblfeifedcddnaa
