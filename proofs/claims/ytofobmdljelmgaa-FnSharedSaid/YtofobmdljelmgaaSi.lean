import Derived.Test.YtofobmdljelmgaaSw
import Derived.Test.YtofobmdljelmgaaIs
/-! The program's SharedWith. -/
namespace Go.Proofs.Ytofobmdljelmgaa
open Go.RowKit Go.Deep
set_option linter.unusedVariables false
set_option maxRecDepth 100000
set_option linter.unusedSimpArgs false

/-- What is known of the first j nodes, and so far of the next one. -/
structure Kn (w : World) (kb N : Nat) (f : Nat → Nat) (ns : List Nd) (j p : Nat) : Prop where
  ex : ∃ F, w.rowIs kb 3 N F ∧ ∀ i, i < N → F i = .int .i64 ((if i < j then vv f ns i else if i = j then p else 0 : Nat) : Int)
theorem Kn.keep {w w' : World} {kb N j p : Nat} {f : Nat → Nat} {ns : List Nd} (h : Kn w kb N f ns j p) (hb : w'.heap[kb]? = w.heap[kb]?) : Kn w' kb N f ns j p := by
  obtain ⟨F, h1, h2⟩ := h
  exact ⟨F, h1.of_block hb, h2⟩
theorem Kn.lt {w : World} {kb N j p : Nat} {f : Nat → Nat} {ns : List Nd} (h : Kn w kb N f ns j p) : kb < w.heap.size := by
  obtain ⟨F, h1, h2⟩ := h
  exact h1.lt
theorem Kn.cur {w : World} {kb N j p : Nat} {f : Nat → Nat} {ns : List Nd} (h : Kn w kb N f ns j p) (hj : j < N) : w.cell? ⟨kb, j, none⟩ = some (.int .i64 (p : Nat)) ∧ w.frozen? ⟨kb, j, none⟩ = false := by
  obtain ⟨F, h1, h2⟩ := h
  refine ⟨?_, h1.frozen j⟩
  rw [h1.cell hj, h2 j hj, if_neg (Nat.lt_irrefl _), if_pos rfl]
theorem Kn.old {w : World} {kb N j p i : Nat} {f : Nat → Nat} {ns : List Nd} (h : Kn w kb N f ns j p) (hi : i < j) (hN : i < N) : w.cell? ⟨kb, i, none⟩ = some (.int .i64 (vv f ns i : Nat)) := by
  obtain ⟨F, h1, h2⟩ := h
  rw [h1.cell hN, h2 i hN, if_pos hi]
theorem Kn.set {w : World} {kb N j p : Nat} {f : Nat → Nat} {ns : List Nd} (h : Kn w kb N f ns j p) (p' : Nat) : Kn (w.setCell ⟨kb, j, none⟩ (.int .i64 (p' : Nat))) kb N f ns j p' := by
  obtain ⟨F, h1, h2⟩ := h
  refine ⟨_, h1.set j (.int .i64 (p' : Nat)), fun i hi => ?_⟩
  by_cases e : i = j
  · subst e
    rw [if_pos rfl, if_neg (Nat.lt_irrefl _), if_pos rfl]
  · rw [if_neg e, h2 i hi]
    by_cases e2 : i < j
    · rw [if_pos e2, if_pos e2]
    · rw [if_neg e2, if_neg e, if_neg e2, if_neg e]
theorem Kn.done {w : World} {kb N j : Nat} {f : Nat → Nat} {ns : List Nd} (h : Kn w kb N f ns j (vv f ns j)) : Kn w kb N f ns (j + 1) 0 := by
  obtain ⟨F, h1, h2⟩ := h
  refine ⟨F, h1, fun i hi => ?_⟩
  rw [h2 i hi]
  by_cases e : i < j
  · rw [if_pos e, if_pos (by omega)]
  · by_cases e2 : i = j
    · subst e2
      rw [if_neg (Nat.lt_irrefl _), if_pos rfl, if_pos (by omega)]
    · rw [if_neg e, if_neg e2, if_neg (by omega)]
      split <;> rfl
theorem n2_bd (a b : Tr) : bdN (a.cnt + b.cnt) (n2 a b) := by
  have h1 := (putT_keep a [] (by simp)).2.1
  exact putT_bd b _ h1 (putT_gd a [] (by simp) gd_nil) (by omega) (putT_bd a [] (by simp) gd_nil (by omega) (fun q hq => by simp at hq))
theorem kf_last (a : Tr) (q : Nat) : kf (m2 a) q = if q ≤ (putT a []).2 then 1 else 0 := by
  have h := putT_last a
  unfold kf m2
  by_cases e : q ≤ (putT a []).2
  · rw [if_pos e, if_pos (by omega)]
  · rw [if_neg e, if_neg (by omega)]
theorem tks2 (a b : Tr) : tksB [a, b] = okB a b := by
  unfold tksB okB
  simp
theorem sh2 (a b : Tr) : shC [a, b] = swC a b ∧ (okB a b = true → shN [a, b] = (n2 a b, [(putT a []).2, q2 a b])) := by
  unfold shC swC shN
  rw [tks2]
  exact ⟨rfl, fun h => by rw [h]; exact putTs2 a b⟩
theorem tk_sum {g : Nat → Nat} : ∀ (l : List Nat) (c : Nat), ((l.take c).map g).sum ≤ (l.map g).sum := by
  intro l c
  have h : (l.map g).sum = ((l.take c).map g).sum + ((l.drop c).map g).sum := by
    rw [← List.sum_append, ← List.map_append, List.take_append_drop]
  omega
set_option maxHeartbeats 6400000 in
theorem iShared {S S' : Nat → Prop} (a b : Tr) (va vb : Value) (w : World) (ha : Lies w S a va) (hb : Lies w S' b vb) :
    Calls Try.prog 13 #[a.val va, b.val vb] w (SwR a b w) := by
  have hbb : Below w.heap.size w ((w.alloc (.cells #[.string a.name, .string a.text, .bool a.leaf, va] 39)).alloc (.cells #[.string b.name, .string b.text, .bool b.leaf, vb] 39)) := (bel_alloc _ _).alloc (by simp) _
  have B1 := (Box.new w 39 [.string a.name, .string a.text, .bool a.leaf, va]).still (bel_alloc _ (.cells #[.string b.name, .string b.text, .bool b.leaf, vb] 39))
  have B2 : Box ((w.alloc (.cells #[.string a.name, .string a.text, .bool a.leaf, va] 39)).alloc (.cells #[.string b.name, .string b.text, .bool b.leaf, vb] 39)) (w.heap.size + 1) 39 [.string b.name, .string b.text, .bool b.leaf, vb] := by
    have := Box.new (w.alloc (.cells #[.string a.name, .string a.text, .bool a.leaf, va] 39)) 39 [.string b.name, .string b.text, .bool b.leaf, vb]
    simpa using this
  have C1 : Hid (Calls Try.prog 9 #[.slice (some ⟨w.heap.size + 1 + 1, 0, none⟩) 2 2] (((w.alloc (.cells #[.string a.name, .string a.text, .bool a.leaf, va] 39)).alloc (.cells #[.string b.name, .string b.text, .bool b.leaf, vb] 39)).alloc (.cells #[.string a.name, .string a.text, .bool a.leaf, va, .string b.name, .string b.text, .bool b.leaf, vb] 39)) (ShT [a, b] (((w.alloc (.cells #[.string a.name, .string a.text, .bool a.leaf, va] 39)).alloc (.cells #[.string b.name, .string b.text, .bool b.leaf, vb] 39)).alloc (.cells #[.string a.name, .string a.text, .bool a.leaf, va, .string b.name, .string b.text, .bool b.leaf, vb] 39)))) := by
    have e1 := iShare [a, b] _ _ (fun q hq => by simpa using hq) (trs2 (ha.still hbb) (hb.still hbb))
    have e2 : ((w.alloc (.cells #[.string a.name, .string a.text, .bool a.leaf, va] 39)).alloc (.cells #[.string b.name, .string b.text, .bool b.leaf, vb] 39)).heap.size = w.heap.size + 1 + 1 := by simp
    rw [e2] at e1
    exact e1
  obtain ⟨aa, al, ap, rfl⟩ := ha.form
  obtain ⟨ba, bl, bp, rfl⟩ := hb.form
  clear ha hb
  have hbc := bel_trans hbb (bel_alloc _ (.cells #[.string a.name, .string a.text, .bool a.leaf, .slice aa al ap, .string b.name, .string b.text, .bool b.leaf, .slice ba bl bp] 39))
  have HX := (show Hid _ from (⟨hbc, B1, B2⟩ : _ ∧ _ ∧ _))
  have r0 : ((w.alloc (.cells #[.string a.name, .string a.text, .bool a.leaf, .slice aa al ap] 39)).alloc (.cells #[.string b.name, .string b.text, .bool b.leaf, .slice ba bl bp] 39)).cell? ⟨w.heap.size, 0, none⟩ = some (.string a.name) := B1.cell 0 (by simp)
  simp only [Tr.val]
  generalize a.name = an at *
  generalize a.text = ax at *
  generalize a.leaf = af at *
  generalize b.name = bn at *
  generalize b.text = bx at *
  generalize b.leaf = bf at *
  clear hbb hbc B1 B2 r0
  go_enter Try.func13, Try.ntmps13
  go_wp2_with fail
  refine Calls.mono C1.out ?_
  rintro e w1 ⟨u, r, rfl, hb1, hd1⟩
  obtain ⟨a1, c1, a2, c2, rfl, rfl, hm1, hm2⟩ := hd1.forms
  rw [(sh2 a b).1]
  cases ok : okB a b with
  | false =>
    have HF := (show Hid (swN a b = 0 ∧ swC a b = 1) from (by unfold swN swC; rw [ok]; exact ⟨rfl, rfl⟩))
    have hc1 : swC a b = 1 := HF.out.2
    rw [hc1]
    have HE := (show Hid _ from bel_trans (bel_trans HX.out.1 hb1) (bel_alloc w1 (.cells #[.slice a1 (shN [a, b]).1.length c1, .slice a2 (shN [a, b]).2.length c2] 27)))
    clear hb1 hd1 hc1
    go_wp2_with fail
    refine bodyPost_ret (v := .tuple #[.int .i64 0, .int .i64 1]) (by simp [results, Try.results13, go_sem]) rfl ?_
    exact ⟨by rw [HF.out.1, HF.out.2]; rfl, HE.out⟩
  | true =>
    have hsh := (sh2 a b).2 ok
    rw [hsh] at hd1 hm1 hm2 ⊢
    dsimp only at hd1 hm1 hm2 ⊢
    rw [show [(putT a []).2, q2 a b].length = 2 from rfl] at hd1 ⊢
    obtain ⟨f1, f2, f3, f4, f5⟩ := n2_facts a b
    have oka : a.ok = true ∧ b.ok = true := by unfold okB at ok; simpa using ok
    have ca := ok_cnt oka.1
    have cb := ok_cnt oka.2
    have HF := (show Hid (swN a b = vv (kf (m2 a)) (n2 a b) (q2 a b) ∧ swC a b = 0) from (by unfold swN swC; rw [ok]; exact ⟨rfl, rfl⟩))
    have hc0 : swC a b = 0 := HF.out.2
    rw [hc0]
    have HP2 := (show Hid (∀ q, q < (n2 a b).length → vv (kf (m2 a)) (n2 a b) q ≤ 2000) from fun q hq => by
      have h1 := vv_le (kf_le (m2 a)) f2 q hq
      have h2 := n2_bd a b q hq
      omega)
    have hqN := isT_lt f3
    have hiN : (putT a []).2 < (n2 a b).length := by
      have h1 := putT_last a
      have h2 := (putT_pre b (putT a []).1).length_le
      unfold n2
      omega
    have hNm : (n2 a b).length ≤ 2000 := by omega
    have HP5 := (show Hid (∀ q, kf (m2 a) q = if q ≤ (putT a []).2 then 1 else 0) from fun q => kf_last a q)
    have HG := (show Hid _ from f2)
    clear f1 f2 f3 f4 f5 ca cb hsh hc0 oka ok
    have hba := bel_alloc w1 (.cells #[.slice a1 (n2 a b).length c1, .slice a2 2 c2] 27)
    have hd2 := hd1.still hba
    obtain ⟨K, dn, dr, _⟩ := hd2
    obtain ⟨rb, hrb⟩ : ∃ rb, a2 = some ⟨rb, 0, none⟩ := by
      rcases dr.2 with ⟨e, e0⟩ | ⟨g, cp, cur, r1, _⟩
      · cases e0
      · simp only [Value.slice.injEq] at r1
        exact ⟨g, r1.1⟩
    subst hrb
    have g0 : (w1.alloc (.cells #[.slice a1 (n2 a b).length c1, .slice (some ⟨rb, 0, none⟩) 2 c2] 27)).cell? ⟨rb, 0, none⟩ = some (.int .i64 ((putT a []).2 : Nat)) := World.ownsRow.cellAt dr 0 (by decide)
    have g1 : (w1.alloc (.cells #[.slice a1 (n2 a b).length c1, .slice (some ⟨rb, 0, none⟩) 2 c2] 27)).cell? ⟨rb, 1, none⟩ = some (.int .i64 (q2 a b : Nat)) := World.ownsRow.cellAt dr 1 (by decide)
    have hbx : Box (w1.alloc (.cells #[.slice a1 (n2 a b).length c1, .slice (some ⟨rb, 0, none⟩) 2 c2] 27)) w1.heap.size 27 [.slice a1 (n2 a b).length c1, .slice (some ⟨rb, 0, none⟩) 2 c2] := Box.new _ _ _
    have HW := (show Hid (Below w.heap.size w (w1.alloc (.cells #[.slice a1 (n2 a b).length c1, .slice (some ⟨rb, 0, none⟩) 2 c2] 27))) from bel_trans (bel_trans HX.out.1 hb1) hba)
    clear hd1 hb1 hba dr HX C1
    obtain ⟨B, hDN⟩ : ∃ B, DN B (w1.alloc (.cells #[.slice a1 (n2 a b).length c1, .slice (some ⟨rb, 0, none⟩) 2 c2] 27)) (.slice a1 (n2 a b).length c1) (n2 a b) K := ⟨_, dn⟩
    clear dn
    have HKN := (show Hid (Kn ((w1.alloc (.cells #[.slice a1 (n2 a b).length c1, .slice (some ⟨rb, 0, none⟩) 2 c2] 27)).alloc (.cells (madeCells #[.int .i64 0] (n2 a b).length) 3)) (w1.heap.size + 1) (n2 a b).length (kf (m2 a)) (n2 a b) 0 0) from (by
      have e1 := World.rowIs_made (w1.alloc (.cells #[.slice a1 (n2 a b).length c1, .slice (some ⟨rb, 0, none⟩) 2 c2] 27)) (.int .i64 0) (n2 a b).length 3
      have e2 : (w1.alloc (.cells #[.slice a1 (n2 a b).length c1, .slice (some ⟨rb, 0, none⟩) 2 c2] 27)).heap.size = w1.heap.size + 1 := by simp
      rw [e2] at e1
      refine ⟨_, e1, fun i hi => ?_⟩
      rw [if_neg (Nat.not_lt_zero _)]
      split <;> rfl))
    have hz1 : (w1.alloc (.cells #[.slice a1 (n2 a b).length c1, .slice (some ⟨rb, 0, none⟩) 2 c2] 27)).heap.size = w1.heap.size + 1 := by simp
    have hmk := run_makeInts (n2 a b).length (by omega)
    have HB2 := (show Hid _ from bel_alloc (w1.alloc (.cells #[.slice a1 (n2 a b).length c1, .slice (some ⟨rb, 0, none⟩) 2 c2] 27)) (.cells (madeCells #[.int .i64 0] (n2 a b).length) 3))
    generalize hns : n2 a b = ns at *
    generalize q2 a b = q at *
    generalize (putT a []).2 = i0 at *
    generalize kf (m2 a) = f at *
    clear hns
    generalize hN : ns.length = N at *
    have HN := (show Hid _ from hN); clear hN
    have t0 : (w1.alloc (.cells #[.slice a1 N c1, .slice (some ⟨rb, 0, none⟩) 2 c2] 27)).cell? ⟨w1.heap.size, 0, none⟩ = some (.slice a1 N c1) := hbx.cell 0 (by simp)
    have t1 : (w1.alloc (.cells #[.slice a1 N c1, .slice (some ⟨rb, 0, none⟩) 2 c2] 27)).cell? ⟨w1.heap.size, 1, none⟩ = some (.slice (some ⟨rb, 0, none⟩) 2 c2) := hbx.cell 1 (by simp)
    have y2 := hbx.still (bel_alloc _ (.cells (madeCells #[.int .i64 0] N) 3))
    have t2 : ((w1.alloc (.cells #[.slice a1 N c1, .slice (some ⟨rb, 0, none⟩) 2 c2] 27)).alloc (.cells (madeCells #[.int .i64 0] N) 3)).cell? ⟨w1.heap.size, 0, none⟩ = some (.slice a1 N c1) := y2.cell 0 (by simp)
    have HBX := (show Hid _ from (⟨hbx, g1⟩ : _ ∧ _)); clear hbx y2
    have HDN := (show Hid (DN B (w1.alloc (.cells #[.slice a1 N c1, .slice (some ⟨rb, 0, none⟩) 2 c2] 27)) (.slice a1 N c1) ns K) from hDN); clear hDN
    have HZ1 := (show Hid _ from hz1); clear hz1
    unfold maxLen at hm1
    clear hm2
    go_wp2_with fail
    clear hmk t0 t1 t2 g0 g1
    obtain ⟨W1, hW1⟩ : ∃ W1, W1 = w1.alloc (.cells #[.slice a1 N c1, .slice (some ⟨rb, 0, none⟩) 2 c2] 27) := ⟨_, rfl⟩
    rw [← hW1] at HDN HBX HW HB2 HKN HZ1
    have HW1 := (show Hid _ from hW1)
    go_loopw [35] (fun i wr => ∃ j : Nat, i = .int .i64 j ∧ j ≤ N ∧ Hid (Below W1.heap.size W1 wr ∧ Kn wr (w1.heap.size + 1) N f ns j 0)) (fun i _ => N - (intOf i).toNat)
    case atStart => exact ⟨0, rfl, Nat.zero_le _, by rw [← HW1.out]; exact ⟨HB2.out, HKN.out⟩⟩
    case round =>
      clear hW1
      obtain ⟨j, rfl, hj, HJ⟩ := hrel
      by_cases hjN : j < N
      · have hjn : j < ns.length := by rw [HN.out]; exact hjN
        obtain ⟨g4, c4, v4, e4, hB4, d0, d1, d2, d3, hI4⟩ := DN.node HDN.out hjn
        simp only [Value.slice.injEq] at e4
        obtain ⟨rfl, hNn, rfl⟩ := e4
        clear hNn
        have hvv := vv_eq f HG.out hjn
        have hgd := HG.out j (nd ns j) (by rw [nd_eq hjn]; exact List.getElem?_eq_getElem hjn)
        have hp2 := HP2.out j hjN
        obtain ⟨a4, p4, kb4, ko4, hv4, hc4, hm4, ha4, hk4⟩ := hI4
        rw [ins_len] at hv4 ha4
        generalize hks : (nd ns j).ks = ks at *
        have HVV := (show Hid (vv f ns j = f j + (ks.map (vv f ns)).sum) from hvv)
        have HGD := (show Hid (∀ c (hc : c < ks.length), ks[c] < j) from fun c hc => hgd _ (List.getElem_mem hc))
        have HSUM := (show Hid (∀ c, ((ks.take c).map (vv f ns)).sum ≤ 2000) from fun c => by
          have h1 := tk_sum (g := vv f ns) ks c
          omega)
        have HKC := (show Hid (0 < ks.length → ∃ kb4 ko4, a4 = some ⟨kb4, ko4, none⟩ ∧ ∀ c (hc : c < ks.length), W1.cell? ⟨kb4, ko4 + c, none⟩ = some (.int .i64 (ks[c] : Nat))) from fun h0 => ⟨kb4, ko4, (ha4 h0).1, fun c hc => by
          have := hk4 c (by rw [ins_len]; exact hc)
          simpa [ins] using this⟩)
        have hksm : ks.length ≤ 9223372036854775807 := by unfold maxLen at hm4; rw [ins_len] at hc4; omega
        subst hv4
        clear hvv hgd hc4 hm4 ha4 hk4 hks hB4
        have e0 := (HJ.out.1.cell (lt_of_cell d0)).trans d0
        have e1 := (HJ.out.1.cell (lt_of_cell d1)).trans d1
        have e2 := (HJ.out.1.cell (lt_of_cell d2)).trans d2
        have e3 := (HJ.out.1.cell (lt_of_cell d3)).trans d3
        generalize (nd ns j).nm = y0 at *
        generalize (nd ns j).tx = y1 at *
        generalize (nd ns j).lf = y2 at *
        obtain ⟨wo, rfl⟩ : ∃ wo, wo = wr := ⟨_, rfl⟩
        have hbo := bel_alloc wo (.cells #[.string y0, .string y1, .bool y2, .slice a4 ks.length p4] 34)
        have HBO := (show Hid (Box (wo.alloc (.cells #[.string y0, .string y1, .bool y2, .slice a4 ks.length p4] 34)) wo.heap.size 34 [.string y0, .string y1, .bool y2, .slice a4 ks.length p4] ∧ Below W1.heap.size W1 (wo.alloc (.cells #[.string y0, .string y1, .bool y2, .slice a4 ks.length p4] 34)) ∧ Kn (wo.alloc (.cells #[.string y0, .string y1, .bool y2, .slice a4 ks.length p4] 34)) (w1.heap.size + 1) N f ns j 0) from ⟨Box.new _ _ _, bel_trans HJ.out.1 hbo, HJ.out.2.keep (hbo.block _ HJ.out.2.lt)⟩)
        have HKBW := (show Hid (W1.heap.size ≤ w1.heap.size + 1) from (by have := HZ1.out; show _ ≤ _; omega))
        have HKBL := (show Hid (w1.heap.size + 1 < wo.heap.size) from HJ.out.2.lt)
        have hcr := HBO.out.2.2.cur hjN
        have hcr0 := hcr.1
        have hcr1 := hcr.2
        clear d0 d1 d2 d3 hbo hcr HJ HDN
        by_cases hji : j ≤ i0
        · skip
          have hle : decide ((j : Int) ≤ (i0 : Int)) = true := by simp; omega
          have HFJ := (show Hid (f j = 1) from (by show f j = _; rw [HP5.out]; simp [hji]))
          have HBZ := (show Hid (Box ((wo.alloc (.cells #[.string y0, .string y1, .bool y2, .slice a4 ks.length p4] 34)).setCell ⟨w1.heap.size + 1, j, none⟩ (.int .i64 1)) wo.heap.size 34 [.string y0, .string y1, .bool y2, .slice a4 ks.length p4] ∧ Below W1.heap.size W1 ((wo.alloc (.cells #[.string y0, .string y1, .bool y2, .slice a4 ks.length p4] 34)).setCell ⟨w1.heap.size + 1, j, none⟩ (.int .i64 1)) ∧ Kn ((wo.alloc (.cells #[.string y0, .string y1, .bool y2, .slice a4 ks.length p4] 34)).setCell ⟨w1.heap.size + 1, j, none⟩ (.int .i64 1)) (w1.heap.size + 1) N f ns j 1) from ⟨HBO.out.1.past (by have := HKBL.out; omega), HBO.out.2.1.setCell (p := ⟨w1.heap.size + 1, j, none⟩) HKBW.out _, Kn.set HBO.out.2.2 1⟩)
          have z3 : ((wo.alloc (.cells #[.string y0, .string y1, .bool y2, .slice a4 ks.length p4] 34)).setCell ⟨w1.heap.size + 1, j, none⟩ (.int .i64 1)).cell? ⟨wo.heap.size, 3, none⟩ = some (.slice a4 ks.length p4) := HBZ.out.1.cell 3 (by simp)
          have hdn : decide (j ≤ i0) = true := by simp; omega
          go_wp2_with fail
          go_loopw [49] (fun i wr => ∃ c : Nat, i = .int .i64 c ∧ c ≤ ks.length ∧ Hid (Below W1.heap.size W1 wr ∧ Kn wr (w1.heap.size + 1) N f ns j (1 + ((ks.take c).map (vv f ns)).sum))) (fun i _ => ks.length - (intOf i).toNat)
          case atStart => exact ⟨0, rfl, Nat.zero_le _, HBZ.out.2.1, by simpa using HBZ.out.2.2⟩
          case round =>
            obtain ⟨c, rfl, hc, HI⟩ := hrel
            have hsb := HSUM.out c
            by_cases hcl : c < ks.length
            · obtain ⟨kb4, ko4, rfl, hk4⟩ := HKC.out (by omega)
              have hk5 := (HI.out.1.cell (lt_of_cell (hk4 c hcl))).trans (hk4 c hcl)
              have hkj := HGD.out c hcl
              have hold := HI.out.2.old (i := ks[c]) hkj (by omega)
              have hcur := HI.out.2.cur hjN
              have hsc := HSUM.out (c + 1)
              have HNX := (show Hid (((ks.take (c + 1)).map (vv f ns)).sum = ((ks.take c).map (vv f ns)).sum + vv f ns ks[c]) from (by
                show _ = _
                rw [List.take_succ_eq_append_getElem hcl, List.map_append, List.sum_append]
                simp))
              rw [HNX.out] at hsc
              have HPP := (show Hid (∀ p' : Nat, p' = 1 + ((ks.take (c + 1)).map (vv f ns)).sum → Below W1.heap.size W1 ((wr.drew).setCell ⟨w1.heap.size + 1, j, none⟩ (.int .i64 (p' : Nat))) ∧ Kn ((wr.drew).setCell ⟨w1.heap.size + 1, j, none⟩ (.int .i64 (p' : Nat))) (w1.heap.size + 1) N f ns j (1 + ((ks.take (c + 1)).map (vv f ns)).sum) ∧ ((wr.drew).setCell ⟨w1.heap.size + 1, j, none⟩ (.int .i64 (p' : Nat))).cell? ⟨w1.heap.size + 1, ks[c], none⟩ = some (.int .i64 (vv f ns ks[c] : Nat))) from fun p' hp => by
                have k1 := Kn.set (w := wr.drew) (HI.out.2.keep rfl) p'
                have k2 : Below W1.heap.size W1 wr.drew := HI.out.1.drew
                refine ⟨k2.setCell (p := ⟨w1.heap.size + 1, j, none⟩) HKBW.out _, by rw [← hp]; exact k1, k1.old hkj (by omega)⟩)
              have HSX := (show Hid (∀ X : Value, (wr.setCell ⟨w1.heap.size + 1, j, none⟩ X).drew.cell? ⟨w1.heap.size + 1, ks[c], none⟩ = some (.int .i64 (vv f ns ks[c] : Nat))) from fun X => by
                obtain ⟨F, z1, z2⟩ := HI.out.2
                have z4 := (z1.set j X).cell (i := ks[c]) (by omega)
                rw [if_neg (by omega), z2 _ (by omega), if_pos hkj] at z4
                exact z4)
              have hkcN : ks[c] < N := by omega
              generalize hkc : ks[c] = kc at *
              generalize hvk : vv f ns kc = vk at *
              generalize hsm : ((ks.take c).map (vv f ns)).sum = sm at *
              have hnx := HNX.out
              have q1 : (0 : Int) ≤ (j : Int) := by omega
              have q2 : (j : Int) < (N : Int) := by omega
              have q3 : (0 : Int) ≤ (kc : Int) := by omega
              have q4 : (kc : Int) < (N : Int) := by omega
              have hw9 : IntKind.i64.wrap (1 + (sm : Int) + (vk : Int)) = ((1 + sm + vk : Nat) : Int) := by rw [IntKind.wrap_i64]; omega
              obtain ⟨m1, m2, m3⟩ := HPP.out (1 + sm + vk) (by rw [hnx]; omega)
              have HM := (show Hid _ from (⟨m1, m2⟩ : _ ∧ _)); clear m1 m2
              have hc0 := hcur.1
              have hc1 := hcur.2
              have hS0 : wr.drew.cell? ⟨w1.heap.size + 1, kc, none⟩ = some (.int .i64 (vk : Nat)) := hold
              have HS1 := (show Hid (∀ X : Value, (wr.setCell ⟨w1.heap.size + 1, j, none⟩ X).drew.cell? ⟨w1.heap.size + 1, kc, none⟩ = some (.int .i64 (vk : Nat))) from HSX.out)
              have hcd : wr.drew.cell? ⟨w1.heap.size + 1, j, none⟩ = some (.int .i64 (1 + sm : Nat)) := hc0
              clear hold HPP hcur HI HNX hnx hkc hvk hsm m3 hk4
              go_wp2_with fail
              refine wp_region_held_drew (S := fun wq => wq.cell? ⟨w1.heap.size + 1, kc, none⟩ = some (.int .i64 (vk : Nat))) (by kernel_rfl) hS0 (fun hHeld => ?_)
              refine wpAnyH_take (i := 0) (oi := { dst := some 53, op := Go.Op.move (Go.Operand.tmp 9), type := 25, pos := "l09_documents.go:114", after := #[], guard := none }) (v := ?v1) rfl (by kernel_rfl) (by kernel_rfl) (by kernel_rfl) (fun _ _ _ h => h) (Or.inl ⟨by rfl, ?h1⟩) hHeld ?r1
              case h1 => (intro w hSw; (try dsimp only at hSw); go_simp; try with_reducible rfl)
              try simp only [Act.put, List.setIfInBounds_toArray, List.set_cons_zero, List.set_cons_succ]
              refine wpAnyH_take (i := 1) (oi := { dst := some 54, op := Go.Op.move (Go.Operand.tmp 10), type := 3, pos := "l09_documents.go:114", after := #[], guard := none }) (v := ?v2) rfl (by kernel_rfl) (by kernel_rfl) (by kernel_rfl) (fun _ _ _ h => h) (Or.inl ⟨by rfl, ?h2⟩) hHeld ?r2
              case h2 => (intro w hSw; (try dsimp only at hSw); go_simp; try with_reducible rfl)
              try simp only [Act.put, List.setIfInBounds_toArray, List.set_cons_zero, List.set_cons_succ]
              refine wpAnyH_take (i := 2) (oi := { dst := some 55, op := Go.Op.indexAddr 25 (Go.Operand.tmp 53) (Go.Operand.tmp 54), type := 0, pos := "l09_documents.go:114", after := #[{ on := 0, ground := Go.Ground.data }, { on := 1, ground := Go.Ground.data }], guard := none }) (v := ?v3) rfl (by kernel_rfl) (by kernel_rfl) (by kernel_rfl) (fun _ _ _ h => h) (Or.inl ⟨by rfl, ?h3⟩) hHeld ?r3
              case h3 => (intro w hSw; (try dsimp only at hSw); go_simp; try with_reducible rfl)
              try simp only [Act.put, List.setIfInBounds_toArray, List.set_cons_zero, List.set_cons_succ]
              refine wpAnyH_take (i := 4) (oi := { dst := some 57, op := Go.Op.move (Go.Operand.tmp 9), type := 25, pos := "l09_documents.go:114", after := #[], guard := none }) (v := ?v4) rfl (by kernel_rfl) (by kernel_rfl) (by kernel_rfl) (fun _ _ _ h => h) (Or.inl ⟨by rfl, ?h4⟩) hHeld ?r4
              case h4 => (intro w hSw; (try dsimp only at hSw); go_simp; try with_reducible rfl)
              try simp only [Act.put, List.setIfInBounds_toArray, List.set_cons_zero, List.set_cons_succ]
              refine wpAnyH_take (i := 5) (oi := { dst := some 58, op := Go.Op.move (Go.Operand.tmp 13), type := 3, pos := "l09_documents.go:114", after := #[], guard := none }) (v := ?v5) rfl (by kernel_rfl) (by kernel_rfl) (by kernel_rfl) (fun _ _ _ h => h) (Or.inl ⟨by rfl, ?h5⟩) hHeld ?r5
              case h5 => (intro w hSw; (try dsimp only at hSw); go_simp; try with_reducible rfl)
              try simp only [Act.put, List.setIfInBounds_toArray, List.set_cons_zero, List.set_cons_succ]
              refine wpAnyH_take (i := 6) (oi := { dst := some 59, op := Go.Op.indexAddr 25 (Go.Operand.tmp 57) (Go.Operand.tmp 58), type := 0, pos := "l09_documents.go:114", after := #[{ on := 4, ground := Go.Ground.data }, { on := 5, ground := Go.Ground.data }], guard := none }) (v := ?v6) rfl (by kernel_rfl) (by kernel_rfl) (by kernel_rfl) (fun _ _ _ h => h) (Or.inl ⟨by rfl, ?h6⟩) hHeld ?r6
              case h6 => (intro w hSw; (try dsimp only at hSw); go_simp; try with_reducible rfl)
              try simp only [Act.put, List.setIfInBounds_toArray, List.set_cons_zero, List.set_cons_succ]
              refine wpAnyH_take (i := 7) (oi := { dst := some 60, op := Go.Op.load 3 (Go.Operand.tmp 59), type := 3, pos := "l09_documents.go:114", after := #[{ on := 6, ground := Go.Ground.data }], guard := none }) (v := ?v7) rfl (by kernel_rfl) (by kernel_rfl) (by kernel_rfl) (fun _ _ _ h => h) (Or.inl ⟨by rfl, ?h7⟩) hHeld ?r7
              case h7 => (intro w hSw; (try dsimp only at hSw); go_simp; try with_reducible rfl)
              try simp only [Act.put, List.setIfInBounds_toArray, List.set_cons_zero, List.set_cons_succ]
              refine wpAnyH_ready (rs := [3]) (by kernel_rfl) (by simp) ?_
              refine AllReadyH.cons (o := { dst := some 56, op := Go.Op.load 3 (Go.Operand.tmp 55), type := 3, pos := "l09_documents.go:114", after := #[{ on := 2, ground := Go.Ground.data }], guard := none }) rfl (fun K hK => ?_) AllReadyH.nil
              go_simp
              clear hHeld
              refine hK.out _ _ hS0 (fun hHeld => ?_)
              clear hK K
              try simp only [Act.put, List.setIfInBounds_toArray, List.set_cons_zero, List.set_cons_succ]
              refine wpAnyH_take (i := 8) (oi := { dst := some 61, op := Go.Op.binOp Go.BinOp.add 3 (Go.Operand.tmp 56) (Go.Operand.tmp 60) 3, type := 3, pos := "l09_documents.go:114", after := #[{ on := 3, ground := Go.Ground.data }, { on := 7, ground := Go.Ground.data }], guard := none }) (v := ?v8) rfl (by kernel_rfl) (by kernel_rfl) (by kernel_rfl) (fun _ _ _ h => h) (Or.inl ⟨by rfl, ?h8⟩) hHeld ?r8
              case h8 => (intro w hSw; (try dsimp only at hSw); go_simp; try with_reducible rfl)
              try simp only [Act.put, List.setIfInBounds_toArray, List.set_cons_zero, List.set_cons_succ]
              refine wpAnyH_take (i := 9) (oi := { dst := some 62, op := Go.Op.indexAddr 25 (Go.Operand.tmp 53) (Go.Operand.tmp 54), type := 0, pos := "l09_documents.go:114", after := #[{ on := 0, ground := Go.Ground.data }, { on := 1, ground := Go.Ground.data }, { on := 0, ground := Go.Ground.phase }, { on := 1, ground := Go.Ground.phase }, { on := 2, ground := Go.Ground.phase }, { on := 3, ground := Go.Ground.phase }, { on := 4, ground := Go.Ground.phase }, { on := 5, ground := Go.Ground.phase }, { on := 6, ground := Go.Ground.phase }, { on := 7, ground := Go.Ground.phase }, { on := 8, ground := Go.Ground.phase }], guard := none }) (v := ?v9) rfl (by kernel_rfl) (by kernel_rfl) (by kernel_rfl) (fun _ _ _ h => h) (Or.inl ⟨by rfl, ?h9⟩) hHeld ?r9
              case h9 => (intro w hSw; (try dsimp only at hSw); go_simp; try with_reducible rfl)
              try simp only [Act.put, List.setIfInBounds_toArray, List.set_cons_zero, List.set_cons_succ]
              refine wpAnyH_ready (rs := [10]) (by kernel_rfl) (by simp) ?_
              refine AllReadyH.cons (o := { dst := none, op := Go.Op.store 3 (Go.Operand.tmp 62) (Go.Operand.tmp 61), type := 0, pos := "l09_documents.go:114", after := #[{ on := 9, ground := Go.Ground.data }, { on := 8, ground := Go.Ground.data }, { on := 0, ground := Go.Ground.phase }, { on := 1, ground := Go.Ground.phase }, { on := 2, ground := Go.Ground.phase }, { on := 3, ground := Go.Ground.phase }, { on := 4, ground := Go.Ground.phase }, { on := 5, ground := Go.Ground.phase }, { on := 6, ground := Go.Ground.phase }, { on := 7, ground := Go.Ground.phase }, { on := 8, ground := Go.Ground.phase }], guard := none }) rfl (fun K hK => ?_) AllReadyH.nil
              go_simp
              clear hHeld
              refine hK.out _ _ (HS1.out _) (fun hHeld => ?_)
              clear hK K
              try simp only [Act.put, List.setIfInBounds_toArray, List.set_cons_zero, List.set_cons_succ]
              refine wpAnyH_done (by kernel_rfl) ?_ _
              go_wp2_with fail
              exact ⟨⟨c + 1, by go_num, by omega, HM.out⟩, by simp [intOf]; omega⟩
            · obtain rfl : c = ks.length := by omega
              have HD2 := (show Hid (Below W1.heap.size W1 wr ∧ Kn wr (w1.heap.size + 1) N f ns (j + 1) 0) from ⟨HI.out.1, by
                have e1 := HI.out.2
                rw [List.take_length] at e1
                have e2 : 1 + (ks.map (vv f ns)).sum = vv f ns j := by rw [HVV.out, HFJ.out]
                rw [e2] at e1
                exact e1.done⟩)
              clear HI
              go_wp2_with fail
              exact ⟨⟨j + 1, by go_num, by omega, HD2.out⟩, by simp [intOf]; omega⟩
        · skip
          have hle : decide ((j : Int) ≤ (i0 : Int)) = false := by simp; omega
          have HFJ := (show Hid (f j = 0) from (by show f j = _; rw [HP5.out]; simp [hji]))
          have HBZ := (show Hid (Box (wo.alloc (.cells #[.string y0, .string y1, .bool y2, .slice a4 ks.length p4] 34)) wo.heap.size 34 [.string y0, .string y1, .bool y2, .slice a4 ks.length p4] ∧ Below W1.heap.size W1 (wo.alloc (.cells #[.string y0, .string y1, .bool y2, .slice a4 ks.length p4] 34)) ∧ Kn (wo.alloc (.cells #[.string y0, .string y1, .bool y2, .slice a4 ks.length p4] 34)) (w1.heap.size + 1) N f ns j 0) from HBO.out)
          have z3 : (wo.alloc (.cells #[.string y0, .string y1, .bool y2, .slice a4 ks.length p4] 34)).cell? ⟨wo.heap.size, 3, none⟩ = some (.slice a4 ks.length p4) := HBZ.out.1.cell 3 (by simp)
          have hdn : decide (j ≤ i0) = false := by simp; omega
          go_wp2_with fail
          go_loopw [49] (fun i wr => ∃ c : Nat, i = .int .i64 c ∧ c ≤ ks.length ∧ Hid (Below W1.heap.size W1 wr ∧ Kn wr (w1.heap.size + 1) N f ns j (((ks.take c).map (vv f ns)).sum))) (fun i _ => ks.length - (intOf i).toNat)
          case atStart => exact ⟨0, rfl, Nat.zero_le _, HBZ.out.2.1, by simpa using HBZ.out.2.2⟩
          case round =>
            obtain ⟨c, rfl, hc, HI⟩ := hrel
            have hsb := HSUM.out c
            by_cases hcl : c < ks.length
            · obtain ⟨kb4, ko4, rfl, hk4⟩ := HKC.out (by omega)
              have hk5 := (HI.out.1.cell (lt_of_cell (hk4 c hcl))).trans (hk4 c hcl)
              have hkj := HGD.out c hcl
              have hold := HI.out.2.old (i := ks[c]) hkj (by omega)
              have hcur := HI.out.2.cur hjN
              have hsc := HSUM.out (c + 1)
              have HNX := (show Hid (((ks.take (c + 1)).map (vv f ns)).sum = ((ks.take c).map (vv f ns)).sum + vv f ns ks[c]) from (by
                show _ = _
                rw [List.take_succ_eq_append_getElem hcl, List.map_append, List.sum_append]
                simp))
              rw [HNX.out] at hsc
              have HPP := (show Hid (∀ p' : Nat, p' = ((ks.take (c + 1)).map (vv f ns)).sum → Below W1.heap.size W1 ((wr.drew).setCell ⟨w1.heap.size + 1, j, none⟩ (.int .i64 (p' : Nat))) ∧ Kn ((wr.drew).setCell ⟨w1.heap.size + 1, j, none⟩ (.int .i64 (p' : Nat))) (w1.heap.size + 1) N f ns j (((ks.take (c + 1)).map (vv f ns)).sum) ∧ ((wr.drew).setCell ⟨w1.heap.size + 1, j, none⟩ (.int .i64 (p' : Nat))).cell? ⟨w1.heap.size + 1, ks[c], none⟩ = some (.int .i64 (vv f ns ks[c] : Nat))) from fun p' hp => by
                have k1 := Kn.set (w := wr.drew) (HI.out.2.keep rfl) p'
                have k2 : Below W1.heap.size W1 wr.drew := HI.out.1.drew
                refine ⟨k2.setCell (p := ⟨w1.heap.size + 1, j, none⟩) HKBW.out _, by rw [← hp]; exact k1, k1.old hkj (by omega)⟩)
              have HSX := (show Hid (∀ X : Value, (wr.setCell ⟨w1.heap.size + 1, j, none⟩ X).drew.cell? ⟨w1.heap.size + 1, ks[c], none⟩ = some (.int .i64 (vv f ns ks[c] : Nat))) from fun X => by
                obtain ⟨F, z1, z2⟩ := HI.out.2
                have z4 := (z1.set j X).cell (i := ks[c]) (by omega)
                rw [if_neg (by omega), z2 _ (by omega), if_pos hkj] at z4
                exact z4)
              have hkcN : ks[c] < N := by omega
              generalize hkc : ks[c] = kc at *
              generalize hvk : vv f ns kc = vk at *
              generalize hsm : ((ks.take c).map (vv f ns)).sum = sm at *
              have hnx := HNX.out
              have q1 : (0 : Int) ≤ (j : Int) := by omega
              have q2 : (j : Int) < (N : Int) := by omega
              have q3 : (0 : Int) ≤ (kc : Int) := by omega
              have q4 : (kc : Int) < (N : Int) := by omega
              have hw9 : IntKind.i64.wrap ((sm : Int) + (vk : Int)) = ((sm + vk : Nat) : Int) := by rw [IntKind.wrap_i64]; omega
              obtain ⟨m1, m2, m3⟩ := HPP.out (sm + vk) (by rw [hnx])
              have HM := (show Hid _ from (⟨m1, m2⟩ : _ ∧ _)); clear m1 m2
              have hc0 := hcur.1
              have hc1 := hcur.2
              have hS0 : wr.drew.cell? ⟨w1.heap.size + 1, kc, none⟩ = some (.int .i64 (vk : Nat)) := hold
              have HS1 := (show Hid (∀ X : Value, (wr.setCell ⟨w1.heap.size + 1, j, none⟩ X).drew.cell? ⟨w1.heap.size + 1, kc, none⟩ = some (.int .i64 (vk : Nat))) from HSX.out)
              have hcd : wr.drew.cell? ⟨w1.heap.size + 1, j, none⟩ = some (.int .i64 (sm : Nat)) := hc0
              clear hold HPP hcur HI HNX hnx hkc hvk hsm m3 hk4
              go_wp2_with fail
              refine wp_region_held_drew (S := fun wq => wq.cell? ⟨w1.heap.size + 1, kc, none⟩ = some (.int .i64 (vk : Nat))) (by kernel_rfl) hS0 (fun hHeld => ?_)
              refine wpAnyH_take (i := 0) (oi := { dst := some 53, op := Go.Op.move (Go.Operand.tmp 9), type := 25, pos := "l09_documents.go:114", after := #[], guard := none }) (v := ?v10) rfl (by kernel_rfl) (by kernel_rfl) (by kernel_rfl) (fun _ _ _ h => h) (Or.inl ⟨by rfl, ?h10⟩) hHeld ?r10
              case h10 => (intro w hSw; (try dsimp only at hSw); go_simp; try with_reducible rfl)
              try simp only [Act.put, List.setIfInBounds_toArray, List.set_cons_zero, List.set_cons_succ]
              refine wpAnyH_take (i := 1) (oi := { dst := some 54, op := Go.Op.move (Go.Operand.tmp 10), type := 3, pos := "l09_documents.go:114", after := #[], guard := none }) (v := ?v11) rfl (by kernel_rfl) (by kernel_rfl) (by kernel_rfl) (fun _ _ _ h => h) (Or.inl ⟨by rfl, ?h11⟩) hHeld ?r11
              case h11 => (intro w hSw; (try dsimp only at hSw); go_simp; try with_reducible rfl)
              try simp only [Act.put, List.setIfInBounds_toArray, List.set_cons_zero, List.set_cons_succ]
              refine wpAnyH_take (i := 2) (oi := { dst := some 55, op := Go.Op.indexAddr 25 (Go.Operand.tmp 53) (Go.Operand.tmp 54), type := 0, pos := "l09_documents.go:114", after := #[{ on := 0, ground := Go.Ground.data }, { on := 1, ground := Go.Ground.data }], guard := none }) (v := ?v12) rfl (by kernel_rfl) (by kernel_rfl) (by kernel_rfl) (fun _ _ _ h => h) (Or.inl ⟨by rfl, ?h12⟩) hHeld ?r12
              case h12 => (intro w hSw; (try dsimp only at hSw); go_simp; try with_reducible rfl)
              try simp only [Act.put, List.setIfInBounds_toArray, List.set_cons_zero, List.set_cons_succ]
              refine wpAnyH_take (i := 4) (oi := { dst := some 57, op := Go.Op.move (Go.Operand.tmp 9), type := 25, pos := "l09_documents.go:114", after := #[], guard := none }) (v := ?v13) rfl (by kernel_rfl) (by kernel_rfl) (by kernel_rfl) (fun _ _ _ h => h) (Or.inl ⟨by rfl, ?h13⟩) hHeld ?r13
              case h13 => (intro w hSw; (try dsimp only at hSw); go_simp; try with_reducible rfl)
              try simp only [Act.put, List.setIfInBounds_toArray, List.set_cons_zero, List.set_cons_succ]
              refine wpAnyH_take (i := 5) (oi := { dst := some 58, op := Go.Op.move (Go.Operand.tmp 13), type := 3, pos := "l09_documents.go:114", after := #[], guard := none }) (v := ?v14) rfl (by kernel_rfl) (by kernel_rfl) (by kernel_rfl) (fun _ _ _ h => h) (Or.inl ⟨by rfl, ?h14⟩) hHeld ?r14
              case h14 => (intro w hSw; (try dsimp only at hSw); go_simp; try with_reducible rfl)
              try simp only [Act.put, List.setIfInBounds_toArray, List.set_cons_zero, List.set_cons_succ]
              refine wpAnyH_take (i := 6) (oi := { dst := some 59, op := Go.Op.indexAddr 25 (Go.Operand.tmp 57) (Go.Operand.tmp 58), type := 0, pos := "l09_documents.go:114", after := #[{ on := 4, ground := Go.Ground.data }, { on := 5, ground := Go.Ground.data }], guard := none }) (v := ?v15) rfl (by kernel_rfl) (by kernel_rfl) (by kernel_rfl) (fun _ _ _ h => h) (Or.inl ⟨by rfl, ?h15⟩) hHeld ?r15
              case h15 => (intro w hSw; (try dsimp only at hSw); go_simp; try with_reducible rfl)
              try simp only [Act.put, List.setIfInBounds_toArray, List.set_cons_zero, List.set_cons_succ]
              refine wpAnyH_take (i := 7) (oi := { dst := some 60, op := Go.Op.load 3 (Go.Operand.tmp 59), type := 3, pos := "l09_documents.go:114", after := #[{ on := 6, ground := Go.Ground.data }], guard := none }) (v := ?v16) rfl (by kernel_rfl) (by kernel_rfl) (by kernel_rfl) (fun _ _ _ h => h) (Or.inl ⟨by rfl, ?h16⟩) hHeld ?r16
              case h16 => (intro w hSw; (try dsimp only at hSw); go_simp; try with_reducible rfl)
              try simp only [Act.put, List.setIfInBounds_toArray, List.set_cons_zero, List.set_cons_succ]
              refine wpAnyH_ready (rs := [3]) (by kernel_rfl) (by simp) ?_
              refine AllReadyH.cons (o := { dst := some 56, op := Go.Op.load 3 (Go.Operand.tmp 55), type := 3, pos := "l09_documents.go:114", after := #[{ on := 2, ground := Go.Ground.data }], guard := none }) rfl (fun K hK => ?_) AllReadyH.nil
              go_simp
              clear hHeld
              refine hK.out _ _ hS0 (fun hHeld => ?_)
              clear hK K
              try simp only [Act.put, List.setIfInBounds_toArray, List.set_cons_zero, List.set_cons_succ]
              refine wpAnyH_take (i := 8) (oi := { dst := some 61, op := Go.Op.binOp Go.BinOp.add 3 (Go.Operand.tmp 56) (Go.Operand.tmp 60) 3, type := 3, pos := "l09_documents.go:114", after := #[{ on := 3, ground := Go.Ground.data }, { on := 7, ground := Go.Ground.data }], guard := none }) (v := ?v17) rfl (by kernel_rfl) (by kernel_rfl) (by kernel_rfl) (fun _ _ _ h => h) (Or.inl ⟨by rfl, ?h17⟩) hHeld ?r17
              case h17 => (intro w hSw; (try dsimp only at hSw); go_simp; try with_reducible rfl)
              try simp only [Act.put, List.setIfInBounds_toArray, List.set_cons_zero, List.set_cons_succ]
              refine wpAnyH_take (i := 9) (oi := { dst := some 62, op := Go.Op.indexAddr 25 (Go.Operand.tmp 53) (Go.Operand.tmp 54), type := 0, pos := "l09_documents.go:114", after := #[{ on := 0, ground := Go.Ground.data }, { on := 1, ground := Go.Ground.data }, { on := 0, ground := Go.Ground.phase }, { on := 1, ground := Go.Ground.phase }, { on := 2, ground := Go.Ground.phase }, { on := 3, ground := Go.Ground.phase }, { on := 4, ground := Go.Ground.phase }, { on := 5, ground := Go.Ground.phase }, { on := 6, ground := Go.Ground.phase }, { on := 7, ground := Go.Ground.phase }, { on := 8, ground := Go.Ground.phase }], guard := none }) (v := ?v18) rfl (by kernel_rfl) (by kernel_rfl) (by kernel_rfl) (fun _ _ _ h => h) (Or.inl ⟨by rfl, ?h18⟩) hHeld ?r18
              case h18 => (intro w hSw; (try dsimp only at hSw); go_simp; try with_reducible rfl)
              try simp only [Act.put, List.setIfInBounds_toArray, List.set_cons_zero, List.set_cons_succ]
              refine wpAnyH_ready (rs := [10]) (by kernel_rfl) (by simp) ?_
              refine AllReadyH.cons (o := { dst := none, op := Go.Op.store 3 (Go.Operand.tmp 62) (Go.Operand.tmp 61), type := 0, pos := "l09_documents.go:114", after := #[{ on := 9, ground := Go.Ground.data }, { on := 8, ground := Go.Ground.data }, { on := 0, ground := Go.Ground.phase }, { on := 1, ground := Go.Ground.phase }, { on := 2, ground := Go.Ground.phase }, { on := 3, ground := Go.Ground.phase }, { on := 4, ground := Go.Ground.phase }, { on := 5, ground := Go.Ground.phase }, { on := 6, ground := Go.Ground.phase }, { on := 7, ground := Go.Ground.phase }, { on := 8, ground := Go.Ground.phase }], guard := none }) rfl (fun K hK => ?_) AllReadyH.nil
              go_simp
              clear hHeld
              refine hK.out _ _ (HS1.out _) (fun hHeld => ?_)
              clear hK K
              try simp only [Act.put, List.setIfInBounds_toArray, List.set_cons_zero, List.set_cons_succ]
              refine wpAnyH_done (by kernel_rfl) ?_ _
              go_wp2_with fail
              exact ⟨⟨c + 1, by go_num, by omega, HM.out⟩, by simp [intOf]; omega⟩
            · obtain rfl : c = ks.length := by omega
              have HD2 := (show Hid (Below W1.heap.size W1 wr ∧ Kn wr (w1.heap.size + 1) N f ns (j + 1) 0) from ⟨HI.out.1, by
                have e1 := HI.out.2
                rw [List.take_length] at e1
                have e2 : (ks.map (vv f ns)).sum = vv f ns j := by rw [HVV.out, HFJ.out]; omega
                rw [e2] at e1
                exact e1.done⟩)
              clear HI
              go_wp2_with fail
              exact ⟨⟨j + 1, by go_num, by omega, HD2.out⟩, by simp [intOf]; omega⟩
      · obtain rfl : j = N := by omega
        have b5 := HBX.out.1.still HJ.out.1
        have s1 : wr.cell? ⟨w1.heap.size, 1, none⟩ = some (.slice (some ⟨rb, 0, none⟩) 2 c2) := b5.cell 1 (by simp)
        have s2 := (HJ.out.1.cell (lt_of_cell HBX.out.2)).trans HBX.out.2
        have s3 := HJ.out.2.old (i := q) hqN hqN
        have HE := (show Hid _ from bel_trans HW.out HJ.out.1)
        have q1 : (0 : Int) ≤ (q : Int) := by omega
        have q2 : (q : Int) < (j : Int) := by omega
        clear b5 HJ
        go_wp2_with fail
        refine bodyPost_ret (v := .tuple #[.int .i64 (vv f ns q : Nat), .int .i64 0]) (by simp [results, Try.results13, go_sem]) rfl ?_
        exact ⟨by rw [HF.out.1, HF.out.2], HE.out⟩
end Go.Proofs.Ytofobmdljelmgaa
