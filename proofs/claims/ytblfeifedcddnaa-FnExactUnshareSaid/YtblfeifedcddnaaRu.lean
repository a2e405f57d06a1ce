import Derived.Test.YtblfeifedcddnaaRv
/-! A Dag that is given: its copy owns its rows; its marks. -/
namespace Go.Proofs.Ytblfeifedcddnaa
open Go.RowKit Go.Deep
set_option linter.unusedVariables false
set_option maxRecDepth 100000
set_option linter.unusedSimpArgs false

/-- A copy of a Dag, in blocks from lo on and below hi. -/
def DagO (lo hi : Nat) (w : World) (ns : List Rd) (rs : List Int) (u r : Value) : Prop :=
  ∃ (K : Nat → Prop) (p q : Nat), u = .slice (some ⟨p, 0, none⟩) ns.length ns.length ∧ RN p w u ns K ∧ (∀ b, K b → b < q) ∧ r = .slice (some ⟨q, 0, none⟩) rs.length rs.length ∧ IRow w q rs ∧ lo ≤ p ∧ p < q ∧ q < hi ∧ rs.length ≤ 1048576
theorem DagO.keep {lo hi : Nat} {w w' : World} {ns : List Rd} {rs : List Int} {u r : Value} (h : DagO lo hi w ns rs u r) (hs : w.heap.size ≤ w'.heap.size) (hb : ∀ k, lo ≤ k → k < hi → k < w.heap.size → w'.heap[k]? = w.heap[k]?) : DagO lo hi w' ns rs u r := by
  obtain ⟨K, p, q, h1, h2, h3, h4, h5, h6, h7, h8, h9⟩ := h
  refine ⟨K, p, q, h1, h2.keep hs (fun b hk hlt => ?_), h3, h4, h5.keep (hb q (by omega) h8 (World.rowIs.lt h5)), h6, h7, h8, h9⟩
  have hl := h2.lt b hk
  rcases hk with hk | hk
  · have := h3 b hk; exact hb b (by omega) (by omega) hlt
  · rw [h1] at hk
    have e : p = b := by simpa [Value.ownBlock] using hk
    exact hb b (by omega) (by omega) hlt
theorem DagO.still {lo hi : Nat} {w w' : World} {ns : List Rd} {rs : List Int} {u r : Value} (h : DagO lo hi w ns rs u r) (hb : Below w.heap.size w w') : DagO lo hi w' ns rs u r := h.keep hb.size (fun k _ _ hlt => hb.block k hlt)
theorem DagO.read {lo hi : Nat} {w : World} {ns : List Rd} {rs : List Int} {u r : Value} (h : DagO lo hi w ns rs u r) (hz : ∀ i (hi : i < ns.length), ns[i].nm.size ≤ maxLen ∧ ns[i].tx.size ≤ maxLen) : Rds w (fun _ => True) ns u ∧ Ints w (fun _ => True) rs r := by
  obtain ⟨K, p, q, h1, h2, h3, h4, h5, h6, h7, h8, h9⟩ := h
  refine ⟨h2.rds hz, ?_⟩
  rw [h4]
  obtain ⟨a, c, b, o, e1, e2, e3, e4, e5⟩ := h5.ints (by unfold maxLen; omega)
  exact ⟨a, c, b, o, e1, e2, e3, fun hp => ⟨(e4 hp).1, trivial⟩, e5⟩
set_option maxHeartbeats 1600000 in
theorem toDag22 {S S' : Nat → Prop} (ns : List Rd) (rs : List Int) (u r : Value) (w : World) (h : Rds w S ns u) (h' : Ints w S' rs r) (hn : ns.length + wns ns + rs.length ≤ 1048576) :
    Calls Try.prog 20 #[.agg #[u, r]] w fun e w' => ∃ u' r', e = .returned (.agg #[u', r']) ∧ Below w.heap.size w w' ∧ DagO w.heap.size w'.heap.size w' ns rs u' r' := by
  have hks : ∀ i (hi : i < ns.length), ns[i].ks.length ≤ 1048576 := fun i hi => by
    have h1 := wns_succ hi
    have h2 := wns_le ns (i + 1)
    have h3 : ns[i].ks.length ≤ wn ns[i] := by unfold wn; omega
    omega
  have hbW : Below w.heap.size w (((w.alloc (.cells #[u, r] 39)).alloc (.cells #[.slice none 0 0, .slice none 0 0] 27)).alloc (.cells #[.slice none 0 0, .slice none 0 0] 27)) := ((bel_alloc _ _).alloc (by simp) _).alloc (by simp; omega) _
  have hsz : (((w.alloc (.cells #[u, r] 39)).alloc (.cells #[.slice none 0 0, .slice none 0 0] 27)).alloc (.cells #[.slice none 0 0, .slice none 0 0] 27)).heap.size = w.heap.size + 1 + 1 + 1 := by simp
  have C1 : Hid (Calls Try.prog 62 #[u] (((w.alloc (.cells #[u, r] 39)).alloc (.cells #[.slice none 0 0, .slice none 0 0] 27)).alloc (.cells #[.slice none 0 0, .slice none 0 0] 27)) fun e w' => e = .returned (.slice (some ⟨w.heap.size + 1 + 1 + 1, 0, none⟩) ns.length ns.length) ∧ Below (w.heap.size + 1 + 1 + 1) (((w.alloc (.cells #[u, r] 39)).alloc (.cells #[.slice none 0 0, .slice none 0 0] 27)).alloc (.cells #[.slice none 0 0, .slice none 0 0] 27)) w' ∧ MadeR ns (w.heap.size + 1 + 1 + 1) ns.length w') := by
    have := toNodes49 ns u _ (h.still hbW) (by omega) hks
    rw [hsz] at this
    exact this
  have C2 : Hid (∀ wq, Below w.heap.size w wq → Calls Try.prog 63 #[r] wq fun e w' => e = .returned (.slice (some ⟨wq.heap.size, 0, none⟩) rs.length rs.length) ∧ Below wq.heap.size wq w' ∧ IRow w' wq.heap.size rs) := fun wq hb => toInts_any rs r wq (h'.still hb) (by omega)
  have b0 : Box (((w.alloc (.cells #[u, r] 39)).alloc (.cells #[.slice none 0 0, .slice none 0 0] 27)).alloc (.cells #[.slice none 0 0, .slice none 0 0] 27)) w.heap.size 39 [u, r] := ((Box.new w 39 [u, r]).still (bel_alloc _ _)).still (bel_alloc _ _)
  have b1 : Box (((w.alloc (.cells #[u, r] 39)).alloc (.cells #[.slice none 0 0, .slice none 0 0] 27)).alloc (.cells #[.slice none 0 0, .slice none 0 0] 27)) (w.heap.size + 1) 27 [.slice none 0 0, .slice none 0 0] := by
    have e1 := (Box.new (w.alloc (.cells #[u, r] 39)) 27 [.slice none 0 0, .slice none 0 0]).still (bel_alloc _ (.cells #[.slice none 0 0, .slice none 0 0] 27))
    simpa using e1
  have b2 : Box (((w.alloc (.cells #[u, r] 39)).alloc (.cells #[.slice none 0 0, .slice none 0 0] 27)).alloc (.cells #[.slice none 0 0, .slice none 0 0] 27)) (w.heap.size + 1 + 1) 27 [.slice none 0 0, .slice none 0 0] := by
    have e1 := Box.new ((w.alloc (.cells #[u, r] 39)).alloc (.cells #[.slice none 0 0, .slice none 0 0] 27)) 27 [.slice none 0 0, .slice none 0 0]
    simpa using e1
  have HB := (show Hid _ from (⟨hbW, hsz, b0, b1, b2⟩ : _ ∧ _ ∧ _ ∧ _ ∧ _)); clear hbW hsz b0 b1 b2
  have HKS := (show Hid _ from hks); clear hks
  obtain ⟨a, cap, rfl, _⟩ := h.form
  obtain ⟨a2, l2, p2, rfl⟩ := h'.form
  clear h h'
  go_enter Try.func20, Try.ntmps20
  go_wp2_with fail
  refine Calls.mono C1.out ?_
  rintro e w1 ⟨rfl, hb1, hr1⟩
  have hs1 : w.heap.size + 1 + 1 + 1 < w1.heap.size := by
    obtain ⟨f, kb, hrow, _⟩ := hr1
    exact hrow.lt
  have H1 := (show Hid (Below w.heap.size w w1 ∧ Box w1 w.heap.size 39 [.slice a ns.length cap, .slice a2 l2 p2] ∧ Box w1 (w.heap.size + 1) 27 [.slice none 0 0, .slice none 0 0] ∧ Box w1 (w.heap.size + 1 + 1) 27 [.slice none 0 0, .slice none 0 0] ∧ MadeR ns (w.heap.size + 1 + 1 + 1) ns.length w1) from ⟨bel_trans HB.out.1 (hb1.mono (by rw [HB.out.2.1]; exact Nat.le_refl _)), HB.out.2.2.1.keep (hb1.block _ (by omega)), HB.out.2.2.2.1.keep (hb1.block _ (by omega)), HB.out.2.2.2.2.keep (hb1.block _ (by omega)), hr1⟩)
  clear hb1 hr1 HB C1
  have t0 : w1.cell? ⟨w.heap.size + 1 + 1, 0, none⟩ = some (.slice none 0 0) := H1.out.2.2.2.1.cell 0 (by simp)
  have f0 := H1.out.2.2.2.1.frozen 0
  have y0 := H1.out.2.1.past (q := w.heap.size + 1 + 1) (o := 0) (u := .slice (some ⟨w.heap.size + 1 + 1 + 1, 0, none⟩) ns.length ns.length) (by omega)
  have s1 : (w1.setCell ⟨w.heap.size + 1 + 1, 0, none⟩ (.slice (some ⟨w.heap.size + 1 + 1 + 1, 0, none⟩) ns.length ns.length)).cell? ⟨w.heap.size, 1, none⟩ = some (.slice a2 l2 p2) := y0.cell 1 (by simp)
  have s2 : w1.cell? ⟨w.heap.size, 1, none⟩ = some (.slice a2 l2 p2) := H1.out.2.1.cell 1 (by simp)
  have hbS := H1.out.1.setCell (p := ⟨w.heap.size + 1 + 1, 0, none⟩) (by simp; omega) (.slice (some ⟨w.heap.size + 1 + 1 + 1, 0, none⟩) ns.length ns.length)
  have C3 : Hid (Calls Try.prog 63 #[.slice a2 l2 p2] (w1.setCell ⟨w.heap.size + 1 + 1, 0, none⟩ (.slice (some ⟨w.heap.size + 1 + 1 + 1, 0, none⟩) ns.length ns.length)) fun e w' => e = .returned (.slice (some ⟨w1.heap.size, 0, none⟩) rs.length rs.length) ∧ Below w1.heap.size (w1.setCell ⟨w.heap.size + 1 + 1, 0, none⟩ (.slice (some ⟨w.heap.size + 1 + 1 + 1, 0, none⟩) ns.length ns.length)) w' ∧ IRow w' w1.heap.size rs) := by
    have e1 := C2.out _ hbS
    have e2 : (w1.setCell ⟨w.heap.size + 1 + 1, 0, none⟩ (.slice (some ⟨w.heap.size + 1 + 1 + 1, 0, none⟩) ns.length ns.length)).heap.size = w1.heap.size := by simp
    rw [e2] at e1
    exact e1
  have HBS := (show Hid _ from hbS); clear hbS y0
  go_wp2_with fail
  refine Calls.mono C3.out ?_
  rintro e w2 ⟨rfl, hb2, hr2⟩
  have hs2 : w1.heap.size < w2.heap.size := World.rowIs.lt hr2
  have hblk : ∀ q, q < w1.heap.size → q ≠ w.heap.size + 1 + 1 → w2.heap[q]? = w1.heap[q]? := fun q hq hne => (hb2.block q hq).trans (blk_setCell_other _ _ _ _ hne)
  have z2 := (H1.out.2.2.2.1.set 0 (.slice (some ⟨w.heap.size + 1 + 1 + 1, 0, none⟩) ns.length ns.length)).keep (hb2.block _ (by omega))
  have z1 := H1.out.2.2.1.keep (hblk _ (by omega) (by omega))
  have H2 := (show Hid (Below w.heap.size w w2 ∧ Box w2 (w.heap.size + 1) 27 [.slice none 0 0, .slice none 0 0] ∧ Box w2 (w.heap.size + 1 + 1) 27 [.slice (some ⟨w.heap.size + 1 + 1 + 1, 0, none⟩) ns.length ns.length, .slice none 0 0] ∧ ∃ K, RN (w.heap.size + 1 + 1 + 1) w2 (.slice (some ⟨w.heap.size + 1 + 1 + 1, 0, none⟩) ns.length ns.length) ns K ∧ (∀ b, K b → b < w1.heap.size) ∧ IRow w2 w1.heap.size rs) from ⟨HBS.out.trans (hb2.mono (by omega)), z1, z2, by
    obtain ⟨K, hK⟩ := madeR_own H1.out.2.2.2.2 (by omega) (fun i hi => by have := HKS.out i hi; unfold maxLen; omega)
    exact ⟨K, hK.keep (by omega) (fun b hk hlt => hblk b hlt (by have := hK.lt b hk; omega)), fun b hk => (hK.lt b (.inl hk)).2, hr2⟩⟩)
  clear z1 z2 hblk hb2 hr2 H1 C3 C2 HBS t0 f0 s1 s2
  have t0 : w2.cell? ⟨w.heap.size + 1 + 1, 0, none⟩ = some (.slice (some ⟨w.heap.size + 1 + 1 + 1, 0, none⟩) ns.length ns.length) := H2.out.2.2.1.cell 0 (by simp)
  have t1 : w2.cell? ⟨w.heap.size + 1 + 1, 1, none⟩ = some (.slice none 0 0) := H2.out.2.2.1.cell 1 (by simp)
  have f1 := H2.out.2.2.1.frozen 1
  have r0 : w2.cell? ⟨w.heap.size + 1, 0, none⟩ = some (.slice none 0 0) := H2.out.2.1.cell 0 (by simp)
  have r1 : w2.cell? ⟨w.heap.size + 1, 1, none⟩ = some (.slice none 0 0) := H2.out.2.1.cell 1 (by simp)
  have q0 := H2.out.2.1.frozen 0
  have q1 := H2.out.2.1.frozen 1
  go_wp2_with fail
  have hY : Box (((w2.setCell ⟨w.heap.size + 1 + 1, 1, none⟩ (.slice (some ⟨w1.heap.size, 0, none⟩) rs.length rs.length)).setCell ⟨w.heap.size + 1, 0, none⟩ (.slice (some ⟨w.heap.size + 1 + 1 + 1, 0, none⟩) ns.length ns.length)).setCell ⟨w.heap.size + 1, 1, none⟩ (.slice (some ⟨w1.heap.size, 0, none⟩) rs.length rs.length)) (w.heap.size + 1) 27 [.slice (some ⟨w.heap.size + 1 + 1 + 1, 0, none⟩) ns.length ns.length, .slice (some ⟨w1.heap.size, 0, none⟩) rs.length rs.length] := ((H2.out.2.1.past (q := w.heap.size + 1 + 1) (o := 1) (by omega)).set 0 _).set 1 _
  have o0 : (((w2.setCell ⟨w.heap.size + 1 + 1, 1, none⟩ (.slice (some ⟨w1.heap.size, 0, none⟩) rs.length rs.length)).setCell ⟨w.heap.size + 1, 0, none⟩ (.slice (some ⟨w.heap.size + 1 + 1 + 1, 0, none⟩) ns.length ns.length)).setCell ⟨w.heap.size + 1, 1, none⟩ (.slice (some ⟨w1.heap.size, 0, none⟩) rs.length rs.length)).cell? ⟨w.heap.size + 1, 0, none⟩ = some (.slice (some ⟨w.heap.size + 1 + 1 + 1, 0, none⟩) ns.length ns.length) := hY.cell 0 (by simp)
  have o1 : (((w2.setCell ⟨w.heap.size + 1 + 1, 1, none⟩ (.slice (some ⟨w1.heap.size, 0, none⟩) rs.length rs.length)).setCell ⟨w.heap.size + 1, 0, none⟩ (.slice (some ⟨w.heap.size + 1 + 1 + 1, 0, none⟩) ns.length ns.length)).setCell ⟨w.heap.size + 1, 1, none⟩ (.slice (some ⟨w1.heap.size, 0, none⟩) rs.length rs.length)).cell? ⟨w.heap.size + 1, 1, none⟩ = some (.slice (some ⟨w1.heap.size, 0, none⟩) rs.length rs.length) := hY.cell 1 (by simp)
  refine bodyPost_ret (v := .agg #[.slice (some ⟨w.heap.size + 1 + 1 + 1, 0, none⟩) ns.length ns.length, .slice (some ⟨w1.heap.size, 0, none⟩) rs.length rs.length]) (by simp [results, Try.results20, go_sem, o0, o1]) rfl ⟨_, _, rfl, ?_, ?_⟩
  · exact ((H2.out.1.setCell (p := ⟨w.heap.size + 1 + 1, 1, none⟩) (by simp; omega) _).setCell (p := ⟨w.heap.size + 1, 0, none⟩) (by simp) _).setCell (p := ⟨w.heap.size + 1, 1, none⟩) (by simp) _
  · obtain ⟨K, k1, k2, k3⟩ := H2.out.2.2.2
    have hk : ∀ (x y z : Value) q, q ≠ w.heap.size + 1 → q ≠ w.heap.size + 1 + 1 → (((w2.setCell ⟨w.heap.size + 1 + 1, 1, none⟩ x).setCell ⟨w.heap.size + 1, 0, none⟩ y).setCell ⟨w.heap.size + 1, 1, none⟩ z).heap[q]? = w2.heap[q]? := fun x y z q h1 h2 => by
      rw [blk_setCell_other _ _ _ _ (by exact h1), blk_setCell_other _ _ _ _ (by exact h1), blk_setCell_other _ _ _ _ (by exact h2)]
    refine ⟨K, w.heap.size + 1 + 1 + 1, w1.heap.size, rfl, k1.keep (by simp) (fun b hb _ => hk _ _ _ b (by have := k1.lt b hb; omega) (by have := k1.lt b hb; omega)), k2, rfl, k3.keep (hk _ _ _ _ (by omega) (by omega)), by omega, hs1, by simpa using hs2, by omega⟩
theorem mor_wns (ns : List Rd) : mor ns ns.length ≤ 3 * ns.length + wns ns := by
  unfold mor wns
  rw [List.take_length]
  induction ns with
  | nil => simp
  | cons a r ih =>
    simp only [List.map_cons, List.sum_cons, List.length_cons]
    have : a.ks.length ≤ wn a := by unfold wn; omega
    omega
set_option maxHeartbeats 1600000 in
theorem markDagR {lo hi : Nat} (ns : List Rd) (rs : List Int) (u r : Value) (w : World) (h : DagO lo hi w ns rs u r) (hh : hi ≤ w.heap.size) (hn : ns.length + wns ns + rs.length ≤ 1048576) :
    Calls Try.prog 16 #[.agg #[u, r], .int .i64 1] w fun e w' => e = .returned (.int .i64 (1 + mor ns ns.length + rs.length : Nat)) ∧ Out lo hi w w' := by
  obtain ⟨K, p, q, rfl, h2, h3, rfl, h5, h6, h7, h8, h9⟩ := h
  have hmw := mor_wns ns
  have hb0 := bel_alloc w (.cells #[.slice (some ⟨p, 0, none⟩) ns.length ns.length, .slice (some ⟨q, 0, none⟩) rs.length rs.length] 27)
  have hbx := Box.new w 27 [.slice (some ⟨p, 0, none⟩) ns.length ns.length, .slice (some ⟨q, 0, none⟩) rs.length rs.length]
  have HM : Hid (Calls Try.prog 52 #[.slice (some ⟨p, 0, none⟩) ns.length ns.length, .int .i64 1] (w.alloc (.cells #[.slice (some ⟨p, 0, none⟩) ns.length ns.length, .slice (some ⟨q, 0, none⟩) rs.length rs.length] 27)) fun e w' => e = .returned (.int .i64 (1 + mor ns ns.length : Nat)) ∧ OutK K (.slice (some ⟨p, 0, none⟩) ns.length ns.length) (w.alloc (.cells #[.slice (some ⟨p, 0, none⟩) ns.length ns.length, .slice (some ⟨q, 0, none⟩) rs.length rs.length] 27)) w' ∧ RN p w' (.slice (some ⟨p, 0, none⟩) ns.length ns.length) (mxr ns 1 ns.length) K) := markRn40 (n := 1) ns _ _ (h2.still hb0) (by omega) (by omega)
  have HAF := (show Hid (∀ w1 : World, OutK K (.slice (some ⟨p, 0, none⟩) ns.length ns.length) (w.alloc (.cells #[.slice (some ⟨p, 0, none⟩) ns.length ns.length, .slice (some ⟨q, 0, none⟩) rs.length rs.length] 27)) w1 → Box w1 w.heap.size 27 [.slice (some ⟨p, 0, none⟩) ns.length ns.length, .slice (some ⟨q, 0, none⟩) rs.length rs.length] ∧ IRow w1 q rs ∧ Out lo hi w w1) from fun w1 ho => by
    have hsz : (w.alloc (.cells #[.slice (some ⟨p, 0, none⟩) ns.length ns.length, .slice (some ⟨q, 0, none⟩) rs.length rs.length] 27)).heap.size = w.heap.size + 1 := by simp
    have hp : ∀ b, (Value.slice (some ⟨p, 0, none⟩) ns.length ns.length).ownBlock = some b → b = p := fun b e => by
      have : p = b := by simpa [Value.ownBlock] using e
      omega
    have hql := World.rowIs.lt h5
    refine ⟨hbx.keep (ho.block _ (by omega) (fun e => by have := h3 _ e; omega) (fun e => by have := hp _ e; omega)), h5.keep ((ho.block q (by omega) (fun e => by have := h3 _ e; omega) (fun e => by have := hp _ e; omega)).trans (hb0.block q hql)), ho.os, ho.tape, ho.output, by have := ho.size; omega, fun k hk hr => ?_⟩
    exact (ho.block k (by omega) (fun e => by have := h3 _ e; have := h2.lt k (.inl e); omega) (fun e => by have := hp _ e; omega)).trans (hb0.block k hk))
  have HQ := (show Hid (lo ≤ q ∧ q < hi) from ⟨by omega, h8⟩)
  clear h2 h3 h5 hb0 hbx
  have hrl : rs.length ≤ 1048576 := h9
  generalize hM1 : 1 + mor ns ns.length = M1 at *
  go_enter Try.func16, Try.ntmps16
  go_wp2_with fail
  refine Calls.mono HM.out ?_
  rintro e w1 ⟨rfl, ho1, _⟩
  obtain ⟨x1, x2, x3⟩ := HAF.out w1 ho1
  have T1 : w1.cell? ⟨w.heap.size, 1, none⟩ = some (.slice (some ⟨q, 0, none⟩) rs.length rs.length) := x1.cell 1 (by simp)
  have HCL : Hid (Calls Try.prog 53 #[.slice (some ⟨q, 0, none⟩) rs.length rs.length, .int .i64 (M1 : Nat)] w1 fun e w' => e = .returned (.int .i64 (M1 + rs.length : Nat)) ∧ Out q (q + 1) w1 w' ∧ OwnI w' q (cnt M1 rs.length) (.slice (some ⟨q, 0, none⟩) rs.length rs.length)) := markInts_any rs q M1 _ w1 (IRow.own x2 (by unfold maxLen; omega)) (by omega)
  have HX := (show Hid _ from x3)
  clear x1 x2 x3 ho1 HM HAF
  go_wp2_with fail
  refine Calls.mono HCL.out ?_
  rintro e w2 ⟨rfl, ho2, _⟩
  have HE := (show Hid _ from Out.trans HX.out (ho2.mono HQ.out.1 (by have := HQ.out.2; omega)))
  clear ho2
  go_wp2_with fail
  go_ret
  exact ⟨rfl, HE.out⟩
end Go.Proofs.Ytblfeifedcddnaa
