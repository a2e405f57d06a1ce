import Derived.Test.YtblfeifedcddnaaRy
/-! A Dag that is given: its copy. -/
namespace Go.Proofs.Ytblfeifedcddnaa
open Go.RowKit Go.Deep
set_option linter.unusedVariables false
set_option maxRecDepth 100000
set_option linter.unusedSimpArgs false

theorem run_makeNodes (n : Nat) (hn : n ≤ 1048576) (w : World) :
    (Instr.makeSlice 24 (.int .i64 (n : Int)) (.int .i64 (n : Int))).run Try.prog w = .ok (.slice (some ⟨w.heap.size, 0, none⟩) n n) (w.alloc (.cells (madeCells #[.string ByteArray.empty, .string ByteArray.empty, .bool false, .slice none 0 0] (n * 4)) 93)) := by
  obtain ⟨i, hi, hz, hs, hb⟩ := info_parts info93
  have hr := run_make (P := Try.prog) w 24 93 i _ Try.underlying24 hi hz .i64 .i64 n n (by omega) (Int.le_refl _) (by rw [hb]; omega) (by omega)
  simp only [Int.toNat_natCast, hs] at hr
  exact hr
/-- The first j nodes stand in the row g, their Kids in rows behind it. -/
def MadeR (ns : List Rd) (g j : Nat) (wr : World) : Prop :=
  ∃ (f : Nat → Value) (kb : Nat → Nat), wr.rowIs g 93 (ns.length * 4) f ∧
    (∀ i (_ : i < j) (hi : i < ns.length), f (i * 4) = .string ns[i].nm ∧ f (i * 4 + 1) = .string ns[i].tx ∧ f (i * 4 + 2) = .bool ns[i].lf ∧ f (i * 4 + 3) = .slice (some ⟨kb i, 0, none⟩) ns[i].ks.length ns[i].ks.length) ∧
    (∀ i (_ : i < j) (hi : i < ns.length), IRow wr (kb i) ns[i].ks) ∧
    (∀ i, i < j → g < kb i ∧ kb i < wr.heap.size) ∧ ∀ i i', i < i' → i' < j → kb i < kb i'
theorem IRow.keep {w w' : World} {b : Nat} {l : List Int} (h : IRow w b l) (hb : w'.heap[b]? = w.heap[b]?) : IRow w' b l := World.rowIs.of_block h hb
theorem madeR_step {ns : List Rd} {g j p : Nat} {wr w1 : World} (hj : j < ns.length) (hM : MadeR ns g j wr) (hb1 : Below wr.heap.size wr w1) (hp : wr.heap.size ≤ p ∧ p < w1.heap.size) (hl : IRow w1 p ns[j].ks) :
    MadeR ns g (j + 1) ((((w1.setCell ⟨g, j * 4, none⟩ (.string ns[j].nm)).setCell ⟨g, j * 4 + 1, none⟩ (.string ns[j].tx)).setCell ⟨g, j * 4 + 2, none⟩ (.bool ns[j].lf)).setCell ⟨g, j * 4 + 3, none⟩ (.slice (some ⟨p, 0, none⟩) ns[j].ks.length ns[j].ks.length)) := by
  obtain ⟨f, kb, hrow, hcs, hls, hr, hd⟩ := hM
  have hg := hrow.lt
  have hrow1 := hrow.of_block (hb1.block _ hrow.lt)
  have hs := hb1.size
  have hk : ∀ (x y z v : Value) q, q ≠ g → ((((w1.setCell ⟨g, j * 4, none⟩ x).setCell ⟨g, j * 4 + 1, none⟩ y).setCell ⟨g, j * 4 + 2, none⟩ z).setCell ⟨g, j * 4 + 3, none⟩ v).heap[q]? = w1.heap[q]? := fun x y z v q hq => by
    rw [blk_setCell_other _ _ _ _ (by exact hq), blk_setCell_other _ _ _ _ (by exact hq), blk_setCell_other _ _ _ _ (by exact hq), blk_setCell_other _ _ _ _ (by exact hq)]
  refine ⟨_, fun i => if i = j then p else kb i, (((hrow1.set _ _).set _ _).set _ _).set _ _, fun i hi hk2 => ?_, fun i hi hk2 => ?_, fun i hi => ?_, fun i i' hii hi' => ?_⟩
  · by_cases e : i = j
    · subst e; simp
    · obtain ⟨q0, q1, q2, q3⟩ := hcs i (by omega) hk2
      refine ⟨?_, ?_, ?_, ?_⟩
      · rw [if_neg (by omega), if_neg (by omega), if_neg (by omega), if_neg (by omega)]; exact q0
      · rw [if_neg (by omega), if_neg (by omega), if_neg (by omega), if_neg (by omega)]; exact q1
      · rw [if_neg (by omega), if_neg (by omega), if_neg (by omega), if_neg (by omega)]; exact q2
      · rw [if_neg (by omega), if_neg (by omega), if_neg (by omega), if_neg (by omega)]; simp only [if_neg e]; exact q3
  · by_cases e : i = j
    · subst e
      simp only [if_true]
      exact hl.keep (hk _ _ _ _ _ (by omega))
    · simp only [if_neg e]
      have := hr i (by omega)
      exact ((hls i (by omega) hk2).keep (hb1.block _ this.2)).keep (hk _ _ _ _ _ (by omega))
  · by_cases e : i = j
    · subst e; simp; omega
    · simp only [if_neg e]; have := hr i (by omega); simp; omega
  · by_cases e : i' = j
    · subst e
      simp only [if_true]
      rw [if_neg (by omega)]
      have := hr i (by omega)
      omega
    · dsimp only; rw [if_neg e, if_neg (by omega)]; exact hd i i' hii (by omega)
theorem madeR_own {ns : List Rd} {g : Nat} {w : World} (h : MadeR ns g ns.length w) (hk : ns.length ≤ 1048576) (hks : ∀ i (hi : i < ns.length), ns[i].ks.length ≤ maxLen) : ∃ K, RN g w (.slice (some ⟨g, 0, none⟩) ns.length ns.length) ns K := by
  obtain ⟨f, kb, hrow, hcs, hls, hr, hd⟩ := h
  refine ⟨fun q => ∃ i, i < ns.length ∧ q = kb i, fun i => f (i * 4 + 3), kb, ?_, fun i hi => ?_, fun i hi _ => ⟨i, hi, rfl⟩, fun i j hi hj _ _ e => ?_, fun q ⟨i, hi, e⟩ => by have := hr i hi; omega, fun q ⟨i, hi, e⟩ e2 => ?_⟩
  · obtain ⟨cs, h1, h2, h3⟩ := hrow
    refine ⟨rc_len _ _ _, .inr ⟨g, ns.length, cs, rfl, Nat.le_refl _, h1, Nat.le_refl _, by unfold maxLen; omega, h2, ?_⟩⟩
    apply List.ext_getElem?
    intro t
    rw [List.getElem?_take]
    by_cases ht : t < ns.length * 4
    · rw [if_pos ht, Array.getElem?_toList, h3 t ht]
      have hi : t / 4 < ns.length := by omega
      obtain ⟨q0, q1, q2, q3⟩ := rc_get ns (fun i => f (i * 4 + 3)) ns.length (t / 4) hi
      obtain ⟨p0, p1, p2, p3⟩ := hcs (t / 4) hi hi
      have hdm : t = t / 4 * 4 + t % 4 := by omega
      rw [rdn_eq hi] at q0 q1 q2
      have h4 : t % 4 = 0 ∨ t % 4 = 1 ∨ t % 4 = 2 ∨ t % 4 = 3 := by omega
      rcases h4 with e | e | e | e
      · rw [hdm, e, Nat.add_zero, q0, p0]
      · rw [hdm, e, q1, p1]
      · rw [hdm, e, q2, p2]
      · rw [hdm, e, q3]
    · rw [if_neg ht, List.getElem?_eq_none (by rw [rc_len]; omega)]
  · have e := (hcs i hi hi).2.2.2
    rw [rdn_eq hi]
    show OwnI w (kb i) ns[i].ks (f (i * 4 + 3))
    rw [e]
    exact IRow.own (hls i hi hi) (hks i hi)
  · rcases Nat.lt_trichotomy i j with h | h | h
    · have := hd i j h hj; omega
    · exact h
    · have := hd j i h hi; omega
  · have := hr i hi
    have e3 : g = q := by simpa [Value.ownBlock] using e2
    omega
set_option maxHeartbeats 1600000 in
theorem toNode63 {S : Nat → Prop} (n : Rd) (v : Value) (w : World) (h : Ints w S n.ks v) (hl : n.ks.length ≤ 1048576) :
    Calls Try.prog 92 #[.agg #[.string n.nm, .string n.tx, .bool n.lf, v]] w fun e w' => ∃ p, e = .returned (.agg #[.string n.nm, .string n.tx, .bool n.lf, .slice (some ⟨p, 0, none⟩) n.ks.length n.ks.length]) ∧ Below w.heap.size w w' ∧ (w.heap.size ≤ p ∧ p < w'.heap.size) ∧ IRow w' p n.ks := by
  have hbW : Below w.heap.size w (((w.alloc (.cells #[.string n.nm, .string n.tx, .bool n.lf, v] 142)).alloc (.cells #[.string ByteArray.empty, .string ByteArray.empty, .bool false, .slice none 0 0] 93)).alloc (.cells #[.string n.nm, .string n.tx, .bool n.lf, .slice none 0 0] 93)) := ((bel_alloc _ _).alloc (by simp) _).alloc (by simp; omega) _
  have hsz : (((w.alloc (.cells #[.string n.nm, .string n.tx, .bool n.lf, v] 142)).alloc (.cells #[.string ByteArray.empty, .string ByteArray.empty, .bool false, .slice none 0 0] 93)).alloc (.cells #[.string n.nm, .string n.tx, .bool n.lf, .slice none 0 0] 93)).heap.size = w.heap.size + 1 + 1 + 1 := by simp
  have C1 : Hid (Calls Try.prog 63 #[v] (((w.alloc (.cells #[.string n.nm, .string n.tx, .bool n.lf, v] 142)).alloc (.cells #[.string ByteArray.empty, .string ByteArray.empty, .bool false, .slice none 0 0] 93)).alloc (.cells #[.string n.nm, .string n.tx, .bool n.lf, .slice none 0 0] 93)) fun e w' => e = .returned (.slice (some ⟨w.heap.size + 1 + 1 + 1, 0, none⟩) n.ks.length n.ks.length) ∧ Below (w.heap.size + 1 + 1 + 1) (((w.alloc (.cells #[.string n.nm, .string n.tx, .bool n.lf, v] 142)).alloc (.cells #[.string ByteArray.empty, .string ByteArray.empty, .bool false, .slice none 0 0] 93)).alloc (.cells #[.string n.nm, .string n.tx, .bool n.lf, .slice none 0 0] 93)) w' ∧ IRow w' (w.heap.size + 1 + 1 + 1) n.ks) := by
    have := toInts_any n.ks v _ (h.still hbW) hl
    rw [hsz] at this
    exact this
  have b1 : Box (((w.alloc (.cells #[.string n.nm, .string n.tx, .bool n.lf, v] 142)).alloc (.cells #[.string ByteArray.empty, .string ByteArray.empty, .bool false, .slice none 0 0] 93)).alloc (.cells #[.string n.nm, .string n.tx, .bool n.lf, .slice none 0 0] 93)) (w.heap.size + 1) 93 [.string ByteArray.empty, .string ByteArray.empty, .bool false, .slice none 0 0] := by
    have e1 := (Box.new (w.alloc (.cells #[.string n.nm, .string n.tx, .bool n.lf, v] 142)) 93 [.string ByteArray.empty, .string ByteArray.empty, .bool false, .slice none 0 0]).still (bel_alloc _ (.cells #[.string n.nm, .string n.tx, .bool n.lf, .slice none 0 0] 93))
    simpa using e1
  have b2 : Box (((w.alloc (.cells #[.string n.nm, .string n.tx, .bool n.lf, v] 142)).alloc (.cells #[.string ByteArray.empty, .string ByteArray.empty, .bool false, .slice none 0 0] 93)).alloc (.cells #[.string n.nm, .string n.tx, .bool n.lf, .slice none 0 0] 93)) (w.heap.size + 1 + 1) 93 [.string n.nm, .string n.tx, .bool n.lf, .slice none 0 0] := by
    have e1 := Box.new ((w.alloc (.cells #[.string n.nm, .string n.tx, .bool n.lf, v] 142)).alloc (.cells #[.string ByteArray.empty, .string ByteArray.empty, .bool false, .slice none 0 0] 93)) 93 [.string n.nm, .string n.tx, .bool n.lf, .slice none 0 0]
    simpa using e1
  have HB := (show Hid _ from (⟨hbW, hsz, b1, b2⟩ : _ ∧ _ ∧ _ ∧ _)); clear hbW hsz b1 b2
  obtain ⟨a, l, p, rfl⟩ := h.form
  clear h
  obtain ⟨nm, tx, lf, ks⟩ := n
  dsimp only at *
  go_enter Try.func92, Try.ntmps92
  go_wp2_with fail
  refine Calls.mono C1.out ?_
  rintro e w1 ⟨rfl, hb1, hr1⟩
  have hblk := hb1.block
  have x1 := HB.out.2.2.1.keep (hblk _ (by omega))
  have x2 := HB.out.2.2.2.keep (hblk _ (by omega))
  have t0 : w1.cell? ⟨w.heap.size + 1 + 1, 0, none⟩ = some (.string nm) := x2.cell 0 (by simp)
  have t1 : w1.cell? ⟨w.heap.size + 1 + 1, 1, none⟩ = some (.string tx) := x2.cell 1 (by simp)
  have t2 : w1.cell? ⟨w.heap.size + 1 + 1, 2, none⟩ = some (.bool lf) := x2.cell 2 (by simp)
  have t3 : w1.cell? ⟨w.heap.size + 1 + 1, 3, none⟩ = some (.slice none 0 0) := x2.cell 3 (by simp)
  have f3 := x2.frozen 3
  have r0 : w1.cell? ⟨w.heap.size + 1, 0, none⟩ = some (.string ByteArray.empty) := x1.cell 0 (by simp)
  have r1 : w1.cell? ⟨w.heap.size + 1, 1, none⟩ = some (.string ByteArray.empty) := x1.cell 1 (by simp)
  have r2 : w1.cell? ⟨w.heap.size + 1, 2, none⟩ = some (.bool false) := x1.cell 2 (by simp)
  have r3 : w1.cell? ⟨w.heap.size + 1, 3, none⟩ = some (.slice none 0 0) := x1.cell 3 (by simp)
  have z0 := x1.frozen 0
  have z1 := x1.frozen 1
  have z2 := x1.frozen 2
  have z3 := x1.frozen 3
  have hs1 : w.heap.size + 1 + 1 + 1 < w1.heap.size := World.rowIs.lt hr1
  have HB1 := (show Hid _ from (⟨x1, hr1, bel_trans HB.out.1 (hb1.mono (by rw [HB.out.2.1]; exact Nat.le_refl _))⟩ : _ ∧ _ ∧ _))
  clear x1 x2 hblk hb1 hr1 HB C1
  go_wp2_with fail
  have hY : Box (((((w1.setCell ⟨w.heap.size + 1 + 1, 3, none⟩ (.slice (some ⟨w.heap.size + 1 + 1 + 1, 0, none⟩) ks.length ks.length)).setCell ⟨w.heap.size + 1, 0, none⟩ (.string nm)).setCell ⟨w.heap.size + 1, 1, none⟩ (.string tx)).setCell ⟨w.heap.size + 1, 2, none⟩ (.bool lf)).setCell ⟨w.heap.size + 1, 3, none⟩ (.slice (some ⟨w.heap.size + 1 + 1 + 1, 0, none⟩) ks.length ks.length)) (w.heap.size + 1) 93 [.string nm, .string tx, .bool lf, .slice (some ⟨w.heap.size + 1 + 1 + 1, 0, none⟩) ks.length ks.length] := ((((HB1.out.1.past (q := w.heap.size + 1 + 1) (o := 3) (by omega)).set 0 (.string nm)).set 1 (.string tx)).set 2 (.bool lf)).set 3 (.slice (some ⟨w.heap.size + 1 + 1 + 1, 0, none⟩) ks.length ks.length)
  have o0 : (((((w1.setCell ⟨w.heap.size + 1 + 1, 3, none⟩ (.slice (some ⟨w.heap.size + 1 + 1 + 1, 0, none⟩) ks.length ks.length)).setCell ⟨w.heap.size + 1, 0, none⟩ (.string nm)).setCell ⟨w.heap.size + 1, 1, none⟩ (.string tx)).setCell ⟨w.heap.size + 1, 2, none⟩ (.bool lf)).setCell ⟨w.heap.size + 1, 3, none⟩ (.slice (some ⟨w.heap.size + 1 + 1 + 1, 0, none⟩) ks.length ks.length)).cell? ⟨w.heap.size + 1, 0, none⟩ = some (.string nm) := hY.cell 0 (by simp)
  have o1 : (((((w1.setCell ⟨w.heap.size + 1 + 1, 3, none⟩ (.slice (some ⟨w.heap.size + 1 + 1 + 1, 0, none⟩) ks.length ks.length)).setCell ⟨w.heap.size + 1, 0, none⟩ (.string nm)).setCell ⟨w.heap.size + 1, 1, none⟩ (.string tx)).setCell ⟨w.heap.size + 1, 2, none⟩ (.bool lf)).setCell ⟨w.heap.size + 1, 3, none⟩ (.slice (some ⟨w.heap.size + 1 + 1 + 1, 0, none⟩) ks.length ks.length)).cell? ⟨w.heap.size + 1, 1, none⟩ = some (.string tx) := hY.cell 1 (by simp)
  have o2 : (((((w1.setCell ⟨w.heap.size + 1 + 1, 3, none⟩ (.slice (some ⟨w.heap.size + 1 + 1 + 1, 0, none⟩) ks.length ks.length)).setCell ⟨w.heap.size + 1, 0, none⟩ (.string nm)).setCell ⟨w.heap.size + 1, 1, none⟩ (.string tx)).setCell ⟨w.heap.size + 1, 2, none⟩ (.bool lf)).setCell ⟨w.heap.size + 1, 3, none⟩ (.slice (some ⟨w.heap.size + 1 + 1 + 1, 0, none⟩) ks.length ks.length)).cell? ⟨w.heap.size + 1, 2, none⟩ = some (.bool lf) := hY.cell 2 (by simp)
  have o3 : (((((w1.setCell ⟨w.heap.size + 1 + 1, 3, none⟩ (.slice (some ⟨w.heap.size + 1 + 1 + 1, 0, none⟩) ks.length ks.length)).setCell ⟨w.heap.size + 1, 0, none⟩ (.string nm)).setCell ⟨w.heap.size + 1, 1, none⟩ (.string tx)).setCell ⟨w.heap.size + 1, 2, none⟩ (.bool lf)).setCell ⟨w.heap.size + 1, 3, none⟩ (.slice (some ⟨w.heap.size + 1 + 1 + 1, 0, none⟩) ks.length ks.length)).cell? ⟨w.heap.size + 1, 3, none⟩ = some (.slice (some ⟨w.heap.size + 1 + 1 + 1, 0, none⟩) ks.length ks.length) := hY.cell 3 (by simp)
  refine bodyPost_ret (v := .agg #[.string nm, .string tx, .bool lf, .slice (some ⟨w.heap.size + 1 + 1 + 1, 0, none⟩) ks.length ks.length]) (by simp [results, Try.results92, go_sem, o0, o1, o2, o3]) rfl ⟨w.heap.size + 1 + 1 + 1, rfl, ?_, ⟨by omega, by simpa using hs1⟩, ?_⟩
  · exact ((((HB1.out.2.2.setCell (p := ⟨w.heap.size + 1 + 1, 3, none⟩) (by simp; omega) _).setCell (p := ⟨w.heap.size + 1, 0, none⟩) (by simp) _).setCell (p := ⟨w.heap.size + 1, 1, none⟩) (by simp) _).setCell (p := ⟨w.heap.size + 1, 2, none⟩) (by simp) _).setCell (p := ⟨w.heap.size + 1, 3, none⟩) (by simp) _
  · refine IRow.keep HB1.out.2.1 ?_
    rw [blk_setCell_other _ _ _ _ (by show _ ≠ w.heap.size + 1; omega), blk_setCell_other _ _ _ _ (by show _ ≠ w.heap.size + 1; omega), blk_setCell_other _ _ _ _ (by show _ ≠ w.heap.size + 1; omega), blk_setCell_other _ _ _ _ (by show _ ≠ w.heap.size + 1; omega), blk_setCell_other _ _ _ _ (by show _ ≠ w.heap.size + 1 + 1; omega)]
set_option maxHeartbeats 3200000 in
theorem toNodes49 {S : Nat → Prop} (ns : List Rd) (v : Value) (w : World) (h : Rds w S ns v) (hlen : ns.length ≤ 1048576) (hks : ∀ i (hi : i < ns.length), ns[i].ks.length ≤ 1048576) :
    Calls Try.prog 62 #[v] w fun e w' => e = .returned (.slice (some ⟨w.heap.size, 0, none⟩) ns.length ns.length) ∧ Below w.heap.size w w' ∧ MadeR ns w.heap.size ns.length w' := by
  obtain ⟨a, cap, b, off, sv, rfl, hc, hm, ha, hcell, hz, hr⟩ := h
  have HC := (show Hid _ from hcell); clear hcell
  have HA := (show Hid _ from ha); clear ha
  have HR := (show Hid _ from hr); clear hr
  have HKS := (show Hid _ from hks); clear hks
  unfold maxLen at hm
  have hmk := run_makeNodes ns.length hlen
  go_enter Try.func62, Try.ntmps62
  go_wp2_with fail
  go_loopw [4] (fun i wr => ∃ j : Nat, j ≤ ns.length ∧ i = .int .i64 j ∧ Hid (Below w.heap.size w wr) ∧ Hid (MadeR ns w.heap.size j wr)) (fun i _ => ns.length - (intOf i).toNat)
  case atStart =>
    obtain ⟨f, hf⟩ := row_made w #[.string ByteArray.empty, .string ByteArray.empty, .bool false, .slice none 0 0] (ns.length * 4) 93
    exact ⟨0, Nat.zero_le _, rfl, bel_alloc _ _, f, fun _ => 0, hf, fun i hi => absurd hi (Nat.not_lt_zero _), fun i hi => absurd hi (Nat.not_lt_zero _), fun i hi => absurd hi (Nat.not_lt_zero _), fun i i' _ hi => absurd hi (Nat.not_lt_zero _)⟩
  case round =>
    obtain ⟨j, hj, rfl, HB, HM⟩ := hrel
    by_cases hlt : j < ns.length
    · obtain ⟨rfl, _⟩ := HA.out (by omega)
      obtain ⟨c0, c1, c2, c3⟩ := HC.out j hlt
      rw [← HB.out.cell (lt_of_cell c0)] at c0
      rw [← HB.out.cell (lt_of_cell c1)] at c1
      rw [← HB.out.cell (lt_of_cell c2)] at c2
      rw [← HB.out.cell (lt_of_cell c3)] at c3
      have hi := (HR.out j hlt).still HB.out
      have hcl := toNode63 ns[j] (sv j) wr hi (HKS.out j hlt)
      obtain ⟨a3, l3, p3, e3⟩ := hi.form
      rw [e3] at c3 hcl
      have HST := (show Hid (∀ (w1 : World) (p : Nat), Below wr.heap.size wr w1 → (wr.heap.size ≤ p ∧ p < w1.heap.size) → IRow w1 p ns[j].ks → MadeR ns w.heap.size (j + 1) ((((w1.setCell ⟨w.heap.size, j * 4, none⟩ (.string ns[j].nm)).setCell ⟨w.heap.size, j * 4 + 1, none⟩ (.string ns[j].tx)).setCell ⟨w.heap.size, j * 4 + 2, none⟩ (.bool ns[j].lf)).setCell ⟨w.heap.size, j * 4 + 3, none⟩ (.slice (some ⟨p, 0, none⟩) ns[j].ks.length ns[j].ks.length))) from fun w1 p g1 g2 g3 => madeR_step hlt HM.out g1 g2 g3)
      generalize ns[j].nm = y0 at *
      generalize ns[j].tx = y1 at *
      generalize ns[j].lf = y2 at *
      generalize hkl : ns[j].ks.length = kl at *
      have HCL := (show Hid (Calls Try.prog 92 #[.agg #[.string y0, .string y1, .bool y2, .slice a3 l3 p3]] wr fun e w' => ∃ p, e = .returned (.agg #[.string y0, .string y1, .bool y2, .slice (some ⟨p, 0, none⟩) kl kl]) ∧ Below wr.heap.size wr w' ∧ (wr.heap.size ≤ p ∧ p < w'.heap.size) ∧ IRow w' p ns[j].ks) from hcl)
      clear hcl hi e3 hkl
      go_wp2_with fail
      refine Calls.mono HCL.out ?_
      rintro e w1 ⟨p, rfl, hb1, hp1, hr1⟩
      obtain ⟨f, kb, hrow, _⟩ := HM.out
      have hrow1 := hrow.of_block (hb1.block _ hrow.lt)
      have e0 := hrow1.cell (i := j * 4) (by omega)
      have e1 := hrow1.cell (i := j * 4 + 1) (by omega)
      have e2 := hrow1.cell (i := j * 4 + 2) (by omega)
      have e3 := hrow1.cell (i := j * 4 + 3) (by omega)
      have z0 := hrow1.frozen (j * 4)
      have z1 := hrow1.frozen (j * 4 + 1)
      have z2 := hrow1.frozen (j * 4 + 2)
      have z3 := hrow1.frozen (j * 4 + 3)
      have H1 := (show Hid _ from HST.out w1 p hb1 hp1 hr1)
      have HB1 := (show Hid _ from bel_trans HB.out hb1)
      clear hrow hrow1 hb1 hp1 hr1 c0 c1 c2 c3 HST HCL HM
      go_wp2_with fail
      exact ⟨⟨j + 1, by omega, by go_num, (((HB1.out.setCell (Nat.le_refl _) _).setCell (Nat.le_refl _) _).setCell (Nat.le_refl _) _).setCell (Nat.le_refl _) _, H1⟩, by simp [intOf]; omega⟩
    · obtain rfl : j = ns.length := by omega
      go_wp2_with fail
      go_ret
      exact ⟨rfl, HB.out, HM.out⟩
end Go.Proofs.Ytblfeifedcddnaa
