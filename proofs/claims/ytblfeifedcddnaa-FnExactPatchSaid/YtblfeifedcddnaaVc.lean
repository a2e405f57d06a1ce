import Derived.Test.YtblfeifedcddnaaVb
import Derived.Test.YtblfeifedcddnaaToOwn
import Derived.Test.YtblfeifedcddnaaBxs
/-! The laws' copy of a change: it owns its rows. -/
namespace Go.Proofs.Ytblfeifedcddnaa
set_option linter.unusedVariables false
set_option linter.unusedSimpArgs false
set_option maxRecDepth 100000
open Go.RowKit Go.Deep

theorem info57 : (Try.prog.info? 57).map (fun i => (i.zero, i.size, i.bytes)) = some (some (.agg #[.int .i64 0, .string ByteArray.empty, .string ByteArray.empty, .bool false, .slice none 0 0, .slice none 0 0]), 6, 96) := by kernel_rfl
/-- 'make([]Delta, n)'. -/
theorem run_makeDeltas (n : Nat) (hn : n ≤ 1048576) (w : World) :
    (Instr.makeSlice 55 (.int .i64 (n : Int)) (.int .i64 (n : Int))).run Try.prog w = .ok (.slice (some ⟨w.heap.size, 0, none⟩) n n) (w.alloc (.cells (madeCells #[.int .i64 0, .string ByteArray.empty, .string ByteArray.empty, .bool false, .slice none 0 0, .slice none 0 0] (n * 6)) 57)) := by
  obtain ⟨i, hi, hzz⟩ := Option.map_eq_some_iff.1 info57
  simp only [Prod.mk.injEq] at hzz
  obtain ⟨hz, hs, hb⟩ := hzz
  have hr := run_make (P := Try.prog) w 55 57 i _ Try.underlying55 hi hz .i64 .i64 n n (by omega) (Int.le_refl _) (by rw [hb]; omega) (by omega)
  simp only [Int.toNat_natCast, hs] at hr
  exact hr
/-- What the loop of toDeltaS has made. -/
def MadeD (k : List De) (g : Nat) (j : Nat) (wr : World) : Prop :=
  ∃ (f : Nat → Value) (l h : Nat → Nat), wr.rowIs g 57 (k.length * 6) f ∧
    (∀ i (_ : i < j) (hi : i < k.length), f (i * 6) = .int .i64 k[i].kind ∧ f (i * 6 + 1) = .string k[i].tree.name ∧ f (i * 6 + 2) = .string k[i].tree.text ∧ f (i * 6 + 3) = .bool k[i].tree.leaf) ∧
    (∀ i (_ : i < j) (hi : i < k.length), DOwn wr (l i) (h i) k[i] (f (i * 6 + 4)) (f (i * 6 + 5))) ∧ (∀ i, i < j → g < l i ∧ h i ≤ wr.heap.size) ∧ ∀ i i', i < i' → i' < j → h i ≤ l i'
theorem madeD_step {k : List De} {g j : Nat} {wr w1 : World} (hj : j < k.length) (hM : MadeD k g j wr) (hg : g < wr.heap.size) (hb1 : Below wr.heap.size wr w1) {tv kv : Value} (hl : DOwn w1 wr.heap.size w1.heap.size k[j] tv kv) :
    MadeD k g (j + 1) ((((((w1.setCell ⟨g, j * 6, none⟩ (.int .i64 k[j].kind)).setCell ⟨g, j * 6 + 1, none⟩ (.string k[j].tree.name)).setCell ⟨g, j * 6 + 2, none⟩ (.string k[j].tree.text)).setCell ⟨g, j * 6 + 3, none⟩ (.bool k[j].tree.leaf)).setCell ⟨g, j * 6 + 4, none⟩ tv).setCell ⟨g, j * 6 + 5, none⟩ kv) := by
  obtain ⟨f, l, h, hrow, hcs, hls, hr, hd⟩ := hM
  have hrow1 := hrow.of_block (hb1.block _ hrow.lt)
  have hs := hb1.size
  refine ⟨_, fun i => if i = j then wr.heap.size else l i, fun i => if i = j then w1.heap.size else h i, (((((hrow1.set _ _).set _ _).set _ _).set _ _).set _ _).set _ _, fun i hi hk => ?_, fun i hi hk => ?_, fun i hi => ?_, fun i i' hii hi' => ?_⟩
  · by_cases e : i = j
    · subst e; simp
    · obtain ⟨q0, q1, q2, q3⟩ := hcs i (by omega) hk
      refine ⟨?_, ?_, ?_, ?_⟩
      · rw [if_neg (by omega), if_neg (by omega), if_neg (by omega), if_neg (by omega), if_neg (by omega), if_neg (by omega)]; exact q0
      · rw [if_neg (by omega), if_neg (by omega), if_neg (by omega), if_neg (by omega), if_neg (by omega), if_neg (by omega)]; exact q1
      · rw [if_neg (by omega), if_neg (by omega), if_neg (by omega), if_neg (by omega), if_neg (by omega), if_neg (by omega)]; exact q2
      · rw [if_neg (by omega), if_neg (by omega), if_neg (by omega), if_neg (by omega), if_neg (by omega), if_neg (by omega)]; exact q3
  · by_cases e : i = j
    · subst e
      simp
      exact (((((hl.past (.inl hg)).past (.inl hg)).past (.inl hg)).past (.inl hg)).past (.inl hg)).past (.inl hg)
    · have e1 : ∀ x, i * 6 + x < i * 6 + 6 → x < 6 := fun x h => by omega
      rw [if_neg (by omega), if_neg (by omega), if_neg (by omega), if_neg (by omega), if_neg (by omega), if_neg (by omega), if_neg (by omega), if_neg (by omega), if_neg (by omega), if_neg (by omega), if_neg (by omega), if_neg (by omega)]
      simp only [if_neg e]
      have hlt := (hr i (by omega)).1
      exact (((((((hls i (by omega) hk).still hb1).past (.inl hlt)).past (.inl hlt)).past (.inl hlt)).past (.inl hlt)).past (.inl hlt)).past (.inl hlt)
  · by_cases e : i = j
    · subst e; simp; exact hg
    · simp only [if_neg e]; have := hr i (by omega); simp; omega
  · by_cases e : i' = j
    · subst e
      simp only [if_true]
      rw [if_neg (by omega)]
      exact (hr i (by omega)).2
    · dsimp only; rw [if_neg e, if_neg (by omega)]; exact hd i i' hii (by omega)
theorem madeD_own {k : List De} {lo lt ht g : Nat} {w : World} {c : Int} {t : Tr} {tv : Value} (h : MadeD k g k.length w) (hk : k.length ≤ maxLen) (ho : Own w lt ht t tv) (h1 : lo ≤ lt) (h2 : ht ≤ g) (h3 : lo ≤ g) :
    DOwn w lo w.heap.size ⟨c, t, k⟩ tv (.slice (some ⟨g, 0, none⟩) k.length k.length) := by
  obtain ⟨f, l, h, hrow, hcs, hls, hr, hd⟩ := h
  have hg := hrow.lt
  exact DOwn.shut ⟨lt, ht, ho, h1, by omega, _, _, g, f, l, h, rfl, Nat.le_refl _, hk, fun _ => ⟨rfl, h3, hrow.lt, .inr h2, hrow⟩, fun i hi => hcs i hi hi, fun i hi => hls i hi hi, fun i hi => ⟨by have := (hr i hi).1; omega, (hr i hi).2, .inl (hr i hi).1, .inr (by have := (hr i hi).1; omega)⟩, fun i j hij hj => .inl (hd i j hij hj)⟩
set_option maxHeartbeats 800000 in
theorem dtoS81 (k : List De) (a : Option Addr) (cap b off : Nat) (ts ks : Nat → Value) (S : Nat → Prop) (hc : k.length ≤ cap) (hm : cap ≤ maxLen)
    (ha : 0 < k.length → a = some ⟨b, off, none⟩ ∧ S b) (hlen : k.length ≤ 1048576)
    (ih : ∀ i (hi : i < k.length) (w : World), DLies w S k[i] (ts i) (ks i) →
      Calls Try.prog 36 #[k[i].val (ts i) (ks i)] w fun e w' => ∃ tv' kv', e = .returned (k[i].val tv' kv') ∧ Below w.heap.size w w' ∧ DOwn w' w.heap.size w'.heap.size k[i] tv' kv')
    (w : World)
    (hcell : ∀ i (hi : i < k.length), C6 w b (off + i * 6) k[i] (ts i) (ks i))
    (hk : ∀ i (hi : i < k.length), DLies w S k[i] (ts i) (ks i)) :
    Calls Try.prog 81 #[.slice a k.length cap] w fun e w' => e = .returned (.slice (some ⟨w.heap.size, 0, none⟩) k.length k.length) ∧ Below w.heap.size w w' ∧ MadeD k w.heap.size k.length w' := by
  unfold maxLen at hm
  have HI := (show Hid _ from ih); clear ih
  have HC := (show Hid _ from hcell); clear hcell
  have HK := (show Hid _ from hk); clear hk
  have HA := (show Hid _ from ha); clear ha
  have hmk := run_makeDeltas k.length hlen
  go_enter Try.func81, Try.ntmps81
  go_wp2_with fail
  go_loopw [4] (fun i wr => ∃ j : Nat, j ≤ k.length ∧ i = .int .i64 j ∧ Below w.heap.size w wr ∧ Hid (MadeD k w.heap.size j wr)) (fun i _ => k.length - (intOf i).toNat)
  case atStart =>
    obtain ⟨f, hf⟩ := row_made w #[.int .i64 0, .string ByteArray.empty, .string ByteArray.empty, .bool false, .slice none 0 0, .slice none 0 0] (k.length * 6) 57
    exact ⟨0, Nat.zero_le _, rfl, bel_alloc _ _, f, fun _ => 0, fun _ => 0, hf, fun i hi => absurd hi (Nat.not_lt_zero _), fun i hi => absurd hi (Nat.not_lt_zero _), fun i hi => absurd hi (Nat.not_lt_zero _), fun i i' _ hi => absurd hi (Nat.not_lt_zero _)⟩
  case round =>
    obtain ⟨j, hj, rfl, hbel, HM⟩ := hrel
    by_cases hlt : j < k.length
    · obtain ⟨rfl, _⟩ := HA.out (by omega)
      obtain ⟨c0, c1, c2, c3, c4, c5⟩ := (HC.out j hlt).still hbel (HC.out j hlt).lt
      have HCL := (show Hid _ from HI.out j hlt wr ((HK.out j hlt).still hbel))
      go_wp2_with fail
      refine Calls.mono HCL.out ?_
      rintro e w1 ⟨tv', kv', rfl, hb1, hl1⟩
      clear c0 c1 c2 c3 c4 c5 HCL
      obtain ⟨f, l, h, hrow, _⟩ := HM.out
      have hg := hrow.lt
      have hrow1 := hrow.of_block (hb1.block _ hrow.lt)
      have e0 := hrow1.cell (i := j * 6) (by omega)
      have e1 := hrow1.cell (i := j * 6 + 1) (by omega)
      have e2 := hrow1.cell (i := j * 6 + 2) (by omega)
      have e3 := hrow1.cell (i := j * 6 + 3) (by omega)
      have e4 := hrow1.cell (i := j * 6 + 4) (by omega)
      have e5 := hrow1.cell (i := j * 6 + 5) (by omega)
      have z0 := hrow1.frozen (j * 6)
      have z1 := hrow1.frozen (j * 6 + 1)
      have z2 := hrow1.frozen (j * 6 + 2)
      have z3 := hrow1.frozen (j * 6 + 3)
      have z4 := hrow1.frozen (j * 6 + 4)
      have z5 := hrow1.frozen (j * 6 + 5)
      obtain ⟨⟨a1, l1, p1, rfl⟩, a2, p2, rfl⟩ := hl1.lies.form
      have hM1 := madeD_step hlt HM.out hg hb1 hl1
      have H1 := (show Hid _ from hM1); clear hrow hrow1 hM1 hl1
      go_wp2_with fail
      have hb2 := hbel.trans (hb1.mono hbel.size)
      exact ⟨⟨j + 1, by omega, by go_num, (((((hb2.setCell (Nat.le_refl _) _).setCell (Nat.le_refl _) _).setCell (Nat.le_refl _) _).setCell (Nat.le_refl _) _).setCell (Nat.le_refl _) _).setCell (Nat.le_refl _) _, H1⟩, by simp [intOf]; omega⟩
    · go_wp2_with fail
      go_ret
      have : j = k.length := by omega
      subst this
      exact ⟨rfl, hbel, HM.out⟩
set_option maxHeartbeats 1600000 in
theorem dto36 {S : Nat → Prop} (d : De) : ∀ (tv kv : Value) (w : World), DLies w S d tv kv → d.wt ≤ 1048576 →
    Calls Try.prog 36 #[d.val tv kv] w fun e w' => ∃ tv' kv', e = .returned (d.val tv' kv') ∧ Below w.heap.size w w' ∧ DOwn w' w.heap.size w'.heap.size d tv' kv' := by
  refine De.ind (P := fun d => ∀ (tv kv : Value) (w : World), DLies w S d tv kv → d.wt ≤ 1048576 →
    Calls Try.prog 36 #[d.val tv kv] w fun e w' => ∃ tv' kv', e = .returned (d.val tv' kv') ∧ Below w.heap.size w w' ∧ DOwn w' w.heap.size w'.heap.size d tv' kv') ?_ d
  intro c t k ih tv kv w hlies hwt
  rw [De.wt_mk] at hwt
  obtain ⟨ht, a, cap, b, off, ts, ks, rfl, hc, hm, ha, hcell, hk⟩ := hlies.out
  dsimp only at ht hc ha hcell hk ⊢
  have HI := (show Hid _ from fun (w' : World) (hw : Below w.heap.size w w') =>
    dtoS81 k _ _ b off ts ks S hc hm ha (by omega) (fun i hi w hl => ih i hi (ts i) (ks i) w hl (by have := De.wt_mem k i hi; omega)) w'
      (fun i hi => C6.still (hcell i hi) hw (lt_of_cell (hcell i hi).1)) (fun i hi => (hk i hi).still hw))
  have HT := (show Hid _ from fun (w' : World) (hw : Below w.heap.size w w') => toO_any t tv w' (ht.still hw) (by omega))
  obtain ⟨ta, tl, tp, rfl⟩ := ht.form
  clear hcell hk ha ih hlies ht
  simp only [De.val, Tr.val] at HT ⊢
  have hbW : Below w.heap.size w (((w.alloc (.cells #[.int .i64 c, .string t.name, .string t.text, .bool t.leaf, .slice ta tl tp, .slice a k.length cap] 65)).alloc (.cells #[.int .i64 0, .string ByteArray.empty, .string ByteArray.empty, .bool false, .slice none 0 0, .slice none 0 0] 57)).alloc (.cells #[.int .i64 c, .string ByteArray.empty, .string ByteArray.empty, .bool false, .slice none 0 0, .slice none 0 0] 57)) := ((bel_alloc _ _).alloc (by simp) _).alloc (by simp; omega) _
  have HBW := (show Hid _ from hbW)
  have HCT := (show Hid _ from HT.out _ hbW)
  have hsW : (((w.alloc (.cells #[.int .i64 c, .string t.name, .string t.text, .bool t.leaf, .slice ta tl tp, .slice a k.length cap] 65)).alloc (.cells #[.int .i64 0, .string ByteArray.empty, .string ByteArray.empty, .bool false, .slice none 0 0, .slice none 0 0] 57)).alloc (.cells #[.int .i64 c, .string ByteArray.empty, .string ByteArray.empty, .bool false, .slice none 0 0, .slice none 0 0] 57)).heap.size = w.heap.size + 3 := by simp
  have HSW := (show Hid _ from hsW)
  clear hbW HT hsW
  go_enter Try.func36, Try.ntmps36
  go_wp2_with fail
  refine Calls.mono HCT.out ?_
  rintro e w1 ⟨v1, rfl, hb1, ho1⟩
  obtain ⟨z1, z2, z3, rfl⟩ := ho1.form
  have hs1 := hb1.size
  rw [HSW.out] at hs1 ho1
  have hk1 : ∀ p, p < w.heap.size + 3 → w1.heap[p]? = (((w.alloc (.cells #[.int .i64 c, .string t.name, .string t.text, .bool t.leaf, .slice ta tl tp, .slice a k.length cap] 65)).alloc (.cells #[.int .i64 0, .string ByteArray.empty, .string ByteArray.empty, .bool false, .slice none 0 0, .slice none 0 0] 57)).alloc (.cells #[.int .i64 c, .string ByteArray.empty, .string ByteArray.empty, .bool false, .slice none 0 0, .slice none 0 0] 57)).heap[p]? := fun p hp => hb1.block p (by rw [HSW.out]; exact hp)
  have BA : Box w1 w.heap.size 65 [.int .i64 c, .string t.name, .string t.text, .bool t.leaf, .slice ta tl tp, .slice a k.length cap] := (((Box.new w 65 _).still (bel_alloc _ _)).still (bel_alloc _ _)).keep (hk1 _ (by omega))
  have BR : Box w1 (w.heap.size + 1) 57 [.int .i64 0, .string ByteArray.empty, .string ByteArray.empty, .bool false, .slice none 0 0, .slice none 0 0] := by
    have := (Box.new (w.alloc (.cells #[.int .i64 c, .string t.name, .string t.text, .bool t.leaf, .slice ta tl tp, .slice a k.length cap] 65)) 57 [.int .i64 0, .string ByteArray.empty, .string ByteArray.empty, .bool false, .slice none 0 0, .slice none 0 0]).still (bel_alloc _ (.cells #[.int .i64 c, .string ByteArray.empty, .string ByteArray.empty, .bool false, .slice none 0 0, .slice none 0 0] 57))
    rw [World.size_alloc] at this
    exact this.keep (hk1 _ (by omega))
  have BO : Box w1 (w.heap.size + 1 + 1) 57 [.int .i64 c, .string ByteArray.empty, .string ByteArray.empty, .bool false, .slice none 0 0, .slice none 0 0] := by
    have := Box.new ((w.alloc (.cells #[.int .i64 c, .string t.name, .string t.text, .bool t.leaf, .slice ta tl tp, .slice a k.length cap] 65)).alloc (.cells #[.int .i64 0, .string ByteArray.empty, .string ByteArray.empty, .bool false, .slice none 0 0, .slice none 0 0] 57)) 57 [.int .i64 c, .string ByteArray.empty, .string ByteArray.empty, .bool false, .slice none 0 0, .slice none 0 0]
    rw [World.size_alloc, World.size_alloc] at this
    exact this.keep (hk1 _ (by omega))
  have a5 : w1.cell? ⟨w.heap.size, 5, none⟩ = some (.slice a k.length cap) := BA.cell 5 (by simp)
  have b1 : w1.cell? ⟨w.heap.size + 1 + 1, 1, none⟩ = some (.string ByteArray.empty) := BO.cell 1 (by simp)
  have b2 : w1.cell? ⟨w.heap.size + 1 + 1, 2, none⟩ = some (.string ByteArray.empty) := BO.cell 2 (by simp)
  have b3 : w1.cell? ⟨w.heap.size + 1 + 1, 3, none⟩ = some (.bool false) := BO.cell 3 (by simp)
  have b4 : w1.cell? ⟨w.heap.size + 1 + 1, 4, none⟩ = some (.slice none 0 0) := BO.cell 4 (by simp)
  have y1 := BO.frozen 1
  have y2 := BO.frozen 2
  have y3 := BO.frozen 3
  have y4 := BO.frozen 4
  have HF1 := (show Hid (Below w.heap.size w w1 ∧ Own w1 (w.heap.size + 3) w1.heap.size t (.slice z1 z2 z3) ∧ w.heap.size + 3 ≤ w1.heap.size) from ⟨bel_trans HBW.out hb1, ho1, hs1⟩)
  have HBX := (show Hid _ from (⟨BR, BO⟩ : _ ∧ _))
  clear hb1 ho1 HCT BA BR BO hk1
  go_wp2_with fail
  refine Calls.mono (HI.out _ ((((HF1.out.1.setCell (by simp; omega) _).setCell (by simp; omega) _).setCell (by simp; omega) _).setCell (by simp; omega) _)) ?_
  rintro e w2 ⟨rfl, hb2, hmd⟩
  clear a5 b1 b2 b3 b4 y1 y2 y3 y4
  have hs2 := hb2.size
  simp only [World.size_setCell] at hs2 hmd
  have BO : Box w2 (w.heap.size + 1 + 1) 57 [.int .i64 c, .string t.name, .string t.text, .bool t.leaf, .slice z1 z2 z3, .slice none 0 0] := ((((HBX.out.2.set 1 _).set 2 _).set 3 _).set 4 _).still hb2
  have BR : Box w2 (w.heap.size + 1) 57 [.int .i64 0, .string ByteArray.empty, .string ByteArray.empty, .bool false, .slice none 0 0, .slice none 0 0] := ((((HBX.out.1.past (by omega)).past (by omega)).past (by omega)).past (by omega)).still hb2
  have b0 : w2.cell? ⟨w.heap.size + 1 + 1, 0, none⟩ = some (.int .i64 c) := BO.cell 0 (by simp)
  have b1 : w2.cell? ⟨w.heap.size + 1 + 1, 1, none⟩ = some (.string t.name) := BO.cell 1 (by simp)
  have b2 : w2.cell? ⟨w.heap.size + 1 + 1, 2, none⟩ = some (.string t.text) := BO.cell 2 (by simp)
  have b3 : w2.cell? ⟨w.heap.size + 1 + 1, 3, none⟩ = some (.bool t.leaf) := BO.cell 3 (by simp)
  have b4 : w2.cell? ⟨w.heap.size + 1 + 1, 4, none⟩ = some (.slice z1 z2 z3) := BO.cell 4 (by simp)
  have b5 : w2.cell? ⟨w.heap.size + 1 + 1, 5, none⟩ = some (.slice none 0 0) := BO.cell 5 (by simp)
  have y5 := BO.frozen 5
  have r0 : w2.cell? ⟨w.heap.size + 1, 0, none⟩ = some (.int .i64 0) := BR.cell 0 (by simp)
  have r1 : w2.cell? ⟨w.heap.size + 1, 1, none⟩ = some (.string ByteArray.empty) := BR.cell 1 (by simp)
  have r2 : w2.cell? ⟨w.heap.size + 1, 2, none⟩ = some (.string ByteArray.empty) := BR.cell 2 (by simp)
  have r3 : w2.cell? ⟨w.heap.size + 1, 3, none⟩ = some (.bool false) := BR.cell 3 (by simp)
  have r4 : w2.cell? ⟨w.heap.size + 1, 4, none⟩ = some (.slice none 0 0) := BR.cell 4 (by simp)
  have r5 : w2.cell? ⟨w.heap.size + 1, 5, none⟩ = some (.slice none 0 0) := BR.cell 5 (by simp)
  have x0 := BR.frozen 0
  have x1 := BR.frozen 1
  have x2 := BR.frozen 2
  have x3 := BR.frozen 3
  have x4 := BR.frozen 4
  have x5 := BR.frozen 5
  have hsz := HF1.out.2.2
  have hOT : Own w2 (w.heap.size + 3) w1.heap.size t (.slice z1 z2 z3) := ((((HF1.out.2.1.past (.inl (by omega))).past (.inl (by omega))).past (.inl (by omega))).past (.inl (by omega))).still hb2
  have HFI := (show Hid (Below w.heap.size w w2 ∧ DOwn w2 (w.heap.size + 3) w2.heap.size ⟨c, t, k⟩ (.slice z1 z2 z3) (.slice (some ⟨w1.heap.size, 0, none⟩) k.length k.length)) from ⟨bel_trans ((((HF1.out.1.setCell (by simp; omega) _).setCell (by simp; omega) _).setCell (by simp; omega) _).setCell (by simp; omega) _) hb2, madeD_own hmd (Nat.le_trans hc hm) hOT (Nat.le_refl _) (Nat.le_refl _) (by omega)⟩)
  simp only [World.size_setCell]
  generalize hgg : w1.heap.size = gg at *
  clear hgg hb2 hmd hOT BO BR HF1 HBX HI HBW
  go_wp2_with fail
  refine bodyPost_ret (v := .agg #[.int .i64 c, .string t.name, .string t.text, .bool t.leaf, .slice z1 z2 z3, .slice (some ⟨gg, 0, none⟩) k.length k.length]) (by simp [results, Try.results36, go_sem, r0, r1, r2, r3, r4, r5]) rfl ⟨_, _, rfl, ?_, ?_⟩
  · exact ((((((HFI.out.1.setCell (by simp; omega) _).setCell (by simp) _).setCell (by simp) _).setCell (by simp) _).setCell (by simp) _).setCell (by simp) _).setCell (by simp) _
  · exact (((((((HFI.out.2.past (.inl (by omega))).past (.inl (by omega))).past (.inl (by omega))).past (.inl (by omega))).past (.inl (by omega))).past (.inl (by omega))).past (.inl (by omega))).keep (by omega) (by simp) (fun _ _ _ _ => rfl)
end Go.Proofs.Ytblfeifedcddnaa
