import Derived.Test.YteomgkcgjkbppaaRdb
import Derived.Test.YteomgkcgjkbppaaBg
import Derived.Test.YteomgkcgjkbppaaSz
import Derived.Test.YteomgkcgjkbppaaPq
/-! The law: binds that came in are measured and copied. -/
namespace Go.Proofs.Yteomgkcgjkbppaa
open Go.RowKit Go.Deep Go.Lib
set_option linter.unusedVariables false
set_option maxRecDepth 100000
set_option linter.unusedSimpArgs false

/-- How much binds hold. -/
def bwL (bl : List (ByteArray × Tr)) : Nat := (bl.map fun b => b.1.size + b.2.wt).sum
def bwt (bl : List (ByteArray × Tr)) : Nat := bl.length + bwL bl
theorem bwL_append (a b : List (ByteArray × Tr)) : bwL (a ++ b) = bwL a + bwL b := by simp [bwL]
theorem bwL_take_succ (bl : List (ByteArray × Tr)) (i : Nat) (h : i < bl.length) : bwL (bl.take (i + 1)) = bwL (bl.take i) + (bl[i].1.size + bl[i].2.wt) := by
  rw [List.take_succ_eq_append_getElem h, bwL_append]; simp [bwL]
theorem bwL_take_le (bl : List (ByteArray × Tr)) (i : Nat) : bwL (bl.take i) ≤ bwL bl := by
  have h := bwL_append (bl.take i) (bl.drop i)
  rw [List.take_append_drop] at h; omega
theorem bwL_mem (bl : List (ByteArray × Tr)) (i : Nat) (h : i < bl.length) : bl[i].1.size + bl[i].2.wt ≤ bwL bl := by
  have h1 := bwL_take_succ bl i h
  have h2 := bwL_take_le bl (i + 1)
  omega
set_option maxHeartbeats 800000 in
theorem szBind46 (x : ByteArray) (t : Tr) (v : Value) (w : World) (left : Int) (ht : Lies w (fun _ => True) t v) (hx : x.size ≤ maxLen) (h0 : 0 ≤ left) (h1 : left ≤ 1048576) :
    Calls Try.prog 46 #[.agg #[.string x, .string t.name, .string t.text, .bool t.leaf, v], .int .i64 left] w fun e w' => e = .returned (.int .i64 (szR (x.size + t.wt) left)) ∧ Below w.heap.size w w' := by
  have HS := (show Hid (∀ lf : Int, 0 ≤ lf → lf ≤ 1048576 → Calls Try.prog 7 #[t.val v, .int .i64 lf] (w.alloc (.cells #[.string x, .string t.name, .string t.text, .bool t.leaf, v] 76)) fun e w' => e = .returned (.int .i64 (szR t.wt lf)) ∧ Below (w.alloc (.cells #[.string x, .string t.name, .string t.text, .bool t.leaf, v] 76)).heap.size (w.alloc (.cells #[.string x, .string t.name, .string t.text, .bool t.leaf, v] 76)) w') from fun lf g0 g1 => sz_any t v _ lf (ht.still (bel_alloc _ _)) g0 g1)
  obtain ⟨a1, m1, c1, rfl⟩ := ht.form
  simp only [Tr.val] at HS
  clear ht
  generalize t.name = n0 at *
  generalize t.text = x0 at *
  generalize t.leaf = l0 at *
  generalize t.wt = W at *
  unfold maxLen at hx
  by_cases h2 : (x.size : Int) ≤ left
  · go_enter Try.func46, Try.ntmps46
    go_wp2_with fail
    refine Calls.mono (HS.out _ (by omega) (by omega)) ?_
    rintro e w1 ⟨rfl, hb1⟩
    have HB2 := (show Hid _ from bel_box hb1)
    clear hb1 HS
    by_cases h4 : (W : Int) ≤ left - x.size
    · rw [szR_yes h4]
      go_wp2_with fail
      go_ret
      exact ⟨ret_int (by rw [szR_yes (by omega)]; omega), HB2.out⟩
    · rw [szR_no (by omega)]
      go_wp2_with fail
      go_ret
      exact ⟨ret_int (by rw [szR_no (by omega)]), HB2.out⟩
  · go_enter Try.func46, Try.ntmps46
    go_wp2_with fail
    go_ret
    exact ⟨ret_int (by rw [szR_no (by omega)]), (Below.refl _ _).alloc (Nat.le_refl _) _⟩
set_option maxHeartbeats 1600000 in
theorem szBinds16 (bl : List (ByteArray × Tr)) (v : Value) (w : World) (left : Int) (h : BLy w bl v) (h0 : 0 ≤ left) (h1 : left ≤ 1048576) :
    Calls Try.prog 16 #[v, .int .i64 left] w fun e w' => e = .returned (.int .i64 (szR (bwt bl) left)) ∧ Below w.heap.size w w' := by
  obtain ⟨a, cap, b, off, sv, rfl, hc, hm, ha, hx, hcell, hk⟩ := h
  have HX := (show Hid _ from hx); clear hx
  unfold maxLen at hm
  have HC := (show Hid _ from hcell); clear hcell
  have HK := (show Hid _ from hk); clear hk
  have HA := (show Hid _ from ha); clear ha
  by_cases hl : (bl.length : Int) ≤ left
  · go_enter Try.func16, Try.ntmps16
    go_wp2_with fail
    go_loopw [1, 5] (fun l i wr => ∃ j : Nat, j ≤ bl.length ∧ i = .int .i64 j ∧ 0 ≤ left - bl.length - bwL (bl.take j) ∧ l = .int .i64 (left - bl.length - bwL (bl.take j)) ∧ Hid (Below w.heap.size w wr)) (fun _ i _ => bl.length - (intOf i).toNat)
    case atStart => exact ⟨0, Nat.zero_le _, rfl, by simp [bwL]; omega, by simp [bwL], Below.refl _ _⟩
    case round =>
      obtain ⟨j, hj, rfl, hp, rfl, HB⟩ := hrel
      by_cases hlt : j < bl.length
      · have hbel := HB.out
        obtain rfl := HA.out (by omega)
        obtain ⟨c0, c1, c2, c3, c4⟩ := HC.out j hlt
        rw [← hbel.cell (lt_of_cell c0)] at c0
        rw [← hbel.cell (lt_of_cell c1)] at c1
        rw [← hbel.cell (lt_of_cell c2)] at c2
        rw [← hbel.cell (lt_of_cell c3)] at c3
        rw [← hbel.cell (lt_of_cell c4)] at c4
        obtain ⟨a4, l4, p4, e4⟩ := (HK.out j hlt).form
        rw [e4] at c4
        have HT := (show Hid _ from bwL_take_succ bl j hlt)
        have hle := bwL_take_le bl (j + 1)
        rw [HT.out] at hle
        have HCL := (show Hid _ from szBind46 bl[j].1 bl[j].2 (sv j) wr (left - bl.length - bwL (bl.take j)) ((HK.out j hlt).still hbel) (HX.out j hlt) hp (by omega))
        rw [e4] at HCL
        have q1 : (j : Int) < (bl.length : Int) := by omega
        clear hbel e4
        generalize hW : bl[j].1.size + bl[j].2.wt = W at *
        clear hW
        generalize bl[j].1 = y0 at *
        generalize bl[j].2.name = y1 at *
        generalize bl[j].2.text = y2 at *
        generalize bl[j].2.leaf = y3 at *
        generalize hD : bwL (bl.take j) = D at *
        clear hD
        go_wp2_with fail
        refine Calls.mono HCL.out ?_
        rintro e w1 ⟨rfl, hb1⟩
        have HB2 := (show Hid _ from bel_trans HB.out hb1)
        clear hb1 HCL c0 c1 c2 c3 c4
        by_cases hw : (W : Int) ≤ left - bl.length - D
        · rw [szR_yes hw]
          go_wp2_with fail
          refine ⟨⟨j + 1, by omega, by go_num, ?_, ?_, HB2⟩, by simp [intOf]; omega⟩
          · rw [HT.out]; omega
          · rw [HT.out]; exact val_int (by omega)
        · rw [szR_no (by omega)]
          go_wp2_with fail
          go_ret
          exact ⟨ret_int (by unfold bwt; rw [szR_no (by omega)]), HB2.out⟩
      · have q1 : ¬ ((j : Int) < (bl.length : Int)) := by omega
        go_wp2_with fail
        go_ret
        have : j = bl.length := by omega
        subst this
        rw [List.take_length] at hp ⊢
        exact ⟨ret_int (by unfold bwt; rw [szR_yes (by omega)]; omega), HB.out⟩
  · go_enter Try.func16, Try.ntmps16
    go_wp2_with fail
    go_ret
    exact ⟨ret_int (by unfold bwt; rw [szR_no (by omega)]), Below.refl _ _⟩
set_option maxHeartbeats 1600000 in
theorem toBind51 (x : ByteArray) (t : Tr) (v : Value) (w : World) (ht : Lies w (fun _ => True) t v) (hwt : t.wt ≤ 1048576) :
    Calls Try.prog 51 #[.agg #[.string x, .string t.name, .string t.text, .bool t.leaf, v]] w fun e w' => ∃ v', e = .returned (.agg #[.string x, .string t.name, .string t.text, .bool t.leaf, v']) ∧ Below w.heap.size w w' ∧ Own w' w.heap.size w'.heap.size t v' := by
  obtain ⟨a1, m1, c1, rfl⟩ := ht.form
  have HL := (show Hid (∀ wq : World, Below w.heap.size w wq → Calls Try.prog 9 #[t.val (.slice a1 m1 c1)] wq fun e w' => ∃ v', e = .returned (t.val v') ∧ Below wq.heap.size wq w' ∧ Own w' wq.heap.size w'.heap.size t v') from fun wq hb => toO_any t _ wq (ht.still hb) hwt)
  simp only [Tr.val] at HL
  clear ht hwt
  generalize t.name = n0 at *
  generalize t.text = x0 at *
  generalize t.leaf = l0 at *
  go_enter Try.func51, Try.ntmps51
  go_wp2_with fail
  refine Calls.mono (HL.out _ (((bel_alloc _ _).alloc (by simp) _).alloc (by simp; omega) _)) ?_
  rintro e w1 ⟨v', rfl, hb1, ho1⟩
  obtain ⟨a2, m2, c2, rfl⟩ := ho1.form
  obtain ⟨hcc, hff⟩ := bcell hb1
  have hsz : w.heap.size + 3 ≤ w1.heap.size := by have := hb1.size; simp at this; omega
  have hbel : Below w.heap.size w w1 := (((bel_alloc _ _).alloc (by simp) _).alloc (by simp; omega) _).trans (hb1.mono (by simp; omega))
  have HB := (show Hid _ from hbel)
  have HO := (show Hid (Own w1 (w.heap.size + 3) w1.heap.size t (.slice a2 m2 c2)) from (by
    have := ho1
    simp only [World.size_alloc] at this
    exact this))
  clear hb1 ho1 hbel HL
  go_wp2_with fail
  refine bodyPost_ret (v := .agg #[.string x, .string n0, .string x0, .bool l0, .slice a2 m2 c2]) (by simp [results, Try.results51, go_sem, hcc]) rfl ⟨_, rfl, ?_, ?_⟩
  · exact ((((((((HB.out.setCell (by simp; omega) _).setCell (by simp; omega) _).setCell (by simp; omega) _).setCell (by simp; omega) _).setCell (by simp) _).setCell (by simp) _).setCell (by simp) _).setCell (by simp) _).setCell (by simp) _
  · exact (((((((((HO.out.past (.inl (by omega))).past (.inl (by omega))).past (.inl (by omega))).past (.inl (by omega))).past (.inl (by omega))).past (.inl (by omega))).past (.inl (by omega))).past (.inl (by omega))).past (.inl (by omega))).keep (by omega) (by simp) (fun _ _ _ _ => rfl)
/-- What the loop of toBindS has made of the first j binds. -/
def MadeB (bl : List (ByteArray × Tr)) (g : Nat) (j : Nat) (wr : World) : Prop :=
  ∃ (f : Nat → Value) (l h : Nat → Nat), wr.rowIs g 62 (bl.length * 5) f ∧
    (∀ i (_ : i < j) (hi : i < bl.length), f (i * 5) = .string bl[i].1 ∧ f (i * 5 + 1) = .string bl[i].2.name ∧ f (i * 5 + 2) = .string bl[i].2.text ∧ f (i * 5 + 3) = .bool bl[i].2.leaf) ∧
    (∀ i (_ : i < j) (hi : i < bl.length), Own wr (l i) (h i) bl[i].2 (f (i * 5 + 4))) ∧ (∀ i, i < j → g < l i ∧ h i ≤ wr.heap.size) ∧ ∀ i i', i < i' → i' < j → h i ≤ l i'
theorem madeB_step {bl : List (ByteArray × Tr)} {g j : Nat} {wr w1 : World} (hj : j < bl.length) (hM : MadeB bl g j wr) (hg : g < wr.heap.size) (hb1 : Below wr.heap.size wr w1) {v : Value} (hl : Own w1 wr.heap.size w1.heap.size bl[j].2 v) :
    MadeB bl g (j + 1) (((((w1.setCell ⟨g, j * 5, none⟩ (.string bl[j].1)).setCell ⟨g, j * 5 + 1, none⟩ (.string bl[j].2.name)).setCell ⟨g, j * 5 + 2, none⟩ (.string bl[j].2.text)).setCell ⟨g, j * 5 + 3, none⟩ (.bool bl[j].2.leaf)).setCell ⟨g, j * 5 + 4, none⟩ v) := by
  obtain ⟨f, l, h, hrow, hcs, hls, hr, hd⟩ := hM
  have hrow1 := hrow.of_block (hb1.block _ hrow.lt)
  have hs := hb1.size
  refine ⟨_, fun i => if i = j then wr.heap.size else l i, fun i => if i = j then w1.heap.size else h i, ((((hrow1.set _ _).set _ _).set _ _).set _ _).set _ _, fun i hi hk => ?_, fun i hi hk => ?_, fun i hi => ?_, fun i i' hii hi' => ?_⟩
  · by_cases e : i = j
    · subst e; simp
    · obtain ⟨q0, q1, q2, q3⟩ := hcs i (by omega) hk
      refine ⟨?_, ?_, ?_, ?_⟩
      · rw [if_neg (by omega), if_neg (by omega), if_neg (by omega), if_neg (by omega), if_neg (by omega)]; exact q0
      · rw [if_neg (by omega), if_neg (by omega), if_neg (by omega), if_neg (by omega), if_neg (by omega)]; exact q1
      · rw [if_neg (by omega), if_neg (by omega), if_neg (by omega), if_neg (by omega), if_neg (by omega)]; exact q2
      · rw [if_neg (by omega), if_neg (by omega), if_neg (by omega), if_neg (by omega), if_neg (by omega)]; exact q3
  · by_cases e : i = j
    · subst e
      simp only [if_true]
      exact ((((hl.past (.inl hg)).past (.inl hg)).past (.inl hg)).past (.inl hg)).past (.inl hg)
    · rw [if_neg (by omega), if_neg (by omega), if_neg (by omega), if_neg (by omega), if_neg (by omega)]
      simp only [if_neg e]
      have hlt := (hr i (by omega)).1
      exact ((((((hls i (by omega) hk).still hb1).past (.inl hlt)).past (.inl hlt)).past (.inl hlt)).past (.inl hlt)).past (.inl hlt)
  · by_cases e : i = j
    · subst e; simp; exact hg
    · simp only [if_neg e]; have := hr i (by omega); simp; omega
  · by_cases e : i' = j
    · subst e
      simp only [if_true]
      rw [if_neg (by omega)]
      exact (hr i (by omega)).2
    · dsimp only; rw [if_neg e, if_neg (by omega)]; exact hd i i' hii (by omega)
theorem madeB_bgr {bl : List (ByteArray × Tr)} {g : Nat} {w : World} (h : MadeB bl g bl.length w) (hk : bl.length ≤ maxLen) : BGr bl g bl.length (.slice (some ⟨g, 0, none⟩) bl.length bl.length) w := by
  obtain ⟨f, l, h, ⟨c, hc1, hc2, hc3⟩, hcs, hls, hr, hd⟩ := h
  refine ⟨fun i => f (i * 5 + 4), l, h, ⟨bcs_len _ _ _, .inr ⟨g, bl.length, c, rfl, Nat.le_refl _, hc1, Nat.le_refl _, hk, hc2, ?_⟩⟩, fun i hi => by rw [nb_eq hi]; exact hls i hi hi, fun i hi => ⟨Nat.le_of_lt (hr i hi).1, (hr i hi).2, fun q hq => ?_⟩, hd⟩
  · rw [List.take_of_length_le (by simp [hc2])]
    apply List.ext_getElem?
    intro q
    rw [Array.getElem?_toList]
    by_cases hq : q < bl.length * 5
    · rw [hc3 q hq]
      have hi : q / 5 < bl.length := by omega
      obtain ⟨g0, g1, g2, g3, g4⟩ := bcs_get bl (fun i => f (i * 5 + 4)) bl.length (q / 5) hi
      obtain ⟨q0, q1, q2, q3⟩ := hcs (q / 5) hi hi
      rw [nb_eq hi] at g0 g1 g2 g3
      have hm : q % 5 = 0 ∨ q % 5 = 1 ∨ q % 5 = 2 ∨ q % 5 = 3 ∨ q % 5 = 4 := by omega
      rcases hm with e | e | e | e | e
      · have e2 : q = q / 5 * 5 := by omega
        rw [← e2] at g0 q0
        rw [g0, q0]
      · have e2 : q = q / 5 * 5 + 1 := by omega
        rw [← e2] at g1 q1
        rw [g1, q1]
      · have e2 : q = q / 5 * 5 + 2 := by omega
        rw [← e2] at g2 q2
        rw [g2, q2]
      · have e2 : q = q / 5 * 5 + 3 := by omega
        rw [← e2] at g3 q3
        rw [g3, q3]
      · have e2 : q = q / 5 * 5 + 4 := by omega
        rw [← e2] at g4
        rw [g4]
    · rw [List.getElem?_eq_none (by rw [bcs_len]; omega)]
      simp
      omega
  · simp [Value.ownBlock] at hq
    subst hq
    exact .inl (hr i hi).1
/-- 'make([]Bind, n)'. -/
theorem run_makeBinds (n : Nat) (hn : n ≤ 1048576) (w : World) :
    (Instr.makeSlice 26 (.int .i64 (n : Int)) (.int .i64 (n : Int))).run Try.prog w = .ok (.slice (some ⟨w.heap.size, 0, none⟩) n n) (w.alloc (.cells (madeCells #[.string ByteArray.empty, .string ByteArray.empty, .string ByteArray.empty, .bool false, .slice none 0 0] (n * 5)) 62)) := by
  obtain ⟨i, hi, hz, hs, hb⟩ := info_parts info62s
  have hr := run_make (P := Try.prog) w 26 62 i _ Try.underlying26 hi hz .i64 .i64 n n (by omega) (Int.le_refl _) (by rw [hb]; omega) (by omega)
  simp only [Int.toNat_natCast, hs] at hr
  exact hr
set_option maxHeartbeats 1600000 in
theorem toBinds18 (bl : List (ByteArray × Tr)) (v : Value) (w : World) (h : BLy w bl v) (hwt : bwt bl ≤ 1048576) :
    Calls Try.prog 18 #[v] w fun e w' => ∃ B, e = .returned (.slice (some ⟨B, 0, none⟩) bl.length bl.length) ∧ Below w.heap.size w w' ∧ B = w.heap.size ∧ BGr bl B bl.length (.slice (some ⟨B, 0, none⟩) bl.length bl.length) w' := by
  obtain ⟨a, cap, b, off, sv, rfl, hc, hm, ha, hx, hcell, hk⟩ := h
  have hlen : bl.length ≤ 1048576 := by unfold bwt at hwt; omega
  have HW := (show Hid (∀ i (hi : i < bl.length), bl[i].2.wt ≤ 1048576) from fun i hi => by
    have := bwL_mem bl i hi
    unfold bwt at hwt
    omega)
  clear hx hwt
  unfold maxLen at hm
  have HC := (show Hid _ from hcell); clear hcell
  have HK := (show Hid _ from hk); clear hk
  have HA := (show Hid _ from ha); clear ha
  have hmk := run_makeBinds bl.length hlen
  go_enter Try.func18, Try.ntmps18
  go_wp2_with fail
  go_loopw [4] (fun i wr => ∃ j : Nat, j ≤ bl.length ∧ i = .int .i64 j ∧ Hid (Below w.heap.size w wr) ∧ Hid (MadeB bl w.heap.size j wr)) (fun i _ => bl.length - (intOf i).toNat)
  case atStart =>
    obtain ⟨f, hf⟩ := row_made w #[.string ByteArray.empty, .string ByteArray.empty, .string ByteArray.empty, .bool false, .slice none 0 0] (bl.length * 5) 62
    exact ⟨0, Nat.zero_le _, rfl, bel_alloc _ _, f, fun _ => 0, fun _ => 0, hf, fun i hi => absurd hi (Nat.not_lt_zero _), fun i hi => absurd hi (Nat.not_lt_zero _), fun i hi => absurd hi (Nat.not_lt_zero _), fun i i' _ hi => absurd hi (Nat.not_lt_zero _)⟩
  case round =>
    obtain ⟨j, hj, rfl, HB, HM⟩ := hrel
    by_cases hlt : j < bl.length
    · have hbel := HB.out
      obtain rfl := HA.out (by omega)
      obtain ⟨c0, c1, c2, c3, c4⟩ := HC.out j hlt
      rw [← hbel.cell (lt_of_cell c0)] at c0
      rw [← hbel.cell (lt_of_cell c1)] at c1
      rw [← hbel.cell (lt_of_cell c2)] at c2
      rw [← hbel.cell (lt_of_cell c3)] at c3
      rw [← hbel.cell (lt_of_cell c4)] at c4
      obtain ⟨a4, l4, p4, e4⟩ := (HK.out j hlt).form
      have HCL := (show Hid _ from toBind51 bl[j].1 bl[j].2 (sv j) wr ((HK.out j hlt).still hbel) (HW.out j hlt))
      rw [e4] at c4 HCL
      have q1 : (j : Int) < (bl.length : Int) := by omega
      clear hbel e4
      go_wp2_with fail
      refine Calls.mono HCL.out ?_
      rintro e w1 ⟨v', rfl, hb1, hl1⟩
      clear c0 c1 c2 c3 c4
      obtain ⟨f, l, h, hrow, _⟩ := HM.out
      have hg := hrow.lt
      have hrow1 := hrow.of_block (hb1.block _ hrow.lt)
      have e0 := hrow1.cell (i := j * 5) (by omega)
      have e1 := hrow1.cell (i := j * 5 + 1) (by omega)
      have e2 := hrow1.cell (i := j * 5 + 2) (by omega)
      have e3 := hrow1.cell (i := j * 5 + 3) (by omega)
      have e4 := hrow1.cell (i := j * 5 + 4) (by omega)
      have z0 := hrow1.frozen (j * 5)
      have z1 := hrow1.frozen (j * 5 + 1)
      have z2 := hrow1.frozen (j * 5 + 2)
      have z3 := hrow1.frozen (j * 5 + 3)
      have z4 := hrow1.frozen (j * 5 + 4)
      obtain ⟨a1, l1, p1, rfl⟩ := hl1.form
      have H1 := (show Hid _ from madeB_step hlt HM.out hg hb1 hl1)
      have HB2 := (show Hid _ from bel_trans HB.out hb1)
      clear hrow hrow1 hl1 hb1 HCL HB HM
      go_wp2_with fail
      exact ⟨⟨j + 1, by omega, by go_num, ((((HB2.out.setCell (Nat.le_refl _) _).setCell (Nat.le_refl _) _).setCell (Nat.le_refl _) _).setCell (Nat.le_refl _) _).setCell (Nat.le_refl _) _, H1⟩, by simp [intOf]; omega⟩
    · have q1 : ¬ ((j : Int) < (bl.length : Int)) := by omega
      go_wp2_with fail
      go_ret
      have : j = bl.length := by omega
      subst this
      exact ⟨w.heap.size, rfl, HB.out, rfl, madeB_bgr HM.out (by unfold maxLen; omega)⟩
end Go.Proofs.Yteomgkcgjkbppaa
