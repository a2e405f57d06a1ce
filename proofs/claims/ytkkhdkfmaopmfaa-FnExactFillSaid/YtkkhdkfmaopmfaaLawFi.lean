import Derived.Test.YtkkhdkfmaopmfaaFi
import Derived.Test.YtkkhdkfmaopmfaaLw
import Derived.Deep.CutRange
import Derived.Deep.RegionHeld3
import Derived.Deep.RegionWith
/-! The law FnExactFill, walked. -/
namespace Go.Proofs.Ytkkhdkfmaopmfaa
open Go.RowKit Go.Deep
set_option linter.unusedVariables false
set_option maxRecDepth 100000
set_option linter.unusedSimpArgs false

theorem bo_bwt (bl : List (ByteArray × Tr)) : ∀ j, j ≤ bl.length → bo bl j ≤ 4 * (j + bwL (bl.take j))
  | 0, _ => by simp [bo]
  | j + 1, h => by
    have h1 := bo_bwt bl j (by omega)
    have h2 := bwL_take_succ bl j (by omega)
    have h3 := Tr.cnt_le_wt bl[j].2
    have h4 := cnt_eq bl[j].2
    rw [bo, nb_eq (show j < bl.length by omega), h2]
    omega
theorem fi_cnt (p : Tr) (bl : List (ByteArray × Tr)) : 3 * Tr.cntL (fiR p bl).1.kids ≤ 3000 := by
  have key : (fiR p bl).1.ok = true ∨ (fiR p bl).1 = noTr := by
    unfold fiR
    split
    · split
      · split
        · rename_i h
          exact .inl h
        · exact .inr rfl
      · exact .inr rfl
    · exact .inr rfl
  rcases key with h | h
  · have h1 := ok_cnt h
    have h2 := cnt_eq (fiR p bl).1
    omega
  · rw [h]
    simp [noTr, Tr.cntL]
/-- markTree, and what it leaves. -/
theorem mark13b (t : Tr) (v : Value) (w : World) (lo hi n : Nat) (h : Own w lo hi t v) (hhi : hi ≤ w.heap.size) (hn : 0 < n) (hnk : n + 3 * Tr.cntL t.kids ≤ 67108864) :
    Calls Try.prog 13 #[t.val v, .int .i64 n] w fun e w' => e = .returned (.int .i64 (n + 3 * Tr.cntL t.kids : Nat)) ∧ Out lo hi w w' ∧ Own w' lo hi (mk t n) v := by
  have hcl := markS_any t v (w.alloc (.cells #[.string t.name, .string t.text, .bool t.leaf, v] 31)) lo hi n (h.keep (Nat.le_refl _) (Nat.le_refl _) (fun k _ _ hk => (bel_alloc w _).block k hk)) (by simp; omega) hn hnk
  obtain ⟨a, len, cap, rfl⟩ := h.form
  have HCL := (show Hid _ from hcl); clear hcl h
  simp only [Tr.val]
  go_enter Try.func13, Try.ntmps13
  go_wp2_with fail
  refine Calls.mono HCL.out ?_
  rintro e w1 ⟨rfl, ho, hown⟩
  have HO := (show Hid _ from (⟨ho, hown⟩ : _ ∧ _)); clear ho hown
  go_wp2_with fail
  go_ret
  exact ⟨rfl, (Out.of_below (bel_alloc _ _)).trans HO.out.1, HO.out.2⟩
theorem held20 (t : Tr) (v : Value) (w : World) (lo hi n : Nat) (h : Own w lo hi (mk t n) v) (hn : 0 < n) (hnk : n + 3 * Tr.cntL t.kids ≤ 67108864) :
    Calls Try.prog 20 #[t.val v, .int .i64 n] w fun e w' => e = .returned (.int .i64 (n + 3 * Tr.cntL t.kids : Nat)) ∧ Below w.heap.size w w' := by
  have hl : Lies w (fun _ => True) ⟨t.name, t.text, t.leaf, (mkP t).2 n⟩ v := liesAny h.lies
  have hcl := heldS_any t t.name t.text t.leaf v (w.alloc (.cells #[.string t.name, .string t.text, .bool t.leaf, v] 31)) n (hl.still (bel_alloc _ _)) hn hnk
  obtain ⟨a, len, cap, rfl⟩ := h.form
  have HCL := (show Hid _ from hcl); clear hcl h hl
  simp only [Tr.val]
  generalize n + 3 * Tr.cntL t.kids = m at *
  have hm : ¬ ((m : Int) < 0) := by omega
  go_enter Try.func20, Try.ntmps20
  go_wp2_with fail
  refine Calls.mono HCL.out ?_
  rintro e w1 ⟨rfl, hb⟩
  have HB := (show Hid _ from bel_box hb); clear hb
  go_wp2_with fail
  go_ret
  exact ⟨rfl, HB.out⟩
theorem BGr.range {bl : List (ByteArray × Tr)} {B j : Nat} {v : Value} {V W : World} (h : BGr bl B j v V) (hk : ∀ q, B ≤ q → q < V.heap.size → W.heap[q]? = V.heap[q]?) (hs : V.heap.size ≤ W.heap.size) : BGr bl B j v W := by
  obtain ⟨fs, l, hh, h1, h2, h3, h4⟩ := h
  have hlt := h1.lt
  refine ⟨fs, l, hh, own_keep1 h1 (fun k hk' => hk k (hlt k hk').1 (hlt k hk').2), fun i hi' => (h2 i hi').keep (Nat.le_refl _) (Nat.le_refl _) (fun k k1 k2 k3 => hk k (by have := (h3 i hi').1; omega) k3), fun i hi' => ⟨(h3 i hi').1, Nat.le_trans (h3 i hi').2.1 hs, (h3 i hi').2.2⟩, h4⟩
theorem BRow.range {bl : List (ByteArray × Tr)} {lo hi : Nat} {a : Option Addr} {cap b : Nat} {sv : Nat → Value} {l h : Nat → Nat} {V W : World} (hr : BRow bl lo hi a cap b sv l h V) (hhi : hi ≤ V.heap.size) (hk : ∀ q, lo ≤ q → q < hi → W.heap[q]? = V.heap[q]?) : BRow bl lo hi a cap b sv l h W := by
  refine ⟨hr.len, fun h0 => ?_, hr.rng, hr.dis⟩
  obtain ⟨e1, e2, e3, f, g1, g2, g3, g4, g5⟩ := hr.row h0
  refine ⟨e1, e2, e3, f, g1.of_block (hk b e2 e3), g2, g3, fun i hi hl => absurd hi (Nat.not_lt_zero _), fun i hi hl => ?_⟩
  have := hr.rng i hl
  exact (g5 i hi hl).keep (Nat.le_refl _) (Nat.le_refl _) (fun k k1 k2 k3 => hk k (by omega) (by omega))
/-- What lies there behind both answers: the copies, and the program's tree. -/
structure LFa (W3 V : World) (a M : Tr) (X0 X1 b0 B G0 G1 b1 : Nat) (xv gv : Value) (c0 c1 : List Value) (W : World) : Prop where
  bel : Below W3.heap.size W3 W
  x : Own W X0 X1 a xv
  bx : Box W b0 31 c0
  y : ∀ q, B ≤ q → q < V.heap.size → W.heap[q]? = V.heap[q]?
  g : Own W G0 G1 M gv
  bg : Box W b1 31 c1
  o : W3.heap.size ≤ X0 ∧ X0 ≤ X1 ∧ X1 ≤ b0 ∧ b0 < B ∧ B ≤ V.heap.size ∧ V.heap.size ≤ G0 ∧ G0 ≤ G1 ∧ G1 ≤ b1
theorem LFa.still {W3 V W W' : World} {a M : Tr} {X0 X1 b0 B G0 G1 b1 : Nat} {xv gv : Value} {c0 c1 : List Value} (h : LFa W3 V a M X0 X1 b0 B G0 G1 b1 xv gv c0 c1 W) (hb : Below W.heap.size W W') : LFa W3 V a M X0 X1 b0 B G0 G1 b1 xv gv c0 c1 W' := by
  have hlt := h.bg.lt
  have o := h.o
  exact ⟨h.bel.trans (hb.mono h.bel.size), h.x.still hb, h.bx.still hb, fun q h1 h2 => (hb.block q (by omega)).trans (h.y q h1 h2), h.g.still hb, h.bg.still hb, h.o⟩
/-- .. the copy of the tree is marked: it is let go. -/
structure LFb (W3 V : World) (M : Tr) (B G0 G1 b1 : Nat) (gv : Value) (c1 : List Value) (W : World) : Prop where
  bel : Below W3.heap.size W3 W
  y : ∀ q, B ≤ q → q < V.heap.size → W.heap[q]? = V.heap[q]?
  g : Own W G0 G1 M gv
  bg : Box W b1 31 c1
  o : W3.heap.size ≤ B ∧ B ≤ V.heap.size ∧ V.heap.size ≤ G0 ∧ G0 ≤ G1 ∧ G1 ≤ b1
theorem LFa.marked {W3 V W W' : World} {a M : Tr} {X0 X1 b0 B G0 G1 b1 : Nat} {xv gv : Value} {c0 c1 : List Value} (h : LFa W3 V a M X0 X1 b0 B G0 G1 b1 xv gv c0 c1 W) (ho : Out X0 X1 W W') : LFb W3 V M B G0 G1 b1 gv c1 W' := by
  have o := h.o
  have hlt := h.bg.lt
  exact ⟨outBelow h.bel ho (by omega) h.bel.size, fun q h1 h2 => (ho.2.2.2.2 q (by omega) (.inr (by omega))).trans (h.y q h1 h2), h.g.outs ho (by omega), h.bg.out ho (by omega), by omega⟩
/-- .. and that of the binds. -/
structure LFc (W3 : World) (M : Tr) (G0 G1 b1 : Nat) (gv : Value) (c1 : List Value) (W : World) : Prop where
  bel : Below W3.heap.size W3 W
  g : Own W G0 G1 M gv
  bg : Box W b1 31 c1
  o : W3.heap.size ≤ G0 ∧ G0 ≤ G1 ∧ G1 ≤ b1
theorem LFb.marked {W3 V W W' : World} {M : Tr} {B G0 G1 b1 : Nat} {gv : Value} {c1 : List Value} (h : LFb W3 V M B G0 G1 b1 gv c1 W) (ho : Out B V.heap.size W W') : LFc W3 M G0 G1 b1 gv c1 W' := by
  have o := h.o
  exact ⟨outBelow h.bel ho (by omega) h.bel.size, h.g.outs ho (by omega), h.bg.out ho (by omega), by omega⟩
theorem LFc.still {W3 W W' : World} {M : Tr} {G0 G1 b1 : Nat} {gv : Value} {c1 : List Value} (h : LFc W3 M G0 G1 b1 gv c1 W) (hb : Below W.heap.size W W') : LFc W3 M G0 G1 b1 gv c1 W' :=
  ⟨h.bel.trans (hb.mono h.bel.size), h.g.still hb, h.bg.still hb, h.o⟩
theorem LFc.marked {W3 W W' : World} {M M' : Tr} {G0 G1 b1 : Nat} {gv : Value} {c1 : List Value} (h : LFc W3 M G0 G1 b1 gv c1 W) (ho : Out G0 G1 W W') (hg : Own W' G0 G1 M' gv) : LFc W3 M' G0 G1 b1 gv c1 W' := by
  have o := h.o
  exact ⟨outBelow h.bel ho (by omega) h.bel.size, hg, h.bg.out ho (by omega), by omega⟩
/-- The copy of the binds is marked. -/
theorem markY14 {W3 V W : World} {M : Tr} {bl : List (ByteArray × Tr)} {B G0 G1 b1 n : Nat} {gv yv : Value} {c1 : List Value} (hy : BGr bl B bl.length yv V) (h : LFb W3 V M B G0 G1 b1 gv c1 W) (hn : 0 < n) (hnk : n + bo bl bl.length ≤ 67108864) :
    Calls Try.prog 14 #[yv, .int .i64 n] W fun e w' => e = .returned (.int .i64 (n + bo bl bl.length : Nat)) ∧ LFc W3 M G0 G1 b1 gv c1 w' := by
  have hlt := h.bg.lt
  have o := h.o
  obtain ⟨a, cap, b, sv, l, hh, rfl, hr⟩ := hy.rows
  refine Calls.mono (markBinds14 bl n B V.heap.size a cap b sv l hh W (hr.range (Nat.le_refl _) h.y) (by omega) hn hnk) ?_
  rintro e w' ⟨rfl, ho, hd⟩
  exact ⟨rfl, h.marked ho⟩
set_option maxHeartbeats 12800000 in
theorem lawFi {S : Nat → Prop} (a : Tr) (bl : List (ByteArray × Tr)) (va vb : Value) (w : World) (ha : Lies w S a va) (hb : BLy w bl vb) :
    Calls Try.prog 4 #[a.val va, vb] w fun e w' => e = .returned (.bool true) ∧ Below w.heap.size w w' := by
  have hbb := bel_alloc w (.cells #[.string a.name, .string a.text, .bool a.leaf, va] 24)
  have B1 := Box.new w 24 [.string a.name, .string a.text, .bool a.leaf, va]
  have hxs : ∀ i (hi : i < bl.length), bl[i].1.size ≤ maxLen := by
    obtain ⟨_, _, _, _, _, _, _, _, _, h5, _⟩ := hb
    exact h5
  have HZA : Hid (∀ wq, Below w.heap.size w wq → Calls Try.prog 7 #[.agg #[.string a.name, .string a.text, .bool a.leaf, va], .int .i64 1048576] wq fun e w' => e = .returned (.int .i64 (szR a.wt 1048576)) ∧ Below wq.heap.size wq w') := fun wq h => sz_any a va wq 1048576 (ha.still h) (by omega) (Int.le_refl _)
  have HZB : Hid (∀ wq (left : Int), Below w.heap.size w wq → 0 ≤ left → left ≤ 1048576 → Calls Try.prog 16 #[vb, .int .i64 left] wq fun e w' => e = .returned (.int .i64 (szR (bwt bl) left)) ∧ Below wq.heap.size wq w') := fun wq left h h0 h1 => szBinds16 bl vb wq left (hb.still h) h0 h1
  have HTA : Hid (∀ wq, Below w.heap.size w wq → a.wt ≤ 1048576 → Calls Try.prog 9 #[.agg #[.string a.name, .string a.text, .bool a.leaf, va]] wq fun e w' => ∃ v', e = .returned (.agg #[.string a.name, .string a.text, .bool a.leaf, v']) ∧ Below wq.heap.size wq w' ∧ Own w' wq.heap.size w'.heap.size a v') := fun wq h hs => toO_any a va wq (ha.still h) hs
  have HTB : Hid (∀ wq, Below w.heap.size w wq → bwt bl ≤ 1048576 → Calls Try.prog 18 #[vb] wq fun e w' => ∃ B, e = .returned (.slice (some ⟨B, 0, none⟩) bl.length bl.length) ∧ Below wq.heap.size wq w' ∧ B = wq.heap.size ∧ BGr bl B bl.length (.slice (some ⟨B, 0, none⟩) bl.length bl.length) w') := fun wq h hs => toBinds18 bl vb wq (hb.still h) hs
  have HSP : Hid (∀ (wq : World) (l1 h1 B : Nat) (v1 : Value), Own wq l1 h1 a v1 → BGr bl B bl.length (.slice (some ⟨B, 0, none⟩) bl.length bl.length) wq → Calls Try.prog 17 #[.agg #[.string a.name, .string a.text, .bool a.leaf, v1], .slice (some ⟨B, 0, none⟩) bl.length bl.length] wq fun e w' => ∃ u, e = .returned (.tuple #[.agg #[.string (fiR a bl).1.name, .string (fiR a bl).1.text, .bool (fiR a bl).1.leaf, u], .int .i64 (fiR a bl).2]) ∧ Below wq.heap.size wq w' ∧ Own w' wq.heap.size w'.heap.size (fiR a bl).1 u) := fun wq l1 h1 B v1 g1 g2 => sFill17 a bl v1 _ wq (liesAny g1.lies) g2.bli hxs
  have HIM : Hid (∀ (wq : World) (l1 h1 B : Nat) (v1 : Value), Own wq l1 h1 a v1 → BGr bl B bl.length (.slice (some ⟨B, 0, none⟩) bl.length bl.length) wq → bwt bl ≤ 1048576 → Calls Try.prog 19 #[.agg #[.string a.name, .string a.text, .bool a.leaf, v1], .slice (some ⟨B, 0, none⟩) bl.length bl.length] wq fun e w' => ∃ u, e = .returned (.tuple #[.agg #[.string (fiR a bl).1.name, .string (fiR a bl).1.text, .bool (fiR a bl).1.leaf, u], .int .i64 (fiR a bl).2]) ∧ Below wq.heap.size wq w' ∧ Own w' wq.heap.size w'.heap.size (fiR a bl).1 u) := fun wq l1 h1 B v1 g1 g2 g3 => iFill19 a bl v1 _ _ wq (liesAny g1.lies) g2.brd hxs g3
  have HEA : Hid (∀ (wq : World) (l1 h1 l2 h2 : Nat) (v1 v2 : Value), Own wq l1 h1 a v1 → Own wq l2 h2 a v2 → Calls Try.prog 12 #[.agg #[.string a.name, .string a.text, .bool a.leaf, v1], .agg #[.string a.name, .string a.text, .bool a.leaf, v2]] wq fun e w' => e = .returned (.bool true) ∧ Below wq.heap.size wq w') := fun wq l1 h1 l2 h2 v1 v2 g1 g2 => eq_any a v1 v2 wq g1.lies g2.lies
  have HEB : Hid (∀ (wq : World) (v v' : Value), BRd wq bl v → BRd wq bl v' → Calls Try.prog 11 #[v, v'] wq fun e w' => e = .returned (.bool true) ∧ Below wq.heap.size wq w') := fun wq v v' h h' => eqBinds11 bl v v' wq h h'
  have HMA : Hid (∀ (wq : World) (lo hi n : Nat) (v : Value), Own wq lo hi a v → hi ≤ wq.heap.size → 0 < n → n + 3 * Tr.cntL a.kids ≤ 67108864 → Calls Try.prog 13 #[.agg #[.string a.name, .string a.text, .bool a.leaf, v], .int .i64 n] wq fun e w' => e = .returned (.int .i64 (n + 3 * Tr.cntL a.kids : Nat)) ∧ Out lo hi wq w') := fun wq lo hi n v h1 h2 h3 h4 => mark13 a v wq lo hi n h1 h2 h3 h4
  have HKA := (show Hid (a.wt ≤ 1048576 → 3 * Tr.cntL a.kids ≤ 3145728) from fun h => by
    have := Tr.cnt_le_wt a
    have := cnt_eq a
    omega)
  have HKB := (show Hid (bwt bl ≤ 1048576 → bo bl bl.length ≤ 4194304) from fun h => by
    have := bo_bwt bl bl.length (Nat.le_refl _)
    rw [List.take_length] at this
    unfold bwt at h
    omega)
  have HKM := (show Hid (3 * Tr.cntL (fiR a bl).1.kids ≤ 3000) from fi_cnt a bl)
  obtain ⟨aa, al, ap, rfl⟩ := ha.form
  obtain ⟨ba, bcap, rfl⟩ := hb.form
  clear ha hb hxs
  have HX := (show Hid _ from (⟨hbb, B1⟩ : _ ∧ _)); clear hbb B1
  simp only [Tr.val]
  generalize hM : (fiR a bl).1 = M at *
  generalize hC : (fiR a bl).2 = C at *
  clear hM hC
  have HEM : Hid (∀ (wq : World) (v1 v2 : Value), Lies wq (fun _ => True) M v1 → Lies wq (fun _ => True) M v2 → Calls Try.prog 12 #[.agg #[.string M.name, .string M.text, .bool M.leaf, v1], .agg #[.string M.name, .string M.text, .bool M.leaf, v2]] wq fun e w' => e = .returned (.bool true) ∧ Below wq.heap.size wq w') := fun wq v1 v2 g1 g2 => eq_any M v1 v2 wq g1 g2
  have HMM : Hid (∀ (wq : World) (lo hi : Nat) (v : Value), Own wq lo hi M v → hi ≤ wq.heap.size → Calls Try.prog 13 #[.agg #[.string M.name, .string M.text, .bool M.leaf, v], .int .i64 1] wq fun e w' => e = .returned (.int .i64 (1 + 3 * Tr.cntL M.kids : Nat)) ∧ Out lo hi wq w' ∧ Own w' lo hi (mk M 1) v) := fun wq lo hi v h1 h2 => mark13b M v wq lo hi 1 h1 h2 (by omega) (by have := HKM.out; omega)
  have HHM : Hid (∀ (wq : World) (lo hi : Nat) (v : Value), Own wq lo hi (mk M 1) v → Calls Try.prog 20 #[.agg #[.string M.name, .string M.text, .bool M.leaf, v], .int .i64 1] wq fun e w' => e = .returned (.int .i64 (1 + 3 * Tr.cntL M.kids : Nat)) ∧ Below wq.heap.size wq w') := fun wq lo hi v h1 => held20 M v wq lo hi 1 h1 (by omega) (by have := HKM.out; omega)
  generalize a.name = an at *
  generalize a.text = ax at *
  generalize a.leaf = af at *
  generalize M.name = mn at *
  generalize M.text = mx at *
  generalize M.leaf = mf at *
  generalize 3 * Tr.cntL a.kids = ka at *
  generalize 1 + 3 * Tr.cntL M.kids = D at *
  have C1 : Hid (Calls Try.prog 7 #[.agg #[.string an, .string ax, .bool af, .slice aa al ap], .int .i64 1048576] (w.alloc (.cells #[.string an, .string ax, .bool af, .slice aa al ap] 24)) fun e w' => e = .returned (.int .i64 (szR a.wt 1048576)) ∧ Below (w.alloc (.cells #[.string an, .string ax, .bool af, .slice aa al ap] 24)).heap.size (w.alloc (.cells #[.string an, .string ax, .bool af, .slice aa al ap] 24)) w') := HZA.out _ HX.out.1
  by_cases hwa : (a.wt : Int) ≤ 1048576
  case neg =>
    rw [szR_no (by omega)] at C1
    clear HZA HZB HTA HTB HSP HIM HEA HEB HMA HKA HKB HKM HEM HMM HHM hwa
    go_enter Try.func4, Try.ntmps4
    go_wp2_with fail
    refine Calls.mono C1.out ?_
    rintro e w1 ⟨rfl, hb1⟩
    have HE := (show Hid _ from bel_trans HX.out.1 hb1); clear hb1
    go_wp2_with fail
    go_ret
    exact ⟨rfl, HE.out⟩
  rw [szR_yes hwa] at C1
  generalize hlf : (1048576 : Int) - (a.wt : Int) = lf at *
  have hlfd : decide (lf < 0) = false := by simp; omega
  have HWA := (show Hid (a.wt ≤ 1048576 ∧ 0 ≤ lf ∧ lf ≤ 1048576) from ⟨by omega, by omega, by omega⟩); clear hwa hlf HZA
  go_enter Try.func4, Try.ntmps4
  go_wp2_with fail
  refine Calls.mono C1.out ?_
  rintro e w1 ⟨rfl, hb1⟩
  have H1 := (show Hid (Below w.heap.size w w1 ∧ Box w1 w.heap.size 24 [.string an, .string ax, .bool af, .slice aa al ap]) from ⟨bel_trans HX.out.1 hb1, HX.out.2.still hb1⟩)
  clear hb1 HX C1
  have C2 : Hid (Calls Try.prog 16 #[.slice ba bl.length bcap, .int .i64 lf] w1 fun e w' => e = .returned (.int .i64 (szR (bwt bl) lf)) ∧ Below w1.heap.size w1 w') := HZB.out w1 lf H1.out.1 HWA.out.2.1 HWA.out.2.2
  by_cases hwb : ((bwt bl : Nat) : Int) ≤ lf
  case neg =>
    rw [szR_no (by omega)] at C2
    clear HZB HTA HTB HSP HIM HEA HEB HMA HKA HKB HKM HEM HMM HHM hwb
    go_wp2_with fail
    refine Calls.mono C2.out ?_
    rintro e w2 ⟨rfl, hb2⟩
    have HE := (show Hid _ from bel_trans H1.out.1 hb2); clear hb2
    go_wp2_with fail
    go_ret
    exact ⟨rfl, HE.out⟩
  rw [szR_yes hwb] at C2
  have HWB := (show Hid (bwt bl ≤ 1048576) from (by show _ ≤ _; have := HWA.out; omega))
  generalize hlg : lf - ((bwt bl : Nat) : Int) = lg at *
  have hlgd : decide (lg < 0) = false := by simp; omega
  clear hwb hlg HZB
  have HUA : Hid (∀ wq, Below w.heap.size w wq → Calls Try.prog 9 #[.agg #[.string an, .string ax, .bool af, .slice aa al ap]] wq fun e w' => ∃ v', e = .returned (.agg #[.string an, .string ax, .bool af, v']) ∧ Below wq.heap.size wq w' ∧ Own w' wq.heap.size w'.heap.size a v') := fun wq h => HTA.out wq h HWA.out.1
  have HUB : Hid (∀ wq, Below w.heap.size w wq → Calls Try.prog 18 #[.slice ba bl.length bcap] wq fun e w' => ∃ B, e = .returned (.slice (some ⟨B, 0, none⟩) bl.length bl.length) ∧ Below wq.heap.size wq w' ∧ B = wq.heap.size ∧ BGr bl B bl.length (.slice (some ⟨B, 0, none⟩) bl.length bl.length) w') := fun wq h => HTB.out wq h HWB.out
  have HKK := (show Hid (ka ≤ 3145728 ∧ bo bl bl.length ≤ 4194304) from ⟨HKA.out HWA.out.1, HKB.out HWB.out⟩)
  clear HTA HTB HKA HKB
  go_wp2_with fail
  refine Calls.mono C2.out ?_
  rintro e w2 ⟨rfl, hb2⟩
  have H2 := (show Hid (Below w.heap.size w w2 ∧ Box w2 w.heap.size 24 [.string an, .string ax, .bool af, .slice aa al ap]) from ⟨bel_trans H1.out.1 hb2, H1.out.2.still hb2⟩)
  clear hb2 H1 C2
  have r0 : w2.cell? ⟨w.heap.size, 0, none⟩ = some (.string an) := H2.out.2.cell 0 (by simp)
  have r1 : w2.cell? ⟨w.heap.size, 1, none⟩ = some (.string ax) := H2.out.2.cell 1 (by simp)
  have r2 : w2.cell? ⟨w.heap.size, 2, none⟩ = some (.bool af) := H2.out.2.cell 2 (by simp)
  have r3 : w2.cell? ⟨w.heap.size, 3, none⟩ = some (.slice aa al ap) := H2.out.2.cell 3 (by simp)
  have C3 := (show Hid _ from HUA.out w2 H2.out.1)
  go_wp2_with fail
  refine Calls.mono C3.out ?_
  rintro e w3 ⟨v3, rfl, hb3, lx⟩
  obtain ⟨xa, xl, xp, rfl⟩ := lx.form
  have C4 := (show Hid _ from HUB.out w3 (bel_trans H2.out.1 hb3))
  have H3 := (show Hid (Below w2.heap.size w2 w3 ∧ Own w3 w2.heap.size w3.heap.size a (.slice xa xl xp)) from ⟨hb3, lx⟩)
  clear hb3 lx C3 r0 r1 r2 r3
  go_wp2_with fail
  refine Calls.mono C4.out ?_
  rintro e w4 ⟨B4, rfl, hb4, hq, ly⟩
  clear hq
  have C5 := (show Hid _ from HSP.out w4 _ _ B4 _ (Own.still H3.out.2 hb4) ly)
  have H4 := (show Hid (Below w2.heap.size w2 w4) from bel_trans H3.out.1 hb4)
  clear hb4 ly H3 C4 HSP
  go_wp2_with fail
  refine Calls.mono C5.out ?_
  rintro e w5 ⟨u5, rfl, hb5, lu⟩
  obtain ⟨sa, sl, sp, rfl⟩ := lu.form
  have hba := bel_alloc w5 (.cells #[.string mn, .string mx, .bool mf, .slice sa sl sp] 31)
  have hb25 := bel_trans (bel_trans H4.out hb5) hba
  have HA0 := (show Hid (∀ wq, Below (w5.alloc (.cells #[.string mn, .string mx, .bool mf, .slice sa sl sp] 31)).heap.size (w5.alloc (.cells #[.string mn, .string mx, .bool mf, .slice sa sl sp] 31)) wq → Below w.heap.size w wq ∧ Box wq w.heap.size 24 [.string an, .string ax, .bool af, .slice aa al ap] ∧ Box wq w5.heap.size 31 [.string mn, .string mx, .bool mf, .slice sa sl sp] ∧ Lies wq (fun _ => True) M (.slice sa sl sp)) from fun wq h => ⟨bel_trans (bel_trans H2.out.1 hb25) h, (H2.out.2.still hb25).still h, (Box.new w5 31 _).still h, ((liesAny lu.lies).still hba).still h⟩)
  obtain ⟨wz, hwz⟩ : ∃ wz, wz = w5.alloc (.cells #[.string mn, .string mx, .bool mf, .slice sa sl sp] 31) := ⟨_, rfl⟩
  have HA := (show Hid (∀ wq, Below wz.heap.size wz wq → Below w.heap.size w wq ∧ Box wq w.heap.size 24 [.string an, .string ax, .bool af, .slice aa al ap] ∧ Box wq w5.heap.size 31 [.string mn, .string mx, .bool mf, .slice sa sl sp] ∧ Lies wq (fun _ => True) M (.slice sa sl sp)) from (by rw [hwz]; exact HA0.out))
  have HWZ := (show Hid (wz = w5.alloc (.cells #[.string mn, .string mx, .bool mf, .slice sa sl sp] 31)) from hwz)
  have H6 := HA0.out _ (Below.refl _ _)
  have r0 : (w5.alloc (.cells #[.string mn, .string mx, .bool mf, .slice sa sl sp] 31)).cell? ⟨w.heap.size, 0, none⟩ = some (.string an) := H6.2.1.cell 0 (by simp)
  have r1 : (w5.alloc (.cells #[.string mn, .string mx, .bool mf, .slice sa sl sp] 31)).cell? ⟨w.heap.size, 1, none⟩ = some (.string ax) := H6.2.1.cell 1 (by simp)
  have r2 : (w5.alloc (.cells #[.string mn, .string mx, .bool mf, .slice sa sl sp] 31)).cell? ⟨w.heap.size, 2, none⟩ = some (.bool af) := H6.2.1.cell 2 (by simp)
  have r3 : (w5.alloc (.cells #[.string mn, .string mx, .bool mf, .slice sa sl sp] 31)).cell? ⟨w.heap.size, 3, none⟩ = some (.slice aa al ap) := H6.2.1.cell 3 (by simp)
  have C6 := (show Hid _ from HUA.out _ H6.1)
  clear hba hb25 hb5 lu H4 C5 H2 HA0 hwz H6
  go_wp2_with fail
  refine Calls.mono C6.out ?_
  rw [← HWZ.out]
  rintro e w6 ⟨v6, rfl, hb6, lx⟩
  generalize hz0 : w5.heap.size = z0 at *
  clear hz0 HWZ r0 r1 r2 r3
  obtain ⟨xa, xl, xp, rfl⟩ := lx.form
  have hbX := bel_alloc w6 (.cells #[.string an, .string ax, .bool af, .slice xa xl xp] 31)
  have H7 := (show Hid (Below wz.heap.size wz (w6.alloc (.cells #[.string an, .string ax, .bool af, .slice xa xl xp] 31)) ∧ Box (w6.alloc (.cells #[.string an, .string ax, .bool af, .slice xa xl xp] 31)) w6.heap.size 31 [.string an, .string ax, .bool af, .slice xa xl xp] ∧ Own (w6.alloc (.cells #[.string an, .string ax, .bool af, .slice xa xl xp] 31)) wz.heap.size w6.heap.size a (.slice xa xl xp) ∧ wz.heap.size ≤ w6.heap.size) from ⟨bel_trans hb6 hbX, Box.new _ _ _, lx.still hbX, hb6.size⟩)
  have C7 := (show Hid _ from HUB.out _ (HA.out _ H7.out.1).1)
  have hsz : (w6.alloc (.cells #[.string an, .string ax, .bool af, .slice xa xl xp] 31)).heap.size = w6.heap.size + 1 := by simp
  clear hb6 hbX lx C6
  go_wp2_with fail
  refine Calls.mono C7.out ?_
  rintro e w7 ⟨B, rfl, hb7, hB, ly⟩
  have hs7 := hb7.size
  rw [hsz] at hB hs7
  have H8 := (show Hid (Below wz.heap.size wz w7 ∧ Box w7 w6.heap.size 31 [.string an, .string ax, .bool af, .slice xa xl xp] ∧ Own w7 wz.heap.size w6.heap.size a (.slice xa xl xp) ∧ wz.heap.size ≤ w6.heap.size ∧ w6.heap.size < B ∧ B ≤ w7.heap.size) from ⟨bel_trans H7.out.1 hb7, H7.out.2.1.still hb7, H7.out.2.2.1.still hb7, H7.out.2.2.2, by omega, by omega⟩)
  have HLY := (show Hid (BGr bl B bl.length (.slice (some ⟨B, 0, none⟩) bl.length bl.length) w7) from ly)
  have C8 := (show Hid _ from HIM.out w7 _ _ B _ H8.out.2.2.1 ly HWB.out)
  have x0 : w7.cell? ⟨w6.heap.size, 0, none⟩ = some (.string an) := H8.out.2.1.cell 0 (by simp)
  have x1 : w7.cell? ⟨w6.heap.size, 1, none⟩ = some (.string ax) := H8.out.2.1.cell 1 (by simp)
  have x2 : w7.cell? ⟨w6.heap.size, 2, none⟩ = some (.bool af) := H8.out.2.1.cell 2 (by simp)
  have x3 : w7.cell? ⟨w6.heap.size, 3, none⟩ = some (.slice xa xl xp) := H8.out.2.1.cell 3 (by simp)
  clear hb7 hB hs7 ly H7 C7 hsz
  go_wp2_with fail
  refine Calls.mono C8.out ?_
  rintro e w8 ⟨v8, rfl, hb8, lg'⟩
  obtain ⟨ga, gl, gp, rfl⟩ := lg'.form
  have hbG := bel_alloc w8 (.cells #[.string mn, .string mx, .bool mf, .slice ga gl gp] 31)
  have hb8g := bel_trans hb8 hbG
  have HL0 := (show Hid (LFa wz w7 a M wz.heap.size w6.heap.size w6.heap.size B w7.heap.size w8.heap.size w8.heap.size (.slice xa xl xp) (.slice ga gl gp) [.string an, .string ax, .bool af, .slice xa xl xp] [.string mn, .string mx, .bool mf, .slice ga gl gp] (w8.alloc (.cells #[.string mn, .string mx, .bool mf, .slice ga gl gp] 31))) from ⟨bel_trans H8.out.1 hb8g, H8.out.2.2.1.still hb8g, H8.out.2.1.still hb8g, fun q _ h => hb8g.block q h, lg'.still hbG, Box.new _ _ _, by have := H8.out.2.2.2; have := hb8.size; omega⟩)
  clear hb8 hbG hb8g lg' H8 C8 x0 x1 x2 x3
  obtain ⟨wy, hwy⟩ : ∃ wy, wy = w8.alloc (.cells #[.string mn, .string mx, .bool mf, .slice ga gl gp] 31) := ⟨_, rfl⟩
  have HWY := (show Hid (wy = w8.alloc (.cells #[.string mn, .string mx, .bool mf, .slice ga gl gp] 31)) from hwy)
  have HL := (show Hid (LFa wz w7 a M wz.heap.size w6.heap.size w6.heap.size B w7.heap.size w8.heap.size w8.heap.size (.slice xa xl xp) (.slice ga gl gp) [.string an, .string ax, .bool af, .slice xa xl xp] [.string mn, .string mx, .bool mf, .slice ga gl gp] wy) from (by rw [hwy]; exact HL0.out))
  have t0 : (w8.alloc (.cells #[.string mn, .string mx, .bool mf, .slice ga gl gp] 31)).cell? ⟨w8.heap.size, 0, none⟩ = some (.string mn) := HL0.out.bg.cell 0 (by simp)
  have t1 : (w8.alloc (.cells #[.string mn, .string mx, .bool mf, .slice ga gl gp] 31)).cell? ⟨w8.heap.size, 1, none⟩ = some (.string mx) := HL0.out.bg.cell 1 (by simp)
  have t2 : (w8.alloc (.cells #[.string mn, .string mx, .bool mf, .slice ga gl gp] 31)).cell? ⟨w8.heap.size, 2, none⟩ = some (.bool mf) := HL0.out.bg.cell 2 (by simp)
  have t3 : (w8.alloc (.cells #[.string mn, .string mx, .bool mf, .slice ga gl gp] 31)).cell? ⟨w8.heap.size, 3, none⟩ = some (.slice ga gl gp) := HL0.out.bg.cell 3 (by simp)
  have s0 : (w8.alloc (.cells #[.string mn, .string mx, .bool mf, .slice ga gl gp] 31)).cell? ⟨z0, 0, none⟩ = some (.string mn) := (HA.out _ HL0.out.bel).2.2.1.cell 0 (by simp)
  have s1 : (w8.alloc (.cells #[.string mn, .string mx, .bool mf, .slice ga gl gp] 31)).cell? ⟨z0, 1, none⟩ = some (.string mx) := (HA.out _ HL0.out.bel).2.2.1.cell 1 (by simp)
  have s2 : (w8.alloc (.cells #[.string mn, .string mx, .bool mf, .slice ga gl gp] 31)).cell? ⟨z0, 2, none⟩ = some (.bool mf) := (HA.out _ HL0.out.bel).2.2.1.cell 2 (by simp)
  have s3 : (w8.alloc (.cells #[.string mn, .string mx, .bool mf, .slice ga gl gp] 31)).cell? ⟨z0, 3, none⟩ = some (.slice sa sl sp) := (HA.out _ HL0.out.bel).2.2.1.cell 3 (by simp)
  have C9 := (show Hid _ from HEM.out _ _ _ (liesAny HL0.out.g.lies) (HA.out _ HL0.out.bel).2.2.2)
  have hneC : ((C : Int) != C) = false := by simp
  clear hwy
  go_wp2_with fail
  refine Calls.mono C9.out ?_
  rintro e w9 ⟨rfl, hb9⟩
  rw [← HWY.out] at hb9
  have HL9 := (show Hid (LFa wz w7 a M wz.heap.size w6.heap.size w6.heap.size B w7.heap.size w8.heap.size w8.heap.size (.slice xa xl xp) (.slice ga gl gp) [.string an, .string ax, .bool af, .slice xa xl xp] [.string mn, .string mx, .bool mf, .slice ga gl gp] w9) from HL.out.still hb9)
  clear hb9 HL HL0 C9 HWY t0 t1 t2 t3 s0 s1 s2 s3
  generalize hp6 : w6.heap.size = p6 at *
  generalize hp8 : w8.heap.size = p8 at *
  clear hp6 hp8
  have HCA := (show Hid (∀ wq, Below w9.heap.size w9 wq → E8 p6 w.heap.size an ax af (.slice xa xl xp) an ax af (.slice aa al ap) wq) from fun wq h => E8.of (HL9.out.bx.still h) ((HA.out _ HL9.out.bel).2.1.still h))
  have HOX := (show Hid (Own w9 wz.heap.size p6 a (.slice xa xl xp)) from HL9.out.x)
  have HB9 := (show Hid (Below w.heap.size w w9) from (HA.out _ HL9.out.bel).1)
  go_wp2_with fail
  go_cut [58] from 54 to 57 (fun v wx => v = .bool false ∧ Hid (Below w9.heap.size w9 wx))
  case first =>
    have hbd := (Below.refl w9.heap.size w9).drew
    have hS0 := HCA.out _ hbd
    have hB0 := bel_trans HB9.out hbd
    unfold E8 at hS0
    go_region_held3 (fun wq => (wq.cell? ⟨p6, 0, none⟩ = some (.string an) ∧ wq.cell? ⟨p6, 1, none⟩ = some (.string ax) ∧ wq.cell? ⟨p6, 2, none⟩ = some (.bool af) ∧ wq.cell? ⟨p6, 3, none⟩ = some (.slice xa xl xp)) ∧ wq.cell? ⟨w.heap.size, 0, none⟩ = some (.string an) ∧ wq.cell? ⟨w.heap.size, 1, none⟩ = some (.string ax) ∧ wq.cell? ⟨w.heap.size, 2, none⟩ = some (.bool af) ∧ wq.cell? ⟨w.heap.size, 3, none⟩ = some (.slice aa al ap)) (first | with_reducible exact hS0 | with_reducible exact hS1 | with_reducible exact hS2) ((first
      | (go_at_call 12; refine Calls.mono (HEA.out _ _ _ _ _ _ _ LX LC) ?_; rintro e wb ⟨rfl, hbb⟩; have hF2 := bel_trans hF1 hbb; have hS2 := (show E8 _ _ _ _ _ _ _ _ _ _ _ from HCA.out _ hF2); unfold E8 at hS2)
      | (go_at_call 9; refine Calls.mono (HUA.out _ hB0) ?_; rintro e wb ⟨vb, rfl, hbb, LC⟩; obtain ⟨z1, z2, z3, rfl⟩ := LC.form; have hF1 := bel_trans hbd hbb; have LX := Own.still HOX.out hF1; have hS1 := (show E8 _ _ _ _ _ _ _ _ _ _ _ from HCA.out _ hF1); unfold E8 at hS1)))
    all_goals go_wp2_with fail
    all_goals go_meet
    all_goals exact ⟨rfl, hF2⟩
  case rest =>
    obtain ⟨rfl, HXD⟩ := hcut
    obtain ⟨wx, rfl⟩ : ∃ wx, wx = wc := ⟨_, rfl⟩
    have HL10 := (show Hid (LFa wz w7 a M wz.heap.size p6 p6 B w7.heap.size p8 p8 (.slice xa xl xp) (.slice ga gl gp) [.string an, .string ax, .bool af, .slice xa xl xp] [.string mn, .string mx, .bool mf, .slice ga gl gp] wx) from HL9.out.still HXD.out)
    clear HXD HCA HOX HB9 HL9 HEA
    have C10 := (show Hid _ from HUB.out wx (HA.out _ HL10.out.bel).1)
    go_wp2_with fail
    refine Calls.mono C10.out ?_
    rintro e w10 ⟨B10, rfl, hb10, hq, ly10⟩
    clear hq
    have HL11 := (show Hid (LFa wz w7 a M wz.heap.size p6 p6 B w7.heap.size p8 p8 (.slice xa xl xp) (.slice ga gl gp) [.string an, .string ax, .bool af, .slice xa xl xp] [.string mn, .string mx, .bool mf, .slice ga gl gp] w10) from HL10.out.still hb10)
    have C11 := (show Hid _ from HEB.out w10 _ _ (BGr.brd (BGr.range HLY.out HL11.out.y (by have := HL11.out.o; have := HL11.out.bg.lt; omega))) ly10.brd)
    clear hb10 ly10 HL10 C10
    go_wp2_with fail
    refine Calls.mono C11.out ?_
    rintro e w11 ⟨rfl, hb11⟩
    have HL12 := (show Hid (LFa wz w7 a M wz.heap.size p6 p6 B w7.heap.size p8 p8 (.slice xa xl xp) (.slice ga gl gp) [.string an, .string ax, .bool af, .slice xa xl xp] [.string mn, .string mx, .bool mf, .slice ga gl gp] w11) from HL11.out.still hb11)
    clear hb11 HL11 C11 HEB
    have x0 : w11.cell? ⟨p6, 0, none⟩ = some (.string an) := HL12.out.bx.cell 0 (by simp)
    have x1 : w11.cell? ⟨p6, 1, none⟩ = some (.string ax) := HL12.out.bx.cell 1 (by simp)
    have x2 : w11.cell? ⟨p6, 2, none⟩ = some (.bool af) := HL12.out.bx.cell 2 (by simp)
    have x3 : w11.cell? ⟨p6, 3, none⟩ = some (.slice xa xl xp) := HL12.out.bx.cell 3 (by simp)
    have C12 : Hid (Calls Try.prog 13 #[.agg #[.string an, .string ax, .bool af, .slice xa xl xp], .int .i64 1] w11 fun e w' => e = .returned (.int .i64 (1 + ka : Nat)) ∧ Out wz.heap.size p6 w11 w') := HMA.out w11 _ _ 1 _ HL12.out.x (Nat.le_of_lt HL12.out.bx.lt) (by omega) (by have := HKK.out; omega)
    have HK1 := (show Hid (0 < 1 + ka ∧ 1 + ka ≤ 3145729) from ⟨by omega, by have := HKK.out; omega⟩)
    clear HMA
    generalize 1 + ka = K1 at *
    go_wp2_with fail
    refine Calls.mono C12.out ?_
    rintro e w12 ⟨rfl, ho12⟩
    have HL13 := (show Hid (LFb wz w7 M B w7.heap.size p8 p8 (.slice ga gl gp) [.string mn, .string mx, .bool mf, .slice ga gl gp] w12) from HL12.out.marked ho12)
    clear ho12 HL12 C12 x0 x1 x2 x3
    have C13 : Hid (Calls Try.prog 14 #[.slice (some ⟨B, 0, none⟩) bl.length bl.length, .int .i64 (K1 : Nat)] w12 fun e w' => e = .returned (.int .i64 (K1 + bo bl bl.length : Nat)) ∧ LFc wz M w7.heap.size p8 p8 (.slice ga gl gp) [.string mn, .string mx, .bool mf, .slice ga gl gp] w') := markY14 HLY.out HL13.out HK1.out.1 (by have := HKK.out; have := HK1.out; omega)
    generalize K1 + bo bl bl.length = K2 at *
    have hK2 : decide ((K2 : Int) < 0) = false := by simp
    go_wp2_with fail
    refine Calls.mono C13.out ?_
    rintro e w13 ⟨rfl, hl13⟩
    have HL14 := (show Hid (LFc wz M w7.heap.size p8 p8 (.slice ga gl gp) [.string mn, .string mx, .bool mf, .slice ga gl gp] w13) from hl13)
    clear hl13 HL13 C13
    generalize hp7 : w7.heap.size = p7 at *
    clear hp7 HLY
    have t0 : w13.cell? ⟨p8, 0, none⟩ = some (.string mn) := HL14.out.bg.cell 0 (by simp)
    have t1 : w13.cell? ⟨p8, 1, none⟩ = some (.string mx) := HL14.out.bg.cell 1 (by simp)
    have t2 : w13.cell? ⟨p8, 2, none⟩ = some (.bool mf) := HL14.out.bg.cell 2 (by simp)
    have t3 : w13.cell? ⟨p8, 3, none⟩ = some (.slice ga gl gp) := HL14.out.bg.cell 3 (by simp)
    have s0 : w13.cell? ⟨z0, 0, none⟩ = some (.string mn) := (HA.out _ HL14.out.bel).2.2.1.cell 0 (by simp)
    have s1 : w13.cell? ⟨z0, 1, none⟩ = some (.string mx) := (HA.out _ HL14.out.bel).2.2.1.cell 1 (by simp)
    have s2 : w13.cell? ⟨z0, 2, none⟩ = some (.bool mf) := (HA.out _ HL14.out.bel).2.2.1.cell 2 (by simp)
    have s3 : w13.cell? ⟨z0, 3, none⟩ = some (.slice sa sl sp) := (HA.out _ HL14.out.bel).2.2.1.cell 3 (by simp)
    have C14 := (show Hid _ from HEM.out w13 _ _ (liesAny HL14.out.g.lies) (HA.out _ HL14.out.bel).2.2.2)
    go_wp2_with fail
    refine Calls.mono C14.out ?_
    rintro e w14 ⟨rfl, hb14⟩
    have HL15 := (show Hid (LFc wz M p7 p8 p8 (.slice ga gl gp) [.string mn, .string mx, .bool mf, .slice ga gl gp] w14) from HL14.out.still hb14)
    clear hb14 HL14 C14 t0 t1 t2 t3 s0 s1 s2 s3 hK2
    have t0 : w14.cell? ⟨p8, 0, none⟩ = some (.string mn) := HL15.out.bg.cell 0 (by simp)
    have t1 : w14.cell? ⟨p8, 1, none⟩ = some (.string mx) := HL15.out.bg.cell 1 (by simp)
    have t2 : w14.cell? ⟨p8, 2, none⟩ = some (.bool mf) := HL15.out.bg.cell 2 (by simp)
    have t3 : w14.cell? ⟨p8, 3, none⟩ = some (.slice ga gl gp) := HL15.out.bg.cell 3 (by simp)
    have C15 := (show Hid _ from HMM.out w14 _ _ _ HL15.out.g (Nat.le_of_lt HL15.out.bg.lt))
    have hD0 : decide ((D : Int) < 0) = false := by simp
    have hD1 : ((D : Int) != (D : Int)) = false := by simp
    go_wp2_with fail
    refine Calls.mono C15.out ?_
    rintro e w15 ⟨rfl, ho15, hg15⟩
    have HL16 := (show Hid (LFc wz (mk M 1) p7 p8 p8 (.slice ga gl gp) [.string mn, .string mx, .bool mf, .slice ga gl gp] w15) from HL15.out.marked ho15 hg15)
    clear ho15 hg15 HL15 C15 t0 t1 t2 t3 HMM
    have t0 : w15.cell? ⟨p8, 0, none⟩ = some (.string mn) := HL16.out.bg.cell 0 (by simp)
    have t1 : w15.cell? ⟨p8, 1, none⟩ = some (.string mx) := HL16.out.bg.cell 1 (by simp)
    have t2 : w15.cell? ⟨p8, 2, none⟩ = some (.bool mf) := HL16.out.bg.cell 2 (by simp)
    have t3 : w15.cell? ⟨p8, 3, none⟩ = some (.slice ga gl gp) := HL16.out.bg.cell 3 (by simp)
    have C16 := (show Hid _ from HHM.out w15 _ _ _ HL16.out.g)
    go_wp2_with fail
    refine Calls.mono C16.out ?_
    rintro e w16 ⟨rfl, hb16⟩
    have HL17 := (show Hid (LFc wz (mk M 1) p7 p8 p8 (.slice ga gl gp) [.string mn, .string mx, .bool mf, .slice ga gl gp] w16) from HL16.out.still hb16)
    clear hb16 HL16 C16 t0 t1 t2 t3
    have H17 := HA.out w16 HL17.out.bel
    have r0 : w16.cell? ⟨w.heap.size, 0, none⟩ = some (.string an) := H17.2.1.cell 0 (by simp)
    have r1 : w16.cell? ⟨w.heap.size, 1, none⟩ = some (.string ax) := H17.2.1.cell 1 (by simp)
    have r2 : w16.cell? ⟨w.heap.size, 2, none⟩ = some (.bool af) := H17.2.1.cell 2 (by simp)
    have r3 : w16.cell? ⟨w.heap.size, 3, none⟩ = some (.slice aa al ap) := H17.2.1.cell 3 (by simp)
    have C17 := (show Hid _ from HUA.out w16 H17.1)
    clear H17
    go_wp2_with fail
    refine Calls.mono C17.out ?_
    rintro e w17 ⟨v17, rfl, hb17, lx17⟩
    obtain ⟨qa, ql, qp, rfl⟩ := lx17.form
    have HL18 := (show Hid (LFc wz (mk M 1) p7 p8 p8 (.slice ga gl gp) [.string mn, .string mx, .bool mf, .slice ga gl gp] w17 ∧ Own w17 w16.heap.size w17.heap.size a (.slice qa ql qp)) from ⟨HL17.out.still hb17, lx17⟩)
    clear hb17 lx17 HL17 C17 r0 r1 r2 r3
    have C18 := (show Hid _ from HUB.out w17 (HA.out _ HL18.out.1.bel).1)
    go_wp2_with fail
    refine Calls.mono C18.out ?_
    rintro e w18 ⟨B18, rfl, hb18, hq, ly18⟩
    clear hq
    have HL19 := (show Hid (LFc wz (mk M 1) p7 p8 p8 (.slice ga gl gp) [.string mn, .string mx, .bool mf, .slice ga gl gp] w18) from HL18.out.1.still hb18)
    have C19 := (show Hid _ from HIM.out w18 _ _ B18 _ (Own.still HL18.out.2 hb18) ly18 HWB.out)
    clear hb18 ly18 HL18 C18
    go_wp2_with fail
    refine Calls.mono C19.out ?_
    rintro e w19 ⟨v19, rfl, hb19, lh⟩
    obtain ⟨ha', hl', hp', rfl⟩ := lh.form
    have hbH := bel_alloc w19 (.cells #[.string mn, .string mx, .bool mf, .slice ha' hl' hp'] 31)
    have HL20 := (show Hid (LFc wz (mk M 1) p7 p8 p8 (.slice ga gl gp) [.string mn, .string mx, .bool mf, .slice ga gl gp] (w19.alloc (.cells #[.string mn, .string mx, .bool mf, .slice ha' hl' hp'] 31))) from HL19.out.still (bel_trans hb19 hbH))
    have H20 := (HA.out _ HL20.out.bel)
    have t0 : (w19.alloc (.cells #[.string mn, .string mx, .bool mf, .slice ha' hl' hp'] 31)).cell? ⟨w19.heap.size, 0, none⟩ = some (.string mn) := (Box.new w19 31 [.string mn, .string mx, .bool mf, .slice ha' hl' hp']).cell 0 (by simp)
    have t1 : (w19.alloc (.cells #[.string mn, .string mx, .bool mf, .slice ha' hl' hp'] 31)).cell? ⟨w19.heap.size, 1, none⟩ = some (.string mx) := (Box.new w19 31 [.string mn, .string mx, .bool mf, .slice ha' hl' hp']).cell 1 (by simp)
    have t2 : (w19.alloc (.cells #[.string mn, .string mx, .bool mf, .slice ha' hl' hp'] 31)).cell? ⟨w19.heap.size, 2, none⟩ = some (.bool mf) := (Box.new w19 31 [.string mn, .string mx, .bool mf, .slice ha' hl' hp']).cell 2 (by simp)
    have t3 : (w19.alloc (.cells #[.string mn, .string mx, .bool mf, .slice ha' hl' hp'] 31)).cell? ⟨w19.heap.size, 3, none⟩ = some (.slice ha' hl' hp') := (Box.new w19 31 [.string mn, .string mx, .bool mf, .slice ha' hl' hp']).cell 3 (by simp)
    have s0 : (w19.alloc (.cells #[.string mn, .string mx, .bool mf, .slice ha' hl' hp'] 31)).cell? ⟨z0, 0, none⟩ = some (.string mn) := H20.2.2.1.cell 0 (by simp)
    have s1 : (w19.alloc (.cells #[.string mn, .string mx, .bool mf, .slice ha' hl' hp'] 31)).cell? ⟨z0, 1, none⟩ = some (.string mx) := H20.2.2.1.cell 1 (by simp)
    have s2 : (w19.alloc (.cells #[.string mn, .string mx, .bool mf, .slice ha' hl' hp'] 31)).cell? ⟨z0, 2, none⟩ = some (.bool mf) := H20.2.2.1.cell 2 (by simp)
    have s3 : (w19.alloc (.cells #[.string mn, .string mx, .bool mf, .slice ha' hl' hp'] 31)).cell? ⟨z0, 3, none⟩ = some (.slice sa sl sp) := H20.2.2.1.cell 3 (by simp)
    have C20 := (show Hid _ from HEM.out _ _ _ ((liesAny lh.lies).still hbH) H20.2.2.2)
    clear hb19 hbH lh HL19 C19 H20 HIM
    go_wp2_with fail
    refine Calls.mono C20.out ?_
    rintro e w20 ⟨rfl, hb20⟩
    have HL21 := (show Hid (LFc wz (mk M 1) p7 p8 p8 (.slice ga gl gp) [.string mn, .string mx, .bool mf, .slice ga gl gp] w20) from HL20.out.still hb20)
    clear hb20 HL20 C20 t0 t1 t2 t3 s0 s1 s2 s3
    have t0 : w20.cell? ⟨p8, 0, none⟩ = some (.string mn) := HL21.out.bg.cell 0 (by simp)
    have t1 : w20.cell? ⟨p8, 1, none⟩ = some (.string mx) := HL21.out.bg.cell 1 (by simp)
    have t2 : w20.cell? ⟨p8, 2, none⟩ = some (.bool mf) := HL21.out.bg.cell 2 (by simp)
    have t3 : w20.cell? ⟨p8, 3, none⟩ = some (.slice ga gl gp) := HL21.out.bg.cell 3 (by simp)
    have C21 := (show Hid _ from HHM.out w20 _ _ _ HL21.out.g)
    go_wp2_with fail
    refine Calls.mono C21.out ?_
    rintro e w21 ⟨rfl, hb21⟩
    have HE := (show Hid (Below w.heap.size w w21) from (HA.out _ (HL21.out.still hb21).bel).1)
    clear hb21 HL21 C21
    go_wp2_with fail
    go_ret
    exact ⟨rfl, HE.out⟩
end Go.Proofs.Ytkkhdkfmaopmfaa
