import Derived.Test.YtilahbfcobhjeaaTf
import Derived.Test.YtilahbfcobhjeaaMx
/-! Programs that are made tighter: onlyThose. -/
namespace Go.Proofs.Ytilahbfcobhjeaa
open Go.RowKit Go.Deep
set_option linter.unusedVariables false
set_option maxRecDepth 100000
set_option linter.unusedSimpArgs false

/-- Numbers in a block of their own, as a function of their places. -/
def IF (w : World) (g n : Nat) (f : Nat → Int) : Prop := ∃ c F, w.rowIs g 3 c F ∧ n ≤ c ∧ ∀ i, i < n → F i = .int .i64 (f i)
/-- Instructions in a row of its own that has room for c. -/
def XC (w : World) (g c : Nat) (l : List DIns) : Prop := l.length ≤ c ∧ c ≤ maxLen ∧ ∃ f, w.rowIs g 57 (c * 3) f ∧ ∀ i (hi : i < l.length), f (i * 3) = .int .i64 l[i].op ∧ f (i * 3 + 1) = .int .i64 l[i].n ∧ f (i * 3 + 2) = .int .i64 l[i].to_
section
variable {w w' : World} {g n c : Nat} {f : Nat → Int} {l : List DIns}
theorem IF.keep (h : IF w g n f) (hb : w'.heap[g]? = w.heap[g]?) : IF w' g n f := by obtain ⟨c, F, h, e⟩ := h; exact ⟨c, F, h.of_block hb, e⟩
theorem IF.lt (h : IF w g n f) : g < w.heap.size := by obtain ⟨c, F, h, e⟩ := h; exact h.lt
theorem IF.still (h : IF w g n f) (hb : Below w.heap.size w w') : IF w' g n f := h.keep (hb.block g h.lt)
theorem IF.cell (h : IF w g n f) {i : Nat} (hi : i < n) : w.cell? ⟨g, i, none⟩ = some (.int .i64 (f i)) := by
  obtain ⟨c, F, h, h1, h2⟩ := h
  rw [h.cell (by omega), h2 i hi]
theorem IF.frozen (h : IF w g n f) (i : Nat) : w.frozen? ⟨g, i, none⟩ = false := by obtain ⟨c, F, h, _⟩ := h; exact h.frozen i
theorem IF.set (h : IF w g n f) (i : Nat) (x : Int) : IF (w.setCell ⟨g, i, none⟩ (.int .i64 x)) g n (fun j => if j = i then x else f j) := by
  obtain ⟨c, F, h, h1, h2⟩ := h
  refine ⟨c, _, h.set i (.int .i64 x), h1, fun j hj => ?_⟩
  by_cases e : j = i
  · subst e; simp
  · simp only [if_neg e]; exact h2 j hj
theorem IF.made (w : World) (n : Nat) : IF (w.alloc (.cells (madeCells #[.int .i64 0] n) 3)) w.heap.size n (fun _ => 0) :=
  ⟨n, fun _ => .int .i64 0, ⟨madeCells #[.int .i64 0] n, blk_alloc_new _ _, by simp [madeCells], fun i hi => by simp [madeCells, hi, Nat.mod_one]⟩, Nat.le_refl _, fun i hi => rfl⟩
theorem XC.keep (h : XC w g c l) (hb : w'.heap[g]? = w.heap[g]?) : XC w' g c l := by obtain ⟨h1, h2, F, h, e⟩ := h; exact ⟨h1, h2, F, h.of_block hb, e⟩
theorem XC.lt (h : XC w g c l) : g < w.heap.size := by obtain ⟨_, _, F, h, e⟩ := h; exact h.lt
theorem XC.xr (h : XC w g c l) : XR w g l := by obtain ⟨h1, h2, F, h, e⟩ := h; exact ⟨c * 3, F, h, by omega, e⟩
theorem XC.frozen (h : XC w g c l) (i : Nat) : w.frozen? ⟨g, i, none⟩ = false := by obtain ⟨_, _, F, h, e⟩ := h; exact h.frozen i
theorem XC.own (h : XC w g c l) : OwnX w g l (.slice (some ⟨g, 0, none⟩) l.length c) := by
  obtain ⟨h1, h2, F, h, e⟩ := h
  exact ⟨_, c, F, rfl, h1, h2, fun _ => ⟨rfl, h⟩, e⟩
theorem XC.of {base : Nat} (h : w.ownsRow base 57 3 (.slice (some ⟨g, 0, none⟩) l.length c) l.length (xv l)) : XC w g c l := by
  obtain ⟨h1, h2, h3, h4⟩ := own_row h
  refine ⟨h1, h2, _, h3, fun i hi => ?_⟩
  have hx : ∀ k, k < 3 → (xv l)[i * 3 + k]? = [Value.int .i64 l[i].op, .int .i64 l[i].n, .int .i64 l[i].to_][k]? := by
    intro k hk
    have hl : (l.take i).length = i := by simp; omega
    have e : xv l = xv (l.take i) ++ ([Value.int .i64 l[i].op, .int .i64 l[i].n, .int .i64 l[i].to_] ++ xv (l.drop (i + 1))) := by
      have e1 : l.take i ++ (l[i] :: l.drop (i + 1)) = l := by rw [← List.drop_eq_getElem_cons hi, List.take_append_drop]
      have e2 : xv (l[i] :: l.drop (i + 1)) = [Value.int .i64 l[i].op, .int .i64 l[i].n, .int .i64 l[i].to_] ++ xv (l.drop (i + 1)) := rfl
      rw [← e2, ← xv_append, e1]
    rw [e, List.getElem?_append_right (by rw [xv_len, hl]; omega), xv_len, hl, Nat.add_sub_cancel_left, List.getElem?_append_left (by simpa using hk)]
  exact ⟨h4 _ _ (by omega) (hx 0 (by omega)), h4 _ _ (by omega) (hx 1 (by omega)), h4 _ _ (by omega) (hx 2 (by omega))⟩
/-- A To is written. -/
theorem XC.setTo (h : XC w g c l) {i : Nat} (hi : i < l.length) (x : Int) : XC (w.setCell ⟨g, i * 3 + 2, none⟩ (.int .i64 x)) g c (l.set i ⟨l[i].op, l[i].n, x⟩) := by
  obtain ⟨h1, h2, F, h, e⟩ := h
  refine ⟨by simpa using h1, h2, _, h.set (i * 3 + 2) (.int .i64 x), fun j hj => ?_⟩
  rw [List.length_set] at hj
  obtain ⟨e0, e1, e2⟩ := e j hj
  by_cases ej : j = i
  · subst ej
    simp only [List.getElem_set_self]
    exact ⟨by rw [if_neg (by omega)]; exact e0, by rw [if_neg (by omega)]; exact e1, by simp⟩
  · simp only [List.getElem_set_ne (fun h : i = j => ej h.symm)]
    exact ⟨by rw [if_neg (by omega)]; exact e0, by rw [if_neg (by omega)]; exact e1, by rw [if_neg (by omega)]; exact e2⟩
theorem IF.apart {g' : Nat} (h : IF w g n f) (h' : XC w g' c l) : g ≠ g' := by
  obtain ⟨_, F, h, _⟩ := h
  obtain ⟨_, _, F', h', _⟩ := h'
  exact row_apart h h' (by decide)
end
/-- Those of the first j that stay, as they are. -/
def kpL (lv : List Bool) (l : List DIns) (j : Nat) : List DIns := (((l.zip lv).take j).filter (fun p => !p.2)).map (fun p => p.1)
theorem kpL_succ {lv : List Bool} {l : List DIns} {i : Nat} (hi : i < l.length) (hv : i < lv.length) : kpL lv l (i + 1) = kpL lv l i ++ (if lv[i] = true then [] else [l[i]]) := by
  unfold kpL
  have hz : i < (l.zip lv).length := by simp; omega
  rw [List.take_succ_eq_append_getElem hz, List.filter_append, List.map_append]
  congr 1
  rw [List.getElem_zip]
  cases lv[i] <;> rfl
theorem kpL_len {lv : List Bool} {l : List DIns} (hlv : lv.length = l.length) : ∀ j, j ≤ l.length → (kpL lv l j).length = stN lv j := by
  intro j
  induction j with
  | zero => intro _; rfl
  | succ j ih =>
    intro hj
    rw [kpL_succ (by omega) (by omega), List.length_append, ih (by omega), stN_succ (by omega)]
    split <;> rfl
def toS (lv : List Bool) (x : DIns) : DIns := ⟨x.op, x.n, (stN lv x.to_.toNat : Nat)⟩
theorem kp_wt {lv : List Bool} {l : List DIns} (h0 : ∀ i (hi : i < l.length), ¬ htB l[i].op = true → l[i].to_ = 0) : (kpL lv l l.length).map (toS lv) = wtO lv l l.length := by
  unfold kpL wtO
  rw [List.map_map]
  apply List.map_congr_left
  intro p hp
  have hm := List.mem_of_mem_take (List.mem_filter.1 hp).1
  obtain ⟨x, b⟩ := p
  obtain ⟨hx, _⟩ := List.of_mem_zip hm
  obtain ⟨i, hi, e⟩ := List.getElem_of_mem hx
  simp only [Function.comp]
  unfold toS wtX
  by_cases hh : htB x.op = true
  · rw [if_pos hh]
  · rw [if_neg hh]
    have := h0 i hi (by rw [e]; exact hh)
    rw [e] at this
    cases x with | mk o nn tt =>
      dsimp only at this ⊢
      subst this
      rfl
theorem kpL_mem {lv : List Bool} {l : List DIns} {j : Nat} {x : DIns} (h : x ∈ kpL lv l j) : x ∈ l := by
  unfold kpL at h
  obtain ⟨p, hp, rfl⟩ := List.mem_map.1 h
  have hm := List.mem_of_mem_take (List.mem_filter.1 hp).1
  obtain ⟨x, b⟩ := p
  exact (List.of_mem_zip hm).1
theorem run_makeI (n : Nat) (hn : n ≤ 50000) (w : World) :
    (Instr.makeSlice 29 (.int .i64 (n : Int)) (.int .i64 (n : Int))).run Try.prog w = .ok (.slice (some ⟨w.heap.size, 0, none⟩) n n) (w.alloc (.cells (madeCells #[.int .i64 0] n) 3)) := by
  obtain ⟨i, hi, hzz⟩ := Option.map_eq_some_iff.1 info3p
  simp only [Prod.mk.injEq] at hzz
  obtain ⟨hz, hs, hb⟩ := hzz
  have hr := run_make (P := Try.prog) w 29 3 i _ Try.underlying29 hi hz .i64 .i64 n n (by omega) (Int.le_refl _) (by rw [hb]; omega) (by omega)
  simp only [Int.toNat_natCast, hs, Nat.mul_one] at hr
  exact hr
/-- A program as it is answered. -/
def OnA (r : List DIns) (w : World) (e : Ending) (w' : World) : Prop := ∃ v b, e = .returned v ∧ Below w.heap.size w w' ∧ OwnX w' b r v ∧ (0 < r.length → w.heap.size ≤ b)
theorem step_map {K : List DIns} {k : Nat} (hk : k < K.length) (f : DIns → DIns) : ((K.take k).map f ++ K.drop k).set k (f K[k]) = (K.take (k + 1)).map f ++ K.drop (k + 1) := by
  have hl : ((K.take k).map f).length = k := by simp; omega
  rw [List.set_append_right _ _ (by omega), hl, Nat.sub_self, List.drop_eq_getElem_cons hk, List.set_cons_zero, List.take_succ_eq_append_getElem hk, List.map_append, List.append_assoc]
  rfl
theorem step_at {K : List DIns} {k : Nat} (hk : k < K.length) (f : DIns → DIns) (h : k < ((K.take k).map f ++ K.drop k).length) : ((K.take k).map f ++ K.drop k)[k] = K[k] := by
  have hl : ((K.take k).map f).length = k := by simp; omega
  rw [List.getElem_append_right (by omega)]
  simp only [hl, Nat.sub_self, List.getElem_drop, Nat.add_zero]

set_option maxHeartbeats 40000000 in
theorem only70 {S S' : Nat → Prop} (l : List DIns) (st : List Bool) (v u : Value) (w : World) (h : InsR w S l v) (hu : BlsR w S' st u) (hst : st.length = l.length) (hl : l.length ≤ 50000)
    (hto : ∀ i (hi : i < l.length), 0 ≤ l[i].to_ ∧ l[i].to_ < l.length) (h0 : ∀ i (hi : i < l.length), ¬ htB l[i].op = true → l[i].to_ = 0) :
    Calls Try.prog 70 #[v, u] w (OnA (wtO (notB st) l l.length) w) := by
  obtain ⟨lv, hlv⟩ : ∃ lv, lv = notB st := ⟨_, rfl⟩
  have hvl : lv.length = l.length := by rw [hlv, notB_len]; exact hst
  have HST : Hid (∀ i (hi : i < st.length) (hi' : i < lv.length), st[i] = !lv[i]) := fun i hi hi' => (by subst hlv; rw [notB_getD hi]; simp)
  have HKW := (show Hid _ from kp_wt (lv := lv) h0)
  have HKM := (show Hid (∀ x, x ∈ kpL lv l l.length → 0 ≤ x.to_ ∧ x.to_ < l.length) from fun x hx => by
    obtain ⟨i, hi, e⟩ := List.getElem_of_mem (kpL_mem hx)
    rw [← e]; exact hto i hi)
  have HKL := (show Hid _ from kpL_len hvl)
  rw [← hlv, ← HKW.out]
  clear hlv h0 HKW
  obtain ⟨a, cap, b, off, rfl, hc, hm, ha, hcell⟩ := h
  obtain ⟨au, cu, bu, ou, rfl, hcu, hmu, hau, hcellu⟩ := hu
  have HC := (show Hid _ from hcell); clear hcell
  have HA := (show Hid _ from ha); clear ha
  have HCU := (show Hid _ from hcellu); clear hcellu
  have HAU := (show Hid _ from hau); clear hau
  have HTO := (show Hid _ from hto); clear hto
  rw [hst] at hcu ⊢
  have HS := (show Hid _ from hst); clear hst
  have HV := (show Hid _ from hvl); clear hvl
  unfold maxLen at hm hmu
  obtain ⟨i57, hi57, hyy⟩ := Option.map_eq_some_iff.1 info57p
  simp only [Prod.mk.injEq] at hyy
  obtain ⟨hy0, hy1, hy2⟩ := hyy
  have hmk := run_makeI l.length hl w
  obtain ⟨RES, hRES⟩ : ∃ RES, RES = (kpL lv l l.length).map (toS lv) := ⟨_, rfl⟩
  rw [← hRES]
  have HRES := (show Hid _ from hRES); clear hRES
  have HI0 := (show Hid (Below w.heap.size w (w.alloc (.cells (madeCells #[.int .i64 0] l.length) 3)) ∧ IF (w.alloc (.cells (madeCells #[.int .i64 0] l.length) 3)) w.heap.size l.length (fun _ => 0)) from ⟨bel_alloc _ _, IF.made w l.length⟩)
  go_enter Try.func70, Try.ntmps70
  go_wp2_with fail
  generalize hW1 : w.alloc (.cells (madeCells #[.int .i64 0] l.length) 3) = w1 at *
  clear hW1 hmk
  go_loopw [5, 15] (fun q i wr => ∃ (j : Nat) (a' : Option Addr) (c' : Nat) (f : Nat → Int), q = .slice a' (stN lv j) c' ∧ i = .int .i64 j ∧ j ≤ l.length ∧ Hid (Below w.heap.size w wr ∧ IF wr w.heap.size l.length f ∧ (∀ i, i < j → f i = (stN lv i : Nat)) ∧ wr.ownsRow (w.heap.size + 1) 57 3 (.slice a' (stN lv j) c') (stN lv j) (xv (kpL lv l j)) ∧ w.heap.size + 1 ≤ wr.heap.size)) (fun _ i _ => l.length - (intOf i).toNat)
  case atStart =>
    refine ⟨0, none, 0, fun _ => 0, rfl, rfl, Nat.zero_le _, HI0.out.1, HI0.out.2, fun i hi => absurd hi (Nat.not_lt_zero _), ⟨rfl, .inl ⟨rfl, rfl⟩⟩, ?_⟩
    have := HI0.out.2.lt
    omega
  case round =>
    obtain ⟨j, a', c', f, rfl, rfl, hj, HJ⟩ := hrel
    obtain ⟨q1, q2, q3, q4, q5⟩ := HJ.out
    have hsj := stN_le lv j
    by_cases hjl : j < l.length
    case pos =>
      obtain ⟨rfl, _⟩ := HA.out (by omega)
      obtain ⟨rfl, _⟩ := HAU.out (by rw [HS.out]; omega)
      obtain ⟨c0, c1, c2⟩ := HC.out j hjl
      have cu0 := HCU.out j (by rw [HS.out]; exact hjl)
      rw [HST.out j (by rw [HS.out]; exact hjl) (by rw [HV.out]; exact hjl)] at cu0
      have cuw := cu0
      have hbb : b < w.heap.size := lt_of_cell c0
      have hbub : bu < w.heap.size := lt_of_cell cu0
      rw [← q1.cell (lt_of_cell c0)] at c0
      rw [← q1.cell (lt_of_cell c1)] at c1
      rw [← q1.cell (lt_of_cell c2)] at c2
      rw [← q1.cell (lt_of_cell cu0)] at cu0
      have hks := kpL_succ (lv := lv) hjl (by rw [HV.out]; exact hjl)
      have hss := stN_succ (lv := lv) (i := j) (by rw [HV.out]; exact hjl)
      have hif := q2.frozen j
      have hic := q2.cell hjl
      have hlj := (show Hid (l[j] = ⟨l[j].op, l[j].n, l[j].to_⟩) from rfl)
      generalize lv[j]'(by rw [HV.out]; exact hjl) = Y at *
      obtain ⟨LJ, hLJ⟩ : ∃ LJ, LJ = l[j] := ⟨_, rfl⟩
      rw [← hLJ] at hks hlj c0 c1 c2
      clear hLJ
      generalize LJ.op = xo at *
      generalize LJ.n = xn at *
      generalize LJ.to_ = xt at *
      have hwl : w.heap.size < wr.heap.size := by omega
      have hB2 : Below w.heap.size w ((wr.setCell ⟨w.heap.size, j, none⟩ (.int .i64 (stN lv j : Nat))).alloc (.cells #[.int .i64 xo, .int .i64 xn, .int .i64 xt] 57)) := bel_trans (q1.setCell (by exact Nat.le_refl _) _) (bel_alloc _ _)
      have cu2 := (hB2.cell (lt_of_cell cuw)).trans cuw
      have HF2 := (show Hid (IF ((wr.setCell ⟨w.heap.size, j, none⟩ (.int .i64 (stN lv j : Nat))).alloc (.cells #[.int .i64 xo, .int .i64 xn, .int .i64 xt] 57)) w.heap.size l.length (fun i => if i = j then (stN lv j : Nat) else f i)) from (q2.set j _).still (bel_alloc _ _))
      have HO2 := (show Hid (((wr.setCell ⟨w.heap.size, j, none⟩ (.int .i64 (stN lv j : Nat))).alloc (.cells #[.int .i64 xo, .int .i64 xn, .int .i64 xt] 57)).ownsRow (w.heap.size + 1) 57 3 (.slice a' (stN lv j) c') (stN lv j) (xv (kpL lv l j))) from by
        have o1 : (wr.setCell ⟨w.heap.size, j, none⟩ (.int .i64 (stN lv j : Nat))).ownsRow (w.heap.size + 1) 57 3 (.slice a' (stN lv j) c') (stN lv j) (xv (kpL lv l j)) := own_keep q4 (fun q hq => blk_setCell_other _ _ _ _ (by show q ≠ w.heap.size; have := (own_lt q4 hq).1; omega))
        exact own_keep o1 (fun q hq => (bel_alloc _ _).block q (own_lt o1 hq).2))
      have HFV := (show Hid (∀ i, i < j + 1 → (if i = j then ((stN lv j : Nat) : Int) else f i) = (stN lv i : Nat)) from fun i hi => by
        by_cases e : i = j
        · subst e; simp
        · rw [if_neg e]; exact q3 i (by omega))
      have HB2 := (show Hid _ from hB2)
      clear HJ q1 q2 q3 q4 hB2 cuw
      cases Y
      case true =>
        have hks' : kpL lv l (j + 1) = kpL lv l j := by rw [hks]; simp
        have hss' : stN lv (j + 1) = stN lv j := by rw [hss]; simp
        have HK := (show Hid _ from (⟨hks', hss'⟩ : _ ∧ _))
        clear hks hss hks' hss'
        go_wp2_with fail
        refine ⟨⟨j + 1, a', c', _, by rw [HK.out.2], by go_num, by omega, HB2.out, HF2.out, HFV.out, by rw [HK.out.1, HK.out.2]; exact HO2.out, by simp; omega⟩, by simp [intOf]; omega⟩
      case false =>
        have hks' : kpL lv l (j + 1) = kpL lv l j ++ [⟨xo, xn, xt⟩] := by rw [hks, hlj.out]; simp
        have hss' : stN lv (j + 1) = stN lv j + 1 := by rw [hss]; simp
        have HK := (show Hid _ from (⟨hks', hss'⟩ : _ ∧ _))
        have HO3 := (show Hid _ from own_keep HO2.out (w' := (((wr.setCell ⟨w.heap.size, j, none⟩ (.int .i64 (stN lv j : Nat))).alloc (.cells #[.int .i64 xo, .int .i64 xn, .int .i64 xt] 57)).alloc (.cells #[.int .i64 xo, .int .i64 xn, .int .i64 xt] 57))) (fun q hq => (bel_alloc ((wr.setCell ⟨w.heap.size, j, none⟩ (.int .i64 (stN lv j : Nat))).alloc (.cells #[.int .i64 xo, .int .i64 xn, .int .i64 xt] 57)) (.cells #[.int .i64 xo, .int .i64 xn, .int .i64 xt] 57)).block q (own_lt HO2.out hq).2))
        have hnb := World.news_of_block (blk_alloc_new ((wr.setCell ⟨w.heap.size, j, none⟩ (.int .i64 (stN lv j : Nat))).alloc (.cells #[.int .i64 xo, .int .i64 xn, .int .i64 xt] 57)) (.cells #[.int .i64 xo, .int .i64 xn, .int .i64 xt] 57))
        simp only [World.size_alloc] at hnb
        rw [show (wr.setCell ⟨w.heap.size, j, none⟩ (.int .i64 (stN lv j : Nat))).heap.size = wr.heap.size by simp] at hnb
        have HNB := (show Hid _ from hnb); clear hnb
        have HLE := (show Hid _ from hsj)
        clear hks hss hks' hss'
        generalize stN lv j = NN at *
        go_wp2_with (at_builtin; refine wpList_append_lies _ rfl (.tmp 29) (.tmp 31) 25 rfl (w.heap.size + 1) 57 i57 _ 3 24 Try.underlying25 hi57 hy0 hy1 hy2 rfl (by decide) _ NN _ rfl HO3.out ⟨wr.heap.size + 1, 0, none⟩ 1 1 [.int .i64 xo, .int .i64 xn, .int .i64 xt] rfl rfl HNB.out (by intro u hu; simp at hu; rcases hu with rfl | rfl | rfl <;> rfl) (by decide) (by unfold maxLen; omega) (by omega) (by simp; omega) _ rfl ?_; intro g8 cap8 w8 hown8 hgr8 hat8 hlt8)
        have HG8 := (show Hid (Below w.heap.size w w8 ∧ IF w8 w.heap.size l.length (fun i => if i = j then ((NN : Nat) : Int) else f i) ∧ w.heap.size + 1 ≤ w8.heap.size) from by
          have hb3 := bel_trans HB2.out (bel_alloc ((wr.setCell ⟨w.heap.size, j, none⟩ (.int .i64 (NN : Nat))).alloc (.cells #[.int .i64 xo, .int .i64 xn, .int .i64 xt] 57)) (.cells #[.int .i64 xo, .int .i64 xn, .int .i64 xt] 57))
          have hi3 := HF2.out.still (bel_alloc ((wr.setCell ⟨w.heap.size, j, none⟩ (.int .i64 (NN : Nat))).alloc (.cells #[.int .i64 xo, .int .i64 xn, .int .i64 xt] 57)) (.cells #[.int .i64 xo, .int .i64 xn, .int .i64 xt] 57))
          refine ⟨hb3.grown hgr8 (by simp; omega) (fun q hq => by have := (own_lt HO3.out hq).1; omega), hi3.keep (hgr8.block _ hi3.lt (fun e => by have := (own_lt HO3.out e.symm).1; omega)), ?_⟩
          have := hgr8.size
          simp at this
          omega)
        have HO8 := (show Hid _ from hown8)
        clear hown8 hgr8 hat8 hlt8
        refine ⟨⟨j + 1, _, cap8, _, by rw [HK.out.2], by go_num, by omega, HG8.out.1, HG8.out.2.1, HFV.out, ?_, HG8.out.2.2⟩, by simp [intOf]; omega⟩
        rw [HK.out.1, HK.out.2, xv_append]
        exact HO8.out
    case neg =>
      obtain rfl : j = l.length := by omega
      have hkl := HKL.out l.length (Nat.le_refl _)
      obtain ⟨K, hK⟩ : ∃ K, K = kpL lv l l.length := ⟨_, rfl⟩
      rw [← hK] at hkl q4 HRES HKM
      rw [← hkl] at q4 hsj ⊢
      clear hK
      have HFA := (show Hid _ from q3)
      have HB := (show Hid _ from q1)
      have HIF := (show Hid _ from q2)
      have HOW := (show Hid _ from q4)
      have HSZ := (show Hid _ from q5)
      clear HJ q1 q2 q3 q4 q5 HC HA HCU HAU HTO HST HI0
      by_cases hm0 : K.length = 0
      case pos =>
        have HE := (show Hid (OnA RES w (.returned (.slice a' 0 c')) wr) from by
          obtain rfl : K = [] := List.length_eq_zero_iff.1 hm0
          rw [HRES.out]
          have hcc : c' ≤ maxLen := by
            rcases HOW.out.2 with ⟨e, _⟩ | ⟨g', cap', cur, e, _, _, _, hcm, _, _⟩
            · injection e with e1 e2 e3; unfold maxLen; omega
            · injection e with e1 e2 e3; omega
          exact ⟨_, 0, rfl, HB.out, ⟨a', c', fun _ => .nilFunc, rfl, Nat.zero_le _, hcc, fun h => absurd h (Nat.lt_irrefl _), fun i hi => absurd hi (Nat.not_lt_zero _)⟩, fun h => absurd h (Nat.lt_irrefl _)⟩)
        rw [hm0]
        clear hm0 HOW HIF HB
        go_wp2_with fail
        rename World => wo
        go_loopw [36] (fun i wq => i = .int .i64 0 ∧ wo = wq) (fun _ _ => 0)
        case atStart => exact ⟨rfl, rfl⟩
        case round =>
          obtain ⟨rfl, rfl⟩ := hrel
          go_wp2_with fail
          go_ret
          exact HE.out
      case neg =>
        obtain ⟨g5, rfl⟩ : ∃ g5, a' = some ⟨g5, 0, none⟩ := by
          rcases HOW.out.2 with ⟨e, h⟩ | ⟨g', cap', cur, e, _⟩
          · exact absurd h hm0
          · injection e with e1 e2 e3; exact ⟨g', e1⟩
        have hxc : XC wr g5 c' K := XC.of HOW.out
        have HG5 := (show Hid (w.heap.size + 1 ≤ g5) from (own_lt HOW.out (b := g5) rfl).1)
        have hcc := hxc.1
        have hcm := hxc.2.1
        unfold maxLen at hcm
        have HXC := (show Hid _ from hxc)
        clear hxc HOW
        go_wp2_with fail
        rename World => wo
        go_loopw [36] (fun i wq => ∃ k : Nat, i = .int .i64 k ∧ k ≤ K.length ∧ Hid (Below w.heap.size w wq ∧ IF wq w.heap.size l.length f ∧ XC wq g5 c' ((K.take k).map (toS lv) ++ K.drop k))) (fun i _ => K.length - (intOf i).toNat)
        case atStart => exact ⟨0, rfl, Nat.zero_le _, HB.out, HIF.out, (show XC wo g5 c' (List.map (toS lv) [] ++ K) from HXC.out)⟩
        case round =>
          rename World => wq
          obtain ⟨k, rfl, hk, HQ⟩ := hrel
          by_cases hkl2 : k < K.length
          case pos =>
            obtain ⟨q1, q2, q3⟩ := HQ.out
            have hlen : k < ((K.take k).map (toS lv) ++ K.drop k).length := by simp; omega
            obtain ⟨x0, x1, x2⟩ := q3.xr.cells hlen
            rw [step_at hkl2] at x0 x1 x2
            obtain ⟨t0, t1⟩ := HKM.out K[k] (List.getElem_mem hkl2)
            have hset := q3.setTo hlen ((stN lv K[k].to_.toNat : Nat) : Int)
            rw [step_at hkl2] at hset
            rw [show (⟨K[k].op, K[k].n, ((stN lv K[k].to_.toNat : Nat) : Int)⟩ : DIns) = toS lv K[k] from rfl, step_map hkl2] at hset
            obtain ⟨tt, ht⟩ : ∃ tt : Nat, K[k].to_ = tt := ⟨K[k].to_.toNat, by omega⟩
            rw [ht] at x2 t1 hset
            rw [Int.toNat_natCast] at hset
            have htl : tt < l.length := by omega
            have ci := q2.cell htl
            rw [HFA.out tt htl] at ci
            have fz := q3.frozen (k * 3 + 2)
            have hne : g5 ≠ w.heap.size := fun e => (q2.apart q3) e.symm
            have HN := (show Hid (Below w.heap.size w (wq.setCell ⟨g5, k * 3 + 2, none⟩ (.int .i64 (stN lv tt : Nat))) ∧ IF (wq.setCell ⟨g5, k * 3 + 2, none⟩ (.int .i64 (stN lv tt : Nat))) w.heap.size l.length f ∧ XC (wq.setCell ⟨g5, k * 3 + 2, none⟩ (.int .i64 (stN lv tt : Nat))) g5 c' ((K.take (k + 1)).map (toS lv) ++ K.drop (k + 1))) from ⟨q1.setCell (by show w.heap.size ≤ g5; have := HG5.out; omega) _, q2.keep (blk_setCell_other _ _ _ _ (by show w.heap.size ≠ g5; exact fun e => hne e.symm)), hset⟩)
            clear HQ q1 q2 q3 hset x0 x1 ht t0 t1 hlen
            generalize stN lv tt = ST at *
            go_wp2_with fail
            exact ⟨⟨k + 1, by go_num, by omega, HN.out⟩, by simp [intOf]; omega⟩
          case neg =>
            obtain rfl : k = K.length := by omega
            have HE := (show Hid (OnA RES w (.returned (.slice (some ⟨g5, 0, none⟩) K.length c')) wq) from by
              obtain ⟨q1, q2, q3⟩ := HQ.out
              rw [List.take_length, List.drop_length, List.append_nil, ← HRES.out] at q3
              have hrl : RES.length = K.length := by rw [HRES.out]; simp
              have ho := q3.own
              rw [hrl] at ho
              exact ⟨_, g5, rfl, q1, ho, fun _ => by have := HG5.out; omega⟩)
            go_wp2_with fail
            go_ret
            exact HE.out

end Go.Proofs.Ytilahbfcobhjeaa
