import Derived.Test.YtilahbfcobhjeaaTa
/-! Programs that are made tighter: without those that leave. -/
namespace Go.Proofs.Ytilahbfcobhjeaa
open Go.RowKit Go.Deep
set_option linter.unusedVariables false
set_option maxRecDepth 100000
set_option linter.unusedSimpArgs false

/-- Truth values that lie behind a slice, in a block of S. -/
def BlsR (w : World) (S : Nat → Prop) (l : List Bool) (v : Value) : Prop :=
  ∃ (a : Option Addr) (cap b off : Nat), v = .slice a l.length cap ∧ l.length ≤ cap ∧ cap ≤ maxLen ∧ (0 < l.length → a = some ⟨b, off, none⟩ ∧ S b) ∧ ∀ i (hi : i < l.length), w.cell? ⟨b, off + i, none⟩ = some (.bool l[i])
theorem BlsR.keep {w w' : World} {S : Nat → Prop} {l : List Bool} {v : Value} (h : BlsR w S l v) (hb : ∀ b, S b → b < w.heap.size → w'.heap[b]? = w.heap[b]?) : BlsR w' S l v := by
  obtain ⟨a, cap, b, off, hv, hc, hm, ha, hcell⟩ := h
  exact ⟨a, cap, b, off, hv, hc, hm, ha, fun i hi => (World.cell?_of_block (w := w) (hb b (ha (by omega)).2 (lt_of_cell (hcell i hi)))).trans (hcell i hi)⟩
theorem BlsR.still {w w' : World} {S : Nat → Prop} {l : List Bool} {v : Value} (h : BlsR w S l v) (hb : Below w.heap.size w w') : BlsR w' S l v := h.keep (fun b _ hlt => hb.block b hlt)
/-- How many of the first i stay. -/
def stN (lv : List Bool) (i : Nat) : Nat := ((lv.take i).filter (fun x => !x)).length
theorem stN_zero (lv : List Bool) : stN lv 0 = 0 := rfl
theorem stN_succ {lv : List Bool} {i : Nat} (hi : i < lv.length) : stN lv (i + 1) = stN lv i + (if lv[i] = true then 0 else 1) := by
  unfold stN
  rw [List.take_succ_eq_append_getElem hi, List.filter_append, List.length_append]
  congr 1
  cases lv[i] <;> rfl
theorem stN_le (lv : List Bool) (i : Nat) : stN lv i ≤ i := by
  unfold stN
  have h1 := List.length_filter_le (fun x => !x) (lv.take i)
  have h2 : (lv.take i).length ≤ i := by simp; omega
  omega
/-- One that stays, its To where it comes to stand. -/
def wtX (lv : List Bool) (x : DIns) : DIns := if htB x.op = true then ⟨x.op, x.n, (stN lv x.to_.toNat : Nat)⟩ else x
/-- Those of the first i that stay. -/
def wtO (lv : List Bool) (l : List DIns) (i : Nat) : List DIns := (((l.zip lv).take i).filter (fun p => !p.2)).map (fun p => wtX lv p.1)
theorem wtO_zero (lv : List Bool) (l : List DIns) : wtO lv l 0 = [] := rfl
theorem wtO_succ {lv : List Bool} {l : List DIns} {i : Nat} (hi : i < l.length) (hv : i < lv.length) : wtO lv l (i + 1) = wtO lv l i ++ (if lv[i] = true then [] else [wtX lv l[i]]) := by
  unfold wtO
  have hz : i < (l.zip lv).length := by simp; omega
  rw [List.take_succ_eq_append_getElem hz, List.filter_append, List.map_append]
  congr 1
  rw [List.getElem_zip]
  cases lv[i] <;> rfl
theorem wtO_len (lv : List Bool) (l : List DIns) (i : Nat) : (wtO lv l i).length ≤ i := by
  unfold wtO
  have h1 := List.length_filter_le (fun p : DIns × Bool => !p.2) ((l.zip lv).take i)
  have h2 : ((l.zip lv).take i).length ≤ i := by simp; omega
  simp only [List.length_map]
  omega
/-- A program's cells. -/
def xv (l : List DIns) : List Value := l.flatMap (fun x => [.int .i64 x.op, .int .i64 x.n, .int .i64 x.to_])
theorem xv_len (l : List DIns) : (xv l).length = l.length * 3 := by
  unfold xv
  induction l with
  | nil => rfl
  | cons x l ih => simp only [List.flatMap_cons, List.length_append, ih, List.length_cons, List.length_nil]; omega
theorem xv_append (l l' : List DIns) : xv (l ++ l') = xv l ++ xv l' := by unfold xv; rw [List.flatMap_append]
theorem info57p : (Try.prog.info? 57).map (fun i => (i.zero, i.size, i.bytes)) = some (some (.agg #[.int .i64 0, .int .i64 0, .int .i64 0]), 3, 24) := by kernel_rfl
/-- What Without answers. -/
def WoA (l : List DIns) (w : World) (e : Ending) (w' : World) : Prop := ∃ g c, e = .returned (.slice (some ⟨g, 0, none⟩) l.length c) ∧ Below w.heap.size w w' ∧ w'.ownsRow w.heap.size 57 3 (.slice (some ⟨g, 0, none⟩) l.length c) l.length (xv l)
theorem own_bel {w w' : World} {B base e size n : Nat} {v : Value} {xs : List Value} (h : w.ownsRow base e size v n xs) (hb : Below B w w') (hB : ∀ q, v.ownBlock = some q → q < B) : w'.ownsRow base e size v n xs := own_keep h (fun b e => hb.block b (hB b e))
/-- The numbers of those that stay ahead. -/
def stL (lv : List Bool) (i : Nat) : List Int := (List.range i).map (fun k => ((stN lv k : Nat) : Int))
theorem stL_len (lv : List Bool) (i : Nat) : (stL lv i).length = i := by simp [stL]
theorem stL_succ (lv : List Bool) (i : Nat) : stL lv (i + 1) = stL lv i ++ [((stN lv i : Nat) : Int)] := by simp [stL, List.range_succ]
theorem stL_get {lv : List Bool} {i k : Nat} (h : k < (stL lv i).length) : (stL lv i)[k] = ((stN lv k : Nat) : Int) := by simp [stL]
set_option maxHeartbeats 6400000 in
theorem without102 {S S' : Nat → Prop} (l : List DIns) (lv : List Bool) (v u : Value) (w : World) (h : InsR w S l v) (hu : BlsR w S' lv u) (hn : lv.length = l.length) (hl : l.length ≤ 50000) (hto : ∀ i (hi : i < l.length), htB l[i].op = true → 0 ≤ l[i].to_ ∧ l[i].to_ < l.length) :
    Calls Try.prog 102 #[v, u] w fun e w' => WoA (wtO lv l l.length) w e w' := by
  obtain ⟨a, cap, b, off, rfl, hc, hm, ha, hcell⟩ := h
  obtain ⟨au, cu, bu, ou, rfl, hcu, hmu, hau, hcellu⟩ := hu
  have HC := (show Hid _ from hcell); clear hcell
  have HA := (show Hid _ from ha); clear ha
  have HCU := (show Hid _ from hcellu); clear hcellu
  have HAU := (show Hid _ from hau); clear hau
  have HTO := (show Hid _ from hto); clear hto
  have HHT := (show Hid _ from fun (x : Int) (w' : World) => hasTo32 x w')
  unfold maxLen at hm hmu
  obtain ⟨i3, hi3, hzz⟩ := Option.map_eq_some_iff.1 info3p
  simp only [Prod.mk.injEq] at hzz
  obtain ⟨hz0, hz1, hz2⟩ := hzz
  obtain ⟨i57, hi57, hyy⟩ := Option.map_eq_some_iff.1 info57p
  simp only [Prod.mk.injEq] at hyy
  obtain ⟨hy0, hy1, hy2⟩ := hyy
  have HI0 := (show Hid ((w.alloc (.cells #[] 3)).ownsRow w.heap.size 3 1 (.slice (some ⟨w.heap.size, 0, none⟩) 0 0) 0 []) from ⟨rfl, .inr ⟨w.heap.size, 0, #[], rfl, Nat.le_refl _, blk_alloc_new _ _, Nat.le_refl _, Nat.zero_le _, rfl, rfl⟩⟩)
  rw [hn] at hcu ⊢
  have HN := (show Hid _ from hn); clear hn
  have HWR : Hid (WoA (wtO lv l l.length) w = WoA (wtO lv l l.length) w) := rfl
  generalize hRES : wtO lv l l.length = RES
  have HRES := (show Hid _ from hRES); clear hRES HWR
  go_enter Try.func102, Try.ntmps102
  go_wp2_with fail
  go_loopw [5, 6, 7] (fun q n i wr => ∃ j g c : Nat, q = .slice (some ⟨g, 0, none⟩) j c ∧ n = .int .i64 (stN lv j : Nat) ∧ i = .int .i64 j ∧ j ≤ l.length ∧ Hid (Below w.heap.size w wr ∧ wr.ownsRow w.heap.size 3 1 (.slice (some ⟨g, 0, none⟩) j c) j (iv (stL lv j)))) (fun _ _ i _ => l.length - (intOf i).toNat)
  case atStart => exact ⟨0, w.heap.size, 0, rfl, rfl, rfl, Nat.zero_le _, bel_alloc _ _, HI0.out⟩
  case round =>
    obtain ⟨j, g, c, rfl, rfl, rfl, hj, HJ⟩ := hrel
    by_cases hjl : j < l.length
    · obtain ⟨rfl, _⟩ := HAU.out (by rw [HN.out]; omega)
      have cu0 := HCU.out j (by rw [HN.out]; exact hjl)
      have hbel := HJ.out.1
      have hst := stN_le lv j
      have hss := stN_succ (lv := lv) (i := j) (by rw [HN.out]; exact hjl)
      have HLS := (show Hid _ from stL_succ lv j)
      have hba := bel_alloc wr (.cells #[.int .i64 (stN lv j : Nat)] 3)
      have HO1 := (show Hid _ from own_keep HJ.out.2 (w' := wr.alloc (.cells #[.int .i64 (stN lv j : Nat)] 3)) (fun q hq => hba.block q (own_lt HJ.out.2 hq).2))
      have HB1 := (show Hid _ from bel_trans hbel hba)
      have HNB := (show Hid _ from World.news_of_block (blk_alloc_new wr (.cells #[.int .i64 (stN lv j : Nat)] 3)))
      have hbs := lt_of_cell cu0
      have HSZ := (show Hid _ from hbel.size)
      generalize lv[j]'(by rw [HN.out]; exact hjl) = Y at *
      generalize stN lv j = NS at *
      have HCW := (show Hid (∀ w', Below w.heap.size w w' → w'.cell? ⟨bu, ou + j, none⟩ = some (.bool Y)) from fun w' hb => (hb.cell hbs).trans cu0)
      clear hba hbel cu0
      cases Y
      · have hss' : stN lv (j + 1) = NS + 1 := by rw [hss]; rfl
        have kw : IntKind.i64.wrap ((NS : Int) + 1) = (NS : Int) + 1 := by simp [IntKind.wrap, IntKind.bits, IntKind.signed]; omega
        have HSS := (show Hid _ from hss'); clear hss hss'
        go_wp2_with (at_builtin; refine wpList_append_lies _ rfl (.tmp 18) (.tmp 20) 29 rfl w.heap.size 3 i3 _ 1 8 Try.underlying29 hi3 hz0 hz1 hz2 rfl (by decide) _ j _ rfl HO1.out ⟨wr.heap.size, 0, none⟩ 1 1 [.int .i64 NS] rfl rfl HNB.out (by intro u hu; simp at hu; subst hu; rfl) (by decide) (by unfold maxLen; omega) (by omega) (by have := HSZ.out; simp; omega) _ rfl ?_; intro g8 cap8 w8 hown8 hgr8 hat8 hlt8; have HB8 := (show Hid (Below w.heap.size w w8) from HB1.out.grown hgr8 (by have := HB1.out.size; omega) (fun q hq => (own_lt HO1.out hq).1)); have h9 : w8.ownsRow w.heap.size 3 1 (.slice (some ⟨g8, 0, none⟩) (j + 1) cap8) (j + 1) (iv (stL lv (j + 1))) := (by rw [HLS.out]; simpa [iv] using hown8); have HO8 := (show Hid _ from h9); clear h9; have cw := HCW.out w8 HB8.out; clear hown8 hgr8 hat8 hlt8)
        exact ⟨⟨j + 1, g8, cap8, rfl, by rw [HSS.out]; rfl, by go_num, by omega, HB8.out, HO8.out⟩, by simp [intOf]; omega⟩
      · have hss' : stN lv (j + 1) = NS := by rw [hss]; rfl
        have HSS := (show Hid _ from hss'); clear hss hss'
        go_wp2_with (at_builtin; refine wpList_append_lies _ rfl (.tmp 18) (.tmp 20) 29 rfl w.heap.size 3 i3 _ 1 8 Try.underlying29 hi3 hz0 hz1 hz2 rfl (by decide) _ j _ rfl HO1.out ⟨wr.heap.size, 0, none⟩ 1 1 [.int .i64 NS] rfl rfl HNB.out (by intro u hu; simp at hu; subst hu; rfl) (by decide) (by unfold maxLen; omega) (by omega) (by have := HSZ.out; simp; omega) _ rfl ?_; intro g8 cap8 w8 hown8 hgr8 hat8 hlt8; have HB8 := (show Hid (Below w.heap.size w w8) from HB1.out.grown hgr8 (by have := HB1.out.size; omega) (fun q hq => (own_lt HO1.out hq).1)); have h9 : w8.ownsRow w.heap.size 3 1 (.slice (some ⟨g8, 0, none⟩) (j + 1) cap8) (j + 1) (iv (stL lv (j + 1))) := (by rw [HLS.out]; simpa [iv] using hown8); have HO8 := (show Hid _ from h9); clear h9; have cw := HCW.out w8 HB8.out; clear hown8 hgr8 hat8 hlt8)
        exact ⟨⟨j + 1, g8, cap8, rfl, by rw [HSS.out], by go_num, by omega, HB8.out, HO8.out⟩, by simp [intOf]; omega⟩
    · obtain rfl : j = l.length := by omega
      have HB := (show Hid _ from HJ.out.1)
      have HOT := (show Hid (wr.ownsRow w.heap.size 3 1 (.slice (some ⟨g, 0, none⟩) l.length c) l.length (iv (stL lv l.length))) from HJ.out.2)
      have HI1 := (show Hid ((wr.alloc (.cells #[] 57)).ownsRow wr.heap.size 57 3 (.slice (some ⟨wr.heap.size, 0, none⟩) 0 0) 0 []) from ⟨rfl, .inr ⟨wr.heap.size, 0, #[], rfl, Nat.le_refl _, blk_alloc_new _ _, Nat.le_refl _, Nat.zero_le _, rfl, rfl⟩⟩)
      clear HJ hj
      go_wp2_with fail
      rename World => wo
      go_loopw [8, 9] (fun q i wq => ∃ j g c : Nat, q = .slice (some ⟨g, 0, none⟩) (wtO lv l j).length c ∧ i = .int .i64 j ∧ j ≤ l.length ∧ Hid (Below wo.heap.size wo wq ∧ wq.ownsRow wo.heap.size 57 3 (.slice (some ⟨g, 0, none⟩) (wtO lv l j).length c) (wtO lv l j).length (xv (wtO lv l j)))) (fun _ i _ => l.length - (intOf i).toNat)
      case atStart => exact ⟨0, wo.heap.size, 0, rfl, rfl, Nat.zero_le _, bel_alloc _ _, HI1.out⟩
      case round =>
        rename World => wq
        obtain ⟨j, g2, c2', rfl, rfl, hj, HQ⟩ := hrel
        by_cases hjl : j < l.length
        case neg =>
          obtain rfl : j = l.length := by omega
          have HE := (show Hid (WoA RES w (.returned (.slice (some ⟨g2, 0, none⟩) (wtO lv l l.length).length c2')) wq) from by
            rw [← HRES.out]
            exact ⟨g2, c2', rfl, bel_trans HB.out HQ.out.1, own_base HQ.out.2 HB.out.size⟩)
          go_wp2_with fail
          go_ret
          exact HE.out
        obtain ⟨rfl, _⟩ := HA.out (by omega)
        obtain ⟨rfl, _⟩ := HAU.out (by rw [HN.out]; omega)
        obtain ⟨c0, c1, c2⟩ := HC.out j hjl
        have cu0 := HCU.out j (by rw [HN.out]; exact hjl)
        have hbw := bel_trans HB.out HQ.out.1
        rw [← hbw.cell (lt_of_cell c0)] at c0
        rw [← hbw.cell (lt_of_cell c1)] at c1
        rw [← hbw.cell (lt_of_cell c2)] at c2
        rw [← hbw.cell (lt_of_cell cu0)] at cu0
        have hws := wtO_succ (lv := lv) hjl (by rw [HN.out]; exact hjl)
        have htoj := HTO.out j hjl
        have hbq : b < wq.heap.size := lt_of_cell c0
        have hbuq : bu < wq.heap.size := lt_of_cell cu0
        have HWX := (show Hid (wtX lv l[j] = if htB l[j].op = true then ⟨l[j].op, l[j].n, (stN lv l[j].to_.toNat : Nat)⟩ else ⟨l[j].op, l[j].n, l[j].to_⟩) from rfl)
        clear hbw
        generalize lv[j]'(by rw [HN.out]; exact hjl) = Y at *
        generalize wtX lv l[j] = WX at *
        generalize l[j].op = xo at *
        generalize l[j].n = xn at *
        generalize l[j].to_ = xt at *
        have HH := (show Hid _ from fun (w' : World) => HHT.out xo w')
        generalize htB xo = A at *
        cases Y
        case true =>
          have HF := (show Hid (Below wo.heap.size wo (wq.alloc (.cells #[.int .i64 xo, .int .i64 xn, .int .i64 xt] 57)) ∧ (wq.alloc (.cells #[.int .i64 xo, .int .i64 xn, .int .i64 xt] 57)).ownsRow wo.heap.size 57 3 (.slice (some ⟨g2, 0, none⟩) (wtO lv l j).length c2') (wtO lv l j).length (xv (wtO lv l j))) from ⟨bel_trans HQ.out.1 (bel_alloc _ _), own_keep HQ.out.2 (fun q hq => (bel_alloc wq _).block q (own_lt HQ.out.2 hq).2)⟩)
          rw [if_pos rfl, List.append_nil] at hws
          have HWS := (show Hid _ from hws); clear hws
          go_wp2_with fail
          exact ⟨⟨j + 1, g2, c2', by rw [HWS.out], by go_num, by omega, by rw [HWS.out]; exact HF.out⟩, by simp [intOf]; omega⟩
        cases A
        case false =>
          have hwx := HWX.out
          rw [if_neg (by decide)] at hwx
          have HB2 := (show Hid (Below wo.heap.size wo ((wq.alloc (.cells #[.int .i64 xo, .int .i64 xn, .int .i64 xt] 57)).alloc (.cells #[.int .i64 xo, .int .i64 xn, .int .i64 xt] 57))) from bel_trans HQ.out.1 (bel2 _ _ _))
          have HO1 := (show Hid _ from own_keep HQ.out.2 (w' := (wq.alloc (.cells #[.int .i64 xo, .int .i64 xn, .int .i64 xt] 57)).alloc (.cells #[.int .i64 xo, .int .i64 xn, .int .i64 xt] 57)) (fun q hq => (bel2 wq (.cells #[.int .i64 xo, .int .i64 xn, .int .i64 xt] 57) (.cells #[.int .i64 xo, .int .i64 xn, .int .i64 xt] 57)).block q (own_lt HQ.out.2 hq).2))
          have hnb := World.news_of_block (blk_alloc_new (wq.alloc (.cells #[.int .i64 xo, .int .i64 xn, .int .i64 xt] 57)) (.cells #[.int .i64 xo, .int .i64 xn, .int .i64 xt] 57))
          simp only [World.size_alloc] at hnb
          have HNB := (show Hid _ from hnb); clear hnb
          have HNX := (show Hid (wtO lv l (j + 1) = wtO lv l j ++ [⟨xo, xn, xt⟩]) from (show wtO lv l (j + 1) = wtO lv l j ++ [⟨xo, xn, xt⟩] from by rw [hws, if_neg (by decide), hwx]))
          have hlen := wtO_len lv l j
          have HSZ := (show Hid (wo.heap.size ≤ wq.heap.size) from HQ.out.1.size)
          clear hws
          obtain ⟨NN, hNN⟩ : ∃ NN, (wtO lv l j).length = NN := ⟨_, rfl⟩
          rw [hNN] at HO1 hlen ⊢
          have HNN := (show Hid _ from hNN); clear hNN
          go_wp2_with (first
            | (at_builtin; refine wpList_append_lies _ rfl (.tmp 53) (.tmp 55) 25 rfl wo.heap.size 57 i57 _ 3 24 Try.underlying25 hi57 hy0 hy1 hy2 rfl (by decide) _ NN _ rfl HO1.out ⟨wq.heap.size + 1, 0, none⟩ 1 1 [.int .i64 xo, .int .i64 xn, .int .i64 xt] rfl rfl HNB.out (by intro u hu; simp at hu; rcases hu with rfl | rfl | rfl <;> rfl) (by decide) (by unfold maxLen; omega) (by omega) (by have := HSZ.out; simp; omega) _ rfl ?_; intro g8 cap8 w8 hown8 hgr8 hat8 hlt8)
            | (go_at_call 32; refine Calls.mono (HH.out _) ?_; rintro e w9 ⟨rfl, rfl⟩))
          have hf : w8.ownsRow wo.heap.size 57 3 (.slice (some ⟨g8, 0, none⟩) (NN + 1) cap8) (NN + 1) (xv (wtO lv l (j + 1))) := by
            rw [HNX.out, xv_append]
            exact hown8
          have HF := (show Hid (Below wo.heap.size wo w8 ∧ w8.ownsRow wo.heap.size 57 3 (.slice (some ⟨g8, 0, none⟩) (NN + 1) cap8) (NN + 1) (xv (wtO lv l (j + 1)))) from ⟨HB2.out.grown hgr8 (by have := HSZ.out; simp; omega) (fun q hq => (own_lt HO1.out hq).1), hf⟩)
          have HLN := (show Hid ((wtO lv l (j + 1)).length = NN + 1) from (show (wtO lv l (j + 1)).length = NN + 1 from by rw [HNX.out, List.length_append, HNN.out]; rfl))
          clear hown8 hgr8 hat8 hlt8 hf
          exact ⟨⟨j + 1, g8, cap8, by rw [HLN.out], by go_num, by omega, by rw [HLN.out]; exact HF.out⟩, by simp [intOf]; omega⟩
        case true =>
          have hwx := HWX.out
          rw [if_pos rfl] at hwx
          obtain ⟨ht0, ht1⟩ := htoj rfl
          obtain ⟨t, rfl⟩ : ∃ t : Nat, xt = t := ⟨xt.toNat, by omega⟩
          rw [Int.toNat_natCast] at hwx
          have htl : t < l.length := by omega
          have cto := own_cell HOT.out rfl (i := t) (by rw [stL_len]; exact htl)
          rw [stL_get] at cto
          rw [← HQ.out.1.cell (lt_of_cell cto)] at cto
          have hgq : g < wq.heap.size := lt_of_cell cto
          clear htoj ht0 ht1
          have HB2 := (show Hid (Below wo.heap.size wo ((wq.alloc (.cells #[.int .i64 xo, .int .i64 xn, .int .i64 (stN lv t : Nat)] 57)).alloc (.cells #[.int .i64 xo, .int .i64 xn, .int .i64 (stN lv t : Nat)] 57))) from bel_trans HQ.out.1 (bel2 _ _ _))
          have HO1 := (show Hid _ from own_keep HQ.out.2 (w' := (wq.alloc (.cells #[.int .i64 xo, .int .i64 xn, .int .i64 (stN lv t : Nat)] 57)).alloc (.cells #[.int .i64 xo, .int .i64 xn, .int .i64 (stN lv t : Nat)] 57)) (fun q hq => (bel2 wq (.cells #[.int .i64 xo, .int .i64 xn, .int .i64 (stN lv t : Nat)] 57) (.cells #[.int .i64 xo, .int .i64 xn, .int .i64 (stN lv t : Nat)] 57)).block q (own_lt HQ.out.2 hq).2))
          have hnb := World.news_of_block (blk_alloc_new (wq.alloc (.cells #[.int .i64 xo, .int .i64 xn, .int .i64 (stN lv t : Nat)] 57)) (.cells #[.int .i64 xo, .int .i64 xn, .int .i64 (stN lv t : Nat)] 57))
          simp only [World.size_alloc] at hnb
          have HNB := (show Hid _ from hnb); clear hnb
          have HNX := (show Hid (wtO lv l (j + 1) = wtO lv l j ++ [⟨xo, xn, (stN lv t : Nat)⟩]) from (show wtO lv l (j + 1) = wtO lv l j ++ [⟨xo, xn, (stN lv t : Nat)⟩] from by rw [hws, if_neg (by decide), hwx]))
          have hlen := wtO_len lv l j
          have HSZ := (show Hid (wo.heap.size ≤ wq.heap.size) from HQ.out.1.size)
          clear hws
          obtain ⟨NN, hNN⟩ : ∃ NN, (wtO lv l j).length = NN := ⟨_, rfl⟩
          rw [hNN] at HO1 hlen ⊢
          have HNN := (show Hid _ from hNN); clear hNN
          go_wp2_with (first
            | (at_builtin; refine wpList_append_lies _ rfl (.tmp 53) (.tmp 55) 25 rfl wo.heap.size 57 i57 _ 3 24 Try.underlying25 hi57 hy0 hy1 hy2 rfl (by decide) _ NN _ rfl HO1.out ⟨wq.heap.size + 1, 0, none⟩ 1 1 [.int .i64 xo, .int .i64 xn, .int .i64 (stN lv t : Nat)] rfl rfl HNB.out (by intro u hu; simp at hu; rcases hu with rfl | rfl | rfl <;> rfl) (by decide) (by unfold maxLen; omega) (by omega) (by have := HSZ.out; simp; omega) _ rfl ?_; intro g8 cap8 w8 hown8 hgr8 hat8 hlt8)
            | (go_at_call 32; refine Calls.mono (HH.out _) ?_; rintro e w9 ⟨rfl, rfl⟩))
          have hf : w8.ownsRow wo.heap.size 57 3 (.slice (some ⟨g8, 0, none⟩) (NN + 1) cap8) (NN + 1) (xv (wtO lv l (j + 1))) := by
            rw [HNX.out, xv_append]
            exact hown8
          have HF := (show Hid (Below wo.heap.size wo w8 ∧ w8.ownsRow wo.heap.size 57 3 (.slice (some ⟨g8, 0, none⟩) (NN + 1) cap8) (NN + 1) (xv (wtO lv l (j + 1)))) from ⟨HB2.out.grown hgr8 (by have := HSZ.out; simp; omega) (fun q hq => (own_lt HO1.out hq).1), hf⟩)
          have HLN := (show Hid ((wtO lv l (j + 1)).length = NN + 1) from (show (wtO lv l (j + 1)).length = NN + 1 from by rw [HNX.out, List.length_append, HNN.out]; rfl))
          clear hown8 hgr8 hat8 hlt8 hf
          exact ⟨⟨j + 1, g8, cap8, by rw [HLN.out], by go_num, by omega, by rw [HLN.out]; exact HF.out⟩, by simp [intOf]; omega⟩
end Go.Proofs.Ytilahbfcobhjeaa
