import Derived.Test.YtblfeifedcddnaaVi
/-! The specification: l15Patch, the Kids gone through. -/
namespace Go.Proofs.Ytblfeifedcddnaa
open Go.RowKit Go.Deep Go.Lib
set_option linter.unusedVariables false
set_option maxRecDepth 100000
set_option linter.unusedSimpArgs false

abbrev o79_26_0 : Oper := { dst := some 110, op := Go.Op.fieldAddr 51 (Go.Operand.tmp 2) 3, type := 0, pos := "l15_merging.go:138", after := #[], guard := none }
abbrev o79_26_1 : Oper := { dst := some 111, op := Go.Op.load 30 (Go.Operand.tmp 110), type := 30, pos := "l15_merging.go:138", after := #[{ on := 0, ground := Go.Ground.data }], guard := none }
abbrev o79_26_2 : Oper := { dst := some 112, op := Go.Op.move (Go.Operand.tmp 7), type := 3, pos := "l15_merging.go:138", after := #[], guard := none }
abbrev o79_26_3 : Oper := { dst := some 113, op := Go.Op.indexAddr 30 (Go.Operand.tmp 111) (Go.Operand.tmp 112), type := 0, pos := "l15_merging.go:138", after := #[{ on := 1, ground := Go.Ground.data }, { on := 2, ground := Go.Ground.data }], guard := none }
abbrev o79_26_4 : Oper := { dst := some 114, op := Go.Op.load 51 (Go.Operand.tmp 113), type := 51, pos := "l15_merging.go:138", after := #[{ on := 3, ground := Go.Ground.data }], guard := none }
abbrev o79_26_5 : Oper := { dst := some 115, op := Go.Op.load 57 (Go.Operand.tmp 9), type := 57, pos := "l15_merging.go:138", after := #[], guard := none }
abbrev o79_26_6 : Oper := { dst := some 116, op := Go.Op.call { callee := Go.Callee.value (Go.Operand.func 79), args := #[Go.Operand.tmp 114, Go.Operand.tmp 115], argTypes := #[51, 57] }, type := 114, pos := "l15_merging.go:138", after := #[{ on := 4, ground := Go.Ground.data }, { on := 5, ground := Go.Ground.data }], guard := none }
abbrev o79_26_7 : Oper := { dst := some 109, op := Go.Op.move (Go.Operand.tmp 116), type := 114, pos := "l15_merging.go:138", after := #[{ on := 6, ground := Go.Ground.data }], guard := none }
abbrev o79_26_8 : Oper := { dst := some 117, op := Go.Op.extract (Go.Operand.tmp 109) 0, type := 51, pos := "l15_merging.go:138", after := #[{ on := 7, ground := Go.Ground.data }], guard := none }
abbrev o79_26_9 : Oper := { dst := some 118, op := Go.Op.extract (Go.Operand.tmp 109) 1, type := 4, pos := "l15_merging.go:138", after := #[{ on := 7, ground := Go.Ground.data }, { on := 11, ground := Go.Ground.gcOnly Go.Departure.lateStores }], guard := none }
abbrev o79_26_10 : Oper := { dst := some 10, op := Go.Op.alloc 51, type := 0, pos := "l15_merging.go:138", after := #[], guard := none }
abbrev o79_26_11 : Oper := { dst := none, op := Go.Op.store 51 (Go.Operand.tmp 10) (Go.Operand.tmp 117), type := 0, pos := "l15_merging.go:138", after := #[{ on := 10, ground := Go.Ground.data }, { on := 8, ground := Go.Ground.data }, { on := 6, ground := Go.Ground.chain }, { on := 0, ground := Go.Ground.phase }, { on := 1, ground := Go.Ground.phase }, { on := 2, ground := Go.Ground.phase }, { on := 3, ground := Go.Ground.phase }, { on := 4, ground := Go.Ground.phase }, { on := 5, ground := Go.Ground.phase }, { on := 6, ground := Go.Ground.phase }, { on := 7, ground := Go.Ground.phase }, { on := 8, ground := Go.Ground.phase }, { on := 9, ground := Go.Ground.textOnly Go.Departure.lateStores }, { on := 10, ground := Go.Ground.phase }], guard := none }
abbrev o79_26_12 : Oper := { dst := some 11, op := Go.Op.assign (Go.Operand.tmp 118), type := 4, pos := "l15_merging.go:138", after := #[{ on := 9, ground := Go.Ground.data }, { on := 11, ground := Go.Ground.chain }, { on := 0, ground := Go.Ground.phase }, { on := 1, ground := Go.Ground.phase }, { on := 2, ground := Go.Ground.phase }, { on := 3, ground := Go.Ground.phase }, { on := 4, ground := Go.Ground.phase }, { on := 5, ground := Go.Ground.phase }, { on := 6, ground := Go.Ground.phase }, { on := 7, ground := Go.Ground.phase }, { on := 8, ground := Go.Ground.phase }, { on := 9, ground := Go.Ground.phase }, { on := 10, ground := Go.Ground.phase }, { on := 11, ground := Go.Ground.phase }], guard := none }
abbrev o79_31_0 : Oper := { dst := some 130, op := Go.Op.load 51 (Go.Operand.tmp 6), type := 51, pos := "l15_merging.go:145", after := #[], guard := none }
abbrev o79_31_1 : Oper := { dst := some 131, op := Go.Op.move (Go.Operand.tmp 7), type := 3, pos := "l15_merging.go:145", after := #[{ on := 6, ground := Go.Ground.gcOnly Go.Departure.lateStores }], guard := none }
abbrev o79_31_2 : Oper := { dst := some 132, op := Go.Op.fieldAddr 51 (Go.Operand.tmp 2) 3, type := 0, pos := "l15_merging.go:145", after := #[], guard := none }
abbrev o79_31_3 : Oper := { dst := some 133, op := Go.Op.load 30 (Go.Operand.tmp 132), type := 30, pos := "l15_merging.go:145", after := #[{ on := 2, ground := Go.Ground.data }], guard := none }
abbrev o79_31_4 : Oper := { dst := some 134, op := Go.Op.call { callee := Go.Callee.builtin Go.Builtin.len, args := #[Go.Operand.tmp 133], argTypes := #[30] }, type := 3, pos := "l15_merging.go:145", after := #[{ on := 3, ground := Go.Ground.data }], guard := none }
abbrev o79_31_5 : Oper := { dst := some 135, op := Go.Op.binOp Go.BinOp.eql 3 (Go.Operand.tmp 131) (Go.Operand.tmp 134) 3, type := 4, pos := "l15_merging.go:145", after := #[{ on := 1, ground := Go.Ground.data }, { on := 4, ground := Go.Ground.data }, { on := 6, ground := Go.Ground.gcOnly Go.Departure.lateStores }], guard := none }
abbrev o79_31_6 : Oper := { dst := none, op := Go.Op.store 51 (Go.Operand.tmp 4) (Go.Operand.tmp 130), type := 0, pos := "l15_merging.go:145", after := #[{ on := 0, ground := Go.Ground.data }, { on := 0, ground := Go.Ground.phase }, { on := 1, ground := Go.Ground.textOnly Go.Departure.lateStores }, { on := 2, ground := Go.Ground.textOnly Go.Departure.lateStores }, { on := 3, ground := Go.Ground.textOnly Go.Departure.lateStores }, { on := 4, ground := Go.Ground.textOnly Go.Departure.lateStoresUnsure }, { on := 5, ground := Go.Ground.textOnly Go.Departure.lateStores }], guard := none }
abbrev o79_31_7 : Oper := { dst := some 5, op := Go.Op.assign (Go.Operand.tmp 135), type := 4, pos := "l15_merging.go:145", after := #[{ on := 5, ground := Go.Ground.data }, { on := 6, ground := Go.Ground.chain }, { on := 0, ground := Go.Ground.phase }, { on := 1, ground := Go.Ground.phase }, { on := 2, ground := Go.Ground.phase }, { on := 3, ground := Go.Ground.phase }, { on := 4, ground := Go.Ground.phase }, { on := 5, ground := Go.Ground.phase }, { on := 6, ground := Go.Ground.phase }], guard := none }
theorem De.ex (d : De) : ∃ c t k, d = De.mk c t k := by cases d; exact ⟨_, _, _, rfl⟩
set_option maxHeartbeats 1600000 in
theorem p79_leaf (W0 : World) (an ax : ByteArray) (ak : List Tr) (v : Value) (t : Tr) (k : List De) (tv kv : Value) (w : World) (ha : Lies W0 (fun _ => True) ⟨an, ax, true, ak⟩ v) (hd : DLies W0 (fun _ => True) ⟨3, t, k⟩ tv kv) (hb : Below W0.heap.size W0 w) :
    Calls Try.prog 79 #[(Tr.mk an ax true ak).val v, (De.mk 3 t k).val tv kv] w (PtA W0.heap.size (pa ⟨3, t, k⟩ ⟨an, ax, true, ak⟩) w) := by
  obtain ⟨aa, al, acap, rfl⟩ := ha.form
  obtain ⟨⟨ta, tl, tp, rfl⟩, ka, kp, rfl⟩ := hd.form
  have hpa : pa ⟨3, t, k⟩ ⟨an, ax, true, ak⟩ = none := by rw [pa_mk]; rfl
  have HE := (show Hid _ from fun w1 h => PtA.no0 (w1 := w1) hb ha h hpa)
  clear ha hd hb hpa
  simp only [Tr.val, De.val] at HE ⊢
  go_enter Try.func79, Try.ntmps79
  go_wp2_with fail
  refine bodyPost_ret (v := .tuple #[.agg #[.string an, .string ax, .bool true, .slice aa al acap], .bool false]) (by simp [results, Try.results79, go_sem]) rfl ?_
  exact HE.out _ (((bel_alloc _ _).alloc (by simp) _).alloc (by simp; omega) _)
set_option maxHeartbeats 6400000 in
theorem p79_kids (W0 : World) (an ax : ByteArray) (ak : List Tr) (v : Value) (t : Tr) (k : List De) (tv kv : Value) (w : World) (ha : Lies W0 (fun _ => True) ⟨an, ax, false, ak⟩ v) (hd : DLies W0 (fun _ => True) ⟨3, t, k⟩ tv kv) (hb : Below W0.heap.size W0 w) (hwt : (De.mk 3 t k).wt ≤ 1048576)
    (ih : ∀ i (hi : i < k.length) (a : Tr) (v tv kv : Value) (w : World), Lies W0 (fun _ => True) a v → DLies W0 (fun _ => True) k[i] tv kv → Below W0.heap.size W0 w → k[i].wt ≤ 1048576 → Calls Try.prog 79 #[a.val v, k[i].val tv kv] w (PtA W0.heap.size (pa k[i] a) w)) :
    Calls Try.prog 79 #[(Tr.mk an ax false ak).val v, (De.mk 3 t k).val tv kv] w (PtA W0.heap.size (pa ⟨3, t, k⟩ ⟨an, ax, false, ak⟩) w) := by
  rw [De.wt_mk] at hwt
  have hC := hb.size
  have hkw : k.length ≤ 1048576 := by omega
  obtain ⟨hbW, bA, bD, bR⟩ := w79_box w (Tr.mk an ax false ak) v ⟨3, t, k⟩ tv kv
  have HZC := (show Hid (∀ wq, Below w.heap.size w wq → Calls Try.prog 108 #[t.val tv] wq fun e w' => e = .returned (.bool (zeB t)) ∧ Below wq.heap.size wq w') from fun wq h => zero108 t tv wq (hd.tree.still (bel_trans hb (h.mono (by omega)))))
  obtain ⟨aa, acap, ab, aoff, asv, hav, hn0, hx0, hac, ham, haa, hacell, hakid⟩ := ha.out
  obtain ⟨ht, ka, kp, kb, koff, kts, kks, hkv, hkc, hkm, hka, hkcell, hkkid⟩ := hd.out
  dsimp only at hac hkc hka hkcell hkkid hkv ht hav hn0 haa hacell hakid
  obtain ⟨ta, tl, tp, rfl⟩ := ht.form
  subst hav hkv
  have HPA := (show Hid (pa ⟨3, t, k⟩ ⟨an, ax, false, ak⟩ = (if zeB t = true then (match paJ k ak k.length with | some s => if s.2 = ak.length then some ⟨an, ByteArray.empty, false, s.1⟩ else none | none => none) else none)) from (by show _ = _; rw [pa_mk]; rfl))
  have HPN0 := (show Hid (∀ w1, Below w.heap.size w w1 → pa ⟨3, t, k⟩ ⟨an, ax, false, ak⟩ = none → ∀ x0 x1 x2 x3, PtA W0.heap.size (pa ⟨3, t, k⟩ ⟨an, ax, false, ak⟩) w (.returned (.tuple #[.agg #[.string an, .string ax, .bool false, .slice aa ak.length acap], .bool false])) ((((w1.setCell ⟨w.heap.size + 1 + 1, 0, none⟩ x0).setCell ⟨w.heap.size + 1 + 1, 1, none⟩ x1).setCell ⟨w.heap.size + 1 + 1, 2, none⟩ x2).setCell ⟨w.heap.size + 1 + 1, 3, none⟩ x3)) from fun w1 h hr x0 x1 x2 x3 => PtA.no hb ha h hr x0 x1 x2 x3)
  have HBX := (show Hid _ from (⟨hbW, bA, bD, bR⟩ : _ ∧ _ ∧ _ ∧ _))
  have HB := (show Hid _ from hb)
  have HI := (show Hid _ from ih); clear ih
  have HAC := (show Hid _ from (⟨haa, hacell, hakid⟩ : _ ∧ _ ∧ _))
  have HKC := (show Hid _ from (⟨hka, hkcell, hkkid⟩ : _ ∧ _ ∧ _))
  have HNM := (show Hid (an.size ≤ maxLen) from hn0)
  have HWT := (show Hid (∀ i (hi : i < k.length), k[i].wt ≤ 1048576) from fun i hi => by have := De.wt_mem k i hi; omega)
  have hakm : ak.length ≤ 2 ^ 63 - 1 := by unfold maxLen at ham; omega
  have hkkm : k.length ≤ 2 ^ 63 - 1 := by unfold maxLen at hkm; omega
  clear ha hd hb bA bD bR hbW hka hkcell hkkid haa hacell hakid hn0 hx0 ht hwt ham hkm
  obtain ⟨i51, hi51, hzz⟩ := Option.map_eq_some_iff.1 info51
  simp only [Prod.mk.injEq] at hzz
  obtain ⟨hz0, hz1, hz2⟩ := hzz
  simp only [Tr.val, De.val] at HZC HBX ⊢
  cases hz : zeB t
  · have HE := (show Hid (pa ⟨3, t, k⟩ ⟨an, ax, false, ak⟩ = none) from HPA.out.trans (by rw [hz]; rfl))
    rw [hz] at HZC
    have HC1 := (show Hid _ from HZC.out _ HBX.out.1)
    clear HPA HI HAC HKC HNM HWT hz HZC
    go_enter Try.func79, Try.ntmps79
    go_wp2_with fail
    refine Calls.mono HC1.out ?_
    rintro e w1 ⟨rfl, hb1⟩
    have hba := HBX.out.2.1.still hb1
    have hbr := HBX.out.2.2.2.still hb1
    have A0 : w1.cell? ⟨w.heap.size, 0, none⟩ = some (.string an) := hba.cell 0 (by simp)
    have A1 : w1.cell? ⟨w.heap.size, 1, none⟩ = some (.string ax) := hba.cell 1 (by simp)
    have A2 : w1.cell? ⟨w.heap.size, 2, none⟩ = some (.bool false) := hba.cell 2 (by simp)
    have A3 : w1.cell? ⟨w.heap.size, 3, none⟩ = some (.slice aa ak.length acap) := hba.cell 3 (by simp)
    have R0 : w1.cell? ⟨w.heap.size + 1 + 1, 0, none⟩ = some (.string ⟨#[]⟩) := hbr.cell 0 (by simp)
    have R1 : w1.cell? ⟨w.heap.size + 1 + 1, 1, none⟩ = some (.string ⟨#[]⟩) := hbr.cell 1 (by simp)
    have R2 : w1.cell? ⟨w.heap.size + 1 + 1, 2, none⟩ = some (.bool false) := hbr.cell 2 (by simp)
    have R3 : w1.cell? ⟨w.heap.size + 1 + 1, 3, none⟩ = some (.slice none 0 0) := hbr.cell 3 (by simp)
    have F0 := hbr.frozen 0
    have F1 := hbr.frozen 1
    have F2 := hbr.frozen 2
    have F3 := hbr.frozen 3
    have HF := (show Hid _ from HPN0.out w1 (bel_trans HBX.out.1 hb1) HE.out)
    clear hb1 hba hbr HPN0 HBX HE HC1
    go_wp2_with fail
    refine bodyPost_ret (v := .tuple #[.agg #[.string an, .string ax, .bool false, .slice aa ak.length acap], .bool false]) (by simp [results, Try.results79, go_sem, R0, R1, R2, R3]) rfl ?_
    exact HF.out _ _ _ _
  · have HPN := (show Hid (∀ w1, Below w.heap.size w w1 → paJ k ak k.length = none → ∀ x0 x1 x2 x3, PtA W0.heap.size (pa ⟨3, t, k⟩ ⟨an, ax, false, ak⟩) w (.returned (.tuple #[.agg #[.string an, .string ax, .bool false, .slice aa ak.length acap], .bool false])) ((((w1.setCell ⟨w.heap.size + 1 + 1, 0, none⟩ x0).setCell ⟨w.heap.size + 1 + 1, 1, none⟩ x1).setCell ⟨w.heap.size + 1 + 1, 2, none⟩ x2).setCell ⟨w.heap.size + 1 + 1, 3, none⟩ x3)) from fun w1 h hr => HPN0.out w1 h (HPA.out.trans (by rw [hz, hr]; rfl)))
    have HPF := (show Hid (∀ s, paJ k ak k.length = some s → pa ⟨3, t, k⟩ ⟨an, ax, false, ak⟩ = if s.2 = ak.length then some ⟨an, ByteArray.empty, false, s.1⟩ else none) from fun s hs => HPA.out.trans (by rw [hz, hs]; rfl))
    rw [hz] at HZC
    have HC1 := (show Hid _ from HZC.out _ HBX.out.1)
    clear HPA HPN0 hz HZC
    go_enter Try.func79, Try.ntmps79
    go_wp2_with fail
    refine Calls.mono HC1.out ?_
    rintro e w1 ⟨rfl, hb1⟩
    have hba := HBX.out.2.1.still hb1
    have A0 : w1.cell? ⟨w.heap.size, 0, none⟩ = some (.string an) := hba.cell 0 (by simp)
    obtain ⟨go, hgo⟩ : ∃ go, go = w1.heap.size := ⟨_, rfl⟩
    have HS1 := (show Hid (PkI W0 w (w1.alloc (.cells #[.string an, .string ⟨#[]⟩, .bool false, .slice none 0 0] 51)) go (Tr.mk an ax false ak) ⟨3, t, k⟩ (.slice aa ak.length acap) (.slice ta tl tp) (.slice ka k.length kp) (.slice none 0 0) []) from (by rw [hgo]; exact PkI.start hb1))
    clear hb1 hba HBX HC1
    go_wp2_with fail
    rw [← hgo]
    clear hgo A0
    go_loopw [7, 8] (fun p i wr => ∃ (j : Nat) (s : List Tr × Nat) (ua : Option Addr) (up : Nat) (u : Value), u = .slice ua s.1.length up ∧ i = .int .i64 j ∧ p = .int .i64 s.2 ∧ j ≤ k.length ∧ s.2 ≤ ak.length ∧ Hid (paJ k ak j = some s) ∧ s.1.length ≤ j ∧ Hid (PkI W0 w wr go (Tr.mk an ax false ak) ⟨3, t, k⟩ (.slice aa ak.length acap) (.slice ta tl tp) (.slice ka k.length kp) u s.1)) (fun _ i _ => k.length - (intOf i).toNat)
    case atStart => exact ⟨0, ([], 0), none, 0, _, rfl, rfl, rfl, Nat.zero_le _, Nat.zero_le _, paJ_zero _ _, Nat.le_refl _, HS1⟩
    case round =>
      obtain ⟨j, s, ua, up, u, rfl, rfl, rfl, hj, hsa, HJ, hsl, HKR⟩ := hrel
      clear HS1
      have D5 : wr.cell? ⟨w.heap.size + 1, 5, none⟩ = some (.slice ka k.length kp) := HKR.out.bd.cell 5 (by simp)
      by_cases hlt : j < k.length
      · obtain ⟨rfl, _⟩ := HKC.out.1 (by omega)
        have hbw : Below W0.heap.size W0 wr := HB.out.trans (HKR.out.bel.mono hC)
        obtain ⟨c', t', k', hkj⟩ : ∃ c' t' k', k[j] = De.mk c' t' k' := De.ex _
        have h6 := C6.still (HKC.out.2.1 j hlt) hbw (lt_of_cell (HKC.out.2.1 j hlt).1)
        have hkid := HKC.out.2.2 j hlt
        have hst := paJ_succ (ks := ak) hlt
        rw [HJ.out] at hst
        have hwj := HWT.out j hlt
        have hij := HI.out j hlt
        rw [hkj] at h6 hkid hst hwj hij
        obtain ⟨⟨xa, xl, xp, hxv⟩, ya, yp, hyv⟩ := hkid.form
        rw [hxv, hyv] at h6 hkid
        have hktree := hkid.tree
        dsimp only at hktree
        have hk'm : k'.length ≤ 2 ^ 63 - 1 := by
          obtain ⟨_, _, _, _, _, _, _, _, hc, hm, _⟩ := hkid.out
          unfold maxLen at hm
          dsimp only at hc
          omega
        have HTX := (show Hid (∀ wq, Below wr.heap.size wr wq → Lies wq (fun q => q < W0.heap.size) t' (.slice xa xl xp)) from fun wq h => by
          have hq := hbw.trans (h.mono hbw.size)
          exact (hktree.lt.keep (fun q hq' => hq.block q hq'.2)).mono (fun q hq' => hq'.2))
        have HST := (show Hid (paJ k ak (j + 1) = paS ak ⟨c', t', k'⟩ (pa ⟨c', t', k'⟩) s) from hst)
        have HPS := (show Hid (paS ak ⟨c', t', k'⟩ (pa ⟨c', t', k'⟩) s = none → paJ k ak k.length = none) from fun h => paJ_none (by omega : j + 1 ≤ k.length) (hst.trans h))
        have HCL := (show Hid (∀ (A : Tr) (vA : Value) (wq : World), Lies W0 (fun _ => True) A vA → Below W0.heap.size W0 wq → Calls Try.prog 79 #[A.val vA, .agg #[.int .i64 c', .string t'.name, .string t'.text, .bool t'.leaf, .slice xa xl xp, .slice ya k'.length yp]] wq (PtA W0.heap.size (pa ⟨c', t', k'⟩ A) wq)) from fun A vA wq h1 h2 => hij A vA _ _ wq h1 hkid h2 hwj)
        obtain ⟨c0, c1, c2, c3, c4, c5⟩ := h6
        dsimp only at c0 c1 c2 c3 c4 c5
        clear hst hkid hktree hij hwj hkj hxv hyv
        have XB := (show Hid _ from Box.new wr 57 [.int .i64 c', .string t'.name, .string t'.text, .bool t'.leaf, .slice xa xl xp, .slice ya k'.length yp])
        have HAW := (show Hid _ from bel_alloc wr (.cells #[.int .i64 c', .string t'.name, .string t'.text, .bool t'.leaf, .slice xa xl xp, .slice ya k'.length yp] 57))
        have A3 : (wr.alloc (.cells #[.int .i64 c', .string t'.name, .string t'.text, .bool t'.leaf, .slice xa xl xp, .slice ya k'.length yp] 57)).cell? ⟨w.heap.size, 3, none⟩ = some (.slice aa ak.length acap) := (HKR.out.ba.still HAW.out).cell 3 (by simp)
        have HBWR := (show Hid _ from hbw)
        clear hbw
        by_cases e5 : c' = 5
        · subst e5
          have HOK := (show Hid _ from sOK_any t' _ _ (HTX.out _ HAW.out))
          simp only [Tr.val] at HOK
          have HP5 := (show Hid (paS ak ⟨5, t', k'⟩ (pa ⟨5, t', k'⟩) s = if (t'.ok && k'.isEmpty) = true then some (s.1 ++ [t'], s.2) else none) from (by show _ = _; unfold paS; rw [if_pos rfl]))
          clear HCL A3
          cases hok : t'.ok
          · have HNO := (show Hid (paJ k ak k.length = none) from HPS.out (HP5.out.trans (by rw [hok]; rfl)))
            rw [hok] at HOK
            clear HST HPS HP5 hok
            go_wp2_with fail
            refine Calls.mono HOK.out ?_
            rintro e w1 ⟨rfl, hb1⟩
            have HK := (show Hid (PkI W0 w w1 go (Tr.mk an ax false ak) ⟨3, t, k⟩ (.slice aa ak.length acap) (.slice ta tl tp) (.slice (some ⟨kb, koff, none⟩) k.length kp) (.slice ua s.1.length up) s.1) from HKR.out.still (bel_trans HAW.out hb1))
            clear hb1 HOK D5 c0 c1 c2 c3 c4 c5 XB HTX HAW
            have A0 : w1.cell? ⟨w.heap.size, 0, none⟩ = some (.string an) := HK.out.ba.cell 0 (by simp)
            have A1 : w1.cell? ⟨w.heap.size, 1, none⟩ = some (.string ax) := HK.out.ba.cell 1 (by simp)
            have A2 : w1.cell? ⟨w.heap.size, 2, none⟩ = some (.bool false) := HK.out.ba.cell 2 (by simp)
            have A3' : w1.cell? ⟨w.heap.size, 3, none⟩ = some (.slice aa ak.length acap) := HK.out.ba.cell 3 (by simp)
            have R0 : w1.cell? ⟨w.heap.size + 1 + 1, 0, none⟩ = some (.string ⟨#[]⟩) := HK.out.br.cell 0 (by simp)
            have R1 : w1.cell? ⟨w.heap.size + 1 + 1, 1, none⟩ = some (.string ⟨#[]⟩) := HK.out.br.cell 1 (by simp)
            have R2 : w1.cell? ⟨w.heap.size + 1 + 1, 2, none⟩ = some (.bool false) := HK.out.br.cell 2 (by simp)
            have R3 : w1.cell? ⟨w.heap.size + 1 + 1, 3, none⟩ = some (.slice none 0 0) := HK.out.br.cell 3 (by simp)
            have F0 := HK.out.br.frozen 0
            have F1 := HK.out.br.frozen 1
            have F2 := HK.out.br.frozen 2
            have F3 := HK.out.br.frozen 3
            have HE := (show Hid _ from HPN.out w1 HK.out.bel HNO.out)
            clear HK HNO HKR
            go_wp2_with fail
            refine bodyPost_ret (v := .tuple #[.agg #[.string an, .string ax, .bool false, .slice aa ak.length acap], .bool false]) (by simp [results, Try.results79, go_sem, R0, R1, R2, R3]) rfl ?_
            exact HE.out _ _ _ _
          · rw [hok] at HOK
            by_cases hk0 : k'.length = 0
            · have ik : ¬ 0 < k'.length := by omega
              have HNX := (show Hid (paJ k ak (j + 1) = some (s.1 ++ [t'], s.2)) from HST.out.trans (HP5.out.trans (by rw [hok, isEmpty_len, hk0]; rfl)))
              clear HST HPS HP5 hok hk0
              go_wp2_with fail
              refine Calls.mono HOK.out ?_
              rintro e w1 ⟨rfl, hb1⟩
              have HBZ := (show Hid (Below wr.heap.size wr w1) from bel_trans HAW.out hb1)
              have HLZ := (show Hid (Lies w1 (fun q => q < W0.heap.size ∨ wr.heap.size ≤ q) t' (.slice xa xl xp)) from (HTX.out w1 HBZ.out).mono (fun q h => .inl h))
              have hxb := XB.out.still hb1
              have X1 : w1.cell? ⟨wr.heap.size, 1, none⟩ = some (.string t'.name) := hxb.cell 1 (by simp)
              have X2 : w1.cell? ⟨wr.heap.size, 2, none⟩ = some (.string t'.text) := hxb.cell 2 (by simp)
              have X3 : w1.cell? ⟨wr.heap.size, 3, none⟩ = some (.bool t'.leaf) := hxb.cell 3 (by simp)
              have X4 : w1.cell? ⟨wr.heap.size, 4, none⟩ = some (.slice xa xl xp) := hxb.cell 4 (by simp)
              have X5 : w1.cell? ⟨wr.heap.size, 5, none⟩ = some (.slice ya k'.length yp) := hxb.cell 5 (by simp)
              clear hb1 hxb HOK D5 c0 c1 c2 c3 c4 c5 XB HTX HAW
              obtain ⟨fs, hown, hls⟩ := HKR.out.fg
              have HO2 := (show Hid _ from own_still (own_still hown HBZ.out) (bel_alloc w1 (.cells #[.string t'.name, .string t'.text, .bool t'.leaf, (.slice xa xl xp)] 51)))
              have HFG := (show Hid _ from (⟨hown, hls⟩ : _ ∧ _))
              clear hown hls
              have O3 : w1.cell? ⟨go, 3, none⟩ = some (.slice ua s.1.length up) := (HKR.out.bo.still HBZ.out).cell 3 (by simp)
              have hwz : go + 1 ≤ w1.heap.size := by have := HKR.out.bo.lt; have := HBZ.out.size; omega
              try simp only [World.size_alloc, World.size_setCell] at hwz
              go_wp2_with (at_builtin; refine wpList_append_lies _ rfl (.tmp 81) (.tmp 84) 30 rfl (go + 1) 51 i51 _ 4 64 Try.underlying30 hi51 hz0 hz1 hz2 rfl (by decide) _ s.1.length (kc s.1 fs s.1.length) rfl HO2.out ⟨w1.heap.size, 0, none⟩ 1 1 [.string t'.name, .string t'.text, .bool t'.leaf, (.slice xa xl xp)] rfl rfl ?cc1 ?cc2 (by decide) ?cc3 (by omega) (by simp; omega) _ rfl ?nx)
              case cc1 => (have hc := cell_four_box w1 (.string t'.name) (.string t'.text) (.bool t'.leaf) (.slice xa xl xp) 51; first | exact hc | (simp only [World.size_alloc, World.size_setCell] at hc; exact hc))
              case cc2 => intro u hu; simp at hu; rcases hu with rfl | rfl | rfl | rfl <;> rfl
              case cc3 => unfold maxLen; omega
              case nx =>
                intro g3 cap3 w3 hown3 hgr3 hat3 hlt3
                have hblk : w3.heap[go]? = wr.heap[go]? := by
                  have h1 := HFG.out.1.lt
                  refine (hgr3.block _ (by simp; omega) (fun e => by have := (h1 _ e.symm).1; omega)).trans ?_
                  exact ((bel_trans HBZ.out (bel_alloc w1 (.cells #[.string t'.name, .string t'.text, .bool t'.leaf, (.slice xa xl xp)] 51))).block _ (by have := HKR.out.bo.lt; omega))
                have bo3 := HKR.out.bo.keep hblk
                have P3 : w3.cell? ⟨go, 3, none⟩ = some (.slice ua s.1.length up) := bo3.cell 3 (by simp)
                have Q3 := bo3.frozen 3
                have HN := (show Hid (PkI W0 w (w3.setCell ⟨go, 3, none⟩ (.slice (some ⟨g3, 0, none⟩) (s.1.length + 1) cap3)) go (Tr.mk an ax false ak) ⟨3, t, k⟩ (.slice aa ak.length acap) (.slice ta tl tp) (.slice (some ⟨kb, koff, none⟩) k.length kp) (.slice (some ⟨g3, 0, none⟩) (s.1.length + 1) cap3) (s.1 ++ [t'])) from PkI.next HKR.out hC (bel_trans HBZ.out (bel_alloc _ _)) (HLZ.out.still (bel_alloc _ _)) HFG.out.1 HFG.out.2 hown3 hgr3 (by simp only [World.size_alloc, World.size_setCell] at hat3 ⊢; exact hat3))
                clear hown3 hgr3 hat3 hlt3 hblk bo3 HFG HO2 HKR HBZ HLZ
                go_wp2_with fail
                exact ⟨⟨j + 1, (s.1 ++ [t'], s.2), some ⟨g3, 0, none⟩, cap3, .slice (some ⟨g3, 0, none⟩) (s.1.length + 1) cap3, by simp, by go_num, rfl, by omega, by (dsimp only; omega), HNX, by (simp; omega), HN⟩, by simp [intOf]; omega⟩
            · have ik : 0 < k'.length := by omega
              have HNO := (show Hid (paJ k ak k.length = none) from HPS.out (HP5.out.trans (by rw [isEmpty_len, decide_eq_false hk0]; simp)))
              clear HST HPS HP5 hok hk0
              go_wp2_with fail
              refine Calls.mono HOK.out ?_
              rintro e w1 ⟨rfl, hb1⟩
              have HK := (show Hid (PkI W0 w w1 go (Tr.mk an ax false ak) ⟨3, t, k⟩ (.slice aa ak.length acap) (.slice ta tl tp) (.slice (some ⟨kb, koff, none⟩) k.length kp) (.slice ua s.1.length up) s.1) from HKR.out.still (bel_trans HAW.out hb1))
              have X5 : w1.cell? ⟨wr.heap.size, 5, none⟩ = some (.slice ya k'.length yp) := (XB.out.still hb1).cell 5 (by simp)
              clear hb1 HOK D5 c0 c1 c2 c3 c4 c5 XB HTX HAW
              have A0 : w1.cell? ⟨w.heap.size, 0, none⟩ = some (.string an) := HK.out.ba.cell 0 (by simp)
              have A1 : w1.cell? ⟨w.heap.size, 1, none⟩ = some (.string ax) := HK.out.ba.cell 1 (by simp)
              have A2 : w1.cell? ⟨w.heap.size, 2, none⟩ = some (.bool false) := HK.out.ba.cell 2 (by simp)
              have A3' : w1.cell? ⟨w.heap.size, 3, none⟩ = some (.slice aa ak.length acap) := HK.out.ba.cell 3 (by simp)
              have R0 : w1.cell? ⟨w.heap.size + 1 + 1, 0, none⟩ = some (.string ⟨#[]⟩) := HK.out.br.cell 0 (by simp)
              have R1 : w1.cell? ⟨w.heap.size + 1 + 1, 1, none⟩ = some (.string ⟨#[]⟩) := HK.out.br.cell 1 (by simp)
              have R2 : w1.cell? ⟨w.heap.size + 1 + 1, 2, none⟩ = some (.bool false) := HK.out.br.cell 2 (by simp)
              have R3 : w1.cell? ⟨w.heap.size + 1 + 1, 3, none⟩ = some (.slice none 0 0) := HK.out.br.cell 3 (by simp)
              have F0 := HK.out.br.frozen 0
              have F1 := HK.out.br.frozen 1
              have F2 := HK.out.br.frozen 2
              have F3 := HK.out.br.frozen 3
              have HE := (show Hid _ from HPN.out w1 HK.out.bel HNO.out)
              clear HK HNO HKR
              go_wp2_with fail
              refine bodyPost_ret (v := .tuple #[.agg #[.string an, .string ax, .bool false, .slice aa ak.length acap], .bool false]) (by simp [results, Try.results79, go_sem, R0, R1, R2, R3]) rfl ?_
              exact HE.out _ _ _ _
        · have i5 : (c' == 5) = false := by simpa using e5
          by_cases hat : s.2 < ak.length
          · have j1 : decide ((ak.length : Int) ≤ (s.2 : Int)) = false := decide_eq_false (by omega)
            by_cases e4 : c' = 4
            · subst e4
              have HOK := (show Hid _ from zero108 t' _ _ (HTX.out _ HAW.out))
              simp only [Tr.val] at HOK
              have HP4 := (show Hid (paS ak ⟨4, t', k'⟩ (pa ⟨4, t', k'⟩) s = if (zeB t' && k'.isEmpty) = true then some (s.1, s.2 + 1) else none) from (by show _ = _; unfold paS; rw [if_neg (show ¬ ((4 : Int) = 5) by decide), dif_pos hat, if_pos rfl]))
              clear HCL
              cases hok : zeB t'
              · have HNO := (show Hid (paJ k ak k.length = none) from HPS.out (HP4.out.trans (by rw [hok]; rfl)))
                rw [hok] at HOK
                clear HST HPS HP4 hok
                go_wp2_with fail
                refine Calls.mono HOK.out ?_
                rintro e w1 ⟨rfl, hb1⟩
                have HK := (show Hid (PkI W0 w w1 go (Tr.mk an ax false ak) ⟨3, t, k⟩ (.slice aa ak.length acap) (.slice ta tl tp) (.slice (some ⟨kb, koff, none⟩) k.length kp) (.slice ua s.1.length up) s.1) from HKR.out.still (bel_trans HAW.out hb1))
                clear hb1 HOK D5 c0 c1 c2 c3 c4 c5 XB HTX HAW A3
                have A0 : w1.cell? ⟨w.heap.size, 0, none⟩ = some (.string an) := HK.out.ba.cell 0 (by simp)
                have A1 : w1.cell? ⟨w.heap.size, 1, none⟩ = some (.string ax) := HK.out.ba.cell 1 (by simp)
                have A2 : w1.cell? ⟨w.heap.size, 2, none⟩ = some (.bool false) := HK.out.ba.cell 2 (by simp)
                have A3' : w1.cell? ⟨w.heap.size, 3, none⟩ = some (.slice aa ak.length acap) := HK.out.ba.cell 3 (by simp)
                have R0 : w1.cell? ⟨w.heap.size + 1 + 1, 0, none⟩ = some (.string ⟨#[]⟩) := HK.out.br.cell 0 (by simp)
                have R1 : w1.cell? ⟨w.heap.size + 1 + 1, 1, none⟩ = some (.string ⟨#[]⟩) := HK.out.br.cell 1 (by simp)
                have R2 : w1.cell? ⟨w.heap.size + 1 + 1, 2, none⟩ = some (.bool false) := HK.out.br.cell 2 (by simp)
                have R3 : w1.cell? ⟨w.heap.size + 1 + 1, 3, none⟩ = some (.slice none 0 0) := HK.out.br.cell 3 (by simp)
                have F0 := HK.out.br.frozen 0
                have F1 := HK.out.br.frozen 1
                have F2 := HK.out.br.frozen 2
                have F3 := HK.out.br.frozen 3
                have HE := (show Hid _ from HPN.out w1 HK.out.bel HNO.out)
                clear HK HNO HKR
                go_wp2_with fail
                refine bodyPost_ret (v := .tuple #[.agg #[.string an, .string ax, .bool false, .slice aa ak.length acap], .bool false]) (by simp [results, Try.results79, go_sem, R0, R1, R2, R3]) rfl ?_
                exact HE.out _ _ _ _
              · rw [hok] at HOK
                by_cases hk0 : k'.length = 0
                · have ik : ¬ 0 < k'.length := by omega
                  have HNX := (show Hid (paJ k ak (j + 1) = some (s.1, s.2 + 1)) from HST.out.trans (HP4.out.trans (by rw [hok, isEmpty_len, hk0]; rfl)))
                  clear HST HPS HP4 hok hk0
                  go_wp2_with fail
                  refine Calls.mono HOK.out ?_
                  rintro e w1 ⟨rfl, hb1⟩
                  have HK := (show Hid (PkI W0 w w1 go (Tr.mk an ax false ak) ⟨3, t, k⟩ (.slice aa ak.length acap) (.slice ta tl tp) (.slice (some ⟨kb, koff, none⟩) k.length kp) (.slice ua s.1.length up) s.1) from HKR.out.still (bel_trans HAW.out hb1))
                  have X5 : w1.cell? ⟨wr.heap.size, 5, none⟩ = some (.slice ya k'.length yp) := (XB.out.still hb1).cell 5 (by simp)
                  clear hb1 HOK D5 c0 c1 c2 c3 c4 c5 XB HTX HAW A3 HKR
                  go_wp2_with fail
                  exact ⟨⟨j + 1, (s.1, s.2 + 1), ua, up, _, rfl, by go_num, by go_num, by omega, by (dsimp only; omega), HNX, by (dsimp only; omega), HK⟩, by simp [intOf]; omega⟩
                · have ik : 0 < k'.length := by omega
                  have HNO := (show Hid (paJ k ak k.length = none) from HPS.out (HP4.out.trans (by rw [isEmpty_len, decide_eq_false hk0]; simp)))
                  clear HST HPS HP4 hok hk0
                  go_wp2_with fail
                  refine Calls.mono HOK.out ?_
                  rintro e w1 ⟨rfl, hb1⟩
                  have HK := (show Hid (PkI W0 w w1 go (Tr.mk an ax false ak) ⟨3, t, k⟩ (.slice aa ak.length acap) (.slice ta tl tp) (.slice (some ⟨kb, koff, none⟩) k.length kp) (.slice ua s.1.length up) s.1) from HKR.out.still (bel_trans HAW.out hb1))
                  have X5 : w1.cell? ⟨wr.heap.size, 5, none⟩ = some (.slice ya k'.length yp) := (XB.out.still hb1).cell 5 (by simp)
                  clear hb1 HOK D5 c0 c1 c2 c3 c4 c5 XB HTX HAW A3
                  have A0 : w1.cell? ⟨w.heap.size, 0, none⟩ = some (.string an) := HK.out.ba.cell 0 (by simp)
                  have A1 : w1.cell? ⟨w.heap.size, 1, none⟩ = some (.string ax) := HK.out.ba.cell 1 (by simp)
                  have A2 : w1.cell? ⟨w.heap.size, 2, none⟩ = some (.bool false) := HK.out.ba.cell 2 (by simp)
                  have A3' : w1.cell? ⟨w.heap.size, 3, none⟩ = some (.slice aa ak.length acap) := HK.out.ba.cell 3 (by simp)
                  have R0 : w1.cell? ⟨w.heap.size + 1 + 1, 0, none⟩ = some (.string ⟨#[]⟩) := HK.out.br.cell 0 (by simp)
                  have R1 : w1.cell? ⟨w.heap.size + 1 + 1, 1, none⟩ = some (.string ⟨#[]⟩) := HK.out.br.cell 1 (by simp)
                  have R2 : w1.cell? ⟨w.heap.size + 1 + 1, 2, none⟩ = some (.bool false) := HK.out.br.cell 2 (by simp)
                  have R3 : w1.cell? ⟨w.heap.size + 1 + 1, 3, none⟩ = some (.slice none 0 0) := HK.out.br.cell 3 (by simp)
                  have F0 := HK.out.br.frozen 0
                  have F1 := HK.out.br.frozen 1
                  have F2 := HK.out.br.frozen 2
                  have F3 := HK.out.br.frozen 3
                  have HE := (show Hid _ from HPN.out w1 HK.out.bel HNO.out)
                  clear HK HNO HKR
                  go_wp2_with fail
                  refine bodyPost_ret (v := .tuple #[.agg #[.string an, .string ax, .bool false, .slice aa ak.length acap], .bool false]) (by simp [results, Try.results79, go_sem, R0, R1, R2, R3]) rfl ?_
                  exact HE.out _ _ _ _
            · have i4 : (c' == 4) = false := by simpa using e4
              obtain ⟨rfl, _⟩ := HAC.out.1 (by omega)
              have hkd := HAC.out.2.2 s.2 hat
              obtain ⟨d0, d1, d2, d3⟩ := HAC.out.2.1 s.2 hat
              obtain ⟨qa, ql, qp, hqv⟩ := hkd.form
              rw [hqv] at d3 hkd
              have HPC := (show Hid (paS ak ⟨c', t', k'⟩ (pa ⟨c', t', k'⟩) s = (pa ⟨c', t', k'⟩ ak[s.2]).map fun t => (s.1 ++ [t], s.2 + 1)) from (by show _ = _; unfold paS; rw [if_neg e5, dif_pos hat, if_neg e4]))
              generalize ak[s.2] = q at *
              have HCQ := (show Hid (∀ wq, Below wr.heap.size wr wq → Calls Try.prog 79 #[.agg #[.string q.name, .string q.text, .bool q.leaf, .slice qa ql qp], .agg #[.int .i64 c', .string t'.name, .string t'.text, .bool t'.leaf, .slice xa xl xp, .slice ya k'.length yp]] wq (PtA W0.heap.size (pa ⟨c', t', k'⟩ q) wq)) from fun wq h => HCL.out q _ wq hkd (HBWR.out.trans (h.mono HBWR.out.size)))
              have HSX := (show Hid (∀ wq, Below (wr.alloc (.cells #[.int .i64 c', .string t'.name, .string t'.text, .bool t'.leaf, .slice xa xl xp, .slice ya k'.length yp] 57)).heap.size (wr.alloc (.cells #[.int .i64 c', .string t'.name, .string t'.text, .bool t'.leaf, .slice xa xl xp, .slice ya k'.length yp] 57)) wq → wq.cell? ⟨w.heap.size, 3, none⟩ = some (.slice (some ⟨ab, aoff, none⟩) ak.length acap) ∧ (wq.cell? ⟨ab, aoff + s.2 * 4, none⟩ = some (.string q.name) ∧ wq.cell? ⟨ab, aoff + s.2 * 4 + 1, none⟩ = some (.string q.text) ∧ wq.cell? ⟨ab, aoff + s.2 * 4 + 2, none⟩ = some (.bool q.leaf) ∧ wq.cell? ⟨ab, aoff + s.2 * 4 + 3, none⟩ = some (.slice qa ql qp)) ∧ wq.cell? ⟨wr.heap.size, 0, none⟩ = some (.int .i64 c') ∧ wq.cell? ⟨wr.heap.size, 1, none⟩ = some (.string t'.name) ∧ wq.cell? ⟨wr.heap.size, 2, none⟩ = some (.string t'.text) ∧ wq.cell? ⟨wr.heap.size, 3, none⟩ = some (.bool t'.leaf) ∧ wq.cell? ⟨wr.heap.size, 4, none⟩ = some (.slice xa xl xp) ∧ wq.cell? ⟨wr.heap.size, 5, none⟩ = some (.slice ya k'.length yp)) from fun wq h => by
                have hb0 := bel_trans HAW.out h
                have hq := HBWR.out.trans (hb0.mono HBWR.out.size)
                have x := HKR.out.ba.still hb0
                have y := XB.out.still h
                exact ⟨x.cell 3 (by simp), ⟨(hq.cell (lt_of_cell d0)).trans d0, (hq.cell (lt_of_cell d1)).trans d1, (hq.cell (lt_of_cell d2)).trans d2, (hq.cell (lt_of_cell d3)).trans d3⟩, y.cell 0 (by simp), y.cell 1 (by simp), y.cell 2 (by simp), y.cell 3 (by simp), y.cell 4 (by simp), y.cell 5 (by simp)⟩)
              have HNP := (show Hid (pa ⟨c', t', k'⟩ q = none → paJ k ak k.length = none) from fun h => HPS.out (HPC.out.trans (by rw [h]; rfl)))
              have HSP := (show Hid (∀ T, pa ⟨c', t', k'⟩ q = some T → paJ k ak (j + 1) = some (s.1 ++ [T], s.2 + 1)) from fun T h => HST.out.trans (HPC.out.trans (by rw [h]; rfl)))
              have q1 : (0 : Int) ≤ (s.2 : Int) := by omega
              have q2 : (s.2 : Int) < (ak.length : Int) := by omega
              have hB0 := (Below.refl (wr.alloc (.cells #[.int .i64 c', .string t'.name, .string t'.text, .bool t'.leaf, .slice xa xl xp, .slice ya k'.length yp] 57)).heap.size (wr.alloc (.cells #[.int .i64 c', .string t'.name, .string t'.text, .bool t'.leaf, .slice xa xl xp, .slice ya k'.length yp] 57))).drew
              have hS0 := HSX.out _ hB0
              have hBA : Below (wr.alloc (.cells #[.int .i64 c', .string t'.name, .string t'.text, .bool t'.leaf, .slice xa xl xp, .slice ya k'.length yp] 57)).heap.size (wr.alloc (.cells #[.int .i64 c', .string t'.name, .string t'.text, .bool t'.leaf, .slice xa xl xp, .slice ya k'.length yp] 57)) ((wr.alloc (.cells #[.int .i64 c', .string t'.name, .string t'.text, .bool t'.leaf, .slice xa xl xp, .slice ya k'.length yp] 57)).drew.alloc (.cells #[.string ⟨#[]⟩, .string ⟨#[]⟩, .bool false, .slice none 0 0] 51)) := hB0.alloc (Nat.le_refl _) _
              have hBA2 : Below (wr.alloc (.cells #[.int .i64 c', .string t'.name, .string t'.text, .bool t'.leaf, .slice xa xl xp, .slice ya k'.length yp] 57)).heap.size (wr.alloc (.cells #[.int .i64 c', .string t'.name, .string t'.text, .bool t'.leaf, .slice xa xl xp, .slice ya k'.length yp] 57)) ((wr.alloc (.cells #[.int .i64 c', .string t'.name, .string t'.text, .bool t'.leaf, .slice xa xl xp, .slice ya k'.length yp] 57)).alloc (.cells #[.string ⟨#[]⟩, .string ⟨#[]⟩, .bool false, .slice none 0 0] 51)).drew := (bel_alloc _ _).drew
              clear HST HPS HPC HCL hkd hqv d0 d1 d2 d3 e4 e5 HTX
              go_wp2_with fail
              refine wp_region_held_drew (S := (fun wq => wq.cell? ⟨w.heap.size, 3, none⟩ = some (.slice (some ⟨ab, aoff, none⟩) ak.length acap) ∧ (wq.cell? ⟨ab, aoff + s.2 * 4, none⟩ = some (.string q.name) ∧ wq.cell? ⟨ab, aoff + s.2 * 4 + 1, none⟩ = some (.string q.text) ∧ wq.cell? ⟨ab, aoff + s.2 * 4 + 2, none⟩ = some (.bool q.leaf) ∧ wq.cell? ⟨ab, aoff + s.2 * 4 + 3, none⟩ = some (.slice qa ql qp)) ∧ wq.cell? ⟨wr.heap.size, 0, none⟩ = some (.int .i64 c') ∧ wq.cell? ⟨wr.heap.size, 1, none⟩ = some (.string t'.name) ∧ wq.cell? ⟨wr.heap.size, 2, none⟩ = some (.string t'.text) ∧ wq.cell? ⟨wr.heap.size, 3, none⟩ = some (.bool t'.leaf) ∧ wq.cell? ⟨wr.heap.size, 4, none⟩ = some (.slice xa xl xp) ∧ wq.cell? ⟨wr.heap.size, 5, none⟩ = some (.slice ya k'.length yp))) (by kernel_rfl) hS0 (fun hHeld => ?_)
              refine wpAnyH_take (i := 0) (oi := o79_26_0) (v := ?v1) rfl (by kernel_rfl) (by kernel_rfl) (by kernel_rfl) (fun _ _ _ h => h) (Or.inl ⟨by rfl, ?h1⟩) hHeld ?r1
              case h1 => (intro w hSw; (try dsimp only at hSw); go_simp; try with_reducible rfl)
              try simp only [Act.put, List.setIfInBounds_toArray, List.set_cons_zero, List.set_cons_succ]
              refine wpAnyH_take (i := 1) (oi := o79_26_1) (v := ?v2) rfl (by kernel_rfl) (by kernel_rfl) (by kernel_rfl) (fun _ _ _ h => h) (Or.inl ⟨by rfl, ?h2⟩) hHeld ?r2
              case h2 => (intro w hSw; (try dsimp only at hSw); go_simp; try with_reducible rfl)
              try simp only [Act.put, List.setIfInBounds_toArray, List.set_cons_zero, List.set_cons_succ]
              refine wpAnyH_take (i := 2) (oi := o79_26_2) (v := ?v3) rfl (by kernel_rfl) (by kernel_rfl) (by kernel_rfl) (fun _ _ _ h => h) (Or.inl ⟨by rfl, ?h3⟩) hHeld ?r3
              case h3 => (intro w hSw; (try dsimp only at hSw); go_simp; try with_reducible rfl)
              try simp only [Act.put, List.setIfInBounds_toArray, List.set_cons_zero, List.set_cons_succ]
              refine wpAnyH_take (i := 3) (oi := o79_26_3) (v := ?v4) rfl (by kernel_rfl) (by kernel_rfl) (by kernel_rfl) (fun _ _ _ h => h) (Or.inl ⟨by rfl, ?h4⟩) hHeld ?r4
              case h4 => (intro w hSw; (try dsimp only at hSw); go_simp; try with_reducible rfl)
              try simp only [Act.put, List.setIfInBounds_toArray, List.set_cons_zero, List.set_cons_succ]
              refine wpAnyH_take (i := 4) (oi := o79_26_4) (v := ?v5) rfl (by kernel_rfl) (by kernel_rfl) (by kernel_rfl) (fun _ _ _ h => h) (Or.inl ⟨by rfl, ?h5⟩) hHeld ?r5
              case h5 => (intro w hSw; (try dsimp only at hSw); go_simp; try with_reducible rfl)
              try simp only [Act.put, List.setIfInBounds_toArray, List.set_cons_zero, List.set_cons_succ]
              refine wpAnyH_take (i := 5) (oi := o79_26_5) (v := ?v6) rfl (by kernel_rfl) (by kernel_rfl) (by kernel_rfl) (fun _ _ _ h => h) (Or.inl ⟨by rfl, ?h6⟩) hHeld ?r6
              case h6 => (intro w hSw; (try dsimp only at hSw); go_simp; try with_reducible rfl)
              try simp only [Act.put, List.setIfInBounds_toArray, List.set_cons_zero, List.set_cons_succ]
              refine wpAnyH_ready (rs := [6, 10]) (by kernel_rfl) (by simp) ?_
              refine (AllReadyH.cons (o := o79_26_6) rfl (fun K hK => ?_) (AllReadyH.cons (o := o79_26_10) rfl (fun K hK => ?_) AllReadyH.nil))
              · go_simp
                refine Calls.mono (HCQ.out _ (bel_trans HAW.out hB0)) ?_
                rintro e w1 ⟨T, u1, B, rfl, hb1, hl1, h3, h4⟩
                obtain ⟨x1, x2, x3, rfl⟩ := hl1.form
                simp only [Tr.val]
                have hB1 := bel_trans hB0 hb1
                clear hHeld
                refine hK.out _ _ (HSX.out _ hB1) (fun hHeld => ?_)
                clear hK K
                try simp only [Act.put, List.setIfInBounds_toArray, List.set_cons_zero, List.set_cons_succ]
                refine wpAnyH_take (i := 7) (oi := o79_26_7) (v := ?v7) rfl (by kernel_rfl) (by kernel_rfl) (by kernel_rfl) (fun _ _ _ h => h) (Or.inl ⟨by rfl, ?h7⟩) hHeld ?r7
                case h7 => (intro w hSw; (try dsimp only at hSw); go_simp; try with_reducible rfl)
                try simp only [Act.put, List.setIfInBounds_toArray, List.set_cons_zero, List.set_cons_succ]
                refine wpAnyH_take (i := 8) (oi := o79_26_8) (v := ?v8) rfl (by kernel_rfl) (by kernel_rfl) (by kernel_rfl) (fun _ _ _ h => h) (Or.inl ⟨by rfl, ?h8⟩) hHeld ?r8
                case h8 => (intro w hSw; (try dsimp only at hSw); go_simp; try with_reducible rfl)
                try simp only [Act.put, List.setIfInBounds_toArray, List.set_cons_zero, List.set_cons_succ]
                refine wpAnyH_take (i := 9) (oi := o79_26_9) (v := ?v9) rfl (by kernel_rfl) (by kernel_rfl) (by kernel_rfl) (fun _ _ _ h => h) (Or.inl ⟨by rfl, ?h9⟩) hHeld ?r9
                case h9 => (intro w hSw; (try dsimp only at hSw); go_simp; try with_reducible rfl)
                try simp only [Act.put, List.setIfInBounds_toArray, List.set_cons_zero, List.set_cons_succ]
                refine wpAnyH_ready (rs := [10]) (by kernel_rfl) (by simp) ?_
                refine (AllReadyH.cons (o := o79_26_10) rfl (fun K hK => ?_) AllReadyH.nil)
                go_simp
                clear hHeld
                refine hK.out _ _ (HSX.out _ (hB1.alloc (by have := hB1.size; exact this) _)) (fun hHeld => ?_)
                clear hK K
                try simp only [Act.put, List.setIfInBounds_toArray, List.set_cons_zero, List.set_cons_succ]
                refine wpAnyH_ready (rs := [11]) (by kernel_rfl) (by simp) ?_
                refine (AllReadyH.cons (o := o79_26_11) rfl (fun K hK => ?_) AllReadyH.nil)
                go_simp
                clear hHeld
                refine hK.out _ _ (HSX.out _ (hB1.alloc (by have := hB1.size; exact this) _)) (fun hHeld => ?_)
                clear hK K
                try simp only [Act.put, List.setIfInBounds_toArray, List.set_cons_zero, List.set_cons_succ]
                refine wpAnyH_ready (rs := [12]) (by kernel_rfl) (by simp) ?_
                refine (AllReadyH.cons (o := o79_26_12) rfl (fun K hK => ?_) AllReadyH.nil)
                go_simp
                clear hHeld
                refine hK.out _ _ (HSX.out _ (hB1.alloc (by have := hB1.size; exact this) _)) (fun hHeld => ?_)
                clear hK K
                try simp only [Act.put, List.setIfInBounds_toArray, List.set_cons_zero, List.set_cons_succ]
                refine wpAnyH_done (by kernel_rfl) ?_ _
                have HBZ := (show Hid (Below wr.heap.size wr (w1.alloc (.cells #[.string T.name, .string T.text, .bool T.leaf, .slice x1 x2 x3] 51))) from bel_trans (bel_trans HAW.out hB1) (bel_alloc _ _))
                have HLZ := (show Hid (Lies (w1.alloc (.cells #[.string T.name, .string T.text, .bool T.leaf, .slice x1 x2 x3] 51)) (fun q => q < W0.heap.size ∨ wr.heap.size ≤ q) T (.slice x1 x2 x3)) from (hl1.mono (fun q h => by have := (bel_trans HAW.out hB0).size; omega)).still (bel_alloc _ _))
                clear hb1 hl1 hB1 hB0 hS0 hBA hBA2 hHeld D5 c0 c1 c2 c3 c4 c5 A3
                cases B
                · have HNO := (show Hid (paJ k ak k.length = none) from HNP.out (h4 rfl))
                  have HK := (show Hid (PkI W0 w (w1.alloc (.cells #[.string T.name, .string T.text, .bool T.leaf, .slice x1 x2 x3] 51)) go (Tr.mk an ax false ak) ⟨3, t, k⟩ (.slice (some ⟨ab, aoff, none⟩) ak.length acap) (.slice ta tl tp) (.slice (some ⟨kb, koff, none⟩) k.length kp) (.slice ua s.1.length up) s.1) from HKR.out.still HBZ.out)
                  clear h3 h4 HNP HSP HBZ HLZ HCQ HSX HAW XB
                  have A0 : (w1.alloc (.cells #[.string T.name, .string T.text, .bool T.leaf, .slice x1 x2 x3] 51)).cell? ⟨w.heap.size, 0, none⟩ = some (.string an) := HK.out.ba.cell 0 (by simp)
                  have A1 : (w1.alloc (.cells #[.string T.name, .string T.text, .bool T.leaf, .slice x1 x2 x3] 51)).cell? ⟨w.heap.size, 1, none⟩ = some (.string ax) := HK.out.ba.cell 1 (by simp)
                  have A2 : (w1.alloc (.cells #[.string T.name, .string T.text, .bool T.leaf, .slice x1 x2 x3] 51)).cell? ⟨w.heap.size, 2, none⟩ = some (.bool false) := HK.out.ba.cell 2 (by simp)
                  have A3' : (w1.alloc (.cells #[.string T.name, .string T.text, .bool T.leaf, .slice x1 x2 x3] 51)).cell? ⟨w.heap.size, 3, none⟩ = some (.slice (some ⟨ab, aoff, none⟩) ak.length acap) := HK.out.ba.cell 3 (by simp)
                  have R0 : (w1.alloc (.cells #[.string T.name, .string T.text, .bool T.leaf, .slice x1 x2 x3] 51)).cell? ⟨w.heap.size + 1 + 1, 0, none⟩ = some (.string ⟨#[]⟩) := HK.out.br.cell 0 (by simp)
                  have R1 : (w1.alloc (.cells #[.string T.name, .string T.text, .bool T.leaf, .slice x1 x2 x3] 51)).cell? ⟨w.heap.size + 1 + 1, 1, none⟩ = some (.string ⟨#[]⟩) := HK.out.br.cell 1 (by simp)
                  have R2 : (w1.alloc (.cells #[.string T.name, .string T.text, .bool T.leaf, .slice x1 x2 x3] 51)).cell? ⟨w.heap.size + 1 + 1, 2, none⟩ = some (.bool false) := HK.out.br.cell 2 (by simp)
                  have R3 : (w1.alloc (.cells #[.string T.name, .string T.text, .bool T.leaf, .slice x1 x2 x3] 51)).cell? ⟨w.heap.size + 1 + 1, 3, none⟩ = some (.slice none 0 0) := HK.out.br.cell 3 (by simp)
                  have F0 := HK.out.br.frozen 0
                  have F1 := HK.out.br.frozen 1
                  have F2 := HK.out.br.frozen 2
                  have F3 := HK.out.br.frozen 3
                  have HE := (show Hid _ from HPN.out (w1.alloc (.cells #[.string T.name, .string T.text, .bool T.leaf, .slice x1 x2 x3] 51)) HK.out.bel HNO.out)
                  clear HK HNO HKR
                  go_wp2_with fail
                  refine bodyPost_ret (v := .tuple #[.agg #[.string an, .string ax, .bool false, .slice (some ⟨ab, aoff, none⟩) ak.length acap], .bool false]) (by simp [results, Try.results79, go_sem, R0, R1, R2, R3]) rfl ?_
                  exact HE.out _ _ _ _
                · have HNX := (show Hid (paJ k ak (j + 1) = some (s.1 ++ [T], s.2 + 1)) from HSP.out T (h3 rfl))
                  clear h3 h4 HNP HSP HCQ HSX HAW XB
                  obtain ⟨fs, hown, hls⟩ := HKR.out.fg
                  have HO2 := (show Hid _ from own_still (own_still hown HBZ.out) (bel_alloc (w1.alloc (.cells #[.string T.name, .string T.text, .bool T.leaf, .slice x1 x2 x3] 51)) (.cells #[.string T.name, .string T.text, .bool T.leaf, (.slice x1 x2 x3)] 51)))
                  have HFG := (show Hid _ from (⟨hown, hls⟩ : _ ∧ _))
                  clear hown hls
                  have O3 : (w1.alloc (.cells #[.string T.name, .string T.text, .bool T.leaf, .slice x1 x2 x3] 51)).cell? ⟨go, 3, none⟩ = some (.slice ua s.1.length up) := (HKR.out.bo.still HBZ.out).cell 3 (by simp)
                  have hwz : go + 1 ≤ (w1.alloc (.cells #[.string T.name, .string T.text, .bool T.leaf, .slice x1 x2 x3] 51)).heap.size := by have := HKR.out.bo.lt; have := HBZ.out.size; omega
                  try simp only [World.size_alloc, World.size_setCell] at hwz
                  go_wp2_with (at_builtin; refine wpList_append_lies _ rfl (.tmp 123) (.tmp 125) 30 rfl (go + 1) 51 i51 _ 4 64 Try.underlying30 hi51 hz0 hz1 hz2 rfl (by decide) _ s.1.length (kc s.1 fs s.1.length) rfl HO2.out ⟨w1.heap.size + 1, 0, none⟩ 1 1 [.string T.name, .string T.text, .bool T.leaf, (.slice x1 x2 x3)] rfl rfl ?cc1 ?cc2 (by decide) ?cc3 (by omega) (by simp; omega) _ rfl ?nx)
                  case cc1 => (have hc := cell_four_box (w1.alloc (.cells #[.string T.name, .string T.text, .bool T.leaf, .slice x1 x2 x3] 51)) (.string T.name) (.string T.text) (.bool T.leaf) (.slice x1 x2 x3) 51; first | exact hc | (simp only [World.size_alloc, World.size_setCell] at hc; exact hc))
                  case cc2 => intro u hu; simp at hu; rcases hu with rfl | rfl | rfl | rfl <;> rfl
                  case cc3 => unfold maxLen; omega
                  case nx =>
                    intro g3 cap3 w3 hown3 hgr3 hat3 hlt3
                    have hblk : w3.heap[go]? = wr.heap[go]? := by
                      have h1 := HFG.out.1.lt
                      refine (hgr3.block _ (by simp; omega) (fun e => by have := (h1 _ e.symm).1; omega)).trans ?_
                      exact ((bel_trans HBZ.out (bel_alloc (w1.alloc (.cells #[.string T.name, .string T.text, .bool T.leaf, .slice x1 x2 x3] 51)) (.cells #[.string T.name, .string T.text, .bool T.leaf, (.slice x1 x2 x3)] 51))).block _ (by have := HKR.out.bo.lt; omega))
                    have bo3 := HKR.out.bo.keep hblk
                    have P3 : w3.cell? ⟨go, 3, none⟩ = some (.slice ua s.1.length up) := bo3.cell 3 (by simp)
                    have Q3 := bo3.frozen 3
                    have HN := (show Hid (PkI W0 w (w3.setCell ⟨go, 3, none⟩ (.slice (some ⟨g3, 0, none⟩) (s.1.length + 1) cap3)) go (Tr.mk an ax false ak) ⟨3, t, k⟩ (.slice (some ⟨ab, aoff, none⟩) ak.length acap) (.slice ta tl tp) (.slice (some ⟨kb, koff, none⟩) k.length kp) (.slice (some ⟨g3, 0, none⟩) (s.1.length + 1) cap3) (s.1 ++ [T])) from PkI.next HKR.out hC (bel_trans HBZ.out (bel_alloc _ _)) (HLZ.out.still (bel_alloc _ _)) HFG.out.1 HFG.out.2 hown3 hgr3 (by simp only [World.size_alloc, World.size_setCell] at hat3 ⊢; exact hat3))
                    clear hown3 hgr3 hat3 hlt3 hblk bo3 HFG HO2 HKR HBZ HLZ
                    go_wp2_with fail
                    exact ⟨⟨j + 1, (s.1 ++ [T], s.2 + 1), some ⟨g3, 0, none⟩, cap3, .slice (some ⟨g3, 0, none⟩) (s.1.length + 1) cap3, by simp, by go_num, by go_num, by omega, by (dsimp only; omega), HNX, by (simp; omega), HN⟩, by simp [intOf]; omega⟩
              · go_simp
                clear hHeld
                refine hK.out _ _ (HSX.out _ (by first | exact hBA | exact hBA2)) (fun hHeld => ?_)
                clear hK K
                try simp only [Act.put, List.setIfInBounds_toArray, List.set_cons_zero, List.set_cons_succ]
                refine wpAnyH_ready (rs := [6]) (by kernel_rfl) (by simp) ?_
                refine (AllReadyH.cons (o := o79_26_6) rfl (fun K hK => ?_) AllReadyH.nil)
                go_simp
                refine Calls.mono (HCQ.out _ (bel_trans HAW.out hBA)) ?_
                rintro e w1 ⟨T, u1, B, rfl, hb1, hl1, h3, h4⟩
                obtain ⟨x1, x2, x3, rfl⟩ := hl1.form
                simp only [Tr.val]
                have hB1 := bel_trans hBA hb1
                have hbz : Box w1 (wr.heap.size + 1) 51 [.string ⟨#[]⟩, .string ⟨#[]⟩, .bool false, .slice none 0 0] := by
                  have := (Box.new (wr.alloc (.cells #[.int .i64 c', .string t'.name, .string t'.text, .bool t'.leaf, .slice xa xl xp, .slice ya k'.length yp] 57)).drew 51 [.string ⟨#[]⟩, .string ⟨#[]⟩, .bool false, .slice none 0 0]).still hb1
                  simpa using this
                have z0 : w1.cell? ⟨wr.heap.size + 1, 0, none⟩ = some (.string ⟨#[]⟩) := hbz.cell 0 (by simp)
                have z1 : w1.cell? ⟨wr.heap.size + 1, 1, none⟩ = some (.string ⟨#[]⟩) := hbz.cell 1 (by simp)
                have z2 : w1.cell? ⟨wr.heap.size + 1, 2, none⟩ = some (.bool false) := hbz.cell 2 (by simp)
                have z3 : w1.cell? ⟨wr.heap.size + 1, 3, none⟩ = some (.slice none 0 0) := hbz.cell 3 (by simp)
                have y0 := hbz.frozen 0
                have y1 := hbz.frozen 1
                have y2 := hbz.frozen 2
                have y3 := hbz.frozen 3
                clear hbz
                clear hHeld
                refine hK.out _ _ (HSX.out _ hB1) (fun hHeld => ?_)
                clear hK K
                try simp only [Act.put, List.setIfInBounds_toArray, List.set_cons_zero, List.set_cons_succ]
                refine wpAnyH_take (i := 7) (oi := o79_26_7) (v := ?v10) rfl (by kernel_rfl) (by kernel_rfl) (by kernel_rfl) (fun _ _ _ h => h) (Or.inl ⟨by rfl, ?h10⟩) hHeld ?r10
                case h10 => (intro w hSw; (try dsimp only at hSw); go_simp; try with_reducible rfl)
                try simp only [Act.put, List.setIfInBounds_toArray, List.set_cons_zero, List.set_cons_succ]
                refine wpAnyH_take (i := 8) (oi := o79_26_8) (v := ?v11) rfl (by kernel_rfl) (by kernel_rfl) (by kernel_rfl) (fun _ _ _ h => h) (Or.inl ⟨by rfl, ?h11⟩) hHeld ?r11
                case h11 => (intro w hSw; (try dsimp only at hSw); go_simp; try with_reducible rfl)
                try simp only [Act.put, List.setIfInBounds_toArray, List.set_cons_zero, List.set_cons_succ]
                refine wpAnyH_take (i := 9) (oi := o79_26_9) (v := ?v12) rfl (by kernel_rfl) (by kernel_rfl) (by kernel_rfl) (fun _ _ _ h => h) (Or.inl ⟨by rfl, ?h12⟩) hHeld ?r12
                case h12 => (intro w hSw; (try dsimp only at hSw); go_simp; try with_reducible rfl)
                try simp only [Act.put, List.setIfInBounds_toArray, List.set_cons_zero, List.set_cons_succ]
                have hB2 : Below (wr.alloc (.cells #[.int .i64 c', .string t'.name, .string t'.text, .bool t'.leaf, .slice xa xl xp, .slice ya k'.length yp] 57)).heap.size (wr.alloc (.cells #[.int .i64 c', .string t'.name, .string t'.text, .bool t'.leaf, .slice xa xl xp, .slice ya k'.length yp] 57)) ((((w1.setCell ⟨wr.heap.size + 1, 0, none⟩ (.string T.name)).setCell ⟨wr.heap.size + 1, 1, none⟩ (.string T.text)).setCell ⟨wr.heap.size + 1, 2, none⟩ (.bool T.leaf)).setCell ⟨wr.heap.size + 1, 3, none⟩ (.slice x1 x2 x3)) := (((hB1.setCell (by simp) _).setCell (by simp) _).setCell (by simp) _).setCell (by simp) _
                refine wpAnyH_ready (rs := [11]) (by kernel_rfl) (by simp) ?_
                refine (AllReadyH.cons (o := o79_26_11) rfl (fun K hK => ?_) AllReadyH.nil)
                go_simp
                clear hHeld
                refine hK.out _ _ (HSX.out _ hB2) (fun hHeld => ?_)
                clear hK K
                try simp only [Act.put, List.setIfInBounds_toArray, List.set_cons_zero, List.set_cons_succ]
                refine wpAnyH_ready (rs := [12]) (by kernel_rfl) (by simp) ?_
                refine (AllReadyH.cons (o := o79_26_12) rfl (fun K hK => ?_) AllReadyH.nil)
                go_simp
                clear hHeld
                refine hK.out _ _ (HSX.out _ hB2) (fun hHeld => ?_)
                clear hK K
                try simp only [Act.put, List.setIfInBounds_toArray, List.set_cons_zero, List.set_cons_succ]
                refine wpAnyH_done (by kernel_rfl) ?_ _
                have HBZ := (show Hid (Below wr.heap.size wr ((((w1.setCell ⟨wr.heap.size + 1, 0, none⟩ (.string T.name)).setCell ⟨wr.heap.size + 1, 1, none⟩ (.string T.text)).setCell ⟨wr.heap.size + 1, 2, none⟩ (.bool T.leaf)).setCell ⟨wr.heap.size + 1, 3, none⟩ (.slice x1 x2 x3))) from bel_trans HAW.out hB2)
                have HLZ := (show Hid (Lies ((((w1.setCell ⟨wr.heap.size + 1, 0, none⟩ (.string T.name)).setCell ⟨wr.heap.size + 1, 1, none⟩ (.string T.text)).setCell ⟨wr.heap.size + 1, 2, none⟩ (.bool T.leaf)).setCell ⟨wr.heap.size + 1, 3, none⟩ (.slice x1 x2 x3)) (fun q => q < W0.heap.size ∨ wr.heap.size ≤ q) T (.slice x1 x2 x3)) from (Lies.keep (fun q hq => by
                  have hC3 := HBWR.out.size
                  have hq2 : q < W0.heap.size ∨ wr.heap.size + 1 + 1 ≤ q := by simpa using hq
                  have e2 : q ≠ wr.heap.size + 1 := by omega
                  exact (blk_setCell_other _ _ _ _ e2).trans ((blk_setCell_other _ _ _ _ e2).trans ((blk_setCell_other _ _ _ _ e2).trans (blk_setCell_other _ _ _ _ e2)))) hl1).mono (fun q h => by
                  have hq2 : q < W0.heap.size ∨ wr.heap.size + 1 + 1 ≤ q := by simpa using h
                  omega))
                clear hb1 hl1 hB1 hB0 hS0 hBA hBA2 hHeld D5 c0 c1 c2 c3 c4 c5 A3 hB2
                cases B
                · have HNO := (show Hid (paJ k ak k.length = none) from HNP.out (h4 rfl))
                  have HK := (show Hid (PkI W0 w ((((w1.setCell ⟨wr.heap.size + 1, 0, none⟩ (.string T.name)).setCell ⟨wr.heap.size + 1, 1, none⟩ (.string T.text)).setCell ⟨wr.heap.size + 1, 2, none⟩ (.bool T.leaf)).setCell ⟨wr.heap.size + 1, 3, none⟩ (.slice x1 x2 x3)) go (Tr.mk an ax false ak) ⟨3, t, k⟩ (.slice (some ⟨ab, aoff, none⟩) ak.length acap) (.slice ta tl tp) (.slice (some ⟨kb, koff, none⟩) k.length kp) (.slice ua s.1.length up) s.1) from HKR.out.still HBZ.out)
                  clear h3 h4 HNP HSP HBZ HLZ HCQ HSX HAW XB
                  have A0 : ((((w1.setCell ⟨wr.heap.size + 1, 0, none⟩ (.string T.name)).setCell ⟨wr.heap.size + 1, 1, none⟩ (.string T.text)).setCell ⟨wr.heap.size + 1, 2, none⟩ (.bool T.leaf)).setCell ⟨wr.heap.size + 1, 3, none⟩ (.slice x1 x2 x3)).cell? ⟨w.heap.size, 0, none⟩ = some (.string an) := HK.out.ba.cell 0 (by simp)
                  have A1 : ((((w1.setCell ⟨wr.heap.size + 1, 0, none⟩ (.string T.name)).setCell ⟨wr.heap.size + 1, 1, none⟩ (.string T.text)).setCell ⟨wr.heap.size + 1, 2, none⟩ (.bool T.leaf)).setCell ⟨wr.heap.size + 1, 3, none⟩ (.slice x1 x2 x3)).cell? ⟨w.heap.size, 1, none⟩ = some (.string ax) := HK.out.ba.cell 1 (by simp)
                  have A2 : ((((w1.setCell ⟨wr.heap.size + 1, 0, none⟩ (.string T.name)).setCell ⟨wr.heap.size + 1, 1, none⟩ (.string T.text)).setCell ⟨wr.heap.size + 1, 2, none⟩ (.bool T.leaf)).setCell ⟨wr.heap.size + 1, 3, none⟩ (.slice x1 x2 x3)).cell? ⟨w.heap.size, 2, none⟩ = some (.bool false) := HK.out.ba.cell 2 (by simp)
                  have A3' : ((((w1.setCell ⟨wr.heap.size + 1, 0, none⟩ (.string T.name)).setCell ⟨wr.heap.size + 1, 1, none⟩ (.string T.text)).setCell ⟨wr.heap.size + 1, 2, none⟩ (.bool T.leaf)).setCell ⟨wr.heap.size + 1, 3, none⟩ (.slice x1 x2 x3)).cell? ⟨w.heap.size, 3, none⟩ = some (.slice (some ⟨ab, aoff, none⟩) ak.length acap) := HK.out.ba.cell 3 (by simp)
                  have R0 : ((((w1.setCell ⟨wr.heap.size + 1, 0, none⟩ (.string T.name)).setCell ⟨wr.heap.size + 1, 1, none⟩ (.string T.text)).setCell ⟨wr.heap.size + 1, 2, none⟩ (.bool T.leaf)).setCell ⟨wr.heap.size + 1, 3, none⟩ (.slice x1 x2 x3)).cell? ⟨w.heap.size + 1 + 1, 0, none⟩ = some (.string ⟨#[]⟩) := HK.out.br.cell 0 (by simp)
                  have R1 : ((((w1.setCell ⟨wr.heap.size + 1, 0, none⟩ (.string T.name)).setCell ⟨wr.heap.size + 1, 1, none⟩ (.string T.text)).setCell ⟨wr.heap.size + 1, 2, none⟩ (.bool T.leaf)).setCell ⟨wr.heap.size + 1, 3, none⟩ (.slice x1 x2 x3)).cell? ⟨w.heap.size + 1 + 1, 1, none⟩ = some (.string ⟨#[]⟩) := HK.out.br.cell 1 (by simp)
                  have R2 : ((((w1.setCell ⟨wr.heap.size + 1, 0, none⟩ (.string T.name)).setCell ⟨wr.heap.size + 1, 1, none⟩ (.string T.text)).setCell ⟨wr.heap.size + 1, 2, none⟩ (.bool T.leaf)).setCell ⟨wr.heap.size + 1, 3, none⟩ (.slice x1 x2 x3)).cell? ⟨w.heap.size + 1 + 1, 2, none⟩ = some (.bool false) := HK.out.br.cell 2 (by simp)
                  have R3 : ((((w1.setCell ⟨wr.heap.size + 1, 0, none⟩ (.string T.name)).setCell ⟨wr.heap.size + 1, 1, none⟩ (.string T.text)).setCell ⟨wr.heap.size + 1, 2, none⟩ (.bool T.leaf)).setCell ⟨wr.heap.size + 1, 3, none⟩ (.slice x1 x2 x3)).cell? ⟨w.heap.size + 1 + 1, 3, none⟩ = some (.slice none 0 0) := HK.out.br.cell 3 (by simp)
                  have F0 := HK.out.br.frozen 0
                  have F1 := HK.out.br.frozen 1
                  have F2 := HK.out.br.frozen 2
                  have F3 := HK.out.br.frozen 3
                  have HE := (show Hid _ from HPN.out ((((w1.setCell ⟨wr.heap.size + 1, 0, none⟩ (.string T.name)).setCell ⟨wr.heap.size + 1, 1, none⟩ (.string T.text)).setCell ⟨wr.heap.size + 1, 2, none⟩ (.bool T.leaf)).setCell ⟨wr.heap.size + 1, 3, none⟩ (.slice x1 x2 x3)) HK.out.bel HNO.out)
                  clear HK HNO HKR
                  go_wp2_with fail
                  refine bodyPost_ret (v := .tuple #[.agg #[.string an, .string ax, .bool false, .slice (some ⟨ab, aoff, none⟩) ak.length acap], .bool false]) (by simp [results, Try.results79, go_sem, R0, R1, R2, R3]) rfl ?_
                  exact HE.out _ _ _ _
                · have HNX := (show Hid (paJ k ak (j + 1) = some (s.1 ++ [T], s.2 + 1)) from HSP.out T (h3 rfl))
                  clear h3 h4 HNP HSP HCQ HSX HAW XB
                  obtain ⟨fs, hown, hls⟩ := HKR.out.fg
                  have HO2 := (show Hid _ from own_still (own_still hown HBZ.out) (bel_alloc ((((w1.setCell ⟨wr.heap.size + 1, 0, none⟩ (.string T.name)).setCell ⟨wr.heap.size + 1, 1, none⟩ (.string T.text)).setCell ⟨wr.heap.size + 1, 2, none⟩ (.bool T.leaf)).setCell ⟨wr.heap.size + 1, 3, none⟩ (.slice x1 x2 x3)) (.cells #[.string T.name, .string T.text, .bool T.leaf, (.slice x1 x2 x3)] 51)))
                  have HFG := (show Hid _ from (⟨hown, hls⟩ : _ ∧ _))
                  clear hown hls
                  have O3 : ((((w1.setCell ⟨wr.heap.size + 1, 0, none⟩ (.string T.name)).setCell ⟨wr.heap.size + 1, 1, none⟩ (.string T.text)).setCell ⟨wr.heap.size + 1, 2, none⟩ (.bool T.leaf)).setCell ⟨wr.heap.size + 1, 3, none⟩ (.slice x1 x2 x3)).cell? ⟨go, 3, none⟩ = some (.slice ua s.1.length up) := (HKR.out.bo.still HBZ.out).cell 3 (by simp)
                  have hwz : go + 1 ≤ ((((w1.setCell ⟨wr.heap.size + 1, 0, none⟩ (.string T.name)).setCell ⟨wr.heap.size + 1, 1, none⟩ (.string T.text)).setCell ⟨wr.heap.size + 1, 2, none⟩ (.bool T.leaf)).setCell ⟨wr.heap.size + 1, 3, none⟩ (.slice x1 x2 x3)).heap.size := by have := HKR.out.bo.lt; have := HBZ.out.size; omega
                  try simp only [World.size_alloc, World.size_setCell] at hwz
                  go_wp2_with (at_builtin; refine wpList_append_lies _ rfl (.tmp 123) (.tmp 125) 30 rfl (go + 1) 51 i51 _ 4 64 Try.underlying30 hi51 hz0 hz1 hz2 rfl (by decide) _ s.1.length (kc s.1 fs s.1.length) rfl HO2.out ⟨w1.heap.size, 0, none⟩ 1 1 [.string T.name, .string T.text, .bool T.leaf, (.slice x1 x2 x3)] rfl rfl ?cc1 ?cc2 (by decide) ?cc3 (by omega) (by simp; omega) _ rfl ?nx)
                  case cc1 => (have hc := cell_four_box ((((w1.setCell ⟨wr.heap.size + 1, 0, none⟩ (.string T.name)).setCell ⟨wr.heap.size + 1, 1, none⟩ (.string T.text)).setCell ⟨wr.heap.size + 1, 2, none⟩ (.bool T.leaf)).setCell ⟨wr.heap.size + 1, 3, none⟩ (.slice x1 x2 x3)) (.string T.name) (.string T.text) (.bool T.leaf) (.slice x1 x2 x3) 51; first | exact hc | (simp only [World.size_alloc, World.size_setCell] at hc; exact hc))
                  case cc2 => intro u hu; simp at hu; rcases hu with rfl | rfl | rfl | rfl <;> rfl
                  case cc3 => unfold maxLen; omega
                  case nx =>
                    intro g3 cap3 w3 hown3 hgr3 hat3 hlt3
                    have hblk : w3.heap[go]? = wr.heap[go]? := by
                      have h1 := HFG.out.1.lt
                      refine (hgr3.block _ (by simp; omega) (fun e => by have := (h1 _ e.symm).1; omega)).trans ?_
                      exact ((bel_trans HBZ.out (bel_alloc ((((w1.setCell ⟨wr.heap.size + 1, 0, none⟩ (.string T.name)).setCell ⟨wr.heap.size + 1, 1, none⟩ (.string T.text)).setCell ⟨wr.heap.size + 1, 2, none⟩ (.bool T.leaf)).setCell ⟨wr.heap.size + 1, 3, none⟩ (.slice x1 x2 x3)) (.cells #[.string T.name, .string T.text, .bool T.leaf, (.slice x1 x2 x3)] 51))).block _ (by have := HKR.out.bo.lt; omega))
                    have bo3 := HKR.out.bo.keep hblk
                    have P3 : w3.cell? ⟨go, 3, none⟩ = some (.slice ua s.1.length up) := bo3.cell 3 (by simp)
                    have Q3 := bo3.frozen 3
                    have HN := (show Hid (PkI W0 w (w3.setCell ⟨go, 3, none⟩ (.slice (some ⟨g3, 0, none⟩) (s.1.length + 1) cap3)) go (Tr.mk an ax false ak) ⟨3, t, k⟩ (.slice (some ⟨ab, aoff, none⟩) ak.length acap) (.slice ta tl tp) (.slice (some ⟨kb, koff, none⟩) k.length kp) (.slice (some ⟨g3, 0, none⟩) (s.1.length + 1) cap3) (s.1 ++ [T])) from PkI.next HKR.out hC (bel_trans HBZ.out (bel_alloc _ _)) (HLZ.out.still (bel_alloc _ _)) HFG.out.1 HFG.out.2 hown3 hgr3 (by simp only [World.size_alloc, World.size_setCell] at hat3 ⊢; exact hat3))
                    clear hown3 hgr3 hat3 hlt3 hblk bo3 HFG HO2 HKR HBZ HLZ
                    go_wp2_with fail
                    exact ⟨⟨j + 1, (s.1 ++ [T], s.2 + 1), some ⟨g3, 0, none⟩, cap3, .slice (some ⟨g3, 0, none⟩) (s.1.length + 1) cap3, by simp, by go_num, by go_num, by omega, by (dsimp only; omega), HNX, by (simp; omega), HN⟩, by simp [intOf]; omega⟩
          · have j1 : decide ((ak.length : Int) ≤ (s.2 : Int)) = true := decide_eq_true (by omega)
            have HNO := (show Hid (paJ k ak k.length = none) from HPS.out (by unfold paS; rw [if_neg e5, dif_neg hat]))
            have HK := (show Hid (PkI W0 w (wr.alloc (.cells #[.int .i64 c', .string t'.name, .string t'.text, .bool t'.leaf, .slice xa xl xp, .slice ya k'.length yp] 57)) go (Tr.mk an ax false ak) ⟨3, t, k⟩ (.slice aa ak.length acap) (.slice ta tl tp) (.slice (some ⟨kb, koff, none⟩) k.length kp) (.slice ua s.1.length up) s.1) from HKR.out.still HAW.out)
            clear HST HPS HTX XB HAW HCL
            have A0 : (wr.alloc (.cells #[.int .i64 c', .string t'.name, .string t'.text, .bool t'.leaf, .slice xa xl xp, .slice ya k'.length yp] 57)).cell? ⟨w.heap.size, 0, none⟩ = some (.string an) := HK.out.ba.cell 0 (by simp)
            have A1 : (wr.alloc (.cells #[.int .i64 c', .string t'.name, .string t'.text, .bool t'.leaf, .slice xa xl xp, .slice ya k'.length yp] 57)).cell? ⟨w.heap.size, 1, none⟩ = some (.string ax) := HK.out.ba.cell 1 (by simp)
            have A2 : (wr.alloc (.cells #[.int .i64 c', .string t'.name, .string t'.text, .bool t'.leaf, .slice xa xl xp, .slice ya k'.length yp] 57)).cell? ⟨w.heap.size, 2, none⟩ = some (.bool false) := HK.out.ba.cell 2 (by simp)
            have A3' : (wr.alloc (.cells #[.int .i64 c', .string t'.name, .string t'.text, .bool t'.leaf, .slice xa xl xp, .slice ya k'.length yp] 57)).cell? ⟨w.heap.size, 3, none⟩ = some (.slice aa ak.length acap) := HK.out.ba.cell 3 (by simp)
            have R0 : (wr.alloc (.cells #[.int .i64 c', .string t'.name, .string t'.text, .bool t'.leaf, .slice xa xl xp, .slice ya k'.length yp] 57)).cell? ⟨w.heap.size + 1 + 1, 0, none⟩ = some (.string ⟨#[]⟩) := HK.out.br.cell 0 (by simp)
            have R1 : (wr.alloc (.cells #[.int .i64 c', .string t'.name, .string t'.text, .bool t'.leaf, .slice xa xl xp, .slice ya k'.length yp] 57)).cell? ⟨w.heap.size + 1 + 1, 1, none⟩ = some (.string ⟨#[]⟩) := HK.out.br.cell 1 (by simp)
            have R2 : (wr.alloc (.cells #[.int .i64 c', .string t'.name, .string t'.text, .bool t'.leaf, .slice xa xl xp, .slice ya k'.length yp] 57)).cell? ⟨w.heap.size + 1 + 1, 2, none⟩ = some (.bool false) := HK.out.br.cell 2 (by simp)
            have R3 : (wr.alloc (.cells #[.int .i64 c', .string t'.name, .string t'.text, .bool t'.leaf, .slice xa xl xp, .slice ya k'.length yp] 57)).cell? ⟨w.heap.size + 1 + 1, 3, none⟩ = some (.slice none 0 0) := HK.out.br.cell 3 (by simp)
            have F0 := HK.out.br.frozen 0
            have F1 := HK.out.br.frozen 1
            have F2 := HK.out.br.frozen 2
            have F3 := HK.out.br.frozen 3
            have HE := (show Hid _ from HPN.out (wr.alloc (.cells #[.int .i64 c', .string t'.name, .string t'.text, .bool t'.leaf, .slice xa xl xp, .slice ya k'.length yp] 57)) HK.out.bel HNO.out)
            clear HK HNO HKR
            go_wp2_with fail
            refine bodyPost_ret (v := .tuple #[.agg #[.string an, .string ax, .bool false, .slice aa ak.length acap], .bool false]) (by simp [results, Try.results79, go_sem, R0, R1, R2, R3]) rfl ?_
            exact HE.out _ _ _ _
      · obtain rfl : j = k.length := by omega
        have HPF1 := (show Hid (pa ⟨3, t, k⟩ ⟨an, ax, false, ak⟩ = if s.2 = ak.length then some ⟨an, ByteArray.empty, false, s.1⟩ else none) from HPF.out s HJ.out)
        have HFIN := (show Hid (∀ x0 x1 x2 x3, PtA W0.heap.size (pa ⟨3, t, k⟩ ⟨an, ax, false, ak⟩) w (.returned (.tuple #[.agg #[.string an, .string ⟨#[]⟩, .bool false, .slice ua s.1.length up], .bool ((s.2 : Int) == (ak.length : Int))])) ((((wr.drew.setCell ⟨w.heap.size + 1 + 1, 0, none⟩ x0).setCell ⟨w.heap.size + 1 + 1, 1, none⟩ x1).setCell ⟨w.heap.size + 1 + 1, 2, none⟩ x2).setCell ⟨w.heap.size + 1 + 1, 3, none⟩ x3)) from fun x0 x1 x2 x3 => by
          have hdr := (Below.refl wr.heap.size wr).drew
          have hg := HKR.out.at'
          refine PtA.of (T := ⟨an, ByteArray.empty, false, s.1⟩) (bel_trans HKR.out.bel hdr) ((Lies.mono (fun q h => by omega) (FGr.done (n := an) (x := ByteArray.empty) (le := false) HKR.out.fg HNM.out (Nat.zero_le _))).still hdr) hC (fun h => ?_) (fun h => ?_)
          · rw [HPF1.out, if_pos (by simp at h; omega)]
          · rw [HPF1.out, if_neg (by simp at h; omega)])
        have hS0 : (wr.drew.cell? ⟨go, 0, none⟩ = some (.string an) ∧ wr.drew.cell? ⟨go, 1, none⟩ = some (.string ⟨#[]⟩) ∧ wr.drew.cell? ⟨go, 2, none⟩ = some (.bool false) ∧ wr.drew.cell? ⟨go, 3, none⟩ = some (.slice ua s.1.length up)) ∧ wr.drew.cell? ⟨w.heap.size, 3, none⟩ = some (.slice aa ak.length acap) := ⟨⟨HKR.out.bo.cell 0 (by simp), HKR.out.bo.cell 1 (by simp), HKR.out.bo.cell 2 (by simp), HKR.out.bo.cell 3 (by simp)⟩, HKR.out.ba.cell 3 (by simp)⟩
        have hbo := ((((HKR.out.bo.still (Below.refl wr.heap.size wr).drew).past (q := w.heap.size + 1 + 1) (o := 0) (u := .string an) (by have := HKR.out.at'; omega)).past (q := w.heap.size + 1 + 1) (o := 1) (u := .string ⟨#[]⟩) (by have := HKR.out.at'; omega)).past (q := w.heap.size + 1 + 1) (o := 2) (u := .bool false) (by have := HKR.out.at'; omega)).past (q := w.heap.size + 1 + 1) (o := 3) (u := .slice ua s.1.length up) (by have := HKR.out.at'; omega)
        have hba := ((((HKR.out.ba.still (Below.refl wr.heap.size wr).drew).past (q := w.heap.size + 1 + 1) (o := 0) (u := .string an) (by omega)).past (q := w.heap.size + 1 + 1) (o := 1) (u := .string ⟨#[]⟩) (by omega)).past (q := w.heap.size + 1 + 1) (o := 2) (u := .bool false) (by omega)).past (q := w.heap.size + 1 + 1) (o := 3) (u := .slice ua s.1.length up) (by omega)
        have hS1 : (((((wr.drew.setCell ⟨w.heap.size + 1 + 1, 0, none⟩ (.string an)).setCell ⟨w.heap.size + 1 + 1, 1, none⟩ (.string ⟨#[]⟩)).setCell ⟨w.heap.size + 1 + 1, 2, none⟩ (.bool false)).setCell ⟨w.heap.size + 1 + 1, 3, none⟩ (.slice ua s.1.length up)).cell? ⟨go, 0, none⟩ = some (.string an) ∧ ((((wr.drew.setCell ⟨w.heap.size + 1 + 1, 0, none⟩ (.string an)).setCell ⟨w.heap.size + 1 + 1, 1, none⟩ (.string ⟨#[]⟩)).setCell ⟨w.heap.size + 1 + 1, 2, none⟩ (.bool false)).setCell ⟨w.heap.size + 1 + 1, 3, none⟩ (.slice ua s.1.length up)).cell? ⟨go, 1, none⟩ = some (.string ⟨#[]⟩) ∧ ((((wr.drew.setCell ⟨w.heap.size + 1 + 1, 0, none⟩ (.string an)).setCell ⟨w.heap.size + 1 + 1, 1, none⟩ (.string ⟨#[]⟩)).setCell ⟨w.heap.size + 1 + 1, 2, none⟩ (.bool false)).setCell ⟨w.heap.size + 1 + 1, 3, none⟩ (.slice ua s.1.length up)).cell? ⟨go, 2, none⟩ = some (.bool false) ∧ ((((wr.drew.setCell ⟨w.heap.size + 1 + 1, 0, none⟩ (.string an)).setCell ⟨w.heap.size + 1 + 1, 1, none⟩ (.string ⟨#[]⟩)).setCell ⟨w.heap.size + 1 + 1, 2, none⟩ (.bool false)).setCell ⟨w.heap.size + 1 + 1, 3, none⟩ (.slice ua s.1.length up)).cell? ⟨go, 3, none⟩ = some (.slice ua s.1.length up)) ∧ ((((wr.drew.setCell ⟨w.heap.size + 1 + 1, 0, none⟩ (.string an)).setCell ⟨w.heap.size + 1 + 1, 1, none⟩ (.string ⟨#[]⟩)).setCell ⟨w.heap.size + 1 + 1, 2, none⟩ (.bool false)).setCell ⟨w.heap.size + 1 + 1, 3, none⟩ (.slice ua s.1.length up)).cell? ⟨w.heap.size, 3, none⟩ = some (.slice aa ak.length acap) := ⟨⟨hbo.cell 0 (by simp), hbo.cell 1 (by simp), hbo.cell 2 (by simp), hbo.cell 3 (by simp)⟩, hba.cell 3 (by simp)⟩
        have R0 : wr.cell? ⟨w.heap.size + 1 + 1, 0, none⟩ = some (.string ⟨#[]⟩) := HKR.out.br.cell 0 (by simp)
        have R1 : wr.cell? ⟨w.heap.size + 1 + 1, 1, none⟩ = some (.string ⟨#[]⟩) := HKR.out.br.cell 1 (by simp)
        have R2 : wr.cell? ⟨w.heap.size + 1 + 1, 2, none⟩ = some (.bool false) := HKR.out.br.cell 2 (by simp)
        have R3 : wr.cell? ⟨w.heap.size + 1 + 1, 3, none⟩ = some (.slice none 0 0) := HKR.out.br.cell 3 (by simp)
        have F0 : wr.frozen? ⟨w.heap.size + 1 + 1, 0, none⟩ = false := HKR.out.br.frozen 0
        have F1 : wr.frozen? ⟨w.heap.size + 1 + 1, 1, none⟩ = false := HKR.out.br.frozen 1
        have F2 : wr.frozen? ⟨w.heap.size + 1 + 1, 2, none⟩ = false := HKR.out.br.frozen 2
        have F3 : wr.frozen? ⟨w.heap.size + 1 + 1, 3, none⟩ = false := HKR.out.br.frozen 3
        have r0 : wr.drew.cell? ⟨w.heap.size + 1 + 1, 0, none⟩ = some (.string ⟨#[]⟩) := R0
        have r1 : wr.drew.cell? ⟨w.heap.size + 1 + 1, 1, none⟩ = some (.string ⟨#[]⟩) := R1
        have r2 : wr.drew.cell? ⟨w.heap.size + 1 + 1, 2, none⟩ = some (.bool false) := R2
        have r3 : wr.drew.cell? ⟨w.heap.size + 1 + 1, 3, none⟩ = some (.slice none 0 0) := R3
        have f0 : wr.drew.frozen? ⟨w.heap.size + 1 + 1, 0, none⟩ = false := F0
        have f1 : wr.drew.frozen? ⟨w.heap.size + 1 + 1, 1, none⟩ = false := F1
        have f2 : wr.drew.frozen? ⟨w.heap.size + 1 + 1, 2, none⟩ = false := F2
        have f3 : wr.drew.frozen? ⟨w.heap.size + 1 + 1, 3, none⟩ = false := F3
        clear hbo hba HJ HPF1 HKR HI HAC HKC HWT HPN HPF HB HNM
        go_wp2_with fail
        refine wp_region_held_drew (S := (fun wq => (wq.cell? ⟨go, 0, none⟩ = some (.string an) ∧ wq.cell? ⟨go, 1, none⟩ = some (.string ⟨#[]⟩) ∧ wq.cell? ⟨go, 2, none⟩ = some (.bool false) ∧ wq.cell? ⟨go, 3, none⟩ = some (.slice ua s.1.length up)) ∧ wq.cell? ⟨w.heap.size, 3, none⟩ = some (.slice aa ak.length acap))) (by kernel_rfl) hS0 (fun hHeld => ?_)
        refine wpAnyH_take (i := 0) (oi := o79_31_0) (v := ?v13) rfl (by kernel_rfl) (by kernel_rfl) (by kernel_rfl) (fun _ _ _ h => h) (Or.inl ⟨by rfl, ?h13⟩) hHeld ?r13
        case h13 => (intro w hSw; (try dsimp only at hSw); go_simp; try with_reducible rfl)
        try simp only [Act.put, List.setIfInBounds_toArray, List.set_cons_zero, List.set_cons_succ]
        refine wpAnyH_take (i := 1) (oi := o79_31_1) (v := ?v14) rfl (by kernel_rfl) (by kernel_rfl) (by kernel_rfl) (fun _ _ _ h => h) (Or.inl ⟨by rfl, ?h14⟩) hHeld ?r14
        case h14 => (intro w hSw; (try dsimp only at hSw); go_simp; try with_reducible rfl)
        try simp only [Act.put, List.setIfInBounds_toArray, List.set_cons_zero, List.set_cons_succ]
        refine wpAnyH_take (i := 2) (oi := o79_31_2) (v := ?v15) rfl (by kernel_rfl) (by kernel_rfl) (by kernel_rfl) (fun _ _ _ h => h) (Or.inl ⟨by rfl, ?h15⟩) hHeld ?r15
        case h15 => (intro w hSw; (try dsimp only at hSw); go_simp; try with_reducible rfl)
        try simp only [Act.put, List.setIfInBounds_toArray, List.set_cons_zero, List.set_cons_succ]
        refine wpAnyH_take (i := 3) (oi := o79_31_3) (v := ?v16) rfl (by kernel_rfl) (by kernel_rfl) (by kernel_rfl) (fun _ _ _ h => h) (Or.inl ⟨by rfl, ?h16⟩) hHeld ?r16
        case h16 => (intro w hSw; (try dsimp only at hSw); go_simp; try with_reducible rfl)
        try simp only [Act.put, List.setIfInBounds_toArray, List.set_cons_zero, List.set_cons_succ]
        refine wpAnyH_take (i := 4) (oi := o79_31_4) (v := ?v17) rfl (by kernel_rfl) (by kernel_rfl) (by kernel_rfl) (fun _ _ _ h => h) (Or.inl ⟨by rfl, ?h17⟩) hHeld ?r17
        case h17 => (intro w hSw; (try dsimp only at hSw); go_simp; try with_reducible rfl)
        try simp only [Act.put, List.setIfInBounds_toArray, List.set_cons_zero, List.set_cons_succ]
        refine wpAnyH_take (i := 5) (oi := o79_31_5) (v := ?v18) rfl (by kernel_rfl) (by kernel_rfl) (by kernel_rfl) (fun _ _ _ h => h) (Or.inl ⟨by rfl, ?h18⟩) hHeld ?r18
        case h18 => (intro w hSw; (try dsimp only at hSw); go_simp; try with_reducible rfl)
        try simp only [Act.put, List.setIfInBounds_toArray, List.set_cons_zero, List.set_cons_succ]
        refine wpAnyH_ready (rs := [6]) (by kernel_rfl) (by simp) ?_
        refine (AllReadyH.cons (o := o79_31_6) rfl (fun K hK => ?_) AllReadyH.nil)
        go_simp
        clear hHeld
        refine hK.out _ _ hS1 (fun hHeld => ?_)
        clear hK K
        try simp only [Act.put, List.setIfInBounds_toArray, List.set_cons_zero, List.set_cons_succ]
        refine wpAnyH_ready (rs := [7]) (by kernel_rfl) (by simp) ?_
        refine (AllReadyH.cons (o := o79_31_7) rfl (fun K hK => ?_) AllReadyH.nil)
        go_simp
        clear hHeld
        refine hK.out _ _ hS1 (fun hHeld => ?_)
        clear hK K
        try simp only [Act.put, List.setIfInBounds_toArray, List.set_cons_zero, List.set_cons_succ]
        refine wpAnyH_done (by kernel_rfl) ?_ _
        clear hHeld hS0 hS1
        go_wp2_with fail
        refine bodyPost_ret (v := .tuple #[.agg #[.string an, .string ⟨#[]⟩, .bool false, .slice ua s.1.length up], .bool ((s.2 : Int) == (ak.length : Int))]) (by simp [results, Try.results79, go_sem, R0, R1, R2, R3]) rfl ?_
        exact HFIN.out _ _ _ _

theorem patch79 (W0 : World) (d : De) : ∀ (a : Tr) (v tv kv : Value) (w : World), Lies W0 (fun _ => True) a v → DLies W0 (fun _ => True) d tv kv → Below W0.heap.size W0 w → d.wt ≤ 1048576 →
    Calls Try.prog 79 #[a.val v, d.val tv kv] w (PtA W0.heap.size (pa d a) w) := by
  refine De.ind (P := fun d => ∀ (a : Tr) (v tv kv : Value) (w : World), Lies W0 (fun _ => True) a v → DLies W0 (fun _ => True) d tv kv → Below W0.heap.size W0 w → d.wt ≤ 1048576 → Calls Try.prog 79 #[a.val v, d.val tv kv] w (PtA W0.heap.size (pa d a) w)) ?_ d
  intro c t k ih a v tv kv w ha hd hb hwt
  by_cases h1 : c = 1
  · subst h1; exact p79_same W0 a v t k tv kv w ha hd hb
  by_cases h2 : c = 2
  · subst h2; exact p79_new W0 a v t k tv kv w ha hd hb
  by_cases h3 : c = 3
  · subst h3
    obtain ⟨an, ax, al, ak⟩ := a
    cases al
    · exact p79_kids W0 an ax ak v t k tv kv w ha hd hb hwt ih
    · exact p79_leaf W0 an ax ak v t k tv kv w ha hd hb
  exact p79_no W0 a v c t k tv kv w ha hd hb h1 h2 h3
end Go.Proofs.Ytblfeifedcddnaa
