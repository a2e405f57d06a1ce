import Derived.Test.YtblfeifedcddnaaLw
import Derived.Deep.CutRange
import Derived.Deep.RegionHeld3
import Derived.Deep.RegionWith
/-! The law FnExactPatch, walked. -/
namespace Go.Proofs.Ytblfeifedcddnaa
open Go.RowKit Go.Deep
set_option linter.unusedVariables false
set_option maxRecDepth 100000
set_option linter.unusedSimpArgs false

abbrev o7_8_0 : Oper := { dst := some 28, op := Go.Op.load 46 (Go.Operand.tmp 2), type := 46, pos := "exact.go:7475", after := #[], guard := none }
abbrev o7_8_1 : Oper := { dst := some 29, op := Go.Op.call { callee := Go.Callee.value (Go.Operand.func 25), args := #[Go.Operand.tmp 28], argTypes := #[46] }, type := 51, pos := "exact.go:7475", after := #[{ on := 0, ground := Go.Ground.data }], guard := none }
abbrev o7_8_2 : Oper := { dst := some 30, op := Go.Op.load 65 (Go.Operand.tmp 3), type := 65, pos := "exact.go:7475", after := #[], guard := none }
abbrev o7_8_3 : Oper := { dst := some 31, op := Go.Op.call { callee := Go.Callee.value (Go.Operand.func 36), args := #[Go.Operand.tmp 30], argTypes := #[65] }, type := 57, pos := "exact.go:7475", after := #[{ on := 2, ground := Go.Ground.data }, { on := 1, ground := Go.Ground.chain }], guard := none }
abbrev o7_8_4 : Oper := { dst := some 32, op := Go.Op.call { callee := Go.Callee.value (Go.Operand.func 35), args := #[Go.Operand.tmp 29, Go.Operand.tmp 31], argTypes := #[51, 57] }, type := 67, pos := "exact.go:7475", after := #[{ on := 1, ground := Go.Ground.data }, { on := 3, ground := Go.Ground.data }, { on := 3, ground := Go.Ground.chain }], guard := none }
abbrev o7_8_5 : Oper := { dst := some 27, op := Go.Op.move (Go.Operand.tmp 32), type := 67, pos := "exact.go:7475", after := #[{ on := 4, ground := Go.Ground.data }], guard := none }
abbrev o7_8_6 : Oper := { dst := some 33, op := Go.Op.extract (Go.Operand.tmp 27) 0, type := 51, pos := "exact.go:7475", after := #[{ on := 5, ground := Go.Ground.data }], guard := none }
abbrev o7_8_7 : Oper := { dst := some 34, op := Go.Op.extract (Go.Operand.tmp 27) 1, type := 3, pos := "exact.go:7475", after := #[{ on := 5, ground := Go.Ground.data }, { on := 9, ground := Go.Ground.gcOnly Go.Departure.lateStores }], guard := none }
abbrev o7_8_8 : Oper := { dst := some 6, op := Go.Op.alloc 51, type := 0, pos := "exact.go:7475", after := #[], guard := none }
abbrev o7_8_9 : Oper := { dst := none, op := Go.Op.store 51 (Go.Operand.tmp 6) (Go.Operand.tmp 33), type := 0, pos := "exact.go:7475", after := #[{ on := 8, ground := Go.Ground.data }, { on := 6, ground := Go.Ground.data }, { on := 4, ground := Go.Ground.chain }, { on := 0, ground := Go.Ground.phase }, { on := 1, ground := Go.Ground.phase }, { on := 2, ground := Go.Ground.phase }, { on := 3, ground := Go.Ground.phase }, { on := 4, ground := Go.Ground.phase }, { on := 5, ground := Go.Ground.phase }, { on := 6, ground := Go.Ground.phase }, { on := 7, ground := Go.Ground.textOnly Go.Departure.lateStores }, { on := 8, ground := Go.Ground.phase }], guard := none }
abbrev o7_8_10 : Oper := { dst := some 7, op := Go.Op.assign (Go.Operand.tmp 34), type := 3, pos := "exact.go:7475", after := #[{ on := 7, ground := Go.Ground.data }, { on := 9, ground := Go.Ground.chain }, { on := 0, ground := Go.Ground.phase }, { on := 1, ground := Go.Ground.phase }, { on := 2, ground := Go.Ground.phase }, { on := 3, ground := Go.Ground.phase }, { on := 4, ground := Go.Ground.phase }, { on := 5, ground := Go.Ground.phase }, { on := 6, ground := Go.Ground.phase }, { on := 7, ground := Go.Ground.phase }, { on := 8, ground := Go.Ground.phase }, { on := 9, ground := Go.Ground.phase }], guard := none }
abbrev o7_31_0 : Oper := { dst := some 95, op := Go.Op.load 46 (Go.Operand.tmp 2), type := 46, pos := "exact.go:7504", after := #[], guard := none }
abbrev o7_31_1 : Oper := { dst := some 96, op := Go.Op.call { callee := Go.Callee.value (Go.Operand.func 25), args := #[Go.Operand.tmp 95], argTypes := #[46] }, type := 51, pos := "exact.go:7504", after := #[{ on := 0, ground := Go.Ground.data }], guard := none }
abbrev o7_31_2 : Oper := { dst := some 97, op := Go.Op.load 65 (Go.Operand.tmp 3), type := 65, pos := "exact.go:7504", after := #[], guard := none }
abbrev o7_31_3 : Oper := { dst := some 98, op := Go.Op.call { callee := Go.Callee.value (Go.Operand.func 36), args := #[Go.Operand.tmp 97], argTypes := #[65] }, type := 57, pos := "exact.go:7504", after := #[{ on := 2, ground := Go.Ground.data }, { on := 1, ground := Go.Ground.chain }], guard := none }
abbrev o7_31_4 : Oper := { dst := some 99, op := Go.Op.call { callee := Go.Callee.value (Go.Operand.func 37), args := #[Go.Operand.tmp 96, Go.Operand.tmp 98], argTypes := #[51, 57] }, type := 67, pos := "exact.go:7504", after := #[{ on := 1, ground := Go.Ground.data }, { on := 3, ground := Go.Ground.data }, { on := 3, ground := Go.Ground.chain }], guard := none }
abbrev o7_31_5 : Oper := { dst := some 94, op := Go.Op.move (Go.Operand.tmp 99), type := 67, pos := "exact.go:7504", after := #[{ on := 4, ground := Go.Ground.data }], guard := none }
abbrev o7_31_6 : Oper := { dst := some 100, op := Go.Op.extract (Go.Operand.tmp 94) 0, type := 51, pos := "exact.go:7504", after := #[{ on := 5, ground := Go.Ground.data }], guard := none }
abbrev o7_31_7 : Oper := { dst := some 101, op := Go.Op.extract (Go.Operand.tmp 94) 1, type := 3, pos := "exact.go:7504", after := #[{ on := 5, ground := Go.Ground.data }, { on := 9, ground := Go.Ground.gcOnly Go.Departure.lateStores }], guard := none }
abbrev o7_31_8 : Oper := { dst := some 15, op := Go.Op.alloc 51, type := 0, pos := "exact.go:7504", after := #[], guard := none }
abbrev o7_31_9 : Oper := { dst := none, op := Go.Op.store 51 (Go.Operand.tmp 15) (Go.Operand.tmp 100), type := 0, pos := "exact.go:7504", after := #[{ on := 8, ground := Go.Ground.data }, { on := 6, ground := Go.Ground.data }, { on := 4, ground := Go.Ground.chain }, { on := 0, ground := Go.Ground.phase }, { on := 1, ground := Go.Ground.phase }, { on := 2, ground := Go.Ground.phase }, { on := 3, ground := Go.Ground.phase }, { on := 4, ground := Go.Ground.phase }, { on := 5, ground := Go.Ground.phase }, { on := 6, ground := Go.Ground.phase }, { on := 7, ground := Go.Ground.textOnly Go.Departure.lateStores }, { on := 8, ground := Go.Ground.phase }], guard := none }
abbrev o7_31_10 : Oper := { dst := some 16, op := Go.Op.assign (Go.Operand.tmp 101), type := 3, pos := "exact.go:7504", after := #[{ on := 7, ground := Go.Ground.data }, { on := 9, ground := Go.Ground.chain }, { on := 0, ground := Go.Ground.phase }, { on := 1, ground := Go.Ground.phase }, { on := 2, ground := Go.Ground.phase }, { on := 3, ground := Go.Ground.phase }, { on := 4, ground := Go.Ground.phase }, { on := 5, ground := Go.Ground.phase }, { on := 6, ground := Go.Ground.phase }, { on := 7, ground := Go.Ground.phase }, { on := 8, ground := Go.Ground.phase }, { on := 9, ground := Go.Ground.phase }], guard := none }
set_option maxHeartbeats 12800000 in
theorem lawPa {S S' : Nat → Prop} (a : Tr) (d : De) (va tv kv : Value) (w : World) (ha : Lies w S a va) (hd : DLies w S' d tv kv) :
    Calls Try.prog 7 #[a.val va, d.val tv kv] w fun e w' => e = .returned (.bool true) ∧ Below w.heap.size w w' := by
  have hbb : Below w.heap.size w ((w.alloc (.cells #[.string a.name, .string a.text, .bool a.leaf, va] 46)).alloc (.cells #[.int .i64 d.kind, .string d.tree.name, .string d.tree.text, .bool d.tree.leaf, tv, kv] 65)) := (bel_alloc _ _).alloc (by simp) _
  have B1 := (Box.new w 46 [.string a.name, .string a.text, .bool a.leaf, va]).still (bel_alloc _ (.cells #[.int .i64 d.kind, .string d.tree.name, .string d.tree.text, .bool d.tree.leaf, tv, kv] 65))
  have B2 : Box ((w.alloc (.cells #[.string a.name, .string a.text, .bool a.leaf, va] 46)).alloc (.cells #[.int .i64 d.kind, .string d.tree.name, .string d.tree.text, .bool d.tree.leaf, tv, kv] 65)) (w.heap.size + 1) 65 [.int .i64 d.kind, .string d.tree.name, .string d.tree.text, .bool d.tree.leaf, tv, kv] := by
    have := Box.new (w.alloc (.cells #[.string a.name, .string a.text, .bool a.leaf, va] 46)) 65 [.int .i64 d.kind, .string d.tree.name, .string d.tree.text, .bool d.tree.leaf, tv, kv]
    rw [World.size_alloc] at this
    exact this
  have HZA : Hid (∀ wq, Below w.heap.size w wq → Calls Try.prog 23 #[a.val va, .int .i64 1048576] wq fun e w' => e = .returned (.int .i64 (szR a.wt 1048576)) ∧ Below wq.heap.size wq w') := fun wq h => sz_any a va wq 1048576 (ha.still h) (by omega) (Int.le_refl _)
  have HZB : Hid (∀ wq (left : Int), Below w.heap.size w wq → 0 ≤ left → left ≤ 1048576 → Calls Try.prog 34 #[d.val tv kv, .int .i64 left] wq fun e w' => e = .returned (.int .i64 (szR d.wt left)) ∧ Below wq.heap.size wq w') := fun wq left h h0 h1 => dsz34 d tv kv wq left (hd.still h) h0 h1
  have HTA : Hid (∀ wq, Below w.heap.size w wq → a.wt ≤ 1048576 → Calls Try.prog 25 #[a.val va] wq fun e w' => ∃ v', e = .returned (a.val v') ∧ Below wq.heap.size wq w' ∧ Own w' wq.heap.size w'.heap.size a v') := fun wq h hs => toO_any a va wq (ha.still h) hs
  have HTD : Hid (∀ wq, Below w.heap.size w wq → d.wt ≤ 1048576 → Calls Try.prog 36 #[d.val tv kv] wq fun e w' => ∃ tv' kv', e = .returned (d.val tv' kv') ∧ Below wq.heap.size wq w' ∧ DOwn w' wq.heap.size w'.heap.size d tv' kv') := fun wq h hs => dto36 d tv kv wq (hd.still h) hs
  have HSP0 : Hid (∀ (wq : World) (l1 h1 l2 h2 : Nat) (v1 t2 k2 : Value), Own wq l1 h1 a v1 → DOwn wq l2 h2 d t2 k2 → d.wt ≤ 1048576 → Calls Try.prog 35 #[a.val v1, d.val t2 k2] wq fun e w' => ∃ u, e = .returned (.tuple #[(ptR a d).1.val u, .int .i64 ((ptR a d).2 : Nat)]) ∧ Below wq.heap.size wq w' ∧ Own w' wq.heap.size w'.heap.size (ptR a d).1 u) := fun wq l1 h1 l2 h2 v1 t2 k2 g1 g2 g3 => sPatch35 a d v1 t2 k2 wq (liesAny g1.lies) g2.lies.any g3
  have HIM0 : Hid (∀ (wq : World) (l1 h1 l2 h2 : Nat) (v1 t2 k2 : Value), Own wq l1 h1 a v1 → DOwn wq l2 h2 d t2 k2 → d.wt ≤ 1048576 → Calls Try.prog 37 #[a.val v1, d.val t2 k2] wq fun e w' => ∃ u, e = .returned (.tuple #[(ptR a d).1.val u, .int .i64 ((ptR a d).2 : Nat)]) ∧ Below wq.heap.size wq w' ∧ Own w' wq.heap.size w'.heap.size (ptR a d).1 u) := fun wq l1 h1 l2 h2 v1 t2 k2 g1 g2 g3 => iPatch37 a d v1 t2 k2 wq (liesAny g1.lies) g2.lies.any g3
  have HEA : Hid (∀ (wq : World) (l1 h1 l2 h2 : Nat) (v1 v2 : Value), Own wq l1 h1 a v1 → Own wq l2 h2 a v2 → Calls Try.prog 27 #[a.val v1, a.val v2] wq fun e w' => e = .returned (.bool true) ∧ Below wq.heap.size wq w') := fun wq l1 h1 l2 h2 v1 v2 g1 g2 => eq_any a v1 v2 wq g1.lies g2.lies
  have HED : Hid (∀ (wq : World) (l1 h1 l2 h2 : Nat) (t1 k1 t2 k2 : Value), DOwn wq l1 h1 d t1 k1 → DOwn wq l2 h2 d t2 k2 → Calls Try.prog 30 #[d.val t1 k1, d.val t2 k2] wq fun e w' => e = .returned (.bool true) ∧ Below wq.heap.size wq w') := fun wq l1 h1 l2 h2 t1 k1 t2 k2 g1 g2 => deq30 d t1 k1 t2 k2 wq g1.lies g2.lies
  have HMA : Hid (∀ (wq : World) (lo hi n : Nat) (v : Value), Own wq lo hi a v → hi ≤ wq.heap.size → 0 < n → n + 3 * Tr.cntL a.kids ≤ 67108864 → Calls Try.prog 31 #[a.val v, .int .i64 n] wq fun e w' => e = .returned (.int .i64 (n + 3 * Tr.cntL a.kids : Nat)) ∧ Out lo hi wq w') := fun wq lo hi n v h1 h2 h3 h4 => Calls.mono (mark31 a v wq lo hi n h1 h2 h3 h4) (fun e w' h => ⟨h.1, h.2.1⟩)
  have HMD : Hid (∀ (wq : World) (lo hi n : Nat) (t1 k1 : Value), DOwn wq lo hi d t1 k1 → hi ≤ wq.heap.size → 0 < n → n + De.dm d ≤ 67108864 → Calls Try.prog 32 #[d.val t1 k1, .int .i64 n] wq fun e w' => e = .returned (.int .i64 (n + De.dm d : Nat)) ∧ Out lo hi wq w') := fun wq lo hi n t1 k1 h1 h2 h3 h4 => dmark32 d t1 k1 wq lo hi n h1 h2 h3 h4
  have HKA := (show Hid (a.wt ≤ 1048576 → 3 * Tr.cntL a.kids ≤ 3145728) from fun h => by
    have := Tr.cnt_le_wt a
    have := cnt_eq a
    omega)
  have HKD := (show Hid (d.wt ≤ 1048576 → De.dm d ≤ 4194304) from fun h => by
    have := De.dm_le d
    omega)
  have HKM := (show Hid (3 * Tr.cntL (ptR a d).1.kids ≤ 3000) from pt_cnt a d)
  obtain ⟨aa, al, ap, rfl⟩ := ha.form
  obtain ⟨⟨ta, tl, tp, rfl⟩, ka, kp, rfl⟩ := hd.form
  clear ha hd
  have HX := (show Hid _ from (⟨hbb, B1, B2⟩ : _ ∧ _ ∧ _)); clear hbb B1 B2
  generalize hM : (ptR a d).1 = M at *
  generalize hC : (ptR a d).2 = C at *
  clear hM hC
  have HEM : Hid (∀ (wq : World) (v1 v2 : Value), Lies wq (fun _ => True) M v1 → Lies wq (fun _ => True) M v2 → Calls Try.prog 27 #[M.val v1, M.val v2] wq fun e w' => e = .returned (.bool true) ∧ Below wq.heap.size wq w') := fun wq v1 v2 g1 g2 => eq_any M v1 v2 wq g1 g2
  have HMM : Hid (∀ (wq : World) (lo hi : Nat) (v : Value), Own wq lo hi M v → hi ≤ wq.heap.size → Calls Try.prog 31 #[M.val v, .int .i64 1] wq fun e w' => e = .returned (.int .i64 (1 + 3 * Tr.cntL M.kids : Nat)) ∧ Out lo hi wq w' ∧ Own w' lo hi (mk M 1) v) := fun wq lo hi v h1 h2 => mark31 M v wq lo hi 1 h1 h2 (by omega) (by have := HKM.out; omega)
  have HHM : Hid (∀ (wq : World) (lo hi : Nat) (v : Value), Own wq lo hi (mk M 1) v → Calls Try.prog 38 #[M.val v, .int .i64 1] wq fun e w' => e = .returned (.int .i64 (1 + 3 * Tr.cntL M.kids : Nat)) ∧ Below wq.heap.size wq w') := fun wq lo hi v h1 => held38 M v wq lo hi 1 h1 (by omega) (by have := HKM.out; omega)
  clear HKM
  simp only [Tr.val, De.val] at HZA HZB HTA HTD HSP0 HIM0 HEA HED HMA HMD HEM HMM HHM ⊢
  generalize a.name = an at *
  generalize a.text = ax at *
  generalize a.leaf = af at *
  generalize d.kind = dc at *
  generalize d.tree.name = dn at *
  generalize d.tree.text = dx at *
  generalize d.tree.leaf = df at *
  generalize hkl : d.kids.length = kl at *
  clear hkl
  generalize M.name = mn at *
  generalize M.text = mx at *
  generalize M.leaf = mf at *
  generalize 3 * Tr.cntL a.kids = na at *
  generalize De.dm d = nd at *
  generalize 1 + 3 * Tr.cntL M.kids = D at *
  have C1 := (show Hid _ from HZA.out _ HX.out.1)
  by_cases hwa : (a.wt : Int) ≤ 1048576
  case neg =>
    rw [szR_no (by omega)] at C1
    clear HZA HZB HTA HTD HSP0 HIM0 HEA HED HMA HMD HKA HKD HEM HMM HHM hwa
    go_enter Try.func7, Try.ntmps7
    go_wp2_with fail
    refine Calls.mono C1.out ?_
    rintro e w1 ⟨rfl, hb1⟩
    have HE := (show Hid _ from bel_trans HX.out.1 hb1); clear hb1
    go_wp2_with fail
    go_ret
    exact ⟨rfl, HE.out⟩
  rw [szR_yes hwa] at C1
  generalize hlf : (1048576 : Int) - (a.wt : Int) = lf at *
  have hlfd : decide (lf < 0) = false := by simp; omega
  have HWA := (show Hid (a.wt ≤ 1048576 ∧ 0 ≤ lf ∧ lf ≤ 1048576) from ⟨by omega, by omega, by omega⟩); clear hwa hlf HZA
  go_enter Try.func7, Try.ntmps7
  go_wp2_with fail
  refine Calls.mono C1.out ?_
  rintro e w1 ⟨rfl, hb1⟩
  have H1 := (show Hid (Below w.heap.size w w1 ∧ Box w1 w.heap.size 46 [.string an, .string ax, .bool af, .slice aa al ap] ∧ Box w1 (w.heap.size + 1) 65 [.int .i64 dc, .string dn, .string dx, .bool df, .slice ta tl tp, .slice ka kl kp]) from ⟨bel_trans HX.out.1 hb1, HX.out.2.1.still hb1, HX.out.2.2.still hb1⟩)
  clear hb1 HX C1
  have s0 : w1.cell? ⟨w.heap.size + 1, 0, none⟩ = some (.int .i64 dc) := H1.out.2.2.cell 0 (by simp)
  have s1 : w1.cell? ⟨w.heap.size + 1, 1, none⟩ = some (.string dn) := H1.out.2.2.cell 1 (by simp)
  have s2 : w1.cell? ⟨w.heap.size + 1, 2, none⟩ = some (.string dx) := H1.out.2.2.cell 2 (by simp)
  have s3 : w1.cell? ⟨w.heap.size + 1, 3, none⟩ = some (.bool df) := H1.out.2.2.cell 3 (by simp)
  have s4 : w1.cell? ⟨w.heap.size + 1, 4, none⟩ = some (.slice ta tl tp) := H1.out.2.2.cell 4 (by simp)
  have s5 : w1.cell? ⟨w.heap.size + 1, 5, none⟩ = some (.slice ka kl kp) := H1.out.2.2.cell 5 (by simp)
  have C2 := (show Hid _ from HZB.out w1 lf H1.out.1 HWA.out.2.1 HWA.out.2.2)
  by_cases hwb : ((d.wt : Nat) : Int) ≤ lf
  case neg =>
    rw [szR_no (by omega)] at C2
    clear HZB HTA HTD HSP0 HIM0 HEA HED HMA HMD HKA HKD HEM HMM HHM hwb
    go_wp2_with fail
    refine Calls.mono C2.out ?_
    rintro e w2 ⟨rfl, hb2⟩
    have HE := (show Hid _ from bel_trans H1.out.1 hb2); clear hb2
    go_wp2_with fail
    go_ret
    exact ⟨rfl, HE.out⟩
  rw [szR_yes hwb] at C2
  have HWB := (show Hid (d.wt ≤ 1048576) from (by show _ ≤ _; have := HWA.out; omega))
  generalize hlg : lf - ((d.wt : Nat) : Int) = lg at *
  have hlgd : decide (lg < 0) = false := by simp; omega
  clear hwb hlg HZB
  have HUA := (show Hid (∀ wq, Below w.heap.size w wq → _) from fun wq h => HTA.out wq h HWA.out.1)
  have HUD := (show Hid (∀ wq, Below w.heap.size w wq → _) from fun wq h => HTD.out wq h HWB.out)
  have HSP := (show Hid (∀ (wq : World) (l1 h1 l2 h2 : Nat) (v1 t2 k2 : Value), Own wq l1 h1 a v1 → DOwn wq l2 h2 d t2 k2 → _) from fun wq l1 h1 l2 h2 v1 t2 k2 g1 g2 => HSP0.out wq l1 h1 l2 h2 v1 t2 k2 g1 g2 HWB.out)
  have HIM := (show Hid (∀ (wq : World) (l1 h1 l2 h2 : Nat) (v1 t2 k2 : Value), Own wq l1 h1 a v1 → DOwn wq l2 h2 d t2 k2 → _) from fun wq l1 h1 l2 h2 v1 t2 k2 g1 g2 => HIM0.out wq l1 h1 l2 h2 v1 t2 k2 g1 g2 HWB.out)
  have HKK := (show Hid (na ≤ 3145728 ∧ nd ≤ 4194304) from ⟨HKA.out HWA.out.1, HKD.out HWB.out⟩)
  clear HTA HTD HKA HKD HSP0 HIM0
  go_wp2_with fail
  refine Calls.mono C2.out ?_
  rintro e w2 ⟨rfl, hb2⟩
  have H2 := (show Hid (Below w.heap.size w w2 ∧ Box w2 w.heap.size 46 [.string an, .string ax, .bool af, .slice aa al ap] ∧ Box w2 (w.heap.size + 1) 65 [.int .i64 dc, .string dn, .string dx, .bool df, .slice ta tl tp, .slice ka kl kp]) from ⟨bel_trans H1.out.1 hb2, H1.out.2.1.still hb2, H1.out.2.2.still hb2⟩)
  clear hb2 H1 C2 s0 s1 s2 s3 s4 s5
  have HC := (show Hid (∀ wq, Below w2.heap.size w2 wq → E10 w.heap.size (w.heap.size + 1) an ax af (.slice aa al ap) dc dn dx df (.slice ta tl tp) (.slice ka kl kp) wq) from fun wq h => E10.of (H2.out.2.1.still h) (H2.out.2.2.still h))
  have HB2 := (show Hid (Below w.heap.size w w2) from H2.out.1)
  go_wp2_with fail
  go_cut [6, 7] from 27 to 34 (fun v6 v7 wx => ∃ (g : Nat) (sa : Option Addr) (sl sp : Nat), v6 = .pointer (some ⟨g, 0, none⟩) ∧ v7 = .int .i64 (C : Nat) ∧ Hid (Below w2.heap.size w2 wx ∧ Box wx g 51 [.string mn, .string mx, .bool mf, .slice sa sl sp] ∧ Lies wx (fun _ => True) M (.slice sa sl sp)))
  case first =>
    have hbd := (Below.refl w2.heap.size w2).drew
    have hS0 := HC.out _ hbd
    unfold E10 at hS0
    have hBA : Below w2.heap.size w2 (w2.drew.alloc (.cells #[.string ⟨#[]⟩, .string ⟨#[]⟩, .bool false, .slice none 0 0] 51)) := hbd.alloc (Nat.le_refl _) _
    have hBA2 : Below w2.heap.size w2 (w2.alloc (.cells #[.string ⟨#[]⟩, .string ⟨#[]⟩, .bool false, .slice none 0 0] 51)).drew := (bel_alloc _ _).drew
    refine wp_region_held_drew (S := (fun wq => (wq.cell? ⟨w.heap.size, 0, none⟩ = some (.string an) ∧ wq.cell? ⟨w.heap.size, 1, none⟩ = some (.string ax) ∧ wq.cell? ⟨w.heap.size, 2, none⟩ = some (.bool af) ∧ wq.cell? ⟨w.heap.size, 3, none⟩ = some (.slice aa al ap)) ∧ wq.cell? ⟨w.heap.size + 1, 0, none⟩ = some (.int .i64 dc) ∧ wq.cell? ⟨w.heap.size + 1, 1, none⟩ = some (.string dn) ∧ wq.cell? ⟨w.heap.size + 1, 2, none⟩ = some (.string dx) ∧ wq.cell? ⟨w.heap.size + 1, 3, none⟩ = some (.bool df) ∧ wq.cell? ⟨w.heap.size + 1, 4, none⟩ = some (.slice ta tl tp) ∧ wq.cell? ⟨w.heap.size + 1, 5, none⟩ = some (.slice ka kl kp))) (by kernel_rfl) hS0 (fun hHeld => ?_)
    refine wpAnyH_take (i := 0) (oi := o7_8_0) (v := ?v1) rfl (by kernel_rfl) (by kernel_rfl) (by kernel_rfl) (fun _ _ _ h => h) (Or.inl ⟨by rfl, ?h1⟩) hHeld ?r1
    case h1 => (intro w hSw; (try dsimp only at hSw); go_simp; try with_reducible rfl)
    try simp only [Act.put, List.setIfInBounds_toArray, List.set_cons_zero, List.set_cons_succ]
    refine wpAnyH_take (i := 2) (oi := o7_8_2) (v := ?v2) rfl (by kernel_rfl) (by kernel_rfl) (by kernel_rfl) (fun _ _ _ h => h) (Or.inl ⟨by rfl, ?h2⟩) hHeld ?r2
    case h2 => (intro w hSw; (try dsimp only at hSw); go_simp; try with_reducible rfl)
    try simp only [Act.put, List.setIfInBounds_toArray, List.set_cons_zero, List.set_cons_succ]
    refine wpAnyH_ready (rs := [1, 8]) (by kernel_rfl) (by simp) ?_
    refine (AllReadyH.cons (o := o7_8_1) rfl (fun K hK => ?_) (AllReadyH.cons (o := o7_8_8) rfl (fun K hK => ?_) AllReadyH.nil))
    · go_simp
      refine Calls.mono (HUA.out _ (bel_trans HB2.out hbd)) ?_
      rintro e u8_1w ⟨v_u8_1w, rfl, u8_2, u8_4⟩
      obtain ⟨a1_u8_1w, a2_u8_1w, a3_u8_1w, rfl⟩ := u8_4.form
      dsimp only
      have u8_3 := bel_trans hbd u8_2
      clear hHeld
      refine hK.out _ _ (by have h := HC.out _ u8_3; unfold E10 at h; exact h) (fun hHeld => ?_)
      clear hK K
      try simp only [Act.put, List.setIfInBounds_toArray, List.set_cons_zero, List.set_cons_succ]
      refine wpAnyH_ready (rs := [3, 8]) (by kernel_rfl) (by simp) ?_
      refine (AllReadyH.cons (o := o7_8_3) rfl (fun K hK => ?_) (AllReadyH.cons (o := o7_8_8) rfl (fun K hK => ?_) AllReadyH.nil))
      · go_simp
        refine Calls.mono (HUD.out _ (bel_trans HB2.out u8_3)) ?_
        rintro e u8_5w ⟨v_u8_5w, k_u8_5w, rfl, u8_6, u8_8⟩
        obtain ⟨⟨a1_u8_5w, a2_u8_5w, a3_u8_5w, rfl⟩, b1_u8_5w, b2_u8_5w, rfl⟩ := u8_8.lies.form
        dsimp only
        have u8_7 := bel_trans u8_3 u8_6
        have u8_9 := u8_4.still u8_6
        clear hHeld
        refine hK.out _ _ (by have h := HC.out _ u8_7; unfold E10 at h; exact h) (fun hHeld => ?_)
        clear hK K
        try simp only [Act.put, List.setIfInBounds_toArray, List.set_cons_zero, List.set_cons_succ]
        refine wpAnyH_ready (rs := [4, 8]) (by kernel_rfl) (by simp) ?_
        refine (AllReadyH.cons (o := o7_8_4) rfl (fun K hK => ?_) (AllReadyH.cons (o := o7_8_8) rfl (fun K hK => ?_) AllReadyH.nil))
        · go_simp
          refine Calls.mono (HSP.out _ _ _ _ _ _ _ _ u8_9 u8_8) ?_
          rintro e u8_10w ⟨v_u8_10w, rfl, u8_11, u8_13⟩
          obtain ⟨a1_u8_10w, a2_u8_10w, a3_u8_10w, rfl⟩ := u8_13.form
          dsimp only
          have u8_12 := bel_trans u8_7 u8_11
          clear hHeld
          refine hK.out _ _ (by have h := HC.out _ u8_12; unfold E10 at h; exact h) (fun hHeld => ?_)
          clear hK K
          try simp only [Act.put, List.setIfInBounds_toArray, List.set_cons_zero, List.set_cons_succ]
          refine wpAnyH_take (i := 5) (oi := o7_8_5) (v := ?v3) rfl (by kernel_rfl) (by kernel_rfl) (by kernel_rfl) (fun _ _ _ h => h) (Or.inl ⟨by rfl, ?h3⟩) hHeld ?r3
          case h3 => (intro w hSw; (try dsimp only at hSw); go_simp; try with_reducible rfl)
          try simp only [Act.put, List.setIfInBounds_toArray, List.set_cons_zero, List.set_cons_succ]
          refine wpAnyH_take (i := 6) (oi := o7_8_6) (v := ?v4) rfl (by kernel_rfl) (by kernel_rfl) (by kernel_rfl) (fun _ _ _ h => h) (Or.inl ⟨by rfl, ?h4⟩) hHeld ?r4
          case h4 => (intro w hSw; (try dsimp only at hSw); go_simp; try with_reducible rfl)
          try simp only [Act.put, List.setIfInBounds_toArray, List.set_cons_zero, List.set_cons_succ]
          refine wpAnyH_take (i := 7) (oi := o7_8_7) (v := ?v5) rfl (by kernel_rfl) (by kernel_rfl) (by kernel_rfl) (fun _ _ _ h => h) (Or.inl ⟨by rfl, ?h5⟩) hHeld ?r5
          case h5 => (intro w hSw; (try dsimp only at hSw); go_simp; try with_reducible rfl)
          try simp only [Act.put, List.setIfInBounds_toArray, List.set_cons_zero, List.set_cons_succ]
          refine wpAnyH_ready (rs := [8]) (by kernel_rfl) (by simp) ?_
          refine (AllReadyH.cons (o := o7_8_8) rfl (fun K hK => ?_) AllReadyH.nil)
          go_simp
          clear hHeld
          refine hK.out _ _ (by have h := HC.out _ (bel_trans u8_12 (bel_alloc _ (.cells #[.string ⟨#[]⟩, .string ⟨#[]⟩, .bool false, .slice none 0 0] 51))); unfold E10 at h; exact h) (fun hHeld => ?_)
          clear hK K
          try simp only [Act.put, List.setIfInBounds_toArray, List.set_cons_zero, List.set_cons_succ]
          have hFe : Below w2.heap.size w2 (u8_10w.alloc (.cells #[.string mn, .string mx, .bool mf, .slice a1_u8_10w a2_u8_10w a3_u8_10w] 51)) := bel_trans u8_12 (bel_alloc _ _)
          have hXe := Box.new u8_10w 51 [.string mn, .string mx, .bool mf, .slice a1_u8_10w a2_u8_10w a3_u8_10w]
          have hLe : Lies (u8_10w.alloc (.cells #[.string mn, .string mx, .bool mf, .slice a1_u8_10w a2_u8_10w a3_u8_10w] 51)) (fun _ => True) M (.slice a1_u8_10w a2_u8_10w a3_u8_10w) := (liesAny u8_13.lies).still (bel_alloc _ _)
          refine wpAnyH_ready (rs := [9]) (by kernel_rfl) (by simp) ?_
          refine (AllReadyH.cons (o := o7_8_9) rfl (fun K hK => ?_) AllReadyH.nil)
          go_simp
          clear hHeld
          refine hK.out _ _ (by have h := HC.out _ hFe; unfold E10 at h; exact h) (fun hHeld => ?_)
          clear hK K
          try simp only [Act.put, List.setIfInBounds_toArray, List.set_cons_zero, List.set_cons_succ]
          refine wpAnyH_ready (rs := [10]) (by kernel_rfl) (by simp) ?_
          refine (AllReadyH.cons (o := o7_8_10) rfl (fun K hK => ?_) AllReadyH.nil)
          go_simp
          clear hHeld
          refine hK.out _ _ (by have h := HC.out _ hFe; unfold E10 at h; exact h) (fun hHeld => ?_)
          clear hK K
          try simp only [Act.put, List.setIfInBounds_toArray, List.set_cons_zero, List.set_cons_succ]
          refine wpAnyH_done (by kernel_rfl) ?_ _
          (try refine NoPanic.normal ?_)
          go_wp2_with fail
          go_meet
          exact ⟨_, _, _, _, rfl, rfl, hFe, hXe, hLe⟩
        · go_simp
          have u8_14 : Below w2.heap.size w2 (u8_5w.alloc (.cells #[.string ⟨#[]⟩, .string ⟨#[]⟩, .bool false, .slice none 0 0] 51)) := bel_trans u8_7 (bel_alloc _ _)
          clear hHeld
          refine hK.out _ _ (by have h := HC.out _ u8_14; unfold E10 at h; exact h) (fun hHeld => ?_)
          clear hK K
          try simp only [Act.put, List.setIfInBounds_toArray, List.set_cons_zero, List.set_cons_succ]
          have u8_15 := Box.new u8_5w 51 [.string ⟨#[]⟩, .string ⟨#[]⟩, .bool false, .slice none 0 0]
          have hgw : w2.heap.size ≤ u8_5w.heap.size := u8_7.size
          have u8_16 := u8_9.still (bel_alloc _ (.cells #[.string ⟨#[]⟩, .string ⟨#[]⟩, .bool false, .slice none 0 0] 51))
          have u8_17 := u8_8.still (bel_alloc _ (.cells #[.string ⟨#[]⟩, .string ⟨#[]⟩, .bool false, .slice none 0 0] 51))
          refine wpAnyH_ready (rs := [4]) (by kernel_rfl) (by simp) ?_
          refine (AllReadyH.cons (o := o7_8_4) rfl (fun K hK => ?_) AllReadyH.nil)
          go_simp
          refine Calls.mono (HSP.out _ _ _ _ _ _ _ _ u8_16 u8_17) ?_
          rintro e u8_18w ⟨v_u8_18w, rfl, u8_19, u8_21⟩
          obtain ⟨a1_u8_18w, a2_u8_18w, a3_u8_18w, rfl⟩ := u8_21.form
          have u8_22 := u8_15.lt
          dsimp only
          have u8_20 := bel_trans u8_14 u8_19
          have u8_23 := u8_15.still u8_19
          clear hHeld
          refine hK.out _ _ (by have h := HC.out _ u8_20; unfold E10 at h; exact h) (fun hHeld => ?_)
          clear hK K
          try simp only [Act.put, List.setIfInBounds_toArray, List.set_cons_zero, List.set_cons_succ]
          refine wpAnyH_take (i := 5) (oi := o7_8_5) (v := ?v6) rfl (by kernel_rfl) (by kernel_rfl) (by kernel_rfl) (fun _ _ _ h => h) (Or.inl ⟨by rfl, ?h6⟩) hHeld ?r6
          case h6 => (intro w hSw; (try dsimp only at hSw); go_simp; try with_reducible rfl)
          try simp only [Act.put, List.setIfInBounds_toArray, List.set_cons_zero, List.set_cons_succ]
          refine wpAnyH_take (i := 6) (oi := o7_8_6) (v := ?v7) rfl (by kernel_rfl) (by kernel_rfl) (by kernel_rfl) (fun _ _ _ h => h) (Or.inl ⟨by rfl, ?h7⟩) hHeld ?r7
          case h7 => (intro w hSw; (try dsimp only at hSw); go_simp; try with_reducible rfl)
          try simp only [Act.put, List.setIfInBounds_toArray, List.set_cons_zero, List.set_cons_succ]
          refine wpAnyH_take (i := 7) (oi := o7_8_7) (v := ?v8) rfl (by kernel_rfl) (by kernel_rfl) (by kernel_rfl) (fun _ _ _ h => h) (Or.inl ⟨by rfl, ?h8⟩) hHeld ?r8
          case h8 => (intro w hSw; (try dsimp only at hSw); go_simp; try with_reducible rfl)
          try simp only [Act.put, List.setIfInBounds_toArray, List.set_cons_zero, List.set_cons_succ]
          have z0 : u8_18w.cell? ⟨u8_5w.heap.size, 0, none⟩ = some (.string ⟨#[]⟩) := u8_23.cell 0 (by simp)
          have z1 : u8_18w.cell? ⟨u8_5w.heap.size, 1, none⟩ = some (.string ⟨#[]⟩) := u8_23.cell 1 (by simp)
          have z2 : u8_18w.cell? ⟨u8_5w.heap.size, 2, none⟩ = some (.bool false) := u8_23.cell 2 (by simp)
          have z3 : u8_18w.cell? ⟨u8_5w.heap.size, 3, none⟩ = some (.slice none 0 0) := u8_23.cell 3 (by simp)
          have y0 := u8_23.frozen 0
          have y1 := u8_23.frozen 1
          have y2 := u8_23.frozen 2
          have y3 := u8_23.frozen 3
          have hFe : Below w2.heap.size w2 ((((u8_18w.setCell ⟨u8_5w.heap.size, 0, none⟩ (.string mn)).setCell ⟨u8_5w.heap.size, 1, none⟩ (.string mx)).setCell ⟨u8_5w.heap.size, 2, none⟩ (.bool mf)).setCell ⟨u8_5w.heap.size, 3, none⟩ (.slice a1_u8_18w a2_u8_18w a3_u8_18w)) := (((u8_20.setCell (p := ⟨u8_5w.heap.size, 0, none⟩) (by show _ ≤ _; omega) _).setCell (p := ⟨u8_5w.heap.size, 1, none⟩) (by show _ ≤ _; omega) _).setCell (p := ⟨u8_5w.heap.size, 2, none⟩) (by show _ ≤ _; omega) _).setCell (p := ⟨u8_5w.heap.size, 3, none⟩) (by show _ ≤ _; omega) _
          have hXe : Box ((((u8_18w.setCell ⟨u8_5w.heap.size, 0, none⟩ (.string mn)).setCell ⟨u8_5w.heap.size, 1, none⟩ (.string mx)).setCell ⟨u8_5w.heap.size, 2, none⟩ (.bool mf)).setCell ⟨u8_5w.heap.size, 3, none⟩ (.slice a1_u8_18w a2_u8_18w a3_u8_18w)) (u8_5w.heap.size) 51 [.string mn, .string mx, .bool mf, .slice a1_u8_18w a2_u8_18w a3_u8_18w] := (((u8_23.set 0 _).set 1 _).set 2 _).set 3 _
          have hLe : Lies ((((u8_18w.setCell ⟨u8_5w.heap.size, 0, none⟩ (.string mn)).setCell ⟨u8_5w.heap.size, 1, none⟩ (.string mx)).setCell ⟨u8_5w.heap.size, 2, none⟩ (.bool mf)).setCell ⟨u8_5w.heap.size, 3, none⟩ (.slice a1_u8_18w a2_u8_18w a3_u8_18w)) (fun _ => True) M (.slice a1_u8_18w a2_u8_18w a3_u8_18w) := liesAny ((((u8_21.past (.inl u8_22)).past (.inl u8_22)).past (.inl u8_22)).past (.inl u8_22)).lies
          refine wpAnyH_ready (rs := [9]) (by kernel_rfl) (by simp) ?_
          refine (AllReadyH.cons (o := o7_8_9) rfl (fun K hK => ?_) AllReadyH.nil)
          go_simp
          clear hHeld
          refine hK.out _ _ (by have h := HC.out _ hFe; unfold E10 at h; exact h) (fun hHeld => ?_)
          clear hK K
          try simp only [Act.put, List.setIfInBounds_toArray, List.set_cons_zero, List.set_cons_succ]
          refine wpAnyH_ready (rs := [10]) (by kernel_rfl) (by simp) ?_
          refine (AllReadyH.cons (o := o7_8_10) rfl (fun K hK => ?_) AllReadyH.nil)
          go_simp
          clear hHeld
          refine hK.out _ _ (by have h := HC.out _ hFe; unfold E10 at h; exact h) (fun hHeld => ?_)
          clear hK K
          try simp only [Act.put, List.setIfInBounds_toArray, List.set_cons_zero, List.set_cons_succ]
          refine wpAnyH_done (by kernel_rfl) ?_ _
          (try refine NoPanic.normal ?_)
          go_wp2_with fail
          go_meet
          exact ⟨_, _, _, _, rfl, rfl, hFe, hXe, hLe⟩
      · go_simp
        have u8_24 : Below w2.heap.size w2 (u8_1w.alloc (.cells #[.string ⟨#[]⟩, .string ⟨#[]⟩, .bool false, .slice none 0 0] 51)) := bel_trans u8_3 (bel_alloc _ _)
        clear hHeld
        refine hK.out _ _ (by have h := HC.out _ u8_24; unfold E10 at h; exact h) (fun hHeld => ?_)
        clear hK K
        try simp only [Act.put, List.setIfInBounds_toArray, List.set_cons_zero, List.set_cons_succ]
        have u8_25 := Box.new u8_1w 51 [.string ⟨#[]⟩, .string ⟨#[]⟩, .bool false, .slice none 0 0]
        have hgw : w2.heap.size ≤ u8_1w.heap.size := u8_3.size
        have u8_26 := u8_4.still (bel_alloc _ (.cells #[.string ⟨#[]⟩, .string ⟨#[]⟩, .bool false, .slice none 0 0] 51))
        refine wpAnyH_ready (rs := [3]) (by kernel_rfl) (by simp) ?_
        refine (AllReadyH.cons (o := o7_8_3) rfl (fun K hK => ?_) AllReadyH.nil)
        go_simp
        refine Calls.mono (HUD.out _ (bel_trans HB2.out u8_24)) ?_
        rintro e u8_27w ⟨v_u8_27w, k_u8_27w, rfl, u8_28, u8_30⟩
        obtain ⟨⟨a1_u8_27w, a2_u8_27w, a3_u8_27w, rfl⟩, b1_u8_27w, b2_u8_27w, rfl⟩ := u8_30.lies.form
        dsimp only
        have u8_29 := bel_trans u8_24 u8_28
        have u8_31 := u8_26.still u8_28
        have u8_32 := u8_25.still u8_28
        clear hHeld
        refine hK.out _ _ (by have h := HC.out _ u8_29; unfold E10 at h; exact h) (fun hHeld => ?_)
        clear hK K
        try simp only [Act.put, List.setIfInBounds_toArray, List.set_cons_zero, List.set_cons_succ]
        refine wpAnyH_ready (rs := [4]) (by kernel_rfl) (by simp) ?_
        refine (AllReadyH.cons (o := o7_8_4) rfl (fun K hK => ?_) AllReadyH.nil)
        go_simp
        refine Calls.mono (HSP.out _ _ _ _ _ _ _ _ u8_31 u8_30) ?_
        rintro e u8_33w ⟨v_u8_33w, rfl, u8_34, u8_36⟩
        obtain ⟨a1_u8_33w, a2_u8_33w, a3_u8_33w, rfl⟩ := u8_36.form
        have u8_37 := u8_32.lt
        dsimp only
        have u8_35 := bel_trans u8_29 u8_34
        have u8_38 := u8_32.still u8_34
        clear hHeld
        refine hK.out _ _ (by have h := HC.out _ u8_35; unfold E10 at h; exact h) (fun hHeld => ?_)
        clear hK K
        try simp only [Act.put, List.setIfInBounds_toArray, List.set_cons_zero, List.set_cons_succ]
        refine wpAnyH_take (i := 5) (oi := o7_8_5) (v := ?v9) rfl (by kernel_rfl) (by kernel_rfl) (by kernel_rfl) (fun _ _ _ h => h) (Or.inl ⟨by rfl, ?h9⟩) hHeld ?r9
        case h9 => (intro w hSw; (try dsimp only at hSw); go_simp; try with_reducible rfl)
        try simp only [Act.put, List.setIfInBounds_toArray, List.set_cons_zero, List.set_cons_succ]
        refine wpAnyH_take (i := 6) (oi := o7_8_6) (v := ?v10) rfl (by kernel_rfl) (by kernel_rfl) (by kernel_rfl) (fun _ _ _ h => h) (Or.inl ⟨by rfl, ?h10⟩) hHeld ?r10
        case h10 => (intro w hSw; (try dsimp only at hSw); go_simp; try with_reducible rfl)
        try simp only [Act.put, List.setIfInBounds_toArray, List.set_cons_zero, List.set_cons_succ]
        refine wpAnyH_take (i := 7) (oi := o7_8_7) (v := ?v11) rfl (by kernel_rfl) (by kernel_rfl) (by kernel_rfl) (fun _ _ _ h => h) (Or.inl ⟨by rfl, ?h11⟩) hHeld ?r11
        case h11 => (intro w hSw; (try dsimp only at hSw); go_simp; try with_reducible rfl)
        try simp only [Act.put, List.setIfInBounds_toArray, List.set_cons_zero, List.set_cons_succ]
        have z0 : u8_33w.cell? ⟨u8_1w.heap.size, 0, none⟩ = some (.string ⟨#[]⟩) := u8_38.cell 0 (by simp)
        have z1 : u8_33w.cell? ⟨u8_1w.heap.size, 1, none⟩ = some (.string ⟨#[]⟩) := u8_38.cell 1 (by simp)
        have z2 : u8_33w.cell? ⟨u8_1w.heap.size, 2, none⟩ = some (.bool false) := u8_38.cell 2 (by simp)
        have z3 : u8_33w.cell? ⟨u8_1w.heap.size, 3, none⟩ = some (.slice none 0 0) := u8_38.cell 3 (by simp)
        have y0 := u8_38.frozen 0
        have y1 := u8_38.frozen 1
        have y2 := u8_38.frozen 2
        have y3 := u8_38.frozen 3
        have hFe : Below w2.heap.size w2 ((((u8_33w.setCell ⟨u8_1w.heap.size, 0, none⟩ (.string mn)).setCell ⟨u8_1w.heap.size, 1, none⟩ (.string mx)).setCell ⟨u8_1w.heap.size, 2, none⟩ (.bool mf)).setCell ⟨u8_1w.heap.size, 3, none⟩ (.slice a1_u8_33w a2_u8_33w a3_u8_33w)) := (((u8_35.setCell (p := ⟨u8_1w.heap.size, 0, none⟩) (by show _ ≤ _; omega) _).setCell (p := ⟨u8_1w.heap.size, 1, none⟩) (by show _ ≤ _; omega) _).setCell (p := ⟨u8_1w.heap.size, 2, none⟩) (by show _ ≤ _; omega) _).setCell (p := ⟨u8_1w.heap.size, 3, none⟩) (by show _ ≤ _; omega) _
        have hXe : Box ((((u8_33w.setCell ⟨u8_1w.heap.size, 0, none⟩ (.string mn)).setCell ⟨u8_1w.heap.size, 1, none⟩ (.string mx)).setCell ⟨u8_1w.heap.size, 2, none⟩ (.bool mf)).setCell ⟨u8_1w.heap.size, 3, none⟩ (.slice a1_u8_33w a2_u8_33w a3_u8_33w)) (u8_1w.heap.size) 51 [.string mn, .string mx, .bool mf, .slice a1_u8_33w a2_u8_33w a3_u8_33w] := (((u8_38.set 0 _).set 1 _).set 2 _).set 3 _
        have hLe : Lies ((((u8_33w.setCell ⟨u8_1w.heap.size, 0, none⟩ (.string mn)).setCell ⟨u8_1w.heap.size, 1, none⟩ (.string mx)).setCell ⟨u8_1w.heap.size, 2, none⟩ (.bool mf)).setCell ⟨u8_1w.heap.size, 3, none⟩ (.slice a1_u8_33w a2_u8_33w a3_u8_33w)) (fun _ => True) M (.slice a1_u8_33w a2_u8_33w a3_u8_33w) := liesAny ((((u8_36.past (.inl u8_37)).past (.inl u8_37)).past (.inl u8_37)).past (.inl u8_37)).lies
        refine wpAnyH_ready (rs := [9]) (by kernel_rfl) (by simp) ?_
        refine (AllReadyH.cons (o := o7_8_9) rfl (fun K hK => ?_) AllReadyH.nil)
        go_simp
        clear hHeld
        refine hK.out _ _ (by have h := HC.out _ hFe; unfold E10 at h; exact h) (fun hHeld => ?_)
        clear hK K
        try simp only [Act.put, List.setIfInBounds_toArray, List.set_cons_zero, List.set_cons_succ]
        refine wpAnyH_ready (rs := [10]) (by kernel_rfl) (by simp) ?_
        refine (AllReadyH.cons (o := o7_8_10) rfl (fun K hK => ?_) AllReadyH.nil)
        go_simp
        clear hHeld
        refine hK.out _ _ (by have h := HC.out _ hFe; unfold E10 at h; exact h) (fun hHeld => ?_)
        clear hK K
        try simp only [Act.put, List.setIfInBounds_toArray, List.set_cons_zero, List.set_cons_succ]
        refine wpAnyH_done (by kernel_rfl) ?_ _
        (try refine NoPanic.normal ?_)
        go_wp2_with fail
        go_meet
        exact ⟨_, _, _, _, rfl, rfl, hFe, hXe, hLe⟩
    · go_simp
      clear hHeld
      refine hK.out _ _ (by have h := HC.out _ (by first | exact hBA | exact hBA2); unfold E10 at h; exact h) (fun hHeld => ?_)
      clear hK K
      try simp only [Act.put, List.setIfInBounds_toArray, List.set_cons_zero, List.set_cons_succ]
      have u8_39 : Box (w2.drew.alloc (.cells #[.string ⟨#[]⟩, .string ⟨#[]⟩, .bool false, .slice none 0 0] 51)) w2.heap.size 51 [.string ⟨#[]⟩, .string ⟨#[]⟩, .bool false, .slice none 0 0] := Box.new w2.drew 51 _
      have hgw : w2.heap.size ≤ w2.heap.size := Nat.le_refl _
      refine wpAnyH_ready (rs := [1]) (by kernel_rfl) (by simp) ?_
      refine (AllReadyH.cons (o := o7_8_1) rfl (fun K hK => ?_) AllReadyH.nil)
      go_simp
      refine Calls.mono (HUA.out _ (bel_trans HB2.out hBA)) ?_
      rintro e u8_40w ⟨v_u8_40w, rfl, u8_41, u8_43⟩
      obtain ⟨a1_u8_40w, a2_u8_40w, a3_u8_40w, rfl⟩ := u8_43.form
      dsimp only
      have u8_42 := bel_trans hBA u8_41
      have u8_44 := u8_39.still u8_41
      clear hHeld
      refine hK.out _ _ (by have h := HC.out _ u8_42; unfold E10 at h; exact h) (fun hHeld => ?_)
      clear hK K
      try simp only [Act.put, List.setIfInBounds_toArray, List.set_cons_zero, List.set_cons_succ]
      refine wpAnyH_ready (rs := [3]) (by kernel_rfl) (by simp) ?_
      refine (AllReadyH.cons (o := o7_8_3) rfl (fun K hK => ?_) AllReadyH.nil)
      go_simp
      refine Calls.mono (HUD.out _ (bel_trans HB2.out u8_42)) ?_
      rintro e u8_45w ⟨v_u8_45w, k_u8_45w, rfl, u8_46, u8_48⟩
      obtain ⟨⟨a1_u8_45w, a2_u8_45w, a3_u8_45w, rfl⟩, b1_u8_45w, b2_u8_45w, rfl⟩ := u8_48.lies.form
      dsimp only
      have u8_47 := bel_trans u8_42 u8_46
      have u8_49 := u8_43.still u8_46
      have u8_50 := u8_44.still u8_46
      clear hHeld
      refine hK.out _ _ (by have h := HC.out _ u8_47; unfold E10 at h; exact h) (fun hHeld => ?_)
      clear hK K
      try simp only [Act.put, List.setIfInBounds_toArray, List.set_cons_zero, List.set_cons_succ]
      refine wpAnyH_ready (rs := [4]) (by kernel_rfl) (by simp) ?_
      refine (AllReadyH.cons (o := o7_8_4) rfl (fun K hK => ?_) AllReadyH.nil)
      go_simp
      refine Calls.mono (HSP.out _ _ _ _ _ _ _ _ u8_49 u8_48) ?_
      rintro e u8_51w ⟨v_u8_51w, rfl, u8_52, u8_54⟩
      obtain ⟨a1_u8_51w, a2_u8_51w, a3_u8_51w, rfl⟩ := u8_54.form
      have u8_55 := u8_50.lt
      dsimp only
      have u8_53 := bel_trans u8_47 u8_52
      have u8_56 := u8_50.still u8_52
      clear hHeld
      refine hK.out _ _ (by have h := HC.out _ u8_53; unfold E10 at h; exact h) (fun hHeld => ?_)
      clear hK K
      try simp only [Act.put, List.setIfInBounds_toArray, List.set_cons_zero, List.set_cons_succ]
      refine wpAnyH_take (i := 5) (oi := o7_8_5) (v := ?v12) rfl (by kernel_rfl) (by kernel_rfl) (by kernel_rfl) (fun _ _ _ h => h) (Or.inl ⟨by rfl, ?h12⟩) hHeld ?r12
      case h12 => (intro w hSw; (try dsimp only at hSw); go_simp; try with_reducible rfl)
      try simp only [Act.put, List.setIfInBounds_toArray, List.set_cons_zero, List.set_cons_succ]
      refine wpAnyH_take (i := 6) (oi := o7_8_6) (v := ?v13) rfl (by kernel_rfl) (by kernel_rfl) (by kernel_rfl) (fun _ _ _ h => h) (Or.inl ⟨by rfl, ?h13⟩) hHeld ?r13
      case h13 => (intro w hSw; (try dsimp only at hSw); go_simp; try with_reducible rfl)
      try simp only [Act.put, List.setIfInBounds_toArray, List.set_cons_zero, List.set_cons_succ]
      refine wpAnyH_take (i := 7) (oi := o7_8_7) (v := ?v14) rfl (by kernel_rfl) (by kernel_rfl) (by kernel_rfl) (fun _ _ _ h => h) (Or.inl ⟨by rfl, ?h14⟩) hHeld ?r14
      case h14 => (intro w hSw; (try dsimp only at hSw); go_simp; try with_reducible rfl)
      try simp only [Act.put, List.setIfInBounds_toArray, List.set_cons_zero, List.set_cons_succ]
      have z0 : u8_51w.cell? ⟨w2.heap.size, 0, none⟩ = some (.string ⟨#[]⟩) := u8_56.cell 0 (by simp)
      have z1 : u8_51w.cell? ⟨w2.heap.size, 1, none⟩ = some (.string ⟨#[]⟩) := u8_56.cell 1 (by simp)
      have z2 : u8_51w.cell? ⟨w2.heap.size, 2, none⟩ = some (.bool false) := u8_56.cell 2 (by simp)
      have z3 : u8_51w.cell? ⟨w2.heap.size, 3, none⟩ = some (.slice none 0 0) := u8_56.cell 3 (by simp)
      have y0 := u8_56.frozen 0
      have y1 := u8_56.frozen 1
      have y2 := u8_56.frozen 2
      have y3 := u8_56.frozen 3
      have hFe : Below w2.heap.size w2 ((((u8_51w.setCell ⟨w2.heap.size, 0, none⟩ (.string mn)).setCell ⟨w2.heap.size, 1, none⟩ (.string mx)).setCell ⟨w2.heap.size, 2, none⟩ (.bool mf)).setCell ⟨w2.heap.size, 3, none⟩ (.slice a1_u8_51w a2_u8_51w a3_u8_51w)) := (((u8_53.setCell (p := ⟨w2.heap.size, 0, none⟩) (by show _ ≤ _; omega) _).setCell (p := ⟨w2.heap.size, 1, none⟩) (by show _ ≤ _; omega) _).setCell (p := ⟨w2.heap.size, 2, none⟩) (by show _ ≤ _; omega) _).setCell (p := ⟨w2.heap.size, 3, none⟩) (by show _ ≤ _; omega) _
      have hXe : Box ((((u8_51w.setCell ⟨w2.heap.size, 0, none⟩ (.string mn)).setCell ⟨w2.heap.size, 1, none⟩ (.string mx)).setCell ⟨w2.heap.size, 2, none⟩ (.bool mf)).setCell ⟨w2.heap.size, 3, none⟩ (.slice a1_u8_51w a2_u8_51w a3_u8_51w)) (w2.heap.size) 51 [.string mn, .string mx, .bool mf, .slice a1_u8_51w a2_u8_51w a3_u8_51w] := (((u8_56.set 0 _).set 1 _).set 2 _).set 3 _
      have hLe : Lies ((((u8_51w.setCell ⟨w2.heap.size, 0, none⟩ (.string mn)).setCell ⟨w2.heap.size, 1, none⟩ (.string mx)).setCell ⟨w2.heap.size, 2, none⟩ (.bool mf)).setCell ⟨w2.heap.size, 3, none⟩ (.slice a1_u8_51w a2_u8_51w a3_u8_51w)) (fun _ => True) M (.slice a1_u8_51w a2_u8_51w a3_u8_51w) := liesAny ((((u8_54.past (.inl u8_55)).past (.inl u8_55)).past (.inl u8_55)).past (.inl u8_55)).lies
      refine wpAnyH_ready (rs := [9]) (by kernel_rfl) (by simp) ?_
      refine (AllReadyH.cons (o := o7_8_9) rfl (fun K hK => ?_) AllReadyH.nil)
      go_simp
      clear hHeld
      refine hK.out _ _ (by have h := HC.out _ hFe; unfold E10 at h; exact h) (fun hHeld => ?_)
      clear hK K
      try simp only [Act.put, List.setIfInBounds_toArray, List.set_cons_zero, List.set_cons_succ]
      refine wpAnyH_ready (rs := [10]) (by kernel_rfl) (by simp) ?_
      refine (AllReadyH.cons (o := o7_8_10) rfl (fun K hK => ?_) AllReadyH.nil)
      go_simp
      clear hHeld
      refine hK.out _ _ (by have h := HC.out _ hFe; unfold E10 at h; exact h) (fun hHeld => ?_)
      clear hK K
      try simp only [Act.put, List.setIfInBounds_toArray, List.set_cons_zero, List.set_cons_succ]
      refine wpAnyH_done (by kernel_rfl) ?_ _
      (try refine NoPanic.normal ?_)
      go_wp2_with fail
      go_meet
      exact ⟨_, _, _, _, rfl, rfl, hFe, hXe, hLe⟩
  case rest =>
    obtain ⟨z0, sa, sl, sp, rfl, rfl, HXC⟩ := hcut
    obtain ⟨wz, rfl⟩ : ∃ wz, wz = wc := ⟨_, rfl⟩
    have HA := (show Hid (∀ wq, Below wz.heap.size wz wq → Below w.heap.size w wq ∧ Box wq w.heap.size 46 [.string an, .string ax, .bool af, .slice aa al ap] ∧ Box wq (w.heap.size + 1) 65 [.int .i64 dc, .string dn, .string dx, .bool df, .slice ta tl tp, .slice ka kl kp] ∧ Box wq z0 51 [.string mn, .string mx, .bool mf, .slice sa sl sp] ∧ Lies wq (fun _ => True) M (.slice sa sl sp)) from fun wq h => ⟨bel_trans (bel_trans H2.out.1 HXC.out.1) h, (H2.out.2.1.still HXC.out.1).still h, (H2.out.2.2.still HXC.out.1).still h, HXC.out.2.1.still h, HXC.out.2.2.still h⟩)
    clear HXC HC H2 HSP HB2
    have H3 := HA.out wz (Below.refl _ _)
    have r0 : wz.cell? ⟨w.heap.size, 0, none⟩ = some (.string an) := H3.2.1.cell 0 (by simp)
    have r1 : wz.cell? ⟨w.heap.size, 1, none⟩ = some (.string ax) := H3.2.1.cell 1 (by simp)
    have r2 : wz.cell? ⟨w.heap.size, 2, none⟩ = some (.bool af) := H3.2.1.cell 2 (by simp)
    have r3 : wz.cell? ⟨w.heap.size, 3, none⟩ = some (.slice aa al ap) := H3.2.1.cell 3 (by simp)
    have C3 := (show Hid _ from HUA.out _ H3.1)
    clear H3
    go_wp2_with fail
    refine Calls.mono C3.out ?_
    rintro e w3 ⟨v3, rfl, hb3, lx⟩
    obtain ⟨xa, xl, xp, rfl⟩ := lx.form
    have hbX := bel_alloc w3 (.cells #[.string an, .string ax, .bool af, .slice xa xl xp] 51)
    have H4 := (show Hid (Below wz.heap.size wz (w3.alloc (.cells #[.string an, .string ax, .bool af, .slice xa xl xp] 51)) ∧ Box (w3.alloc (.cells #[.string an, .string ax, .bool af, .slice xa xl xp] 51)) w3.heap.size 51 [.string an, .string ax, .bool af, .slice xa xl xp] ∧ Own (w3.alloc (.cells #[.string an, .string ax, .bool af, .slice xa xl xp] 51)) wz.heap.size w3.heap.size a (.slice xa xl xp) ∧ wz.heap.size ≤ w3.heap.size) from ⟨bel_trans hb3 hbX, Box.new _ _ _, lx.still hbX, hb3.size⟩)
    clear hb3 hbX lx r0 r1 r2 r3 C3
    have H5 := HA.out _ H4.out.1
    have s0 : (w3.alloc (.cells #[.string an, .string ax, .bool af, .slice xa xl xp] 51)).cell? ⟨w.heap.size + 1, 0, none⟩ = some (.int .i64 dc) := H5.2.2.1.cell 0 (by simp)
    have s1 : (w3.alloc (.cells #[.string an, .string ax, .bool af, .slice xa xl xp] 51)).cell? ⟨w.heap.size + 1, 1, none⟩ = some (.string dn) := H5.2.2.1.cell 1 (by simp)
    have s2 : (w3.alloc (.cells #[.string an, .string ax, .bool af, .slice xa xl xp] 51)).cell? ⟨w.heap.size + 1, 2, none⟩ = some (.string dx) := H5.2.2.1.cell 2 (by simp)
    have s3 : (w3.alloc (.cells #[.string an, .string ax, .bool af, .slice xa xl xp] 51)).cell? ⟨w.heap.size + 1, 3, none⟩ = some (.bool df) := H5.2.2.1.cell 3 (by simp)
    have s4 : (w3.alloc (.cells #[.string an, .string ax, .bool af, .slice xa xl xp] 51)).cell? ⟨w.heap.size + 1, 4, none⟩ = some (.slice ta tl tp) := H5.2.2.1.cell 4 (by simp)
    have s5 : (w3.alloc (.cells #[.string an, .string ax, .bool af, .slice xa xl xp] 51)).cell? ⟨w.heap.size + 1, 5, none⟩ = some (.slice ka kl kp) := H5.2.2.1.cell 5 (by simp)
    have C4 := (show Hid _ from HUD.out _ H5.1)
    clear H5
    go_wp2_with fail
    refine Calls.mono C4.out ?_
    rintro e w4 ⟨v4, k4, rfl, hb4, ly⟩
    obtain ⟨⟨ya, yl, yp, rfl⟩, za, zp, hzv⟩ := ly.lies.form
    obtain ⟨zl, hzl⟩ : ∃ zl, zl = d.kids.length := ⟨_, rfl⟩
    rw [← hzl] at hzv
    subst hzv
    clear hzl
    have hbY := bel_alloc w4 (.cells #[.int .i64 dc, .string dn, .string dx, .bool df, .slice ya yl yp, .slice za zl zp] 57)
    have hsz : (w3.alloc (.cells #[.string an, .string ax, .bool af, .slice xa xl xp] 51)).heap.size = w3.heap.size + 1 := by simp
    have hsb := hb4.size
    rw [hsz] at ly hsb
    have H6 := (show Hid (Below wz.heap.size wz (w4.alloc (.cells #[.int .i64 dc, .string dn, .string dx, .bool df, .slice ya yl yp, .slice za zl zp] 57)) ∧ Box (w4.alloc (.cells #[.int .i64 dc, .string dn, .string dx, .bool df, .slice ya yl yp, .slice za zl zp] 57)) w3.heap.size 51 [.string an, .string ax, .bool af, .slice xa xl xp] ∧ Own (w4.alloc (.cells #[.int .i64 dc, .string dn, .string dx, .bool df, .slice ya yl yp, .slice za zl zp] 57)) wz.heap.size w3.heap.size a (.slice xa xl xp) ∧ Box (w4.alloc (.cells #[.int .i64 dc, .string dn, .string dx, .bool df, .slice ya yl yp, .slice za zl zp] 57)) w4.heap.size 57 [.int .i64 dc, .string dn, .string dx, .bool df, .slice ya yl yp, .slice za zl zp] ∧ DOwn (w4.alloc (.cells #[.int .i64 dc, .string dn, .string dx, .bool df, .slice ya yl yp, .slice za zl zp] 57)) (w3.heap.size + 1) w4.heap.size d (.slice ya yl yp) (.slice za zl zp) ∧ wz.heap.size ≤ w3.heap.size ∧ w3.heap.size + 1 ≤ w4.heap.size ∧ (w4.alloc (.cells #[.int .i64 dc, .string dn, .string dx, .bool df, .slice ya yl yp, .slice za zl zp] 57)).heap.size = w4.heap.size + 1) from ⟨bel_trans H4.out.1 (bel_trans hb4 hbY), H4.out.2.1.still (bel_trans hb4 hbY), H4.out.2.2.1.still (bel_trans hb4 hbY), Box.new _ _ _, ly.still hbY, H4.out.2.2.2, hsb, by simp⟩)
    clear hb4 hbY ly H4 C4 s0 s1 s2 s3 s4 s5 hsz hsb
    have x0 : (w4.alloc (.cells #[.int .i64 dc, .string dn, .string dx, .bool df, .slice ya yl yp, .slice za zl zp] 57)).cell? ⟨w3.heap.size, 0, none⟩ = some (.string an) := H6.out.2.1.cell 0 (by simp)
    have x1 : (w4.alloc (.cells #[.int .i64 dc, .string dn, .string dx, .bool df, .slice ya yl yp, .slice za zl zp] 57)).cell? ⟨w3.heap.size, 1, none⟩ = some (.string ax) := H6.out.2.1.cell 1 (by simp)
    have x2 : (w4.alloc (.cells #[.int .i64 dc, .string dn, .string dx, .bool df, .slice ya yl yp, .slice za zl zp] 57)).cell? ⟨w3.heap.size, 2, none⟩ = some (.bool af) := H6.out.2.1.cell 2 (by simp)
    have x3 : (w4.alloc (.cells #[.int .i64 dc, .string dn, .string dx, .bool df, .slice ya yl yp, .slice za zl zp] 57)).cell? ⟨w3.heap.size, 3, none⟩ = some (.slice xa xl xp) := H6.out.2.1.cell 3 (by simp)
    have y0 : (w4.alloc (.cells #[.int .i64 dc, .string dn, .string dx, .bool df, .slice ya yl yp, .slice za zl zp] 57)).cell? ⟨w4.heap.size, 0, none⟩ = some (.int .i64 dc) := H6.out.2.2.2.1.cell 0 (by simp)
    have y1 : (w4.alloc (.cells #[.int .i64 dc, .string dn, .string dx, .bool df, .slice ya yl yp, .slice za zl zp] 57)).cell? ⟨w4.heap.size, 1, none⟩ = some (.string dn) := H6.out.2.2.2.1.cell 1 (by simp)
    have y2 : (w4.alloc (.cells #[.int .i64 dc, .string dn, .string dx, .bool df, .slice ya yl yp, .slice za zl zp] 57)).cell? ⟨w4.heap.size, 2, none⟩ = some (.string dx) := H6.out.2.2.2.1.cell 2 (by simp)
    have y3 : (w4.alloc (.cells #[.int .i64 dc, .string dn, .string dx, .bool df, .slice ya yl yp, .slice za zl zp] 57)).cell? ⟨w4.heap.size, 3, none⟩ = some (.bool df) := H6.out.2.2.2.1.cell 3 (by simp)
    have y4 : (w4.alloc (.cells #[.int .i64 dc, .string dn, .string dx, .bool df, .slice ya yl yp, .slice za zl zp] 57)).cell? ⟨w4.heap.size, 4, none⟩ = some (.slice ya yl yp) := H6.out.2.2.2.1.cell 4 (by simp)
    have y5 : (w4.alloc (.cells #[.int .i64 dc, .string dn, .string dx, .bool df, .slice ya yl yp, .slice za zl zp] 57)).cell? ⟨w4.heap.size, 5, none⟩ = some (.slice za zl zp) := H6.out.2.2.2.1.cell 5 (by simp)
    have C5 := (show Hid _ from HIM.out _ _ _ _ _ _ _ _ H6.out.2.2.1 H6.out.2.2.2.2.1)
    go_wp2_with fail
    refine Calls.mono C5.out ?_
    rintro e w5 ⟨v5, rfl, hb5, lg'⟩
    obtain ⟨ga, gl, gp, rfl⟩ := lg'.form
    have hbG := bel_alloc w5 (.cells #[.string mn, .string mx, .bool mf, .slice ga gl gp] 51)
    have hb5g := bel_trans hb5 hbG
    have hsg := hb5.size
    rw [H6.out.2.2.2.2.2.2.2] at lg' hsg
    have HL0 := (show Hid (LQa wz a M d wz.heap.size w3.heap.size w3.heap.size (w3.heap.size + 1) w4.heap.size w4.heap.size (w4.heap.size + 1) w5.heap.size w5.heap.size (.slice xa xl xp) (.slice ya yl yp) (.slice za zl zp) (.slice ga gl gp) [.string an, .string ax, .bool af, .slice xa xl xp] [.int .i64 dc, .string dn, .string dx, .bool df, .slice ya yl yp, .slice za zl zp] [.string mn, .string mx, .bool mf, .slice ga gl gp] (w5.alloc (.cells #[.string mn, .string mx, .bool mf, .slice ga gl gp] 51))) from ⟨bel_trans H6.out.1 hb5g, H6.out.2.2.1.still hb5g, H6.out.2.1.still hb5g, H6.out.2.2.2.2.1.still hb5g, H6.out.2.2.2.1.still hb5g, lg'.still hbG, Box.new _ _ _, by have := H6.out.2.2.2.2.2; omega⟩)
    clear hb5 hbG hb5g lg' H6 C5 x0 x1 x2 x3 y0 y1 y2 y3 y4 y5 hsg
    obtain ⟨wy, hwy⟩ : ∃ wy, wy = (w5.alloc (.cells #[.string mn, .string mx, .bool mf, .slice ga gl gp] 51)) := ⟨_, rfl⟩
    have HWY := (show Hid (wy = (w5.alloc (.cells #[.string mn, .string mx, .bool mf, .slice ga gl gp] 51))) from hwy)
    have HL := (show Hid (LQa wz a M d wz.heap.size w3.heap.size w3.heap.size (w3.heap.size + 1) w4.heap.size w4.heap.size (w4.heap.size + 1) w5.heap.size w5.heap.size (.slice xa xl xp) (.slice ya yl yp) (.slice za zl zp) (.slice ga gl gp) [.string an, .string ax, .bool af, .slice xa xl xp] [.int .i64 dc, .string dn, .string dx, .bool df, .slice ya yl yp, .slice za zl zp] [.string mn, .string mx, .bool mf, .slice ga gl gp] wy) from (by rw [hwy]; exact HL0.out))
    have t0 : (w5.alloc (.cells #[.string mn, .string mx, .bool mf, .slice ga gl gp] 51)).cell? ⟨w5.heap.size, 0, none⟩ = some (.string mn) := HL0.out.bg.cell 0 (by simp)
    have t1 : (w5.alloc (.cells #[.string mn, .string mx, .bool mf, .slice ga gl gp] 51)).cell? ⟨w5.heap.size, 1, none⟩ = some (.string mx) := HL0.out.bg.cell 1 (by simp)
    have t2 : (w5.alloc (.cells #[.string mn, .string mx, .bool mf, .slice ga gl gp] 51)).cell? ⟨w5.heap.size, 2, none⟩ = some (.bool mf) := HL0.out.bg.cell 2 (by simp)
    have t3 : (w5.alloc (.cells #[.string mn, .string mx, .bool mf, .slice ga gl gp] 51)).cell? ⟨w5.heap.size, 3, none⟩ = some (.slice ga gl gp) := HL0.out.bg.cell 3 (by simp)
    have s0 : (w5.alloc (.cells #[.string mn, .string mx, .bool mf, .slice ga gl gp] 51)).cell? ⟨z0, 0, none⟩ = some (.string mn) := (HA.out _ HL0.out.bel).2.2.2.1.cell 0 (by simp)
    have s1 : (w5.alloc (.cells #[.string mn, .string mx, .bool mf, .slice ga gl gp] 51)).cell? ⟨z0, 1, none⟩ = some (.string mx) := (HA.out _ HL0.out.bel).2.2.2.1.cell 1 (by simp)
    have s2 : (w5.alloc (.cells #[.string mn, .string mx, .bool mf, .slice ga gl gp] 51)).cell? ⟨z0, 2, none⟩ = some (.bool mf) := (HA.out _ HL0.out.bel).2.2.2.1.cell 2 (by simp)
    have s3 : (w5.alloc (.cells #[.string mn, .string mx, .bool mf, .slice ga gl gp] 51)).cell? ⟨z0, 3, none⟩ = some (.slice sa sl sp) := (HA.out _ HL0.out.bel).2.2.2.1.cell 3 (by simp)
    have C9 := (show Hid _ from HEM.out _ _ _ (liesAny HL0.out.g.lies) (HA.out _ HL0.out.bel).2.2.2.2)
    have hneC : ((C : Int) != C) = false := by simp
    clear hwy
    go_wp2_with fail
    refine Calls.mono C9.out ?_
    rintro e w9 ⟨rfl, hb9⟩
    rw [← HWY.out] at hb9
    have HL9 := (show Hid (LQa wz a M d wz.heap.size w3.heap.size w3.heap.size (w3.heap.size + 1) w4.heap.size w4.heap.size (w4.heap.size + 1) w5.heap.size w5.heap.size (.slice xa xl xp) (.slice ya yl yp) (.slice za zl zp) (.slice ga gl gp) [.string an, .string ax, .bool af, .slice xa xl xp] [.int .i64 dc, .string dn, .string dx, .bool df, .slice ya yl yp, .slice za zl zp] [.string mn, .string mx, .bool mf, .slice ga gl gp] w9) from HL.out.still hb9)
    clear hb9 HL HL0 C9 HWY t0 t1 t2 t3 s0 s1 s2 s3
    generalize hp3 : w3.heap.size = p3 at *
    generalize hp4 : w4.heap.size = p4 at *
    generalize hp5 : w5.heap.size = p5 at *
    clear hp3 hp4 hp5
    have HCA := (show Hid (∀ wq, Below w9.heap.size w9 wq → (wq.cell? ⟨p3, 0, none⟩ = some (.string an) ∧ wq.cell? ⟨p3, 1, none⟩ = some (.string ax) ∧ wq.cell? ⟨p3, 2, none⟩ = some (.bool af) ∧ wq.cell? ⟨p3, 3, none⟩ = some (.slice xa xl xp)) ∧ wq.cell? ⟨w.heap.size, 0, none⟩ = some (.string an) ∧ wq.cell? ⟨w.heap.size, 1, none⟩ = some (.string ax) ∧ wq.cell? ⟨w.heap.size, 2, none⟩ = some (.bool af) ∧ wq.cell? ⟨w.heap.size, 3, none⟩ = some (.slice aa al ap)) from fun wq h => by
      have q1 := HL9.out.bx.still h
      have q2 := (HA.out _ HL9.out.bel).2.1.still h
      exact ⟨⟨q1.cell 0 (by simp), q1.cell 1 (by simp), q1.cell 2 (by simp), q1.cell 3 (by simp)⟩, q2.cell 0 (by simp), q2.cell 1 (by simp), q2.cell 2 (by simp), q2.cell 3 (by simp)⟩)
    have HOX := (show Hid (Own w9 wz.heap.size p3 a (.slice xa xl xp)) from HL9.out.x)
    have HB9 := (show Hid (Below w.heap.size w w9) from (HA.out _ HL9.out.bel).1)
    go_wp2_with fail
    go_cut [58] from 54 to 57 (fun v wx => v = .bool false ∧ Hid (Below w9.heap.size w9 wx))
    case first =>
      have hbd := (Below.refl w9.heap.size w9).drew
      have hS0 := HCA.out _ hbd
      have hB0 := bel_trans HB9.out hbd
      go_region_held3 (fun wq => (wq.cell? ⟨p3, 0, none⟩ = some (.string an) ∧ wq.cell? ⟨p3, 1, none⟩ = some (.string ax) ∧ wq.cell? ⟨p3, 2, none⟩ = some (.bool af) ∧ wq.cell? ⟨p3, 3, none⟩ = some (.slice xa xl xp)) ∧ wq.cell? ⟨w.heap.size, 0, none⟩ = some (.string an) ∧ wq.cell? ⟨w.heap.size, 1, none⟩ = some (.string ax) ∧ wq.cell? ⟨w.heap.size, 2, none⟩ = some (.bool af) ∧ wq.cell? ⟨w.heap.size, 3, none⟩ = some (.slice aa al ap)) (first | with_reducible exact hS0 | with_reducible exact hS1 | with_reducible exact hS2) ((first
        | (go_at_call 27; refine Calls.mono (HEA.out _ _ _ _ _ _ _ LX LC) ?_; rintro e wb ⟨rfl, hbb⟩; have hF2 := bel_trans hF1 hbb; have hS2 := HCA.out _ hF2)
        | (go_at_call 25; refine Calls.mono (HUA.out _ hB0) ?_; rintro e wb ⟨vb, rfl, hbb, LC⟩; obtain ⟨z1, z2, z3, rfl⟩ := LC.form; have hF1 := bel_trans hbd hbb; have LX := Own.still HOX.out hF1; have hS1 := HCA.out _ hF1)))
      all_goals go_wp2_with fail
      all_goals go_meet
      all_goals exact ⟨rfl, hF2⟩
    case rest =>
      obtain ⟨rfl, HXD⟩ := hcut
      obtain ⟨wx, rfl⟩ : ∃ wx, wx = wc := ⟨_, rfl⟩
      have HL10 := (show Hid (LQa wz a M d wz.heap.size p3 p3 (p3 + 1) p4 p4 (p4 + 1) p5 p5 (.slice xa xl xp) (.slice ya yl yp) (.slice za zl zp) (.slice ga gl gp) [.string an, .string ax, .bool af, .slice xa xl xp] [.int .i64 dc, .string dn, .string dx, .bool df, .slice ya yl yp, .slice za zl zp] [.string mn, .string mx, .bool mf, .slice ga gl gp] wx) from HL9.out.still HXD.out)
      clear HXD HCA HOX HB9 HL9 HEA
      have HCB := (show Hid (∀ wq, Below wx.heap.size wx wq → (wq.cell? ⟨p4, 0, none⟩ = some (.int .i64 dc) ∧ wq.cell? ⟨p4, 1, none⟩ = some (.string dn) ∧ wq.cell? ⟨p4, 2, none⟩ = some (.string dx) ∧ wq.cell? ⟨p4, 3, none⟩ = some (.bool df) ∧ wq.cell? ⟨p4, 4, none⟩ = some (.slice ya yl yp) ∧ wq.cell? ⟨p4, 5, none⟩ = some (.slice za zl zp)) ∧ wq.cell? ⟨w.heap.size + 1, 0, none⟩ = some (.int .i64 dc) ∧ wq.cell? ⟨w.heap.size + 1, 1, none⟩ = some (.string dn) ∧ wq.cell? ⟨w.heap.size + 1, 2, none⟩ = some (.string dx) ∧ wq.cell? ⟨w.heap.size + 1, 3, none⟩ = some (.bool df) ∧ wq.cell? ⟨w.heap.size + 1, 4, none⟩ = some (.slice ta tl tp) ∧ wq.cell? ⟨w.heap.size + 1, 5, none⟩ = some (.slice ka kl kp)) from fun wq h => by
        have q1 := HL10.out.by1.still h
        have q2 := (HA.out _ HL10.out.bel).2.2.1.still h
        exact ⟨⟨q1.cell 0 (by simp), q1.cell 1 (by simp), q1.cell 2 (by simp), q1.cell 3 (by simp), q1.cell 4 (by simp), q1.cell 5 (by simp)⟩, q2.cell 0 (by simp), q2.cell 1 (by simp), q2.cell 2 (by simp), q2.cell 3 (by simp), q2.cell 4 (by simp), q2.cell 5 (by simp)⟩)
      have HOY := (show Hid (DOwn wx (p3 + 1) p4 d (.slice ya yl yp) (.slice za zl zp)) from HL10.out.y)
      have HB10 := (show Hid (Below w.heap.size w wx) from (HA.out _ HL10.out.bel).1)
      go_wp2_with fail
      go_cut [63] from 59 to 62 (fun v wy => v = .bool false ∧ Hid (Below wx.heap.size wx wy))
      case first =>
        have hbd := (Below.refl wx.heap.size wx).drew
        have hS0 := HCB.out _ hbd
        have hB0 := bel_trans HB10.out hbd
        go_region_held3 (fun wq => (wq.cell? ⟨p4, 0, none⟩ = some (.int .i64 dc) ∧ wq.cell? ⟨p4, 1, none⟩ = some (.string dn) ∧ wq.cell? ⟨p4, 2, none⟩ = some (.string dx) ∧ wq.cell? ⟨p4, 3, none⟩ = some (.bool df) ∧ wq.cell? ⟨p4, 4, none⟩ = some (.slice ya yl yp) ∧ wq.cell? ⟨p4, 5, none⟩ = some (.slice za zl zp)) ∧ wq.cell? ⟨w.heap.size + 1, 0, none⟩ = some (.int .i64 dc) ∧ wq.cell? ⟨w.heap.size + 1, 1, none⟩ = some (.string dn) ∧ wq.cell? ⟨w.heap.size + 1, 2, none⟩ = some (.string dx) ∧ wq.cell? ⟨w.heap.size + 1, 3, none⟩ = some (.bool df) ∧ wq.cell? ⟨w.heap.size + 1, 4, none⟩ = some (.slice ta tl tp) ∧ wq.cell? ⟨w.heap.size + 1, 5, none⟩ = some (.slice ka kl kp)) (first | with_reducible exact hS0 | with_reducible exact hS1 | with_reducible exact hS2) ((first
          | (go_at_call 30; refine Calls.mono (HED.out _ _ _ _ _ _ _ _ _ LX LC) ?_; rintro e wb ⟨rfl, hbb⟩; have hF2 := bel_trans hF1 hbb; have hS2 := HCB.out _ hF2)
          | (go_at_call 36; refine Calls.mono (HUD.out _ hB0) ?_; rintro e wb ⟨vb, kb, rfl, hbb, LC⟩; obtain ⟨⟨z1, z2, z3, rfl⟩, z4, z5, rfl⟩ := LC.lies.form; have hF1 := bel_trans hbd hbb; have LX := DOwn.still HOY.out hF1; have hS1 := HCB.out _ hF1)))
        all_goals go_wp2_with fail
        all_goals go_meet
        all_goals exact ⟨rfl, hF2⟩
      case rest =>
        obtain ⟨rfl, HXE⟩ := hcut
        obtain ⟨w11, rfl⟩ : ∃ w11, w11 = wc := ⟨_, rfl⟩
        have HL12 := (show Hid (LQa wz a M d wz.heap.size p3 p3 (p3 + 1) p4 p4 (p4 + 1) p5 p5 (.slice xa xl xp) (.slice ya yl yp) (.slice za zl zp) (.slice ga gl gp) [.string an, .string ax, .bool af, .slice xa xl xp] [.int .i64 dc, .string dn, .string dx, .bool df, .slice ya yl yp, .slice za zl zp] [.string mn, .string mx, .bool mf, .slice ga gl gp] w11) from HL10.out.still HXE.out)
        clear HXE HCB HOY HB10 HL10 HED
        have x0 : w11.cell? ⟨p3, 0, none⟩ = some (.string an) := HL12.out.bx.cell 0 (by simp)
        have x1 : w11.cell? ⟨p3, 1, none⟩ = some (.string ax) := HL12.out.bx.cell 1 (by simp)
        have x2 : w11.cell? ⟨p3, 2, none⟩ = some (.bool af) := HL12.out.bx.cell 2 (by simp)
        have x3 : w11.cell? ⟨p3, 3, none⟩ = some (.slice xa xl xp) := HL12.out.bx.cell 3 (by simp)
        have C12 := (show Hid _ from HMA.out w11 _ _ 1 _ HL12.out.x (Nat.le_of_lt HL12.out.bx.lt) (by omega) (by have := HKK.out; omega))
        have HK1 := (show Hid (0 < 1 + na ∧ 1 + na ≤ 3145729) from ⟨by omega, by have := HKK.out; omega⟩)
        clear HMA
        generalize 1 + na = K1 at *
        go_wp2_with fail
        refine Calls.mono C12.out ?_
        rintro e w12 ⟨rfl, ho12⟩
        have HL13 := (show Hid (LQb wz M d (p3 + 1) p4 p4 (p4 + 1) p5 p5 (.slice ya yl yp) (.slice za zl zp) (.slice ga gl gp) [.int .i64 dc, .string dn, .string dx, .bool df, .slice ya yl yp, .slice za zl zp] [.string mn, .string mx, .bool mf, .slice ga gl gp] w12) from HL12.out.marked ho12)
        clear ho12 HL12 C12 x0 x1 x2 x3
        have y0 : w12.cell? ⟨p4, 0, none⟩ = some (.int .i64 dc) := HL13.out.by1.cell 0 (by simp)
        have y1 : w12.cell? ⟨p4, 1, none⟩ = some (.string dn) := HL13.out.by1.cell 1 (by simp)
        have y2 : w12.cell? ⟨p4, 2, none⟩ = some (.string dx) := HL13.out.by1.cell 2 (by simp)
        have y3 : w12.cell? ⟨p4, 3, none⟩ = some (.bool df) := HL13.out.by1.cell 3 (by simp)
        have y4 : w12.cell? ⟨p4, 4, none⟩ = some (.slice ya yl yp) := HL13.out.by1.cell 4 (by simp)
        have y5 : w12.cell? ⟨p4, 5, none⟩ = some (.slice za zl zp) := HL13.out.by1.cell 5 (by simp)
        have C13 := (show Hid _ from HMD.out w12 _ _ K1 _ _ HL13.out.y (Nat.le_of_lt HL13.out.by1.lt) HK1.out.1 (by have := HKK.out; have := HK1.out; omega))
        clear HMD
        generalize K1 + nd = K2 at *
        have hK2 : decide ((K2 : Int) < 0) = false := by simp
        go_wp2_with fail
        refine Calls.mono C13.out ?_
        rintro e w13 ⟨rfl, ho13⟩
        have HL14 := (show Hid (LQc wz M (p4 + 1) p5 p5 (.slice ga gl gp) [.string mn, .string mx, .bool mf, .slice ga gl gp] w13) from HL13.out.marked ho13)
        clear ho13 HL13 C13 y0 y1 y2 y3 y4 y5
        have t0 : w13.cell? ⟨p5, 0, none⟩ = some (.string mn) := HL14.out.bg.cell 0 (by simp)
        have t1 : w13.cell? ⟨p5, 1, none⟩ = some (.string mx) := HL14.out.bg.cell 1 (by simp)
        have t2 : w13.cell? ⟨p5, 2, none⟩ = some (.bool mf) := HL14.out.bg.cell 2 (by simp)
        have t3 : w13.cell? ⟨p5, 3, none⟩ = some (.slice ga gl gp) := HL14.out.bg.cell 3 (by simp)
        have s0 : w13.cell? ⟨z0, 0, none⟩ = some (.string mn) := (HA.out _ HL14.out.bel).2.2.2.1.cell 0 (by simp)
        have s1 : w13.cell? ⟨z0, 1, none⟩ = some (.string mx) := (HA.out _ HL14.out.bel).2.2.2.1.cell 1 (by simp)
        have s2 : w13.cell? ⟨z0, 2, none⟩ = some (.bool mf) := (HA.out _ HL14.out.bel).2.2.2.1.cell 2 (by simp)
        have s3 : w13.cell? ⟨z0, 3, none⟩ = some (.slice sa sl sp) := (HA.out _ HL14.out.bel).2.2.2.1.cell 3 (by simp)
        have C14 := (show Hid _ from HEM.out w13 _ _ (liesAny HL14.out.g.lies) (HA.out _ HL14.out.bel).2.2.2.2)
        go_wp2_with fail
        refine Calls.mono C14.out ?_
        rintro e w14 ⟨rfl, hb14⟩
        have HL15 := (show Hid (LQc wz M (p4 + 1) p5 p5 (.slice ga gl gp) [.string mn, .string mx, .bool mf, .slice ga gl gp] w14) from HL14.out.still hb14)
        clear hb14 HL14 C14 t0 t1 t2 t3 s0 s1 s2 s3 hK2
        have t0 : w14.cell? ⟨p5, 0, none⟩ = some (.string mn) := HL15.out.bg.cell 0 (by simp)
        have t1 : w14.cell? ⟨p5, 1, none⟩ = some (.string mx) := HL15.out.bg.cell 1 (by simp)
        have t2 : w14.cell? ⟨p5, 2, none⟩ = some (.bool mf) := HL15.out.bg.cell 2 (by simp)
        have t3 : w14.cell? ⟨p5, 3, none⟩ = some (.slice ga gl gp) := HL15.out.bg.cell 3 (by simp)
        have C15 := (show Hid _ from HMM.out w14 _ _ _ HL15.out.g (Nat.le_of_lt HL15.out.bg.lt))
        have hD0 : decide ((D : Int) < 0) = false := by simp
        have hD1 : ((D : Int) != (D : Int)) = false := by simp
        go_wp2_with fail
        refine Calls.mono C15.out ?_
        rintro e w15 ⟨rfl, ho15, hg15⟩
        have HL16 := (show Hid (LQc wz (mk M 1) (p4 + 1) p5 p5 (.slice ga gl gp) [.string mn, .string mx, .bool mf, .slice ga gl gp] w15) from HL15.out.marked ho15 hg15)
        clear ho15 hg15 HL15 C15 t0 t1 t2 t3 HMM
        have t0 : w15.cell? ⟨p5, 0, none⟩ = some (.string mn) := HL16.out.bg.cell 0 (by simp)
        have t1 : w15.cell? ⟨p5, 1, none⟩ = some (.string mx) := HL16.out.bg.cell 1 (by simp)
        have t2 : w15.cell? ⟨p5, 2, none⟩ = some (.bool mf) := HL16.out.bg.cell 2 (by simp)
        have t3 : w15.cell? ⟨p5, 3, none⟩ = some (.slice ga gl gp) := HL16.out.bg.cell 3 (by simp)
        have C16 := (show Hid _ from HHM.out w15 _ _ _ HL16.out.g)
        go_wp2_with fail
        refine Calls.mono C16.out ?_
        rintro e w16 ⟨rfl, hb16⟩
        have HL17 := (show Hid (LQc wz (mk M 1) (p4 + 1) p5 p5 (.slice ga gl gp) [.string mn, .string mx, .bool mf, .slice ga gl gp] w16) from HL16.out.still hb16)
        clear hb16 HL16 C16 t0 t1 t2 t3
        have HC := (show Hid (∀ wq, Below w16.heap.size w16 wq → E10 w.heap.size (w.heap.size + 1) an ax af (.slice aa al ap) dc dn dx df (.slice ta tl tp) (.slice ka kl kp) wq) from fun wq h => E10.of ((HA.out _ HL17.out.bel).2.1.still h) ((HA.out _ HL17.out.bel).2.2.1.still h))
        have HB16 := (show Hid (Below w.heap.size w w16) from (HA.out _ HL17.out.bel).1)
        go_wp2_with fail
        go_cut [15, 16] from 94 to 101 (fun v6 v7 wx => ∃ (g : Nat) (sa : Option Addr) (sl sp : Nat), v6 = .pointer (some ⟨g, 0, none⟩) ∧ v7 = .int .i64 (C : Nat) ∧ Hid (Below w16.heap.size w16 wx ∧ Box wx g 51 [.string mn, .string mx, .bool mf, .slice sa sl sp] ∧ Lies wx (fun _ => True) M (.slice sa sl sp)))
        case first =>
          have hbd := (Below.refl w16.heap.size w16).drew
          have hS0 := HC.out _ hbd
          unfold E10 at hS0
          have hBA : Below w16.heap.size w16 (w16.drew.alloc (.cells #[.string ⟨#[]⟩, .string ⟨#[]⟩, .bool false, .slice none 0 0] 51)) := hbd.alloc (Nat.le_refl _) _
          have hBA2 : Below w16.heap.size w16 (w16.alloc (.cells #[.string ⟨#[]⟩, .string ⟨#[]⟩, .bool false, .slice none 0 0] 51)).drew := (bel_alloc _ _).drew
          refine wp_region_held_drew (S := (fun wq => (wq.cell? ⟨w.heap.size, 0, none⟩ = some (.string an) ∧ wq.cell? ⟨w.heap.size, 1, none⟩ = some (.string ax) ∧ wq.cell? ⟨w.heap.size, 2, none⟩ = some (.bool af) ∧ wq.cell? ⟨w.heap.size, 3, none⟩ = some (.slice aa al ap)) ∧ wq.cell? ⟨w.heap.size + 1, 0, none⟩ = some (.int .i64 dc) ∧ wq.cell? ⟨w.heap.size + 1, 1, none⟩ = some (.string dn) ∧ wq.cell? ⟨w.heap.size + 1, 2, none⟩ = some (.string dx) ∧ wq.cell? ⟨w.heap.size + 1, 3, none⟩ = some (.bool df) ∧ wq.cell? ⟨w.heap.size + 1, 4, none⟩ = some (.slice ta tl tp) ∧ wq.cell? ⟨w.heap.size + 1, 5, none⟩ = some (.slice ka kl kp))) (by kernel_rfl) hS0 (fun hHeld => ?_)
          refine wpAnyH_take (i := 0) (oi := o7_31_0) (v := ?v15) rfl (by kernel_rfl) (by kernel_rfl) (by kernel_rfl) (fun _ _ _ h => h) (Or.inl ⟨by rfl, ?h15⟩) hHeld ?r15
          case h15 => (intro w hSw; (try dsimp only at hSw); go_simp; try with_reducible rfl)
          try simp only [Act.put, List.setIfInBounds_toArray, List.set_cons_zero, List.set_cons_succ]
          refine wpAnyH_take (i := 2) (oi := o7_31_2) (v := ?v16) rfl (by kernel_rfl) (by kernel_rfl) (by kernel_rfl) (fun _ _ _ h => h) (Or.inl ⟨by rfl, ?h16⟩) hHeld ?r16
          case h16 => (intro w hSw; (try dsimp only at hSw); go_simp; try with_reducible rfl)
          try simp only [Act.put, List.setIfInBounds_toArray, List.set_cons_zero, List.set_cons_succ]
          refine wpAnyH_ready (rs := [1, 8]) (by kernel_rfl) (by simp) ?_
          refine (AllReadyH.cons (o := o7_31_1) rfl (fun K hK => ?_) (AllReadyH.cons (o := o7_31_8) rfl (fun K hK => ?_) AllReadyH.nil))
          · go_simp
            refine Calls.mono (HUA.out _ (bel_trans HB16.out hbd)) ?_
            rintro e u31_1w ⟨v_u31_1w, rfl, u31_2, u31_4⟩
            obtain ⟨a1_u31_1w, a2_u31_1w, a3_u31_1w, rfl⟩ := u31_4.form
            dsimp only
            have u31_3 := bel_trans hbd u31_2
            clear hHeld
            refine hK.out _ _ (by have h := HC.out _ u31_3; unfold E10 at h; exact h) (fun hHeld => ?_)
            clear hK K
            try simp only [Act.put, List.setIfInBounds_toArray, List.set_cons_zero, List.set_cons_succ]
            refine wpAnyH_ready (rs := [3, 8]) (by kernel_rfl) (by simp) ?_
            refine (AllReadyH.cons (o := o7_31_3) rfl (fun K hK => ?_) (AllReadyH.cons (o := o7_31_8) rfl (fun K hK => ?_) AllReadyH.nil))
            · go_simp
              refine Calls.mono (HUD.out _ (bel_trans HB16.out u31_3)) ?_
              rintro e u31_5w ⟨v_u31_5w, k_u31_5w, rfl, u31_6, u31_8⟩
              obtain ⟨⟨a1_u31_5w, a2_u31_5w, a3_u31_5w, rfl⟩, b1_u31_5w, b2_u31_5w, rfl⟩ := u31_8.lies.form
              dsimp only
              have u31_7 := bel_trans u31_3 u31_6
              have u31_9 := u31_4.still u31_6
              clear hHeld
              refine hK.out _ _ (by have h := HC.out _ u31_7; unfold E10 at h; exact h) (fun hHeld => ?_)
              clear hK K
              try simp only [Act.put, List.setIfInBounds_toArray, List.set_cons_zero, List.set_cons_succ]
              refine wpAnyH_ready (rs := [4, 8]) (by kernel_rfl) (by simp) ?_
              refine (AllReadyH.cons (o := o7_31_4) rfl (fun K hK => ?_) (AllReadyH.cons (o := o7_31_8) rfl (fun K hK => ?_) AllReadyH.nil))
              · go_simp
                refine Calls.mono (HIM.out _ _ _ _ _ _ _ _ u31_9 u31_8) ?_
                rintro e u31_10w ⟨v_u31_10w, rfl, u31_11, u31_13⟩
                obtain ⟨a1_u31_10w, a2_u31_10w, a3_u31_10w, rfl⟩ := u31_13.form
                dsimp only
                have u31_12 := bel_trans u31_7 u31_11
                clear hHeld
                refine hK.out _ _ (by have h := HC.out _ u31_12; unfold E10 at h; exact h) (fun hHeld => ?_)
                clear hK K
                try simp only [Act.put, List.setIfInBounds_toArray, List.set_cons_zero, List.set_cons_succ]
                refine wpAnyH_take (i := 5) (oi := o7_31_5) (v := ?v17) rfl (by kernel_rfl) (by kernel_rfl) (by kernel_rfl) (fun _ _ _ h => h) (Or.inl ⟨by rfl, ?h17⟩) hHeld ?r17
                case h17 => (intro w hSw; (try dsimp only at hSw); go_simp; try with_reducible rfl)
                try simp only [Act.put, List.setIfInBounds_toArray, List.set_cons_zero, List.set_cons_succ]
                refine wpAnyH_take (i := 6) (oi := o7_31_6) (v := ?v18) rfl (by kernel_rfl) (by kernel_rfl) (by kernel_rfl) (fun _ _ _ h => h) (Or.inl ⟨by rfl, ?h18⟩) hHeld ?r18
                case h18 => (intro w hSw; (try dsimp only at hSw); go_simp; try with_reducible rfl)
                try simp only [Act.put, List.setIfInBounds_toArray, List.set_cons_zero, List.set_cons_succ]
                refine wpAnyH_take (i := 7) (oi := o7_31_7) (v := ?v19) rfl (by kernel_rfl) (by kernel_rfl) (by kernel_rfl) (fun _ _ _ h => h) (Or.inl ⟨by rfl, ?h19⟩) hHeld ?r19
                case h19 => (intro w hSw; (try dsimp only at hSw); go_simp; try with_reducible rfl)
                try simp only [Act.put, List.setIfInBounds_toArray, List.set_cons_zero, List.set_cons_succ]
                refine wpAnyH_ready (rs := [8]) (by kernel_rfl) (by simp) ?_
                refine (AllReadyH.cons (o := o7_31_8) rfl (fun K hK => ?_) AllReadyH.nil)
                go_simp
                clear hHeld
                refine hK.out _ _ (by have h := HC.out _ (bel_trans u31_12 (bel_alloc _ (.cells #[.string ⟨#[]⟩, .string ⟨#[]⟩, .bool false, .slice none 0 0] 51))); unfold E10 at h; exact h) (fun hHeld => ?_)
                clear hK K
                try simp only [Act.put, List.setIfInBounds_toArray, List.set_cons_zero, List.set_cons_succ]
                have hFe : Below w16.heap.size w16 (u31_10w.alloc (.cells #[.string mn, .string mx, .bool mf, .slice a1_u31_10w a2_u31_10w a3_u31_10w] 51)) := bel_trans u31_12 (bel_alloc _ _)
                have hXe := Box.new u31_10w 51 [.string mn, .string mx, .bool mf, .slice a1_u31_10w a2_u31_10w a3_u31_10w]
                have hLe : Lies (u31_10w.alloc (.cells #[.string mn, .string mx, .bool mf, .slice a1_u31_10w a2_u31_10w a3_u31_10w] 51)) (fun _ => True) M (.slice a1_u31_10w a2_u31_10w a3_u31_10w) := (liesAny u31_13.lies).still (bel_alloc _ _)
                refine wpAnyH_ready (rs := [9]) (by kernel_rfl) (by simp) ?_
                refine (AllReadyH.cons (o := o7_31_9) rfl (fun K hK => ?_) AllReadyH.nil)
                go_simp
                clear hHeld
                refine hK.out _ _ (by have h := HC.out _ hFe; unfold E10 at h; exact h) (fun hHeld => ?_)
                clear hK K
                try simp only [Act.put, List.setIfInBounds_toArray, List.set_cons_zero, List.set_cons_succ]
                refine wpAnyH_ready (rs := [10]) (by kernel_rfl) (by simp) ?_
                refine (AllReadyH.cons (o := o7_31_10) rfl (fun K hK => ?_) AllReadyH.nil)
                go_simp
                clear hHeld
                refine hK.out _ _ (by have h := HC.out _ hFe; unfold E10 at h; exact h) (fun hHeld => ?_)
                clear hK K
                try simp only [Act.put, List.setIfInBounds_toArray, List.set_cons_zero, List.set_cons_succ]
                refine wpAnyH_done (by kernel_rfl) ?_ _
                (try refine NoPanic.normal ?_)
                go_wp2_with fail
                go_meet
                exact ⟨_, _, _, _, rfl, rfl, hFe, hXe, hLe⟩
              · go_simp
                have u31_14 : Below w16.heap.size w16 (u31_5w.alloc (.cells #[.string ⟨#[]⟩, .string ⟨#[]⟩, .bool false, .slice none 0 0] 51)) := bel_trans u31_7 (bel_alloc _ _)
                clear hHeld
                refine hK.out _ _ (by have h := HC.out _ u31_14; unfold E10 at h; exact h) (fun hHeld => ?_)
                clear hK K
                try simp only [Act.put, List.setIfInBounds_toArray, List.set_cons_zero, List.set_cons_succ]
                have u31_15 := Box.new u31_5w 51 [.string ⟨#[]⟩, .string ⟨#[]⟩, .bool false, .slice none 0 0]
                have hgw : w16.heap.size ≤ u31_5w.heap.size := u31_7.size
                have u31_16 := u31_9.still (bel_alloc _ (.cells #[.string ⟨#[]⟩, .string ⟨#[]⟩, .bool false, .slice none 0 0] 51))
                have u31_17 := u31_8.still (bel_alloc _ (.cells #[.string ⟨#[]⟩, .string ⟨#[]⟩, .bool false, .slice none 0 0] 51))
                refine wpAnyH_ready (rs := [4]) (by kernel_rfl) (by simp) ?_
                refine (AllReadyH.cons (o := o7_31_4) rfl (fun K hK => ?_) AllReadyH.nil)
                go_simp
                refine Calls.mono (HIM.out _ _ _ _ _ _ _ _ u31_16 u31_17) ?_
                rintro e u31_18w ⟨v_u31_18w, rfl, u31_19, u31_21⟩
                obtain ⟨a1_u31_18w, a2_u31_18w, a3_u31_18w, rfl⟩ := u31_21.form
                have u31_22 := u31_15.lt
                dsimp only
                have u31_20 := bel_trans u31_14 u31_19
                have u31_23 := u31_15.still u31_19
                clear hHeld
                refine hK.out _ _ (by have h := HC.out _ u31_20; unfold E10 at h; exact h) (fun hHeld => ?_)
                clear hK K
                try simp only [Act.put, List.setIfInBounds_toArray, List.set_cons_zero, List.set_cons_succ]
                refine wpAnyH_take (i := 5) (oi := o7_31_5) (v := ?v20) rfl (by kernel_rfl) (by kernel_rfl) (by kernel_rfl) (fun _ _ _ h => h) (Or.inl ⟨by rfl, ?h20⟩) hHeld ?r20
                case h20 => (intro w hSw; (try dsimp only at hSw); go_simp; try with_reducible rfl)
                try simp only [Act.put, List.setIfInBounds_toArray, List.set_cons_zero, List.set_cons_succ]
                refine wpAnyH_take (i := 6) (oi := o7_31_6) (v := ?v21) rfl (by kernel_rfl) (by kernel_rfl) (by kernel_rfl) (fun _ _ _ h => h) (Or.inl ⟨by rfl, ?h21⟩) hHeld ?r21
                case h21 => (intro w hSw; (try dsimp only at hSw); go_simp; try with_reducible rfl)
                try simp only [Act.put, List.setIfInBounds_toArray, List.set_cons_zero, List.set_cons_succ]
                refine wpAnyH_take (i := 7) (oi := o7_31_7) (v := ?v22) rfl (by kernel_rfl) (by kernel_rfl) (by kernel_rfl) (fun _ _ _ h => h) (Or.inl ⟨by rfl, ?h22⟩) hHeld ?r22
                case h22 => (intro w hSw; (try dsimp only at hSw); go_simp; try with_reducible rfl)
                try simp only [Act.put, List.setIfInBounds_toArray, List.set_cons_zero, List.set_cons_succ]
                have z0 : u31_18w.cell? ⟨u31_5w.heap.size, 0, none⟩ = some (.string ⟨#[]⟩) := u31_23.cell 0 (by simp)
                have z1 : u31_18w.cell? ⟨u31_5w.heap.size, 1, none⟩ = some (.string ⟨#[]⟩) := u31_23.cell 1 (by simp)
                have z2 : u31_18w.cell? ⟨u31_5w.heap.size, 2, none⟩ = some (.bool false) := u31_23.cell 2 (by simp)
                have z3 : u31_18w.cell? ⟨u31_5w.heap.size, 3, none⟩ = some (.slice none 0 0) := u31_23.cell 3 (by simp)
                have y0 := u31_23.frozen 0
                have y1 := u31_23.frozen 1
                have y2 := u31_23.frozen 2
                have y3 := u31_23.frozen 3
                have hFe : Below w16.heap.size w16 ((((u31_18w.setCell ⟨u31_5w.heap.size, 0, none⟩ (.string mn)).setCell ⟨u31_5w.heap.size, 1, none⟩ (.string mx)).setCell ⟨u31_5w.heap.size, 2, none⟩ (.bool mf)).setCell ⟨u31_5w.heap.size, 3, none⟩ (.slice a1_u31_18w a2_u31_18w a3_u31_18w)) := (((u31_20.setCell (p := ⟨u31_5w.heap.size, 0, none⟩) (by show _ ≤ _; omega) _).setCell (p := ⟨u31_5w.heap.size, 1, none⟩) (by show _ ≤ _; omega) _).setCell (p := ⟨u31_5w.heap.size, 2, none⟩) (by show _ ≤ _; omega) _).setCell (p := ⟨u31_5w.heap.size, 3, none⟩) (by show _ ≤ _; omega) _
                have hXe : Box ((((u31_18w.setCell ⟨u31_5w.heap.size, 0, none⟩ (.string mn)).setCell ⟨u31_5w.heap.size, 1, none⟩ (.string mx)).setCell ⟨u31_5w.heap.size, 2, none⟩ (.bool mf)).setCell ⟨u31_5w.heap.size, 3, none⟩ (.slice a1_u31_18w a2_u31_18w a3_u31_18w)) (u31_5w.heap.size) 51 [.string mn, .string mx, .bool mf, .slice a1_u31_18w a2_u31_18w a3_u31_18w] := (((u31_23.set 0 _).set 1 _).set 2 _).set 3 _
                have hLe : Lies ((((u31_18w.setCell ⟨u31_5w.heap.size, 0, none⟩ (.string mn)).setCell ⟨u31_5w.heap.size, 1, none⟩ (.string mx)).setCell ⟨u31_5w.heap.size, 2, none⟩ (.bool mf)).setCell ⟨u31_5w.heap.size, 3, none⟩ (.slice a1_u31_18w a2_u31_18w a3_u31_18w)) (fun _ => True) M (.slice a1_u31_18w a2_u31_18w a3_u31_18w) := liesAny ((((u31_21.past (.inl u31_22)).past (.inl u31_22)).past (.inl u31_22)).past (.inl u31_22)).lies
                refine wpAnyH_ready (rs := [9]) (by kernel_rfl) (by simp) ?_
                refine (AllReadyH.cons (o := o7_31_9) rfl (fun K hK => ?_) AllReadyH.nil)
                go_simp
                clear hHeld
                refine hK.out _ _ (by have h := HC.out _ hFe; unfold E10 at h; exact h) (fun hHeld => ?_)
                clear hK K
                try simp only [Act.put, List.setIfInBounds_toArray, List.set_cons_zero, List.set_cons_succ]
                refine wpAnyH_ready (rs := [10]) (by kernel_rfl) (by simp) ?_
                refine (AllReadyH.cons (o := o7_31_10) rfl (fun K hK => ?_) AllReadyH.nil)
                go_simp
                clear hHeld
                refine hK.out _ _ (by have h := HC.out _ hFe; unfold E10 at h; exact h) (fun hHeld => ?_)
                clear hK K
                try simp only [Act.put, List.setIfInBounds_toArray, List.set_cons_zero, List.set_cons_succ]
                refine wpAnyH_done (by kernel_rfl) ?_ _
                (try refine NoPanic.normal ?_)
                go_wp2_with fail
                go_meet
                exact ⟨_, _, _, _, rfl, rfl, hFe, hXe, hLe⟩
            · go_simp
              have u31_24 : Below w16.heap.size w16 (u31_1w.alloc (.cells #[.string ⟨#[]⟩, .string ⟨#[]⟩, .bool false, .slice none 0 0] 51)) := bel_trans u31_3 (bel_alloc _ _)
              clear hHeld
              refine hK.out _ _ (by have h := HC.out _ u31_24; unfold E10 at h; exact h) (fun hHeld => ?_)
              clear hK K
              try simp only [Act.put, List.setIfInBounds_toArray, List.set_cons_zero, List.set_cons_succ]
              have u31_25 := Box.new u31_1w 51 [.string ⟨#[]⟩, .string ⟨#[]⟩, .bool false, .slice none 0 0]
              have hgw : w16.heap.size ≤ u31_1w.heap.size := u31_3.size
              have u31_26 := u31_4.still (bel_alloc _ (.cells #[.string ⟨#[]⟩, .string ⟨#[]⟩, .bool false, .slice none 0 0] 51))
              refine wpAnyH_ready (rs := [3]) (by kernel_rfl) (by simp) ?_
              refine (AllReadyH.cons (o := o7_31_3) rfl (fun K hK => ?_) AllReadyH.nil)
              go_simp
              refine Calls.mono (HUD.out _ (bel_trans HB16.out u31_24)) ?_
              rintro e u31_27w ⟨v_u31_27w, k_u31_27w, rfl, u31_28, u31_30⟩
              obtain ⟨⟨a1_u31_27w, a2_u31_27w, a3_u31_27w, rfl⟩, b1_u31_27w, b2_u31_27w, rfl⟩ := u31_30.lies.form
              dsimp only
              have u31_29 := bel_trans u31_24 u31_28
              have u31_31 := u31_26.still u31_28
              have u31_32 := u31_25.still u31_28
              clear hHeld
              refine hK.out _ _ (by have h := HC.out _ u31_29; unfold E10 at h; exact h) (fun hHeld => ?_)
              clear hK K
              try simp only [Act.put, List.setIfInBounds_toArray, List.set_cons_zero, List.set_cons_succ]
              refine wpAnyH_ready (rs := [4]) (by kernel_rfl) (by simp) ?_
              refine (AllReadyH.cons (o := o7_31_4) rfl (fun K hK => ?_) AllReadyH.nil)
              go_simp
              refine Calls.mono (HIM.out _ _ _ _ _ _ _ _ u31_31 u31_30) ?_
              rintro e u31_33w ⟨v_u31_33w, rfl, u31_34, u31_36⟩
              obtain ⟨a1_u31_33w, a2_u31_33w, a3_u31_33w, rfl⟩ := u31_36.form
              have u31_37 := u31_32.lt
              dsimp only
              have u31_35 := bel_trans u31_29 u31_34
              have u31_38 := u31_32.still u31_34
              clear hHeld
              refine hK.out _ _ (by have h := HC.out _ u31_35; unfold E10 at h; exact h) (fun hHeld => ?_)
              clear hK K
              try simp only [Act.put, List.setIfInBounds_toArray, List.set_cons_zero, List.set_cons_succ]
              refine wpAnyH_take (i := 5) (oi := o7_31_5) (v := ?v23) rfl (by kernel_rfl) (by kernel_rfl) (by kernel_rfl) (fun _ _ _ h => h) (Or.inl ⟨by rfl, ?h23⟩) hHeld ?r23
              case h23 => (intro w hSw; (try dsimp only at hSw); go_simp; try with_reducible rfl)
              try simp only [Act.put, List.setIfInBounds_toArray, List.set_cons_zero, List.set_cons_succ]
              refine wpAnyH_take (i := 6) (oi := o7_31_6) (v := ?v24) rfl (by kernel_rfl) (by kernel_rfl) (by kernel_rfl) (fun _ _ _ h => h) (Or.inl ⟨by rfl, ?h24⟩) hHeld ?r24
              case h24 => (intro w hSw; (try dsimp only at hSw); go_simp; try with_reducible rfl)
              try simp only [Act.put, List.setIfInBounds_toArray, List.set_cons_zero, List.set_cons_succ]
              refine wpAnyH_take (i := 7) (oi := o7_31_7) (v := ?v25) rfl (by kernel_rfl) (by kernel_rfl) (by kernel_rfl) (fun _ _ _ h => h) (Or.inl ⟨by rfl, ?h25⟩) hHeld ?r25
              case h25 => (intro w hSw; (try dsimp only at hSw); go_simp; try with_reducible rfl)
              try simp only [Act.put, List.setIfInBounds_toArray, List.set_cons_zero, List.set_cons_succ]
              have z0 : u31_33w.cell? ⟨u31_1w.heap.size, 0, none⟩ = some (.string ⟨#[]⟩) := u31_38.cell 0 (by simp)
              have z1 : u31_33w.cell? ⟨u31_1w.heap.size, 1, none⟩ = some (.string ⟨#[]⟩) := u31_38.cell 1 (by simp)
              have z2 : u31_33w.cell? ⟨u31_1w.heap.size, 2, none⟩ = some (.bool false) := u31_38.cell 2 (by simp)
              have z3 : u31_33w.cell? ⟨u31_1w.heap.size, 3, none⟩ = some (.slice none 0 0) := u31_38.cell 3 (by simp)
              have y0 := u31_38.frozen 0
              have y1 := u31_38.frozen 1
              have y2 := u31_38.frozen 2
              have y3 := u31_38.frozen 3
              have hFe : Below w16.heap.size w16 ((((u31_33w.setCell ⟨u31_1w.heap.size, 0, none⟩ (.string mn)).setCell ⟨u31_1w.heap.size, 1, none⟩ (.string mx)).setCell ⟨u31_1w.heap.size, 2, none⟩ (.bool mf)).setCell ⟨u31_1w.heap.size, 3, none⟩ (.slice a1_u31_33w a2_u31_33w a3_u31_33w)) := (((u31_35.setCell (p := ⟨u31_1w.heap.size, 0, none⟩) (by show _ ≤ _; omega) _).setCell (p := ⟨u31_1w.heap.size, 1, none⟩) (by show _ ≤ _; omega) _).setCell (p := ⟨u31_1w.heap.size, 2, none⟩) (by show _ ≤ _; omega) _).setCell (p := ⟨u31_1w.heap.size, 3, none⟩) (by show _ ≤ _; omega) _
              have hXe : Box ((((u31_33w.setCell ⟨u31_1w.heap.size, 0, none⟩ (.string mn)).setCell ⟨u31_1w.heap.size, 1, none⟩ (.string mx)).setCell ⟨u31_1w.heap.size, 2, none⟩ (.bool mf)).setCell ⟨u31_1w.heap.size, 3, none⟩ (.slice a1_u31_33w a2_u31_33w a3_u31_33w)) (u31_1w.heap.size) 51 [.string mn, .string mx, .bool mf, .slice a1_u31_33w a2_u31_33w a3_u31_33w] := (((u31_38.set 0 _).set 1 _).set 2 _).set 3 _
              have hLe : Lies ((((u31_33w.setCell ⟨u31_1w.heap.size, 0, none⟩ (.string mn)).setCell ⟨u31_1w.heap.size, 1, none⟩ (.string mx)).setCell ⟨u31_1w.heap.size, 2, none⟩ (.bool mf)).setCell ⟨u31_1w.heap.size, 3, none⟩ (.slice a1_u31_33w a2_u31_33w a3_u31_33w)) (fun _ => True) M (.slice a1_u31_33w a2_u31_33w a3_u31_33w) := liesAny ((((u31_36.past (.inl u31_37)).past (.inl u31_37)).past (.inl u31_37)).past (.inl u31_37)).lies
              refine wpAnyH_ready (rs := [9]) (by kernel_rfl) (by simp) ?_
              refine (AllReadyH.cons (o := o7_31_9) rfl (fun K hK => ?_) AllReadyH.nil)
              go_simp
              clear hHeld
              refine hK.out _ _ (by have h := HC.out _ hFe; unfold E10 at h; exact h) (fun hHeld => ?_)
              clear hK K
              try simp only [Act.put, List.setIfInBounds_toArray, List.set_cons_zero, List.set_cons_succ]
              refine wpAnyH_ready (rs := [10]) (by kernel_rfl) (by simp) ?_
              refine (AllReadyH.cons (o := o7_31_10) rfl (fun K hK => ?_) AllReadyH.nil)
              go_simp
              clear hHeld
              refine hK.out _ _ (by have h := HC.out _ hFe; unfold E10 at h; exact h) (fun hHeld => ?_)
              clear hK K
              try simp only [Act.put, List.setIfInBounds_toArray, List.set_cons_zero, List.set_cons_succ]
              refine wpAnyH_done (by kernel_rfl) ?_ _
              (try refine NoPanic.normal ?_)
              go_wp2_with fail
              go_meet
              exact ⟨_, _, _, _, rfl, rfl, hFe, hXe, hLe⟩
          · go_simp
            clear hHeld
            refine hK.out _ _ (by have h := HC.out _ (by first | exact hBA | exact hBA2); unfold E10 at h; exact h) (fun hHeld => ?_)
            clear hK K
            try simp only [Act.put, List.setIfInBounds_toArray, List.set_cons_zero, List.set_cons_succ]
            have u31_39 : Box (w16.drew.alloc (.cells #[.string ⟨#[]⟩, .string ⟨#[]⟩, .bool false, .slice none 0 0] 51)) w16.heap.size 51 [.string ⟨#[]⟩, .string ⟨#[]⟩, .bool false, .slice none 0 0] := Box.new w16.drew 51 _
            have hgw : w16.heap.size ≤ w16.heap.size := Nat.le_refl _
            refine wpAnyH_ready (rs := [1]) (by kernel_rfl) (by simp) ?_
            refine (AllReadyH.cons (o := o7_31_1) rfl (fun K hK => ?_) AllReadyH.nil)
            go_simp
            refine Calls.mono (HUA.out _ (bel_trans HB16.out hBA)) ?_
            rintro e u31_40w ⟨v_u31_40w, rfl, u31_41, u31_43⟩
            obtain ⟨a1_u31_40w, a2_u31_40w, a3_u31_40w, rfl⟩ := u31_43.form
            dsimp only
            have u31_42 := bel_trans hBA u31_41
            have u31_44 := u31_39.still u31_41
            clear hHeld
            refine hK.out _ _ (by have h := HC.out _ u31_42; unfold E10 at h; exact h) (fun hHeld => ?_)
            clear hK K
            try simp only [Act.put, List.setIfInBounds_toArray, List.set_cons_zero, List.set_cons_succ]
            refine wpAnyH_ready (rs := [3]) (by kernel_rfl) (by simp) ?_
            refine (AllReadyH.cons (o := o7_31_3) rfl (fun K hK => ?_) AllReadyH.nil)
            go_simp
            refine Calls.mono (HUD.out _ (bel_trans HB16.out u31_42)) ?_
            rintro e u31_45w ⟨v_u31_45w, k_u31_45w, rfl, u31_46, u31_48⟩
            obtain ⟨⟨a1_u31_45w, a2_u31_45w, a3_u31_45w, rfl⟩, b1_u31_45w, b2_u31_45w, rfl⟩ := u31_48.lies.form
            dsimp only
            have u31_47 := bel_trans u31_42 u31_46
            have u31_49 := u31_43.still u31_46
            have u31_50 := u31_44.still u31_46
            clear hHeld
            refine hK.out _ _ (by have h := HC.out _ u31_47; unfold E10 at h; exact h) (fun hHeld => ?_)
            clear hK K
            try simp only [Act.put, List.setIfInBounds_toArray, List.set_cons_zero, List.set_cons_succ]
            refine wpAnyH_ready (rs := [4]) (by kernel_rfl) (by simp) ?_
            refine (AllReadyH.cons (o := o7_31_4) rfl (fun K hK => ?_) AllReadyH.nil)
            go_simp
            refine Calls.mono (HIM.out _ _ _ _ _ _ _ _ u31_49 u31_48) ?_
            rintro e u31_51w ⟨v_u31_51w, rfl, u31_52, u31_54⟩
            obtain ⟨a1_u31_51w, a2_u31_51w, a3_u31_51w, rfl⟩ := u31_54.form
            have u31_55 := u31_50.lt
            dsimp only
            have u31_53 := bel_trans u31_47 u31_52
            have u31_56 := u31_50.still u31_52
            clear hHeld
            refine hK.out _ _ (by have h := HC.out _ u31_53; unfold E10 at h; exact h) (fun hHeld => ?_)
            clear hK K
            try simp only [Act.put, List.setIfInBounds_toArray, List.set_cons_zero, List.set_cons_succ]
            refine wpAnyH_take (i := 5) (oi := o7_31_5) (v := ?v26) rfl (by kernel_rfl) (by kernel_rfl) (by kernel_rfl) (fun _ _ _ h => h) (Or.inl ⟨by rfl, ?h26⟩) hHeld ?r26
            case h26 => (intro w hSw; (try dsimp only at hSw); go_simp; try with_reducible rfl)
            try simp only [Act.put, List.setIfInBounds_toArray, List.set_cons_zero, List.set_cons_succ]
            refine wpAnyH_take (i := 6) (oi := o7_31_6) (v := ?v27) rfl (by kernel_rfl) (by kernel_rfl) (by kernel_rfl) (fun _ _ _ h => h) (Or.inl ⟨by rfl, ?h27⟩) hHeld ?r27
            case h27 => (intro w hSw; (try dsimp only at hSw); go_simp; try with_reducible rfl)
            try simp only [Act.put, List.setIfInBounds_toArray, List.set_cons_zero, List.set_cons_succ]
            refine wpAnyH_take (i := 7) (oi := o7_31_7) (v := ?v28) rfl (by kernel_rfl) (by kernel_rfl) (by kernel_rfl) (fun _ _ _ h => h) (Or.inl ⟨by rfl, ?h28⟩) hHeld ?r28
            case h28 => (intro w hSw; (try dsimp only at hSw); go_simp; try with_reducible rfl)
            try simp only [Act.put, List.setIfInBounds_toArray, List.set_cons_zero, List.set_cons_succ]
            have z0 : u31_51w.cell? ⟨w16.heap.size, 0, none⟩ = some (.string ⟨#[]⟩) := u31_56.cell 0 (by simp)
            have z1 : u31_51w.cell? ⟨w16.heap.size, 1, none⟩ = some (.string ⟨#[]⟩) := u31_56.cell 1 (by simp)
            have z2 : u31_51w.cell? ⟨w16.heap.size, 2, none⟩ = some (.bool false) := u31_56.cell 2 (by simp)
            have z3 : u31_51w.cell? ⟨w16.heap.size, 3, none⟩ = some (.slice none 0 0) := u31_56.cell 3 (by simp)
            have y0 := u31_56.frozen 0
            have y1 := u31_56.frozen 1
            have y2 := u31_56.frozen 2
            have y3 := u31_56.frozen 3
            have hFe : Below w16.heap.size w16 ((((u31_51w.setCell ⟨w16.heap.size, 0, none⟩ (.string mn)).setCell ⟨w16.heap.size, 1, none⟩ (.string mx)).setCell ⟨w16.heap.size, 2, none⟩ (.bool mf)).setCell ⟨w16.heap.size, 3, none⟩ (.slice a1_u31_51w a2_u31_51w a3_u31_51w)) := (((u31_53.setCell (p := ⟨w16.heap.size, 0, none⟩) (by show _ ≤ _; omega) _).setCell (p := ⟨w16.heap.size, 1, none⟩) (by show _ ≤ _; omega) _).setCell (p := ⟨w16.heap.size, 2, none⟩) (by show _ ≤ _; omega) _).setCell (p := ⟨w16.heap.size, 3, none⟩) (by show _ ≤ _; omega) _
            have hXe : Box ((((u31_51w.setCell ⟨w16.heap.size, 0, none⟩ (.string mn)).setCell ⟨w16.heap.size, 1, none⟩ (.string mx)).setCell ⟨w16.heap.size, 2, none⟩ (.bool mf)).setCell ⟨w16.heap.size, 3, none⟩ (.slice a1_u31_51w a2_u31_51w a3_u31_51w)) (w16.heap.size) 51 [.string mn, .string mx, .bool mf, .slice a1_u31_51w a2_u31_51w a3_u31_51w] := (((u31_56.set 0 _).set 1 _).set 2 _).set 3 _
            have hLe : Lies ((((u31_51w.setCell ⟨w16.heap.size, 0, none⟩ (.string mn)).setCell ⟨w16.heap.size, 1, none⟩ (.string mx)).setCell ⟨w16.heap.size, 2, none⟩ (.bool mf)).setCell ⟨w16.heap.size, 3, none⟩ (.slice a1_u31_51w a2_u31_51w a3_u31_51w)) (fun _ => True) M (.slice a1_u31_51w a2_u31_51w a3_u31_51w) := liesAny ((((u31_54.past (.inl u31_55)).past (.inl u31_55)).past (.inl u31_55)).past (.inl u31_55)).lies
            refine wpAnyH_ready (rs := [9]) (by kernel_rfl) (by simp) ?_
            refine (AllReadyH.cons (o := o7_31_9) rfl (fun K hK => ?_) AllReadyH.nil)
            go_simp
            clear hHeld
            refine hK.out _ _ (by have h := HC.out _ hFe; unfold E10 at h; exact h) (fun hHeld => ?_)
            clear hK K
            try simp only [Act.put, List.setIfInBounds_toArray, List.set_cons_zero, List.set_cons_succ]
            refine wpAnyH_ready (rs := [10]) (by kernel_rfl) (by simp) ?_
            refine (AllReadyH.cons (o := o7_31_10) rfl (fun K hK => ?_) AllReadyH.nil)
            go_simp
            clear hHeld
            refine hK.out _ _ (by have h := HC.out _ hFe; unfold E10 at h; exact h) (fun hHeld => ?_)
            clear hK K
            try simp only [Act.put, List.setIfInBounds_toArray, List.set_cons_zero, List.set_cons_succ]
            refine wpAnyH_done (by kernel_rfl) ?_ _
            (try refine NoPanic.normal ?_)
            go_wp2_with fail
            go_meet
            exact ⟨_, _, _, _, rfl, rfl, hFe, hXe, hLe⟩
        case rest =>
          obtain ⟨z1, ha', hl', hp', rfl, rfl, HXF⟩ := hcut
          obtain ⟨w17, rfl⟩ : ∃ w17, w17 = wc := ⟨_, rfl⟩
          have HL18 := (show Hid (LQc wz (mk M 1) (p4 + 1) p5 p5 (.slice ga gl gp) [.string mn, .string mx, .bool mf, .slice ga gl gp] w17) from HL17.out.still HXF.out.1)
          clear HL17 HC HB16 HIM
          have t0 : w17.cell? ⟨z1, 0, none⟩ = some (.string mn) := HXF.out.2.1.cell 0 (by simp)
          have t1 : w17.cell? ⟨z1, 1, none⟩ = some (.string mx) := HXF.out.2.1.cell 1 (by simp)
          have t2 : w17.cell? ⟨z1, 2, none⟩ = some (.bool mf) := HXF.out.2.1.cell 2 (by simp)
          have t3 : w17.cell? ⟨z1, 3, none⟩ = some (.slice ha' hl' hp') := HXF.out.2.1.cell 3 (by simp)
          have s0 : w17.cell? ⟨z0, 0, none⟩ = some (.string mn) := (HA.out _ HL18.out.bel).2.2.2.1.cell 0 (by simp)
          have s1 : w17.cell? ⟨z0, 1, none⟩ = some (.string mx) := (HA.out _ HL18.out.bel).2.2.2.1.cell 1 (by simp)
          have s2 : w17.cell? ⟨z0, 2, none⟩ = some (.bool mf) := (HA.out _ HL18.out.bel).2.2.2.1.cell 2 (by simp)
          have s3 : w17.cell? ⟨z0, 3, none⟩ = some (.slice sa sl sp) := (HA.out _ HL18.out.bel).2.2.2.1.cell 3 (by simp)
          have C20 := (show Hid _ from HEM.out w17 _ _ HXF.out.2.2 (HA.out _ HL18.out.bel).2.2.2.2)
          clear HXF
          go_wp2_with fail
          refine Calls.mono C20.out ?_
          rintro e w20 ⟨rfl, hb20⟩
          have HL21 := (show Hid (LQc wz (mk M 1) (p4 + 1) p5 p5 (.slice ga gl gp) [.string mn, .string mx, .bool mf, .slice ga gl gp] w20) from HL18.out.still hb20)
          clear hb20 HL18 C20 t0 t1 t2 t3 s0 s1 s2 s3
          have t0 : w20.cell? ⟨p5, 0, none⟩ = some (.string mn) := HL21.out.bg.cell 0 (by simp)
          have t1 : w20.cell? ⟨p5, 1, none⟩ = some (.string mx) := HL21.out.bg.cell 1 (by simp)
          have t2 : w20.cell? ⟨p5, 2, none⟩ = some (.bool mf) := HL21.out.bg.cell 2 (by simp)
          have t3 : w20.cell? ⟨p5, 3, none⟩ = some (.slice ga gl gp) := HL21.out.bg.cell 3 (by simp)
          have C21 := (show Hid _ from HHM.out w20 _ _ _ HL21.out.g)
          go_wp2_with fail
          refine Calls.mono C21.out ?_
          rintro e w21 ⟨rfl, hb21⟩
          have HE := (show Hid (Below w.heap.size w w21) from (HA.out _ (HL21.out.still hb21).bel).1)
          clear hb21 HL21 C21
          go_wp2_with fail
          go_ret
          exact ⟨rfl, HE.out⟩
end Go.Proofs.Ytblfeifedcddnaa
