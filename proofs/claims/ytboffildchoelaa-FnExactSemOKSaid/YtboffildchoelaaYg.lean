import Derived.Test.YtboffildchoelaaYf
import Derived.Test.YtboffildchoelaaXc
/-! The program: readRule. -/
namespace Go.Proofs.Ytboffildchoelaa
open Go.RowKit Go.Deep Go.Maps Go.WideMaps Go.ChangeMaps Go.Lib
set_option linter.unusedVariables false
set_option maxRecDepth 100000
set_option linter.unusedSimpArgs false

abbrev o41_0 : Oper := { dst := some 45, op := Go.Op.load 87 (Go.Operand.tmp 5), type := 87, pos := "l16_meanings.go:400", after := #[], guard := none }
abbrev o41_1 : Oper := { dst := some 46, op := Go.Op.fieldAddr 87 (Go.Operand.tmp 6) 0, type := 0, pos := "l16_meanings.go:400", after := #[], guard := none }
abbrev o41_2 : Oper := { dst := some 47, op := Go.Op.load 83 (Go.Operand.tmp 46), type := 83, pos := "l16_meanings.go:400", after := #[{ on := 1, ground := Go.Ground.data }], guard := none }
abbrev o41_3 : Oper := { dst := some 48, op := Go.Op.build 89 #[(0, Go.Operand.tmp 45), (1, Go.Operand.tmp 47)], type := 89, pos := "l16_meanings.go:400", after := #[{ on := 0, ground := Go.Ground.data }, { on := 2, ground := Go.Ground.data }], guard := none }
abbrev o41_4 : Oper := { dst := some 49, op := Go.Op.fieldAddr 112 (Go.Operand.tmp 4) 3, type := 0, pos := "l16_meanings.go:400", after := #[], guard := none }
abbrev o41_5 : Oper := { dst := some 50, op := Go.Op.load 4 (Go.Operand.tmp 49), type := 4, pos := "l16_meanings.go:400", after := #[{ on := 4, ground := Go.Ground.data }], guard := none }
abbrev o41_6 : Oper := { dst := some 51, op := Go.Op.unOp Go.UnOp.not 4 (Go.Operand.tmp 50), type := 4, pos := "l16_meanings.go:400", after := #[{ on := 5, ground := Go.Ground.data }], guard := none }
abbrev o41_7 : Oper := { dst := some 52, op := Go.Op.move (Go.Operand.tmp 51), type := 4, pos := "l16_meanings.go:400", after := #[{ on := 6, ground := Go.Ground.data }], guard := none }
abbrev o41_8 : Oper := { dst := some 53, op := Go.Op.load 87 (Go.Operand.tmp 5), type := 87, pos := "l16_meanings.go:400", after := #[{ on := 7, ground := Go.Ground.guard }], guard := some (7, true) }
abbrev o41_9 : Oper := { dst := some 54, op := Go.Op.call { callee := Go.Callee.value (Go.Operand.func 57), args := #[Go.Operand.tmp 53], argTypes := #[87] }, type := 4, pos := "l16_meanings.go:400", after := #[{ on := 8, ground := Go.Ground.data }, { on := 7, ground := Go.Ground.chain }, { on := 7, ground := Go.Ground.guard }], guard := some (7, true) }
abbrev o41_10 : Oper := { dst := some 55, op := Go.Op.pick (Go.Operand.tmp 52) (Go.Operand.tmp 54) (Go.Operand.const (Go.Value.bool false)), type := 4, pos := "l16_meanings.go:400", after := #[{ on := 7, ground := Go.Ground.data }, { on := 9, ground := Go.Ground.data }], guard := none }
abbrev o41_11 : Oper := { dst := some 56, op := Go.Op.move (Go.Operand.tmp 55), type := 4, pos := "l16_meanings.go:400", after := #[{ on := 10, ground := Go.Ground.data }, { on := 9, ground := Go.Ground.chain }], guard := none }
abbrev o41_12 : Oper := { dst := some 57, op := Go.Op.move (Go.Operand.tmp 7), type := 4, pos := "l16_meanings.go:400", after := #[{ on := 11, ground := Go.Ground.guard }], guard := some (11, true) }
abbrev o41_13 : Oper := { dst := some 58, op := Go.Op.pick (Go.Operand.tmp 56) (Go.Operand.tmp 57) (Go.Operand.const (Go.Value.bool false)), type := 4, pos := "l16_meanings.go:400", after := #[{ on := 11, ground := Go.Ground.data }, { on := 12, ground := Go.Ground.data }], guard := none }
abbrev o41_14 : Oper := { dst := some 59, op := Go.Op.move (Go.Operand.tmp 58), type := 4, pos := "l16_meanings.go:400", after := #[{ on := 13, ground := Go.Ground.data }, { on := 11, ground := Go.Ground.chain }], guard := none }
abbrev o41_15 : Oper := { dst := some 60, op := Go.Op.fieldAddr 87 (Go.Operand.tmp 6) 2, type := 0, pos := "l16_meanings.go:400", after := #[{ on := 14, ground := Go.Ground.guard }], guard := some (14, true) }
abbrev o41_16 : Oper := { dst := some 61, op := Go.Op.load 85 (Go.Operand.tmp 60), type := 85, pos := "l16_meanings.go:400", after := #[{ on := 15, ground := Go.Ground.data }, { on := 14, ground := Go.Ground.guard }], guard := some (14, true) }
abbrev o41_17 : Oper := { dst := some 62, op := Go.Op.call { callee := Go.Callee.builtin Go.Builtin.len, args := #[Go.Operand.tmp 61], argTypes := #[85] }, type := 3, pos := "l16_meanings.go:400", after := #[{ on := 16, ground := Go.Ground.data }, { on := 14, ground := Go.Ground.guard }], guard := some (14, true) }
abbrev o41_18 : Oper := { dst := some 63, op := Go.Op.binOp Go.BinOp.eql 3 (Go.Operand.tmp 62) (Go.Operand.const (Go.Value.int Go.IntKind.i64 0)) 3, type := 4, pos := "l16_meanings.go:400", after := #[{ on := 17, ground := Go.Ground.data }, { on := 14, ground := Go.Ground.guard }, { on := 20, ground := Go.Ground.gcOnly Go.Departure.lateStores }], guard := some (14, true) }
abbrev o41_19 : Oper := { dst := some 64, op := Go.Op.pick (Go.Operand.tmp 59) (Go.Operand.tmp 63) (Go.Operand.const (Go.Value.bool false)), type := 4, pos := "l16_meanings.go:400", after := #[{ on := 14, ground := Go.Ground.data }, { on := 18, ground := Go.Ground.data }, { on := 20, ground := Go.Ground.gcOnly Go.Departure.lateStores }], guard := none }
abbrev o41_20 : Oper := { dst := none, op := Go.Op.store 89 (Go.Operand.tmp 2) (Go.Operand.tmp 48), type := 0, pos := "l16_meanings.go:400", after := #[{ on := 3, ground := Go.Ground.data }, { on := 14, ground := Go.Ground.chain }, { on := 0, ground := Go.Ground.phase }, { on := 1, ground := Go.Ground.phase }, { on := 2, ground := Go.Ground.phase }, { on := 3, ground := Go.Ground.phase }, { on := 4, ground := Go.Ground.textOnly Go.Departure.lateStores }, { on := 5, ground := Go.Ground.textOnly Go.Departure.lateStores }, { on := 6, ground := Go.Ground.textOnly Go.Departure.lateStores }, { on := 7, ground := Go.Ground.textOnly Go.Departure.lateStores }, { on := 8, ground := Go.Ground.textOnly Go.Departure.lateStores }, { on := 9, ground := Go.Ground.textOnly Go.Departure.lateStoresUnsure }, { on := 10, ground := Go.Ground.textOnly Go.Departure.lateStores }, { on := 11, ground := Go.Ground.textOnly Go.Departure.lateStores }, { on := 12, ground := Go.Ground.textOnly Go.Departure.lateStores }, { on := 13, ground := Go.Ground.textOnly Go.Departure.lateStores }, { on := 14, ground := Go.Ground.textOnly Go.Departure.lateStores }, { on := 15, ground := Go.Ground.textOnly Go.Departure.lateStores }, { on := 16, ground := Go.Ground.textOnly Go.Departure.lateStores }, { on := 17, ground := Go.Ground.textOnly Go.Departure.lateStoresUnsure }, { on := 18, ground := Go.Ground.textOnly Go.Departure.lateStores }, { on := 19, ground := Go.Ground.textOnly Go.Departure.lateStores }], guard := none }
abbrev o41_21 : Oper := { dst := some 3, op := Go.Op.assign (Go.Operand.tmp 64), type := 4, pos := "l16_meanings.go:400", after := #[{ on := 19, ground := Go.Ground.data }, { on := 20, ground := Go.Ground.chain }, { on := 0, ground := Go.Ground.phase }, { on := 1, ground := Go.Ground.phase }, { on := 2, ground := Go.Ground.phase }, { on := 3, ground := Go.Ground.phase }, { on := 4, ground := Go.Ground.phase }, { on := 5, ground := Go.Ground.phase }, { on := 6, ground := Go.Ground.phase }, { on := 7, ground := Go.Ground.phase }, { on := 8, ground := Go.Ground.phase }, { on := 9, ground := Go.Ground.phase }, { on := 10, ground := Go.Ground.phase }, { on := 11, ground := Go.Ground.phase }, { on := 12, ground := Go.Ground.phase }, { on := 13, ground := Go.Ground.phase }, { on := 14, ground := Go.Ground.phase }, { on := 15, ground := Go.Ground.phase }, { on := 16, ground := Go.Ground.phase }, { on := 17, ground := Go.Ground.phase }, { on := 18, ground := Go.Ground.phase }, { on := 19, ground := Go.Ground.phase }, { on := 20, ground := Go.Ground.phase }], guard := none }
/-- What readRule leaves. -/
def RlA (T : Bool) (w : World) (e : Ending) (w' : World) : Prop :=
  ∃ (pa va ha pb : Option Addr) (vl vc hl hc : Nat) (R : Bool), e = .returned (.tuple #[.agg #[.pointer pa, .slice va vl vc, .slice ha hl hc, .pointer pb], .bool R]) ∧ Below w.heap.size w w' ∧ R = T
set_option maxHeartbeats 6400000 in
theorem rrul41 (r : Rw) (a1 a2 : Option Addr) (l1 p1 l2 p2 : Nat) (w : World) (hleft : Lies w (fun _ => True) r.left (.slice a1 l1 p1)) (hright : Lies w (fun _ => True) r.right (.slice a2 l2 p2)) (hx : r.name.size ≤ maxLen) :
    Calls Try.prog 41 #[.agg #[.string r.name, .string r.left.name, .string r.left.text, .bool r.left.leaf, .slice a1 l1 p1, .string r.right.name, .string r.right.text, .bool r.right.leaf, .slice a2 l2 p2]] w (RlA (r6B r) w) := by
  have hl0 : Lies w (fun q => q < w.heap.size) r.left (.slice a1 l1 p1) := (hleft.lt).mono (fun q hq => hq.2)
  have hr0 : Lies w (fun q => q < w.heap.size) r.right (.slice a2 l2 p2) := (hright.lt).mono (fun q hq => hq.2)
  have hz0 : ((w.alloc (.cells #[.string r.name, .string r.left.name, .string r.left.text, .bool r.left.leaf, .slice a1 l1 p1, .string r.right.name, .string r.right.text, .bool r.right.leaf, .slice a2 l2 p2] 44)).alloc (.cells #[.pointer none, .slice none 0 0, .slice none 0 0, .pointer none] 89)).heap.size = w.heap.size + 2 := by simp
  have bW : Below w.heap.size w ((w.alloc (.cells #[.string r.name, .string r.left.name, .string r.left.text, .bool r.left.leaf, .slice a1 l1 p1, .string r.right.name, .string r.right.text, .bool r.right.leaf, .slice a2 l2 p2] 44)).alloc (.cells #[.pointer none, .slice none 0 0, .slice none 0 0, .pointer none] 89)) := (bel_alloc _ _).alloc (by simp) _
  have HT := (show Hid (∀ w' : World, Below ((w.alloc (.cells #[.string r.name, .string r.left.name, .string r.left.text, .bool r.left.leaf, .slice a1 l1 p1, .string r.right.name, .string r.right.text, .bool r.right.leaf, .slice a2 l2 p2] 44)).alloc (.cells #[.pointer none, .slice none 0 0, .slice none 0 0, .pointer none] 89)).heap.size ((w.alloc (.cells #[.string r.name, .string r.left.name, .string r.left.text, .bool r.left.leaf, .slice a1 l1 p1, .string r.right.name, .string r.right.text, .bool r.right.leaf, .slice a2 l2 p2] 44)).alloc (.cells #[.pointer none, .slice none 0 0, .slice none 0 0, .pointer none] 89)) w' → Below w.heap.size w w' ∧ Box w' w.heap.size 44 [.string r.name, .string r.left.name, .string r.left.text, .bool r.left.leaf, .slice a1 l1 p1, .string r.right.name, .string r.right.text, .bool r.right.leaf, .slice a2 l2 p2] ∧ Box w' (w.heap.size + 1) 89 [.pointer none, .slice none 0 0, .slice none 0 0, .pointer none]) from fun w' hb => ⟨bW.trans (hb.mono (by omega)), ((Box.new w 44 _).still (bel_alloc _ _)).still hb, (by
    have h := (Box.new (w.alloc (.cells #[.string r.name, .string r.left.name, .string r.left.text, .bool r.left.leaf, .slice a1 l1 p1, .string r.right.name, .string r.right.text, .bool r.right.leaf, .slice a2 l2 p2] 44)) 89 [.pointer none, .slice none 0 0, .slice none 0 0, .pointer none]).still hb
    simpa using h)⟩)
  have HN := (show Hid (∀ wq : World, Calls Try.prog 53 #[.string r.name] wq fun e w' => e = .returned (.bool (nmB r.name)) ∧ w' = wq) from fun wq => iName _ hx wq)
  have HPW := (show Hid (∀ wq : World, Calls Try.prog 54 #[.string r.name] wq fun e w' => e = .returned (.bool (pwB r.name)) ∧ w' = wq) from fun wq => word111 _ wq)
  have HOL := (show Hid (∀ wq : World, Below w.heap.size w wq → Calls Try.prog 55 #[r.left.val (.slice a1 l1 p1)] wq fun e w' => e = .returned (.bool r.left.ok) ∧ Below wq.heap.size wq w') from fun wq hb => iOK_any r.left _ wq (hl0.still hb))
  have HOR := (show Hid (∀ wq : World, Below w.heap.size w wq → Calls Try.prog 55 #[r.right.val (.slice a2 l2 p2)] wq fun e w' => e = .returned (.bool r.right.ok) ∧ Below wq.heap.size wq w') from fun wq hb => iOK_any r.right _ wq (hr0.still hb))
  have few : ∀ t : Tr, t.ok = true → t.cnt ≤ 1000 ∧ t.deep ≤ 60 := fun t h => by
    unfold Tr.ok at h
    simp only [Bool.and_eq_true, decide_eq_true_eq] at h
    exact h.1
  have HC1 := (show Hid (r.left.ok = true → ∀ w2 : World, Below w.heap.size w w2 → Calls Try.prog 56 #[.pointer (some ⟨w2.heap.size + 1, 0, none⟩), r.left.val (.slice a1 l1 p1)] ((w2.alloc (.map #[] 0)).alloc (.cells #[.map (some w2.heap.size), .slice none 0 0, .slice none 0 0, .bool false] 112)) (PtA w2.heap.size (w2.heap.size + 1) w2.heap.size [] 0 false (.slice none 0 0) (.slice none 0 0) r.left ((w2.alloc (.map #[] 0)).alloc (.cells #[.map (some w2.heap.size), .slice none 0 0, .slice none 0 0, .bool false] 112)))) from fun hok w2 hb => by
    have hcn := few _ hok
    have b2 : Below w2.heap.size w2 ((w2.alloc (.map #[] 0)).alloc (.cells #[.map (some w2.heap.size), .slice none 0 0, .slice none 0 0, .bool false] 112)) := (bel_alloc _ _).alloc (by simp) _
    refine patt56 r.left (.slice a1 l1 p1) [] 0 false (.slice none 0 0) (.slice none 0 0) _ ⟨?_, ?_, ⟨[], fun x hx => (by cases hx), own_nil _ _ _ _⟩, ⟨[], own_nil _ _ _ _⟩, by omega, Nat.le_refl _, by omega, fun q hq => (by cases hq), fun q hq => (by cases hq)⟩ b2.size ((hl0.still (bel_trans hb b2)).mono (fun q hq => Nat.lt_of_lt_of_le hq hb.size)) (by simp; omega) (by omega) (by omega)
    · have h := Box.new (w2.alloc (.map #[] 0)) 112 [.map (some w2.heap.size), .slice none 0 0, .slice none 0 0, .bool false]
      simpa using h
    · exact (Mn.new w2 9).keep ((bel_alloc (w2.alloc (.map #[] 0)) _).block _ (by simp)))
  have HC2 := (show Hid (r.left.ok = true → r.right.ok = true → ∀ (w2 w5 : World) (uv1 uh1 : Value), Below w.heap.size w w2 → Below w2.heap.size w2 w5 → Rs w5 w2.heap.size (w2.heap.size + 1) w2.heap.size (pv r.left []) (0 + ph r.left) (false || pf r.left) uv1 uh1 → Calls Try.prog 56 #[.pointer (some ⟨w2.heap.size + 1, 0, none⟩), r.right.val (.slice a2 l2 p2)] w5 (PtA w2.heap.size (w2.heap.size + 1) w2.heap.size (pv r.left []) (0 + ph r.left) (false || pf r.left) uv1 uh1 r.right w5)) from fun hokl hok w2 w5 uv1 uh1 hb hb5 rs => by
    have hcn := few _ hok
    have hcl := few _ hokl
    have e1 := pv_few r.left []
    have e2 := ph_few r.left
    simp only [List.length_nil] at e1
    exact patt56 r.right (.slice a2 l2 p2) _ _ _ uv1 uh1 w5 rs hb5.size ((hr0.still (bel_trans hb hb5)).mono (fun q hq => Nat.lt_of_lt_of_le hq hb.size)) (by omega) (by omega) (by omega))
  have hmk := fun w => run_makeMap (P := Try.prog) 110 w
  have H0 := (show Hid (nmB r.name = false → r6B r = false) from rul0)
  have H1 := (show Hid (pwB r.name = true → r6B r = false) from rul1)
  have H4 := (show Hid (r.left.ok = false → r6B r = false) from fun h => rul4 (by unfold p6B; rw [h]; rfl))
  have H5 := (show Hid (r.right.ok = false → r6B r = false) from fun h => rul5 (by unfold p6B; rw [h]; rfl))
  have HY := (show Hid (nmB r.name = true → pwB r.name = false → r.left.ok = true → r.right.ok = true → r6B r = (!(false || pf r.left || pf r.right) && (plB r.left.name r.left.leaf && (decide ((pv r.left []).length = (pv r.right (pv r.left [])).length) && decide (0 + ph r.left + ph r.right = 0))))) from fun h1 h2 h3 h4 => (by show r6B r = _; rw [← r6_prog r h1 h2 h3 h4, Bool.false_or, Nat.zero_add]))
  have HKD := (show Hid ((kd r.left.name r.left.leaf == 0) = plB r.left.name r.left.leaf) from kd_pl _ _)
  have hk1 := pv_few r.left []
  have few1' := fun h => few r.left h
  have few2' := fun h => few r.right h
  simp only [List.length_nil] at hk1
  have hk2 := pv_few r.right (pv r.left [])
  have hh1 : 0 + ph r.left ≤ r.left.cnt := by have := ph_few r.left; omega
  have hh2 : 0 + ph r.left + ph r.right ≤ r.left.cnt + r.right.cnt := by have := ph_few r.left; have := ph_few r.right; omega
  unfold PtA at HC1 HC2
  clear hl0 hr0 hleft hright hx
  simp only [Tr.val] at HOL HOR
  unfold Tr.val at HC1 HC2
  generalize hKS1 : pv r.left [] = KS1 at *
  generalize hKS2 : pv r.right KS1 = KS2 at *
  generalize hH1 : 0 + ph r.left = H1 at *
  generalize hH2 : H1 + ph r.right = H2 at *
  generalize hFB1 : (false || pf r.left) = FB1 at *
  generalize hFB : (FB1 || pf r.right) = FB at *
  clear hKS1 hKS2 hH1 hH2 hFB1 hFB
  generalize r6B r = RB at *
  generalize nmB r.name = NB at *
  generalize pwB r.name = PW at *
  generalize hkd : kd r.left.name r.left.leaf = KD at *
  generalize hpl : plB r.left.name r.left.leaf = PL at *
  clear hkd hpl
  generalize kd r.right.name r.right.leaf = KD2 at *
  generalize r.name = x0 at *
  generalize r.left.name = n1 at *
  generalize r.left.text = x1 at *
  generalize r.left.leaf = f1 at *
  generalize r.right.name = n2 at *
  generalize r.right.text = x2 at *
  generalize r.right.leaf = f2 at *
  have HB0 := (show Hid _ from bW)
  clear bW few
  cases NB
  case false =>
    have HF := (show Hid (RB = false) from H0.out rfl)
    clear HC1 HC2 H0 H1 H4 H5 HY HKD hmk
    go_enter Try.func41, Try.ntmps41
    go_wp2_with fail
    refine Calls.mono (HN.out _) ?_
    rintro e wz ⟨rfl, rfl⟩
    go_wp2_with fail
    go_wp2_with fail
    refine bodyPost_ret (v := .tuple #[.agg #[.pointer none, .slice none 0 0, .slice none 0 0, .pointer none], .bool false]) (by simp [results, Try.results41, go_sem]) rfl ?_
    refine ⟨none, none, none, none, 0, 0, 0, 0, false, rfl, ?_, HF.out.symm⟩
    first | exact HB0.out | (iterate 4 (refine Below.setCell ?_ (by simp <;> omega) _); exact HB0.out)
  cases PW
  case true =>
    have HF := (show Hid (RB = false) from H1.out rfl)
    clear HC1 HC2 H0 H1 H4 H5 HY HKD hmk
    go_enter Try.func41, Try.ntmps41
    go_wp2_with fail
    refine Calls.mono (HN.out _) ?_
    rintro e wz ⟨rfl, rfl⟩
    go_wp2_with fail
    refine Calls.mono (HPW.out _) ?_
    rintro e wz ⟨rfl, rfl⟩
    go_wp2_with fail
    go_wp2_with fail
    refine bodyPost_ret (v := .tuple #[.agg #[.pointer none, .slice none 0 0, .slice none 0 0, .pointer none], .bool false]) (by simp [results, Try.results41, go_sem]) rfl ?_
    refine ⟨none, none, none, none, 0, 0, 0, 0, false, rfl, ?_, HF.out.symm⟩
    first | exact HB0.out | (iterate 4 (refine Below.setCell ?_ (by simp <;> omega) _); exact HB0.out)
  cases hol : r.left.ok
  case false =>
    rw [hol] at HOL
    have HF := (show Hid (RB = false) from H4.out hol)
    clear HC1 HC2 H0 H1 H4 H5 HY HKD hmk
    go_enter Try.func41, Try.ntmps41
    go_wp2_with fail
    refine Calls.mono (HN.out _) ?_
    rintro e wz ⟨rfl, rfl⟩
    go_wp2_with fail
    refine Calls.mono (HPW.out _) ?_
    rintro e wz ⟨rfl, rfl⟩
    go_wp2_with fail
    refine Calls.mono (HOL.out _ HB0.out) ?_
    rintro e w1 ⟨rfl, hb1⟩
    have BL1 := (show Hid _ from hb1)
    obtain ⟨g1, g2, g3⟩ := HT.out w1 hb1
    have T5 : w1.cell? ⟨w.heap.size, 5, none⟩ = some (.string n2) := g2.cell 5 (by simp)
    have T6 : w1.cell? ⟨w.heap.size, 6, none⟩ = some (.string x2) := g2.cell 6 (by simp)
    have T7 : w1.cell? ⟨w.heap.size, 7, none⟩ = some (.bool f2) := g2.cell 7 (by simp)
    have T8 : w1.cell? ⟨w.heap.size, 8, none⟩ = some (.slice a2 l2 p2) := g2.cell 8 (by simp)
    have Z0 : w1.cell? ⟨w.heap.size + 1, 0, none⟩ = some (.pointer none) := g3.cell 0 (by simp)
    have Z1 : w1.cell? ⟨w.heap.size + 1, 1, none⟩ = some (.slice none 0 0) := g3.cell 1 (by simp)
    have Z2 : w1.cell? ⟨w.heap.size + 1, 2, none⟩ = some (.slice none 0 0) := g3.cell 2 (by simp)
    have Z3 : w1.cell? ⟨w.heap.size + 1, 3, none⟩ = some (.pointer none) := g3.cell 3 (by simp)
    have F0 := g3.frozen 0
    have F1 := g3.frozen 1
    have F2 := g3.frozen 2
    have F3 := g3.frozen 3
    have G1 := (show Hid _ from g1)
    have G2 := (show Hid _ from g2)
    have G3 := (show Hid _ from g3)
    clear hb1 g1 g2 g3
    go_wp2_with fail
    refine bodyPost_ret (v := .tuple #[.agg #[.pointer none, .slice none 0 0, .slice none 0 0, .pointer none], .bool false]) (by simp [results, Try.results41, go_sem, Z0, Z1, Z2, Z3]) rfl ?_
    refine ⟨none, none, none, none, 0, 0, 0, 0, false, rfl, ?_, HF.out.symm⟩
    iterate 4 (refine Below.setCell ?_ (by simp <;> omega) _)
    exact G1.out
  rw [hol] at HOL
  cases hor : r.right.ok
  case false =>
    rw [hor] at HOR
    have HF := (show Hid (RB = false) from H5.out hor)
    clear HC1 HC2 H0 H1 H4 H5 HY HKD hmk
    go_enter Try.func41, Try.ntmps41
    go_wp2_with fail
    refine Calls.mono (HN.out _) ?_
    rintro e wz ⟨rfl, rfl⟩
    go_wp2_with fail
    refine Calls.mono (HPW.out _) ?_
    rintro e wz ⟨rfl, rfl⟩
    go_wp2_with fail
    refine Calls.mono (HOL.out _ HB0.out) ?_
    rintro e w1 ⟨rfl, hb1⟩
    have BL1 := (show Hid _ from hb1)
    obtain ⟨g1, g2, g3⟩ := HT.out w1 hb1
    have T5 : w1.cell? ⟨w.heap.size, 5, none⟩ = some (.string n2) := g2.cell 5 (by simp)
    have T6 : w1.cell? ⟨w.heap.size, 6, none⟩ = some (.string x2) := g2.cell 6 (by simp)
    have T7 : w1.cell? ⟨w.heap.size, 7, none⟩ = some (.bool f2) := g2.cell 7 (by simp)
    have T8 : w1.cell? ⟨w.heap.size, 8, none⟩ = some (.slice a2 l2 p2) := g2.cell 8 (by simp)
    have Z0 : w1.cell? ⟨w.heap.size + 1, 0, none⟩ = some (.pointer none) := g3.cell 0 (by simp)
    have Z1 : w1.cell? ⟨w.heap.size + 1, 1, none⟩ = some (.slice none 0 0) := g3.cell 1 (by simp)
    have Z2 : w1.cell? ⟨w.heap.size + 1, 2, none⟩ = some (.slice none 0 0) := g3.cell 2 (by simp)
    have Z3 : w1.cell? ⟨w.heap.size + 1, 3, none⟩ = some (.pointer none) := g3.cell 3 (by simp)
    have F0 := g3.frozen 0
    have F1 := g3.frozen 1
    have F2 := g3.frozen 2
    have F3 := g3.frozen 3
    have G1 := (show Hid _ from g1)
    have G2 := (show Hid _ from g2)
    have G3 := (show Hid _ from g3)
    clear hb1 g1 g2 g3
    go_wp2_with fail
    refine Calls.mono (HOR.out _ G1.out) ?_
    rintro e w2 ⟨rfl, hb2⟩
    have hb1 := bel_trans BL1.out hb2
    clear T5 T6 T7 T8 Z0 Z1 Z2 Z3 F0 F1 F2 F3 G1 G3 G2
    obtain ⟨g1, g2, g3⟩ := HT.out w2 hb1
    have T5 : w2.cell? ⟨w.heap.size, 5, none⟩ = some (.string n2) := g2.cell 5 (by simp)
    have T6 : w2.cell? ⟨w.heap.size, 6, none⟩ = some (.string x2) := g2.cell 6 (by simp)
    have T7 : w2.cell? ⟨w.heap.size, 7, none⟩ = some (.bool f2) := g2.cell 7 (by simp)
    have T8 : w2.cell? ⟨w.heap.size, 8, none⟩ = some (.slice a2 l2 p2) := g2.cell 8 (by simp)
    have Z0 : w2.cell? ⟨w.heap.size + 1, 0, none⟩ = some (.pointer none) := g3.cell 0 (by simp)
    have Z1 : w2.cell? ⟨w.heap.size + 1, 1, none⟩ = some (.slice none 0 0) := g3.cell 1 (by simp)
    have Z2 : w2.cell? ⟨w.heap.size + 1, 2, none⟩ = some (.slice none 0 0) := g3.cell 2 (by simp)
    have Z3 : w2.cell? ⟨w.heap.size + 1, 3, none⟩ = some (.pointer none) := g3.cell 3 (by simp)
    have F0 := g3.frozen 0
    have F1 := g3.frozen 1
    have F2 := g3.frozen 2
    have F3 := g3.frozen 3
    have G1 := (show Hid _ from g1)
    have G2 := (show Hid _ from g2)
    have G3 := (show Hid _ from g3)
    clear hb1 g1 g2 g3
    clear hb2
    go_wp2_with fail
    refine bodyPost_ret (v := .tuple #[.agg #[.pointer none, .slice none 0 0, .slice none 0 0, .pointer none], .bool false]) (by simp [results, Try.results41, go_sem, Z0, Z1, Z2, Z3]) rfl ?_
    refine ⟨none, none, none, none, 0, 0, 0, 0, false, rfl, ?_, HF.out.symm⟩
    iterate 4 (refine Below.setCell ?_ (by simp <;> omega) _)
    exact G1.out
  rw [hor] at HOR
  have few1 := (few1' hol).1
  have few2 := (few2' hor).1
  have HY2 := (show Hid _ from HY.out rfl rfl hol hor)
  have HD1 := (show Hid _ from HC1.out hol)
  have HD2 := (show Hid _ from HC2.out hol hor)
  clear HC1 HC2 HY H0 H1 H4 H5 few1' few2'
  go_enter Try.func41, Try.ntmps41
  go_wp2_with fail
  refine Calls.mono (HN.out _) ?_
  rintro e wz ⟨rfl, rfl⟩
  go_wp2_with fail
  refine Calls.mono (HPW.out _) ?_
  rintro e wz ⟨rfl, rfl⟩
  go_wp2_with fail
  refine Calls.mono (HOL.out _ HB0.out) ?_
  rintro e w1 ⟨rfl, hb1⟩
  have BL1 := (show Hid _ from hb1)
  obtain ⟨g1, g2, g3⟩ := HT.out w1 hb1
  have T5 : w1.cell? ⟨w.heap.size, 5, none⟩ = some (.string n2) := g2.cell 5 (by simp)
  have T6 : w1.cell? ⟨w.heap.size, 6, none⟩ = some (.string x2) := g2.cell 6 (by simp)
  have T7 : w1.cell? ⟨w.heap.size, 7, none⟩ = some (.bool f2) := g2.cell 7 (by simp)
  have T8 : w1.cell? ⟨w.heap.size, 8, none⟩ = some (.slice a2 l2 p2) := g2.cell 8 (by simp)
  have Z0 : w1.cell? ⟨w.heap.size + 1, 0, none⟩ = some (.pointer none) := g3.cell 0 (by simp)
  have Z1 : w1.cell? ⟨w.heap.size + 1, 1, none⟩ = some (.slice none 0 0) := g3.cell 1 (by simp)
  have Z2 : w1.cell? ⟨w.heap.size + 1, 2, none⟩ = some (.slice none 0 0) := g3.cell 2 (by simp)
  have Z3 : w1.cell? ⟨w.heap.size + 1, 3, none⟩ = some (.pointer none) := g3.cell 3 (by simp)
  have F0 := g3.frozen 0
  have F1 := g3.frozen 1
  have F2 := g3.frozen 2
  have F3 := g3.frozen 3
  have G1 := (show Hid _ from g1)
  have G2 := (show Hid _ from g2)
  have G3 := (show Hid _ from g3)
  clear hb1 g1 g2 g3
  go_wp2_with fail
  refine Calls.mono (HOR.out _ G1.out) ?_
  rintro e w2 ⟨rfl, hb2⟩
  have hb1 := bel_trans BL1.out hb2
  clear T5 T6 T7 T8 Z0 Z1 Z2 Z3 F0 F1 F2 F3 G1 G3 G2
  obtain ⟨g1, g2, g3⟩ := HT.out w2 hb1
  have T5 : w2.cell? ⟨w.heap.size, 5, none⟩ = some (.string n2) := g2.cell 5 (by simp)
  have T6 : w2.cell? ⟨w.heap.size, 6, none⟩ = some (.string x2) := g2.cell 6 (by simp)
  have T7 : w2.cell? ⟨w.heap.size, 7, none⟩ = some (.bool f2) := g2.cell 7 (by simp)
  have T8 : w2.cell? ⟨w.heap.size, 8, none⟩ = some (.slice a2 l2 p2) := g2.cell 8 (by simp)
  have Z0 : w2.cell? ⟨w.heap.size + 1, 0, none⟩ = some (.pointer none) := g3.cell 0 (by simp)
  have Z1 : w2.cell? ⟨w.heap.size + 1, 1, none⟩ = some (.slice none 0 0) := g3.cell 1 (by simp)
  have Z2 : w2.cell? ⟨w.heap.size + 1, 2, none⟩ = some (.slice none 0 0) := g3.cell 2 (by simp)
  have Z3 : w2.cell? ⟨w.heap.size + 1, 3, none⟩ = some (.pointer none) := g3.cell 3 (by simp)
  have F0 := g3.frozen 0
  have F1 := g3.frozen 1
  have F2 := g3.frozen 2
  have F3 := g3.frozen 3
  have G1 := (show Hid _ from g1)
  have G2 := (show Hid _ from g2)
  have G3 := (show Hid _ from g3)
  clear hb1 g1 g2 g3
  clear hb2
  have hs2 : w.heap.size + 2 ≤ w2.heap.size := by have := G3.out.lt; omega
  have b3 : Below w2.heap.size w2 ((w2.alloc (.map #[] 0)).alloc (.cells #[.map (some w2.heap.size), .slice none 0 0, .slice none 0 0, .bool false] 112)) := (bel_alloc _ _).alloc (by simp) _
  have gW := G2.out.still b3
  have U1 : ((w2.alloc (.map #[] 0)).alloc (.cells #[.map (some w2.heap.size), .slice none 0 0, .slice none 0 0, .bool false] 112)).cell? ⟨w.heap.size, 1, none⟩ = some (.string n1) := gW.cell 1 (by simp)
  have U2 : ((w2.alloc (.map #[] 0)).alloc (.cells #[.map (some w2.heap.size), .slice none 0 0, .slice none 0 0, .bool false] 112)).cell? ⟨w.heap.size, 2, none⟩ = some (.string x1) := gW.cell 2 (by simp)
  have U3 : ((w2.alloc (.map #[] 0)).alloc (.cells #[.map (some w2.heap.size), .slice none 0 0, .slice none 0 0, .bool false] 112)).cell? ⟨w.heap.size, 3, none⟩ = some (.bool f1) := gW.cell 3 (by simp)
  have U4 : ((w2.alloc (.map #[] 0)).alloc (.cells #[.map (some w2.heap.size), .slice none 0 0, .slice none 0 0, .bool false] 112)).cell? ⟨w.heap.size, 4, none⟩ = some (.slice a1 l1 p1) := gW.cell 4 (by simp)
  have HE1 := (show Hid _ from HD1.out w2 G1.out)
  have B3 := (show Hid _ from b3)
  clear gW b3 T5 T6 T7 T8 Z0 Z1 Z2 Z3 F0 F1 F2 F3 HD1 HOL HOR HN HPW
  go_wp2_with fail
  refine Calls.mono HE1.out ?_
  rintro e w4 ⟨q1, va1, ha1, vc1, hc1, uv1, s1, s2, lb1, num1, kv1, rfl, hq1, hbx1, rs1, fm1, _, _, m1, m2⟩
  have hq1' : w2.heap.size + 2 ≤ q1 := by simpa using hq1
  have hq1l : q1 < w4.heap.size := hbx1.lt
  have b4 : Below w2.heap.size w2 w4 := B3.out.trans (fm1.below (B := w2.heap.size) (by
    rintro q (e | e | e | e | e)
    · omega
    · omega
    · cases e
    · cases e
    · cases e) (by simp; omega))
  have b5 : Below w2.heap.size w2 (w4.alloc (.cells #[.pointer (some ⟨q1, 0, none⟩), .slice va1 KS1.length vc1, .slice ha1 H1 hc1] 87)) := bel_trans b4 (bel_alloc _ _)
  have bA5 := bel_alloc w4 (.cells #[.pointer (some ⟨q1, 0, none⟩), .slice va1 KS1.length vc1, .slice ha1 H1 hc1] 87)
  have rs5 := rs1.still bA5
  have gW := G2.out.still b5
  have V5 := gW.cell 5 (by simp)
  have V6 := gW.cell 6 (by simp)
  have V7 := gW.cell 7 (by simp)
  have V8 := gW.cell 8 (by simp)
  have V5' : (w4.alloc (.cells #[.pointer (some ⟨q1, 0, none⟩), .slice va1 KS1.length vc1, .slice ha1 H1 hc1] 87)).cell? ⟨w.heap.size, 5, none⟩ = some (.string n2) := V5
  have V6' : (w4.alloc (.cells #[.pointer (some ⟨q1, 0, none⟩), .slice va1 KS1.length vc1, .slice ha1 H1 hc1] 87)).cell? ⟨w.heap.size, 6, none⟩ = some (.string x2) := V6
  have V7' : (w4.alloc (.cells #[.pointer (some ⟨q1, 0, none⟩), .slice va1 KS1.length vc1, .slice ha1 H1 hc1] 87)).cell? ⟨w.heap.size, 7, none⟩ = some (.bool f2) := V7
  have V8' : (w4.alloc (.cells #[.pointer (some ⟨q1, 0, none⟩), .slice va1 KS1.length vc1, .slice ha1 H1 hc1] 87)).cell? ⟨w.heap.size, 8, none⟩ = some (.slice a2 l2 p2) := V8
  clear V5 V6 V7 V8 gW U1 U2 U3 U4
  have HE2 := (show Hid _ from HD2.out w2 _ uv1 _ G1.out b5 rs5)
  have HS1 := (show Hid (∀ (w6 : World), Fm (To (w2.heap.size + 1) w2.heap.size uv1 (.slice ha1 H1 hc1) (.slice none 0 0)) (w4.alloc (.cells #[.pointer (some ⟨q1, 0, none⟩), .slice va1 KS1.length vc1, .slice ha1 H1 hc1] 87)) w6 → Box w6 w4.heap.size 87 [.pointer (some ⟨q1, 0, none⟩), .slice va1 KS1.length vc1, .slice ha1 H1 hc1] ∧ Box w6 q1 129 [.string s1, .string s2, .bool lb1, .int .i64 KD, .int .i64 num1, kv1] ∧ Below w2.heap.size w2 w6 ∧ w4.heap.size < w6.heap.size) from fun w6 fm => by
    have hu1 := rs1.uvl
    have hu2 := rs1.uhl
    have g := (Box.new w4 87 [.pointer (some ⟨q1, 0, none⟩), .slice va1 KS1.length vc1, .slice ha1 H1 hc1]).fm fm (by
      rintro (e | e | e | e | e)
      · omega
      · omega
      · have := (hu1 _ e).2; omega
      · have := (hu2 _ e).2; omega
      · cases e)
    refine ⟨g, (hbx1.still bA5).fm fm ?_, b5.trans (fm.below (B := w2.heap.size) ?_ b5.size), g.lt⟩
    · rintro (e | e | e | e | e)
      · omega
      · omega
      · exact m1 e
      · exact m2 e
      · cases e
    · rintro q (e | e | e | e | e)
      · omega
      · omega
      · exact (hu1 _ e).1
      · exact (hu2 _ e).1
      · cases e)
  clear hq1 hbx1 rs1 fm1 m1 m2 b4 b5 bA5 rs5 HD2 HE1 B3
  go_wp2_with fail
  refine Calls.mono HE2.out ?_
  rintro e w6 ⟨q2, va2, ha2, vc2, hc2, uv2, t1, t2, lb2, num2, kv2, rfl, hq2, hbx2, rs2, fm2, _, _, _, _⟩
  obtain ⟨g5, gq, b6, hs6⟩ := HS1.out w6 fm2
  have bA7 := bel_alloc w6 (.cells #[.pointer (some ⟨q2, 0, none⟩), .slice va2 KS2.length vc2, .slice ha2 H2 hc2] 87)
  have g7 := Box.new w6 87 [.pointer (some ⟨q2, 0, none⟩), .slice va2 KS2.length vc2, .slice ha2 H2 hc2]
  have g57 := g5.still bA7
  have gq7 := gq.still bA7
  have gr7 := rs2.bx.still bA7
  have gz7 := (G3.out.still b6).still bA7
  have bw7 : Below w.heap.size w (w6.alloc (.cells #[.pointer (some ⟨q2, 0, none⟩), .slice va2 KS2.length vc2, .slice ha2 H2 hc2] 87)) := bel_trans (bel_trans G1.out b6) bA7
  have hsr : w2.heap.size + 1 < w6.heap.size := rs2.bx.lt
  have hs4 : w2.heap.size ≤ w4.heap.size := by omega
  clear hq2 hbx2 rs2 fm2 HS1 HE2 V5' V6' V7' V8' b6 gq g5
  have hk1' : KS1.length ≤ 100000 := by have := few1; omega
  have hk2' : KS2.length ≤ 100000 := by have := few1; have := few2; omega
  have hh' : H2 ≤ 100000 := by have := few1; have := few2; omega
  have HY3 := (show Hid (RB = (!FB && (PL && (decide (KS1.length = KS2.length) && decide (H2 = 0))))) from HY2.out)
  clear HY2
  generalize KS1.length = K1 at *
  generalize KS2.length = K2 at *
  have L1 : (w6.alloc (.cells #[.pointer (some ⟨q2, 0, none⟩), .slice va2 K2 vc2, .slice ha2 H2 hc2] 87)).cell? ⟨w4.heap.size, 1, none⟩ = some (.slice va1 K1 vc1) := g57.cell 1 (by simp)
  have hS0 : ((w6.alloc (.cells #[.pointer (some ⟨q2, 0, none⟩), .slice va2 K2 vc2, .slice ha2 H2 hc2] 87)).drew.cell? ⟨w4.heap.size, 0, none⟩ = some (.pointer (some ⟨q1, 0, none⟩)) ∧ (w6.alloc (.cells #[.pointer (some ⟨q2, 0, none⟩), .slice va2 K2 vc2, .slice ha2 H2 hc2] 87)).drew.cell? ⟨w4.heap.size, 1, none⟩ = some (.slice va1 K1 vc1) ∧ (w6.alloc (.cells #[.pointer (some ⟨q2, 0, none⟩), .slice va2 K2 vc2, .slice ha2 H2 hc2] 87)).drew.cell? ⟨w4.heap.size, 2, none⟩ = some (.slice ha1 H1 hc1)) ∧ ((w6.alloc (.cells #[.pointer (some ⟨q2, 0, none⟩), .slice va2 K2 vc2, .slice ha2 H2 hc2] 87)).drew.cell? ⟨w6.heap.size, 0, none⟩ = some (.pointer (some ⟨q2, 0, none⟩)) ∧ (w6.alloc (.cells #[.pointer (some ⟨q2, 0, none⟩), .slice va2 K2 vc2, .slice ha2 H2 hc2] 87)).drew.cell? ⟨w6.heap.size, 2, none⟩ = some (.slice ha2 H2 hc2)) ∧ (w6.alloc (.cells #[.pointer (some ⟨q2, 0, none⟩), .slice va2 K2 vc2, .slice ha2 H2 hc2] 87)).drew.cell? ⟨w2.heap.size + 1, 3, none⟩ = some (.bool FB) := ⟨⟨g57.drw.cell 0 (by simp), g57.drw.cell 1 (by simp), g57.drw.cell 2 (by simp)⟩, ⟨g7.drw.cell 0 (by simp), g7.drw.cell 2 (by simp)⟩, gr7.drw.cell 3 (by simp)⟩
  have HSK := (show Hid (∀ w3 : World, Below (w6.alloc (.cells #[.pointer (some ⟨q2, 0, none⟩), .slice va2 K2 vc2, .slice ha2 H2 hc2] 87)).drew.heap.size (w6.alloc (.cells #[.pointer (some ⟨q2, 0, none⟩), .slice va2 K2 vc2, .slice ha2 H2 hc2] 87)).drew w3 → ((w3.cell? ⟨w4.heap.size, 0, none⟩ = some (.pointer (some ⟨q1, 0, none⟩)) ∧ w3.cell? ⟨w4.heap.size, 1, none⟩ = some (.slice va1 K1 vc1) ∧ w3.cell? ⟨w4.heap.size, 2, none⟩ = some (.slice ha1 H1 hc1)) ∧ (w3.cell? ⟨w6.heap.size, 0, none⟩ = some (.pointer (some ⟨q2, 0, none⟩)) ∧ w3.cell? ⟨w6.heap.size, 2, none⟩ = some (.slice ha2 H2 hc2)) ∧ w3.cell? ⟨w2.heap.size + 1, 3, none⟩ = some (.bool FB)) ∧ (w3.cell? ⟨w.heap.size + 1, 0, none⟩ = some (.pointer none) ∧ w3.cell? ⟨w.heap.size + 1, 1, none⟩ = some (.slice none 0 0) ∧ w3.cell? ⟨w.heap.size + 1, 2, none⟩ = some (.slice none 0 0) ∧ w3.cell? ⟨w.heap.size + 1, 3, none⟩ = some (.pointer none)) ∧ (w3.frozen? ⟨w.heap.size + 1, 0, none⟩ = false ∧ w3.frozen? ⟨w.heap.size + 1, 1, none⟩ = false ∧ w3.frozen? ⟨w.heap.size + 1, 2, none⟩ = false ∧ w3.frozen? ⟨w.heap.size + 1, 3, none⟩ = false) ∧ ((((((w3.setCell ⟨w.heap.size + 1, 0, none⟩ (.pointer (some ⟨q1, 0, none⟩))).setCell ⟨w.heap.size + 1, 1, none⟩ (.slice va1 K1 vc1)).setCell ⟨w.heap.size + 1, 2, none⟩ (.slice ha1 H1 hc1)).setCell ⟨w.heap.size + 1, 3, none⟩ (.pointer (some ⟨q2, 0, none⟩))).cell? ⟨w4.heap.size, 0, none⟩ = some (.pointer (some ⟨q1, 0, none⟩)) ∧ ((((w3.setCell ⟨w.heap.size + 1, 0, none⟩ (.pointer (some ⟨q1, 0, none⟩))).setCell ⟨w.heap.size + 1, 1, none⟩ (.slice va1 K1 vc1)).setCell ⟨w.heap.size + 1, 2, none⟩ (.slice ha1 H1 hc1)).setCell ⟨w.heap.size + 1, 3, none⟩ (.pointer (some ⟨q2, 0, none⟩))).cell? ⟨w4.heap.size, 1, none⟩ = some (.slice va1 K1 vc1) ∧ ((((w3.setCell ⟨w.heap.size + 1, 0, none⟩ (.pointer (some ⟨q1, 0, none⟩))).setCell ⟨w.heap.size + 1, 1, none⟩ (.slice va1 K1 vc1)).setCell ⟨w.heap.size + 1, 2, none⟩ (.slice ha1 H1 hc1)).setCell ⟨w.heap.size + 1, 3, none⟩ (.pointer (some ⟨q2, 0, none⟩))).cell? ⟨w4.heap.size, 2, none⟩ = some (.slice ha1 H1 hc1)) ∧ (((((w3.setCell ⟨w.heap.size + 1, 0, none⟩ (.pointer (some ⟨q1, 0, none⟩))).setCell ⟨w.heap.size + 1, 1, none⟩ (.slice va1 K1 vc1)).setCell ⟨w.heap.size + 1, 2, none⟩ (.slice ha1 H1 hc1)).setCell ⟨w.heap.size + 1, 3, none⟩ (.pointer (some ⟨q2, 0, none⟩))).cell? ⟨w6.heap.size, 0, none⟩ = some (.pointer (some ⟨q2, 0, none⟩)) ∧ ((((w3.setCell ⟨w.heap.size + 1, 0, none⟩ (.pointer (some ⟨q1, 0, none⟩))).setCell ⟨w.heap.size + 1, 1, none⟩ (.slice va1 K1 vc1)).setCell ⟨w.heap.size + 1, 2, none⟩ (.slice ha1 H1 hc1)).setCell ⟨w.heap.size + 1, 3, none⟩ (.pointer (some ⟨q2, 0, none⟩))).cell? ⟨w6.heap.size, 2, none⟩ = some (.slice ha2 H2 hc2)) ∧ ((((w3.setCell ⟨w.heap.size + 1, 0, none⟩ (.pointer (some ⟨q1, 0, none⟩))).setCell ⟨w.heap.size + 1, 1, none⟩ (.slice va1 K1 vc1)).setCell ⟨w.heap.size + 1, 2, none⟩ (.slice ha1 H1 hc1)).setCell ⟨w.heap.size + 1, 3, none⟩ (.pointer (some ⟨q2, 0, none⟩))).cell? ⟨w2.heap.size + 1, 3, none⟩ = some (.bool FB)) ∧ (((((w3.setCell ⟨w.heap.size + 1, 0, none⟩ (.pointer (some ⟨q1, 0, none⟩))).setCell ⟨w.heap.size + 1, 1, none⟩ (.slice va1 K1 vc1)).setCell ⟨w.heap.size + 1, 2, none⟩ (.slice ha1 H1 hc1)).setCell ⟨w.heap.size + 1, 3, none⟩ (.pointer (some ⟨q2, 0, none⟩))).cell? ⟨w.heap.size + 1, 0, none⟩ = some (.pointer (some ⟨q1, 0, none⟩)) ∧ ((((w3.setCell ⟨w.heap.size + 1, 0, none⟩ (.pointer (some ⟨q1, 0, none⟩))).setCell ⟨w.heap.size + 1, 1, none⟩ (.slice va1 K1 vc1)).setCell ⟨w.heap.size + 1, 2, none⟩ (.slice ha1 H1 hc1)).setCell ⟨w.heap.size + 1, 3, none⟩ (.pointer (some ⟨q2, 0, none⟩))).cell? ⟨w.heap.size + 1, 1, none⟩ = some (.slice va1 K1 vc1) ∧ ((((w3.setCell ⟨w.heap.size + 1, 0, none⟩ (.pointer (some ⟨q1, 0, none⟩))).setCell ⟨w.heap.size + 1, 1, none⟩ (.slice va1 K1 vc1)).setCell ⟨w.heap.size + 1, 2, none⟩ (.slice ha1 H1 hc1)).setCell ⟨w.heap.size + 1, 3, none⟩ (.pointer (some ⟨q2, 0, none⟩))).cell? ⟨w.heap.size + 1, 2, none⟩ = some (.slice ha1 H1 hc1) ∧ ((((w3.setCell ⟨w.heap.size + 1, 0, none⟩ (.pointer (some ⟨q1, 0, none⟩))).setCell ⟨w.heap.size + 1, 1, none⟩ (.slice va1 K1 vc1)).setCell ⟨w.heap.size + 1, 2, none⟩ (.slice ha1 H1 hc1)).setCell ⟨w.heap.size + 1, 3, none⟩ (.pointer (some ⟨q2, 0, none⟩))).cell? ⟨w.heap.size + 1, 3, none⟩ = some (.pointer (some ⟨q2, 0, none⟩))) ∧ Below w.heap.size w ((((w3.setCell ⟨w.heap.size + 1, 0, none⟩ (.pointer (some ⟨q1, 0, none⟩))).setCell ⟨w.heap.size + 1, 1, none⟩ (.slice va1 K1 vc1)).setCell ⟨w.heap.size + 1, 2, none⟩ (.slice ha1 H1 hc1)).setCell ⟨w.heap.size + 1, 3, none⟩ (.pointer (some ⟨q2, 0, none⟩)))) from fun w3 hb3 => by
    have e5 := g57.drw.still hb3
    have e7 := g7.drw.still hb3
    have er := gr7.drw.still hb3
    have z3 := gz7.drw.still hb3
    have zz := (((z3.set 0 (.pointer (some ⟨q1, 0, none⟩))).set 1 (.slice va1 K1 vc1)).set 2 (.slice ha1 H1 hc1)).set 3 (.pointer (some ⟨q2, 0, none⟩))
    have y5 := (((e5.past (q := w.heap.size + 1) (o := 0) (u := .pointer (some ⟨q1, 0, none⟩)) (by omega)).past (q := w.heap.size + 1) (o := 1) (u := .slice va1 K1 vc1) (by omega)).past (q := w.heap.size + 1) (o := 2) (u := .slice ha1 H1 hc1) (by omega)).past (q := w.heap.size + 1) (o := 3) (u := .pointer (some ⟨q2, 0, none⟩)) (by omega)
    have y7 := (((e7.past (q := w.heap.size + 1) (o := 0) (u := .pointer (some ⟨q1, 0, none⟩)) (by omega)).past (q := w.heap.size + 1) (o := 1) (u := .slice va1 K1 vc1) (by omega)).past (q := w.heap.size + 1) (o := 2) (u := .slice ha1 H1 hc1) (by omega)).past (q := w.heap.size + 1) (o := 3) (u := .pointer (some ⟨q2, 0, none⟩)) (by omega)
    have yr := (((er.past (q := w.heap.size + 1) (o := 0) (u := .pointer (some ⟨q1, 0, none⟩)) (by omega)).past (q := w.heap.size + 1) (o := 1) (u := .slice va1 K1 vc1) (by omega)).past (q := w.heap.size + 1) (o := 2) (u := .slice ha1 H1 hc1) (by omega)).past (q := w.heap.size + 1) (o := 3) (u := .pointer (some ⟨q2, 0, none⟩)) (by omega)
    have bb : Below w.heap.size w w3 := bw7.drew.trans (hb3.mono (by have := bw7.size; simp at this ⊢; omega))
    refine ⟨⟨⟨e5.cell 0 (by simp), e5.cell 1 (by simp), e5.cell 2 (by simp)⟩, ⟨e7.cell 0 (by simp), e7.cell 2 (by simp)⟩, er.cell 3 (by simp)⟩, ⟨z3.cell 0 (by simp), z3.cell 1 (by simp), z3.cell 2 (by simp), z3.cell 3 (by simp)⟩, ⟨z3.frozen 0, z3.frozen 1, z3.frozen 2, z3.frozen 3⟩, ⟨⟨y5.cell 0 (by simp), y5.cell 1 (by simp), y5.cell 2 (by simp)⟩, ⟨y7.cell 0 (by simp), y7.cell 2 (by simp)⟩, yr.cell 3 (by simp)⟩, ⟨zz.cell 0 (by simp), zz.cell 1 (by simp), zz.cell 2 (by simp), zz.cell 3 (by simp)⟩, ?_⟩
    iterate 4 (refine Below.setCell ?_ (by show w.heap.size ≤ w.heap.size + 1; omega) _)
    exact bb)
  have HPL := (show Hid (Calls Try.prog 57 #[.agg #[.pointer (some ⟨q1, 0, none⟩), .slice va1 K1 vc1, .slice ha1 H1 hc1]] (w6.alloc (.cells #[.pointer (some ⟨q2, 0, none⟩), .slice va2 K2 vc2, .slice ha2 H2 hc2] 87)).drew fun e w' => e = .returned (.bool PL) ∧ Below (w6.alloc (.cells #[.pointer (some ⟨q2, 0, none⟩), .slice va2 K2 vc2, .slice ha2 H2 hc2] 87)).drew.heap.size (w6.alloc (.cells #[.pointer (some ⟨q2, 0, none⟩), .slice va2 K2 vc2, .slice ha2 H2 hc2] 87)).drew w') from (by
    rw [← HKD.out]
    exact plain57 q1 _ _ _ s1 s2 lb1 KD num1 kv1 gq7.drw rfl rfl))
  clear g7 g57 gq7 gr7 gz7 bw7 bA7 HKD G1 G2 G3 hs6 hsr hs4 hq1' hq1l hs2 HT HB0
  by_cases hkk : K1 = K2
  case pos =>
    have hkq : ((K1 : Int) == (K2 : Int)) = true := by simp; omega
    have HY4 := (show Hid (RB = (!FB && (PL && (true && decide (H2 = 0))))) from (by show RB = _; rw [HY3.out, decide_eq_true hkk]))
    clear HY3 hkk
    cases FB
    case true =>
      obtain ⟨hS1, ⟨Y0, Y1, Y2, Y3⟩, ⟨F0, F1, F2, F3⟩, hS2, ⟨E0, E1, E2, E3⟩, hbf⟩ := HSK.out (w6.alloc (.cells #[.pointer (some ⟨q2, 0, none⟩), .slice va2 K2 vc2, .slice ha2 H2 hc2] 87)).drew (Below.refl _ _)
      have HBF := (show Hid _ from hbf)
      have HV2 := (show Hid (RB = false) from HY4.out)
      clear hbf HSK HPL HY4 hS1
      have Y0c : (w6.alloc (.cells #[.pointer (some ⟨q2, 0, none⟩), .slice va2 K2 vc2, .slice ha2 H2 hc2] 87)).cell? ⟨w.heap.size + 1, 0, none⟩ = some (.pointer none) := Y0
      have F0c : (w6.alloc (.cells #[.pointer (some ⟨q2, 0, none⟩), .slice va2 K2 vc2, .slice ha2 H2 hc2] 87)).frozen? ⟨w.heap.size + 1, 0, none⟩ = false := F0
      have Y1c : (w6.alloc (.cells #[.pointer (some ⟨q2, 0, none⟩), .slice va2 K2 vc2, .slice ha2 H2 hc2] 87)).cell? ⟨w.heap.size + 1, 1, none⟩ = some (.slice none 0 0) := Y1
      have F1c : (w6.alloc (.cells #[.pointer (some ⟨q2, 0, none⟩), .slice va2 K2 vc2, .slice ha2 H2 hc2] 87)).frozen? ⟨w.heap.size + 1, 1, none⟩ = false := F1
      have Y2c : (w6.alloc (.cells #[.pointer (some ⟨q2, 0, none⟩), .slice va2 K2 vc2, .slice ha2 H2 hc2] 87)).cell? ⟨w.heap.size + 1, 2, none⟩ = some (.slice none 0 0) := Y2
      have F2c : (w6.alloc (.cells #[.pointer (some ⟨q2, 0, none⟩), .slice va2 K2 vc2, .slice ha2 H2 hc2] 87)).frozen? ⟨w.heap.size + 1, 2, none⟩ = false := F2
      have Y3c : (w6.alloc (.cells #[.pointer (some ⟨q2, 0, none⟩), .slice va2 K2 vc2, .slice ha2 H2 hc2] 87)).cell? ⟨w.heap.size + 1, 3, none⟩ = some (.pointer none) := Y3
      have F3c : (w6.alloc (.cells #[.pointer (some ⟨q2, 0, none⟩), .slice va2 K2 vc2, .slice ha2 H2 hc2] 87)).frozen? ⟨w.heap.size + 1, 3, none⟩ = false := F3
      have hS2b : (((((((w6.alloc (.cells #[.pointer (some ⟨q2, 0, none⟩), .slice va2 K2 vc2, .slice ha2 H2 hc2] 87)).setCell ⟨w.heap.size + 1, 0, none⟩ (.pointer (some ⟨q1, 0, none⟩))).setCell ⟨w.heap.size + 1, 1, none⟩ (.slice va1 K1 vc1)).setCell ⟨w.heap.size + 1, 2, none⟩ (.slice ha1 H1 hc1)).setCell ⟨w.heap.size + 1, 3, none⟩ (.pointer (some ⟨q2, 0, none⟩)))).drew.cell? ⟨w4.heap.size, 0, none⟩ = some (.pointer (some ⟨q1, 0, none⟩)) ∧ ((((((w6.alloc (.cells #[.pointer (some ⟨q2, 0, none⟩), .slice va2 K2 vc2, .slice ha2 H2 hc2] 87)).setCell ⟨w.heap.size + 1, 0, none⟩ (.pointer (some ⟨q1, 0, none⟩))).setCell ⟨w.heap.size + 1, 1, none⟩ (.slice va1 K1 vc1)).setCell ⟨w.heap.size + 1, 2, none⟩ (.slice ha1 H1 hc1)).setCell ⟨w.heap.size + 1, 3, none⟩ (.pointer (some ⟨q2, 0, none⟩)))).drew.cell? ⟨w4.heap.size, 1, none⟩ = some (.slice va1 K1 vc1) ∧ ((((((w6.alloc (.cells #[.pointer (some ⟨q2, 0, none⟩), .slice va2 K2 vc2, .slice ha2 H2 hc2] 87)).setCell ⟨w.heap.size + 1, 0, none⟩ (.pointer (some ⟨q1, 0, none⟩))).setCell ⟨w.heap.size + 1, 1, none⟩ (.slice va1 K1 vc1)).setCell ⟨w.heap.size + 1, 2, none⟩ (.slice ha1 H1 hc1)).setCell ⟨w.heap.size + 1, 3, none⟩ (.pointer (some ⟨q2, 0, none⟩)))).drew.cell? ⟨w4.heap.size, 2, none⟩ = some (.slice ha1 H1 hc1)) ∧ (((((((w6.alloc (.cells #[.pointer (some ⟨q2, 0, none⟩), .slice va2 K2 vc2, .slice ha2 H2 hc2] 87)).setCell ⟨w.heap.size + 1, 0, none⟩ (.pointer (some ⟨q1, 0, none⟩))).setCell ⟨w.heap.size + 1, 1, none⟩ (.slice va1 K1 vc1)).setCell ⟨w.heap.size + 1, 2, none⟩ (.slice ha1 H1 hc1)).setCell ⟨w.heap.size + 1, 3, none⟩ (.pointer (some ⟨q2, 0, none⟩)))).drew.cell? ⟨w6.heap.size, 0, none⟩ = some (.pointer (some ⟨q2, 0, none⟩)) ∧ ((((((w6.alloc (.cells #[.pointer (some ⟨q2, 0, none⟩), .slice va2 K2 vc2, .slice ha2 H2 hc2] 87)).setCell ⟨w.heap.size + 1, 0, none⟩ (.pointer (some ⟨q1, 0, none⟩))).setCell ⟨w.heap.size + 1, 1, none⟩ (.slice va1 K1 vc1)).setCell ⟨w.heap.size + 1, 2, none⟩ (.slice ha1 H1 hc1)).setCell ⟨w.heap.size + 1, 3, none⟩ (.pointer (some ⟨q2, 0, none⟩)))).drew.cell? ⟨w6.heap.size, 2, none⟩ = some (.slice ha2 H2 hc2)) ∧ ((((((w6.alloc (.cells #[.pointer (some ⟨q2, 0, none⟩), .slice va2 K2 vc2, .slice ha2 H2 hc2] 87)).setCell ⟨w.heap.size + 1, 0, none⟩ (.pointer (some ⟨q1, 0, none⟩))).setCell ⟨w.heap.size + 1, 1, none⟩ (.slice va1 K1 vc1)).setCell ⟨w.heap.size + 1, 2, none⟩ (.slice ha1 H1 hc1)).setCell ⟨w.heap.size + 1, 3, none⟩ (.pointer (some ⟨q2, 0, none⟩)))).drew.cell? ⟨w2.heap.size + 1, 3, none⟩ = some (.bool true) := hS2
      have E0b : ((((((w6.alloc (.cells #[.pointer (some ⟨q2, 0, none⟩), .slice va2 K2 vc2, .slice ha2 H2 hc2] 87)).setCell ⟨w.heap.size + 1, 0, none⟩ (.pointer (some ⟨q1, 0, none⟩))).setCell ⟨w.heap.size + 1, 1, none⟩ (.slice va1 K1 vc1)).setCell ⟨w.heap.size + 1, 2, none⟩ (.slice ha1 H1 hc1)).setCell ⟨w.heap.size + 1, 3, none⟩ (.pointer (some ⟨q2, 0, none⟩)))).drew.cell? ⟨w.heap.size + 1, 0, none⟩ = some (.pointer (some ⟨q1, 0, none⟩)) := E0
      have E1b : ((((((w6.alloc (.cells #[.pointer (some ⟨q2, 0, none⟩), .slice va2 K2 vc2, .slice ha2 H2 hc2] 87)).setCell ⟨w.heap.size + 1, 0, none⟩ (.pointer (some ⟨q1, 0, none⟩))).setCell ⟨w.heap.size + 1, 1, none⟩ (.slice va1 K1 vc1)).setCell ⟨w.heap.size + 1, 2, none⟩ (.slice ha1 H1 hc1)).setCell ⟨w.heap.size + 1, 3, none⟩ (.pointer (some ⟨q2, 0, none⟩)))).drew.cell? ⟨w.heap.size + 1, 1, none⟩ = some (.slice va1 K1 vc1) := E1
      have E2b : ((((((w6.alloc (.cells #[.pointer (some ⟨q2, 0, none⟩), .slice va2 K2 vc2, .slice ha2 H2 hc2] 87)).setCell ⟨w.heap.size + 1, 0, none⟩ (.pointer (some ⟨q1, 0, none⟩))).setCell ⟨w.heap.size + 1, 1, none⟩ (.slice va1 K1 vc1)).setCell ⟨w.heap.size + 1, 2, none⟩ (.slice ha1 H1 hc1)).setCell ⟨w.heap.size + 1, 3, none⟩ (.pointer (some ⟨q2, 0, none⟩)))).drew.cell? ⟨w.heap.size + 1, 2, none⟩ = some (.slice ha1 H1 hc1) := E2
      have E3b : ((((((w6.alloc (.cells #[.pointer (some ⟨q2, 0, none⟩), .slice va2 K2 vc2, .slice ha2 H2 hc2] 87)).setCell ⟨w.heap.size + 1, 0, none⟩ (.pointer (some ⟨q1, 0, none⟩))).setCell ⟨w.heap.size + 1, 1, none⟩ (.slice va1 K1 vc1)).setCell ⟨w.heap.size + 1, 2, none⟩ (.slice ha1 H1 hc1)).setCell ⟨w.heap.size + 1, 3, none⟩ (.pointer (some ⟨q2, 0, none⟩)))).drew.cell? ⟨w.heap.size + 1, 3, none⟩ = some (.pointer (some ⟨q2, 0, none⟩)) := E3
      go_wp2_with fail
      refine wp_region_held_drew (S := (fun wq => (wq.cell? ⟨w4.heap.size, 0, none⟩ = some (.pointer (some ⟨q1, 0, none⟩)) ∧ wq.cell? ⟨w4.heap.size, 1, none⟩ = some (.slice va1 K1 vc1) ∧ wq.cell? ⟨w4.heap.size, 2, none⟩ = some (.slice ha1 H1 hc1)) ∧ (wq.cell? ⟨w6.heap.size, 0, none⟩ = some (.pointer (some ⟨q2, 0, none⟩)) ∧ wq.cell? ⟨w6.heap.size, 2, none⟩ = some (.slice ha2 H2 hc2)) ∧ wq.cell? ⟨w2.heap.size + 1, 3, none⟩ = some (.bool true))) (by kernel_rfl) hS0 (fun hHeld => ?_)
      refine wpAnyH_take (i := 0) (oi := o41_0) (v := ?v1) rfl (by kernel_rfl) (by kernel_rfl) (by kernel_rfl) (fun _ _ _ h => h) (Or.inl ⟨by rfl, ?h1⟩) hHeld ?r1
      case h1 => (intro w hSw; (try dsimp only at hSw); go_simp; try with_reducible rfl)
      try simp only [Act.put, List.setIfInBounds_toArray, List.set_cons_zero, List.set_cons_succ]
      refine wpAnyH_take (i := 1) (oi := o41_1) (v := ?v2) rfl (by kernel_rfl) (by kernel_rfl) (by kernel_rfl) (fun _ _ _ h => h) (Or.inl ⟨by rfl, ?h2⟩) hHeld ?r2
      case h2 => (intro w hSw; (try dsimp only at hSw); go_simp; try with_reducible rfl)
      try simp only [Act.put, List.setIfInBounds_toArray, List.set_cons_zero, List.set_cons_succ]
      refine wpAnyH_take (i := 2) (oi := o41_2) (v := ?v3) rfl (by kernel_rfl) (by kernel_rfl) (by kernel_rfl) (fun _ _ _ h => h) (Or.inl ⟨by rfl, ?h3⟩) hHeld ?r3
      case h3 => (intro w hSw; (try dsimp only at hSw); go_simp; try with_reducible rfl)
      try simp only [Act.put, List.setIfInBounds_toArray, List.set_cons_zero, List.set_cons_succ]
      refine wpAnyH_take (i := 3) (oi := o41_3) (v := ?v4) rfl (by kernel_rfl) (by kernel_rfl) (by kernel_rfl) (fun _ _ _ h => h) (Or.inl ⟨by rfl, ?h4⟩) hHeld ?r4
      case h4 => (intro w hSw; (try dsimp only at hSw); go_simp; try with_reducible rfl)
      try simp only [Act.put, List.setIfInBounds_toArray, List.set_cons_zero, List.set_cons_succ]
      refine wpAnyH_take (i := 4) (oi := o41_4) (v := ?v5) rfl (by kernel_rfl) (by kernel_rfl) (by kernel_rfl) (fun _ _ _ h => h) (Or.inl ⟨by rfl, ?h5⟩) hHeld ?r5
      case h5 => (intro w hSw; (try dsimp only at hSw); go_simp; try with_reducible rfl)
      try simp only [Act.put, List.setIfInBounds_toArray, List.set_cons_zero, List.set_cons_succ]
      refine wpAnyH_take (i := 5) (oi := o41_5) (v := ?v6) rfl (by kernel_rfl) (by kernel_rfl) (by kernel_rfl) (fun _ _ _ h => h) (Or.inl ⟨by rfl, ?h6⟩) hHeld ?r6
      case h6 => (intro w hSw; (try dsimp only at hSw); go_simp; try with_reducible rfl)
      try simp only [Act.put, List.setIfInBounds_toArray, List.set_cons_zero, List.set_cons_succ]
      refine wpAnyH_take (i := 6) (oi := o41_6) (v := ?v7) rfl (by kernel_rfl) (by kernel_rfl) (by kernel_rfl) (fun _ _ _ h => h) (Or.inl ⟨by rfl, ?h7⟩) hHeld ?r7
      case h7 => (intro w hSw; (try dsimp only at hSw); go_simp; try with_reducible rfl)
      try simp only [Act.put, List.setIfInBounds_toArray, List.set_cons_zero, List.set_cons_succ]
      refine wpAnyH_take (i := 7) (oi := o41_7) (v := ?v8) rfl (by kernel_rfl) (by kernel_rfl) (by kernel_rfl) (fun _ _ _ h => h) (Or.inl ⟨by rfl, ?h8⟩) hHeld ?r8
      case h8 => (intro w hSw; (try dsimp only at hSw); go_simp; try with_reducible rfl)
      try simp only [Act.put, List.setIfInBounds_toArray, List.set_cons_zero, List.set_cons_succ]
      refine wpAnyH_take (i := 8) (oi := o41_8) (v := undef) rfl (by kernel_rfl) (by kernel_rfl) (by kernel_rfl) (fun _ _ _ h => h) (Or.inr ⟨by rfl, rfl⟩) hHeld ?_
      try simp only [Act.put, List.setIfInBounds_toArray, List.set_cons_zero, List.set_cons_succ]
      refine wpAnyH_take (i := 9) (oi := o41_9) (v := undef) rfl (by kernel_rfl) (by kernel_rfl) (by kernel_rfl) (fun _ _ _ h => h) (Or.inr ⟨by rfl, rfl⟩) hHeld ?_
      try simp only [Act.put, List.setIfInBounds_toArray, List.set_cons_zero, List.set_cons_succ]
      refine wpAnyH_take (i := 10) (oi := o41_10) (v := ?v9) rfl (by kernel_rfl) (by kernel_rfl) (by kernel_rfl) (fun _ _ _ h => h) (Or.inl ⟨by rfl, ?h9⟩) hHeld ?r9
      case h9 => (intro w hSw; (try dsimp only at hSw); go_simp; try with_reducible rfl)
      try simp only [Act.put, List.setIfInBounds_toArray, List.set_cons_zero, List.set_cons_succ]
      refine wpAnyH_take (i := 11) (oi := o41_11) (v := ?v10) rfl (by kernel_rfl) (by kernel_rfl) (by kernel_rfl) (fun _ _ _ h => h) (Or.inl ⟨by rfl, ?h10⟩) hHeld ?r10
      case h10 => (intro w hSw; (try dsimp only at hSw); go_simp; try with_reducible rfl)
      try simp only [Act.put, List.setIfInBounds_toArray, List.set_cons_zero, List.set_cons_succ]
      refine wpAnyH_take (i := 12) (oi := o41_12) (v := undef) rfl (by kernel_rfl) (by kernel_rfl) (by kernel_rfl) (fun _ _ _ h => h) (Or.inr ⟨by rfl, rfl⟩) hHeld ?_
      try simp only [Act.put, List.setIfInBounds_toArray, List.set_cons_zero, List.set_cons_succ]
      refine wpAnyH_take (i := 13) (oi := o41_13) (v := ?v11) rfl (by kernel_rfl) (by kernel_rfl) (by kernel_rfl) (fun _ _ _ h => h) (Or.inl ⟨by rfl, ?h11⟩) hHeld ?r11
      case h11 => (intro w hSw; (try dsimp only at hSw); go_simp; try with_reducible rfl)
      try simp only [Act.put, List.setIfInBounds_toArray, List.set_cons_zero, List.set_cons_succ]
      refine wpAnyH_take (i := 14) (oi := o41_14) (v := ?v12) rfl (by kernel_rfl) (by kernel_rfl) (by kernel_rfl) (fun _ _ _ h => h) (Or.inl ⟨by rfl, ?h12⟩) hHeld ?r12
      case h12 => (intro w hSw; (try dsimp only at hSw); go_simp; try with_reducible rfl)
      try simp only [Act.put, List.setIfInBounds_toArray, List.set_cons_zero, List.set_cons_succ]
      refine wpAnyH_take (i := 15) (oi := o41_15) (v := undef) rfl (by kernel_rfl) (by kernel_rfl) (by kernel_rfl) (fun _ _ _ h => h) (Or.inr ⟨by rfl, rfl⟩) hHeld ?_
      try simp only [Act.put, List.setIfInBounds_toArray, List.set_cons_zero, List.set_cons_succ]
      refine wpAnyH_take (i := 16) (oi := o41_16) (v := undef) rfl (by kernel_rfl) (by kernel_rfl) (by kernel_rfl) (fun _ _ _ h => h) (Or.inr ⟨by rfl, rfl⟩) hHeld ?_
      try simp only [Act.put, List.setIfInBounds_toArray, List.set_cons_zero, List.set_cons_succ]
      refine wpAnyH_take (i := 17) (oi := o41_17) (v := undef) rfl (by kernel_rfl) (by kernel_rfl) (by kernel_rfl) (fun _ _ _ h => h) (Or.inr ⟨by rfl, rfl⟩) hHeld ?_
      try simp only [Act.put, List.setIfInBounds_toArray, List.set_cons_zero, List.set_cons_succ]
      refine wpAnyH_take (i := 18) (oi := o41_18) (v := undef) rfl (by kernel_rfl) (by kernel_rfl) (by kernel_rfl) (fun _ _ _ h => h) (Or.inr ⟨by rfl, rfl⟩) hHeld ?_
      try simp only [Act.put, List.setIfInBounds_toArray, List.set_cons_zero, List.set_cons_succ]
      refine wpAnyH_take (i := 19) (oi := o41_19) (v := ?v13) rfl (by kernel_rfl) (by kernel_rfl) (by kernel_rfl) (fun _ _ _ h => h) (Or.inl ⟨by rfl, ?h13⟩) hHeld ?r13
      case h13 => (intro w hSw; (try dsimp only at hSw); go_simp; try with_reducible rfl)
      try simp only [Act.put, List.setIfInBounds_toArray, List.set_cons_zero, List.set_cons_succ]
      refine wpAnyH_ready (rs := [20]) (by kernel_rfl) (by simp) ?_
      refine AllReadyH.cons (o := o41_20) rfl (fun K hK => ?_) AllReadyH.nil
      go_simp
      clear hHeld
      refine hK.out _ _ hS2b (fun hHeld => ?_)
      clear hK K
      try simp only [Act.put, List.setIfInBounds_toArray, List.set_cons_zero, List.set_cons_succ]
      refine wpAnyH_ready (rs := [21]) (by kernel_rfl) (by simp) ?_
      refine AllReadyH.cons (o := o41_21) rfl (fun K hK => ?_) AllReadyH.nil
      go_simp
      clear hHeld
      refine hK.out _ _ hS2b (fun hHeld => ?_)
      clear hK K
      try simp only [Act.put, List.setIfInBounds_toArray, List.set_cons_zero, List.set_cons_succ]
      refine wpAnyH_done (by kernel_rfl) ?_ _
      (try refine NoPanic.normal ?_)
      clear hHeld hS0
      go_wp2_with fail
      refine bodyPost_ret (v := .tuple #[.agg #[.pointer (some ⟨q1, 0, none⟩), .slice va1 K1 vc1, .slice ha1 H1 hc1, .pointer (some ⟨q2, 0, none⟩)], .bool false]) (by simp [results, Try.results41, go_sem, E0b, E1b, E2b, E3b]) rfl ?_
      exact ⟨_, _, _, _, _, _, _, _, false, rfl, HBF.out, HV2.out.symm⟩
    case false =>
      cases PL
      case false =>
        have HV2 := (show Hid (RB = false) from (by show RB = _; rw [HY4.out]; rfl))
        clear HY4
        go_wp2_with fail
        refine wp_region_held_drew (S := (fun wq => (wq.cell? ⟨w4.heap.size, 0, none⟩ = some (.pointer (some ⟨q1, 0, none⟩)) ∧ wq.cell? ⟨w4.heap.size, 1, none⟩ = some (.slice va1 K1 vc1) ∧ wq.cell? ⟨w4.heap.size, 2, none⟩ = some (.slice ha1 H1 hc1)) ∧ (wq.cell? ⟨w6.heap.size, 0, none⟩ = some (.pointer (some ⟨q2, 0, none⟩)) ∧ wq.cell? ⟨w6.heap.size, 2, none⟩ = some (.slice ha2 H2 hc2)) ∧ wq.cell? ⟨w2.heap.size + 1, 3, none⟩ = some (.bool false))) (by kernel_rfl) hS0 (fun hHeld => ?_)
        refine wpAnyH_take (i := 0) (oi := o41_0) (v := ?v14) rfl (by kernel_rfl) (by kernel_rfl) (by kernel_rfl) (fun _ _ _ h => h) (Or.inl ⟨by rfl, ?h14⟩) hHeld ?r14
        case h14 => (intro w hSw; (try dsimp only at hSw); go_simp; try with_reducible rfl)
        try simp only [Act.put, List.setIfInBounds_toArray, List.set_cons_zero, List.set_cons_succ]
        refine wpAnyH_take (i := 1) (oi := o41_1) (v := ?v15) rfl (by kernel_rfl) (by kernel_rfl) (by kernel_rfl) (fun _ _ _ h => h) (Or.inl ⟨by rfl, ?h15⟩) hHeld ?r15
        case h15 => (intro w hSw; (try dsimp only at hSw); go_simp; try with_reducible rfl)
        try simp only [Act.put, List.setIfInBounds_toArray, List.set_cons_zero, List.set_cons_succ]
        refine wpAnyH_take (i := 2) (oi := o41_2) (v := ?v16) rfl (by kernel_rfl) (by kernel_rfl) (by kernel_rfl) (fun _ _ _ h => h) (Or.inl ⟨by rfl, ?h16⟩) hHeld ?r16
        case h16 => (intro w hSw; (try dsimp only at hSw); go_simp; try with_reducible rfl)
        try simp only [Act.put, List.setIfInBounds_toArray, List.set_cons_zero, List.set_cons_succ]
        refine wpAnyH_take (i := 3) (oi := o41_3) (v := ?v17) rfl (by kernel_rfl) (by kernel_rfl) (by kernel_rfl) (fun _ _ _ h => h) (Or.inl ⟨by rfl, ?h17⟩) hHeld ?r17
        case h17 => (intro w hSw; (try dsimp only at hSw); go_simp; try with_reducible rfl)
        try simp only [Act.put, List.setIfInBounds_toArray, List.set_cons_zero, List.set_cons_succ]
        refine wpAnyH_take (i := 4) (oi := o41_4) (v := ?v18) rfl (by kernel_rfl) (by kernel_rfl) (by kernel_rfl) (fun _ _ _ h => h) (Or.inl ⟨by rfl, ?h18⟩) hHeld ?r18
        case h18 => (intro w hSw; (try dsimp only at hSw); go_simp; try with_reducible rfl)
        try simp only [Act.put, List.setIfInBounds_toArray, List.set_cons_zero, List.set_cons_succ]
        refine wpAnyH_take (i := 5) (oi := o41_5) (v := ?v19) rfl (by kernel_rfl) (by kernel_rfl) (by kernel_rfl) (fun _ _ _ h => h) (Or.inl ⟨by rfl, ?h19⟩) hHeld ?r19
        case h19 => (intro w hSw; (try dsimp only at hSw); go_simp; try with_reducible rfl)
        try simp only [Act.put, List.setIfInBounds_toArray, List.set_cons_zero, List.set_cons_succ]
        refine wpAnyH_take (i := 6) (oi := o41_6) (v := ?v20) rfl (by kernel_rfl) (by kernel_rfl) (by kernel_rfl) (fun _ _ _ h => h) (Or.inl ⟨by rfl, ?h20⟩) hHeld ?r20
        case h20 => (intro w hSw; (try dsimp only at hSw); go_simp; try with_reducible rfl)
        try simp only [Act.put, List.setIfInBounds_toArray, List.set_cons_zero, List.set_cons_succ]
        refine wpAnyH_take (i := 7) (oi := o41_7) (v := ?v21) rfl (by kernel_rfl) (by kernel_rfl) (by kernel_rfl) (fun _ _ _ h => h) (Or.inl ⟨by rfl, ?h21⟩) hHeld ?r21
        case h21 => (intro w hSw; (try dsimp only at hSw); go_simp; try with_reducible rfl)
        try simp only [Act.put, List.setIfInBounds_toArray, List.set_cons_zero, List.set_cons_succ]
        refine wpAnyH_take (i := 8) (oi := o41_8) (v := ?v22) rfl (by kernel_rfl) (by kernel_rfl) (by kernel_rfl) (fun _ _ _ h => h) (Or.inl ⟨by rfl, ?h22⟩) hHeld ?r22
        case h22 => (intro w hSw; (try dsimp only at hSw); go_simp; try with_reducible rfl)
        try simp only [Act.put, List.setIfInBounds_toArray, List.set_cons_zero, List.set_cons_succ]
        refine wpAnyH_ready (rs := [9]) (by kernel_rfl) (by simp) ?_
        refine AllReadyH.cons (o := o41_9) rfl (fun K hK => ?_) AllReadyH.nil
        go_simp
        refine Calls.mono HPL.out ?_
        rintro e w3 ⟨rfl, hb3⟩
        dsimp only
        obtain ⟨hS1, ⟨Y0, Y1, Y2, Y3⟩, ⟨F0, F1, F2, F3⟩, hS2, ⟨E0, E1, E2, E3⟩, hbf⟩ := HSK.out w3 hb3
        have HBF := (show Hid _ from hbf)
        clear hbf hb3
        clear hHeld
        refine hK.out _ _ hS1 (fun hHeld => ?_)
        clear hK K
        try simp only [Act.put, List.setIfInBounds_toArray, List.set_cons_zero, List.set_cons_succ]
        refine wpAnyH_take (i := 10) (oi := o41_10) (v := ?v23) rfl (by kernel_rfl) (by kernel_rfl) (by kernel_rfl) (fun _ _ _ h => h) (Or.inl ⟨by rfl, ?h23⟩) hHeld ?r23
        case h23 => (intro w hSw; (try dsimp only at hSw); go_simp; try with_reducible rfl)
        try simp only [Act.put, List.setIfInBounds_toArray, List.set_cons_zero, List.set_cons_succ]
        refine wpAnyH_take (i := 11) (oi := o41_11) (v := ?v24) rfl (by kernel_rfl) (by kernel_rfl) (by kernel_rfl) (fun _ _ _ h => h) (Or.inl ⟨by rfl, ?h24⟩) hHeld ?r24
        case h24 => (intro w hSw; (try dsimp only at hSw); go_simp; try with_reducible rfl)
        try simp only [Act.put, List.setIfInBounds_toArray, List.set_cons_zero, List.set_cons_succ]
        refine wpAnyH_take (i := 12) (oi := o41_12) (v := undef) rfl (by kernel_rfl) (by kernel_rfl) (by kernel_rfl) (fun _ _ _ h => h) (Or.inr ⟨by rfl, rfl⟩) hHeld ?_
        try simp only [Act.put, List.setIfInBounds_toArray, List.set_cons_zero, List.set_cons_succ]
        refine wpAnyH_take (i := 13) (oi := o41_13) (v := ?v25) rfl (by kernel_rfl) (by kernel_rfl) (by kernel_rfl) (fun _ _ _ h => h) (Or.inl ⟨by rfl, ?h25⟩) hHeld ?r25
        case h25 => (intro w hSw; (try dsimp only at hSw); go_simp; try with_reducible rfl)
        try simp only [Act.put, List.setIfInBounds_toArray, List.set_cons_zero, List.set_cons_succ]
        refine wpAnyH_take (i := 14) (oi := o41_14) (v := ?v26) rfl (by kernel_rfl) (by kernel_rfl) (by kernel_rfl) (fun _ _ _ h => h) (Or.inl ⟨by rfl, ?h26⟩) hHeld ?r26
        case h26 => (intro w hSw; (try dsimp only at hSw); go_simp; try with_reducible rfl)
        try simp only [Act.put, List.setIfInBounds_toArray, List.set_cons_zero, List.set_cons_succ]
        refine wpAnyH_take (i := 15) (oi := o41_15) (v := undef) rfl (by kernel_rfl) (by kernel_rfl) (by kernel_rfl) (fun _ _ _ h => h) (Or.inr ⟨by rfl, rfl⟩) hHeld ?_
        try simp only [Act.put, List.setIfInBounds_toArray, List.set_cons_zero, List.set_cons_succ]
        refine wpAnyH_take (i := 16) (oi := o41_16) (v := undef) rfl (by kernel_rfl) (by kernel_rfl) (by kernel_rfl) (fun _ _ _ h => h) (Or.inr ⟨by rfl, rfl⟩) hHeld ?_
        try simp only [Act.put, List.setIfInBounds_toArray, List.set_cons_zero, List.set_cons_succ]
        refine wpAnyH_take (i := 17) (oi := o41_17) (v := undef) rfl (by kernel_rfl) (by kernel_rfl) (by kernel_rfl) (fun _ _ _ h => h) (Or.inr ⟨by rfl, rfl⟩) hHeld ?_
        try simp only [Act.put, List.setIfInBounds_toArray, List.set_cons_zero, List.set_cons_succ]
        refine wpAnyH_take (i := 18) (oi := o41_18) (v := undef) rfl (by kernel_rfl) (by kernel_rfl) (by kernel_rfl) (fun _ _ _ h => h) (Or.inr ⟨by rfl, rfl⟩) hHeld ?_
        try simp only [Act.put, List.setIfInBounds_toArray, List.set_cons_zero, List.set_cons_succ]
        refine wpAnyH_take (i := 19) (oi := o41_19) (v := ?v27) rfl (by kernel_rfl) (by kernel_rfl) (by kernel_rfl) (fun _ _ _ h => h) (Or.inl ⟨by rfl, ?h27⟩) hHeld ?r27
        case h27 => (intro w hSw; (try dsimp only at hSw); go_simp; try with_reducible rfl)
        try simp only [Act.put, List.setIfInBounds_toArray, List.set_cons_zero, List.set_cons_succ]
        refine wpAnyH_ready (rs := [20]) (by kernel_rfl) (by simp) ?_
        refine AllReadyH.cons (o := o41_20) rfl (fun K hK => ?_) AllReadyH.nil
        go_simp
        clear hHeld
        refine hK.out _ _ hS2 (fun hHeld => ?_)
        clear hK K
        try simp only [Act.put, List.setIfInBounds_toArray, List.set_cons_zero, List.set_cons_succ]
        refine wpAnyH_ready (rs := [21]) (by kernel_rfl) (by simp) ?_
        refine AllReadyH.cons (o := o41_21) rfl (fun K hK => ?_) AllReadyH.nil
        go_simp
        clear hHeld
        refine hK.out _ _ hS2 (fun hHeld => ?_)
        clear hK K
        try simp only [Act.put, List.setIfInBounds_toArray, List.set_cons_zero, List.set_cons_succ]
        refine wpAnyH_done (by kernel_rfl) ?_ _
        (try refine NoPanic.normal ?_)
        clear hHeld hS0
        go_wp2_with fail
        refine bodyPost_ret (v := .tuple #[.agg #[.pointer (some ⟨q1, 0, none⟩), .slice va1 K1 vc1, .slice ha1 H1 hc1, .pointer (some ⟨q2, 0, none⟩)], .bool false]) (by simp [results, Try.results41, go_sem, E0, E1, E2, E3]) rfl ?_
        exact ⟨_, _, _, _, _, _, _, _, false, rfl, HBF.out, HV2.out.symm⟩
      case true =>
        by_cases hh2 : H2 = 0
        case pos =>
          have hq2 : ((H2 : Int) == (0 : Int)) = true := by simp; omega
          have HV2 := (show Hid (RB = true) from (by show RB = _; rw [HY4.out, decide_eq_true hh2]; rfl))
          clear HY4
          clear hh2
          go_wp2_with fail
          refine wp_region_held_drew (S := (fun wq => (wq.cell? ⟨w4.heap.size, 0, none⟩ = some (.pointer (some ⟨q1, 0, none⟩)) ∧ wq.cell? ⟨w4.heap.size, 1, none⟩ = some (.slice va1 K1 vc1) ∧ wq.cell? ⟨w4.heap.size, 2, none⟩ = some (.slice ha1 H1 hc1)) ∧ (wq.cell? ⟨w6.heap.size, 0, none⟩ = some (.pointer (some ⟨q2, 0, none⟩)) ∧ wq.cell? ⟨w6.heap.size, 2, none⟩ = some (.slice ha2 H2 hc2)) ∧ wq.cell? ⟨w2.heap.size + 1, 3, none⟩ = some (.bool false))) (by kernel_rfl) hS0 (fun hHeld => ?_)
          refine wpAnyH_take (i := 0) (oi := o41_0) (v := ?v28) rfl (by kernel_rfl) (by kernel_rfl) (by kernel_rfl) (fun _ _ _ h => h) (Or.inl ⟨by rfl, ?h28⟩) hHeld ?r28
          case h28 => (intro w hSw; (try dsimp only at hSw); go_simp; try with_reducible rfl)
          try simp only [Act.put, List.setIfInBounds_toArray, List.set_cons_zero, List.set_cons_succ]
          refine wpAnyH_take (i := 1) (oi := o41_1) (v := ?v29) rfl (by kernel_rfl) (by kernel_rfl) (by kernel_rfl) (fun _ _ _ h => h) (Or.inl ⟨by rfl, ?h29⟩) hHeld ?r29
          case h29 => (intro w hSw; (try dsimp only at hSw); go_simp; try with_reducible rfl)
          try simp only [Act.put, List.setIfInBounds_toArray, List.set_cons_zero, List.set_cons_succ]
          refine wpAnyH_take (i := 2) (oi := o41_2) (v := ?v30) rfl (by kernel_rfl) (by kernel_rfl) (by kernel_rfl) (fun _ _ _ h => h) (Or.inl ⟨by rfl, ?h30⟩) hHeld ?r30
          case h30 => (intro w hSw; (try dsimp only at hSw); go_simp; try with_reducible rfl)
          try simp only [Act.put, List.setIfInBounds_toArray, List.set_cons_zero, List.set_cons_succ]
          refine wpAnyH_take (i := 3) (oi := o41_3) (v := ?v31) rfl (by kernel_rfl) (by kernel_rfl) (by kernel_rfl) (fun _ _ _ h => h) (Or.inl ⟨by rfl, ?h31⟩) hHeld ?r31
          case h31 => (intro w hSw; (try dsimp only at hSw); go_simp; try with_reducible rfl)
          try simp only [Act.put, List.setIfInBounds_toArray, List.set_cons_zero, List.set_cons_succ]
          refine wpAnyH_take (i := 4) (oi := o41_4) (v := ?v32) rfl (by kernel_rfl) (by kernel_rfl) (by kernel_rfl) (fun _ _ _ h => h) (Or.inl ⟨by rfl, ?h32⟩) hHeld ?r32
          case h32 => (intro w hSw; (try dsimp only at hSw); go_simp; try with_reducible rfl)
          try simp only [Act.put, List.setIfInBounds_toArray, List.set_cons_zero, List.set_cons_succ]
          refine wpAnyH_take (i := 5) (oi := o41_5) (v := ?v33) rfl (by kernel_rfl) (by kernel_rfl) (by kernel_rfl) (fun _ _ _ h => h) (Or.inl ⟨by rfl, ?h33⟩) hHeld ?r33
          case h33 => (intro w hSw; (try dsimp only at hSw); go_simp; try with_reducible rfl)
          try simp only [Act.put, List.setIfInBounds_toArray, List.set_cons_zero, List.set_cons_succ]
          refine wpAnyH_take (i := 6) (oi := o41_6) (v := ?v34) rfl (by kernel_rfl) (by kernel_rfl) (by kernel_rfl) (fun _ _ _ h => h) (Or.inl ⟨by rfl, ?h34⟩) hHeld ?r34
          case h34 => (intro w hSw; (try dsimp only at hSw); go_simp; try with_reducible rfl)
          try simp only [Act.put, List.setIfInBounds_toArray, List.set_cons_zero, List.set_cons_succ]
          refine wpAnyH_take (i := 7) (oi := o41_7) (v := ?v35) rfl (by kernel_rfl) (by kernel_rfl) (by kernel_rfl) (fun _ _ _ h => h) (Or.inl ⟨by rfl, ?h35⟩) hHeld ?r35
          case h35 => (intro w hSw; (try dsimp only at hSw); go_simp; try with_reducible rfl)
          try simp only [Act.put, List.setIfInBounds_toArray, List.set_cons_zero, List.set_cons_succ]
          refine wpAnyH_take (i := 8) (oi := o41_8) (v := ?v36) rfl (by kernel_rfl) (by kernel_rfl) (by kernel_rfl) (fun _ _ _ h => h) (Or.inl ⟨by rfl, ?h36⟩) hHeld ?r36
          case h36 => (intro w hSw; (try dsimp only at hSw); go_simp; try with_reducible rfl)
          try simp only [Act.put, List.setIfInBounds_toArray, List.set_cons_zero, List.set_cons_succ]
          refine wpAnyH_ready (rs := [9]) (by kernel_rfl) (by simp) ?_
          refine AllReadyH.cons (o := o41_9) rfl (fun K hK => ?_) AllReadyH.nil
          go_simp
          refine Calls.mono HPL.out ?_
          rintro e w3 ⟨rfl, hb3⟩
          dsimp only
          obtain ⟨hS1, ⟨Y0, Y1, Y2, Y3⟩, ⟨F0, F1, F2, F3⟩, hS2, ⟨E0, E1, E2, E3⟩, hbf⟩ := HSK.out w3 hb3
          have HBF := (show Hid _ from hbf)
          clear hbf hb3
          clear hHeld
          refine hK.out _ _ hS1 (fun hHeld => ?_)
          clear hK K
          try simp only [Act.put, List.setIfInBounds_toArray, List.set_cons_zero, List.set_cons_succ]
          refine wpAnyH_take (i := 10) (oi := o41_10) (v := ?v37) rfl (by kernel_rfl) (by kernel_rfl) (by kernel_rfl) (fun _ _ _ h => h) (Or.inl ⟨by rfl, ?h37⟩) hHeld ?r37
          case h37 => (intro w hSw; (try dsimp only at hSw); go_simp; try with_reducible rfl)
          try simp only [Act.put, List.setIfInBounds_toArray, List.set_cons_zero, List.set_cons_succ]
          refine wpAnyH_take (i := 11) (oi := o41_11) (v := ?v38) rfl (by kernel_rfl) (by kernel_rfl) (by kernel_rfl) (fun _ _ _ h => h) (Or.inl ⟨by rfl, ?h38⟩) hHeld ?r38
          case h38 => (intro w hSw; (try dsimp only at hSw); go_simp; try with_reducible rfl)
          try simp only [Act.put, List.setIfInBounds_toArray, List.set_cons_zero, List.set_cons_succ]
          refine wpAnyH_take (i := 12) (oi := o41_12) (v := ?v39) rfl (by kernel_rfl) (by kernel_rfl) (by kernel_rfl) (fun _ _ _ h => h) (Or.inl ⟨by rfl, ?h39⟩) hHeld ?r39
          case h39 => (intro w hSw; (try dsimp only at hSw); go_simp; try with_reducible rfl)
          try simp only [Act.put, List.setIfInBounds_toArray, List.set_cons_zero, List.set_cons_succ]
          refine wpAnyH_take (i := 13) (oi := o41_13) (v := ?v40) rfl (by kernel_rfl) (by kernel_rfl) (by kernel_rfl) (fun _ _ _ h => h) (Or.inl ⟨by rfl, ?h40⟩) hHeld ?r40
          case h40 => (intro w hSw; (try dsimp only at hSw); go_simp; try with_reducible rfl)
          try simp only [Act.put, List.setIfInBounds_toArray, List.set_cons_zero, List.set_cons_succ]
          refine wpAnyH_take (i := 14) (oi := o41_14) (v := ?v41) rfl (by kernel_rfl) (by kernel_rfl) (by kernel_rfl) (fun _ _ _ h => h) (Or.inl ⟨by rfl, ?h41⟩) hHeld ?r41
          case h41 => (intro w hSw; (try dsimp only at hSw); go_simp; try with_reducible rfl)
          try simp only [Act.put, List.setIfInBounds_toArray, List.set_cons_zero, List.set_cons_succ]
          refine wpAnyH_take (i := 15) (oi := o41_15) (v := ?v42) rfl (by kernel_rfl) (by kernel_rfl) (by kernel_rfl) (fun _ _ _ h => h) (Or.inl ⟨by rfl, ?h42⟩) hHeld ?r42
          case h42 => (intro w hSw; (try dsimp only at hSw); go_simp; try with_reducible rfl)
          try simp only [Act.put, List.setIfInBounds_toArray, List.set_cons_zero, List.set_cons_succ]
          refine wpAnyH_take (i := 16) (oi := o41_16) (v := ?v43) rfl (by kernel_rfl) (by kernel_rfl) (by kernel_rfl) (fun _ _ _ h => h) (Or.inl ⟨by rfl, ?h43⟩) hHeld ?r43
          case h43 => (intro w hSw; (try dsimp only at hSw); go_simp; try with_reducible rfl)
          try simp only [Act.put, List.setIfInBounds_toArray, List.set_cons_zero, List.set_cons_succ]
          refine wpAnyH_take (i := 17) (oi := o41_17) (v := ?v44) rfl (by kernel_rfl) (by kernel_rfl) (by kernel_rfl) (fun _ _ _ h => h) (Or.inl ⟨by rfl, ?h44⟩) hHeld ?r44
          case h44 => (intro w hSw; (try dsimp only at hSw); go_simp; try with_reducible rfl)
          try simp only [Act.put, List.setIfInBounds_toArray, List.set_cons_zero, List.set_cons_succ]
          refine wpAnyH_take (i := 18) (oi := o41_18) (v := ?v45) rfl (by kernel_rfl) (by kernel_rfl) (by kernel_rfl) (fun _ _ _ h => h) (Or.inl ⟨by rfl, ?h45⟩) hHeld ?r45
          case h45 => (intro w hSw; (try dsimp only at hSw); go_simp; try with_reducible rfl)
          try simp only [Act.put, List.setIfInBounds_toArray, List.set_cons_zero, List.set_cons_succ]
          refine wpAnyH_take (i := 19) (oi := o41_19) (v := ?v46) rfl (by kernel_rfl) (by kernel_rfl) (by kernel_rfl) (fun _ _ _ h => h) (Or.inl ⟨by rfl, ?h46⟩) hHeld ?r46
          case h46 => (intro w hSw; (try dsimp only at hSw); go_simp; try with_reducible rfl)
          try simp only [Act.put, List.setIfInBounds_toArray, List.set_cons_zero, List.set_cons_succ]
          refine wpAnyH_ready (rs := [20]) (by kernel_rfl) (by simp) ?_
          refine AllReadyH.cons (o := o41_20) rfl (fun K hK => ?_) AllReadyH.nil
          go_simp
          clear hHeld
          refine hK.out _ _ hS2 (fun hHeld => ?_)
          clear hK K
          try simp only [Act.put, List.setIfInBounds_toArray, List.set_cons_zero, List.set_cons_succ]
          refine wpAnyH_ready (rs := [21]) (by kernel_rfl) (by simp) ?_
          refine AllReadyH.cons (o := o41_21) rfl (fun K hK => ?_) AllReadyH.nil
          go_simp
          clear hHeld
          refine hK.out _ _ hS2 (fun hHeld => ?_)
          clear hK K
          try simp only [Act.put, List.setIfInBounds_toArray, List.set_cons_zero, List.set_cons_succ]
          refine wpAnyH_done (by kernel_rfl) ?_ _
          (try refine NoPanic.normal ?_)
          clear hHeld hS0
          go_wp2_with fail
          refine bodyPost_ret (v := .tuple #[.agg #[.pointer (some ⟨q1, 0, none⟩), .slice va1 K1 vc1, .slice ha1 H1 hc1, .pointer (some ⟨q2, 0, none⟩)], .bool true]) (by simp [results, Try.results41, go_sem, E0, E1, E2, E3]) rfl ?_
          exact ⟨_, _, _, _, _, _, _, _, true, rfl, HBF.out, HV2.out.symm⟩
        case neg =>
          have hq2 : ((H2 : Int) == (0 : Int)) = false := by simp; omega
          have HV2 := (show Hid (RB = false) from (by show RB = _; rw [HY4.out, decide_eq_false hh2]; rfl))
          clear HY4
          clear hh2
          go_wp2_with fail
          refine wp_region_held_drew (S := (fun wq => (wq.cell? ⟨w4.heap.size, 0, none⟩ = some (.pointer (some ⟨q1, 0, none⟩)) ∧ wq.cell? ⟨w4.heap.size, 1, none⟩ = some (.slice va1 K1 vc1) ∧ wq.cell? ⟨w4.heap.size, 2, none⟩ = some (.slice ha1 H1 hc1)) ∧ (wq.cell? ⟨w6.heap.size, 0, none⟩ = some (.pointer (some ⟨q2, 0, none⟩)) ∧ wq.cell? ⟨w6.heap.size, 2, none⟩ = some (.slice ha2 H2 hc2)) ∧ wq.cell? ⟨w2.heap.size + 1, 3, none⟩ = some (.bool false))) (by kernel_rfl) hS0 (fun hHeld => ?_)
          refine wpAnyH_take (i := 0) (oi := o41_0) (v := ?v47) rfl (by kernel_rfl) (by kernel_rfl) (by kernel_rfl) (fun _ _ _ h => h) (Or.inl ⟨by rfl, ?h47⟩) hHeld ?r47
          case h47 => (intro w hSw; (try dsimp only at hSw); go_simp; try with_reducible rfl)
          try simp only [Act.put, List.setIfInBounds_toArray, List.set_cons_zero, List.set_cons_succ]
          refine wpAnyH_take (i := 1) (oi := o41_1) (v := ?v48) rfl (by kernel_rfl) (by kernel_rfl) (by kernel_rfl) (fun _ _ _ h => h) (Or.inl ⟨by rfl, ?h48⟩) hHeld ?r48
          case h48 => (intro w hSw; (try dsimp only at hSw); go_simp; try with_reducible rfl)
          try simp only [Act.put, List.setIfInBounds_toArray, List.set_cons_zero, List.set_cons_succ]
          refine wpAnyH_take (i := 2) (oi := o41_2) (v := ?v49) rfl (by kernel_rfl) (by kernel_rfl) (by kernel_rfl) (fun _ _ _ h => h) (Or.inl ⟨by rfl, ?h49⟩) hHeld ?r49
          case h49 => (intro w hSw; (try dsimp only at hSw); go_simp; try with_reducible rfl)
          try simp only [Act.put, List.setIfInBounds_toArray, List.set_cons_zero, List.set_cons_succ]
          refine wpAnyH_take (i := 3) (oi := o41_3) (v := ?v50) rfl (by kernel_rfl) (by kernel_rfl) (by kernel_rfl) (fun _ _ _ h => h) (Or.inl ⟨by rfl, ?h50⟩) hHeld ?r50
          case h50 => (intro w hSw; (try dsimp only at hSw); go_simp; try with_reducible rfl)
          try simp only [Act.put, List.setIfInBounds_toArray, List.set_cons_zero, List.set_cons_succ]
          refine wpAnyH_take (i := 4) (oi := o41_4) (v := ?v51) rfl (by kernel_rfl) (by kernel_rfl) (by kernel_rfl) (fun _ _ _ h => h) (Or.inl ⟨by rfl, ?h51⟩) hHeld ?r51
          case h51 => (intro w hSw; (try dsimp only at hSw); go_simp; try with_reducible rfl)
          try simp only [Act.put, List.setIfInBounds_toArray, List.set_cons_zero, List.set_cons_succ]
          refine wpAnyH_take (i := 5) (oi := o41_5) (v := ?v52) rfl (by kernel_rfl) (by kernel_rfl) (by kernel_rfl) (fun _ _ _ h => h) (Or.inl ⟨by rfl, ?h52⟩) hHeld ?r52
          case h52 => (intro w hSw; (try dsimp only at hSw); go_simp; try with_reducible rfl)
          try simp only [Act.put, List.setIfInBounds_toArray, List.set_cons_zero, List.set_cons_succ]
          refine wpAnyH_take (i := 6) (oi := o41_6) (v := ?v53) rfl (by kernel_rfl) (by kernel_rfl) (by kernel_rfl) (fun _ _ _ h => h) (Or.inl ⟨by rfl, ?h53⟩) hHeld ?r53
          case h53 => (intro w hSw; (try dsimp only at hSw); go_simp; try with_reducible rfl)
          try simp only [Act.put, List.setIfInBounds_toArray, List.set_cons_zero, List.set_cons_succ]
          refine wpAnyH_take (i := 7) (oi := o41_7) (v := ?v54) rfl (by kernel_rfl) (by kernel_rfl) (by kernel_rfl) (fun _ _ _ h => h) (Or.inl ⟨by rfl, ?h54⟩) hHeld ?r54
          case h54 => (intro w hSw; (try dsimp only at hSw); go_simp; try with_reducible rfl)
          try simp only [Act.put, List.setIfInBounds_toArray, List.set_cons_zero, List.set_cons_succ]
          refine wpAnyH_take (i := 8) (oi := o41_8) (v := ?v55) rfl (by kernel_rfl) (by kernel_rfl) (by kernel_rfl) (fun _ _ _ h => h) (Or.inl ⟨by rfl, ?h55⟩) hHeld ?r55
          case h55 => (intro w hSw; (try dsimp only at hSw); go_simp; try with_reducible rfl)
          try simp only [Act.put, List.setIfInBounds_toArray, List.set_cons_zero, List.set_cons_succ]
          refine wpAnyH_ready (rs := [9]) (by kernel_rfl) (by simp) ?_
          refine AllReadyH.cons (o := o41_9) rfl (fun K hK => ?_) AllReadyH.nil
          go_simp
          refine Calls.mono HPL.out ?_
          rintro e w3 ⟨rfl, hb3⟩
          dsimp only
          obtain ⟨hS1, ⟨Y0, Y1, Y2, Y3⟩, ⟨F0, F1, F2, F3⟩, hS2, ⟨E0, E1, E2, E3⟩, hbf⟩ := HSK.out w3 hb3
          have HBF := (show Hid _ from hbf)
          clear hbf hb3
          clear hHeld
          refine hK.out _ _ hS1 (fun hHeld => ?_)
          clear hK K
          try simp only [Act.put, List.setIfInBounds_toArray, List.set_cons_zero, List.set_cons_succ]
          refine wpAnyH_take (i := 10) (oi := o41_10) (v := ?v56) rfl (by kernel_rfl) (by kernel_rfl) (by kernel_rfl) (fun _ _ _ h => h) (Or.inl ⟨by rfl, ?h56⟩) hHeld ?r56
          case h56 => (intro w hSw; (try dsimp only at hSw); go_simp; try with_reducible rfl)
          try simp only [Act.put, List.setIfInBounds_toArray, List.set_cons_zero, List.set_cons_succ]
          refine wpAnyH_take (i := 11) (oi := o41_11) (v := ?v57) rfl (by kernel_rfl) (by kernel_rfl) (by kernel_rfl) (fun _ _ _ h => h) (Or.inl ⟨by rfl, ?h57⟩) hHeld ?r57
          case h57 => (intro w hSw; (try dsimp only at hSw); go_simp; try with_reducible rfl)
          try simp only [Act.put, List.setIfInBounds_toArray, List.set_cons_zero, List.set_cons_succ]
          refine wpAnyH_take (i := 12) (oi := o41_12) (v := ?v58) rfl (by kernel_rfl) (by kernel_rfl) (by kernel_rfl) (fun _ _ _ h => h) (Or.inl ⟨by rfl, ?h58⟩) hHeld ?r58
          case h58 => (intro w hSw; (try dsimp only at hSw); go_simp; try with_reducible rfl)
          try simp only [Act.put, List.setIfInBounds_toArray, List.set_cons_zero, List.set_cons_succ]
          refine wpAnyH_take (i := 13) (oi := o41_13) (v := ?v59) rfl (by kernel_rfl) (by kernel_rfl) (by kernel_rfl) (fun _ _ _ h => h) (Or.inl ⟨by rfl, ?h59⟩) hHeld ?r59
          case h59 => (intro w hSw; (try dsimp only at hSw); go_simp; try with_reducible rfl)
          try simp only [Act.put, List.setIfInBounds_toArray, List.set_cons_zero, List.set_cons_succ]
          refine wpAnyH_take (i := 14) (oi := o41_14) (v := ?v60) rfl (by kernel_rfl) (by kernel_rfl) (by kernel_rfl) (fun _ _ _ h => h) (Or.inl ⟨by rfl, ?h60⟩) hHeld ?r60
          case h60 => (intro w hSw; (try dsimp only at hSw); go_simp; try with_reducible rfl)
          try simp only [Act.put, List.setIfInBounds_toArray, List.set_cons_zero, List.set_cons_succ]
          refine wpAnyH_take (i := 15) (oi := o41_15) (v := ?v61) rfl (by kernel_rfl) (by kernel_rfl) (by kernel_rfl) (fun _ _ _ h => h) (Or.inl ⟨by rfl, ?h61⟩) hHeld ?r61
          case h61 => (intro w hSw; (try dsimp only at hSw); go_simp; try with_reducible rfl)
          try simp only [Act.put, List.setIfInBounds_toArray, List.set_cons_zero, List.set_cons_succ]
          refine wpAnyH_take (i := 16) (oi := o41_16) (v := ?v62) rfl (by kernel_rfl) (by kernel_rfl) (by kernel_rfl) (fun _ _ _ h => h) (Or.inl ⟨by rfl, ?h62⟩) hHeld ?r62
          case h62 => (intro w hSw; (try dsimp only at hSw); go_simp; try with_reducible rfl)
          try simp only [Act.put, List.setIfInBounds_toArray, List.set_cons_zero, List.set_cons_succ]
          refine wpAnyH_take (i := 17) (oi := o41_17) (v := ?v63) rfl (by kernel_rfl) (by kernel_rfl) (by kernel_rfl) (fun _ _ _ h => h) (Or.inl ⟨by rfl, ?h63⟩) hHeld ?r63
          case h63 => (intro w hSw; (try dsimp only at hSw); go_simp; try with_reducible rfl)
          try simp only [Act.put, List.setIfInBounds_toArray, List.set_cons_zero, List.set_cons_succ]
          refine wpAnyH_take (i := 18) (oi := o41_18) (v := ?v64) rfl (by kernel_rfl) (by kernel_rfl) (by kernel_rfl) (fun _ _ _ h => h) (Or.inl ⟨by rfl, ?h64⟩) hHeld ?r64
          case h64 => (intro w hSw; (try dsimp only at hSw); go_simp; try with_reducible rfl)
          try simp only [Act.put, List.setIfInBounds_toArray, List.set_cons_zero, List.set_cons_succ]
          refine wpAnyH_take (i := 19) (oi := o41_19) (v := ?v65) rfl (by kernel_rfl) (by kernel_rfl) (by kernel_rfl) (fun _ _ _ h => h) (Or.inl ⟨by rfl, ?h65⟩) hHeld ?r65
          case h65 => (intro w hSw; (try dsimp only at hSw); go_simp; try with_reducible rfl)
          try simp only [Act.put, List.setIfInBounds_toArray, List.set_cons_zero, List.set_cons_succ]
          refine wpAnyH_ready (rs := [20]) (by kernel_rfl) (by simp) ?_
          refine AllReadyH.cons (o := o41_20) rfl (fun K hK => ?_) AllReadyH.nil
          go_simp
          clear hHeld
          refine hK.out _ _ hS2 (fun hHeld => ?_)
          clear hK K
          try simp only [Act.put, List.setIfInBounds_toArray, List.set_cons_zero, List.set_cons_succ]
          refine wpAnyH_ready (rs := [21]) (by kernel_rfl) (by simp) ?_
          refine AllReadyH.cons (o := o41_21) rfl (fun K hK => ?_) AllReadyH.nil
          go_simp
          clear hHeld
          refine hK.out _ _ hS2 (fun hHeld => ?_)
          clear hK K
          try simp only [Act.put, List.setIfInBounds_toArray, List.set_cons_zero, List.set_cons_succ]
          refine wpAnyH_done (by kernel_rfl) ?_ _
          (try refine NoPanic.normal ?_)
          clear hHeld hS0
          go_wp2_with fail
          refine bodyPost_ret (v := .tuple #[.agg #[.pointer (some ⟨q1, 0, none⟩), .slice va1 K1 vc1, .slice ha1 H1 hc1, .pointer (some ⟨q2, 0, none⟩)], .bool false]) (by simp [results, Try.results41, go_sem, E0, E1, E2, E3]) rfl ?_
          exact ⟨_, _, _, _, _, _, _, _, false, rfl, HBF.out, HV2.out.symm⟩
  case neg =>
    have hkq : ((K1 : Int) == (K2 : Int)) = false := by simp; omega
    have HY4 := (show Hid (RB = (!FB && (PL && (false && decide (H2 = 0))))) from (by show RB = _; rw [HY3.out, decide_eq_false hkk]))
    clear HY3 hkk
    cases FB
    case true =>
      obtain ⟨hS1, ⟨Y0, Y1, Y2, Y3⟩, ⟨F0, F1, F2, F3⟩, hS2, ⟨E0, E1, E2, E3⟩, hbf⟩ := HSK.out (w6.alloc (.cells #[.pointer (some ⟨q2, 0, none⟩), .slice va2 K2 vc2, .slice ha2 H2 hc2] 87)).drew (Below.refl _ _)
      have HBF := (show Hid _ from hbf)
      have HV2 := (show Hid (RB = false) from HY4.out)
      clear hbf HSK HPL HY4 hS1
      have Y0c : (w6.alloc (.cells #[.pointer (some ⟨q2, 0, none⟩), .slice va2 K2 vc2, .slice ha2 H2 hc2] 87)).cell? ⟨w.heap.size + 1, 0, none⟩ = some (.pointer none) := Y0
      have F0c : (w6.alloc (.cells #[.pointer (some ⟨q2, 0, none⟩), .slice va2 K2 vc2, .slice ha2 H2 hc2] 87)).frozen? ⟨w.heap.size + 1, 0, none⟩ = false := F0
      have Y1c : (w6.alloc (.cells #[.pointer (some ⟨q2, 0, none⟩), .slice va2 K2 vc2, .slice ha2 H2 hc2] 87)).cell? ⟨w.heap.size + 1, 1, none⟩ = some (.slice none 0 0) := Y1
      have F1c : (w6.alloc (.cells #[.pointer (some ⟨q2, 0, none⟩), .slice va2 K2 vc2, .slice ha2 H2 hc2] 87)).frozen? ⟨w.heap.size + 1, 1, none⟩ = false := F1
      have Y2c : (w6.alloc (.cells #[.pointer (some ⟨q2, 0, none⟩), .slice va2 K2 vc2, .slice ha2 H2 hc2] 87)).cell? ⟨w.heap.size + 1, 2, none⟩ = some (.slice none 0 0) := Y2
      have F2c : (w6.alloc (.cells #[.pointer (some ⟨q2, 0, none⟩), .slice va2 K2 vc2, .slice ha2 H2 hc2] 87)).frozen? ⟨w.heap.size + 1, 2, none⟩ = false := F2
      have Y3c : (w6.alloc (.cells #[.pointer (some ⟨q2, 0, none⟩), .slice va2 K2 vc2, .slice ha2 H2 hc2] 87)).cell? ⟨w.heap.size + 1, 3, none⟩ = some (.pointer none) := Y3
      have F3c : (w6.alloc (.cells #[.pointer (some ⟨q2, 0, none⟩), .slice va2 K2 vc2, .slice ha2 H2 hc2] 87)).frozen? ⟨w.heap.size + 1, 3, none⟩ = false := F3
      have hS2b : (((((((w6.alloc (.cells #[.pointer (some ⟨q2, 0, none⟩), .slice va2 K2 vc2, .slice ha2 H2 hc2] 87)).setCell ⟨w.heap.size + 1, 0, none⟩ (.pointer (some ⟨q1, 0, none⟩))).setCell ⟨w.heap.size + 1, 1, none⟩ (.slice va1 K1 vc1)).setCell ⟨w.heap.size + 1, 2, none⟩ (.slice ha1 H1 hc1)).setCell ⟨w.heap.size + 1, 3, none⟩ (.pointer (some ⟨q2, 0, none⟩)))).drew.cell? ⟨w4.heap.size, 0, none⟩ = some (.pointer (some ⟨q1, 0, none⟩)) ∧ ((((((w6.alloc (.cells #[.pointer (some ⟨q2, 0, none⟩), .slice va2 K2 vc2, .slice ha2 H2 hc2] 87)).setCell ⟨w.heap.size + 1, 0, none⟩ (.pointer (some ⟨q1, 0, none⟩))).setCell ⟨w.heap.size + 1, 1, none⟩ (.slice va1 K1 vc1)).setCell ⟨w.heap.size + 1, 2, none⟩ (.slice ha1 H1 hc1)).setCell ⟨w.heap.size + 1, 3, none⟩ (.pointer (some ⟨q2, 0, none⟩)))).drew.cell? ⟨w4.heap.size, 1, none⟩ = some (.slice va1 K1 vc1) ∧ ((((((w6.alloc (.cells #[.pointer (some ⟨q2, 0, none⟩), .slice va2 K2 vc2, .slice ha2 H2 hc2] 87)).setCell ⟨w.heap.size + 1, 0, none⟩ (.pointer (some ⟨q1, 0, none⟩))).setCell ⟨w.heap.size + 1, 1, none⟩ (.slice va1 K1 vc1)).setCell ⟨w.heap.size + 1, 2, none⟩ (.slice ha1 H1 hc1)).setCell ⟨w.heap.size + 1, 3, none⟩ (.pointer (some ⟨q2, 0, none⟩)))).drew.cell? ⟨w4.heap.size, 2, none⟩ = some (.slice ha1 H1 hc1)) ∧ (((((((w6.alloc (.cells #[.pointer (some ⟨q2, 0, none⟩), .slice va2 K2 vc2, .slice ha2 H2 hc2] 87)).setCell ⟨w.heap.size + 1, 0, none⟩ (.pointer (some ⟨q1, 0, none⟩))).setCell ⟨w.heap.size + 1, 1, none⟩ (.slice va1 K1 vc1)).setCell ⟨w.heap.size + 1, 2, none⟩ (.slice ha1 H1 hc1)).setCell ⟨w.heap.size + 1, 3, none⟩ (.pointer (some ⟨q2, 0, none⟩)))).drew.cell? ⟨w6.heap.size, 0, none⟩ = some (.pointer (some ⟨q2, 0, none⟩)) ∧ ((((((w6.alloc (.cells #[.pointer (some ⟨q2, 0, none⟩), .slice va2 K2 vc2, .slice ha2 H2 hc2] 87)).setCell ⟨w.heap.size + 1, 0, none⟩ (.pointer (some ⟨q1, 0, none⟩))).setCell ⟨w.heap.size + 1, 1, none⟩ (.slice va1 K1 vc1)).setCell ⟨w.heap.size + 1, 2, none⟩ (.slice ha1 H1 hc1)).setCell ⟨w.heap.size + 1, 3, none⟩ (.pointer (some ⟨q2, 0, none⟩)))).drew.cell? ⟨w6.heap.size, 2, none⟩ = some (.slice ha2 H2 hc2)) ∧ ((((((w6.alloc (.cells #[.pointer (some ⟨q2, 0, none⟩), .slice va2 K2 vc2, .slice ha2 H2 hc2] 87)).setCell ⟨w.heap.size + 1, 0, none⟩ (.pointer (some ⟨q1, 0, none⟩))).setCell ⟨w.heap.size + 1, 1, none⟩ (.slice va1 K1 vc1)).setCell ⟨w.heap.size + 1, 2, none⟩ (.slice ha1 H1 hc1)).setCell ⟨w.heap.size + 1, 3, none⟩ (.pointer (some ⟨q2, 0, none⟩)))).drew.cell? ⟨w2.heap.size + 1, 3, none⟩ = some (.bool true) := hS2
      have E0b : ((((((w6.alloc (.cells #[.pointer (some ⟨q2, 0, none⟩), .slice va2 K2 vc2, .slice ha2 H2 hc2] 87)).setCell ⟨w.heap.size + 1, 0, none⟩ (.pointer (some ⟨q1, 0, none⟩))).setCell ⟨w.heap.size + 1, 1, none⟩ (.slice va1 K1 vc1)).setCell ⟨w.heap.size + 1, 2, none⟩ (.slice ha1 H1 hc1)).setCell ⟨w.heap.size + 1, 3, none⟩ (.pointer (some ⟨q2, 0, none⟩)))).drew.cell? ⟨w.heap.size + 1, 0, none⟩ = some (.pointer (some ⟨q1, 0, none⟩)) := E0
      have E1b : ((((((w6.alloc (.cells #[.pointer (some ⟨q2, 0, none⟩), .slice va2 K2 vc2, .slice ha2 H2 hc2] 87)).setCell ⟨w.heap.size + 1, 0, none⟩ (.pointer (some ⟨q1, 0, none⟩))).setCell ⟨w.heap.size + 1, 1, none⟩ (.slice va1 K1 vc1)).setCell ⟨w.heap.size + 1, 2, none⟩ (.slice ha1 H1 hc1)).setCell ⟨w.heap.size + 1, 3, none⟩ (.pointer (some ⟨q2, 0, none⟩)))).drew.cell? ⟨w.heap.size + 1, 1, none⟩ = some (.slice va1 K1 vc1) := E1
      have E2b : ((((((w6.alloc (.cells #[.pointer (some ⟨q2, 0, none⟩), .slice va2 K2 vc2, .slice ha2 H2 hc2] 87)).setCell ⟨w.heap.size + 1, 0, none⟩ (.pointer (some ⟨q1, 0, none⟩))).setCell ⟨w.heap.size + 1, 1, none⟩ (.slice va1 K1 vc1)).setCell ⟨w.heap.size + 1, 2, none⟩ (.slice ha1 H1 hc1)).setCell ⟨w.heap.size + 1, 3, none⟩ (.pointer (some ⟨q2, 0, none⟩)))).drew.cell? ⟨w.heap.size + 1, 2, none⟩ = some (.slice ha1 H1 hc1) := E2
      have E3b : ((((((w6.alloc (.cells #[.pointer (some ⟨q2, 0, none⟩), .slice va2 K2 vc2, .slice ha2 H2 hc2] 87)).setCell ⟨w.heap.size + 1, 0, none⟩ (.pointer (some ⟨q1, 0, none⟩))).setCell ⟨w.heap.size + 1, 1, none⟩ (.slice va1 K1 vc1)).setCell ⟨w.heap.size + 1, 2, none⟩ (.slice ha1 H1 hc1)).setCell ⟨w.heap.size + 1, 3, none⟩ (.pointer (some ⟨q2, 0, none⟩)))).drew.cell? ⟨w.heap.size + 1, 3, none⟩ = some (.pointer (some ⟨q2, 0, none⟩)) := E3
      go_wp2_with fail
      refine wp_region_held_drew (S := (fun wq => (wq.cell? ⟨w4.heap.size, 0, none⟩ = some (.pointer (some ⟨q1, 0, none⟩)) ∧ wq.cell? ⟨w4.heap.size, 1, none⟩ = some (.slice va1 K1 vc1) ∧ wq.cell? ⟨w4.heap.size, 2, none⟩ = some (.slice ha1 H1 hc1)) ∧ (wq.cell? ⟨w6.heap.size, 0, none⟩ = some (.pointer (some ⟨q2, 0, none⟩)) ∧ wq.cell? ⟨w6.heap.size, 2, none⟩ = some (.slice ha2 H2 hc2)) ∧ wq.cell? ⟨w2.heap.size + 1, 3, none⟩ = some (.bool true))) (by kernel_rfl) hS0 (fun hHeld => ?_)
      refine wpAnyH_take (i := 0) (oi := o41_0) (v := ?v66) rfl (by kernel_rfl) (by kernel_rfl) (by kernel_rfl) (fun _ _ _ h => h) (Or.inl ⟨by rfl, ?h66⟩) hHeld ?r66
      case h66 => (intro w hSw; (try dsimp only at hSw); go_simp; try with_reducible rfl)
      try simp only [Act.put, List.setIfInBounds_toArray, List.set_cons_zero, List.set_cons_succ]
      refine wpAnyH_take (i := 1) (oi := o41_1) (v := ?v67) rfl (by kernel_rfl) (by kernel_rfl) (by kernel_rfl) (fun _ _ _ h => h) (Or.inl ⟨by rfl, ?h67⟩) hHeld ?r67
      case h67 => (intro w hSw; (try dsimp only at hSw); go_simp; try with_reducible rfl)
      try simp only [Act.put, List.setIfInBounds_toArray, List.set_cons_zero, List.set_cons_succ]
      refine wpAnyH_take (i := 2) (oi := o41_2) (v := ?v68) rfl (by kernel_rfl) (by kernel_rfl) (by kernel_rfl) (fun _ _ _ h => h) (Or.inl ⟨by rfl, ?h68⟩) hHeld ?r68
      case h68 => (intro w hSw; (try dsimp only at hSw); go_simp; try with_reducible rfl)
      try simp only [Act.put, List.setIfInBounds_toArray, List.set_cons_zero, List.set_cons_succ]
      refine wpAnyH_take (i := 3) (oi := o41_3) (v := ?v69) rfl (by kernel_rfl) (by kernel_rfl) (by kernel_rfl) (fun _ _ _ h => h) (Or.inl ⟨by rfl, ?h69⟩) hHeld ?r69
      case h69 => (intro w hSw; (try dsimp only at hSw); go_simp; try with_reducible rfl)
      try simp only [Act.put, List.setIfInBounds_toArray, List.set_cons_zero, List.set_cons_succ]
      refine wpAnyH_take (i := 4) (oi := o41_4) (v := ?v70) rfl (by kernel_rfl) (by kernel_rfl) (by kernel_rfl) (fun _ _ _ h => h) (Or.inl ⟨by rfl, ?h70⟩) hHeld ?r70
      case h70 => (intro w hSw; (try dsimp only at hSw); go_simp; try with_reducible rfl)
      try simp only [Act.put, List.setIfInBounds_toArray, List.set_cons_zero, List.set_cons_succ]
      refine wpAnyH_take (i := 5) (oi := o41_5) (v := ?v71) rfl (by kernel_rfl) (by kernel_rfl) (by kernel_rfl) (fun _ _ _ h => h) (Or.inl ⟨by rfl, ?h71⟩) hHeld ?r71
      case h71 => (intro w hSw; (try dsimp only at hSw); go_simp; try with_reducible rfl)
      try simp only [Act.put, List.setIfInBounds_toArray, List.set_cons_zero, List.set_cons_succ]
      refine wpAnyH_take (i := 6) (oi := o41_6) (v := ?v72) rfl (by kernel_rfl) (by kernel_rfl) (by kernel_rfl) (fun _ _ _ h => h) (Or.inl ⟨by rfl, ?h72⟩) hHeld ?r72
      case h72 => (intro w hSw; (try dsimp only at hSw); go_simp; try with_reducible rfl)
      try simp only [Act.put, List.setIfInBounds_toArray, List.set_cons_zero, List.set_cons_succ]
      refine wpAnyH_take (i := 7) (oi := o41_7) (v := ?v73) rfl (by kernel_rfl) (by kernel_rfl) (by kernel_rfl) (fun _ _ _ h => h) (Or.inl ⟨by rfl, ?h73⟩) hHeld ?r73
      case h73 => (intro w hSw; (try dsimp only at hSw); go_simp; try with_reducible rfl)
      try simp only [Act.put, List.setIfInBounds_toArray, List.set_cons_zero, List.set_cons_succ]
      refine wpAnyH_take (i := 8) (oi := o41_8) (v := undef) rfl (by kernel_rfl) (by kernel_rfl) (by kernel_rfl) (fun _ _ _ h => h) (Or.inr ⟨by rfl, rfl⟩) hHeld ?_
      try simp only [Act.put, List.setIfInBounds_toArray, List.set_cons_zero, List.set_cons_succ]
      refine wpAnyH_take (i := 9) (oi := o41_9) (v := undef) rfl (by kernel_rfl) (by kernel_rfl) (by kernel_rfl) (fun _ _ _ h => h) (Or.inr ⟨by rfl, rfl⟩) hHeld ?_
      try simp only [Act.put, List.setIfInBounds_toArray, List.set_cons_zero, List.set_cons_succ]
      refine wpAnyH_take (i := 10) (oi := o41_10) (v := ?v74) rfl (by kernel_rfl) (by kernel_rfl) (by kernel_rfl) (fun _ _ _ h => h) (Or.inl ⟨by rfl, ?h74⟩) hHeld ?r74
      case h74 => (intro w hSw; (try dsimp only at hSw); go_simp; try with_reducible rfl)
      try simp only [Act.put, List.setIfInBounds_toArray, List.set_cons_zero, List.set_cons_succ]
      refine wpAnyH_take (i := 11) (oi := o41_11) (v := ?v75) rfl (by kernel_rfl) (by kernel_rfl) (by kernel_rfl) (fun _ _ _ h => h) (Or.inl ⟨by rfl, ?h75⟩) hHeld ?r75
      case h75 => (intro w hSw; (try dsimp only at hSw); go_simp; try with_reducible rfl)
      try simp only [Act.put, List.setIfInBounds_toArray, List.set_cons_zero, List.set_cons_succ]
      refine wpAnyH_take (i := 12) (oi := o41_12) (v := undef) rfl (by kernel_rfl) (by kernel_rfl) (by kernel_rfl) (fun _ _ _ h => h) (Or.inr ⟨by rfl, rfl⟩) hHeld ?_
      try simp only [Act.put, List.setIfInBounds_toArray, List.set_cons_zero, List.set_cons_succ]
      refine wpAnyH_take (i := 13) (oi := o41_13) (v := ?v76) rfl (by kernel_rfl) (by kernel_rfl) (by kernel_rfl) (fun _ _ _ h => h) (Or.inl ⟨by rfl, ?h76⟩) hHeld ?r76
      case h76 => (intro w hSw; (try dsimp only at hSw); go_simp; try with_reducible rfl)
      try simp only [Act.put, List.setIfInBounds_toArray, List.set_cons_zero, List.set_cons_succ]
      refine wpAnyH_take (i := 14) (oi := o41_14) (v := ?v77) rfl (by kernel_rfl) (by kernel_rfl) (by kernel_rfl) (fun _ _ _ h => h) (Or.inl ⟨by rfl, ?h77⟩) hHeld ?r77
      case h77 => (intro w hSw; (try dsimp only at hSw); go_simp; try with_reducible rfl)
      try simp only [Act.put, List.setIfInBounds_toArray, List.set_cons_zero, List.set_cons_succ]
      refine wpAnyH_take (i := 15) (oi := o41_15) (v := undef) rfl (by kernel_rfl) (by kernel_rfl) (by kernel_rfl) (fun _ _ _ h => h) (Or.inr ⟨by rfl, rfl⟩) hHeld ?_
      try simp only [Act.put, List.setIfInBounds_toArray, List.set_cons_zero, List.set_cons_succ]
      refine wpAnyH_take (i := 16) (oi := o41_16) (v := undef) rfl (by kernel_rfl) (by kernel_rfl) (by kernel_rfl) (fun _ _ _ h => h) (Or.inr ⟨by rfl, rfl⟩) hHeld ?_
      try simp only [Act.put, List.setIfInBounds_toArray, List.set_cons_zero, List.set_cons_succ]
      refine wpAnyH_take (i := 17) (oi := o41_17) (v := undef) rfl (by kernel_rfl) (by kernel_rfl) (by kernel_rfl) (fun _ _ _ h => h) (Or.inr ⟨by rfl, rfl⟩) hHeld ?_
      try simp only [Act.put, List.setIfInBounds_toArray, List.set_cons_zero, List.set_cons_succ]
      refine wpAnyH_take (i := 18) (oi := o41_18) (v := undef) rfl (by kernel_rfl) (by kernel_rfl) (by kernel_rfl) (fun _ _ _ h => h) (Or.inr ⟨by rfl, rfl⟩) hHeld ?_
      try simp only [Act.put, List.setIfInBounds_toArray, List.set_cons_zero, List.set_cons_succ]
      refine wpAnyH_take (i := 19) (oi := o41_19) (v := ?v78) rfl (by kernel_rfl) (by kernel_rfl) (by kernel_rfl) (fun _ _ _ h => h) (Or.inl ⟨by rfl, ?h78⟩) hHeld ?r78
      case h78 => (intro w hSw; (try dsimp only at hSw); go_simp; try with_reducible rfl)
      try simp only [Act.put, List.setIfInBounds_toArray, List.set_cons_zero, List.set_cons_succ]
      refine wpAnyH_ready (rs := [20]) (by kernel_rfl) (by simp) ?_
      refine AllReadyH.cons (o := o41_20) rfl (fun K hK => ?_) AllReadyH.nil
      go_simp
      clear hHeld
      refine hK.out _ _ hS2b (fun hHeld => ?_)
      clear hK K
      try simp only [Act.put, List.setIfInBounds_toArray, List.set_cons_zero, List.set_cons_succ]
      refine wpAnyH_ready (rs := [21]) (by kernel_rfl) (by simp) ?_
      refine AllReadyH.cons (o := o41_21) rfl (fun K hK => ?_) AllReadyH.nil
      go_simp
      clear hHeld
      refine hK.out _ _ hS2b (fun hHeld => ?_)
      clear hK K
      try simp only [Act.put, List.setIfInBounds_toArray, List.set_cons_zero, List.set_cons_succ]
      refine wpAnyH_done (by kernel_rfl) ?_ _
      (try refine NoPanic.normal ?_)
      clear hHeld hS0
      go_wp2_with fail
      refine bodyPost_ret (v := .tuple #[.agg #[.pointer (some ⟨q1, 0, none⟩), .slice va1 K1 vc1, .slice ha1 H1 hc1, .pointer (some ⟨q2, 0, none⟩)], .bool false]) (by simp [results, Try.results41, go_sem, E0b, E1b, E2b, E3b]) rfl ?_
      exact ⟨_, _, _, _, _, _, _, _, false, rfl, HBF.out, HV2.out.symm⟩
    case false =>
      cases PL
      case false =>
        have HV2 := (show Hid (RB = false) from (by show RB = _; rw [HY4.out]; rfl))
        clear HY4
        go_wp2_with fail
        refine wp_region_held_drew (S := (fun wq => (wq.cell? ⟨w4.heap.size, 0, none⟩ = some (.pointer (some ⟨q1, 0, none⟩)) ∧ wq.cell? ⟨w4.heap.size, 1, none⟩ = some (.slice va1 K1 vc1) ∧ wq.cell? ⟨w4.heap.size, 2, none⟩ = some (.slice ha1 H1 hc1)) ∧ (wq.cell? ⟨w6.heap.size, 0, none⟩ = some (.pointer (some ⟨q2, 0, none⟩)) ∧ wq.cell? ⟨w6.heap.size, 2, none⟩ = some (.slice ha2 H2 hc2)) ∧ wq.cell? ⟨w2.heap.size + 1, 3, none⟩ = some (.bool false))) (by kernel_rfl) hS0 (fun hHeld => ?_)
        refine wpAnyH_take (i := 0) (oi := o41_0) (v := ?v79) rfl (by kernel_rfl) (by kernel_rfl) (by kernel_rfl) (fun _ _ _ h => h) (Or.inl ⟨by rfl, ?h79⟩) hHeld ?r79
        case h79 => (intro w hSw; (try dsimp only at hSw); go_simp; try with_reducible rfl)
        try simp only [Act.put, List.setIfInBounds_toArray, List.set_cons_zero, List.set_cons_succ]
        refine wpAnyH_take (i := 1) (oi := o41_1) (v := ?v80) rfl (by kernel_rfl) (by kernel_rfl) (by kernel_rfl) (fun _ _ _ h => h) (Or.inl ⟨by rfl, ?h80⟩) hHeld ?r80
        case h80 => (intro w hSw; (try dsimp only at hSw); go_simp; try with_reducible rfl)
        try simp only [Act.put, List.setIfInBounds_toArray, List.set_cons_zero, List.set_cons_succ]
        refine wpAnyH_take (i := 2) (oi := o41_2) (v := ?v81) rfl (by kernel_rfl) (by kernel_rfl) (by kernel_rfl) (fun _ _ _ h => h) (Or.inl ⟨by rfl, ?h81⟩) hHeld ?r81
        case h81 => (intro w hSw; (try dsimp only at hSw); go_simp; try with_reducible rfl)
        try simp only [Act.put, List.setIfInBounds_toArray, List.set_cons_zero, List.set_cons_succ]
        refine wpAnyH_take (i := 3) (oi := o41_3) (v := ?v82) rfl (by kernel_rfl) (by kernel_rfl) (by kernel_rfl) (fun _ _ _ h => h) (Or.inl ⟨by rfl, ?h82⟩) hHeld ?r82
        case h82 => (intro w hSw; (try dsimp only at hSw); go_simp; try with_reducible rfl)
        try simp only [Act.put, List.setIfInBounds_toArray, List.set_cons_zero, List.set_cons_succ]
        refine wpAnyH_take (i := 4) (oi := o41_4) (v := ?v83) rfl (by kernel_rfl) (by kernel_rfl) (by kernel_rfl) (fun _ _ _ h => h) (Or.inl ⟨by rfl, ?h83⟩) hHeld ?r83
        case h83 => (intro w hSw; (try dsimp only at hSw); go_simp; try with_reducible rfl)
        try simp only [Act.put, List.setIfInBounds_toArray, List.set_cons_zero, List.set_cons_succ]
        refine wpAnyH_take (i := 5) (oi := o41_5) (v := ?v84) rfl (by kernel_rfl) (by kernel_rfl) (by kernel_rfl) (fun _ _ _ h => h) (Or.inl ⟨by rfl, ?h84⟩) hHeld ?r84
        case h84 => (intro w hSw; (try dsimp only at hSw); go_simp; try with_reducible rfl)
        try simp only [Act.put, List.setIfInBounds_toArray, List.set_cons_zero, List.set_cons_succ]
        refine wpAnyH_take (i := 6) (oi := o41_6) (v := ?v85) rfl (by kernel_rfl) (by kernel_rfl) (by kernel_rfl) (fun _ _ _ h => h) (Or.inl ⟨by rfl, ?h85⟩) hHeld ?r85
        case h85 => (intro w hSw; (try dsimp only at hSw); go_simp; try with_reducible rfl)
        try simp only [Act.put, List.setIfInBounds_toArray, List.set_cons_zero, List.set_cons_succ]
        refine wpAnyH_take (i := 7) (oi := o41_7) (v := ?v86) rfl (by kernel_rfl) (by kernel_rfl) (by kernel_rfl) (fun _ _ _ h => h) (Or.inl ⟨by rfl, ?h86⟩) hHeld ?r86
        case h86 => (intro w hSw; (try dsimp only at hSw); go_simp; try with_reducible rfl)
        try simp only [Act.put, List.setIfInBounds_toArray, List.set_cons_zero, List.set_cons_succ]
        refine wpAnyH_take (i := 8) (oi := o41_8) (v := ?v87) rfl (by kernel_rfl) (by kernel_rfl) (by kernel_rfl) (fun _ _ _ h => h) (Or.inl ⟨by rfl, ?h87⟩) hHeld ?r87
        case h87 => (intro w hSw; (try dsimp only at hSw); go_simp; try with_reducible rfl)
        try simp only [Act.put, List.setIfInBounds_toArray, List.set_cons_zero, List.set_cons_succ]
        refine wpAnyH_ready (rs := [9]) (by kernel_rfl) (by simp) ?_
        refine AllReadyH.cons (o := o41_9) rfl (fun K hK => ?_) AllReadyH.nil
        go_simp
        refine Calls.mono HPL.out ?_
        rintro e w3 ⟨rfl, hb3⟩
        dsimp only
        obtain ⟨hS1, ⟨Y0, Y1, Y2, Y3⟩, ⟨F0, F1, F2, F3⟩, hS2, ⟨E0, E1, E2, E3⟩, hbf⟩ := HSK.out w3 hb3
        have HBF := (show Hid _ from hbf)
        clear hbf hb3
        clear hHeld
        refine hK.out _ _ hS1 (fun hHeld => ?_)
        clear hK K
        try simp only [Act.put, List.setIfInBounds_toArray, List.set_cons_zero, List.set_cons_succ]
        refine wpAnyH_take (i := 10) (oi := o41_10) (v := ?v88) rfl (by kernel_rfl) (by kernel_rfl) (by kernel_rfl) (fun _ _ _ h => h) (Or.inl ⟨by rfl, ?h88⟩) hHeld ?r88
        case h88 => (intro w hSw; (try dsimp only at hSw); go_simp; try with_reducible rfl)
        try simp only [Act.put, List.setIfInBounds_toArray, List.set_cons_zero, List.set_cons_succ]
        refine wpAnyH_take (i := 11) (oi := o41_11) (v := ?v89) rfl (by kernel_rfl) (by kernel_rfl) (by kernel_rfl) (fun _ _ _ h => h) (Or.inl ⟨by rfl, ?h89⟩) hHeld ?r89
        case h89 => (intro w hSw; (try dsimp only at hSw); go_simp; try with_reducible rfl)
        try simp only [Act.put, List.setIfInBounds_toArray, List.set_cons_zero, List.set_cons_succ]
        refine wpAnyH_take (i := 12) (oi := o41_12) (v := undef) rfl (by kernel_rfl) (by kernel_rfl) (by kernel_rfl) (fun _ _ _ h => h) (Or.inr ⟨by rfl, rfl⟩) hHeld ?_
        try simp only [Act.put, List.setIfInBounds_toArray, List.set_cons_zero, List.set_cons_succ]
        refine wpAnyH_take (i := 13) (oi := o41_13) (v := ?v90) rfl (by kernel_rfl) (by kernel_rfl) (by kernel_rfl) (fun _ _ _ h => h) (Or.inl ⟨by rfl, ?h90⟩) hHeld ?r90
        case h90 => (intro w hSw; (try dsimp only at hSw); go_simp; try with_reducible rfl)
        try simp only [Act.put, List.setIfInBounds_toArray, List.set_cons_zero, List.set_cons_succ]
        refine wpAnyH_take (i := 14) (oi := o41_14) (v := ?v91) rfl (by kernel_rfl) (by kernel_rfl) (by kernel_rfl) (fun _ _ _ h => h) (Or.inl ⟨by rfl, ?h91⟩) hHeld ?r91
        case h91 => (intro w hSw; (try dsimp only at hSw); go_simp; try with_reducible rfl)
        try simp only [Act.put, List.setIfInBounds_toArray, List.set_cons_zero, List.set_cons_succ]
        refine wpAnyH_take (i := 15) (oi := o41_15) (v := undef) rfl (by kernel_rfl) (by kernel_rfl) (by kernel_rfl) (fun _ _ _ h => h) (Or.inr ⟨by rfl, rfl⟩) hHeld ?_
        try simp only [Act.put, List.setIfInBounds_toArray, List.set_cons_zero, List.set_cons_succ]
        refine wpAnyH_take (i := 16) (oi := o41_16) (v := undef) rfl (by kernel_rfl) (by kernel_rfl) (by kernel_rfl) (fun _ _ _ h => h) (Or.inr ⟨by rfl, rfl⟩) hHeld ?_
        try simp only [Act.put, List.setIfInBounds_toArray, List.set_cons_zero, List.set_cons_succ]
        refine wpAnyH_take (i := 17) (oi := o41_17) (v := undef) rfl (by kernel_rfl) (by kernel_rfl) (by kernel_rfl) (fun _ _ _ h => h) (Or.inr ⟨by rfl, rfl⟩) hHeld ?_
        try simp only [Act.put, List.setIfInBounds_toArray, List.set_cons_zero, List.set_cons_succ]
        refine wpAnyH_take (i := 18) (oi := o41_18) (v := undef) rfl (by kernel_rfl) (by kernel_rfl) (by kernel_rfl) (fun _ _ _ h => h) (Or.inr ⟨by rfl, rfl⟩) hHeld ?_
        try simp only [Act.put, List.setIfInBounds_toArray, List.set_cons_zero, List.set_cons_succ]
        refine wpAnyH_take (i := 19) (oi := o41_19) (v := ?v92) rfl (by kernel_rfl) (by kernel_rfl) (by kernel_rfl) (fun _ _ _ h => h) (Or.inl ⟨by rfl, ?h92⟩) hHeld ?r92
        case h92 => (intro w hSw; (try dsimp only at hSw); go_simp; try with_reducible rfl)
        try simp only [Act.put, List.setIfInBounds_toArray, List.set_cons_zero, List.set_cons_succ]
        refine wpAnyH_ready (rs := [20]) (by kernel_rfl) (by simp) ?_
        refine AllReadyH.cons (o := o41_20) rfl (fun K hK => ?_) AllReadyH.nil
        go_simp
        clear hHeld
        refine hK.out _ _ hS2 (fun hHeld => ?_)
        clear hK K
        try simp only [Act.put, List.setIfInBounds_toArray, List.set_cons_zero, List.set_cons_succ]
        refine wpAnyH_ready (rs := [21]) (by kernel_rfl) (by simp) ?_
        refine AllReadyH.cons (o := o41_21) rfl (fun K hK => ?_) AllReadyH.nil
        go_simp
        clear hHeld
        refine hK.out _ _ hS2 (fun hHeld => ?_)
        clear hK K
        try simp only [Act.put, List.setIfInBounds_toArray, List.set_cons_zero, List.set_cons_succ]
        refine wpAnyH_done (by kernel_rfl) ?_ _
        (try refine NoPanic.normal ?_)
        clear hHeld hS0
        go_wp2_with fail
        refine bodyPost_ret (v := .tuple #[.agg #[.pointer (some ⟨q1, 0, none⟩), .slice va1 K1 vc1, .slice ha1 H1 hc1, .pointer (some ⟨q2, 0, none⟩)], .bool false]) (by simp [results, Try.results41, go_sem, E0, E1, E2, E3]) rfl ?_
        exact ⟨_, _, _, _, _, _, _, _, false, rfl, HBF.out, HV2.out.symm⟩
      case true =>
        have HV2 := (show Hid (RB = false) from (by show RB = _; rw [HY4.out]; simp))
        clear HY4
        go_wp2_with fail
        refine wp_region_held_drew (S := (fun wq => (wq.cell? ⟨w4.heap.size, 0, none⟩ = some (.pointer (some ⟨q1, 0, none⟩)) ∧ wq.cell? ⟨w4.heap.size, 1, none⟩ = some (.slice va1 K1 vc1) ∧ wq.cell? ⟨w4.heap.size, 2, none⟩ = some (.slice ha1 H1 hc1)) ∧ (wq.cell? ⟨w6.heap.size, 0, none⟩ = some (.pointer (some ⟨q2, 0, none⟩)) ∧ wq.cell? ⟨w6.heap.size, 2, none⟩ = some (.slice ha2 H2 hc2)) ∧ wq.cell? ⟨w2.heap.size + 1, 3, none⟩ = some (.bool false))) (by kernel_rfl) hS0 (fun hHeld => ?_)
        refine wpAnyH_take (i := 0) (oi := o41_0) (v := ?v93) rfl (by kernel_rfl) (by kernel_rfl) (by kernel_rfl) (fun _ _ _ h => h) (Or.inl ⟨by rfl, ?h93⟩) hHeld ?r93
        case h93 => (intro w hSw; (try dsimp only at hSw); go_simp; try with_reducible rfl)
        try simp only [Act.put, List.setIfInBounds_toArray, List.set_cons_zero, List.set_cons_succ]
        refine wpAnyH_take (i := 1) (oi := o41_1) (v := ?v94) rfl (by kernel_rfl) (by kernel_rfl) (by kernel_rfl) (fun _ _ _ h => h) (Or.inl ⟨by rfl, ?h94⟩) hHeld ?r94
        case h94 => (intro w hSw; (try dsimp only at hSw); go_simp; try with_reducible rfl)
        try simp only [Act.put, List.setIfInBounds_toArray, List.set_cons_zero, List.set_cons_succ]
        refine wpAnyH_take (i := 2) (oi := o41_2) (v := ?v95) rfl (by kernel_rfl) (by kernel_rfl) (by kernel_rfl) (fun _ _ _ h => h) (Or.inl ⟨by rfl, ?h95⟩) hHeld ?r95
        case h95 => (intro w hSw; (try dsimp only at hSw); go_simp; try with_reducible rfl)
        try simp only [Act.put, List.setIfInBounds_toArray, List.set_cons_zero, List.set_cons_succ]
        refine wpAnyH_take (i := 3) (oi := o41_3) (v := ?v96) rfl (by kernel_rfl) (by kernel_rfl) (by kernel_rfl) (fun _ _ _ h => h) (Or.inl ⟨by rfl, ?h96⟩) hHeld ?r96
        case h96 => (intro w hSw; (try dsimp only at hSw); go_simp; try with_reducible rfl)
        try simp only [Act.put, List.setIfInBounds_toArray, List.set_cons_zero, List.set_cons_succ]
        refine wpAnyH_take (i := 4) (oi := o41_4) (v := ?v97) rfl (by kernel_rfl) (by kernel_rfl) (by kernel_rfl) (fun _ _ _ h => h) (Or.inl ⟨by rfl, ?h97⟩) hHeld ?r97
        case h97 => (intro w hSw; (try dsimp only at hSw); go_simp; try with_reducible rfl)
        try simp only [Act.put, List.setIfInBounds_toArray, List.set_cons_zero, List.set_cons_succ]
        refine wpAnyH_take (i := 5) (oi := o41_5) (v := ?v98) rfl (by kernel_rfl) (by kernel_rfl) (by kernel_rfl) (fun _ _ _ h => h) (Or.inl ⟨by rfl, ?h98⟩) hHeld ?r98
        case h98 => (intro w hSw; (try dsimp only at hSw); go_simp; try with_reducible rfl)
        try simp only [Act.put, List.setIfInBounds_toArray, List.set_cons_zero, List.set_cons_succ]
        refine wpAnyH_take (i := 6) (oi := o41_6) (v := ?v99) rfl (by kernel_rfl) (by kernel_rfl) (by kernel_rfl) (fun _ _ _ h => h) (Or.inl ⟨by rfl, ?h99⟩) hHeld ?r99
        case h99 => (intro w hSw; (try dsimp only at hSw); go_simp; try with_reducible rfl)
        try simp only [Act.put, List.setIfInBounds_toArray, List.set_cons_zero, List.set_cons_succ]
        refine wpAnyH_take (i := 7) (oi := o41_7) (v := ?v100) rfl (by kernel_rfl) (by kernel_rfl) (by kernel_rfl) (fun _ _ _ h => h) (Or.inl ⟨by rfl, ?h100⟩) hHeld ?r100
        case h100 => (intro w hSw; (try dsimp only at hSw); go_simp; try with_reducible rfl)
        try simp only [Act.put, List.setIfInBounds_toArray, List.set_cons_zero, List.set_cons_succ]
        refine wpAnyH_take (i := 8) (oi := o41_8) (v := ?v101) rfl (by kernel_rfl) (by kernel_rfl) (by kernel_rfl) (fun _ _ _ h => h) (Or.inl ⟨by rfl, ?h101⟩) hHeld ?r101
        case h101 => (intro w hSw; (try dsimp only at hSw); go_simp; try with_reducible rfl)
        try simp only [Act.put, List.setIfInBounds_toArray, List.set_cons_zero, List.set_cons_succ]
        refine wpAnyH_ready (rs := [9]) (by kernel_rfl) (by simp) ?_
        refine AllReadyH.cons (o := o41_9) rfl (fun K hK => ?_) AllReadyH.nil
        go_simp
        refine Calls.mono HPL.out ?_
        rintro e w3 ⟨rfl, hb3⟩
        dsimp only
        obtain ⟨hS1, ⟨Y0, Y1, Y2, Y3⟩, ⟨F0, F1, F2, F3⟩, hS2, ⟨E0, E1, E2, E3⟩, hbf⟩ := HSK.out w3 hb3
        have HBF := (show Hid _ from hbf)
        clear hbf hb3
        clear hHeld
        refine hK.out _ _ hS1 (fun hHeld => ?_)
        clear hK K
        try simp only [Act.put, List.setIfInBounds_toArray, List.set_cons_zero, List.set_cons_succ]
        refine wpAnyH_take (i := 10) (oi := o41_10) (v := ?v102) rfl (by kernel_rfl) (by kernel_rfl) (by kernel_rfl) (fun _ _ _ h => h) (Or.inl ⟨by rfl, ?h102⟩) hHeld ?r102
        case h102 => (intro w hSw; (try dsimp only at hSw); go_simp; try with_reducible rfl)
        try simp only [Act.put, List.setIfInBounds_toArray, List.set_cons_zero, List.set_cons_succ]
        refine wpAnyH_take (i := 11) (oi := o41_11) (v := ?v103) rfl (by kernel_rfl) (by kernel_rfl) (by kernel_rfl) (fun _ _ _ h => h) (Or.inl ⟨by rfl, ?h103⟩) hHeld ?r103
        case h103 => (intro w hSw; (try dsimp only at hSw); go_simp; try with_reducible rfl)
        try simp only [Act.put, List.setIfInBounds_toArray, List.set_cons_zero, List.set_cons_succ]
        refine wpAnyH_take (i := 12) (oi := o41_12) (v := ?v104) rfl (by kernel_rfl) (by kernel_rfl) (by kernel_rfl) (fun _ _ _ h => h) (Or.inl ⟨by rfl, ?h104⟩) hHeld ?r104
        case h104 => (intro w hSw; (try dsimp only at hSw); go_simp; try with_reducible rfl)
        try simp only [Act.put, List.setIfInBounds_toArray, List.set_cons_zero, List.set_cons_succ]
        refine wpAnyH_take (i := 13) (oi := o41_13) (v := ?v105) rfl (by kernel_rfl) (by kernel_rfl) (by kernel_rfl) (fun _ _ _ h => h) (Or.inl ⟨by rfl, ?h105⟩) hHeld ?r105
        case h105 => (intro w hSw; (try dsimp only at hSw); go_simp; try with_reducible rfl)
        try simp only [Act.put, List.setIfInBounds_toArray, List.set_cons_zero, List.set_cons_succ]
        refine wpAnyH_take (i := 14) (oi := o41_14) (v := ?v106) rfl (by kernel_rfl) (by kernel_rfl) (by kernel_rfl) (fun _ _ _ h => h) (Or.inl ⟨by rfl, ?h106⟩) hHeld ?r106
        case h106 => (intro w hSw; (try dsimp only at hSw); go_simp; try with_reducible rfl)
        try simp only [Act.put, List.setIfInBounds_toArray, List.set_cons_zero, List.set_cons_succ]
        refine wpAnyH_take (i := 15) (oi := o41_15) (v := undef) rfl (by kernel_rfl) (by kernel_rfl) (by kernel_rfl) (fun _ _ _ h => h) (Or.inr ⟨by rfl, rfl⟩) hHeld ?_
        try simp only [Act.put, List.setIfInBounds_toArray, List.set_cons_zero, List.set_cons_succ]
        refine wpAnyH_take (i := 16) (oi := o41_16) (v := undef) rfl (by kernel_rfl) (by kernel_rfl) (by kernel_rfl) (fun _ _ _ h => h) (Or.inr ⟨by rfl, rfl⟩) hHeld ?_
        try simp only [Act.put, List.setIfInBounds_toArray, List.set_cons_zero, List.set_cons_succ]
        refine wpAnyH_take (i := 17) (oi := o41_17) (v := undef) rfl (by kernel_rfl) (by kernel_rfl) (by kernel_rfl) (fun _ _ _ h => h) (Or.inr ⟨by rfl, rfl⟩) hHeld ?_
        try simp only [Act.put, List.setIfInBounds_toArray, List.set_cons_zero, List.set_cons_succ]
        refine wpAnyH_take (i := 18) (oi := o41_18) (v := undef) rfl (by kernel_rfl) (by kernel_rfl) (by kernel_rfl) (fun _ _ _ h => h) (Or.inr ⟨by rfl, rfl⟩) hHeld ?_
        try simp only [Act.put, List.setIfInBounds_toArray, List.set_cons_zero, List.set_cons_succ]
        refine wpAnyH_take (i := 19) (oi := o41_19) (v := ?v107) rfl (by kernel_rfl) (by kernel_rfl) (by kernel_rfl) (fun _ _ _ h => h) (Or.inl ⟨by rfl, ?h107⟩) hHeld ?r107
        case h107 => (intro w hSw; (try dsimp only at hSw); go_simp; try with_reducible rfl)
        try simp only [Act.put, List.setIfInBounds_toArray, List.set_cons_zero, List.set_cons_succ]
        refine wpAnyH_ready (rs := [20]) (by kernel_rfl) (by simp) ?_
        refine AllReadyH.cons (o := o41_20) rfl (fun K hK => ?_) AllReadyH.nil
        go_simp
        clear hHeld
        refine hK.out _ _ hS2 (fun hHeld => ?_)
        clear hK K
        try simp only [Act.put, List.setIfInBounds_toArray, List.set_cons_zero, List.set_cons_succ]
        refine wpAnyH_ready (rs := [21]) (by kernel_rfl) (by simp) ?_
        refine AllReadyH.cons (o := o41_21) rfl (fun K hK => ?_) AllReadyH.nil
        go_simp
        clear hHeld
        refine hK.out _ _ hS2 (fun hHeld => ?_)
        clear hK K
        try simp only [Act.put, List.setIfInBounds_toArray, List.set_cons_zero, List.set_cons_succ]
        refine wpAnyH_done (by kernel_rfl) ?_ _
        (try refine NoPanic.normal ?_)
        clear hHeld hS0
        go_wp2_with fail
        refine bodyPost_ret (v := .tuple #[.agg #[.pointer (some ⟨q1, 0, none⟩), .slice va1 K1 vc1, .slice ha1 H1 hc1, .pointer (some ⟨q2, 0, none⟩)], .bool false]) (by simp [results, Try.results41, go_sem, E0, E1, E2, E3]) rfl ?_
        exact ⟨_, _, _, _, _, _, _, _, false, rfl, HBF.out, HV2.out.symm⟩
end Go.Proofs.Ytboffildchoelaa
