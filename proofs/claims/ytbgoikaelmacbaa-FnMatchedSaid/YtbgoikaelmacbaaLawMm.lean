import Derived.Test.YtbgoikaelmacbaaYg
import Derived.Test.YtbgoikaelmacbaaYh
import Derived.Test.YtbgoikaelmacbaaSame
import Derived.Test.YtbgoikaelmacbaaAt3
import Derived.Test.YtbgoikaelmacbaaIm
import Derived.Test.YtbgoikaelmacbaaIp
import Derived.Test.YtbgoikaelmacbaaFi
import Derived.Test.YtbgoikaelmacbaaIl
import Derived.Test.YtbgoikaelmacbaaSm
import Derived.Deep.RegionHeld3
import Derived.Deep.CutRange
/-! The law of FnMatched. -/
namespace Go.Proofs.Ytbgoikaelmacbaa
open Go.RowKit Go.Deep Go.Lib
set_option linter.unusedVariables false
set_option maxRecDepth 100000
set_option linter.unusedSimpArgs false

/-- What stands while the law goes on: the pattern's block and the tree's. -/
structure Lm (w : World) (p t : Tr) (g : Nat) (pv tv : Value) (W : World) : Prop where
  bel : Below w.heap.size w W
  b3 : Box4 W g (.string p.name) (.string p.text) (.bool p.leaf) pv
  b4 : Box4 W (g + 1) (.string t.name) (.string t.text) (.bool t.leaf) tv
  lp : Lies W (fun _ => True) p pv
  lt : Lies W (fun _ => True) t tv
theorem Lm.still {w W W' : World} {p t : Tr} {g : Nat} {pv tv : Value} (h : Lm w p t g pv tv W) (hb : Below W.heap.size W W') : Lm w p t g pv tv W' := ⟨bel_trans h.bel hb, h.b3.still hb, h.b4.still hb, h.lp.still hb, h.lt.still hb⟩
theorem hm_still {w W W' : World} {p t : Tr} {g : Nat} {pv tv : Value} (h : Hid (Lm w p t g pv tv W)) (hb : Below W.heap.size W W') : Hid (Lm w p t g pv tv W') := (Lm.still h.out hb : Lm w p t g pv tv W')
abbrev oL0 : Oper := { dst := some 97, op := Go.Op.load 26 (Go.Operand.tmp 4), type := 26, pos := "laws.go:1179", after := #[], guard := none }
abbrev oL1 : Oper := { dst := some 98, op := Go.Op.move (Go.Operand.tmp 15), type := 35, pos := "laws.go:1179", after := #[], guard := none }
abbrev oL2 : Oper := { dst := some 99, op := Go.Op.move (Go.Operand.tmp 17), type := 3, pos := "laws.go:1179", after := #[], guard := none }
abbrev oL3 : Oper := { dst := some 100, op := Go.Op.indexAddr 35 (Go.Operand.tmp 98) (Go.Operand.tmp 99), type := 0, pos := "laws.go:1179", after := #[{ on := 1, ground := Go.Ground.data }, { on := 2, ground := Go.Ground.data }], guard := none }
abbrev oL4 : Oper := { dst := some 101, op := Go.Op.load 40 (Go.Operand.tmp 100), type := 40, pos := "laws.go:1179", after := #[{ on := 3, ground := Go.Ground.data }], guard := none }
abbrev oL5 : Oper := { dst := some 102, op := Go.Op.call { callee := Go.Callee.value (Go.Operand.func 13), args := #[Go.Operand.tmp 97, Go.Operand.tmp 101], argTypes := #[26, 40] }, type := 32, pos := "laws.go:1179", after := #[{ on := 0, ground := Go.Ground.data }, { on := 4, ground := Go.Ground.data }], guard := none }
abbrev oL6 : Oper := { dst := some 96, op := Go.Op.move (Go.Operand.tmp 102), type := 32, pos := "laws.go:1179", after := #[{ on := 5, ground := Go.Ground.data }], guard := none }
abbrev oL7 : Oper := { dst := some 103, op := Go.Op.extract (Go.Operand.tmp 96) 0, type := 26, pos := "laws.go:1179", after := #[{ on := 6, ground := Go.Ground.data }], guard := none }
abbrev oL8 : Oper := { dst := some 104, op := Go.Op.extract (Go.Operand.tmp 96) 1, type := 3, pos := "laws.go:1179", after := #[{ on := 6, ground := Go.Ground.data }, { on := 10, ground := Go.Ground.gcOnly Go.Departure.lateStores }], guard := none }
abbrev oL9 : Oper := { dst := some 18, op := Go.Op.alloc 26, type := 0, pos := "laws.go:1179", after := #[], guard := none }
abbrev oL10 : Oper := { dst := none, op := Go.Op.store 26 (Go.Operand.tmp 18) (Go.Operand.tmp 103), type := 0, pos := "laws.go:1179", after := #[{ on := 9, ground := Go.Ground.data }, { on := 7, ground := Go.Ground.data }, { on := 5, ground := Go.Ground.chain }, { on := 0, ground := Go.Ground.phase }, { on := 1, ground := Go.Ground.phase }, { on := 2, ground := Go.Ground.phase }, { on := 3, ground := Go.Ground.phase }, { on := 4, ground := Go.Ground.phase }, { on := 5, ground := Go.Ground.phase }, { on := 6, ground := Go.Ground.phase }, { on := 7, ground := Go.Ground.phase }, { on := 8, ground := Go.Ground.textOnly Go.Departure.lateStores }, { on := 9, ground := Go.Ground.phase }], guard := none }
abbrev oL11 : Oper := { dst := some 19, op := Go.Op.assign (Go.Operand.tmp 104), type := 3, pos := "laws.go:1179", after := #[{ on := 8, ground := Go.Ground.data }, { on := 10, ground := Go.Ground.chain }, { on := 0, ground := Go.Ground.phase }, { on := 1, ground := Go.Ground.phase }, { on := 2, ground := Go.Ground.phase }, { on := 3, ground := Go.Ground.phase }, { on := 4, ground := Go.Ground.phase }, { on := 5, ground := Go.Ground.phase }, { on := 6, ground := Go.Ground.phase }, { on := 7, ground := Go.Ground.phase }, { on := 8, ground := Go.Ground.phase }, { on := 9, ground := Go.Ground.phase }, { on := 10, ground := Go.Ground.phase }], guard := none }
set_option maxHeartbeats 25600000 in
theorem lawMm {cs : List UInt8} {a : Option Addr} {cap b off : Nat} (w : World) (h3 : cs.length ≤ cap) (h4 : cap ≤ 2 ^ 63 - 1) (h6 : 0 < cs.length → a = some ⟨b, off, none⟩) (h7 : Byts w cs b off) :
    Calls Try.prog 3 #[.slice a cs.length cap] w fun e w' => e = .returned (.bool true) ∧ Below w.heap.size w w' := by
  have HBG := (show Hid _ from big_any a cs.length cap w (by omega))
  by_cases h2 : cs.length ≤ 1048576
  case neg =>
    rw [decide_eq_true (by omega)] at HBG
    go_enter Try.func3, Try.ntmps3
    go_wp2_with fail
    refine Calls.mono HBG.out ?_
    rintro e w1 ⟨rfl, rfl⟩
    go_wp2_with fail
    go_ret
    exact ⟨rfl, Below.refl _ _⟩
  rw [decide_eq_false (by omega)] at HBG
  have HDM := (show Hid (∀ W : World, Below w.heap.size w W → Calls Try.prog 5 #[.slice a cs.length cap] W (DmA cs W)) from fun W hW => drawMatch W h2 h3 h4 (fun h => by have := lt_of_cell (h7 0 h); have h8 := hW.size; dsimp only at this; omega) h6 (fun i hi => (hW.cell (lt_of_cell (h7 i hi))).trans (h7 i hi)))
  unfold DmA at HDM
  have hwt := cMt_wt cs
  generalize cMp cs = p at *
  generalize cMt cs = t at *
  simp only [Tr.val] at HDM
  have HSM := (show Hid (∀ (W : World) (v1 v2 : Value), Lies W (fun _ => True) p v1 → Lies W (fun _ => True) t v2 → Calls Try.prog 6 #[.agg #[.string p.name, .string p.text, .bool p.leaf, v1], .agg #[.string t.name, .string t.text, .bool t.leaf, v2]] W (MaA p t W)) from fun W v1 v2 g1 g2 => sMatch8 p t v1 v2 W g1 g2 hwt)
  have HIM := (show Hid (∀ (W : World) (u : Tr) (v1 v2 : Value), Lies W (fun _ => True) p v1 → Lies W (fun _ => True) u v2 → u.wt ≤ 1048576 → Calls Try.prog 7 #[.agg #[.string p.name, .string p.text, .bool p.leaf, v1], .agg #[.string u.name, .string u.text, .bool u.leaf, v2]] W (IaA (maR p u) W)) from fun W u v1 v2 g1 g2 g3 => iMatch10 p u v1 v2 W g1 g2 g3 (fun wq hq => ipat37 p v1 wq hq))
  have HIM0 := (show Hid (∀ (W : World) (v1 v2 : Value), Lies W (fun _ => True) p v1 → Lies W (fun _ => True) t v2 → Calls Try.prog 7 #[.agg #[.string p.name, .string p.text, .bool p.leaf, v1], .agg #[.string t.name, .string t.text, .bool t.leaf, v2]] W (IaA (maR p t) W)) from fun W v1 v2 g1 g2 => iMatch10 p t v1 v2 W g1 g2 hwt (fun wq hq => ipat37 p v1 wq hq))
  have HSP := (show Hid (∀ (W : World) (v1 v2 : Value), Lies W (fun _ => True) p v1 → Lies W (fun _ => True) t v2 → Calls Try.prog 10 #[.agg #[.string p.name, .string p.text, .bool p.leaf, v1], .agg #[.string t.name, .string t.text, .bool t.leaf, v2]] W (SqA p t W)) from fun W v1 v2 g1 g2 => sPlaces21 p t v1 v2 W g1 g2)
  have HIP := (show Hid (∀ (W : World) (v1 v2 : Value), Lies W (fun _ => True) p v1 → Lies W (fun _ => True) t v2 → Calls Try.prog 11 #[.agg #[.string p.name, .string p.text, .bool p.leaf, v1], .agg #[.string t.name, .string t.text, .bool t.leaf, v2]] W (IlA p t W)) from fun W v1 v2 g1 g2 => iPlaces22 p t v1 v2 W g1 g2)
  have HMR := (show Hid ((maR p t = ([], false, 1)) ∨ (patB p = true ∧ t.ok = true ∧ plR p t = (plT p t [], 0) ∧ ((mtB p t = true ∧ maR p t = ((mtT p t []).1, true, 0)) ∨ (mtB p t = false ∧ maR p t = ([], false, 0))))) from (by
    cases hg : (patB p && t.ok)
    · exact .inl (ma_bad hg)
    · have hg2 := hg
      rw [Bool.and_eq_true] at hg2
      refine .inr ⟨hg2.1, hg2.2, by unfold plR; rw [if_pos hg], ?_⟩
      cases hm : mtB p t
      · exact .inr ⟨rfl, ma_no hg2.1 hg2.2 hm⟩
      · exact .inl ⟨rfl, ma_yes hg2.1 hg2.2 hm⟩))
  unfold MaA at HSM
  unfold IaA at HIM0
  go_enter Try.func3, Try.ntmps3
  go_wp2_with fail
  refine Calls.mono HBG.out ?_
  rintro e w0 ⟨rfl, hw0⟩
  subst w0
  go_wp2_with fail
  refine Calls.mono (HDM.out _ (Below.refl _ _)) ?_
  rintro e w1 ⟨pa, ta, pm, pc, tm, tc, rfl, hb1, hlp1, hlt1⟩
  have hbb : Below w1.heap.size w1 ((w1.alloc (.cells #[.string p.name, .string p.text, .bool p.leaf, .slice pa pm pc] 26)).alloc (.cells #[.string t.name, .string t.text, .bool t.leaf, .slice ta tm tc] 26)) := bel_trans (bel_alloc _ _) (bel_alloc _ _)
  have B4 := Box4.new (w1.alloc (.cells #[.string p.name, .string p.text, .bool p.leaf, .slice pa pm pc] 26)) (.string t.name) (.string t.text) (.bool t.leaf) (.slice ta tm tc)
  have hs1 : (w1.alloc (.cells #[.string p.name, .string p.text, .bool p.leaf, .slice pa pm pc] 26)).heap.size = w1.heap.size + 1 := by simp
  rw [hs1] at B4
  have H1 := (show Hid (Lm w p t w1.heap.size (.slice pa pm pc) (.slice ta tm tc) ((w1.alloc (.cells #[.string p.name, .string p.text, .bool p.leaf, .slice pa pm pc] 26)).alloc (.cells #[.string t.name, .string t.text, .bool t.leaf, .slice ta tm tc] 26))) from ⟨bel_trans hb1 hbb, (Box4.new w1 _ _ _ _).still (bel_alloc _ _), B4, hlp1.still hbb, hlt1.still hbb⟩)
  clear hb1 hlp1 hlt1 hbb B4 hs1 HBG
  go_wp2_with fail
  refine Calls.mono (HDM.out _ H1.out.bel) ?_
  rintro e w2 ⟨qa, ra, qm, qc, rm, rc, rfl, hb2, hlq2, hlr2⟩
  have H2 := hm_still H1 hb2
  have HC2 := (show Hid _ from HSM.out w2 _ _ hlq2 hlr2)
  clear hb2 hlq2 hlr2 H1 HDM HSM
  have HR := (show Hid (∃ R, maR p t = R) from ⟨_, rfl⟩)
  obtain ⟨R, hR⟩ := HR.out
  rw [hR] at HC2 HIM0 HMR
  obtain ⟨R1, ok, ec⟩ := R
  dsimp only at HC2 HIM0
  have HRR := (show Hid (maR p t = (R1, ok, ec)) from hR)
  clear hR HR
  go_wp2_with fail
  refine Calls.mono HC2.out ?_
  rintro e w3 ⟨sb, sc, rfl, hb3, _⟩
  have H3 := hm_still H2 hb3
  obtain ⟨p0, p1, p2, p3⟩ := H3.out.b3.cells
  obtain ⟨t0, t1, t2, t3⟩ := H3.out.b4.cells
  have HC3 := (show Hid _ from HIM0.out w3 _ _ H3.out.lp H3.out.lt)
  clear hb3 HC2 H2 HIM0
  go_wp2_with fail
  refine Calls.mono HC3.out ?_
  rintro e w4 ⟨ba, bc, BB, rfl, hb4, hBB, hgr⟩
  have H4 := hm_still H3 hb4
  have HGR := (show Hid (BGr R1 BB R1.length (.slice ba R1.length bc) w4) from hgr)
  have n1 : (ok != ok) = false := by cases ok <;> rfl
  have n2 : (ec != ec) = false := by simp
  clear hb4 hgr HC3 H3 p0 p1 p2 p3 t0 t1 t2 t3
  rcases HMR.out with hbad | ⟨hpat, hok, hpl, hcase⟩
  · simp only [Prod.mk.injEq] at hbad
    obtain ⟨_, rfl, rfl⟩ := hbad
    have n3 : ((1 : Int) != 0) = true := by decide
    go_wp2_with fail
    go_ret
    exact ⟨rfl, H4.out.bel⟩
  have HOK := (show Hid (patB p = true ∧ t.ok = true) from ⟨hpat, hok⟩)
  unfold SqA at HSP
  unfold IlA at HIP
  rw [hpl] at HSP HIP
  dsimp only at HSP HIP
  have HPA := (show Hid (∀ ys, ys ∈ plT p t [] → ∃ u, walkAt (natI ys) t = some u ∧ mtB p u = true ∧ (t.ok = true → u.ok = true)) from fun ys h => pl_at h)
  have HCZ := (show Hid (czN (plT p t []) = if mtB p t = true then 1 else 0) from pl_cz p t)
  have hln : (plT p t []).length ≤ 1000 := Nat.le_trans (plT_len p t []) (ok_cnt hok)
  clear HMR hpl hpat
  have n4 : ((0 : Int) != 0) = false := by decide
  rcases hcase with ⟨hm, hcase⟩ | ⟨hm, hcase⟩
  · simp only [Prod.mk.injEq] at hcase
    obtain ⟨rfl, rfl, rfl⟩ := hcase
    have HFI := (show Hid (∀ W : World, Lies W (fun _ => True) p (.slice pa pm pc) → BRd W (mtT p t []).1 (.slice ba (mtT p t []).1.length bc) → Calls Try.prog 8 #[.agg #[.string p.name, .string p.text, .bool p.leaf, .slice pa pm pc], .slice ba (mtT p t []).1.length bc] W (FiA p (mtT p t []).1 W)) from fun W g1 g2 => iFill19 p _ _ ba bc W g1 g2 (fun i hi => ma_names HOK.out.1 HOK.out.2 i hi) (ma_bwt HOK.out.1 HOK.out.2))
    unfold FiA at HFI
    rw [fi_ma HOK.out.1 HOK.out.2 hm] at HFI
    dsimp only at HFI
    rw [hm, if_pos rfl] at HCZ
    have HC5 := (show Hid _ from HFI.out w4 H4.out.lp (BGr.brd HGR.out))
    obtain ⟨p0, p1, p2, p3⟩ := H4.out.b3.cells
    clear hm HFI HGR HRR
    generalize (mtT p t []).1.length = bl1 at *
    simp only [Tr.val] at HC5
    go_wp2_with fail
    refine Calls.mono HC5.out ?_
    rintro e w5 ⟨uv, rfl, hb5, hown5⟩
    obtain ⟨va, vm, vc, rfl⟩ := (Own.lies hown5).form
    have H5 := hm_still H4 hb5
    have H6 := hm_still H5 (bel_alloc w5 (.cells #[.string t.name, .string t.text, .bool t.leaf, .slice va vm vc] 26))
    have hl6 : Lies (w5.alloc (.cells #[.string t.name, .string t.text, .bool t.leaf, .slice va vm vc] 26)) (fun _ => True) t (.slice va vm vc) := Lies.still (Lies.mono (fun _ _ => trivial) (Own.lies hown5)) (bel_alloc _ _)
    have HST := (show Hid (Calls Try.prog 9 #[.agg #[.string t.name, .string t.text, .bool t.leaf, .slice va vm vc], .agg #[.string t.name, .string t.text, .bool t.leaf, .slice ta tm tc]] (w5.alloc (.cells #[.string t.name, .string t.text, .bool t.leaf, .slice va vm vc] 26)) fun e w' => e = .returned (.bool true) ∧ Below (w5.alloc (.cells #[.string t.name, .string t.text, .bool t.leaf, .slice va vm vc] 26)).heap.size (w5.alloc (.cells #[.string t.name, .string t.text, .bool t.leaf, .slice va vm vc] 26)) w') from same_any t _ _ _ hl6 H6.out.lt)
    obtain ⟨t0, t1, t2, t3⟩ := H6.out.b4.cells
    obtain ⟨x0, x1, x2, x3⟩ := (Box4.new w5 (.string t.name) (.string t.text) (.bool t.leaf) (.slice va vm vc)).cells
    clear hb5 hown5 hl6 HC5 H4 H5 p0 p1 p2 p3
    go_wp2_with fail
    refine Calls.mono HST.out ?_
    rintro e w6 ⟨rfl, hb6⟩
    have H7 := hm_still H6 hb6
    clear hb6 HST H6 t0 t1 t2 t3 x0 x1 x2 x3
    obtain ⟨p0, p1, p2, p3⟩ := H7.out.b3.cells
    obtain ⟨t0, t1, t2, t3⟩ := H7.out.b4.cells
    have HC8 := (show Hid _ from HSP.out _ _ _ H7.out.lp H7.out.lt)
    go_wp2_with fail
    refine Calls.mono HC8.out ?_
    rintro e w8 ⟨sg, sc8, vs8, rfl, hb8, hrs8⟩
    have H8 := hm_still H7 hb8
    have HRS := (show Hid (RdR w8 (plT p t []) (.slice (some ⟨sg, 0, none⟩) (plT p t []).length sc8)) from RS.rd hrs8)
    clear hb8 hrs8 HC8 H7 p0 p1 p2 p3 t0 t1 t2 t3
    obtain ⟨p0, p1, p2, p3⟩ := H8.out.b3.cells
    obtain ⟨t0, t1, t2, t3⟩ := H8.out.b4.cells
    have HC9 := (show Hid _ from HIP.out w8 _ _ H8.out.lp H8.out.lt)
    go_wp2_with fail
    refine Calls.mono HC9.out ?_
    rintro e w9 ⟨ia, ic, IB, vs, rfl, hb9, hIB, hrv9⟩
    have H9 := hm_still H8 hb9
    have HSR := (show Hid _ from sameRows12 (plT p t []) _ _ w9 (RRv.rd hrv9) (RdR.still HRS.out hb9))
    have HV9 := (show Hid (RRv w9 IB (plT p t []) (.slice ia (plT p t []).length ic) vs) from hrv9)
    clear hb9 hrv9 HC9 H8 HRS HSP HIP p0 p1 p2 p3 t0 t1 t2 t3
    go_wp2_with fail
    refine Calls.mono HSR.out ?_
    rintro e wa ⟨rfl, hba⟩
    have HA := hm_still H9 hba
    have HVA := (show Hid (RRv wa IB (plT p t []) (.slice ia (plT p t []).length ic) vs) from RRv.still HV9.out hba)
    clear hba HSR H9 HV9
    generalize plT p t [] = ls at *
    go_wp2_with fail
    go_loopw [16, 17] (fun n i wr => ∃ j : Nat, i = .int .i64 j ∧ n = .int .i64 (czN (ls.take j) : Nat) ∧ j ≤ ls.length ∧ czN (ls.take j) ≤ j ∧ Hid (Lm w p t w1.heap.size (.slice pa pm pc) (.slice ta tm tc) wr ∧ RRv wr IB ls (.slice ia ls.length ic) vs)) (fun _ i _ => ls.length - (intOf i).toNat)
    case atStart => exact ⟨0, rfl, rfl, Nat.zero_le _, Nat.le_refl _, HA.out, HVA.out⟩
    case round =>
      obtain ⟨j, rfl, rfl, hj, hcj, HJ⟩ := hrel
      clear HA HVA
      by_cases hlt : j < ls.length
      · obtain ⟨u, hu1, hu2, hu3⟩ := HPA.out _ (List.getElem_mem hlt)
        have huk := hu3 HOK.out.2
        obtain ⟨ra, rcap, rb, rvs, hv0, hv1, hv2, hv3, hv4⟩ := RRv.rd HJ.out.2
        simp only [Value.slice.injEq] at hv0
        obtain ⟨rfl, _, rfl⟩ := hv0
        obtain rfl := hv2 (by omega)
        have hrow := own_path (HJ.out.2.row j hlt)
        obtain ⟨ya, yc, hyv⟩ := (own_rdi (HJ.out.2.row j hlt)).form
        have hcell : wr.cell? ⟨rb, j, none⟩ = some (vs j) := by
          have h1 := hv3 j hlt
          have h2 := World.ownsRow.cellAt HJ.out.2.out j (by omega)
          rw [slv_get vs hlt] at h2
          rw [h2]
        rw [hyv] at hcell hrow
        have hcz := czN_take hlt
        have HAT := (show Hid (∀ W : World, Below wr.heap.size wr W → Calls Try.prog 13 #[.agg #[.string t.name, .string t.text, .bool t.leaf, .slice ta tm tc], .slice ya ls[j].length yc] W (Ans (u, 0) W)) from fun W hW => (by
          have hk := iAt_any t (natI ls[j]) (.slice ta tm tc) (.slice ya ls[j].length yc) W (HJ.out.1.lt.still hW) (hrow.still hW) hwt
          rw [at_yes HOK.out.2 hu1] at hk
          exact hk))
        unfold Ans at HAT
        simp only [Tr.val] at HAT
        have hmu := ma_yes HOK.out.1 huk hu2
        have huw := ok_wt huk
        have HSK := (show Hid (∀ W : World, Below wr.heap.size wr W → (W.cell? ⟨w1.heap.size + 1, 0, none⟩ = some (.string t.name) ∧ W.cell? ⟨w1.heap.size + 1, 1, none⟩ = some (.string t.text) ∧ W.cell? ⟨w1.heap.size + 1, 2, none⟩ = some (.bool t.leaf) ∧ W.cell? ⟨w1.heap.size + 1, 3, none⟩ = some (.slice ta tm tc)) ∧ W.cell? ⟨rb, j, none⟩ = some (.slice ya ls[j].length yc)) from fun W hW => ⟨(HJ.out.1.b4.still hW).cells, (hW.cell (lt_of_cell hcell)).trans hcell⟩)
        have HMU := (show Hid _ from hmu)
        have HCZJ := (show Hid _ from hcz)
        have i1 : (0 : Int) ≤ (j : Int) := by omega
        have i2 : (j : Int) < (ls.length : Int) := by omega
        have hA : Below wr.heap.size wr wr.drew := (Below.refl _ _).drew
        have hB : Below wr.heap.size wr (wr.alloc zZ).drew := (bel_alloc wr zZ).drew
        clear hu1 hu2 hu3 hv1 hv3 hv4 hyv hcell hrow hmu hcz huk hv2
        generalize hyl : ls[j].length = yl at *
        go_wp2_with fail
        refine wp_region_held_drew (S := (fun wq => (wq.cell? ⟨w1.heap.size + 1, 0, none⟩ = some (.string t.name) ∧ wq.cell? ⟨w1.heap.size + 1, 1, none⟩ = some (.string t.text) ∧ wq.cell? ⟨w1.heap.size + 1, 2, none⟩ = some (.bool t.leaf) ∧ wq.cell? ⟨w1.heap.size + 1, 3, none⟩ = some (.slice ta tm tc)) ∧ wq.cell? ⟨rb, j, none⟩ = some (.slice ya yl yc))) (by kernel_rfl) (HSK.out _ hA) (fun hHeld => ?_)
        refine wpAnyH_take (i := 0) (oi := oL0) (v := ?v2001) rfl (by kernel_rfl) (by kernel_rfl) (by kernel_rfl) (fun _ _ _ h => h) (Or.inl ⟨by rfl, ?h2001⟩) hHeld ?r2001
        case h2001 => (intro w hSw; (try dsimp only at hSw); (try unfold oL0); go_simp; try with_reducible rfl)
        try simp only [Act.put, List.setIfInBounds_toArray, List.set_cons_zero, List.set_cons_succ]
        refine wpAnyH_take (i := 1) (oi := oL1) (v := ?v2002) rfl (by kernel_rfl) (by kernel_rfl) (by kernel_rfl) (fun _ _ _ h => h) (Or.inl ⟨by rfl, ?h2002⟩) hHeld ?r2002
        case h2002 => (intro w hSw; (try dsimp only at hSw); (try unfold oL1); go_simp; try with_reducible rfl)
        try simp only [Act.put, List.setIfInBounds_toArray, List.set_cons_zero, List.set_cons_succ]
        refine wpAnyH_take (i := 2) (oi := oL2) (v := ?v2003) rfl (by kernel_rfl) (by kernel_rfl) (by kernel_rfl) (fun _ _ _ h => h) (Or.inl ⟨by rfl, ?h2003⟩) hHeld ?r2003
        case h2003 => (intro w hSw; (try dsimp only at hSw); (try unfold oL2); go_simp; try with_reducible rfl)
        try simp only [Act.put, List.setIfInBounds_toArray, List.set_cons_zero, List.set_cons_succ]
        refine wpAnyH_take (i := 3) (oi := oL3) (v := ?v2004) rfl (by kernel_rfl) (by kernel_rfl) (by kernel_rfl) (fun _ _ _ h => h) (Or.inl ⟨by rfl, ?h2004⟩) hHeld ?r2004
        case h2004 => (intro w hSw; (try dsimp only at hSw); (try unfold oL3); go_simp; try with_reducible rfl)
        try simp only [Act.put, List.setIfInBounds_toArray, List.set_cons_zero, List.set_cons_succ]
        refine wpAnyH_take (i := 4) (oi := oL4) (v := ?v2005) rfl (by kernel_rfl) (by kernel_rfl) (by kernel_rfl) (fun _ _ _ h => h) (Or.inl ⟨by rfl, ?h2005⟩) hHeld ?r2005
        case h2005 => (intro w hSw; (try dsimp only at hSw); (try unfold oL4); go_simp; try with_reducible rfl)
        try simp only [Act.put, List.setIfInBounds_toArray, List.set_cons_zero, List.set_cons_succ]
        refine wpAnyH_ready (rs := [5, 9]) (by kernel_rfl) (by simp) ?_
        refine (AllReadyH.cons (o := oL5) rfl (fun K hK => ?_) (AllReadyH.cons (o := oL9) rfl (fun K hK => ?_) AllReadyH.nil))
        · unfold oL5
          go_simp
          refine Calls.mono (HAT.out _ hA) ?_
          rintro e w5 ⟨ua, um, uc, rfl, hb5, hown5⟩
          dsimp only
          have hb6 : Below wr.heap.size wr w5 := bel_trans hA hb5
          have hb7 : Below wr.heap.size wr (w5.alloc zZ) := bel_trans hb6 (bel_alloc _ _)
          have hb8 : Below wr.heap.size wr (w5.alloc (.cells #[.string u.name, .string u.text, .bool u.leaf, .slice ua um uc] 26)) := bel_trans hb6 (bel_alloc _ _)
          have LU : Lies (w5.alloc (.cells #[.string u.name, .string u.text, .bool u.leaf, .slice ua um uc] 26)) (fun _ => True) u (.slice ua um uc) := Lies.still (Lies.mono (fun _ _ => trivial) (Own.lies hown5)) (bel_alloc _ _)
          have BX := Box4.new w5 (.string u.name) (.string u.text) (.bool u.leaf) (.slice ua um uc)
          have HF := (show Hid (Lm w p t w1.heap.size (.slice pa pm pc) (.slice ta tm tc) (w5.alloc (.cells #[.string u.name, .string u.text, .bool u.leaf, .slice ua um uc] 26))) from Lm.still HJ.out.1 hb8)
          have HVF := (show Hid (RRv (w5.alloc (.cells #[.string u.name, .string u.text, .bool u.leaf, .slice ua um uc] 26)) IB ls (.slice (some ⟨rb, 0, none⟩) ls.length ic) vs) from RRv.still HJ.out.2 hb8)
          have HCM := (show Hid (Calls Try.prog 7 #[.agg #[.string p.name, .string p.text, .bool p.leaf, .slice pa pm pc], .agg #[.string u.name, .string u.text, .bool u.leaf, .slice ua um uc]] (w5.alloc (.cells #[.string u.name, .string u.text, .bool u.leaf, .slice ua um uc] 26)) (IaA ((mtT p u []).1, true, 0) (w5.alloc (.cells #[.string u.name, .string u.text, .bool u.leaf, .slice ua um uc] 26)))) from (by
            have hk := HIM.out (w5.alloc (.cells #[.string u.name, .string u.text, .bool u.leaf, .slice ua um uc] 26)) u _ _ HF.out.lp LU huw
            rw [HMU.out] at hk
            exact hk))
          unfold IaA at HCM
          dsimp only at HCM
          obtain ⟨p0, p1, p2, p3⟩ := HF.out.b3.cells
          obtain ⟨u0, u1, u2, u3⟩ := BX.cells
          generalize (mtT p u []).1 = RU at *
          have hcF := (HSK.out _ hb8).2
          clear hHeld
          refine hK.out _ _ (HSK.out _ hb6) (fun hHeld => ?_)
          clear hK K
          try simp only [Act.put, List.setIfInBounds_toArray, List.set_cons_zero, List.set_cons_succ]
          refine wpAnyH_take (i := 6) (oi := oL6) (v := ?v2006) rfl (by kernel_rfl) (by kernel_rfl) (by kernel_rfl) (fun _ _ _ h => h) (Or.inl ⟨by rfl, ?h2006⟩) hHeld ?r2006
          case h2006 => (intro w hSw; (try dsimp only at hSw); (try unfold oL6); go_simp; try with_reducible rfl)
          try simp only [Act.put, List.setIfInBounds_toArray, List.set_cons_zero, List.set_cons_succ]
          refine wpAnyH_take (i := 7) (oi := oL7) (v := ?v2007) rfl (by kernel_rfl) (by kernel_rfl) (by kernel_rfl) (fun _ _ _ h => h) (Or.inl ⟨by rfl, ?h2007⟩) hHeld ?r2007
          case h2007 => (intro w hSw; (try dsimp only at hSw); (try unfold oL7); go_simp; try with_reducible rfl)
          try simp only [Act.put, List.setIfInBounds_toArray, List.set_cons_zero, List.set_cons_succ]
          refine wpAnyH_take (i := 8) (oi := oL8) (v := ?v2008) rfl (by kernel_rfl) (by kernel_rfl) (by kernel_rfl) (fun _ _ _ h => h) (Or.inl ⟨by rfl, ?h2008⟩) hHeld ?r2008
          case h2008 => (intro w hSw; (try dsimp only at hSw); (try unfold oL8); go_simp; try with_reducible rfl)
          try simp only [Act.put, List.setIfInBounds_toArray, List.set_cons_zero, List.set_cons_succ]
          refine wpAnyH_ready (rs := [9]) (by kernel_rfl) (by simp) ?_
          refine (AllReadyH.cons (o := oL9) rfl (fun K hK => ?_) AllReadyH.nil)
          unfold oL9
          go_simp
          clear hHeld
          refine hK.out _ _ (HSK.out _ hb7) (fun hHeld => ?_)
          clear hK K
          try simp only [Act.put, List.setIfInBounds_toArray, List.set_cons_zero, List.set_cons_succ]
          refine wpAnyH_ready (rs := [10]) (by kernel_rfl) (by simp) ?_
          refine (AllReadyH.cons (o := oL10) rfl (fun K hK => ?_) AllReadyH.nil)
          unfold oL10
          go_simp
          clear hHeld
          refine hK.out _ _ (HSK.out _ hb8) (fun hHeld => ?_)
          clear hK K
          try simp only [Act.put, List.setIfInBounds_toArray, List.set_cons_zero, List.set_cons_succ]
          refine wpAnyH_ready (rs := [11]) (by kernel_rfl) (by simp) ?_
          refine (AllReadyH.cons (o := oL11) rfl (fun K hK => ?_) AllReadyH.nil)
          unfold oL11
          go_simp
          clear hHeld
          refine hK.out _ _ (HSK.out _ hb8) (fun hHeld => ?_)
          clear hK K
          try simp only [Act.put, List.setIfInBounds_toArray, List.set_cons_zero, List.set_cons_succ]
          refine wpAnyH_done (by kernel_rfl) ?_ _
          (try refine NoPanic.normal ?_)
          go_wp2_with fail
          refine Calls.mono HCM.out ?_
          rintro e wz ⟨za, zc, ZB, rfl, hbz, _, _⟩
          have HZ := hm_still HF hbz
          have HVZ := (show Hid (RRv wz IB ls (.slice (some ⟨rb, 0, none⟩) ls.length ic) vs) from RRv.still HVF.out hbz)
          have hcz : wz.cell? ⟨rb, j, none⟩ = some (.slice ya yl yc) := (hbz.cell (lt_of_cell hcF)).trans hcF
          clear hbz HCM HF HVF hcF BX LU p0 p1 p2 p3 u0 u1 u2 u3
          by_cases hy0 : yl = 0
          · have he : ((yl : Int) == 0) = true := by simp [hy0]
            have hq : czN (ls.take (j + 1)) = czN (ls.take j) + 1 := by rw [HCZJ.out, if_pos (by omega)]
            have hcb : (czN (ls.take j) : Int) ≤ 1000 := by omega
            go_wp2_with fail
            exact ⟨⟨j + 1, by go_num, by rw [hq]; go_num, by omega, by omega, HZ.out, HVZ.out⟩, by simp [intOf]; omega⟩
          · have he : ((yl : Int) == 0) = false := by simp [hy0]
            have hq : czN (ls.take (j + 1)) = czN (ls.take j) := by rw [HCZJ.out, if_neg (by omega), Nat.add_zero]
            go_wp2_with fail
            exact ⟨⟨j + 1, by go_num, by rw [hq], by omega, by omega, HZ.out, HVZ.out⟩, by simp [intOf]; omega⟩
        · unfold oL9
          go_simp
          clear hHeld
          refine hK.out _ _ (HSK.out _ hB) (fun hHeld => ?_)
          clear hK K
          try simp only [Act.put, List.setIfInBounds_toArray, List.set_cons_zero, List.set_cons_succ]
          refine wpAnyH_ready (rs := [5]) (by kernel_rfl) (by simp) ?_
          refine (AllReadyH.cons (o := oL5) rfl (fun K hK => ?_) AllReadyH.nil)
          unfold oL5
          go_simp
          refine Calls.mono (HAT.out _ hB) ?_
          rintro e w5 ⟨ua, um, uc, rfl, hb5, hown5⟩
          dsimp only
          have hb6 : Below wr.heap.size wr w5 := bel_trans hB hb5
          have B5 : Box4 w5 wr.heap.size (.string ByteArray.empty) (.string ByteArray.empty) (.bool false) (.slice none 0 0) := Box4.still ((Box4.new wr _ _ _ _).keep (w' := (wr.alloc zZ).drew) rfl) hb5
          have e0 : ∀ o, wr.heap.size ≤ (⟨wr.heap.size, o, none⟩ : Addr).block := fun _ => Nat.le_refl _
          have hb8 : Below wr.heap.size wr (put4 w5 wr.heap.size (.string u.name) (.string u.text) (.bool u.leaf) (.slice ua um uc)) := ((((hb6.setCell (e0 0) _).setCell (e0 1) _).setCell (e0 2) _).setCell (e0 3) _)
          have hzq : (wr.alloc zZ).drew.heap.size = wr.heap.size + 1 := by simp
          have L5 : Lies w5 (fun q => wr.heap.size < q) u (.slice ua um uc) := Lies.mono (fun q hq => by have h1 : (wr.alloc zZ).drew.heap.size ≤ q := hq.1; rw [hzq] at h1; show wr.heap.size < q; omega) (Own.lies hown5)
          have hni : ¬ wr.heap.size < wr.heap.size := Nat.lt_irrefl _
          have LU : Lies (put4 w5 wr.heap.size (.string u.name) (.string u.text) (.bool u.leaf) (.slice ua um uc)) (fun _ => True) u (.slice ua um uc) := Lies.mono (fun _ _ => trivial) ((((Lies.set L5 hni).set hni).set hni).set hni)
          have BX := Box4.set4 B5 (.string u.name) (.string u.text) (.bool u.leaf) (.slice ua um uc)
          obtain ⟨z0, z1, z2, z3⟩ := B5.cells
          have f0 := B5.frozen 0
          have f1 := B5.frozen 1
          have f2 := B5.frozen 2
          have f3 := B5.frozen 3
          have HF := (show Hid (Lm w p t w1.heap.size (.slice pa pm pc) (.slice ta tm tc) (put4 w5 wr.heap.size (.string u.name) (.string u.text) (.bool u.leaf) (.slice ua um uc))) from Lm.still HJ.out.1 hb8)
          have HVF := (show Hid (RRv (put4 w5 wr.heap.size (.string u.name) (.string u.text) (.bool u.leaf) (.slice ua um uc)) IB ls (.slice (some ⟨rb, 0, none⟩) ls.length ic) vs) from RRv.still HJ.out.2 hb8)
          have HCM := (show Hid (Calls Try.prog 7 #[.agg #[.string p.name, .string p.text, .bool p.leaf, .slice pa pm pc], .agg #[.string u.name, .string u.text, .bool u.leaf, .slice ua um uc]] (put4 w5 wr.heap.size (.string u.name) (.string u.text) (.bool u.leaf) (.slice ua um uc)) (IaA ((mtT p u []).1, true, 0) (put4 w5 wr.heap.size (.string u.name) (.string u.text) (.bool u.leaf) (.slice ua um uc)))) from (by
            have hk := HIM.out (put4 w5 wr.heap.size (.string u.name) (.string u.text) (.bool u.leaf) (.slice ua um uc)) u _ _ HF.out.lp LU huw
            rw [HMU.out] at hk
            exact hk))
          unfold IaA at HCM
          dsimp only at HCM
          obtain ⟨p0, p1, p2, p3⟩ := HF.out.b3.cells
          obtain ⟨u0, u1, u2, u3⟩ := BX.cells
          generalize (mtT p u []).1 = RU at *
          have hcF := (HSK.out _ hb8).2
          clear hHeld
          refine hK.out _ _ (HSK.out _ hb6) (fun hHeld => ?_)
          clear hK K
          try simp only [Act.put, List.setIfInBounds_toArray, List.set_cons_zero, List.set_cons_succ]
          refine wpAnyH_take (i := 6) (oi := oL6) (v := ?v2009) rfl (by kernel_rfl) (by kernel_rfl) (by kernel_rfl) (fun _ _ _ h => h) (Or.inl ⟨by rfl, ?h2009⟩) hHeld ?r2009
          case h2009 => (intro w hSw; (try dsimp only at hSw); (try unfold oL6); go_simp; try with_reducible rfl)
          try simp only [Act.put, List.setIfInBounds_toArray, List.set_cons_zero, List.set_cons_succ]
          refine wpAnyH_take (i := 7) (oi := oL7) (v := ?v2010) rfl (by kernel_rfl) (by kernel_rfl) (by kernel_rfl) (fun _ _ _ h => h) (Or.inl ⟨by rfl, ?h2010⟩) hHeld ?r2010
          case h2010 => (intro w hSw; (try dsimp only at hSw); (try unfold oL7); go_simp; try with_reducible rfl)
          try simp only [Act.put, List.setIfInBounds_toArray, List.set_cons_zero, List.set_cons_succ]
          refine wpAnyH_take (i := 8) (oi := oL8) (v := ?v2011) rfl (by kernel_rfl) (by kernel_rfl) (by kernel_rfl) (fun _ _ _ h => h) (Or.inl ⟨by rfl, ?h2011⟩) hHeld ?r2011
          case h2011 => (intro w hSw; (try dsimp only at hSw); (try unfold oL8); go_simp; try with_reducible rfl)
          try simp only [Act.put, List.setIfInBounds_toArray, List.set_cons_zero, List.set_cons_succ]
          refine wpAnyH_ready (rs := [10]) (by kernel_rfl) (by simp) ?_
          refine (AllReadyH.cons (o := oL10) rfl (fun K hK => ?_) AllReadyH.nil)
          unfold oL10
          go_simp
          clear hHeld
          refine hK.out _ _ (HSK.out _ hb8) (fun hHeld => ?_)
          clear hK K
          try simp only [Act.put, List.setIfInBounds_toArray, List.set_cons_zero, List.set_cons_succ]
          refine wpAnyH_ready (rs := [11]) (by kernel_rfl) (by simp) ?_
          refine (AllReadyH.cons (o := oL11) rfl (fun K hK => ?_) AllReadyH.nil)
          unfold oL11
          go_simp
          clear hHeld
          refine hK.out _ _ (HSK.out _ hb8) (fun hHeld => ?_)
          clear hK K
          try simp only [Act.put, List.setIfInBounds_toArray, List.set_cons_zero, List.set_cons_succ]
          refine wpAnyH_done (by kernel_rfl) ?_ _
          (try refine NoPanic.normal ?_)
          go_wp2_with fail
          refine Calls.mono HCM.out ?_
          rintro e wz ⟨za, zc, ZB, rfl, hbz, _, _⟩
          have HZ := hm_still HF hbz
          have HVZ := (show Hid (RRv wz IB ls (.slice (some ⟨rb, 0, none⟩) ls.length ic) vs) from RRv.still HVF.out hbz)
          have hcz : wz.cell? ⟨rb, j, none⟩ = some (.slice ya yl yc) := (hbz.cell (lt_of_cell hcF)).trans hcF
          clear hbz HCM HF HVF hcF BX LU p0 p1 p2 p3 u0 u1 u2 u3
          by_cases hy0 : yl = 0
          · have he : ((yl : Int) == 0) = true := by simp [hy0]
            have hq : czN (ls.take (j + 1)) = czN (ls.take j) + 1 := by rw [HCZJ.out, if_pos (by omega)]
            have hcb : (czN (ls.take j) : Int) ≤ 1000 := by omega
            go_wp2_with fail
            exact ⟨⟨j + 1, by go_num, by rw [hq]; go_num, by omega, by omega, HZ.out, HVZ.out⟩, by simp [intOf]; omega⟩
          · have he : ((yl : Int) == 0) = false := by simp [hy0]
            have hq : czN (ls.take (j + 1)) = czN (ls.take j) := by rw [HCZJ.out, if_neg (by omega), Nat.add_zero]
            go_wp2_with fail
            exact ⟨⟨j + 1, by go_num, by rw [hq], by omega, by omega, HZ.out, HVZ.out⟩, by simp [intOf]; omega⟩
      · have q1 : ¬ ((j : Int) < (ls.length : Int)) := by omega
        have hje : j = ls.length := by omega
        have hce : czN (ls.take j) = 1 := by rw [hje, List.take_length]; exact HCZ.out
        rw [hce]
        go_wp2_with fail
        go_ret
        exact ⟨rfl, HJ.out.1.bel⟩
  · simp only [Prod.mk.injEq] at hcase
    obtain ⟨rfl, rfl, rfl⟩ := hcase
    rw [hm, if_neg (by decide)] at HCZ
    clear hm HGR HRR
    obtain ⟨p0, p1, p2, p3⟩ := H4.out.b3.cells
    obtain ⟨t0, t1, t2, t3⟩ := H4.out.b4.cells
    have HC8 := (show Hid _ from HSP.out _ _ _ H4.out.lp H4.out.lt)
    go_wp2_with fail
    refine Calls.mono HC8.out ?_
    rintro e w8 ⟨sg, sc8, vs8, rfl, hb8, hrs8⟩
    have H8 := hm_still H4 hb8
    have HRS := (show Hid (RdR w8 (plT p t []) (.slice (some ⟨sg, 0, none⟩) (plT p t []).length sc8)) from RS.rd hrs8)
    clear hb8 hrs8 HC8 H4 p0 p1 p2 p3 t0 t1 t2 t3
    obtain ⟨p0, p1, p2, p3⟩ := H8.out.b3.cells
    obtain ⟨t0, t1, t2, t3⟩ := H8.out.b4.cells
    have HC9 := (show Hid _ from HIP.out w8 _ _ H8.out.lp H8.out.lt)
    go_wp2_with fail
    refine Calls.mono HC9.out ?_
    rintro e w9 ⟨ia, ic, IB, vs, rfl, hb9, hIB, hrv9⟩
    have H9 := hm_still H8 hb9
    have HSR := (show Hid _ from sameRows12 (plT p t []) _ _ w9 (RRv.rd hrv9) (RdR.still HRS.out hb9))
    have HV9 := (show Hid (RRv w9 IB (plT p t []) (.slice ia (plT p t []).length ic) vs) from hrv9)
    clear hb9 hrv9 HC9 H8 HRS HSP HIP p0 p1 p2 p3 t0 t1 t2 t3
    go_wp2_with fail
    refine Calls.mono HSR.out ?_
    rintro e wa ⟨rfl, hba⟩
    have HA := hm_still H9 hba
    have HVA := (show Hid (RRv wa IB (plT p t []) (.slice ia (plT p t []).length ic) vs) from RRv.still HV9.out hba)
    clear hba HSR H9 HV9
    generalize plT p t [] = ls at *
    go_wp2_with fail
    go_loopw [16, 17] (fun n i wr => ∃ j : Nat, i = .int .i64 j ∧ n = .int .i64 (czN (ls.take j) : Nat) ∧ j ≤ ls.length ∧ czN (ls.take j) ≤ j ∧ Hid (Lm w p t w1.heap.size (.slice pa pm pc) (.slice ta tm tc) wr ∧ RRv wr IB ls (.slice ia ls.length ic) vs)) (fun _ i _ => ls.length - (intOf i).toNat)
    case atStart => exact ⟨0, rfl, rfl, Nat.zero_le _, Nat.le_refl _, HA.out, HVA.out⟩
    case round =>
      obtain ⟨j, rfl, rfl, hj, hcj, HJ⟩ := hrel
      clear HA HVA
      by_cases hlt : j < ls.length
      · obtain ⟨u, hu1, hu2, hu3⟩ := HPA.out _ (List.getElem_mem hlt)
        have huk := hu3 HOK.out.2
        obtain ⟨ra, rcap, rb, rvs, hv0, hv1, hv2, hv3, hv4⟩ := RRv.rd HJ.out.2
        simp only [Value.slice.injEq] at hv0
        obtain ⟨rfl, _, rfl⟩ := hv0
        obtain rfl := hv2 (by omega)
        have hrow := own_path (HJ.out.2.row j hlt)
        obtain ⟨ya, yc, hyv⟩ := (own_rdi (HJ.out.2.row j hlt)).form
        have hcell : wr.cell? ⟨rb, j, none⟩ = some (vs j) := by
          have h1 := hv3 j hlt
          have h2 := World.ownsRow.cellAt HJ.out.2.out j (by omega)
          rw [slv_get vs hlt] at h2
          rw [h2]
        rw [hyv] at hcell hrow
        have hcz := czN_take hlt
        have HAT := (show Hid (∀ W : World, Below wr.heap.size wr W → Calls Try.prog 13 #[.agg #[.string t.name, .string t.text, .bool t.leaf, .slice ta tm tc], .slice ya ls[j].length yc] W (Ans (u, 0) W)) from fun W hW => (by
          have hk := iAt_any t (natI ls[j]) (.slice ta tm tc) (.slice ya ls[j].length yc) W (HJ.out.1.lt.still hW) (hrow.still hW) hwt
          rw [at_yes HOK.out.2 hu1] at hk
          exact hk))
        unfold Ans at HAT
        simp only [Tr.val] at HAT
        have hmu := ma_yes HOK.out.1 huk hu2
        have huw := ok_wt huk
        have HSK := (show Hid (∀ W : World, Below wr.heap.size wr W → (W.cell? ⟨w1.heap.size + 1, 0, none⟩ = some (.string t.name) ∧ W.cell? ⟨w1.heap.size + 1, 1, none⟩ = some (.string t.text) ∧ W.cell? ⟨w1.heap.size + 1, 2, none⟩ = some (.bool t.leaf) ∧ W.cell? ⟨w1.heap.size + 1, 3, none⟩ = some (.slice ta tm tc)) ∧ W.cell? ⟨rb, j, none⟩ = some (.slice ya ls[j].length yc)) from fun W hW => ⟨(HJ.out.1.b4.still hW).cells, (hW.cell (lt_of_cell hcell)).trans hcell⟩)
        have HMU := (show Hid _ from hmu)
        have HCZJ := (show Hid _ from hcz)
        have i1 : (0 : Int) ≤ (j : Int) := by omega
        have i2 : (j : Int) < (ls.length : Int) := by omega
        have hA : Below wr.heap.size wr wr.drew := (Below.refl _ _).drew
        have hB : Below wr.heap.size wr (wr.alloc zZ).drew := (bel_alloc wr zZ).drew
        clear hu1 hu2 hu3 hv1 hv3 hv4 hyv hcell hrow hmu hcz huk hv2
        generalize hyl : ls[j].length = yl at *
        go_wp2_with fail
        refine wp_region_held_drew (S := (fun wq => (wq.cell? ⟨w1.heap.size + 1, 0, none⟩ = some (.string t.name) ∧ wq.cell? ⟨w1.heap.size + 1, 1, none⟩ = some (.string t.text) ∧ wq.cell? ⟨w1.heap.size + 1, 2, none⟩ = some (.bool t.leaf) ∧ wq.cell? ⟨w1.heap.size + 1, 3, none⟩ = some (.slice ta tm tc)) ∧ wq.cell? ⟨rb, j, none⟩ = some (.slice ya yl yc))) (by kernel_rfl) (HSK.out _ hA) (fun hHeld => ?_)
        refine wpAnyH_take (i := 0) (oi := oL0) (v := ?v4001) rfl (by kernel_rfl) (by kernel_rfl) (by kernel_rfl) (fun _ _ _ h => h) (Or.inl ⟨by rfl, ?h4001⟩) hHeld ?r4001
        case h4001 => (intro w hSw; (try dsimp only at hSw); (try unfold oL0); go_simp; try with_reducible rfl)
        try simp only [Act.put, List.setIfInBounds_toArray, List.set_cons_zero, List.set_cons_succ]
        refine wpAnyH_take (i := 1) (oi := oL1) (v := ?v4002) rfl (by kernel_rfl) (by kernel_rfl) (by kernel_rfl) (fun _ _ _ h => h) (Or.inl ⟨by rfl, ?h4002⟩) hHeld ?r4002
        case h4002 => (intro w hSw; (try dsimp only at hSw); (try unfold oL1); go_simp; try with_reducible rfl)
        try simp only [Act.put, List.setIfInBounds_toArray, List.set_cons_zero, List.set_cons_succ]
        refine wpAnyH_take (i := 2) (oi := oL2) (v := ?v4003) rfl (by kernel_rfl) (by kernel_rfl) (by kernel_rfl) (fun _ _ _ h => h) (Or.inl ⟨by rfl, ?h4003⟩) hHeld ?r4003
        case h4003 => (intro w hSw; (try dsimp only at hSw); (try unfold oL2); go_simp; try with_reducible rfl)
        try simp only [Act.put, List.setIfInBounds_toArray, List.set_cons_zero, List.set_cons_succ]
        refine wpAnyH_take (i := 3) (oi := oL3) (v := ?v4004) rfl (by kernel_rfl) (by kernel_rfl) (by kernel_rfl) (fun _ _ _ h => h) (Or.inl ⟨by rfl, ?h4004⟩) hHeld ?r4004
        case h4004 => (intro w hSw; (try dsimp only at hSw); (try unfold oL3); go_simp; try with_reducible rfl)
        try simp only [Act.put, List.setIfInBounds_toArray, List.set_cons_zero, List.set_cons_succ]
        refine wpAnyH_take (i := 4) (oi := oL4) (v := ?v4005) rfl (by kernel_rfl) (by kernel_rfl) (by kernel_rfl) (fun _ _ _ h => h) (Or.inl ⟨by rfl, ?h4005⟩) hHeld ?r4005
        case h4005 => (intro w hSw; (try dsimp only at hSw); (try unfold oL4); go_simp; try with_reducible rfl)
        try simp only [Act.put, List.setIfInBounds_toArray, List.set_cons_zero, List.set_cons_succ]
        refine wpAnyH_ready (rs := [5, 9]) (by kernel_rfl) (by simp) ?_
        refine (AllReadyH.cons (o := oL5) rfl (fun K hK => ?_) (AllReadyH.cons (o := oL9) rfl (fun K hK => ?_) AllReadyH.nil))
        · unfold oL5
          go_simp
          refine Calls.mono (HAT.out _ hA) ?_
          rintro e w5 ⟨ua, um, uc, rfl, hb5, hown5⟩
          dsimp only
          have hb6 : Below wr.heap.size wr w5 := bel_trans hA hb5
          have hb7 : Below wr.heap.size wr (w5.alloc zZ) := bel_trans hb6 (bel_alloc _ _)
          have hb8 : Below wr.heap.size wr (w5.alloc (.cells #[.string u.name, .string u.text, .bool u.leaf, .slice ua um uc] 26)) := bel_trans hb6 (bel_alloc _ _)
          have LU : Lies (w5.alloc (.cells #[.string u.name, .string u.text, .bool u.leaf, .slice ua um uc] 26)) (fun _ => True) u (.slice ua um uc) := Lies.still (Lies.mono (fun _ _ => trivial) (Own.lies hown5)) (bel_alloc _ _)
          have BX := Box4.new w5 (.string u.name) (.string u.text) (.bool u.leaf) (.slice ua um uc)
          have HF := (show Hid (Lm w p t w1.heap.size (.slice pa pm pc) (.slice ta tm tc) (w5.alloc (.cells #[.string u.name, .string u.text, .bool u.leaf, .slice ua um uc] 26))) from Lm.still HJ.out.1 hb8)
          have HVF := (show Hid (RRv (w5.alloc (.cells #[.string u.name, .string u.text, .bool u.leaf, .slice ua um uc] 26)) IB ls (.slice (some ⟨rb, 0, none⟩) ls.length ic) vs) from RRv.still HJ.out.2 hb8)
          have HCM := (show Hid (Calls Try.prog 7 #[.agg #[.string p.name, .string p.text, .bool p.leaf, .slice pa pm pc], .agg #[.string u.name, .string u.text, .bool u.leaf, .slice ua um uc]] (w5.alloc (.cells #[.string u.name, .string u.text, .bool u.leaf, .slice ua um uc] 26)) (IaA ((mtT p u []).1, true, 0) (w5.alloc (.cells #[.string u.name, .string u.text, .bool u.leaf, .slice ua um uc] 26)))) from (by
            have hk := HIM.out (w5.alloc (.cells #[.string u.name, .string u.text, .bool u.leaf, .slice ua um uc] 26)) u _ _ HF.out.lp LU huw
            rw [HMU.out] at hk
            exact hk))
          unfold IaA at HCM
          dsimp only at HCM
          obtain ⟨p0, p1, p2, p3⟩ := HF.out.b3.cells
          obtain ⟨u0, u1, u2, u3⟩ := BX.cells
          generalize (mtT p u []).1 = RU at *
          have hcF := (HSK.out _ hb8).2
          clear hHeld
          refine hK.out _ _ (HSK.out _ hb6) (fun hHeld => ?_)
          clear hK K
          try simp only [Act.put, List.setIfInBounds_toArray, List.set_cons_zero, List.set_cons_succ]
          refine wpAnyH_take (i := 6) (oi := oL6) (v := ?v4006) rfl (by kernel_rfl) (by kernel_rfl) (by kernel_rfl) (fun _ _ _ h => h) (Or.inl ⟨by rfl, ?h4006⟩) hHeld ?r4006
          case h4006 => (intro w hSw; (try dsimp only at hSw); (try unfold oL6); go_simp; try with_reducible rfl)
          try simp only [Act.put, List.setIfInBounds_toArray, List.set_cons_zero, List.set_cons_succ]
          refine wpAnyH_take (i := 7) (oi := oL7) (v := ?v4007) rfl (by kernel_rfl) (by kernel_rfl) (by kernel_rfl) (fun _ _ _ h => h) (Or.inl ⟨by rfl, ?h4007⟩) hHeld ?r4007
          case h4007 => (intro w hSw; (try dsimp only at hSw); (try unfold oL7); go_simp; try with_reducible rfl)
          try simp only [Act.put, List.setIfInBounds_toArray, List.set_cons_zero, List.set_cons_succ]
          refine wpAnyH_take (i := 8) (oi := oL8) (v := ?v4008) rfl (by kernel_rfl) (by kernel_rfl) (by kernel_rfl) (fun _ _ _ h => h) (Or.inl ⟨by rfl, ?h4008⟩) hHeld ?r4008
          case h4008 => (intro w hSw; (try dsimp only at hSw); (try unfold oL8); go_simp; try with_reducible rfl)
          try simp only [Act.put, List.setIfInBounds_toArray, List.set_cons_zero, List.set_cons_succ]
          refine wpAnyH_ready (rs := [9]) (by kernel_rfl) (by simp) ?_
          refine (AllReadyH.cons (o := oL9) rfl (fun K hK => ?_) AllReadyH.nil)
          unfold oL9
          go_simp
          clear hHeld
          refine hK.out _ _ (HSK.out _ hb7) (fun hHeld => ?_)
          clear hK K
          try simp only [Act.put, List.setIfInBounds_toArray, List.set_cons_zero, List.set_cons_succ]
          refine wpAnyH_ready (rs := [10]) (by kernel_rfl) (by simp) ?_
          refine (AllReadyH.cons (o := oL10) rfl (fun K hK => ?_) AllReadyH.nil)
          unfold oL10
          go_simp
          clear hHeld
          refine hK.out _ _ (HSK.out _ hb8) (fun hHeld => ?_)
          clear hK K
          try simp only [Act.put, List.setIfInBounds_toArray, List.set_cons_zero, List.set_cons_succ]
          refine wpAnyH_ready (rs := [11]) (by kernel_rfl) (by simp) ?_
          refine (AllReadyH.cons (o := oL11) rfl (fun K hK => ?_) AllReadyH.nil)
          unfold oL11
          go_simp
          clear hHeld
          refine hK.out _ _ (HSK.out _ hb8) (fun hHeld => ?_)
          clear hK K
          try simp only [Act.put, List.setIfInBounds_toArray, List.set_cons_zero, List.set_cons_succ]
          refine wpAnyH_done (by kernel_rfl) ?_ _
          (try refine NoPanic.normal ?_)
          go_wp2_with fail
          refine Calls.mono HCM.out ?_
          rintro e wz ⟨za, zc, ZB, rfl, hbz, _, _⟩
          have HZ := hm_still HF hbz
          have HVZ := (show Hid (RRv wz IB ls (.slice (some ⟨rb, 0, none⟩) ls.length ic) vs) from RRv.still HVF.out hbz)
          have hcz : wz.cell? ⟨rb, j, none⟩ = some (.slice ya yl yc) := (hbz.cell (lt_of_cell hcF)).trans hcF
          clear hbz HCM HF HVF hcF BX LU p0 p1 p2 p3 u0 u1 u2 u3
          by_cases hy0 : yl = 0
          · have he : ((yl : Int) == 0) = true := by simp [hy0]
            have hq : czN (ls.take (j + 1)) = czN (ls.take j) + 1 := by rw [HCZJ.out, if_pos (by omega)]
            have hcb : (czN (ls.take j) : Int) ≤ 1000 := by omega
            go_wp2_with fail
            exact ⟨⟨j + 1, by go_num, by rw [hq]; go_num, by omega, by omega, HZ.out, HVZ.out⟩, by simp [intOf]; omega⟩
          · have he : ((yl : Int) == 0) = false := by simp [hy0]
            have hq : czN (ls.take (j + 1)) = czN (ls.take j) := by rw [HCZJ.out, if_neg (by omega), Nat.add_zero]
            go_wp2_with fail
            exact ⟨⟨j + 1, by go_num, by rw [hq], by omega, by omega, HZ.out, HVZ.out⟩, by simp [intOf]; omega⟩
        · unfold oL9
          go_simp
          clear hHeld
          refine hK.out _ _ (HSK.out _ hB) (fun hHeld => ?_)
          clear hK K
          try simp only [Act.put, List.setIfInBounds_toArray, List.set_cons_zero, List.set_cons_succ]
          refine wpAnyH_ready (rs := [5]) (by kernel_rfl) (by simp) ?_
          refine (AllReadyH.cons (o := oL5) rfl (fun K hK => ?_) AllReadyH.nil)
          unfold oL5
          go_simp
          refine Calls.mono (HAT.out _ hB) ?_
          rintro e w5 ⟨ua, um, uc, rfl, hb5, hown5⟩
          dsimp only
          have hb6 : Below wr.heap.size wr w5 := bel_trans hB hb5
          have B5 : Box4 w5 wr.heap.size (.string ByteArray.empty) (.string ByteArray.empty) (.bool false) (.slice none 0 0) := Box4.still ((Box4.new wr _ _ _ _).keep (w' := (wr.alloc zZ).drew) rfl) hb5
          have e0 : ∀ o, wr.heap.size ≤ (⟨wr.heap.size, o, none⟩ : Addr).block := fun _ => Nat.le_refl _
          have hb8 : Below wr.heap.size wr (put4 w5 wr.heap.size (.string u.name) (.string u.text) (.bool u.leaf) (.slice ua um uc)) := ((((hb6.setCell (e0 0) _).setCell (e0 1) _).setCell (e0 2) _).setCell (e0 3) _)
          have hzq : (wr.alloc zZ).drew.heap.size = wr.heap.size + 1 := by simp
          have L5 : Lies w5 (fun q => wr.heap.size < q) u (.slice ua um uc) := Lies.mono (fun q hq => by have h1 : (wr.alloc zZ).drew.heap.size ≤ q := hq.1; rw [hzq] at h1; show wr.heap.size < q; omega) (Own.lies hown5)
          have hni : ¬ wr.heap.size < wr.heap.size := Nat.lt_irrefl _
          have LU : Lies (put4 w5 wr.heap.size (.string u.name) (.string u.text) (.bool u.leaf) (.slice ua um uc)) (fun _ => True) u (.slice ua um uc) := Lies.mono (fun _ _ => trivial) ((((Lies.set L5 hni).set hni).set hni).set hni)
          have BX := Box4.set4 B5 (.string u.name) (.string u.text) (.bool u.leaf) (.slice ua um uc)
          obtain ⟨z0, z1, z2, z3⟩ := B5.cells
          have f0 := B5.frozen 0
          have f1 := B5.frozen 1
          have f2 := B5.frozen 2
          have f3 := B5.frozen 3
          have HF := (show Hid (Lm w p t w1.heap.size (.slice pa pm pc) (.slice ta tm tc) (put4 w5 wr.heap.size (.string u.name) (.string u.text) (.bool u.leaf) (.slice ua um uc))) from Lm.still HJ.out.1 hb8)
          have HVF := (show Hid (RRv (put4 w5 wr.heap.size (.string u.name) (.string u.text) (.bool u.leaf) (.slice ua um uc)) IB ls (.slice (some ⟨rb, 0, none⟩) ls.length ic) vs) from RRv.still HJ.out.2 hb8)
          have HCM := (show Hid (Calls Try.prog 7 #[.agg #[.string p.name, .string p.text, .bool p.leaf, .slice pa pm pc], .agg #[.string u.name, .string u.text, .bool u.leaf, .slice ua um uc]] (put4 w5 wr.heap.size (.string u.name) (.string u.text) (.bool u.leaf) (.slice ua um uc)) (IaA ((mtT p u []).1, true, 0) (put4 w5 wr.heap.size (.string u.name) (.string u.text) (.bool u.leaf) (.slice ua um uc)))) from (by
            have hk := HIM.out (put4 w5 wr.heap.size (.string u.name) (.string u.text) (.bool u.leaf) (.slice ua um uc)) u _ _ HF.out.lp LU huw
            rw [HMU.out] at hk
            exact hk))
          unfold IaA at HCM
          dsimp only at HCM
          obtain ⟨p0, p1, p2, p3⟩ := HF.out.b3.cells
          obtain ⟨u0, u1, u2, u3⟩ := BX.cells
          generalize (mtT p u []).1 = RU at *
          have hcF := (HSK.out _ hb8).2
          clear hHeld
          refine hK.out _ _ (HSK.out _ hb6) (fun hHeld => ?_)
          clear hK K
          try simp only [Act.put, List.setIfInBounds_toArray, List.set_cons_zero, List.set_cons_succ]
          refine wpAnyH_take (i := 6) (oi := oL6) (v := ?v4009) rfl (by kernel_rfl) (by kernel_rfl) (by kernel_rfl) (fun _ _ _ h => h) (Or.inl ⟨by rfl, ?h4009⟩) hHeld ?r4009
          case h4009 => (intro w hSw; (try dsimp only at hSw); (try unfold oL6); go_simp; try with_reducible rfl)
          try simp only [Act.put, List.setIfInBounds_toArray, List.set_cons_zero, List.set_cons_succ]
          refine wpAnyH_take (i := 7) (oi := oL7) (v := ?v4010) rfl (by kernel_rfl) (by kernel_rfl) (by kernel_rfl) (fun _ _ _ h => h) (Or.inl ⟨by rfl, ?h4010⟩) hHeld ?r4010
          case h4010 => (intro w hSw; (try dsimp only at hSw); (try unfold oL7); go_simp; try with_reducible rfl)
          try simp only [Act.put, List.setIfInBounds_toArray, List.set_cons_zero, List.set_cons_succ]
          refine wpAnyH_take (i := 8) (oi := oL8) (v := ?v4011) rfl (by kernel_rfl) (by kernel_rfl) (by kernel_rfl) (fun _ _ _ h => h) (Or.inl ⟨by rfl, ?h4011⟩) hHeld ?r4011
          case h4011 => (intro w hSw; (try dsimp only at hSw); (try unfold oL8); go_simp; try with_reducible rfl)
          try simp only [Act.put, List.setIfInBounds_toArray, List.set_cons_zero, List.set_cons_succ]
          refine wpAnyH_ready (rs := [10]) (by kernel_rfl) (by simp) ?_
          refine (AllReadyH.cons (o := oL10) rfl (fun K hK => ?_) AllReadyH.nil)
          unfold oL10
          go_simp
          clear hHeld
          refine hK.out _ _ (HSK.out _ hb8) (fun hHeld => ?_)
          clear hK K
          try simp only [Act.put, List.setIfInBounds_toArray, List.set_cons_zero, List.set_cons_succ]
          refine wpAnyH_ready (rs := [11]) (by kernel_rfl) (by simp) ?_
          refine (AllReadyH.cons (o := oL11) rfl (fun K hK => ?_) AllReadyH.nil)
          unfold oL11
          go_simp
          clear hHeld
          refine hK.out _ _ (HSK.out _ hb8) (fun hHeld => ?_)
          clear hK K
          try simp only [Act.put, List.setIfInBounds_toArray, List.set_cons_zero, List.set_cons_succ]
          refine wpAnyH_done (by kernel_rfl) ?_ _
          (try refine NoPanic.normal ?_)
          go_wp2_with fail
          refine Calls.mono HCM.out ?_
          rintro e wz ⟨za, zc, ZB, rfl, hbz, _, _⟩
          have HZ := hm_still HF hbz
          have HVZ := (show Hid (RRv wz IB ls (.slice (some ⟨rb, 0, none⟩) ls.length ic) vs) from RRv.still HVF.out hbz)
          have hcz : wz.cell? ⟨rb, j, none⟩ = some (.slice ya yl yc) := (hbz.cell (lt_of_cell hcF)).trans hcF
          clear hbz HCM HF HVF hcF BX LU p0 p1 p2 p3 u0 u1 u2 u3
          by_cases hy0 : yl = 0
          · have he : ((yl : Int) == 0) = true := by simp [hy0]
            have hq : czN (ls.take (j + 1)) = czN (ls.take j) + 1 := by rw [HCZJ.out, if_pos (by omega)]
            have hcb : (czN (ls.take j) : Int) ≤ 1000 := by omega
            go_wp2_with fail
            exact ⟨⟨j + 1, by go_num, by rw [hq]; go_num, by omega, by omega, HZ.out, HVZ.out⟩, by simp [intOf]; omega⟩
          · have he : ((yl : Int) == 0) = false := by simp [hy0]
            have hq : czN (ls.take (j + 1)) = czN (ls.take j) := by rw [HCZJ.out, if_neg (by omega), Nat.add_zero]
            go_wp2_with fail
            exact ⟨⟨j + 1, by go_num, by rw [hq], by omega, by omega, HZ.out, HVZ.out⟩, by simp [intOf]; omega⟩
      · have q1 : ¬ ((j : Int) < (ls.length : Int)) := by omega
        have hje : j = ls.length := by omega
        have hce : czN (ls.take j) = 0 := by rw [hje, List.take_length]; exact HCZ.out
        rw [hce]
        go_wp2_with fail
        go_ret
        exact ⟨rfl, HJ.out.1.bel⟩
end Go.Proofs.Ytbgoikaelmacbaa
