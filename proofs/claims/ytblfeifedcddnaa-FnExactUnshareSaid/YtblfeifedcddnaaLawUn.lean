import Derived.Test.YtblfeifedcddnaaUl
import Derived.Test.YtblfeifedcddnaaUt
import Derived.Test.YtblfeifedcddnaaLawSh
/-! The law FnExactUnshare, walked. -/
namespace Go.Proofs.Ytblfeifedcddnaa
open Go.RowKit Go.Deep
set_option linter.unusedVariables false
set_option maxRecDepth 100000
set_option linter.unusedSimpArgs false

theorem Rds.lt {w : World} {S : Nat → Prop} {ns : List Rd} {v : Value} (h : Rds w S ns v) : Rds w (fun b => b < w.heap.size) ns v := by
  obtain ⟨a, cap, b, off, sv, hv, hc, hm, ha, hcell, hz, hr⟩ := h
  refine ⟨a, cap, b, off, sv, hv, hc, hm, fun h0 => ⟨(ha h0).1, lt_of_cell (hcell 0 h0).1⟩, hcell, hz, fun i hi => ?_⟩
  obtain ⟨a1, c1, b1, o1, e1, e2, e3, e4, e5⟩ := hr i hi
  exact ⟨a1, c1, b1, o1, e1, e2, e3, fun h0 => ⟨(e4 h0).1, lt_of_cell (e5 0 h0)⟩, e5⟩
theorem UnR.cnt {ns : List Rd} {rs : List Int} {T : List Tr} {c : Int} (h : UnR ns rs (T, c)) : Tr.cntL T ≤ 20000 := by
  rcases h with ⟨h1, _⟩ | ⟨_, h2⟩
  · have ht := h1.1
    dsimp only at ht
    unfold tksB at ht
    rw [Bool.and_eq_true, decide_eq_true_eq, List.all_eq_true] at ht
    have hall : ∀ (k : List Tr), (∀ t ∈ k, t.ok = true) → Tr.cntL k ≤ 1000 * k.length := by
      intro k
      induction k with
      | nil => intro _; simp [Tr.cntL]
      | cons t r ih =>
        intro hk
        have e1 := ok_cnt (hk t (by simp))
        have e2 := ih (fun x hx => hk x (by simp [hx]))
        have e3 : Tr.cntL (t :: r) = t.cnt + Tr.cntL r := by simp [Tr.cntL]
        rw [e3, List.length_cons]
        omega
    have := hall T ht.2
    omega
  · simp only [Prod.mk.injEq] at h2
    rw [h2.1]
    simp [Tr.cntL]
theorem DagO.outk {lo hi a b : Nat} {w w' : World} {ns : List Rd} {rs : List Int} {u r : Value} (h : DagO lo hi w ns rs u r) (ho : Out a b w w') (hr : hi ≤ a ∨ b ≤ lo) : DagO lo hi w' ns rs u r := h.keep ho.2.2.2.1 (fun k h1 h2 h3 => ho.2.2.2.2 k h3 (by omega))
theorem Own.outk {lo hi a b : Nat} {w w' : World} {t : Tr} {v : Value} (h : Own w lo hi t v) (ho : Out a b w w') (hr : hi ≤ a ∨ b ≤ lo) : Own w' lo hi t v := h.keep (Nat.le_refl _) (Nat.le_refl _) (fun k h1 h2 h3 => ho.2.2.2.2 k h3 (by omega))
theorem DagO.form {lo hi : Nat} {w : World} {ns : List Rd} {rs : List Int} {u r : Value} (h : DagO lo hi w ns rs u r) : ∃ p q, u = .slice (some ⟨p, 0, none⟩) ns.length ns.length ∧ r = .slice (some ⟨q, 0, none⟩) rs.length rs.length ∧ lo < hi := by
  obtain ⟨K, p, q, h1, h2, h3, h4, h5, h6, h7, h8, h9⟩ := h
  exact ⟨p, q, h1, h4, by omega⟩
/-- What lies there behind both answers. -/
structure LUn (w : World) (ns : List Rd) (rs : List Int) (T : List Tr) (T2 : Tr) (u r v1 v2 : Value) (B1 Z1 X Y p6 B2 Z2 : Nat) (u1 r1 : Value) (W : World) : Prop where
  bel : Below w.heap.size w W
  bx : Box W w.heap.size 39 [u, r]
  t1 : Own W B1 Z1 (dm T) v1
  b6 : Box W p6 27 [u1, r1]
  t2 : Own W B2 Z2 T2 v2
  o : w.heap.size < B1 ∧ B1 ≤ Z1 ∧ Z1 ≤ X ∧ X ≤ Y ∧ Y ≤ p6 ∧ p6 < B2 ∧ B2 ≤ Z2 ∧ Z2 ≤ W.heap.size
theorem LUn.still {w : World} {ns : List Rd} {rs : List Int} {T : List Tr} {T2 : Tr} {u r v1 v2 : Value} {B1 Z1 X Y p6 B2 Z2 : Nat} {u1 r1 : Value} {W W' : World} (h : LUn w ns rs T T2 u r v1 v2 B1 Z1 X Y p6 B2 Z2 u1 r1 W) (hb : Below W.heap.size W W') : LUn w ns rs T T2 u r v1 v2 B1 Z1 X Y p6 B2 Z2 u1 r1 W' :=
  ⟨bel_trans h.bel hb, h.bx.still hb, h.t1.still hb, h.b6.still hb, h.t2.still hb, by have := h.o; have := hb.size; omega⟩
theorem LUn.markX {w : World} {ns : List Rd} {rs : List Int} {T : List Tr} {T2 : Tr} {u r v1 v2 : Value} {B1 Z1 X Y p6 B2 Z2 : Nat} {u1 r1 : Value} {W W' : World} (h : LUn w ns rs T T2 u r v1 v2 B1 Z1 X Y p6 B2 Z2 u1 r1 W) (ho : Out X Y W W') : LUn w ns rs T T2 u r v1 v2 B1 Z1 X Y p6 B2 Z2 u1 r1 W' := by
  have o := h.o
  exact ⟨out_below h.bel ho (by omega) h.bel.size, h.bx.out ho (by omega), h.t1.outk ho (by omega), h.b6.out ho (by omega), h.t2.outk ho (by omega), by have := ho.2.2.2.1; omega⟩
theorem LUn.markT {w : World} {ns : List Rd} {rs : List Int} {T : List Tr} {T2 T3 : Tr} {u r v1 v2 : Value} {B1 Z1 X Y p6 B2 Z2 : Nat} {u1 r1 : Value} {W W' : World} (h : LUn w ns rs T T2 u r v1 v2 B1 Z1 X Y p6 B2 Z2 u1 r1 W) (ho : Out B2 Z2 W W') (hT : Own W' B2 Z2 T3 v2) : LUn w ns rs T T3 u r v1 v2 B1 Z1 X Y p6 B2 Z2 u1 r1 W' := by
  have o := h.o
  exact ⟨out_below h.bel ho (by omega) h.bel.size, h.bx.out ho (by omega), h.t1.outk ho (by omega), h.b6.out ho (by omega), hT, by have := ho.2.2.2.1; omega⟩
set_option maxHeartbeats 12800000 in
theorem lawUn {S S' : Nat → Prop} (ns : List Rd) (rs : List Int) (u r : Value) (w : World) (h : Rds w S ns u) (h' : Ints w S' rs r) :
    Calls Try.prog 4 #[.agg #[u, r]] w fun e w' => e = .returned (.bool true) ∧ Below w.heap.size w w' := by
  have hb0 := bel_alloc w (.cells #[u, r] 39)
  have HBX := (show Hid (Box (w.alloc (.cells #[u, r] 39)) w.heap.size 39 [u, r]) from Box.new w 39 [u, r])
  have HSZ : Hid (Calls Try.prog 18 #[.agg #[u, r], .int .i64 1048576] (w.alloc (.cells #[u, r] 39)) fun e w' => e = .returned (.int .i64 (szR (ns.length + wns ns + rs.length) 1048576)) ∧ Below (w.alloc (.cells #[u, r] 39)).heap.size (w.alloc (.cells #[u, r] 39)) w') := szDag20 ns rs u r _ (h.still hb0) (h'.still hb0)
  have HTO : Hid (∀ w', Below w.heap.size w w' → ns.length + wns ns + rs.length ≤ 1048576 → Calls Try.prog 20 #[.agg #[u, r]] w' fun e w'' => ∃ u' r', e = .returned (.agg #[u', r']) ∧ Below w'.heap.size w' w'' ∧ DagO w'.heap.size w''.heap.size w'' ns rs u' r') := fun w' hb hs => toDag22 ns rs u r w' (h.still hb) (h'.still hb) hs
  have HZZ : Hid (∀ i (hi : i < ns.length), ns[i].nm.size ≤ maxLen ∧ ns[i].tx.size ≤ maxLen) := by
    obtain ⟨a, cap, b, off, sv, hv, hc, hm, ha, hcell, hz, hr⟩ := h
    exact hz
  have HSP : Hid (∀ (u' r' : Value) (w' : World) (lo hi : Nat), DagO lo hi w' ns rs u' r' → ns.length + wns ns + rs.length ≤ 1048576 → Calls Try.prog 19 #[.agg #[u', r']] w' (UnA ns rs w')) := fun u' r' w' lo hi hd hs => by
    obtain ⟨q1, q2⟩ := hd.read HZZ.out
    exact unshare21 ns rs u' r' w' (fun q hq => hq) q1.lt q2 hs
  have HIM : Hid (∀ (u' r' : Value) (w' : World) (lo hi : Nat), DagO lo hi w' ns rs u' r' → Calls Try.prog 21 #[.agg #[u', r']] w' (UnA ns rs w')) := fun u' r' w' lo hi hd => by
    obtain ⟨q1, q2⟩ := hd.read HZZ.out
    exact iUnshare ns rs u' r' w' (fun q hq => hq) q1.lt q2
  have HEQ : Hid (∀ (u' r' u'' r'' : Value) (w' : World) (lo hi lo' hi' : Nat), DagO lo hi w' ns rs u' r' → DagO lo' hi' w' ns rs u'' r'' → Calls Try.prog 13 #[.agg #[u', r'], .agg #[u'', r'']] w' fun e w'' => e = .returned (.bool true) ∧ Below w'.heap.size w' w'') := fun u' r' u'' r'' w' lo hi lo' hi' d1 d2 => by
    obtain ⟨q1, q2⟩ := d1.read HZZ.out
    obtain ⟨q3, q4⟩ := d2.read HZZ.out
    exact eqDagR ns rs u' r' u'' r'' w' q1 q2 q3 q4
  obtain ⟨ua, ucap, rfl, hum⟩ := h.form
  obtain ⟨ra, rl, rcap, rfl⟩ := h'.form
  clear h h'
  have X0 : (w.alloc (.cells #[.slice ua ns.length ucap, .slice ra rl rcap] 39)).cell? ⟨w.heap.size, 0, none⟩ = some (.slice ua ns.length ucap) := HBX.out.cell 0 (by simp)
  have X1 : (w.alloc (.cells #[.slice ua ns.length ucap, .slice ra rl rcap] 39)).cell? ⟨w.heap.size, 1, none⟩ = some (.slice ra rl rcap) := HBX.out.cell 1 (by simp)
  have HB0 := (show Hid _ from hb0); clear hb0
  by_cases hsm : ns.length + wns ns + rs.length ≤ 1048576
  case neg =>
    have hz : szR (ns.length + wns ns + rs.length) 1048576 = -1 := szR_no (by omega)
    rw [hz] at HSZ
    go_enter Try.func4, Try.ntmps4
    go_wp2_with fail
    refine Calls.mono HSZ.out ?_
    rintro e w1 ⟨rfl, hb1⟩
    have HB := (show Hid _ from bel_trans HB0.out hb1); clear hb1
    go_wp2_with fail
    go_ret
    exact ⟨rfl, HB.out⟩
  have hz : szR (ns.length + wns ns + rs.length) 1048576 = 1048576 - ((ns.length + wns ns + rs.length : Nat) : Int) := szR_yes (by omega)
  rw [hz] at HSZ
  clear hz
  have HM : Hid (1 + mor ns ns.length + rs.length ≤ 67108864) := by
    have := mor_wns ns
    show _ ≤ _
    omega
  generalize hlf : (1048576 : Int) - ((ns.length + wns ns + rs.length : Nat) : Int) = lf at *
  have hlf0 : decide (lf < 0) = false := by simp; omega
  have HSM := (show Hid _ from hsm); clear hsm hlf
  go_enter Try.func4, Try.ntmps4
  go_wp2_with fail
  refine Calls.mono HSZ.out ?_
  rintro e w1 ⟨rfl, hb1⟩
  have HX1 := (show Hid _ from Box.still HBX.out hb1)
  have HB1 := (show Hid _ from bel_trans HB0.out hb1)
  have x0 : w1.cell? ⟨w.heap.size, 0, none⟩ = some (.slice ua ns.length ucap) := HX1.out.cell 0 (by simp)
  have x1 : w1.cell? ⟨w.heap.size, 1, none⟩ = some (.slice ra rl rcap) := HX1.out.cell 1 (by simp)
  clear hb1 HSZ X0 X1 HB0 HBX
  go_wp2_with fail
  refine Calls.mono (HTO.out _ HB1.out HSM.out) ?_
  rintro e w2 ⟨u2, r2, rfl, hb2, hd2⟩
  have HX2 := (show Hid _ from HX1.out.still hb2)
  have HB2 := (show Hid _ from bel_trans HB1.out hb2)
  have H2 := (show Hid (Calls Try.prog 19 #[.agg #[u2, r2]] w2 (UnA ns rs w2)) from HSP.out u2 r2 w2 _ _ hd2 HSM.out)
  obtain ⟨p2, q2, rfl, rfl, _⟩ := hd2.form
  have HZ2 := (show Hid (w.heap.size < w2.heap.size) from (by have := HX2.out.lt; exact this))
  clear hb2 hd2 HX1 HB1 x0 x1 HSP
  go_wp2_with fail
  refine Calls.mono H2.out ?_
  rintro e w3 ⟨T, C, a1, m1, c1, hR, rfl, hb3, ho3⟩
  have HR : Hid (UnR ns rs (T, C)) := hR
  have HCN := (show Hid (1 + 3 * Tr.cntL T ≤ 67108864) from (by have := hR.cnt; show _ ≤ _; omega))
  have HX3 := (show Hid _ from HX2.out.still hb3)
  have HB3 := (show Hid _ from bel_trans HB2.out hb3)
  have HT1 : Hid (Own w3 w2.heap.size w3.heap.size (dm T) (.slice a1 m1 c1)) := ho3
  have HS3 := (show Hid _ from hb3.size)
  have x0 : w3.cell? ⟨w.heap.size, 0, none⟩ = some (.slice ua ns.length ucap) := HX3.out.cell 0 (by simp)
  have x1 : w3.cell? ⟨w.heap.size, 1, none⟩ = some (.slice ra rl rcap) := HX3.out.cell 1 (by simp)
  have hneC : ((C : Int) != C) = false := by simp
  clear hR hb3 ho3 HX2 HB2 H2
  go_wp2_with fail
  refine Calls.mono (HTO.out _ HB3.out HSM.out) ?_
  rintro e w4 ⟨u4, r4, rfl, hb4, hd4⟩
  obtain ⟨p4, q4, eu4, er4, hlt4⟩ := hd4.form
  have hba4 := bel_alloc w4 (.cells #[u4, r4] 27)
  have H4 := (show Hid (Calls Try.prog 21 #[.agg #[u4, r4]] (w4.alloc (.cells #[u4, r4] 27)) (UnA ns rs (w4.alloc (.cells #[u4, r4] 27)))) from HIM.out u4 r4 _ _ _ (hd4.still hba4))
  have HD4 := (show Hid (Below w.heap.size w (w4.alloc (.cells #[u4, r4] 27)) ∧ Box (w4.alloc (.cells #[u4, r4] 27)) w.heap.size 39 [.slice ua ns.length ucap, .slice ra rl rcap] ∧ Own (w4.alloc (.cells #[u4, r4] 27)) w2.heap.size w3.heap.size (dm T) (.slice a1 m1 c1) ∧ DagO w3.heap.size w4.heap.size (w4.alloc (.cells #[u4, r4] 27)) ns rs u4 r4 ∧ Box (w4.alloc (.cells #[u4, r4] 27)) w4.heap.size 27 [u4, r4] ∧ w3.heap.size ≤ w4.heap.size) from
    ⟨bel_trans (bel_trans HB3.out hb4) hba4, (HX3.out.still hb4).still hba4, Own.still (Own.still HT1.out hb4) hba4, hd4.still hba4, Box.new _ _ _, hb4.size⟩)
  clear hb4 hd4 hba4 HX3 HB3 HT1 x0 x1
  subst eu4 er4
  go_wp2_with fail
  refine Calls.mono H4.out ?_
  rintro e w5 ⟨T', C', a2, m2, c2, hR5, rfl, hb5, ho5⟩
  have e5 := UnR.uniq HR.out hR5
  simp only [Prod.mk.injEq] at e5
  obtain ⟨rfl, rfl⟩ := e5
  have hz5 : (w4.alloc (.cells #[.slice (some ⟨p4, 0, none⟩) ns.length ns.length, .slice (some ⟨q4, 0, none⟩) rs.length rs.length] 27)).heap.size = w4.heap.size + 1 := by simp
  have HD : Hid (DagO w3.heap.size w4.heap.size w5 ns rs (.slice (some ⟨p4, 0, none⟩) ns.length ns.length) (.slice (some ⟨q4, 0, none⟩) rs.length rs.length)) := HD4.out.2.2.2.1.still hb5
  have HL : Hid (LUn w ns rs T (dm T) (.slice ua ns.length ucap) (.slice ra rl rcap) (.slice a1 m1 c1) (.slice a2 m2 c2) w2.heap.size w3.heap.size w3.heap.size w4.heap.size w4.heap.size (w4.heap.size + 1) w5.heap.size (.slice (some ⟨p4, 0, none⟩) ns.length ns.length) (.slice (some ⟨q4, 0, none⟩) rs.length rs.length) w5) := by
    have s5 := hb5.size
    rw [hz5] at ho5 s5
    refine ⟨bel_trans HD4.out.1 hb5, HD4.out.2.1.still hb5, HD4.out.2.2.1.still hb5, HD4.out.2.2.2.2.1.still hb5, ho5, ?_⟩
    have := HZ2.out
    have := HS3.out
    have := HD4.out.2.2.2.2.2
    omega
  clear hR5 hb5 ho5 HD4 H4 hz5 HS3 HZ2
  generalize w4.heap.size = p6 at *
  generalize hB2 : p6 + 1 = B2 at *
  generalize hZ2 : w5.heap.size = Z2 at HL
  generalize w3.heap.size = X at *
  generalize w2.heap.size = B1 at *
  clear hB2 hZ2
  have H16 : Hid (∀ wq : World, LUn w ns rs T (dm T) (.slice ua ns.length ucap) (.slice ra rl rcap) (.slice a1 m1 c1) (.slice a2 m2 c2) B1 X X p6 p6 B2 Z2 (.slice (some ⟨p4, 0, none⟩) ns.length ns.length) (.slice (some ⟨q4, 0, none⟩) rs.length rs.length) wq → Calls Try.prog 14 #[.slice a2 m2 c2, .slice a1 m1 c1] wq fun e w' => e = .returned (.bool true) ∧ Below wq.heap.size wq w') := fun wq hq => eqTrs T _ _ wq hq.t2.trs hq.t1.trs
  go_wp2_with fail
  refine Calls.mono (H16.out w5 HL.out) ?_
  rintro e w6 ⟨rfl, hb6⟩
  have HL6 := (show Hid (LUn w ns rs T (dm T) (.slice ua ns.length ucap) (.slice ra rl rcap) (.slice a1 m1 c1) (.slice a2 m2 c2) B1 X X p6 p6 B2 Z2 (.slice (some ⟨p4, 0, none⟩) ns.length ns.length) (.slice (some ⟨q4, 0, none⟩) rs.length rs.length) w6) from HL.out.still hb6)
  have HD6 : Hid (DagO X p6 w6 ns rs (.slice (some ⟨p4, 0, none⟩) ns.length ns.length) (.slice (some ⟨q4, 0, none⟩) rs.length rs.length)) := DagO.still HD.out hb6
  clear hb6 HL HD
  have HS6 : Hid (∀ wq, Below w6.heap.size w6 wq → wq.cell? ⟨p6, 0, none⟩ = some (.slice (some ⟨p4, 0, none⟩) ns.length ns.length) ∧ wq.cell? ⟨p6, 1, none⟩ = some (.slice (some ⟨q4, 0, none⟩) rs.length rs.length) ∧ wq.cell? ⟨w.heap.size, 0, none⟩ = some (.slice ua ns.length ucap) ∧ wq.cell? ⟨w.heap.size, 1, none⟩ = some (.slice ra rl rcap)) := fun wq hb => ⟨(HL6.out.b6.still hb).cell 0 (by simp), (HL6.out.b6.still hb).cell 1 (by simp), (HL6.out.bx.still hb).cell 0 (by simp), (HL6.out.bx.still hb).cell 1 (by simp)⟩
  have HT6 : Hid (∀ wq, Below w6.heap.size w6 wq → Calls Try.prog 20 #[.agg #[.slice ua ns.length ucap, .slice ra rl rcap]] wq fun e w'' => ∃ u' r', e = .returned (.agg #[u', r']) ∧ Below wq.heap.size wq w'' ∧ DagO wq.heap.size w''.heap.size w'' ns rs u' r') := fun wq hb => HTO.out wq (bel_trans HL6.out.bel hb) HSM.out
  go_wp2_with fail
  go_cut [45] from 41 to 44 (fun v wx => v = .bool false ∧ Hid (Below w6.heap.size w6 wx))
  case first =>
    have hbd := (Below.refl w6.heap.size w6).drew
    have hS0 := HS6.out _ hbd
    go_region_held3 (fun wq => wq.cell? ⟨p6, 0, none⟩ = some (.slice (some ⟨p4, 0, none⟩) ns.length ns.length) ∧ wq.cell? ⟨p6, 1, none⟩ = some (.slice (some ⟨q4, 0, none⟩) rs.length rs.length) ∧ wq.cell? ⟨w.heap.size, 0, none⟩ = some (.slice ua ns.length ucap) ∧ wq.cell? ⟨w.heap.size, 1, none⟩ = some (.slice ra rl rcap)) (first | with_reducible exact hS0 | with_reducible exact hS1 | with_reducible exact hS2) ((first
      | (go_at_call 13; refine Calls.mono (HEQ.out _ _ _ _ _ _ _ _ _ LX LC) ?_; rintro e w8 ⟨rfl, hb8⟩; have hF2 := bel_trans hF1 hb8; have hS2 := HS6.out _ hF2)
      | (go_at_call 20; refine Calls.mono (HT6.out _ hbd) ?_; rintro e w7 ⟨u7, r7, rfl, hb7, LC⟩; obtain ⟨z1, z2, rfl, rfl, _⟩ := DagO.form LC; have hF1 := bel_trans hbd hb7; have LX := DagO.still HD6.out hF1; have hS1 := HS6.out _ hF1)))
    all_goals go_wp2_with fail
    all_goals go_meet
    all_goals exact ⟨rfl, hF2⟩
  case rest =>
    obtain ⟨rfl, HXD⟩ := hcut
    obtain ⟨w8, rfl⟩ : ∃ w8, w8 = wc := ⟨_, rfl⟩
    have HL8 := (show Hid (LUn w ns rs T (dm T) (.slice ua ns.length ucap) (.slice ra rl rcap) (.slice a1 m1 c1) (.slice a2 m2 c2) B1 X X p6 p6 B2 Z2 (.slice (some ⟨p4, 0, none⟩) ns.length ns.length) (.slice (some ⟨q4, 0, none⟩) rs.length rs.length) w8) from HL6.out.still HXD.out)
    have H18 : Hid (Calls Try.prog 16 #[.agg #[.slice (some ⟨p4, 0, none⟩) ns.length ns.length, .slice (some ⟨q4, 0, none⟩) rs.length rs.length], .int .i64 1] w8 fun e w' => e = .returned (.int .i64 (1 + mor ns ns.length + rs.length : Nat)) ∧ Out X p6 w8 w') := markDagR ns rs _ _ w8 (DagO.still HD6.out HXD.out) (by have := HL8.out.o; omega) HSM.out
    have t0 : w8.cell? ⟨p6, 0, none⟩ = some (.slice (some ⟨p4, 0, none⟩) ns.length ns.length) := HL8.out.b6.cell 0 (by simp)
    have t1 : w8.cell? ⟨p6, 1, none⟩ = some (.slice (some ⟨q4, 0, none⟩) rs.length rs.length) := HL8.out.b6.cell 1 (by simp)
    clear HXD HL6 HD6 HS6 HT6
    generalize 1 + mor ns ns.length + rs.length = M at *
    have hM0 : decide ((M : Int) < 0) = false := by simp
    go_wp2_with fail
    refine Calls.mono H18.out ?_
    rintro e w9 ⟨rfl, ho9⟩
    have HL9 := (show Hid (LUn w ns rs T (dm T) (.slice ua ns.length ucap) (.slice ra rl rcap) (.slice a1 m1 c1) (.slice a2 m2 c2) B1 X X p6 p6 B2 Z2 (.slice (some ⟨p4, 0, none⟩) ns.length ns.length) (.slice (some ⟨q4, 0, none⟩) rs.length rs.length) w9) from HL8.out.markX ho9)
    clear ho9 HL8 H18 t0 t1
    go_wp2_with fail
    refine Calls.mono (H16.out w9 HL9.out) ?_
    rintro e w10 ⟨rfl, hb10⟩
    have HL10 := (show Hid (LUn w ns rs T (dm T) (.slice ua ns.length ucap) (.slice ra rl rcap) (.slice a1 m1 c1) (.slice a2 m2 c2) B1 X X p6 p6 B2 Z2 (.slice (some ⟨p4, 0, none⟩) ns.length ns.length) (.slice (some ⟨q4, 0, none⟩) rs.length rs.length) w10) from HL9.out.still hb10)
    clear hb10 HL9 hM0
    have H17 : Hid (Calls Try.prog 15 #[.slice a2 m2 c2, .int .i64 1] w10 fun e w' => e = .returned (.int .i64 (1 + 3 * Tr.cntL T : Nat)) ∧ Out B2 Z2 w10 w' ∧ Own w' B2 Z2 (mk (dm T) 1) (.slice a2 m2 c2)) := markS_any (dm T) _ w10 B2 Z2 1 HL10.out.t2 (by have := HL10.out.o; omega) (by omega) HCN.out
    have H24 : Hid (∀ wq : World, LUn w ns rs T (mk (dm T) 1) (.slice ua ns.length ucap) (.slice ra rl rcap) (.slice a1 m1 c1) (.slice a2 m2 c2) B1 X X p6 p6 B2 Z2 (.slice (some ⟨p4, 0, none⟩) ns.length ns.length) (.slice (some ⟨q4, 0, none⟩) rs.length rs.length) wq → Calls Try.prog 22 #[.slice a2 m2 c2, .int .i64 1] wq fun e w' => e = .returned (.int .i64 (1 + 3 * Tr.cntL T : Nat)) ∧ Below wq.heap.size wq w') := fun wq hq => heldS_any (dm T) _ _ _ _ wq 1 hq.t2.lies (by omega) HCN.out
    generalize 1 + 3 * Tr.cntL T = N at *
    have hN0 : decide ((N : Int) < 0) = false := by simp
    have hN1 : ((N : Int) != (N : Int)) = false := by simp
    go_wp2_with fail
    refine Calls.mono H17.out ?_
    rintro e w11 ⟨rfl, ho11, hT11⟩
    have HL11 := (show Hid (LUn w ns rs T (mk (dm T) 1) (.slice ua ns.length ucap) (.slice ra rl rcap) (.slice a1 m1 c1) (.slice a2 m2 c2) B1 X X p6 p6 B2 Z2 (.slice (some ⟨p4, 0, none⟩) ns.length ns.length) (.slice (some ⟨q4, 0, none⟩) rs.length rs.length) w11) from HL10.out.markT ho11 hT11)
    clear ho11 hT11 HL10 H17
    go_wp2_with fail
    refine Calls.mono (H24.out w11 HL11.out) ?_
    rintro e w12 ⟨rfl, hb12⟩
    have HL12 := (show Hid (LUn w ns rs T (mk (dm T) 1) (.slice ua ns.length ucap) (.slice ra rl rcap) (.slice a1 m1 c1) (.slice a2 m2 c2) B1 X X p6 p6 B2 Z2 (.slice (some ⟨p4, 0, none⟩) ns.length ns.length) (.slice (some ⟨q4, 0, none⟩) rs.length rs.length) w12) from HL11.out.still hb12)
    have x0 : w12.cell? ⟨w.heap.size, 0, none⟩ = some (.slice ua ns.length ucap) := HL12.out.bx.cell 0 (by simp)
    have x1 : w12.cell? ⟨w.heap.size, 1, none⟩ = some (.slice ra rl rcap) := HL12.out.bx.cell 1 (by simp)
    clear hb12 HL11
    go_wp2_with fail
    refine Calls.mono (HTO.out _ HL12.out.bel HSM.out) ?_
    rintro e w13 ⟨u13, r13, rfl, hb13, hd13⟩
    have HL13 := (show Hid (LUn w ns rs T (mk (dm T) 1) (.slice ua ns.length ucap) (.slice ra rl rcap) (.slice a1 m1 c1) (.slice a2 m2 c2) B1 X X p6 p6 B2 Z2 (.slice (some ⟨p4, 0, none⟩) ns.length ns.length) (.slice (some ⟨q4, 0, none⟩) rs.length rs.length) w13) from HL12.out.still hb13)
    have H23 : Hid (Calls Try.prog 21 #[.agg #[u13, r13]] w13 (UnA ns rs w13)) := HIM.out u13 r13 _ _ _ hd13
    obtain ⟨z1, z2, rfl, rfl, _⟩ := DagO.form hd13
    clear hb13 hd13 HL12 x0 x1
    go_wp2_with fail
    refine Calls.mono H23.out ?_
    rintro e w14 ⟨T', C', a3, m3, c3, hR14, rfl, hb14, ho14⟩
    have e14 := UnR.uniq HR.out hR14
    simp only [Prod.mk.injEq] at e14
    obtain ⟨rfl, rfl⟩ := e14
    have HL14 := (show Hid (LUn w ns rs T (mk (dm T) 1) (.slice ua ns.length ucap) (.slice ra rl rcap) (.slice a1 m1 c1) (.slice a2 m2 c2) B1 X X p6 p6 B2 Z2 (.slice (some ⟨p4, 0, none⟩) ns.length ns.length) (.slice (some ⟨q4, 0, none⟩) rs.length rs.length) w14) from HL13.out.still hb14)
    have HC := (show Hid (Calls Try.prog 14 #[.slice a3 m3 c3, .slice a1 m1 c1] w14 fun e w' => e = .returned (.bool true) ∧ Below w14.heap.size w14 w') from eqTrs T _ _ w14 (Own.trs ho14) HL14.out.t1.trs)
    clear hR14 hb14 ho14 HL13 H23
    go_wp2_with fail
    refine Calls.mono HC.out ?_
    rintro e w15 ⟨rfl, hb15⟩
    have HL15 := (show Hid (LUn w ns rs T (mk (dm T) 1) (.slice ua ns.length ucap) (.slice ra rl rcap) (.slice a1 m1 c1) (.slice a2 m2 c2) B1 X X p6 p6 B2 Z2 (.slice (some ⟨p4, 0, none⟩) ns.length ns.length) (.slice (some ⟨q4, 0, none⟩) rs.length rs.length) w15) from HL14.out.still hb15)
    clear hb15 HL14 HC
    go_wp2_with fail
    refine Calls.mono (H24.out w15 HL15.out) ?_
    rintro e w16 ⟨rfl, hb16⟩
    have HE := (show Hid _ from bel_trans HL15.out.bel hb16)
    clear hb16 HL15
    go_wp2_with fail
    go_ret
    exact ⟨rfl, HE.out⟩
end Go.Proofs.Ytblfeifedcddnaa
