import Derived.Test.YtblfeifedcddnaaDz
/-! The law FnExactShare, walked. -/
namespace Go.Proofs.Ytblfeifedcddnaa
open Go.RowKit Go.Deep
set_option linter.unusedVariables false
set_option maxRecDepth 100000
set_option linter.unusedSimpArgs false

/-- What lies there ahead of the marks. -/
structure LSh (w : World) (k : List Tr) (ns : List Nd) (rs : List Nat) (p4 B1 Z1 X Y p7 B2 Z2 : Nat) (u1 r1 u2 r2 : Value) (W : World) : Prop where
  bel : Below w.heap.size w W
  b4 : Box W p4 27 [u1, r1]
  d1 : DgZ B1 Z1 W ns rs u1 r1
  x : Own W X Y (dm k) (.slice (some ⟨X, 0, none⟩) k.length k.length)
  b7 : Box W p7 27 [u2, r2]
  d2 : DgZ B2 Z2 W ns rs u2 r2
  o : w.heap.size ≤ X ∧ p4 < X ∧ Z1 ≤ X ∧ Y ≤ B2 ∧ B2 ≤ Z2 ∧ Z2 ≤ p7 ∧ p7 < W.heap.size ∧ X ≤ Y
theorem LSh.still {w : World} {k : List Tr} {ns : List Nd} {rs : List Nat} {p4 B1 Z1 X Y p7 B2 Z2 : Nat} {u1 r1 u2 r2 : Value} {W W' : World} (h : LSh w k ns rs p4 B1 Z1 X Y p7 B2 Z2 u1 r1 u2 r2 W) (hb : Below W.heap.size W W') : LSh w k ns rs p4 B1 Z1 X Y p7 B2 Z2 u1 r1 u2 r2 W' :=
  ⟨bel_trans h.bel hb, h.b4.still hb, h.d1.still hb, h.x.still hb, h.b7.still hb, h.d2.still hb, by have := h.o; have := hb.size; omega⟩
theorem out_below {w Z Z' : World} {lo hi B : Nat} (h : Below B w Z) (ho : Out lo hi Z Z') (hB : B ≤ lo) (hz : B ≤ Z.heap.size) : Below B w Z' :=
  ⟨ho.1.trans h.os, ho.2.1.trans h.tape, ho.2.2.1.trans h.output, Nat.le_trans h.size ho.2.2.2.1, fun k hk => (ho.2.2.2.2 k (by omega) (by omega)).trans (h.block k hk)⟩
/-- .. and behind the marks of the trees: the trees are let go. -/
structure LSi (w : World) (ns ms : List Nd) (rs qs : List Nat) (p4 B1 Z1 p7 B2 Z2 : Nat) (u1 r1 u2 r2 : Value) (W : World) : Prop where
  bel : Below w.heap.size w W
  b4 : Box W p4 27 [u1, r1]
  d1 : DgZ B1 Z1 W ns rs u1 r1
  b7 : Box W p7 27 [u2, r2]
  d2 : DgZ B2 Z2 W ms qs u2 r2
  o : w.heap.size ≤ B2 ∧ p4 < B2 ∧ Z1 ≤ B2 ∧ B2 ≤ Z2 ∧ Z2 ≤ p7 ∧ p7 < W.heap.size
theorem LSi.still {w : World} {ns ms : List Nd} {rs qs : List Nat} {p4 B1 Z1 p7 B2 Z2 : Nat} {u1 r1 u2 r2 : Value} {W W' : World} (h : LSi w ns ms rs qs p4 B1 Z1 p7 B2 Z2 u1 r1 u2 r2 W) (hb : Below W.heap.size W W') : LSi w ns ms rs qs p4 B1 Z1 p7 B2 Z2 u1 r1 u2 r2 W' :=
  ⟨bel_trans h.bel hb, h.b4.still hb, h.d1.still hb, h.b7.still hb, h.d2.still hb, by have := h.o; have := hb.size; omega⟩
theorem LSh.marked {w : World} {k : List Tr} {ns : List Nd} {rs : List Nat} {p4 B1 Z1 X Y p7 B2 Z2 : Nat} {u1 r1 u2 r2 : Value} {W W' : World} (h : LSh w k ns rs p4 B1 Z1 X Y p7 B2 Z2 u1 r1 u2 r2 W) (ho : Out X Y W W') : LSi w ns ns rs rs p4 B1 Z1 p7 B2 Z2 u1 r1 u2 r2 W' := by
  have o := h.o
  exact ⟨out_below h.bel ho (by omega) h.bel.size, h.b4.out ho (by omega), h.d1.out ho (by omega), h.b7.out ho (by omega), h.d2.out ho (by omega), by have := ho.2.2.2.1; omega⟩
theorem LSi.marked {w : World} {ns ms : List Nd} {rs qs : List Nat} {p4 B1 Z1 p7 B2 Z2 : Nat} {u1 r1 u2 r2 : Value} {W W' : World} (h : LSi w ns ns rs rs p4 B1 Z1 p7 B2 Z2 u1 r1 u2 r2 W) (ho : Out B2 Z2 W W') (hd : DgZ B2 Z2 W' ms qs u2 r2) : LSi w ns ms rs qs p4 B1 Z1 p7 B2 Z2 u1 r1 u2 r2 W' := by
  have o := h.o
  exact ⟨out_below h.bel ho (by omega) h.bel.size, h.b4.out ho (by omega), h.d1.out ho (by omega), h.b7.out ho (by omega), hd, by have := ho.2.2.2.1; omega⟩
set_option maxHeartbeats 12800000 in
theorem lawSh {S : Nat → Prop} (k : List Tr) (v : Value) (w : World) (h : Trs w S k v) :
    Calls Try.prog 3 #[v] w fun e w' => e = .returned (.bool true) ∧ Below w.heap.size w w' := by
  have HSZ := (show Hid _ from szTrs k v w h)
  have HTO : Hid (∀ w', Below w.heap.size w w' → k.length + Tr.wtL k ≤ 1048576 → Calls Try.prog 11 #[v] w' fun e w'' => e = .returned (.slice (some ⟨w'.heap.size, 0, none⟩) k.length k.length) ∧ Below w'.heap.size w' w'' ∧ Own w'' w'.heap.size w''.heap.size (dm k) (.slice (some ⟨w'.heap.size, 0, none⟩) k.length k.length)) := fun w' hb hs => toTrs k v w' (h.still hb) hs
  have HSP := (show Hid (∀ (y : Value) (w' : World) (lo hi : Nat), Own w' lo hi (dm k) y → hi ≤ w'.heap.size → Calls Try.prog 10 #[y] w' (ShT k w')) from fun y w' lo hi ho hh => sShare k y w' (fun q hq => by have := hq.2; omega) ho.trs)
  have HIM := (show Hid (∀ (y : Value) (w' : World) (lo hi : Nat), Own w' lo hi (dm k) y → hi ≤ w'.heap.size → Calls Try.prog 12 #[y] w' (ShT k w')) from fun y w' lo hi ho hh => iShare k y w' (fun q hq => by have := hq.2; omega) ho.trs)
  obtain ⟨a, cap, rfl, hm⟩ := h.form
  have hmk := sh_marks k
  have HMK := (show Hid _ from hmk); clear hmk
  clear h
  generalize hns : (shN k).1 = ns at *
  generalize hrs : (shN k).2 = rs at *
  generalize hC : shC k = C at *
  have HNS := (show Hid _ from (⟨hns, hrs, hC⟩ : _ ∧ _ ∧ _)); clear hns hrs hC
  have hneC : ((C : Int) != C) = false := by simp
  by_cases hsm : k.length + Tr.wtL k ≤ 1048576
  case neg =>
    have hz : szR (k.length + Tr.wtL k) 1048576 = -1 := szR_no (by omega)
    rw [hz] at HSZ
    go_enter Try.func3, Try.ntmps3
    go_wp2_with fail
    refine Calls.mono HSZ.out ?_
    rintro e w1 ⟨rfl, hb1⟩
    have HB := (show Hid _ from hb1); clear hb1
    go_wp2_with fail
    go_ret
    exact ⟨rfl, HB.out⟩
  have hz : szR (k.length + Tr.wtL k) 1048576 = 1048576 - ((k.length + Tr.wtL k : Nat) : Int) := szR_yes (by omega)
  rw [hz] at HSZ
  have hcl : 1 + 3 * Tr.cntL k ≤ 67108864 := by
    have := Tr.cntL_le_wtL k (fun i hi => Tr.cnt_le_wt k[i])
    omega
  have HCN := (show Hid _ from hcl); clear hcl hz
  have hkm : k.length ≤ 1048576 := by omega
  generalize hlf : (1048576 : Int) - ((k.length + Tr.wtL k : Nat) : Int) = lf at *
  have hlf0 : decide (lf < 0) = false := by simp; omega
  have HSM := (show Hid _ from hsm); clear hsm hlf
  go_enter Try.func3, Try.ntmps3
  go_wp2_with fail
  refine Calls.mono HSZ.out ?_
  rintro e w1 ⟨rfl, hb1⟩
  have HB1 := (show Hid _ from hb1); clear hb1 HSZ
  go_wp2_with fail
  refine Calls.mono (HTO.out _ HB1.out HSM.out) ?_
  rintro e w2 ⟨rfl, hb2, ho2⟩
  have HB2 := (show Hid _ from bel_trans HB1.out hb2)
  have H2 : Hid (Calls Try.prog 10 #[.slice (some ⟨w1.heap.size, 0, none⟩) k.length k.length] w2 (ShT k w2)) := HSP.out _ w2 _ _ ho2 (Nat.le_refl _)
  clear hb2 ho2 HB1 HSP
  go_wp2_with fail
  refine Calls.mono H2.out ?_
  rintro e w3 ⟨u1, r1, rfl, hb3, hd3⟩
  rw [HNS.out.1, HNS.out.2.1] at hd3
  rw [HNS.out.2.2]
  obtain ⟨a1, c1, a2, c2, rfl, rfl, _, _⟩ := hd3.forms
  have hba3 := bel_alloc w3 (.cells #[.slice a1 ns.length c1, .slice a2 rs.length c2] 27)
  have H3 := (show Hid (Below w.heap.size w (w3.alloc (.cells #[.slice a1 ns.length c1, .slice a2 rs.length c2] 27)) ∧ Box (w3.alloc (.cells #[.slice a1 ns.length c1, .slice a2 rs.length c2] 27)) w3.heap.size 27 [.slice a1 ns.length c1, .slice a2 rs.length c2] ∧ DgZ w2.heap.size w3.heap.size (w3.alloc (.cells #[.slice a1 ns.length c1, .slice a2 rs.length c2] 27)) ns rs (.slice a1 ns.length c1) (.slice a2 rs.length c2)) from ⟨bel_trans (bel_trans HB2.out hb3) hba3, Box.new _ _ _, hd3.z.still hba3⟩)
  clear hb3 hd3 hba3 H2 HB2
  go_wp2_with fail
  refine Calls.mono (HTO.out _ H3.out.1 HSM.out) ?_
  rintro e w4 ⟨he4, hb4, ho4⟩
  have hX : (w3.alloc (.cells #[.slice a1 ns.length c1, .slice a2 rs.length c2] 27)).heap.size = w3.heap.size + 1 := by simp
  rw [hX] at he4 ho4
  subst he4
  have H4 := (show Hid (Below (w3.alloc (.cells #[.slice a1 ns.length c1, .slice a2 rs.length c2] 27)).heap.size (w3.alloc (.cells #[.slice a1 ns.length c1, .slice a2 rs.length c2] 27)) w4 ∧ Own w4 (w3.heap.size + 1) w4.heap.size (dm k) (.slice (some ⟨w3.heap.size + 1, 0, none⟩) k.length k.length)) from ⟨hb4, ho4⟩)
  have H5 : Hid (Calls Try.prog 12 #[.slice (some ⟨w3.heap.size + 1, 0, none⟩) k.length k.length] w4 (ShT k w4)) := HIM.out _ w4 _ _ ho4 (Nat.le_refl _)
  clear hX
  clear hb4 ho4
  go_wp2_with fail
  refine Calls.mono H5.out ?_
  rintro e w5 ⟨u2, r2, rfl, hb5, hd5⟩
  rw [HNS.out.1, HNS.out.2.1] at hd5
  rw [HNS.out.2.2]
  obtain ⟨a3, c3, a4, c4, rfl, rfl, _, _⟩ := hd5.forms
  have hba5 := bel_alloc w5 (.cells #[.slice a3 ns.length c3, .slice a4 rs.length c4] 27)
  have HL : Hid (LSh w k ns rs w3.heap.size w2.heap.size w3.heap.size (w3.heap.size + 1) w4.heap.size w5.heap.size w4.heap.size w5.heap.size (.slice a1 ns.length c1) (.slice a2 rs.length c2) (.slice a3 ns.length c3) (.slice a4 rs.length c4) (w5.alloc (.cells #[.slice a3 ns.length c3, .slice a4 rs.length c4] 27))) := by
    have q4 := bel_trans H4.out.1 (bel_trans hb5 hba5)
    have e1 := H3.out.1.size
    have e2 := H4.out.1.size
    have e3 := hb5.size
    have e4 : (w3.alloc (.cells #[.slice a1 ns.length c1, .slice a2 rs.length c2] 27)).heap.size = w3.heap.size + 1 := by simp
    have e5 : (w5.alloc (.cells #[.slice a3 ns.length c3, .slice a4 rs.length c4] 27)).heap.size = w5.heap.size + 1 := by simp
    exact ⟨bel_trans H3.out.1 q4, H3.out.2.1.still q4, H3.out.2.2.still q4, (H4.out.2.still hb5).still hba5, Box.new _ _ _, hd5.z.still hba5, by omega⟩
  clear hb5 hd5 hba5 H5 H4 H3
  have HEQ : Hid (∀ (B B' : Nat) (W' : World) (u r u' r' : Value), DgR B W' ns rs u r → DgR B' W' ns rs u' r' → Calls Try.prog 13 #[.agg #[u, r], .agg #[u', r']] W' fun e w' => e = .returned (.bool true) ∧ Below W'.heap.size W' w') := fun B B' W' u r u' r' h1 h2 => eqDag15 ns rs u r u' r' W' h1 h2
  have t0 : (w5.alloc (.cells #[.slice a3 ns.length c3, .slice a4 rs.length c4] 27)).cell? ⟨w3.heap.size, 0, none⟩ = some (.slice a1 ns.length c1) := HL.out.b4.cell 0 (by simp)
  have t1 : (w5.alloc (.cells #[.slice a3 ns.length c3, .slice a4 rs.length c4] 27)).cell? ⟨w3.heap.size, 1, none⟩ = some (.slice a2 rs.length c2) := HL.out.b4.cell 1 (by simp)
  have t2 : (w5.alloc (.cells #[.slice a3 ns.length c3, .slice a4 rs.length c4] 27)).cell? ⟨w5.heap.size, 0, none⟩ = some (.slice a3 ns.length c3) := HL.out.b7.cell 0 (by simp)
  have t3 : (w5.alloc (.cells #[.slice a3 ns.length c3, .slice a4 rs.length c4] 27)).cell? ⟨w5.heap.size, 1, none⟩ = some (.slice a4 rs.length c4) := HL.out.b7.cell 1 (by simp)
  have HC := (show Hid (Calls Try.prog 13 #[.agg #[.slice a3 ns.length c3, .slice a4 rs.length c4], .agg #[.slice a1 ns.length c1, .slice a2 rs.length c2]] (w5.alloc (.cells #[.slice a3 ns.length c3, .slice a4 rs.length c4] 27)) fun e w' => e = .returned (.bool true) ∧ Below (w5.alloc (.cells #[.slice a3 ns.length c3, .slice a4 rs.length c4] 27)).heap.size (w5.alloc (.cells #[.slice a3 ns.length c3, .slice a4 rs.length c4] 27)) w') from HEQ.out _ _ _ _ _ _ _ HL.out.d2.r HL.out.d1.r)
  go_wp2_with fail
  refine Calls.mono HC.out ?_
  rintro e w6 ⟨rfl, hb6⟩
  have HL6 := (show Hid _ from HL.out.still hb6)
  clear t0 t1 t2 t3 hb6 HL HC
  generalize hX : w3.heap.size + 1 = X at *
  clear hX
  generalize w3.heap.size = p4 at *
  generalize w5.heap.size = p7 at *
  generalize w4.heap.size = B2 at *
  generalize w2.heap.size = B1 at *
  generalize hU1 : Value.slice a1 ns.length c1 = U1 at *
  generalize hR1 : Value.slice a2 rs.length c2 = R1 at *
  generalize hU2 : Value.slice a3 ns.length c3 = U2 at *
  generalize hR2 : Value.slice a4 rs.length c4 = R2 at *
  clear hU1 hR1 hU2 hR2
  go_wp2_with fail
  refine Calls.mono (HTO.out _ HL6.out.bel HSM.out) ?_
  rintro e w7 ⟨rfl, hb7, ho7⟩
  have HL7 := (show Hid (LSh w k ns rs p4 B1 p4 X B2 p7 B2 p7 U1 R1 U2 R2 w7) from HL6.out.still hb7)
  have H16 : Hid (Calls Try.prog 14 #[.slice (some ⟨X, 0, none⟩) k.length k.length, .slice (some ⟨w6.heap.size, 0, none⟩) k.length k.length] w7 fun e w' => e = .returned (.bool true) ∧ Below w7.heap.size w7 w') := eqTrs k _ _ w7 HL7.out.x.trs ho7.trs
  clear hb7 ho7 HL6
  go_wp2_with fail
  refine Calls.mono H16.out ?_
  rintro e w8 ⟨rfl, hb8⟩
  have HL8 := (show Hid (LSh w k ns rs p4 B1 p4 X B2 p7 B2 p7 U1 R1 U2 R2 w8) from HL7.out.still hb8)
  have H17 : Hid (Calls Try.prog 15 #[.slice (some ⟨X, 0, none⟩) k.length k.length, .int .i64 1] w8 fun e w' => e = .returned (.int .i64 (1 + 3 * Tr.cntL k : Nat)) ∧ Out X B2 w8 w') := markTrs k _ w8 X B2 HL8.out.x (by have := HL8.out.o; omega) HCN.out
  clear hb8 H16 HL7
  generalize 1 + 3 * Tr.cntL k = M at *
  have hM0 : decide ((M : Int) < 0) = false := by simp
  go_wp2_with fail
  refine Calls.mono H17.out ?_
  rintro e w9 ⟨rfl, ho9⟩
  have HL9 := (show Hid (LSi w ns ns rs rs p4 B1 p4 p7 B2 p7 U1 R1 U2 R2 w9) from HL8.out.marked ho9)
  clear ho9 HL8 H17
  have t0 : w9.cell? ⟨p4, 0, none⟩ = some U1 := HL9.out.b4.cell 0 (by simp)
  have t1 : w9.cell? ⟨p4, 1, none⟩ = some R1 := HL9.out.b4.cell 1 (by simp)
  have t2 : w9.cell? ⟨p7, 0, none⟩ = some U2 := HL9.out.b7.cell 0 (by simp)
  have t3 : w9.cell? ⟨p7, 1, none⟩ = some R2 := HL9.out.b7.cell 1 (by simp)
  have HC := (show Hid (Calls Try.prog 13 #[.agg #[U2, R2], .agg #[U1, R1]] w9 fun e w' => e = .returned (.bool true) ∧ Below w9.heap.size w9 w') from HEQ.out _ _ w9 _ _ _ _ HL9.out.d2.r HL9.out.d1.r)
  go_wp2_with fail
  refine Calls.mono HC.out ?_
  rintro e w10 ⟨rfl, hb10⟩
  have HL10 := (show Hid (LSi w ns ns rs rs p4 B1 p4 p7 B2 p7 U1 R1 U2 R2 w10) from HL9.out.still hb10)
  clear t0 t1 t2 t3 hb10 HL9 HC hM0
  have t2 : w10.cell? ⟨p7, 0, none⟩ = some U2 := HL10.out.b7.cell 0 (by simp)
  have t3 : w10.cell? ⟨p7, 1, none⟩ = some R2 := HL10.out.b7.cell 1 (by simp)
  have H18 : Hid (Calls Try.prog 16 #[.agg #[U2, R2], .int .i64 1] w10 fun e w' => e = .returned (.int .i64 (dgM ns rs 1 : Nat)) ∧ Out B2 p7 w10 w' ∧ DgZ B2 p7 w' (mx ns 1 ns.length) (cntN (1 + mo ns ns.length) rs.length) U2 R2) := markDag18 (n := 1) ns rs U2 R2 w10 HL10.out.d2 (by have := HL10.out.o; omega) (by have := HL10.out.o; omega) (by omega) HMK.out
  have H19 : Hid (∀ W' : World, DgZ B2 p7 W' (mx ns 1 ns.length) (cntN (1 + mo ns ns.length) rs.length) U2 R2 → Calls Try.prog 17 #[.agg #[U2, R2], .int .i64 1] W' fun e w' => e = .returned (.int .i64 (dgM ns rs 1 : Nat)) ∧ Below W'.heap.size W' w') := fun W' hd => heldDag19 (n := 1) ns rs U2 R2 W' hd.r (by omega) HMK.out
  generalize dgM ns rs 1 = D at *
  have hD0 : decide ((D : Int) < 0) = false := by simp
  have hD1 : ((D : Int) != (D : Int)) = false := by simp
  go_wp2_with fail
  refine Calls.mono H18.out ?_
  rintro e w11 ⟨rfl, ho11, hd11⟩
  have HL11 := (show Hid (LSi w ns (mx ns 1 ns.length) rs (cntN (1 + mo ns ns.length) rs.length) p4 B1 p4 p7 B2 p7 U1 R1 U2 R2 w11) from HL10.out.marked ho11 hd11)
  clear t2 t3 ho11 hd11 HL10 H18
  have t2 : w11.cell? ⟨p7, 0, none⟩ = some U2 := HL11.out.b7.cell 0 (by simp)
  have t3 : w11.cell? ⟨p7, 1, none⟩ = some R2 := HL11.out.b7.cell 1 (by simp)
  have HC := (show Hid (Calls Try.prog 17 #[.agg #[U2, R2], .int .i64 1] w11 fun e w' => e = .returned (.int .i64 (D : Nat)) ∧ Below w11.heap.size w11 w') from H19.out w11 HL11.out.d2)
  go_wp2_with fail
  refine Calls.mono HC.out ?_
  rintro e w12 ⟨rfl, hb12⟩
  have HL12 := (show Hid (LSi w ns (mx ns 1 ns.length) rs (cntN (1 + mo ns ns.length) rs.length) p4 B1 p4 p7 B2 p7 U1 R1 U2 R2 w12) from HL11.out.still hb12)
  clear t2 t3 hb12 HL11 HC
  go_wp2_with fail
  refine Calls.mono (HTO.out _ HL12.out.bel HSM.out) ?_
  rintro e w13 ⟨rfl, hb13, ho13⟩
  have HL13 := (show Hid (LSi w ns (mx ns 1 ns.length) rs (cntN (1 + mo ns ns.length) rs.length) p4 B1 p4 p7 B2 p7 U1 R1 U2 R2 w13) from HL12.out.still hb13)
  have H14 : Hid (Calls Try.prog 12 #[.slice (some ⟨w12.heap.size, 0, none⟩) k.length k.length] w13 (ShT k w13)) := HIM.out _ w13 _ _ ho13 (Nat.le_refl _)
  clear hb13 ho13 HL12
  go_wp2_with fail
  refine Calls.mono H14.out ?_
  rintro e w14 ⟨u3, r3, rfl, hb14, hd14⟩
  rw [HNS.out.1, HNS.out.2.1] at hd14
  rw [HNS.out.2.2]
  obtain ⟨a5, c5, a6, c6, rfl, rfl, _, _⟩ := hd14.forms
  have hba := bel_alloc w14 (.cells #[.slice a5 ns.length c5, .slice a6 rs.length c6] 27)
  have HL14 := (show Hid (LSi w ns (mx ns 1 ns.length) rs (cntN (1 + mo ns ns.length) rs.length) p4 B1 p4 p7 B2 p7 U1 R1 U2 R2 (w14.alloc (.cells #[.slice a5 ns.length c5, .slice a6 rs.length c6] 27))) from HL13.out.still (bel_trans hb14 hba))
  have hbx : Box (w14.alloc (.cells #[.slice a5 ns.length c5, .slice a6 rs.length c6] 27)) w14.heap.size 27 [.slice a5 ns.length c5, .slice a6 rs.length c6] := Box.new _ _ _
  have hd15 := hd14.still hba
  have HC := (show Hid (Calls Try.prog 13 #[.agg #[.slice a5 ns.length c5, .slice a6 rs.length c6], .agg #[U1, R1]] (w14.alloc (.cells #[.slice a5 ns.length c5, .slice a6 rs.length c6] 27)) fun e w' => e = .returned (.bool true) ∧ Below (w14.alloc (.cells #[.slice a5 ns.length c5, .slice a6 rs.length c6] 27)).heap.size (w14.alloc (.cells #[.slice a5 ns.length c5, .slice a6 rs.length c6] 27)) w') from HEQ.out _ _ _ _ _ _ _ hd15 HL14.out.d1.r)
  have t0 : (w14.alloc (.cells #[.slice a5 ns.length c5, .slice a6 rs.length c6] 27)).cell? ⟨p4, 0, none⟩ = some U1 := HL14.out.b4.cell 0 (by simp)
  have t1 : (w14.alloc (.cells #[.slice a5 ns.length c5, .slice a6 rs.length c6] 27)).cell? ⟨p4, 1, none⟩ = some R1 := HL14.out.b4.cell 1 (by simp)
  have t2 : (w14.alloc (.cells #[.slice a5 ns.length c5, .slice a6 rs.length c6] 27)).cell? ⟨w14.heap.size, 0, none⟩ = some (.slice a5 ns.length c5) := hbx.cell 0 (by simp)
  have t3 : (w14.alloc (.cells #[.slice a5 ns.length c5, .slice a6 rs.length c6] 27)).cell? ⟨w14.heap.size, 1, none⟩ = some (.slice a6 rs.length c6) := hbx.cell 1 (by simp)
  clear hbx hba hb14 hd14 hd15 HL13 H14
  go_wp2_with fail
  refine Calls.mono HC.out ?_
  rintro e w15 ⟨rfl, hb15⟩
  have HL15 := (show Hid (LSi w ns (mx ns 1 ns.length) rs (cntN (1 + mo ns ns.length) rs.length) p4 B1 p4 p7 B2 p7 U1 R1 U2 R2 w15) from HL14.out.still hb15)
  clear t0 t1 t2 t3 hb15 HL14 HC
  have t2 : w15.cell? ⟨p7, 0, none⟩ = some U2 := HL15.out.b7.cell 0 (by simp)
  have t3 : w15.cell? ⟨p7, 1, none⟩ = some R2 := HL15.out.b7.cell 1 (by simp)
  have HC := (show Hid (Calls Try.prog 17 #[.agg #[U2, R2], .int .i64 1] w15 fun e w' => e = .returned (.int .i64 (D : Nat)) ∧ Below w15.heap.size w15 w') from H19.out w15 HL15.out.d2)
  go_wp2_with fail
  refine Calls.mono HC.out ?_
  rintro e w16 ⟨rfl, hb16⟩
  have HE := (show Hid _ from bel_trans HL15.out.bel hb16)
  clear t2 t3 hb16 HL15 HC
  go_wp2_with fail
  go_ret
  exact ⟨rfl, HE.out⟩
end Go.Proofs.Ytblfeifedcddnaa
