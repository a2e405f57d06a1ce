import Derived.Test.YteomgkcgjkbppaaKt
import Derived.BigQuiet
import Derived.Deep.QuietTactic
/-! The specification's reader of plans: a prim. -/
namespace Go.Proofs.Yteomgkcgjkbppaa
open Go.RowKit Go.Deep Go.Lib Go.ChangeShapes Go.WideShapes
set_option linter.unusedVariables false
set_option maxRecDepth 100000
set_option linter.unusedSimpArgs false

theorem nd_byte {s : ByteArray} {j : Nat} (h : j < s.size) : nbB (bt s j) = nbB (s[j].toNat : Int) := by rw [bt_at h]
set_option maxHeartbeats 3200000 in
theorem prim110 {w0 : World} {p : Nat} {s : ByteArray} {rl : List Rw} {ra : Option Addr} {rc f : Nat} (hs : s.size ≤ 300) (hp : w0.heap.size ≤ p) (hrl : RLy w0 rl (.slice ra rl.length rc)) (hpw : ∀ x, hasS (nms rl) x = true → hasS pw7 x = false) (ih : RdC w0 p (.slice ra rl.length rc) s (hasS (nms rl)) 116 3 f) : RdC w0 p (.slice ra rl.length rc) s (hasS (nms rl)) 110 0 (f + 1) := by
  intro i w R hbx hi hb0 hrd
  have hpl := hbx.lt
  have HIH := (show Hid _ from ih)
  have HPW := (show Hid _ from hpw)
  have HFD := (show Hid (∀ (x : ByteArray) (wq : World), Below w0.heap.size w0 wq → Calls Try.prog 63 #[.slice ra rl.length rc, .string x] wq fun e w' => ∃ i : Int, e = .returned (.int .i64 i) ∧ FdW rl x i ∧ w' = wq) from fun x wq h => find63 rl x _ wq (hrl.still h))
  have HFE := (show Hid (∀ (x : ByteArray) (i : Int), FdW rl x i → decide (0 ≤ i) = hasS (nms rl) x) from fun x i h => by
    rcases h with ⟨rfl, h⟩ | ⟨j, rfl, hj, h1, h2⟩
    · rw [h]; rfl
    · rw [decide_eq_true (by omega)]
      symm
      unfold hasS
      rw [List.any_eq_true]
      exact ⟨rl[j].name, by unfold nms; exact List.mem_map.2 ⟨rl[j], List.getElem_mem hj, rfl⟩, by rw [h1]; exact eqS_refl x⟩)
  have HB0 := (show Hid _ from hb0)
  have hzb := Box.new w 102 [.string ⟨#[]⟩, .string ⟨#[]⟩, .slice none 0 0]
  have hb1 := hbx.still (bel_alloc w (.cells #[.string ⟨#[]⟩, .string ⟨#[]⟩, .slice none 0 0] 102))
  have HS := (show Hid _ from sign87 s 40 i p (-1) (.slice ra rl.length rc) _ hb1 hi hs)
  have HBT := (show Hid (But p w (w.alloc (.cells #[.string ⟨#[]⟩, .string ⟨#[]⟩, .slice none 0 0] 102))) from But.of_below (bel_alloc _ _))
  have HZ := (show Hid _ from hzb)
  have hx : sk s i ≤ s.size := past_size hi
  have HID := (show Hid (sk s (sk s i) = sk s i) from past_idem blB s i)
  have HFIN := (show Hid (∀ (k n : ByteArray) (a : Option Addr) (l c i' : Nat) (bad : Int) (w' : World), Box w' p 129 [(.slice ra rl.length rc), .string s, .int .i64 (i' : Int), .int .i64 bad] → But p w w' → i' ≤ s.size → (R.1 = true → bad = -1 ∧ sk s i' = R.2) → (R.1 = false → bad = (R.2 : Int)) → RdA p (.slice ra rl.length rc) s R w (.returned (.agg #[.string k, .string n, .slice a l c])) w') from fun k n a l c i' bad w' h1 h2 h3 h4 h5 => ⟨k, n, a, l, c, i', bad, rfl, h1, h2, h3, h4, h5⟩)
  rw [rd] at hrd
  have HRD := (show Hid _ from hrd)
  clear hrd hbx hzb hb1 hb0 ih hpw hrl
  generalize hX : sk s i = x at *
  by_cases h40 : bt s x = 40
  · have HR := (show Hid _ from (if_pos h40).symm.trans HRD.out)
    have hd : decide (bt s x = ((40 : Nat) : Int)) = true := decide_eq_true h40
    rw [hd] at HS
    clear HRD hd h40
    go_enter Try.func110, Try.ntmps110
    go_wp2_with fail
    refine Calls.mono HS.out ?_
    rintro e w2 ⟨rfl, hb2, hbt2⟩
    have HB7 := (show Hid (But p w w2) from But.trans HBT.out hbt2)
    have HZ7 := (show Hid (Box w2 w.heap.size 102 [.string ⟨#[]⟩, .string ⟨#[]⟩, .slice none 0 0]) from HZ.out.but hbt2 (by omega))
    have HCL := (show Hid _ from HIH.out x w2 R hb2 hx (But.below' HB7.out HB0.out hp) (by rw [HID.out]; exact HR.out))
    unfold RdA at HCL
    clear hb2 hbt2 HS HIH
    go_wp2_with fail
    refine Calls.mono HCL.out ?_
    rintro e w8 ⟨k8, n8, a8, l8, c8, i8, bad8, rfl, hb8, hbt8, hi8, ht8, hf8⟩
    have hz := (HZ7.out.but hbt8 (by omega)).still (bel_alloc w8 (.cells #[.string k8, .string n8, .slice a8 l8 c8] 102))
    have z0 : (w8.alloc (.cells #[.string k8, .string n8, .slice a8 l8 c8] 102)).cell? ⟨w.heap.size, 0, none⟩ = some (.string ⟨#[]⟩) := hz.cell 0 (by simp)
    have z1 : (w8.alloc (.cells #[.string k8, .string n8, .slice a8 l8 c8] 102)).cell? ⟨w.heap.size, 1, none⟩ = some (.string ⟨#[]⟩) := hz.cell 1 (by simp)
    have z2 : (w8.alloc (.cells #[.string k8, .string n8, .slice a8 l8 c8] 102)).cell? ⟨w.heap.size, 2, none⟩ = some (.slice none 0 0) := hz.cell 2 (by simp)
    have f0 : (w8.alloc (.cells #[.string k8, .string n8, .slice a8 l8 c8] 102)).frozen? ⟨w.heap.size, 0, none⟩ = false := hz.frozen 0
    have f1 : (w8.alloc (.cells #[.string k8, .string n8, .slice a8 l8 c8] 102)).frozen? ⟨w.heap.size, 1, none⟩ = false := hz.frozen 1
    have f2 : (w8.alloc (.cells #[.string k8, .string n8, .slice a8 l8 c8] 102)).frozen? ⟨w.heap.size, 2, none⟩ = false := hz.frozen 2
    have HX9 := (show Hid (Box (w8.alloc (.cells #[.string k8, .string n8, .slice a8 l8 c8] 102)) p 129 [(.slice ra rl.length rc), .string s, .int .i64 (i8 : Int), .int .i64 bad8]) from hb8.still (bel_alloc _ _))
    have HB9 := (show Hid (But p w (w8.alloc (.cells #[.string k8, .string n8, .slice a8 l8 c8] 102))) from (But.trans HB7.out hbt8).still (bel_alloc _ _))
    have HTF := (show Hid (_ ∧ _) from ⟨ht8, hf8⟩)
    clear hb8 hbt8 hz ht8 hf8 HCL HZ7 HB7
    go_wp2_with fail
    refine bodyPost_ret (by simp [results, Try.results110, go_sem, z0, z1, z2]; rfl) rfl ?_
    exact HFIN.out _ _ _ _ _ i8 bad8 _ (((HX9.out.past (by omega)).past (by omega)).past (by omega)) (((HB9.out.other (Nat.le_refl _) _).other (Nat.le_refl _) _).other (Nat.le_refl _) _) hi8 HTF.out.1 HTF.out.2
  have HR := (show Hid _ from (if_neg h40).symm.trans HRD.out)
  have hd : decide (bt s x = ((40 : Nat) : Int)) = false := decide_eq_false h40
  rw [hd] at HS
  clear HRD hd h40
  go_enter Try.func110, Try.ntmps110
  go_wp2_with fail
  refine Calls.mono HS.out ?_
  rintro e w2 ⟨rfl, hb2, hbt2⟩
  have c2 : w2.cell? ⟨p, 2, none⟩ = some (.int .i64 (x : Int)) := hb2.cell 2 (by simp)
  have HX2 := (show Hid _ from hb2)
  have HB2 := (show Hid (But p w w2) from But.trans HBT.out hbt2)
  have HZ2 := (show Hid (Box w2 w.heap.size 102 [.string ⟨#[]⟩, .string ⟨#[]⟩, .slice none 0 0]) from HZ.out.but hbt2 (by omega))
  have hw2 : w.heap.size < w2.heap.size := HZ2.out.lt
  clear hb2 hbt2 HS HBT HZ
  go_wp2_with fail
  clear c2
  go_loopw [] (fun wr => ∃ j : Nat, x ≤ j ∧ j ≤ s.size ∧ Hid (But p w2 wr ∧ Box wr p 129 [(.slice ra rl.length rc), .string s, .int .i64 (j : Int), .int .i64 (-1)] ∧ nd s x = nd s j)) (fun wr => s.size - (intOf ((wr.cell? ⟨p, 2, none⟩).getD (.bool false))).toNat)
  case atStart => exact ⟨x, Nat.le_refl _, hx, But.of_below (Below.refl _ _), HX2.out, rfl⟩
  case round =>
    obtain ⟨j, hxj, hj, HL⟩ := hrel
    have x1 : wr.cell? ⟨p, 1, none⟩ = some (.string s) := HL.out.2.1.cell 1 (by simp)
    have x2 : wr.cell? ⟨p, 2, none⟩ = some (.int .i64 (j : Int)) := HL.out.2.1.cell 2 (by simp)
    have y2 : wr.frozen? ⟨p, 2, none⟩ = false := HL.out.2.1.frozen 2
    have hj0 : (0 : Int) ≤ (j : Int) := by omega
    by_cases hgo : ∃ hlt : j < s.size, nbB (s[j].toNat : Int) = true
    · obtain ⟨hlt, hnb⟩ := hgo
      have hlt' : (j : Int) < (s.size : Int) := by omega
      have HND := (show Hid (nd s x = nd s (j + 1)) from HL.out.2.2.trans (past_step (p := nbB) (by rw [nd_byte hlt]; exact hnb) hlt))
      have HNB := (show Hid (∀ wq : World, Calls Try.prog 79 #[.int .u8 (s[j].toNat : Int)] wq fun e w' => e = .returned (.bool true) ∧ w' = wq) from fun wq => by have := sNameByte (s[j].toNat : Int) wq; rw [hnb] at this; exact this)
      clear hnb
      go_wp2_with fail
      go_quiet ((go_at_call 79; refine Calls.quiet_of_same (HNB.out _)))
      go_wp2_with fail
      refine ⟨⟨j + 1, by omega, by omega, But.put (But.drewN HL.out.1 _) _, ?_, HND.out⟩, ?_⟩
      · have hb2 := (HL.out.2.1.keep (w' := wr.drewN nq) rfl).set 2 (.int .i64 ((j + 1 : Nat) : Int))
        simpa using hb2
      · have m1 := ((HL.out.2.1.keep (w' := wr.drewN nq) rfl).set 2 (.int .i64 ((j : Int) + 1))).cell 2 (by simp)
        rw [m1, x2]
        simp [intOf]
        omega
    · have HND := (show Hid (nd s x = j) from (by
        show nd s x = j
        rw [HL.out.2.2]
        by_cases h : j < s.size
        · refine past_stop (p := nbB) ?_
          rw [nd_byte h]
          cases e : nbB (s[j].toNat : Int)
          · rfl
          · exact absurd ⟨h, e⟩ hgo
        · exact past_end (by omega)))
      have hx1 : (x : Int) ≤ (j : Int) := by omega
      have hx2 : (j : Int) ≤ (s.size : Int) := by omega
      by_cases hlt : j < s.size
      · have hlt' : (j : Int) < (s.size : Int) := by omega
        have HNB := (show Hid (∀ wq : World, Calls Try.prog 79 #[.int .u8 (s[j].toNat : Int)] wq fun e w' => e = .returned (.bool false) ∧ w' = wq) from fun wq => by
          have := sNameByte (s[j].toNat : Int) wq
          cases e : nbB (s[j].toNat : Int)
          · rw [e] at this; exact this
          · exact absurd ⟨hlt, e⟩ hgo)
        clear hgo
        go_wp2_with fail
        go_quiet ((go_at_call 79; refine Calls.quiet_of_same (HNB.out _)))
        go_wp2_with fail
        go_quiet (fail)
        have hbw := HL.out.2.1
        have HBW := (show Hid (But p w wr) from But.trans HB2.out HL.out.1)
        have hzw := HZ2.out.but HL.out.1 (by omega)
        have HZW := (show Hid (Box wr w.heap.size 102 [.string ⟨#[]⟩, .string ⟨#[]⟩, .slice none 0 0]) from hzw)
        have HXW := (show Hid (Box wr p 129 [(.slice ra rl.length rc), .string s, .int .i64 (j : Int), .int .i64 (-1)]) from hbw)
        have HRJ := (show Hid ((if (eqS (s.extract x j) idN || (eqS (s.extract x j) failN || hasS (nms rl) (s.extract x j))) = true then some (true, sk s j) else if hasS pw7 (s.extract x j) = true then rd s (hasS (nms rl)) f 3 (sk s j) else some (false, x)) = some R) from (by
          have := HR.out
          rw [HND.out] at this
          exact this))
        have hg1 := eqS_id (s.extract x j)
        have hg2 := eqS_fail (s.extract x j)
        have hww : w.heap.size < wr.heap.size := hzw.lt
        have hpr : p < wr.heap.size := hbw.lt
        clear hbw
        by_cases hA : (eqS (s.extract x j) idN || eqS (s.extract x j) failN) = true
        · have HRR := (show Hid (R = (true, sk s j)) from (by
            have := HRJ.out
            rw [if_pos (by rw [← Bool.or_assoc, hA]; rfl)] at this
            injection this with this
            exact this.symm))
          have hz := hzw
          have z0 : wr.cell? ⟨w.heap.size, 0, none⟩ = some (.string ⟨#[]⟩) := hz.cell 0 (by simp)
          have z1 : wr.cell? ⟨w.heap.size, 1, none⟩ = some (.string ⟨#[]⟩) := hz.cell 1 (by simp)
          have z2 : wr.cell? ⟨w.heap.size, 2, none⟩ = some (.slice none 0 0) := hz.cell 2 (by simp)
          have f0 : wr.frozen? ⟨w.heap.size, 0, none⟩ = false := hz.frozen 0
          have f1 : wr.frozen? ⟨w.heap.size, 1, none⟩ = false := hz.frozen 1
          have f2 : wr.frozen? ⟨w.heap.size, 2, none⟩ = false := hz.frozen 2
          clear hz hzw HR HL HRJ HIH HFD HFE
          cases hB : eqS (s.extract x j) idN
          · rw [hB] at hg1
            rw [hB, Bool.false_or] at hA
            rw [hA] at hg2
            clear hB
            go_wp2_with fail
            refine bodyPost_ret (by simp [results, Try.results110, go_sem, z0, z1, z2]; rfl) rfl ?_
            exact HFIN.out _ _ _ _ _ j (-1) _ ((((HXW.out.keep (w' := wr.drewN _) rfl).past (by omega)).past (by omega)).past (by omega)) (((But.other (But.drewN HBW.out _) (Nat.le_refl _) _).other (Nat.le_refl _) _).other (Nat.le_refl _) _) hj (fun _ => ⟨rfl, by rw [HRR.out]⟩) (fun h => by rw [HRR.out] at h; cases h)
          · rw [hB] at hg1
            clear hB
            go_wp2_with fail
            refine bodyPost_ret (by simp [results, Try.results110, go_sem, z0, z1, z2]; rfl) rfl ?_
            exact HFIN.out _ _ _ _ _ j (-1) _ ((((HXW.out.keep (w' := wr.drewN _) rfl).past (by omega)).past (by omega)).past (by omega)) (((But.other (But.drewN HBW.out _) (Nat.le_refl _) _).other (Nat.le_refl _) _).other (Nat.le_refl _) _) hj (fun _ => ⟨rfl, by rw [HRR.out]⟩) (fun h => by rw [HRR.out] at h; cases h)
        have hA1 : eqS (s.extract x j) idN = false := by
          cases e : eqS (s.extract x j) idN
          · rfl
          · rw [e] at hA; exact absurd rfl hA
        have hA2 : eqS (s.extract x j) failN = false := by
          cases e : eqS (s.extract x j) failN
          · rfl
          · rw [e] at hA; simp at hA
        rw [hA1] at hg1 HRJ
        rw [hA2] at hg2 HRJ
        have HWC := (show Hid (∀ wq : World, Calls Try.prog 85 #[.string (s.extract x j)] wq fun e w' => e = .returned (.bool (hasS pw7 (s.extract x j))) ∧ Below wq.heap.size wq w') from fun wq => word85 _ wq)
        have HRN := (show Hid _ from HPW.out (s.extract x j))
        clear hA hA1 hA2 hzw HR HL
        cases hP : hasS pw7 (s.extract x j)
        · rw [hP] at HWC HRJ
          have HFC := (show Hid (∀ wq : World, Below w0.heap.size w0 wq → Calls Try.prog 63 #[(.slice ra rl.length rc), .string (s.extract x j)] wq fun e w' => ∃ i : Int, e = .returned (.int .i64 i) ∧ FdW rl (s.extract x j) i ∧ w' = wq) from fun wq h => HFD.out _ wq h)
          go_wp2_with fail
          refine Calls.mono (HWC.out _) ?_
          rintro e w5 ⟨rfl, hb5⟩
          have hbW : Below wr.heap.size wr w5 := bel_trans (bel_drewN (Below.refl _ _) _) hb5
          have HX5 := (show Hid (Box w5 p 129 [(.slice ra rl.length rc), .string s, .int .i64 (j : Int), .int .i64 (-1)]) from HXW.out.still hbW)
          have HB5 := (show Hid (But p w w5) from HBW.out.still hbW)
          have HZ5 := (show Hid (Box w5 w.heap.size 102 [.string ⟨#[]⟩, .string ⟨#[]⟩, .slice none 0 0]) from HZW.out.still hbW)
          have r0 : w5.cell? ⟨p, 0, none⟩ = some (.slice ra rl.length rc) := HX5.out.cell 0 (by simp)
          clear hb5 hbW HWC
          go_wp2_with fail
          refine Calls.mono (HFC.out _ (But.below' HB5.out HB0.out hp)) ?_
          rintro e w6 ⟨i6, rfl, hf6, rfl⟩
          have HF6 := (show Hid (FdW rl (s.extract x j) i6) from hf6)
          clear hf6 HFC HFE HFD r0 HRN
          cases hN : hasS (nms rl) (s.extract x j)
          · obtain rfl := fdw_no HF6.out hN
            rw [hN] at HRJ
            have HRR := (show Hid (R = (false, x)) from (by
              have := HRJ.out
              simp at this
              exact this.symm))
            have HF := (show Hid _ from fail88 s x j p (-1) (.slice ra rl.length rc) w6 HX5.out)
            clear HRJ hN HF6 hP
            go_wp2_with fail
            refine Calls.mono HF.out ?_
            rintro e w7 ⟨rfl, hb7, hbt7⟩
            have hz := HZ5.out.but hbt7 (by omega)
            have z0 : w7.cell? ⟨w.heap.size, 0, none⟩ = some (.string ⟨#[]⟩) := hz.cell 0 (by simp)
            have z1 : w7.cell? ⟨w.heap.size, 1, none⟩ = some (.string ⟨#[]⟩) := hz.cell 1 (by simp)
            have z2 : w7.cell? ⟨w.heap.size, 2, none⟩ = some (.slice none 0 0) := hz.cell 2 (by simp)
            have f0 : w7.frozen? ⟨w.heap.size, 0, none⟩ = false := hz.frozen 0
            have f1 : w7.frozen? ⟨w.heap.size, 1, none⟩ = false := hz.frozen 1
            have f2 : w7.frozen? ⟨w.heap.size, 2, none⟩ = false := hz.frozen 2
            have HX7 := (show Hid (Box w7 p 129 [(.slice ra rl.length rc), .string s, .int .i64 (j : Int), .int .i64 (x : Int)]) from (by show Box _ _ _ _; simpa using hb7))
            have HB7 := (show Hid (But p w w7) from But.trans HB5.out hbt7)
            clear hb7 hbt7 hz HF HZ5 HB5 HX5
            go_wp2_with fail
            refine bodyPost_ret (by simp [results, Try.results110, go_sem, z0, z1, z2]; rfl) rfl ?_
            exact HFIN.out _ _ _ _ _ j x _ (((HX7.out.past (by omega)).past (by omega)).past (by omega)) (((HB7.out.other (Nat.le_refl _) _).other (Nat.le_refl _) _).other (Nat.le_refl _) _) hj (fun h => by rw [HRR.out] at h; cases h) (fun _ => by rw [HRR.out])
          · obtain ⟨i6, rfl, hi6⟩ := fdw_yes HF6.out hN
            rw [hN] at HRJ
            have HRR := (show Hid (R = (true, sk s j)) from (by
              have := HRJ.out
              simp at this
              exact this.symm))
            have hd6 : (0 : Int) ≤ (i6 : Int) := by omega
            have hz := HZ5.out
            have z0 : w6.cell? ⟨w.heap.size, 0, none⟩ = some (.string ⟨#[]⟩) := hz.cell 0 (by simp)
            have z1 : w6.cell? ⟨w.heap.size, 1, none⟩ = some (.string ⟨#[]⟩) := hz.cell 1 (by simp)
            have z2 : w6.cell? ⟨w.heap.size, 2, none⟩ = some (.slice none 0 0) := hz.cell 2 (by simp)
            have f0 : w6.frozen? ⟨w.heap.size, 0, none⟩ = false := hz.frozen 0
            have f1 : w6.frozen? ⟨w.heap.size, 1, none⟩ = false := hz.frozen 1
            have f2 : w6.frozen? ⟨w.heap.size, 2, none⟩ = false := hz.frozen 2
            clear HF6 HRJ hN hz hi6 hP
            go_wp2_with fail
            refine bodyPost_ret (by simp [results, Try.results110, go_sem, z0, z1, z2]; rfl) rfl ?_
            exact HFIN.out _ _ _ _ _ j (-1) _ (((HX5.out.past (by omega)).past (by omega)).past (by omega)) (((HB5.out.other (Nat.le_refl _) _).other (Nat.le_refl _) _).other (Nat.le_refl _) _) hj (fun _ => ⟨rfl, by rw [HRR.out]⟩) (fun h => by rw [HRR.out] at h; cases h)
        · have hN : hasS (nms rl) (s.extract x j) = false := by
            cases e : hasS (nms rl) (s.extract x j)
            · rfl
            · have := HRN.out e
              rw [hP] at this
              cases this
          rw [hP] at HWC HRJ
          rw [hN] at HRJ
          have HRR := (show Hid (rd s (hasS (nms rl)) f 3 (sk s j) = some R) from (by
            have := HRJ.out
            simp at this
            exact this))
          clear HRJ hN HFD HFE
          go_wp2_with fail
          refine Calls.mono (HWC.out _) ?_
          rintro e w5 ⟨rfl, hb5⟩
          have hbW : Below wr.heap.size wr w5 := bel_trans (bel_drewN (Below.refl _ _) _) hb5
          have HB7 := (show Hid (But p w w5) from HBW.out.still hbW)
          have HZ7 := (show Hid (Box w5 w.heap.size 102 [.string ⟨#[]⟩, .string ⟨#[]⟩, .slice none 0 0]) from HZW.out.still hbW)
          have HCL := (show Hid _ from HIH.out j w5 R (HXW.out.still hbW) hj (But.below' HB7.out HB0.out hp) HRR.out)
          unfold RdA at HCL
          clear hb5 hbW HWC HIH
          go_wp2_with fail
          refine Calls.mono HCL.out ?_
          rintro e w8 ⟨k8, n8, a8, l8, c8, i8, bad8, rfl, hb8, hbt8, hi8, ht8, hf8⟩
          have hz := (HZ7.out.but hbt8 (by omega)).still (bel_alloc w8 (.cells #[.string k8, .string n8, .slice a8 l8 c8] 102))
          have z0 : (w8.alloc (.cells #[.string k8, .string n8, .slice a8 l8 c8] 102)).cell? ⟨w.heap.size, 0, none⟩ = some (.string ⟨#[]⟩) := hz.cell 0 (by simp)
          have z1 : (w8.alloc (.cells #[.string k8, .string n8, .slice a8 l8 c8] 102)).cell? ⟨w.heap.size, 1, none⟩ = some (.string ⟨#[]⟩) := hz.cell 1 (by simp)
          have z2 : (w8.alloc (.cells #[.string k8, .string n8, .slice a8 l8 c8] 102)).cell? ⟨w.heap.size, 2, none⟩ = some (.slice none 0 0) := hz.cell 2 (by simp)
          have f0 : (w8.alloc (.cells #[.string k8, .string n8, .slice a8 l8 c8] 102)).frozen? ⟨w.heap.size, 0, none⟩ = false := hz.frozen 0
          have f1 : (w8.alloc (.cells #[.string k8, .string n8, .slice a8 l8 c8] 102)).frozen? ⟨w.heap.size, 1, none⟩ = false := hz.frozen 1
          have f2 : (w8.alloc (.cells #[.string k8, .string n8, .slice a8 l8 c8] 102)).frozen? ⟨w.heap.size, 2, none⟩ = false := hz.frozen 2
          have HX9 := (show Hid (Box (w8.alloc (.cells #[.string k8, .string n8, .slice a8 l8 c8] 102)) p 129 [(.slice ra rl.length rc), .string s, .int .i64 (i8 : Int), .int .i64 bad8]) from hb8.still (bel_alloc _ _))
          have HB9 := (show Hid (But p w (w8.alloc (.cells #[.string k8, .string n8, .slice a8 l8 c8] 102))) from (But.trans HB7.out hbt8).still (bel_alloc _ _))
          have HTF := (show Hid (_ ∧ _) from ⟨ht8, hf8⟩)
          clear hb8 hbt8 hz ht8 hf8 HCL HZ7 HB7
          go_wp2_with fail
          refine bodyPost_ret (by simp [results, Try.results110, go_sem, z0, z1, z2]; rfl) rfl ?_
          exact HFIN.out _ _ _ _ _ i8 bad8 _ (((HX9.out.past (by omega)).past (by omega)).past (by omega)) (((HB9.out.other (Nat.le_refl _) _).other (Nat.le_refl _) _).other (Nat.le_refl _) _) hi8 HTF.out.1 HTF.out.2
      · have hlt' : ¬ ((j : Int) < (s.size : Int)) := by omega
        clear hgo
        go_wp2_with fail
        go_quiet (fail)
        go_wp2_with fail
        go_quiet (fail)
        have hbw := HL.out.2.1
        have HBW := (show Hid (But p w wr) from But.trans HB2.out HL.out.1)
        have hzw := HZ2.out.but HL.out.1 (by omega)
        have HZW := (show Hid (Box wr w.heap.size 102 [.string ⟨#[]⟩, .string ⟨#[]⟩, .slice none 0 0]) from hzw)
        have HXW := (show Hid (Box wr p 129 [(.slice ra rl.length rc), .string s, .int .i64 (j : Int), .int .i64 (-1)]) from hbw)
        have HRJ := (show Hid ((if (eqS (s.extract x j) idN || (eqS (s.extract x j) failN || hasS (nms rl) (s.extract x j))) = true then some (true, sk s j) else if hasS pw7 (s.extract x j) = true then rd s (hasS (nms rl)) f 3 (sk s j) else some (false, x)) = some R) from (by
          have := HR.out
          rw [HND.out] at this
          exact this))
        have hg1 := eqS_id (s.extract x j)
        have hg2 := eqS_fail (s.extract x j)
        have hww : w.heap.size < wr.heap.size := hzw.lt
        have hpr : p < wr.heap.size := hbw.lt
        clear hbw
        by_cases hA : (eqS (s.extract x j) idN || eqS (s.extract x j) failN) = true
        · have HRR := (show Hid (R = (true, sk s j)) from (by
            have := HRJ.out
            rw [if_pos (by rw [← Bool.or_assoc, hA]; rfl)] at this
            injection this with this
            exact this.symm))
          have hz := hzw
          have z0 : wr.cell? ⟨w.heap.size, 0, none⟩ = some (.string ⟨#[]⟩) := hz.cell 0 (by simp)
          have z1 : wr.cell? ⟨w.heap.size, 1, none⟩ = some (.string ⟨#[]⟩) := hz.cell 1 (by simp)
          have z2 : wr.cell? ⟨w.heap.size, 2, none⟩ = some (.slice none 0 0) := hz.cell 2 (by simp)
          have f0 : wr.frozen? ⟨w.heap.size, 0, none⟩ = false := hz.frozen 0
          have f1 : wr.frozen? ⟨w.heap.size, 1, none⟩ = false := hz.frozen 1
          have f2 : wr.frozen? ⟨w.heap.size, 2, none⟩ = false := hz.frozen 2
          clear hz hzw HR HL HRJ HIH HFD HFE
          cases hB : eqS (s.extract x j) idN
          · rw [hB] at hg1
            rw [hB, Bool.false_or] at hA
            rw [hA] at hg2
            clear hB
            go_wp2_with fail
            refine bodyPost_ret (by simp [results, Try.results110, go_sem, z0, z1, z2]; rfl) rfl ?_
            exact HFIN.out _ _ _ _ _ j (-1) _ ((((HXW.out.keep (w' := wr.drewN _) rfl).past (by omega)).past (by omega)).past (by omega)) (((But.other (But.drewN HBW.out _) (Nat.le_refl _) _).other (Nat.le_refl _) _).other (Nat.le_refl _) _) hj (fun _ => ⟨rfl, by rw [HRR.out]⟩) (fun h => by rw [HRR.out] at h; cases h)
          · rw [hB] at hg1
            clear hB
            go_wp2_with fail
            refine bodyPost_ret (by simp [results, Try.results110, go_sem, z0, z1, z2]; rfl) rfl ?_
            exact HFIN.out _ _ _ _ _ j (-1) _ ((((HXW.out.keep (w' := wr.drewN _) rfl).past (by omega)).past (by omega)).past (by omega)) (((But.other (But.drewN HBW.out _) (Nat.le_refl _) _).other (Nat.le_refl _) _).other (Nat.le_refl _) _) hj (fun _ => ⟨rfl, by rw [HRR.out]⟩) (fun h => by rw [HRR.out] at h; cases h)
        have hA1 : eqS (s.extract x j) idN = false := by
          cases e : eqS (s.extract x j) idN
          · rfl
          · rw [e] at hA; exact absurd rfl hA
        have hA2 : eqS (s.extract x j) failN = false := by
          cases e : eqS (s.extract x j) failN
          · rfl
          · rw [e] at hA; simp at hA
        rw [hA1] at hg1 HRJ
        rw [hA2] at hg2 HRJ
        have HWC := (show Hid (∀ wq : World, Calls Try.prog 85 #[.string (s.extract x j)] wq fun e w' => e = .returned (.bool (hasS pw7 (s.extract x j))) ∧ Below wq.heap.size wq w') from fun wq => word85 _ wq)
        have HRN := (show Hid _ from HPW.out (s.extract x j))
        clear hA hA1 hA2 hzw HR HL
        cases hP : hasS pw7 (s.extract x j)
        · rw [hP] at HWC HRJ
          have HFC := (show Hid (∀ wq : World, Below w0.heap.size w0 wq → Calls Try.prog 63 #[(.slice ra rl.length rc), .string (s.extract x j)] wq fun e w' => ∃ i : Int, e = .returned (.int .i64 i) ∧ FdW rl (s.extract x j) i ∧ w' = wq) from fun wq h => HFD.out _ wq h)
          go_wp2_with fail
          refine Calls.mono (HWC.out _) ?_
          rintro e w5 ⟨rfl, hb5⟩
          have hbW : Below wr.heap.size wr w5 := bel_trans (bel_drewN (Below.refl _ _) _) hb5
          have HX5 := (show Hid (Box w5 p 129 [(.slice ra rl.length rc), .string s, .int .i64 (j : Int), .int .i64 (-1)]) from HXW.out.still hbW)
          have HB5 := (show Hid (But p w w5) from HBW.out.still hbW)
          have HZ5 := (show Hid (Box w5 w.heap.size 102 [.string ⟨#[]⟩, .string ⟨#[]⟩, .slice none 0 0]) from HZW.out.still hbW)
          have r0 : w5.cell? ⟨p, 0, none⟩ = some (.slice ra rl.length rc) := HX5.out.cell 0 (by simp)
          clear hb5 hbW HWC
          go_wp2_with fail
          refine Calls.mono (HFC.out _ (But.below' HB5.out HB0.out hp)) ?_
          rintro e w6 ⟨i6, rfl, hf6, rfl⟩
          have HF6 := (show Hid (FdW rl (s.extract x j) i6) from hf6)
          clear hf6 HFC HFE HFD r0 HRN
          cases hN : hasS (nms rl) (s.extract x j)
          · obtain rfl := fdw_no HF6.out hN
            rw [hN] at HRJ
            have HRR := (show Hid (R = (false, x)) from (by
              have := HRJ.out
              simp at this
              exact this.symm))
            have HF := (show Hid _ from fail88 s x j p (-1) (.slice ra rl.length rc) w6 HX5.out)
            clear HRJ hN HF6 hP
            go_wp2_with fail
            refine Calls.mono HF.out ?_
            rintro e w7 ⟨rfl, hb7, hbt7⟩
            have hz := HZ5.out.but hbt7 (by omega)
            have z0 : w7.cell? ⟨w.heap.size, 0, none⟩ = some (.string ⟨#[]⟩) := hz.cell 0 (by simp)
            have z1 : w7.cell? ⟨w.heap.size, 1, none⟩ = some (.string ⟨#[]⟩) := hz.cell 1 (by simp)
            have z2 : w7.cell? ⟨w.heap.size, 2, none⟩ = some (.slice none 0 0) := hz.cell 2 (by simp)
            have f0 : w7.frozen? ⟨w.heap.size, 0, none⟩ = false := hz.frozen 0
            have f1 : w7.frozen? ⟨w.heap.size, 1, none⟩ = false := hz.frozen 1
            have f2 : w7.frozen? ⟨w.heap.size, 2, none⟩ = false := hz.frozen 2
            have HX7 := (show Hid (Box w7 p 129 [(.slice ra rl.length rc), .string s, .int .i64 (j : Int), .int .i64 (x : Int)]) from (by show Box _ _ _ _; simpa using hb7))
            have HB7 := (show Hid (But p w w7) from But.trans HB5.out hbt7)
            clear hb7 hbt7 hz HF HZ5 HB5 HX5
            go_wp2_with fail
            refine bodyPost_ret (by simp [results, Try.results110, go_sem, z0, z1, z2]; rfl) rfl ?_
            exact HFIN.out _ _ _ _ _ j x _ (((HX7.out.past (by omega)).past (by omega)).past (by omega)) (((HB7.out.other (Nat.le_refl _) _).other (Nat.le_refl _) _).other (Nat.le_refl _) _) hj (fun h => by rw [HRR.out] at h; cases h) (fun _ => by rw [HRR.out])
          · obtain ⟨i6, rfl, hi6⟩ := fdw_yes HF6.out hN
            rw [hN] at HRJ
            have HRR := (show Hid (R = (true, sk s j)) from (by
              have := HRJ.out
              simp at this
              exact this.symm))
            have hd6 : (0 : Int) ≤ (i6 : Int) := by omega
            have hz := HZ5.out
            have z0 : w6.cell? ⟨w.heap.size, 0, none⟩ = some (.string ⟨#[]⟩) := hz.cell 0 (by simp)
            have z1 : w6.cell? ⟨w.heap.size, 1, none⟩ = some (.string ⟨#[]⟩) := hz.cell 1 (by simp)
            have z2 : w6.cell? ⟨w.heap.size, 2, none⟩ = some (.slice none 0 0) := hz.cell 2 (by simp)
            have f0 : w6.frozen? ⟨w.heap.size, 0, none⟩ = false := hz.frozen 0
            have f1 : w6.frozen? ⟨w.heap.size, 1, none⟩ = false := hz.frozen 1
            have f2 : w6.frozen? ⟨w.heap.size, 2, none⟩ = false := hz.frozen 2
            clear HF6 HRJ hN hz hi6 hP
            go_wp2_with fail
            refine bodyPost_ret (by simp [results, Try.results110, go_sem, z0, z1, z2]; rfl) rfl ?_
            exact HFIN.out _ _ _ _ _ j (-1) _ (((HX5.out.past (by omega)).past (by omega)).past (by omega)) (((HB5.out.other (Nat.le_refl _) _).other (Nat.le_refl _) _).other (Nat.le_refl _) _) hj (fun _ => ⟨rfl, by rw [HRR.out]⟩) (fun h => by rw [HRR.out] at h; cases h)
        · have hN : hasS (nms rl) (s.extract x j) = false := by
            cases e : hasS (nms rl) (s.extract x j)
            · rfl
            · have := HRN.out e
              rw [hP] at this
              cases this
          rw [hP] at HWC HRJ
          rw [hN] at HRJ
          have HRR := (show Hid (rd s (hasS (nms rl)) f 3 (sk s j) = some R) from (by
            have := HRJ.out
            simp at this
            exact this))
          clear HRJ hN HFD HFE
          go_wp2_with fail
          refine Calls.mono (HWC.out _) ?_
          rintro e w5 ⟨rfl, hb5⟩
          have hbW : Below wr.heap.size wr w5 := bel_trans (bel_drewN (Below.refl _ _) _) hb5
          have HB7 := (show Hid (But p w w5) from HBW.out.still hbW)
          have HZ7 := (show Hid (Box w5 w.heap.size 102 [.string ⟨#[]⟩, .string ⟨#[]⟩, .slice none 0 0]) from HZW.out.still hbW)
          have HCL := (show Hid _ from HIH.out j w5 R (HXW.out.still hbW) hj (But.below' HB7.out HB0.out hp) HRR.out)
          unfold RdA at HCL
          clear hb5 hbW HWC HIH
          go_wp2_with fail
          refine Calls.mono HCL.out ?_
          rintro e w8 ⟨k8, n8, a8, l8, c8, i8, bad8, rfl, hb8, hbt8, hi8, ht8, hf8⟩
          have hz := (HZ7.out.but hbt8 (by omega)).still (bel_alloc w8 (.cells #[.string k8, .string n8, .slice a8 l8 c8] 102))
          have z0 : (w8.alloc (.cells #[.string k8, .string n8, .slice a8 l8 c8] 102)).cell? ⟨w.heap.size, 0, none⟩ = some (.string ⟨#[]⟩) := hz.cell 0 (by simp)
          have z1 : (w8.alloc (.cells #[.string k8, .string n8, .slice a8 l8 c8] 102)).cell? ⟨w.heap.size, 1, none⟩ = some (.string ⟨#[]⟩) := hz.cell 1 (by simp)
          have z2 : (w8.alloc (.cells #[.string k8, .string n8, .slice a8 l8 c8] 102)).cell? ⟨w.heap.size, 2, none⟩ = some (.slice none 0 0) := hz.cell 2 (by simp)
          have f0 : (w8.alloc (.cells #[.string k8, .string n8, .slice a8 l8 c8] 102)).frozen? ⟨w.heap.size, 0, none⟩ = false := hz.frozen 0
          have f1 : (w8.alloc (.cells #[.string k8, .string n8, .slice a8 l8 c8] 102)).frozen? ⟨w.heap.size, 1, none⟩ = false := hz.frozen 1
          have f2 : (w8.alloc (.cells #[.string k8, .string n8, .slice a8 l8 c8] 102)).frozen? ⟨w.heap.size, 2, none⟩ = false := hz.frozen 2
          have HX9 := (show Hid (Box (w8.alloc (.cells #[.string k8, .string n8, .slice a8 l8 c8] 102)) p 129 [(.slice ra rl.length rc), .string s, .int .i64 (i8 : Int), .int .i64 bad8]) from hb8.still (bel_alloc _ _))
          have HB9 := (show Hid (But p w (w8.alloc (.cells #[.string k8, .string n8, .slice a8 l8 c8] 102))) from (But.trans HB7.out hbt8).still (bel_alloc _ _))
          have HTF := (show Hid (_ ∧ _) from ⟨ht8, hf8⟩)
          clear hb8 hbt8 hz ht8 hf8 HCL HZ7 HB7
          go_wp2_with fail
          refine bodyPost_ret (by simp [results, Try.results110, go_sem, z0, z1, z2]; rfl) rfl ?_
          exact HFIN.out _ _ _ _ _ i8 bad8 _ (((HX9.out.past (by omega)).past (by omega)).past (by omega)) (((HB9.out.other (Nat.le_refl _) _).other (Nat.le_refl _) _).other (Nat.le_refl _) _) hi8 HTF.out.1 HTF.out.2
end Go.Proofs.Yteomgkcgjkbppaa
