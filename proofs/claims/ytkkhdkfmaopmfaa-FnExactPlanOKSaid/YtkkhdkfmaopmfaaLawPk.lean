import Derived.Test.YtkkhdkfmaopmfaaKt
import Derived.BigQuiet
import Derived.Deep.QuietTactic
import Derived.Test.YtkkhdkfmaopmfaaSize
import Derived.Test.YtkkhdkfmaopmfaaKd
/-! The specification's reader of plans: a prim. -/
namespace Go.Proofs.Ytkkhdkfmaopmfaa
open Go.RowKit Go.Deep Go.Lib Go.ChangeShapes Go.WideShapes
set_option linter.unusedVariables false
set_option maxRecDepth 100000
set_option linter.unusedSimpArgs false

theorem nd_byte {s : ByteArray} {j : Nat} (h : j < s.size) : nbB (bt s j) = nbB (s[j].toNat : Int) := by rw [bt_at h]
set_option maxHeartbeats 3200000 in
theorem prim110 {w0 : World} {p : Nat} {s : ByteArray} {rl : List Rw} {ra : Option Addr} {rc f : Nat} (hs : s.size ≤ 300) (hp : w0.heap.size ≤ p) (hrl : RLy w0 rl (.slice ra rl.length rc)) (hpw : ∀ x, hasS (nms rl) x = true → hasS pw7 x = false) (ih : RdC w0 p (.slice ra rl.length rc) s (hasS (nms rl)) 116 3 f) : RdC w0 p (.slice ra rl.length rc) s (hasS (nms rl)) 110 0 (f + 1) := by
  intro i w R hbx hi hb0 hrd
  have hpl := hbx.lt
  have HIH := (show Hid _ from ih)
  have HPW := (show Hid _ from hpw)
  have HFD := (show Hid (∀ (x : ByteArray) (wq : World), Below w0.heap.size w0 wq → Calls Try.prog 63 #[.slice ra rl.length rc, .string x] wq fun e w' => ∃ i : Int, e = .returned (.int .i64 i) ∧ FdW rl x i ∧ w' = wq) from fun x wq h => find63 rl x _ wq (hrl.still h))
  have HFE := (show Hid (∀ (x : ByteArray) (i : Int), FdW rl x i → decide (0 ≤ i) = hasS (nms rl) x) from fun x i h => by
    rcases h with ⟨rfl, h⟩ | ⟨j, rfl, hj, h1, h2⟩
    · rw [h]; rfl
    · rw [decide_eq_true (by omega)]
      symm
      unfold hasS
      rw [List.any_eq_true]
      exact ⟨rl[j].name, by unfold nms; exact List.mem_map.2 ⟨rl[j], List.getElem_mem hj, rfl⟩, by rw [h1]; exact eqS_refl x⟩)
  have HB0 := (show Hid _ from hb0)
  have hzb := Box.new w 102 [.string ⟨#[]⟩, .string ⟨#[]⟩, .slice none 0 0]
  have hb1 := hbx.still (bel_alloc w (.cells #[.string ⟨#[]⟩, .string ⟨#[]⟩, .slice none 0 0] 102))
  have HS := (show Hid _ from sign87 s 40 i p (-1) (.slice ra rl.length rc) _ hb1 hi hs)
  have HBT := (show Hid (But p w (w.alloc (.cells #[.string ⟨#[]⟩, .string ⟨#[]⟩, .slice none 0 0] 102))) from But.of_below (bel_alloc _ _))
  have HZ := (show Hid _ from hzb)
  have hx : sk s i ≤ s.size := past_size hi
  have HID := (show Hid (sk s (sk s i) = sk s i) from past_idem blB s i)
  have HFIN := (show Hid (∀ (k n : ByteArray) (a : Option Addr) (l c i' : Nat) (bad : Int) (w' : World), Box w' p 129 [(.slice ra rl.length rc), .string s, .int .i64 (i' : Int), .int .i64 bad] → But p w w' → i' ≤ s.size → (R.1 = true → bad = -1 ∧ sk s i' = R.2) → (R.1 = false → bad = (R.2 : Int)) → RdA p (.slice ra rl.length rc) s R w (.returned (.agg #[.string k, .string n, .slice a l c])) w') from fun k n a l c i' bad w' h1 h2 h3 h4 h5 => ⟨k, n, a, l, c, i', bad, rfl, h1, h2, h3, h4, h5⟩)
  rw [rd] at hrd
  have HRD := (show Hid _ from hrd)
  clear hrd hbx hzb hb1 hb0 ih hpw hrl
  generalize hX : sk s i = x at *
  by_cases h40 : bt s x = 40
  · have HR := (show Hid _ from (if_pos h40).symm.trans HRD.out)
    have hd : decide (bt s x = ((40 : Nat) : Int)) = true := decide_eq_true h40
    rw [hd] at HS
    clear HRD hd h40
    go_enter Try.func110, Try.ntmps110
    go_wp2_with fail
    refine Calls.mono HS.out ?_
    rintro e w2 ⟨rfl, hb2, hbt2⟩
    have HB7 := (show Hid (But p w w2) from But.trans HBT.out hbt2)
    have HZ7 := (show Hid (Box w2 w.heap.size 102 [.string ⟨#[]⟩, .string ⟨#[]⟩, .slice none 0 0]) from HZ.out.but hbt2 (by omega))
    have HCL := (show Hid _ from HIH.out x w2 R hb2 hx (But.below' HB7.out HB0.out hp) (by rw [HID.out]; exact HR.out))
    unfold RdA at HCL
    clear hb2 hbt2 HS HIH
    go_wp2_with fail
    refine Calls.mono HCL.out ?_
    rintro e w8 ⟨k8, n8, a8, l8, c8, i8, bad8, rfl, hb8, hbt8, hi8, ht8, hf8⟩
    have hz := (HZ7.out.but hbt8 (by omega)).still (bel_alloc w8 (.cells #[.string k8, .string n8, .slice a8 l8 c8] 102))
    have z0 : (w8.alloc (.cells #[.string k8, .string n8, .slice a8 l8 c8] 102)).cell? ⟨w.heap.size, 0, none⟩ = some (.string ⟨#[]⟩) := hz.cell 0 (by simp)
    have z1 : (w8.alloc (.cells #[.string k8, .string n8, .slice a8 l8 c8] 102)).cell? ⟨w.heap.size, 1, none⟩ = some (.string ⟨#[]⟩) := hz.cell 1 (by simp)
    have z2 : (w8.alloc (.cells #[.string k8, .string n8, .slice a8 l8 c8] 102)).cell? ⟨w.heap.size, 2, none⟩ = some (.slice none 0 0) := hz.cell 2 (by simp)
    have f0 : (w8.alloc (.cells #[.string k8, .string n8, .slice a8 l8 c8] 102)).frozen? ⟨w.heap.size, 0, none⟩ = false := hz.frozen 0
    have f1 : (w8.alloc (.cells #[.string k8, .string n8, .slice a8 l8 c8] 102)).frozen? ⟨w.heap.size, 1, none⟩ = false := hz.frozen 1
    have f2 : (w8.alloc (.cells #[.string k8, .string n8, .slice a8 l8 c8] 102)).frozen? ⟨w.heap.size, 2, none⟩ = false := hz.frozen 2
    have HX9 := (show Hid (Box (w8.alloc (.cells #[.string k8, .string n8, .slice a8 l8 c8] 102)) p 129 [(.slice ra rl.length rc), .string s, .int .i64 (i8 : Int), .int .i64 bad8]) from hb8.still (bel_alloc _ _))
    have HB9 := (show Hid (But p w (w8.alloc (.cells #[.string k8, .string n8, .slice a8 l8 c8] 102))) from (But.trans HB7.out hbt8).still (bel_alloc _ _))
    have HTF := (show Hid (_ ∧ _) from ⟨ht8, hf8⟩)
    clear hb8 hbt8 hz ht8 hf8 HCL HZ7 HB7
    go_wp2_with fail
    refine bodyPost_ret (by simp [results, Try.results110, go_sem, z0, z1, z2]; rfl) rfl ?_
    exact HFIN.out _ _ _ _ _ i8 bad8 _ (((HX9.out.past (by omega)).past (by omega)).past (by omega)) (((HB9.out.other (Nat.le_refl _) _).other (Nat.le_refl _) _).other (Nat.le_refl _) _) hi8 HTF.out.1 HTF.out.2
  have HR := (show Hid _ from (if_neg h40).symm.trans HRD.out)
  have hd : decide (bt s x = ((40 : Nat) : Int)) = false := decide_eq_false h40
  rw [hd] at HS
  clear HRD hd h40
  go_enter Try.func110, Try.ntmps110
  go_wp2_with fail
  refine Calls.mono HS.out ?_
  rintro e w2 ⟨rfl, hb2, hbt2⟩
  have c2 : w2.cell? ⟨p, 2, none⟩ = some (.int .i64 (x : Int)) := hb2.cell 2 (by simp)
  have HX2 := (show Hid _ from hb2)
  have HB2 := (show Hid (But p w w2) from But.trans HBT.out hbt2)
  have HZ2 := (show Hid (Box w2 w.heap.size 102 [.string ⟨#[]⟩, .string ⟨#[]⟩, .slice none 0 0]) from HZ.out.but hbt2 (by omega))
  have hw2 : w.heap.size < w2.heap.size := HZ2.out.lt
  clear hb2 hbt2 HS HBT HZ
  go_wp2_with fail
  clear c2
  go_loopw [] (fun wr => ∃ j : Nat, x ≤ j ∧ j ≤ s.size ∧ Hid (But p w2 wr ∧ Box wr p 129 [(.slice ra rl.length rc), .string s, .int .i64 (j : Int), .int .i64 (-1)] ∧ nd s x = nd s j)) (fun wr => s.size - (intOf ((wr.cell? ⟨p, 2, none⟩).getD (.bool false))).toNat)
  case atStart => exact ⟨x, Nat.le_refl _, hx, But.of_below (Below.refl _ _), HX2.out, rfl⟩
  case round =>
    obtain ⟨j, hxj, hj, HL⟩ := hrel
    have x1 : wr.cell? ⟨p, 1, none⟩ = some (.string s) := HL.out.2.1.cell 1 (by simp)
    have x2 : wr.cell? ⟨p, 2, none⟩ = some (.int .i64 (j : Int)) := HL.out.2.1.cell 2 (by simp)
    have y2 : wr.frozen? ⟨p, 2, none⟩ = false := HL.out.2.1.frozen 2
    have hj0 : (0 : Int) ≤ (j : Int) := by omega
    by_cases hgo : ∃ hlt : j < s.size, nbB (s[j].toNat : Int) = true
    · obtain ⟨hlt, hnb⟩ := hgo
      have hlt' : (j : Int) < (s.size : Int) := by omega
      have HND := (show Hid (nd s x = nd s (j + 1)) from HL.out.2.2.trans (past_step (p := nbB) (by rw [nd_byte hlt]; exact hnb) hlt))
      have HNB := (show Hid (∀ wq : World, Calls Try.prog 79 #[.int .u8 (s[j].toNat : Int)] wq fun e w' => e = .returned (.bool true) ∧ w' = wq) from fun wq => by have := sNameByte (s[j].toNat : Int) wq; rw [hnb] at this; exact this)
      clear hnb
      go_wp2_with fail
      go_quiet ((go_at_call 79; refine Calls.quiet_of_same (HNB.out _)))
      go_wp2_with fail
      refine ⟨⟨j + 1, by omega, by omega, But.put (But.drewN HL.out.1 _) _, ?_, HND.out⟩, ?_⟩
      · have hb2 := (HL.out.2.1.keep (w' := wr.drewN nq) rfl).set 2 (.int .i64 ((j + 1 : Nat) : Int))
        simpa using hb2
      · have m1 := ((HL.out.2.1.keep (w' := wr.drewN nq) rfl).set 2 (.int .i64 ((j : Int) + 1))).cell 2 (by simp)
        rw [m1, x2]
        simp [intOf]
        omega
    · have HND := (show Hid (nd s x = j) from (by
        show nd s x = j
        rw [HL.out.2.2]
        by_cases h : j < s.size
        · refine past_stop (p := nbB) ?_
          rw [nd_byte h]
          cases e : nbB (s[j].toNat : Int)
          · rfl
          · exact absurd ⟨h, e⟩ hgo
        · exact past_end (by omega)))
      have hx1 : (x : Int) ≤ (j : Int) := by omega
      have hx2 : (j : Int) ≤ (s.size : Int) := by omega
      by_cases hlt : j < s.size
      · have hlt' : (j : Int) < (s.size : Int) := by omega
        have HNB := (show Hid (∀ wq : World, Calls Try.prog 79 #[.int .u8 (s[j].toNat : Int)] wq fun e w' => e = .returned (.bool false) ∧ w' = wq) from fun wq => by
          have := sNameByte (s[j].toNat : Int) wq
          cases e : nbB (s[j].toNat : Int)
          · rw [e] at this; exact this
          · exact absurd ⟨hlt, e⟩ hgo)
        clear hgo
        go_wp2_with fail
        go_quiet ((go_at_call 79; refine Calls.quiet_of_same (HNB.out _)))
        go_wp2_with fail
        go_quiet (fail)
        have hbw := HL.out.2.1
        have HBW := (show Hid (But p w wr) from But.trans HB2.out HL.out.1)
        have hzw := HZ2.out.but HL.out.1 (by omega)
        have HZW := (show Hid (Box wr w.heap.size 102 [.string ⟨#[]⟩, .string ⟨#[]⟩, .slice none 0 0]) from hzw)
        have HXW := (show Hid (Box wr p 129 [(.slice ra rl.length rc), .string s, .int .i64 (j : Int), .int .i64 (-1)]) from hbw)
        have HRJ := (show Hid ((if (eqS (s.extract x j) idN || (eqS (s.extract x j) failN || hasS (nms rl) (s.extract x j))) = true then some (true, sk s j) else if hasS pw7 (s.extract x j) = true then rd s (hasS (nms rl)) f 3 (sk s j) else some (false, x)) = some R) from (by
          have := HR.out
          rw [HND.out] at this
          exact this))
        have hg1 := eqS_id (s.extract x j)
        have hg2 := eqS_fail (s.extract x j)
        have hww : w.heap.size < wr.heap.size := hzw.lt
        have hpr : p < wr.heap.size := hbw.lt
        clear hbw
        by_cases hA : (eqS (s.extract x j) idN || eqS (s.extract x j) failN) = true
        · have HRR := (show Hid (R = (true, sk s j)) from (by
            have := HRJ.out
            rw [if_pos (by rw [← Bool.or_assoc, hA]; rfl)] at this
            injection this with this
            exact this.symm))
          have hz := hzw
          have z0 : wr.cell? ⟨w.heap.size, 0, none⟩ = some (.string ⟨#[]⟩) := hz.cell 0 (by simp)
          have z1 : wr.cell? ⟨w.heap.size, 1, none⟩ = some (.string ⟨#[]⟩) := hz.cell 1 (by simp)
          have z2 : wr.cell? ⟨w.heap.size, 2, none⟩ = some (.slice none 0 0) := hz.cell 2 (by simp)
          have f0 : wr.frozen? ⟨w.heap.size, 0, none⟩ = false := hz.frozen 0
          have f1 : wr.frozen? ⟨w.heap.size, 1, none⟩ = false := hz.frozen 1
          have f2 : wr.frozen? ⟨w.heap.size, 2, none⟩ = false := hz.frozen 2
          clear hz hzw HR HL HRJ HIH HFD HFE
          cases hB : eqS (s.extract x j) idN
          · rw [hB] at hg1
            rw [hB, Bool.false_or] at hA
            rw [hA] at hg2
            clear hB
            go_wp2_with fail
            refine bodyPost_ret (by simp [results, Try.results110, go_sem, z0, z1, z2]; rfl) rfl ?_
            exact HFIN.out _ _ _ _ _ j (-1) _ ((((HXW.out.keep (w' := wr.drewN _) rfl).past (by omega)).past (by omega)).past (by omega)) (((But.other (But.drewN HBW.out _) (Nat.le_refl _) _).other (Nat.le_refl _) _).other (Nat.le_refl _) _) hj (fun _ => ⟨rfl, by rw [HRR.out]⟩) (fun h => by rw [HRR.out] at h; cases h)
          · rw [hB] at hg1
            clear hB
            go_wp2_with fail
            refine bodyPost_ret (by simp [results, Try.results110, go_sem, z0, z1, z2]; rfl) rfl ?_
            exact HFIN.out _ _ _ _ _ j (-1) _ ((((HXW.out.keep (w' := wr.drewN _) rfl).past (by omega)).past (by omega)).past (by omega)) (((But.other (But.drewN HBW.out _) (Nat.le_refl _) _).other (Nat.le_refl _) _).other (Nat.le_refl _) _) hj (fun _ => ⟨rfl, by rw [HRR.out]⟩) (fun h => by rw [HRR.out] at h; cases h)
        have hA1 : eqS (s.extract x j) idN = false := by
          cases e : eqS (s.extract x j) idN
          · rfl
          · rw [e] at hA; exact absurd rfl hA
        have hA2 : eqS (s.extract x j) failN = false := by
          cases e : eqS (s.extract x j) failN
          · rfl
          · rw [e] at hA; simp at hA
        rw [hA1] at hg1 HRJ
        rw [hA2] at hg2 HRJ
        have HWC := (show Hid (∀ wq : World, Calls Try.prog 85 #[.string (s.extract x j)] wq fun e w' => e = .returned (.bool (hasS pw7 (s.extract x j))) ∧ Below wq.heap.size wq w') from fun wq => word85 _ wq)
        have HRN := (show Hid _ from HPW.out (s.extract x j))
        clear hA hA1 hA2 hzw HR HL
        cases hP : hasS pw7 (s.extract x j)
        · rw [hP] at HWC HRJ
          have HFC := (show Hid (∀ wq : World, Below w0.heap.size w0 wq → Calls Try.prog 63 #[(.slice ra rl.length rc), .string (s.extract x j)] wq fun e w' => ∃ i : Int, e = .returned (.int .i64 i) ∧ FdW rl (s.extract x j) i ∧ w' = wq) from fun wq h => HFD.out _ wq h)
          go_wp2_with fail
          refine Calls.mono (HWC.out _) ?_
          rintro e w5 ⟨rfl, hb5⟩
          have hbW : Below wr.heap.size wr w5 := bel_trans (bel_drewN (Below.refl _ _) _) hb5
          have HX5 := (show Hid (Box w5 p 129 [(.slice ra rl.length rc), .string s, .int .i64 (j : Int), .int .i64 (-1)]) from HXW.out.still hbW)
          have HB5 := (show Hid (But p w w5) from HBW.out.still hbW)
          have HZ5 := (show Hid (Box w5 w.heap.size 102 [.string ⟨#[]⟩, .string ⟨#[]⟩, .slice none 0 0]) from HZW.out.still hbW)
          have r0 : w5.cell? ⟨p, 0, none⟩ = some (.slice ra rl.length rc) := HX5.out.cell 0 (by simp)
          clear hb5 hbW HWC
          go_wp2_with fail
          refine Calls.mono (HFC.out _ (But.below' HB5.out HB0.out hp)) ?_
          rintro e w6 ⟨i6, rfl, hf6, rfl⟩
          have HF6 := (show Hid (FdW rl (s.extract x j) i6) from hf6)
          clear hf6 HFC HFE HFD r0 HRN
          cases hN : hasS (nms rl) (s.extract x j)
          · obtain rfl := fdw_no HF6.out hN
            rw [hN] at HRJ
            have HRR := (show Hid (R = (false, x)) from (by
              have := HRJ.out
              simp at this
              exact this.symm))
            have HF := (show Hid _ from fail88 s x j p (-1) (.slice ra rl.length rc) w6 HX5.out)
            clear HRJ hN HF6 hP
            go_wp2_with fail
            refine Calls.mono HF.out ?_
            rintro e w7 ⟨rfl, hb7, hbt7⟩
            have hz := HZ5.out.but hbt7 (by omega)
            have z0 : w7.cell? ⟨w.heap.size, 0, none⟩ = some (.string ⟨#[]⟩) := hz.cell 0 (by simp)
            have z1 : w7.cell? ⟨w.heap.size, 1, none⟩ = some (.string ⟨#[]⟩) := hz.cell 1 (by simp)
            have z2 : w7.cell? ⟨w.heap.size, 2, none⟩ = some (.slice none 0 0) := hz.cell 2 (by simp)
            have f0 : w7.frozen? ⟨w.heap.size, 0, none⟩ = false := hz.frozen 0
            have f1 : w7.frozen? ⟨w.heap.size, 1, none⟩ = false := hz.frozen 1
            have f2 : w7.frozen? ⟨w.heap.size, 2, none⟩ = false := hz.frozen 2
            have HX7 := (show Hid (Box w7 p 129 [(.slice ra rl.length rc), .string s, .int .i64 (j : Int), .int .i64 (x : Int)]) from (by show Box _ _ _ _; simpa using hb7))
            have HB7 := (show Hid (But p w w7) from But.trans HB5.out hbt7)
            clear hb7 hbt7 hz HF HZ5 HB5 HX5
            go_wp2_with fail
            refine bodyPost_ret (by simp [results, Try.results110, go_sem, z0, z1, z2]; rfl) rfl ?_
            exact HFIN.out _ _ _ _ _ j x _ (((HX7.out.past (by omega)).past (by omega)).past (by omega)) (((HB7.out.other (Nat.le_refl _) _).other (Nat.le_refl _) _).other (Nat.le_refl _) _) hj (fun h => by rw [HRR.out] at h; cases h) (fun _ => by rw [HRR.out])
          · obtain ⟨i6, rfl, hi6⟩ := fdw_yes HF6.out hN
            rw [hN] at HRJ
            have HRR := (show Hid (R = (true, sk s j)) from (by
              have := HRJ.out
              simp at this
              exact this.symm))
            have hd6 : (0 : Int) ≤ (i6 : Int) := by omega
            have hz := HZ5.out
            have z0 : w6.cell? ⟨w.heap.size, 0, none⟩ = some (.string ⟨#[]⟩) := hz.cell 0 (by simp)
            have z1 : w6.cell? ⟨w.heap.size, 1, none⟩ = some (.string ⟨#[]⟩) := hz.cell 1 (by simp)
            have z2 : w6.cell? ⟨w.heap.size, 2, none⟩ = some (.slice none 0 0) := hz.cell 2 (by simp)
            have f0 : w6.frozen? ⟨w.heap.size, 0, none⟩ = false := hz.frozen 0
            have f1 : w6.frozen? ⟨w.heap.size, 1, none⟩ = false := hz.frozen 1
            have f2 : w6.frozen? ⟨w.heap.size, 2, none⟩ = false := hz.frozen 2
            clear HF6 HRJ hN hz hi6 hP
            go_wp2_with fail
            refine bodyPost_ret (by simp [results, Try.results110, go_sem, z0, z1, z2]; rfl) rfl ?_
            exact HFIN.out _ _ _ _ _ j (-1) _ (((HX5.out.past (by omega)).past (by omega)).past (by omega)) (((HB5.out.other (Nat.le_refl _) _).other (Nat.le_refl _) _).other (Nat.le_refl _) _) hj (fun _ => ⟨rfl, by rw [HRR.out]⟩) (fun h => by rw [HRR.out] at h; cases h)
        · have hN : hasS (nms rl) (s.extract x j) = false := by
            cases e : hasS (nms rl) (s.extract x j)
            · rfl
            · have := HRN.out e
              rw [hP] at this
              cases this
          rw [hP] at HWC HRJ
          rw [hN] at HRJ
          have HRR := (show Hid (rd s (hasS (nms rl)) f 3 (sk s j) = some R) from (by
            have := HRJ.out
            simp at this
            exact this))
          clear HRJ hN HFD HFE
          go_wp2_with fail
          refine Calls.mono (HWC.out _) ?_
          rintro e w5 ⟨rfl, hb5⟩
          have hbW : Below wr.heap.size wr w5 := bel_trans (bel_drewN (Below.refl _ _) _) hb5
          have HB7 := (show Hid (But p w w5) from HBW.out.still hbW)
          have HZ7 := (show Hid (Box w5 w.heap.size 102 [.string ⟨#[]⟩, .string ⟨#[]⟩, .slice none 0 0]) from HZW.out.still hbW)
          have HCL := (show Hid _ from HIH.out j w5 R (HXW.out.still hbW) hj (But.below' HB7.out HB0.out hp) HRR.out)
          unfold RdA at HCL
          clear hb5 hbW HWC HIH
          go_wp2_with fail
          refine Calls.mono HCL.out ?_
          rintro e w8 ⟨k8, n8, a8, l8, c8, i8, bad8, rfl, hb8, hbt8, hi8, ht8, hf8⟩
          have hz := (HZ7.out.but hbt8 (by omega)).still (bel_alloc w8 (.cells #[.string k8, .string n8, .slice a8 l8 c8] 102))
          have z0 : (w8.alloc (.cells #[.string k8, .string n8, .slice a8 l8 c8] 102)).cell? ⟨w.heap.size, 0, none⟩ = some (.string ⟨#[]⟩) := hz.cell 0 (by simp)
          have z1 : (w8.alloc (.cells #[.string k8, .string n8, .slice a8 l8 c8] 102)).cell? ⟨w.heap.size, 1, none⟩ = some (.string ⟨#[]⟩) := hz.cell 1 (by simp)
          have z2 : (w8.alloc (.cells #[.string k8, .string n8, .slice a8 l8 c8] 102)).cell? ⟨w.heap.size, 2, none⟩ = some (.slice none 0 0) := hz.cell 2 (by simp)
          have f0 : (w8.alloc (.cells #[.string k8, .string n8, .slice a8 l8 c8] 102)).frozen? ⟨w.heap.size, 0, none⟩ = false := hz.frozen 0
          have f1 : (w8.alloc (.cells #[.string k8, .string n8, .slice a8 l8 c8] 102)).frozen? ⟨w.heap.size, 1, none⟩ = false := hz.frozen 1
          have f2 : (w8.alloc (.cells #[.string k8, .string n8, .slice a8 l8 c8] 102)).frozen? ⟨w.heap.size, 2, none⟩ = false := hz.frozen 2
          have HX9 := (show Hid (Box (w8.alloc (.cells #[.string k8, .string n8, .slice a8 l8 c8] 102)) p 129 [(.slice ra rl.length rc), .string s, .int .i64 (i8 : Int), .int .i64 bad8]) from hb8.still (bel_alloc _ _))
          have HB9 := (show Hid (But p w (w8.alloc (.cells #[.string k8, .string n8, .slice a8 l8 c8] 102))) from (But.trans HB7.out hbt8).still (bel_alloc _ _))
          have HTF := (show Hid (_ ∧ _) from ⟨ht8, hf8⟩)
          clear hb8 hbt8 hz ht8 hf8 HCL HZ7 HB7
          go_wp2_with fail
          refine bodyPost_ret (by simp [results, Try.results110, go_sem, z0, z1, z2]; rfl) rfl ?_
          exact HFIN.out _ _ _ _ _ i8 bad8 _ (((HX9.out.past (by omega)).past (by omega)).past (by omega)) (((HB9.out.other (Nat.le_refl _) _).other (Nat.le_refl _) _).other (Nat.le_refl _) _) hi8 HTF.out.1 HTF.out.2
      · have hlt' : ¬ ((j : Int) < (s.size : Int)) := by omega
        clear hgo
        go_wp2_with fail
        go_quiet (fail)
        go_wp2_with fail
        go_quiet (fail)
        have hbw := HL.out.2.1
        have HBW := (show Hid (But p w wr) from But.trans HB2.out HL.out.1)
        have hzw := HZ2.out.but HL.out.1 (by omega)
        have HZW := (show Hid (Box wr w.heap.size 102 [.string ⟨#[]⟩, .string ⟨#[]⟩, .slice none 0 0]) from hzw)
        have HXW := (show Hid (Box wr p 129 [(.slice ra rl.length rc), .string s, .int .i64 (j : Int), .int .i64 (-1)]) from hbw)
        have HRJ := (show Hid ((if (eqS (s.extract x j) idN || (eqS (s.extract x j) failN || hasS (nms rl) (s.extract x j))) = true then some (true, sk s j) else if hasS pw7 (s.extract x j) = true then rd s (hasS (nms rl)) f 3 (sk s j) else some (false, x)) = some R) from (by
          have := HR.out
          rw [HND.out] at this
          exact this))
        have hg1 := eqS_id (s.extract x j)
        have hg2 := eqS_fail (s.extract x j)
        have hww : w.heap.size < wr.heap.size := hzw.lt
        have hpr : p < wr.heap.size := hbw.lt
        clear hbw
        by_cases hA : (eqS (s.extract x j) idN || eqS (s.extract x j) failN) = true
        · have HRR := (show Hid (R = (true, sk s j)) from (by
            have := HRJ.out
            rw [if_pos (by rw [← Bool.or_assoc, hA]; rfl)] at this
            injection this with this
            exact this.symm))
          have hz := hzw
          have z0 : wr.cell? ⟨w.heap.size, 0, none⟩ = some (.string ⟨#[]⟩) := hz.cell 0 (by simp)
          have z1 : wr.cell? ⟨w.heap.size, 1, none⟩ = some (.string ⟨#[]⟩) := hz.cell 1 (by simp)
          have z2 : wr.cell? ⟨w.heap.size, 2, none⟩ = some (.slice none 0 0) := hz.cell 2 (by simp)
          have f0 : wr.frozen? ⟨w.heap.size, 0, none⟩ = false := hz.frozen 0
          have f1 : wr.frozen? ⟨w.heap.size, 1, none⟩ = false := hz.frozen 1
          have f2 : wr.frozen? ⟨w.heap.size, 2, none⟩ = false := hz.frozen 2
          clear hz hzw HR HL HRJ HIH HFD HFE
          cases hB : eqS (s.extract x j) idN
          · rw [hB] at hg1
            rw [hB, Bool.false_or] at hA
            rw [hA] at hg2
            clear hB
            go_wp2_with fail
            refine bodyPost_ret (by simp [results, Try.results110, go_sem, z0, z1, z2]; rfl) rfl ?_
            exact HFIN.out _ _ _ _ _ j (-1) _ ((((HXW.out.keep (w' := wr.drewN _) rfl).past (by omega)).past (by omega)).past (by omega)) (((But.other (But.drewN HBW.out _) (Nat.le_refl _) _).other (Nat.le_refl _) _).other (Nat.le_refl _) _) hj (fun _ => ⟨rfl, by rw [HRR.out]⟩) (fun h => by rw [HRR.out] at h; cases h)
          · rw [hB] at hg1
            clear hB
            go_wp2_with fail
            refine bodyPost_ret (by simp [results, Try.results110, go_sem, z0, z1, z2]; rfl) rfl ?_
            exact HFIN.out _ _ _ _ _ j (-1) _ ((((HXW.out.keep (w' := wr.drewN _) rfl).past (by omega)).past (by omega)).past (by omega)) (((But.other (But.drewN HBW.out _) (Nat.le_refl _) _).other (Nat.le_refl _) _).other (Nat.le_refl _) _) hj (fun _ => ⟨rfl, by rw [HRR.out]⟩) (fun h => by rw [HRR.out] at h; cases h)
        have hA1 : eqS (s.extract x j) idN = false := by
          cases e : eqS (s.extract x j) idN
          · rfl
          · rw [e] at hA; exact absurd rfl hA
        have hA2 : eqS (s.extract x j) failN = false := by
          cases e : eqS (s.extract x j) failN
          · rfl
          · rw [e] at hA; simp at hA
        rw [hA1] at hg1 HRJ
        rw [hA2] at hg2 HRJ
        have HWC := (show Hid (∀ wq : World, Calls Try.prog 85 #[.string (s.extract x j)] wq fun e w' => e = .returned (.bool (hasS pw7 (s.extract x j))) ∧ Below wq.heap.size wq w') from fun wq => word85 _ wq)
        have HRN := (show Hid _ from HPW.out (s.extract x j))
        clear hA hA1 hA2 hzw HR HL
        cases hP : hasS pw7 (s.extract x j)
        · rw [hP] at HWC HRJ
          have HFC := (show Hid (∀ wq : World, Below w0.heap.size w0 wq → Calls Try.prog 63 #[(.slice ra rl.length rc), .string (s.extract x j)] wq fun e w' => ∃ i : Int, e = .returned (.int .i64 i) ∧ FdW rl (s.extract x j) i ∧ w' = wq) from fun wq h => HFD.out _ wq h)
          go_wp2_with fail
          refine Calls.mono (HWC.out _) ?_
          rintro e w5 ⟨rfl, hb5⟩
          have hbW : Below wr.heap.size wr w5 := bel_trans (bel_drewN (Below.refl _ _) _) hb5
          have HX5 := (show Hid (Box w5 p 129 [(.slice ra rl.length rc), .string s, .int .i64 (j : Int), .int .i64 (-1)]) from HXW.out.still hbW)
          have HB5 := (show Hid (But p w w5) from HBW.out.still hbW)
          have HZ5 := (show Hid (Box w5 w.heap.size 102 [.string ⟨#[]⟩, .string ⟨#[]⟩, .slice none 0 0]) from HZW.out.still hbW)
          have r0 : w5.cell? ⟨p, 0, none⟩ = some (.slice ra rl.length rc) := HX5.out.cell 0 (by simp)
          clear hb5 hbW HWC
          go_wp2_with fail
          refine Calls.mono (HFC.out _ (But.below' HB5.out HB0.out hp)) ?_
          rintro e w6 ⟨i6, rfl, hf6, rfl⟩
          have HF6 := (show Hid (FdW rl (s.extract x j) i6) from hf6)
          clear hf6 HFC HFE HFD r0 HRN
          cases hN : hasS (nms rl) (s.extract x j)
          · obtain rfl := fdw_no HF6.out hN
            rw [hN] at HRJ
            have HRR := (show Hid (R = (false, x)) from (by
              have := HRJ.out
              simp at this
              exact this.symm))
            have HF := (show Hid _ from fail88 s x j p (-1) (.slice ra rl.length rc) w6 HX5.out)
            clear HRJ hN HF6 hP
            go_wp2_with fail
            refine Calls.mono HF.out ?_
            rintro e w7 ⟨rfl, hb7, hbt7⟩
            have hz := HZ5.out.but hbt7 (by omega)
            have z0 : w7.cell? ⟨w.heap.size, 0, none⟩ = some (.string ⟨#[]⟩) := hz.cell 0 (by simp)
            have z1 : w7.cell? ⟨w.heap.size, 1, none⟩ = some (.string ⟨#[]⟩) := hz.cell 1 (by simp)
            have z2 : w7.cell? ⟨w.heap.size, 2, none⟩ = some (.slice none 0 0) := hz.cell 2 (by simp)
            have f0 : w7.frozen? ⟨w.heap.size, 0, none⟩ = false := hz.frozen 0
            have f1 : w7.frozen? ⟨w.heap.size, 1, none⟩ = false := hz.frozen 1
            have f2 : w7.frozen? ⟨w.heap.size, 2, none⟩ = false := hz.frozen 2
            have HX7 := (show Hid (Box w7 p 129 [(.slice ra rl.length rc), .string s, .int .i64 (j : Int), .int .i64 (x : Int)]) from (by show Box _ _ _ _; simpa using hb7))
            have HB7 := (show Hid (But p w w7) from But.trans HB5.out hbt7)
            clear hb7 hbt7 hz HF HZ5 HB5 HX5
            go_wp2_with fail
            refine bodyPost_ret (by simp [results, Try.results110, go_sem, z0, z1, z2]; rfl) rfl ?_
            exact HFIN.out _ _ _ _ _ j x _ (((HX7.out.past (by omega)).past (by omega)).past (by omega)) (((HB7.out.other (Nat.le_refl _) _).other (Nat.le_refl _) _).other (Nat.le_refl _) _) hj (fun h => by rw [HRR.out] at h; cases h) (fun _ => by rw [HRR.out])
          · obtain ⟨i6, rfl, hi6⟩ := fdw_yes HF6.out hN
            rw [hN] at HRJ
            have HRR := (show Hid (R = (true, sk s j)) from (by
              have := HRJ.out
              simp at this
              exact this.symm))
            have hd6 : (0 : Int) ≤ (i6 : Int) := by omega
            have hz := HZ5.out
            have z0 : w6.cell? ⟨w.heap.size, 0, none⟩ = some (.string ⟨#[]⟩) := hz.cell 0 (by simp)
            have z1 : w6.cell? ⟨w.heap.size, 1, none⟩ = some (.string ⟨#[]⟩) := hz.cell 1 (by simp)
            have z2 : w6.cell? ⟨w.heap.size, 2, none⟩ = some (.slice none 0 0) := hz.cell 2 (by simp)
            have f0 : w6.frozen? ⟨w.heap.size, 0, none⟩ = false := hz.frozen 0
            have f1 : w6.frozen? ⟨w.heap.size, 1, none⟩ = false := hz.frozen 1
            have f2 : w6.frozen? ⟨w.heap.size, 2, none⟩ = false := hz.frozen 2
            clear HF6 HRJ hN hz hi6 hP
            go_wp2_with fail
            refine bodyPost_ret (by simp [results, Try.results110, go_sem, z0, z1, z2]; rfl) rfl ?_
            exact HFIN.out _ _ _ _ _ j (-1) _ (((HX5.out.past (by omega)).past (by omega)).past (by omega)) (((HB5.out.other (Nat.le_refl _) _).other (Nat.le_refl _) _).other (Nat.le_refl _) _) hj (fun _ => ⟨rfl, by rw [HRR.out]⟩) (fun h => by rw [HRR.out] at h; cases h)
        · have hN : hasS (nms rl) (s.extract x j) = false := by
            cases e : hasS (nms rl) (s.extract x j)
            · rfl
            · have := HRN.out e
              rw [hP] at this
              cases this
          rw [hP] at HWC HRJ
          rw [hN] at HRJ
          have HRR := (show Hid (rd s (hasS (nms rl)) f 3 (sk s j) = some R) from (by
            have := HRJ.out
            simp at this
            exact this))
          clear HRJ hN HFD HFE
          go_wp2_with fail
          refine Calls.mono (HWC.out _) ?_
          rintro e w5 ⟨rfl, hb5⟩
          have hbW : Below wr.heap.size wr w5 := bel_trans (bel_drewN (Below.refl _ _) _) hb5
          have HB7 := (show Hid (But p w w5) from HBW.out.still hbW)
          have HZ7 := (show Hid (Box w5 w.heap.size 102 [.string ⟨#[]⟩, .string ⟨#[]⟩, .slice none 0 0]) from HZW.out.still hbW)
          have HCL := (show Hid _ from HIH.out j w5 R (HXW.out.still hbW) hj (But.below' HB7.out HB0.out hp) HRR.out)
          unfold RdA at HCL
          clear hb5 hbW HWC HIH
          go_wp2_with fail
          refine Calls.mono HCL.out ?_
          rintro e w8 ⟨k8, n8, a8, l8, c8, i8, bad8, rfl, hb8, hbt8, hi8, ht8, hf8⟩
          have hz := (HZ7.out.but hbt8 (by omega)).still (bel_alloc w8 (.cells #[.string k8, .string n8, .slice a8 l8 c8] 102))
          have z0 : (w8.alloc (.cells #[.string k8, .string n8, .slice a8 l8 c8] 102)).cell? ⟨w.heap.size, 0, none⟩ = some (.string ⟨#[]⟩) := hz.cell 0 (by simp)
          have z1 : (w8.alloc (.cells #[.string k8, .string n8, .slice a8 l8 c8] 102)).cell? ⟨w.heap.size, 1, none⟩ = some (.string ⟨#[]⟩) := hz.cell 1 (by simp)
          have z2 : (w8.alloc (.cells #[.string k8, .string n8, .slice a8 l8 c8] 102)).cell? ⟨w.heap.size, 2, none⟩ = some (.slice none 0 0) := hz.cell 2 (by simp)
          have f0 : (w8.alloc (.cells #[.string k8, .string n8, .slice a8 l8 c8] 102)).frozen? ⟨w.heap.size, 0, none⟩ = false := hz.frozen 0
          have f1 : (w8.alloc (.cells #[.string k8, .string n8, .slice a8 l8 c8] 102)).frozen? ⟨w.heap.size, 1, none⟩ = false := hz.frozen 1
          have f2 : (w8.alloc (.cells #[.string k8, .string n8, .slice a8 l8 c8] 102)).frozen? ⟨w.heap.size, 2, none⟩ = false := hz.frozen 2
          have HX9 := (show Hid (Box (w8.alloc (.cells #[.string k8, .string n8, .slice a8 l8 c8] 102)) p 129 [(.slice ra rl.length rc), .string s, .int .i64 (i8 : Int), .int .i64 bad8]) from hb8.still (bel_alloc _ _))
          have HB9 := (show Hid (But p w (w8.alloc (.cells #[.string k8, .string n8, .slice a8 l8 c8] 102))) from (But.trans HB7.out hbt8).still (bel_alloc _ _))
          have HTF := (show Hid (_ ∧ _) from ⟨ht8, hf8⟩)
          clear hb8 hbt8 hz ht8 hf8 HCL HZ7 HB7
          go_wp2_with fail
          refine bodyPost_ret (by simp [results, Try.results110, go_sem, z0, z1, z2]; rfl) rfl ?_
          exact HFIN.out _ _ _ _ _ i8 bad8 _ (((HX9.out.past (by omega)).past (by omega)).past (by omega)) (((HB9.out.other (Nat.le_refl _) _).other (Nat.le_refl _) _).other (Nat.le_refl _) _) hi8 HTF.out.1 HTF.out.2
end Go.Proofs.Ytkkhdkfmaopmfaa

/-! The program's reader of plans: a whole text. -/
namespace Go.Proofs.Ytkkhdkfmaopmfaa
open Go.RowKit Go.Deep Go.Lib Go.ChangeShapes Go.WideShapes
set_option linter.unusedVariables false
set_option maxRecDepth 100000
set_option linter.unusedSimpArgs false

theorem rls_of {rl : List Rw} (h : rlsB rl = true) {x : ByteArray} (hx : hasS (nms rl) x = true) : nmB x = true ∧ pwB x = false := by
  unfold rlsB at h
  rw [Bool.and_eq_true, Bool.and_eq_true] at h
  have hm := hasS_mem hx
  unfold nms at hm
  rw [List.mem_map] at hm
  obtain ⟨r, h1, rfl⟩ := hm
  have hr := List.all_eq_true.1 h.2.1 r h1
  unfold rulB at hr
  rw [Bool.and_eq_true, Bool.and_eq_true] at hr
  refine ⟨hr.1, ?_⟩
  cases e : pwB r.name
  · rfl
  · rw [e] at hr
    cases hr.2.1
theorem rls_nm {rl : List Rw} (h : rlsB rl = true) (x : ByteArray) (hx : hasS (nms rl) x = true) : 0 < x.size := by
  obtain ⟨h1, _⟩ := nmB_iff.1 (rls_of h hx).1
  omega
theorem rls_pw {rl : List Rw} (h : rlsB rl = true) (x : ByteArray) (hx : hasS (nms rl) x = true) : hasS pw7 x = false := (pw_no (rls_of h hx).2).2.2
theorem tieP {w0 : World} {p : Nat} {s : ByteArray} {rl : List Rw} {ra : Option Addr} {rc : Nat} (hs : s.size ≤ 300) (hp : w0.heap.size ≤ p) (hrl : RLy w0 rl (.slice ra rl.length rc)) :
    ∀ f, f ≤ 100000 → ∀ g, g ≤ f → PdC w0 p (.slice ra rl.length rc) s (hasS (nms rl)) 118 0 g ∧ PdC w0 p (.slice ra rl.length rc) s (hasS (nms rl)) 115 1 g ∧ PdC w0 p (.slice ra rl.length rc) s (hasS (nms rl)) 105 2 g ∧ PdC w0 p (.slice ra rl.length rc) s (hasS (nms rl)) 120 3 g := by
  intro f
  induction f with
  | zero =>
    intro _ g hg
    obtain rfl : g = 0 := by omega
    refine ⟨?_, ?_, ?_, ?_⟩ <;> (intro i w R _ _ _ hrd; simp only [rd] at hrd; cases hrd)
  | succ f ih =>
    intro hf g hg
    have ih' := ih (by omega)
    by_cases e : g ≤ f
    · exact ih' g e
    · obtain rfl : g = f + 1 := by omega
      refine ⟨prim118 hs hp hrl (ih' f (Nat.le_refl _)).2.2.2, read115 hs hp (by omega) (fun g hg => (ih' g hg).1), read105 hs hp (by omega) (fun g hg => (ih' g hg).2.1), bracketed120 hs hp (ih' f (Nat.le_refl _)).2.2.1⟩
theorem fu_le {n : Nat} (h : n ≤ 300) : fu 2 n ≤ 100000 := by
  unfold fu
  simp only
  omega
set_option maxHeartbeats 1600000 in
theorem whole92 {w0 : World} {p : Nat} {s : ByteArray} {rl : List Rw} {ra : Option Addr} {rc : Nat} (hs : s.size ≤ 300) (hp : w0.heap.size ≤ p) (hrl : RLy w0 rl (.slice ra rl.length rc)) (hok : rlsB rl = true) (w : World) (hbx : PB w p s 0 (.slice ra rl.length rc)) (hb0 : Below w0.heap.size w0 w) :
    Calls Try.prog 92 #[.pointer (some ⟨p, 0, none⟩)] w fun e w' => But p w w' ∧ (whR s (hasS (nms rl)) = none → ∃ (T : TypeId) (u : Value), e = .returned (.iface T u)) ∧ (∀ j, whR s (hasS (nms rl)) = some j → e = .panicked [flt j]) := by
  have HB := (show Hid _ from blanks104 s 0 p _ w hbx hs (Nat.zero_le _))
  have hx : sk s 0 ≤ s.size := past_size (Nat.zero_le _)
  obtain ⟨b, j, hr, hj1, hj2, _⟩ := rd_some s (hasS (nms rl)) (rls_nm hok) (fu 2 s.size) 2 (sk s 0) hx (by unfold fu; simp only; omega)
  have HW := (show Hid (whR s (hasS (nms rl)) = if b = true then (if j < s.size then some j else none) else some j) from (show whR s (hasS (nms rl)) = _ by unfold whR; rw [hr]; cases b <;> rfl))
  have HPL := (show Hid _ from (tieP hs hp hrl (fu 2 s.size) (fu_le hs) (fu 2 s.size) (Nat.le_refl _)).2.2.1)
  have HB0 := (show Hid _ from hb0)
  have HRD := (show Hid _ from hr)
  clear hbx hb0 hr hrl
  go_enter Try.func92, Try.ntmps92
  go_wp2_with fail
  refine Calls.mono HB.out ?_
  rintro e w1 ⟨rfl, hb1, ht1⟩
  have HCL := (show Hid _ from HPL.out (sk s 0) w1 (b, j) hb1 hx (But.below' ht1 HB0.out hp) HRD.out)
  unfold PdA at HCL
  have HT1 := (show Hid (But p w w1) from ht1)
  clear hb1 ht1 HB HPL HRD
  go_wp2_with fail
  refine Calls.mono HCL.out ?_
  rintro e w2 ⟨ht2, h2, h2'⟩
  have HT2 := (show Hid (But p w w2) from But.trans HT1.out ht2)
  clear ht2 HCL HT1
  cases b with
  | false =>
    obtain rfl := h2' (by first | rfl | trivial)
    have HE := (show Hid (whR s (hasS (nms rl)) = some j) from HW.out)
    clear h2 h2' HW
    go_wp2_with fail
    exact ⟨rfl, HT2.out, fun h => (by rw [HE.out] at h; cases h), fun k h => (by rw [HE.out] at h; injection h with h; rw [h])⟩
  | true =>
    obtain ⟨T2, u2, rfl, hb2, hj⟩ := h2 (by first | rfl | trivial)
    have x0 : w2.cell? ⟨p, 0, none⟩ = some (.string s) := hb2.cell 0 (by simp)
    have x1 : w2.cell? ⟨p, 1, none⟩ = some (.int .i64 (j : Int)) := hb2.cell 1 (by simp)
    have HX2 := (show Hid (PB w2 p s j (.slice ra rl.length rc)) from hb2)
    clear h2 h2' hb2
    have HW2 := (show Hid (whR s (hasS (nms rl)) = if j < s.size then some j else none) from HW.out)
    clear HW
    by_cases hlt : j < s.size
    · have HE := (show Hid (whR s (hasS (nms rl)) = some j) from HW2.out.trans (if_pos hlt))
      have hlt' : (j : Int) < (s.size : Int) := by omega
      have HF := (show Hid (∀ n : Nat, Calls Try.prog 106 #[.pointer (some ⟨p, 0, none⟩)] (w2.drewN n) fun e w' => e = .returned (.agg #[.int .i64 2, .int .i64 (j : Int)]) ∧ Below (w2.drewN n).heap.size (w2.drewN n) w') from fun n => fault106 s j p _ (w2.drewN n) (Box.keep HX2.out rfl))
      clear HW2
      go_wp2_with fail
      go_quiet (fail)
      go_wp2_with fail
      refine Calls.mono (HF.out _) ?_
      rintro e w3 ⟨rfl, hb3⟩
      have HT3 := (show Hid (But p w w3) from But.still (But.drewN HT2.out _) hb3)
      clear hb3 HF
      go_wp2_with fail
      exact ⟨rfl, HT3.out, fun h => (by rw [HE.out] at h; cases h), fun k h => (by rw [HE.out] at h; injection h with h; rw [h])⟩
    · have HE := (show Hid (whR s (hasS (nms rl)) = none) from HW2.out.trans (if_neg hlt))
      have hlt' : ¬ ((j : Int) < (s.size : Int)) := by omega
      clear HW2
      go_wp2_with fail
      go_quiet (fail)
      go_wp2_with fail
      go_ret
      exact ⟨But.drewN HT2.out _, fun _ => ⟨_, _, rfl⟩, fun k h => (by rw [HE.out] at h; cases h)⟩
end Go.Proofs.Ytkkhdkfmaopmfaa

/-! The program: readPlan and PlanOK. -/
namespace Go.Proofs.Ytkkhdkfmaopmfaa
open Go.RowKit Go.Deep Go.Lib Go.ChangeShapes Go.WideShapes
set_option linter.unusedVariables false
set_option maxRecDepth 100000
set_option linter.unusedSimpArgs false

set_option maxHeartbeats 800000 in
theorem catch89_panicking (p0 p1 p2 : Nat) (c a : Int) (older : List PanicEntry) (w : World) (u0 u1 u2 : Value)
    (h0 : w.cell? ⟨p0, 0, none⟩ = some u0) (h1 : w.cell? ⟨p1, 0, none⟩ = some u1) (h2 : w.cell? ⟨p2, 0, none⟩ = some u2)
    (z0 : w.frozen? ⟨p0, 0, none⟩ = false) (z1 : w.frozen? ⟨p1, 0, none⟩ = false) (z2 : w.frozen? ⟨p2, 0, none⟩ = false) (n01 : p0 ≠ p1) (n02 : p0 ≠ p2) (n12 : p1 ≠ p2) :
    CallsD Try.prog 89 #[.pointer (some ⟨p0, 0, none⟩), .pointer (some ⟨p1, 0, none⟩), .pointer (some ⟨p2, 0, none⟩)] (.panicking ({ v := .iface 133 (.agg #[.int .i64 c, .int .i64 a]), recovered := false } :: older)) w fun e u' w' =>
      e = .returned (.tuple #[]) ∧ u' = .panicking ({ v := .iface 133 (.agg #[.int .i64 c, .int .i64 a]), recovered := true } :: older) ∧
        ∃ w1, Below w.heap.size w w1 ∧ w' = (((w1.setCell ⟨p0, 0, none⟩ .nilIface).setCell ⟨p1, 0, none⟩ (.int .i64 c)).setCell ⟨p2, 0, none⟩ (.int .i64 a)).drew := by
  have q0 := lt_of_cell h0
  have q1 := lt_of_cell h1
  have q2 := lt_of_cell h2
  refine callsD_of_wpS Try.func89 rfl fun c₀ cs hu => ?_
  apply wpS_seq
  apply wpS_region
  simp [wpOpsS, go_sem, recoverD, hu, Try.ntmps89, Exit.thenS]
  refine wpS_of_wp ?_
  go_wp2_with fail
  refine Calls.mono (faultIn_any c a w) ?_
  rintro e w1 ⟨rfl, hb1⟩
  have hb2 : Below w.heap.size w (w1.alloc (.cells #[.int .i64 c, .int .i64 a] 133)) := bel_trans hb1 (bel_alloc _ _)
  have x0 : (w1.alloc (.cells #[.int .i64 c, .int .i64 a] 133)).cell? ⟨w1.heap.size, 0, none⟩ = some (.int .i64 c) := (Box.new w1 133 [.int .i64 c, .int .i64 a]).cell 0 (by simp)
  have x1 : (w1.alloc (.cells #[.int .i64 c, .int .i64 a] 133)).cell? ⟨w1.heap.size, 1, none⟩ = some (.int .i64 a) := (Box.new w1 133 [.int .i64 c, .int .i64 a]).cell 1 (by simp)
  rw [← hb2.cell (lt_of_cell h0)] at h0
  rw [← hb2.cell (lt_of_cell h1)] at h1
  rw [← hb2.cell (lt_of_cell h2)] at h2
  rw [← hb2.frozen (by assumption)] at z0
  rw [← hb2.frozen (by assumption)] at z1
  rw [← hb2.frozen (by assumption)] at z2
  have HB2 := (show Hid _ from hb2)
  have m := hb1.size
  have k0 : p0 ≠ w1.heap.size := by omega
  have k1 : p1 ≠ w1.heap.size := by omega
  have k2 : p2 ≠ w1.heap.size := by omega
  have n10 := Ne.symm n01
  have n20 := Ne.symm n02
  have n21 := Ne.symm n12
  have k0' := Ne.symm k0
  have k1' := Ne.symm k1
  have k2' := Ne.symm k2
  clear hb1 hb2 m
  cases c₀
  go_wp2_with fail
  go_region
  all_goals
    go_wp2_with fail
  all_goals
    exact ⟨rfl, _, rfl, _, by simp [results, Try.results89], rfl, rfl, _, HB2.out, rfl⟩
set_option maxHeartbeats 400000 in
theorem catch89_idle (p0 p1 p2 : Nat) (w : World) :
    CallsD Try.prog 89 #[.pointer (some ⟨p0, 0, none⟩), .pointer (some ⟨p1, 0, none⟩), .pointer (some ⟨p2, 0, none⟩)] .returning w fun e u' w' =>
      e = .returned (.tuple #[]) ∧ u' = .returning ∧ w' = w := by
  refine callsD_of_wpS Try.func89 rfl fun c₀ cs hu => ?_
  apply wpS_seq
  apply wpS_region
  simp [wpOpsS, go_sem, recoverD, hu, Try.ntmps89, Exit.thenS]
  refine wpS_of_wp ?_
  go_wp2_with fail
  cases c₀
  simp_all [bodyPostS, results, Try.results89]
/-- What readPlan lays ahead of its reading. -/
structure RB3 (w w' : World) (u0 u1 u2 : Value) : Prop where
  bel : Below w.heap.size w w'
  sz : w.heap.size + 3 ≤ w'.heap.size
  p0 : Box w' w.heap.size 107 [u0]
  p1 : Box w' (w.heap.size + 1) 3 [u1]
  p2 : Box w' (w.heap.size + 1 + 1) 3 [u2]
theorem RB3.still {w w' w'' : World} {u0 u1 u2 : Value} (h : RB3 w w' u0 u1 u2) (hb : Below w'.heap.size w' w'') : RB3 w w'' u0 u1 u2 := ⟨bel_trans h.bel hb, Nat.le_trans h.sz hb.size, h.p0.still hb, h.p1.still hb, h.p2.still hb⟩
theorem RB3.drew {w w' : World} {u0 u1 u2 : Value} (h : RB3 w w' u0 u1 u2) : RB3 w w'.drew u0 u1 u2 := ⟨bel_drewN h.bel 1, h.sz, h.p0.keep rfl, h.p1.keep rfl, h.p2.keep rfl⟩
abbrev W3 (w : World) : World := ((w.alloc (.cells #[.nilIface] 107)).alloc (.cells #[.int .i64 0] 3)).alloc (.cells #[.int .i64 0] 3)
theorem RB3.new (w : World) (u0 u1 u2 : Value) : RB3 w (((w.alloc (.cells #[u0] 107)).alloc (.cells #[u1] 3)).alloc (.cells #[u2] 3)) u0 u1 u2 := by
  have h0 := ((Box.new w 107 [u0]).still (bel_alloc _ (.cells #[u1] 3))).still (bel_alloc _ (.cells #[u2] 3))
  have h1 := (Box.new (w.alloc (.cells #[u0] 107)) 3 [u1]).still (bel_alloc _ (.cells #[u2] 3))
  have h2 := Box.new ((w.alloc (.cells #[u0] 107)).alloc (.cells #[u1] 3)) 3 [u2]
  simp only [World.size_alloc] at h1 h2
  exact ⟨bel_trans (bel_trans (bel_alloc _ _) (bel_alloc _ _)) (bel_alloc _ _), by simp, h0, h1, h2⟩
theorem RB3.put {w w' : World} {u0 u1 u2 : Value} (h : RB3 w w' u0 u1 u2) (v0 v1 v2 : Value) : RB3 w (((w'.setCell ⟨w.heap.size, 0, none⟩ v0).setCell ⟨w.heap.size + 1, 0, none⟩ v1).setCell ⟨w.heap.size + 1 + 1, 0, none⟩ v2) v0 v1 v2 := by
  refine ⟨?_, ?_, ?_, ?_, ?_⟩
  · exact ((h.bel.setCell (by show w.heap.size ≤ w.heap.size; omega) _).setCell (by show w.heap.size ≤ w.heap.size + 1; omega) _).setCell (by show w.heap.size ≤ w.heap.size + 1 + 1; omega) _
  · have := h.sz
    simpa using this
  · exact ((h.p0.set 0 v0).past (by omega)).past (by omega)
  · exact ((h.p1.past (by omega)).set 0 v1).past (by omega)
  · exact ((h.p2.past (by omega)).past (by omega)).set 0 v2
theorem bel_trans' {w a b : World} {p : Nat} (h : Below w.heap.size w a) (hb : But p a b) (hp : w.heap.size ≤ p) : Below w.heap.size w b := But.below' hb h hp
/-- What readPlan leaves. -/
def RpA (rl : List Rw) (s : ByteArray) (w : World) (e : Ending) (w' : World) : Prop :=
  Below w.heap.size w w' ∧ ∃ v : Value, e = .returned (.tuple #[v, .int .i64 (pkR rl s).1, .int .i64 (pkR rl s).2])
theorem pk_bad {rl : List Rw} {s : ByteArray} (h : (decide (s.size ≤ 300) && rlsB rl) = false) : pkR rl s = (1, 0) := by
  unfold pkR
  rw [h]
  rfl
theorem pk_none {rl : List Rw} {s : ByteArray} (h1 : s.size ≤ 300) (h2 : rlsB rl = true) (h : whR s (hasS (nms rl)) = none) : pkR rl s = (0, 0) := by
  unfold pkR
  rw [if_pos (by rw [decide_eq_true h1, h2]; rfl), h]
theorem pk_some {rl : List Rw} {s : ByteArray} {j : Nat} (h1 : s.size ≤ 300) (h2 : rlsB rl = true) (h : whR s (hasS (nms rl)) = some j) : pkR rl s = (2, (j : Int)) := by
  unfold pkR
  rw [if_pos (by rw [decide_eq_true h1, h2]; rfl), h]
theorem make_func66 (fn : Fn) (first cap : Array Value) (w : World) : (Instr.makeFunc fn first cap).run Try.prog w = .ok (.func fn first cap) w := rfl
set_option maxHeartbeats 6400000 in
theorem read66 (rl : List Rw) (s : ByteArray) (v : Value) (w : World) (h : RLy w rl v) (hs : s.size ≤ maxLen) :
    Calls Try.prog 66 #[v, .string s] w (RpA rl s w) := by
  have hmf := make_func66
  obtain ⟨ra, rc, rfl⟩ := h.form
  unfold maxLen at hs
  have hX0 := RB3.new w .nilIface (.int .i64 0) (.int .i64 0)
  have HRL := (show Hid (RLy w rl (.slice ra rl.length rc)) from h)
  have HR := (show Hid _ from rules91 rl _ (W3 w) (h.still hX0.bel))
  have HX0 := (show Hid _ from hX0)
  have HFIN := (show Hid (∀ (u0 : Value) (w' : World), RB3 w w' u0 (.int .i64 (pkR rl s).1) (.int .i64 (pkR rl s).2) → RpA rl s w (.returned (.tuple #[u0, .int .i64 (pkR rl s).1, .int .i64 (pkR rl s).2])) w') from fun u0 w' h => ⟨h.bel, u0, rfl⟩)
  clear h hX0
  by_cases h3 : s.size ≤ 300
  case neg =>
    have hpk : pkR rl s = (1, 0) := pk_bad (by rw [decide_eq_false h3]; rfl)
    rw [hpk] at HFIN
    have h3' : (300 : Int) < (s.size : Int) := by omega
    clear HR
    go_enter_defers Try.func66, Try.ntmps66
    go_wp2_with fail
    have hX := RB3.new w .nilIface (.int .i64 1) (.int .i64 0)
    have r0 := hX.p0.cell 0 (by simp)
    have r1 := hX.p1.cell 0 (by simp)
    have r2 := hX.p2.cell 0 (by simp)
    simp only [List.getD_cons_zero] at r0 r1 r2
    refine leaves_cons (f := 89) (args := #[.pointer (some ⟨w.heap.size, 0, none⟩), .pointer (some ⟨w.heap.size + 1, 0, none⟩), .pointer (some ⟨w.heap.size + 1 + 1, 0, none⟩)]) (by simp) (by simp [go_sem]) ?_
    refine (catch89_idle _ _ _ _).mono ?_
    rintro e u' w'' ⟨rfl, rfl, rfl⟩
    exact ⟨.tuple #[.nilIface, .int .i64 1, .int .i64 0], by simp [results, Try.results66, go_sem, r0, r1, r2], HFIN.out _ _ hX⟩
  case pos =>
    have h3' : ¬ ((300 : Int) < (s.size : Int)) := by omega
    cases hok : rlsB rl
    · have hpk : pkR rl s = (1, 0) := pk_bad (by rw [hok, Bool.and_false])
      rw [hpk] at HFIN
      rw [hok] at HR
      go_enter_defers Try.func66, Try.ntmps66
      go_wp2_with fail
      refine Calls.mono HR.out ?_
      rintro e w1 ⟨rfl, hb1⟩
      have HX1 := (show Hid _ from RB3.still HX0.out hb1)
      clear hb1 HR
      have c0 := HX1.out.p0.cell 0 (by simp)
      have f0 := HX1.out.p0.frozen 0
      have c1 := (HX1.out.p1.past (q := w.heap.size) (o := 0) (u := Value.nilIface) (by omega)).cell 0 (by simp)
      have f1 := (HX1.out.p1.past (q := w.heap.size) (o := 0) (u := Value.nilIface) (by omega)).frozen 0
      have c2 := ((HX1.out.p2.past (q := w.heap.size) (o := 0) (u := Value.nilIface) (by omega)).past (q := w.heap.size + 1) (o := 0) (u := Value.int .i64 1) (by omega)).cell 0 (by simp)
      have f2 := ((HX1.out.p2.past (q := w.heap.size) (o := 0) (u := Value.nilIface) (by omega)).past (q := w.heap.size + 1) (o := 0) (u := Value.int .i64 1) (by omega)).frozen 0
      simp only [List.getD_cons_zero] at c0 c1 c2
      go_wp2_with fail
      have hX := HX1.out.put (Value.nilIface) (Value.int .i64 1) (Value.int .i64 0)
      have r0 := hX.p0.cell 0 (by simp)
      have r1 := hX.p1.cell 0 (by simp)
      have r2 := hX.p2.cell 0 (by simp)
      simp only [List.getD_cons_zero] at r0 r1 r2
      refine leaves_cons (f := 89) (args := #[.pointer (some ⟨w.heap.size, 0, none⟩), .pointer (some ⟨w.heap.size + 1, 0, none⟩), .pointer (some ⟨w.heap.size + 1 + 1, 0, none⟩)]) (by simp) (by simp [go_sem]) ?_
      refine (catch89_idle _ _ _ _).mono ?_
      rintro e u' w'' ⟨rfl, rfl, rfl⟩
      exact ⟨.tuple #[.nilIface, .int .i64 1, .int .i64 0], by simp [results, Try.results66, go_sem, r0, r1, r2], HFIN.out _ _ hX⟩
    · rw [hok] at HR
      go_enter_defers Try.func66, Try.ntmps66
      go_wp2_with fail
      refine Calls.mono HR.out ?_
      rintro e w1 ⟨rfl, hb1⟩
      have hX1 := RB3.still HX0.out hb1
      have hX2 := hX1.still (bel_alloc w1 (.cells #[.string s, .int .i64 0, .slice ra rl.length rc] 139))
      have hsz := hX1.sz
      have HWH := (show Hid _ from whole92 (w0 := w) (p := w1.heap.size) h3 (by omega) HRL.out hok (w1.alloc (.cells #[.string s, .int .i64 0, .slice ra rl.length rc] 139)) (Box.new w1 139 [.string s, .int .i64 0, .slice ra rl.length rc]) hX2.bel)
      have HX2 := (show Hid _ from hX2)
      clear hb1 HR hX1 hX2 HX0
      go_wp2_with fail
      refine Calls.mono HWH.out ?_
      rintro e w3 ⟨ht3, hn3, hs3⟩
      have hX3 : RB3 w w3 .nilIface (.int .i64 0) (.int .i64 0) := ⟨bel_trans' HX2.out.bel ht3 (by omega), Nat.le_trans HX2.out.sz ht3.size, HX2.out.p0.but ht3 (by omega), HX2.out.p1.but ht3 (by omega), HX2.out.p2.but ht3 (by omega)⟩
      have HX3 := (show Hid _ from hX3)
      clear ht3 HWH HX2 hX3
      cases hwh : whR s (hasS (nms rl)) with
      | none =>
        obtain ⟨T, u, rfl⟩ := hn3 hwh
        rw [pk_none h3 hok hwh] at HFIN
        clear hn3 hs3 hwh
        have c0 := HX3.out.p0.cell 0 (by simp)
        have f0 := HX3.out.p0.frozen 0
        have c1 := (HX3.out.p1.past (q := w.heap.size) (o := 0) (u := Value.iface T u) (by omega)).cell 0 (by simp)
        have f1 := (HX3.out.p1.past (q := w.heap.size) (o := 0) (u := Value.iface T u) (by omega)).frozen 0
        have c2 := ((HX3.out.p2.past (q := w.heap.size) (o := 0) (u := Value.iface T u) (by omega)).past (q := w.heap.size + 1) (o := 0) (u := Value.int .i64 0) (by omega)).cell 0 (by simp)
        have f2 := ((HX3.out.p2.past (q := w.heap.size) (o := 0) (u := Value.iface T u) (by omega)).past (q := w.heap.size + 1) (o := 0) (u := Value.int .i64 0) (by omega)).frozen 0
        simp only [List.getD_cons_zero] at c0 c1 c2
        go_wp2_with fail
        have hX := HX3.out.put (Value.iface T u) (Value.int .i64 0) (Value.int .i64 0)
        have r0 := hX.p0.cell 0 (by simp)
        have r1 := hX.p1.cell 0 (by simp)
        have r2 := hX.p2.cell 0 (by simp)
        simp only [List.getD_cons_zero] at r0 r1 r2
        refine leaves_cons (f := 89) (args := #[.pointer (some ⟨w.heap.size, 0, none⟩), .pointer (some ⟨w.heap.size + 1, 0, none⟩), .pointer (some ⟨w.heap.size + 1 + 1, 0, none⟩)]) (by simp) (by simp [go_sem]) ?_
        refine (catch89_idle _ _ _ _).mono ?_
        rintro e u' w'' ⟨rfl, rfl, rfl⟩
        exact ⟨.tuple #[.iface T u, .int .i64 0, .int .i64 0], by simp [results, Try.results66, go_sem, r0, r1, r2], HFIN.out _ _ hX⟩
      | some j =>
        obtain rfl := hs3 j hwh
        rw [pk_some h3 hok hwh] at HFIN
        clear hn3 hs3 hwh
        go_wp2_with fail
        refine leaves_cons (f := 89) (args := #[.pointer (some ⟨w.heap.size, 0, none⟩), .pointer (some ⟨w.heap.size + 1, 0, none⟩), .pointer (some ⟨w.heap.size + 1 + 1, 0, none⟩)]) (by simp) (by simp [go_sem]) ?_
        refine (catch89_panicking _ _ _ 2 (j : Int) [] w3 _ _ _ (HX3.out.p0.cell 0 (by simp)) (HX3.out.p1.cell 0 (by simp)) (HX3.out.p2.cell 0 (by simp)) (HX3.out.p0.frozen 0) (HX3.out.p1.frozen 0) (HX3.out.p2.frozen 0) (by omega) (by omega) (by omega)).mono ?_
        rintro e u' w'' ⟨rfl, rfl, w6, hb6, rfl⟩
        have hX := ((RB3.still HX3.out hb6).put .nilIface (.int .i64 2) (.int .i64 (j : Int))).drew
        have r0 := hX.p0.cell 0 (by simp)
        have r1 := hX.p1.cell 0 (by simp)
        have r2 := hX.p2.cell 0 (by simp)
        simp only [List.getD_cons_zero] at r0 r1 r2
        exact ⟨.tuple #[.nilIface, .int .i64 2, .int .i64 (j : Int)], by simp [results, Try.results66, go_sem, r0, r1, r2], HFIN.out _ _ hX⟩
/-- PlanOK, the program's. -/
theorem iPlan29 (rl : List Rw) (s : ByteArray) (v : Value) (w : World) (h : RLy w rl v) (hs : s.size ≤ maxLen) :
    Calls Try.prog 29 #[v, .string s] w fun e w' => e = .returned (.tuple #[.int .i64 (pkR rl s).1, .int .i64 (pkR rl s).2]) ∧ Below w.heap.size w w' := by
  have HCL := (show Hid _ from read66 rl s v w h hs)
  unfold RpA at HCL
  obtain ⟨ra, rc, rfl⟩ := h.form
  clear h
  go_enter Try.func29, Try.ntmps29
  go_wp2_with fail
  refine Calls.mono HCL.out ?_
  rintro e w1 ⟨hb1, u, rfl⟩
  have HB := (show Hid _ from hb1)
  clear hb1 HCL
  go_wp2_with fail
  exact bodyPost_ret (v := .tuple #[.int .i64 (pkR rl s).1, .int .i64 (pkR rl s).2]) (by simp [results, Try.results29, go_sem]) rfl ⟨rfl, HB.out⟩
end Go.Proofs.Ytkkhdkfmaopmfaa

/-! The specification's reader of plans, whole; PlanOK of the specification. -/
namespace Go.Proofs.Ytkkhdkfmaopmfaa
open Go.RowKit Go.Deep Go.Lib Go.ChangeShapes Go.WideShapes
set_option linter.unusedVariables false
set_option maxRecDepth 100000
set_option linter.unusedSimpArgs false

theorem tieS {w0 : World} {p : Nat} {s : ByteArray} {rl : List Rw} {ra : Option Addr} {rc : Nat} (hs : s.size ≤ 300) (hp : w0.heap.size ≤ p) (hrl : RLy w0 rl (.slice ra rl.length rc)) (hpw : ∀ x, hasS (nms rl) x = true → hasS pw7 x = false) :
    ∀ f, f ≤ 100000 → ∀ g, g ≤ f → RdC w0 p (.slice ra rl.length rc) s (hasS (nms rl)) 110 0 g ∧ RdC w0 p (.slice ra rl.length rc) s (hasS (nms rl)) 100 1 g ∧ RdC w0 p (.slice ra rl.length rc) s (hasS (nms rl)) 86 2 g ∧ RdC w0 p (.slice ra rl.length rc) s (hasS (nms rl)) 116 3 g := by
  intro f
  induction f with
  | zero =>
    intro _ g hg
    obtain rfl : g = 0 := by omega
    refine ⟨?_, ?_, ?_, ?_⟩ <;> (intro i w R _ _ _ hrd; simp only [rd] at hrd; cases hrd)
  | succ f ih =>
    intro hf g hg
    have ih' := ih (by omega)
    by_cases e : g ≤ f
    · exact ih' g e
    · obtain rfl : g = f + 1 := by omega
      refine ⟨prim110 hs hp hrl hpw (ih' f (Nat.le_refl _)).2.2.2, seq100 hs hp (by omega) (fun g hg => (ih' g hg).1), plan86 hs hp (by omega) (fun g hg => (ih' g hg).2.1), bracket116 hs hp (ih' f (Nat.le_refl _)).2.2.1⟩
/-- Where the fault is, or -1. -/
def whV (s : ByteArray) (rn : ByteArray → Bool) : Int := match whR s rn with
  | some j => (j : Int)
  | none => -1
set_option maxHeartbeats 6400000 in
theorem read64 (rl : List Rw) (s : ByteArray) (ra : Option Addr) (rc : Nat) (w : World) (hrl : RLy w rl (.slice ra rl.length rc)) (hs : s.size ≤ 300) (hok : rlsB rl = true) :
    Calls Try.prog 64 #[.slice ra rl.length rc, .string s] w fun e w' => ∃ (k n : ByteArray) (a : Option Addr) (l c : Nat), e = .returned (.tuple #[.agg #[.string k, .string n, .slice a l c], .int .i64 (whV s (hasS (nms rl)))]) ∧ Below w.heap.size w w' := by
  have hx : sk s 0 ≤ s.size := past_size (Nat.zero_le _)
  obtain ⟨b, j, hr, hj1, hj2, _⟩ := rd_some s (hasS (nms rl)) (rls_nm hok) (fu 2 s.size) 2 (sk s 0) hx (by unfold fu; simp only; omega)
  have HW := (show Hid (whR s (hasS (nms rl)) = if b = true then (if j < s.size then some j else none) else some j) from (show whR s (hasS (nms rl)) = _ by unfold whR; rw [hr]; cases b <;> rfl))
  have hz := (Box.new w 102 [.string ⟨#[]⟩, .string ⟨#[]⟩, .slice none 0 0]).still (bel_alloc (w.alloc (.cells #[.string ⟨#[]⟩, .string ⟨#[]⟩, .slice none 0 0] 102)) (.cells #[.slice ra rl.length rc, .string s, .int .i64 0, .int .i64 (-1)] 129))
  have hbx := Box.new (w.alloc (.cells #[.string ⟨#[]⟩, .string ⟨#[]⟩, .slice none 0 0] 102)) 129 [.slice ra rl.length rc, .string s, .int .i64 0, .int .i64 (-1)]
  have hsz : (w.alloc (.cells #[.string ⟨#[]⟩, .string ⟨#[]⟩, .slice none 0 0] 102)).heap.size = w.heap.size + 1 := by simp
  rw [hsz] at hbx
  have hb2 : Below w.heap.size w ((w.alloc (.cells #[.string ⟨#[]⟩, .string ⟨#[]⟩, .slice none 0 0] 102)).alloc (.cells #[.slice ra rl.length rc, .string s, .int .i64 0, .int .i64 (-1)] 129)) := bel_trans (bel_alloc _ _) (bel_alloc _ _)
  have HCL := (show Hid _ from (tieS (w0 := w) (p := w.heap.size + 1) hs (by omega) hrl (rls_pw hok) (fu 2 s.size) (fu_le hs) (fu 2 s.size) (Nat.le_refl _)).2.2.1 0 _ (b, j) hbx (Nat.zero_le _) hb2 hr)
  unfold RdA at HCL
  have HZ := (show Hid _ from hz)
  have HB2 := (show Hid _ from hb2)
  have HFIN := (show Hid (∀ (k n : ByteArray) (a : Option Addr) (l c : Nat) (B : Int) (w' : World), Below w.heap.size w w' → B = whV s (hasS (nms rl)) → ∃ (k' n' : ByteArray) (a' : Option Addr) (l' c' : Nat), (Ending.returned (.tuple #[.agg #[.string k, .string n, .slice a l c], .int .i64 B])) = .returned (.tuple #[.agg #[.string k', .string n', .slice a' l' c'], .int .i64 (whV s (hasS (nms rl)))]) ∧ Below w.heap.size w w') from fun k n a l c B w' h1 h2 => by
    subst h2
    exact ⟨k, n, a, l, c, rfl, h1⟩)
  have HWV := (show Hid (whV s (hasS (nms rl)) = match whR s (hasS (nms rl)) with
  | some j => (j : Int)
  | none => -1) from rfl)
  clear hz hbx hb2 hrl hr
  go_enter Try.func64, Try.ntmps64
  go_wp2_with fail
  refine Calls.mono HCL.out ?_
  rintro e w3 ⟨k3, n3, a3, l3, c3, i3, bad3, rfl, hb3, hbt3, hi3, ht3, hf3⟩
  have hb4 := hb3.still (bel_alloc w3 (.cells #[.string k3, .string n3, .slice a3 l3 c3] 102))
  have HS := (show Hid _ from sign87 s 0 i3 (w.heap.size + 1) bad3 _ _ hb4 hi3 hs)
  have HZ4 := (show Hid (Box (w3.alloc (.cells #[.string k3, .string n3, .slice a3 l3 c3] 102)) w.heap.size 102 [.string ⟨#[]⟩, .string ⟨#[]⟩, .slice none 0 0]) from (HZ.out.but hbt3 (by omega)).still (bel_alloc _ _))
  have HQ4 := (show Hid (Box (w3.alloc (.cells #[.string k3, .string n3, .slice a3 l3 c3] 102)) w3.heap.size 102 [.string k3, .string n3, .slice a3 l3 c3]) from Box.new w3 102 _)
  have HB4 := (show Hid (Below w.heap.size w (w3.alloc (.cells #[.string k3, .string n3, .slice a3 l3 c3] 102))) from bel_trans (But.below' hbt3 HB2.out (by omega)) (bel_alloc _ _))
  have hq : w.heap.size + 1 < w3.heap.size := hb3.lt
  have HT3 := (show Hid (b = true → bad3 = -1 ∧ sk s i3 = j) from fun h => ht3 h)
  have HF3 := (show Hid (b = false → bad3 = (j : Int)) from fun h => hf3 h)
  clear hb3 hbt3 hb4 HZ HB2 HCL ht3 hf3
  have hxs : sk s i3 ≤ s.size := past_size hi3
  go_wp2_with fail
  refine Calls.mono HS.out ?_
  rintro e w5 ⟨rfl, hb5, hbt5⟩
  have HZ5 := (show Hid _ from HZ4.out.but hbt5 (by omega))
  have HQ5 := (show Hid _ from HQ4.out.but hbt5 (by omega))
  have HB5 := (show Hid (Below w.heap.size w w5) from But.below' hbt5 HB4.out (by omega))
  have HX5 := (show Hid _ from hb5)
  have x2 : w5.cell? ⟨w.heap.size + 1, 2, none⟩ = some (.int .i64 ((sk s i3 : Nat) : Int)) := hb5.cell 2 (by simp)
  clear hb5 hbt5 HS HZ4 HQ4 HB4
  generalize hy : sk s i3 = y at *
  by_cases hlt : y < s.size
  · have hlt' : (y : Int) < (s.size : Int) := by omega
    have HF := (show Hid _ from fail88 s y y (w.heap.size + 1) bad3 _ w5 HX5.out)
    have HBE := (show Hid ((if bad3 < 0 then (y : Int) else bad3) = whV s (hasS (nms rl))) from (by
      show (if bad3 < 0 then (y : Int) else bad3) = whV s (hasS (nms rl))
      rw [HWV.out, HW.out]
      cases b with
      | true =>
        obtain ⟨q1, q2⟩ := HT3.out rfl
        rw [q1, if_pos (by omega), if_pos rfl, ← q2, if_pos hlt]
      | false =>
        rw [HF3.out rfl, if_neg (by omega), if_neg (by simp)]))
    clear HW HWV HT3 HF3 HX5
    go_wp2_with fail
    refine Calls.mono HF.out ?_
    rintro e wc ⟨rfl, hbc, hbtc⟩
    have HZC := (show Hid _ from HZ5.out.but hbtc (by omega))
    have HQC := (show Hid _ from HQ5.out.but hbtc (by omega))
    have HBC := (show Hid (Below w.heap.size w wc) from But.below' hbtc HB5.out (by omega))
    have HXC := (show Hid _ from hbc)
    clear hbc hbtc HF HZ5 HQ5 HB5 x2
    generalize (if bad3 < 0 then (y : Int) else bad3) = B at *
    have z0 : wc.cell? ⟨w.heap.size, 0, none⟩ = some (.string ⟨#[]⟩) := HZC.out.cell 0 (by simp)
    have z1 : wc.cell? ⟨w.heap.size, 1, none⟩ = some (.string ⟨#[]⟩) := HZC.out.cell 1 (by simp)
    have z2 : wc.cell? ⟨w.heap.size, 2, none⟩ = some (.slice none 0 0) := HZC.out.cell 2 (by simp)
    have y0 : wc.frozen? ⟨w.heap.size, 0, none⟩ = false := HZC.out.frozen 0
    have y1 : wc.frozen? ⟨w.heap.size, 1, none⟩ = false := HZC.out.frozen 1
    have y2 : wc.frozen? ⟨w.heap.size, 2, none⟩ = false := HZC.out.frozen 2
    have t0 : wc.cell? ⟨w3.heap.size, 0, none⟩ = some (.string k3) := HQC.out.cell 0 (by simp)
    have t1 : wc.cell? ⟨w3.heap.size, 1, none⟩ = some (.string n3) := HQC.out.cell 1 (by simp)
    have t2 : wc.cell? ⟨w3.heap.size, 2, none⟩ = some (.slice a3 l3 c3) := HQC.out.cell 2 (by simp)
    have r3 : wc.cell? ⟨w.heap.size + 1, 3, none⟩ = some (.int .i64 (B)) := HXC.out.cell 3 (by simp)
    go_wp2_with fail
    go_region
    all_goals
      go_wp2_with fail
      refine bodyPost_ret (v := .tuple #[.agg #[.string k3, .string n3, .slice a3 l3 c3], .int .i64 (B)]) (by simp [results, Try.results64, go_sem, z0, z1, z2]) rfl ?_
      refine HFIN.out _ _ _ _ _ _ _ ?_ HBE.out
      exact bel_drewN (((HBC.out.setCell (p := ⟨w.heap.size, 0, none⟩) (Nat.le_refl _) _).setCell (p := ⟨w.heap.size, 1, none⟩) (Nat.le_refl _) _).setCell (p := ⟨w.heap.size, 2, none⟩) (Nat.le_refl _) _) 1
  · have hlt' : ¬ ((y : Int) < (s.size : Int)) := by omega
    have HBE := (show Hid (bad3 = whV s (hasS (nms rl))) from (by
      show bad3 = whV s (hasS (nms rl))
      rw [HWV.out, HW.out]
      cases b with
      | true =>
        obtain ⟨q1, q2⟩ := HT3.out rfl
        rw [q1, if_pos rfl, ← q2, if_neg hlt]
      | false =>
        rw [HF3.out rfl, if_neg (by simp)]))
    clear HW HWV HT3 HF3
    obtain ⟨wc, hwc⟩ : ∃ wc, wc = w5 := ⟨_, rfl⟩
    subst hwc
    have HZC := HZ5
    have HQC := HQ5
    have HBC := HB5
    have HXC := HX5
    clear HZ5 HQ5 HB5 HX5
    have z0 : wc.cell? ⟨w.heap.size, 0, none⟩ = some (.string ⟨#[]⟩) := HZC.out.cell 0 (by simp)
    have z1 : wc.cell? ⟨w.heap.size, 1, none⟩ = some (.string ⟨#[]⟩) := HZC.out.cell 1 (by simp)
    have z2 : wc.cell? ⟨w.heap.size, 2, none⟩ = some (.slice none 0 0) := HZC.out.cell 2 (by simp)
    have y0 : wc.frozen? ⟨w.heap.size, 0, none⟩ = false := HZC.out.frozen 0
    have y1 : wc.frozen? ⟨w.heap.size, 1, none⟩ = false := HZC.out.frozen 1
    have y2 : wc.frozen? ⟨w.heap.size, 2, none⟩ = false := HZC.out.frozen 2
    have t0 : wc.cell? ⟨w3.heap.size, 0, none⟩ = some (.string k3) := HQC.out.cell 0 (by simp)
    have t1 : wc.cell? ⟨w3.heap.size, 1, none⟩ = some (.string n3) := HQC.out.cell 1 (by simp)
    have t2 : wc.cell? ⟨w3.heap.size, 2, none⟩ = some (.slice a3 l3 c3) := HQC.out.cell 2 (by simp)
    have r3 : wc.cell? ⟨w.heap.size + 1, 3, none⟩ = some (.int .i64 (bad3)) := HXC.out.cell 3 (by simp)
    go_wp2_with fail
    go_region
    all_goals
      go_wp2_with fail
      refine bodyPost_ret (v := .tuple #[.agg #[.string k3, .string n3, .slice a3 l3 c3], .int .i64 (bad3)]) (by simp [results, Try.results64, go_sem, z0, z1, z2]) rfl ?_
      refine HFIN.out _ _ _ _ _ _ _ ?_ HBE.out
      exact bel_drewN (((HBC.out.setCell (p := ⟨w.heap.size, 0, none⟩) (Nat.le_refl _) _).setCell (p := ⟨w.heap.size, 1, none⟩) (Nat.le_refl _) _).setCell (p := ⟨w.heap.size, 2, none⟩) (Nat.le_refl _) _) 1
end Go.Proofs.Ytkkhdkfmaopmfaa

/-! PlanOK of the specification. -/
namespace Go.Proofs.Ytkkhdkfmaopmfaa
open Go.RowKit Go.Deep Go.Lib Go.ChangeShapes Go.WideShapes
set_option linter.unusedVariables false
set_option maxRecDepth 100000
set_option linter.unusedSimpArgs false

theorem fdw_at {rl : List Rw} {j : Nat} (hj : j < rl.length) {i : Int} (h : FdW rl rl[j].name i) : ∃ m : Nat, i = (m : Int) ∧ (hasS (nms (rl.take j)) rl[j].name = false → m = j) ∧ (hasS (nms (rl.take j)) rl[j].name = true → m ≠ j) := by
  rcases h with ⟨rfl, h⟩ | ⟨m, rfl, hm, h1, h2⟩
  · exfalso
    have : hasS (nms rl) rl[j].name = true := by
      unfold hasS nms
      rw [List.any_eq_true]
      exact ⟨rl[j].name, List.mem_map.2 ⟨rl[j], List.getElem_mem hj, rfl⟩, eqS_refl _⟩
    rw [h] at this
    cases this
  · refine ⟨m, rfl, fun h => ?_, fun h e => ?_⟩
    · by_cases hlt : m < j
      · exfalso
        have : hasS (nms (rl.take j)) rl[j].name = true := by
          unfold hasS nms
          rw [List.any_eq_true]
          refine ⟨rl[m].name, List.mem_map.2 ⟨rl[m], ?_, rfl⟩, eqS_iff.2 h1⟩
          exact List.mem_iff_getElem.2 ⟨m, by rw [List.length_take]; omega, by rw [List.getElem_take]⟩
        rw [h] at this
        cases this
      · by_cases hgt : j < m
        · exfalso
          have : hasS (nms (rl.take m)) rl[j].name = true := by
            unfold hasS nms
            rw [List.any_eq_true]
            refine ⟨rl[j].name, List.mem_map.2 ⟨rl[j], ?_, rfl⟩, eqS_refl _⟩
            exact List.mem_iff_getElem.2 ⟨j, by rw [List.length_take]; omega, by rw [List.getElem_take]⟩
          rw [h2] at this
          cases this
        · omega
    · subst e
      rw [h2] at h
      cases h
set_option maxHeartbeats 6400000 in
theorem sPlan27 (rl : List Rw) (s : ByteArray) (v : Value) (w : World) (h : RLy w rl v) (hs : s.size ≤ maxLen) :
    Calls Try.prog 27 #[v, .string s] w fun e w' => e = .returned (.tuple #[.int .i64 (pkR rl s).1, .int .i64 (pkR rl s).2]) ∧ Below w.heap.size w w' := by
  have HRL := (show Hid (RLy w rl v) from h)
  obtain ⟨a, cap, b, off, sv, tv, rfl, hc, hm, ha, hx, hcell, hk, hk'⟩ := h
  have HX := (show Hid _ from hx); clear hx
  unfold maxLen at hm hs
  have HC := (show Hid _ from hcell); clear hcell
  have HK := (show Hid _ from hk); clear hk
  have HK' := (show Hid _ from hk'); clear hk'
  have HA := (show Hid _ from ha); clear ha
  have HBAD := (show Hid ((decide (s.size ≤ 300) && rlsB rl) = false → pkR rl s = (1, 0)) from pk_bad)
  have HNO := (show Hid (s.size ≤ 300 → rlsB rl = true → whR s (hasS (nms rl)) = none → pkR rl s = (0, 0)) from pk_none)
  have HSO := (show Hid (∀ j, s.size ≤ 300 → rlsB rl = true → whR s (hasS (nms rl)) = some j → pkR rl s = (2, (j : Int))) from fun j => pk_some)
  generalize hP : pkR rl s = P at *
  obtain ⟨P1, P2⟩ := P
  clear hP
  by_cases h20 : rl.length ≤ 20
  case neg =>
    have h20' : (20 : Int) < (rl.length : Int) := by omega
    have HE := (show Hid _ from HBAD.out (by rw [len_false (by omega), Bool.and_false]))
    simp only [Prod.mk.injEq] at HE
    obtain ⟨rfl, rfl⟩ := HE.out
    clear HBAD HNO HSO HE
    go_enter Try.func27, Try.ntmps27
    go_wp2_with fail
    exact bodyPost_ret (v := .tuple #[.int .i64 1, .int .i64 0]) (by simp [results, Try.results27, go_sem]) rfl ⟨rfl, Below.refl _ _⟩
  have h20' : ¬ ((20 : Int) < (rl.length : Int)) := by omega
  by_cases h3 : s.size ≤ 300
  case neg =>
    have h3' : (300 : Int) < (s.size : Int) := by omega
    have HE := (show Hid _ from HBAD.out (by rw [decide_eq_false h3]; rfl))
    simp only [Prod.mk.injEq] at HE
    obtain ⟨rfl, rfl⟩ := HE.out
    clear HBAD HNO HSO HE
    go_enter Try.func27, Try.ntmps27
    go_wp2_with fail
    exact bodyPost_ret (v := .tuple #[.int .i64 1, .int .i64 0]) (by simp [results, Try.results27, go_sem]) rfl ⟨rfl, Below.refl _ _⟩
  have h3' : ¬ ((300 : Int) < (s.size : Int)) := by omega
  have HB1 := (show Hid (rlsB rl = false → (P1, P2) = (1, 0)) from fun h => HBAD.out (by rw [h, Bool.and_false]))
  clear HBAD
  go_enter Try.func27, Try.ntmps27
  go_wp2_with fail
  go_loopw [6] (fun i wr => ∃ j : Nat, i = .int .i64 j ∧ j ≤ rl.length ∧ Hid (Below w.heap.size w wr) ∧ Hid ((∀ i (hi : i < rl.length), i < j → rulB rl[i] = true) ∧ onJ rl j = true)) (fun i _ => rl.length - (intOf i).toNat)
  case atStart => exact ⟨0, rfl, Nat.zero_le _, Below.refl _ _, fun i _ h => absurd h (Nat.not_lt_zero _), rfl⟩
  case round =>
    obtain ⟨j, rfl, hj, HB, HJ⟩ := hrel
    by_cases hlt : j < rl.length
    · have q1 : (j : Int) < (rl.length : Int) := by omega
      have q0 : (0 : Int) ≤ (j : Int) := by omega
      have hbel := HB.out
      obtain rfl := HA.out (by omega)
      obtain ⟨c0, c1, c2, c3, c4, c5, c6, c7, c8⟩ := HC.out j hlt
      have c0w := c0
      rw [← hbel.cell (lt_of_cell c0)] at c0
      rw [← hbel.cell (lt_of_cell c1)] at c1
      rw [← hbel.cell (lt_of_cell c2)] at c2
      rw [← hbel.cell (lt_of_cell c3)] at c3
      rw [← hbel.cell (lt_of_cell c4)] at c4
      rw [← hbel.cell (lt_of_cell c5)] at c5
      rw [← hbel.cell (lt_of_cell c6)] at c6
      rw [← hbel.cell (lt_of_cell c7)] at c7
      rw [← hbel.cell (lt_of_cell c8)] at c8
      have hl1 := HK.out j hlt
      have hl2 := HK'.out j hlt
      obtain ⟨a4, l4, p4, e4⟩ := hl1.form
      obtain ⟨a5, l5, p5, e5⟩ := hl2.form
      rw [e4] at c4 hl1
      rw [e5] at c8 hl2
      have HCL := (show Hid _ from rule62 rl[j] a4 a5 l4 p4 l5 p5 wr (hl1.still hbel) (hl2.still hbel) (HX.out j hlt))
      have HFD := (show Hid (∀ wq : World, Below w.heap.size w wq → Calls Try.prog 63 #[.slice (some ⟨b, off, none⟩) rl.length cap, .string rl[j].name] wq fun e w' => ∃ i : Int, e = .returned (.int .i64 i) ∧ FdW rl rl[j].name i ∧ w' = wq) from fun wq hq => find63 rl _ _ wq (RLy.still HRL.out hq))
      have HFX := (show Hid (rulB rl[j] = false → rlsB rl = false) from rul_false hlt)
      have HON := (show Hid (hasS (nms (rl.take j)) rl[j].name = true → rlsB rl = false) from fun h => on_false (j := j + 1) (by omega) (by rw [onJ_succ hlt, h, Bool.not_true, Bool.and_false]))
      have HNX := (show Hid (rulB rl[j] = true → hasS (nms (rl.take j)) rl[j].name = false → (∀ i (hi : i < rl.length), i < j + 1 → rulB rl[i] = true) ∧ onJ rl (j + 1) = true) from fun h h2 => ⟨fun i hi hij => (by
        by_cases e : i = j
        · subst e; exact h
        · exact HJ.out.1 i hi (by omega)), by rw [onJ_succ hlt, HJ.out.2, h2]; rfl⟩)
      have HAT := (show Hid (∀ i : Int, FdW rl rl[j].name i → ∃ m : Nat, i = (m : Int) ∧ (hasS (nms (rl.take j)) rl[j].name = false → m = j) ∧ (hasS (nms (rl.take j)) rl[j].name = true → m ≠ j)) from fun i h => fdw_at hlt h)
      have HB2 := (show Hid _ from hbel)
      clear hbel e4 e5 HJ HB hl1 hl2
      generalize hasS (nms (rl.take j)) rl[j].name = tw at *
      generalize rulB rl[j] = r at *
      generalize rl[j].name = y0 at *
      generalize rl[j].left.name = y1 at *
      generalize rl[j].left.text = y2 at *
      generalize rl[j].left.leaf = y3 at *
      generalize rl[j].right.name = y5 at *
      generalize rl[j].right.text = y6 at *
      generalize rl[j].right.leaf = y7 at *
      go_wp2_with fail
      refine Calls.mono HCL.out ?_
      rintro e w1 ⟨rfl, hb1⟩
      have HB3 := (show Hid (Below w.heap.size w w1) from bel_trans HB2.out hb1)
      have d0 : w1.cell? ⟨b, off + j * 9, none⟩ = some (.string y0) := (HB3.out.cell (lt_of_cell c0w)).trans c0w
      clear hb1 HB2 HCL
      clear c0 c1 c2 c3 c4 c5 c6 c7 c8 c0w
      cases r
      · have HF := (show Hid _ from HB1.out (HFX.out rfl))
        simp only [Prod.mk.injEq] at HF
        obtain ⟨rfl, rfl⟩ := HF.out
        clear HNX HFX HF HON HAT HFD
        go_wp2_with fail
        exact bodyPost_ret (v := .tuple #[.int .i64 1, .int .i64 0]) (by simp [results, Try.results27, go_sem]) rfl ⟨rfl, HB3.out⟩
      · have HF := (show Hid _ from HNX.out rfl)
        clear HNX HFX
        go_wp2_with fail
        refine Calls.mono (HFD.out _ HB3.out) ?_
        rintro e w2 ⟨i2, rfl, hf2, rfl⟩
        obtain ⟨m, rfl, hm1, hm2⟩ := HAT.out _ hf2
        clear hf2 HFD HAT d0
        cases tw
        · obtain rfl := hm1 rfl
          have HG := (show Hid _ from HF.out rfl)
          clear hm1 hm2 HF HON
          go_wp2_with fail
          exact ⟨⟨m + 1, by go_num, by omega, HB3, HG⟩, by simp [intOf]; omega⟩
        · have hne := hm2 rfl
          have HF2 := (show Hid _ from HB1.out (HON.out rfl))
          simp only [Prod.mk.injEq] at HF2
          obtain ⟨rfl, rfl⟩ := HF2.out
          have hd : ((m : Int) != (j : Int)) = true := by
            simp
            omega
          clear hm1 hm2 HF HON HF2
          go_wp2_with fail
          exact bodyPost_ret (v := .tuple #[.int .i64 1, .int .i64 0]) (by simp [results, Try.results27, go_sem]) rfl ⟨rfl, HB3.out⟩
    · have q1 : ¬ ((j : Int) < (rl.length : Int)) := by omega
      have hok : rlsB rl = true := rls_true h20 (fun i hi => HJ.out.1 i hi (by omega)) (by
        have := HJ.out.2
        rwa [show j = rl.length by omega] at this)
      have HCL := (show Hid _ from read64 rl s a cap wr (RLy.still HRL.out HB.out) h3 hok)
      have HV := (show Hid (∀ B : Int, B = whV s (hasS (nms rl)) → (B = -1 ∧ (P1, P2) = (0, 0)) ∨ ∃ k : Nat, B = (k : Int) ∧ (P1, P2) = (2, (k : Int))) from fun B hB => by
        unfold whV at hB
        cases e : whR s (hasS (nms rl)) with
        | none => rw [e] at hB; exact .inl ⟨hB, HNO.out h3 hok e⟩
        | some k => rw [e] at hB; exact .inr ⟨k, hB, HSO.out k h3 hok e⟩)
      generalize whV s (hasS (nms rl)) = V at *
      clear hok HNO HSO HJ
      go_wp2_with fail
      refine Calls.mono HCL.out ?_
      rintro e w1 ⟨k1, n1, a1, l1, c1, rfl, hb1⟩
      have HB3 := (show Hid (Below w.heap.size w (w1.alloc (.cells #[.string k1, .string n1, .slice a1 l1 c1] 102))) from bel_trans (bel_trans HB.out hb1) (bel_alloc _ _))
      have hv := HV.out V rfl
      clear hb1 HCL HV HB
      rcases hv with ⟨rfl, hp⟩ | ⟨k, rfl, hp⟩
      · simp only [Prod.mk.injEq] at hp
        obtain ⟨rfl, rfl⟩ := hp
        go_wp2_with fail
        exact bodyPost_ret (v := .tuple #[.int .i64 0, .int .i64 0]) (by simp [results, Try.results27, go_sem]) rfl ⟨rfl, HB3.out⟩
      · simp only [Prod.mk.injEq] at hp
        obtain ⟨rfl, rfl⟩ := hp
        have hk0 : (0 : Int) ≤ (k : Int) := by omega
        go_wp2_with fail
        exact bodyPost_ret (v := .tuple #[.int .i64 2, .int .i64 (k : Int)]) (by simp [results, Try.results27, go_sem]) rfl ⟨rfl, HB3.out⟩
end Go.Proofs.Ytkkhdkfmaopmfaa

/-! The law of PlanOK. -/
namespace Go.Proofs.Ytkkhdkfmaopmfaa
open Go.RowKit Go.Deep Go.Lib Go.ChangeShapes Go.WideShapes
set_option linter.unusedVariables false
set_option maxRecDepth 100000
set_option linter.unusedSimpArgs false

set_option maxHeartbeats 3200000 in
theorem lawPk (rl : List Rw) (v : Value) (s : ByteArray) (w : World) (h : RLy w rl v) (hs : s.size ≤ maxLen) :
    Calls Try.prog 6 #[v, .string s] w fun e w' => e = .returned (.bool true) ∧ Below w.heap.size w w' := by
  have HSZ := (show Hid _ from szRules26 rl v w 1048576 h (by omega) (Int.le_refl _))
  have HTO := (show Hid (∀ wq, Below w.heap.size w wq → rwt rl ≤ 1048576 → Calls Try.prog 28 #[v] wq fun e w' => ∃ (a : Option Addr) (c : Nat), e = .returned (.slice a rl.length c) ∧ Below wq.heap.size wq w' ∧ RLy w' rl (.slice a rl.length c)) from fun wq hq hw => by
    refine Calls.mono (toRules28 rl v wq (h.still hq) hw) ?_
    rintro e w' ⟨u, rfl, h1, h2⟩
    obtain ⟨a, c, rfl⟩ := h2.form
    exact ⟨a, c, rfl, h1, h2⟩)
  have HSP := (show Hid (∀ (a : Option Addr) (c : Nat) (wq : World), RLy wq rl (.slice a rl.length c) → Calls Try.prog 27 #[.slice a rl.length c, .string s] wq fun e w' => e = .returned (.tuple #[.int .i64 (pkR rl s).1, .int .i64 (pkR rl s).2]) ∧ Below wq.heap.size wq w') from fun a c wq hq => sPlan27 rl s _ wq hq hs)
  have HIP := (show Hid (∀ (a : Option Addr) (c : Nat) (wq : World), RLy wq rl (.slice a rl.length c) → Calls Try.prog 29 #[.slice a rl.length c, .string s] wq fun e w' => e = .returned (.tuple #[.int .i64 (pkR rl s).1, .int .i64 (pkR rl s).2]) ∧ Below wq.heap.size wq w') from fun a c wq hq => iPlan29 rl s _ wq hq hs)
  have HEQ := (show Hid (∀ (a a' : Option Addr) (c c' : Nat) (wq : World), RLy wq rl (.slice a rl.length c) → RLy wq rl (.slice a' rl.length c') → Calls Try.prog 30 #[.slice a rl.length c, .slice a' rl.length c'] wq fun e w' => e = .returned (.bool true) ∧ Below wq.heap.size wq w') from fun a a' c c' wq h1 h2 => eqRules30 rl _ _ wq h1 h2)
  obtain ⟨ra, rc, rfl⟩ := h.form
  unfold maxLen at hs
  generalize (pkR rl s).1 = P1 at *
  generalize (pkR rl s).2 = P2 at *
  clear h
  by_cases hl : s.size ≤ 1048576
  case neg =>
    have hl' : (1048576 : Int) < (s.size : Int) := by omega
    clear HSZ HTO HSP HIP HEQ
    go_enter Try.func6, Try.ntmps6
    go_wp2_with fail
    go_ret
    exact ⟨rfl, Below.refl _ _⟩
  have hl' : ¬ ((1048576 : Int) < (s.size : Int)) := by omega
  by_cases hw : (rwt rl : Int) ≤ 1048576
  case neg =>
    rw [szR_no (by omega)] at HSZ
    clear HTO HSP HIP HEQ hw
    go_enter Try.func6, Try.ntmps6
    go_wp2_with fail
    refine Calls.mono HSZ.out ?_
    rintro e w1 ⟨rfl, hb1⟩
    have HE := (show Hid _ from hb1); clear hb1
    go_wp2_with fail
    go_ret
    exact ⟨rfl, HE.out⟩
  rw [szR_yes hw] at HSZ
  generalize hlf : (1048576 : Int) - (rwt rl : Int) = lf at *
  have hlfd : decide (lf < 0) = false := by simp; omega
  have hwn : rwt rl ≤ 1048576 := by omega
  clear hlf hw
  go_enter Try.func6, Try.ntmps6
  go_wp2_with fail
  refine Calls.mono HSZ.out ?_
  rintro e w1 ⟨rfl, hb1⟩
  have HB1 := (show Hid (Below w.heap.size w w1) from hb1)
  have HC1 := (show Hid _ from HTO.out w1 hb1 hwn)
  clear hb1 HSZ
  go_wp2_with fail
  refine Calls.mono HC1.out ?_
  rintro e w2 ⟨a2, c2, rfl, hb2, hr2⟩
  have HB2 := (show Hid (Below w.heap.size w w2) from bel_trans HB1.out hb2)
  have HC2 := (show Hid _ from HSP.out a2 c2 w2 hr2)
  clear hb2 hr2 HB1 HC1 HSP
  go_wp2_with fail
  refine Calls.mono HC2.out ?_
  rintro e w3 ⟨rfl, hb3⟩
  have HB3 := (show Hid (Below w.heap.size w w3) from bel_trans HB2.out hb3)
  have HC3 := (show Hid _ from HTO.out w3 HB3.out hwn)
  clear hb3 HB2 HC2
  go_wp2_with fail
  refine Calls.mono HC3.out ?_
  rintro e w4 ⟨a4, c4, rfl, hb4, hr4⟩
  have HB4 := (show Hid (Below w.heap.size w w4) from bel_trans HB3.out hb4)
  have HC4 := (show Hid _ from HIP.out a4 c4 w4 hr4)
  have HR4 := (show Hid (RLy w4 rl (.slice a4 rl.length c4)) from hr4)
  clear hb4 hr4 HB3 HC3 HIP
  go_wp2_with fail
  refine Calls.mono HC4.out ?_
  rintro e w5 ⟨rfl, hb5⟩
  have HB5 := (show Hid (Below w.heap.size w w5) from bel_trans HB4.out hb5)
  have HR5 := (show Hid (RLy w5 rl (.slice a4 rl.length c4)) from RLy.still HR4.out hb5)
  have HC5 := (show Hid _ from HTO.out w5 HB5.out hwn)
  clear hb5 HB4 HC4 HR4 HTO
  go_wp2_with fail
  refine Calls.mono HC5.out ?_
  rintro e w6 ⟨a6, c6, rfl, hb6, hr6⟩
  have HB6 := (show Hid (Below w.heap.size w w6) from bel_trans HB5.out hb6)
  have HC6 := (show Hid _ from HEQ.out a4 a6 c4 c6 w6 (RLy.still HR5.out hb6) hr6)
  clear hb6 hr6 HB5 HC5 HR5 HEQ
  go_wp2_with fail
  refine Calls.mono HC6.out ?_
  rintro e w7 ⟨rfl, hb7⟩
  have HB7 := (show Hid (Below w.heap.size w w7) from bel_trans HB6.out hb7)
  clear hb7 HB6 HC6
  go_wp2_with fail
  go_ret
  exact ⟨rfl, HB7.out⟩
end Go.Proofs.Ytkkhdkfmaopmfaa
