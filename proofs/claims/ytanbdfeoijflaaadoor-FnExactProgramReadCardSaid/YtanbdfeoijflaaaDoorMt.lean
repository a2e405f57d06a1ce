import Derived.Test.YtanbdfeoijflaaaDoorMr
/-! Reading a program: the specification. -/
namespace Go.Proofs.YtanbdfeoijflaaaDoor
open Go.RowKit Go.Deep
set_option linter.unusedVariables false
set_option maxRecDepth 100000
set_option linter.unusedSimpArgs false

theorem pre_take (c : UInt8) : ∀ l : List UInt8, l.take (pre c l).length = pre c l
  | [] => rfl
  | b :: l => by
    have e : pre c (b :: l) = if b = c then [] else b :: pre c l := rfl
    rw [e]
    split
    · rfl
    · simp [pre_take c l]
theorem pre_all {c : UInt8} : ∀ {l : List UInt8}, c ∉ l → pre c l = l
  | [], _ => rfl
  | b :: l, h => by
    have e : pre c (b :: l) = if b = c then [] else b :: pre c l := rfl
    rw [e, if_neg (fun e => h (by simp [e])), pre_all (fun e => h (List.mem_cons_of_mem _ e))]
theorem XA.new {B : Nat} {w0 W : World} (hb : Below B w0 W) (hz : B ≤ W.heap.size) : XA B w0 (W.alloc (.cells #[] 38)) (.slice (some ⟨W.heap.size, 0, none⟩) 0 0) [] :=
  ⟨World.ownsRow_lit (base := B) (e := 38) (size := 3) W #[] 0 hz (Nat.zero_le _) rfl, hb.trans ((bel_alloc W _).mono hz), by simp; omega⟩
theorem PrA.no {w W : World} (hb : Below w.heap.size w W) (c : Int) (n : Nat) : PrA ([], c, n) w (.returned (.tuple #[.slice (some ⟨W.heap.size, 0, none⟩) 0 0, .int .i64 c, .int .i64 (n : Nat)])) (W.alloc (.cells #[] 38)) :=
  ⟨_, rfl, (XA.new hb hb.size).bel, (XA.new hb hb.size).own⟩
set_option maxHeartbeats 6400000 in
/-- The specification's ProgramRead, by its text's bytes. -/
theorem sRead10A (s : List UInt8) (sX : ByteArray) (hsz : sX.size = s.length)
    (hslA : ∀ a b w', a ≤ b → b ≤ s.length → (Instr.slice 9 (.string sX) (some (.int .i64 (a : Nat))) (some (.int .i64 (b : Nat))) none).run Tryd.prog w' = .ok (.string (bs ((s.drop a).take (b - a)))) w')
    (hunA : ∀ i w', i ≤ s.length → s.length ≤ 1000000000 → Calls Tryd.prog 21 #[.string sX, .int .i64 (i : Nat), .int .u8 10] w' fun e w'' => e = .returned (.int .i64 ((i + (pre 10 (s.drop i)).length : Nat))) ∧ w'' = w')
    (h22 : ∀ (x : List UInt8) w', x.length ≤ 400000 → Calls Tryd.prog 22 #[.string (bs x)] w' (RiA x w')) (w : World) :
    Calls Tryd.prog 10 #[.string sX] w (PrA (rdR s) w) := by
  have HSL := (show Hid (∀ a b w', a ≤ b → b ≤ s.length → (Instr.slice 9 (.string sX) (some (.int .i64 (a : Nat))) (some (.int .i64 (b : Nat))) none).run Tryd.prog w' = .ok (.string (bs ((s.drop a).take (b - a)))) w') from hslA)
  have HUN := (show Hid (∀ i w', i ≤ s.length → s.length ≤ 1000000000 → Calls Tryd.prog 21 #[.string sX, .int .i64 (i : Nat), .int .u8 10] w' fun e w'' => e = .returned (.int .i64 ((i + (pre 10 (s.drop i)).length : Nat))) ∧ w'' = w') from hunA)
  have H22 := (show Hid (∀ (x : List UInt8) w', x.length ≤ 400000 → Calls Tryd.prog 22 #[.string (bs x)] w' (RiA x w')) from h22)
  clear hslA hunA h22
  by_cases hbig : 400000 < s.length
  · have hR : rdR s = ([], 1, 0) := by unfold rdR; rw [if_pos hbig]
    rw [hR]
    have hd : decide ((400000 : Int) < (sX.size : Int)) = true := by rw [hsz]; simp; omega
    clear hR hsz hbig
    go_enter Tryd.func10, Tryd.ntmps10
    go_wp2_with fail
    refine bodyPost_ret (v := .tuple #[.slice (some ⟨w.heap.size, 0, none⟩) 0 0, .int .i64 1, .int .i64 0]) (by simp [results, Tryd.results10, go_sem]) rfl ?_
    exact PrA.no (Below.refl _ _) 1 0
  · have hR : rdR s = rdg (s.length + 1) s [] := by unfold rdR; rw [if_neg hbig]
    rw [hR]
    obtain ⟨R, hRR⟩ : ∃ R, rdg (s.length + 1) s [] = R := ⟨_, rfl⟩
    rw [hRR]
    have HRR := (show Hid (rdg (s.length + 1) s [] = R) from hRR)
    have HSZ := (show Hid (sX.size = s.length) from hsz)
    have hd : decide ((400000 : Int) < (sX.size : Int)) = false := by rw [hsz]; simp; omega
    have hL : sX.size ≤ 400000 := by omega
    clear hR hRR hbig hsz
    have H0 := (show Hid (XA w.heap.size w (w.alloc (.cells #[] 38)) (.slice (some ⟨w.heap.size, 0, none⟩) 0 0) []) from XA.new (Below.refl _ _) (Nat.le_refl _))
    go_enter Tryd.func10, Tryd.ntmps10
    go_wp2_with fail
    clear hd
    go_loopw [5, 6] (fun u5 u6 wr => ∃ (fr f : Nat) (acc : List DIns) (ta : Option Addr) (tc : Nat), u5 = .slice ta acc.length tc ∧ u6 = .int .i64 (fr : Nat) ∧ fr ≤ sX.size ∧ Hid ((s.drop fr).length < f ∧ acc.length ≤ fr ∧ rdg f (s.drop fr) acc = R ∧ XA w.heap.size w wr (.slice ta acc.length tc) acc)) (fun _ u6 _ => sX.size - (RowKit.intOf u6).toNat)
    case atStart => exact ⟨0, s.length + 1, [], _, _, rfl, rfl, Nat.zero_le _, by simp, by simp, HRR.out, H0.out⟩
    case round =>
      obtain ⟨fr, f, acc, ta, tc, rfl, rfl, hfr, HJ⟩ := hrel
      obtain ⟨hlf, hal, hrd, hxa⟩ := HJ.out
      clear HJ
      obtain ⟨f, rfl⟩ : ∃ f', f = f' + 1 := ⟨f - 1, by omega⟩
      have hacc : acc.length ≤ 400000 := by omega
      have HX := (show Hid (XA w.heap.size w wr (.slice ta acc.length tc) acc) from hxa)
      by_cases hlt : fr < sX.size
      · have hfs : fr < s.length := by have := HSZ.out; omega
        have hnil : s.drop fr ≠ [] := by
          intro e
          have := congrArg List.length e
          simp at this
          omega
        have HNO := (show Hid (¬ ((10 : UInt8) ∈ s.drop fr ∧ ∃ x, rdl (pre 10 (s.drop fr)) = some x) → ([], 2, acc.length) = R) from fun h => by rw [← hrd]; exact (rdg_no f acc hnil h).symm)
        have HYS := (show Hid (∀ x, (10 : UInt8) ∈ s.drop fr → rdl (pre 10 (s.drop fr)) = some x → rdg f (post 10 (s.drop fr)) (acc ++ [x]) = R) from fun x h1 h2 => by rw [← hrd]; exact (rdg_yes f acc hnil h1 h2).symm)
        have HLF := (show Hid ((s.drop fr).length < f + 1 ∧ (s.drop fr).length = s.length - fr) from ⟨hlf, by simp⟩)
        have hpl : (pre 10 (s.drop fr)).length ≤ s.length - fr := by
          have h1 := congrArg List.length (pre_take 10 (s.drop fr))
          simp at h1
          omega
        have HUC : Hid (∀ w', Calls Tryd.prog 21 #[.string sX, .int .i64 (fr : Nat), .int .u8 10] w' fun e w'' => e = .returned (.int .i64 ((fr + (pre 10 (s.drop fr)).length : Nat))) ∧ w'' = w') := fun w' => HUN.out fr w' (by omega) (by have := HSZ.out; omega)
        have HSC := (show Hid (∀ w', (Instr.slice 9 (.string sX) (some (.int .i64 (fr : Nat))) (some (.int .i64 ((fr + (pre 10 (s.drop fr)).length : Nat)))) none).run Tryd.prog w' = .ok (.string (bs (pre 10 (s.drop fr)))) w') from fun w' => by
          have h1 := HSL.out fr (fr + (pre 10 (s.drop fr)).length) w' (by omega) (by omega)
          rw [show fr + (pre 10 (s.drop fr)).length - fr = (pre 10 (s.drop fr)).length by omega, pre_take] at h1
          exact h1)
        have H24 : Hid (∀ W, Calls Tryd.prog 22 #[.string (bs (pre 10 (s.drop fr)))] W (RiA (pre 10 (s.drop fr)) W)) := fun W => H22.out _ W (by have := HSZ.out; omega)
        have HPL := (show Hid ((10 : UInt8) ∈ s.drop fr → fr + (pre 10 (s.drop fr)).length + 1 ≤ s.length ∧ post 10 (s.drop fr) = s.drop (fr + (pre 10 (s.drop fr)).length + 1)) from fun h => by
          have h1 := post_len h
          have h2 := (take_pre 10 (s.drop fr) h).2
          rw [List.drop_drop] at h2
          refine ⟨by simp at h1; omega, ?_⟩
          rw [← h2]
          congr 1)
        have HPN := (show Hid ((10 : UInt8) ∉ s.drop fr → fr + (pre 10 (s.drop fr)).length = s.length) from fun h => by
          rw [pre_all h]
          simp
          omega)
        obtain ⟨en, hen⟩ : ∃ en, fr + (pre 10 (s.drop fr)).length = en := ⟨_, rfl⟩
        rw [hen] at HUC HSC HPL HPN
        have HFE := (show Hid (fr ≤ en) from by show _ ≤ _; omega)
        clear hlf hrd hxa hnil hpl hen hfs
        have hslc := HSC.out
        generalize bs (pre 10 (s.drop fr)) = sL at *
        by_cases h10 : (10 : UInt8) ∈ s.drop fr
        · obtain ⟨hen1, hpost⟩ := HPL.out h10
          have HPO := (show Hid (post 10 (s.drop fr) = s.drop (en + 1)) from hpost)
          have henx : en < sX.size := by have := HSZ.out; omega
          have hq : ((en : Int) == (sX.size : Int)) = false := by simp; omega
          clear hen1 hpost
          go_wp2_with fail
          refine Calls.mono (HUC.out _) ?_
          rintro e w5 ⟨rfl, hw5⟩
          rw [hw5]
          clear hw5 w5
          go_wp2_with fail
          refine Calls.mono (H24.out _) ?_
          rintro e w6 ⟨x, b, rfl, hb6, hy, hn⟩
          have HX6 := (show Hid (XA w.heap.size w w6 (.slice ta acc.length tc) acc) from HX.out.still hb6)
          clear hb6 H24 HX
          cases b
          · have HE := (show Hid (([], 2, acc.length) = R) from HNO.out (fun hc => by obtain ⟨_, x, hx⟩ := hc; rw [hn rfl] at hx; cases hx))
            have HB7 := (show Hid (Below w.heap.size w (w6.alloc (.cells #[.int .i64 x.op, .int .i64 x.n, .int .i64 x.to_] 38))) from (HX6.out.still (bel_alloc _ _)).bel)
            clear hy hn
            go_wp2_with fail
            refine bodyPost_ret (v := .tuple #[.slice (some ⟨w6.heap.size + 1, 0, none⟩) 0 0, .int .i64 2, .int .i64 (acc.length : Nat)]) (by simp [results, Tryd.results10, go_sem]) rfl ?_
            rw [← HE.out]
            have hp := PrA.no HB7.out 2 acc.length
            simpa using hp
          · have HRD : Hid (rdg f (post 10 (s.drop fr)) (acc ++ [x]) = R) := HYS.out x h10 (hy rfl)
            have hx7 := HX6.out.still (bel_alloc w6 (.cells #[.int .i64 x.op, .int .i64 x.n, .int .i64 x.to_] 38))
            obtain ⟨M, hM⟩ : ∃ M, acc.length + 1 = M := ⟨_, rfl⟩
            obtain ⟨a8, c8, w8, hr8, hx8⟩ := hx7.add x (w6.heap.size + 1) M (by omega) (by simp) hM
            have HR8 := (show Hid _ from hr8)
            have HX8 := (show Hid (XA w.heap.size w w8 (.slice a8 M c8) (acc ++ [x])) from hx8)
            have HMM := (show Hid ((acc ++ [x]).length = M) from by show _ = _; rw [List.length_append]; exact hM)
            have HM1 := (show Hid (acc.length + 1 = M) from hM)
            clear hx7 hx8 hr8 hM HX6 hy hn
            generalize acc.length = na at *
            go_wp2_with (first | (at_builtin; refine wpList_append_run _ rfl (.tmp 41) (.tmp 43) 26 26 rfl rfl rfl HR8.out ?_))
            have hmm := HMM.out
            have hm1 := HM1.out
            have hpo := HPO.out
            have hsz := HSZ.out
            have hlf := HLF.out
            have hfe := HFE.out
            exact ⟨⟨en + 1, f, acc ++ [x], a8, c8, by rw [hmm], by go_num, by omega, by simp; omega, by rw [hmm]; omega, by rw [← hpo]; exact HRD.out, by rw [hmm]; exact HX8.out⟩, by simp [RowKit.intOf]; omega⟩
        · have hq : ((en : Int) == (sX.size : Int)) = true := by
            have h1 := HPN.out h10
            have h2 := HSZ.out
            simp
            omega
          have hen2 : en ≤ sX.size := by have h1 := HPN.out h10; have := HSZ.out; omega
          have HE := (show Hid (([], 2, acc.length) = R) from HNO.out (fun hc => h10 hc.1))
          go_wp2_with fail
          refine Calls.mono (HUC.out _) ?_
          rintro e w5 ⟨rfl, hw5⟩
          rw [hw5]
          clear hw5 w5
          go_wp2_with fail
          refine Calls.mono (H24.out _) ?_
          rintro e w6 ⟨x, b, rfl, hb6, hy, hn⟩
          have HB7 := (show Hid (Below w.heap.size w (w6.alloc (.cells #[.int .i64 x.op, .int .i64 x.n, .int .i64 x.to_] 38))) from ((HX.out.still hb6).still (bel_alloc _ _)).bel)
          clear hb6 H24 HX hy hn
          cases b
          all_goals (
            go_wp2_with fail
            refine bodyPost_ret (v := .tuple #[.slice (some ⟨w6.heap.size + 1, 0, none⟩) 0 0, .int .i64 2, .int .i64 (acc.length : Nat)]) (by simp [results, Tryd.results10, go_sem]) rfl ?_
            rw [← HE.out]
            have hp := PrA.no HB7.out 2 acc.length
            simpa using hp)
      · obtain rfl : fr = sX.size := by omega
        have hnil : s.drop sX.size = [] := List.drop_eq_nil_of_le (by have := HSZ.out; omega)
        rw [hnil, rdg_nil] at hrd
        have HPG : Hid (Calls Tryd.prog 14 #[.slice ta acc.length tc] wr fun e w' => e = .returned (.bool (pgB acc)) ∧ Below wr.heap.size wr w') := sPg9 acc _ wr (own_insR hxa.own)
        clear hxa hlf hnil
        cases hpg : pgB acc
        · rw [hpg] at hrd HPG
          rw [if_neg (by decide)] at hrd
          have HRD := (show Hid _ from hrd)
          clear hrd hpg
          go_wp2_with fail
          refine Calls.mono HPG.out ?_
          rintro e w5 ⟨rfl, hb5⟩
          have HB5 := (show Hid (Below w.heap.size w w5) from (HX.out.still hb5).bel)
          clear hb5
          go_wp2_with fail
          refine bodyPost_ret (v := .tuple #[.slice (some ⟨w5.heap.size, 0, none⟩) 0 0, .int .i64 10, .int .i64 0]) (by simp [results, Tryd.results10, go_sem]) rfl ?_
          rw [← HRD.out]
          exact PrA.no HB5.out 10 0
        · rw [hpg] at hrd HPG
          rw [if_pos rfl] at hrd
          have HRD := (show Hid _ from hrd)
          clear hrd hpg
          go_wp2_with fail
          refine Calls.mono HPG.out ?_
          rintro e w5 ⟨rfl, hb5⟩
          have HX5 := (show Hid (XA w.heap.size w w5 (.slice ta acc.length tc) acc) from HX.out.still hb5)
          clear hb5
          go_wp2_with fail
          refine bodyPost_ret (v := .tuple #[.slice ta acc.length tc, .int .i64 0, .int .i64 0]) (by simp [results, Tryd.results10, go_sem]) rfl ?_
          rw [← HRD.out]
          exact ⟨.slice ta acc.length tc, rfl, HX5.out.bel, HX5.out.own⟩
end Go.Proofs.YtanbdfeoijflaaaDoor
