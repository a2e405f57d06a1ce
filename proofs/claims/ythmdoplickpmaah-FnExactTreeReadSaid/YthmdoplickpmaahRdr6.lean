import Derived.Test.YthmdoplickpmaahRdr5
namespace Go.Proofs.Ythmdoplickpmaah
open Go.RowKit Go.Deep Go.Lib
set_option linter.unusedVariables false
set_option maxRecDepth 100000
set_option linter.unusedSimpArgs false

theorem Bad.past {w : World} {p j g o : Nat} {s : ByteArray} {u : Value} (h : Bad w p s j) (hg : p < g) : Bad (w.setCell ⟨g, o, none⟩ u) p s j := Bad.keep h (blk_setCell_other _ _ _ _ (by show p ≠ g; omega))
theorem own_leaf (w : World) (lo hi : Nat) (n x : ByteArray) (hn : n.size ≤ maxLen) (hx : x.size ≤ maxLen) : Own w lo hi ⟨n, x, true, []⟩ (.slice none 0 0) :=
  Own.shut ⟨none, 0, 0, fun _ => .bool false, fun _ => 0, fun _ => 0, rfl, hn, hx, Nat.le_refl _, Nat.zero_le _, fun h => absurd h (Nat.not_lt_zero _), fun i hi => absurd hi (Nat.not_lt_zero _), fun i hi => absurd hi (Nat.not_lt_zero _), fun i hi => absurd hi (Nat.not_lt_zero _), fun i j hi hj => absurd hj (Nat.not_lt_zero _)⟩
theorem pText_small {s : ByteArray} : ∀ (f k : Nat) (x : List UInt8) (a : ByteArray × Nat), k ≤ s.size → pText s f k x = .ok a → a.1.size ≤ x.length + (s.size - k)
  | 0, k, x, a, _, h => by cases h
  | f + 1, k, x, a, hk, h => by
    rw [pText] at h
    split at h
    · cases h
      show (bs x).size ≤ _
      rw [bs_size]
      omega
    · have hf := pByte_fits hk
      cases hr : pByte s k with
      | error j => rw [hr] at h; cases h
      | ok r =>
        rw [hr] at h hf
        have := pText_small f r.2 (x ++ [r.1]) a hf.2 h
        simp at this
        have h1 := hf.1
        have h2 := hf.2
        omega

set_option maxHeartbeats 6400000 in
theorem treeS_leaf {p k : Nat} {s : ByteArray} (w : World) (h : Rdr w p s k) (h40 : seesB s k 40 = false) :
    Calls Try.prog 36 #[.pointer (some ⟨p, 0, none⟩)] w fun e w' => SAns (pLeaf s k) w p s e w' := by
  have hk := h.1
  have hs := h.2.1
  have hp := h.lt
  have hfit := pName_fits hk
  have hsm := fun a (ha : pName s k = .ok a) => pName_small hk (by omega) ha
  have hll := fun a (ha : pName s k = .ok a) => long_leaf ha
  have hpl : pLeaf s k = (match pName s k with
    | .error j => .error j
    | .ok r => if seesB s r.2 34 then mkLeaf r.1 (pText s (s.size + 1 - r.2) (r.2 + 1) []) else .error r.2) := rfl
  have HN := (show Hid _ from fun w1 (h1 : Rdr w1 p s k) => nameS_any w1 h1)
  have HT0 := (show Hid (TPre w ((w.alloc (.cells #[.string ⟨#[]⟩, .string ⟨#[]⟩, .bool false, .slice none 0 0] 29)).alloc (.cells #[.string ⟨#[]⟩, .string ⟨#[]⟩, .bool false, .slice none 0 0] 29)) p (.string ByteArray.empty) (.string ByteArray.empty) (.bool false) (.slice none 0 0)) from TPre.new w p)
  have hr2 : Rdr ((w.alloc (.cells #[.string ⟨#[]⟩, .string ⟨#[]⟩, .bool false, .slice none 0 0] 29)).alloc (.cells #[.string ⟨#[]⟩, .string ⟨#[]⟩, .bool false, .slice none 0 0] 29)) p s k := (h.still (bel_alloc _ _)).still (bel_alloc _ _)
  have HR2 := (show Hid _ from hr2)
  obtain ⟨x0, x1, x2, y1, y2⟩ := RdB.cells hr2.2.2
  have HM := (show Hid _ from fun n => more_any (((w.alloc (.cells #[.string ⟨#[]⟩, .string ⟨#[]⟩, .bool false, .slice none 0 0] 29)).alloc (.cells #[.string ⟨#[]⟩, .string ⟨#[]⟩, .bool false, .slice none 0 0] 29)).drewN n) (p := p) (k := k) (s := s) (Rdr.keep HR2.out rfl))
  clear hr2 h
  have HPL := (show Hid _ from (⟨hpl, hll, hsm, hfit⟩ : _ ∧ _ ∧ _ ∧ _)); clear hpl hll hsm hfit
  generalize pLeaf s k = RL at *
  by_cases hlt : k < s.size
  · rw [decide_eq_true hlt] at HM
    have hlt' : (k : Int) < s.size := by omega
    have hb40 : ((s[k].toNat : Int) == 40) = false := by
      unfold seesB at h40
      rw [get!_eq s k hlt] at h40
      simp [hlt] at h40
      simp
      exact fun e => h40 (UInt8.toNat_inj.1 (by show s[k].toNat = 40; omega))
    clear h40
    go_enter Try.func36, Try.ntmps36
    go_wp2_with fail
    go_quiet ((go_at_call 47; refine Calls.quiet_of (HM.out _)))
    have HV := (show Hid _ from (⟨TPre.step HT0.out (Out.drewN (Out.refl p (p + 1) _) nq) hp, Rdr.keep HR2.out rfl⟩ : TPre w (((w.alloc (.cells #[.string ⟨#[]⟩, .string ⟨#[]⟩, .bool false, .slice none 0 0] 29)).alloc (.cells #[.string ⟨#[]⟩, .string ⟨#[]⟩, .bool false, .slice none 0 0] 29)).drewN nq) p (.string ByteArray.empty) (.string ByteArray.empty) (.bool false) (.slice none 0 0) ∧ Rdr (((w.alloc (.cells #[.string ⟨#[]⟩, .string ⟨#[]⟩, .bool false, .slice none 0 0] 29)).alloc (.cells #[.string ⟨#[]⟩, .string ⟨#[]⟩, .bool false, .slice none 0 0] 29)).drewN nq) p s k))
    clear x0 x1 x2 y1 y2 HM HT0 HR2 hb40
    generalize ((w.alloc (.cells #[.string ⟨#[]⟩, .string ⟨#[]⟩, .bool false, .slice none 0 0] 29)).alloc (.cells #[.string ⟨#[]⟩, .string ⟨#[]⟩, .bool false, .slice none 0 0] 29)).drewN nq = V at *
    obtain ⟨t0, t1, t2, t3⟩ := Box4.cells HV.out.1.b1
    have r2 := Box4.frozen HV.out.1.b1 2
    have hB2 := Box4.set2 HV.out.1.b1 (.bool true)
    have HV1 := (show Hid _ from (⟨TPre.put HV.out.1 hB2, Rdr.past HV.out.2 (by omega)⟩ : TPre w (V.setCell ⟨w.heap.size + 1, 2, none⟩ (.bool true)) p (.string ByteArray.empty) (.string ByteArray.empty) (.bool true) (.slice none 0 0) ∧ Rdr (V.setCell ⟨w.heap.size + 1, 2, none⟩ (.bool true)) p s k)); clear hB2
    go_wp2_with fail
    clear t0 t1 t2 t3 r2
    generalize V.setCell ⟨w.heap.size + 1, 2, none⟩ (.bool true) = V1 at *
    have H2 := (show Hid _ from HN.out V1 HV1.out.2)
    obtain ⟨hpl, hll, hsm, hfit⟩ := HPL.out
    generalize pName s k = rn at *
    refine Calls.mono H2.out ?_
    rintro e w2 ⟨ho2, hg2⟩
    cases rn with
    | error j =>
      obtain ⟨rfl, hb2⟩ := hg2
      have HRL := (show Hid (RL = .error j) from hpl); clear hpl hll hsm hfit
      have HP2 := (show Hid _ from (⟨TPre.step HV1.out.1 ho2 hp, hb2⟩ : _ ∧ _)); clear ho2 hb2
      have hB3 := Box4.set0 HP2.out.1.b1 (.string ByteArray.empty)
      have HP3 := (show Hid _ from (⟨TPre.put HP2.out.1 hB3, Bad.past HP2.out.2 (by omega)⟩ : TPre w (w2.setCell ⟨w.heap.size + 1, 0, none⟩ (.string ByteArray.empty)) p (.string ByteArray.empty) (.string ByteArray.empty) (.bool true) (.slice none 0 0) ∧ Bad (w2.setCell ⟨w.heap.size + 1, 0, none⟩ (.string ByteArray.empty)) p s j)); clear hB3
      obtain ⟨t0, t1, t2, t3⟩ := Box4.cells HP2.out.1.b1
      have r0 := Box4.frozen HP2.out.1.b1 0
      obtain ⟨_, bc, _, hbc⟩ := HP3.out.2
      obtain ⟨_, _, v2, _, _⟩ := RdB.cells hbc
      have hdn : decide ((j : Int) < 0) = false := by simp
      clear hbc
      go_wp2_with fail
      go_quiet (fail)
      have HB := (show Hid _ from (⟨TPre.step HP3.out.1 (Out.drewN (Out.refl p (p + 1) _) nq) hp, Bad.keep HP3.out.2 rfl⟩ : TPre w ((w2.setCell ⟨w.heap.size + 1, 0, none⟩ (.string ByteArray.empty)).drewN nq) p (.string ByteArray.empty) (.string ByteArray.empty) (.bool true) (.slice none 0 0) ∧ Bad ((w2.setCell ⟨w.heap.size + 1, 0, none⟩ (.string ByteArray.empty)).drewN nq) p s j))
      clear t0 t1 t2 t3 r0 v2 hdn
      generalize (w2.setCell ⟨w.heap.size + 1, 0, none⟩ (.string ByteArray.empty)).drewN nq = U at *
      obtain ⟨ba, hba, hbb, hbt⟩ := Bad.next HB.out.2
      obtain ⟨x0, x1, x2, y1, y2⟩ := RdB.cells hbb
      have HB4 := (show Hid _ from (⟨TPre.step HB.out.1 (Out.set (o := 1) U (.int .i64 ((ba : Int) + 1)) (Nat.le_refl p) (Nat.lt_succ_self p)) hp, hbt⟩ : _ ∧ _))
      obtain ⟨Z0, Z1, Z2, Z3⟩ := Box4.cells HB4.out.1.b0
      have z0 := Box4.frozen HB4.out.1.b0 0
      have z1 := Box4.frozen HB4.out.1.b0 1
      have z2 := Box4.frozen HB4.out.1.b0 2
      have z3 := Box4.frozen HB4.out.1.b0 3
      obtain ⟨T0, T1, T2, T3⟩ := Box4.cells HB4.out.1.b1
      obtain ⟨_, bc, _, hbc⟩ := HB4.out.2
      obtain ⟨_, _, v2, _, _⟩ := RdB.cells hbc
      have hdn : decide ((j : Int) < 0) = false := by simp
      clear hbb hbt hbc
      go_wp2_with fail
      refine bodyPost_ret (v := .agg #[.string ByteArray.empty, .string ByteArray.empty, .bool true, .slice none 0 0]) (by simp [results, Try.results36, go_sem, Z0, Z1, Z2, Z3]) rfl ?_
      rw [HRL.out]
      exact TPre.done (r := .error j) HB4.out.1 hp HB4.out.2
    | ok a =>
      obtain ⟨nm, k1⟩ := a
      have hnm := hsm _ rfl
      obtain ⟨hk1, hk1s⟩ := hfit
      dsimp only at hnm hk1 hk1s hpl
      rcases hg2 with ⟨htl, rfl, hb2⟩ | ⟨htl, rfl, hr2⟩
      · have HRL := (show Hid (RL = .error k1) from hll _ rfl htl); clear hpl hll hsm htl
        dsimp only at hb2
        have HP2 := (show Hid _ from (⟨TPre.step HV1.out.1 ho2 hp, hb2⟩ : _ ∧ _)); clear ho2 hb2
        have hB3 := Box4.set0 HP2.out.1.b1 (.string ByteArray.empty)
        have HP3 := (show Hid _ from (⟨TPre.put HP2.out.1 hB3, Bad.past HP2.out.2 (by omega)⟩ : TPre w (w2.setCell ⟨w.heap.size + 1, 0, none⟩ (.string ByteArray.empty)) p (.string ByteArray.empty) (.string ByteArray.empty) (.bool true) (.slice none 0 0) ∧ Bad (w2.setCell ⟨w.heap.size + 1, 0, none⟩ (.string ByteArray.empty)) p s k1)); clear hB3
        obtain ⟨t0, t1, t2, t3⟩ := Box4.cells HP2.out.1.b1
        have r0 := Box4.frozen HP2.out.1.b1 0
        obtain ⟨_, bc, _, hbc⟩ := HP3.out.2
        obtain ⟨_, _, v2, _, _⟩ := RdB.cells hbc
        have hdn : decide ((k1 : Int) < 0) = false := by simp
        clear hbc
        go_wp2_with fail
        go_quiet (fail)
        have HB := (show Hid _ from (⟨TPre.step HP3.out.1 (Out.drewN (Out.refl p (p + 1) _) nq) hp, Bad.keep HP3.out.2 rfl⟩ : TPre w ((w2.setCell ⟨w.heap.size + 1, 0, none⟩ (.string ByteArray.empty)).drewN nq) p (.string ByteArray.empty) (.string ByteArray.empty) (.bool true) (.slice none 0 0) ∧ Bad ((w2.setCell ⟨w.heap.size + 1, 0, none⟩ (.string ByteArray.empty)).drewN nq) p s k1))
        clear t0 t1 t2 t3 r0 v2 hdn
        generalize (w2.setCell ⟨w.heap.size + 1, 0, none⟩ (.string ByteArray.empty)).drewN nq = U at *
        obtain ⟨ba, hba, hbb, hbt⟩ := Bad.next HB.out.2
        obtain ⟨x0, x1, x2, y1, y2⟩ := RdB.cells hbb
        have HB4 := (show Hid _ from (⟨TPre.step HB.out.1 (Out.set (o := 1) U (.int .i64 ((ba : Int) + 1)) (Nat.le_refl p) (Nat.lt_succ_self p)) hp, hbt⟩ : _ ∧ _))
        obtain ⟨Z0, Z1, Z2, Z3⟩ := Box4.cells HB4.out.1.b0
        have z0 := Box4.frozen HB4.out.1.b0 0
        have z1 := Box4.frozen HB4.out.1.b0 1
        have z2 := Box4.frozen HB4.out.1.b0 2
        have z3 := Box4.frozen HB4.out.1.b0 3
        obtain ⟨T0, T1, T2, T3⟩ := Box4.cells HB4.out.1.b1
        obtain ⟨_, bc, _, hbc⟩ := HB4.out.2
        obtain ⟨_, _, v2, _, _⟩ := RdB.cells hbc
        have hdn : decide ((k1 : Int) < 0) = false := by simp
        clear hbb hbt hbc
        go_wp2_with fail
        refine bodyPost_ret (v := .agg #[.string ByteArray.empty, .string ByteArray.empty, .bool true, .slice none 0 0]) (by simp [results, Try.results36, go_sem, Z0, Z1, Z2, Z3]) rfl ?_
        rw [HRL.out]
        exact TPre.done (r := .error k1) HB4.out.1 hp HB4.out.2
      clear hll hsm htl
      dsimp only at hr2 ⊢
      have HP2 := (show Hid _ from (⟨TPre.step HV1.out.1 ho2 hp, hr2⟩ : _ ∧ _)); clear ho2 hr2
      have hB3 := Box4.set0 HP2.out.1.b1 (.string nm)
      have HP3 := (show Hid _ from (⟨TPre.put HP2.out.1 hB3, Rdr.past HP2.out.2 (by omega)⟩ : TPre w (w2.setCell ⟨w.heap.size + 1, 0, none⟩ (.string nm)) p (.string nm) (.string ByteArray.empty) (.bool true) (.slice none 0 0) ∧ Rdr (w2.setCell ⟨w.heap.size + 1, 0, none⟩ (.string nm)) p s k1)); clear hB3
      obtain ⟨t0, t1, t2, t3⟩ := Box4.cells HP2.out.1.b1
      have r0 := Box4.frozen HP2.out.1.b1 0
      obtain ⟨x0, x1, x2, y1, y2⟩ := RdB.cells HP3.out.2.2.2
      have HM3 := (show Hid _ from fun n => more_any ((w2.setCell ⟨w.heap.size + 1, 0, none⟩ (.string nm)).drewN n) (p := p) (k := k1) (s := s) (Rdr.keep HP3.out.2 rfl))
      have HU0 := (show Hid _ from fun n => (⟨TPre.step HP3.out.1 (Out.drewN (Out.refl p (p + 1) _) n) hp, Rdr.keep HP3.out.2 rfl⟩ : TPre w ((w2.setCell ⟨w.heap.size + 1, 0, none⟩ (.string nm)).drewN n) p (.string nm) (.string ByteArray.empty) (.bool true) (.slice none 0 0) ∧ Rdr ((w2.setCell ⟨w.heap.size + 1, 0, none⟩ (.string nm)).drewN n) p s k1))
      by_cases hlt1 : k1 < s.size
      case neg =>
        rw [decide_eq_false hlt1] at HM3
        have HRL := (show Hid (RL = .error k1) from hpl.trans (if_neg (by unfold seesB; simp [hlt1]))); clear hpl
        go_wp2_with fail
        go_quiet ((go_at_call 47; refine Calls.quiet_of (HM3.out _)))
        have HU1 := (show Hid _ from HU0.out nq)
        clear t0 t1 t2 t3 r0 x0 x1 x2 y1 y2 HU0 HM3
        generalize (w2.setCell ⟨w.heap.size + 1, 0, none⟩ (.string nm)).drewN nq = U1 at *
        have HF := (show Hid _ from fail_any U1 HU1.out.2)
        go_wp2_with fail
        refine Calls.mono HF.out ?_
        rintro e U ⟨rfl, hoU, hbU⟩
        have HB := (show Hid _ from (⟨TPre.step HU1.out.1 hoU hp, hbU⟩ : _ ∧ _)); clear hoU hbU
        obtain ⟨ba, hba, hbb, hbt⟩ := Bad.next HB.out.2
        obtain ⟨x0, x1, x2, y1, y2⟩ := RdB.cells hbb
        have HB4 := (show Hid _ from (⟨TPre.step HB.out.1 (Out.set (o := 1) U (.int .i64 ((ba : Int) + 1)) (Nat.le_refl p) (Nat.lt_succ_self p)) hp, hbt⟩ : _ ∧ _))
        obtain ⟨Z0, Z1, Z2, Z3⟩ := Box4.cells HB4.out.1.b0
        have z0 := Box4.frozen HB4.out.1.b0 0
        have z1 := Box4.frozen HB4.out.1.b0 1
        have z2 := Box4.frozen HB4.out.1.b0 2
        have z3 := Box4.frozen HB4.out.1.b0 3
        obtain ⟨T0, T1, T2, T3⟩ := Box4.cells HB4.out.1.b1
        obtain ⟨_, bc, _, hbc⟩ := HB4.out.2
        obtain ⟨_, _, v2, _, _⟩ := RdB.cells hbc
        have hdn : decide ((k1 : Int) < 0) = false := by simp
        clear hbb hbt hbc
        go_wp2_with fail
        refine bodyPost_ret (v := .agg #[.string nm, .string ByteArray.empty, .bool true, .slice none 0 0]) (by simp [results, Try.results36, go_sem, Z0, Z1, Z2, Z3]) rfl ?_
        rw [HRL.out]
        exact TPre.done (r := .error k1) HB4.out.1 hp HB4.out.2
      rw [decide_eq_true hlt1] at HM3
      have hg1 := get!_eq s k1 hlt1
      have hlt1' : (k1 : Int) < s.size := by omega
      by_cases h34 : s[k1].toNat = 34
      case neg =>
        have hbn : ((s[k1].toNat : Int) != 34) = true := by simp; omega
        have HRL := (show Hid (RL = .error k1) from hpl.trans (if_neg (by unfold seesB; rw [hg1]; simp [hlt1]; exact fun e => h34 (by rw [e]; rfl)))); clear hpl h34 hg1
        go_wp2_with fail
        go_quiet ((go_at_call 47; refine Calls.quiet_of (HM3.out _)))
        have HU1 := (show Hid _ from HU0.out nq)
        clear t0 t1 t2 t3 r0 x0 x1 x2 y1 y2 HU0 HM3
        generalize (w2.setCell ⟨w.heap.size + 1, 0, none⟩ (.string nm)).drewN nq = U1 at *
        have HF := (show Hid _ from fail_any U1 HU1.out.2)
        go_wp2_with fail
        refine Calls.mono HF.out ?_
        rintro e U ⟨rfl, hoU, hbU⟩
        have HB := (show Hid _ from (⟨TPre.step HU1.out.1 hoU hp, hbU⟩ : _ ∧ _)); clear hoU hbU
        obtain ⟨ba, hba, hbb, hbt⟩ := Bad.next HB.out.2
        obtain ⟨x0, x1, x2, y1, y2⟩ := RdB.cells hbb
        have HB4 := (show Hid _ from (⟨TPre.step HB.out.1 (Out.set (o := 1) U (.int .i64 ((ba : Int) + 1)) (Nat.le_refl p) (Nat.lt_succ_self p)) hp, hbt⟩ : _ ∧ _))
        obtain ⟨Z0, Z1, Z2, Z3⟩ := Box4.cells HB4.out.1.b0
        have z0 := Box4.frozen HB4.out.1.b0 0
        have z1 := Box4.frozen HB4.out.1.b0 1
        have z2 := Box4.frozen HB4.out.1.b0 2
        have z3 := Box4.frozen HB4.out.1.b0 3
        obtain ⟨T0, T1, T2, T3⟩ := Box4.cells HB4.out.1.b1
        obtain ⟨_, bc, _, hbc⟩ := HB4.out.2
        obtain ⟨_, _, v2, _, _⟩ := RdB.cells hbc
        have hdn : decide ((k1 : Int) < 0) = false := by simp
        clear hbb hbt hbc
        go_wp2_with fail
        refine bodyPost_ret (v := .agg #[.string nm, .string ByteArray.empty, .bool true, .slice none 0 0]) (by simp [results, Try.results36, go_sem, Z0, Z1, Z2, Z3]) rfl ?_
        rw [HRL.out]
        exact TPre.done (r := .error k1) HB4.out.1 hp HB4.out.2
      have hbn : ((s[k1].toNat : Int) != 34) = false := by simp; omega
      have hrl : RL = mkLeaf nm (pText s (s.size + 1 - k1) (k1 + 1) []) := by rw [hpl, if_pos (by unfold seesB; rw [hg1]; simp [hlt1]; exact UInt8.toNat_inj.1 h34)]
      have HTX := (show Hid _ from fun w1 (h1 : Rdr w1 p s (k1 + 1)) => textS_any (f0 := s.size + 1 - k1) w1 h1 (by omega))
      have hxs := fun a (ha : pText s (s.size + 1 - k1) (k1 + 1) [] = .ok a) => pText_small _ _ _ a hlt1 ha
      clear hpl h34 hg1
      generalize pText s (s.size + 1 - k1) (k1 + 1) [] = rx at *
      go_wp2_with fail
      go_quiet ((go_at_call 47; refine Calls.quiet_of (HM3.out _)))
      have HU1 := (show Hid _ from HU0.out nq)
      clear t0 t1 t2 t3 r0 x0 x1 x2 y1 y2 HU0 HM3
      generalize (w2.setCell ⟨w.heap.size + 1, 0, none⟩ (.string nm)).drewN nq = U1 at *
      obtain ⟨x0, x1, x2, y1, y2⟩ := RdB.cells HU1.out.2.2.2
      have HU2 := (show Hid _ from (⟨TPre.step HU1.out.1 (Out.set (o := 1) U1 (.int .i64 ((k1 : Int) + 1)) (Nat.le_refl p) (Nat.lt_succ_self p)) hp, Rdr.next HU1.out.2 hlt1⟩ : _ ∧ _))
      obtain ⟨_, _, v2, _, _⟩ := RdB.cells' HU2.out.2.2.2
      go_wp2_with fail
      clear x0 x1 x2 y1 y2 v2
      generalize U1.setCell ⟨p, 1, none⟩ (.int .i64 ((k1 : Int) + 1)) = U2 at *
      refine Calls.mono (HTX.out U2 HU2.out.2) ?_
      rintro e w5 ⟨ho5, hg5⟩
      have hT5 := TPre.step HU2.out.1 ho5 hp
      cases rx with
      | error j =>
        obtain ⟨rfl, hb5⟩ := hg5
        have HRL := (show Hid (RL = .error j) from hrl); clear hrl hxs
        have hB6 := Box4.set1 hT5.b1 (.string ByteArray.empty)
        have HX := (show Hid _ from (⟨hT5, TPre.put hT5 hB6, BadT.past (Bad.t hb5) (by omega)⟩ : _ ∧ TPre w (w5.setCell ⟨w.heap.size + 1, 1, none⟩ (.string ByteArray.empty)) p (.string nm) (.string ByteArray.empty) (.bool true) (.slice none 0 0) ∧ BadT (w5.setCell ⟨w.heap.size + 1, 1, none⟩ (.string ByteArray.empty)) p s j)); clear hT5 hB6 ho5 hb5
        obtain ⟨t0, t1, t2, t3⟩ := Box4.cells HX.out.1.b1
        have r1 := Box4.frozen HX.out.1.b1 1
        obtain ⟨T0, T1, T2, T3⟩ := Box4.cells HX.out.2.1.b1
        obtain ⟨Z0, Z1, Z2, Z3⟩ := Box4.cells HX.out.2.1.b0
        have z0 := Box4.frozen HX.out.2.1.b0 0
        have z1 := Box4.frozen HX.out.2.1.b0 1
        have z2 := Box4.frozen HX.out.2.1.b0 2
        have z3 := Box4.frozen HX.out.2.1.b0 3
        go_wp2_with fail
        refine bodyPost_ret (v := .agg #[.string nm, .string ByteArray.empty, .bool true, .slice none 0 0]) (by simp [results, Try.results36, go_sem, Z0, Z1, Z2, Z3]) rfl ?_
        rw [HRL.out]
        exact TPre.done (r := .error j) HX.out.2.1 hp HX.out.2.2
      | ok q =>
        obtain ⟨xx, k5⟩ := q
        obtain ⟨rfl, hr5⟩ := hg5
        have hx5 := hxs _ rfl
        dsimp only at hr5 hx5 ⊢
        have HRL := (show Hid (RL = .ok (⟨nm, xx, true, []⟩, k5)) from hrl); clear hrl hxs
        have hB6 := Box4.set1 hT5.b1 (.string xx)
        have hx6 : xx.size ≤ maxLen := by simp at hx5; unfold maxLen; omega
        have hn6 : nm.size ≤ maxLen := by unfold maxLen; omega
        have HX := (show Hid _ from (⟨hT5, TPre.put hT5 hB6, rfl, rfl, rfl, own_leaf _ _ _ nm xx hn6 hx6, Rdr.past hr5 (by omega)⟩ : _ ∧ TPre w (w5.setCell ⟨w.heap.size + 1, 1, none⟩ (.string xx)) p (.string nm) (.string xx) (.bool true) (.slice none 0 0) ∧ STG (.ok (⟨nm, xx, true, []⟩, k5)) (w.heap.size + 1) p s nm xx true (.slice none 0 0) (w5.setCell ⟨w.heap.size + 1, 1, none⟩ (.string xx)))); clear hT5 hB6 ho5 hr5 hx6 hn6 hx5
        obtain ⟨t0, t1, t2, t3⟩ := Box4.cells HX.out.1.b1
        have r1 := Box4.frozen HX.out.1.b1 1
        obtain ⟨T0, T1, T2, T3⟩ := Box4.cells HX.out.2.1.b1
        obtain ⟨Z0, Z1, Z2, Z3⟩ := Box4.cells HX.out.2.1.b0
        have z0 := Box4.frozen HX.out.2.1.b0 0
        have z1 := Box4.frozen HX.out.2.1.b0 1
        have z2 := Box4.frozen HX.out.2.1.b0 2
        have z3 := Box4.frozen HX.out.2.1.b0 3
        go_wp2_with fail
        refine bodyPost_ret (v := .agg #[.string nm, .string xx, .bool true, .slice none 0 0]) (by simp [results, Try.results36, go_sem, Z0, Z1, Z2, Z3]) rfl ?_
        rw [HRL.out]
        exact TPre.done HX.out.2.1 hp HX.out.2.2
  · rw [decide_eq_false hlt] at HM
    clear h40
    go_enter Try.func36, Try.ntmps36
    go_wp2_with fail
    go_quiet ((go_at_call 47; refine Calls.quiet_of (HM.out _)))
    have HV := (show Hid _ from (⟨TPre.step HT0.out (Out.drewN (Out.refl p (p + 1) _) nq) hp, Rdr.keep HR2.out rfl⟩ : TPre w (((w.alloc (.cells #[.string ⟨#[]⟩, .string ⟨#[]⟩, .bool false, .slice none 0 0] 29)).alloc (.cells #[.string ⟨#[]⟩, .string ⟨#[]⟩, .bool false, .slice none 0 0] 29)).drewN nq) p (.string ByteArray.empty) (.string ByteArray.empty) (.bool false) (.slice none 0 0) ∧ Rdr (((w.alloc (.cells #[.string ⟨#[]⟩, .string ⟨#[]⟩, .bool false, .slice none 0 0] 29)).alloc (.cells #[.string ⟨#[]⟩, .string ⟨#[]⟩, .bool false, .slice none 0 0] 29)).drewN nq) p s k))
    clear x0 x1 x2 y1 y2 HM HT0 HR2 hlt
    generalize ((w.alloc (.cells #[.string ⟨#[]⟩, .string ⟨#[]⟩, .bool false, .slice none 0 0] 29)).alloc (.cells #[.string ⟨#[]⟩, .string ⟨#[]⟩, .bool false, .slice none 0 0] 29)).drewN nq = V at *
    obtain ⟨t0, t1, t2, t3⟩ := Box4.cells HV.out.1.b1
    have r2 := Box4.frozen HV.out.1.b1 2
    have hB2 := Box4.set2 HV.out.1.b1 (.bool true)
    have HV1 := (show Hid _ from (⟨TPre.put HV.out.1 hB2, Rdr.past HV.out.2 (by omega)⟩ : TPre w (V.setCell ⟨w.heap.size + 1, 2, none⟩ (.bool true)) p (.string ByteArray.empty) (.string ByteArray.empty) (.bool true) (.slice none 0 0) ∧ Rdr (V.setCell ⟨w.heap.size + 1, 2, none⟩ (.bool true)) p s k)); clear hB2
    go_wp2_with fail
    clear t0 t1 t2 t3 r2
    generalize V.setCell ⟨w.heap.size + 1, 2, none⟩ (.bool true) = V1 at *
    have H2 := (show Hid _ from HN.out V1 HV1.out.2)
    obtain ⟨hpl, hll, hsm, hfit⟩ := HPL.out
    generalize pName s k = rn at *
    refine Calls.mono H2.out ?_
    rintro e w2 ⟨ho2, hg2⟩
    cases rn with
    | error j =>
      obtain ⟨rfl, hb2⟩ := hg2
      have HRL := (show Hid (RL = .error j) from hpl); clear hpl hll hsm hfit
      have HP2 := (show Hid _ from (⟨TPre.step HV1.out.1 ho2 hp, hb2⟩ : _ ∧ _)); clear ho2 hb2
      have hB3 := Box4.set0 HP2.out.1.b1 (.string ByteArray.empty)
      have HP3 := (show Hid _ from (⟨TPre.put HP2.out.1 hB3, Bad.past HP2.out.2 (by omega)⟩ : TPre w (w2.setCell ⟨w.heap.size + 1, 0, none⟩ (.string ByteArray.empty)) p (.string ByteArray.empty) (.string ByteArray.empty) (.bool true) (.slice none 0 0) ∧ Bad (w2.setCell ⟨w.heap.size + 1, 0, none⟩ (.string ByteArray.empty)) p s j)); clear hB3
      obtain ⟨t0, t1, t2, t3⟩ := Box4.cells HP2.out.1.b1
      have r0 := Box4.frozen HP2.out.1.b1 0
      obtain ⟨_, bc, _, hbc⟩ := HP3.out.2
      obtain ⟨_, _, v2, _, _⟩ := RdB.cells hbc
      have hdn : decide ((j : Int) < 0) = false := by simp
      clear hbc
      go_wp2_with fail
      go_quiet (fail)
      have HB := (show Hid _ from (⟨TPre.step HP3.out.1 (Out.drewN (Out.refl p (p + 1) _) nq) hp, Bad.keep HP3.out.2 rfl⟩ : TPre w ((w2.setCell ⟨w.heap.size + 1, 0, none⟩ (.string ByteArray.empty)).drewN nq) p (.string ByteArray.empty) (.string ByteArray.empty) (.bool true) (.slice none 0 0) ∧ Bad ((w2.setCell ⟨w.heap.size + 1, 0, none⟩ (.string ByteArray.empty)).drewN nq) p s j))
      clear t0 t1 t2 t3 r0 v2 hdn
      generalize (w2.setCell ⟨w.heap.size + 1, 0, none⟩ (.string ByteArray.empty)).drewN nq = U at *
      obtain ⟨ba, hba, hbb, hbt⟩ := Bad.next HB.out.2
      obtain ⟨x0, x1, x2, y1, y2⟩ := RdB.cells hbb
      have HB4 := (show Hid _ from (⟨TPre.step HB.out.1 (Out.set (o := 1) U (.int .i64 ((ba : Int) + 1)) (Nat.le_refl p) (Nat.lt_succ_self p)) hp, hbt⟩ : _ ∧ _))
      obtain ⟨Z0, Z1, Z2, Z3⟩ := Box4.cells HB4.out.1.b0
      have z0 := Box4.frozen HB4.out.1.b0 0
      have z1 := Box4.frozen HB4.out.1.b0 1
      have z2 := Box4.frozen HB4.out.1.b0 2
      have z3 := Box4.frozen HB4.out.1.b0 3
      obtain ⟨T0, T1, T2, T3⟩ := Box4.cells HB4.out.1.b1
      obtain ⟨_, bc, _, hbc⟩ := HB4.out.2
      obtain ⟨_, _, v2, _, _⟩ := RdB.cells hbc
      have hdn : decide ((j : Int) < 0) = false := by simp
      clear hbb hbt hbc
      go_wp2_with fail
      refine bodyPost_ret (v := .agg #[.string ByteArray.empty, .string ByteArray.empty, .bool true, .slice none 0 0]) (by simp [results, Try.results36, go_sem, Z0, Z1, Z2, Z3]) rfl ?_
      rw [HRL.out]
      exact TPre.done (r := .error j) HB4.out.1 hp HB4.out.2
    | ok a =>
      obtain ⟨nm, k1⟩ := a
      have hnm := hsm _ rfl
      obtain ⟨hk1, hk1s⟩ := hfit
      dsimp only at hnm hk1 hk1s hpl
      rcases hg2 with ⟨htl, rfl, hb2⟩ | ⟨htl, rfl, hr2⟩
      · have HRL := (show Hid (RL = .error k1) from hll _ rfl htl); clear hpl hll hsm htl
        dsimp only at hb2
        have HP2 := (show Hid _ from (⟨TPre.step HV1.out.1 ho2 hp, hb2⟩ : _ ∧ _)); clear ho2 hb2
        have hB3 := Box4.set0 HP2.out.1.b1 (.string ByteArray.empty)
        have HP3 := (show Hid _ from (⟨TPre.put HP2.out.1 hB3, Bad.past HP2.out.2 (by omega)⟩ : TPre w (w2.setCell ⟨w.heap.size + 1, 0, none⟩ (.string ByteArray.empty)) p (.string ByteArray.empty) (.string ByteArray.empty) (.bool true) (.slice none 0 0) ∧ Bad (w2.setCell ⟨w.heap.size + 1, 0, none⟩ (.string ByteArray.empty)) p s k1)); clear hB3
        obtain ⟨t0, t1, t2, t3⟩ := Box4.cells HP2.out.1.b1
        have r0 := Box4.frozen HP2.out.1.b1 0
        obtain ⟨_, bc, _, hbc⟩ := HP3.out.2
        obtain ⟨_, _, v2, _, _⟩ := RdB.cells hbc
        have hdn : decide ((k1 : Int) < 0) = false := by simp
        clear hbc
        go_wp2_with fail
        go_quiet (fail)
        have HB := (show Hid _ from (⟨TPre.step HP3.out.1 (Out.drewN (Out.refl p (p + 1) _) nq) hp, Bad.keep HP3.out.2 rfl⟩ : TPre w ((w2.setCell ⟨w.heap.size + 1, 0, none⟩ (.string ByteArray.empty)).drewN nq) p (.string ByteArray.empty) (.string ByteArray.empty) (.bool true) (.slice none 0 0) ∧ Bad ((w2.setCell ⟨w.heap.size + 1, 0, none⟩ (.string ByteArray.empty)).drewN nq) p s k1))
        clear t0 t1 t2 t3 r0 v2 hdn
        generalize (w2.setCell ⟨w.heap.size + 1, 0, none⟩ (.string ByteArray.empty)).drewN nq = U at *
        obtain ⟨ba, hba, hbb, hbt⟩ := Bad.next HB.out.2
        obtain ⟨x0, x1, x2, y1, y2⟩ := RdB.cells hbb
        have HB4 := (show Hid _ from (⟨TPre.step HB.out.1 (Out.set (o := 1) U (.int .i64 ((ba : Int) + 1)) (Nat.le_refl p) (Nat.lt_succ_self p)) hp, hbt⟩ : _ ∧ _))
        obtain ⟨Z0, Z1, Z2, Z3⟩ := Box4.cells HB4.out.1.b0
        have z0 := Box4.frozen HB4.out.1.b0 0
        have z1 := Box4.frozen HB4.out.1.b0 1
        have z2 := Box4.frozen HB4.out.1.b0 2
        have z3 := Box4.frozen HB4.out.1.b0 3
        obtain ⟨T0, T1, T2, T3⟩ := Box4.cells HB4.out.1.b1
        obtain ⟨_, bc, _, hbc⟩ := HB4.out.2
        obtain ⟨_, _, v2, _, _⟩ := RdB.cells hbc
        have hdn : decide ((k1 : Int) < 0) = false := by simp
        clear hbb hbt hbc
        go_wp2_with fail
        refine bodyPost_ret (v := .agg #[.string ByteArray.empty, .string ByteArray.empty, .bool true, .slice none 0 0]) (by simp [results, Try.results36, go_sem, Z0, Z1, Z2, Z3]) rfl ?_
        rw [HRL.out]
        exact TPre.done (r := .error k1) HB4.out.1 hp HB4.out.2
      clear hll hsm htl
      dsimp only at hr2 ⊢
      have HP2 := (show Hid _ from (⟨TPre.step HV1.out.1 ho2 hp, hr2⟩ : _ ∧ _)); clear ho2 hr2
      have hB3 := Box4.set0 HP2.out.1.b1 (.string nm)
      have HP3 := (show Hid _ from (⟨TPre.put HP2.out.1 hB3, Rdr.past HP2.out.2 (by omega)⟩ : TPre w (w2.setCell ⟨w.heap.size + 1, 0, none⟩ (.string nm)) p (.string nm) (.string ByteArray.empty) (.bool true) (.slice none 0 0) ∧ Rdr (w2.setCell ⟨w.heap.size + 1, 0, none⟩ (.string nm)) p s k1)); clear hB3
      obtain ⟨t0, t1, t2, t3⟩ := Box4.cells HP2.out.1.b1
      have r0 := Box4.frozen HP2.out.1.b1 0
      obtain ⟨x0, x1, x2, y1, y2⟩ := RdB.cells HP3.out.2.2.2
      have HM3 := (show Hid _ from fun n => more_any ((w2.setCell ⟨w.heap.size + 1, 0, none⟩ (.string nm)).drewN n) (p := p) (k := k1) (s := s) (Rdr.keep HP3.out.2 rfl))
      have HU0 := (show Hid _ from fun n => (⟨TPre.step HP3.out.1 (Out.drewN (Out.refl p (p + 1) _) n) hp, Rdr.keep HP3.out.2 rfl⟩ : TPre w ((w2.setCell ⟨w.heap.size + 1, 0, none⟩ (.string nm)).drewN n) p (.string nm) (.string ByteArray.empty) (.bool true) (.slice none 0 0) ∧ Rdr ((w2.setCell ⟨w.heap.size + 1, 0, none⟩ (.string nm)).drewN n) p s k1))
      by_cases hlt1 : k1 < s.size
      case neg =>
        rw [decide_eq_false hlt1] at HM3
        have HRL := (show Hid (RL = .error k1) from hpl.trans (if_neg (by unfold seesB; simp [hlt1]))); clear hpl
        go_wp2_with fail
        go_quiet ((go_at_call 47; refine Calls.quiet_of (HM3.out _)))
        have HU1 := (show Hid _ from HU0.out nq)
        clear t0 t1 t2 t3 r0 x0 x1 x2 y1 y2 HU0 HM3
        generalize (w2.setCell ⟨w.heap.size + 1, 0, none⟩ (.string nm)).drewN nq = U1 at *
        have HF := (show Hid _ from fail_any U1 HU1.out.2)
        go_wp2_with fail
        refine Calls.mono HF.out ?_
        rintro e U ⟨rfl, hoU, hbU⟩
        have HB := (show Hid _ from (⟨TPre.step HU1.out.1 hoU hp, hbU⟩ : _ ∧ _)); clear hoU hbU
        obtain ⟨ba, hba, hbb, hbt⟩ := Bad.next HB.out.2
        obtain ⟨x0, x1, x2, y1, y2⟩ := RdB.cells hbb
        have HB4 := (show Hid _ from (⟨TPre.step HB.out.1 (Out.set (o := 1) U (.int .i64 ((ba : Int) + 1)) (Nat.le_refl p) (Nat.lt_succ_self p)) hp, hbt⟩ : _ ∧ _))
        obtain ⟨Z0, Z1, Z2, Z3⟩ := Box4.cells HB4.out.1.b0
        have z0 := Box4.frozen HB4.out.1.b0 0
        have z1 := Box4.frozen HB4.out.1.b0 1
        have z2 := Box4.frozen HB4.out.1.b0 2
        have z3 := Box4.frozen HB4.out.1.b0 3
        obtain ⟨T0, T1, T2, T3⟩ := Box4.cells HB4.out.1.b1
        obtain ⟨_, bc, _, hbc⟩ := HB4.out.2
        obtain ⟨_, _, v2, _, _⟩ := RdB.cells hbc
        have hdn : decide ((k1 : Int) < 0) = false := by simp
        clear hbb hbt hbc
        go_wp2_with fail
        refine bodyPost_ret (v := .agg #[.string nm, .string ByteArray.empty, .bool true, .slice none 0 0]) (by simp [results, Try.results36, go_sem, Z0, Z1, Z2, Z3]) rfl ?_
        rw [HRL.out]
        exact TPre.done (r := .error k1) HB4.out.1 hp HB4.out.2
      rw [decide_eq_true hlt1] at HM3
      have hg1 := get!_eq s k1 hlt1
      have hlt1' : (k1 : Int) < s.size := by omega
      by_cases h34 : s[k1].toNat = 34
      case neg =>
        have hbn : ((s[k1].toNat : Int) != 34) = true := by simp; omega
        have HRL := (show Hid (RL = .error k1) from hpl.trans (if_neg (by unfold seesB; rw [hg1]; simp [hlt1]; exact fun e => h34 (by rw [e]; rfl)))); clear hpl h34 hg1
        go_wp2_with fail
        go_quiet ((go_at_call 47; refine Calls.quiet_of (HM3.out _)))
        have HU1 := (show Hid _ from HU0.out nq)
        clear t0 t1 t2 t3 r0 x0 x1 x2 y1 y2 HU0 HM3
        generalize (w2.setCell ⟨w.heap.size + 1, 0, none⟩ (.string nm)).drewN nq = U1 at *
        have HF := (show Hid _ from fail_any U1 HU1.out.2)
        go_wp2_with fail
        refine Calls.mono HF.out ?_
        rintro e U ⟨rfl, hoU, hbU⟩
        have HB := (show Hid _ from (⟨TPre.step HU1.out.1 hoU hp, hbU⟩ : _ ∧ _)); clear hoU hbU
        obtain ⟨ba, hba, hbb, hbt⟩ := Bad.next HB.out.2
        obtain ⟨x0, x1, x2, y1, y2⟩ := RdB.cells hbb
        have HB4 := (show Hid _ from (⟨TPre.step HB.out.1 (Out.set (o := 1) U (.int .i64 ((ba : Int) + 1)) (Nat.le_refl p) (Nat.lt_succ_self p)) hp, hbt⟩ : _ ∧ _))
        obtain ⟨Z0, Z1, Z2, Z3⟩ := Box4.cells HB4.out.1.b0
        have z0 := Box4.frozen HB4.out.1.b0 0
        have z1 := Box4.frozen HB4.out.1.b0 1
        have z2 := Box4.frozen HB4.out.1.b0 2
        have z3 := Box4.frozen HB4.out.1.b0 3
        obtain ⟨T0, T1, T2, T3⟩ := Box4.cells HB4.out.1.b1
        obtain ⟨_, bc, _, hbc⟩ := HB4.out.2
        obtain ⟨_, _, v2, _, _⟩ := RdB.cells hbc
        have hdn : decide ((k1 : Int) < 0) = false := by simp
        clear hbb hbt hbc
        go_wp2_with fail
        refine bodyPost_ret (v := .agg #[.string nm, .string ByteArray.empty, .bool true, .slice none 0 0]) (by simp [results, Try.results36, go_sem, Z0, Z1, Z2, Z3]) rfl ?_
        rw [HRL.out]
        exact TPre.done (r := .error k1) HB4.out.1 hp HB4.out.2
      have hbn : ((s[k1].toNat : Int) != 34) = false := by simp; omega
      have hrl : RL = mkLeaf nm (pText s (s.size + 1 - k1) (k1 + 1) []) := by rw [hpl, if_pos (by unfold seesB; rw [hg1]; simp [hlt1]; exact UInt8.toNat_inj.1 h34)]
      have HTX := (show Hid _ from fun w1 (h1 : Rdr w1 p s (k1 + 1)) => textS_any (f0 := s.size + 1 - k1) w1 h1 (by omega))
      have hxs := fun a (ha : pText s (s.size + 1 - k1) (k1 + 1) [] = .ok a) => pText_small _ _ _ a hlt1 ha
      clear hpl h34 hg1
      generalize pText s (s.size + 1 - k1) (k1 + 1) [] = rx at *
      go_wp2_with fail
      go_quiet ((go_at_call 47; refine Calls.quiet_of (HM3.out _)))
      have HU1 := (show Hid _ from HU0.out nq)
      clear t0 t1 t2 t3 r0 x0 x1 x2 y1 y2 HU0 HM3
      generalize (w2.setCell ⟨w.heap.size + 1, 0, none⟩ (.string nm)).drewN nq = U1 at *
      obtain ⟨x0, x1, x2, y1, y2⟩ := RdB.cells HU1.out.2.2.2
      have HU2 := (show Hid _ from (⟨TPre.step HU1.out.1 (Out.set (o := 1) U1 (.int .i64 ((k1 : Int) + 1)) (Nat.le_refl p) (Nat.lt_succ_self p)) hp, Rdr.next HU1.out.2 hlt1⟩ : _ ∧ _))
      obtain ⟨_, _, v2, _, _⟩ := RdB.cells' HU2.out.2.2.2
      go_wp2_with fail
      clear x0 x1 x2 y1 y2 v2
      generalize U1.setCell ⟨p, 1, none⟩ (.int .i64 ((k1 : Int) + 1)) = U2 at *
      refine Calls.mono (HTX.out U2 HU2.out.2) ?_
      rintro e w5 ⟨ho5, hg5⟩
      have hT5 := TPre.step HU2.out.1 ho5 hp
      cases rx with
      | error j =>
        obtain ⟨rfl, hb5⟩ := hg5
        have HRL := (show Hid (RL = .error j) from hrl); clear hrl hxs
        have hB6 := Box4.set1 hT5.b1 (.string ByteArray.empty)
        have HX := (show Hid _ from (⟨hT5, TPre.put hT5 hB6, BadT.past (Bad.t hb5) (by omega)⟩ : _ ∧ TPre w (w5.setCell ⟨w.heap.size + 1, 1, none⟩ (.string ByteArray.empty)) p (.string nm) (.string ByteArray.empty) (.bool true) (.slice none 0 0) ∧ BadT (w5.setCell ⟨w.heap.size + 1, 1, none⟩ (.string ByteArray.empty)) p s j)); clear hT5 hB6 ho5 hb5
        obtain ⟨t0, t1, t2, t3⟩ := Box4.cells HX.out.1.b1
        have r1 := Box4.frozen HX.out.1.b1 1
        obtain ⟨T0, T1, T2, T3⟩ := Box4.cells HX.out.2.1.b1
        obtain ⟨Z0, Z1, Z2, Z3⟩ := Box4.cells HX.out.2.1.b0
        have z0 := Box4.frozen HX.out.2.1.b0 0
        have z1 := Box4.frozen HX.out.2.1.b0 1
        have z2 := Box4.frozen HX.out.2.1.b0 2
        have z3 := Box4.frozen HX.out.2.1.b0 3
        go_wp2_with fail
        refine bodyPost_ret (v := .agg #[.string nm, .string ByteArray.empty, .bool true, .slice none 0 0]) (by simp [results, Try.results36, go_sem, Z0, Z1, Z2, Z3]) rfl ?_
        rw [HRL.out]
        exact TPre.done (r := .error j) HX.out.2.1 hp HX.out.2.2
      | ok q =>
        obtain ⟨xx, k5⟩ := q
        obtain ⟨rfl, hr5⟩ := hg5
        have hx5 := hxs _ rfl
        dsimp only at hr5 hx5 ⊢
        have HRL := (show Hid (RL = .ok (⟨nm, xx, true, []⟩, k5)) from hrl); clear hrl hxs
        have hB6 := Box4.set1 hT5.b1 (.string xx)
        have hx6 : xx.size ≤ maxLen := by simp at hx5; unfold maxLen; omega
        have hn6 : nm.size ≤ maxLen := by unfold maxLen; omega
        have HX := (show Hid _ from (⟨hT5, TPre.put hT5 hB6, rfl, rfl, rfl, own_leaf _ _ _ nm xx hn6 hx6, Rdr.past hr5 (by omega)⟩ : _ ∧ TPre w (w5.setCell ⟨w.heap.size + 1, 1, none⟩ (.string xx)) p (.string nm) (.string xx) (.bool true) (.slice none 0 0) ∧ STG (.ok (⟨nm, xx, true, []⟩, k5)) (w.heap.size + 1) p s nm xx true (.slice none 0 0) (w5.setCell ⟨w.heap.size + 1, 1, none⟩ (.string xx)))); clear hT5 hB6 ho5 hr5 hx6 hn6 hx5
        obtain ⟨t0, t1, t2, t3⟩ := Box4.cells HX.out.1.b1
        have r1 := Box4.frozen HX.out.1.b1 1
        obtain ⟨T0, T1, T2, T3⟩ := Box4.cells HX.out.2.1.b1
        obtain ⟨Z0, Z1, Z2, Z3⟩ := Box4.cells HX.out.2.1.b0
        have z0 := Box4.frozen HX.out.2.1.b0 0
        have z1 := Box4.frozen HX.out.2.1.b0 1
        have z2 := Box4.frozen HX.out.2.1.b0 2
        have z3 := Box4.frozen HX.out.2.1.b0 3
        go_wp2_with fail
        refine bodyPost_ret (v := .agg #[.string nm, .string xx, .bool true, .slice none 0 0]) (by simp [results, Try.results36, go_sem, Z0, Z1, Z2, Z3]) rfl ?_
        rw [HRL.out]
        exact TPre.done HX.out.2.1 hp HX.out.2.2
end Go.Proofs.Ythmdoplickpmaah
