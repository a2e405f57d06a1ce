import Derived.Test.YthmdoplickpmaaiRxEsc
namespace Go.Proofs.Ythmdoplickpmaai
open Go.RowKit Go.Deep Go.Lib
set_option linter.unusedVariables false
set_option maxRecDepth 100000
set_option linter.unusedSimpArgs false

set_option maxHeartbeats 1600000 in
theorem one_any {p q k : Nat} {s : ByteArray} (g : ByteArray) (w : World) (h : Scn w p q s k) :
    Calls Try.prog 93 #[.pointer (some ⟨p, 0, none⟩), .string g] w fun e w' => Out p (p + 1) w w' ∧ Got (xOne g.data.toList s k) p q s e w' := by
  have hk := h.1
  have hs := h.2.1
  have hc1 := sees_any 92 w h
  cases h1 : seesB s k 92
  case true =>
    have hlt := seesB_lt h1
    rw [h1] at hc1
    have hr : xOne g.data.toList s k = xEsc s (k + 1) := by unfold xOne; rw [if_pos h1]
    rw [hr]
    clear h hr h1
    have HC1 := (show Hid _ from hc1); clear hc1
    have HE : Hid (∀ w', Scn w' p q s (k + 1) → Calls Try.prog 100 #[.pointer (some ⟨p, 0, none⟩)] w' fun e w'' => Out p (p + 1) w' w'' ∧ Got (xEsc s (k + 1)) p q s e w'') := fun w' h' => esc_any w' h'
    generalize xEsc s (k + 1) = r at *
    go_enter Try.func93, Try.ntmps93
    go_wp2_with fail
    refine Calls.mono HC1.out ?_
    rintro e w1 ⟨rfl, ho1, hs1⟩
    obtain ⟨x0, x1, y1⟩ := hs1.cells
    have HC := (show Hid _ from HE.out _ (hs1.next hlt))
    have HO := (show Hid _ from (Out.trans ho1 (Out.set (o := 1) w1 (.int .i64 ((k : Int) + 1)) (Nat.le_refl p) (Nat.lt_succ_self p)))); clear hs1 ho1
    go_wp2_with fail
    refine Calls.mono HC.out ?_
    rintro e w3 ⟨ho3, hg3⟩
    have HO3 := (show Hid _ from Out.trans HO.out ho3)
    rcases hg3.ok with ⟨b, k', rfl, rfl, hs3⟩ | ⟨j, rfl, rfl⟩
    · go_wp2_with fail
      go_ret
      exact ⟨HO3.out, rfl, hs3⟩
    · go_wp2_with fail
      exact ⟨rfl, HO3.out, rfl⟩
  rw [h1] at hc1
  have HC1 := (show Hid _ from hc1); clear hc1
  have HPL : Hid (∀ w', Scn w' p q s k → Calls Try.prog 102 #[.pointer (some ⟨p, 0, none⟩)] w' fun e w'' => Out p (p + 1) w' w'' ∧ Got (xPlain s k) p q s e w'') := fun w' h' => plain_any w' h'
  have HFL : Hid (∀ w', Scn w' p q s k → Calls Try.prog 59 #[.pointer (some ⟨p, 0, none⟩)] w' fun e w'' => e = .returned (.agg #[.int .i64 2, .int .i64 k]) ∧ Below w'.heap.size w' w'') := fun w' h' => fault_any w' h'
  by_cases hlt : k < s.size
  case neg =>
    have hr : xOne g.data.toList s k = xPlain s k := by unfold xOne; rw [if_neg (by rw [h1]; simp), if_neg (by simp [hlt])]
    rw [hr]
    have hd : decide ((k : Int) < s.size) = false := by simp; omega
    clear h hr h1
    generalize xPlain s k = r at *
    go_enter Try.func93, Try.ntmps93
    go_wp2_with fail
    refine Calls.mono HC1.out ?_
    rintro e w2 ⟨rfl, ho2, hs2⟩
    obtain ⟨x0, x1, y1⟩ := hs2.cells
    have HF := (show Hid _ from fun n => HPL.out (w2.drewN n) (Scn.drewN hs2 n))
    have HO2 := (show Hid _ from ho2); clear ho2 hs2
    go_wp2_with fail
    go_quiet (fail)
    go_wp2_with fail
    refine Calls.mono (HF.out _) ?_
    rintro e w3 ⟨ho3, hg3⟩
    have HO3 := (show Hid _ from Out.trans (Out.drewN HO2.out _) ho3)
    rcases hg3.ok with ⟨b, k', rfl, rfl, hs3⟩ | ⟨j, rfl, rfl⟩
    · go_wp2_with fail
      go_ret
      exact ⟨HO3.out, rfl, hs3⟩
    · go_wp2_with fail
      exact ⟨rfl, HO3.out, rfl⟩
  have hlt' : (k : Int) < s.size := by omega
  have hg := get!_eq s k hlt
  have HX := (show Hid _ from fun w => idx_any g (s[k].toNat : Int) w)
  have hci := contains_iff_indexByte g.data.toList s[k]
  have hcc : ((s[k].toNat : Int)).toNat.toUInt8 = s[k] := by simp
  rw [hcc] at HX
  cases h4 : g.data.toList.contains s[k]
  case true =>
    have hr : xOne g.data.toList s k = .error k := by unfold xOne; rw [if_neg (by rw [h1]; simp), if_pos (by rw [hg, h4]; simp [hlt])]
    rw [hr]
    rw [h4] at hci
    have hge : decide ((0 : Int) ≤ indexByte g.data.toList s[k]) = true := hci.symm
    clear h hr h1 hg hci h4 hcc
    generalize indexByte g.data.toList s[k] = ix at *
    have hge' : (0 : Int) ≤ ix := by simpa using hge
    go_enter Try.func93, Try.ntmps93
    go_wp2_with fail
    refine Calls.mono HC1.out ?_
    rintro e w2 ⟨rfl, ho2, hs2⟩
    obtain ⟨x0, x1, y1⟩ := hs2.cells
    have HF := (show Hid _ from fun n => HFL.out (w2.drewN n) (Scn.drewN hs2 n))
    have HO2 := (show Hid _ from ho2); clear ho2 hs2
    go_wp2_with fail
    go_quiet ((go_at_call 101; refine Calls.quiet_of_same (HX.out _)))
    go_wp2_with fail
    refine Calls.mono (HF.out _) ?_
    rintro e w3 ⟨rfl, hb3⟩
    go_wp2_with fail
    exact ⟨rfl, Out.trans (Out.drewN HO2.out _) (Out.of_below hb3), rfl⟩
  have hr : xOne g.data.toList s k = xPlain s k := by unfold xOne; rw [if_neg (by rw [h1]; simp), if_neg (by rw [hg, h4]; simp)]
  rw [hr]
  rw [h4] at hci
  have hge : decide ((0 : Int) ≤ indexByte g.data.toList s[k]) = false := hci.symm
  clear h hr h1 hg hci h4 hcc
  generalize indexByte g.data.toList s[k] = ix at *
  have hge' : ix < (0 : Int) := by simpa using hge
  generalize xPlain s k = r at *
  go_enter Try.func93, Try.ntmps93
  go_wp2_with fail
  refine Calls.mono HC1.out ?_
  rintro e w2 ⟨rfl, ho2, hs2⟩
  obtain ⟨x0, x1, y1⟩ := hs2.cells
  have HF := (show Hid _ from fun n => HPL.out (w2.drewN n) (Scn.drewN hs2 n))
  have HO2 := (show Hid _ from ho2); clear ho2 hs2
  go_wp2_with fail
  go_quiet ((go_at_call 101; refine Calls.quiet_of_same (HX.out _)))
  go_wp2_with fail
  refine Calls.mono (HF.out _) ?_
  rintro e w3 ⟨ho3, hg3⟩
  have HO3 := (show Hid _ from Out.trans (Out.drewN HO2.out _) ho3)
  rcases hg3.ok with ⟨b, k', rfl, rfl, hs3⟩ | ⟨j, rfl, rfl⟩
  · go_wp2_with fail
    go_ret
    exact ⟨HO3.out, rfl, hs3⟩
  · go_wp2_with fail
    exact ⟨rfl, HO3.out, rfl⟩
end Go.Proofs.Ythmdoplickpmaai
