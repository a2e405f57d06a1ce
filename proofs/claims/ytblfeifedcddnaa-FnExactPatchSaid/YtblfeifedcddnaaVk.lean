import Derived.Test.YtblfeifedcddnaaVh
import Derived.Test.YtblfeifedcddnaaSt
import Derived.Test.YtblfeifedcddnaaSize
/-! The program: deltaRight; a row of trees that lead elsewhere, one more. -/
namespace Go.Proofs.Ytblfeifedcddnaa
open Go.RowKit Go.Deep Go.Lib
set_option linter.unusedVariables false
set_option maxRecDepth 100000
set_option linter.unusedSimpArgs false

theorem lies_no (w : World) (S : Nat → Prop) : Lies w S noTr (.slice none 0 0) :=
  Lies.shut ⟨none, 0, 0, 0, fun _ => .bool false, rfl, by show (0 : Nat) ≤ _; exact Nat.zero_le _, by show (0 : Nat) ≤ _; exact Nat.zero_le _, Nat.le_refl _, Nat.zero_le _, fun h => absurd h (Nat.not_lt_zero _), fun i hi => absurd hi (Nat.not_lt_zero _), fun i hi => absurd hi (Nat.not_lt_zero _)⟩
set_option maxHeartbeats 1600000 in
theorem right109 {S : Nat → Prop} (d : De) (tv kv : Value) (w : World) (h : DLies w S d tv kv) :
    Calls Try.prog 109 #[d.val tv kv] w fun e w' => e = .returned (.bool (arB d)) ∧ Below w.heap.size w w' := by
  obtain ⟨c, t, k⟩ := d
  obtain ⟨ht, ka, kp, _, _, _, _, hv, hc, hm, _⟩ := h.out
  dsimp only at ht hv hc
  unfold maxLen at hm
  obtain ⟨ta, tl, tp, rfl⟩ := ht.form
  subst hv
  have HO := (show Hid _ from fun (wq : World) (hb : Below w.heap.size w wq) => iOK_any t _ wq (ht.still hb))
  have HS := (show Hid _ from fun (wq : World) (hb : Below w.heap.size w wq) => same109 t noTr _ (.slice none 0 0) wq (ht.still hb) (lies_no wq (fun _ => True)))
  rw [zeB_eqT] at HS
  have HA := (show Hid (arB ⟨c, t, k⟩ = ((if c = 2 ∨ c = 5 then t.ok else zeB t) && (decide (c = 3) || decide (k.length = 0)))) from (by show _ = _; rw [← isEmpty_len]; rfl))
  clear h ht
  simp only [De.val, Tr.val, noTr] at HO HS ⊢
  generalize arB ⟨c, t, k⟩ = R at *
  by_cases h3 : c = 3
  · subst h3
    have HE := (show Hid (R = zeB t) from (by show R = zeB t; rw [HA.out]; simp))
    clear HA HO
    generalize zeB t = z at *
    go_enter Try.func109, Try.ntmps109
    go_wp2_with fail
    refine Calls.mono (HS.out _ (bel_alloc _ _)) ?_
    rintro e w1 ⟨rfl, hb1⟩
    have HB := (show Hid _ from bel_trans (bel_alloc w (.cells #[.int .i64 3, .string t.name, .string t.text, .bool t.leaf, .slice ta tl tp, .slice ka k.length kp] 57)) hb1)
    clear hb1 HS
    go_wp2_with fail
    go_ret
    exact ⟨by rw [HE.out]; rfl, HB.out⟩
  · have i3 : (c != 3) = true := by simpa using h3
    by_cases hk : k.length = 0
    · have ik : decide ((0 : Int) < (k.length : Int)) = false := decide_eq_false (by omega)
      by_cases h2 : c = 2 ∨ c = 5
      · have HE := (show Hid (R = t.ok) from (by show R = t.ok; rw [HA.out]; simp [h2, hk]))
        clear HA HS
        generalize t.ok = z at *
        rcases h2 with rfl | rfl
        all_goals
          clear h3
          go_enter Try.func109, Try.ntmps109
          go_wp2_with fail
          refine Calls.mono (HO.out _ (bel_alloc _ _)) ?_
          rintro e w1 ⟨rfl, hb1⟩
          have HB := (show Hid _ from bel_trans (bel_alloc _ _) hb1)
          clear hb1 HO
          go_wp2_with fail
          go_ret
          exact ⟨by rw [HE.out]; rfl, HB.out⟩
      · have h2a : (c == 2) = false := by simp; intro h; exact h2 (.inl h)
        have h5a : (c == 5) = false := by simp; intro h; exact h2 (.inr h)
        have HE := (show Hid (R = zeB t) from (by show R = zeB t; rw [HA.out]; simp [h2, hk]))
        clear HA HO
        generalize zeB t = z at *
        clear h3 h2
        go_enter Try.func109, Try.ntmps109
        go_wp2_with fail
        refine Calls.mono (HS.out _ (bel_alloc _ _)) ?_
        rintro e w1 ⟨rfl, hb1⟩
        have HB := (show Hid _ from bel_trans (bel_alloc _ _) hb1)
        clear hb1 HS
        go_wp2_with fail
        go_ret
        exact ⟨by rw [HE.out]; rfl, HB.out⟩
    · have ik : decide ((0 : Int) < (k.length : Int)) = true := decide_eq_true (by omega)
      have HE := (show Hid (R = false) from (by show R = false; rw [HA.out]; simp [hk, h3]))
      clear HA HO HS h3
      go_enter Try.func109, Try.ntmps109
      go_wp2_with fail
      go_ret
      exact ⟨by rw [HE.out]; rfl, bel_alloc _ _⟩
theorem FGr.app {m : List Tr} {C B : Nat} {u : Value} {w : World} (t : Tr) (h : FGr m C B m.length u w) : FGr (m ++ [t]) C B m.length u w := by
  obtain ⟨fs, h1, h2⟩ := h
  exact ⟨fs, by rw [kc_app _ _ _ _ (Nat.le_refl _)]; exact h1, fun i hi => by rw [nth_app hi]; exact h2 i hi⟩
theorem FGr.past {m : List Tr} {C B j g o : Nat} {u x : Value} {w : World} (h : FGr m C B j u w) (h1 : C ≤ g) (h2 : g < B) : FGr m C B j u (w.setCell ⟨g, o, none⟩ x) := by
  obtain ⟨fs, hown, hls⟩ := h
  refine ⟨fs, own_keep1 hown (fun q hq => blk_setCell_other _ _ _ _ (by have := hown.lt q hq; show q ≠ g; omega)), fun i hi => (hls i hi).keep (fun q hq => blk_setCell_other _ _ _ _ (by show q ≠ g; omega))⟩
/-- .. where all but one block, which is none of it, is as it was. -/
theorem FGr.but {m : List Tr} {C B j g : Nat} {u : Value} {w w' : World} (h : FGr m C B j u w) (h1 : C ≤ g) (h2 : g < B) (hb : But g w w') : FGr m C B j u w' := by
  obtain ⟨fs, hown, hls⟩ := h
  refine ⟨fs, own_keep1 hown (fun q hq => hb.block (hown.lt q hq).2 (by have := hown.lt q hq; omega)), fun i hi => ((hls i hi).lt.keep (fun q hq => hb.block hq.2 (by omega))).mono (fun q hq => hq.1)⟩
end Go.Proofs.Ytblfeifedcddnaa
