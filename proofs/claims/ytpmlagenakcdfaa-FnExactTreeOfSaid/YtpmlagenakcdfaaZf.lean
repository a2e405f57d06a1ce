import Derived.Test.YtpmlagenakcdfaaZe
/-! The specification: leaves of words that are Skip. -/
namespace Go.Proofs.Ytpmlagenakcdfaa
open Go.RowKit Go.Deep
set_option linter.unusedVariables false
set_option maxRecDepth 100000
set_option linter.unusedSimpArgs false

/-- A leaf more. -/
theorem leaf_join {w1 w3 : World} {B : Nat} {k : List T.Tr} {X : Wd} {g c g' c' : Nat} {fs : Nat → Value} {K : Nat → Prop} (h : SGs w1 B k g c fs K) (hsz : X.name.size ≤ maxLen ∧ X.text.size ≤ maxLen)
    (hown : w3.ownsRow B 48 4 (.slice (some ⟨g', 0, none⟩) (k.length + 1) c') (k.length + 1) (T.kc k fs k.length ++ [.string X.name, .string X.text, .bool true, .slice none 0 0])) (hgr : w1.grownBy w3 (some g)) (hat : some g = some g' ∨ g' = w1.heap.size) :
    ∃ fs' K', SGs w3 B (k ++ [lf X]) g' c' fs' K' := by
  have hs := hgr.size
  refine ⟨fun i => if i < k.length then fs i else .slice none 0 0, K, ?_, fun i hi => ?_, fun q hq => ?_⟩
  · have e := kc_join k [lf X] fs (fun _ => .slice none 0 0) 1 (by simp)
    have e2 : (k ++ [lf X]).length = k.length + 1 := by simp
    rw [e2, e]
    exact hown
  · by_cases hlt : i < k.length
    · rw [if_pos hlt, T.nth_ext k [lf X] hlt]
      exact (h.lies i hlt).keep (fun q hq => hgr.block q (h.kk q hq).2.1 (fun e => by injection e with e; exact (h.kk q hq).2.2 e))
    · rw [if_neg hlt]
      have e1 : T.nth (k ++ [lf X]) i = lf X := by
        have : i = k.length := by simp at hi; omega
        subst this
        unfold T.nth
        rw [List.getElem?_append_right (Nat.le_refl _)]
        simp
      rw [e1]
      exact (T.Own.lies (T.own_leaf w3 0 0 X.name X.text hsz.1 hsz.2)).mono (fun q hq => absurd hq.2 (Nat.not_lt_zero _))
  · obtain ⟨a1, a2, a3⟩ := h.kk q hq
    refine ⟨a1, by omega, fun e => ?_⟩
    rcases hat with e2 | e2
    · injection e2 with e2; omega
    · omega
theorem sks_len (ws : List Wd) : (sks ws).1.length + (sks ws).2.length = ws.length := by
  induction ws with
  | nil => rfl
  | cons x ws ih =>
    by_cases h : x.skip = true
    · simp only [sks, if_pos h, List.length_cons]
      omega
    · simp only [sks, if_neg h, List.length_cons, List.length_nil]
      omega
theorem sks_drop {W : List Wd} {t : Nat} (h : t < W.length) : W.drop t = W[t] :: W.drop (t + 1) := List.drop_eq_getElem_cons h
/-- What skips leaves. -/
def SkA (d : Bn) (S S' : Nat → Prop) (R : Nat) (v0 v1 v3 vw : Value) (W : List Wd) (t : Nat) (w : World) (e : Ending) (w' : World) : Prop :=
  ∃ (u' : Value) (t' : Nat), e = .returned u' ∧ Kp w.heap.size R w w' ∧ TgI d S S' R v0 v1 v3 vw W w' t' ∧ W.drop t' = (sks (W.drop t)).2 ∧ SG w' w.heap.size (sks (W.drop t)).1 u'
set_option maxHeartbeats 25600000 in
theorem skips_s {S S' : Nat → Prop} {R : Nat} {v0 v1 v3 vw : Value} (d : Bn) (W : List Wd) (t : Nat) (w : World) (h : TgI d S S' R v0 v1 v3 vw W w t) (hW : W.length ≤ 1000) :
    Calls Try.prog 50 #[.pointer (some ⟨R, 0, none⟩)] w fun e w' => SkA d S S' R v0 v1 v3 vw W t w e w' := by
  have HT0 := (show Hid _ from h)
  have hRw := h.box.lt
  have HRB := (show Hid _ from hRw)
  obtain ⟨i48, hi48, hzz⟩ := Option.map_eq_some_iff.1 info48y
  simp only [Prod.mk.injEq] at hzz
  obtain ⟨hz0, hz1, hz2⟩ := hzz
  have HI0 := (show Hid (∀ n, Kp w.heap.size R w ((w.alloc (.cells #[] 48)).drewN n) ∧ TgI d S S' R v0 v1 v3 vw W ((w.alloc (.cells #[] 48)).drewN n) t ∧ SG ((w.alloc (.cells #[] 48)).drewN n) w.heap.size [] (.slice (some ⟨w.heap.size, 0, none⟩) 0 0)) from fun n => ⟨(Below.kp (bel_alloc w _) R).drewN n, (h.still (bel_alloc w _)).keep (fun _ _ => rfl), _, _, _, _, rfl, (SGs.made w w.heap.size (Nat.le_refl _)).keep (Nat.le_refl _) (fun _ _ _ => rfl)⟩)
  clear h hRw
  go_enter Try.func50, Try.ntmps50
  go_wp2_with fail
  go_loopw [3] (fun u wr => ∃ (k' : List T.Tr) (au : Option Addr) (cu : Nat), u = .slice au k'.length cu ∧ ∃ t1 : Nat, Hid (Kp w.heap.size R w wr ∧ TgI d S S' R v0 v1 v3 vw W wr t1 ∧ SG wr w.heap.size k' (.slice au k'.length cu)) ∧ Hid (k' ++ (sks (W.drop t1)).1 = (sks (W.drop t)).1 ∧ (sks (W.drop t1)).2 = (sks (W.drop t)).2)) (fun u _ => (sks (W.drop t)).1.length - lenOf u)
  case atStart => exact ⟨[], _, _, rfl, t, HI0.out 0, rfl, rfl⟩
  case round =>
    obtain ⟨k', au, cu, rfl, t1, HA, HE⟩ := hrel
    obtain ⟨fs, K, gu, cu2, hu, hsg⟩ := HA.out.2.2
    injection hu with e1 e2 e3
    subst e1
    subst e3
    have HSG := (show Hid _ from hsg)
    have HTG := (show Hid _ from HA.out.2.1)
    have HKP := (show Hid _ from HA.out.1)
    obtain ⟨aw, cw, bw, ow, rfl, hcw, hmw, haw, hcellw⟩ := HTG.out.words
    have x4 : wr.cell? ⟨R, 4, none⟩ = some (.slice aw W.length cw) := HTG.out.box.cell 4 (by simp)
    have x5 : wr.cell? ⟨R, 5, none⟩ = some (.int .i64 (t1 : Int)) := HTG.out.box.cell 5 (by simp)
    have hle := HTG.out.le
    have HEND := (show Hid (∀ n, (sks (W.drop t1)).1 = [] → (sks (W.drop t1)).2 = W.drop t1 → Kp w.heap.size R w (wr.drewN n) ∧ TgI d S S' R v0 v1 v3 (.slice aw W.length cw) W (wr.drewN n) t1 ∧ W.drop t1 = (sks (W.drop t)).2 ∧ SG (wr.drewN n) w.heap.size (sks (W.drop t)).1 (.slice (some ⟨gu, 0, none⟩) k'.length cu)) from fun n h1 h2 => by
      have h3 := HE.out.1
      rw [h1, List.append_nil] at h3
      refine ⟨HKP.out.drewN n, HTG.out.keep (fun _ _ => rfl), by rw [← HE.out.2, h2], ?_⟩
      rw [← h3]
      exact ⟨fs, K, gu, cu, rfl, HSG.out.keep (Nat.le_refl _) (fun _ _ _ => rfl)⟩)
    clear hsg HA
    by_cases hlt : t1 < W.length
    · obtain ⟨c0, c1, c2, c3, c4, c5, s0, s1, s2⟩ := hcellw t1 hlt
      obtain ⟨rfl, hSw⟩ := haw (by omega)
      have hdr := sks_drop hlt
      obtain ⟨X, hX⟩ : ∃ X, W[t1] = X := ⟨_, rfl⟩
      rw [hX] at c0 c1 c4 s0 s1 hdr
      have hg1 : decide ((t1 : Int) < (W.length : Int)) = true := by simp; omega
      have hi1 : (0 : Int) ≤ (t1 : Int) ∧ (t1 : Int) < (W.length : Int) := by omega
      cases hsk : X.skip
      · rw [hsk] at c4
        have HEE := (show Hid (∀ n, _) from fun n => HEND.out n (by rw [hdr]; simp [sks, hsk]) (by rw [hdr]; simp [sks, hsk]))
        clear c0 c1 c2 c3 c5 hdr HEND hcellw haw hX
        go_upto_region 2 with fail
        go_quiet (fail)
        go_wp2_with fail
        go_ret
        exact ⟨_, t1, rfl, HEE.out _⟩
      · rw [hsk] at c4
        have HLSM := (show Hid (X.name.size ≤ maxLen ∧ X.text.size ≤ maxLen) from ⟨s0, s1⟩)
        have HPX : Hid ((k' ++ [lf X]) ++ (sks (W.drop (t1 + 1))).1 = (sks (W.drop t)).1 ∧ (sks (W.drop (t1 + 1))).2 = (sks (W.drop t)).2) := by
          have h1 := HE.out
          rw [hdr] at h1
          simp only [sks, hsk, if_true] at h1
          exact ⟨by rw [← h1.1]; simp, h1.2⟩
        have hln : k'.length + 1 ≤ (sks (W.drop t)).1.length := by
          have h1 := congrArg List.length HPX.out.1
          simp only [List.length_append, List.length_cons, List.length_nil] at h1
          omega
        have HLN := (show Hid _ from hln)
        have hkl : k'.length ≤ 1000 := by
          have h1 := sks_len (W.drop t)
          have h2 : (W.drop t).length ≤ 1000 := by simp; omega
          omega
        have HZR := (show Hid (w.heap.size ≤ wr.heap.size) from HKP.out.size)
        have HTS := (show Hid (∀ w', TgI d S S' R v0 v1 v3 (.slice (some ⟨bw, ow, none⟩) W.length cw) W w' t1 → (fun w' => w'.cell? ⟨R, 4, none⟩ = some (.slice (some ⟨bw, ow, none⟩) W.length cw) ∧ w'.cell? ⟨R, 5, none⟩ = some (.int .i64 (t1 : Int)) ∧ w'.cell? ⟨bw, ow + t1 * 6, none⟩ = some (.string X.name) ∧ w'.cell? ⟨bw, ow + t1 * 6 + 1, none⟩ = some (.string X.text)) w') from fun w' hT => by
          obtain ⟨aw', cw', bw', ow', e, _, _, haw', hcw'⟩ := hT.words
          injection e with e1 e2 e3
          obtain ⟨e4, _⟩ := haw' (by omega)
          rw [e4] at e1
          injection e1 with e1
          cases e1
          obtain ⟨d0, d1, _⟩ := hcw' t1 hlt
          rw [hX] at d0 d1
          exact ⟨hT.box.cell 4 (by simp), hT.box.cell 5 (by simp), d0, d1⟩)
        have HHS := (show Hid (∀ w', Below wr.heap.size wr w' → (fun w' => w'.cell? ⟨R, 4, none⟩ = some (.slice (some ⟨bw, ow, none⟩) W.length cw) ∧ w'.cell? ⟨R, 5, none⟩ = some (.int .i64 (t1 : Int)) ∧ w'.cell? ⟨bw, ow + t1 * 6, none⟩ = some (.string X.name) ∧ w'.cell? ⟨bw, ow + t1 * 6 + 1, none⟩ = some (.string X.text)) w') from fun w' hb => HTS.out w' (HTG.out.still hb))
        have hS3 : (fun w' => w'.cell? ⟨R, 4, none⟩ = some (.slice (some ⟨bw, ow, none⟩) W.length cw) ∧ w'.cell? ⟨R, 5, none⟩ = some (.int .i64 (t1 : Int)) ∧ w'.cell? ⟨bw, ow + t1 * 6, none⟩ = some (.string X.name) ∧ w'.cell? ⟨bw, ow + t1 * 6 + 1, none⟩ = some (.string X.text)) wr := HTS.out wr HTG.out
        clear c2 c3 c5 hdr HEND hcellw haw hX hln HE
        go_upto_region 2 with fail
        go_quiet (fail)
        go_upto_region 3 with fail
        have hS3 := hS3
        refine wp_region_held_drew (S := (fun w' => w'.cell? ⟨R, 4, none⟩ = some (.slice (some ⟨bw, ow, none⟩) W.length cw) ∧ w'.cell? ⟨R, 5, none⟩ = some (.int .i64 (t1 : Int)) ∧ w'.cell? ⟨bw, ow + t1 * 6, none⟩ = some (.string X.name) ∧ w'.cell? ⟨bw, ow + t1 * 6 + 1, none⟩ = some (.string X.text))) (by kernel_rfl) hS3 (fun hHeld => ?_)
        refine wpAnyH_take (i := 0) (oi := { dst := some 28, op := Go.Op.move (Go.Operand.tmp 3), type := 46, pos := "l06_parsing.go:401", after := #[], guard := none }) (v := ?v1) rfl (by kernel_rfl) (by kernel_rfl) (by kernel_rfl) (fun _ _ _ h => h) (Or.inl ⟨by rfl, ?h1⟩) hHeld ?r1
        case h1 => (intro w hSw; (try dsimp only at hSw); go_simp; try with_reducible rfl)
        try simp only [Act.put, List.setIfInBounds_toArray, List.set_cons_zero, List.set_cons_succ]
        refine wpAnyH_take (i := 1) (oi := { dst := some 29, op := Go.Op.move (Go.Operand.tmp 0), type := 87, pos := "l06_parsing.go:401", after := #[], guard := none }) (v := ?v2) rfl (by kernel_rfl) (by kernel_rfl) (by kernel_rfl) (fun _ _ _ h => h) (Or.inl ⟨by rfl, ?h2⟩) hHeld ?r2
        case h2 => (intro w hSw; (try dsimp only at hSw); go_simp; try with_reducible rfl)
        try simp only [Act.put, List.setIfInBounds_toArray, List.set_cons_zero, List.set_cons_succ]
        refine wpAnyH_take (i := 2) (oi := { dst := some 30, op := Go.Op.nilCheck (Go.Operand.tmp 29), type := 0, pos := "l06_parsing.go:401", after := #[{ on := 1, ground := Go.Ground.data }], guard := none }) (v := ?v3) rfl (by kernel_rfl) (by kernel_rfl) (by kernel_rfl) (fun _ _ _ h => h) (Or.inl ⟨by rfl, ?h3⟩) hHeld ?r3
        case h3 => (intro w hSw; (try dsimp only at hSw); go_simp; try with_reducible rfl)
        try simp only [Act.put, List.setIfInBounds_toArray, List.set_cons_zero, List.set_cons_succ]
        refine wpAnyH_take (i := 3) (oi := { dst := some 31, op := Go.Op.fieldAddr 89 (Go.Operand.tmp 30) 1, type := 0, pos := "l06_parsing.go:401", after := #[{ on := 2, ground := Go.Ground.data }], guard := none }) (v := ?v4) rfl (by kernel_rfl) (by kernel_rfl) (by kernel_rfl) (fun _ _ _ h => h) (Or.inl ⟨by rfl, ?h4⟩) hHeld ?r4
        case h4 => (intro w hSw; (try dsimp only at hSw); go_simp; try with_reducible rfl)
        try simp only [Act.put, List.setIfInBounds_toArray, List.set_cons_zero, List.set_cons_succ]
        refine wpAnyH_take (i := 4) (oi := { dst := some 32, op := Go.Op.load 51 (Go.Operand.tmp 31), type := 51, pos := "l06_parsing.go:401", after := #[{ on := 3, ground := Go.Ground.data }], guard := none }) (v := ?v5) rfl (by kernel_rfl) (by kernel_rfl) (by kernel_rfl) (fun _ _ _ h => h) (Or.inl ⟨by rfl, ?h5⟩) hHeld ?r5
        case h5 => (intro w hSw; (try dsimp only at hSw); go_simp; try with_reducible rfl)
        try simp only [Act.put, List.setIfInBounds_toArray, List.set_cons_zero, List.set_cons_succ]
        refine wpAnyH_take (i := 5) (oi := { dst := some 33, op := Go.Op.move (Go.Operand.tmp 0), type := 87, pos := "l06_parsing.go:401", after := #[], guard := none }) (v := ?v6) rfl (by kernel_rfl) (by kernel_rfl) (by kernel_rfl) (fun _ _ _ h => h) (Or.inl ⟨by rfl, ?h6⟩) hHeld ?r6
        case h6 => (intro w hSw; (try dsimp only at hSw); go_simp; try with_reducible rfl)
        try simp only [Act.put, List.setIfInBounds_toArray, List.set_cons_zero, List.set_cons_succ]
        refine wpAnyH_take (i := 6) (oi := { dst := some 34, op := Go.Op.nilCheck (Go.Operand.tmp 33), type := 0, pos := "l06_parsing.go:401", after := #[{ on := 5, ground := Go.Ground.data }], guard := none }) (v := ?v7) rfl (by kernel_rfl) (by kernel_rfl) (by kernel_rfl) (fun _ _ _ h => h) (Or.inl ⟨by rfl, ?h7⟩) hHeld ?r7
        case h7 => (intro w hSw; (try dsimp only at hSw); go_simp; try with_reducible rfl)
        try simp only [Act.put, List.setIfInBounds_toArray, List.set_cons_zero, List.set_cons_succ]
        refine wpAnyH_take (i := 7) (oi := { dst := some 35, op := Go.Op.fieldAddr 89 (Go.Operand.tmp 34) 2, type := 0, pos := "l06_parsing.go:401", after := #[{ on := 6, ground := Go.Ground.data }], guard := none }) (v := ?v8) rfl (by kernel_rfl) (by kernel_rfl) (by kernel_rfl) (fun _ _ _ h => h) (Or.inl ⟨by rfl, ?h8⟩) hHeld ?r8
        case h8 => (intro w hSw; (try dsimp only at hSw); go_simp; try with_reducible rfl)
        try simp only [Act.put, List.setIfInBounds_toArray, List.set_cons_zero, List.set_cons_succ]
        refine wpAnyH_take (i := 8) (oi := { dst := some 36, op := Go.Op.load 3 (Go.Operand.tmp 35), type := 3, pos := "l06_parsing.go:401", after := #[{ on := 7, ground := Go.Ground.data }], guard := none }) (v := ?v9) rfl (by kernel_rfl) (by kernel_rfl) (by kernel_rfl) (fun _ _ _ h => h) (Or.inl ⟨by rfl, ?h9⟩) hHeld ?r9
        case h9 => (intro w hSw; (try dsimp only at hSw); go_simp; try with_reducible rfl)
        try simp only [Act.put, List.setIfInBounds_toArray, List.set_cons_zero, List.set_cons_succ]
        refine wpAnyH_take (i := 9) (oi := { dst := some 37, op := Go.Op.indexAddr 51 (Go.Operand.tmp 32) (Go.Operand.tmp 36), type := 0, pos := "l06_parsing.go:401", after := #[{ on := 4, ground := Go.Ground.data }, { on := 8, ground := Go.Ground.data }], guard := none }) (v := ?v10) rfl (by kernel_rfl) (by kernel_rfl) (by kernel_rfl) (fun _ _ _ h => h) (Or.inl ⟨by rfl, ?h10⟩) hHeld ?r10
        case h10 => (intro w hSw; (try dsimp only at hSw); go_simp; try with_reducible rfl)
        try simp only [Act.put, List.setIfInBounds_toArray, List.set_cons_zero, List.set_cons_succ]
        refine wpAnyH_take (i := 10) (oi := { dst := some 38, op := Go.Op.fieldAddr 93 (Go.Operand.tmp 37) 0, type := 0, pos := "l06_parsing.go:401", after := #[{ on := 9, ground := Go.Ground.data }], guard := none }) (v := ?v11) rfl (by kernel_rfl) (by kernel_rfl) (by kernel_rfl) (fun _ _ _ h => h) (Or.inl ⟨by rfl, ?h11⟩) hHeld ?r11
        case h11 => (intro w hSw; (try dsimp only at hSw); go_simp; try with_reducible rfl)
        try simp only [Act.put, List.setIfInBounds_toArray, List.set_cons_zero, List.set_cons_succ]
        refine wpAnyH_take (i := 11) (oi := { dst := some 39, op := Go.Op.load 9 (Go.Operand.tmp 38), type := 9, pos := "l06_parsing.go:401", after := #[{ on := 10, ground := Go.Ground.data }], guard := none }) (v := ?v12) rfl (by kernel_rfl) (by kernel_rfl) (by kernel_rfl) (fun _ _ _ h => h) (Or.inl ⟨by rfl, ?h12⟩) hHeld ?r12
        case h12 => (intro w hSw; (try dsimp only at hSw); go_simp; try with_reducible rfl)
        try simp only [Act.put, List.setIfInBounds_toArray, List.set_cons_zero, List.set_cons_succ]
        refine wpAnyH_take (i := 12) (oi := { dst := some 40, op := Go.Op.move (Go.Operand.tmp 0), type := 87, pos := "l06_parsing.go:401", after := #[], guard := none }) (v := ?v13) rfl (by kernel_rfl) (by kernel_rfl) (by kernel_rfl) (fun _ _ _ h => h) (Or.inl ⟨by rfl, ?h13⟩) hHeld ?r13
        case h13 => (intro w hSw; (try dsimp only at hSw); go_simp; try with_reducible rfl)
        try simp only [Act.put, List.setIfInBounds_toArray, List.set_cons_zero, List.set_cons_succ]
        refine wpAnyH_take (i := 13) (oi := { dst := some 41, op := Go.Op.nilCheck (Go.Operand.tmp 40), type := 0, pos := "l06_parsing.go:401", after := #[{ on := 12, ground := Go.Ground.data }], guard := none }) (v := ?v14) rfl (by kernel_rfl) (by kernel_rfl) (by kernel_rfl) (fun _ _ _ h => h) (Or.inl ⟨by rfl, ?h14⟩) hHeld ?r14
        case h14 => (intro w hSw; (try dsimp only at hSw); go_simp; try with_reducible rfl)
        try simp only [Act.put, List.setIfInBounds_toArray, List.set_cons_zero, List.set_cons_succ]
        refine wpAnyH_take (i := 14) (oi := { dst := some 42, op := Go.Op.fieldAddr 89 (Go.Operand.tmp 41) 1, type := 0, pos := "l06_parsing.go:401", after := #[{ on := 13, ground := Go.Ground.data }], guard := none }) (v := ?v15) rfl (by kernel_rfl) (by kernel_rfl) (by kernel_rfl) (fun _ _ _ h => h) (Or.inl ⟨by rfl, ?h15⟩) hHeld ?r15
        case h15 => (intro w hSw; (try dsimp only at hSw); go_simp; try with_reducible rfl)
        try simp only [Act.put, List.setIfInBounds_toArray, List.set_cons_zero, List.set_cons_succ]
        refine wpAnyH_take (i := 15) (oi := { dst := some 43, op := Go.Op.load 51 (Go.Operand.tmp 42), type := 51, pos := "l06_parsing.go:401", after := #[{ on := 14, ground := Go.Ground.data }], guard := none }) (v := ?v16) rfl (by kernel_rfl) (by kernel_rfl) (by kernel_rfl) (fun _ _ _ h => h) (Or.inl ⟨by rfl, ?h16⟩) hHeld ?r16
        case h16 => (intro w hSw; (try dsimp only at hSw); go_simp; try with_reducible rfl)
        try simp only [Act.put, List.setIfInBounds_toArray, List.set_cons_zero, List.set_cons_succ]
        refine wpAnyH_take (i := 16) (oi := { dst := some 44, op := Go.Op.move (Go.Operand.tmp 0), type := 87, pos := "l06_parsing.go:401", after := #[], guard := none }) (v := ?v17) rfl (by kernel_rfl) (by kernel_rfl) (by kernel_rfl) (fun _ _ _ h => h) (Or.inl ⟨by rfl, ?h17⟩) hHeld ?r17
        case h17 => (intro w hSw; (try dsimp only at hSw); go_simp; try with_reducible rfl)
        try simp only [Act.put, List.setIfInBounds_toArray, List.set_cons_zero, List.set_cons_succ]
        refine wpAnyH_take (i := 17) (oi := { dst := some 45, op := Go.Op.nilCheck (Go.Operand.tmp 44), type := 0, pos := "l06_parsing.go:401", after := #[{ on := 16, ground := Go.Ground.data }], guard := none }) (v := ?v18) rfl (by kernel_rfl) (by kernel_rfl) (by kernel_rfl) (fun _ _ _ h => h) (Or.inl ⟨by rfl, ?h18⟩) hHeld ?r18
        case h18 => (intro w hSw; (try dsimp only at hSw); go_simp; try with_reducible rfl)
        try simp only [Act.put, List.setIfInBounds_toArray, List.set_cons_zero, List.set_cons_succ]
        refine wpAnyH_take (i := 18) (oi := { dst := some 46, op := Go.Op.fieldAddr 89 (Go.Operand.tmp 45) 2, type := 0, pos := "l06_parsing.go:401", after := #[{ on := 17, ground := Go.Ground.data }], guard := none }) (v := ?v19) rfl (by kernel_rfl) (by kernel_rfl) (by kernel_rfl) (fun _ _ _ h => h) (Or.inl ⟨by rfl, ?h19⟩) hHeld ?r19
        case h19 => (intro w hSw; (try dsimp only at hSw); go_simp; try with_reducible rfl)
        try simp only [Act.put, List.setIfInBounds_toArray, List.set_cons_zero, List.set_cons_succ]
        refine wpAnyH_take (i := 19) (oi := { dst := some 47, op := Go.Op.load 3 (Go.Operand.tmp 46), type := 3, pos := "l06_parsing.go:401", after := #[{ on := 18, ground := Go.Ground.data }], guard := none }) (v := ?v20) rfl (by kernel_rfl) (by kernel_rfl) (by kernel_rfl) (fun _ _ _ h => h) (Or.inl ⟨by rfl, ?h20⟩) hHeld ?r20
        case h20 => (intro w hSw; (try dsimp only at hSw); go_simp; try with_reducible rfl)
        try simp only [Act.put, List.setIfInBounds_toArray, List.set_cons_zero, List.set_cons_succ]
        refine wpAnyH_take (i := 20) (oi := { dst := some 48, op := Go.Op.indexAddr 51 (Go.Operand.tmp 43) (Go.Operand.tmp 47), type := 0, pos := "l06_parsing.go:401", after := #[{ on := 15, ground := Go.Ground.data }, { on := 19, ground := Go.Ground.data }], guard := none }) (v := ?v21) rfl (by kernel_rfl) (by kernel_rfl) (by kernel_rfl) (fun _ _ _ h => h) (Or.inl ⟨by rfl, ?h21⟩) hHeld ?r21
        case h21 => (intro w hSw; (try dsimp only at hSw); go_simp; try with_reducible rfl)
        try simp only [Act.put, List.setIfInBounds_toArray, List.set_cons_zero, List.set_cons_succ]
        refine wpAnyH_take (i := 21) (oi := { dst := some 49, op := Go.Op.fieldAddr 93 (Go.Operand.tmp 48) 1, type := 0, pos := "l06_parsing.go:401", after := #[{ on := 20, ground := Go.Ground.data }], guard := none }) (v := ?v22) rfl (by kernel_rfl) (by kernel_rfl) (by kernel_rfl) (fun _ _ _ h => h) (Or.inl ⟨by rfl, ?h22⟩) hHeld ?r22
        case h22 => (intro w hSw; (try dsimp only at hSw); go_simp; try with_reducible rfl)
        try simp only [Act.put, List.setIfInBounds_toArray, List.set_cons_zero, List.set_cons_succ]
        refine wpAnyH_take (i := 22) (oi := { dst := some 50, op := Go.Op.load 9 (Go.Operand.tmp 49), type := 9, pos := "l06_parsing.go:401", after := #[{ on := 21, ground := Go.Ground.data }], guard := none }) (v := ?v23) rfl (by kernel_rfl) (by kernel_rfl) (by kernel_rfl) (fun _ _ _ h => h) (Or.inl ⟨by rfl, ?h23⟩) hHeld ?r23
        case h23 => (intro w hSw; (try dsimp only at hSw); go_simp; try with_reducible rfl)
        try simp only [Act.put, List.setIfInBounds_toArray, List.set_cons_zero, List.set_cons_succ]
        refine wpAnyH_ready (rs := [23]) (by kernel_rfl) (by simp) ?_
        refine AllReadyH.cons (o := { dst := some 51, op := Go.Op.call { callee := Go.Callee.value (Go.Operand.func 80), args := #[Go.Operand.tmp 39, Go.Operand.tmp 50], argTypes := #[9, 9] }, type := 48, pos := "l06_parsing.go:401", after := #[{ on := 11, ground := Go.Ground.data }, { on := 22, ground := Go.Ground.data }], guard := none }) rfl (fun K hK => ?_) AllReadyH.nil
        go_simp
        refine Calls.mono (leaf_s _ _ _) ?_
        rintro e w7 ⟨rfl, hb7⟩
        dsimp only
        have hb7 : Below wr.heap.size wr w7 := ⟨hb7.os, hb7.tape, hb7.output, hb7.size, hb7.block⟩
        have hS7 := HHS.out w7 hb7
        have HB7 := (show Hid _ from hb7)
        clear hHeld hb7
        refine hK.out _ _ hS7 (fun hHeld => ?_)
        clear hK K
        try simp only [Act.put, List.setIfInBounds_toArray, List.set_cons_zero, List.set_cons_succ]
        refine wpAnyH_ready (rs := [24]) (by kernel_rfl) (by simp) ?_
        refine AllReadyH.cons (o := { dst := some 52, op := Go.Op.buildSlice 46 1 #[(0, Go.Operand.tmp 51)], type := 46, pos := "l06_parsing.go:401", after := #[{ on := 23, ground := Go.Ground.data }], guard := none }) rfl (fun K hK => ?_) AllReadyH.nil
        go_simp
        have hba := bel_trans HB7.out (bel_alloc w7 (.cells #[.string X.name, .string X.text, .bool true, .slice none 0 0] 48))
        have hS8 := HHS.out _ hba
        have HO1 := (show Hid _ from (HSG.out.keep (w' := w7.alloc (.cells #[.string X.name, .string X.text, .bool true, .slice none 0 0] 48)) hba.size (fun q _ hq => hba.block q hq)))
        have HBA := (show Hid _ from hba)
        clear hHeld hba
        refine hK.out _ _ hS8 (fun hHeld => ?_)
        clear hK K
        try simp only [Act.put, List.setIfInBounds_toArray, List.set_cons_zero, List.set_cons_succ]
        refine wpAnyH_ready (rs := [25]) (by kernel_rfl) (by simp) ?_
        refine AllReadyH.cons (o := { dst := some 53, op := Go.Op.call { callee := Go.Callee.builtin Go.Builtin.append, args := #[Go.Operand.tmp 28, Go.Operand.tmp 52], argTypes := #[46, 46] }, type := 46, pos := "l06_parsing.go:401", after := #[{ on := 0, ground := Go.Ground.data }, { on := 24, ground := Go.Ground.data }, { on := 23, ground := Go.Ground.chain }], guard := none }) rfl (fun K hK => ?_) AllReadyH.nil
        (refine step_append_g _ rfl (.tmp 28) (.tmp 52) 46 rfl w.heap.size 48 i48 _ 4 64 Try.underlying46 hi48 hz0 hz1 hz2 rfl (by decide) gu cu k'.length _ (by simp [Act.eval, Act.put]) HO1.out.own ⟨w7.heap.size, 0, none⟩ 1 1 [.string X.name, .string X.text, .bool true, .slice none 0 0] (by simp [Act.eval, Act.put]) rfl (T.cell_four_box w7 (.string X.name) (.string X.text) (.bool true) (.slice none 0 0) 48) (by intro y hy; simp at hy; rcases hy with rfl | rfl | rfl | rfl <;> rfl) (by unfold maxLen; omega) (by omega) (by have h1 := HBA.out.size; have h2 := HZR.out; omega) ?_; intro g8 c8 w8 hown8 hgr8 hat8)
        have HJ8 := (show Hid _ from leaf_join HO1.out HLSM.out hown8 hgr8 hat8)
        have hT8 := (HTG.out.still HBA.out).keep (w' := w8) (fun q hq => hgr8.block q (by have h1 := HBA.out.size; have h4 := HTG.out.box.lt; omega) (fun e => by injection e with e; have h5 := HO1.out.lt; have h6 := HRB.out; omega))
        have hS9 : (fun w' => w'.cell? ⟨R, 4, none⟩ = some (.slice (some ⟨bw, ow, none⟩) W.length cw) ∧ w'.cell? ⟨R, 5, none⟩ = some (.int .i64 (t1 : Int)) ∧ w'.cell? ⟨bw, ow + t1 * 6, none⟩ = some (.string X.name) ∧ w'.cell? ⟨bw, ow + t1 * 6 + 1, none⟩ = some (.string X.text)) w8 := HTS.out w8 hT8
        have y5 : w8.cell? ⟨R, 5, none⟩ = some (.int .i64 (t1 : Int)) := hT8.box.cell 5 (by simp)
        have z5 : w8.frozen? ⟨R, 5, none⟩ = false := hT8.box.frozen 5
        have HK8 : Hid (Kp w.heap.size R w w8) := (HKP.out.trans ((Below.kp HBA.out R).mono HKP.out.size)).trans ⟨hgr8.os, hgr8.tape, hgr8.output, hgr8.size, fun q h1 h2 => hgr8.block q (by have h3 := HBA.out.size; have h5 := HKP.out.size; omega) (fun e => by injection e with e; have h5 := HO1.out.lt; have h6 := HRB.out; omega)⟩
        have HT8 := (show Hid _ from hT8)
        clear hHeld hown8 hgr8 hat8 hT8
        refine hK.out _ _ hS9 (fun hHeld => ?_)
        clear hK K
        try simp only [Act.put, List.setIfInBounds_toArray, List.set_cons_zero, List.set_cons_succ]
        refine wpAnyH_take (i := 26) (oi := { dst := some 3, op := Go.Op.assign (Go.Operand.tmp 53), type := 46, pos := "l06_parsing.go:401", after := #[{ on := 25, ground := Go.Ground.data }, { on := 25, ground := Go.Ground.chain }, { on := 0, ground := Go.Ground.phase }, { on := 1, ground := Go.Ground.phase }, { on := 2, ground := Go.Ground.phase }, { on := 3, ground := Go.Ground.phase }, { on := 4, ground := Go.Ground.phase }, { on := 5, ground := Go.Ground.phase }, { on := 6, ground := Go.Ground.phase }, { on := 7, ground := Go.Ground.phase }, { on := 8, ground := Go.Ground.phase }, { on := 9, ground := Go.Ground.phase }, { on := 10, ground := Go.Ground.phase }, { on := 11, ground := Go.Ground.phase }, { on := 12, ground := Go.Ground.phase }, { on := 13, ground := Go.Ground.phase }, { on := 14, ground := Go.Ground.phase }, { on := 15, ground := Go.Ground.phase }, { on := 16, ground := Go.Ground.phase }, { on := 17, ground := Go.Ground.phase }, { on := 18, ground := Go.Ground.phase }, { on := 19, ground := Go.Ground.phase }, { on := 20, ground := Go.Ground.phase }, { on := 21, ground := Go.Ground.phase }, { on := 22, ground := Go.Ground.phase }, { on := 23, ground := Go.Ground.phase }, { on := 24, ground := Go.Ground.phase }, { on := 25, ground := Go.Ground.phase }], guard := none }) (v := ?v24) rfl (by kernel_rfl) (by kernel_rfl) (by kernel_rfl) (fun _ _ _ h => h) (Or.inl ⟨by rfl, ?h24⟩) hHeld ?r24
        case h24 => (intro w hSw; (try dsimp only at hSw); go_simp; try with_reducible rfl)
        try simp only [Act.put, List.setIfInBounds_toArray, List.set_cons_zero, List.set_cons_succ]
        refine wpAnyH_done (by kernel_rfl) ?_ _
        have kw : IntKind.i64.wrap ((t1 : Int) + 1) = (t1 : Int) + 1 := by simp [IntKind.wrap, IntKind.bits, IntKind.signed]; omega
        have HNX : Hid (Kp w.heap.size R w (w8.setCell ⟨R, 5, none⟩ (.int .i64 ((t1 : Int) + 1))) ∧ TgI d S S' R v0 v1 v3 (.slice (some ⟨bw, ow, none⟩) W.length cw) W (w8.setCell ⟨R, 5, none⟩ (.int .i64 ((t1 : Int) + 1))) (t1 + 1) ∧ SG (w8.setCell ⟨R, 5, none⟩ (.int .i64 ((t1 : Int) + 1))) w.heap.size (k' ++ [lf X]) (.slice (some ⟨g8, 0, none⟩) (k'.length + 1) c8)) := by
          refine ⟨HK8.out.setCell (.inl rfl) _, ?_, ?_⟩
          · have h1 := HT8.out.next hlt
            push_cast at h1
            exact h1
          · obtain ⟨fs8, K8, h8⟩ := HJ8.out
            exact ⟨fs8, K8, g8, c8, by simp, h8.keep (by simp [World.setCell]) (fun q hq _ => Below.heap_setCell _ _ _ _ (by show q ≠ R; have := HRB.out; omega))⟩
        clear HK8 HT8 HJ8 HO1 HBA HB7
        go_wp2_with fail
        exact ⟨⟨k' ++ [lf X], some ⟨g8, 0, none⟩, c8, by simp, t1 + 1, by simpa using HNX, HPX⟩, by have := HLN.out; simp [lenOf]; omega⟩
    · have ht : t1 = W.length := by omega
      have HEE := (show Hid (∀ n, _) from fun n => HEND.out n (by rw [List.drop_eq_nil_of_le (by omega)]; rfl) (by rw [List.drop_eq_nil_of_le (by omega)]; rfl))
      have hg1 : decide ((t1 : Int) < (W.length : Int)) = false := by simp; omega
      clear HEND hcellw haw ht
      go_upto_region 2 with fail
      go_quiet (fail)
      go_wp2_with fail
      go_ret
      exact ⟨_, t1, rfl, HEE.out _⟩
end Go.Proofs.Ytpmlagenakcdfaa
