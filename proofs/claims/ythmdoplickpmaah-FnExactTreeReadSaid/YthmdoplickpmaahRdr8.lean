import Derived.Test.YthmdoplickpmaahRdr7
import Derived.Test.YthmdoplickpmaahRead3
namespace Go.Proofs.Ythmdoplickpmaah
open Go.RowKit Go.Deep Go.Lib
set_option linter.unusedVariables false
set_option maxRecDepth 100000
set_option linter.unusedSimpArgs false

theorem treeS_any {p : Nat} {s : ByteArray} : ∀ (d : Nat) (w : World) (k : Nat), Rdr w p s k → s.size - k < d → Calls Try.prog 36 #[.pointer (some ⟨p, 0, none⟩)] w fun e w' => SAns (pTree s d k) w p s e w' := by
  intro d
  induction d with
  | zero => intro w k _ h; exact absurd h (Nat.not_lt_zero _)
  | succ d ih =>
    intro w k h hd
    cases h40 : seesB s k 40
    · have hr : pTree s (d + 1) k = pLeaf s k := by rw [pTree, if_neg (by rw [h40]; simp)]
      rw [hr]
      exact treeS_leaf w h h40
    · exact treeS_node ih w h h40 hd

/-- What the specification answers: a tree that lies in blocks of its own. -/
def SRAns (r : Tr × Int × Int) (w : World) (e : Ending) (w' : World) : Prop :=
  ∃ a m c, e = .returned (.tuple #[r.1.val (.slice a m c), .int .i64 r.2.1, .int .i64 r.2.2]) ∧ Below w.heap.size w w' ∧ Own w' w.heap.size w'.heap.size r.1 (.slice a m c)

theorem Four.keep5 {w w' : World} {g : Nat} {c0 c1 c2 c3 : Value} (h : Four w g c0 c1 c2 c3) (hb : w'.heap[g]? = w.heap[g]?) : Four w' g c0 c1 c2 c3 :=
  ⟨(World.cell?_of_block (w := w) hb).trans h.1, (World.cell?_of_block (w := w) hb).trans h.2.1, (World.cell?_of_block (w := w) hb).trans h.2.2.1, (World.cell?_of_block (w := w) hb).trans h.2.2.2⟩
/-- What spec.TreeRead has laid: its result, the reader behind it. -/
structure SPre (w W : World) : Prop where
  below : Below w.heap.size w W
  size : w.heap.size + 2 ≤ W.heap.size
  b0 : Box4 W w.heap.size (.string ⟨#[]⟩) (.string ⟨#[]⟩) (.bool false) (.slice none 0 0)
theorem SPre.step {w W W' : World} (h : SPre w W) (ho : Out (w.heap.size + 1) (w.heap.size + 1 + 1) W W') : SPre w W' :=
  ⟨h.below.trans ⟨ho.1, ho.2.1, ho.2.2.1, ho.2.2.2.1, fun k hk => ho.2.2.2.2 k (by have := h.below.size; omega) (by omega)⟩, Nat.le_trans h.size ho.2.2.2.1, h.b0.keep (ho.2.2.2.2 _ h.b0.lt (by omega))⟩
theorem SPre.still {w W W' : World} (h : SPre w W) (hb : Below W.heap.size W W') : SPre w W' := ⟨bel_trans h.below hb, Nat.le_trans h.size hb.size, h.b0.still hb⟩
set_option maxHeartbeats 6400000 in
theorem sRead_any (s : ByteArray) (w : World) (hsm : s.size ≤ 1048576) :
    Calls Try.prog 17 #[.string s] w fun e w' => RAns (rd s) w e w' := by
  by_cases hbig : 20000 < s.size
  · have hr : rd s = (zt, 1, 0) := if_pos hbig
    rw [hr]
    clear hr
    go_enter Try.func17, Try.ntmps17
    go_wp2_with fail
    refine bodyPost_ret (v := .tuple #[zt.val (.slice none 0 0), .int .i64 1, .int .i64 0]) (by simp [results, Try.results17, go_sem, zt]; rfl) rfl ?_
    exact ⟨none, 0, 0, rfl, bel_alloc _ _, zt_own _ _ _⟩
  have hr : rd s = (match pAll s with
    | .error j => (zt, 2, (j : Int))
    | .ok t => if t.ok then (t, 0, 0) else (zt, 3, 0)) := if_neg hbig
  have hpa : pAll s = (match pTree s (s.size + 1) (skip s 0) with
    | .error j => .error j
    | .ok r => if skip s r.2 < s.size then .error (skip s r.2) else .ok r.1) := rfl
  rw [hpa] at hr
  clear hpa
  have hs2 : s.size ≤ 20000 := by omega
  have hsk := skip_le (s := s) (k := 0) (Nat.zero_le _)
  have hb1 := bel_trans (bel_alloc w (.cells #[.string ⟨#[]⟩, .string ⟨#[]⟩, .bool false, .slice none 0 0] 29)) (bel_alloc _ (.cells #[.string s, .int .i64 0, .int .i64 (-1)] 60))
  have hB0 := (Box4.new w (.string ⟨#[]⟩) (.string ⟨#[]⟩) (.bool false) (.slice none 0 0)).still (bel_alloc _ (.cells #[.string s, .int .i64 0, .int .i64 (-1)] 60))
  have hrd : Rdr ((w.alloc (.cells #[.string ⟨#[]⟩, .string ⟨#[]⟩, .bool false, .slice none 0 0] 29)).alloc (.cells #[.string s, .int .i64 0, .int .i64 (-1)] 60)) (w.heap.size + 1) s 0 := by
    refine ⟨Nat.zero_le _, hs2, fun i => (#[.string s, .int .i64 0, .int .i64 (-1)][i]?).getD (.bool false), ⟨#[.string s, .int .i64 0, .int .i64 (-1)], ?_, rfl, fun i hi => by simp [hi]⟩, rfl, rfl, rfl⟩
    have h := blk_alloc_new (w.alloc (.cells #[.string ⟨#[]⟩, .string ⟨#[]⟩, .bool false, .slice none 0 0] 29)) (.cells #[.string s, .int .i64 0, .int .i64 (-1)] 60)
    simp only [World.size_alloc] at h
    exact h
  have HBL := (show Hid _ from blanksS_any _ hrd)
  have HB := (show Hid _ from (⟨hb1, by simp, hB0⟩ : SPre w ((w.alloc (.cells #[.string ⟨#[]⟩, .string ⟨#[]⟩, .bool false, .slice none 0 0] 29)).alloc (.cells #[.string s, .int .i64 0, .int .i64 (-1)] 60)))); clear hb1 hB0 hrd
  have HTR := (show Hid _ from fun w1 (h1 : Rdr w1 (w.heap.size + 1) s (skip s 0)) => treeS_any (s.size + 1) w1 (skip s 0) h1 (by omega))
  have hfit := pTree_fits (s.size + 1) (skip s 0) hsk.2
  rw [hr]
  clear hr
  generalize pTree s (s.size + 1) (skip s 0) = rt at *
  generalize skip s 0 = K at *
  cases rt with
  | error j =>
    dsimp only
    clear hfit
    go_enter Try.func17, Try.ntmps17
    go_wp2_with fail
    refine Calls.mono HBL.out ?_
    rintro e w2 ⟨rfl, ho2, hr2⟩
    have H3 := (show Hid _ from HTR.out w2 hr2)
    have HS2 := (show Hid _ from SPre.step HB.out ho2); clear ho2 hr2
    go_wp2_with fail
    refine Calls.mono H3.out ?_
    rintro e w3 ⟨n3, x3, le3, a3, m3, c3, rfl, ho3, hg3⟩
    have hbx := bel_alloc w3 (.cells #[.string n3, .string x3, .bool le3, .slice a3 m3 c3] 29)
    have hbt : BadT w3 (w.heap.size + 1) s j := hg3
    have hb4 := hbt.keep (hbx.block _ hbt.lt)
    have HS4 := (show Hid _ from SPre.still (SPre.step HS2.out ho3) hbx)
    have H5 := (show Hid _ from blanksS_bad _ hb4)
    clear ho3 hg3 hbx hbt hb4
    go_wp2_with fail
    refine Calls.mono H5.out ?_
    rintro e U ⟨rfl, ho5, hb5⟩
    have HX := (show Hid _ from (⟨SPre.step HS4.out ho5, hb5⟩ : _ ∧ _)); clear ho5 hb5
    obtain ⟨_, bq, _, hbq⟩ := HX.out.2
    obtain ⟨_, _, v2, _, _⟩ := RdB.cells hbq
    have hge : decide ((0 : Int) ≤ (j : Int)) = true := by simp
    have hlt0 : decide ((j : Int) < 0) = false := by simp
    obtain ⟨Z0, Z1, Z2, Z3⟩ := Box4.cells HX.out.1.b0
    have z0 := Box4.frozen HX.out.1.b0 0
    have z1 := Box4.frozen HX.out.1.b0 1
    have z2 := Box4.frozen HX.out.1.b0 2
    have z3 := Box4.frozen HX.out.1.b0 3
    have hne : w.heap.size + 1 ≠ w.heap.size := by omega
    have hne' : w.heap.size ≠ w.heap.size + 1 := by omega
    clear hbq
    go_wp2_with fail
    go_region
    all_goals
      go_wp2_with fail
      refine bodyPost_ret (v := .tuple #[zt.val (.slice none 0 0), .int .i64 2, .int .i64 j]) (by simp [results, Try.results17, go_sem, zt, Z0, Z1, Z2, Z3]; try rfl) rfl ?_
      exact ⟨none, 0, 0, rfl, by first | exact ((((SPre.below HX.out.1).setCell (Nat.le_refl _) _).setCell (Nat.le_refl _) _).setCell (Nat.le_refl _) _).setCell (Nat.le_refl _) _ |>.drew | exact (((((SPre.below HX.out.1).drew).setCell (Nat.le_refl _) _).setCell (Nat.le_refl _) _).setCell (Nat.le_refl _) _).setCell (Nat.le_refl _) _, zt_own _ _ _⟩
  | ok a =>
    obtain ⟨t, k2⟩ := a
    obtain ⟨hk2, hk2s⟩ := hfit
    dsimp only at hk2 hk2s ⊢
    have hsk2 := skip_le (s := s) (k := k2) hk2s
    have HB2 := (show Hid _ from fun w1 (h1 : Rdr w1 (w.heap.size + 1) s k2) => blanksS_any w1 h1)
    have HOK := (show Hid _ from fun (S : Nat → Prop) (v : Value) (w1 : World) (h1 : Lies w1 S t v) => sOK_any t v w1 h1)
    generalize skip s k2 = K2 at *
    generalize K2 - k2 = gp at *
    by_cases hlt : K2 < s.size
    · rw [if_pos hlt]
      dsimp only
      have hdl : decide ((K2 : Int) < s.size) = true := by simp; omega
      go_enter Try.func17, Try.ntmps17
      go_wp2_with fail
      refine Calls.mono HBL.out ?_
      rintro e w2 ⟨rfl, ho2, hr2⟩
      have H3 := (show Hid _ from HTR.out w2 hr2)
      have HS2 := (show Hid _ from SPre.step HB.out ho2); clear ho2 hr2
      go_wp2_with fail
      refine Calls.mono H3.out ?_
      rintro e w3 ⟨n3, x3, le3, a3, m3, c3, rfl, ho3, hg3⟩
      obtain ⟨e1, e2, e3, hown3, hr3⟩ := hg3
      dsimp only at e1 e2 e3 hown3 hr3
      have hbx := bel_alloc w3 (.cells #[.string n3, .string x3, .bool le3, .slice a3 m3 c3] 29)
      have HS4 := (show Hid _ from SPre.still (SPre.step HS2.out ho3) hbx)
      have H5 := (show Hid _ from HB2.out _ (hr3.still hbx))
      clear ho3 hbx hr3 hown3 e1 e2 e3
      go_wp2_with fail
      refine Calls.mono H5.out ?_
      rintro e w5 ⟨rfl, ho5, hr5⟩
      have HF := (show Hid _ from fail_any w5 hr5)
      obtain ⟨x0, x1, x2, y1, y2⟩ := RdB.cells hr5.2.2
      have HS5 := (show Hid _ from SPre.step HS4.out ho5); clear ho5 hr5
      go_wp2_with fail
      refine Calls.mono HF.out ?_
      rintro e U ⟨rfl, ho6, hb6⟩
      have HX := (show Hid _ from (⟨SPre.step HS5.out ho6, Bad.t hb6⟩ : _ ∧ _)); clear ho6 hb6 x0 x1 x2 y1 y2
      obtain ⟨_, bq, _, hbq⟩ := HX.out.2
      obtain ⟨_, _, v2, _, _⟩ := RdB.cells hbq
      have hge : decide ((0 : Int) ≤ (K2 : Int)) = true := by simp
      have hlt0 : decide ((K2 : Int) < 0) = false := by simp
      obtain ⟨Z0, Z1, Z2, Z3⟩ := Box4.cells HX.out.1.b0
      have z0 := Box4.frozen HX.out.1.b0 0
      have z1 := Box4.frozen HX.out.1.b0 1
      have z2 := Box4.frozen HX.out.1.b0 2
      have z3 := Box4.frozen HX.out.1.b0 3
      have hne : w.heap.size + 1 ≠ w.heap.size := by omega
      have hne' : w.heap.size ≠ w.heap.size + 1 := by omega
      clear hbq
      go_wp2_with fail
      go_region
      all_goals
        go_wp2_with fail
        refine bodyPost_ret (v := .tuple #[zt.val (.slice none 0 0), .int .i64 2, .int .i64 K2]) (by simp [results, Try.results17, go_sem, zt, Z0, Z1, Z2, Z3]; try rfl) rfl ?_
        exact ⟨none, 0, 0, rfl, by first | exact ((((SPre.below HX.out.1).setCell (Nat.le_refl _) _).setCell (Nat.le_refl _) _).setCell (Nat.le_refl _) _).setCell (Nat.le_refl _) _ |>.drew | exact (((((SPre.below HX.out.1).drew).setCell (Nat.le_refl _) _).setCell (Nat.le_refl _) _).setCell (Nat.le_refl _) _).setCell (Nat.le_refl _) _, zt_own _ _ _⟩
    · rw [if_neg hlt]
      dsimp only
      have hdl : decide ((K2 : Int) < s.size) = false := by simp; omega
      cases hok : t.ok
      · rw [hok] at HOK
        simp only [Bool.false_eq_true, if_false]
        clear hok
        go_enter Try.func17, Try.ntmps17
        go_wp2_with fail
        refine Calls.mono HBL.out ?_
        rintro e w2 ⟨rfl, ho2, hr2⟩
        have H3 := (show Hid _ from HTR.out w2 hr2)
        have HS2 := (show Hid _ from SPre.step HB.out ho2); clear ho2 hr2
        go_wp2_with fail
        refine Calls.mono H3.out ?_
        rintro e w3 ⟨n3, x3, le3, a3, m3, c3, rfl, ho3, hg3⟩
        obtain ⟨e1, e2, e3, hown3, hr3⟩ := hg3
        dsimp only at e1 e2 e3 hown3 hr3
        subst e1 e2 e3
        have hsz2 := HS2.out.size
        have hsz3 := ho3.2.2.2.1
        have hbx := bel_alloc w3 (.cells #[.string t.name, .string t.text, .bool t.leaf, .slice a3 m3 c3] 29)
        have HS4 := (show Hid _ from SPre.still (SPre.step HS2.out ho3) hbx)
        have H5 := (show Hid _ from HB2.out _ (hr3.still hbx))
        have HO4 := (show Hid _ from (⟨Own.still hown3 hbx, four_box w3 (.string t.name) (.string t.text) (.bool t.leaf) (.slice a3 m3 c3) 29⟩ : _ ∧ _))
        clear ho3 hbx hr3 hown3
        go_wp2_with fail
        refine Calls.mono H5.out ?_
        rintro e w5 ⟨rfl, ho5, hr5⟩
        obtain ⟨x0, x1, x2, y1, y2⟩ := RdB.cells hr5.2.2
        have hs5 := ho5.2.2.2.1
        simp only [World.size_alloc] at hs5
        have HO5 := (show Hid _ from (⟨Own.keep HO4.out.1 (Nat.le_refl _) (Nat.le_refl _) (fun q h1 h2 h3 => ho5.2.2.2.2 q h3 (by omega)), Four.keep5 HO4.out.2 (ho5.2.2.2.2 _ (by simp) (by omega))⟩ : Own w5 w2.heap.size w3.heap.size t (.slice a3 m3 c3) ∧ Four w5 w3.heap.size (.string t.name) (.string t.text) (.bool t.leaf) (.slice a3 m3 c3)))
        have HS5 := (show Hid _ from SPre.step HS4.out ho5); clear ho5 hr5
        obtain ⟨q0, q1, q2, q3⟩ := HO5.out.2
        have HI := (show Hid _ from HOK.out _ _ w5 (Own.lies HO5.out.1))
        go_wp2_with fail
        clear x0 x1 x2 y1 y2 q0 q1 q2 q3
        refine Calls.mono HI.out ?_
        rintro e w6 ⟨rfl, hb6⟩
        have HX := (show Hid _ from SPre.still HS5.out hb6); clear hb6
        obtain ⟨Z0, Z1, Z2, Z3⟩ := Box4.cells HX.out.b0
        have z0 := Box4.frozen HX.out.b0 0
        have z1 := Box4.frozen HX.out.b0 1
        have z2 := Box4.frozen HX.out.b0 2
        have z3 := Box4.frozen HX.out.b0 3
        go_wp2_with fail
        refine bodyPost_ret (v := .tuple #[zt.val (.slice none 0 0), .int .i64 3, .int .i64 0]) (by simp [results, Try.results17, go_sem, zt, Z0, Z1, Z2, Z3]; try rfl) rfl ?_
        exact ⟨none, 0, 0, rfl, (((Below.setCell (SPre.below HX.out) (Nat.le_refl _) _).setCell (Nat.le_refl _) _).setCell (Nat.le_refl _) _).setCell (Nat.le_refl _) _, zt_own _ _ _⟩
      · rw [hok] at HOK
        simp only [if_true]
        clear hok
        go_enter Try.func17, Try.ntmps17
        go_wp2_with fail
        refine Calls.mono HBL.out ?_
        rintro e w2 ⟨rfl, ho2, hr2⟩
        have H3 := (show Hid _ from HTR.out w2 hr2)
        have HS2 := (show Hid _ from SPre.step HB.out ho2); clear ho2 hr2
        go_wp2_with fail
        refine Calls.mono H3.out ?_
        rintro e w3 ⟨n3, x3, le3, a3, m3, c3, rfl, ho3, hg3⟩
        obtain ⟨e1, e2, e3, hown3, hr3⟩ := hg3
        dsimp only at e1 e2 e3 hown3 hr3
        subst e1 e2 e3
        have hsz2 := HS2.out.size
        have hsz3 := ho3.2.2.2.1
        have hbx := bel_alloc w3 (.cells #[.string t.name, .string t.text, .bool t.leaf, .slice a3 m3 c3] 29)
        have HS4 := (show Hid _ from SPre.still (SPre.step HS2.out ho3) hbx)
        have H5 := (show Hid _ from HB2.out _ (hr3.still hbx))
        have HO4 := (show Hid _ from (⟨Own.still hown3 hbx, four_box w3 (.string t.name) (.string t.text) (.bool t.leaf) (.slice a3 m3 c3) 29⟩ : _ ∧ _))
        clear ho3 hbx hr3 hown3
        go_wp2_with fail
        refine Calls.mono H5.out ?_
        rintro e w5 ⟨rfl, ho5, hr5⟩
        obtain ⟨x0, x1, x2, y1, y2⟩ := RdB.cells hr5.2.2
        have hs5 := ho5.2.2.2.1
        simp only [World.size_alloc] at hs5
        have HO5 := (show Hid _ from (⟨Own.keep HO4.out.1 (Nat.le_refl _) (Nat.le_refl _) (fun q h1 h2 h3 => ho5.2.2.2.2 q h3 (by omega)), Four.keep5 HO4.out.2 (ho5.2.2.2.2 _ (by simp) (by omega))⟩ : Own w5 w2.heap.size w3.heap.size t (.slice a3 m3 c3) ∧ Four w5 w3.heap.size (.string t.name) (.string t.text) (.bool t.leaf) (.slice a3 m3 c3)))
        have HS5 := (show Hid _ from SPre.step HS4.out ho5); clear ho5 hr5
        obtain ⟨q0, q1, q2, q3⟩ := HO5.out.2
        have HI := (show Hid _ from HOK.out _ _ w5 (Own.lies HO5.out.1))
        go_wp2_with fail
        clear x0 x1 x2 y1 y2 q0 q1 q2 q3
        refine Calls.mono HI.out ?_
        rintro e w6 ⟨rfl, hb6⟩
        have HX := (show Hid _ from (⟨SPre.still HS5.out hb6, Own.still HO5.out.1 hb6⟩ : _ ∧ _))
        have hs6 := hb6.size
        obtain ⟨x0, x1, x2, x3⟩ := Four.still HO5.out.2 hb6
        clear hb6
        obtain ⟨Z0, Z1, Z2, Z3⟩ := Box4.cells HX.out.1.b0
        have z0 := Box4.frozen HX.out.1.b0 0
        have z1 := Box4.frozen HX.out.1.b0 1
        have z2 := Box4.frozen HX.out.1.b0 2
        have z3 := Box4.frozen HX.out.1.b0 3
        have hown6 := (((((Own.past HX.out.2 (.inl (by omega))).past (.inl (by omega))).past (.inl (by omega))).past (.inl (by omega))) : Own ((((w6.setCell ⟨w.heap.size, 0, none⟩ (.string t.name)).setCell ⟨w.heap.size, 1, none⟩ (.string t.text)).setCell ⟨w.heap.size, 2, none⟩ (.bool t.leaf)).setCell ⟨w.heap.size, 3, none⟩ (.slice a3 m3 c3)) w2.heap.size w3.heap.size t (.slice a3 m3 c3))
        have HO6 := (show Hid _ from hown6); clear hown6
        go_wp2_with fail
        refine bodyPost_ret (v := .tuple #[t.val (.slice a3 m3 c3), .int .i64 0, .int .i64 0]) (by simp [results, Try.results17, go_sem, Z0, Z1, Z2, Z3]) rfl ?_
        exact ⟨a3, m3, c3, rfl, (((Below.setCell (SPre.below HX.out.1) (Nat.le_refl _) _).setCell (Nat.le_refl _) _).setCell (Nat.le_refl _) _).setCell (Nat.le_refl _) _, Own.keep HO6.out (by omega) (by simp [World.setCell]; omega) (fun _ _ _ _ => rfl)⟩
end Go.Proofs.Ythmdoplickpmaah
