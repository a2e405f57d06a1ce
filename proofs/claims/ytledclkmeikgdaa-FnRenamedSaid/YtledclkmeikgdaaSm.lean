import Derived.Test.YtledclkmeikgdaaSl
import Derived.Deep.RegionHeld3
/-! The specification: ScopesOf. -/
namespace Go.Proofs.Ytledclkmeikgdaa
open Go.RowKit Go.Deep Go.Lib
open Go.Proofs.Ytledclkmeikgdaa.T (Tr)
set_option linter.unusedVariables false
set_option maxRecDepth 100000
set_option linter.unusedSimpArgs false

theorem scR_bad {t : Tr} (h : (t.ok && T.tm t) = false) : scR t = (sw0 0, 1) := by unfold scR; rw [if_pos h]
theorem scR_no {t : Tr} (h : (t.ok && T.tm t) = true) (h' : sgB (sgW (sw t 0 [] (sw0 1))) = false) : scR t = (sw0 0, 3) := by unfold scR; rw [if_neg (by rw [h]; simp), if_pos h']
theorem scR_yes {t : Tr} (h : (t.ok && T.tm t) = true) (h' : sgB (sgW (sw t 0 [] (sw0 1))) = true) : scR t = (sw t 0 [] (sw0 1), 0) := by unfold scR; rw [if_neg (by rw [h]; simp), if_neg (by rw [h']; simp)]
theorem bel_set4 {n : Nat} {w w' : World} {b : Nat} (h : Below n w w') (hb : n ≤ b) (u0 u1 u2 u3 : Value) : Below n w ((((w'.setCell ⟨b, 0, none⟩ u0).setCell ⟨b, 1, none⟩ u1).setCell ⟨b, 2, none⟩ u2).setCell ⟨b, 3, none⟩ u3) :=
  (((h.setCell hb _).setCell hb _).setCell hb _).setCell hb _
theorem blk_set4 (w' : World) (b : Nat) (u0 u1 u2 u3 : Value) (g : Nat) (hg : g ≠ b) : ((((w'.setCell ⟨b, 0, none⟩ u0).setCell ⟨b, 1, none⟩ u1).setCell ⟨b, 2, none⟩ u2).setCell ⟨b, 3, none⟩ u3).heap[g]? = w'.heap[g]? :=
  (((blk_setCell_other _ _ _ _ (by exact hg)).trans (blk_setCell_other _ _ _ _ (by exact hg))).trans (blk_setCell_other _ _ _ _ (by exact hg))).trans (blk_setCell_other _ _ _ _ (by exact hg))
set_option maxHeartbeats 6400000 in
theorem sc13 (t : Tr) (v : Value) (w : World) (h : T.Lies w (fun b => b < w.heap.size) t v) : Calls Try.prog 13 #[t.val v] w (ScA (scR t) w) := by
  have hform := h.form
  obtain ⟨a, len, cap, rfl⟩ := hform
  have hb2 : Below w.heap.size w ((w.alloc (.cells #[.string t.name, .string t.text, .bool t.leaf, .slice a len cap] 40)).alloc (.cells #[.int .i64 0, .slice none 0 0, .slice none 0 0, .slice none 0 0] 27)) := (bel_alloc _ _).alloc (by simp) _
  have HTM := (show Hid (Calls Try.prog 49 #[t.val (.slice a len cap)] ((w.alloc (.cells #[.string t.name, .string t.text, .bool t.leaf, .slice a len cap] 40)).alloc (.cells #[.int .i64 0, .slice none 0 0, .slice none 0 0, .slice none 0 0] 27)) fun e w' => e = .returned (.bool (t.ok && T.tm t)) ∧ Below ((w.alloc (.cells #[.string t.name, .string t.text, .bool t.leaf, .slice a len cap] 40)).alloc (.cells #[.int .i64 0, .slice none 0 0, .slice none 0 0, .slice none 0 0] 27)).heap.size ((w.alloc (.cells #[.string t.name, .string t.text, .bool t.leaf, .slice a len cap] 40)).alloc (.cells #[.int .i64 0, .slice none 0 0, .slice none 0 0, .slice none 0 0] 27)) w') from T.sTerm26 t _ _ (h.still hb2))
  have HB := (show Hid (∀ w', Below ((w.alloc (.cells #[.string t.name, .string t.text, .bool t.leaf, .slice a len cap] 40)).alloc (.cells #[.int .i64 0, .slice none 0 0, .slice none 0 0, .slice none 0 0] 27)).heap.size ((w.alloc (.cells #[.string t.name, .string t.text, .bool t.leaf, .slice a len cap] 40)).alloc (.cells #[.int .i64 0, .slice none 0 0, .slice none 0 0, .slice none 0 0] 27)) w' → (w'.cell? ⟨w.heap.size, 0, none⟩ = some (.string t.name) ∧ w'.cell? ⟨w.heap.size, 1, none⟩ = some (.string t.text) ∧ w'.cell? ⟨w.heap.size, 2, none⟩ = some (.bool t.leaf) ∧ w'.cell? ⟨w.heap.size, 3, none⟩ = some (.slice a len cap)) ∧ (w'.cell? ⟨w.heap.size + 1, 0, none⟩ = some (.int .i64 0) ∧ w'.cell? ⟨w.heap.size + 1, 1, none⟩ = some (.slice none 0 0) ∧ w'.cell? ⟨w.heap.size + 1, 2, none⟩ = some (.slice none 0 0) ∧ w'.cell? ⟨w.heap.size + 1, 3, none⟩ = some (.slice none 0 0) ∧ w'.frozen? ⟨w.heap.size + 1, 0, none⟩ = false ∧ w'.frozen? ⟨w.heap.size + 1, 1, none⟩ = false ∧ w'.frozen? ⟨w.heap.size + 1, 2, none⟩ = false ∧ w'.frozen? ⟨w.heap.size + 1, 3, none⟩ = false) ∧ Below w.heap.size w w' ∧ w.heap.size + 2 ≤ w'.heap.size) from fun w' hb => by
    have b0 := ((Box.new w 40 [.string t.name, .string t.text, .bool t.leaf, .slice a len cap]).still (bel_alloc _ (.cells #[.int .i64 0, .slice none 0 0, .slice none 0 0, .slice none 0 0] 27))).still hb
    have b1 := (Box.new (w.alloc (.cells #[.string t.name, .string t.text, .bool t.leaf, .slice a len cap] 40)) 27 [.int .i64 0, .slice none 0 0, .slice none 0 0, .slice none 0 0]).still hb
    rw [World.size_alloc] at b1
    have hs := hb.size
    simp at hs
    exact ⟨⟨b0.cell 0 (by simp), b0.cell 1 (by simp), b0.cell 2 (by simp), b0.cell 3 (by simp)⟩, ⟨b1.cell 0 (by simp), b1.cell 1 (by simp), b1.cell 2 (by simp), b1.cell 3 (by simp), b1.frozen 0, b1.frozen 1, b1.frozen 2, b1.frozen 3⟩, hb2.trans (hb.mono (by simp; omega)), by omega⟩)
  have HX3 := (show Hid (∀ w1, Below ((w.alloc (.cells #[.string t.name, .string t.text, .bool t.leaf, .slice a len cap] 40)).alloc (.cells #[.int .i64 0, .slice none 0 0, .slice none 0 0, .slice none 0 0] 27)).heap.size ((w.alloc (.cells #[.string t.name, .string t.text, .bool t.leaf, .slice a len cap] 40)).alloc (.cells #[.int .i64 0, .slice none 0 0, .slice none 0 0, .slice none 0 0] 27)) w1 → (w1.alloc (.cells #[.int .i64 1, .slice none 0 0, .slice none 0 0, .slice none 0 0, .slice none 0 0, .slice none 0 0] 85)).cell? ⟨w.heap.size, 0, none⟩ = some (.string t.name) ∧ (w1.alloc (.cells #[.int .i64 1, .slice none 0 0, .slice none 0 0, .slice none 0 0, .slice none 0 0, .slice none 0 0] 85)).cell? ⟨w.heap.size, 1, none⟩ = some (.string t.text) ∧ (w1.alloc (.cells #[.int .i64 1, .slice none 0 0, .slice none 0 0, .slice none 0 0, .slice none 0 0, .slice none 0 0] 85)).cell? ⟨w.heap.size, 2, none⟩ = some (.bool t.leaf) ∧ (w1.alloc (.cells #[.int .i64 1, .slice none 0 0, .slice none 0 0, .slice none 0 0, .slice none 0 0, .slice none 0 0] 85)).cell? ⟨w.heap.size, 3, none⟩ = some (.slice a len cap)) from fun w1 hb => by
    have b0 := (((Box.new w 40 [.string t.name, .string t.text, .bool t.leaf, .slice a len cap]).still (bel_alloc _ (.cells #[.int .i64 0, .slice none 0 0, .slice none 0 0, .slice none 0 0] 27))).still hb).still (bel_alloc w1 (.cells #[.int .i64 1, .slice none 0 0, .slice none 0 0, .slice none 0 0, .slice none 0 0, .slice none 0 0] 85))
    exact ⟨b0.cell 0 (by simp), b0.cell 1 (by simp), b0.cell 2 (by simp), b0.cell 3 (by simp)⟩)
  have HZ := (show Hid (∀ w1, Below ((w.alloc (.cells #[.string t.name, .string t.text, .bool t.leaf, .slice a len cap] 40)).alloc (.cells #[.int .i64 0, .slice none 0 0, .slice none 0 0, .slice none 0 0] 27)).heap.size ((w.alloc (.cells #[.string t.name, .string t.text, .bool t.leaf, .slice a len cap] 40)).alloc (.cells #[.int .i64 0, .slice none 0 0, .slice none 0 0, .slice none 0 0] 27)) w1 → ((w1.alloc (.cells #[] 34)).alloc (.cells #[] 34)).cell? ⟨w.heap.size + 1, 0, none⟩ = some (.int .i64 0) ∧ ((w1.alloc (.cells #[] 34)).alloc (.cells #[] 34)).cell? ⟨w.heap.size + 1, 1, none⟩ = some (.slice none 0 0) ∧ ((w1.alloc (.cells #[] 34)).alloc (.cells #[] 34)).cell? ⟨w.heap.size + 1, 2, none⟩ = some (.slice none 0 0) ∧ ((w1.alloc (.cells #[] 34)).alloc (.cells #[] 34)).cell? ⟨w.heap.size + 1, 3, none⟩ = some (.slice none 0 0) ∧ ((w1.alloc (.cells #[] 34)).alloc (.cells #[] 34)).frozen? ⟨w.heap.size + 1, 0, none⟩ = false ∧ ((w1.alloc (.cells #[] 34)).alloc (.cells #[] 34)).frozen? ⟨w.heap.size + 1, 1, none⟩ = false ∧ ((w1.alloc (.cells #[] 34)).alloc (.cells #[] 34)).frozen? ⟨w.heap.size + 1, 2, none⟩ = false ∧ ((w1.alloc (.cells #[] 34)).alloc (.cells #[] 34)).frozen? ⟨w.heap.size + 1, 3, none⟩ = false) from fun w1 hb => by
    have b1 := ((Box.new (w.alloc (.cells #[.string t.name, .string t.text, .bool t.leaf, .slice a len cap] 40)) 27 [.int .i64 0, .slice none 0 0, .slice none 0 0, .slice none 0 0]).still hb).still (bel2 w1 (.cells #[] 34) (.cells #[] 34))
    rw [World.size_alloc] at b1
    exact ⟨b1.cell 0 (by simp), b1.cell 1 (by simp), b1.cell 2 (by simp), b1.cell 3 (by simp), b1.frozen 0, b1.frozen 1, b1.frozen 2, b1.frozen 3⟩)
  have HWK := (show Hid (∀ w1, Below ((w.alloc (.cells #[.string t.name, .string t.text, .bool t.leaf, .slice a len cap] 40)).alloc (.cells #[.int .i64 0, .slice none 0 0, .slice none 0 0, .slice none 0 0] 27)).heap.size ((w.alloc (.cells #[.string t.name, .string t.text, .bool t.leaf, .slice a len cap] 40)).alloc (.cells #[.int .i64 0, .slice none 0 0, .slice none 0 0, .slice none 0 0] 27)) w1 → (t.ok && T.tm t) = true → Calls Try.prog 50 #[.pointer (some ⟨w1.heap.size, 0, none⟩), t.val (.slice a len cap), .slice (some ⟨w1.heap.size + 1, 0, none⟩) 0 0, .int .i64 0] ((w1.alloc (.cells #[.int .i64 1, .slice none 0 0, .slice none 0 0, .slice none 0 0, .slice none 0 0, .slice none 0 0] 85)).alloc (.cells #[] 3)) fun e w3 => e = .returned (.tuple #[]) ∧ ∃ c3, Co w3 w1.heap.size w1.heap.size 85 (sw t 0 [] (sw0 1)) c3 ∧ Below ((w.alloc (.cells #[.string t.name, .string t.text, .bool t.leaf, .slice a len cap] 40)).alloc (.cells #[.int .i64 0, .slice none 0 0, .slice none 0 0, .slice none 0 0] 27)).heap.size ((w.alloc (.cells #[.string t.name, .string t.text, .bool t.leaf, .slice a len cap] 40)).alloc (.cells #[.int .i64 0, .slice none 0 0, .slice none 0 0, .slice none 0 0] 27)) w3) from fun w1 hb hok => by
    have hs := hb.size
    simp at hs
    have hbw : Below w.heap.size w w1 := hb2.trans (hb.mono (by simp; omega))
    have h0 := (Co.start w1 85 (by decide)).still (bel_alloc (w1.alloc (.cells #[.int .i64 1, .slice none 0 0, .slice none 0 0, .slice none 0 0, .slice none 0 0, .slice none 0 0] 85)) (.cells #[] 3))
    have hp : ((w1.alloc (.cells #[.int .i64 1, .slice none 0 0, .slice none 0 0, .slice none 0 0, .slice none 0 0, .slice none 0 0] 85)).alloc (.cells #[] 3)).ownsRow w1.heap.size 3 1 (.slice (some ⟨w1.heap.size + 1, 0, none⟩) 0 0) 0 [] := by
      have := World.ownsRow_lit (base := w1.heap.size) (e := 3) (size := 1) (w1.alloc (.cells #[.int .i64 1, .slice none 0 0, .slice none 0 0, .slice none 0 0, .slice none 0 0, .slice none 0 0] 85)) #[] 0 (by simp) (Nat.zero_le _) rfl
      rw [World.size_alloc] at this
      exact this
    rw [Bool.and_eq_true] at hok
    have hok1 := hok.1
    unfold T.Tr.ok at hok1
    simp only [Bool.and_eq_true, decide_eq_true_eq] at hok1
    refine Calls.mono (walk50 (A := w1.heap.size) (q := w1.heap.size) t (.slice a len cap) 0 [] (w1.heap.size + 1) 0 (sw0 1) nilC ((w1.alloc (.cells #[.int .i64 1, .slice none 0 0, .slice none 0 0, .slice none 0 0, .slice none 0 0, .slice none 0 0] 85)).alloc (.cells #[] 3)) h0 hp (fun e => ?_) ((((h.lt.still hbw).mono (fun b h => by have := h.2; omega)).still (bel2 w1 _ _))) (by unfold Sw.sz sw0; simp; omega) (by simp; omega) (Nat.zero_le _) hok.2) ?_
    · rcases e with e | e | e | e | e | e | ⟨i, hi, _⟩ | ⟨i, hi, _⟩
      · omega
      all_goals first | (cases e; done) | exact absurd hi (Nat.not_lt_zero _)
    · rintro e w3 ⟨rfl, c3, st⟩
      exact ⟨rfl, c3, st.co, hb.trans (((bel2 w1 (.cells #[.int .i64 1, .slice none 0 0, .slice none 0 0, .slice none 0 0, .slice none 0 0, .slice none 0 0] 85) (.cells #[] 3)).trans (st.low h0)).mono (by simp; omega))⟩)
  have HNM := (show Hid ((t.ok && T.tm t) = true → (sw t 0 [] (sw0 1)).Nm) from fun hok => sw_nm t 0 [] (sw0 1) (by rw [Bool.and_eq_true] at hok; exact hok.2) (nm_sw0 _))
  have HF := (show Hid (∀ (w1 : World) (W' : World) (cd : Int), Below ((w.alloc (.cells #[.string t.name, .string t.text, .bool t.leaf, .slice a len cap] 40)).alloc (.cells #[.int .i64 0, .slice none 0 0, .slice none 0 0, .slice none 0 0] 27)).heap.size ((w.alloc (.cells #[.string t.name, .string t.text, .bool t.leaf, .slice a len cap] 40)).alloc (.cells #[.int .i64 0, .slice none 0 0, .slice none 0 0, .slice none 0 0] 27)) w1 → scR t = (sw0 0, cd) → W' = (w1.alloc (.cells #[] 34)).alloc (.cells #[] 34) → ScA (scR t) w (.returned (.tuple #[.agg #[.int .i64 0, .slice none 0 0, .slice none 0 0, .slice none 0 0], .slice (some ⟨w1.heap.size, 0, none⟩) 0 0, .slice (some ⟨w1.heap.size + 1, 0, none⟩) 0 0, .int .i64 cd])) ((((W'.setCell ⟨w.heap.size + 1, 0, none⟩ (.int .i64 0)).setCell ⟨w.heap.size + 1, 1, none⟩ (.slice none 0 0)).setCell ⟨w.heap.size + 1, 2, none⟩ (.slice none 0 0)).setCell ⟨w.heap.size + 1, 3, none⟩ (.slice none 0 0))) from fun w1 W' cd hb e e' => by
    subst e'
    obtain ⟨_, _, hbw, hsz⟩ := HB.out w1 hb
    rw [e]
    have r4 := (World.ownsRow_lit (base := w1.heap.size) (e := 34) (size := 1) w1 #[] 0 (Nat.le_refl _) (Nat.zero_le _) rfl).alloc (.cells #[] 34)
    have r5 := World.ownsRow_lit (base := w1.heap.size) (e := 34) (size := 1) (w1.alloc (.cells #[] 34)) #[] 0 (by simp) (Nat.zero_le _) rfl
    rw [World.size_alloc] at r5
    refine ⟨w1.heap.size, { nilC with v4 := .slice (some ⟨w1.heap.size, 0, none⟩) 0 0, v5 := .slice (some ⟨w1.heap.size + 1, 0, none⟩) 0 0 }, rfl, by omega, bel_set4 (hbw.trans ((bel2 w1 _ _).mono (by omega))) (by omega) _ _ _ _, ?_⟩
    refine Ow.keep (Ow.nil _ _ _ _ _ r4 r5 (fun b e1 e2 => by simp [Value.ownBlock] at e1 e2; omega)) (fun b h1 h2 => blk_set4 _ _ _ _ _ _ b (by omega)))
  clear hb2 h
  simp only [T.Tr.val] at HTM HWK ⊢
  go_enter Try.func13, Try.ntmps13
  go_wp2_with fail
  refine Calls.mono HTM.out ?_
  rintro e w1 ⟨rfl, hb1⟩
  obtain ⟨⟨X0, X1, X2, X3⟩, ⟨Z0, Z1, Z2, Z3, y0, y1, y2, y3⟩, hbw1, hsz1⟩ := HB.out w1 hb1
  have HB1 := (show Hid (Below ((w.alloc (.cells #[.string t.name, .string t.text, .bool t.leaf, .slice a len cap] 40)).alloc (.cells #[.int .i64 0, .slice none 0 0, .slice none 0 0, .slice none 0 0] 27)).heap.size ((w.alloc (.cells #[.string t.name, .string t.text, .bool t.leaf, .slice a len cap] 40)).alloc (.cells #[.int .i64 0, .slice none 0 0, .slice none 0 0, .slice none 0 0] 27)) w1) from hb1); clear hb1
  clear hbw1
  cases hok : (t.ok && T.tm t)
  · have HA := (show Hid _ from scR_bad hok); clear hok
    clear Z0 Z1 Z2 Z3 y0 y1 y2 y3
    obtain ⟨Z0, Z1, Z2, Z3, y0, y1, y2, y3⟩ := HZ.out w1 HB1.out
    go_wp2_with fail
    refine bodyPost_ret (v := .tuple #[.agg #[.int .i64 0, .slice none 0 0, .slice none 0 0, .slice none 0 0], .slice (some ⟨w1.heap.size, 0, none⟩) 0 0, .slice (some ⟨w1.heap.size + 1, 0, none⟩) 0 0, .int .i64 1]) (by simp [results, Try.results13, go_sem, Z0, Z1, Z2, Z3]) rfl ?_
    exact HF.out w1 _ 1 HB1.out HA.out rfl
  · have HOK := (show Hid ((t.ok && T.tm t) = true) from hok); clear hok
    obtain ⟨U0, U1, U2, U3⟩ := HX3.out w1 HB1.out
    go_wp2_with fail
    refine Calls.mono (HWK.out w1 HB1.out HOK.out) ?_
    rintro e w3 ⟨rfl, c3, hco, hb3⟩
    obtain ⟨⟨a1, p1, e1⟩, ⟨a2, p2, e2⟩, ⟨a3, p3, e3⟩, ⟨a4, p4, e4⟩, ⟨a5, p5, e5⟩⟩ := hco.form
    have HCO := (show Hid _ from hco)
    have HSG := (show Hid (Calls Try.prog 32 #[.agg #[.int .i64 (sgW (sw t 0 [] (sw0 1))).scopes, c3.v1, c3.v2, c3.v3]] w3 fun e w' => e = .returned (.bool (sgB (sgW (sw t 0 [] (sw0 1))))) ∧ Below w3.heap.size w3 w') from sSg10 _ _ _ _ w3 (hco.ow.sg (HNM.out HOK.out)))
    have hbx := hco.bx
    rw [e1, e2, e3, e4, e5] at hbx
    rw [e1, e2, e3] at HSG
    have HFN := (show Hid (∀ w5, Below w3.heap.size w3 w5 → scR t = (sw t 0 [] (sw0 1), 0) → ScA (scR t) w (.returned (.tuple #[.agg #[.int .i64 ((sw t 0 [] (sw0 1)).n : Nat), .slice a1 (sw t 0 [] (sw0 1)).es.length p1, .slice a2 (sw t 0 [] (sw0 1)).ds.length p2, .slice a3 (sw t 0 [] (sw0 1)).rs.length p3], .slice a4 (sw t 0 [] (sw0 1)).dp.length p4, .slice a5 (sw t 0 [] (sw0 1)).rp.length p5, .int .i64 0])) ((((w5.setCell ⟨w.heap.size + 1, 0, none⟩ (.int .i64 ((sw t 0 [] (sw0 1)).n : Nat))).setCell ⟨w.heap.size + 1, 1, none⟩ (.slice a1 (sw t 0 [] (sw0 1)).es.length p1)).setCell ⟨w.heap.size + 1, 2, none⟩ (.slice a2 (sw t 0 [] (sw0 1)).ds.length p2)).setCell ⟨w.heap.size + 1, 3, none⟩ (.slice a3 (sw t 0 [] (sw0 1)).rs.length p3))) from fun w5 hb5 e => by
      obtain ⟨_, _, hbw, hsz⟩ := HB.out w5 (hb3.trans (hb5.mono hb3.size))
      rw [e]
      refine ⟨w1.heap.size, c3, by rw [e1, e2, e3, e4, e5], by omega, bel_set4 hbw (by omega) _ _ _ _, ?_⟩
      exact Ow.keep (hco.ow.still hb5) (fun b h1 h2 => blk_set4 _ _ _ _ _ _ b (by omega)))
    clear X0 X1 X2 X3 Z0 Z1 Z2 Z3 y0 y1 y2 y3 U0 U1 U2 U3 hco e1 e2 e3 e4 e5 HCO
    have HBX := (show Hid _ from hbx)
    have Q0 := hbx.cell 0 (by simp)
    have Q1 := hbx.cell 1 (by simp)
    have Q2 := hbx.cell 2 (by simp)
    have Q3 := hbx.cell 3 (by simp)
    simp only [List.getD_cons_zero, List.getD_cons_succ] at Q0 Q1 Q2 Q3
    have HB3 := (show Hid (Below ((w.alloc (.cells #[.string t.name, .string t.text, .bool t.leaf, .slice a len cap] 40)).alloc (.cells #[.int .i64 0, .slice none 0 0, .slice none 0 0, .slice none 0 0] 27)).heap.size ((w.alloc (.cells #[.string t.name, .string t.text, .bool t.leaf, .slice a len cap] 40)).alloc (.cells #[.int .i64 0, .slice none 0 0, .slice none 0 0, .slice none 0 0] 27)) w3) from hb3)
    clear hbx hb3
    have HNO := (show Hid (sgB (sgW (sw t 0 [] (sw0 1))) = false → scR t = (sw0 0, 3)) from scR_no HOK.out)
    have HYS := (show Hid (sgB (sgW (sw t 0 [] (sw0 1))) = true → scR t = (sw t 0 [] (sw0 1), 0)) from scR_yes HOK.out)
    unfold sgW at HSG
    dsimp only at HSG
    generalize hR : sgB (sgW (sw t 0 [] (sw0 1))) = ans at *
    unfold sgW at hR
    rw [hR] at HSG
    clear hR HWK HTM HX3 HNM
    generalize (sw t 0 [] (sw0 1)).n = N at *
    generalize (sw t 0 [] (sw0 1)).es.length = n1 at *
    generalize (sw t 0 [] (sw0 1)).ds.length = n2 at *
    generalize (sw t 0 [] (sw0 1)).rs.length = n3 at *
    generalize (sw t 0 [] (sw0 1)).dp.length = n4 at *
    generalize (sw t 0 [] (sw0 1)).rp.length = n5 at *
    go_wp2_with fail
    refine Calls.mono HSG.out ?_
    rintro e w5 ⟨rfl, hb5⟩
    obtain ⟨⟨X0, X1, X2, X3⟩, ⟨Z0, Z1, Z2, Z3, y0, y1, y2, y3⟩, hbw5, hsz5⟩ := HB.out w5 (HB3.out.trans (hb5.mono HB3.out.size))
    clear hbw5
    cases ans
    · have HA := (show Hid _ from HNO.out rfl)
      have HB5 := (show Hid (Below ((w.alloc (.cells #[.string t.name, .string t.text, .bool t.leaf, .slice a len cap] 40)).alloc (.cells #[.int .i64 0, .slice none 0 0, .slice none 0 0, .slice none 0 0] 27)).heap.size ((w.alloc (.cells #[.string t.name, .string t.text, .bool t.leaf, .slice a len cap] 40)).alloc (.cells #[.int .i64 0, .slice none 0 0, .slice none 0 0, .slice none 0 0] 27)) w5) from HB3.out.trans (hb5.mono HB3.out.size))
      clear hb5 Q0 Q1 Q2 Q3 Z0 Z1 Z2 Z3 y0 y1 y2 y3
      obtain ⟨Z0, Z1, Z2, Z3, y0, y1, y2, y3⟩ := HZ.out w5 HB5.out
      go_wp2_with fail
      refine bodyPost_ret (v := .tuple #[.agg #[.int .i64 0, .slice none 0 0, .slice none 0 0, .slice none 0 0], .slice (some ⟨w5.heap.size, 0, none⟩) 0 0, .slice (some ⟨w5.heap.size + 1, 0, none⟩) 0 0, .int .i64 3]) (by simp [results, Try.results13, go_sem, Z0, Z1, Z2, Z3]) rfl ?_
      exact HF.out w5 _ 3 HB5.out HA.out rfl
    · have HA := (show Hid _ from HFN.out w5.drew hb5.drew (HYS.out rfl))
      have hbx5 := (HBX.out.still hb5)
      have hq5 : Box w5.drew w1.heap.size 85 [.int .i64 (N : Nat), .slice a1 n1 p1, .slice a2 n2 p2, .slice a3 n3 p3, .slice a4 n4 p4, .slice a5 n5 p5] := hbx5.keep rfl
      have hS0 : (fun wq => wq.cell? ⟨w1.heap.size, 0, none⟩ = some (.int .i64 (N : Nat)) ∧ wq.cell? ⟨w1.heap.size, 1, none⟩ = some (.slice a1 n1 p1) ∧ wq.cell? ⟨w1.heap.size, 2, none⟩ = some (.slice a2 n2 p2) ∧ wq.cell? ⟨w1.heap.size, 3, none⟩ = some (.slice a3 n3 p3) ∧ wq.cell? ⟨w1.heap.size, 4, none⟩ = some (.slice a4 n4 p4) ∧ wq.cell? ⟨w1.heap.size, 5, none⟩ = some (.slice a5 n5 p5)) w5.drew := ⟨hq5.cell 0 (by simp), hq5.cell 1 (by simp), hq5.cell 2 (by simp), hq5.cell 3 (by simp), hq5.cell 4 (by simp), hq5.cell 5 (by simp)⟩
      have hq6 : Box ((((w5.drew.setCell ⟨w.heap.size + 1, 0, none⟩ (.int .i64 (N : Nat))).setCell ⟨w.heap.size + 1, 1, none⟩ (.slice a1 n1 p1)).setCell ⟨w.heap.size + 1, 2, none⟩ (.slice a2 n2 p2)).setCell ⟨w.heap.size + 1, 3, none⟩ (.slice a3 n3 p3)) w1.heap.size 85 [.int .i64 (N : Nat), .slice a1 n1 p1, .slice a2 n2 p2, .slice a3 n3 p3, .slice a4 n4 p4, .slice a5 n5 p5] := hq5.keep (blk_set4 _ _ _ _ _ _ _ (by omega))
      have hS1 : (fun wq => wq.cell? ⟨w1.heap.size, 0, none⟩ = some (.int .i64 (N : Nat)) ∧ wq.cell? ⟨w1.heap.size, 1, none⟩ = some (.slice a1 n1 p1) ∧ wq.cell? ⟨w1.heap.size, 2, none⟩ = some (.slice a2 n2 p2) ∧ wq.cell? ⟨w1.heap.size, 3, none⟩ = some (.slice a3 n3 p3) ∧ wq.cell? ⟨w1.heap.size, 4, none⟩ = some (.slice a4 n4 p4) ∧ wq.cell? ⟨w1.heap.size, 5, none⟩ = some (.slice a5 n5 p5)) ((((w5.drew.setCell ⟨w.heap.size + 1, 0, none⟩ (.int .i64 (N : Nat))).setCell ⟨w.heap.size + 1, 1, none⟩ (.slice a1 n1 p1)).setCell ⟨w.heap.size + 1, 2, none⟩ (.slice a2 n2 p2)).setCell ⟨w.heap.size + 1, 3, none⟩ (.slice a3 n3 p3)) := ⟨hq6.cell 0 (by simp), hq6.cell 1 (by simp), hq6.cell 2 (by simp), hq6.cell 3 (by simp), hq6.cell 4 (by simp), hq6.cell 5 (by simp)⟩
      clear hb5 hbx5 hq5 hq6 Q0 Q1 Q2 Q3
      go_wp2_with fail
      refine wp_region_held_drew (S := (fun wq => wq.cell? ⟨w1.heap.size, 0, none⟩ = some (.int .i64 (N : Nat)) ∧ wq.cell? ⟨w1.heap.size, 1, none⟩ = some (.slice a1 n1 p1) ∧ wq.cell? ⟨w1.heap.size, 2, none⟩ = some (.slice a2 n2 p2) ∧ wq.cell? ⟨w1.heap.size, 3, none⟩ = some (.slice a3 n3 p3) ∧ wq.cell? ⟨w1.heap.size, 4, none⟩ = some (.slice a4 n4 p4) ∧ wq.cell? ⟨w1.heap.size, 5, none⟩ = some (.slice a5 n5 p5))) (by kernel_rfl) hS0 (fun hHeld => ?_)
      refine wpAnyH_take (i := 0) (oi := { dst := some 29, op := Go.Op.move (Go.Operand.tmp 6), type := 83, pos := "l12_names.go:231", after := #[], guard := none }) (v := ?v1) rfl (by kernel_rfl) (by kernel_rfl) (by kernel_rfl) (fun _ _ _ h => h) (Or.inl ⟨by rfl, ?h1⟩) hHeld ?r1
      case h1 => (intro w hSw; (try dsimp only at hSw); go_simp; try with_reducible rfl)
      refine wpAnyH_take (i := 1) (oi := { dst := some 30, op := Go.Op.nilCheck (Go.Operand.tmp 29), type := 0, pos := "l12_names.go:231", after := #[{ on := 0, ground := Go.Ground.data }], guard := none }) (v := ?v2) rfl (by kernel_rfl) (by kernel_rfl) (by kernel_rfl) (fun _ _ _ h => h) (Or.inl ⟨by rfl, ?h2⟩) hHeld ?r2
      case h2 => (intro w hSw; (try dsimp only at hSw); go_simp; try with_reducible rfl)
      refine wpAnyH_take (i := 2) (oi := { dst := some 31, op := Go.Op.fieldAddr 85 (Go.Operand.tmp 30) 0, type := 0, pos := "l12_names.go:231", after := #[{ on := 1, ground := Go.Ground.data }], guard := none }) (v := ?v3) rfl (by kernel_rfl) (by kernel_rfl) (by kernel_rfl) (fun _ _ _ h => h) (Or.inl ⟨by rfl, ?h3⟩) hHeld ?r3
      case h3 => (intro w hSw; (try dsimp only at hSw); go_simp; try with_reducible rfl)
      refine wpAnyH_take (i := 3) (oi := { dst := some 32, op := Go.Op.load 27 (Go.Operand.tmp 31), type := 27, pos := "l12_names.go:231", after := #[{ on := 2, ground := Go.Ground.data }], guard := none }) (v := ?v4) rfl (by kernel_rfl) (by kernel_rfl) (by kernel_rfl) (fun _ _ _ h => h) (Or.inl ⟨by rfl, ?h4⟩) hHeld ?r4
      case h4 => (intro w hSw; (try dsimp only at hSw); go_simp; try with_reducible rfl)
      refine wpAnyH_take (i := 4) (oi := { dst := some 33, op := Go.Op.move (Go.Operand.tmp 6), type := 83, pos := "l12_names.go:231", after := #[{ on := 12, ground := Go.Ground.gcOnly Go.Departure.lateStores }], guard := none }) (v := ?v5) rfl (by kernel_rfl) (by kernel_rfl) (by kernel_rfl) (fun _ _ _ h => h) (Or.inl ⟨by rfl, ?h5⟩) hHeld ?r5
      case h5 => (intro w hSw; (try dsimp only at hSw); go_simp; try with_reducible rfl)
      refine wpAnyH_take (i := 5) (oi := { dst := some 34, op := Go.Op.nilCheck (Go.Operand.tmp 33), type := 0, pos := "l12_names.go:231", after := #[{ on := 4, ground := Go.Ground.data }, { on := 12, ground := Go.Ground.gcOnly Go.Departure.lateStores }], guard := none }) (v := ?v6) rfl (by kernel_rfl) (by kernel_rfl) (by kernel_rfl) (fun _ _ _ h => h) (Or.inl ⟨by rfl, ?h6⟩) hHeld ?r6
      case h6 => (intro w hSw; (try dsimp only at hSw); go_simp; try with_reducible rfl)
      refine wpAnyH_take (i := 6) (oi := { dst := some 35, op := Go.Op.fieldAddr 85 (Go.Operand.tmp 34) 1, type := 0, pos := "l12_names.go:231", after := #[{ on := 5, ground := Go.Ground.data }, { on := 12, ground := Go.Ground.gcOnly Go.Departure.lateStores }], guard := none }) (v := ?v7) rfl (by kernel_rfl) (by kernel_rfl) (by kernel_rfl) (fun _ _ _ h => h) (Or.inl ⟨by rfl, ?h7⟩) hHeld ?r7
      case h7 => (intro w hSw; (try dsimp only at hSw); go_simp; try with_reducible rfl)
      refine wpAnyH_take (i := 7) (oi := { dst := some 36, op := Go.Op.load 42 (Go.Operand.tmp 35), type := 42, pos := "l12_names.go:231", after := #[{ on := 6, ground := Go.Ground.data }, { on := 12, ground := Go.Ground.gcOnly Go.Departure.lateStores }], guard := none }) (v := ?v8) rfl (by kernel_rfl) (by kernel_rfl) (by kernel_rfl) (fun _ _ _ h => h) (Or.inl ⟨by rfl, ?h8⟩) hHeld ?r8
      case h8 => (intro w hSw; (try dsimp only at hSw); go_simp; try with_reducible rfl)
      refine wpAnyH_take (i := 8) (oi := { dst := some 37, op := Go.Op.move (Go.Operand.tmp 6), type := 83, pos := "l12_names.go:231", after := #[{ on := 13, ground := Go.Ground.gcOnly Go.Departure.lateStores }], guard := none }) (v := ?v9) rfl (by kernel_rfl) (by kernel_rfl) (by kernel_rfl) (fun _ _ _ h => h) (Or.inl ⟨by rfl, ?h9⟩) hHeld ?r9
      case h9 => (intro w hSw; (try dsimp only at hSw); go_simp; try with_reducible rfl)
      refine wpAnyH_take (i := 9) (oi := { dst := some 38, op := Go.Op.nilCheck (Go.Operand.tmp 37), type := 0, pos := "l12_names.go:231", after := #[{ on := 8, ground := Go.Ground.data }, { on := 13, ground := Go.Ground.gcOnly Go.Departure.lateStores }], guard := none }) (v := ?v10) rfl (by kernel_rfl) (by kernel_rfl) (by kernel_rfl) (fun _ _ _ h => h) (Or.inl ⟨by rfl, ?h10⟩) hHeld ?r10
      case h10 => (intro w hSw; (try dsimp only at hSw); go_simp; try with_reducible rfl)
      refine wpAnyH_take (i := 10) (oi := { dst := some 39, op := Go.Op.fieldAddr 85 (Go.Operand.tmp 38) 2, type := 0, pos := "l12_names.go:231", after := #[{ on := 9, ground := Go.Ground.data }, { on := 13, ground := Go.Ground.gcOnly Go.Departure.lateStores }], guard := none }) (v := ?v11) rfl (by kernel_rfl) (by kernel_rfl) (by kernel_rfl) (fun _ _ _ h => h) (Or.inl ⟨by rfl, ?h11⟩) hHeld ?r11
      case h11 => (intro w hSw; (try dsimp only at hSw); go_simp; try with_reducible rfl)
      refine wpAnyH_take (i := 11) (oi := { dst := some 40, op := Go.Op.load 42 (Go.Operand.tmp 39), type := 42, pos := "l12_names.go:231", after := #[{ on := 10, ground := Go.Ground.data }, { on := 13, ground := Go.Ground.gcOnly Go.Departure.lateStores }], guard := none }) (v := ?v12) rfl (by kernel_rfl) (by kernel_rfl) (by kernel_rfl) (fun _ _ _ h => h) (Or.inl ⟨by rfl, ?h12⟩) hHeld ?r12
      case h12 => (intro w hSw; (try dsimp only at hSw); go_simp; try with_reducible rfl)
      refine wpAnyH_ready (rs := [12]) (by kernel_rfl) (by simp) ?_
      refine (AllReadyH.cons (o := { dst := none, op := Go.Op.store 27 (Go.Operand.tmp 2) (Go.Operand.tmp 32), type := 0, pos := "l12_names.go:231", after := #[{ on := 3, ground := Go.Ground.data }, { on := 0, ground := Go.Ground.phase }, { on := 1, ground := Go.Ground.phase }, { on := 2, ground := Go.Ground.phase }, { on := 3, ground := Go.Ground.phase }, { on := 4, ground := Go.Ground.textOnly Go.Departure.lateStores }, { on := 5, ground := Go.Ground.textOnly Go.Departure.lateStores }, { on := 6, ground := Go.Ground.textOnly Go.Departure.lateStores }, { on := 7, ground := Go.Ground.textOnly Go.Departure.lateStores }, { on := 8, ground := Go.Ground.textOnly Go.Departure.lateStores }, { on := 9, ground := Go.Ground.textOnly Go.Departure.lateStores }, { on := 10, ground := Go.Ground.textOnly Go.Departure.lateStores }, { on := 11, ground := Go.Ground.textOnly Go.Departure.lateStores }], guard := none }) rfl (fun K hK => ?_) AllReadyH.nil)
      go_simp
      clear hHeld
      refine hK.out _ _ hS1 (fun hHeld => ?_)
      clear hK K
      refine wpAnyH_take (i := 13) (oi := { dst := some 3, op := Go.Op.assign (Go.Operand.tmp 36), type := 42, pos := "l12_names.go:231", after := #[{ on := 7, ground := Go.Ground.data }, { on := 12, ground := Go.Ground.chain }, { on := 0, ground := Go.Ground.phase }, { on := 1, ground := Go.Ground.phase }, { on := 2, ground := Go.Ground.phase }, { on := 3, ground := Go.Ground.phase }, { on := 4, ground := Go.Ground.phase }, { on := 5, ground := Go.Ground.phase }, { on := 6, ground := Go.Ground.phase }, { on := 7, ground := Go.Ground.phase }, { on := 8, ground := Go.Ground.textOnly Go.Departure.lateStores }, { on := 9, ground := Go.Ground.textOnly Go.Departure.lateStores }, { on := 10, ground := Go.Ground.textOnly Go.Departure.lateStores }, { on := 11, ground := Go.Ground.textOnly Go.Departure.lateStores }, { on := 12, ground := Go.Ground.phase }], guard := none }) (v := ?v13) rfl (by kernel_rfl) (by kernel_rfl) (by kernel_rfl) (fun _ _ _ h => h) (Or.inl ⟨by rfl, ?h13⟩) hHeld ?r13
      case h13 => (intro w hSw; (try dsimp only at hSw); go_simp; try with_reducible rfl)
      refine wpAnyH_take (i := 14) (oi := { dst := some 4, op := Go.Op.assign (Go.Operand.tmp 40), type := 42, pos := "l12_names.go:231", after := #[{ on := 11, ground := Go.Ground.data }, { on := 13, ground := Go.Ground.chain }, { on := 0, ground := Go.Ground.phase }, { on := 1, ground := Go.Ground.phase }, { on := 2, ground := Go.Ground.phase }, { on := 3, ground := Go.Ground.phase }, { on := 4, ground := Go.Ground.phase }, { on := 5, ground := Go.Ground.phase }, { on := 6, ground := Go.Ground.phase }, { on := 7, ground := Go.Ground.phase }, { on := 8, ground := Go.Ground.phase }, { on := 9, ground := Go.Ground.phase }, { on := 10, ground := Go.Ground.phase }, { on := 11, ground := Go.Ground.phase }, { on := 12, ground := Go.Ground.phase }, { on := 13, ground := Go.Ground.phase }], guard := none }) (v := ?v14) rfl (by kernel_rfl) (by kernel_rfl) (by kernel_rfl) (fun _ _ _ h => h) (Or.inl ⟨by rfl, ?h14⟩) hHeld ?r14
      case h14 => (intro w hSw; (try dsimp only at hSw); go_simp; try with_reducible rfl)
      refine wpAnyH_take (i := 15) (oi := { dst := some 5, op := Go.Op.assign (Go.Operand.const (Go.Value.int Go.IntKind.i64 0)), type := 3, pos := "l12_names.go:231", after := #[{ on := 14, ground := Go.Ground.chain }, { on := 0, ground := Go.Ground.phase }, { on := 1, ground := Go.Ground.phase }, { on := 2, ground := Go.Ground.phase }, { on := 3, ground := Go.Ground.phase }, { on := 4, ground := Go.Ground.phase }, { on := 5, ground := Go.Ground.phase }, { on := 6, ground := Go.Ground.phase }, { on := 7, ground := Go.Ground.phase }, { on := 8, ground := Go.Ground.phase }, { on := 9, ground := Go.Ground.phase }, { on := 10, ground := Go.Ground.phase }, { on := 11, ground := Go.Ground.phase }, { on := 12, ground := Go.Ground.phase }, { on := 13, ground := Go.Ground.phase }, { on := 14, ground := Go.Ground.phase }], guard := none }) (v := ?v15) rfl (by kernel_rfl) (by kernel_rfl) (by kernel_rfl) (fun _ _ _ h => h) (Or.inl ⟨by rfl, ?h15⟩) hHeld ?r15
      case h15 => (intro w hSw; (try dsimp only at hSw); go_simp; try with_reducible rfl)
      refine wpAnyH_done (by kernel_rfl) ?_ _
      go_wp2_with fail
      refine bodyPost_ret (v := .tuple #[.agg #[.int .i64 (N : Nat), .slice a1 n1 p1, .slice a2 n2 p2, .slice a3 n3 p3], .slice a4 n4 p4, .slice a5 n5 p5, .int .i64 0]) (by simp [results, Try.results13, go_sem, Z0, Z1, Z2, Z3]) rfl ?_
      exact HA.out
end Go.Proofs.Ytledclkmeikgdaa
