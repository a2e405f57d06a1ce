import Derived.Test.YtledclkmeikgdaaSp
import Derived.Test.YtledclkmeikgdaaXTh
import Derived.Test.YtledclkmeikgdaaGb
/-! The program: ScopesOf, where its walk is as it is meant. -/
namespace Go.Proofs.Ytledclkmeikgdaa
open Go.RowKit Go.Deep Go.Lib
open Go.Proofs.Ytledclkmeikgdaa.T (Tr)
set_option linter.unusedVariables false
set_option maxRecDepth 100000
set_option linter.unusedSimpArgs false

/-- The walk's contract. -/
def WtC (A q : Nat) (t : Tr) : Prop := ∀ (v : Value) (sc : Nat) (p : List Nat) (pv : Value) (s : Sw) (c : CV) (w : World), Co w A q 88 s c → w.ownsRow A 3 1 pv p.length (nums p) → (∀ b, pv.ownBlock = some b → ¬ c.B q s b) → T.Lies w (fun b => b < A) t v →
  s.sz + 4 * t.cnt ≤ 100000 → p.length + t.deep ≤ 100000 → sc ≤ 100000 → T.tm t = true → t.right = true →
  Calls Try.prog 52 #[.pointer (some ⟨q, 0, none⟩), t.val v, .int .i64 (sc : Nat), pv] w fun e w' => e = .returned (.tuple #[]) ∧ (∃ c', St A q 88 w s c w' (sw t sc p s) c' (fun b => pv.ownBlock = some b) (fun _ => False)) ∧ w'.ownsRow A 3 1 pv p.length (nums p)
theorem Co.start2 {w : World} {q ty : Nat} (h : Box w q ty [.int .i64 1, .slice none 0 0, .slice none 0 0, .slice none 0 0, .slice none 0 0, .slice none 0 0]) (hty : ty ≠ 74 ∧ ty ≠ 33 ∧ ty ≠ 34 ∧ ty ≠ 3) : Co w q q ty (sw0 1) nilC :=
  ⟨h, own_nil _ _ _ _, own_nil _ _ _ _, own_nil _ _ _ _, RRv.nil _ _, RRv.nil _ _, (fun b e => by cases e), (fun b e => by cases e), fun i j hi => absurd hi (Nat.not_lt_zero _), Nat.le_refl _, hty⟩
set_option maxHeartbeats 6400000 in
theorem sc14 (hW : ∀ (A q : Nat) (t : Tr), WtC A q t) (t : Tr) (v : Value) (w : World) (h : T.Lies w (fun b => b < w.heap.size) t v) : Calls Try.prog 14 #[t.val v] w (ScA (scR t) w) := by
  have hform := h.form
  obtain ⟨a, len, cap, rfl⟩ := hform
  have hb2 : Below w.heap.size w ((w.alloc (.cells #[.string t.name, .string t.text, .bool t.leaf, .slice a len cap] 40)).alloc (.cells #[.int .i64 0, .slice none 0 0, .slice none 0 0, .slice none 0 0] 27)) := (bel_alloc _ _).alloc (by simp) _
  have HTM := (show Hid (Calls Try.prog 51 #[t.val (.slice a len cap)] ((w.alloc (.cells #[.string t.name, .string t.text, .bool t.leaf, .slice a len cap] 40)).alloc (.cells #[.int .i64 0, .slice none 0 0, .slice none 0 0, .slice none 0 0] 27)) fun e w' => e = .returned (.bool (t.ok && T.tm t)) ∧ Below ((w.alloc (.cells #[.string t.name, .string t.text, .bool t.leaf, .slice a len cap] 40)).alloc (.cells #[.int .i64 0, .slice none 0 0, .slice none 0 0, .slice none 0 0] 27)).heap.size ((w.alloc (.cells #[.string t.name, .string t.text, .bool t.leaf, .slice a len cap] 40)).alloc (.cells #[.int .i64 0, .slice none 0 0, .slice none 0 0, .slice none 0 0] 27)) w') from T.iTerm28 t _ _ (h.still hb2))
  have HB := (show Hid (∀ w', Below ((w.alloc (.cells #[.string t.name, .string t.text, .bool t.leaf, .slice a len cap] 40)).alloc (.cells #[.int .i64 0, .slice none 0 0, .slice none 0 0, .slice none 0 0] 27)).heap.size ((w.alloc (.cells #[.string t.name, .string t.text, .bool t.leaf, .slice a len cap] 40)).alloc (.cells #[.int .i64 0, .slice none 0 0, .slice none 0 0, .slice none 0 0] 27)) w' → (w'.cell? ⟨w.heap.size, 0, none⟩ = some (.string t.name) ∧ w'.cell? ⟨w.heap.size, 1, none⟩ = some (.string t.text) ∧ w'.cell? ⟨w.heap.size, 2, none⟩ = some (.bool t.leaf) ∧ w'.cell? ⟨w.heap.size, 3, none⟩ = some (.slice a len cap)) ∧ (w'.cell? ⟨w.heap.size + 1, 0, none⟩ = some (.int .i64 0) ∧ w'.cell? ⟨w.heap.size + 1, 1, none⟩ = some (.slice none 0 0) ∧ w'.cell? ⟨w.heap.size + 1, 2, none⟩ = some (.slice none 0 0) ∧ w'.cell? ⟨w.heap.size + 1, 3, none⟩ = some (.slice none 0 0) ∧ w'.frozen? ⟨w.heap.size + 1, 0, none⟩ = false ∧ w'.frozen? ⟨w.heap.size + 1, 1, none⟩ = false ∧ w'.frozen? ⟨w.heap.size + 1, 2, none⟩ = false ∧ w'.frozen? ⟨w.heap.size + 1, 3, none⟩ = false) ∧ Below w.heap.size w w' ∧ w.heap.size + 2 ≤ w'.heap.size) from fun w' hb => by
    have b0 := ((Box.new w 40 [.string t.name, .string t.text, .bool t.leaf, .slice a len cap]).still (bel_alloc _ (.cells #[.int .i64 0, .slice none 0 0, .slice none 0 0, .slice none 0 0] 27))).still hb
    have b1 := (Box.new (w.alloc (.cells #[.string t.name, .string t.text, .bool t.leaf, .slice a len cap] 40)) 27 [.int .i64 0, .slice none 0 0, .slice none 0 0, .slice none 0 0]).still hb
    rw [World.size_alloc] at b1
    have hs := hb.size
    simp at hs
    exact ⟨⟨b0.cell 0 (by simp), b0.cell 1 (by simp), b0.cell 2 (by simp), b0.cell 3 (by simp)⟩, ⟨b1.cell 0 (by simp), b1.cell 1 (by simp), b1.cell 2 (by simp), b1.cell 3 (by simp), b1.frozen 0, b1.frozen 1, b1.frozen 2, b1.frozen 3⟩, hb2.trans (hb.mono (by simp; omega)), by omega⟩)
  have HB3 := (show Hid (∀ w1 : World, Below w1.heap.size w1 (w1.alloc (.cells #[.int .i64 1, .slice none 0 0, .slice none 0 0, .slice none 0 0, .slice none 0 0, .slice none 0 0] 88)) ∧ Box (w1.alloc (.cells #[.int .i64 1, .slice none 0 0, .slice none 0 0, .slice none 0 0, .slice none 0 0, .slice none 0 0] 88)) w1.heap.size 88 [.int .i64 1, .slice none 0 0, .slice none 0 0, .slice none 0 0, .slice none 0 0, .slice none 0 0]) from fun w1 =>
    ⟨bel_alloc w1 _, Box.new w1 88 [.int .i64 1, .slice none 0 0, .slice none 0 0, .slice none 0 0, .slice none 0 0, .slice none 0 0]⟩)
  have HX3 := (show Hid (∀ w1, Below ((w.alloc (.cells #[.string t.name, .string t.text, .bool t.leaf, .slice a len cap] 40)).alloc (.cells #[.int .i64 0, .slice none 0 0, .slice none 0 0, .slice none 0 0] 27)).heap.size ((w.alloc (.cells #[.string t.name, .string t.text, .bool t.leaf, .slice a len cap] 40)).alloc (.cells #[.int .i64 0, .slice none 0 0, .slice none 0 0, .slice none 0 0] 27)) w1 → (w1.alloc (.cells #[.int .i64 1, .slice none 0 0, .slice none 0 0, .slice none 0 0, .slice none 0 0, .slice none 0 0] 88)).cell? ⟨w.heap.size, 0, none⟩ = some (.string t.name) ∧ (w1.alloc (.cells #[.int .i64 1, .slice none 0 0, .slice none 0 0, .slice none 0 0, .slice none 0 0, .slice none 0 0] 88)).cell? ⟨w.heap.size, 1, none⟩ = some (.string t.text) ∧ (w1.alloc (.cells #[.int .i64 1, .slice none 0 0, .slice none 0 0, .slice none 0 0, .slice none 0 0, .slice none 0 0] 88)).cell? ⟨w.heap.size, 2, none⟩ = some (.bool t.leaf) ∧ (w1.alloc (.cells #[.int .i64 1, .slice none 0 0, .slice none 0 0, .slice none 0 0, .slice none 0 0, .slice none 0 0] 88)).cell? ⟨w.heap.size, 3, none⟩ = some (.slice a len cap)) from fun w1 hb => by
    have b0 := (((Box.new w 40 [.string t.name, .string t.text, .bool t.leaf, .slice a len cap]).still (bel_alloc _ (.cells #[.int .i64 0, .slice none 0 0, .slice none 0 0, .slice none 0 0] 27))).still hb).still (HB3.out w1).1
    exact ⟨b0.cell 0 (by simp), b0.cell 1 (by simp), b0.cell 2 (by simp), b0.cell 3 (by simp)⟩)
  have HWK := (show Hid (∀ w1, Below ((w.alloc (.cells #[.string t.name, .string t.text, .bool t.leaf, .slice a len cap] 40)).alloc (.cells #[.int .i64 0, .slice none 0 0, .slice none 0 0, .slice none 0 0] 27)).heap.size ((w.alloc (.cells #[.string t.name, .string t.text, .bool t.leaf, .slice a len cap] 40)).alloc (.cells #[.int .i64 0, .slice none 0 0, .slice none 0 0, .slice none 0 0] 27)) w1 → (t.ok && T.tm t) = true → Calls Try.prog 52 #[.pointer (some ⟨w1.heap.size, 0, none⟩), t.val (.slice a len cap), .int .i64 0, .slice none 0 0] (w1.alloc (.cells #[.int .i64 1, .slice none 0 0, .slice none 0 0, .slice none 0 0, .slice none 0 0, .slice none 0 0] 88)) fun e w3 => e = .returned (.tuple #[]) ∧ ∃ c3, Co w3 w1.heap.size w1.heap.size 88 (sw t 0 [] (sw0 1)) c3 ∧ Below ((w.alloc (.cells #[.string t.name, .string t.text, .bool t.leaf, .slice a len cap] 40)).alloc (.cells #[.int .i64 0, .slice none 0 0, .slice none 0 0, .slice none 0 0] 27)).heap.size ((w.alloc (.cells #[.string t.name, .string t.text, .bool t.leaf, .slice a len cap] 40)).alloc (.cells #[.int .i64 0, .slice none 0 0, .slice none 0 0, .slice none 0 0] 27)) w3) from fun w1 hb hok => by
    have hs := hb.size
    simp at hs
    have hbw : Below w.heap.size w w1 := hb2.trans (hb.mono (by simp; omega))
    obtain ⟨hbs, hbx⟩ := HB3.out w1
    obtain ⟨W, hWe⟩ : ∃ W, (w1.alloc (.cells #[.int .i64 1, .slice none 0 0, .slice none 0 0, .slice none 0 0, .slice none 0 0, .slice none 0 0] 88)) = W := ⟨_, rfl⟩
    rw [hWe] at hbs hbx ⊢
    clear hWe
    have h0 := Co.start2 hbx (by decide)
    rw [Bool.and_eq_true] at hok
    have hok1 := hok.1
    unfold T.Tr.ok at hok1
    simp only [Bool.and_eq_true, decide_eq_true_eq] at hok1
    refine Calls.mono (hW w1.heap.size w1.heap.size t (.slice a len cap) 0 [] (.slice none 0 0) (sw0 1) nilC W h0 (own_nil _ _ _ _) (fun b e => by cases e) ((((h.lt.still hbw).mono (fun b h => by have := h.2; omega)).still hbs)) (by unfold Sw.sz sw0; simp; omega) (by simp; omega) (Nat.zero_le _) hok.2 hok1.2) ?_
    rintro e w3 ⟨rfl, ⟨c3, st⟩, _⟩
    have hlw : Below w1.heap.size W w3 := st.fm.below (fun b hb => hb.elim (fun e => (h0.lt b e).1) (fun e => by cases e)) hbs.size
    exact ⟨rfl, c3, st.co, hb.trans ((hbs.trans hlw).mono (by simp; omega))⟩)
  have HNM := (show Hid ((t.ok && T.tm t) = true → (sw t 0 [] (sw0 1)).Nm) from fun hok => sw_nm t 0 [] (sw0 1) (by rw [Bool.and_eq_true] at hok; exact hok.2) (nm_sw0 _))
  have HF := (show Hid (∀ (w1 : World) (cd : Int), Below ((w.alloc (.cells #[.string t.name, .string t.text, .bool t.leaf, .slice a len cap] 40)).alloc (.cells #[.int .i64 0, .slice none 0 0, .slice none 0 0, .slice none 0 0] 27)).heap.size ((w.alloc (.cells #[.string t.name, .string t.text, .bool t.leaf, .slice a len cap] 40)).alloc (.cells #[.int .i64 0, .slice none 0 0, .slice none 0 0, .slice none 0 0] 27)) w1 → scR t = (sw0 0, cd) → ScA (scR t) w (.returned (.tuple #[.agg #[.int .i64 0, .slice none 0 0, .slice none 0 0, .slice none 0 0], .slice none 0 0, .slice none 0 0, .int .i64 cd])) ((((w1.setCell ⟨w.heap.size + 1, 0, none⟩ (.int .i64 0)).setCell ⟨w.heap.size + 1, 1, none⟩ (.slice none 0 0)).setCell ⟨w.heap.size + 1, 2, none⟩ (.slice none 0 0)).setCell ⟨w.heap.size + 1, 3, none⟩ (.slice none 0 0))) from fun w1 cd hb e => by
    obtain ⟨_, _, hbw, hsz⟩ := HB.out w1 hb
    rw [e]
    refine ⟨w1.heap.size, nilC, rfl, by omega, bel_set4 hbw (by omega) _ _ _ _, ?_⟩
    exact Ow.nil _ _ _ _ _ (own_nil _ _ _ _) (own_nil _ _ _ _) (fun b e1 e2 => by cases e1))
  clear hb2 h HB3
  simp only [T.Tr.val] at HTM HWK ⊢
  go_enter Try.func14, Try.ntmps14
  go_wp2_with fail
  refine Calls.mono HTM.out ?_
  rintro e w1 ⟨rfl, hb1⟩
  obtain ⟨⟨X0, X1, X2, X3⟩, ⟨Z0, Z1, Z2, Z3, y0, y1, y2, y3⟩, hbw1, hsz1⟩ := HB.out w1 hb1
  have HB1 := (show Hid (Below ((w.alloc (.cells #[.string t.name, .string t.text, .bool t.leaf, .slice a len cap] 40)).alloc (.cells #[.int .i64 0, .slice none 0 0, .slice none 0 0, .slice none 0 0] 27)).heap.size ((w.alloc (.cells #[.string t.name, .string t.text, .bool t.leaf, .slice a len cap] 40)).alloc (.cells #[.int .i64 0, .slice none 0 0, .slice none 0 0, .slice none 0 0] 27)) w1) from hb1); clear hb1
  clear hbw1
  cases hok : (t.ok && T.tm t)
  · have HA := (show Hid _ from scR_bad hok); clear hok
    go_wp2_with fail
    refine bodyPost_ret (v := .tuple #[.agg #[.int .i64 0, .slice none 0 0, .slice none 0 0, .slice none 0 0], .slice none 0 0, .slice none 0 0, .int .i64 1]) (by simp [results, Try.results14, go_sem, Z0, Z1, Z2, Z3]) rfl ?_
    exact HF.out w1 1 HB1.out HA.out
  · have HOK := (show Hid ((t.ok && T.tm t) = true) from hok); clear hok
    obtain ⟨U0, U1, U2, U3⟩ := HX3.out w1 HB1.out
    clear X0 X1 X2 X3 Z0 Z1 Z2 Z3 y0 y1 y2 y3
    go_wp2_with fail
    refine Calls.mono (HWK.out w1 HB1.out HOK.out) ?_
    rintro e w3 ⟨rfl, c3, hco, hb3⟩
    obtain ⟨⟨a1, p1, e1⟩, ⟨a2, p2, e2⟩, ⟨a3, p3, e3⟩, ⟨a4, p4, e4⟩, ⟨a5, p5, e5⟩⟩ := hco.form
    have HCO := (show Hid _ from hco)
    have HSG := (show Hid (Calls Try.prog 15 #[.agg #[.int .i64 (sgW (sw t 0 [] (sw0 1))).scopes, c3.v1, c3.v2, c3.v3]] w3 fun e w' => e = .returned (.bool (sgB (sgW (sw t 0 [] (sw0 1))))) ∧ Below w3.heap.size w3 w') from iSg12 _ _ _ _ w3 (hco.ow.sg (HNM.out HOK.out)))
    have hbx := hco.bx
    rw [e1, e2, e3, e4, e5] at hbx
    rw [e1, e2, e3] at HSG
    have HFN := (show Hid (∀ w5, Below w3.heap.size w3 w5 → scR t = (sw t 0 [] (sw0 1), 0) → ScA (scR t) w (.returned (.tuple #[.agg #[.int .i64 ((sw t 0 [] (sw0 1)).n : Nat), .slice a1 (sw t 0 [] (sw0 1)).es.length p1, .slice a2 (sw t 0 [] (sw0 1)).ds.length p2, .slice a3 (sw t 0 [] (sw0 1)).rs.length p3], .slice a4 (sw t 0 [] (sw0 1)).dp.length p4, .slice a5 (sw t 0 [] (sw0 1)).rp.length p5, .int .i64 0])) ((((w5.setCell ⟨w.heap.size + 1, 0, none⟩ (.int .i64 ((sw t 0 [] (sw0 1)).n : Nat))).setCell ⟨w.heap.size + 1, 1, none⟩ (.slice a1 (sw t 0 [] (sw0 1)).es.length p1)).setCell ⟨w.heap.size + 1, 2, none⟩ (.slice a2 (sw t 0 [] (sw0 1)).ds.length p2)).setCell ⟨w.heap.size + 1, 3, none⟩ (.slice a3 (sw t 0 [] (sw0 1)).rs.length p3))) from fun w5 hb5 e => by
      obtain ⟨_, _, hbw, hsz⟩ := HB.out w5 (hb3.trans (hb5.mono hb3.size))
      rw [e]
      refine ⟨w1.heap.size, c3, by rw [e1, e2, e3, e4, e5], by omega, bel_set4 hbw (by omega) _ _ _ _, ?_⟩
      exact Ow.keep (hco.ow.still hb5) (fun b h1 h2 => blk_set4 _ _ _ _ _ _ b (by omega)))
    clear U0 U1 U2 U3 hco e1 e2 e3 e4 e5 HCO
    have HBX := (show Hid _ from hbx)
    have Q0 := hbx.cell 0 (by simp)
    have Q1 := hbx.cell 1 (by simp)
    have Q2 := hbx.cell 2 (by simp)
    have Q3 := hbx.cell 3 (by simp)
    simp only [List.getD_cons_zero, List.getD_cons_succ] at Q0 Q1 Q2 Q3
    have HB3 := (show Hid (Below ((w.alloc (.cells #[.string t.name, .string t.text, .bool t.leaf, .slice a len cap] 40)).alloc (.cells #[.int .i64 0, .slice none 0 0, .slice none 0 0, .slice none 0 0] 27)).heap.size ((w.alloc (.cells #[.string t.name, .string t.text, .bool t.leaf, .slice a len cap] 40)).alloc (.cells #[.int .i64 0, .slice none 0 0, .slice none 0 0, .slice none 0 0] 27)) w3) from hb3)
    clear hbx hb3
    have HNO := (show Hid (sgB (sgW (sw t 0 [] (sw0 1))) = false → scR t = (sw0 0, 3)) from scR_no HOK.out)
    have HYS := (show Hid (sgB (sgW (sw t 0 [] (sw0 1))) = true → scR t = (sw t 0 [] (sw0 1), 0)) from scR_yes HOK.out)
    unfold sgW at HSG
    dsimp only at HSG
    generalize hR : sgB (sgW (sw t 0 [] (sw0 1))) = ans at *
    unfold sgW at hR
    rw [hR] at HSG
    clear hR HWK HTM HX3 HNM
    generalize (sw t 0 [] (sw0 1)).n = N at *
    generalize (sw t 0 [] (sw0 1)).es.length = n1 at *
    generalize (sw t 0 [] (sw0 1)).ds.length = n2 at *
    generalize (sw t 0 [] (sw0 1)).rs.length = n3 at *
    generalize (sw t 0 [] (sw0 1)).dp.length = n4 at *
    generalize (sw t 0 [] (sw0 1)).rp.length = n5 at *
    go_wp2_with fail
    refine Calls.mono HSG.out ?_
    rintro e w5 ⟨rfl, hb5⟩
    obtain ⟨⟨X0, X1, X2, X3⟩, ⟨Z0, Z1, Z2, Z3, y0, y1, y2, y3⟩, hbw5, hsz5⟩ := HB.out w5 (HB3.out.trans (hb5.mono HB3.out.size))
    clear hbw5
    cases ans
    · have HA := (show Hid _ from HNO.out rfl)
      have HB5 := (show Hid (Below ((w.alloc (.cells #[.string t.name, .string t.text, .bool t.leaf, .slice a len cap] 40)).alloc (.cells #[.int .i64 0, .slice none 0 0, .slice none 0 0, .slice none 0 0] 27)).heap.size ((w.alloc (.cells #[.string t.name, .string t.text, .bool t.leaf, .slice a len cap] 40)).alloc (.cells #[.int .i64 0, .slice none 0 0, .slice none 0 0, .slice none 0 0] 27)) w5) from HB3.out.trans (hb5.mono HB3.out.size))
      clear hb5 Q0 Q1 Q2 Q3
      go_wp2_with fail
      refine bodyPost_ret (v := .tuple #[.agg #[.int .i64 0, .slice none 0 0, .slice none 0 0, .slice none 0 0], .slice none 0 0, .slice none 0 0, .int .i64 3]) (by simp [results, Try.results14, go_sem, Z0, Z1, Z2, Z3]) rfl ?_
      exact HF.out w5 3 HB5.out HA.out
    · have HA := (show Hid _ from HFN.out w5.drew hb5.drew (HYS.out rfl))
      have hbx5 := (HBX.out.still hb5)
      have hq5 : Box w5.drew w1.heap.size 88 [.int .i64 (N : Nat), .slice a1 n1 p1, .slice a2 n2 p2, .slice a3 n3 p3, .slice a4 n4 p4, .slice a5 n5 p5] := hbx5.keep rfl
      have hS0 : (fun wq => wq.cell? ⟨w1.heap.size, 0, none⟩ = some (.int .i64 (N : Nat)) ∧ wq.cell? ⟨w1.heap.size, 1, none⟩ = some (.slice a1 n1 p1) ∧ wq.cell? ⟨w1.heap.size, 2, none⟩ = some (.slice a2 n2 p2) ∧ wq.cell? ⟨w1.heap.size, 3, none⟩ = some (.slice a3 n3 p3) ∧ wq.cell? ⟨w1.heap.size, 4, none⟩ = some (.slice a4 n4 p4) ∧ wq.cell? ⟨w1.heap.size, 5, none⟩ = some (.slice a5 n5 p5)) w5.drew := ⟨hq5.cell 0 (by simp), hq5.cell 1 (by simp), hq5.cell 2 (by simp), hq5.cell 3 (by simp), hq5.cell 4 (by simp), hq5.cell 5 (by simp)⟩
      have hq6 : Box ((((w5.drew.setCell ⟨w.heap.size + 1, 0, none⟩ (.int .i64 (N : Nat))).setCell ⟨w.heap.size + 1, 1, none⟩ (.slice a1 n1 p1)).setCell ⟨w.heap.size + 1, 2, none⟩ (.slice a2 n2 p2)).setCell ⟨w.heap.size + 1, 3, none⟩ (.slice a3 n3 p3)) w1.heap.size 88 [.int .i64 (N : Nat), .slice a1 n1 p1, .slice a2 n2 p2, .slice a3 n3 p3, .slice a4 n4 p4, .slice a5 n5 p5] := hq5.keep (blk_set4 _ _ _ _ _ _ _ (by omega))
      have hS1 : (fun wq => wq.cell? ⟨w1.heap.size, 0, none⟩ = some (.int .i64 (N : Nat)) ∧ wq.cell? ⟨w1.heap.size, 1, none⟩ = some (.slice a1 n1 p1) ∧ wq.cell? ⟨w1.heap.size, 2, none⟩ = some (.slice a2 n2 p2) ∧ wq.cell? ⟨w1.heap.size, 3, none⟩ = some (.slice a3 n3 p3) ∧ wq.cell? ⟨w1.heap.size, 4, none⟩ = some (.slice a4 n4 p4) ∧ wq.cell? ⟨w1.heap.size, 5, none⟩ = some (.slice a5 n5 p5)) ((((w5.drew.setCell ⟨w.heap.size + 1, 0, none⟩ (.int .i64 (N : Nat))).setCell ⟨w.heap.size + 1, 1, none⟩ (.slice a1 n1 p1)).setCell ⟨w.heap.size + 1, 2, none⟩ (.slice a2 n2 p2)).setCell ⟨w.heap.size + 1, 3, none⟩ (.slice a3 n3 p3)) := ⟨hq6.cell 0 (by simp), hq6.cell 1 (by simp), hq6.cell 2 (by simp), hq6.cell 3 (by simp), hq6.cell 4 (by simp), hq6.cell 5 (by simp)⟩
      clear hb5 hbx5 hq5 hq6 Q0 Q1 Q2 Q3
      go_wp2_with fail
      refine wp_region_held_drew (S := (fun wq => wq.cell? ⟨w1.heap.size, 0, none⟩ = some (.int .i64 (N : Nat)) ∧ wq.cell? ⟨w1.heap.size, 1, none⟩ = some (.slice a1 n1 p1) ∧ wq.cell? ⟨w1.heap.size, 2, none⟩ = some (.slice a2 n2 p2) ∧ wq.cell? ⟨w1.heap.size, 3, none⟩ = some (.slice a3 n3 p3) ∧ wq.cell? ⟨w1.heap.size, 4, none⟩ = some (.slice a4 n4 p4) ∧ wq.cell? ⟨w1.heap.size, 5, none⟩ = some (.slice a5 n5 p5))) (by kernel_rfl) hS0 (fun hHeld => ?_)
      refine wpAnyH_take (i := 0) (oi := { dst := some 20, op := Go.Op.fieldAddr 88 (Go.Operand.tmp 6) 0, type := 0, pos := "l12_names.go:140", after := #[], guard := none }) (v := ?v1) rfl (by kernel_rfl) (by kernel_rfl) (by kernel_rfl) (fun _ _ _ h => h) (Or.inl ⟨by rfl, ?h1⟩) hHeld ?r1
      case h1 => (intro w hSw; (try dsimp only at hSw); go_simp; try with_reducible rfl)
      try simp only [Act.put, List.setIfInBounds_toArray, List.set_cons_zero, List.set_cons_succ]
      refine wpAnyH_take (i := 1) (oi := { dst := some 21, op := Go.Op.load 27 (Go.Operand.tmp 20), type := 27, pos := "l12_names.go:140", after := #[{ on := 0, ground := Go.Ground.data }], guard := none }) (v := ?v2) rfl (by kernel_rfl) (by kernel_rfl) (by kernel_rfl) (fun _ _ _ h => h) (Or.inl ⟨by rfl, ?h2⟩) hHeld ?r2
      case h2 => (intro w hSw; (try dsimp only at hSw); go_simp; try with_reducible rfl)
      try simp only [Act.put, List.setIfInBounds_toArray, List.set_cons_zero, List.set_cons_succ]
      refine wpAnyH_take (i := 2) (oi := { dst := some 22, op := Go.Op.fieldAddr 88 (Go.Operand.tmp 6) 1, type := 0, pos := "l12_names.go:140", after := #[{ on := 6, ground := Go.Ground.gcOnly Go.Departure.lateStores }], guard := none }) (v := ?v3) rfl (by kernel_rfl) (by kernel_rfl) (by kernel_rfl) (fun _ _ _ h => h) (Or.inl ⟨by rfl, ?h3⟩) hHeld ?r3
      case h3 => (intro w hSw; (try dsimp only at hSw); go_simp; try with_reducible rfl)
      try simp only [Act.put, List.setIfInBounds_toArray, List.set_cons_zero, List.set_cons_succ]
      refine wpAnyH_take (i := 3) (oi := { dst := some 23, op := Go.Op.load 42 (Go.Operand.tmp 22), type := 42, pos := "l12_names.go:140", after := #[{ on := 2, ground := Go.Ground.data }, { on := 6, ground := Go.Ground.gcOnly Go.Departure.lateStores }], guard := none }) (v := ?v4) rfl (by kernel_rfl) (by kernel_rfl) (by kernel_rfl) (fun _ _ _ h => h) (Or.inl ⟨by rfl, ?h4⟩) hHeld ?r4
      case h4 => (intro w hSw; (try dsimp only at hSw); go_simp; try with_reducible rfl)
      try simp only [Act.put, List.setIfInBounds_toArray, List.set_cons_zero, List.set_cons_succ]
      refine wpAnyH_take (i := 4) (oi := { dst := some 24, op := Go.Op.fieldAddr 88 (Go.Operand.tmp 6) 2, type := 0, pos := "l12_names.go:140", after := #[{ on := 7, ground := Go.Ground.gcOnly Go.Departure.lateStores }], guard := none }) (v := ?v5) rfl (by kernel_rfl) (by kernel_rfl) (by kernel_rfl) (fun _ _ _ h => h) (Or.inl ⟨by rfl, ?h5⟩) hHeld ?r5
      case h5 => (intro w hSw; (try dsimp only at hSw); go_simp; try with_reducible rfl)
      try simp only [Act.put, List.setIfInBounds_toArray, List.set_cons_zero, List.set_cons_succ]
      refine wpAnyH_take (i := 5) (oi := { dst := some 25, op := Go.Op.load 42 (Go.Operand.tmp 24), type := 42, pos := "l12_names.go:140", after := #[{ on := 4, ground := Go.Ground.data }, { on := 7, ground := Go.Ground.gcOnly Go.Departure.lateStores }], guard := none }) (v := ?v6) rfl (by kernel_rfl) (by kernel_rfl) (by kernel_rfl) (fun _ _ _ h => h) (Or.inl ⟨by rfl, ?h6⟩) hHeld ?r6
      case h6 => (intro w hSw; (try dsimp only at hSw); go_simp; try with_reducible rfl)
      try simp only [Act.put, List.setIfInBounds_toArray, List.set_cons_zero, List.set_cons_succ]
      refine wpAnyH_ready (rs := [6]) (by kernel_rfl) (by simp) ?_
      refine (AllReadyH.cons (o := { dst := none, op := Go.Op.store 27 (Go.Operand.tmp 2) (Go.Operand.tmp 21), type := 0, pos := "l12_names.go:140", after := #[{ on := 1, ground := Go.Ground.data }, { on := 0, ground := Go.Ground.phase }, { on := 1, ground := Go.Ground.phase }, { on := 2, ground := Go.Ground.textOnly Go.Departure.lateStores }, { on := 3, ground := Go.Ground.textOnly Go.Departure.lateStores }, { on := 4, ground := Go.Ground.textOnly Go.Departure.lateStores }, { on := 5, ground := Go.Ground.textOnly Go.Departure.lateStores }], guard := none }) rfl (fun K hK => ?_) AllReadyH.nil)
      go_simp
      clear hHeld
      refine hK.out _ _ hS1 (fun hHeld => ?_)
      clear hK K
      try simp only [Act.put, List.setIfInBounds_toArray, List.set_cons_zero, List.set_cons_succ]
      refine wpAnyH_take (i := 7) (oi := { dst := some 3, op := Go.Op.assign (Go.Operand.tmp 23), type := 42, pos := "l12_names.go:140", after := #[{ on := 3, ground := Go.Ground.data }, { on := 6, ground := Go.Ground.chain }, { on := 0, ground := Go.Ground.phase }, { on := 1, ground := Go.Ground.phase }, { on := 2, ground := Go.Ground.phase }, { on := 3, ground := Go.Ground.phase }, { on := 4, ground := Go.Ground.textOnly Go.Departure.lateStores }, { on := 5, ground := Go.Ground.textOnly Go.Departure.lateStores }, { on := 6, ground := Go.Ground.phase }], guard := none }) (v := ?v7) rfl (by kernel_rfl) (by kernel_rfl) (by kernel_rfl) (fun _ _ _ h => h) (Or.inl ⟨by rfl, ?h7⟩) hHeld ?r7
      case h7 => (intro w hSw; (try dsimp only at hSw); go_simp; try with_reducible rfl)
      try simp only [Act.put, List.setIfInBounds_toArray, List.set_cons_zero, List.set_cons_succ]
      refine wpAnyH_take (i := 8) (oi := { dst := some 4, op := Go.Op.assign (Go.Operand.tmp 25), type := 42, pos := "l12_names.go:140", after := #[{ on := 5, ground := Go.Ground.data }, { on := 7, ground := Go.Ground.chain }, { on := 0, ground := Go.Ground.phase }, { on := 1, ground := Go.Ground.phase }, { on := 2, ground := Go.Ground.phase }, { on := 3, ground := Go.Ground.phase }, { on := 4, ground := Go.Ground.phase }, { on := 5, ground := Go.Ground.phase }, { on := 6, ground := Go.Ground.phase }, { on := 7, ground := Go.Ground.phase }], guard := none }) (v := ?v8) rfl (by kernel_rfl) (by kernel_rfl) (by kernel_rfl) (fun _ _ _ h => h) (Or.inl ⟨by rfl, ?h8⟩) hHeld ?r8
      case h8 => (intro w hSw; (try dsimp only at hSw); go_simp; try with_reducible rfl)
      try simp only [Act.put, List.setIfInBounds_toArray, List.set_cons_zero, List.set_cons_succ]
      refine wpAnyH_take (i := 9) (oi := { dst := some 5, op := Go.Op.assign (Go.Operand.const (Go.Value.int Go.IntKind.i64 0)), type := 3, pos := "l12_names.go:140", after := #[{ on := 8, ground := Go.Ground.chain }, { on := 0, ground := Go.Ground.phase }, { on := 1, ground := Go.Ground.phase }, { on := 2, ground := Go.Ground.phase }, { on := 3, ground := Go.Ground.phase }, { on := 4, ground := Go.Ground.phase }, { on := 5, ground := Go.Ground.phase }, { on := 6, ground := Go.Ground.phase }, { on := 7, ground := Go.Ground.phase }, { on := 8, ground := Go.Ground.phase }], guard := none }) (v := ?v9) rfl (by kernel_rfl) (by kernel_rfl) (by kernel_rfl) (fun _ _ _ h => h) (Or.inl ⟨by rfl, ?h9⟩) hHeld ?r9
      case h9 => (intro w hSw; (try dsimp only at hSw); go_simp; try with_reducible rfl)
      try simp only [Act.put, List.setIfInBounds_toArray, List.set_cons_zero, List.set_cons_succ]
      refine wpAnyH_done (by kernel_rfl) ?_ _
      go_wp2_with fail
      refine bodyPost_ret (v := .tuple #[.agg #[.int .i64 (N : Nat), .slice a1 n1 p1, .slice a2 n2 p2, .slice a3 n3 p3], .slice a4 n4 p4, .slice a5 n5 p5, .int .i64 0]) (by simp [results, Try.results14, go_sem, Z0, Z1, Z2, Z3]) rfl ?_
      exact HA.out
end Go.Proofs.Ytledclkmeikgdaa
