import Derived.Test.YtpbpmhgoppbfnaaCe
/-! The program: a question of a symbol. -/
namespace Go.Proofs.Ytpbpmhgoppbfnaa
open Go.RowKit Go.Deep
set_option linter.unusedVariables false
set_option maxRecDepth 100000
set_option linter.unusedSimpArgs false

/-- What is known of a question is told; what is not is worked out. -/
theorem ask82 {S : Nat → Prop} (c : Cx) (hc : CxOK S c) (x i j : Nat) (hx : x < 1000) (hi : i < 1000) (hj : j < 1000) (caps : Array Value) (w : World) (hw : WC c w)
    (hcl : ∀ w', Below w.heap.size w w' → WC c w' → Calls Try.prog 83 caps w' (Rt c (c.V x i j) w')) :
    Calls Try.prog 82 #[.map (some c.bn), .agg #[.int .i64 x, .int .i64 i, .int .i64 j], .func (.func 83) #[] caps] w (Rt c (c.V x i j) w) := by
  have hba := bel_alloc w (.cells #[.int .i64 x, .int .i64 i, .int .i64 j] 127)
  have hgx := Gn_eq c x i j
  have hlt := hw.nons.lt
  have hlt2 := hw.rests.lt
  refine (once82 c.bn (Gn c) x i j caps (fun a b => WC c b ∧ Kq c.bn c.br a b) w hw.nons ⟨x, i, j, ⟨by omega, by omega⟩, ⟨by omega, by omega⟩, ⟨by omega, by omega⟩, rfl⟩ (by rw [hgx]; omega) (by rw [hgx]; have := cp_le (c.V x i j); omega) ?_).mono ?_
  · refine (hcl _ hba (hw.still hba)).mono ?_
    rintro e w' ⟨rfl, h1, h2⟩
    refine ⟨by rw [hgx], h1.nons, ⟨h1, h2⟩, ?_⟩
    exact (Box.new w 127 [.int .i64 x, .int .i64 i, .int .i64 j]).keep (h2.block _ (by simp) (by omega) (by omega))
  · rintro e w' ⟨rfl, hm, h⟩
    rcases h with rfl | ⟨w2, ⟨h1, h2⟩, ht⟩
    · exact ⟨by rw [hgx], hw.still hba, Kq.of_below hba⟩
    · exact ⟨by rw [hgx], h1.turn1 hc ht hm, ((Kq.of_below hba).trans h2).trans (Kq.turned1 ht)⟩
theorem ask96 {S : Nat → Prop} (c : Cx) (hc : CxOK S c) (k p i j : Nat) (hk : k < 1000) (hp : p < 1000) (hi : i < 1000) (hj : j < 1000) (caps : Array Value) (w : World) (hw : WC c w)
    (hcl : ∀ w', Below w.heap.size w w' → WC c w' → Calls Try.prog 97 caps w' (Rt c (LF c.V ((pAt (bps c.d) k).2.drop p) i j) w')) :
    Calls Try.prog 96 #[.map (some c.br), .agg #[.int .i64 k, .int .i64 p, .int .i64 i, .int .i64 j], .func (.func 97) #[] caps] w (Rt c (LF c.V ((pAt (bps c.d) k).2.drop p) i j) w) := by
  have hba := bel_alloc w (.cells #[.int .i64 k, .int .i64 p, .int .i64 i, .int .i64 j] 140)
  have hgx := Gr_eq c k p i j
  have hlt := hw.nons.lt
  have hlt2 := hw.rests.lt
  refine (once96 c.br (Gr c) k p i j caps (fun a b => WC c b ∧ Kq c.bn c.br a b) w hw.rests ⟨k, p, i, j, ⟨by omega, by omega⟩, ⟨by omega, by omega⟩, ⟨by omega, by omega⟩, ⟨by omega, by omega⟩, rfl⟩ (by rw [hgx]; omega) (by rw [hgx]; have := cp_le (LF c.V ((pAt (bps c.d) k).2.drop p) i j); omega) ?_).mono ?_
  · refine (hcl _ hba (hw.still hba)).mono ?_
    rintro e w' ⟨rfl, h1, h2⟩
    refine ⟨by rw [hgx], h1.rests, ⟨h1, h2⟩, ?_⟩
    exact (Box.new w 140 [.int .i64 k, .int .i64 p, .int .i64 i, .int .i64 j]).keep (h2.block _ (by simp) (by omega) (by omega))
  · rintro e w' ⟨rfl, hm, h⟩
    rcases h with rfl | ⟨w2, ⟨h1, h2⟩, ht⟩
    · exact ⟨by rw [hgx], hw.still hba, Kq.of_below hba⟩
    · exact ⟨by rw [hgx], h1.turn2 hc ht hm, ((Kq.of_below hba).trans h2).trans (Kq.turned2 ht)⟩
theorem box1 (w : World) (v : Value) (T : TypeId) : (w.alloc (.cells #[v] T)).cell? ⟨w.heap.size, 0, none⟩ = some v := by simp [go_sem]
set_option maxHeartbeats 6400000 in
theorem sym50 {S : Nat → Prop} (c : Cx) (hc : CxOK S c) (x i j : Nat) (hx : x < c.d.terms.length + c.d.nons.length) (hij : i ≤ j) (hj : j ≤ c.W.length) (hP : c.d.terms.length ≤ x → ∀ k, k < c.d.prods.length → (pAt (bps c.d) k).1 = x → PR c k 0 i j) : PS c x i j := by
  intro w hw
  have hnt := hc.hok.nt
  have hnn := hc.hok.nn
  have hwl := hc.wlen
  obtain ⟨w4, hw4⟩ : ∃ w4, (((w.alloc (.cells #[.pointer (some ⟨c.gc, 0, none⟩)] 81)).alloc (.cells #[.int .i64 x] 3)).alloc (.cells #[.int .i64 i] 3)).alloc (.cells #[.int .i64 j] 3) = w4 := ⟨_, rfl⟩
  have hB4 : Below w.heap.size w w4 := by rw [← hw4]; exact (((bel_alloc _ _).alloc (by simp) _).alloc (by simp; omega) _).alloc (by simp; omega) _
  have HW4 := (show Hid _ from hw.still hB4)
  have HZ := (show Hid (c.bn < w.heap.size ∧ c.br < w.heap.size) from ⟨hw.nons.lt, hw.rests.lt⟩)
  have HCE := (show Hid (∀ wq, Below w4.heap.size w4 wq → (wq.cell? ⟨w.heap.size, 0, none⟩ = some (.pointer (some ⟨c.gc, 0, none⟩)) ∧ wq.cell? ⟨w.heap.size + 1, 0, none⟩ = some (.int .i64 x) ∧ wq.cell? ⟨w.heap.size + 1 + 1, 0, none⟩ = some (.int .i64 i) ∧ wq.cell? ⟨w.heap.size + 1 + 1 + 1, 0, none⟩ = some (.int .i64 j)) ∧ WC c wq) from fun wq hb => by
    have h0 : w4.cell? ⟨w.heap.size, 0, none⟩ = some (.pointer (some ⟨c.gc, 0, none⟩)) ∧ w4.cell? ⟨w.heap.size + 1, 0, none⟩ = some (.int .i64 x) ∧ w4.cell? ⟨w.heap.size + 1 + 1, 0, none⟩ = some (.int .i64 i) ∧ w4.cell? ⟨w.heap.size + 1 + 1 + 1, 0, none⟩ = some (.int .i64 j) := by rw [← hw4]; simp [go_sem]
    exact ⟨⟨(hb.cell (lt_of_cell h0.1)).trans h0.1, (hb.cell (lt_of_cell h0.2.1)).trans h0.2.1, (hb.cell (lt_of_cell h0.2.2.1)).trans h0.2.2.1, (hb.cell (lt_of_cell h0.2.2.2)).trans h0.2.2.2⟩, HW4.out.still hb⟩)
  have HKB := (show Hid _ from hB4)
  obtain ⟨⟨e4, e5, e6, e7⟩, _⟩ := HCE.out w4 (Below.refl _ _)
  have g0 : w4.cell? ⟨c.gc, 0, none⟩ = some (.pointer (some ⟨c.gs, 0, none⟩)) := HW4.out.box.cell 0 (by simp)
  have HIT := (show Hid _ from fun (wq : World) (hb : Below w4.heap.size w4 wq) => isTerm_any (S := S) wq c.gs c.bs c.d c.a0 c.c0 c.v1 c.vo c.v3 c.L x (HW4.out.st.still hb))
  have HCN := (show Hid _ from hc)
  clear hw hB4
  by_cases hxt : x < c.d.terms.length
  case pos =>
    have hdec : decide (x < c.d.terms.length) = true := by simp [hxt]
    rw [hdec] at HIT
    have HV := (show Hid _ from hc.cn.tm x i j hxt)
    have kw1 : IntKind.i64.wrap ((i : Int) + 1) = (i : Int) + 1 := by simp [IntKind.wrap, IntKind.bits, IntKind.signed]; omega
    have HON1 := (show Hid (∀ wq : World, Calls Try.prog 81 #[.bool true] wq fun e w' => e = .returned (.int .i64 1) ∧ w' = wq) from fun wq => oneIf_any true wq)
    have HON0 := (show Hid (∀ wq : World, Calls Try.prog 81 #[.bool false] wq fun e w' => e = .returned (.int .i64 0) ∧ w' = wq) from fun wq => oneIf_any false wq)
    have HEND1 := (show Hid (∀ wq, Below w4.heap.size w4 wq → (j = i + 1 ∧ c.W[i]? = some (x : Int)) → Rt c (c.V x i j) w (.returned (.int .i64 1)) wq) from fun wq hb hq => by
      refine ⟨?_, HW4.out.still hb, Kq.of_below (bel_trans HKB.out hb)⟩
      rw [HV.out]
      unfold tmc
      rw [if_pos hq]
      rfl)
    have HEND0 := (show Hid (∀ wq, Below w4.heap.size w4 wq → ¬ (j = i + 1 ∧ c.W[i]? = some (x : Int)) → Rt c (c.V x i j) w (.returned (.int .i64 0)) wq) from fun wq hb hq => by
      refine ⟨?_, HW4.out.still hb, Kq.of_below (bel_trans HKB.out hb)⟩
      rw [HV.out]
      unfold tmc
      rw [if_neg hq]
      rfl)
    by_cases hj1 : j = i + 1
    · have hil : i < c.W.length := by omega
      obtain ⟨aw, cw, bw, ow, hvw, hcw, hmw, haw, hcl⟩ := hc.word
      obtain ⟨haw, hSw⟩ := haw (by omega)
      have y0 := hcl i hil
      rw [← HW4.out.bel.cell (lt_of_cell y0)] at y0
      have g1 : w4.cell? ⟨c.gc, 1, none⟩ = some (.slice (some ⟨bw, ow, none⟩) c.W.length cw) := by
        have := HW4.out.box.cell 1 (by simp)
        rw [this]
        simp [hvw, haw]
      have hWi : c.W[i]? = some c.W[i] := List.getElem?_eq_getElem hil
      have HWI := (show Hid _ from hWi)
      unfold maxLen at hmw
      generalize c.W[i] = wi at *
      have HJ1 := (show Hid _ from hj1)
      have hd1 : decide ((j : Int) = (i : Int) + 1) = true := by simp; omega
      have hd1' : ((j : Int) == (i : Int) + 1) = true := by simp; omega
      clear hcl hvw haw hSw hWi hj1
      by_cases hwx : wi = (x : Int)
      · have hd2 : decide (wi = (x : Int)) = true := by simp [hwx]
        have hd2' : (wi == (x : Int)) = true := by simp [hwx]
        go_enter Try.func50, Try.ntmps50
        go_wp2_with fail
        go_quiet ((go_at_call 64; refine Calls.quiet_of_same (HIT.out _ (bel_drewN _ _ _))))
        go_wp2_with fail
        go_quiet ((go_at_call 81; refine Calls.mono (HON1.out _) ?_; rintro e w9 ⟨rfl, rfl⟩; exact ⟨rfl, _, rfl⟩))
        go_wp2_with fail
        go_ret
        exact HEND1.out _ ⟨rfl, rfl, rfl, Nat.le_refl _, fun _ _ => rfl⟩ ⟨HJ1.out, by rw [HWI.out, hwx]⟩
      · have hd2 : decide (wi = (x : Int)) = false := by simp [hwx]
        have hd2' : (wi == (x : Int)) = false := by simp [hwx]
        go_enter Try.func50, Try.ntmps50
        go_wp2_with fail
        go_quiet ((go_at_call 64; refine Calls.quiet_of_same (HIT.out _ (bel_drewN _ _ _))))
        go_wp2_with fail
        go_quiet ((go_at_call 81; refine Calls.mono (HON0.out _) ?_; rintro e w9 ⟨rfl, rfl⟩; exact ⟨rfl, _, rfl⟩))
        go_wp2_with fail
        go_ret
        exact HEND0.out _ ⟨rfl, rfl, rfl, Nat.le_refl _, fun _ _ => rfl⟩ (fun h => absurd h.2 (by rw [HWI.out]; simpa using hwx))
    · have HJ1 := (show Hid _ from hj1)
      have hd1 : decide ((j : Int) = (i : Int) + 1) = false := by simp; omega
      have hd1' : ((j : Int) == (i : Int) + 1) = false := by simp; omega
      clear hj1
      go_enter Try.func50, Try.ntmps50
      go_wp2_with fail
      go_quiet ((go_at_call 64; refine Calls.quiet_of_same (HIT.out _ (bel_drewN _ _ _))))
      go_wp2_with fail
      go_quiet ((go_at_call 81; refine Calls.mono (HON0.out _) ?_; rintro e w9 ⟨rfl, rfl⟩; exact ⟨rfl, _, rfl⟩))
      go_wp2_with fail
      go_ret
      exact HEND0.out _ ⟨rfl, rfl, rfl, Nat.le_refl _, fun _ _ => rfl⟩ (fun h => absurd h.1 HJ1.out)
  case neg =>
    have hdec : decide (x < c.d.terms.length) = false := by simp; omega
    rw [hdec] at HIT
    have HCL := (show Hid (∀ wq, Below w4.heap.size w4 wq → Calls Try.prog 82 #[.map (some c.bn), .agg #[.int .i64 x, .int .i64 i, .int .i64 j], .func (.func 83) #[] #[.pointer (some ⟨w.heap.size, 0, none⟩), .pointer (some ⟨w.heap.size + 1, 0, none⟩), .pointer (some ⟨w.heap.size + 1 + 1, 0, none⟩), .pointer (some ⟨w.heap.size + 1 + 1 + 1, 0, none⟩)]] wq (Rt c (c.V x i j) wq)) from fun wq hb => by
      have hz := HZ.out
      refine ask82 c hc x i j (by omega) (by omega) (by omega) _ wq (HCE.out wq hb).2 (fun w' hb' hwc => ?_)
      obtain ⟨⟨f4, f5, f6, f7⟩, _⟩ := HCE.out w' (bel_trans hb hb')
      exact clo83 c hc x i j (by omega) hj (hP (by omega)) _ _ _ _ w' hwc ⟨by omega, by omega⟩ ⟨by omega, by omega⟩ ⟨by omega, by omega⟩ ⟨by omega, by omega⟩ f4 f5 f6 f7)
    have g2 : ∀ wq, Below w4.heap.size w4 wq → wq.cell? ⟨c.gc, 2, none⟩ = some (.map (some c.bn)) := fun wq hb => (HCE.out wq hb).2.box.cell 2 (by simp)
    have HG2 := (show Hid _ from g2); clear g2
    clear hP
    go_enter Try.func50, Try.ntmps50
    go_wp2_with fail
    go_quiet ((go_at_call 64; refine Calls.quiet_of_same (HIT.out _ (bel_drewN _ _ _))))
    have hbq := bel_drewN w4.heap.size w4 nq
    have hbq' := hbq.drew
    have hS0 : (w4.drewN nq).drew.cell? ⟨w.heap.size, 0, none⟩ = some (.pointer (some ⟨c.gc, 0, none⟩)) ∧ (w4.drewN nq).drew.cell? ⟨c.gc, 2, none⟩ = some (.map (some c.bn)) ∧ (w4.drewN nq).drew.cell? ⟨w.heap.size + 1, 0, none⟩ = some (.int .i64 x) ∧ (w4.drewN nq).drew.cell? ⟨w.heap.size + 1 + 1, 0, none⟩ = some (.int .i64 i) ∧ (w4.drewN nq).drew.cell? ⟨w.heap.size + 1 + 1 + 1, 0, none⟩ = some (.int .i64 j) := ⟨(HCE.out _ hbq').1.1, HG2.out _ hbq', (HCE.out _ hbq').1.2.1, (HCE.out _ hbq').1.2.2.1, (HCE.out _ hbq').1.2.2.2⟩
    have HCQ := (show Hid _ from HCL.out _ hbq')
    have hSK := (show Hid (∀ w5, Kq c.bn c.br (w4.drewN nq).drew w5 → (w5.cell? ⟨w.heap.size, 0, none⟩ = some (.pointer (some ⟨c.gc, 0, none⟩)) ∧ w5.cell? ⟨c.gc, 2, none⟩ = some (.map (some c.bn)) ∧ w5.cell? ⟨w.heap.size + 1, 0, none⟩ = some (.int .i64 x) ∧ w5.cell? ⟨w.heap.size + 1 + 1, 0, none⟩ = some (.int .i64 i) ∧ w5.cell? ⟨w.heap.size + 1 + 1 + 1, 0, none⟩ = some (.int .i64 j))) from fun w5 hk => by
      have hz := HZ.out
      exact ⟨hk.cell hS0.1 (by dsimp only; omega) (by dsimp only; omega), hk.cell hS0.2.1 hc.n0 hc.n1, hk.cell hS0.2.2.1 (by dsimp only; omega) (by dsimp only; omega), hk.cell hS0.2.2.2.1 (by dsimp only; omega) (by dsimp only; omega), hk.cell hS0.2.2.2.2 (by dsimp only; omega) (by dsimp only; omega)⟩)
    clear e4 e5 e6 e7 g0
    go_wp2_with fail
    go_region_held3 (fun w' => w'.cell? ⟨w.heap.size, 0, none⟩ = some (.pointer (some ⟨c.gc, 0, none⟩)) ∧ w'.cell? ⟨c.gc, 2, none⟩ = some (.map (some c.bn)) ∧ w'.cell? ⟨w.heap.size + 1, 0, none⟩ = some (.int .i64 x) ∧ w'.cell? ⟨w.heap.size + 1 + 1, 0, none⟩ = some (.int .i64 i) ∧ w'.cell? ⟨w.heap.size + 1 + 1 + 1, 0, none⟩ = some (.int .i64 j)) (first | exact hS0 | exact hS1) ((go_at_call 82; refine Calls.mono HCQ.out ?_; rintro e w5 ⟨rfl, hw5, hk5⟩; have hkk := (Kq.of_below (bel_trans HKB.out hbq')).trans hk5; have hS1 := hSK.out w5 hk5))
    all_goals go_wp2_with fail
    all_goals go_ret
    all_goals exact ⟨rfl, hw5, hkk⟩
end Go.Proofs.Ytpbpmhgoppbfnaa
