import Derived.Test.YtkkebcbcbihbiaaHm
/-! The copies that the program's Rename makes: a region that draws its order, state by state. -/
namespace Go.Proofs.Ytkkebcbcbihbiaa
open Go.RowKit Go.Deep
set_option linter.unusedVariables false
set_option maxRecDepth 100000
set_option linter.unusedSimpArgs false
def opsR6 : Array Oper := #[{ dst := some 33, op := Go.Op.fieldAddr 31 (Go.Operand.tmp 3) 0, type := 0, pos := "l12_names.go:110", after := #[], guard := none }, { dst := some 34, op := Go.Op.load 3 (Go.Operand.tmp 33), type := 3, pos := "l12_names.go:110", after := #[{ on := 0, ground := Go.Ground.data }], guard := none }, { dst := some 35, op := Go.Op.fieldAddr 31 (Go.Operand.tmp 3) 1, type := 0, pos := "l12_names.go:110", after := #[], guard := none }, { dst := some 36, op := Go.Op.load 28 (Go.Operand.tmp 35), type := 28, pos := "l12_names.go:110", after := #[{ on := 2, ground := Go.Ground.data }], guard := none }, { dst := some 37, op := Go.Op.call { callee := Go.Callee.value (Go.Operand.func 61), args := #[Go.Operand.tmp 36], argTypes := #[28] }, type := 28, pos := "l12_names.go:110", after := #[{ on := 3, ground := Go.Ground.data }], guard := none }, { dst := some 38, op := Go.Op.fieldAddr 31 (Go.Operand.tmp 3) 2, type := 0, pos := "l12_names.go:110", after := #[], guard := none }, { dst := some 39, op := Go.Op.load 29 (Go.Operand.tmp 38), type := 29, pos := "l12_names.go:110", after := #[{ on := 5, ground := Go.Ground.data }], guard := none }, { dst := some 40, op := Go.Op.call { callee := Go.Callee.value (Go.Operand.func 62), args := #[Go.Operand.tmp 39], argTypes := #[29] }, type := 29, pos := "l12_names.go:110", after := #[{ on := 6, ground := Go.Ground.data }, { on := 4, ground := Go.Ground.chain }], guard := none }, { dst := some 41, op := Go.Op.fieldAddr 31 (Go.Operand.tmp 3) 3, type := 0, pos := "l12_names.go:110", after := #[], guard := none }, { dst := some 42, op := Go.Op.load 29 (Go.Operand.tmp 41), type := 29, pos := "l12_names.go:110", after := #[{ on := 8, ground := Go.Ground.data }], guard := none }, { dst := some 43, op := Go.Op.call { callee := Go.Callee.value (Go.Operand.func 62), args := #[Go.Operand.tmp 42], argTypes := #[29] }, type := 29, pos := "l12_names.go:110", after := #[{ on := 9, ground := Go.Ground.data }, { on := 7, ground := Go.Ground.chain }], guard := none }, { dst := some 44, op := Go.Op.build 31 #[(0, Go.Operand.tmp 34), (1, Go.Operand.tmp 37), (2, Go.Operand.tmp 40), (3, Go.Operand.tmp 43)], type := 31, pos := "l12_names.go:110", after := #[{ on := 1, ground := Go.Ground.data }, { on := 4, ground := Go.Ground.data }, { on := 7, ground := Go.Ground.data }, { on := 10, ground := Go.Ground.data }], guard := none }, { dst := some 9, op := Go.Op.alloc 31, type := 0, pos := "l12_names.go:110", after := #[], guard := none }, { dst := none, op := Go.Op.store 31 (Go.Operand.tmp 9) (Go.Operand.tmp 44), type := 0, pos := "l12_names.go:110", after := #[{ on := 12, ground := Go.Ground.data }, { on := 11, ground := Go.Ground.data }, { on := 10, ground := Go.Ground.chain }, { on := 0, ground := Go.Ground.phase }, { on := 1, ground := Go.Ground.phase }, { on := 2, ground := Go.Ground.phase }, { on := 3, ground := Go.Ground.phase }, { on := 4, ground := Go.Ground.phase }, { on := 5, ground := Go.Ground.phase }, { on := 6, ground := Go.Ground.phase }, { on := 7, ground := Go.Ground.phase }, { on := 8, ground := Go.Ground.phase }, { on := 9, ground := Go.Ground.phase }, { on := 10, ground := Go.Ground.phase }, { on := 11, ground := Go.Ground.phase }, { on := 12, ground := Go.Ground.phase }], guard := none }]
set_option maxHeartbeats 12800000 in
theorem region6 (A0 : Act) (Q : Exit → Act → World → Prop) (SS : World → Prop) (w0 : World) (sc : Int) (b1 n1 b2 n2 b3 n3 : Nat) (xs1 xs2 xs3 : List Value)
    (hsz : A0.tmps.size = 80) (e34 : A0.eval (.tmp 34) = .int .i64 sc) (e36 : A0.eval (.tmp 36) = .slice (some ⟨b1, 0, none⟩) n1 n1) (e39 : A0.eval (.tmp 39) = .slice (some ⟨b2, 0, none⟩) n2 n2) (e42 : A0.eval (.tmp 42) = .slice (some ⟨b3, 0, none⟩) n3 n3)
    (hS : ∀ w', Below w0.heap.size w0 w' → SS w') (r1 : Rw w0 68 3 b1 n1 n1 xs1) (r2 : Rw w0 74 2 b2 n2 n2 xs2) (r3 : Rw w0 74 2 b3 n3 n3 xs3) (l1 : n1 ≤ 120) (l2 : n2 ≤ 120) (l3 : n3 ≤ 120) (o1 : ∀ u ∈ xs1, u.oneCell' = true) (o2 : ∀ u ∈ xs2, u.oneCell' = true) (o3 : ∀ u ∈ xs3, u.oneCell' = true)
    (hQp : ∀ c a (k : Nat) v w, Q (.panic c) (a.put (some k) v) w → Q (.panic c) a w)
    (hQ : ∀ (A : Act) (w : World) (g1 c1 g2 c2 g3 c3 g4 : Nat), Rst [9, 37, 40, 43, 44] A0 A → A.eval (.tmp 9) = .pointer (some ⟨g4, 0, none⟩) → Fo w0 w (V4 (some ⟨68, 3, g1, n1, c1, xs1⟩) (some ⟨74, 2, g2, n2, c2, xs2⟩) (some ⟨74, 2, g3, n3, c3, xs3⟩) (some ⟨31, 4, g4, 1, 1, [.int .i64 sc, .slice (some ⟨g1, 0, none⟩) n1 c1, .slice (some ⟨g2, 0, none⟩) n2 c2, .slice (some ⟨g3, 0, none⟩) n3 c3]⟩)) → Q .normal A w) : ∀ (A : Act) (w : World) (hR : Rst [9, 37, 40, 43, 44] A0 A) (hF : Fo w0 w (V4 none none none none)), wpAnyH Try.prog .any opsR6 Q SS 6 #[true, true, true, true, false, true, true, false, true, true, false, false, false, false] A w := by
  have HLAST : ∀ (A : Act) (w : World) (g1 c1 g2 c2 g3 c3 g4 : Nat) (hR : Rst [9, 37, 40, 43, 44] A0 A) (q44 : A.eval (.tmp 44) = (.agg #[.int .i64 sc, .slice (some ⟨g1, 0, none⟩) n1 c1, .slice (some ⟨g2, 0, none⟩) n2 c2, .slice (some ⟨g3, 0, none⟩) n3 c3])) (q9 : A.eval (.tmp 9) = .pointer (some ⟨g4, 0, none⟩)) (hF : Fo w0 w (V4 (some ⟨68, 3, g1, n1, c1, xs1⟩) (some ⟨74, 2, g2, n2, c2, xs2⟩) (some ⟨74, 2, g3, n3, c3, xs3⟩) (some ⟨31, 4, g4, 1, 1, [.int .i64 0, .slice none 0 0, .slice none 0 0, .slice none 0 0]⟩))), wpAnyH Try.prog .any opsR6 Q SS 1 #[true, true, true, true, true, true, true, true, true, true, true, true, true, false] A w := by
    intro A w g1 c1 g2 c2 g3 c3 g4 hR q44 q9 hF
    have hO := hF.own 3 _ rfl
    have k0 := hO.2.cell? (j := 0) rfl
    have k1 := hO.2.cell? (j := 1) rfl
    have k2 := hO.2.cell? (j := 2) rfl
    have k3 := hO.2.cell? (j := 3) rfl
    have f0 := hO.2.frozen 0
    have f1 := hO.2.frozen 1
    have f2 := hO.2.frozen 2
    have f3 := hO.2.frozen 3
    simp only [] at k0 k1 k2 k3 f0 f1 f2 f3
    have HF1 := (show Hid _ from (((hF.set 3 rfl 0 (.int .i64 sc)).set 3 rfl 1 (.slice (some ⟨g1, 0, none⟩) n1 c1)).set 3 rfl 2 (.slice (some ⟨g2, 0, none⟩) n2 c2)).set 3 rfl 3 (.slice (some ⟨g3, 0, none⟩) n3 c3))
    simp only [upd3] at HF1
    have j44 := q44
    have j9 := q9
    simp only [Act.eval, Array.getD_eq_getD_getElem?] at j44 j9
    clear hO
    have HF := (show Hid _ from hF); clear hF
    refine wpAnyH_ready (rs := [13]) (by kernel_rfl) (by simp) ?_
    refine AllReadyH.cons (o := { dst := none, op := Go.Op.store 31 (Go.Operand.tmp 9) (Go.Operand.tmp 44), type := 0, pos := "l12_names.go:110", after := #[{ on := 12, ground := Go.Ground.data }, { on := 11, ground := Go.Ground.data }, { on := 10, ground := Go.Ground.chain }, { on := 0, ground := Go.Ground.phase }, { on := 1, ground := Go.Ground.phase }, { on := 2, ground := Go.Ground.phase }, { on := 3, ground := Go.Ground.phase }, { on := 4, ground := Go.Ground.phase }, { on := 5, ground := Go.Ground.phase }, { on := 6, ground := Go.Ground.phase }, { on := 7, ground := Go.Ground.phase }, { on := 8, ground := Go.Ground.phase }, { on := 9, ground := Go.Ground.phase }, { on := 10, ground := Go.Ground.phase }, { on := 11, ground := Go.Ground.phase }, { on := 12, ground := Go.Ground.phase }], guard := none }) rfl (fun K hK => ?_) AllReadyH.nil
    go_simp
    refine hK.out A _ (hS _ HF1.out.bel) (fun hHeld => ?_)
    refine wpAnyH_done (by kernel_rfl) ?_ _
    exact hQ _ _ g1 c1 g2 c2 g3 c3 g4 hR q9 HF1.out
  have H_310 : ∀ (A : Act) (w : World) (g1 c1 g2 c2 g3 c3 g4 : Nat) (hR : Rst [9, 37, 40, 43, 44] A0 A) (q1 : A.eval (.tmp 37) = .slice (some ⟨g1, 0, none⟩) n1 c1) (q2 : A.eval (.tmp 40) = .slice (some ⟨g2, 0, none⟩) n2 c2) (q3 : A.eval (.tmp 43) = .slice (some ⟨g3, 0, none⟩) n3 c3) (q4 : A.eval (.tmp 9) = .pointer (some ⟨g4, 0, none⟩)) (hF : Fo w0 w (V4 (some ⟨68, 3, g1, n1, c1, xs1⟩) (some ⟨74, 2, g2, n2, c2, xs2⟩) (some ⟨74, 2, g3, n3, c3, xs3⟩) (some ⟨31, 4, g4, 1, 1, [.int .i64 0, .slice none 0 0, .slice none 0 0, .slice none 0 0]⟩))), wpAnyH Try.prog .any opsR6 Q SS 2 #[true, true, true, true, true, true, true, true, true, true, true, false, true, false] A w := by
    intro A w g1 c1 g2 c2 g3 c3 g4 hR q1 q2 q3 q4 hF
    have q0 := (hR.same 34 (by decide)).trans e34
    have hHeld := hS _ hF.bel
    refine wpAnyH_take (i := 11) (oi := { dst := some 44, op := Go.Op.build 31 #[(0, Go.Operand.tmp 34), (1, Go.Operand.tmp 37), (2, Go.Operand.tmp 40), (3, Go.Operand.tmp 43)], type := 31, pos := "l12_names.go:110", after := #[{ on := 1, ground := Go.Ground.data }, { on := 4, ground := Go.Ground.data }, { on := 7, ground := Go.Ground.data }, { on := 10, ground := Go.Ground.data }], guard := none }) (v := (.agg #[.int .i64 sc, .slice (some ⟨g1, 0, none⟩) n1 c1, .slice (some ⟨g2, 0, none⟩) n2 c2, .slice (some ⟨g3, 0, none⟩) n3 c3])) rfl (by kernel_rfl) (by kernel_rfl) (by kernel_rfl) (fun _ _ _ h => hQp _ _ _ _ _ h) (Or.inl ⟨by rfl, ?_⟩) hHeld ?_
    · intro w hSw
      clear hHeld hF
      simp only [Act.eval, Array.getD_eq_getD_getElem?] at q0 q1 q2 q3
      go_simp
    have hR1 : Rst [9, 37, 40, 43, 44] A0 (A.put (some 44) (.agg #[.int .i64 sc, .slice (some ⟨g1, 0, none⟩) n1 c1, .slice (some ⟨g2, 0, none⟩) n2 c2, .slice (some ⟨g3, 0, none⟩) n3 c3])) := hR.put (by decide) (by rw [hsz]; decide) _
    have p44 : (A.put (some 44) (.agg #[.int .i64 sc, .slice (some ⟨g1, 0, none⟩) n1 c1, .slice (some ⟨g2, 0, none⟩) n2 c2, .slice (some ⟨g3, 0, none⟩) n3 c3])).eval (.tmp 44) = (.agg #[.int .i64 sc, .slice (some ⟨g1, 0, none⟩) n1 c1, .slice (some ⟨g2, 0, none⟩) n2 c2, .slice (some ⟨g3, 0, none⟩) n3 c3]) := by rw [ev_put _ _ _ _ (by rw [hR.size, hsz]; decide)]; exact if_pos rfl
    have p9 : (A.put (some 44) (.agg #[.int .i64 sc, .slice (some ⟨g1, 0, none⟩) n1 c1, .slice (some ⟨g2, 0, none⟩) n2 c2, .slice (some ⟨g3, 0, none⟩) n3 c3])).eval (.tmp 9) = .pointer (some ⟨g4, 0, none⟩) := by rw [ev_put _ _ _ _ (by rw [hR.size, hsz]; decide)]; exact (if_neg (by decide)).trans q4
    exact HLAST _ w g1 c1 g2 c2 g3 c3 g4 hR1 p44 p9 hF
  have H_210 : ∀ (A : Act) (w : World) (g1 c1 g2 c2 g4 : Nat) (hR : Rst [9, 37, 40, 43, 44] A0 A) (q1 : A.eval (.tmp 37) = .slice (some ⟨g1, 0, none⟩) n1 c1) (q2 : A.eval (.tmp 40) = .slice (some ⟨g2, 0, none⟩) n2 c2) (q4 : A.eval (.tmp 9) = .pointer (some ⟨g4, 0, none⟩)) (hF : Fo w0 w (V4 (some ⟨68, 3, g1, n1, c1, xs1⟩) (some ⟨74, 2, g2, n2, c2, xs2⟩) none (some ⟨31, 4, g4, 1, 1, [.int .i64 0, .slice none 0 0, .slice none 0 0, .slice none 0 0]⟩))), wpAnyH Try.prog .any opsR6 Q SS 3 #[true, true, true, true, true, true, true, true, true, true, false, false, true, false] A w := by
    intro A w g1 c1 g2 c2 g4 hR q1 q2 q4 hF
    refine wpAnyH_ready (rs := [10]) (by kernel_rfl) (by simp) ?_
    refine (AllReadyH.cons (o := { dst := some 43, op := Go.Op.call { callee := Go.Callee.value (Go.Operand.func 62), args := #[Go.Operand.tmp 42], argTypes := #[29] }, type := 29, pos := "l12_names.go:110", after := #[{ on := 9, ground := Go.Ground.data }, { on := 7, ground := Go.Ground.chain }], guard := none }) rfl (fun K hK => ?_) AllReadyH.nil)
    · have hC := clone62 n3 b3 xs3 w (r3.keep (hF.bel.block _ r3.lt)) l3 o3
      have j0 := (hR.same 42 (by decide)).trans e42
      simp only [Act.eval, Array.getD_eq_getD_getElem?] at j0
      go_simp
      go_at_call 62
      refine Calls.mono hC ?_
      rintro e w1 ⟨g, c, rfl, hb1, hg1, hr1⟩
      have hF1 := hF.call 2 ⟨74, 2, g, n3, c, xs3⟩ hb1 hr1 hg1
      rw [upd2] at hF1
      refine hK.out (A.put (some 43) (.slice (some ⟨g, 0, none⟩) n3 c)) _ (hS _ hF1.bel) (fun hHeld => ?_)
      exact H_310 _ _ g1 c1 g2 c2 g c g4 (hR.put (by decide) (by rw [hsz]; decide) _) (by rw [ev_put _ _ _ _ (by rw [hR.size, hsz]; decide)]; exact (if_neg (by decide)).trans q1) (by rw [ev_put _ _ _ _ (by rw [hR.size, hsz]; decide)]; exact (if_neg (by decide)).trans q2) (by rw [ev_put _ _ _ _ (by rw [hR.size, hsz]; decide)]; exact if_pos rfl) (by rw [ev_put _ _ _ _ (by rw [hR.size, hsz]; decide)]; exact (if_neg (by decide)).trans q4) hF1
  have H_300 : ∀ (A : Act) (w : World) (g1 c1 g2 c2 g3 c3 : Nat) (hR : Rst [9, 37, 40, 43, 44] A0 A) (q1 : A.eval (.tmp 37) = .slice (some ⟨g1, 0, none⟩) n1 c1) (q2 : A.eval (.tmp 40) = .slice (some ⟨g2, 0, none⟩) n2 c2) (q3 : A.eval (.tmp 43) = .slice (some ⟨g3, 0, none⟩) n3 c3) (hF : Fo w0 w (V4 (some ⟨68, 3, g1, n1, c1, xs1⟩) (some ⟨74, 2, g2, n2, c2, xs2⟩) (some ⟨74, 2, g3, n3, c3, xs3⟩) none)), wpAnyH Try.prog .any opsR6 Q SS 3 #[true, true, true, true, true, true, true, true, true, true, true, false, false, false] A w := by
    intro A w g1 c1 g2 c2 g3 c3 hR q1 q2 q3 hF
    have q0 := (hR.same 34 (by decide)).trans e34
    have hHeld := hS _ hF.bel
    refine wpAnyH_take (i := 11) (oi := { dst := some 44, op := Go.Op.build 31 #[(0, Go.Operand.tmp 34), (1, Go.Operand.tmp 37), (2, Go.Operand.tmp 40), (3, Go.Operand.tmp 43)], type := 31, pos := "l12_names.go:110", after := #[{ on := 1, ground := Go.Ground.data }, { on := 4, ground := Go.Ground.data }, { on := 7, ground := Go.Ground.data }, { on := 10, ground := Go.Ground.data }], guard := none }) (v := (.agg #[.int .i64 sc, .slice (some ⟨g1, 0, none⟩) n1 c1, .slice (some ⟨g2, 0, none⟩) n2 c2, .slice (some ⟨g3, 0, none⟩) n3 c3])) rfl (by kernel_rfl) (by kernel_rfl) (by kernel_rfl) (fun _ _ _ h => hQp _ _ _ _ _ h) (Or.inl ⟨by rfl, ?_⟩) hHeld ?_
    · intro w hSw
      clear hHeld hF
      simp only [Act.eval, Array.getD_eq_getD_getElem?] at q0 q1 q2 q3
      go_simp
    have hR1 : Rst [9, 37, 40, 43, 44] A0 (A.put (some 44) (.agg #[.int .i64 sc, .slice (some ⟨g1, 0, none⟩) n1 c1, .slice (some ⟨g2, 0, none⟩) n2 c2, .slice (some ⟨g3, 0, none⟩) n3 c3])) := hR.put (by decide) (by rw [hsz]; decide) _
    have p44 : (A.put (some 44) (.agg #[.int .i64 sc, .slice (some ⟨g1, 0, none⟩) n1 c1, .slice (some ⟨g2, 0, none⟩) n2 c2, .slice (some ⟨g3, 0, none⟩) n3 c3])).eval (.tmp 44) = (.agg #[.int .i64 sc, .slice (some ⟨g1, 0, none⟩) n1 c1, .slice (some ⟨g2, 0, none⟩) n2 c2, .slice (some ⟨g3, 0, none⟩) n3 c3]) := by rw [ev_put _ _ _ _ (by rw [hR.size, hsz]; decide)]; exact if_pos rfl
    generalize hA1 : A.put (some 44) (.agg #[.int .i64 sc, .slice (some ⟨g1, 0, none⟩) n1 c1, .slice (some ⟨g2, 0, none⟩) n2 c2, .slice (some ⟨g3, 0, none⟩) n3 c3]) = A1 at *
    refine wpAnyH_ready (rs := [12]) (by kernel_rfl) (by simp) ?_
    refine AllReadyH.cons (o := { dst := some 9, op := Go.Op.alloc 31, type := 0, pos := "l12_names.go:110", after := #[], guard := none }) rfl (fun K hK => ?_) AllReadyH.nil
    go_simp
    refine hK.out (A1.put (some 9) (.pointer (some ⟨w.heap.size, 0, none⟩))) _ (hS _ (hF.bel.alloc hF.bel.size _)) (fun hHeld => ?_)
    exact HLAST _ _ g1 c1 g2 c2 g3 c3 w.heap.size (hR1.put (by decide) (by rw [hsz]; decide) _) (by rw [ev_put _ _ _ _ (by rw [hR1.size, hsz]; decide)]; exact (if_neg (by decide)).trans p44) (by rw [ev_put _ _ _ _ (by rw [hR1.size, hsz]; decide)]; exact if_pos rfl) (upd3 ▸ hF.alloc 3 ⟨31, 4, w.heap.size, 1, 1, [.int .i64 0, .slice none 0 0, .slice none 0 0, .slice none 0 0]⟩ _ (Rw.box w 31 _ _ _ _) rfl)
  have H_110 : ∀ (A : Act) (w : World) (g1 c1 g4 : Nat) (hR : Rst [9, 37, 40, 43, 44] A0 A) (q1 : A.eval (.tmp 37) = .slice (some ⟨g1, 0, none⟩) n1 c1) (q4 : A.eval (.tmp 9) = .pointer (some ⟨g4, 0, none⟩)) (hF : Fo w0 w (V4 (some ⟨68, 3, g1, n1, c1, xs1⟩) none none (some ⟨31, 4, g4, 1, 1, [.int .i64 0, .slice none 0 0, .slice none 0 0, .slice none 0 0]⟩))), wpAnyH Try.prog .any opsR6 Q SS 4 #[true, true, true, true, true, true, true, false, true, true, false, false, true, false] A w := by
    intro A w g1 c1 g4 hR q1 q4 hF
    refine wpAnyH_ready (rs := [7]) (by kernel_rfl) (by simp) ?_
    refine (AllReadyH.cons (o := { dst := some 40, op := Go.Op.call { callee := Go.Callee.value (Go.Operand.func 62), args := #[Go.Operand.tmp 39], argTypes := #[29] }, type := 29, pos := "l12_names.go:110", after := #[{ on := 6, ground := Go.Ground.data }, { on := 4, ground := Go.Ground.chain }], guard := none }) rfl (fun K hK => ?_) AllReadyH.nil)
    · have hC := clone62 n2 b2 xs2 w (r2.keep (hF.bel.block _ r2.lt)) l2 o2
      have j0 := (hR.same 39 (by decide)).trans e39
      simp only [Act.eval, Array.getD_eq_getD_getElem?] at j0
      go_simp
      go_at_call 62
      refine Calls.mono hC ?_
      rintro e w1 ⟨g, c, rfl, hb1, hg1, hr1⟩
      have hF1 := hF.call 1 ⟨74, 2, g, n2, c, xs2⟩ hb1 hr1 hg1
      rw [upd1] at hF1
      refine hK.out (A.put (some 40) (.slice (some ⟨g, 0, none⟩) n2 c)) _ (hS _ hF1.bel) (fun hHeld => ?_)
      exact H_210 _ _ g1 c1 g c g4 (hR.put (by decide) (by rw [hsz]; decide) _) (by rw [ev_put _ _ _ _ (by rw [hR.size, hsz]; decide)]; exact (if_neg (by decide)).trans q1) (by rw [ev_put _ _ _ _ (by rw [hR.size, hsz]; decide)]; exact if_pos rfl) (by rw [ev_put _ _ _ _ (by rw [hR.size, hsz]; decide)]; exact (if_neg (by decide)).trans q4) hF1
  have H_200 : ∀ (A : Act) (w : World) (g1 c1 g2 c2 : Nat) (hR : Rst [9, 37, 40, 43, 44] A0 A) (q1 : A.eval (.tmp 37) = .slice (some ⟨g1, 0, none⟩) n1 c1) (q2 : A.eval (.tmp 40) = .slice (some ⟨g2, 0, none⟩) n2 c2) (hF : Fo w0 w (V4 (some ⟨68, 3, g1, n1, c1, xs1⟩) (some ⟨74, 2, g2, n2, c2, xs2⟩) none none)), wpAnyH Try.prog .any opsR6 Q SS 4 #[true, true, true, true, true, true, true, true, true, true, false, false, false, false] A w := by
    intro A w g1 c1 g2 c2 hR q1 q2 hF
    refine wpAnyH_ready (rs := [10, 12]) (by kernel_rfl) (by simp) ?_
    refine (AllReadyH.cons (o := { dst := some 43, op := Go.Op.call { callee := Go.Callee.value (Go.Operand.func 62), args := #[Go.Operand.tmp 42], argTypes := #[29] }, type := 29, pos := "l12_names.go:110", after := #[{ on := 9, ground := Go.Ground.data }, { on := 7, ground := Go.Ground.chain }], guard := none }) rfl (fun K hK => ?_) (AllReadyH.cons (o := { dst := some 9, op := Go.Op.alloc 31, type := 0, pos := "l12_names.go:110", after := #[], guard := none }) rfl (fun K hK => ?_) AllReadyH.nil))
    · have hC := clone62 n3 b3 xs3 w (r3.keep (hF.bel.block _ r3.lt)) l3 o3
      have j0 := (hR.same 42 (by decide)).trans e42
      simp only [Act.eval, Array.getD_eq_getD_getElem?] at j0
      go_simp
      go_at_call 62
      refine Calls.mono hC ?_
      rintro e w1 ⟨g, c, rfl, hb1, hg1, hr1⟩
      have hF1 := hF.call 2 ⟨74, 2, g, n3, c, xs3⟩ hb1 hr1 hg1
      rw [upd2] at hF1
      refine hK.out (A.put (some 43) (.slice (some ⟨g, 0, none⟩) n3 c)) _ (hS _ hF1.bel) (fun hHeld => ?_)
      exact H_300 _ _ g1 c1 g2 c2 g c (hR.put (by decide) (by rw [hsz]; decide) _) (by rw [ev_put _ _ _ _ (by rw [hR.size, hsz]; decide)]; exact (if_neg (by decide)).trans q1) (by rw [ev_put _ _ _ _ (by rw [hR.size, hsz]; decide)]; exact (if_neg (by decide)).trans q2) (by rw [ev_put _ _ _ _ (by rw [hR.size, hsz]; decide)]; exact if_pos rfl) hF1
    · go_simp
      refine hK.out (A.put (some 9) (.pointer (some ⟨w.heap.size, 0, none⟩))) _ (hS _ (hF.bel.alloc hF.bel.size _)) (fun hHeld => ?_)
      exact H_210 _ _ g1 c1 g2 c2 w.heap.size (hR.put (by decide) (by rw [hsz]; decide) _) (by rw [ev_put _ _ _ _ (by rw [hR.size, hsz]; decide)]; exact (if_neg (by decide)).trans q1) (by rw [ev_put _ _ _ _ (by rw [hR.size, hsz]; decide)]; exact (if_neg (by decide)).trans q2) (by rw [ev_put _ _ _ _ (by rw [hR.size, hsz]; decide)]; exact if_pos rfl) (upd3 ▸ hF.alloc 3 ⟨31, 4, w.heap.size, 1, 1, [.int .i64 0, .slice none 0 0, .slice none 0 0, .slice none 0 0]⟩ _ (Rw.box w 31 _ _ _ _) rfl)
  have H_010 : ∀ (A : Act) (w : World) (g4 : Nat) (hR : Rst [9, 37, 40, 43, 44] A0 A) (q4 : A.eval (.tmp 9) = .pointer (some ⟨g4, 0, none⟩)) (hF : Fo w0 w (V4 none none none (some ⟨31, 4, g4, 1, 1, [.int .i64 0, .slice none 0 0, .slice none 0 0, .slice none 0 0]⟩))), wpAnyH Try.prog .any opsR6 Q SS 5 #[true, true, true, true, false, true, true, false, true, true, false, false, true, false] A w := by
    intro A w g4 hR q4 hF
    refine wpAnyH_ready (rs := [4]) (by kernel_rfl) (by simp) ?_
    refine (AllReadyH.cons (o := { dst := some 37, op := Go.Op.call { callee := Go.Callee.value (Go.Operand.func 61), args := #[Go.Operand.tmp 36], argTypes := #[28] }, type := 28, pos := "l12_names.go:110", after := #[{ on := 3, ground := Go.Ground.data }], guard := none }) rfl (fun K hK => ?_) AllReadyH.nil)
    · have hC := clone61 n1 b1 xs1 w (r1.keep (hF.bel.block _ r1.lt)) l1 o1
      have j0 := (hR.same 36 (by decide)).trans e36
      simp only [Act.eval, Array.getD_eq_getD_getElem?] at j0
      go_simp
      go_at_call 61
      refine Calls.mono hC ?_
      rintro e w1 ⟨g, c, rfl, hb1, hg1, hr1⟩
      have hF1 := hF.call 0 ⟨68, 3, g, n1, c, xs1⟩ hb1 hr1 hg1
      rw [upd0] at hF1
      refine hK.out (A.put (some 37) (.slice (some ⟨g, 0, none⟩) n1 c)) _ (hS _ hF1.bel) (fun hHeld => ?_)
      exact H_110 _ _ g c g4 (hR.put (by decide) (by rw [hsz]; decide) _) (by rw [ev_put _ _ _ _ (by rw [hR.size, hsz]; decide)]; exact if_pos rfl) (by rw [ev_put _ _ _ _ (by rw [hR.size, hsz]; decide)]; exact (if_neg (by decide)).trans q4) hF1
  have H_100 : ∀ (A : Act) (w : World) (g1 c1 : Nat) (hR : Rst [9, 37, 40, 43, 44] A0 A) (q1 : A.eval (.tmp 37) = .slice (some ⟨g1, 0, none⟩) n1 c1) (hF : Fo w0 w (V4 (some ⟨68, 3, g1, n1, c1, xs1⟩) none none none)), wpAnyH Try.prog .any opsR6 Q SS 5 #[true, true, true, true, true, true, true, false, true, true, false, false, false, false] A w := by
    intro A w g1 c1 hR q1 hF
    refine wpAnyH_ready (rs := [7, 12]) (by kernel_rfl) (by simp) ?_
    refine (AllReadyH.cons (o := { dst := some 40, op := Go.Op.call { callee := Go.Callee.value (Go.Operand.func 62), args := #[Go.Operand.tmp 39], argTypes := #[29] }, type := 29, pos := "l12_names.go:110", after := #[{ on := 6, ground := Go.Ground.data }, { on := 4, ground := Go.Ground.chain }], guard := none }) rfl (fun K hK => ?_) (AllReadyH.cons (o := { dst := some 9, op := Go.Op.alloc 31, type := 0, pos := "l12_names.go:110", after := #[], guard := none }) rfl (fun K hK => ?_) AllReadyH.nil))
    · have hC := clone62 n2 b2 xs2 w (r2.keep (hF.bel.block _ r2.lt)) l2 o2
      have j0 := (hR.same 39 (by decide)).trans e39
      simp only [Act.eval, Array.getD_eq_getD_getElem?] at j0
      go_simp
      go_at_call 62
      refine Calls.mono hC ?_
      rintro e w1 ⟨g, c, rfl, hb1, hg1, hr1⟩
      have hF1 := hF.call 1 ⟨74, 2, g, n2, c, xs2⟩ hb1 hr1 hg1
      rw [upd1] at hF1
      refine hK.out (A.put (some 40) (.slice (some ⟨g, 0, none⟩) n2 c)) _ (hS _ hF1.bel) (fun hHeld => ?_)
      exact H_200 _ _ g1 c1 g c (hR.put (by decide) (by rw [hsz]; decide) _) (by rw [ev_put _ _ _ _ (by rw [hR.size, hsz]; decide)]; exact (if_neg (by decide)).trans q1) (by rw [ev_put _ _ _ _ (by rw [hR.size, hsz]; decide)]; exact if_pos rfl) hF1
    · go_simp
      refine hK.out (A.put (some 9) (.pointer (some ⟨w.heap.size, 0, none⟩))) _ (hS _ (hF.bel.alloc hF.bel.size _)) (fun hHeld => ?_)
      exact H_110 _ _ g1 c1 w.heap.size (hR.put (by decide) (by rw [hsz]; decide) _) (by rw [ev_put _ _ _ _ (by rw [hR.size, hsz]; decide)]; exact (if_neg (by decide)).trans q1) (by rw [ev_put _ _ _ _ (by rw [hR.size, hsz]; decide)]; exact if_pos rfl) (upd3 ▸ hF.alloc 3 ⟨31, 4, w.heap.size, 1, 1, [.int .i64 0, .slice none 0 0, .slice none 0 0, .slice none 0 0]⟩ _ (Rw.box w 31 _ _ _ _) rfl)
  have H_000 : ∀ (A : Act) (w : World) (hR : Rst [9, 37, 40, 43, 44] A0 A) (hF : Fo w0 w (V4 none none none none)), wpAnyH Try.prog .any opsR6 Q SS 6 #[true, true, true, true, false, true, true, false, true, true, false, false, false, false] A w := by
    intro A w  hR  hF
    refine wpAnyH_ready (rs := [4, 12]) (by kernel_rfl) (by simp) ?_
    refine (AllReadyH.cons (o := { dst := some 37, op := Go.Op.call { callee := Go.Callee.value (Go.Operand.func 61), args := #[Go.Operand.tmp 36], argTypes := #[28] }, type := 28, pos := "l12_names.go:110", after := #[{ on := 3, ground := Go.Ground.data }], guard := none }) rfl (fun K hK => ?_) (AllReadyH.cons (o := { dst := some 9, op := Go.Op.alloc 31, type := 0, pos := "l12_names.go:110", after := #[], guard := none }) rfl (fun K hK => ?_) AllReadyH.nil))
    · have hC := clone61 n1 b1 xs1 w (r1.keep (hF.bel.block _ r1.lt)) l1 o1
      have j0 := (hR.same 36 (by decide)).trans e36
      simp only [Act.eval, Array.getD_eq_getD_getElem?] at j0
      go_simp
      go_at_call 61
      refine Calls.mono hC ?_
      rintro e w1 ⟨g, c, rfl, hb1, hg1, hr1⟩
      have hF1 := hF.call 0 ⟨68, 3, g, n1, c, xs1⟩ hb1 hr1 hg1
      rw [upd0] at hF1
      refine hK.out (A.put (some 37) (.slice (some ⟨g, 0, none⟩) n1 c)) _ (hS _ hF1.bel) (fun hHeld => ?_)
      exact H_100 _ _ g c (hR.put (by decide) (by rw [hsz]; decide) _) (by rw [ev_put _ _ _ _ (by rw [hR.size, hsz]; decide)]; exact if_pos rfl) hF1
    · go_simp
      refine hK.out (A.put (some 9) (.pointer (some ⟨w.heap.size, 0, none⟩))) _ (hS _ (hF.bel.alloc hF.bel.size _)) (fun hHeld => ?_)
      exact H_010 _ _ w.heap.size (hR.put (by decide) (by rw [hsz]; decide) _) (by rw [ev_put _ _ _ _ (by rw [hR.size, hsz]; decide)]; exact if_pos rfl) (upd3 ▸ hF.alloc 3 ⟨31, 4, w.heap.size, 1, 1, [.int .i64 0, .slice none 0 0, .slice none 0 0, .slice none 0 0]⟩ _ (Rw.box w 31 _ _ _ _) rfl)
  exact H_000
end Go.Proofs.Ytkkebcbcbihbiaa
