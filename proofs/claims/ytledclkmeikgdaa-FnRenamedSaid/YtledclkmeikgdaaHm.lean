import Derived.Test.YtledclkmeikgdaaHl
import Derived.Test.YtledclkmeikgdaaKa
import Derived.Deep.RegionHeld3
/-! The copies that the specification's Rename makes: a region that draws its order, state by state. -/
namespace Go.Proofs.Ytledclkmeikgdaa
open Go.RowKit Go.Deep
set_option linter.unusedVariables false
set_option maxRecDepth 100000
set_option linter.unusedSimpArgs false
abbrev qHm0 : Oper := { dst := some 43, op := Go.Op.build 27 #[(0, Go.Operand.tmp 30), (1, Go.Operand.tmp 34), (2, Go.Operand.tmp 38), (3, Go.Operand.tmp 42)], type := 27, pos := "l12_names.go:119", after := #[{ on := 1, ground := Go.Ground.data }, { on := 5, ground := Go.Ground.data }, { on := 9, ground := Go.Ground.data }, { on := 13, ground := Go.Ground.data }], guard := none }
abbrev qHm1 : Oper := { dst := some 8, op := Go.Op.alloc 27, type := 0, pos := "l12_names.go:119", after := #[], guard := none }
abbrev qHm2 : Oper := { dst := some 42, op := Go.Op.call { callee := Go.Callee.builtin Go.Builtin.append, args := #[Go.Operand.tmp 39, Go.Operand.tmp 41], argTypes := #[25, 25] }, type := 25, pos := "l12_names.go:119", after := #[{ on := 10, ground := Go.Ground.data }, { on := 12, ground := Go.Ground.data }, { on := 9, ground := Go.Ground.chain }], guard := none }
abbrev qHm3 : Oper := { dst := some 39, op := Go.Op.buildSlice 25 0 #[], type := 25, pos := "l12_names.go:119", after := #[], guard := none }
abbrev qHm4 : Oper := { dst := some 38, op := Go.Op.call { callee := Go.Callee.builtin Go.Builtin.append, args := #[Go.Operand.tmp 35, Go.Operand.tmp 37], argTypes := #[25, 25] }, type := 25, pos := "l12_names.go:119", after := #[{ on := 6, ground := Go.Ground.data }, { on := 8, ground := Go.Ground.data }, { on := 5, ground := Go.Ground.chain }], guard := none }
abbrev qHm5 : Oper := { dst := some 35, op := Go.Op.buildSlice 25 0 #[], type := 25, pos := "l12_names.go:119", after := #[], guard := none }
abbrev qHm6 : Oper := { dst := some 34, op := Go.Op.call { callee := Go.Callee.builtin Go.Builtin.append, args := #[Go.Operand.tmp 31, Go.Operand.tmp 33], argTypes := #[24, 24] }, type := 24, pos := "l12_names.go:119", after := #[{ on := 2, ground := Go.Ground.data }, { on := 4, ground := Go.Ground.data }], guard := none }
abbrev qHm7 : Oper := { dst := some 31, op := Go.Op.buildSlice 24 0 #[], type := 24, pos := "l12_names.go:119", after := #[], guard := none }

theorem ev_put (A : Act) (d k : Nat) (v : Value) (hd : d < A.tmps.size) : (A.put (some d) v).eval (.tmp k) = if d = k then v else A.eval (.tmp k) := by
  simp only [Act.put, Act.eval, Array.getD_eq_getD_getElem?, Array.getElem?_setIfInBounds]
  by_cases e : d = k
  · subst e; simp [hd]
  · simp [e]
/-- All slots but these are as they were. -/
structure Rst (ks : List Nat) (A0 A : Act) : Prop where
  size : A.tmps.size = A0.tmps.size
  defers : A.defers = A0.defers
  same : ∀ k, k ∉ ks → A.eval (.tmp k) = A0.eval (.tmp k)
theorem Rst.refl (ks : List Nat) (A : Act) : Rst ks A A := ⟨rfl, rfl, fun _ _ => rfl⟩
theorem Rst.put {ks : List Nat} {A0 A : Act} (h : Rst ks A0 A) {d : Nat} (hd : d ∈ ks) (hl : d < A0.tmps.size) (v : Value) : Rst ks A0 (A.put (some d) v) :=
  ⟨by simp [Act.put, h.size], h.defers, fun k hk => by
    rw [ev_put _ _ _ _ (by rw [h.size]; exact hl), if_neg (fun e : d = k => hk (e ▸ hd))]
    exact h.same k hk⟩
def puts (A0 : Act) : List (Nat × Value) → Act
  | [] => A0
  | p :: ks => puts (A0.put (some p.1) p.2) ks
theorem puts_eq (A : Act) : ∀ (ks : List (Nat × Value)) (A0 : Act), A.tmps.size = A0.tmps.size → A.defers = A0.defers → (∀ p ∈ ks, p.1 < A0.tmps.size ∧ A.eval (.tmp p.1) = p.2) → (∀ k, k ∉ ks.map (·.1) → A.eval (.tmp k) = A0.eval (.tmp k)) → A = puts A0 ks
  | [], A0, h1, h2, _, h4 => by
    show A = A0
    cases A with
    | mk t d => cases A0 with
      | mk t0 d0 =>
        simp only at h1 h2
        subst h2
        congr 1
        refine Array.ext h1 (fun i hi hi2 => ?_)
        have := h4 i (by simp)
        simpa [Act.eval, Array.getD, hi, hi2] using this
  | p :: ks, A0, h1, h2, h3, h4 => by
    refine puts_eq A ks (A0.put (some p.1) p.2) (by simp [Act.put, h1]) h2 (fun q hq => ⟨by simp [Act.put]; exact (h3 q (List.mem_cons_of_mem _ hq)).1, (h3 q (List.mem_cons_of_mem _ hq)).2⟩) (fun k hk => ?_)
    rw [ev_put _ _ _ _ (h3 p (List.mem_cons_self)).1]
    by_cases e : p.1 = k
    · rw [if_pos e, ← e]; exact (h3 p (List.mem_cons_self)).2
    · rw [if_neg e]; exact h4 k (by simp; exact ⟨fun q => e q.symm, by simpa using hk⟩)
def opsR5 : Array Oper := #[{ dst := some 29, op := Go.Op.fieldAddr 27 (Go.Operand.tmp 3) 0, type := 0, pos := "l12_names.go:119", after := #[], guard := none }, { dst := some 30, op := Go.Op.load 3 (Go.Operand.tmp 29), type := 3, pos := "l12_names.go:119", after := #[{ on := 0, ground := Go.Ground.data }], guard := none }, { dst := some 31, op := Go.Op.buildSlice 24 0 #[], type := 24, pos := "l12_names.go:119", after := #[], guard := none }, { dst := some 32, op := Go.Op.fieldAddr 27 (Go.Operand.tmp 3) 1, type := 0, pos := "l12_names.go:119", after := #[], guard := none }, { dst := some 33, op := Go.Op.load 24 (Go.Operand.tmp 32), type := 24, pos := "l12_names.go:119", after := #[{ on := 3, ground := Go.Ground.data }], guard := none }, { dst := some 34, op := Go.Op.call { callee := Go.Callee.builtin Go.Builtin.append, args := #[Go.Operand.tmp 31, Go.Operand.tmp 33], argTypes := #[24, 24] }, type := 24, pos := "l12_names.go:119", after := #[{ on := 2, ground := Go.Ground.data }, { on := 4, ground := Go.Ground.data }], guard := none }, { dst := some 35, op := Go.Op.buildSlice 25 0 #[], type := 25, pos := "l12_names.go:119", after := #[], guard := none }, { dst := some 36, op := Go.Op.fieldAddr 27 (Go.Operand.tmp 3) 2, type := 0, pos := "l12_names.go:119", after := #[], guard := none }, { dst := some 37, op := Go.Op.load 25 (Go.Operand.tmp 36), type := 25, pos := "l12_names.go:119", after := #[{ on := 7, ground := Go.Ground.data }], guard := none }, { dst := some 38, op := Go.Op.call { callee := Go.Callee.builtin Go.Builtin.append, args := #[Go.Operand.tmp 35, Go.Operand.tmp 37], argTypes := #[25, 25] }, type := 25, pos := "l12_names.go:119", after := #[{ on := 6, ground := Go.Ground.data }, { on := 8, ground := Go.Ground.data }, { on := 5, ground := Go.Ground.chain }], guard := none }, { dst := some 39, op := Go.Op.buildSlice 25 0 #[], type := 25, pos := "l12_names.go:119", after := #[], guard := none }, { dst := some 40, op := Go.Op.fieldAddr 27 (Go.Operand.tmp 3) 3, type := 0, pos := "l12_names.go:119", after := #[], guard := none }, { dst := some 41, op := Go.Op.load 25 (Go.Operand.tmp 40), type := 25, pos := "l12_names.go:119", after := #[{ on := 11, ground := Go.Ground.data }], guard := none }, { dst := some 42, op := Go.Op.call { callee := Go.Callee.builtin Go.Builtin.append, args := #[Go.Operand.tmp 39, Go.Operand.tmp 41], argTypes := #[25, 25] }, type := 25, pos := "l12_names.go:119", after := #[{ on := 10, ground := Go.Ground.data }, { on := 12, ground := Go.Ground.data }, { on := 9, ground := Go.Ground.chain }], guard := none }, { dst := some 43, op := Go.Op.build 27 #[(0, Go.Operand.tmp 30), (1, Go.Operand.tmp 34), (2, Go.Operand.tmp 38), (3, Go.Operand.tmp 42)], type := 27, pos := "l12_names.go:119", after := #[{ on := 1, ground := Go.Ground.data }, { on := 5, ground := Go.Ground.data }, { on := 9, ground := Go.Ground.data }, { on := 13, ground := Go.Ground.data }], guard := none }, { dst := some 8, op := Go.Op.alloc 27, type := 0, pos := "l12_names.go:119", after := #[], guard := none }, { dst := none, op := Go.Op.store 27 (Go.Operand.tmp 8) (Go.Operand.tmp 43), type := 0, pos := "l12_names.go:119", after := #[{ on := 15, ground := Go.Ground.data }, { on := 14, ground := Go.Ground.data }, { on := 13, ground := Go.Ground.chain }, { on := 0, ground := Go.Ground.phase }, { on := 1, ground := Go.Ground.phase }, { on := 2, ground := Go.Ground.phase }, { on := 3, ground := Go.Ground.phase }, { on := 4, ground := Go.Ground.phase }, { on := 5, ground := Go.Ground.phase }, { on := 6, ground := Go.Ground.phase }, { on := 7, ground := Go.Ground.phase }, { on := 8, ground := Go.Ground.phase }, { on := 9, ground := Go.Ground.phase }, { on := 10, ground := Go.Ground.phase }, { on := 11, ground := Go.Ground.phase }, { on := 12, ground := Go.Ground.phase }, { on := 13, ground := Go.Ground.phase }, { on := 14, ground := Go.Ground.phase }, { on := 15, ground := Go.Ground.phase }], guard := none }]
set_option maxHeartbeats 12800000 in
theorem region5 (A0 : Act) (Q : Exit → Act → World → Prop) (SS : World → Prop) (w0 : World) (sc : Int) (s1 : Value) (n1 : Nat) (s2 : Value) (n2 : Nat) (s3 : Value) (n3 : Nat) (xs1 xs2 xs3 : List Value)
    (hsz : A0.tmps.size = 115) (e30 : A0.eval (.tmp 30) = .int .i64 sc) (e33 : A0.eval (.tmp 33) = s1) (e37 : A0.eval (.tmp 37) = s2) (e41 : A0.eval (.tmp 41) = s3)
    (hS : ∀ w', Below w0.heap.size w0 w' → SS w') (r1 : SrcR w0 74 3 s1 n1 xs1) (r2 : SrcR w0 33 2 s2 n2 xs2) (r3 : SrcR w0 33 2 s3 n3 xs3) (l1 : n1 ≤ 120) (l2 : n2 ≤ 120) (l3 : n3 ≤ 120) (o1 : ∀ u ∈ xs1, u.oneCell' = true) (o2 : ∀ u ∈ xs2, u.oneCell' = true) (o3 : ∀ u ∈ xs3, u.oneCell' = true)
    (hQp : ∀ c a (k : Nat) v w, Q (.panic c) (a.put (some k) v) w → Q (.panic c) a w)
    (hQ : ∀ (A : Act) (w : World) (g1 c1 g2 c2 g3 c3 g4 : Nat), Rst [8, 31, 34, 35, 38, 39, 42, 43] A0 A → A.eval (.tmp 8) = .pointer (some ⟨g4, 0, none⟩) → Fo w0 w (V4 (some ⟨74, 3, g1, n1, c1, xs1⟩) (some ⟨33, 2, g2, n2, c2, xs2⟩) (some ⟨33, 2, g3, n3, c3, xs3⟩) (some ⟨27, 4, g4, 1, 1, [.int .i64 sc, .slice (some ⟨g1, 0, none⟩) n1 c1, .slice (some ⟨g2, 0, none⟩) n2 c2, .slice (some ⟨g3, 0, none⟩) n3 c3]⟩)) → Q .normal A w) : ∀ (A : Act) (w : World) (hR : Rst [8, 31, 34, 35, 38, 39, 42, 43] A0 A) (hF : Fo w0 w (V4 none none none none)), wpAnyH Try.prog .any opsR5 Q SS 9 #[true, true, false, true, true, false, false, true, true, false, false, true, true, false, false, false, false] A w := by
  obtain ⟨i68, hi68, hzz⟩ := Option.map_eq_some_iff.1 info74
  simp only [Prod.mk.injEq] at hzz
  obtain ⟨hy0, hy1, hy2⟩ := hzz
  obtain ⟨i74, hi74, hzz⟩ := Option.map_eq_some_iff.1 info33
  simp only [Prod.mk.injEq] at hzz
  obtain ⟨hz0, hz1, hz2⟩ := hzz
  have HLAST : ∀ (A : Act) (w : World) (g1 c1 g2 c2 g3 c3 g4 : Nat) (hR : Rst [8, 31, 34, 35, 38, 39, 42, 43] A0 A) (q43 : A.eval (.tmp 43) = (.agg #[.int .i64 sc, .slice (some ⟨g1, 0, none⟩) n1 c1, .slice (some ⟨g2, 0, none⟩) n2 c2, .slice (some ⟨g3, 0, none⟩) n3 c3])) (q8 : A.eval (.tmp 8) = .pointer (some ⟨g4, 0, none⟩)) (hF : Fo w0 w (V4 (some ⟨74, 3, g1, n1, c1, xs1⟩) (some ⟨33, 2, g2, n2, c2, xs2⟩) (some ⟨33, 2, g3, n3, c3, xs3⟩) (some ⟨27, 4, g4, 1, 1, [.int .i64 0, .slice none 0 0, .slice none 0 0, .slice none 0 0]⟩))), wpAnyH Try.prog .any opsR5 Q SS 1 #[true, true, true, true, true, true, true, true, true, true, true, true, true, true, true, true, false] A w := by
    intro A w g1 c1 g2 c2 g3 c3 g4 hR q43 q8 hF
    have hO := hF.own 3 _ rfl
    have k0 := hO.2.cell? (j := 0) rfl
    have k1 := hO.2.cell? (j := 1) rfl
    have k2 := hO.2.cell? (j := 2) rfl
    have k3 := hO.2.cell? (j := 3) rfl
    have f0 := hO.2.frozen 0
    have f1 := hO.2.frozen 1
    have f2 := hO.2.frozen 2
    have f3 := hO.2.frozen 3
    simp only [] at k0 k1 k2 k3 f0 f1 f2 f3
    have HF1 := (show Hid _ from (((hF.set 3 rfl 0 (.int .i64 sc)).set 3 rfl 1 (.slice (some ⟨g1, 0, none⟩) n1 c1)).set 3 rfl 2 (.slice (some ⟨g2, 0, none⟩) n2 c2)).set 3 rfl 3 (.slice (some ⟨g3, 0, none⟩) n3 c3))
    simp only [upd3] at HF1
    have j43 := q43
    have j8 := q8
    simp only [Act.eval, Array.getD_eq_getD_getElem?] at j43 j8
    clear hO
    have HF := (show Hid _ from hF); clear hF
    refine wpAnyH_ready (rs := [16]) (by kernel_rfl) (by simp) ?_
    refine AllReadyH.cons (o := { dst := none, op := Go.Op.store 27 (Go.Operand.tmp 8) (Go.Operand.tmp 43), type := 0, pos := "l12_names.go:119", after := #[{ on := 15, ground := Go.Ground.data }, { on := 14, ground := Go.Ground.data }, { on := 13, ground := Go.Ground.chain }, { on := 0, ground := Go.Ground.phase }, { on := 1, ground := Go.Ground.phase }, { on := 2, ground := Go.Ground.phase }, { on := 3, ground := Go.Ground.phase }, { on := 4, ground := Go.Ground.phase }, { on := 5, ground := Go.Ground.phase }, { on := 6, ground := Go.Ground.phase }, { on := 7, ground := Go.Ground.phase }, { on := 8, ground := Go.Ground.phase }, { on := 9, ground := Go.Ground.phase }, { on := 10, ground := Go.Ground.phase }, { on := 11, ground := Go.Ground.phase }, { on := 12, ground := Go.Ground.phase }, { on := 13, ground := Go.Ground.phase }, { on := 14, ground := Go.Ground.phase }, { on := 15, ground := Go.Ground.phase }], guard := none }) rfl (fun K hK => ?_) AllReadyH.nil
    go_simp
    refine hK.out A _ (hS _ HF1.out.bel) (fun hHeld => ?_)
    refine wpAnyH_done (by kernel_rfl) ?_ _
    exact hQ _ _ g1 c1 g2 c2 g3 c3 g4 hR q8 HF1.out
  have H_111130 : ∀ (A : Act) (w : World) (g1 c1 g2 c2 g3 c3 g4 : Nat) (hR : Rst [8, 31, 34, 35, 38, 39, 42, 43] A0 A) (q1 : A.eval (.tmp 34) = .slice (some ⟨g1, 0, none⟩) n1 c1) (q2 : A.eval (.tmp 38) = .slice (some ⟨g2, 0, none⟩) n2 c2) (q3 : A.eval (.tmp 42) = .slice (some ⟨g3, 0, none⟩) n3 c3) (q4 : A.eval (.tmp 8) = .pointer (some ⟨g4, 0, none⟩)) (hF : Fo w0 w (V4 (some ⟨74, 3, g1, n1, c1, xs1⟩) (some ⟨33, 2, g2, n2, c2, xs2⟩) (some ⟨33, 2, g3, n3, c3, xs3⟩) (some ⟨27, 4, g4, 1, 1, [.int .i64 0, .slice none 0 0, .slice none 0 0, .slice none 0 0]⟩))), wpAnyH Try.prog .any opsR5 Q SS 2 #[true, true, true, true, true, true, true, true, true, true, true, true, true, true, false, true, false] A w := by
    intro A w g1 c1 g2 c2 g3 c3 g4 hR q1 q2 q3 q4 hF
    have q0 := (hR.same 30 (by decide)).trans e30
    have hHeld := hS _ hF.bel
    refine wpAnyH_take (i := 14) (oi := qHm0) (v := (.agg #[.int .i64 sc, .slice (some ⟨g1, 0, none⟩) n1 c1, .slice (some ⟨g2, 0, none⟩) n2 c2, .slice (some ⟨g3, 0, none⟩) n3 c3])) rfl (by kernel_rfl) (by kernel_rfl) (by kernel_rfl) (fun _ _ _ h => hQp _ _ _ _ _ h) (Or.inl ⟨by rfl, ?_⟩) hHeld ?_
    · intro w hSw
      clear hHeld hF
      simp only [Act.eval, Array.getD_eq_getD_getElem?] at q0 q1 q2 q3
      go_simp
    have hR1 : Rst [8, 31, 34, 35, 38, 39, 42, 43] A0 (A.put (some 43) (.agg #[.int .i64 sc, .slice (some ⟨g1, 0, none⟩) n1 c1, .slice (some ⟨g2, 0, none⟩) n2 c2, .slice (some ⟨g3, 0, none⟩) n3 c3])) := hR.put (by decide) (by rw [hsz]; decide) _
    have p43 : (A.put (some 43) (.agg #[.int .i64 sc, .slice (some ⟨g1, 0, none⟩) n1 c1, .slice (some ⟨g2, 0, none⟩) n2 c2, .slice (some ⟨g3, 0, none⟩) n3 c3])).eval (.tmp 43) = (.agg #[.int .i64 sc, .slice (some ⟨g1, 0, none⟩) n1 c1, .slice (some ⟨g2, 0, none⟩) n2 c2, .slice (some ⟨g3, 0, none⟩) n3 c3]) := by rw [ev_put _ _ _ _ (by rw [hR.size, hsz]; decide)]; exact if_pos rfl
    have p8 : (A.put (some 43) (.agg #[.int .i64 sc, .slice (some ⟨g1, 0, none⟩) n1 c1, .slice (some ⟨g2, 0, none⟩) n2 c2, .slice (some ⟨g3, 0, none⟩) n3 c3])).eval (.tmp 8) = .pointer (some ⟨g4, 0, none⟩) := by rw [ev_put _ _ _ _ (by rw [hR.size, hsz]; decide)]; exact (if_neg (by decide)).trans q4
    exact HLAST _ w g1 c1 g2 c2 g3 c3 g4 hR1 p43 p8 hF
  have H_111030 : ∀ (A : Act) (w : World) (g1 c1 g2 c2 g3 c3 : Nat) (hR : Rst [8, 31, 34, 35, 38, 39, 42, 43] A0 A) (q1 : A.eval (.tmp 34) = .slice (some ⟨g1, 0, none⟩) n1 c1) (q2 : A.eval (.tmp 38) = .slice (some ⟨g2, 0, none⟩) n2 c2) (q3 : A.eval (.tmp 42) = .slice (some ⟨g3, 0, none⟩) n3 c3) (hF : Fo w0 w (V4 (some ⟨74, 3, g1, n1, c1, xs1⟩) (some ⟨33, 2, g2, n2, c2, xs2⟩) (some ⟨33, 2, g3, n3, c3, xs3⟩) none)), wpAnyH Try.prog .any opsR5 Q SS 3 #[true, true, true, true, true, true, true, true, true, true, true, true, true, true, false, false, false] A w := by
    intro A w g1 c1 g2 c2 g3 c3 hR q1 q2 q3 hF
    have q0 := (hR.same 30 (by decide)).trans e30
    have hHeld := hS _ hF.bel
    refine wpAnyH_take (i := 14) (oi := qHm0) (v := (.agg #[.int .i64 sc, .slice (some ⟨g1, 0, none⟩) n1 c1, .slice (some ⟨g2, 0, none⟩) n2 c2, .slice (some ⟨g3, 0, none⟩) n3 c3])) rfl (by kernel_rfl) (by kernel_rfl) (by kernel_rfl) (fun _ _ _ h => hQp _ _ _ _ _ h) (Or.inl ⟨by rfl, ?_⟩) hHeld ?_
    · intro w hSw
      clear hHeld hF
      simp only [Act.eval, Array.getD_eq_getD_getElem?] at q0 q1 q2 q3
      go_simp
    have hR1 : Rst [8, 31, 34, 35, 38, 39, 42, 43] A0 (A.put (some 43) (.agg #[.int .i64 sc, .slice (some ⟨g1, 0, none⟩) n1 c1, .slice (some ⟨g2, 0, none⟩) n2 c2, .slice (some ⟨g3, 0, none⟩) n3 c3])) := hR.put (by decide) (by rw [hsz]; decide) _
    have p43 : (A.put (some 43) (.agg #[.int .i64 sc, .slice (some ⟨g1, 0, none⟩) n1 c1, .slice (some ⟨g2, 0, none⟩) n2 c2, .slice (some ⟨g3, 0, none⟩) n3 c3])).eval (.tmp 43) = (.agg #[.int .i64 sc, .slice (some ⟨g1, 0, none⟩) n1 c1, .slice (some ⟨g2, 0, none⟩) n2 c2, .slice (some ⟨g3, 0, none⟩) n3 c3]) := by rw [ev_put _ _ _ _ (by rw [hR.size, hsz]; decide)]; exact if_pos rfl
    generalize hA1 : A.put (some 43) (.agg #[.int .i64 sc, .slice (some ⟨g1, 0, none⟩) n1 c1, .slice (some ⟨g2, 0, none⟩) n2 c2, .slice (some ⟨g3, 0, none⟩) n3 c3]) = A1 at *
    refine wpAnyH_ready (rs := [15]) (by kernel_rfl) (by simp) ?_
    refine AllReadyH.cons (o := qHm1) rfl (fun K hK => ?_) AllReadyH.nil
    go_simp
    refine hK.out (A1.put (some 8) (.pointer (some ⟨w.heap.size, 0, none⟩))) _ (hS _ (hF.bel.alloc hF.bel.size _)) (fun hHeld => ?_)
    exact HLAST _ _ g1 c1 g2 c2 g3 c3 w.heap.size (hR1.put (by decide) (by rw [hsz]; decide) _) (by rw [ev_put _ _ _ _ (by rw [hR1.size, hsz]; decide)]; exact (if_neg (by decide)).trans p43) (by rw [ev_put _ _ _ _ (by rw [hR1.size, hsz]; decide)]; exact if_pos rfl) (upd3 ▸ hF.alloc 3 ⟨27, 4, w.heap.size, 1, 1, [.int .i64 0, .slice none 0 0, .slice none 0 0, .slice none 0 0]⟩ _ (Rw.box w 27 _ _ _ _) rfl)
  have H_111120 : ∀ (A : Act) (w : World) (g1 c1 g2 c2 g3 g4 : Nat) (hR : Rst [8, 31, 34, 35, 38, 39, 42, 43] A0 A) (q1 : A.eval (.tmp 34) = .slice (some ⟨g1, 0, none⟩) n1 c1) (q2 : A.eval (.tmp 38) = .slice (some ⟨g2, 0, none⟩) n2 c2) (q3 : A.eval (.tmp 39) = .slice (some ⟨g3, 0, none⟩) 0 0) (q4 : A.eval (.tmp 8) = .pointer (some ⟨g4, 0, none⟩)) (hF : Fo w0 w (V4 (some ⟨74, 3, g1, n1, c1, xs1⟩) (some ⟨33, 2, g2, n2, c2, xs2⟩) (some ⟨33, 2, g3, 0, 0, []⟩) (some ⟨27, 4, g4, 1, 1, [.int .i64 0, .slice none 0 0, .slice none 0 0, .slice none 0 0]⟩))), wpAnyH Try.prog .any opsR5 Q SS 3 #[true, true, true, true, true, true, true, true, true, true, true, true, true, false, false, true, false] A w := by
    intro A w g1 c1 g2 c2 g3 g4 hR q1 q2 q3 q4 hF
    refine wpAnyH_ready (rs := [13]) (by kernel_rfl) (by simp) ?_
    refine (AllReadyH.cons (o := qHm2) rfl (fun K hK => ?_) AllReadyH.nil)
    · refine step_appG _ rfl (.tmp 39) (.tmp 41) 25 rfl w0.heap.size 33 i74 _ 2 24 Try.underlying25 hi74 hz0 hz1 hz2 rfl (by decide) _ 0 [] q3 ((hF.own 2 ⟨33, 2, g3, 0, 0, []⟩ rfl).2.own (hF.own 2 ⟨33, 2, g3, 0, 0, []⟩ rfl).1) s3 n3 xs3 ((hR.same 41 (by decide)).trans e41) (r3.still hF.bel) o3 (by unfold maxLen; omega) (by omega) hF.bel.size ?_
      intro v1 w1 ho hgr hnil hat
      rw [Nat.zero_add, List.nil_append] at ho
      obtain ⟨g, c, rfl, hF1⟩ := hF.app 2 (x := ⟨33, 2, g3, 0, 0, []⟩) rfl ho hgr (fun e => by have := (hnil.1 e).1; cases this) hat
      rw [upd2] at hF1
      refine hK.out _ _ (hS _ hF1.bel) (fun hHeld => ?_)
      exact H_111130 _ _ g1 c1 g2 c2 g c g4 (hR.put (by decide) (by rw [hsz]; decide) _) (by rw [ev_put _ _ _ _ (by rw [hR.size, hsz]; decide)]; exact (if_neg (by decide)).trans q1) (by rw [ev_put _ _ _ _ (by rw [hR.size, hsz]; decide)]; exact (if_neg (by decide)).trans q2) (by rw [ev_put _ _ _ _ (by rw [hR.size, hsz]; decide)]; exact if_pos rfl) (by rw [ev_put _ _ _ _ (by rw [hR.size, hsz]; decide)]; exact (if_neg (by decide)).trans q4) hF1
  have H_110120 : ∀ (A : Act) (w : World) (g1 c1 g2 c2 g4 : Nat) (hR : Rst [8, 31, 34, 35, 38, 39, 42, 43] A0 A) (q1 : A.eval (.tmp 34) = .slice (some ⟨g1, 0, none⟩) n1 c1) (q2 : A.eval (.tmp 38) = .slice (some ⟨g2, 0, none⟩) n2 c2) (q4 : A.eval (.tmp 8) = .pointer (some ⟨g4, 0, none⟩)) (hF : Fo w0 w (V4 (some ⟨74, 3, g1, n1, c1, xs1⟩) (some ⟨33, 2, g2, n2, c2, xs2⟩) none (some ⟨27, 4, g4, 1, 1, [.int .i64 0, .slice none 0 0, .slice none 0 0, .slice none 0 0]⟩))), wpAnyH Try.prog .any opsR5 Q SS 4 #[true, true, true, true, true, true, true, true, true, true, false, true, true, false, false, true, false] A w := by
    intro A w g1 c1 g2 c2 g4 hR q1 q2 q4 hF
    refine wpAnyH_ready (rs := [10]) (by kernel_rfl) (by simp) ?_
    refine (AllReadyH.cons (o := qHm3) rfl (fun K hK => ?_) AllReadyH.nil)
    · go_simp
      refine hK.out (A.put (some 39) (.slice (some ⟨w.heap.size, 0, none⟩) 0 0)) _ (hS _ (hF.bel.alloc hF.bel.size _)) (fun hHeld => ?_)
      exact H_111120 _ _ g1 c1 g2 c2 w.heap.size g4 (hR.put (by decide) (by rw [hsz]; decide) _) (by rw [ev_put _ _ _ _ (by rw [hR.size, hsz]; decide)]; exact (if_neg (by decide)).trans q1) (by rw [ev_put _ _ _ _ (by rw [hR.size, hsz]; decide)]; exact (if_neg (by decide)).trans q2) (by rw [ev_put _ _ _ _ (by rw [hR.size, hsz]; decide)]; exact if_pos rfl) (by rw [ev_put _ _ _ _ (by rw [hR.size, hsz]; decide)]; exact (if_neg (by decide)).trans q4) (upd2 ▸ hF.alloc 2 ⟨33, 2, w.heap.size, 0, 0, []⟩ _ (Rw.made w 33 2) rfl)
  have H_111020 : ∀ (A : Act) (w : World) (g1 c1 g2 c2 g3 : Nat) (hR : Rst [8, 31, 34, 35, 38, 39, 42, 43] A0 A) (q1 : A.eval (.tmp 34) = .slice (some ⟨g1, 0, none⟩) n1 c1) (q2 : A.eval (.tmp 38) = .slice (some ⟨g2, 0, none⟩) n2 c2) (q3 : A.eval (.tmp 39) = .slice (some ⟨g3, 0, none⟩) 0 0) (hF : Fo w0 w (V4 (some ⟨74, 3, g1, n1, c1, xs1⟩) (some ⟨33, 2, g2, n2, c2, xs2⟩) (some ⟨33, 2, g3, 0, 0, []⟩) none)), wpAnyH Try.prog .any opsR5 Q SS 4 #[true, true, true, true, true, true, true, true, true, true, true, true, true, false, false, false, false] A w := by
    intro A w g1 c1 g2 c2 g3 hR q1 q2 q3 hF
    refine wpAnyH_ready (rs := [13, 15]) (by kernel_rfl) (by simp) ?_
    refine (AllReadyH.cons (o := qHm2) rfl (fun K hK => ?_) (AllReadyH.cons (o := qHm1) rfl (fun K hK => ?_) AllReadyH.nil))
    · refine step_appG _ rfl (.tmp 39) (.tmp 41) 25 rfl w0.heap.size 33 i74 _ 2 24 Try.underlying25 hi74 hz0 hz1 hz2 rfl (by decide) _ 0 [] q3 ((hF.own 2 ⟨33, 2, g3, 0, 0, []⟩ rfl).2.own (hF.own 2 ⟨33, 2, g3, 0, 0, []⟩ rfl).1) s3 n3 xs3 ((hR.same 41 (by decide)).trans e41) (r3.still hF.bel) o3 (by unfold maxLen; omega) (by omega) hF.bel.size ?_
      intro v1 w1 ho hgr hnil hat
      rw [Nat.zero_add, List.nil_append] at ho
      obtain ⟨g, c, rfl, hF1⟩ := hF.app 2 (x := ⟨33, 2, g3, 0, 0, []⟩) rfl ho hgr (fun e => by have := (hnil.1 e).1; cases this) hat
      rw [upd2] at hF1
      refine hK.out _ _ (hS _ hF1.bel) (fun hHeld => ?_)
      exact H_111030 _ _ g1 c1 g2 c2 g c (hR.put (by decide) (by rw [hsz]; decide) _) (by rw [ev_put _ _ _ _ (by rw [hR.size, hsz]; decide)]; exact (if_neg (by decide)).trans q1) (by rw [ev_put _ _ _ _ (by rw [hR.size, hsz]; decide)]; exact (if_neg (by decide)).trans q2) (by rw [ev_put _ _ _ _ (by rw [hR.size, hsz]; decide)]; exact if_pos rfl) hF1
    · go_simp
      refine hK.out (A.put (some 8) (.pointer (some ⟨w.heap.size, 0, none⟩))) _ (hS _ (hF.bel.alloc hF.bel.size _)) (fun hHeld => ?_)
      exact H_111120 _ _ g1 c1 g2 c2 g3 w.heap.size (hR.put (by decide) (by rw [hsz]; decide) _) (by rw [ev_put _ _ _ _ (by rw [hR.size, hsz]; decide)]; exact (if_neg (by decide)).trans q1) (by rw [ev_put _ _ _ _ (by rw [hR.size, hsz]; decide)]; exact (if_neg (by decide)).trans q2) (by rw [ev_put _ _ _ _ (by rw [hR.size, hsz]; decide)]; exact (if_neg (by decide)).trans q3) (by rw [ev_put _ _ _ _ (by rw [hR.size, hsz]; decide)]; exact if_pos rfl) (upd3 ▸ hF.alloc 3 ⟨27, 4, w.heap.size, 1, 1, [.int .i64 0, .slice none 0 0, .slice none 0 0, .slice none 0 0]⟩ _ (Rw.box w 27 _ _ _ _) rfl)
  have H_111110 : ∀ (A : Act) (w : World) (g1 c1 g2 g3 g4 : Nat) (hR : Rst [8, 31, 34, 35, 38, 39, 42, 43] A0 A) (q1 : A.eval (.tmp 34) = .slice (some ⟨g1, 0, none⟩) n1 c1) (q2 : A.eval (.tmp 35) = .slice (some ⟨g2, 0, none⟩) 0 0) (q3 : A.eval (.tmp 39) = .slice (some ⟨g3, 0, none⟩) 0 0) (q4 : A.eval (.tmp 8) = .pointer (some ⟨g4, 0, none⟩)) (hF : Fo w0 w (V4 (some ⟨74, 3, g1, n1, c1, xs1⟩) (some ⟨33, 2, g2, 0, 0, []⟩) (some ⟨33, 2, g3, 0, 0, []⟩) (some ⟨27, 4, g4, 1, 1, [.int .i64 0, .slice none 0 0, .slice none 0 0, .slice none 0 0]⟩))), wpAnyH Try.prog .any opsR5 Q SS 4 #[true, true, true, true, true, true, true, true, true, false, true, true, true, false, false, true, false] A w := by
    intro A w g1 c1 g2 g3 g4 hR q1 q2 q3 q4 hF
    refine wpAnyH_ready (rs := [9]) (by kernel_rfl) (by simp) ?_
    refine (AllReadyH.cons (o := qHm4) rfl (fun K hK => ?_) AllReadyH.nil)
    · refine step_appG _ rfl (.tmp 35) (.tmp 37) 25 rfl w0.heap.size 33 i74 _ 2 24 Try.underlying25 hi74 hz0 hz1 hz2 rfl (by decide) _ 0 [] q2 ((hF.own 1 ⟨33, 2, g2, 0, 0, []⟩ rfl).2.own (hF.own 1 ⟨33, 2, g2, 0, 0, []⟩ rfl).1) s2 n2 xs2 ((hR.same 37 (by decide)).trans e37) (r2.still hF.bel) o2 (by unfold maxLen; omega) (by omega) hF.bel.size ?_
      intro v1 w1 ho hgr hnil hat
      rw [Nat.zero_add, List.nil_append] at ho
      obtain ⟨g, c, rfl, hF1⟩ := hF.app 1 (x := ⟨33, 2, g2, 0, 0, []⟩) rfl ho hgr (fun e => by have := (hnil.1 e).1; cases this) hat
      rw [upd1] at hF1
      refine hK.out _ _ (hS _ hF1.bel) (fun hHeld => ?_)
      exact H_111120 _ _ g1 c1 g c g3 g4 (hR.put (by decide) (by rw [hsz]; decide) _) (by rw [ev_put _ _ _ _ (by rw [hR.size, hsz]; decide)]; exact (if_neg (by decide)).trans q1) (by rw [ev_put _ _ _ _ (by rw [hR.size, hsz]; decide)]; exact if_pos rfl) (by rw [ev_put _ _ _ _ (by rw [hR.size, hsz]; decide)]; exact (if_neg (by decide)).trans q3) (by rw [ev_put _ _ _ _ (by rw [hR.size, hsz]; decide)]; exact (if_neg (by decide)).trans q4) hF1
  have H_101110 : ∀ (A : Act) (w : World) (g1 c1 g3 g4 : Nat) (hR : Rst [8, 31, 34, 35, 38, 39, 42, 43] A0 A) (q1 : A.eval (.tmp 34) = .slice (some ⟨g1, 0, none⟩) n1 c1) (q3 : A.eval (.tmp 39) = .slice (some ⟨g3, 0, none⟩) 0 0) (q4 : A.eval (.tmp 8) = .pointer (some ⟨g4, 0, none⟩)) (hF : Fo w0 w (V4 (some ⟨74, 3, g1, n1, c1, xs1⟩) none (some ⟨33, 2, g3, 0, 0, []⟩) (some ⟨27, 4, g4, 1, 1, [.int .i64 0, .slice none 0 0, .slice none 0 0, .slice none 0 0]⟩))), wpAnyH Try.prog .any opsR5 Q SS 5 #[true, true, true, true, true, true, false, true, true, false, true, true, true, false, false, true, false] A w := by
    intro A w g1 c1 g3 g4 hR q1 q3 q4 hF
    refine wpAnyH_ready (rs := [6]) (by kernel_rfl) (by simp) ?_
    refine (AllReadyH.cons (o := qHm5) rfl (fun K hK => ?_) AllReadyH.nil)
    · go_simp
      refine hK.out (A.put (some 35) (.slice (some ⟨w.heap.size, 0, none⟩) 0 0)) _ (hS _ (hF.bel.alloc hF.bel.size _)) (fun hHeld => ?_)
      exact H_111110 _ _ g1 c1 w.heap.size g3 g4 (hR.put (by decide) (by rw [hsz]; decide) _) (by rw [ev_put _ _ _ _ (by rw [hR.size, hsz]; decide)]; exact (if_neg (by decide)).trans q1) (by rw [ev_put _ _ _ _ (by rw [hR.size, hsz]; decide)]; exact if_pos rfl) (by rw [ev_put _ _ _ _ (by rw [hR.size, hsz]; decide)]; exact (if_neg (by decide)).trans q3) (by rw [ev_put _ _ _ _ (by rw [hR.size, hsz]; decide)]; exact (if_neg (by decide)).trans q4) (upd1 ▸ hF.alloc 1 ⟨33, 2, w.heap.size, 0, 0, []⟩ _ (Rw.made w 33 2) rfl)
  have H_110020 : ∀ (A : Act) (w : World) (g1 c1 g2 c2 : Nat) (hR : Rst [8, 31, 34, 35, 38, 39, 42, 43] A0 A) (q1 : A.eval (.tmp 34) = .slice (some ⟨g1, 0, none⟩) n1 c1) (q2 : A.eval (.tmp 38) = .slice (some ⟨g2, 0, none⟩) n2 c2) (hF : Fo w0 w (V4 (some ⟨74, 3, g1, n1, c1, xs1⟩) (some ⟨33, 2, g2, n2, c2, xs2⟩) none none)), wpAnyH Try.prog .any opsR5 Q SS 5 #[true, true, true, true, true, true, true, true, true, true, false, true, true, false, false, false, false] A w := by
    intro A w g1 c1 g2 c2 hR q1 q2 hF
    refine wpAnyH_ready (rs := [10, 15]) (by kernel_rfl) (by simp) ?_
    refine (AllReadyH.cons (o := qHm3) rfl (fun K hK => ?_) (AllReadyH.cons (o := qHm1) rfl (fun K hK => ?_) AllReadyH.nil))
    · go_simp
      refine hK.out (A.put (some 39) (.slice (some ⟨w.heap.size, 0, none⟩) 0 0)) _ (hS _ (hF.bel.alloc hF.bel.size _)) (fun hHeld => ?_)
      exact H_111020 _ _ g1 c1 g2 c2 w.heap.size (hR.put (by decide) (by rw [hsz]; decide) _) (by rw [ev_put _ _ _ _ (by rw [hR.size, hsz]; decide)]; exact (if_neg (by decide)).trans q1) (by rw [ev_put _ _ _ _ (by rw [hR.size, hsz]; decide)]; exact (if_neg (by decide)).trans q2) (by rw [ev_put _ _ _ _ (by rw [hR.size, hsz]; decide)]; exact if_pos rfl) (upd2 ▸ hF.alloc 2 ⟨33, 2, w.heap.size, 0, 0, []⟩ _ (Rw.made w 33 2) rfl)
    · go_simp
      refine hK.out (A.put (some 8) (.pointer (some ⟨w.heap.size, 0, none⟩))) _ (hS _ (hF.bel.alloc hF.bel.size _)) (fun hHeld => ?_)
      exact H_110120 _ _ g1 c1 g2 c2 w.heap.size (hR.put (by decide) (by rw [hsz]; decide) _) (by rw [ev_put _ _ _ _ (by rw [hR.size, hsz]; decide)]; exact (if_neg (by decide)).trans q1) (by rw [ev_put _ _ _ _ (by rw [hR.size, hsz]; decide)]; exact (if_neg (by decide)).trans q2) (by rw [ev_put _ _ _ _ (by rw [hR.size, hsz]; decide)]; exact if_pos rfl) (upd3 ▸ hF.alloc 3 ⟨27, 4, w.heap.size, 1, 1, [.int .i64 0, .slice none 0 0, .slice none 0 0, .slice none 0 0]⟩ _ (Rw.box w 27 _ _ _ _) rfl)
  have H_110110 : ∀ (A : Act) (w : World) (g1 c1 g2 g4 : Nat) (hR : Rst [8, 31, 34, 35, 38, 39, 42, 43] A0 A) (q1 : A.eval (.tmp 34) = .slice (some ⟨g1, 0, none⟩) n1 c1) (q2 : A.eval (.tmp 35) = .slice (some ⟨g2, 0, none⟩) 0 0) (q4 : A.eval (.tmp 8) = .pointer (some ⟨g4, 0, none⟩)) (hF : Fo w0 w (V4 (some ⟨74, 3, g1, n1, c1, xs1⟩) (some ⟨33, 2, g2, 0, 0, []⟩) none (some ⟨27, 4, g4, 1, 1, [.int .i64 0, .slice none 0 0, .slice none 0 0, .slice none 0 0]⟩))), wpAnyH Try.prog .any opsR5 Q SS 5 #[true, true, true, true, true, true, true, true, true, false, false, true, true, false, false, true, false] A w := by
    intro A w g1 c1 g2 g4 hR q1 q2 q4 hF
    refine wpAnyH_ready (rs := [9, 10]) (by kernel_rfl) (by simp) ?_
    refine (AllReadyH.cons (o := qHm4) rfl (fun K hK => ?_) (AllReadyH.cons (o := qHm3) rfl (fun K hK => ?_) AllReadyH.nil))
    · refine step_appG _ rfl (.tmp 35) (.tmp 37) 25 rfl w0.heap.size 33 i74 _ 2 24 Try.underlying25 hi74 hz0 hz1 hz2 rfl (by decide) _ 0 [] q2 ((hF.own 1 ⟨33, 2, g2, 0, 0, []⟩ rfl).2.own (hF.own 1 ⟨33, 2, g2, 0, 0, []⟩ rfl).1) s2 n2 xs2 ((hR.same 37 (by decide)).trans e37) (r2.still hF.bel) o2 (by unfold maxLen; omega) (by omega) hF.bel.size ?_
      intro v1 w1 ho hgr hnil hat
      rw [Nat.zero_add, List.nil_append] at ho
      obtain ⟨g, c, rfl, hF1⟩ := hF.app 1 (x := ⟨33, 2, g2, 0, 0, []⟩) rfl ho hgr (fun e => by have := (hnil.1 e).1; cases this) hat
      rw [upd1] at hF1
      refine hK.out _ _ (hS _ hF1.bel) (fun hHeld => ?_)
      exact H_110120 _ _ g1 c1 g c g4 (hR.put (by decide) (by rw [hsz]; decide) _) (by rw [ev_put _ _ _ _ (by rw [hR.size, hsz]; decide)]; exact (if_neg (by decide)).trans q1) (by rw [ev_put _ _ _ _ (by rw [hR.size, hsz]; decide)]; exact if_pos rfl) (by rw [ev_put _ _ _ _ (by rw [hR.size, hsz]; decide)]; exact (if_neg (by decide)).trans q4) hF1
    · go_simp
      refine hK.out (A.put (some 39) (.slice (some ⟨w.heap.size, 0, none⟩) 0 0)) _ (hS _ (hF.bel.alloc hF.bel.size _)) (fun hHeld => ?_)
      exact H_111110 _ _ g1 c1 g2 w.heap.size g4 (hR.put (by decide) (by rw [hsz]; decide) _) (by rw [ev_put _ _ _ _ (by rw [hR.size, hsz]; decide)]; exact (if_neg (by decide)).trans q1) (by rw [ev_put _ _ _ _ (by rw [hR.size, hsz]; decide)]; exact (if_neg (by decide)).trans q2) (by rw [ev_put _ _ _ _ (by rw [hR.size, hsz]; decide)]; exact if_pos rfl) (by rw [ev_put _ _ _ _ (by rw [hR.size, hsz]; decide)]; exact (if_neg (by decide)).trans q4) (upd2 ▸ hF.alloc 2 ⟨33, 2, w.heap.size, 0, 0, []⟩ _ (Rw.made w 33 2) rfl)
  have H_111010 : ∀ (A : Act) (w : World) (g1 c1 g2 g3 : Nat) (hR : Rst [8, 31, 34, 35, 38, 39, 42, 43] A0 A) (q1 : A.eval (.tmp 34) = .slice (some ⟨g1, 0, none⟩) n1 c1) (q2 : A.eval (.tmp 35) = .slice (some ⟨g2, 0, none⟩) 0 0) (q3 : A.eval (.tmp 39) = .slice (some ⟨g3, 0, none⟩) 0 0) (hF : Fo w0 w (V4 (some ⟨74, 3, g1, n1, c1, xs1⟩) (some ⟨33, 2, g2, 0, 0, []⟩) (some ⟨33, 2, g3, 0, 0, []⟩) none)), wpAnyH Try.prog .any opsR5 Q SS 5 #[true, true, true, true, true, true, true, true, true, false, true, true, true, false, false, false, false] A w := by
    intro A w g1 c1 g2 g3 hR q1 q2 q3 hF
    refine wpAnyH_ready (rs := [9, 15]) (by kernel_rfl) (by simp) ?_
    refine (AllReadyH.cons (o := qHm4) rfl (fun K hK => ?_) (AllReadyH.cons (o := qHm1) rfl (fun K hK => ?_) AllReadyH.nil))
    · refine step_appG _ rfl (.tmp 35) (.tmp 37) 25 rfl w0.heap.size 33 i74 _ 2 24 Try.underlying25 hi74 hz0 hz1 hz2 rfl (by decide) _ 0 [] q2 ((hF.own 1 ⟨33, 2, g2, 0, 0, []⟩ rfl).2.own (hF.own 1 ⟨33, 2, g2, 0, 0, []⟩ rfl).1) s2 n2 xs2 ((hR.same 37 (by decide)).trans e37) (r2.still hF.bel) o2 (by unfold maxLen; omega) (by omega) hF.bel.size ?_
      intro v1 w1 ho hgr hnil hat
      rw [Nat.zero_add, List.nil_append] at ho
      obtain ⟨g, c, rfl, hF1⟩ := hF.app 1 (x := ⟨33, 2, g2, 0, 0, []⟩) rfl ho hgr (fun e => by have := (hnil.1 e).1; cases this) hat
      rw [upd1] at hF1
      refine hK.out _ _ (hS _ hF1.bel) (fun hHeld => ?_)
      exact H_111020 _ _ g1 c1 g c g3 (hR.put (by decide) (by rw [hsz]; decide) _) (by rw [ev_put _ _ _ _ (by rw [hR.size, hsz]; decide)]; exact (if_neg (by decide)).trans q1) (by rw [ev_put _ _ _ _ (by rw [hR.size, hsz]; decide)]; exact if_pos rfl) (by rw [ev_put _ _ _ _ (by rw [hR.size, hsz]; decide)]; exact (if_neg (by decide)).trans q3) hF1
    · go_simp
      refine hK.out (A.put (some 8) (.pointer (some ⟨w.heap.size, 0, none⟩))) _ (hS _ (hF.bel.alloc hF.bel.size _)) (fun hHeld => ?_)
      exact H_111110 _ _ g1 c1 g2 g3 w.heap.size (hR.put (by decide) (by rw [hsz]; decide) _) (by rw [ev_put _ _ _ _ (by rw [hR.size, hsz]; decide)]; exact (if_neg (by decide)).trans q1) (by rw [ev_put _ _ _ _ (by rw [hR.size, hsz]; decide)]; exact (if_neg (by decide)).trans q2) (by rw [ev_put _ _ _ _ (by rw [hR.size, hsz]; decide)]; exact (if_neg (by decide)).trans q3) (by rw [ev_put _ _ _ _ (by rw [hR.size, hsz]; decide)]; exact if_pos rfl) (upd3 ▸ hF.alloc 3 ⟨27, 4, w.heap.size, 1, 1, [.int .i64 0, .slice none 0 0, .slice none 0 0, .slice none 0 0]⟩ _ (Rw.box w 27 _ _ _ _) rfl)
  have H_111100 : ∀ (A : Act) (w : World) (g1 g2 g3 g4 : Nat) (hR : Rst [8, 31, 34, 35, 38, 39, 42, 43] A0 A) (q1 : A.eval (.tmp 31) = .slice (some ⟨g1, 0, none⟩) 0 0) (q2 : A.eval (.tmp 35) = .slice (some ⟨g2, 0, none⟩) 0 0) (q3 : A.eval (.tmp 39) = .slice (some ⟨g3, 0, none⟩) 0 0) (q4 : A.eval (.tmp 8) = .pointer (some ⟨g4, 0, none⟩)) (hF : Fo w0 w (V4 (some ⟨74, 3, g1, 0, 0, []⟩) (some ⟨33, 2, g2, 0, 0, []⟩) (some ⟨33, 2, g3, 0, 0, []⟩) (some ⟨27, 4, g4, 1, 1, [.int .i64 0, .slice none 0 0, .slice none 0 0, .slice none 0 0]⟩))), wpAnyH Try.prog .any opsR5 Q SS 5 #[true, true, true, true, true, false, true, true, true, false, true, true, true, false, false, true, false] A w := by
    intro A w g1 g2 g3 g4 hR q1 q2 q3 q4 hF
    refine wpAnyH_ready (rs := [5]) (by kernel_rfl) (by simp) ?_
    refine (AllReadyH.cons (o := qHm6) rfl (fun K hK => ?_) AllReadyH.nil)
    · refine step_appG _ rfl (.tmp 31) (.tmp 33) 24 rfl w0.heap.size 74 i68 _ 3 24 Try.underlying24 hi68 hy0 hy1 hy2 rfl (by decide) _ 0 [] q1 ((hF.own 0 ⟨74, 3, g1, 0, 0, []⟩ rfl).2.own (hF.own 0 ⟨74, 3, g1, 0, 0, []⟩ rfl).1) s1 n1 xs1 ((hR.same 33 (by decide)).trans e33) (r1.still hF.bel) o1 (by unfold maxLen; omega) (by omega) hF.bel.size ?_
      intro v1 w1 ho hgr hnil hat
      rw [Nat.zero_add, List.nil_append] at ho
      obtain ⟨g, c, rfl, hF1⟩ := hF.app 0 (x := ⟨74, 3, g1, 0, 0, []⟩) rfl ho hgr (fun e => by have := (hnil.1 e).1; cases this) hat
      rw [upd0] at hF1
      refine hK.out _ _ (hS _ hF1.bel) (fun hHeld => ?_)
      exact H_111110 _ _ g c g2 g3 g4 (hR.put (by decide) (by rw [hsz]; decide) _) (by rw [ev_put _ _ _ _ (by rw [hR.size, hsz]; decide)]; exact if_pos rfl) (by rw [ev_put _ _ _ _ (by rw [hR.size, hsz]; decide)]; exact (if_neg (by decide)).trans q2) (by rw [ev_put _ _ _ _ (by rw [hR.size, hsz]; decide)]; exact (if_neg (by decide)).trans q3) (by rw [ev_put _ _ _ _ (by rw [hR.size, hsz]; decide)]; exact (if_neg (by decide)).trans q4) hF1
  have H_011100 : ∀ (A : Act) (w : World) (g2 g3 g4 : Nat) (hR : Rst [8, 31, 34, 35, 38, 39, 42, 43] A0 A) (q2 : A.eval (.tmp 35) = .slice (some ⟨g2, 0, none⟩) 0 0) (q3 : A.eval (.tmp 39) = .slice (some ⟨g3, 0, none⟩) 0 0) (q4 : A.eval (.tmp 8) = .pointer (some ⟨g4, 0, none⟩)) (hF : Fo w0 w (V4 none (some ⟨33, 2, g2, 0, 0, []⟩) (some ⟨33, 2, g3, 0, 0, []⟩) (some ⟨27, 4, g4, 1, 1, [.int .i64 0, .slice none 0 0, .slice none 0 0, .slice none 0 0]⟩))), wpAnyH Try.prog .any opsR5 Q SS 6 #[true, true, false, true, true, false, true, true, true, false, true, true, true, false, false, true, false] A w := by
    intro A w g2 g3 g4 hR q2 q3 q4 hF
    refine wpAnyH_ready (rs := [2]) (by kernel_rfl) (by simp) ?_
    refine (AllReadyH.cons (o := qHm7) rfl (fun K hK => ?_) AllReadyH.nil)
    · go_simp
      refine hK.out (A.put (some 31) (.slice (some ⟨w.heap.size, 0, none⟩) 0 0)) _ (hS _ (hF.bel.alloc hF.bel.size _)) (fun hHeld => ?_)
      exact H_111100 _ _ w.heap.size g2 g3 g4 (hR.put (by decide) (by rw [hsz]; decide) _) (by rw [ev_put _ _ _ _ (by rw [hR.size, hsz]; decide)]; exact if_pos rfl) (by rw [ev_put _ _ _ _ (by rw [hR.size, hsz]; decide)]; exact (if_neg (by decide)).trans q2) (by rw [ev_put _ _ _ _ (by rw [hR.size, hsz]; decide)]; exact (if_neg (by decide)).trans q3) (by rw [ev_put _ _ _ _ (by rw [hR.size, hsz]; decide)]; exact (if_neg (by decide)).trans q4) (upd0 ▸ hF.alloc 0 ⟨74, 3, w.heap.size, 0, 0, []⟩ _ (Rw.made w 74 3) rfl)
  have H_100110 : ∀ (A : Act) (w : World) (g1 c1 g4 : Nat) (hR : Rst [8, 31, 34, 35, 38, 39, 42, 43] A0 A) (q1 : A.eval (.tmp 34) = .slice (some ⟨g1, 0, none⟩) n1 c1) (q4 : A.eval (.tmp 8) = .pointer (some ⟨g4, 0, none⟩)) (hF : Fo w0 w (V4 (some ⟨74, 3, g1, n1, c1, xs1⟩) none none (some ⟨27, 4, g4, 1, 1, [.int .i64 0, .slice none 0 0, .slice none 0 0, .slice none 0 0]⟩))), wpAnyH Try.prog .any opsR5 Q SS 6 #[true, true, true, true, true, true, false, true, true, false, false, true, true, false, false, true, false] A w := by
    intro A w g1 c1 g4 hR q1 q4 hF
    refine wpAnyH_ready (rs := [6, 10]) (by kernel_rfl) (by simp) ?_
    refine (AllReadyH.cons (o := qHm5) rfl (fun K hK => ?_) (AllReadyH.cons (o := qHm3) rfl (fun K hK => ?_) AllReadyH.nil))
    · go_simp
      refine hK.out (A.put (some 35) (.slice (some ⟨w.heap.size, 0, none⟩) 0 0)) _ (hS _ (hF.bel.alloc hF.bel.size _)) (fun hHeld => ?_)
      exact H_110110 _ _ g1 c1 w.heap.size g4 (hR.put (by decide) (by rw [hsz]; decide) _) (by rw [ev_put _ _ _ _ (by rw [hR.size, hsz]; decide)]; exact (if_neg (by decide)).trans q1) (by rw [ev_put _ _ _ _ (by rw [hR.size, hsz]; decide)]; exact if_pos rfl) (by rw [ev_put _ _ _ _ (by rw [hR.size, hsz]; decide)]; exact (if_neg (by decide)).trans q4) (upd1 ▸ hF.alloc 1 ⟨33, 2, w.heap.size, 0, 0, []⟩ _ (Rw.made w 33 2) rfl)
    · go_simp
      refine hK.out (A.put (some 39) (.slice (some ⟨w.heap.size, 0, none⟩) 0 0)) _ (hS _ (hF.bel.alloc hF.bel.size _)) (fun hHeld => ?_)
      exact H_101110 _ _ g1 c1 w.heap.size g4 (hR.put (by decide) (by rw [hsz]; decide) _) (by rw [ev_put _ _ _ _ (by rw [hR.size, hsz]; decide)]; exact (if_neg (by decide)).trans q1) (by rw [ev_put _ _ _ _ (by rw [hR.size, hsz]; decide)]; exact if_pos rfl) (by rw [ev_put _ _ _ _ (by rw [hR.size, hsz]; decide)]; exact (if_neg (by decide)).trans q4) (upd2 ▸ hF.alloc 2 ⟨33, 2, w.heap.size, 0, 0, []⟩ _ (Rw.made w 33 2) rfl)
  have H_101010 : ∀ (A : Act) (w : World) (g1 c1 g3 : Nat) (hR : Rst [8, 31, 34, 35, 38, 39, 42, 43] A0 A) (q1 : A.eval (.tmp 34) = .slice (some ⟨g1, 0, none⟩) n1 c1) (q3 : A.eval (.tmp 39) = .slice (some ⟨g3, 0, none⟩) 0 0) (hF : Fo w0 w (V4 (some ⟨74, 3, g1, n1, c1, xs1⟩) none (some ⟨33, 2, g3, 0, 0, []⟩) none)), wpAnyH Try.prog .any opsR5 Q SS 6 #[true, true, true, true, true, true, false, true, true, false, true, true, true, false, false, false, false] A w := by
    intro A w g1 c1 g3 hR q1 q3 hF
    refine wpAnyH_ready (rs := [6, 15]) (by kernel_rfl) (by simp) ?_
    refine (AllReadyH.cons (o := qHm5) rfl (fun K hK => ?_) (AllReadyH.cons (o := qHm1) rfl (fun K hK => ?_) AllReadyH.nil))
    · go_simp
      refine hK.out (A.put (some 35) (.slice (some ⟨w.heap.size, 0, none⟩) 0 0)) _ (hS _ (hF.bel.alloc hF.bel.size _)) (fun hHeld => ?_)
      exact H_111010 _ _ g1 c1 w.heap.size g3 (hR.put (by decide) (by rw [hsz]; decide) _) (by rw [ev_put _ _ _ _ (by rw [hR.size, hsz]; decide)]; exact (if_neg (by decide)).trans q1) (by rw [ev_put _ _ _ _ (by rw [hR.size, hsz]; decide)]; exact if_pos rfl) (by rw [ev_put _ _ _ _ (by rw [hR.size, hsz]; decide)]; exact (if_neg (by decide)).trans q3) (upd1 ▸ hF.alloc 1 ⟨33, 2, w.heap.size, 0, 0, []⟩ _ (Rw.made w 33 2) rfl)
    · go_simp
      refine hK.out (A.put (some 8) (.pointer (some ⟨w.heap.size, 0, none⟩))) _ (hS _ (hF.bel.alloc hF.bel.size _)) (fun hHeld => ?_)
      exact H_101110 _ _ g1 c1 g3 w.heap.size (hR.put (by decide) (by rw [hsz]; decide) _) (by rw [ev_put _ _ _ _ (by rw [hR.size, hsz]; decide)]; exact (if_neg (by decide)).trans q1) (by rw [ev_put _ _ _ _ (by rw [hR.size, hsz]; decide)]; exact (if_neg (by decide)).trans q3) (by rw [ev_put _ _ _ _ (by rw [hR.size, hsz]; decide)]; exact if_pos rfl) (upd3 ▸ hF.alloc 3 ⟨27, 4, w.heap.size, 1, 1, [.int .i64 0, .slice none 0 0, .slice none 0 0, .slice none 0 0]⟩ _ (Rw.box w 27 _ _ _ _) rfl)
  have H_101100 : ∀ (A : Act) (w : World) (g1 g3 g4 : Nat) (hR : Rst [8, 31, 34, 35, 38, 39, 42, 43] A0 A) (q1 : A.eval (.tmp 31) = .slice (some ⟨g1, 0, none⟩) 0 0) (q3 : A.eval (.tmp 39) = .slice (some ⟨g3, 0, none⟩) 0 0) (q4 : A.eval (.tmp 8) = .pointer (some ⟨g4, 0, none⟩)) (hF : Fo w0 w (V4 (some ⟨74, 3, g1, 0, 0, []⟩) none (some ⟨33, 2, g3, 0, 0, []⟩) (some ⟨27, 4, g4, 1, 1, [.int .i64 0, .slice none 0 0, .slice none 0 0, .slice none 0 0]⟩))), wpAnyH Try.prog .any opsR5 Q SS 6 #[true, true, true, true, true, false, false, true, true, false, true, true, true, false, false, true, false] A w := by
    intro A w g1 g3 g4 hR q1 q3 q4 hF
    refine wpAnyH_ready (rs := [5, 6]) (by kernel_rfl) (by simp) ?_
    refine (AllReadyH.cons (o := qHm6) rfl (fun K hK => ?_) (AllReadyH.cons (o := qHm5) rfl (fun K hK => ?_) AllReadyH.nil))
    · refine step_appG _ rfl (.tmp 31) (.tmp 33) 24 rfl w0.heap.size 74 i68 _ 3 24 Try.underlying24 hi68 hy0 hy1 hy2 rfl (by decide) _ 0 [] q1 ((hF.own 0 ⟨74, 3, g1, 0, 0, []⟩ rfl).2.own (hF.own 0 ⟨74, 3, g1, 0, 0, []⟩ rfl).1) s1 n1 xs1 ((hR.same 33 (by decide)).trans e33) (r1.still hF.bel) o1 (by unfold maxLen; omega) (by omega) hF.bel.size ?_
      intro v1 w1 ho hgr hnil hat
      rw [Nat.zero_add, List.nil_append] at ho
      obtain ⟨g, c, rfl, hF1⟩ := hF.app 0 (x := ⟨74, 3, g1, 0, 0, []⟩) rfl ho hgr (fun e => by have := (hnil.1 e).1; cases this) hat
      rw [upd0] at hF1
      refine hK.out _ _ (hS _ hF1.bel) (fun hHeld => ?_)
      exact H_101110 _ _ g c g3 g4 (hR.put (by decide) (by rw [hsz]; decide) _) (by rw [ev_put _ _ _ _ (by rw [hR.size, hsz]; decide)]; exact if_pos rfl) (by rw [ev_put _ _ _ _ (by rw [hR.size, hsz]; decide)]; exact (if_neg (by decide)).trans q3) (by rw [ev_put _ _ _ _ (by rw [hR.size, hsz]; decide)]; exact (if_neg (by decide)).trans q4) hF1
    · go_simp
      refine hK.out (A.put (some 35) (.slice (some ⟨w.heap.size, 0, none⟩) 0 0)) _ (hS _ (hF.bel.alloc hF.bel.size _)) (fun hHeld => ?_)
      exact H_111100 _ _ g1 w.heap.size g3 g4 (hR.put (by decide) (by rw [hsz]; decide) _) (by rw [ev_put _ _ _ _ (by rw [hR.size, hsz]; decide)]; exact (if_neg (by decide)).trans q1) (by rw [ev_put _ _ _ _ (by rw [hR.size, hsz]; decide)]; exact if_pos rfl) (by rw [ev_put _ _ _ _ (by rw [hR.size, hsz]; decide)]; exact (if_neg (by decide)).trans q3) (by rw [ev_put _ _ _ _ (by rw [hR.size, hsz]; decide)]; exact (if_neg (by decide)).trans q4) (upd1 ▸ hF.alloc 1 ⟨33, 2, w.heap.size, 0, 0, []⟩ _ (Rw.made w 33 2) rfl)
  have H_110010 : ∀ (A : Act) (w : World) (g1 c1 g2 : Nat) (hR : Rst [8, 31, 34, 35, 38, 39, 42, 43] A0 A) (q1 : A.eval (.tmp 34) = .slice (some ⟨g1, 0, none⟩) n1 c1) (q2 : A.eval (.tmp 35) = .slice (some ⟨g2, 0, none⟩) 0 0) (hF : Fo w0 w (V4 (some ⟨74, 3, g1, n1, c1, xs1⟩) (some ⟨33, 2, g2, 0, 0, []⟩) none none)), wpAnyH Try.prog .any opsR5 Q SS 6 #[true, true, true, true, true, true, true, true, true, false, false, true, true, false, false, false, false] A w := by
    intro A w g1 c1 g2 hR q1 q2 hF
    refine wpAnyH_ready (rs := [9, 10, 15]) (by kernel_rfl) (by simp) ?_
    refine (AllReadyH.cons (o := qHm4) rfl (fun K hK => ?_) (AllReadyH.cons (o := qHm3) rfl (fun K hK => ?_) (AllReadyH.cons (o := qHm1) rfl (fun K hK => ?_) AllReadyH.nil)))
    · refine step_appG _ rfl (.tmp 35) (.tmp 37) 25 rfl w0.heap.size 33 i74 _ 2 24 Try.underlying25 hi74 hz0 hz1 hz2 rfl (by decide) _ 0 [] q2 ((hF.own 1 ⟨33, 2, g2, 0, 0, []⟩ rfl).2.own (hF.own 1 ⟨33, 2, g2, 0, 0, []⟩ rfl).1) s2 n2 xs2 ((hR.same 37 (by decide)).trans e37) (r2.still hF.bel) o2 (by unfold maxLen; omega) (by omega) hF.bel.size ?_
      intro v1 w1 ho hgr hnil hat
      rw [Nat.zero_add, List.nil_append] at ho
      obtain ⟨g, c, rfl, hF1⟩ := hF.app 1 (x := ⟨33, 2, g2, 0, 0, []⟩) rfl ho hgr (fun e => by have := (hnil.1 e).1; cases this) hat
      rw [upd1] at hF1
      refine hK.out _ _ (hS _ hF1.bel) (fun hHeld => ?_)
      exact H_110020 _ _ g1 c1 g c (hR.put (by decide) (by rw [hsz]; decide) _) (by rw [ev_put _ _ _ _ (by rw [hR.size, hsz]; decide)]; exact (if_neg (by decide)).trans q1) (by rw [ev_put _ _ _ _ (by rw [hR.size, hsz]; decide)]; exact if_pos rfl) hF1
    · go_simp
      refine hK.out (A.put (some 39) (.slice (some ⟨w.heap.size, 0, none⟩) 0 0)) _ (hS _ (hF.bel.alloc hF.bel.size _)) (fun hHeld => ?_)
      exact H_111010 _ _ g1 c1 g2 w.heap.size (hR.put (by decide) (by rw [hsz]; decide) _) (by rw [ev_put _ _ _ _ (by rw [hR.size, hsz]; decide)]; exact (if_neg (by decide)).trans q1) (by rw [ev_put _ _ _ _ (by rw [hR.size, hsz]; decide)]; exact (if_neg (by decide)).trans q2) (by rw [ev_put _ _ _ _ (by rw [hR.size, hsz]; decide)]; exact if_pos rfl) (upd2 ▸ hF.alloc 2 ⟨33, 2, w.heap.size, 0, 0, []⟩ _ (Rw.made w 33 2) rfl)
    · go_simp
      refine hK.out (A.put (some 8) (.pointer (some ⟨w.heap.size, 0, none⟩))) _ (hS _ (hF.bel.alloc hF.bel.size _)) (fun hHeld => ?_)
      exact H_110110 _ _ g1 c1 g2 w.heap.size (hR.put (by decide) (by rw [hsz]; decide) _) (by rw [ev_put _ _ _ _ (by rw [hR.size, hsz]; decide)]; exact (if_neg (by decide)).trans q1) (by rw [ev_put _ _ _ _ (by rw [hR.size, hsz]; decide)]; exact (if_neg (by decide)).trans q2) (by rw [ev_put _ _ _ _ (by rw [hR.size, hsz]; decide)]; exact if_pos rfl) (upd3 ▸ hF.alloc 3 ⟨27, 4, w.heap.size, 1, 1, [.int .i64 0, .slice none 0 0, .slice none 0 0, .slice none 0 0]⟩ _ (Rw.box w 27 _ _ _ _) rfl)
  have H_110100 : ∀ (A : Act) (w : World) (g1 g2 g4 : Nat) (hR : Rst [8, 31, 34, 35, 38, 39, 42, 43] A0 A) (q1 : A.eval (.tmp 31) = .slice (some ⟨g1, 0, none⟩) 0 0) (q2 : A.eval (.tmp 35) = .slice (some ⟨g2, 0, none⟩) 0 0) (q4 : A.eval (.tmp 8) = .pointer (some ⟨g4, 0, none⟩)) (hF : Fo w0 w (V4 (some ⟨74, 3, g1, 0, 0, []⟩) (some ⟨33, 2, g2, 0, 0, []⟩) none (some ⟨27, 4, g4, 1, 1, [.int .i64 0, .slice none 0 0, .slice none 0 0, .slice none 0 0]⟩))), wpAnyH Try.prog .any opsR5 Q SS 6 #[true, true, true, true, true, false, true, true, true, false, false, true, true, false, false, true, false] A w := by
    intro A w g1 g2 g4 hR q1 q2 q4 hF
    refine wpAnyH_ready (rs := [5, 10]) (by kernel_rfl) (by simp) ?_
    refine (AllReadyH.cons (o := qHm6) rfl (fun K hK => ?_) (AllReadyH.cons (o := qHm3) rfl (fun K hK => ?_) AllReadyH.nil))
    · refine step_appG _ rfl (.tmp 31) (.tmp 33) 24 rfl w0.heap.size 74 i68 _ 3 24 Try.underlying24 hi68 hy0 hy1 hy2 rfl (by decide) _ 0 [] q1 ((hF.own 0 ⟨74, 3, g1, 0, 0, []⟩ rfl).2.own (hF.own 0 ⟨74, 3, g1, 0, 0, []⟩ rfl).1) s1 n1 xs1 ((hR.same 33 (by decide)).trans e33) (r1.still hF.bel) o1 (by unfold maxLen; omega) (by omega) hF.bel.size ?_
      intro v1 w1 ho hgr hnil hat
      rw [Nat.zero_add, List.nil_append] at ho
      obtain ⟨g, c, rfl, hF1⟩ := hF.app 0 (x := ⟨74, 3, g1, 0, 0, []⟩) rfl ho hgr (fun e => by have := (hnil.1 e).1; cases this) hat
      rw [upd0] at hF1
      refine hK.out _ _ (hS _ hF1.bel) (fun hHeld => ?_)
      exact H_110110 _ _ g c g2 g4 (hR.put (by decide) (by rw [hsz]; decide) _) (by rw [ev_put _ _ _ _ (by rw [hR.size, hsz]; decide)]; exact if_pos rfl) (by rw [ev_put _ _ _ _ (by rw [hR.size, hsz]; decide)]; exact (if_neg (by decide)).trans q2) (by rw [ev_put _ _ _ _ (by rw [hR.size, hsz]; decide)]; exact (if_neg (by decide)).trans q4) hF1
    · go_simp
      refine hK.out (A.put (some 39) (.slice (some ⟨w.heap.size, 0, none⟩) 0 0)) _ (hS _ (hF.bel.alloc hF.bel.size _)) (fun hHeld => ?_)
      exact H_111100 _ _ g1 g2 w.heap.size g4 (hR.put (by decide) (by rw [hsz]; decide) _) (by rw [ev_put _ _ _ _ (by rw [hR.size, hsz]; decide)]; exact (if_neg (by decide)).trans q1) (by rw [ev_put _ _ _ _ (by rw [hR.size, hsz]; decide)]; exact (if_neg (by decide)).trans q2) (by rw [ev_put _ _ _ _ (by rw [hR.size, hsz]; decide)]; exact if_pos rfl) (by rw [ev_put _ _ _ _ (by rw [hR.size, hsz]; decide)]; exact (if_neg (by decide)).trans q4) (upd2 ▸ hF.alloc 2 ⟨33, 2, w.heap.size, 0, 0, []⟩ _ (Rw.made w 33 2) rfl)
  have H_111000 : ∀ (A : Act) (w : World) (g1 g2 g3 : Nat) (hR : Rst [8, 31, 34, 35, 38, 39, 42, 43] A0 A) (q1 : A.eval (.tmp 31) = .slice (some ⟨g1, 0, none⟩) 0 0) (q2 : A.eval (.tmp 35) = .slice (some ⟨g2, 0, none⟩) 0 0) (q3 : A.eval (.tmp 39) = .slice (some ⟨g3, 0, none⟩) 0 0) (hF : Fo w0 w (V4 (some ⟨74, 3, g1, 0, 0, []⟩) (some ⟨33, 2, g2, 0, 0, []⟩) (some ⟨33, 2, g3, 0, 0, []⟩) none)), wpAnyH Try.prog .any opsR5 Q SS 6 #[true, true, true, true, true, false, true, true, true, false, true, true, true, false, false, false, false] A w := by
    intro A w g1 g2 g3 hR q1 q2 q3 hF
    refine wpAnyH_ready (rs := [5, 15]) (by kernel_rfl) (by simp) ?_
    refine (AllReadyH.cons (o := qHm6) rfl (fun K hK => ?_) (AllReadyH.cons (o := qHm1) rfl (fun K hK => ?_) AllReadyH.nil))
    · refine step_appG _ rfl (.tmp 31) (.tmp 33) 24 rfl w0.heap.size 74 i68 _ 3 24 Try.underlying24 hi68 hy0 hy1 hy2 rfl (by decide) _ 0 [] q1 ((hF.own 0 ⟨74, 3, g1, 0, 0, []⟩ rfl).2.own (hF.own 0 ⟨74, 3, g1, 0, 0, []⟩ rfl).1) s1 n1 xs1 ((hR.same 33 (by decide)).trans e33) (r1.still hF.bel) o1 (by unfold maxLen; omega) (by omega) hF.bel.size ?_
      intro v1 w1 ho hgr hnil hat
      rw [Nat.zero_add, List.nil_append] at ho
      obtain ⟨g, c, rfl, hF1⟩ := hF.app 0 (x := ⟨74, 3, g1, 0, 0, []⟩) rfl ho hgr (fun e => by have := (hnil.1 e).1; cases this) hat
      rw [upd0] at hF1
      refine hK.out _ _ (hS _ hF1.bel) (fun hHeld => ?_)
      exact H_111010 _ _ g c g2 g3 (hR.put (by decide) (by rw [hsz]; decide) _) (by rw [ev_put _ _ _ _ (by rw [hR.size, hsz]; decide)]; exact if_pos rfl) (by rw [ev_put _ _ _ _ (by rw [hR.size, hsz]; decide)]; exact (if_neg (by decide)).trans q2) (by rw [ev_put _ _ _ _ (by rw [hR.size, hsz]; decide)]; exact (if_neg (by decide)).trans q3) hF1
    · go_simp
      refine hK.out (A.put (some 8) (.pointer (some ⟨w.heap.size, 0, none⟩))) _ (hS _ (hF.bel.alloc hF.bel.size _)) (fun hHeld => ?_)
      exact H_111100 _ _ g1 g2 g3 w.heap.size (hR.put (by decide) (by rw [hsz]; decide) _) (by rw [ev_put _ _ _ _ (by rw [hR.size, hsz]; decide)]; exact (if_neg (by decide)).trans q1) (by rw [ev_put _ _ _ _ (by rw [hR.size, hsz]; decide)]; exact (if_neg (by decide)).trans q2) (by rw [ev_put _ _ _ _ (by rw [hR.size, hsz]; decide)]; exact (if_neg (by decide)).trans q3) (by rw [ev_put _ _ _ _ (by rw [hR.size, hsz]; decide)]; exact if_pos rfl) (upd3 ▸ hF.alloc 3 ⟨27, 4, w.heap.size, 1, 1, [.int .i64 0, .slice none 0 0, .slice none 0 0, .slice none 0 0]⟩ _ (Rw.box w 27 _ _ _ _) rfl)
  have H_001100 : ∀ (A : Act) (w : World) (g3 g4 : Nat) (hR : Rst [8, 31, 34, 35, 38, 39, 42, 43] A0 A) (q3 : A.eval (.tmp 39) = .slice (some ⟨g3, 0, none⟩) 0 0) (q4 : A.eval (.tmp 8) = .pointer (some ⟨g4, 0, none⟩)) (hF : Fo w0 w (V4 none none (some ⟨33, 2, g3, 0, 0, []⟩) (some ⟨27, 4, g4, 1, 1, [.int .i64 0, .slice none 0 0, .slice none 0 0, .slice none 0 0]⟩))), wpAnyH Try.prog .any opsR5 Q SS 7 #[true, true, false, true, true, false, false, true, true, false, true, true, true, false, false, true, false] A w := by
    intro A w g3 g4 hR q3 q4 hF
    refine wpAnyH_ready (rs := [2, 6]) (by kernel_rfl) (by simp) ?_
    refine (AllReadyH.cons (o := qHm7) rfl (fun K hK => ?_) (AllReadyH.cons (o := qHm5) rfl (fun K hK => ?_) AllReadyH.nil))
    · go_simp
      refine hK.out (A.put (some 31) (.slice (some ⟨w.heap.size, 0, none⟩) 0 0)) _ (hS _ (hF.bel.alloc hF.bel.size _)) (fun hHeld => ?_)
      exact H_101100 _ _ w.heap.size g3 g4 (hR.put (by decide) (by rw [hsz]; decide) _) (by rw [ev_put _ _ _ _ (by rw [hR.size, hsz]; decide)]; exact if_pos rfl) (by rw [ev_put _ _ _ _ (by rw [hR.size, hsz]; decide)]; exact (if_neg (by decide)).trans q3) (by rw [ev_put _ _ _ _ (by rw [hR.size, hsz]; decide)]; exact (if_neg (by decide)).trans q4) (upd0 ▸ hF.alloc 0 ⟨74, 3, w.heap.size, 0, 0, []⟩ _ (Rw.made w 74 3) rfl)
    · go_simp
      refine hK.out (A.put (some 35) (.slice (some ⟨w.heap.size, 0, none⟩) 0 0)) _ (hS _ (hF.bel.alloc hF.bel.size _)) (fun hHeld => ?_)
      exact H_011100 _ _ w.heap.size g3 g4 (hR.put (by decide) (by rw [hsz]; decide) _) (by rw [ev_put _ _ _ _ (by rw [hR.size, hsz]; decide)]; exact if_pos rfl) (by rw [ev_put _ _ _ _ (by rw [hR.size, hsz]; decide)]; exact (if_neg (by decide)).trans q3) (by rw [ev_put _ _ _ _ (by rw [hR.size, hsz]; decide)]; exact (if_neg (by decide)).trans q4) (upd1 ▸ hF.alloc 1 ⟨33, 2, w.heap.size, 0, 0, []⟩ _ (Rw.made w 33 2) rfl)
  have H_010100 : ∀ (A : Act) (w : World) (g2 g4 : Nat) (hR : Rst [8, 31, 34, 35, 38, 39, 42, 43] A0 A) (q2 : A.eval (.tmp 35) = .slice (some ⟨g2, 0, none⟩) 0 0) (q4 : A.eval (.tmp 8) = .pointer (some ⟨g4, 0, none⟩)) (hF : Fo w0 w (V4 none (some ⟨33, 2, g2, 0, 0, []⟩) none (some ⟨27, 4, g4, 1, 1, [.int .i64 0, .slice none 0 0, .slice none 0 0, .slice none 0 0]⟩))), wpAnyH Try.prog .any opsR5 Q SS 7 #[true, true, false, true, true, false, true, true, true, false, false, true, true, false, false, true, false] A w := by
    intro A w g2 g4 hR q2 q4 hF
    refine wpAnyH_ready (rs := [2, 10]) (by kernel_rfl) (by simp) ?_
    refine (AllReadyH.cons (o := qHm7) rfl (fun K hK => ?_) (AllReadyH.cons (o := qHm3) rfl (fun K hK => ?_) AllReadyH.nil))
    · go_simp
      refine hK.out (A.put (some 31) (.slice (some ⟨w.heap.size, 0, none⟩) 0 0)) _ (hS _ (hF.bel.alloc hF.bel.size _)) (fun hHeld => ?_)
      exact H_110100 _ _ w.heap.size g2 g4 (hR.put (by decide) (by rw [hsz]; decide) _) (by rw [ev_put _ _ _ _ (by rw [hR.size, hsz]; decide)]; exact if_pos rfl) (by rw [ev_put _ _ _ _ (by rw [hR.size, hsz]; decide)]; exact (if_neg (by decide)).trans q2) (by rw [ev_put _ _ _ _ (by rw [hR.size, hsz]; decide)]; exact (if_neg (by decide)).trans q4) (upd0 ▸ hF.alloc 0 ⟨74, 3, w.heap.size, 0, 0, []⟩ _ (Rw.made w 74 3) rfl)
    · go_simp
      refine hK.out (A.put (some 39) (.slice (some ⟨w.heap.size, 0, none⟩) 0 0)) _ (hS _ (hF.bel.alloc hF.bel.size _)) (fun hHeld => ?_)
      exact H_011100 _ _ g2 w.heap.size g4 (hR.put (by decide) (by rw [hsz]; decide) _) (by rw [ev_put _ _ _ _ (by rw [hR.size, hsz]; decide)]; exact (if_neg (by decide)).trans q2) (by rw [ev_put _ _ _ _ (by rw [hR.size, hsz]; decide)]; exact if_pos rfl) (by rw [ev_put _ _ _ _ (by rw [hR.size, hsz]; decide)]; exact (if_neg (by decide)).trans q4) (upd2 ▸ hF.alloc 2 ⟨33, 2, w.heap.size, 0, 0, []⟩ _ (Rw.made w 33 2) rfl)
  have H_011000 : ∀ (A : Act) (w : World) (g2 g3 : Nat) (hR : Rst [8, 31, 34, 35, 38, 39, 42, 43] A0 A) (q2 : A.eval (.tmp 35) = .slice (some ⟨g2, 0, none⟩) 0 0) (q3 : A.eval (.tmp 39) = .slice (some ⟨g3, 0, none⟩) 0 0) (hF : Fo w0 w (V4 none (some ⟨33, 2, g2, 0, 0, []⟩) (some ⟨33, 2, g3, 0, 0, []⟩) none)), wpAnyH Try.prog .any opsR5 Q SS 7 #[true, true, false, true, true, false, true, true, true, false, true, true, true, false, false, false, false] A w := by
    intro A w g2 g3 hR q2 q3 hF
    refine wpAnyH_ready (rs := [2, 15]) (by kernel_rfl) (by simp) ?_
    refine (AllReadyH.cons (o := qHm7) rfl (fun K hK => ?_) (AllReadyH.cons (o := qHm1) rfl (fun K hK => ?_) AllReadyH.nil))
    · go_simp
      refine hK.out (A.put (some 31) (.slice (some ⟨w.heap.size, 0, none⟩) 0 0)) _ (hS _ (hF.bel.alloc hF.bel.size _)) (fun hHeld => ?_)
      exact H_111000 _ _ w.heap.size g2 g3 (hR.put (by decide) (by rw [hsz]; decide) _) (by rw [ev_put _ _ _ _ (by rw [hR.size, hsz]; decide)]; exact if_pos rfl) (by rw [ev_put _ _ _ _ (by rw [hR.size, hsz]; decide)]; exact (if_neg (by decide)).trans q2) (by rw [ev_put _ _ _ _ (by rw [hR.size, hsz]; decide)]; exact (if_neg (by decide)).trans q3) (upd0 ▸ hF.alloc 0 ⟨74, 3, w.heap.size, 0, 0, []⟩ _ (Rw.made w 74 3) rfl)
    · go_simp
      refine hK.out (A.put (some 8) (.pointer (some ⟨w.heap.size, 0, none⟩))) _ (hS _ (hF.bel.alloc hF.bel.size _)) (fun hHeld => ?_)
      exact H_011100 _ _ g2 g3 w.heap.size (hR.put (by decide) (by rw [hsz]; decide) _) (by rw [ev_put _ _ _ _ (by rw [hR.size, hsz]; decide)]; exact (if_neg (by decide)).trans q2) (by rw [ev_put _ _ _ _ (by rw [hR.size, hsz]; decide)]; exact (if_neg (by decide)).trans q3) (by rw [ev_put _ _ _ _ (by rw [hR.size, hsz]; decide)]; exact if_pos rfl) (upd3 ▸ hF.alloc 3 ⟨27, 4, w.heap.size, 1, 1, [.int .i64 0, .slice none 0 0, .slice none 0 0, .slice none 0 0]⟩ _ (Rw.box w 27 _ _ _ _) rfl)
  have H_100010 : ∀ (A : Act) (w : World) (g1 c1 : Nat) (hR : Rst [8, 31, 34, 35, 38, 39, 42, 43] A0 A) (q1 : A.eval (.tmp 34) = .slice (some ⟨g1, 0, none⟩) n1 c1) (hF : Fo w0 w (V4 (some ⟨74, 3, g1, n1, c1, xs1⟩) none none none)), wpAnyH Try.prog .any opsR5 Q SS 7 #[true, true, true, true, true, true, false, true, true, false, false, true, true, false, false, false, false] A w := by
    intro A w g1 c1 hR q1 hF
    refine wpAnyH_ready (rs := [6, 10, 15]) (by kernel_rfl) (by simp) ?_
    refine (AllReadyH.cons (o := qHm5) rfl (fun K hK => ?_) (AllReadyH.cons (o := qHm3) rfl (fun K hK => ?_) (AllReadyH.cons (o := qHm1) rfl (fun K hK => ?_) AllReadyH.nil)))
    · go_simp
      refine hK.out (A.put (some 35) (.slice (some ⟨w.heap.size, 0, none⟩) 0 0)) _ (hS _ (hF.bel.alloc hF.bel.size _)) (fun hHeld => ?_)
      exact H_110010 _ _ g1 c1 w.heap.size (hR.put (by decide) (by rw [hsz]; decide) _) (by rw [ev_put _ _ _ _ (by rw [hR.size, hsz]; decide)]; exact (if_neg (by decide)).trans q1) (by rw [ev_put _ _ _ _ (by rw [hR.size, hsz]; decide)]; exact if_pos rfl) (upd1 ▸ hF.alloc 1 ⟨33, 2, w.heap.size, 0, 0, []⟩ _ (Rw.made w 33 2) rfl)
    · go_simp
      refine hK.out (A.put (some 39) (.slice (some ⟨w.heap.size, 0, none⟩) 0 0)) _ (hS _ (hF.bel.alloc hF.bel.size _)) (fun hHeld => ?_)
      exact H_101010 _ _ g1 c1 w.heap.size (hR.put (by decide) (by rw [hsz]; decide) _) (by rw [ev_put _ _ _ _ (by rw [hR.size, hsz]; decide)]; exact (if_neg (by decide)).trans q1) (by rw [ev_put _ _ _ _ (by rw [hR.size, hsz]; decide)]; exact if_pos rfl) (upd2 ▸ hF.alloc 2 ⟨33, 2, w.heap.size, 0, 0, []⟩ _ (Rw.made w 33 2) rfl)
    · go_simp
      refine hK.out (A.put (some 8) (.pointer (some ⟨w.heap.size, 0, none⟩))) _ (hS _ (hF.bel.alloc hF.bel.size _)) (fun hHeld => ?_)
      exact H_100110 _ _ g1 c1 w.heap.size (hR.put (by decide) (by rw [hsz]; decide) _) (by rw [ev_put _ _ _ _ (by rw [hR.size, hsz]; decide)]; exact (if_neg (by decide)).trans q1) (by rw [ev_put _ _ _ _ (by rw [hR.size, hsz]; decide)]; exact if_pos rfl) (upd3 ▸ hF.alloc 3 ⟨27, 4, w.heap.size, 1, 1, [.int .i64 0, .slice none 0 0, .slice none 0 0, .slice none 0 0]⟩ _ (Rw.box w 27 _ _ _ _) rfl)
  have H_100100 : ∀ (A : Act) (w : World) (g1 g4 : Nat) (hR : Rst [8, 31, 34, 35, 38, 39, 42, 43] A0 A) (q1 : A.eval (.tmp 31) = .slice (some ⟨g1, 0, none⟩) 0 0) (q4 : A.eval (.tmp 8) = .pointer (some ⟨g4, 0, none⟩)) (hF : Fo w0 w (V4 (some ⟨74, 3, g1, 0, 0, []⟩) none none (some ⟨27, 4, g4, 1, 1, [.int .i64 0, .slice none 0 0, .slice none 0 0, .slice none 0 0]⟩))), wpAnyH Try.prog .any opsR5 Q SS 7 #[true, true, true, true, true, false, false, true, true, false, false, true, true, false, false, true, false] A w := by
    intro A w g1 g4 hR q1 q4 hF
    refine wpAnyH_ready (rs := [5, 6, 10]) (by kernel_rfl) (by simp) ?_
    refine (AllReadyH.cons (o := qHm6) rfl (fun K hK => ?_) (AllReadyH.cons (o := qHm5) rfl (fun K hK => ?_) (AllReadyH.cons (o := qHm3) rfl (fun K hK => ?_) AllReadyH.nil)))
    · refine step_appG _ rfl (.tmp 31) (.tmp 33) 24 rfl w0.heap.size 74 i68 _ 3 24 Try.underlying24 hi68 hy0 hy1 hy2 rfl (by decide) _ 0 [] q1 ((hF.own 0 ⟨74, 3, g1, 0, 0, []⟩ rfl).2.own (hF.own 0 ⟨74, 3, g1, 0, 0, []⟩ rfl).1) s1 n1 xs1 ((hR.same 33 (by decide)).trans e33) (r1.still hF.bel) o1 (by unfold maxLen; omega) (by omega) hF.bel.size ?_
      intro v1 w1 ho hgr hnil hat
      rw [Nat.zero_add, List.nil_append] at ho
      obtain ⟨g, c, rfl, hF1⟩ := hF.app 0 (x := ⟨74, 3, g1, 0, 0, []⟩) rfl ho hgr (fun e => by have := (hnil.1 e).1; cases this) hat
      rw [upd0] at hF1
      refine hK.out _ _ (hS _ hF1.bel) (fun hHeld => ?_)
      exact H_100110 _ _ g c g4 (hR.put (by decide) (by rw [hsz]; decide) _) (by rw [ev_put _ _ _ _ (by rw [hR.size, hsz]; decide)]; exact if_pos rfl) (by rw [ev_put _ _ _ _ (by rw [hR.size, hsz]; decide)]; exact (if_neg (by decide)).trans q4) hF1
    · go_simp
      refine hK.out (A.put (some 35) (.slice (some ⟨w.heap.size, 0, none⟩) 0 0)) _ (hS _ (hF.bel.alloc hF.bel.size _)) (fun hHeld => ?_)
      exact H_110100 _ _ g1 w.heap.size g4 (hR.put (by decide) (by rw [hsz]; decide) _) (by rw [ev_put _ _ _ _ (by rw [hR.size, hsz]; decide)]; exact (if_neg (by decide)).trans q1) (by rw [ev_put _ _ _ _ (by rw [hR.size, hsz]; decide)]; exact if_pos rfl) (by rw [ev_put _ _ _ _ (by rw [hR.size, hsz]; decide)]; exact (if_neg (by decide)).trans q4) (upd1 ▸ hF.alloc 1 ⟨33, 2, w.heap.size, 0, 0, []⟩ _ (Rw.made w 33 2) rfl)
    · go_simp
      refine hK.out (A.put (some 39) (.slice (some ⟨w.heap.size, 0, none⟩) 0 0)) _ (hS _ (hF.bel.alloc hF.bel.size _)) (fun hHeld => ?_)
      exact H_101100 _ _ g1 w.heap.size g4 (hR.put (by decide) (by rw [hsz]; decide) _) (by rw [ev_put _ _ _ _ (by rw [hR.size, hsz]; decide)]; exact (if_neg (by decide)).trans q1) (by rw [ev_put _ _ _ _ (by rw [hR.size, hsz]; decide)]; exact if_pos rfl) (by rw [ev_put _ _ _ _ (by rw [hR.size, hsz]; decide)]; exact (if_neg (by decide)).trans q4) (upd2 ▸ hF.alloc 2 ⟨33, 2, w.heap.size, 0, 0, []⟩ _ (Rw.made w 33 2) rfl)
  have H_101000 : ∀ (A : Act) (w : World) (g1 g3 : Nat) (hR : Rst [8, 31, 34, 35, 38, 39, 42, 43] A0 A) (q1 : A.eval (.tmp 31) = .slice (some ⟨g1, 0, none⟩) 0 0) (q3 : A.eval (.tmp 39) = .slice (some ⟨g3, 0, none⟩) 0 0) (hF : Fo w0 w (V4 (some ⟨74, 3, g1, 0, 0, []⟩) none (some ⟨33, 2, g3, 0, 0, []⟩) none)), wpAnyH Try.prog .any opsR5 Q SS 7 #[true, true, true, true, true, false, false, true, true, false, true, true, true, false, false, false, false] A w := by
    intro A w g1 g3 hR q1 q3 hF
    refine wpAnyH_ready (rs := [5, 6, 15]) (by kernel_rfl) (by simp) ?_
    refine (AllReadyH.cons (o := qHm6) rfl (fun K hK => ?_) (AllReadyH.cons (o := qHm5) rfl (fun K hK => ?_) (AllReadyH.cons (o := qHm1) rfl (fun K hK => ?_) AllReadyH.nil)))
    · refine step_appG _ rfl (.tmp 31) (.tmp 33) 24 rfl w0.heap.size 74 i68 _ 3 24 Try.underlying24 hi68 hy0 hy1 hy2 rfl (by decide) _ 0 [] q1 ((hF.own 0 ⟨74, 3, g1, 0, 0, []⟩ rfl).2.own (hF.own 0 ⟨74, 3, g1, 0, 0, []⟩ rfl).1) s1 n1 xs1 ((hR.same 33 (by decide)).trans e33) (r1.still hF.bel) o1 (by unfold maxLen; omega) (by omega) hF.bel.size ?_
      intro v1 w1 ho hgr hnil hat
      rw [Nat.zero_add, List.nil_append] at ho
      obtain ⟨g, c, rfl, hF1⟩ := hF.app 0 (x := ⟨74, 3, g1, 0, 0, []⟩) rfl ho hgr (fun e => by have := (hnil.1 e).1; cases this) hat
      rw [upd0] at hF1
      refine hK.out _ _ (hS _ hF1.bel) (fun hHeld => ?_)
      exact H_101010 _ _ g c g3 (hR.put (by decide) (by rw [hsz]; decide) _) (by rw [ev_put _ _ _ _ (by rw [hR.size, hsz]; decide)]; exact if_pos rfl) (by rw [ev_put _ _ _ _ (by rw [hR.size, hsz]; decide)]; exact (if_neg (by decide)).trans q3) hF1
    · go_simp
      refine hK.out (A.put (some 35) (.slice (some ⟨w.heap.size, 0, none⟩) 0 0)) _ (hS _ (hF.bel.alloc hF.bel.size _)) (fun hHeld => ?_)
      exact H_111000 _ _ g1 w.heap.size g3 (hR.put (by decide) (by rw [hsz]; decide) _) (by rw [ev_put _ _ _ _ (by rw [hR.size, hsz]; decide)]; exact (if_neg (by decide)).trans q1) (by rw [ev_put _ _ _ _ (by rw [hR.size, hsz]; decide)]; exact if_pos rfl) (by rw [ev_put _ _ _ _ (by rw [hR.size, hsz]; decide)]; exact (if_neg (by decide)).trans q3) (upd1 ▸ hF.alloc 1 ⟨33, 2, w.heap.size, 0, 0, []⟩ _ (Rw.made w 33 2) rfl)
    · go_simp
      refine hK.out (A.put (some 8) (.pointer (some ⟨w.heap.size, 0, none⟩))) _ (hS _ (hF.bel.alloc hF.bel.size _)) (fun hHeld => ?_)
      exact H_101100 _ _ g1 g3 w.heap.size (hR.put (by decide) (by rw [hsz]; decide) _) (by rw [ev_put _ _ _ _ (by rw [hR.size, hsz]; decide)]; exact (if_neg (by decide)).trans q1) (by rw [ev_put _ _ _ _ (by rw [hR.size, hsz]; decide)]; exact (if_neg (by decide)).trans q3) (by rw [ev_put _ _ _ _ (by rw [hR.size, hsz]; decide)]; exact if_pos rfl) (upd3 ▸ hF.alloc 3 ⟨27, 4, w.heap.size, 1, 1, [.int .i64 0, .slice none 0 0, .slice none 0 0, .slice none 0 0]⟩ _ (Rw.box w 27 _ _ _ _) rfl)
  have H_110000 : ∀ (A : Act) (w : World) (g1 g2 : Nat) (hR : Rst [8, 31, 34, 35, 38, 39, 42, 43] A0 A) (q1 : A.eval (.tmp 31) = .slice (some ⟨g1, 0, none⟩) 0 0) (q2 : A.eval (.tmp 35) = .slice (some ⟨g2, 0, none⟩) 0 0) (hF : Fo w0 w (V4 (some ⟨74, 3, g1, 0, 0, []⟩) (some ⟨33, 2, g2, 0, 0, []⟩) none none)), wpAnyH Try.prog .any opsR5 Q SS 7 #[true, true, true, true, true, false, true, true, true, false, false, true, true, false, false, false, false] A w := by
    intro A w g1 g2 hR q1 q2 hF
    refine wpAnyH_ready (rs := [5, 10, 15]) (by kernel_rfl) (by simp) ?_
    refine (AllReadyH.cons (o := qHm6) rfl (fun K hK => ?_) (AllReadyH.cons (o := qHm3) rfl (fun K hK => ?_) (AllReadyH.cons (o := qHm1) rfl (fun K hK => ?_) AllReadyH.nil)))
    · refine step_appG _ rfl (.tmp 31) (.tmp 33) 24 rfl w0.heap.size 74 i68 _ 3 24 Try.underlying24 hi68 hy0 hy1 hy2 rfl (by decide) _ 0 [] q1 ((hF.own 0 ⟨74, 3, g1, 0, 0, []⟩ rfl).2.own (hF.own 0 ⟨74, 3, g1, 0, 0, []⟩ rfl).1) s1 n1 xs1 ((hR.same 33 (by decide)).trans e33) (r1.still hF.bel) o1 (by unfold maxLen; omega) (by omega) hF.bel.size ?_
      intro v1 w1 ho hgr hnil hat
      rw [Nat.zero_add, List.nil_append] at ho
      obtain ⟨g, c, rfl, hF1⟩ := hF.app 0 (x := ⟨74, 3, g1, 0, 0, []⟩) rfl ho hgr (fun e => by have := (hnil.1 e).1; cases this) hat
      rw [upd0] at hF1
      refine hK.out _ _ (hS _ hF1.bel) (fun hHeld => ?_)
      exact H_110010 _ _ g c g2 (hR.put (by decide) (by rw [hsz]; decide) _) (by rw [ev_put _ _ _ _ (by rw [hR.size, hsz]; decide)]; exact if_pos rfl) (by rw [ev_put _ _ _ _ (by rw [hR.size, hsz]; decide)]; exact (if_neg (by decide)).trans q2) hF1
    · go_simp
      refine hK.out (A.put (some 39) (.slice (some ⟨w.heap.size, 0, none⟩) 0 0)) _ (hS _ (hF.bel.alloc hF.bel.size _)) (fun hHeld => ?_)
      exact H_111000 _ _ g1 g2 w.heap.size (hR.put (by decide) (by rw [hsz]; decide) _) (by rw [ev_put _ _ _ _ (by rw [hR.size, hsz]; decide)]; exact (if_neg (by decide)).trans q1) (by rw [ev_put _ _ _ _ (by rw [hR.size, hsz]; decide)]; exact (if_neg (by decide)).trans q2) (by rw [ev_put _ _ _ _ (by rw [hR.size, hsz]; decide)]; exact if_pos rfl) (upd2 ▸ hF.alloc 2 ⟨33, 2, w.heap.size, 0, 0, []⟩ _ (Rw.made w 33 2) rfl)
    · go_simp
      refine hK.out (A.put (some 8) (.pointer (some ⟨w.heap.size, 0, none⟩))) _ (hS _ (hF.bel.alloc hF.bel.size _)) (fun hHeld => ?_)
      exact H_110100 _ _ g1 g2 w.heap.size (hR.put (by decide) (by rw [hsz]; decide) _) (by rw [ev_put _ _ _ _ (by rw [hR.size, hsz]; decide)]; exact (if_neg (by decide)).trans q1) (by rw [ev_put _ _ _ _ (by rw [hR.size, hsz]; decide)]; exact (if_neg (by decide)).trans q2) (by rw [ev_put _ _ _ _ (by rw [hR.size, hsz]; decide)]; exact if_pos rfl) (upd3 ▸ hF.alloc 3 ⟨27, 4, w.heap.size, 1, 1, [.int .i64 0, .slice none 0 0, .slice none 0 0, .slice none 0 0]⟩ _ (Rw.box w 27 _ _ _ _) rfl)
  have H_000100 : ∀ (A : Act) (w : World) (g4 : Nat) (hR : Rst [8, 31, 34, 35, 38, 39, 42, 43] A0 A) (q4 : A.eval (.tmp 8) = .pointer (some ⟨g4, 0, none⟩)) (hF : Fo w0 w (V4 none none none (some ⟨27, 4, g4, 1, 1, [.int .i64 0, .slice none 0 0, .slice none 0 0, .slice none 0 0]⟩))), wpAnyH Try.prog .any opsR5 Q SS 8 #[true, true, false, true, true, false, false, true, true, false, false, true, true, false, false, true, false] A w := by
    intro A w g4 hR q4 hF
    refine wpAnyH_ready (rs := [2, 6, 10]) (by kernel_rfl) (by simp) ?_
    refine (AllReadyH.cons (o := qHm7) rfl (fun K hK => ?_) (AllReadyH.cons (o := qHm5) rfl (fun K hK => ?_) (AllReadyH.cons (o := qHm3) rfl (fun K hK => ?_) AllReadyH.nil)))
    · go_simp
      refine hK.out (A.put (some 31) (.slice (some ⟨w.heap.size, 0, none⟩) 0 0)) _ (hS _ (hF.bel.alloc hF.bel.size _)) (fun hHeld => ?_)
      exact H_100100 _ _ w.heap.size g4 (hR.put (by decide) (by rw [hsz]; decide) _) (by rw [ev_put _ _ _ _ (by rw [hR.size, hsz]; decide)]; exact if_pos rfl) (by rw [ev_put _ _ _ _ (by rw [hR.size, hsz]; decide)]; exact (if_neg (by decide)).trans q4) (upd0 ▸ hF.alloc 0 ⟨74, 3, w.heap.size, 0, 0, []⟩ _ (Rw.made w 74 3) rfl)
    · go_simp
      refine hK.out (A.put (some 35) (.slice (some ⟨w.heap.size, 0, none⟩) 0 0)) _ (hS _ (hF.bel.alloc hF.bel.size _)) (fun hHeld => ?_)
      exact H_010100 _ _ w.heap.size g4 (hR.put (by decide) (by rw [hsz]; decide) _) (by rw [ev_put _ _ _ _ (by rw [hR.size, hsz]; decide)]; exact if_pos rfl) (by rw [ev_put _ _ _ _ (by rw [hR.size, hsz]; decide)]; exact (if_neg (by decide)).trans q4) (upd1 ▸ hF.alloc 1 ⟨33, 2, w.heap.size, 0, 0, []⟩ _ (Rw.made w 33 2) rfl)
    · go_simp
      refine hK.out (A.put (some 39) (.slice (some ⟨w.heap.size, 0, none⟩) 0 0)) _ (hS _ (hF.bel.alloc hF.bel.size _)) (fun hHeld => ?_)
      exact H_001100 _ _ w.heap.size g4 (hR.put (by decide) (by rw [hsz]; decide) _) (by rw [ev_put _ _ _ _ (by rw [hR.size, hsz]; decide)]; exact if_pos rfl) (by rw [ev_put _ _ _ _ (by rw [hR.size, hsz]; decide)]; exact (if_neg (by decide)).trans q4) (upd2 ▸ hF.alloc 2 ⟨33, 2, w.heap.size, 0, 0, []⟩ _ (Rw.made w 33 2) rfl)
  have H_001000 : ∀ (A : Act) (w : World) (g3 : Nat) (hR : Rst [8, 31, 34, 35, 38, 39, 42, 43] A0 A) (q3 : A.eval (.tmp 39) = .slice (some ⟨g3, 0, none⟩) 0 0) (hF : Fo w0 w (V4 none none (some ⟨33, 2, g3, 0, 0, []⟩) none)), wpAnyH Try.prog .any opsR5 Q SS 8 #[true, true, false, true, true, false, false, true, true, false, true, true, true, false, false, false, false] A w := by
    intro A w g3 hR q3 hF
    refine wpAnyH_ready (rs := [2, 6, 15]) (by kernel_rfl) (by simp) ?_
    refine (AllReadyH.cons (o := qHm7) rfl (fun K hK => ?_) (AllReadyH.cons (o := qHm5) rfl (fun K hK => ?_) (AllReadyH.cons (o := qHm1) rfl (fun K hK => ?_) AllReadyH.nil)))
    · go_simp
      refine hK.out (A.put (some 31) (.slice (some ⟨w.heap.size, 0, none⟩) 0 0)) _ (hS _ (hF.bel.alloc hF.bel.size _)) (fun hHeld => ?_)
      exact H_101000 _ _ w.heap.size g3 (hR.put (by decide) (by rw [hsz]; decide) _) (by rw [ev_put _ _ _ _ (by rw [hR.size, hsz]; decide)]; exact if_pos rfl) (by rw [ev_put _ _ _ _ (by rw [hR.size, hsz]; decide)]; exact (if_neg (by decide)).trans q3) (upd0 ▸ hF.alloc 0 ⟨74, 3, w.heap.size, 0, 0, []⟩ _ (Rw.made w 74 3) rfl)
    · go_simp
      refine hK.out (A.put (some 35) (.slice (some ⟨w.heap.size, 0, none⟩) 0 0)) _ (hS _ (hF.bel.alloc hF.bel.size _)) (fun hHeld => ?_)
      exact H_011000 _ _ w.heap.size g3 (hR.put (by decide) (by rw [hsz]; decide) _) (by rw [ev_put _ _ _ _ (by rw [hR.size, hsz]; decide)]; exact if_pos rfl) (by rw [ev_put _ _ _ _ (by rw [hR.size, hsz]; decide)]; exact (if_neg (by decide)).trans q3) (upd1 ▸ hF.alloc 1 ⟨33, 2, w.heap.size, 0, 0, []⟩ _ (Rw.made w 33 2) rfl)
    · go_simp
      refine hK.out (A.put (some 8) (.pointer (some ⟨w.heap.size, 0, none⟩))) _ (hS _ (hF.bel.alloc hF.bel.size _)) (fun hHeld => ?_)
      exact H_001100 _ _ g3 w.heap.size (hR.put (by decide) (by rw [hsz]; decide) _) (by rw [ev_put _ _ _ _ (by rw [hR.size, hsz]; decide)]; exact (if_neg (by decide)).trans q3) (by rw [ev_put _ _ _ _ (by rw [hR.size, hsz]; decide)]; exact if_pos rfl) (upd3 ▸ hF.alloc 3 ⟨27, 4, w.heap.size, 1, 1, [.int .i64 0, .slice none 0 0, .slice none 0 0, .slice none 0 0]⟩ _ (Rw.box w 27 _ _ _ _) rfl)
  have H_010000 : ∀ (A : Act) (w : World) (g2 : Nat) (hR : Rst [8, 31, 34, 35, 38, 39, 42, 43] A0 A) (q2 : A.eval (.tmp 35) = .slice (some ⟨g2, 0, none⟩) 0 0) (hF : Fo w0 w (V4 none (some ⟨33, 2, g2, 0, 0, []⟩) none none)), wpAnyH Try.prog .any opsR5 Q SS 8 #[true, true, false, true, true, false, true, true, true, false, false, true, true, false, false, false, false] A w := by
    intro A w g2 hR q2 hF
    refine wpAnyH_ready (rs := [2, 10, 15]) (by kernel_rfl) (by simp) ?_
    refine (AllReadyH.cons (o := qHm7) rfl (fun K hK => ?_) (AllReadyH.cons (o := qHm3) rfl (fun K hK => ?_) (AllReadyH.cons (o := qHm1) rfl (fun K hK => ?_) AllReadyH.nil)))
    · go_simp
      refine hK.out (A.put (some 31) (.slice (some ⟨w.heap.size, 0, none⟩) 0 0)) _ (hS _ (hF.bel.alloc hF.bel.size _)) (fun hHeld => ?_)
      exact H_110000 _ _ w.heap.size g2 (hR.put (by decide) (by rw [hsz]; decide) _) (by rw [ev_put _ _ _ _ (by rw [hR.size, hsz]; decide)]; exact if_pos rfl) (by rw [ev_put _ _ _ _ (by rw [hR.size, hsz]; decide)]; exact (if_neg (by decide)).trans q2) (upd0 ▸ hF.alloc 0 ⟨74, 3, w.heap.size, 0, 0, []⟩ _ (Rw.made w 74 3) rfl)
    · go_simp
      refine hK.out (A.put (some 39) (.slice (some ⟨w.heap.size, 0, none⟩) 0 0)) _ (hS _ (hF.bel.alloc hF.bel.size _)) (fun hHeld => ?_)
      exact H_011000 _ _ g2 w.heap.size (hR.put (by decide) (by rw [hsz]; decide) _) (by rw [ev_put _ _ _ _ (by rw [hR.size, hsz]; decide)]; exact (if_neg (by decide)).trans q2) (by rw [ev_put _ _ _ _ (by rw [hR.size, hsz]; decide)]; exact if_pos rfl) (upd2 ▸ hF.alloc 2 ⟨33, 2, w.heap.size, 0, 0, []⟩ _ (Rw.made w 33 2) rfl)
    · go_simp
      refine hK.out (A.put (some 8) (.pointer (some ⟨w.heap.size, 0, none⟩))) _ (hS _ (hF.bel.alloc hF.bel.size _)) (fun hHeld => ?_)
      exact H_010100 _ _ g2 w.heap.size (hR.put (by decide) (by rw [hsz]; decide) _) (by rw [ev_put _ _ _ _ (by rw [hR.size, hsz]; decide)]; exact (if_neg (by decide)).trans q2) (by rw [ev_put _ _ _ _ (by rw [hR.size, hsz]; decide)]; exact if_pos rfl) (upd3 ▸ hF.alloc 3 ⟨27, 4, w.heap.size, 1, 1, [.int .i64 0, .slice none 0 0, .slice none 0 0, .slice none 0 0]⟩ _ (Rw.box w 27 _ _ _ _) rfl)
  have H_100000 : ∀ (A : Act) (w : World) (g1 : Nat) (hR : Rst [8, 31, 34, 35, 38, 39, 42, 43] A0 A) (q1 : A.eval (.tmp 31) = .slice (some ⟨g1, 0, none⟩) 0 0) (hF : Fo w0 w (V4 (some ⟨74, 3, g1, 0, 0, []⟩) none none none)), wpAnyH Try.prog .any opsR5 Q SS 8 #[true, true, true, true, true, false, false, true, true, false, false, true, true, false, false, false, false] A w := by
    intro A w g1 hR q1 hF
    refine wpAnyH_ready (rs := [5, 6, 10, 15]) (by kernel_rfl) (by simp) ?_
    refine (AllReadyH.cons (o := qHm6) rfl (fun K hK => ?_) (AllReadyH.cons (o := qHm5) rfl (fun K hK => ?_) (AllReadyH.cons (o := qHm3) rfl (fun K hK => ?_) (AllReadyH.cons (o := qHm1) rfl (fun K hK => ?_) AllReadyH.nil))))
    · refine step_appG _ rfl (.tmp 31) (.tmp 33) 24 rfl w0.heap.size 74 i68 _ 3 24 Try.underlying24 hi68 hy0 hy1 hy2 rfl (by decide) _ 0 [] q1 ((hF.own 0 ⟨74, 3, g1, 0, 0, []⟩ rfl).2.own (hF.own 0 ⟨74, 3, g1, 0, 0, []⟩ rfl).1) s1 n1 xs1 ((hR.same 33 (by decide)).trans e33) (r1.still hF.bel) o1 (by unfold maxLen; omega) (by omega) hF.bel.size ?_
      intro v1 w1 ho hgr hnil hat
      rw [Nat.zero_add, List.nil_append] at ho
      obtain ⟨g, c, rfl, hF1⟩ := hF.app 0 (x := ⟨74, 3, g1, 0, 0, []⟩) rfl ho hgr (fun e => by have := (hnil.1 e).1; cases this) hat
      rw [upd0] at hF1
      refine hK.out _ _ (hS _ hF1.bel) (fun hHeld => ?_)
      exact H_100010 _ _ g c (hR.put (by decide) (by rw [hsz]; decide) _) (by rw [ev_put _ _ _ _ (by rw [hR.size, hsz]; decide)]; exact if_pos rfl) hF1
    · go_simp
      refine hK.out (A.put (some 35) (.slice (some ⟨w.heap.size, 0, none⟩) 0 0)) _ (hS _ (hF.bel.alloc hF.bel.size _)) (fun hHeld => ?_)
      exact H_110000 _ _ g1 w.heap.size (hR.put (by decide) (by rw [hsz]; decide) _) (by rw [ev_put _ _ _ _ (by rw [hR.size, hsz]; decide)]; exact (if_neg (by decide)).trans q1) (by rw [ev_put _ _ _ _ (by rw [hR.size, hsz]; decide)]; exact if_pos rfl) (upd1 ▸ hF.alloc 1 ⟨33, 2, w.heap.size, 0, 0, []⟩ _ (Rw.made w 33 2) rfl)
    · go_simp
      refine hK.out (A.put (some 39) (.slice (some ⟨w.heap.size, 0, none⟩) 0 0)) _ (hS _ (hF.bel.alloc hF.bel.size _)) (fun hHeld => ?_)
      exact H_101000 _ _ g1 w.heap.size (hR.put (by decide) (by rw [hsz]; decide) _) (by rw [ev_put _ _ _ _ (by rw [hR.size, hsz]; decide)]; exact (if_neg (by decide)).trans q1) (by rw [ev_put _ _ _ _ (by rw [hR.size, hsz]; decide)]; exact if_pos rfl) (upd2 ▸ hF.alloc 2 ⟨33, 2, w.heap.size, 0, 0, []⟩ _ (Rw.made w 33 2) rfl)
    · go_simp
      refine hK.out (A.put (some 8) (.pointer (some ⟨w.heap.size, 0, none⟩))) _ (hS _ (hF.bel.alloc hF.bel.size _)) (fun hHeld => ?_)
      exact H_100100 _ _ g1 w.heap.size (hR.put (by decide) (by rw [hsz]; decide) _) (by rw [ev_put _ _ _ _ (by rw [hR.size, hsz]; decide)]; exact (if_neg (by decide)).trans q1) (by rw [ev_put _ _ _ _ (by rw [hR.size, hsz]; decide)]; exact if_pos rfl) (upd3 ▸ hF.alloc 3 ⟨27, 4, w.heap.size, 1, 1, [.int .i64 0, .slice none 0 0, .slice none 0 0, .slice none 0 0]⟩ _ (Rw.box w 27 _ _ _ _) rfl)
  have H_000000 : ∀ (A : Act) (w : World) (hR : Rst [8, 31, 34, 35, 38, 39, 42, 43] A0 A) (hF : Fo w0 w (V4 none none none none)), wpAnyH Try.prog .any opsR5 Q SS 9 #[true, true, false, true, true, false, false, true, true, false, false, true, true, false, false, false, false] A w := by
    intro A w  hR  hF
    refine wpAnyH_ready (rs := [2, 6, 10, 15]) (by kernel_rfl) (by simp) ?_
    refine (AllReadyH.cons (o := qHm7) rfl (fun K hK => ?_) (AllReadyH.cons (o := qHm5) rfl (fun K hK => ?_) (AllReadyH.cons (o := qHm3) rfl (fun K hK => ?_) (AllReadyH.cons (o := qHm1) rfl (fun K hK => ?_) AllReadyH.nil))))
    · go_simp
      refine hK.out (A.put (some 31) (.slice (some ⟨w.heap.size, 0, none⟩) 0 0)) _ (hS _ (hF.bel.alloc hF.bel.size _)) (fun hHeld => ?_)
      exact H_100000 _ _ w.heap.size (hR.put (by decide) (by rw [hsz]; decide) _) (by rw [ev_put _ _ _ _ (by rw [hR.size, hsz]; decide)]; exact if_pos rfl) (upd0 ▸ hF.alloc 0 ⟨74, 3, w.heap.size, 0, 0, []⟩ _ (Rw.made w 74 3) rfl)
    · go_simp
      refine hK.out (A.put (some 35) (.slice (some ⟨w.heap.size, 0, none⟩) 0 0)) _ (hS _ (hF.bel.alloc hF.bel.size _)) (fun hHeld => ?_)
      exact H_010000 _ _ w.heap.size (hR.put (by decide) (by rw [hsz]; decide) _) (by rw [ev_put _ _ _ _ (by rw [hR.size, hsz]; decide)]; exact if_pos rfl) (upd1 ▸ hF.alloc 1 ⟨33, 2, w.heap.size, 0, 0, []⟩ _ (Rw.made w 33 2) rfl)
    · go_simp
      refine hK.out (A.put (some 39) (.slice (some ⟨w.heap.size, 0, none⟩) 0 0)) _ (hS _ (hF.bel.alloc hF.bel.size _)) (fun hHeld => ?_)
      exact H_001000 _ _ w.heap.size (hR.put (by decide) (by rw [hsz]; decide) _) (by rw [ev_put _ _ _ _ (by rw [hR.size, hsz]; decide)]; exact if_pos rfl) (upd2 ▸ hF.alloc 2 ⟨33, 2, w.heap.size, 0, 0, []⟩ _ (Rw.made w 33 2) rfl)
    · go_simp
      refine hK.out (A.put (some 8) (.pointer (some ⟨w.heap.size, 0, none⟩))) _ (hS _ (hF.bel.alloc hF.bel.size _)) (fun hHeld => ?_)
      exact H_000100 _ _ w.heap.size (hR.put (by decide) (by rw [hsz]; decide) _) (by rw [ev_put _ _ _ _ (by rw [hR.size, hsz]; decide)]; exact if_pos rfl) (upd3 ▸ hF.alloc 3 ⟨27, 4, w.heap.size, 1, 1, [.int .i64 0, .slice none 0 0, .slice none 0 0, .slice none 0 0]⟩ _ (Rw.box w 27 _ _ _ _) rfl)
  exact H_000000
end Go.Proofs.Ytledclkmeikgdaa
