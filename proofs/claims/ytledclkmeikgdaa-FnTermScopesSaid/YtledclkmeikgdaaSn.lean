import Derived.Test.YtledclkmeikgdaaSm
/-! The program: a scope is declared. -/
namespace Go.Proofs.Ytledclkmeikgdaa
open Go.RowKit Go.Deep Go.Lib
open Go.Proofs.Ytledclkmeikgdaa.T (Tr)
set_option linter.unusedVariables false
set_option maxRecDepth 100000
set_option linter.unusedSimpArgs false

/-- A scope is declared, at a path. -/
def Sw.dclP (s : Sw) (x : ByteArray) (sc : Nat) (xs : List Nat) : Sw := { s with n := s.n + 1, es := s.es ++ [⟨s.n, sc, 1⟩], ds := s.ds ++ [⟨s.n, x⟩], dp := s.dp ++ [xs] }
set_option maxHeartbeats 12800000 in
theorem declare100 {A B q : Nat} (x0 : ByteArray) (xs : List Nat) (pv : Value) (sc : Nat) (s : Sw) (c : CV) (w : World) (h : Co w A q 88 s c) (hp : w.ownsRow B 3 1 pv xs.length (nums xs)) (hg : ∀ b, pv.ownBlock = some b → ¬ c.B q s b) (hsz : s.sz + 4 ≤ 100000) (hpl : xs.length ≤ 100000) (hsc : sc ≤ 100000) :
    Calls Try.prog 100 #[.pointer (some ⟨q, 0, none⟩), .string x0, .int .i64 (sc : Nat), pv] w fun e w' => e = .returned (.int .i64 (s.n : Nat)) ∧ ∃ c', St A q 88 w s c w' (s.dclP x0 sc xs) c' (fun _ => False) (fun _ => False) := by
  obtain ⟨i74, hi74, hxx⟩ := Option.map_eq_some_iff.1 info74s
  simp only [Prod.mk.injEq] at hxx
  obtain ⟨hx0, hx1, hx2⟩ := hxx
  obtain ⟨i33, hi33, hyy⟩ := Option.map_eq_some_iff.1 info33s
  simp only [Prod.mk.injEq] at hyy
  obtain ⟨hy0, hy1, hy2⟩ := hyy
  obtain ⟨i34, hi34, hzz⟩ := Option.map_eq_some_iff.1 info34s
  simp only [Prod.mk.injEq] at hzz
  obtain ⟨hz0, hz1, hz2⟩ := hzz
  have H0 := (show Hid (Co w A q 88 s c) from h)
  have HPW := (show Hid (∀ (wr : World) (sj : Sw) (cj : CV), St A q 88 w s c wr sj cj (fun _ => False) (fun _ => False) → wr.ownsRow B 3 1 pv xs.length (nums xs)) from fun wr sj cj hst => own_keep1 hp (fun b' e => hst.fm.block b' (World.ownsRow.lt hp b' e).2 (fun e' => e'.elim (hg b' e) id)))
  have HAZ := (show Hid (∀ (wr : World) (sj : Sw) (cj : CV), St A q 88 w s c wr sj cj (fun _ => False) (fun _ => False) → A ≤ wr.heap.size) from fun wr sj cj hst => by have h1 := hst.co.hq; have h2 := hst.co.bx.lt; omega)
  have hne : s.es.length ≤ 100000 ∧ s.ds.length ≤ 100000 ∧ s.dp.length ≤ 100000 ∧ s.n ≤ 100000 := by unfold Sw.sz at hsz; omega
  obtain ⟨hne, hnd, hnp, hnn⟩ := hne
  obtain ⟨⟨a1, p1, e1⟩, ⟨a2, p2, e2⟩, _, ⟨a4, p4, e4⟩, _⟩ := h.form
  have kw : IntKind.i64.wrap ((s.n : Int) + 1) = (s.n : Int) + 1 := by rw [IntKind.wrap_i64]; omega
  obtain ⟨W1, hW1⟩ : ∃ W1, w.setCell ⟨q, 0, none⟩ (.int .i64 ((s.n : Int) + 1)) = W1 := ⟨_, rfl⟩
  have st1 : St A q 88 w s c W1 { s with n := s.n + 1 } c (fun _ => False) (fun _ => False) := by
    rw [← hW1]
    exact h.setN (s.n + 1)
  have HST1 := (show Hid (St A q 88 w s c W1 { s with n := s.n + 1 } c (fun _ => False) (fun _ => False)) from st1)
  have d0 : w.cell? ⟨q, 0, none⟩ = some (.int .i64 (s.n : Nat)) := h.bx.cell 0 (by simp)
  have d0f : w.frozen? ⟨q, 0, none⟩ = false := h.bx.frozen 0
  have d1 : W1.cell? ⟨q, 1, none⟩ = some (.slice a1 s.es.length p1) := by
    have := st1.co.bx.cell 1 (by simp)
    rw [← e1]
    exact this
  have hbe := bel_alloc W1 (.cells #[.int .i64 (s.n : Nat), .int .i64 (sc : Nat), .int .i64 1] 74)
  have HO1 := (show Hid ((W1.alloc (.cells #[.int .i64 (s.n : Nat), .int .i64 (sc : Nat), .int .i64 1] 74)).ownsRow A 74 3 (.slice a1 s.es.length p1) s.es.length (edL s.es)) from by
    have := own_keep1 st1.co.e (fun b' e => hbe.block b' (World.ownsRow.lt st1.co.e b' e).2)
    rw [e1] at this
    exact this)
  have HNB1 := (show Hid _ from World.news_of_block (cs := #[.int .i64 (s.n : Nat), .int .i64 (sc : Nat), .int .i64 1]) (blk_alloc_new W1 (.cells #[.int .i64 (s.n : Nat), .int .i64 (sc : Nat), .int .i64 1] 74)))
  have hzz1 : A ≤ (W1.alloc (.cells #[.int .i64 (s.n : Nat), .int .i64 (sc : Nat), .int .i64 1] 74)).heap.size := by
    have h1 := HAZ.out W1 _ _ st1
    have h3 := hbe.size
    omega
  have HUP1 := (show Hid (∀ (g1 cap1 : Nat) (w1 : World), w1.ownsRow A 74 3 (.slice (some ⟨g1, 0, none⟩) (s.es.length + 1) cap1) (s.es.length + 1) (edL s.es ++ [.int .i64 (s.n : Nat), .int .i64 (sc : Nat), .int .i64 1]) → (W1.alloc (.cells #[.int .i64 (s.n : Nat), .int .i64 (sc : Nat), .int .i64 1] 74)).grownBy w1 (Value.slice a1 s.es.length p1).ownBlock → ((Value.slice a1 s.es.length p1).ownBlock = some g1 ∨ g1 = (W1.alloc (.cells #[.int .i64 (s.n : Nat), .int .i64 (sc : Nat), .int .i64 1] 74)).heap.size) →
    w1.cell? ⟨q, 1, none⟩ = some (.slice a1 s.es.length p1) ∧ w1.frozen? ⟨q, 1, none⟩ = false ∧ Hid (St A q 88 w s c (w1.setCell ⟨q, 1, none⟩ (.slice (some ⟨g1, 0, none⟩) (s.es.length + 1) cap1)) { s with n := s.n + 1, es := s.es ++ [⟨s.n, sc, 1⟩] } { c with v1 := .slice (some ⟨g1, 0, none⟩) (s.es.length + 1) cap1 } (fun _ => False) (fun _ => False)) ∧ (w1.setCell ⟨q, 1, none⟩ (.slice (some ⟨g1, 0, none⟩) (s.es.length + 1) cap1)).cell? ⟨q, 2, none⟩ = some (.slice a2 s.ds.length p2) ∧ w1.cell? ⟨q, 2, none⟩ = some (.slice a2 s.ds.length p2)) from fun g1 cap1 w1 h1 h2 h3 => by
    rw [← e1] at h2 h3
    obtain ⟨u, st⟩ := HST1.out.co.upE ⟨s.n, sc, 1⟩ hbe h1 h2 h3
    have h4 := st.co.bx.cell 2 (by simp)
    exact ⟨by rw [← e1]; exact u.cell, u.froz, HST1.out.trans st (fun _ _ e => e) (fun _ _ e => e.elim) (fun _ _ e => e) (fun _ _ e => e), by rw [← e2]; exact h4, by rw [← e2]; exact (World.cell?_setCell_other _ _ _ _ (by simp)).symm.trans h4⟩)
  obtain ⟨pa, pl, pc, hpv⟩ : ∃ pa pl pc, pv = .slice pa pl pc := by
    obtain ⟨pa, pc, e, _⟩ := own_ne hp
    exact ⟨pa, _, pc, e⟩
  subst hpv
  clear h hp hg hsz hbe st1
  go_enter Try.func100, Try.ntmps100
  go_wp2_with (first
    | (at_builtin; refine wpList_append_lies _ rfl (.tmp 29) (.tmp 33) 24 rfl A 74 i74 _ 3 24 Try.underlying24 hi74 hx0 hx1 hx2 rfl (by decide) (.slice a1 s.es.length p1) s.es.length _ rfl HO1.out ⟨W1.heap.size, 0, none⟩ 1 1 [.int .i64 (s.n : Nat), .int .i64 (sc : Nat), .int .i64 1] rfl rfl HNB1.out (by intro u hu; simp at hu; rcases hu with rfl | rfl | rfl <;> rfl) (by decide) (by unfold maxLen; omega) (by omega) hzz1 _ rfl ?_; intro g1 cap1 w1 hown1 hgr1 hat1 hlt1; obtain ⟨z1, zf1, HF1, z2, z4⟩ := HUP1.out g1 cap1 w1 hown1 hgr1 hat1; clear hown1 hgr1 hat1 hlt1)
    | (at_builtin; clear z4 z1 zf1 d0 d0f d1 HO1 HNB1 hzz1 HUP1 HST1 hW1
       obtain ⟨W2, hW2⟩ : ∃ W2, w1.setCell ⟨q, 1, none⟩ (.slice (some ⟨g1, 0, none⟩) (s.es.length + 1) cap1) = W2 := ⟨_, rfl⟩
       have hwz : W2.heap.size = w1.heap.size := by rw [← hW2]; simp
       rw [hW2] at HF1 z2 ⊢
       clear hW2
       have HC2 := (show Hid (Co W2 A q 88 { s with n := s.n + 1, es := s.es ++ [⟨s.n, sc, 1⟩] } { c with v1 := .slice (some ⟨g1, 0, none⟩) (s.es.length + 1) cap1 }) from HF1.out.co)
       have hbf := bel_alloc W2 (.cells #[.int .i64 (s.n : Nat), .string x0] 33)
       have HO5 := (show Hid ((W2.alloc (.cells #[.int .i64 (s.n : Nat), .string x0] 33)).ownsRow A 33 2 (.slice a2 s.ds.length p2) s.ds.length (spL s.ds)) from by
         have := own_keep1 HC2.out.d (fun b' e => hbf.block b' (World.ownsRow.lt HC2.out.d b' e).2)
         dsimp only at this
         rw [e2] at this
         exact this)
       have HNB := (show Hid _ from World.news_of_block (cs := #[.int .i64 (s.n : Nat), .string x0]) (blk_alloc_new W2 (.cells #[.int .i64 (s.n : Nat), .string x0] 33)))
       rw [hwz] at HNB
       have hzz2 : A ≤ (W2.alloc (.cells #[.int .i64 (s.n : Nat), .string x0] 33)).heap.size := by
         have h1 := HAZ.out W2 _ _ HF1.out
         have h3 := hbf.size
         omega
       have HUP := (show Hid (∀ (g3 cap3 : Nat) (w7 : World), w7.ownsRow A 33 2 (.slice (some ⟨g3, 0, none⟩) (s.ds.length + 1) cap3) (s.ds.length + 1) (spL s.ds ++ [.int .i64 (s.n : Nat), .string x0]) → (W2.alloc (.cells #[.int .i64 (s.n : Nat), .string x0] 33)).grownBy w7 (Value.slice a2 s.ds.length p2).ownBlock → ((Value.slice a2 s.ds.length p2).ownBlock = some g3 ∨ g3 = (W2.alloc (.cells #[.int .i64 (s.n : Nat), .string x0] 33)).heap.size) →
         w7.cell? ⟨q, 2, none⟩ = some (.slice a2 s.ds.length p2) ∧ w7.frozen? ⟨q, 2, none⟩ = false ∧ Hid (St A q 88 w s c (w7.setCell ⟨q, 2, none⟩ (.slice (some ⟨g3, 0, none⟩) (s.ds.length + 1) cap3)) { s with n := s.n + 1, es := s.es ++ [⟨s.n, sc, 1⟩], ds := s.ds ++ [⟨s.n, x0⟩] } { c with v1 := .slice (some ⟨g1, 0, none⟩) (s.es.length + 1) cap1, v2 := .slice (some ⟨g3, 0, none⟩) (s.ds.length + 1) cap3 } (fun _ => False) (fun _ => False))) from fun g3 cap3 w7 h1 h2 h3 => by
         rw [← e2] at h2 h3
         obtain ⟨u, st⟩ := HC2.out.upD ⟨s.n, x0⟩ hbf h1 h2 h3
         exact ⟨by rw [← e2]; exact u.cell, u.froz, HF1.out.trans st (fun _ _ e => e) (fun _ _ e => e.elim) (fun _ _ e => e) (fun _ _ e => e)⟩)
       clear hbf
       refine wpList_append_lies _ rfl (.tmp 43) (.tmp 47) 25 rfl A 33 i33 _ 2 24 Try.underlying25 hi33 hy0 hy1 hy2 rfl (by decide) (.slice a2 s.ds.length p2) s.ds.length _ rfl HO5.out ⟨w1.heap.size, 0, none⟩ 1 1 [.int .i64 (s.n : Nat), .string x0] rfl rfl HNB.out (by intro u hu; simp at hu; rcases hu with rfl | rfl <;> rfl) (by decide) (by unfold maxLen; omega) (by omega) hzz2 _ rfl ?_
       intro g3 cap3 w7 hown1 hgr1 hat1 hlt1
       obtain ⟨z3, zf3, HF3⟩ := HUP.out g3 cap3 w7 hown1 hgr1 hat1
       clear hown1 hgr1 hat1 hlt1))
  clear z3 zf3 z2 HO5 HNB hzz2 HUP HC2 HF1
  obtain ⟨W3, hW3⟩ : ∃ W3, w7.setCell ⟨q, 2, none⟩ (.slice (some ⟨g3, 0, none⟩) (s.ds.length + 1) cap3) = W3 := ⟨_, rfl⟩
  rw [hW3] at HF3 ⊢
  clear hW3
  obtain ⟨c3, hc3⟩ : ∃ c3 : CV, { c with v1 := .slice (some ⟨g1, 0, none⟩) (s.es.length + 1) cap1, v2 := .slice (some ⟨g3, 0, none⟩) (s.ds.length + 1) cap3 } = c3 := ⟨_, rfl⟩
  have hv4 : c3.v4 = .slice a4 s.dp.length p4 := by rw [← hc3]; exact e4
  have hvD : c3.D = c.D := by rw [← hc3]
  rw [hc3] at HF3
  have HC3 := (show Hid (Co W3 A q 88 { s with n := s.n + 1, es := s.es ++ [⟨s.n, sc, 1⟩], ds := s.ds ++ [⟨s.n, x0⟩] } c3) from HF3.out.co)
  have hpw3 := HPW.out W3 _ _ HF3.out
  have cL : W3.cell? ⟨q, 4, none⟩ = some (.slice a4 s.dp.length p4) := by
    have := HC3.out.bx.cell 4 (by simp)
    rw [← hv4]
    exact this
  have hbd3 := (Below.refl W3.heap.size W3).drew
  have HDN := (show Hid (Calls Try.prog 98 #[.slice pa pl pc] W3.drew fun e w' => ∃ (ua : Option Addr) (uc : Nat), e = .returned (.slice ua xs.length uc) ∧ Below W3.drew.heap.size W3.drew w' ∧ w'.ownsRow W3.drew.heap.size 3 1 (.slice ua xs.length uc) xs.length (nums xs)) from clone98 xs (.slice pa pl pc) W3.drew (own_keep1 hpw3 (fun b' e => hbd3.block b' (World.ownsRow.lt hpw3 b' e).2)) (by omega))
  have HUQ := (show Hid (∀ (w7 : World) (ua : Option Addr) (uc : Nat), Below W3.drew.heap.size W3.drew w7 → w7.ownsRow W3.drew.heap.size 3 1 (.slice ua xs.length uc) xs.length (nums xs) → w7.cell? ⟨q, 4, none⟩ = some (.slice a4 s.dp.length p4) ∧ (w7.alloc (.cells #[.slice ua xs.length uc] 34)).cell? ⟨q, 4, none⟩ = some (.slice a4 s.dp.length p4) ∧
      Hid ((w7.alloc (.cells #[.slice ua xs.length uc] 34)).ownsRow A 34 1 (.slice a4 s.dp.length p4) s.dp.length (slv c.D s.dp.length)) ∧ Hid (∀ j u, ([.slice ua xs.length uc] : List Value)[j]? = some u → (w7.alloc (.cells #[.slice ua xs.length uc] 34)).cell? ((⟨w7.heap.size, 0, none⟩ : Addr).add j) = some u) ∧ Hid (A ≤ (w7.alloc (.cells #[.slice ua xs.length uc] 34)).heap.size) ∧ Hid ((w7.alloc (.cells #[.slice ua xs.length uc] 34)).heap.size = w7.heap.size + 1) ∧
      Hid (∀ (g8 cap8 : Nat) (w8 : World), w8.ownsRow A 34 1 (.slice (some ⟨g8, 0, none⟩) (s.dp.length + 1) cap8) (s.dp.length + 1) (slv c.D s.dp.length ++ [.slice ua xs.length uc]) → (w7.alloc (.cells #[.slice ua xs.length uc] 34)).grownBy w8 (Value.slice a4 s.dp.length p4).ownBlock → ((Value.slice a4 s.dp.length p4).ownBlock = some g8 ∨ g8 = w7.heap.size + 1) →
        w8.cell? ⟨q, 4, none⟩ = some (.slice a4 s.dp.length p4) ∧ w8.frozen? ⟨q, 4, none⟩ = false ∧ Hid (∃ c', St A q 88 w s c (w8.setCell ⟨q, 4, none⟩ (.slice (some ⟨g8, 0, none⟩) (s.dp.length + 1) cap8)) (s.dclP x0 sc xs) c' (fun _ => False) (fun _ => False)))) from fun w7 ua uc hb7 ho7 => by
      have hbA := bel_alloc w7 (.cells #[.slice ua xs.length uc] 34)
      have hb3 : Below W3.heap.size W3 (w7.alloc (.cells #[.slice ua xs.length uc] 34)) := (hbd3.trans (hb7.mono (Nat.le_refl _))).trans (hbA.mono hb7.size)
      have hz3 := HAZ.out W3 _ _ HF3.out
      have hsz3 := hb3.size
      have h7 := (hbd3.trans (hb7.mono (Nat.le_refl _)))
      refine ⟨(h7.cell (lt_of_cell cL)).trans cL, (hb3.cell (lt_of_cell cL)).trans cL, ?_, World.news_of_block (blk_alloc_new w7 _), (show A ≤ _ from by omega), (show _ = _ from by simp), fun g8 cap8 w8 h1 h2 h3 => ?_⟩
      · have := own_keep1 HC3.out.dp.out (fun b' e => hb3.block b' (World.ownsRow.lt HC3.out.dp.out b' e).2)
        rw [hv4, hvD] at this
        exact this
      · rw [← hv4] at h2 h3
        rw [← hvD] at h1
        have hu := own_baseS (own_keep1 ho7 (fun b' e => hbA.block b' (World.ownsRow.lt ho7 b' e).2)) hz3
        obtain ⟨u, st⟩ := HC3.out.upDp (xs := xs) hb3 hu (fun b' e e2 => by
          have h1 := (HC3.out.lt b' e2).2
          have hgn' : W3.heap.size ≤ b' := (World.ownsRow.lt ho7 b' e).1
          omega) h1 h2 (h3.imp id (fun e => by rw [e]; simp))
        refine ⟨by rw [← hv4]; exact u.cell, u.froz, _, HF3.out.trans (N'' := (fun _ => False)) st (fun _ _ e => e) (fun _ _ e => e.elim) (fun _ _ e => e) (fun b' hb' e => ?_)⟩
        have hgn' : W3.heap.size ≤ b' := (World.ownsRow.lt ho7 b' e).1
        have := HF3.out.fm.size
        omega)
  clear hpw3 hbd3 hc3 hv4 hvD HC3
  go_cut [] from 52 to 62 (fun wx => Hid (∃ c', St A q 88 w s c wx (s.dclP x0 sc xs) c' (fun _ => False) (fun _ => False)))
  case first =>
    refine wp_region_held_drew (S := (fun _ => True)) (by kernel_rfl) trivial (fun hHeld => ?_)
    refine wpAnyH_take (i := 0) (oi := { dst := some 52, op := Go.Op.move (Go.Operand.tmp 0), type := 125, pos := "l12_names.go:314", after := #[], guard := none }) (v := ?v1) rfl (by kernel_rfl) (by kernel_rfl) (by kernel_rfl) (fun _ _ _ h => h) (Or.inl ⟨by rfl, ?h1⟩) hHeld ?r1
    case h1 => (intro w hSw; (try dsimp only at hSw); go_simp; try with_reducible rfl)
    try simp only [Act.put, List.setIfInBounds_toArray, List.set_cons_zero, List.set_cons_succ]
    refine wpAnyH_take (i := 1) (oi := { dst := some 53, op := Go.Op.move (Go.Operand.tmp 0), type := 125, pos := "l12_names.go:314", after := #[], guard := none }) (v := ?v2) rfl (by kernel_rfl) (by kernel_rfl) (by kernel_rfl) (fun _ _ _ h => h) (Or.inl ⟨by rfl, ?h2⟩) hHeld ?r2
    case h2 => (intro w hSw; (try dsimp only at hSw); go_simp; try with_reducible rfl)
    try simp only [Act.put, List.setIfInBounds_toArray, List.set_cons_zero, List.set_cons_succ]
    refine wpAnyH_take (i := 2) (oi := { dst := some 54, op := Go.Op.nilCheck (Go.Operand.tmp 53), type := 0, pos := "l12_names.go:314", after := #[{ on := 1, ground := Go.Ground.data }], guard := none }) (v := ?v3) rfl (by kernel_rfl) (by kernel_rfl) (by kernel_rfl) (fun _ _ _ h => h) (Or.inl ⟨by rfl, ?h3⟩) hHeld ?r3
    case h3 => (intro w hSw; (try dsimp only at hSw); go_simp; try with_reducible rfl)
    try simp only [Act.put, List.setIfInBounds_toArray, List.set_cons_zero, List.set_cons_succ]
    refine wpAnyH_take (i := 3) (oi := { dst := some 55, op := Go.Op.fieldAddr 88 (Go.Operand.tmp 54) 1, type := 0, pos := "l12_names.go:314", after := #[{ on := 2, ground := Go.Ground.data }], guard := none }) (v := ?v4) rfl (by kernel_rfl) (by kernel_rfl) (by kernel_rfl) (fun _ _ _ h => h) (Or.inl ⟨by rfl, ?h4⟩) hHeld ?r4
    case h4 => (intro w hSw; (try dsimp only at hSw); go_simp; try with_reducible rfl)
    try simp only [Act.put, List.setIfInBounds_toArray, List.set_cons_zero, List.set_cons_succ]
    refine wpAnyH_take (i := 5) (oi := { dst := some 57, op := Go.Op.move (Go.Operand.tmp 3), type := 34, pos := "l12_names.go:314", after := #[], guard := none }) (v := ?v5) rfl (by kernel_rfl) (by kernel_rfl) (by kernel_rfl) (fun _ _ _ h => h) (Or.inl ⟨by rfl, ?h5⟩) hHeld ?r5
    case h5 => (intro w hSw; (try dsimp only at hSw); go_simp; try with_reducible rfl)
    try simp only [Act.put, List.setIfInBounds_toArray, List.set_cons_zero, List.set_cons_succ]
    refine wpAnyH_ready (rs := [4, 6]) (by kernel_rfl) (by simp) ?_
    refine (AllReadyH.cons (o := { dst := some 56, op := Go.Op.load 42 (Go.Operand.tmp 55), type := 42, pos := "l12_names.go:314", after := #[{ on := 3, ground := Go.Ground.data }], guard := none }) rfl (fun K hK => ?_) (AllReadyH.cons (o := { dst := some 58, op := Go.Op.call { callee := Go.Callee.value (Go.Operand.func 98), args := #[Go.Operand.tmp 57], argTypes := #[34] }, type := 34, pos := "l12_names.go:314", after := #[{ on := 5, ground := Go.Ground.data }], guard := none }) rfl (fun K hK => ?_) AllReadyH.nil))
    · go_simp
      clear hHeld
      refine hK.out _ _ trivial (fun hHeld => ?_)
      clear hK K
      try simp only [Act.put, List.setIfInBounds_toArray, List.set_cons_zero, List.set_cons_succ]
      refine wpAnyH_ready (rs := [6]) (by kernel_rfl) (by simp) ?_
      refine (AllReadyH.cons (o := { dst := some 58, op := Go.Op.call { callee := Go.Callee.value (Go.Operand.func 98), args := #[Go.Operand.tmp 57], argTypes := #[34] }, type := 34, pos := "l12_names.go:314", after := #[{ on := 5, ground := Go.Ground.data }], guard := none }) rfl (fun K hK => ?_) AllReadyH.nil)
      go_simp
      go_at_call 98
      refine Calls.mono HDN.out ?_
      rintro e w7 ⟨ua, uc, rfl, hb7, ho7⟩
      dsimp only
      obtain ⟨cQ, cQ2, HOQ, HNQ, HZQ, HZR, HUR⟩ := HUQ.out w7 ua uc hb7 ho7
      clear hb7 ho7
      clear hHeld
      refine hK.out _ _ trivial (fun hHeld => ?_)
      clear hK K
      try simp only [Act.put, List.setIfInBounds_toArray, List.set_cons_zero, List.set_cons_succ]
      refine wpAnyH_ready (rs := [7]) (by kernel_rfl) (by simp) ?_
      refine (AllReadyH.cons (o := { dst := some 59, op := Go.Op.buildSlice 42 1 #[(0, Go.Operand.tmp 58)], type := 42, pos := "l12_names.go:314", after := #[{ on := 6, ground := Go.Ground.data }], guard := none }) rfl (fun K hK => ?_) AllReadyH.nil)
      go_simp
      clear hHeld
      refine hK.out _ _ trivial (fun hHeld => ?_)
      clear hK K
      try simp only [Act.put, List.setIfInBounds_toArray, List.set_cons_zero, List.set_cons_succ]
      refine wpAnyH_ready (rs := [8]) (by kernel_rfl) (by simp) ?_
      refine (AllReadyH.cons (o := { dst := some 60, op := Go.Op.call { callee := Go.Callee.builtin Go.Builtin.append, args := #[Go.Operand.tmp 56, Go.Operand.tmp 59], argTypes := #[42, 42] }, type := 42, pos := "l12_names.go:314", after := #[{ on := 4, ground := Go.Ground.data }, { on := 7, ground := Go.Ground.data }, { on := 6, ground := Go.Ground.chain }], guard := none }) rfl (fun K hK => ?_) AllReadyH.nil)
      (refine step_append_lies _ rfl (.tmp 56) (.tmp 59) 42 rfl A 34 i34 _ 1 24 Try.underlying42 hi34 hz0 hz1 hz2 rfl (by decide) (.slice a4 s.dp.length p4) s.dp.length (slv c.D s.dp.length) (by simp [Act.eval, Act.put]) HOQ.out ⟨w7.heap.size, 0, none⟩ 1 1 [.slice ua xs.length uc] (by simp [Act.eval, Act.put]) rfl HNQ.out (by intro y hy; simp at hy; subst hy; rfl) (by decide) (by unfold maxLen; omega) (by omega) HZQ.out _ HZR.out ?_; intro g8 cap8 w8 hown8 hgr8 hat8 hlt8; obtain ⟨f7, f8, HE8⟩ := HUR.out g8 cap8 w8 hown8 hgr8 hat8; clear hown8 hgr8 hat8 hlt8)
      clear hHeld
      refine hK.out _ _ trivial (fun hHeld => ?_)
      clear hK K
      try simp only [Act.put, List.setIfInBounds_toArray, List.set_cons_zero, List.set_cons_succ]
      refine wpAnyH_take (i := 9) (oi := { dst := some 61, op := Go.Op.nilCheck (Go.Operand.tmp 52), type := 0, pos := "l12_names.go:314", after := #[{ on := 0, ground := Go.Ground.data }, { on := 0, ground := Go.Ground.phase }, { on := 1, ground := Go.Ground.phase }, { on := 2, ground := Go.Ground.phase }, { on := 3, ground := Go.Ground.phase }, { on := 4, ground := Go.Ground.phase }, { on := 5, ground := Go.Ground.phase }, { on := 6, ground := Go.Ground.phase }, { on := 7, ground := Go.Ground.phase }, { on := 8, ground := Go.Ground.phase }], guard := none }) (v := ?v6) rfl (by kernel_rfl) (by kernel_rfl) (by kernel_rfl) (fun _ _ _ h => h) (Or.inl ⟨by rfl, ?h6⟩) hHeld ?r6
      case h6 => (intro w hSw; (try dsimp only at hSw); go_simp; try with_reducible rfl)
      try simp only [Act.put, List.setIfInBounds_toArray, List.set_cons_zero, List.set_cons_succ]
      refine wpAnyH_take (i := 10) (oi := { dst := some 62, op := Go.Op.fieldAddr 88 (Go.Operand.tmp 61) 1, type := 0, pos := "l12_names.go:314", after := #[{ on := 9, ground := Go.Ground.data }, { on := 0, ground := Go.Ground.phase }, { on := 1, ground := Go.Ground.phase }, { on := 2, ground := Go.Ground.phase }, { on := 3, ground := Go.Ground.phase }, { on := 4, ground := Go.Ground.phase }, { on := 5, ground := Go.Ground.phase }, { on := 6, ground := Go.Ground.phase }, { on := 7, ground := Go.Ground.phase }, { on := 8, ground := Go.Ground.phase }], guard := none }) (v := ?v7) rfl (by kernel_rfl) (by kernel_rfl) (by kernel_rfl) (fun _ _ _ h => h) (Or.inl ⟨by rfl, ?h7⟩) hHeld ?r7
      case h7 => (intro w hSw; (try dsimp only at hSw); go_simp; try with_reducible rfl)
      try simp only [Act.put, List.setIfInBounds_toArray, List.set_cons_zero, List.set_cons_succ]
      refine wpAnyH_ready (rs := [11]) (by kernel_rfl) (by simp) ?_
      refine (AllReadyH.cons (o := { dst := none, op := Go.Op.store 42 (Go.Operand.tmp 62) (Go.Operand.tmp 60), type := 0, pos := "l12_names.go:314", after := #[{ on := 10, ground := Go.Ground.data }, { on := 8, ground := Go.Ground.data }, { on := 8, ground := Go.Ground.chain }, { on := 0, ground := Go.Ground.phase }, { on := 1, ground := Go.Ground.phase }, { on := 2, ground := Go.Ground.phase }, { on := 3, ground := Go.Ground.phase }, { on := 4, ground := Go.Ground.phase }, { on := 5, ground := Go.Ground.phase }, { on := 6, ground := Go.Ground.phase }, { on := 7, ground := Go.Ground.phase }, { on := 8, ground := Go.Ground.phase }], guard := none }) rfl (fun K hK => ?_) AllReadyH.nil)
      go_simp
      clear hHeld
      refine hK.out _ _ trivial (fun hHeld => ?_)
      clear hK K
      try simp only [Act.put, List.setIfInBounds_toArray, List.set_cons_zero, List.set_cons_succ]
      refine wpAnyH_done (by kernel_rfl) ?_ _
      clear f7 f8 hHeld cQ cQ2
      go_wp2_with fail
      go_meet
      exact HE8.out
    · skip
      go_simp
      go_at_call 98
      refine Calls.mono HDN.out ?_
      rintro e w7 ⟨ua, uc, rfl, hb7, ho7⟩
      dsimp only
      obtain ⟨cQ, cQ2, HOQ, HNQ, HZQ, HZR, HUR⟩ := HUQ.out w7 ua uc hb7 ho7
      clear hb7 ho7
      clear hHeld
      refine hK.out _ _ trivial (fun hHeld => ?_)
      clear hK K
      try simp only [Act.put, List.setIfInBounds_toArray, List.set_cons_zero, List.set_cons_succ]
      refine wpAnyH_ready (rs := [4, 7]) (by kernel_rfl) (by simp) ?_
      refine (AllReadyH.cons (o := { dst := some 56, op := Go.Op.load 42 (Go.Operand.tmp 55), type := 42, pos := "l12_names.go:314", after := #[{ on := 3, ground := Go.Ground.data }], guard := none }) rfl (fun K hK => ?_) (AllReadyH.cons (o := { dst := some 59, op := Go.Op.buildSlice 42 1 #[(0, Go.Operand.tmp 58)], type := 42, pos := "l12_names.go:314", after := #[{ on := 6, ground := Go.Ground.data }], guard := none }) rfl (fun K hK => ?_) AllReadyH.nil))
      · go_simp
        clear hHeld
        refine hK.out _ _ trivial (fun hHeld => ?_)
        clear hK K
        try simp only [Act.put, List.setIfInBounds_toArray, List.set_cons_zero, List.set_cons_succ]
        refine wpAnyH_ready (rs := [7]) (by kernel_rfl) (by simp) ?_
        refine (AllReadyH.cons (o := { dst := some 59, op := Go.Op.buildSlice 42 1 #[(0, Go.Operand.tmp 58)], type := 42, pos := "l12_names.go:314", after := #[{ on := 6, ground := Go.Ground.data }], guard := none }) rfl (fun K hK => ?_) AllReadyH.nil)
        go_simp
        clear hHeld
        refine hK.out _ _ trivial (fun hHeld => ?_)
        clear hK K
        try simp only [Act.put, List.setIfInBounds_toArray, List.set_cons_zero, List.set_cons_succ]
        refine wpAnyH_ready (rs := [8]) (by kernel_rfl) (by simp) ?_
        refine (AllReadyH.cons (o := { dst := some 60, op := Go.Op.call { callee := Go.Callee.builtin Go.Builtin.append, args := #[Go.Operand.tmp 56, Go.Operand.tmp 59], argTypes := #[42, 42] }, type := 42, pos := "l12_names.go:314", after := #[{ on := 4, ground := Go.Ground.data }, { on := 7, ground := Go.Ground.data }, { on := 6, ground := Go.Ground.chain }], guard := none }) rfl (fun K hK => ?_) AllReadyH.nil)
        (refine step_append_lies _ rfl (.tmp 56) (.tmp 59) 42 rfl A 34 i34 _ 1 24 Try.underlying42 hi34 hz0 hz1 hz2 rfl (by decide) (.slice a4 s.dp.length p4) s.dp.length (slv c.D s.dp.length) (by simp [Act.eval, Act.put]) HOQ.out ⟨w7.heap.size, 0, none⟩ 1 1 [.slice ua xs.length uc] (by simp [Act.eval, Act.put]) rfl HNQ.out (by intro y hy; simp at hy; subst hy; rfl) (by decide) (by unfold maxLen; omega) (by omega) HZQ.out _ HZR.out ?_; intro g8 cap8 w8 hown8 hgr8 hat8 hlt8; obtain ⟨f7, f8, HE8⟩ := HUR.out g8 cap8 w8 hown8 hgr8 hat8; clear hown8 hgr8 hat8 hlt8)
        clear hHeld
        refine hK.out _ _ trivial (fun hHeld => ?_)
        clear hK K
        try simp only [Act.put, List.setIfInBounds_toArray, List.set_cons_zero, List.set_cons_succ]
        refine wpAnyH_take (i := 9) (oi := { dst := some 61, op := Go.Op.nilCheck (Go.Operand.tmp 52), type := 0, pos := "l12_names.go:314", after := #[{ on := 0, ground := Go.Ground.data }, { on := 0, ground := Go.Ground.phase }, { on := 1, ground := Go.Ground.phase }, { on := 2, ground := Go.Ground.phase }, { on := 3, ground := Go.Ground.phase }, { on := 4, ground := Go.Ground.phase }, { on := 5, ground := Go.Ground.phase }, { on := 6, ground := Go.Ground.phase }, { on := 7, ground := Go.Ground.phase }, { on := 8, ground := Go.Ground.phase }], guard := none }) (v := ?v8) rfl (by kernel_rfl) (by kernel_rfl) (by kernel_rfl) (fun _ _ _ h => h) (Or.inl ⟨by rfl, ?h8⟩) hHeld ?r8
        case h8 => (intro w hSw; (try dsimp only at hSw); go_simp; try with_reducible rfl)
        try simp only [Act.put, List.setIfInBounds_toArray, List.set_cons_zero, List.set_cons_succ]
        refine wpAnyH_take (i := 10) (oi := { dst := some 62, op := Go.Op.fieldAddr 88 (Go.Operand.tmp 61) 1, type := 0, pos := "l12_names.go:314", after := #[{ on := 9, ground := Go.Ground.data }, { on := 0, ground := Go.Ground.phase }, { on := 1, ground := Go.Ground.phase }, { on := 2, ground := Go.Ground.phase }, { on := 3, ground := Go.Ground.phase }, { on := 4, ground := Go.Ground.phase }, { on := 5, ground := Go.Ground.phase }, { on := 6, ground := Go.Ground.phase }, { on := 7, ground := Go.Ground.phase }, { on := 8, ground := Go.Ground.phase }], guard := none }) (v := ?v9) rfl (by kernel_rfl) (by kernel_rfl) (by kernel_rfl) (fun _ _ _ h => h) (Or.inl ⟨by rfl, ?h9⟩) hHeld ?r9
        case h9 => (intro w hSw; (try dsimp only at hSw); go_simp; try with_reducible rfl)
        try simp only [Act.put, List.setIfInBounds_toArray, List.set_cons_zero, List.set_cons_succ]
        refine wpAnyH_ready (rs := [11]) (by kernel_rfl) (by simp) ?_
        refine (AllReadyH.cons (o := { dst := none, op := Go.Op.store 42 (Go.Operand.tmp 62) (Go.Operand.tmp 60), type := 0, pos := "l12_names.go:314", after := #[{ on := 10, ground := Go.Ground.data }, { on := 8, ground := Go.Ground.data }, { on := 8, ground := Go.Ground.chain }, { on := 0, ground := Go.Ground.phase }, { on := 1, ground := Go.Ground.phase }, { on := 2, ground := Go.Ground.phase }, { on := 3, ground := Go.Ground.phase }, { on := 4, ground := Go.Ground.phase }, { on := 5, ground := Go.Ground.phase }, { on := 6, ground := Go.Ground.phase }, { on := 7, ground := Go.Ground.phase }, { on := 8, ground := Go.Ground.phase }], guard := none }) rfl (fun K hK => ?_) AllReadyH.nil)
        go_simp
        clear hHeld
        refine hK.out _ _ trivial (fun hHeld => ?_)
        clear hK K
        try simp only [Act.put, List.setIfInBounds_toArray, List.set_cons_zero, List.set_cons_succ]
        refine wpAnyH_done (by kernel_rfl) ?_ _
        clear f7 f8 hHeld cQ cQ2
        go_wp2_with fail
        go_meet
        exact HE8.out
      · go_simp
        clear hHeld
        refine hK.out _ _ trivial (fun hHeld => ?_)
        clear hK K
        try simp only [Act.put, List.setIfInBounds_toArray, List.set_cons_zero, List.set_cons_succ]
        refine wpAnyH_ready (rs := [4]) (by kernel_rfl) (by simp) ?_
        refine (AllReadyH.cons (o := { dst := some 56, op := Go.Op.load 42 (Go.Operand.tmp 55), type := 42, pos := "l12_names.go:314", after := #[{ on := 3, ground := Go.Ground.data }], guard := none }) rfl (fun K hK => ?_) AllReadyH.nil)
        go_simp
        clear hHeld
        refine hK.out _ _ trivial (fun hHeld => ?_)
        clear hK K
        try simp only [Act.put, List.setIfInBounds_toArray, List.set_cons_zero, List.set_cons_succ]
        refine wpAnyH_ready (rs := [8]) (by kernel_rfl) (by simp) ?_
        refine (AllReadyH.cons (o := { dst := some 60, op := Go.Op.call { callee := Go.Callee.builtin Go.Builtin.append, args := #[Go.Operand.tmp 56, Go.Operand.tmp 59], argTypes := #[42, 42] }, type := 42, pos := "l12_names.go:314", after := #[{ on := 4, ground := Go.Ground.data }, { on := 7, ground := Go.Ground.data }, { on := 6, ground := Go.Ground.chain }], guard := none }) rfl (fun K hK => ?_) AllReadyH.nil)
        (refine step_append_lies _ rfl (.tmp 56) (.tmp 59) 42 rfl A 34 i34 _ 1 24 Try.underlying42 hi34 hz0 hz1 hz2 rfl (by decide) (.slice a4 s.dp.length p4) s.dp.length (slv c.D s.dp.length) (by simp [Act.eval, Act.put]) HOQ.out ⟨w7.heap.size, 0, none⟩ 1 1 [.slice ua xs.length uc] (by simp [Act.eval, Act.put]) rfl HNQ.out (by intro y hy; simp at hy; subst hy; rfl) (by decide) (by unfold maxLen; omega) (by omega) HZQ.out _ HZR.out ?_; intro g8 cap8 w8 hown8 hgr8 hat8 hlt8; obtain ⟨f7, f8, HE8⟩ := HUR.out g8 cap8 w8 hown8 hgr8 hat8; clear hown8 hgr8 hat8 hlt8)
        clear hHeld
        refine hK.out _ _ trivial (fun hHeld => ?_)
        clear hK K
        try simp only [Act.put, List.setIfInBounds_toArray, List.set_cons_zero, List.set_cons_succ]
        refine wpAnyH_take (i := 9) (oi := { dst := some 61, op := Go.Op.nilCheck (Go.Operand.tmp 52), type := 0, pos := "l12_names.go:314", after := #[{ on := 0, ground := Go.Ground.data }, { on := 0, ground := Go.Ground.phase }, { on := 1, ground := Go.Ground.phase }, { on := 2, ground := Go.Ground.phase }, { on := 3, ground := Go.Ground.phase }, { on := 4, ground := Go.Ground.phase }, { on := 5, ground := Go.Ground.phase }, { on := 6, ground := Go.Ground.phase }, { on := 7, ground := Go.Ground.phase }, { on := 8, ground := Go.Ground.phase }], guard := none }) (v := ?v10) rfl (by kernel_rfl) (by kernel_rfl) (by kernel_rfl) (fun _ _ _ h => h) (Or.inl ⟨by rfl, ?h10⟩) hHeld ?r10
        case h10 => (intro w hSw; (try dsimp only at hSw); go_simp; try with_reducible rfl)
        try simp only [Act.put, List.setIfInBounds_toArray, List.set_cons_zero, List.set_cons_succ]
        refine wpAnyH_take (i := 10) (oi := { dst := some 62, op := Go.Op.fieldAddr 88 (Go.Operand.tmp 61) 1, type := 0, pos := "l12_names.go:314", after := #[{ on := 9, ground := Go.Ground.data }, { on := 0, ground := Go.Ground.phase }, { on := 1, ground := Go.Ground.phase }, { on := 2, ground := Go.Ground.phase }, { on := 3, ground := Go.Ground.phase }, { on := 4, ground := Go.Ground.phase }, { on := 5, ground := Go.Ground.phase }, { on := 6, ground := Go.Ground.phase }, { on := 7, ground := Go.Ground.phase }, { on := 8, ground := Go.Ground.phase }], guard := none }) (v := ?v11) rfl (by kernel_rfl) (by kernel_rfl) (by kernel_rfl) (fun _ _ _ h => h) (Or.inl ⟨by rfl, ?h11⟩) hHeld ?r11
        case h11 => (intro w hSw; (try dsimp only at hSw); go_simp; try with_reducible rfl)
        try simp only [Act.put, List.setIfInBounds_toArray, List.set_cons_zero, List.set_cons_succ]
        refine wpAnyH_ready (rs := [11]) (by kernel_rfl) (by simp) ?_
        refine (AllReadyH.cons (o := { dst := none, op := Go.Op.store 42 (Go.Operand.tmp 62) (Go.Operand.tmp 60), type := 0, pos := "l12_names.go:314", after := #[{ on := 10, ground := Go.Ground.data }, { on := 8, ground := Go.Ground.data }, { on := 8, ground := Go.Ground.chain }, { on := 0, ground := Go.Ground.phase }, { on := 1, ground := Go.Ground.phase }, { on := 2, ground := Go.Ground.phase }, { on := 3, ground := Go.Ground.phase }, { on := 4, ground := Go.Ground.phase }, { on := 5, ground := Go.Ground.phase }, { on := 6, ground := Go.Ground.phase }, { on := 7, ground := Go.Ground.phase }, { on := 8, ground := Go.Ground.phase }], guard := none }) rfl (fun K hK => ?_) AllReadyH.nil)
        go_simp
        clear hHeld
        refine hK.out _ _ trivial (fun hHeld => ?_)
        clear hK K
        try simp only [Act.put, List.setIfInBounds_toArray, List.set_cons_zero, List.set_cons_succ]
        refine wpAnyH_done (by kernel_rfl) ?_ _
        clear f7 f8 hHeld cQ cQ2
        go_wp2_with fail
        go_meet
        exact HE8.out
  case rest =>
    have HF := hcut
    clear HUQ HDN cL HF3
    go_wp2_with fail
    refine bodyPost_ret (v := .int .i64 (s.n : Nat)) (by simp [results, Try.results100, go_sem]) rfl ?_
    exact ⟨rfl, HF.out⟩
end Go.Proofs.Ytledclkmeikgdaa
