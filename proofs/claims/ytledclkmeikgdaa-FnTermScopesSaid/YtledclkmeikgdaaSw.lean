import Derived.Test.YtledclkmeikgdaaSv
/-! The program: a term is gone through, walked. -/
namespace Go.Proofs.Ytledclkmeikgdaa
open Go.RowKit Go.Deep Go.Lib Go.Shelf
open Go.Proofs.Ytledclkmeikgdaa.T (Tr)
set_option linter.unusedVariables false
set_option maxRecDepth 100000
set_option linter.unusedSimpArgs false
attribute [local go_sem] Oper.semAt_some

set_option maxHeartbeats 12800000 in
theorem walkP_mk {A q : Nat} (n x : ByteArray) (l : Bool) (k : List Tr) (ih : ∀ i (hi : i < k.length), WtC A q k[i]) : WtC A q ⟨n, x, l, k⟩ := by
  intro v sc p pv s c w h hp hg hlies hsz hdp hsc ht hr
  obtain ⟨a, cap, b, off, sv, rfl, hn, hx, hc, hmx, ha, hcell, hk⟩ := hlies.out
  dsimp only at hn hx hc ha hcell hk ⊢
  rw [Tr.cnt_mk] at hsz
  rw [Tr.deep_mk] at hdp
  rw [sw_parts ht hr]
  obtain ⟨pa, pc, rfl, _⟩ := own_ne hp
  have hkl := (few_kids ht hr).1
  have hlo := lo_le ht
  have HCO0 := (show Hid (Co w A q 88 s c) from h)
  have HSW := (show Hid (∀ b, b < A → b < w.heap.size) from fun b hb => by have := h.hq; have := h.bx.lt; omega)
  have HTH := (show Hid (Th A q w.heap.size n x l (.slice a k.length cap) sc (Value.slice pa p.length pc) p w s c ((((w.alloc (.cells #[.pointer (some ⟨q, 0, none⟩)] 125)).alloc (.cells #[.string n, .string x, .bool l, .slice a k.length cap] 40)).alloc (.cells #[.int .i64 (sc : Nat)] 3)).alloc (.cells #[.slice pa p.length pc] 34)) s c (fun _ => False)) from Th.start h hp hg)
  have HID := (show Hid (∀ w', Calls Try.prog 97 #[.agg #[.string n, .string x, .bool l, .slice a k.length cap]] w' fun e w'' => e = .returned (.bool (l && n.toList == T.cId)) ∧ Below w'.heap.size w' w'') from fun w' => T.id104 ⟨n, x, l, k⟩ a k.length cap w')
  have HDC := (show Hid (∀ w', Calls Try.prog 99 #[.agg #[.string n, .string x, .bool l, .slice a k.length cap]] w' fun e w'' => e = .returned (.bool (T.dclB n)) ∧ Below w'.heap.size w' w'') from fun w' => T.dcl103 n x l a k.length cap w')
  have HCELL := (show Hid _ from hcell)
  have HK := (show Hid _ from hk)
  have HA := (show Hid _ from ha)
  have HIH := (show Hid _ from ih)
  have HT := (show Hid _ from ht)
  have HR := (show Hid _ from hr)
  have HLI := (show Hid _ from hlies)
  clear hcell hk ha ih ht hr hlies
  simp only [Tr.val]
  refine (callsIn_wide (n := 5)).1 ?_
  refine callsIn_of_wp_marks Try.func52 rfl trivial ?_ rfl
  simp only [Try.ntmps52, List.size_toArray, List.length_cons, List.length_nil, Nat.reduceAdd, Nat.reduceSub, Array.replicate_succ, Array.replicate_zero, List.push_toArray, List.append_toArray, List.nil_append, List.cons_append]
  refine wpIn_wide.2 ?_
  go_wp2_with fail
  refine Calls.mono (HID.out _) ?_
  rintro e w1 ⟨rfl, hb1⟩
  have HT1 := (show Hid (Th A q w.heap.size n x l (.slice a k.length cap) sc (Value.slice pa p.length pc) p w s c w1 s c (fun _ => False)) from HTH.out.still hb1)
  clear hb1 h hp hg
  go_upto_if 13 with fail
  go_cut [] from 13 to 39 (fun wx => ∃ c1, Hid (Th A q w.heap.size n x l (.slice a k.length cap) sc (Value.slice pa p.length pc) p w s c wx (wS1 n x l sc p s) c1 (fun _ => False)))
  case first =>
    cases hid : (l && n.toList == T.cId)
    · have HM := (show Hid (Th A q w.heap.size n x l (.slice a k.length cap) sc (Value.slice pa p.length pc) p w s c w1 (wS1 n x l sc p s) c (fun _ => False)) from by
        have e : wS1 n x l sc p s = s := by unfold wS1; rw [hid]; rfl
        rw [e]
        exact HT1.out)
      clear hid HTH HID HDC HT1
      go_wp2_with fail
      go_meet
      exact ⟨c, HM.out⟩
    · obtain ⟨i33, hi33, hyy⟩ := Option.map_eq_some_iff.1 info33s
      simp only [Prod.mk.injEq] at hyy
      obtain ⟨hy0, hy1, hy2⟩ := hyy
      obtain ⟨i34, hi34, hzz⟩ := Option.map_eq_some_iff.1 info34s
      simp only [Prod.mk.injEq] at hzz
      obtain ⟨hz0, hz1, hz2⟩ := hzz
      have HWS := (show Hid (wS1 n x l sc p s = s.ref sc x p) from by show _ = _; unfold wS1; rw [hid]; rfl)
      clear hid
      obtain ⟨_, _, ⟨a3, p3, e3⟩, _, _⟩ := HT1.out.st.co.form
      have HCO := (show Hid (Co w1 A q 88 s c) from HT1.out.st.co)
      have hb1 : Below w1.heap.size w1 (w1.drew.alloc (.cells #[.int .i64 (sc : Nat), .string x] 33)) := bel_trans (Below.drew (Below.refl _ _)) (bel_alloc _ _)
      obtain ⟨t1, _, t3, _, _, t6, t7⟩ := HT1.out.cells
      have cL : w1.cell? ⟨q, 3, none⟩ = some (.slice a3 s.rs.length p3) := by
        have := HCO.out.bx.cell 3 (by simp)
        rw [← e3]
        exact this
      have HO5 := (show Hid ((w1.drew.alloc (.cells #[.int .i64 (sc : Nat), .string x] 33)).ownsRow A 33 2 (.slice a3 s.rs.length p3) s.rs.length (spL s.rs)) from by
        have := own_keep1 HCO.out.r (fun b e => hb1.block b (World.ownsRow.lt HCO.out.r b e).2)
        rw [e3] at this
        exact this)
      have HNB := (show Hid (∀ j u, ([.int .i64 (sc : Nat), .string x] : List Value)[j]? = some u → (w1.drew.alloc (.cells #[.int .i64 (sc : Nat), .string x] 33)).cell? ((⟨w1.heap.size, 0, none⟩ : Addr).add j) = some u) from by
        have := World.news_of_block (cs := #[.int .i64 (sc : Nat), .string x]) (blk_alloc_new w1.drew (.cells #[.int .i64 (sc : Nat), .string x] 33))
        show ∀ j u, _
        simpa using this)
      have HZ5 := (show Hid (A ≤ (w1.drew.alloc (.cells #[.int .i64 (sc : Nat), .string x] 33)).heap.size) from by
        show A ≤ _
        have h1 := HCO.out.hq
        have h2 := HCO.out.bx.lt
        simp
        omega)
      have HZ6 := (show Hid ((w1.drew.alloc (.cells #[.int .i64 (sc : Nat), .string x] 33)).heap.size = w1.heap.size + 1) from by show _ = _; simp)
      have hn0 : ¬ c.B q s w.heap.size := HT1.out.off _ (by omega) (by omega)
      have hn1 : ¬ c.B q s (w.heap.size + 1) := HT1.out.off _ (by omega) (by omega)
      have hn2 : ¬ c.B q s (w.heap.size + 1 + 1) := HT1.out.off _ (by omega) (by omega)
      have HUP := (show Hid (∀ (g7 cap7 : Nat) (w7 : World), w7.ownsRow A 33 2 (.slice (some ⟨g7, 0, none⟩) (s.rs.length + 1) cap7) (s.rs.length + 1) (spL s.rs ++ [.int .i64 (sc : Nat), .string x]) → (w1.drew.alloc (.cells #[.int .i64 (sc : Nat), .string x] 33)).grownBy w7 (Value.slice a3 s.rs.length p3).ownBlock → ((Value.slice a3 s.rs.length p3).ownBlock = some g7 ∨ g7 = w1.heap.size + 1) →
        (fun wq : World => wq.cell? ⟨w.heap.size, 0, none⟩ = some (.pointer (some ⟨q, 0, none⟩)) ∧ wq.cell? ⟨w.heap.size + 1, 1, none⟩ = some (.string x) ∧ wq.cell? ⟨w.heap.size + 1 + 1, 0, none⟩ = some (.int .i64 (sc : Nat))) w7 ∧ w7.cell? ⟨q, 3, none⟩ = some (.slice a3 s.rs.length p3) ∧ w7.frozen? ⟨q, 3, none⟩ = false ∧ (fun wq : World => wq.cell? ⟨w.heap.size, 0, none⟩ = some (.pointer (some ⟨q, 0, none⟩)) ∧ wq.cell? ⟨w.heap.size + 1, 1, none⟩ = some (.string x) ∧ wq.cell? ⟨w.heap.size + 1 + 1, 0, none⟩ = some (.int .i64 (sc : Nat))) (w7.setCell ⟨q, 3, none⟩ (.slice (some ⟨g7, 0, none⟩) (s.rs.length + 1) cap7)) ∧
        Hid (Th A q w.heap.size n x l (.slice a k.length cap) sc (Value.slice pa p.length pc) p w s c (w7.setCell ⟨q, 3, none⟩ (.slice (some ⟨g7, 0, none⟩) (s.rs.length + 1) cap7)) { s with rs := s.rs ++ [⟨sc, x⟩] } { c with v3 := .slice (some ⟨g7, 0, none⟩) (s.rs.length + 1) cap7 } (fun _ => False))) from fun g7 cap7 w7 h1 h2 h3 => by
        rw [← e3] at h2 h3
        obtain ⟨u, st⟩ := HCO.out.upR ⟨sc, x⟩ hb1 h1 h2 (h3.imp id (fun e => by rw [e]; exact HZ6.out.symm))
        obtain ⟨u1, u2⟩ := u.keepC t1 hn0
        obtain ⟨u3, u4⟩ := u.keepC t3 hn1
        obtain ⟨u5, u6⟩ := u.keepC t6 hn2
        exact ⟨⟨u1, u3, u5⟩, by rw [← e3]; exact u.cell, u.froz, ⟨u2, u4, u6⟩, HT1.out.step st⟩)
      have hS0 : (fun wq : World => wq.cell? ⟨w.heap.size, 0, none⟩ = some (.pointer (some ⟨q, 0, none⟩)) ∧ wq.cell? ⟨w.heap.size + 1, 1, none⟩ = some (.string x) ∧ wq.cell? ⟨w.heap.size + 1 + 1, 0, none⟩ = some (.int .i64 (sc : Nat))) w1.drew := ⟨t1, t3, t6⟩
      have hS1 : (fun wq : World => wq.cell? ⟨w.heap.size, 0, none⟩ = some (.pointer (some ⟨q, 0, none⟩)) ∧ wq.cell? ⟨w.heap.size + 1, 1, none⟩ = some (.string x) ∧ wq.cell? ⟨w.heap.size + 1 + 1, 0, none⟩ = some (.int .i64 (sc : Nat))) (w1.drew.alloc (.cells #[.int .i64 (sc : Nat), .string x] 33)) := ⟨(hb1.cell (lt_of_cell t1)).trans t1, (hb1.cell (lt_of_cell t3)).trans t3, (hb1.cell (lt_of_cell t6)).trans t6⟩
      have cL2 : (w1.drew.alloc (.cells #[.int .i64 (sc : Nat), .string x] 33)).cell? ⟨q, 3, none⟩ = some (.slice a3 s.rs.length p3) := (hb1.cell (lt_of_cell cL)).trans cL
      have cL3 : (w1.alloc (.cells #[.int .i64 (sc : Nat), .string x] 33)).cell? ⟨q, 3, none⟩ = some (.slice a3 s.rs.length p3) := cL2
      have hnl : s.rs.length ≤ 100000 ∧ s.rp.length ≤ 100000 := by unfold Sw.sz at hsz; omega
      obtain ⟨hnl, hnr⟩ := hnl
      have HPL := (show Hid (p.length ≤ 1000000) from (by omega : p.length ≤ 1000000))
      clear hb1 hn0 hn1 hn2 t1 t3 t6 t7 hsz hdp hkl hlo HTH HT1 HCO
      go_wp2_with fail
      go_cut [] from 14 to 28 (fun wx => ∃ g7 cap7, Hid (Th A q w.heap.size n x l (.slice a k.length cap) sc (Value.slice pa p.length pc) p w s c wx { s with rs := s.rs ++ [⟨sc, x⟩] } { c with v3 := .slice (some ⟨g7, 0, none⟩) (s.rs.length + 1) cap7 } (fun _ => False)))
      case first =>
        refine wp_region_noPanic ?_
        refine wp_region_held_drew (S := (fun wq : World => wq.cell? ⟨w.heap.size, 0, none⟩ = some (.pointer (some ⟨q, 0, none⟩)) ∧ wq.cell? ⟨w.heap.size + 1, 1, none⟩ = some (.string x) ∧ wq.cell? ⟨w.heap.size + 1 + 1, 0, none⟩ = some (.int .i64 (sc : Nat)))) (by kernel_rfl) hS0 (fun hHeld => ?_)
        refine wpAnyH_take (i := 0) (oi := { dst := some 14, op := Go.Op.load 125 (Go.Operand.tmp 4), type := 125, pos := "l12_names.go:292", after := #[], guard := none }) (v := ?v1) rfl (by kernel_rfl) (by kernel_rfl) (by kernel_rfl) (fun _ _ _ h => h) (Or.inl ⟨by rfl, ?h1⟩) hHeld ?r1
        case h1 => (intro w hSw; (try dsimp only at hSw); go_simp; try with_reducible rfl)
        try simp only [Act.put, List.setIfInBounds_toArray, List.set_cons_zero, List.set_cons_succ]
        refine wpAnyH_take (i := 1) (oi := { dst := some 15, op := Go.Op.load 125 (Go.Operand.tmp 4), type := 125, pos := "l12_names.go:292", after := #[], guard := none }) (v := ?v2) rfl (by kernel_rfl) (by kernel_rfl) (by kernel_rfl) (fun _ _ _ h => h) (Or.inl ⟨by rfl, ?h2⟩) hHeld ?r2
        case h2 => (intro w hSw; (try dsimp only at hSw); go_simp; try with_reducible rfl)
        try simp only [Act.put, List.setIfInBounds_toArray, List.set_cons_zero, List.set_cons_succ]
        refine wpAnyH_take (i := 2) (oi := { dst := some 16, op := Go.Op.nilCheck (Go.Operand.tmp 15), type := 0, pos := "l12_names.go:292", after := #[{ on := 1, ground := Go.Ground.data }], guard := none }) (v := ?v3) rfl (by kernel_rfl) (by kernel_rfl) (by kernel_rfl) (fun _ _ _ h => h) (Or.inl ⟨by rfl, ?h3⟩) hHeld ?r3
        case h3 => (intro w hSw; (try dsimp only at hSw); go_simp; try with_reducible rfl)
        try simp only [Act.put, List.setIfInBounds_toArray, List.set_cons_zero, List.set_cons_succ]
        refine wpAnyH_take (i := 3) (oi := { dst := some 17, op := Go.Op.fieldAddr 88 (Go.Operand.tmp 16) 0, type := 0, pos := "l12_names.go:292", after := #[{ on := 2, ground := Go.Ground.data }], guard := none }) (v := ?v4) rfl (by kernel_rfl) (by kernel_rfl) (by kernel_rfl) (fun _ _ _ h => h) (Or.inl ⟨by rfl, ?h4⟩) hHeld ?r4
        case h4 => (intro w hSw; (try dsimp only at hSw); go_simp; try with_reducible rfl)
        try simp only [Act.put, List.setIfInBounds_toArray, List.set_cons_zero, List.set_cons_succ]
        refine wpAnyH_take (i := 4) (oi := { dst := some 18, op := Go.Op.fieldAddr 27 (Go.Operand.tmp 17) 3, type := 0, pos := "l12_names.go:292", after := #[{ on := 3, ground := Go.Ground.data }], guard := none }) (v := ?v5) rfl (by kernel_rfl) (by kernel_rfl) (by kernel_rfl) (fun _ _ _ h => h) (Or.inl ⟨by rfl, ?h5⟩) hHeld ?r5
        case h5 => (intro w hSw; (try dsimp only at hSw); go_simp; try with_reducible rfl)
        try simp only [Act.put, List.setIfInBounds_toArray, List.set_cons_zero, List.set_cons_succ]
        refine wpAnyH_take (i := 6) (oi := { dst := some 20, op := Go.Op.load 3 (Go.Operand.tmp 6), type := 3, pos := "l12_names.go:292", after := #[], guard := none }) (v := ?v6) rfl (by kernel_rfl) (by kernel_rfl) (by kernel_rfl) (fun _ _ _ h => h) (Or.inl ⟨by rfl, ?h6⟩) hHeld ?r6
        case h6 => (intro w hSw; (try dsimp only at hSw); go_simp; try with_reducible rfl)
        try simp only [Act.put, List.setIfInBounds_toArray, List.set_cons_zero, List.set_cons_succ]
        refine wpAnyH_take (i := 7) (oi := { dst := some 21, op := Go.Op.fieldAddr 40 (Go.Operand.tmp 5) 1, type := 0, pos := "l12_names.go:292", after := #[], guard := none }) (v := ?v7) rfl (by kernel_rfl) (by kernel_rfl) (by kernel_rfl) (fun _ _ _ h => h) (Or.inl ⟨by rfl, ?h7⟩) hHeld ?r7
        case h7 => (intro w hSw; (try dsimp only at hSw); go_simp; try with_reducible rfl)
        try simp only [Act.put, List.setIfInBounds_toArray, List.set_cons_zero, List.set_cons_succ]
        refine wpAnyH_take (i := 8) (oi := { dst := some 22, op := Go.Op.load 9 (Go.Operand.tmp 21), type := 9, pos := "l12_names.go:292", after := #[{ on := 7, ground := Go.Ground.data }], guard := none }) (v := ?v8) rfl (by kernel_rfl) (by kernel_rfl) (by kernel_rfl) (fun _ _ _ h => h) (Or.inl ⟨by rfl, ?h8⟩) hHeld ?r8
        case h8 => (intro w hSw; (try dsimp only at hSw); go_simp; try with_reducible rfl)
        try simp only [Act.put, List.setIfInBounds_toArray, List.set_cons_zero, List.set_cons_succ]
        refine wpAnyH_take (i := 9) (oi := { dst := some 23, op := Go.Op.build 33 #[(0, Go.Operand.tmp 20), (1, Go.Operand.tmp 22)], type := 33, pos := "l12_names.go:292", after := #[{ on := 6, ground := Go.Ground.data }, { on := 8, ground := Go.Ground.data }], guard := none }) (v := ?v9) rfl (by kernel_rfl) (by kernel_rfl) (by kernel_rfl) (fun _ _ _ h => h) (Or.inl ⟨by rfl, ?h9⟩) hHeld ?r9
        case h9 => (intro w hSw; (try dsimp only at hSw); go_simp; try with_reducible rfl)
        try simp only [Act.put, List.setIfInBounds_toArray, List.set_cons_zero, List.set_cons_succ]
        refine wpAnyH_ready (rs := [5, 10]) (by kernel_rfl) (by simp) ?_
        refine (AllReadyH.cons (o := { dst := some 19, op := Go.Op.load 25 (Go.Operand.tmp 18), type := 25, pos := "l12_names.go:292", after := #[{ on := 4, ground := Go.Ground.data }], guard := none }) rfl (fun K hK => ?_) (AllReadyH.cons (o := { dst := some 24, op := Go.Op.buildSlice 25 1 #[(0, Go.Operand.tmp 23)], type := 25, pos := "l12_names.go:292", after := #[{ on := 9, ground := Go.Ground.data }], guard := none }) rfl (fun K hK => ?_) AllReadyH.nil))
        · go_simp
          clear hHeld
          refine hK.out _ _ hS0 (fun hHeld => ?_)
          clear hK K
          try simp only [Act.put, List.setIfInBounds_toArray, List.set_cons_zero, List.set_cons_succ]
          refine wpAnyH_ready (rs := [10]) (by kernel_rfl) (by simp) ?_
          refine (AllReadyH.cons (o := { dst := some 24, op := Go.Op.buildSlice 25 1 #[(0, Go.Operand.tmp 23)], type := 25, pos := "l12_names.go:292", after := #[{ on := 9, ground := Go.Ground.data }], guard := none }) rfl (fun K hK => ?_) AllReadyH.nil)
          go_simp
          clear hHeld
          refine hK.out _ _ hS1 (fun hHeld => ?_)
          clear hK K
          try simp only [Act.put, List.setIfInBounds_toArray, List.set_cons_zero, List.set_cons_succ]
          refine wpAnyH_ready (rs := [11]) (by kernel_rfl) (by simp) ?_
          refine (AllReadyH.cons (o := { dst := some 25, op := Go.Op.call { callee := Go.Callee.builtin Go.Builtin.append, args := #[Go.Operand.tmp 19, Go.Operand.tmp 24], argTypes := #[25, 25] }, type := 25, pos := "l12_names.go:292", after := #[{ on := 5, ground := Go.Ground.data }, { on := 10, ground := Go.Ground.data }], guard := none }) rfl (fun K hK => ?_) AllReadyH.nil)
          (refine step_append_lies _ rfl (.tmp 19) (.tmp 24) 25 rfl A 33 i33 _ 2 24 Try.underlying25 hi33 hy0 hy1 hy2 rfl (by decide) (.slice a3 s.rs.length p3) s.rs.length (spL s.rs) (by simp [Act.eval, Act.put]) HO5.out ⟨w1.heap.size, 0, none⟩ 1 1 [.int .i64 (sc : Nat), .string x] (by simp [Act.eval, Act.put]) rfl HNB.out (by intro y hy; simp at hy; rcases hy with rfl | rfl <;> rfl) (by decide) (by unfold maxLen; omega) (by omega) HZ5.out _ HZ6.out ?_; intro g7 cap7 w7 hown7 hgr7 hat7 hlt7; obtain ⟨hS7, f7, f8, hS8, HE7⟩ := HUP.out g7 cap7 w7 hown7 hgr7 hat7; clear hown7 hgr7 hat7 hlt7)
          clear hHeld
          refine hK.out _ _ hS7 (fun hHeld => ?_)
          clear hK K
          try simp only [Act.put, List.setIfInBounds_toArray, List.set_cons_zero, List.set_cons_succ]
          refine wpAnyH_take (i := 12) (oi := { dst := some 26, op := Go.Op.nilCheck (Go.Operand.tmp 14), type := 0, pos := "l12_names.go:292", after := #[{ on := 0, ground := Go.Ground.data }, { on := 0, ground := Go.Ground.phase }, { on := 1, ground := Go.Ground.phase }, { on := 2, ground := Go.Ground.phase }, { on := 3, ground := Go.Ground.phase }, { on := 4, ground := Go.Ground.phase }, { on := 5, ground := Go.Ground.phase }, { on := 6, ground := Go.Ground.phase }, { on := 7, ground := Go.Ground.phase }, { on := 8, ground := Go.Ground.phase }, { on := 9, ground := Go.Ground.phase }, { on := 10, ground := Go.Ground.phase }, { on := 11, ground := Go.Ground.phase }], guard := none }) (v := ?v10) rfl (by kernel_rfl) (by kernel_rfl) (by kernel_rfl) (fun _ _ _ h => h) (Or.inl ⟨by rfl, ?h10⟩) hHeld ?r10
          case h10 => (intro w hSw; (try dsimp only at hSw); go_simp; try with_reducible rfl)
          try simp only [Act.put, List.setIfInBounds_toArray, List.set_cons_zero, List.set_cons_succ]
          refine wpAnyH_take (i := 13) (oi := { dst := some 27, op := Go.Op.fieldAddr 88 (Go.Operand.tmp 26) 0, type := 0, pos := "l12_names.go:292", after := #[{ on := 12, ground := Go.Ground.data }, { on := 0, ground := Go.Ground.phase }, { on := 1, ground := Go.Ground.phase }, { on := 2, ground := Go.Ground.phase }, { on := 3, ground := Go.Ground.phase }, { on := 4, ground := Go.Ground.phase }, { on := 5, ground := Go.Ground.phase }, { on := 6, ground := Go.Ground.phase }, { on := 7, ground := Go.Ground.phase }, { on := 8, ground := Go.Ground.phase }, { on := 9, ground := Go.Ground.phase }, { on := 10, ground := Go.Ground.phase }, { on := 11, ground := Go.Ground.phase }], guard := none }) (v := ?v11) rfl (by kernel_rfl) (by kernel_rfl) (by kernel_rfl) (fun _ _ _ h => h) (Or.inl ⟨by rfl, ?h11⟩) hHeld ?r11
          case h11 => (intro w hSw; (try dsimp only at hSw); go_simp; try with_reducible rfl)
          try simp only [Act.put, List.setIfInBounds_toArray, List.set_cons_zero, List.set_cons_succ]
          refine wpAnyH_take (i := 14) (oi := { dst := some 28, op := Go.Op.fieldAddr 27 (Go.Operand.tmp 27) 3, type := 0, pos := "l12_names.go:292", after := #[{ on := 13, ground := Go.Ground.data }, { on := 0, ground := Go.Ground.phase }, { on := 1, ground := Go.Ground.phase }, { on := 2, ground := Go.Ground.phase }, { on := 3, ground := Go.Ground.phase }, { on := 4, ground := Go.Ground.phase }, { on := 5, ground := Go.Ground.phase }, { on := 6, ground := Go.Ground.phase }, { on := 7, ground := Go.Ground.phase }, { on := 8, ground := Go.Ground.phase }, { on := 9, ground := Go.Ground.phase }, { on := 10, ground := Go.Ground.phase }, { on := 11, ground := Go.Ground.phase }], guard := none }) (v := ?v12) rfl (by kernel_rfl) (by kernel_rfl) (by kernel_rfl) (fun _ _ _ h => h) (Or.inl ⟨by rfl, ?h12⟩) hHeld ?r12
          case h12 => (intro w hSw; (try dsimp only at hSw); go_simp; try with_reducible rfl)
          try simp only [Act.put, List.setIfInBounds_toArray, List.set_cons_zero, List.set_cons_succ]
          refine wpAnyH_ready (rs := [15]) (by kernel_rfl) (by simp) ?_
          refine (AllReadyH.cons (o := { dst := none, op := Go.Op.store 25 (Go.Operand.tmp 28) (Go.Operand.tmp 25), type := 0, pos := "l12_names.go:292", after := #[{ on := 14, ground := Go.Ground.data }, { on := 11, ground := Go.Ground.data }, { on := 11, ground := Go.Ground.chain }, { on := 0, ground := Go.Ground.phase }, { on := 1, ground := Go.Ground.phase }, { on := 2, ground := Go.Ground.phase }, { on := 3, ground := Go.Ground.phase }, { on := 4, ground := Go.Ground.phase }, { on := 5, ground := Go.Ground.phase }, { on := 6, ground := Go.Ground.phase }, { on := 7, ground := Go.Ground.phase }, { on := 8, ground := Go.Ground.phase }, { on := 9, ground := Go.Ground.phase }, { on := 10, ground := Go.Ground.phase }, { on := 11, ground := Go.Ground.phase }], guard := none }) rfl (fun K hK => ?_) AllReadyH.nil)
          go_simp
          clear hHeld
          refine hK.out _ _ hS8 (fun hHeld => ?_)
          clear hK K
          try simp only [Act.put, List.setIfInBounds_toArray, List.set_cons_zero, List.set_cons_succ]
          refine wpAnyH_done (by kernel_rfl) ?_ _
          refine NoPanic.normal ?_
          clear f7 f8 hS7 hS8 hS0 hS1 hHeld
          go_wp2_with fail
          go_meet
          exact ⟨g7, cap7, HE7.out⟩
        · go_simp
          clear hHeld
          refine hK.out _ _ hS1 (fun hHeld => ?_)
          clear hK K
          try simp only [Act.put, List.setIfInBounds_toArray, List.set_cons_zero, List.set_cons_succ]
          refine wpAnyH_ready (rs := [5]) (by kernel_rfl) (by simp) ?_
          refine (AllReadyH.cons (o := { dst := some 19, op := Go.Op.load 25 (Go.Operand.tmp 18), type := 25, pos := "l12_names.go:292", after := #[{ on := 4, ground := Go.Ground.data }], guard := none }) rfl (fun K hK => ?_) AllReadyH.nil)
          go_simp
          clear hHeld
          refine hK.out _ _ hS1 (fun hHeld => ?_)
          clear hK K
          try simp only [Act.put, List.setIfInBounds_toArray, List.set_cons_zero, List.set_cons_succ]
          refine wpAnyH_ready (rs := [11]) (by kernel_rfl) (by simp) ?_
          refine (AllReadyH.cons (o := { dst := some 25, op := Go.Op.call { callee := Go.Callee.builtin Go.Builtin.append, args := #[Go.Operand.tmp 19, Go.Operand.tmp 24], argTypes := #[25, 25] }, type := 25, pos := "l12_names.go:292", after := #[{ on := 5, ground := Go.Ground.data }, { on := 10, ground := Go.Ground.data }], guard := none }) rfl (fun K hK => ?_) AllReadyH.nil)
          (refine step_append_lies _ rfl (.tmp 19) (.tmp 24) 25 rfl A 33 i33 _ 2 24 Try.underlying25 hi33 hy0 hy1 hy2 rfl (by decide) (.slice a3 s.rs.length p3) s.rs.length (spL s.rs) (by simp [Act.eval, Act.put]) HO5.out ⟨w1.heap.size, 0, none⟩ 1 1 [.int .i64 (sc : Nat), .string x] (by simp [Act.eval, Act.put]) rfl HNB.out (by intro y hy; simp at hy; rcases hy with rfl | rfl <;> rfl) (by decide) (by unfold maxLen; omega) (by omega) HZ5.out _ HZ6.out ?_; intro g7 cap7 w7 hown7 hgr7 hat7 hlt7; obtain ⟨hS7, f7, f8, hS8, HE7⟩ := HUP.out g7 cap7 w7 hown7 hgr7 hat7; clear hown7 hgr7 hat7 hlt7)
          clear hHeld
          refine hK.out _ _ hS7 (fun hHeld => ?_)
          clear hK K
          try simp only [Act.put, List.setIfInBounds_toArray, List.set_cons_zero, List.set_cons_succ]
          refine wpAnyH_take (i := 12) (oi := { dst := some 26, op := Go.Op.nilCheck (Go.Operand.tmp 14), type := 0, pos := "l12_names.go:292", after := #[{ on := 0, ground := Go.Ground.data }, { on := 0, ground := Go.Ground.phase }, { on := 1, ground := Go.Ground.phase }, { on := 2, ground := Go.Ground.phase }, { on := 3, ground := Go.Ground.phase }, { on := 4, ground := Go.Ground.phase }, { on := 5, ground := Go.Ground.phase }, { on := 6, ground := Go.Ground.phase }, { on := 7, ground := Go.Ground.phase }, { on := 8, ground := Go.Ground.phase }, { on := 9, ground := Go.Ground.phase }, { on := 10, ground := Go.Ground.phase }, { on := 11, ground := Go.Ground.phase }], guard := none }) (v := ?v13) rfl (by kernel_rfl) (by kernel_rfl) (by kernel_rfl) (fun _ _ _ h => h) (Or.inl ⟨by rfl, ?h13⟩) hHeld ?r13
          case h13 => (intro w hSw; (try dsimp only at hSw); go_simp; try with_reducible rfl)
          try simp only [Act.put, List.setIfInBounds_toArray, List.set_cons_zero, List.set_cons_succ]
          refine wpAnyH_take (i := 13) (oi := { dst := some 27, op := Go.Op.fieldAddr 88 (Go.Operand.tmp 26) 0, type := 0, pos := "l12_names.go:292", after := #[{ on := 12, ground := Go.Ground.data }, { on := 0, ground := Go.Ground.phase }, { on := 1, ground := Go.Ground.phase }, { on := 2, ground := Go.Ground.phase }, { on := 3, ground := Go.Ground.phase }, { on := 4, ground := Go.Ground.phase }, { on := 5, ground := Go.Ground.phase }, { on := 6, ground := Go.Ground.phase }, { on := 7, ground := Go.Ground.phase }, { on := 8, ground := Go.Ground.phase }, { on := 9, ground := Go.Ground.phase }, { on := 10, ground := Go.Ground.phase }, { on := 11, ground := Go.Ground.phase }], guard := none }) (v := ?v14) rfl (by kernel_rfl) (by kernel_rfl) (by kernel_rfl) (fun _ _ _ h => h) (Or.inl ⟨by rfl, ?h14⟩) hHeld ?r14
          case h14 => (intro w hSw; (try dsimp only at hSw); go_simp; try with_reducible rfl)
          try simp only [Act.put, List.setIfInBounds_toArray, List.set_cons_zero, List.set_cons_succ]
          refine wpAnyH_take (i := 14) (oi := { dst := some 28, op := Go.Op.fieldAddr 27 (Go.Operand.tmp 27) 3, type := 0, pos := "l12_names.go:292", after := #[{ on := 13, ground := Go.Ground.data }, { on := 0, ground := Go.Ground.phase }, { on := 1, ground := Go.Ground.phase }, { on := 2, ground := Go.Ground.phase }, { on := 3, ground := Go.Ground.phase }, { on := 4, ground := Go.Ground.phase }, { on := 5, ground := Go.Ground.phase }, { on := 6, ground := Go.Ground.phase }, { on := 7, ground := Go.Ground.phase }, { on := 8, ground := Go.Ground.phase }, { on := 9, ground := Go.Ground.phase }, { on := 10, ground := Go.Ground.phase }, { on := 11, ground := Go.Ground.phase }], guard := none }) (v := ?v15) rfl (by kernel_rfl) (by kernel_rfl) (by kernel_rfl) (fun _ _ _ h => h) (Or.inl ⟨by rfl, ?h15⟩) hHeld ?r15
          case h15 => (intro w hSw; (try dsimp only at hSw); go_simp; try with_reducible rfl)
          try simp only [Act.put, List.setIfInBounds_toArray, List.set_cons_zero, List.set_cons_succ]
          refine wpAnyH_ready (rs := [15]) (by kernel_rfl) (by simp) ?_
          refine (AllReadyH.cons (o := { dst := none, op := Go.Op.store 25 (Go.Operand.tmp 28) (Go.Operand.tmp 25), type := 0, pos := "l12_names.go:292", after := #[{ on := 14, ground := Go.Ground.data }, { on := 11, ground := Go.Ground.data }, { on := 11, ground := Go.Ground.chain }, { on := 0, ground := Go.Ground.phase }, { on := 1, ground := Go.Ground.phase }, { on := 2, ground := Go.Ground.phase }, { on := 3, ground := Go.Ground.phase }, { on := 4, ground := Go.Ground.phase }, { on := 5, ground := Go.Ground.phase }, { on := 6, ground := Go.Ground.phase }, { on := 7, ground := Go.Ground.phase }, { on := 8, ground := Go.Ground.phase }, { on := 9, ground := Go.Ground.phase }, { on := 10, ground := Go.Ground.phase }, { on := 11, ground := Go.Ground.phase }], guard := none }) rfl (fun K hK => ?_) AllReadyH.nil)
          go_simp
          clear hHeld
          refine hK.out _ _ hS8 (fun hHeld => ?_)
          clear hK K
          try simp only [Act.put, List.setIfInBounds_toArray, List.set_cons_zero, List.set_cons_succ]
          refine wpAnyH_done (by kernel_rfl) ?_ _
          refine NoPanic.normal ?_
          clear f7 f8 hS7 hS8 hS0 hS1 hHeld
          go_wp2_with fail
          go_meet
          exact ⟨g7, cap7, HE7.out⟩
      case rest =>
        obtain ⟨g7, cap7, HT2⟩ := hcut
        have hc3 : ∃ c3 : CV, Hid (Th A q w.heap.size n x l (.slice a k.length cap) sc (Value.slice pa p.length pc) p w s c wc { s with rs := s.rs ++ [⟨sc, x⟩] } c3 (fun _ => False)) := ⟨_, HT2⟩
        clear HT2 HUP HO5 HNB HZ5 HZ6 hS0 hS1 cL cL2 cL3
        obtain ⟨c3, HT2⟩ := hc3
        have HC3 := (show Hid (Co wc A q 88 { s with rs := s.rs ++ [⟨sc, x⟩] } c3) from HT2.out.st.co)
        obtain ⟨_, _, _, _, ⟨a5, p5, e5⟩⟩ := HC3.out.form
        dsimp only at e5
        have cL : wc.cell? ⟨q, 5, none⟩ = some (.slice a5 s.rp.length p5) := by
          have := HC3.out.bx.cell 5 (by simp)
          rw [← e5]
          exact this
        obtain ⟨t1, _, _, _, _, _, t7⟩ := HT2.out.cells
        have hbd3 := (Below.refl wc.heap.size wc).drew
        have hT0 : (fun wq : World => wq.cell? ⟨w.heap.size, 0, none⟩ = some (.pointer (some ⟨q, 0, none⟩)) ∧ wq.cell? ⟨w.heap.size + 1 + 1 + 1, 0, none⟩ = some (Value.slice pa p.length pc)) wc.drew := ⟨t1, t7⟩
        have hn0 : ¬ CV.B c3 q { s with rs := s.rs ++ [⟨sc, x⟩] } w.heap.size := HT2.out.off _ (by omega) (by omega)
        have hn3 : ¬ CV.B c3 q { s with rs := s.rs ++ [⟨sc, x⟩] } (w.heap.size + 1 + 1 + 1) := HT2.out.off _ (by omega) (by omega)
        have HAZ := (show Hid (A ≤ wc.heap.size) from by show A ≤ _; have h1 := HC3.out.hq; have h2 := HC3.out.bx.lt; omega)
        have HDN := (show Hid (Calls Try.prog 98 #[(Value.slice pa p.length pc)] wc.drew fun e w' => ∃ (ua : Option Addr) (uc : Nat), e = .returned (.slice ua p.length uc) ∧ Below wc.drew.heap.size wc.drew w' ∧ w'.ownsRow wc.drew.heap.size 3 1 (.slice ua p.length uc) p.length (nums p)) from clone98 p (Value.slice pa p.length pc) wc.drew (own_keep1 HT2.out.row (fun b' e => hbd3.block b' (World.ownsRow.lt HT2.out.row b' e).2)) HPL.out)
        have HUQ := (show Hid (∀ (w7 : World) (ua : Option Addr) (uc : Nat), Below wc.drew.heap.size wc.drew w7 → w7.ownsRow wc.drew.heap.size 3 1 (.slice ua p.length uc) p.length (nums p) → (fun wq : World => wq.cell? ⟨w.heap.size, 0, none⟩ = some (.pointer (some ⟨q, 0, none⟩)) ∧ wq.cell? ⟨w.heap.size + 1 + 1 + 1, 0, none⟩ = some (Value.slice pa p.length pc)) w7 ∧ (fun wq : World => wq.cell? ⟨w.heap.size, 0, none⟩ = some (.pointer (some ⟨q, 0, none⟩)) ∧ wq.cell? ⟨w.heap.size + 1 + 1 + 1, 0, none⟩ = some (Value.slice pa p.length pc)) (w7.alloc (.cells #[.slice ua p.length uc] 34)) ∧ w7.cell? ⟨q, 5, none⟩ = some (.slice a5 s.rp.length p5) ∧ (w7.alloc (.cells #[.slice ua p.length uc] 34)).cell? ⟨q, 5, none⟩ = some (.slice a5 s.rp.length p5) ∧
            Hid ((w7.alloc (.cells #[.slice ua p.length uc] 34)).ownsRow A 34 1 (.slice a5 s.rp.length p5) s.rp.length (slv c3.R s.rp.length)) ∧ Hid (∀ j u, ([.slice ua p.length uc] : List Value)[j]? = some u → (w7.alloc (.cells #[.slice ua p.length uc] 34)).cell? ((⟨w7.heap.size, 0, none⟩ : Addr).add j) = some u) ∧ Hid (A ≤ (w7.alloc (.cells #[.slice ua p.length uc] 34)).heap.size) ∧ Hid ((w7.alloc (.cells #[.slice ua p.length uc] 34)).heap.size = w7.heap.size + 1) ∧
            Hid (∀ (g8 cap8 : Nat) (w8 : World), w8.ownsRow A 34 1 (.slice (some ⟨g8, 0, none⟩) (s.rp.length + 1) cap8) (s.rp.length + 1) (slv c3.R s.rp.length ++ [.slice ua p.length uc]) → (w7.alloc (.cells #[.slice ua p.length uc] 34)).grownBy w8 (Value.slice a5 s.rp.length p5).ownBlock → ((Value.slice a5 s.rp.length p5).ownBlock = some g8 ∨ g8 = w7.heap.size + 1) →
              (fun wq : World => wq.cell? ⟨w.heap.size, 0, none⟩ = some (.pointer (some ⟨q, 0, none⟩)) ∧ wq.cell? ⟨w.heap.size + 1 + 1 + 1, 0, none⟩ = some (Value.slice pa p.length pc)) w8 ∧ w8.cell? ⟨q, 5, none⟩ = some (.slice a5 s.rp.length p5) ∧ w8.frozen? ⟨q, 5, none⟩ = false ∧ (fun wq : World => wq.cell? ⟨w.heap.size, 0, none⟩ = some (.pointer (some ⟨q, 0, none⟩)) ∧ wq.cell? ⟨w.heap.size + 1 + 1 + 1, 0, none⟩ = some (Value.slice pa p.length pc)) (w8.setCell ⟨q, 5, none⟩ (.slice (some ⟨g8, 0, none⟩) (s.rp.length + 1) cap8)) ∧ ∃ c1, Hid (Th A q w.heap.size n x l (.slice a k.length cap) sc (Value.slice pa p.length pc) p w s c (w8.setCell ⟨q, 5, none⟩ (.slice (some ⟨g8, 0, none⟩) (s.rp.length + 1) cap8)) (wS1 n x l sc p s) c1 (fun _ => False)))) from fun w7 ua uc hb7 ho7 => by
            have hbA := bel_alloc w7 (.cells #[.slice ua p.length uc] 34)
            have hb3 : Below wc.heap.size wc (w7.alloc (.cells #[.slice ua p.length uc] 34)) := (hbd3.trans (hb7.mono (Nat.le_refl _))).trans (hbA.mono hb7.size)
            have hz3 := HAZ.out
            have hsz3 := hb3.size
            have h7 := (hbd3.trans (hb7.mono (Nat.le_refl _)))
            refine ⟨⟨(h7.cell (lt_of_cell t1)).trans t1, (h7.cell (lt_of_cell t7)).trans t7⟩, ⟨(hb3.cell (lt_of_cell t1)).trans t1, (hb3.cell (lt_of_cell t7)).trans t7⟩, (h7.cell (lt_of_cell cL)).trans cL, (hb3.cell (lt_of_cell cL)).trans cL, ?_, World.news_of_block (blk_alloc_new w7 _), (show A ≤ _ from by omega), (show _ = _ from by simp), fun g8 cap8 w8 h1 h2 h3 => ?_⟩
            · have := own_keep1 HC3.out.rp.out (fun b' e => hb3.block b' (World.ownsRow.lt HC3.out.rp.out b' e).2)
              rw [e5] at this
              exact this
            · rw [← e5] at h2 h3
              have hu := own_baseS (own_keep1 ho7 (fun b' e => hbA.block b' (World.ownsRow.lt ho7 b' e).2)) hz3
              have hgn : ∀ b', (Value.slice ua p.length uc).ownBlock = some b' → wc.heap.size ≤ b' := fun b' e => (World.ownsRow.lt ho7 b' e).1
              obtain ⟨u, st⟩ := HC3.out.upRp (xs := p) hb3 hu (fun b' e e2 => by
                have h1 := (HC3.out.lt b' e2).2
                have := hgn b' e
                omega) h1 h2 (h3.imp id (fun e => by rw [e]; simp))
              obtain ⟨u1, u2⟩ := u.keepC t1 hn0
              obtain ⟨u3, u4⟩ := u.keepC t7 hn3
              have st' := st.fresh hgn
              refine ⟨⟨u1, u3⟩, by rw [← e5]; exact u.cell, u.froz, ⟨u2, u4⟩, ?_⟩
              rw [HWS.out]
              exact ⟨_, HT2.out.step st'⟩)
        clear hbd3 HAZ hn0 hn3 t1 t7 e5 HC3 HT2 HWS HID HDC HCELL HK HA HIH HT HR HLI HSW
        go_wp2_with fail
        refine wp_region_noPanic ?_
        refine wp_region_held_drew (S := (fun wq : World => wq.cell? ⟨w.heap.size, 0, none⟩ = some (.pointer (some ⟨q, 0, none⟩)) ∧ wq.cell? ⟨w.heap.size + 1 + 1 + 1, 0, none⟩ = some (Value.slice pa p.length pc))) (by kernel_rfl) hT0 (fun hHeld => ?_)
        refine wpAnyH_take (i := 0) (oi := { dst := some 29, op := Go.Op.load 125 (Go.Operand.tmp 4), type := 125, pos := "l12_names.go:293", after := #[], guard := none }) (v := ?v16) rfl (by kernel_rfl) (by kernel_rfl) (by kernel_rfl) (fun _ _ _ h => h) (Or.inl ⟨by rfl, ?h16⟩) hHeld ?r16
        case h16 => (intro w hSw; (try dsimp only at hSw); go_simp; try with_reducible rfl)
        try simp only [Act.put, List.setIfInBounds_toArray, List.set_cons_zero, List.set_cons_succ]
        refine wpAnyH_take (i := 1) (oi := { dst := some 30, op := Go.Op.load 125 (Go.Operand.tmp 4), type := 125, pos := "l12_names.go:293", after := #[], guard := none }) (v := ?v17) rfl (by kernel_rfl) (by kernel_rfl) (by kernel_rfl) (fun _ _ _ h => h) (Or.inl ⟨by rfl, ?h17⟩) hHeld ?r17
        case h17 => (intro w hSw; (try dsimp only at hSw); go_simp; try with_reducible rfl)
        try simp only [Act.put, List.setIfInBounds_toArray, List.set_cons_zero, List.set_cons_succ]
        refine wpAnyH_take (i := 2) (oi := { dst := some 31, op := Go.Op.nilCheck (Go.Operand.tmp 30), type := 0, pos := "l12_names.go:293", after := #[{ on := 1, ground := Go.Ground.data }], guard := none }) (v := ?v18) rfl (by kernel_rfl) (by kernel_rfl) (by kernel_rfl) (fun _ _ _ h => h) (Or.inl ⟨by rfl, ?h18⟩) hHeld ?r18
        case h18 => (intro w hSw; (try dsimp only at hSw); go_simp; try with_reducible rfl)
        try simp only [Act.put, List.setIfInBounds_toArray, List.set_cons_zero, List.set_cons_succ]
        refine wpAnyH_take (i := 3) (oi := { dst := some 32, op := Go.Op.fieldAddr 88 (Go.Operand.tmp 31) 2, type := 0, pos := "l12_names.go:293", after := #[{ on := 2, ground := Go.Ground.data }], guard := none }) (v := ?v19) rfl (by kernel_rfl) (by kernel_rfl) (by kernel_rfl) (fun _ _ _ h => h) (Or.inl ⟨by rfl, ?h19⟩) hHeld ?r19
        case h19 => (intro w hSw; (try dsimp only at hSw); go_simp; try with_reducible rfl)
        try simp only [Act.put, List.setIfInBounds_toArray, List.set_cons_zero, List.set_cons_succ]
        refine wpAnyH_take (i := 5) (oi := { dst := some 34, op := Go.Op.load 34 (Go.Operand.tmp 7), type := 34, pos := "l12_names.go:293", after := #[], guard := none }) (v := ?v20) rfl (by kernel_rfl) (by kernel_rfl) (by kernel_rfl) (fun _ _ _ h => h) (Or.inl ⟨by rfl, ?h20⟩) hHeld ?r20
        case h20 => (intro w hSw; (try dsimp only at hSw); go_simp; try with_reducible rfl)
        try simp only [Act.put, List.setIfInBounds_toArray, List.set_cons_zero, List.set_cons_succ]
        refine wpAnyH_ready (rs := [4, 6]) (by kernel_rfl) (by simp) ?_
        refine (AllReadyH.cons (o := { dst := some 33, op := Go.Op.load 42 (Go.Operand.tmp 32), type := 42, pos := "l12_names.go:293", after := #[{ on := 3, ground := Go.Ground.data }], guard := none }) rfl (fun K hK => ?_) (AllReadyH.cons (o := { dst := some 35, op := Go.Op.call { callee := Go.Callee.value (Go.Operand.func 98), args := #[Go.Operand.tmp 34], argTypes := #[34] }, type := 34, pos := "l12_names.go:293", after := #[{ on := 5, ground := Go.Ground.data }], guard := none }) rfl (fun K hK => ?_) AllReadyH.nil))
        · go_simp
          clear hHeld
          refine hK.out _ _ hT0 (fun hHeld => ?_)
          clear hK K
          try simp only [Act.put, List.setIfInBounds_toArray, List.set_cons_zero, List.set_cons_succ]
          refine wpAnyH_ready (rs := [6]) (by kernel_rfl) (by simp) ?_
          refine (AllReadyH.cons (o := { dst := some 35, op := Go.Op.call { callee := Go.Callee.value (Go.Operand.func 98), args := #[Go.Operand.tmp 34], argTypes := #[34] }, type := 34, pos := "l12_names.go:293", after := #[{ on := 5, ground := Go.Ground.data }], guard := none }) rfl (fun K hK => ?_) AllReadyH.nil)
          go_simp
          go_at_call 98
          refine Calls.mono HDN.out ?_
          rintro e w7 ⟨ua, uc, rfl, hb7, ho7⟩
          dsimp only
          obtain ⟨hT7, hT8, cQ, cQ2, HOQ, HNQ, HZQ, HZR, HUR⟩ := HUQ.out w7 ua uc hb7 ho7
          clear hb7 ho7
          clear hHeld
          refine hK.out _ _ hT7 (fun hHeld => ?_)
          clear hK K
          try simp only [Act.put, List.setIfInBounds_toArray, List.set_cons_zero, List.set_cons_succ]
          refine wpAnyH_ready (rs := [7]) (by kernel_rfl) (by simp) ?_
          refine (AllReadyH.cons (o := { dst := some 36, op := Go.Op.buildSlice 42 1 #[(0, Go.Operand.tmp 35)], type := 42, pos := "l12_names.go:293", after := #[{ on := 6, ground := Go.Ground.data }], guard := none }) rfl (fun K hK => ?_) AllReadyH.nil)
          go_simp
          clear hHeld
          refine hK.out _ _ hT8 (fun hHeld => ?_)
          clear hK K
          try simp only [Act.put, List.setIfInBounds_toArray, List.set_cons_zero, List.set_cons_succ]
          refine wpAnyH_ready (rs := [8]) (by kernel_rfl) (by simp) ?_
          refine (AllReadyH.cons (o := { dst := some 37, op := Go.Op.call { callee := Go.Callee.builtin Go.Builtin.append, args := #[Go.Operand.tmp 33, Go.Operand.tmp 36], argTypes := #[42, 42] }, type := 42, pos := "l12_names.go:293", after := #[{ on := 4, ground := Go.Ground.data }, { on := 7, ground := Go.Ground.data }, { on := 6, ground := Go.Ground.chain }], guard := none }) rfl (fun K hK => ?_) AllReadyH.nil)
          (refine step_append_lies _ rfl (.tmp 33) (.tmp 36) 42 rfl A 34 i34 _ 1 24 Try.underlying42 hi34 hz0 hz1 hz2 rfl (by decide) (.slice a5 s.rp.length p5) s.rp.length (slv c3.R s.rp.length) (by simp [Act.eval, Act.put]) HOQ.out ⟨w7.heap.size, 0, none⟩ 1 1 [.slice ua p.length uc] (by simp [Act.eval, Act.put]) rfl HNQ.out (by intro y hy; simp at hy; subst hy; rfl) (by decide) (by unfold maxLen; omega) (by omega) HZQ.out _ HZR.out ?_; intro g8 cap8 w8 hown8 hgr8 hat8 hlt8; obtain ⟨hT9, f7, f8, hT10, HE8⟩ := HUR.out g8 cap8 w8 hown8 hgr8 hat8; clear hown8 hgr8 hat8 hlt8)
          clear hHeld
          refine hK.out _ _ hT9 (fun hHeld => ?_)
          clear hK K
          try simp only [Act.put, List.setIfInBounds_toArray, List.set_cons_zero, List.set_cons_succ]
          refine wpAnyH_take (i := 9) (oi := { dst := some 38, op := Go.Op.nilCheck (Go.Operand.tmp 29), type := 0, pos := "l12_names.go:293", after := #[{ on := 0, ground := Go.Ground.data }, { on := 0, ground := Go.Ground.phase }, { on := 1, ground := Go.Ground.phase }, { on := 2, ground := Go.Ground.phase }, { on := 3, ground := Go.Ground.phase }, { on := 4, ground := Go.Ground.phase }, { on := 5, ground := Go.Ground.phase }, { on := 6, ground := Go.Ground.phase }, { on := 7, ground := Go.Ground.phase }, { on := 8, ground := Go.Ground.phase }], guard := none }) (v := ?v21) rfl (by kernel_rfl) (by kernel_rfl) (by kernel_rfl) (fun _ _ _ h => h) (Or.inl ⟨by rfl, ?h21⟩) hHeld ?r21
          case h21 => (intro w hSw; (try dsimp only at hSw); go_simp; try with_reducible rfl)
          try simp only [Act.put, List.setIfInBounds_toArray, List.set_cons_zero, List.set_cons_succ]
          refine wpAnyH_take (i := 10) (oi := { dst := some 39, op := Go.Op.fieldAddr 88 (Go.Operand.tmp 38) 2, type := 0, pos := "l12_names.go:293", after := #[{ on := 9, ground := Go.Ground.data }, { on := 0, ground := Go.Ground.phase }, { on := 1, ground := Go.Ground.phase }, { on := 2, ground := Go.Ground.phase }, { on := 3, ground := Go.Ground.phase }, { on := 4, ground := Go.Ground.phase }, { on := 5, ground := Go.Ground.phase }, { on := 6, ground := Go.Ground.phase }, { on := 7, ground := Go.Ground.phase }, { on := 8, ground := Go.Ground.phase }], guard := none }) (v := ?v22) rfl (by kernel_rfl) (by kernel_rfl) (by kernel_rfl) (fun _ _ _ h => h) (Or.inl ⟨by rfl, ?h22⟩) hHeld ?r22
          case h22 => (intro w hSw; (try dsimp only at hSw); go_simp; try with_reducible rfl)
          try simp only [Act.put, List.setIfInBounds_toArray, List.set_cons_zero, List.set_cons_succ]
          refine wpAnyH_ready (rs := [11]) (by kernel_rfl) (by simp) ?_
          refine (AllReadyH.cons (o := { dst := none, op := Go.Op.store 42 (Go.Operand.tmp 39) (Go.Operand.tmp 37), type := 0, pos := "l12_names.go:293", after := #[{ on := 10, ground := Go.Ground.data }, { on := 8, ground := Go.Ground.data }, { on := 8, ground := Go.Ground.chain }, { on := 0, ground := Go.Ground.phase }, { on := 1, ground := Go.Ground.phase }, { on := 2, ground := Go.Ground.phase }, { on := 3, ground := Go.Ground.phase }, { on := 4, ground := Go.Ground.phase }, { on := 5, ground := Go.Ground.phase }, { on := 6, ground := Go.Ground.phase }, { on := 7, ground := Go.Ground.phase }, { on := 8, ground := Go.Ground.phase }], guard := none }) rfl (fun K hK => ?_) AllReadyH.nil)
          go_simp
          clear hHeld
          refine hK.out _ _ hT10 (fun hHeld => ?_)
          clear hK K
          try simp only [Act.put, List.setIfInBounds_toArray, List.set_cons_zero, List.set_cons_succ]
          refine wpAnyH_done (by kernel_rfl) ?_ _
          refine NoPanic.normal ?_
          clear f7 f8 hHeld cQ cQ2 hT9 hT10 hT7 hT8
          go_wp2_with fail
          go_meet
          exact HE8
        · skip
          go_simp
          go_at_call 98
          refine Calls.mono HDN.out ?_
          rintro e w7 ⟨ua, uc, rfl, hb7, ho7⟩
          dsimp only
          obtain ⟨hT7, hT8, cQ, cQ2, HOQ, HNQ, HZQ, HZR, HUR⟩ := HUQ.out w7 ua uc hb7 ho7
          clear hb7 ho7
          clear hHeld
          refine hK.out _ _ hT7 (fun hHeld => ?_)
          clear hK K
          try simp only [Act.put, List.setIfInBounds_toArray, List.set_cons_zero, List.set_cons_succ]
          refine wpAnyH_ready (rs := [4, 7]) (by kernel_rfl) (by simp) ?_
          refine (AllReadyH.cons (o := { dst := some 33, op := Go.Op.load 42 (Go.Operand.tmp 32), type := 42, pos := "l12_names.go:293", after := #[{ on := 3, ground := Go.Ground.data }], guard := none }) rfl (fun K hK => ?_) (AllReadyH.cons (o := { dst := some 36, op := Go.Op.buildSlice 42 1 #[(0, Go.Operand.tmp 35)], type := 42, pos := "l12_names.go:293", after := #[{ on := 6, ground := Go.Ground.data }], guard := none }) rfl (fun K hK => ?_) AllReadyH.nil))
          · go_simp
            clear hHeld
            refine hK.out _ _ hT7 (fun hHeld => ?_)
            clear hK K
            try simp only [Act.put, List.setIfInBounds_toArray, List.set_cons_zero, List.set_cons_succ]
            refine wpAnyH_ready (rs := [7]) (by kernel_rfl) (by simp) ?_
            refine (AllReadyH.cons (o := { dst := some 36, op := Go.Op.buildSlice 42 1 #[(0, Go.Operand.tmp 35)], type := 42, pos := "l12_names.go:293", after := #[{ on := 6, ground := Go.Ground.data }], guard := none }) rfl (fun K hK => ?_) AllReadyH.nil)
            go_simp
            clear hHeld
            refine hK.out _ _ hT8 (fun hHeld => ?_)
            clear hK K
            try simp only [Act.put, List.setIfInBounds_toArray, List.set_cons_zero, List.set_cons_succ]
            refine wpAnyH_ready (rs := [8]) (by kernel_rfl) (by simp) ?_
            refine (AllReadyH.cons (o := { dst := some 37, op := Go.Op.call { callee := Go.Callee.builtin Go.Builtin.append, args := #[Go.Operand.tmp 33, Go.Operand.tmp 36], argTypes := #[42, 42] }, type := 42, pos := "l12_names.go:293", after := #[{ on := 4, ground := Go.Ground.data }, { on := 7, ground := Go.Ground.data }, { on := 6, ground := Go.Ground.chain }], guard := none }) rfl (fun K hK => ?_) AllReadyH.nil)
            (refine step_append_lies _ rfl (.tmp 33) (.tmp 36) 42 rfl A 34 i34 _ 1 24 Try.underlying42 hi34 hz0 hz1 hz2 rfl (by decide) (.slice a5 s.rp.length p5) s.rp.length (slv c3.R s.rp.length) (by simp [Act.eval, Act.put]) HOQ.out ⟨w7.heap.size, 0, none⟩ 1 1 [.slice ua p.length uc] (by simp [Act.eval, Act.put]) rfl HNQ.out (by intro y hy; simp at hy; subst hy; rfl) (by decide) (by unfold maxLen; omega) (by omega) HZQ.out _ HZR.out ?_; intro g8 cap8 w8 hown8 hgr8 hat8 hlt8; obtain ⟨hT9, f7, f8, hT10, HE8⟩ := HUR.out g8 cap8 w8 hown8 hgr8 hat8; clear hown8 hgr8 hat8 hlt8)
            clear hHeld
            refine hK.out _ _ hT9 (fun hHeld => ?_)
            clear hK K
            try simp only [Act.put, List.setIfInBounds_toArray, List.set_cons_zero, List.set_cons_succ]
            refine wpAnyH_take (i := 9) (oi := { dst := some 38, op := Go.Op.nilCheck (Go.Operand.tmp 29), type := 0, pos := "l12_names.go:293", after := #[{ on := 0, ground := Go.Ground.data }, { on := 0, ground := Go.Ground.phase }, { on := 1, ground := Go.Ground.phase }, { on := 2, ground := Go.Ground.phase }, { on := 3, ground := Go.Ground.phase }, { on := 4, ground := Go.Ground.phase }, { on := 5, ground := Go.Ground.phase }, { on := 6, ground := Go.Ground.phase }, { on := 7, ground := Go.Ground.phase }, { on := 8, ground := Go.Ground.phase }], guard := none }) (v := ?v23) rfl (by kernel_rfl) (by kernel_rfl) (by kernel_rfl) (fun _ _ _ h => h) (Or.inl ⟨by rfl, ?h23⟩) hHeld ?r23
            case h23 => (intro w hSw; (try dsimp only at hSw); go_simp; try with_reducible rfl)
            try simp only [Act.put, List.setIfInBounds_toArray, List.set_cons_zero, List.set_cons_succ]
            refine wpAnyH_take (i := 10) (oi := { dst := some 39, op := Go.Op.fieldAddr 88 (Go.Operand.tmp 38) 2, type := 0, pos := "l12_names.go:293", after := #[{ on := 9, ground := Go.Ground.data }, { on := 0, ground := Go.Ground.phase }, { on := 1, ground := Go.Ground.phase }, { on := 2, ground := Go.Ground.phase }, { on := 3, ground := Go.Ground.phase }, { on := 4, ground := Go.Ground.phase }, { on := 5, ground := Go.Ground.phase }, { on := 6, ground := Go.Ground.phase }, { on := 7, ground := Go.Ground.phase }, { on := 8, ground := Go.Ground.phase }], guard := none }) (v := ?v24) rfl (by kernel_rfl) (by kernel_rfl) (by kernel_rfl) (fun _ _ _ h => h) (Or.inl ⟨by rfl, ?h24⟩) hHeld ?r24
            case h24 => (intro w hSw; (try dsimp only at hSw); go_simp; try with_reducible rfl)
            try simp only [Act.put, List.setIfInBounds_toArray, List.set_cons_zero, List.set_cons_succ]
            refine wpAnyH_ready (rs := [11]) (by kernel_rfl) (by simp) ?_
            refine (AllReadyH.cons (o := { dst := none, op := Go.Op.store 42 (Go.Operand.tmp 39) (Go.Operand.tmp 37), type := 0, pos := "l12_names.go:293", after := #[{ on := 10, ground := Go.Ground.data }, { on := 8, ground := Go.Ground.data }, { on := 8, ground := Go.Ground.chain }, { on := 0, ground := Go.Ground.phase }, { on := 1, ground := Go.Ground.phase }, { on := 2, ground := Go.Ground.phase }, { on := 3, ground := Go.Ground.phase }, { on := 4, ground := Go.Ground.phase }, { on := 5, ground := Go.Ground.phase }, { on := 6, ground := Go.Ground.phase }, { on := 7, ground := Go.Ground.phase }, { on := 8, ground := Go.Ground.phase }], guard := none }) rfl (fun K hK => ?_) AllReadyH.nil)
            go_simp
            clear hHeld
            refine hK.out _ _ hT10 (fun hHeld => ?_)
            clear hK K
            try simp only [Act.put, List.setIfInBounds_toArray, List.set_cons_zero, List.set_cons_succ]
            refine wpAnyH_done (by kernel_rfl) ?_ _
            refine NoPanic.normal ?_
            clear f7 f8 hHeld cQ cQ2 hT9 hT10 hT7 hT8
            go_wp2_with fail
            go_meet
            exact HE8
          · go_simp
            clear hHeld
            refine hK.out _ _ hT8 (fun hHeld => ?_)
            clear hK K
            try simp only [Act.put, List.setIfInBounds_toArray, List.set_cons_zero, List.set_cons_succ]
            refine wpAnyH_ready (rs := [4]) (by kernel_rfl) (by simp) ?_
            refine (AllReadyH.cons (o := { dst := some 33, op := Go.Op.load 42 (Go.Operand.tmp 32), type := 42, pos := "l12_names.go:293", after := #[{ on := 3, ground := Go.Ground.data }], guard := none }) rfl (fun K hK => ?_) AllReadyH.nil)
            go_simp
            clear hHeld
            refine hK.out _ _ hT8 (fun hHeld => ?_)
            clear hK K
            try simp only [Act.put, List.setIfInBounds_toArray, List.set_cons_zero, List.set_cons_succ]
            refine wpAnyH_ready (rs := [8]) (by kernel_rfl) (by simp) ?_
            refine (AllReadyH.cons (o := { dst := some 37, op := Go.Op.call { callee := Go.Callee.builtin Go.Builtin.append, args := #[Go.Operand.tmp 33, Go.Operand.tmp 36], argTypes := #[42, 42] }, type := 42, pos := "l12_names.go:293", after := #[{ on := 4, ground := Go.Ground.data }, { on := 7, ground := Go.Ground.data }, { on := 6, ground := Go.Ground.chain }], guard := none }) rfl (fun K hK => ?_) AllReadyH.nil)
            (refine step_append_lies _ rfl (.tmp 33) (.tmp 36) 42 rfl A 34 i34 _ 1 24 Try.underlying42 hi34 hz0 hz1 hz2 rfl (by decide) (.slice a5 s.rp.length p5) s.rp.length (slv c3.R s.rp.length) (by simp [Act.eval, Act.put]) HOQ.out ⟨w7.heap.size, 0, none⟩ 1 1 [.slice ua p.length uc] (by simp [Act.eval, Act.put]) rfl HNQ.out (by intro y hy; simp at hy; subst hy; rfl) (by decide) (by unfold maxLen; omega) (by omega) HZQ.out _ HZR.out ?_; intro g8 cap8 w8 hown8 hgr8 hat8 hlt8; obtain ⟨hT9, f7, f8, hT10, HE8⟩ := HUR.out g8 cap8 w8 hown8 hgr8 hat8; clear hown8 hgr8 hat8 hlt8)
            clear hHeld
            refine hK.out _ _ hT9 (fun hHeld => ?_)
            clear hK K
            try simp only [Act.put, List.setIfInBounds_toArray, List.set_cons_zero, List.set_cons_succ]
            refine wpAnyH_take (i := 9) (oi := { dst := some 38, op := Go.Op.nilCheck (Go.Operand.tmp 29), type := 0, pos := "l12_names.go:293", after := #[{ on := 0, ground := Go.Ground.data }, { on := 0, ground := Go.Ground.phase }, { on := 1, ground := Go.Ground.phase }, { on := 2, ground := Go.Ground.phase }, { on := 3, ground := Go.Ground.phase }, { on := 4, ground := Go.Ground.phase }, { on := 5, ground := Go.Ground.phase }, { on := 6, ground := Go.Ground.phase }, { on := 7, ground := Go.Ground.phase }, { on := 8, ground := Go.Ground.phase }], guard := none }) (v := ?v25) rfl (by kernel_rfl) (by kernel_rfl) (by kernel_rfl) (fun _ _ _ h => h) (Or.inl ⟨by rfl, ?h25⟩) hHeld ?r25
            case h25 => (intro w hSw; (try dsimp only at hSw); go_simp; try with_reducible rfl)
            try simp only [Act.put, List.setIfInBounds_toArray, List.set_cons_zero, List.set_cons_succ]
            refine wpAnyH_take (i := 10) (oi := { dst := some 39, op := Go.Op.fieldAddr 88 (Go.Operand.tmp 38) 2, type := 0, pos := "l12_names.go:293", after := #[{ on := 9, ground := Go.Ground.data }, { on := 0, ground := Go.Ground.phase }, { on := 1, ground := Go.Ground.phase }, { on := 2, ground := Go.Ground.phase }, { on := 3, ground := Go.Ground.phase }, { on := 4, ground := Go.Ground.phase }, { on := 5, ground := Go.Ground.phase }, { on := 6, ground := Go.Ground.phase }, { on := 7, ground := Go.Ground.phase }, { on := 8, ground := Go.Ground.phase }], guard := none }) (v := ?v26) rfl (by kernel_rfl) (by kernel_rfl) (by kernel_rfl) (fun _ _ _ h => h) (Or.inl ⟨by rfl, ?h26⟩) hHeld ?r26
            case h26 => (intro w hSw; (try dsimp only at hSw); go_simp; try with_reducible rfl)
            try simp only [Act.put, List.setIfInBounds_toArray, List.set_cons_zero, List.set_cons_succ]
            refine wpAnyH_ready (rs := [11]) (by kernel_rfl) (by simp) ?_
            refine (AllReadyH.cons (o := { dst := none, op := Go.Op.store 42 (Go.Operand.tmp 39) (Go.Operand.tmp 37), type := 0, pos := "l12_names.go:293", after := #[{ on := 10, ground := Go.Ground.data }, { on := 8, ground := Go.Ground.data }, { on := 8, ground := Go.Ground.chain }, { on := 0, ground := Go.Ground.phase }, { on := 1, ground := Go.Ground.phase }, { on := 2, ground := Go.Ground.phase }, { on := 3, ground := Go.Ground.phase }, { on := 4, ground := Go.Ground.phase }, { on := 5, ground := Go.Ground.phase }, { on := 6, ground := Go.Ground.phase }, { on := 7, ground := Go.Ground.phase }, { on := 8, ground := Go.Ground.phase }], guard := none }) rfl (fun K hK => ?_) AllReadyH.nil)
            go_simp
            clear hHeld
            refine hK.out _ _ hT10 (fun hHeld => ?_)
            clear hK K
            try simp only [Act.put, List.setIfInBounds_toArray, List.set_cons_zero, List.set_cons_succ]
            refine wpAnyH_done (by kernel_rfl) ?_ _
            refine NoPanic.normal ?_
            clear f7 f8 hHeld cQ cQ2 hT9 hT10 hT7 hT8
            go_wp2_with fail
            go_meet
            exact HE8
  case rest =>
    obtain ⟨c1, HT1'⟩ := hcut
    have HSZ2 := (show Hid ((wS2 n k sc p (wS1 n x l sc p s)).sz ≤ s.sz + 4) from s2_sz HT.out sc p s)
    have HS1 := (show Hid (T.dclB n = true → wS1 n x l sc p s = s) from fun hd => by
      obtain ⟨rfl, _⟩ := dcl_kids HT.out hd
      unfold wS1
      rfl)
    have hA1 := bel_alloc wc (.cells #[.int .i64 (sc : Nat)] 3)
    have HWI := (show Hid (∀ w', Below (wc.alloc (.cells #[.int .i64 (sc : Nat)] 3)).heap.size (wc.alloc (.cells #[.int .i64 (sc : Nat)] 3)) w' → Th A q w.heap.size n x l (.slice a k.length cap) sc (Value.slice pa p.length pc) p w s c w' (wS1 n x l sc p s) c1 (fun _ => False) ∧ Box w' wc.heap.size 3 [.int .i64 (sc : Nat)] ∧ ¬ c1.B q (wS1 n x l sc p s) wc.heap.size ∧ w.heap.size + 4 ≤ wc.heap.size) from fun w' hb =>
      ⟨(HT1'.out.still hA1).still hb, (Box.new wc 3 [.int .i64 (sc : Nat)]).still hb, fun e => by have := (HT1'.out.st.co.lt _ e).2; omega, HT1'.out.zw.2⟩)
    have t6 := HT1'.out.cells.2.2.2.2.2.1
    have y0 := (HT1'.out.still hA1).cells.2.1
    have y1 := (HT1'.out.still hA1).cells.2.2.1
    have y2 := (HT1'.out.still hA1).cells.2.2.2.1
    have y3 := (HT1'.out.still hA1).cells.2.2.2.2.1
    clear hA1 HT1'
    go_wp2_with fail
    refine Calls.mono (HDC.out _) ?_
    rintro e w5 ⟨rfl, hb5⟩
    have HT5 := (show Hid _ from HWI.out w5 hb5)
    clear HWI hb5 t6 y0 y1 y2 y3
    generalize wc.heap.size = zb at *
    go_upto_if 42 with fail
    go_cut [] from 42 to 53 (fun wx => ∃ c2, Hid (Th A q w.heap.size n x l (.slice a k.length cap) sc (Value.slice pa p.length pc) p w s c wx (wS2 n k sc p (wS1 n x l sc p s)) c2 (fun b => (Value.slice pa p.length pc).ownBlock = some b) ∧ Box wx zb 3 [.int .i64 ((wN n sc s : Nat) : Int)] ∧ ¬ c2.B q (wS2 n k sc p (wS1 n x l sc p s)) zb ∧ w.heap.size + 4 ≤ zb))
    case first =>
      cases hd : T.dclB n
      · have HM := (show Hid (Th A q w.heap.size n x l (.slice a k.length cap) sc (Value.slice pa p.length pc) p w s c w5 (wS2 n k sc p (wS1 n x l sc p s)) c1 (fun b => (Value.slice pa p.length pc).ownBlock = some b) ∧ Box w5 zb 3 [.int .i64 ((wN n sc s : Nat) : Int)] ∧ ¬ c1.B q (wS2 n k sc p (wS1 n x l sc p s)) zb ∧ w.heap.size + 4 ≤ zb) from by
          have e1 : wS2 n k sc p (wS1 n x l sc p s) = wS1 n x l sc p s := by unfold wS2; rw [hd]; rfl
          have e2 : wN n sc s = sc := by unfold wN; rw [hd]; rfl
          rw [e1, e2]
          exact ⟨HT5.out.1.toP, HT5.out.2⟩)
        clear hd HDC HT5 HS1 HSZ2
        go_wp2_with fail
        go_meet
        exact ⟨c1, HM.out⟩
      · obtain ⟨i3, hi3, hzz⟩ := Option.map_eq_some_iff.1 info3s
        simp only [Prod.mk.injEq] at hzz
        obtain ⟨hz0, hz1, hz2⟩ := hzz
        obtain ⟨hlf, hk2, _⟩ := dcl_kids HT.out hd
        subst hlf
        obtain ⟨rfl, hbA⟩ := HA.out (by omega)
        have HS2 := (show Hid (wS2 n k sc p (wS1 n x false sc p s) = s.dcl (nm0 k) sc p ∧ wN n sc s = s.n ∧ wS1 n x false sc p s = s) from ⟨by unfold wS2; rw [hd, HS1.out hd]; rfl, by unfold wN; rw [hd]; rfl, HS1.out hd⟩)
        have hx0e : (k[0]'(by omega)).text = nm0 k := by
          unfold nm0
          cases k with
          | nil => simp at hk2
          | cons t k => rfl
        generalize nm0 k = x0 at *
        rw [HS2.out.2.2] at HT5
        have hzw := HT5.out.1.zw
        have hco := HT5.out.1.st.co
        have hlow : Below A w w5 := HT5.out.1.st.low' HCO0.out (fun _ e => e.elim)
        have cK : w5.cell? ⟨b, off + 1, none⟩ = some (.string x0) := by
          have := (HCELL.out 0 (by omega)).2.1
          rw [hx0e] at this
          simp only [Nat.zero_mul, Nat.add_zero] at this
          exact (World.cell?_of_block (w := w) (hlow.block b hbA)).trans this
        have hpA : ∀ b', (Value.slice pa p.length pc).ownBlock = some b' → A ≤ b' := fun b' e => (World.ownsRow.lt HT5.out.1.row b' e).1
        have hb6 : Below w5.heap.size w5 (w5.drew.alloc (.cells #[.int .i64 0] 3)) := bel_trans (Below.drew (Below.refl _ _)) (bel_alloc _ _)
        obtain ⟨t1, _, _, _, t5, t6, t7⟩ := HT5.out.1.cells
        have t8 : w5.cell? ⟨zb, 0, none⟩ = some (.int .i64 (sc : Nat)) := HT5.out.2.1.cell 0 (by simp)
        have hu0 : (w5.drew.alloc (.cells #[.int .i64 0] 3)).cell? ⟨w5.heap.size, 0, none⟩ = some (.int .i64 0) := by simp [go_sem]
        have HPP := (show Hid (∀ (pv' : Value) (w8 : World), OneMore A (Value.slice pa p.length pc) pv' p.length (nums p) (.int .i64 0) (w5.drew.alloc (.cells #[.int .i64 0] 3)) w8 → (fun wq : World => wq.cell? ⟨w.heap.size, 0, none⟩ = some (.pointer (some ⟨q, 0, none⟩)) ∧ wq.cell? ⟨w.heap.size + 1, 3, none⟩ = some (.slice (some ⟨b, off, none⟩) k.length cap) ∧ wq.cell? ⟨b, off + 1, none⟩ = some (.string x0) ∧ wq.cell? ⟨w.heap.size + 1 + 1, 0, none⟩ = some (.int .i64 (sc : Nat)) ∧ wq.cell? ⟨w.heap.size + 1 + 1 + 1, 0, none⟩ = some (Value.slice pa p.length pc)) w8 ∧ Hid (Calls Try.prog 100 #[.pointer (some ⟨q, 0, none⟩), .string x0, .int .i64 (sc : Nat), pv'] w8 fun e w9 => e = .returned (.int .i64 (s.n : Nat)) ∧ (fun wq : World => wq.cell? ⟨w.heap.size, 0, none⟩ = some (.pointer (some ⟨q, 0, none⟩)) ∧ wq.cell? ⟨w.heap.size + 1, 3, none⟩ = some (.slice (some ⟨b, off, none⟩) k.length cap) ∧ wq.cell? ⟨b, off + 1, none⟩ = some (.string x0) ∧ wq.cell? ⟨w.heap.size + 1 + 1, 0, none⟩ = some (.int .i64 (sc : Nat)) ∧ wq.cell? ⟨w.heap.size + 1 + 1 + 1, 0, none⟩ = some (Value.slice pa p.length pc)) w9 ∧ w9.cell? ⟨zb, 0, none⟩ = some (.int .i64 (sc : Nat)) ∧ w9.frozen? ⟨zb, 0, none⟩ = false ∧ (fun wq : World => wq.cell? ⟨w.heap.size, 0, none⟩ = some (.pointer (some ⟨q, 0, none⟩)) ∧ wq.cell? ⟨w.heap.size + 1, 3, none⟩ = some (.slice (some ⟨b, off, none⟩) k.length cap) ∧ wq.cell? ⟨b, off + 1, none⟩ = some (.string x0) ∧ wq.cell? ⟨w.heap.size + 1 + 1, 0, none⟩ = some (.int .i64 (sc : Nat)) ∧ wq.cell? ⟨w.heap.size + 1 + 1 + 1, 0, none⟩ = some (Value.slice pa p.length pc)) (w9.setCell ⟨zb, 0, none⟩ (.int .i64 (s.n : Nat))) ∧
            ∃ c2, Hid (Th A q w.heap.size n x false (.slice (some ⟨b, off, none⟩) k.length cap) sc (Value.slice pa p.length pc) p w s c (w9.setCell ⟨zb, 0, none⟩ (.int .i64 (s.n : Nat))) (wS2 n k sc p (wS1 n x false sc p s)) c2 (fun b => (Value.slice pa p.length pc).ownBlock = some b) ∧ Box (w9.setCell ⟨zb, 0, none⟩ (.int .i64 (s.n : Nat))) zb 3 [.int .i64 ((wN n sc s : Nat) : Int)] ∧ ¬ c2.B q (wS2 n k sc p (wS1 n x false sc p s)) zb ∧ w.heap.size + 4 ≤ zb))) from fun pv' w8 h1 => by
            obtain ⟨g1, g2, g3, g4, g5, g6⟩ := path_push (j := 0) hco HT5.out.1.row (fun b' e => (HT5.out.1.pn b' e).1) hb6 h1
            have hbz := HT5.out.2.1.lt
            have hz4 := HT5.out.2.2.2
            have hbw := HSW.out b hbA
            have kp : ∀ {b' o} {u : Value}, w5.cell? ⟨b', o, none⟩ = some u → (∀ b2, (Value.slice pa p.length pc).ownBlock = some b2 → b2 ≠ b') → w8.cell? ⟨b', o, none⟩ = some u := fun {b' o u} hc hne => (World.cell?_of_block (w := w5) (g4 b' (lt_of_cell hc) (fun e => hne _ e rfl))).trans hc
            have pz : ∀ b2, (Value.slice pa p.length pc).ownBlock = some b2 → b2 < w.heap.size := fun b2 e => (HT5.out.1.pn b2 e).2
            have S8 : (fun wq : World => wq.cell? ⟨w.heap.size, 0, none⟩ = some (.pointer (some ⟨q, 0, none⟩)) ∧ wq.cell? ⟨w.heap.size + 1, 3, none⟩ = some (.slice (some ⟨b, off, none⟩) k.length cap) ∧ wq.cell? ⟨b, off + 1, none⟩ = some (.string x0) ∧ wq.cell? ⟨w.heap.size + 1 + 1, 0, none⟩ = some (.int .i64 (sc : Nat)) ∧ wq.cell? ⟨w.heap.size + 1 + 1 + 1, 0, none⟩ = some (Value.slice pa p.length pc)) w8 := ⟨kp t1 (fun b2 e => by have := pz b2 e; omega), kp t5 (fun b2 e => by have := pz b2 e; omega), kp cK (fun b2 e => by have := hpA b2 e; omega), kp t6 (fun b2 e => by have := pz b2 e; omega), kp t7 (fun b2 e => by have := pz b2 e; omega)⟩
            have bz8 : Box w8 zb 3 [.int .i64 (sc : Nat)] := HT5.out.2.1.keep (g4 zb hbz (fun e => by have := pz _ e; omega))
            refine ⟨S8, ?_⟩
            refine Calls.mono (declare100 x0 (p ++ [0]) pv' sc s c1 w8 g1 g2 g3 (by omega) (by simp; omega) hsc) ?_
            rintro e w9 ⟨rfl, c2, st⟩
            have st9 := g6 w9 _ c2 (st.mono (fun _ e => e.elim) (fun _ e => e)) (own_keep1 g2 (fun b' e => st.fm.block b' (World.ownsRow.lt g2 b' e).2 (fun e2 => e2.elim (g3 b' e) id)))
            have th9 := HT5.out.1.stepP st9.1 st9.2
            have hnz : ¬ c1.B q s zb := HT5.out.2.2.1
            have kq : ∀ {b' o} {u : Value}, w8.cell? ⟨b', o, none⟩ = some u → ¬ c1.B q s b' → w9.cell? ⟨b', o, none⟩ = some u := fun {b' o u} hc hne => (World.cell?_of_block (w := w8) (st.fm.block b' (lt_of_cell hc) (fun e => e.elim hne id))).trans hc
            have hoff := HT5.out.1.off
            have S9 : (fun wq : World => wq.cell? ⟨w.heap.size, 0, none⟩ = some (.pointer (some ⟨q, 0, none⟩)) ∧ wq.cell? ⟨w.heap.size + 1, 3, none⟩ = some (.slice (some ⟨b, off, none⟩) k.length cap) ∧ wq.cell? ⟨b, off + 1, none⟩ = some (.string x0) ∧ wq.cell? ⟨w.heap.size + 1 + 1, 0, none⟩ = some (.int .i64 (sc : Nat)) ∧ wq.cell? ⟨w.heap.size + 1 + 1 + 1, 0, none⟩ = some (Value.slice pa p.length pc)) w9 := ⟨kq S8.1 (hoff _ (by omega) (by omega)), kq S8.2.1 (hoff _ (by omega) (by omega)), kq S8.2.2.1 (fun e => by have := (hco.lt b e).1; omega), kq S8.2.2.2.1 (hoff _ (by omega) (by omega)), kq S8.2.2.2.2 (hoff _ (by omega) (by omega))⟩
            have bz9 : Box w9 zb 3 [.int .i64 (sc : Nat)] := bz8.keep (st.fm.block zb bz8.lt (fun e => e.elim hnz id))
            have hn2 : ¬ c2.B q (s.dclP x0 sc (p ++ [0])) zb := fun e => by
              rcases st.nb zb e with e | e | e
              · exact hnz e
              · exact e
              · have := bz8.lt; omega
            have hA9 : ∀ {b' o} {u : Value}, w9.cell? ⟨b', o, none⟩ = some u → b' ≠ zb → (w9.setCell ⟨zb, 0, none⟩ (.int .i64 (s.n : Nat))).cell? ⟨b', o, none⟩ = some u := fun {b' o u} hc hne => (World.cell?_of_block (w := w9) (blk_setCell_other _ _ _ _ (by show b' ≠ zb; exact hne))).trans hc
            have hbz2 : b ≠ zb := by have := HSW.out b hbA; omega
            refine ⟨rfl, S9, bz9.cell 0 (by simp), bz9.frozen 0, ⟨hA9 S9.1 (by omega), hA9 S9.2.1 (by omega), hA9 S9.2.2.1 hbz2, hA9 S9.2.2.2.1 (by omega), hA9 S9.2.2.2.2 (by omega)⟩, c2, ?_⟩
            rw [HS2.out.1, HS2.out.2.1]
            exact ⟨th9.set HT5.out.2.2.2 hn2 bz9.lt, bz9.set 0 _, hn2, HT5.out.2.2.2⟩)
        have hS0 : (fun wq : World => wq.cell? ⟨w.heap.size, 0, none⟩ = some (.pointer (some ⟨q, 0, none⟩)) ∧ wq.cell? ⟨w.heap.size + 1, 3, none⟩ = some (.slice (some ⟨b, off, none⟩) k.length cap) ∧ wq.cell? ⟨b, off + 1, none⟩ = some (.string x0) ∧ wq.cell? ⟨w.heap.size + 1 + 1, 0, none⟩ = some (.int .i64 (sc : Nat)) ∧ wq.cell? ⟨w.heap.size + 1 + 1 + 1, 0, none⟩ = some (Value.slice pa p.length pc)) w5.drew := ⟨t1, t5, cK, t6, t7⟩
        have hS1 : (fun wq : World => wq.cell? ⟨w.heap.size, 0, none⟩ = some (.pointer (some ⟨q, 0, none⟩)) ∧ wq.cell? ⟨w.heap.size + 1, 3, none⟩ = some (.slice (some ⟨b, off, none⟩) k.length cap) ∧ wq.cell? ⟨b, off + 1, none⟩ = some (.string x0) ∧ wq.cell? ⟨w.heap.size + 1 + 1, 0, none⟩ = some (.int .i64 (sc : Nat)) ∧ wq.cell? ⟨w.heap.size + 1 + 1 + 1, 0, none⟩ = some (Value.slice pa p.length pc)) (w5.drew.alloc (.cells #[.int .i64 0] 3)) := ⟨(hb6.cell (lt_of_cell t1)).trans t1, (hb6.cell (lt_of_cell t5)).trans t5, (hb6.cell (lt_of_cell cK)).trans cK, (hb6.cell (lt_of_cell t6)).trans t6, (hb6.cell (lt_of_cell t7)).trans t7⟩
        have HPR := (show Hid ((w5.drew.alloc (.cells #[.int .i64 0] 3)).ownsRow A 3 1 (Value.slice pa p.length pc) p.length (nums p)) from own_keep1 HT5.out.1.row (fun b' e => hb6.block b' (World.ownsRow.lt HT5.out.1.row b' e).2))
        have hAw : A ≤ (w5.drew.alloc (.cells #[.int .i64 0] 3)).heap.size := by have h1 := hco.hq; have h2 := hco.bx.lt; have h3 := hb6.size; omega
        have HAW := (show Hid _ from hAw)
        have HU0 := (show Hid _ from hu0)
        have hpl6 : p.length ≤ 100000 := by omega
        have hkl0 : 0 < k.length := by omega
        clear hx0e hzw hco hlow cK hpA hb6 t1 t5 t6 t7 t8 hu0 hAw HT5 HS1 HSZ2 HDC HCELL HK HA HIH HT HR HLI hd hsz hdp hkl hlo
        go_wp2_with fail
        refine wp_region_noPanic ?_
        refine wp_region_held_drew (S := (fun wq : World => wq.cell? ⟨w.heap.size, 0, none⟩ = some (.pointer (some ⟨q, 0, none⟩)) ∧ wq.cell? ⟨w.heap.size + 1, 3, none⟩ = some (.slice (some ⟨b, off, none⟩) k.length cap) ∧ wq.cell? ⟨b, off + 1, none⟩ = some (.string x0) ∧ wq.cell? ⟨w.heap.size + 1 + 1, 0, none⟩ = some (.int .i64 (sc : Nat)) ∧ wq.cell? ⟨w.heap.size + 1 + 1 + 1, 0, none⟩ = some (Value.slice pa p.length pc))) (by kernel_rfl) hS0 (fun hHeld => ?_)
        refine wpAnyH_take (i := 0) (oi := { dst := some 43, op := Go.Op.load 125 (Go.Operand.tmp 4), type := 125, pos := "l12_names.go:297", after := #[], guard := none }) (v := ?v27) rfl (by kernel_rfl) (by kernel_rfl) (by kernel_rfl) (fun _ _ _ h => h) (Or.inl ⟨by rfl, ?h27⟩) hHeld ?r27
        case h27 => (intro w hSw; (try dsimp only at hSw); go_simp; try with_reducible rfl)
        try simp only [Act.put, List.setIfInBounds_toArray, List.set_cons_zero, List.set_cons_succ]
        refine wpAnyH_take (i := 1) (oi := { dst := some 44, op := Go.Op.fieldAddr 40 (Go.Operand.tmp 5) 3, type := 0, pos := "l12_names.go:297", after := #[], guard := none }) (v := ?v28) rfl (by kernel_rfl) (by kernel_rfl) (by kernel_rfl) (fun _ _ _ h => h) (Or.inl ⟨by rfl, ?h28⟩) hHeld ?r28
        case h28 => (intro w hSw; (try dsimp only at hSw); go_simp; try with_reducible rfl)
        try simp only [Act.put, List.setIfInBounds_toArray, List.set_cons_zero, List.set_cons_succ]
        refine wpAnyH_take (i := 2) (oi := { dst := some 45, op := Go.Op.load 38 (Go.Operand.tmp 44), type := 38, pos := "l12_names.go:297", after := #[{ on := 1, ground := Go.Ground.data }], guard := none }) (v := ?v29) rfl (by kernel_rfl) (by kernel_rfl) (by kernel_rfl) (fun _ _ _ h => h) (Or.inl ⟨by rfl, ?h29⟩) hHeld ?r29
        case h29 => (intro w hSw; (try dsimp only at hSw); go_simp; try with_reducible rfl)
        try simp only [Act.put, List.setIfInBounds_toArray, List.set_cons_zero, List.set_cons_succ]
        refine wpAnyH_take (i := 3) (oi := { dst := some 46, op := Go.Op.indexAddr 38 (Go.Operand.tmp 45) (Go.Operand.const (Go.Value.int Go.IntKind.i64 0)), type := 0, pos := "l12_names.go:297", after := #[{ on := 2, ground := Go.Ground.data }], guard := none }) (v := ?v30) rfl (by kernel_rfl) (by kernel_rfl) (by kernel_rfl) (fun _ _ _ h => h) (Or.inl ⟨by rfl, ?h30⟩) hHeld ?r30
        case h30 => (intro w hSw; (try dsimp only at hSw); go_simp; try with_reducible rfl)
        try simp only [Act.put, List.setIfInBounds_toArray, List.set_cons_zero, List.set_cons_succ]
        refine wpAnyH_take (i := 4) (oi := { dst := some 47, op := Go.Op.fieldAddr 40 (Go.Operand.tmp 46) 1, type := 0, pos := "l12_names.go:297", after := #[{ on := 3, ground := Go.Ground.data }], guard := none }) (v := ?v31) rfl (by kernel_rfl) (by kernel_rfl) (by kernel_rfl) (fun _ _ _ h => h) (Or.inl ⟨by rfl, ?h31⟩) hHeld ?r31
        case h31 => (intro w hSw; (try dsimp only at hSw); go_simp; try with_reducible rfl)
        try simp only [Act.put, List.setIfInBounds_toArray, List.set_cons_zero, List.set_cons_succ]
        refine wpAnyH_take (i := 5) (oi := { dst := some 48, op := Go.Op.load 9 (Go.Operand.tmp 47), type := 9, pos := "l12_names.go:297", after := #[{ on := 4, ground := Go.Ground.data }], guard := none }) (v := ?v32) rfl (by kernel_rfl) (by kernel_rfl) (by kernel_rfl) (fun _ _ _ h => h) (Or.inl ⟨by rfl, ?h32⟩) hHeld ?r32
        case h32 => (intro w hSw; (try dsimp only at hSw); go_simp; try with_reducible rfl)
        try simp only [Act.put, List.setIfInBounds_toArray, List.set_cons_zero, List.set_cons_succ]
        refine wpAnyH_take (i := 6) (oi := { dst := some 49, op := Go.Op.load 3 (Go.Operand.tmp 6), type := 3, pos := "l12_names.go:297", after := #[], guard := none }) (v := ?v33) rfl (by kernel_rfl) (by kernel_rfl) (by kernel_rfl) (fun _ _ _ h => h) (Or.inl ⟨by rfl, ?h33⟩) hHeld ?r33
        case h33 => (intro w hSw; (try dsimp only at hSw); go_simp; try with_reducible rfl)
        try simp only [Act.put, List.setIfInBounds_toArray, List.set_cons_zero, List.set_cons_succ]
        refine wpAnyH_take (i := 7) (oi := { dst := some 50, op := Go.Op.load 34 (Go.Operand.tmp 7), type := 34, pos := "l12_names.go:297", after := #[], guard := none }) (v := ?v34) rfl (by kernel_rfl) (by kernel_rfl) (by kernel_rfl) (fun _ _ _ h => h) (Or.inl ⟨by rfl, ?h34⟩) hHeld ?r34
        case h34 => (intro w hSw; (try dsimp only at hSw); go_simp; try with_reducible rfl)
        try simp only [Act.put, List.setIfInBounds_toArray, List.set_cons_zero, List.set_cons_succ]
        refine wpAnyH_ready (rs := [8]) (by kernel_rfl) (by simp) ?_
        refine (AllReadyH.cons (o := { dst := some 51, op := Go.Op.buildSlice 34 1 #[(0, Go.Operand.const (Go.Value.int Go.IntKind.i64 0))], type := 34, pos := "l12_names.go:297", after := #[], guard := none }) rfl (fun K hK => ?_) AllReadyH.nil)
        go_simp
        clear hHeld
        refine hK.out _ _ hS1 (fun hHeld => ?_)
        clear hK K
        try simp only [Act.put, List.setIfInBounds_toArray, List.set_cons_zero, List.set_cons_succ]
        refine wpAnyH_ready (rs := [9]) (by kernel_rfl) (by simp) ?_
        refine (AllReadyH.cons (o := { dst := some 52, op := Go.Op.call { callee := Go.Callee.builtin Go.Builtin.append, args := #[Go.Operand.tmp 50, Go.Operand.tmp 51], argTypes := #[34, 34] }, type := 34, pos := "l12_names.go:297", after := #[{ on := 7, ground := Go.Ground.data }, { on := 8, ground := Go.Ground.data }], guard := none }) rfl (fun K hK => ?_) AllReadyH.nil)
        (refine step_append_one _ rfl (.tmp 50) (.tmp 51) 34 rfl A i3 _ 8 Try.underlying34 hi3 hz0 hz1 hz2 rfl (Value.slice pa p.length pc) p.length (nums p) (by simp [Act.eval, Act.put]) HPR.out ⟨w5.heap.size, 0, none⟩ 1 (.int .i64 0) (by simp [Act.eval, Act.put]) HU0.out rfl (by unfold maxLen; omega) (by omega) HAW.out ?_; intro pv' w8 h18; obtain ⟨hS8, HDE⟩ := HPP.out pv' w8 h18; clear h18)
        clear hHeld
        refine hK.out _ _ hS8 (fun hHeld => ?_)
        clear hK K
        try simp only [Act.put, List.setIfInBounds_toArray, List.set_cons_zero, List.set_cons_succ]
        refine wpAnyH_ready (rs := [10]) (by kernel_rfl) (by simp) ?_
        refine (AllReadyH.cons (o := { dst := some 53, op := Go.Op.call { callee := Go.Callee.value (Go.Operand.func 100), args := #[Go.Operand.tmp 43, Go.Operand.tmp 48, Go.Operand.tmp 49, Go.Operand.tmp 52], argTypes := #[125, 9, 3, 34] }, type := 3, pos := "l12_names.go:297", after := #[{ on := 0, ground := Go.Ground.data }, { on := 5, ground := Go.Ground.data }, { on := 6, ground := Go.Ground.data }, { on := 9, ground := Go.Ground.data }, { on := 9, ground := Go.Ground.chain }], guard := none }) rfl (fun K hK => ?_) AllReadyH.nil)
        go_simp
        go_at_call 100
        refine Calls.mono HDE.out ?_
        rintro e w9 ⟨rfl, hS9, z9, f9, hS10, HE9⟩
        dsimp only
        clear hHeld
        refine hK.out _ _ hS9 (fun hHeld => ?_)
        clear hK K
        try simp only [Act.put, List.setIfInBounds_toArray, List.set_cons_zero, List.set_cons_succ]
        refine wpAnyH_ready (rs := [11]) (by kernel_rfl) (by simp) ?_
        refine (AllReadyH.cons (o := { dst := none, op := Go.Op.store 3 (Go.Operand.tmp 8) (Go.Operand.tmp 53), type := 0, pos := "l12_names.go:297", after := #[{ on := 10, ground := Go.Ground.data }, { on := 10, ground := Go.Ground.chain }, { on := 0, ground := Go.Ground.phase }, { on := 1, ground := Go.Ground.phase }, { on := 2, ground := Go.Ground.phase }, { on := 3, ground := Go.Ground.phase }, { on := 4, ground := Go.Ground.phase }, { on := 5, ground := Go.Ground.phase }, { on := 6, ground := Go.Ground.phase }, { on := 7, ground := Go.Ground.phase }, { on := 8, ground := Go.Ground.phase }, { on := 9, ground := Go.Ground.phase }, { on := 10, ground := Go.Ground.phase }], guard := none }) rfl (fun K hK => ?_) AllReadyH.nil)
        go_simp
        clear hHeld
        refine hK.out _ _ hS10 (fun hHeld => ?_)
        clear hK K
        try simp only [Act.put, List.setIfInBounds_toArray, List.set_cons_zero, List.set_cons_succ]
        refine wpAnyH_done (by kernel_rfl) ?_ _
        refine NoPanic.normal ?_
        clear z9 f9 hHeld hS9 hS10 hS8 hS1 hS0
        go_wp2_with fail
        go_meet
        exact HE9
    case rest =>
      obtain ⟨c2, HT6⟩ := hcut
      have HFE := (show Hid (∀ j y (hy : y < k.length), y = loF n + j → ∀ sa, sa = (if inS n k.length y = true then wIn n s else sc) → fS n k sc (wIn n s) p (wS2 n k sc p (wS1 n x l sc p s)) (j + 1) = sw k[y] sa (p ++ [y]) (fS n k sc (wIn n s) p (wS2 n k sc p (wS1 n x l sc p s)) j) ∧ (fS n k sc (wIn n s) p (wS2 n k sc p (wS1 n x l sc p s)) j).sz + 4 * (k[y]).cnt ≤ 100000 ∧ (p ++ [y]).length + (k[y]).deep ≤ 100000 ∧ sa ≤ 100000 ∧ T.tm k[y] = true ∧ (k[y]).right = true) from fun j y hy e sa hsa => by
        have h1 := fS_sz (sc := sc) (inn := wIn n s) (p := p) (s2 := wS2 n k sc p (wS1 n x l sc p s)) e hy
        have h2 := HSZ2.out
        have h3 := deepL_at k y hy
        refine ⟨by rw [hsa]; exact fS_succ e hy, by omega, by simp; omega, ?_, (few_kids HT.out HR.out).2 y hy, right_kid HR.out y hy⟩
        rw [hsa]
        unfold wIn
        have : s.n ≤ s.sz := by unfold Sw.sz; omega
        split <;> (try split) <;> omega)
      have HFA := (show Hid (fS n k sc (wIn n s) p (wS2 n k sc p (wS1 n x l sc p s)) (k.length - loF n) = swJ (T.dclB n) sc (wIn n s) p k k.length (wS2 n k sc p (wS1 n x l sc p s)) ∧ fS n k sc (wIn n s) p (wS2 n k sc p (wS1 n x l sc p s)) 0 = wS2 n k sc p (wS1 n x l sc p s)) from ⟨fS_all hlo, fS_zero _ _ _ _ _ _⟩)
      have HIN := (show Hid (∀ y, inS n k.length y = true → wN n sc s = wIn n s) from fun y hy => by
        have hd : T.dclB n = true := by unfold inS at hy; rw [Bool.and_eq_true] at hy; exact hy.1
        unfold wN wIn
        rw [if_pos hd, if_pos hd])
      generalize hF : fS n k sc (wIn n s) p (wS2 n k sc p (wS1 n x l sc p s)) = F at *
      generalize hs2e : wS2 n k sc p (wS1 n x l sc p s) = s2 at *
      have HS2E := (show Hid (wS2 n k sc p (wS1 n x l sc p s) = s2) from hs2e)
      clear hs2e hF HSZ2 HS1 HDC HT HR HT5 hsz hdp
      obtain ⟨y0, y1, y2, y3⟩ := (show _ ∧ _ ∧ _ ∧ _ from ⟨HT6.out.1.cells.2.1, HT6.out.1.cells.2.2.1, HT6.out.1.cells.2.2.2.1, HT6.out.1.cells.2.2.2.2.1⟩)
      go_wp2_with fail
      refine Calls.mono (parts101 n x l a k.length cap wc) ?_
      rintro e w7 ⟨rfl, hw7⟩
      rw [hw7]
      clear hw7 w7 y0 y1 y2 y3
      have HV := (show Hid (Th A q w.heap.size n x l (.slice a k.length cap) sc (Value.slice pa p.length pc) p w s c (wc.alloc (.cells #[.string n, .string x, .bool l, .slice a k.length cap] 40)) s2 c2 (fun b => (Value.slice pa p.length pc).ownBlock = some b) ∧ Box (wc.alloc (.cells #[.string n, .string x, .bool l, .slice a k.length cap] 40)) zb 3 [.int .i64 ((wN n sc s : Nat) : Int)] ∧ ¬ c2.B q s2 zb ∧ w.heap.size + 4 ≤ zb ∧ Box (wc.alloc (.cells #[.string n, .string x, .bool l, .slice a k.length cap] 40)) wc.heap.size 40 [.string n, .string x, .bool l, .slice a k.length cap] ∧ ¬ c2.B q s2 wc.heap.size ∧ wc.heap.size + 1 = (wc.alloc (.cells #[.string n, .string x, .bool l, .slice a k.length cap] 40)).heap.size ∧ zb < wc.heap.size) from by
        have hb := bel_alloc wc (.cells #[.string n, .string x, .bool l, .slice a k.length cap] 40)
        exact ⟨HT6.out.1.still hb, HT6.out.2.1.still hb, HT6.out.2.2.1, HT6.out.2.2.2, Box.new wc 40 _, fun e => by have := (HT6.out.1.st.co.lt _ e).2; omega, by simp, HT6.out.2.1.lt⟩)
      clear HT6
      generalize (wc.alloc (.cells #[.string n, .string x, .bool l, .slice a k.length cap] 40)) = V at *
      generalize wc.heap.size = bp at *
      obtain ⟨f, hf⟩ : ∃ f : Nat → Option Addr × Nat × Nat, ∀ i (hi : i < k.length), sv i = .slice (f i).1 (f i).2.1 (f i).2.2 :=
        ⟨fun i => match sv i with
          | .slice a c d => (a, c, d)
          | _ => (none, 0, 0), fun i hi => by
            obtain ⟨a', c', d', e⟩ := (HK.out i hi).form
            simp only [e]⟩
      have HFF := (show Hid (∀ i (hi : i < k.length), sv i = .slice (f i).1 (f i).2.1 (f i).2.2) from hf)
      have HPV := (show Hid (∀ b', (Value.slice pa p.length pc).ownBlock = some b' → b' < V.heap.size) from fun b' e => by have := (HV.out.1.pn b' e).2; have := HV.out.1.zw; omega)
      have H0 := (show Hid (ThI A q V s2 c2 (Value.slice pa p.length pc) p F [] V) from ⟨⟨c2, by
        rw [List.length_nil, HFA.out.2]
        exact ⟨St.below HV.out.1.st.co (Below.refl _ _), fun b' hb' => .inl (HV.out.1.st.co.lt b' hb').2⟩⟩, HV.out.1.row⟩)
      have HLW := (show Hid (Below A w V) from HV.out.1.st.low' HCO0.out (fun b' e => (World.ownsRow.lt HV.out.1.row b' e).1))
      have HAV := (show Hid (A ≤ V.heap.size) from by show A ≤ _; have h1 := HV.out.1.st.co.hq; have h2 := HV.out.1.st.co.bx.lt; omega)
      clear hf
      go_wp2_with fail
      refine (wpIn_wide (n := 5)).1 ?_
      refine wpIn_rangeD (α := Nat) rfl (by omega) (gf := 116) (lb := #[.pointer (some ⟨bp, 0, none⟩)]) rfl trivial (enters_of Try.func116 (by kernel_rfl) rfl) (encs := kdE k f) (fun _ => rfl) (TQ A q (Value.slice pa p.length pc).ownBlock) (KdX (loF n) k.length) (ThI A q V s2 c2 (Value.slice pa p.length pc) p F) ThI.bears ?hT H0.out (S := fun xs => xs = tdL (loF n) (k.length - loF n)) ?hseq ?hround ?hdone
      case hT =>
        intro s' W b' h ht
        exact (h.tq HPV.out ht).2.1
      case hseq =>
        intro J W hbW hsz hJI hJb hY hJ0
        have hV := HV.out.2
        have hJB : ∀ W W', J [] W → Below W.heap.size W W' → J [] W' := fun W W' hj hb => (hJb [] W W' none hj (grown_bel hb) (fun r e => by cases e)).1
        by_cases hk0 : 0 < k.length
        · obtain ⟨hae, hbA⟩ := HA.out hk0
          have hAv := HAV.out
          refine parts116 (b := b) (off := off) (cap := cap) (bp := bp) n x l a k f (TQ A q (Value.slice pa p.length pc).ownBlock) J (fun s' W' q' hj ht => ?_) (by omega) (by omega) hJB (fun m pre y W1 hj hx => yield_any (hY pre y W1 hj hx)) _ W (fun i hi => ?_) (fun _ => hae) (hV.2.2.2.1.still hbW) hJ0 (by omega) hlo hc hmx
          · have h1 := (hJI s' W' hj).tq HPV.out ht
            refine ⟨by omega, fun e => ?_⟩
            rcases h1.2.2 (by omega) with e2 | e2
            · exact hV.2.2.2.2.1 (e ▸ e2)
            · have := (HV.out.1.pn _ e2).2; omega
          · rw [← HFF.out i hi]
            have hb2 : W.heap[b]? = w.heap[b]? := (hbW.block b (by omega)).trans (HLW.out.block b hbA)
            obtain ⟨x0, x1, x2, x3⟩ := HCELL.out i hi
            exact ⟨(World.cell?_of_block (w := w) hb2).trans x0, (World.cell?_of_block (w := w) hb2).trans x1, (World.cell?_of_block (w := w) hb2).trans x2, (World.cell?_of_block (w := w) hb2).trans x3⟩
        · refine parts116 (b := V.heap.size) (off := off) (cap := cap) (bp := bp) n x l a k f (TQ A q (Value.slice pa p.length pc).ownBlock) J (fun s' W' q' hj ht => ?_) (by omega) (by omega) hJB (fun m pre y W1 hj hx => yield_any (hY pre y W1 hj hx)) _ W (fun i hi => absurd hi (by omega)) (fun h => absurd h hk0) (hV.2.2.2.1.still hbW) hJ0 (by omega) hlo hc hmx
          have h1 := (hJI s' W' hj).tq HPV.out ht
          refine ⟨by omega, fun e => ?_⟩
          rcases h1.2.2 (by omega) with e2 | e2
          · exact hV.2.2.2.2.1 (e ▸ e2)
          · have := (HV.out.1.pn _ e2).2; omega
      case hround =>
        intro pre y W hi hx hsz
        have hyl := hx.1
        have HYE := (show Hid (y = loF n + pre.length) from hx.2.1)
        clear hx
        have HVV := HV.out
        simp only [kdE]
        rw [kdAt_at hyl]
        gi_wp2
        refine ⟨bel_alloc _ _, fun o hIo => ?_⟩
        obtain ⟨Wb, hWb⟩ : ∃ Wb : World, (W.alloc (.cells #[.string k[y].name, .string k[y].text, .bool k[y].leaf, .slice (f y).1 (f y).2.1 (f y).2.2] 40)).putObj (V.heap.size + 1) o = Wb := ⟨_, rfl⟩
        rw [hWb] at hIo ⊢
        have xb : Box Wb W.heap.size 40 [.string k[y].name, .string k[y].text, .bool k[y].leaf, .slice (f y).1 (f y).2.1 (f y).2.2] := by
          rw [← hWb]
          exact (Box.new W 40 _).keep (World.putObj_heap_other (by omega))
        have hWz : Wb.heap.size = W.heap.size + 1 := by rw [← hWb]; simp
        obtain ⟨cj, hst, hgap⟩ := hIo.st
        have HCW0 := (show Hid (¬ cj.B q (F pre.length) W.heap.size) from fun e => by
          obtain ⟨c0, hst0, hgap0⟩ := hi.st
          have hco0 : Co Wb A q 88 (F pre.length) c0 := hst0.co.keep (fun b' hb' => by
            rw [← hWb]
            have h1 := (hst0.co.lt b' hb').2
            have h2 := hgap0 b' hb'
            exact (World.putObj_heap_other (by omega)).trans ((bel_alloc W _).block b' h1))
          have := (hst0.co.lt _ (hst.co.uniq hco0 e)).2
          omega)
        clear hWb
        have TH := HVV.1.stepP hst hIo.row
        have hzbV : zb < V.heap.size := HVV.2.1.lt
        have bzb : Box Wb zb 3 [.int .i64 ((wN n sc s : Nat) : Int)] := HVV.2.1.keep (hst.fm.block zb hzbV (fun e => e.elim HVV.2.2.1 (fun e => by have := (HVV.1.pn zb e).2; omega)))
        have HTH2 := (show Hid (Th A q w.heap.size n x l (.slice a k.length cap) sc (Value.slice pa p.length pc) p w s c Wb (F pre.length) cj (fun b => (Value.slice pa p.length pc).ownBlock = some b)) from TH)
        have HIO := (show Hid (ThI A q V s2 c2 (Value.slice pa p.length pc) p F pre Wb) from hIo)
        have HXB := (show Hid (Box Wb W.heap.size 40 [.string k[y].name, .string k[y].text, .bool k[y].leaf, .slice (f y).1 (f y).2.1 (f y).2.2]) from xb)
        have HZB := (show Hid (Box Wb zb 3 [.int .i64 ((wN n sc s : Nat) : Int)]) from bzb)
        have HWZ := (show Hid (Wb.heap.size = W.heap.size + 1 ∧ V.heap.size + 2 ≤ W.heap.size) from ⟨hWz, hsz⟩)
        have HLT := (show Hid (T.Lies Wb (fun b => b < A) k[y] (.slice (f y).1 (f y).2.1 (f y).2.2)) from by
          have h := HK.out y hyl
          rw [HFF.out y hyl] at h
          exact h.keep (fun b' hb' => (TH.st.low' HCO0.out (fun b2 e => (World.ownsRow.lt HVV.1.row b2 e).1)).block b' hb'))
        have H102 := (show Hid (∀ w', Calls Try.prog 102 #[.agg #[.string n, .string x, .bool l, .slice a k.length cap], .int .i64 (y : Nat)] w' fun e w'' => e = .returned (.bool (inS n k.length y)) ∧ Below w'.heap.size w' w'') from fun w' => in102 n x l a k.length cap y w' (by omega) hyl)
        have HCW := (show Hid (∀ (sa : Nat) (W5 : World), sa = (if inS n k.length y = true then wIn n s else sc) → Below Wb.heap.size Wb W5 → (fun wq : World => wq.cell? ⟨w.heap.size, 0, none⟩ = some (.pointer (some ⟨q, 0, none⟩)) ∧ wq.cell? ⟨W.heap.size, 0, none⟩ = some (.string k[y].name) ∧ wq.cell? ⟨W.heap.size, 1, none⟩ = some (.string k[y].text) ∧ wq.cell? ⟨W.heap.size, 2, none⟩ = some (.bool k[y].leaf) ∧ wq.cell? ⟨W.heap.size, 3, none⟩ = some (.slice (f y).1 (f y).2.1 (f y).2.2) ∧ wq.cell? ⟨w.heap.size + 1 + 1 + 1, 0, none⟩ = some (Value.slice pa p.length pc)) W5.drew ∧ (fun wq : World => wq.cell? ⟨w.heap.size, 0, none⟩ = some (.pointer (some ⟨q, 0, none⟩)) ∧ wq.cell? ⟨W.heap.size, 0, none⟩ = some (.string k[y].name) ∧ wq.cell? ⟨W.heap.size, 1, none⟩ = some (.string k[y].text) ∧ wq.cell? ⟨W.heap.size, 2, none⟩ = some (.bool k[y].leaf) ∧ wq.cell? ⟨W.heap.size, 3, none⟩ = some (.slice (f y).1 (f y).2.1 (f y).2.2) ∧ wq.cell? ⟨w.heap.size + 1 + 1 + 1, 0, none⟩ = some (Value.slice pa p.length pc)) (W5.drew.alloc (.cells #[.int .i64 (y : Nat)] 3)) ∧ Hid ((W5.drew.alloc (.cells #[.int .i64 (y : Nat)] 3)).ownsRow A 3 1 (Value.slice pa p.length pc) p.length (nums p)) ∧ Hid ((W5.drew.alloc (.cells #[.int .i64 (y : Nat)] 3)).cell? ⟨W5.heap.size, 0, none⟩ = some (.int .i64 (y : Nat))) ∧ Hid (A ≤ (W5.drew.alloc (.cells #[.int .i64 (y : Nat)] 3)).heap.size) ∧
            Hid (∀ (pv' : Value) (w8 : World), OneMore A (Value.slice pa p.length pc) pv' p.length (nums p) (.int .i64 (y : Nat)) (W5.drew.alloc (.cells #[.int .i64 (y : Nat)] 3)) w8 → (fun wq : World => wq.cell? ⟨w.heap.size, 0, none⟩ = some (.pointer (some ⟨q, 0, none⟩)) ∧ wq.cell? ⟨W.heap.size, 0, none⟩ = some (.string k[y].name) ∧ wq.cell? ⟨W.heap.size, 1, none⟩ = some (.string k[y].text) ∧ wq.cell? ⟨W.heap.size, 2, none⟩ = some (.bool k[y].leaf) ∧ wq.cell? ⟨W.heap.size, 3, none⟩ = some (.slice (f y).1 (f y).2.1 (f y).2.2) ∧ wq.cell? ⟨w.heap.size + 1 + 1 + 1, 0, none⟩ = some (Value.slice pa p.length pc)) w8 ∧ Hid (Calls Try.prog 52 #[.pointer (some ⟨q, 0, none⟩), k[y].val (.slice (f y).1 (f y).2.1 (f y).2.2), .int .i64 (sa : Nat), pv'] w8 fun e w9 => e = .returned (.tuple #[]) ∧ (fun wq : World => wq.cell? ⟨w.heap.size, 0, none⟩ = some (.pointer (some ⟨q, 0, none⟩)) ∧ wq.cell? ⟨W.heap.size, 0, none⟩ = some (.string k[y].name) ∧ wq.cell? ⟨W.heap.size, 1, none⟩ = some (.string k[y].text) ∧ wq.cell? ⟨W.heap.size, 2, none⟩ = some (.bool k[y].leaf) ∧ wq.cell? ⟨W.heap.size, 3, none⟩ = some (.slice (f y).1 (f y).2.1 (f y).2.2) ∧ wq.cell? ⟨w.heap.size + 1 + 1 + 1, 0, none⟩ = some (Value.slice pa p.length pc)) w9 ∧ ∀ a', rgPostD (TQ A q (Value.slice pa p.length pc).ownBlock) (V.heap.size + 1) (ThI A q V s2 c2 (Value.slice pa p.length pc) p F) (pre ++ [y]) Wb .normal a' w9))) from fun sa W5 hsa hb5 => by
          have hth5 := HTH2.out.still hb5
          have hzW := HWZ.out
          have hs5 := hb5.size
          have hco := hth5.st.co
          have hb6 : Below W5.heap.size W5 (W5.drew.alloc (.cells #[.int .i64 (y : Nat)] 3)) := bel_trans (Below.drew (Below.refl _ _)) (bel_alloc _ _)
          have xb5 := HXB.out.still hb5
          have hoff := hth5.off
          have hz1 := hth5.zw
          obtain ⟨t1, _, _, _, _, t6, t7⟩ := hth5.cells
          have d0 : W5.cell? ⟨W.heap.size, 0, none⟩ = some (.string k[y].name) := xb5.cell 0 (by simp)
          have d1 : W5.cell? ⟨W.heap.size, 1, none⟩ = some (.string k[y].text) := xb5.cell 1 (by simp)
          have d2 : W5.cell? ⟨W.heap.size, 2, none⟩ = some (.bool k[y].leaf) := xb5.cell 2 (by simp)
          have d3 : W5.cell? ⟨W.heap.size, 3, none⟩ = some (.slice (f y).1 (f y).2.1 (f y).2.2) := xb5.cell 3 (by simp)
          have kb : ∀ {b' o} {u : Value}, W5.cell? ⟨b', o, none⟩ = some u → (W5.drew.alloc (.cells #[.int .i64 (y : Nat)] 3)).cell? ⟨b', o, none⟩ = some u := fun hc => (hb6.cell (lt_of_cell hc)).trans hc
          have hcW := HCW0.out
          obtain ⟨r1, r2, r3, r4, r5, r6⟩ := HFE.out pre.length y hyl HYE.out sa hsa
          refine ⟨⟨t1, d0, d1, d2, d3, t7⟩, ⟨kb t1, kb d0, kb d1, kb d2, kb d3, kb t7⟩, own_keep1 hth5.row (fun b' e => hb6.block b' (World.ownsRow.lt hth5.row b' e).2), (show _ = _ from by simp [go_sem]), (show A ≤ _ from by have h1 := hco.hq; have h2 := hco.bx.lt; have h3 := hb6.size; omega), fun pv' w8 h1 => ?_⟩
          obtain ⟨g1, g2, g3, g4, g5, g6⟩ := path_push (j := y) hco hth5.row (fun b' e => (hth5.pn b' e).1) hb6 h1
          have pz : ∀ b2, (Value.slice pa p.length pc).ownBlock = some b2 → b2 < w.heap.size := fun b2 e => (hth5.pn b2 e).2
          have kp : ∀ {b' o} {u : Value}, W5.cell? ⟨b', o, none⟩ = some u → w.heap.size ≤ b' → w8.cell? ⟨b', o, none⟩ = some u := fun {b' o u} hc hne => (World.cell?_of_block (w := W5) (g4 b' (lt_of_cell hc) (fun e => by have := pz _ e; omega))).trans hc
          have S8 : (fun wq : World => wq.cell? ⟨w.heap.size, 0, none⟩ = some (.pointer (some ⟨q, 0, none⟩)) ∧ wq.cell? ⟨W.heap.size, 0, none⟩ = some (.string k[y].name) ∧ wq.cell? ⟨W.heap.size, 1, none⟩ = some (.string k[y].text) ∧ wq.cell? ⟨W.heap.size, 2, none⟩ = some (.bool k[y].leaf) ∧ wq.cell? ⟨W.heap.size, 3, none⟩ = some (.slice (f y).1 (f y).2.1 (f y).2.2) ∧ wq.cell? ⟨w.heap.size + 1 + 1 + 1, 0, none⟩ = some (Value.slice pa p.length pc)) w8 := ⟨kp t1 (by omega), kp d0 (by omega), kp d1 (by omega), kp d2 (by omega), kp d3 (by omega), kp t7 (by omega)⟩
          have hl8 : T.Lies w8 (fun b => b < A) k[y] (.slice (f y).1 (f y).2.1 (f y).2.2) := (HLT.out.still hb5).keep (fun b' hb' => g4 b' (by have := hco.hq; have := hco.bx.lt; omega) (fun e => by have := (World.ownsRow.lt hth5.row _ e).1; omega))
          refine ⟨S8, ?_⟩
          refine Calls.mono (HIH.out y hyl (.slice (f y).1 (f y).2.1 (f y).2.2) sa (p ++ [y]) pv' (F pre.length) cj w8 g1 g2 g3 hl8 r2 r3 r4 r5 r6) ?_
          rintro e w9 ⟨rfl, ⟨c', st⟩, hrow⟩
          obtain ⟨st5, hrow5⟩ := g6 w9 _ c' st hrow
          have stb := (St.below (T := fun _ => False) (N := fun _ => False) HTH2.out.st.co hb5).trans (T'' := (fun b => (Value.slice pa p.length pc).ownBlock = some b)) (N'' := fun _ => False) st5 (fun _ _ e => e.elim) (fun _ _ e => .inr e) (fun _ _ e => e) (fun _ _ e => e)
          have hpe : F (pre ++ [y]).length = sw k[y] sa (p ++ [y]) (F pre.length) := by rw [List.length_append]; exact r1
          rw [← hpe] at stb
          have hnx := HIO.out.next HPV.out HTH2.out.st.co stb hrow5 (by omega)
          have kq : ∀ {b' o} {u : Value}, W5.cell? ⟨b', o, none⟩ = some u → w.heap.size ≤ b' → ¬ cj.B q (F pre.length) b' → w9.cell? ⟨b', o, none⟩ = some u := fun {b' o u} hc h1 hne => (World.cell?_of_block (w := W5) (st5.fm.block b' (lt_of_cell hc) (fun e => e.elim hne (fun e => by have := pz _ e; omega)))).trans hc
          exact ⟨rfl, ⟨kq t1 (by omega) (hoff _ (by omega) (by omega)), kq d0 (by omega) hcW, kq d1 (by omega) hcW, kq d2 (by omega) hcW, kq d3 (by omega) hcW, kq t7 (by omega) (hoff _ (by omega) (by omega))⟩, fun a' => hnx⟩)
        have t6 := HTH2.out.cells.2.2.2.2.2.1
        have y0 := HTH2.out.cells.2.1
        have y1 := HTH2.out.cells.2.2.1
        have y2 := HTH2.out.cells.2.2.2.1
        have y3 := HTH2.out.cells.2.2.2.2.1
        have HZC := (show Hid (∀ w', Below Wb.heap.size Wb w' → inS n k.length y = true → w'.cell? ⟨zb, 0, none⟩ = some (.int .i64 ((wIn n s : Nat) : Int)) ∧ True) from fun w' hb hy => by
          rw [← HIN.out y hy]
          exact ⟨(HZB.out.still hb).cell 0 (by simp), trivial⟩)
        have HPL := (show Hid (p.length ≤ 100000) from (by have := (HFE.out pre.length y hyl HYE.out _ rfl).2.2.1; simp at this; show _ ≤ _; omega))
        have hpl := HPL.out
        obtain ⟨i3, hi3, hzz⟩ := Option.map_eq_some_iff.1 info3s
        simp only [Prod.mk.injEq] at hzz
        obtain ⟨hz0, hz1, hz2⟩ := hzz
        clear hIo hi hst TH HFE HFA HIN HZB HXB HTH2 HIO HLT bzb xb hgap HVV H0 HV HCW0 HIH HK HFF HCELL HA HPV HLW HAV HCO0 HWZ
        simp only [Tr.val] at HCW
        cases hin : inS n k.length y
        · rw [hin] at H102
          have HX := (show Hid (∀ W5, Below Wb.heap.size Wb W5 → _) from fun W5 hb => HCW.out sc W5 (by rw [hin]; rfl) hb)
          clear HZC HCW hin
          gi_wp2_with (refine ⟨trivial, ?_⟩; gi_at_call 102; refine (CallsIn.inRound _ (callsIn_wide.2 (H102.out _))).mono ?_; rintro e w5 ⟨rfl, hb5⟩)
          obtain ⟨hS0, hS1, HPR, HU0, HAW, HPP⟩ := HX.out w5 hb5
          clear HX hb5 H102 t6 y0 y1 y2 y3
          refine region_round (fun wq : World => wq.cell? ⟨w.heap.size, 0, none⟩ = some (.pointer (some ⟨q, 0, none⟩)) ∧ wq.cell? ⟨W.heap.size, 0, none⟩ = some (.string k[y].name) ∧ wq.cell? ⟨W.heap.size, 1, none⟩ = some (.string k[y].text) ∧ wq.cell? ⟨W.heap.size, 2, none⟩ = some (.bool k[y].leaf) ∧ wq.cell? ⟨W.heap.size, 3, none⟩ = some (.slice (f y).1 (f y).2.1 (f y).2.2) ∧ wq.cell? ⟨w.heap.size + 1 + 1 + 1, 0, none⟩ = some (Value.slice pa p.length pc)) (by kernel_rfl) (no_defer (by kernel_rfl)) hS0 (fun hHeld => ?_)
          refine wpAnyH_take (i := 0) (oi := { dst := some 63, op := Go.Op.load 125 (Go.Operand.tmp 4), type := 125, pos := "l12_names.go:304", after := #[], guard := none }) (v := ?v35) rfl (by kernel_rfl) (by kernel_rfl) (by kernel_rfl) (fun _ _ _ h => h) (Or.inl ⟨by rfl, ?h35⟩) hHeld ?r35
          case h35 => (intro w hSw; (try dsimp only at hSw); go_simp; try with_reducible rfl)
          try simp only [Act.put, List.setIfInBounds_toArray, List.set_cons_zero, List.set_cons_succ]
          refine wpAnyH_take (i := 1) (oi := { dst := some 64, op := Go.Op.load 40 (Go.Operand.tmp 10), type := 40, pos := "l12_names.go:304", after := #[], guard := none }) (v := ?v36) rfl (by kernel_rfl) (by kernel_rfl) (by kernel_rfl) (fun _ _ _ h => h) (Or.inl ⟨by rfl, ?h36⟩) hHeld ?r36
          case h36 => (intro w hSw; (try dsimp only at hSw); go_simp; try with_reducible rfl)
          try simp only [Act.put, List.setIfInBounds_toArray, List.set_cons_zero, List.set_cons_succ]
          refine wpAnyH_take (i := 2) (oi := { dst := some 65, op := Go.Op.move (Go.Operand.tmp 11), type := 3, pos := "l12_names.go:304", after := #[], guard := none }) (v := ?v37) rfl (by kernel_rfl) (by kernel_rfl) (by kernel_rfl) (fun _ _ _ h => h) (Or.inl ⟨by rfl, ?h37⟩) hHeld ?r37
          case h37 => (intro w hSw; (try dsimp only at hSw); go_simp; try with_reducible rfl)
          try simp only [Act.put, List.setIfInBounds_toArray, List.set_cons_zero, List.set_cons_succ]
          refine wpAnyH_take (i := 3) (oi := { dst := some 66, op := Go.Op.load 34 (Go.Operand.tmp 7), type := 34, pos := "l12_names.go:304", after := #[], guard := none }) (v := ?v38) rfl (by kernel_rfl) (by kernel_rfl) (by kernel_rfl) (fun _ _ _ h => h) (Or.inl ⟨by rfl, ?h38⟩) hHeld ?r38
          case h38 => (intro w hSw; (try dsimp only at hSw); go_simp; try with_reducible rfl)
          try simp only [Act.put, List.setIfInBounds_toArray, List.set_cons_zero, List.set_cons_succ]
          refine wpAnyH_take (i := 4) (oi := { dst := some 67, op := Go.Op.move (Go.Operand.tmp 9), type := 3, pos := "l12_names.go:304", after := #[], guard := none }) (v := ?v39) rfl (by kernel_rfl) (by kernel_rfl) (by kernel_rfl) (fun _ _ _ h => h) (Or.inl ⟨by rfl, ?h39⟩) hHeld ?r39
          case h39 => (intro w hSw; (try dsimp only at hSw); go_simp; try with_reducible rfl)
          try simp only [Act.put, List.setIfInBounds_toArray, List.set_cons_zero, List.set_cons_succ]
          refine wpAnyH_ready (rs := [5]) (by kernel_rfl) (by simp) ?_
          refine (AllReadyH.cons (o := { dst := some 68, op := Go.Op.buildSlice 34 1 #[(0, Go.Operand.tmp 67)], type := 34, pos := "l12_names.go:304", after := #[{ on := 4, ground := Go.Ground.data }], guard := none }) rfl (fun K hK => ?_) AllReadyH.nil)
          go_simp
          clear hHeld
          refine hK.out _ _ hS1 (fun hHeld => ?_)
          clear hK K
          try simp only [Act.put, List.setIfInBounds_toArray, List.set_cons_zero, List.set_cons_succ]
          refine wpAnyH_ready (rs := [6]) (by kernel_rfl) (by simp) ?_
          refine (AllReadyH.cons (o := { dst := some 69, op := Go.Op.call { callee := Go.Callee.builtin Go.Builtin.append, args := #[Go.Operand.tmp 66, Go.Operand.tmp 68], argTypes := #[34, 34] }, type := 34, pos := "l12_names.go:304", after := #[{ on := 3, ground := Go.Ground.data }, { on := 5, ground := Go.Ground.data }], guard := none }) rfl (fun K hK => ?_) AllReadyH.nil)
          (refine step_append_one _ rfl (.tmp 66) (.tmp 68) 34 rfl A i3 _ 8 Try.underlying34 hi3 hz0 hz1 hz2 rfl (Value.slice pa p.length pc) p.length (nums p) (by simp [Act.eval, Act.put]) HPR.out ⟨w5.heap.size, 0, none⟩ 1 (.int .i64 (y : Nat)) (by simp [Act.eval, Act.put]) HU0.out rfl (by unfold maxLen; omega) (by omega) HAW.out ?_; intro pv' w8 h18; obtain ⟨hS8, HDE⟩ := HPP.out pv' w8 h18; clear h18)
          clear hHeld
          refine hK.out _ _ hS8 (fun hHeld => ?_)
          clear hK K
          try simp only [Act.put, List.setIfInBounds_toArray, List.set_cons_zero, List.set_cons_succ]
          refine wpAnyH_ready (rs := [7]) (by kernel_rfl) (by simp) ?_
          refine (AllReadyH.cons (o := { dst := some 70, op := Go.Op.call { callee := Go.Callee.value (Go.Operand.func 52), args := #[Go.Operand.tmp 63, Go.Operand.tmp 64, Go.Operand.tmp 65, Go.Operand.tmp 69], argTypes := #[125, 40, 3, 34] }, type := 0, pos := "l12_names.go:304", after := #[{ on := 0, ground := Go.Ground.data }, { on := 1, ground := Go.Ground.data }, { on := 2, ground := Go.Ground.data }, { on := 6, ground := Go.Ground.data }, { on := 6, ground := Go.Ground.chain }], guard := none }) rfl (fun K hK => ?_) AllReadyH.nil)
          go_simp
          go_at_call 52
          refine Calls.mono HDE.out ?_
          rintro e w9 ⟨rfl, hS9, HE9⟩
          dsimp only
          clear hHeld
          refine hK.out _ _ hS9 (fun hHeld => ?_)
          clear hK K
          try simp only [Act.put, List.setIfInBounds_toArray, List.set_cons_zero, List.set_cons_succ]
          refine wpAnyH_done (by kernel_rfl) ?_ _
          exact HE9 ⟨#[], []⟩
        · rw [hin] at H102
          have HX := (show Hid (∀ W5, Below Wb.heap.size Wb W5 → _) from fun W5 hb => HCW.out (wIn n s) W5 (by rw [hin]; rfl) hb)
          have HZD := (show Hid (∀ w', Below Wb.heap.size Wb w' → w'.cell? ⟨zb, 0, none⟩ = some (.int .i64 ((wIn n s : Nat) : Int)) ∧ True) from fun w' hb => HZC.out w' hb hin)
          clear HZC HCW hin
          gi_wp2_with (refine ⟨trivial, ?_⟩; gi_at_call 102; refine (CallsIn.inRound _ (callsIn_wide.2 (H102.out _))).mono ?_; rintro e w5 ⟨rfl, hb5⟩; obtain ⟨zc, _⟩ := HZD.out w5 hb5)
          obtain ⟨hS0, hS1, HPR, HU0, HAW, HPP⟩ := HX.out w5 hb5
          clear HX hb5 H102 t6 y0 y1 y2 y3 zc HZD
          refine region_round (fun wq : World => wq.cell? ⟨w.heap.size, 0, none⟩ = some (.pointer (some ⟨q, 0, none⟩)) ∧ wq.cell? ⟨W.heap.size, 0, none⟩ = some (.string k[y].name) ∧ wq.cell? ⟨W.heap.size, 1, none⟩ = some (.string k[y].text) ∧ wq.cell? ⟨W.heap.size, 2, none⟩ = some (.bool k[y].leaf) ∧ wq.cell? ⟨W.heap.size, 3, none⟩ = some (.slice (f y).1 (f y).2.1 (f y).2.2) ∧ wq.cell? ⟨w.heap.size + 1 + 1 + 1, 0, none⟩ = some (Value.slice pa p.length pc)) (by kernel_rfl) (no_defer (by kernel_rfl)) hS0 (fun hHeld => ?_)
          refine wpAnyH_take (i := 0) (oi := { dst := some 63, op := Go.Op.load 125 (Go.Operand.tmp 4), type := 125, pos := "l12_names.go:304", after := #[], guard := none }) (v := ?vb35) rfl (by kernel_rfl) (by kernel_rfl) (by kernel_rfl) (fun _ _ _ h => h) (Or.inl ⟨by rfl, ?hb35⟩) hHeld ?rb35
          case hb35 => (intro w hSw; (try dsimp only at hSw); go_simp; try with_reducible rfl)
          try simp only [Act.put, List.setIfInBounds_toArray, List.set_cons_zero, List.set_cons_succ]
          refine wpAnyH_take (i := 1) (oi := { dst := some 64, op := Go.Op.load 40 (Go.Operand.tmp 10), type := 40, pos := "l12_names.go:304", after := #[], guard := none }) (v := ?vb36) rfl (by kernel_rfl) (by kernel_rfl) (by kernel_rfl) (fun _ _ _ h => h) (Or.inl ⟨by rfl, ?hb36⟩) hHeld ?rb36
          case hb36 => (intro w hSw; (try dsimp only at hSw); go_simp; try with_reducible rfl)
          try simp only [Act.put, List.setIfInBounds_toArray, List.set_cons_zero, List.set_cons_succ]
          refine wpAnyH_take (i := 2) (oi := { dst := some 65, op := Go.Op.move (Go.Operand.tmp 11), type := 3, pos := "l12_names.go:304", after := #[], guard := none }) (v := ?vb37) rfl (by kernel_rfl) (by kernel_rfl) (by kernel_rfl) (fun _ _ _ h => h) (Or.inl ⟨by rfl, ?hb37⟩) hHeld ?rb37
          case hb37 => (intro w hSw; (try dsimp only at hSw); go_simp; try with_reducible rfl)
          try simp only [Act.put, List.setIfInBounds_toArray, List.set_cons_zero, List.set_cons_succ]
          refine wpAnyH_take (i := 3) (oi := { dst := some 66, op := Go.Op.load 34 (Go.Operand.tmp 7), type := 34, pos := "l12_names.go:304", after := #[], guard := none }) (v := ?vb38) rfl (by kernel_rfl) (by kernel_rfl) (by kernel_rfl) (fun _ _ _ h => h) (Or.inl ⟨by rfl, ?hb38⟩) hHeld ?rb38
          case hb38 => (intro w hSw; (try dsimp only at hSw); go_simp; try with_reducible rfl)
          try simp only [Act.put, List.setIfInBounds_toArray, List.set_cons_zero, List.set_cons_succ]
          refine wpAnyH_take (i := 4) (oi := { dst := some 67, op := Go.Op.move (Go.Operand.tmp 9), type := 3, pos := "l12_names.go:304", after := #[], guard := none }) (v := ?vb39) rfl (by kernel_rfl) (by kernel_rfl) (by kernel_rfl) (fun _ _ _ h => h) (Or.inl ⟨by rfl, ?hb39⟩) hHeld ?rb39
          case hb39 => (intro w hSw; (try dsimp only at hSw); go_simp; try with_reducible rfl)
          try simp only [Act.put, List.setIfInBounds_toArray, List.set_cons_zero, List.set_cons_succ]
          refine wpAnyH_ready (rs := [5]) (by kernel_rfl) (by simp) ?_
          refine (AllReadyH.cons (o := { dst := some 68, op := Go.Op.buildSlice 34 1 #[(0, Go.Operand.tmp 67)], type := 34, pos := "l12_names.go:304", after := #[{ on := 4, ground := Go.Ground.data }], guard := none }) rfl (fun K hK => ?_) AllReadyH.nil)
          go_simp
          clear hHeld
          refine hK.out _ _ hS1 (fun hHeld => ?_)
          clear hK K
          try simp only [Act.put, List.setIfInBounds_toArray, List.set_cons_zero, List.set_cons_succ]
          refine wpAnyH_ready (rs := [6]) (by kernel_rfl) (by simp) ?_
          refine (AllReadyH.cons (o := { dst := some 69, op := Go.Op.call { callee := Go.Callee.builtin Go.Builtin.append, args := #[Go.Operand.tmp 66, Go.Operand.tmp 68], argTypes := #[34, 34] }, type := 34, pos := "l12_names.go:304", after := #[{ on := 3, ground := Go.Ground.data }, { on := 5, ground := Go.Ground.data }], guard := none }) rfl (fun K hK => ?_) AllReadyH.nil)
          (refine step_append_one _ rfl (.tmp 66) (.tmp 68) 34 rfl A i3 _ 8 Try.underlying34 hi3 hz0 hz1 hz2 rfl (Value.slice pa p.length pc) p.length (nums p) (by simp [Act.eval, Act.put]) HPR.out ⟨w5.heap.size, 0, none⟩ 1 (.int .i64 (y : Nat)) (by simp [Act.eval, Act.put]) HU0.out rfl (by unfold maxLen; omega) (by omega) HAW.out ?_; intro pv' w8 h18; obtain ⟨hS8, HDE⟩ := HPP.out pv' w8 h18; clear h18)
          clear hHeld
          refine hK.out _ _ hS8 (fun hHeld => ?_)
          clear hK K
          try simp only [Act.put, List.setIfInBounds_toArray, List.set_cons_zero, List.set_cons_succ]
          refine wpAnyH_ready (rs := [7]) (by kernel_rfl) (by simp) ?_
          refine (AllReadyH.cons (o := { dst := some 70, op := Go.Op.call { callee := Go.Callee.value (Go.Operand.func 52), args := #[Go.Operand.tmp 63, Go.Operand.tmp 64, Go.Operand.tmp 65, Go.Operand.tmp 69], argTypes := #[125, 40, 3, 34] }, type := 0, pos := "l12_names.go:304", after := #[{ on := 0, ground := Go.Ground.data }, { on := 1, ground := Go.Ground.data }, { on := 2, ground := Go.Ground.data }, { on := 6, ground := Go.Ground.data }, { on := 6, ground := Go.Ground.chain }], guard := none }) rfl (fun K hK => ?_) AllReadyH.nil)
          go_simp
          go_at_call 52
          refine Calls.mono HDE.out ?_
          rintro e w9 ⟨rfl, hS9, HE9⟩
          dsimp only
          clear hHeld
          refine hK.out _ _ hS9 (fun hHeld => ?_)
          clear hK K
          try simp only [Act.put, List.setIfInBounds_toArray, List.set_cons_zero, List.set_cons_succ]
          refine wpAnyH_done (by kernel_rfl) ?_ _
          exact HE9 ⟨#[], []⟩
      case hdone =>
        rintro xs W hS hI hD
        have hgV : V.heap.size < W.heap.size := (Array.getElem?_eq_some_iff.1 hD).1
        have hI' := (ThI.bears _ _ _ _ hI (grownBy_putObj' W V.heap.size (.deferred none)) (fun r e => by
          cases e
          exact ⟨Nat.le_refl _, fun ht => by have := (hI.tq HPV.out ht).2.1; omega⟩)).1
        obtain ⟨c9, hst9, _⟩ := hI'.st
        have hfin := HV.out.1.stepP hst9 hI'.row
        have hxl : xs.length = k.length - loF n := by rw [hS, tdL_len]
        rw [hxl, HFA.out.1] at hfin
        have HFIN := (show Hid ((∃ c', St A q 88 w s c (W.putObj V.heap.size (.deferred none)) (swJ (T.dclB n) sc (wIn n s) p k k.length (wS2 n k sc p (wS1 n x l sc p s))) c' (fun b => (Value.slice pa p.length pc).ownBlock = some b) (fun _ => False)) ∧ (W.putObj V.heap.size (.deferred none)).ownsRow A 3 1 (Value.slice pa p.length pc) p.length (nums p)) from by rw [HS2E.out]; exact ⟨⟨c9, hfin.st⟩, hfin.row⟩)
        clear hfin hst9 hI' hI hS hxl HV H0 HFE HFA HIN HK HFF HCELL HA HPV HLW HAV HCO0 HIH
        go_wp2_with fail
        refine ⟨by simp, .inl ⟨_, _, rfl, run_takeDeferred hD, ?_⟩⟩
        exact ⟨.tuple #[], by simp [results, Try.results52, go_sem], rfl, HFIN.out⟩
theorem walk52 (A q : Nat) (t : Tr) : WtC A q t := by
  induction t using T.Tr.ind with
  | h n x l k ih => exact walkP_mk n x l k ih
/-- The program's ScopesOf. -/
theorem iSc14 (t : Tr) (v : Value) (w : World) (h : T.Lies w (fun b => b < w.heap.size) t v) : Calls Try.prog 14 #[t.val v] w (ScA (scR t) w) := sc14 walk52 t v w h
end Go.Proofs.Ytledclkmeikgdaa
