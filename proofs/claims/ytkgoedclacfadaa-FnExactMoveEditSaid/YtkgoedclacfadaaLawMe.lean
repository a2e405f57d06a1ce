import Derived.Test.YtkgoedclacfadaaMy
/-! The law FnExactMoveEdit, walked. -/
namespace Go.Proofs.Ytkgoedclacfadaa
set_option linter.unusedVariables false
set_option maxRecDepth 100000
set_option linter.unusedSimpArgs false
open Go.RowKit Go.Deep

abbrev o3_8_0 : Oper := { dst := some 21, op := Go.Op.load 23 (Go.Operand.tmp 2), type := 23, pos := "exact.go:8224", after := #[], guard := none }
abbrev o3_8_1 : Oper := { dst := some 22, op := Go.Op.call { callee := Go.Callee.value (Go.Operand.func 7), args := #[Go.Operand.tmp 21], argTypes := #[23] }, type := 25, pos := "exact.go:8224", after := #[{ on := 0, ground := Go.Ground.data }], guard := none }
abbrev o3_8_2 : Oper := { dst := some 23, op := Go.Op.load 23 (Go.Operand.tmp 3), type := 23, pos := "exact.go:8224", after := #[], guard := none }
abbrev o3_8_3 : Oper := { dst := some 24, op := Go.Op.call { callee := Go.Callee.value (Go.Operand.func 7), args := #[Go.Operand.tmp 23], argTypes := #[23] }, type := 25, pos := "exact.go:8224", after := #[{ on := 2, ground := Go.Ground.data }, { on := 1, ground := Go.Ground.chain }], guard := none }
abbrev o3_8_4 : Oper := { dst := some 25, op := Go.Op.call { callee := Go.Callee.value (Go.Operand.func 6), args := #[Go.Operand.tmp 22, Go.Operand.tmp 24], argTypes := #[25, 25] }, type := 26, pos := "exact.go:8224", after := #[{ on := 1, ground := Go.Ground.data }, { on := 3, ground := Go.Ground.data }, { on := 3, ground := Go.Ground.chain }], guard := none }
abbrev o3_8_5 : Oper := { dst := some 20, op := Go.Op.move (Go.Operand.tmp 25), type := 26, pos := "exact.go:8224", after := #[{ on := 4, ground := Go.Ground.data }], guard := none }
abbrev o3_8_6 : Oper := { dst := some 26, op := Go.Op.extract (Go.Operand.tmp 20) 0, type := 25, pos := "exact.go:8224", after := #[{ on := 5, ground := Go.Ground.data }], guard := none }
abbrev o3_8_7 : Oper := { dst := some 27, op := Go.Op.extract (Go.Operand.tmp 20) 1, type := 3, pos := "exact.go:8224", after := #[{ on := 5, ground := Go.Ground.data }, { on := 9, ground := Go.Ground.gcOnly Go.Departure.lateStores }], guard := none }
abbrev o3_8_8 : Oper := { dst := some 6, op := Go.Op.alloc 25, type := 0, pos := "exact.go:8224", after := #[], guard := none }
abbrev o3_8_9 : Oper := { dst := none, op := Go.Op.store 25 (Go.Operand.tmp 6) (Go.Operand.tmp 26), type := 0, pos := "exact.go:8224", after := #[{ on := 8, ground := Go.Ground.data }, { on := 6, ground := Go.Ground.data }, { on := 4, ground := Go.Ground.chain }, { on := 0, ground := Go.Ground.phase }, { on := 1, ground := Go.Ground.phase }, { on := 2, ground := Go.Ground.phase }, { on := 3, ground := Go.Ground.phase }, { on := 4, ground := Go.Ground.phase }, { on := 5, ground := Go.Ground.phase }, { on := 6, ground := Go.Ground.phase }, { on := 7, ground := Go.Ground.textOnly Go.Departure.lateStores }, { on := 8, ground := Go.Ground.phase }], guard := none }
abbrev o3_8_10 : Oper := { dst := some 7, op := Go.Op.assign (Go.Operand.tmp 27), type := 3, pos := "exact.go:8224", after := #[{ on := 7, ground := Go.Ground.data }, { on := 9, ground := Go.Ground.chain }, { on := 0, ground := Go.Ground.phase }, { on := 1, ground := Go.Ground.phase }, { on := 2, ground := Go.Ground.phase }, { on := 3, ground := Go.Ground.phase }, { on := 4, ground := Go.Ground.phase }, { on := 5, ground := Go.Ground.phase }, { on := 6, ground := Go.Ground.phase }, { on := 7, ground := Go.Ground.phase }, { on := 8, ground := Go.Ground.phase }, { on := 9, ground := Go.Ground.phase }], guard := none }
abbrev o3_9_0 : Oper := { dst := some 29, op := Go.Op.load 23 (Go.Operand.tmp 2), type := 23, pos := "exact.go:8225", after := #[], guard := none }
abbrev o3_9_1 : Oper := { dst := some 30, op := Go.Op.call { callee := Go.Callee.value (Go.Operand.func 7), args := #[Go.Operand.tmp 29], argTypes := #[23] }, type := 25, pos := "exact.go:8225", after := #[{ on := 0, ground := Go.Ground.data }], guard := none }
abbrev o3_9_2 : Oper := { dst := some 31, op := Go.Op.load 23 (Go.Operand.tmp 3), type := 23, pos := "exact.go:8225", after := #[], guard := none }
abbrev o3_9_3 : Oper := { dst := some 32, op := Go.Op.call { callee := Go.Callee.value (Go.Operand.func 7), args := #[Go.Operand.tmp 31], argTypes := #[23] }, type := 25, pos := "exact.go:8225", after := #[{ on := 2, ground := Go.Ground.data }, { on := 1, ground := Go.Ground.chain }], guard := none }
abbrev o3_9_4 : Oper := { dst := some 33, op := Go.Op.call { callee := Go.Callee.value (Go.Operand.func 8), args := #[Go.Operand.tmp 30, Go.Operand.tmp 32], argTypes := #[25, 25] }, type := 26, pos := "exact.go:8225", after := #[{ on := 1, ground := Go.Ground.data }, { on := 3, ground := Go.Ground.data }, { on := 3, ground := Go.Ground.chain }], guard := none }
abbrev o3_9_5 : Oper := { dst := some 28, op := Go.Op.move (Go.Operand.tmp 33), type := 26, pos := "exact.go:8225", after := #[{ on := 4, ground := Go.Ground.data }], guard := none }
abbrev o3_9_6 : Oper := { dst := some 34, op := Go.Op.extract (Go.Operand.tmp 28) 0, type := 25, pos := "exact.go:8225", after := #[{ on := 5, ground := Go.Ground.data }], guard := none }
abbrev o3_9_7 : Oper := { dst := some 35, op := Go.Op.extract (Go.Operand.tmp 28) 1, type := 3, pos := "exact.go:8225", after := #[{ on := 5, ground := Go.Ground.data }, { on := 9, ground := Go.Ground.gcOnly Go.Departure.lateStores }], guard := none }
abbrev o3_9_8 : Oper := { dst := some 8, op := Go.Op.alloc 25, type := 0, pos := "exact.go:8225", after := #[], guard := none }
abbrev o3_9_9 : Oper := { dst := none, op := Go.Op.store 25 (Go.Operand.tmp 8) (Go.Operand.tmp 34), type := 0, pos := "exact.go:8225", after := #[{ on := 8, ground := Go.Ground.data }, { on := 6, ground := Go.Ground.data }, { on := 4, ground := Go.Ground.chain }, { on := 0, ground := Go.Ground.phase }, { on := 1, ground := Go.Ground.phase }, { on := 2, ground := Go.Ground.phase }, { on := 3, ground := Go.Ground.phase }, { on := 4, ground := Go.Ground.phase }, { on := 5, ground := Go.Ground.phase }, { on := 6, ground := Go.Ground.phase }, { on := 7, ground := Go.Ground.textOnly Go.Departure.lateStores }, { on := 8, ground := Go.Ground.phase }], guard := none }
abbrev o3_9_10 : Oper := { dst := some 9, op := Go.Op.assign (Go.Operand.tmp 35), type := 3, pos := "exact.go:8225", after := #[{ on := 7, ground := Go.Ground.data }, { on := 9, ground := Go.Ground.chain }, { on := 0, ground := Go.Ground.phase }, { on := 1, ground := Go.Ground.phase }, { on := 2, ground := Go.Ground.phase }, { on := 3, ground := Go.Ground.phase }, { on := 4, ground := Go.Ground.phase }, { on := 5, ground := Go.Ground.phase }, { on := 6, ground := Go.Ground.phase }, { on := 7, ground := Go.Ground.phase }, { on := 8, ground := Go.Ground.phase }, { on := 9, ground := Go.Ground.phase }], guard := none }
set_option maxHeartbeats 6400000 in
theorem lawMe (a d : Int) (s : ByteArray) (B D : Int) (t : ByteArray) (w : World) (ht : t.size ≤ maxLen) (hs : s.size ≤ maxLen) :
    Calls Try.prog 3 #[edV a d s, edV B D t] w fun e w' => e = .returned (.bool true) ∧ Below w.heap.size w w' := by
  have HZA := (show Hid _ from fun w' => sz5 a d s 1048576 hs (by omega) (by omega) w')
  have HZB := (show Hid _ from fun n h1 h2 w' => sz5 B D t n ht h1 h2 w')
  have HTA := (show Hid _ from fun w' => toEd_any a d s w')
  have HTB := (show Hid _ from fun w' => toEd_any B D t w')
  have HS0 := (show Hid _ from fun (h1 : s.size ≤ 1048576) (h2 : t.size ≤ 1048576) w' => sMove6 a d s B D t h1 h2 w')
  have HI0 := (show Hid _ from fun (h1 : s.size ≤ 1048576) (h2 : t.size ≤ 1048576) w' => iMove8 a d s B D t h1 h2 w')
  have H0 : Hid (Below w.heap.size w ((w.alloc (.cells #[.int .i64 a, .int .i64 d, .string s] 23)).alloc (.cells #[.int .i64 B, .int .i64 D, .string t] 23)) ∧ Box ((w.alloc (.cells #[.int .i64 a, .int .i64 d, .string s] 23)).alloc (.cells #[.int .i64 B, .int .i64 D, .string t] 23)) w.heap.size 23 (edC a d s) ∧ Box ((w.alloc (.cells #[.int .i64 a, .int .i64 d, .string s] 23)).alloc (.cells #[.int .i64 B, .int .i64 D, .string t] 23)) (w.heap.size + 1) 23 (edC B D t)) := by
    refine ⟨(bel_alloc _ _).alloc (by simp) _, (Box.new w 23 (edC a d s)).still (bel_alloc _ _), ?_⟩
    have := Box.new (w.alloc (.cells #[.int .i64 a, .int .i64 d, .string s] 23)) 23 (edC B D t)
    simpa using this
  clear ht hs
  generalize mvR a d s B D t = R at *
  obtain ⟨ra, rd, rs, rc⟩ := R
  have HQ := (show Hid _ from fun w' => eq9 ra rd rs w')
  have hc : (rc != rc) = false := by simp
  unfold TwoP at *
  unfold edV at *
  simp only at HS0 HI0
  go_enter Try.func3, Try.ntmps3
  go_wp2_with fail
  refine Calls.mono (HZA.out _) ?_
  rintro e w1 ⟨hz, hb1⟩
  have H1 := (show Hid (Below w.heap.size w w1 ∧ Box w1 w.heap.size 23 (edC a d s) ∧ Box w1 (w.heap.size + 1) 23 (edC B D t)) from ⟨bel_trans H0.out.1 hb1, H0.out.2.1.still hb1, H0.out.2.2.still hb1⟩)
  clear hb1 H0 HZA
  rcases hz with rfl | ⟨rfl, hsm⟩
  · go_wp2_with fail
    go_ret
    exact ⟨rfl, H1.out.1⟩
  have hs' : s.size ≤ 1048576 := by omega
  have hlf : ¬ (1048576 - (s.size : Int)) < 0 := by omega
  have C2 := (show Hid _ from HZB.out (1048576 - (s.size : Int)) (by omega) (by omega))
  have c0 : w1.cell? ⟨w.heap.size + 1, 0, none⟩ = some (.int .i64 B) := H1.out.2.2.cell 0 (by simp)
  have c1 : w1.cell? ⟨w.heap.size + 1, 1, none⟩ = some (.int .i64 D) := H1.out.2.2.cell 1 (by simp)
  have c2 : w1.cell? ⟨w.heap.size + 1, 2, none⟩ = some (.string t) := H1.out.2.2.cell 2 (by simp)
  clear HZB hsm
  go_wp2_with fail
  refine Calls.mono (C2.out _) ?_
  rintro e w2 ⟨hz, hb2⟩
  have H2 := (show Hid (Below w.heap.size w w2 ∧ Box w2 w.heap.size 23 (edC a d s) ∧ Box w2 (w.heap.size + 1) 23 (edC B D t)) from ⟨bel_trans H1.out.1 hb2, H1.out.2.1.still hb2, H1.out.2.2.still hb2⟩)
  clear hb2 H1 C2 c0 c1 c2
  rcases hz with rfl | ⟨rfl, hsm⟩
  · go_wp2_with fail
    go_ret
    exact ⟨rfl, H2.out.1⟩
  have ht' : t.size ≤ 1048576 := by omega
  have hlg : ¬ (1048576 - (s.size : Int) - (t.size : Int)) < 0 := by omega
  have HS := (show Hid _ from HS0.out hs' ht')
  have HI := (show Hid _ from HI0.out hs' ht')
  clear HS0 HI0 hsm
  go_wp2_with fail
  have HC := (show Hid (∀ wq, Below w2.heap.size w2 wq → (wq.cell? ⟨w.heap.size, 0, none⟩ = some (.int .i64 a) ∧ wq.cell? ⟨w.heap.size, 1, none⟩ = some (.int .i64 d) ∧ wq.cell? ⟨w.heap.size, 2, none⟩ = some (.string s)) ∧ wq.cell? ⟨w.heap.size + 1, 0, none⟩ = some (.int .i64 B) ∧ wq.cell? ⟨w.heap.size + 1, 1, none⟩ = some (.int .i64 D) ∧ wq.cell? ⟨w.heap.size + 1, 2, none⟩ = some (.string t)) from fun wq h => by
    have q1 := H2.out.2.1.still h
    have q2 := H2.out.2.2.still h
    exact ⟨⟨q1.cell 0 (by simp), q1.cell 1 (by simp), q1.cell 2 (by simp)⟩, q2.cell 0 (by simp), q2.cell 1 (by simp), q2.cell 2 (by simp)⟩)
  go_cut [6, 7] from 20 to 27 (fun b c wx => ∃ g : Nat, b = .pointer (some ⟨g, 0, none⟩) ∧ c = .int .i64 rc ∧ Hid (Below w2.heap.size w2 wx ∧ Box wx g 25 (edC ra rd rs)))
  case first =>
    have hbd := (Below.refl w2.heap.size w2).drew
    have hS0 := HC.out _ hbd
    have hBA : Below w2.heap.size w2 (w2.drew.alloc (.cells #[.int .i64 0, .int .i64 0, .string ⟨#[]⟩] 25)) := hbd.alloc (Nat.le_refl _) _
    have hBA2 : Below w2.heap.size w2 (w2.alloc (.cells #[.int .i64 0, .int .i64 0, .string ⟨#[]⟩] 25)).drew := (bel_alloc _ _).drew
    refine wp_region_held_drew (S := (fun wq => (wq.cell? ⟨w.heap.size, 0, none⟩ = some (.int .i64 a) ∧ wq.cell? ⟨w.heap.size, 1, none⟩ = some (.int .i64 d) ∧ wq.cell? ⟨w.heap.size, 2, none⟩ = some (.string s)) ∧ wq.cell? ⟨w.heap.size + 1, 0, none⟩ = some (.int .i64 B) ∧ wq.cell? ⟨w.heap.size + 1, 1, none⟩ = some (.int .i64 D) ∧ wq.cell? ⟨w.heap.size + 1, 2, none⟩ = some (.string t))) (by kernel_rfl) hS0 (fun hHeld => ?_)
    refine wpAnyH_take (i := 0) (oi := o3_8_0) (v := ?v1) rfl (by kernel_rfl) (by kernel_rfl) (by kernel_rfl) (fun _ _ _ h => h) (Or.inl ⟨by rfl, ?h1⟩) hHeld ?r1
    case h1 => (intro w hSw; (try dsimp only at hSw); go_simp; try with_reducible rfl)
    try simp only [Act.put, List.setIfInBounds_toArray, List.set_cons_zero, List.set_cons_succ]
    refine wpAnyH_take (i := 2) (oi := o3_8_2) (v := ?v2) rfl (by kernel_rfl) (by kernel_rfl) (by kernel_rfl) (fun _ _ _ h => h) (Or.inl ⟨by rfl, ?h2⟩) hHeld ?r2
    case h2 => (intro w hSw; (try dsimp only at hSw); go_simp; try with_reducible rfl)
    try simp only [Act.put, List.setIfInBounds_toArray, List.set_cons_zero, List.set_cons_succ]
    refine wpAnyH_ready (rs := [1, 8]) (by kernel_rfl) (by simp) ?_
    refine (AllReadyH.cons (o := o3_8_1) rfl (fun K hK => ?_) (AllReadyH.cons (o := o3_8_8) rfl (fun K hK => ?_) AllReadyH.nil))
    · go_simp
      refine Calls.mono (HTA.out _) ?_
      rintro e m8_1w ⟨rfl, m8_2⟩
      dsimp only
      have m8_3 := bel_trans hbd m8_2
      clear hHeld
      refine hK.out _ _ (HC.out _ m8_3) (fun hHeld => ?_)
      clear hK K
      try simp only [Act.put, List.setIfInBounds_toArray, List.set_cons_zero, List.set_cons_succ]
      refine wpAnyH_ready (rs := [3, 8]) (by kernel_rfl) (by simp) ?_
      refine (AllReadyH.cons (o := o3_8_3) rfl (fun K hK => ?_) (AllReadyH.cons (o := o3_8_8) rfl (fun K hK => ?_) AllReadyH.nil))
      · go_simp
        refine Calls.mono (HTB.out _) ?_
        rintro e m8_4w ⟨rfl, m8_5⟩
        dsimp only
        have m8_6 := bel_trans m8_3 m8_5
        clear hHeld
        refine hK.out _ _ (HC.out _ m8_6) (fun hHeld => ?_)
        clear hK K
        try simp only [Act.put, List.setIfInBounds_toArray, List.set_cons_zero, List.set_cons_succ]
        refine wpAnyH_ready (rs := [4, 8]) (by kernel_rfl) (by simp) ?_
        refine (AllReadyH.cons (o := o3_8_4) rfl (fun K hK => ?_) (AllReadyH.cons (o := o3_8_8) rfl (fun K hK => ?_) AllReadyH.nil))
        · go_simp
          refine Calls.mono (HS.out _) ?_
          rintro e m8_7w ⟨rfl, m8_8⟩
          dsimp only
          have m8_9 := bel_trans m8_6 m8_8
          clear hHeld
          refine hK.out _ _ (HC.out _ m8_9) (fun hHeld => ?_)
          clear hK K
          try simp only [Act.put, List.setIfInBounds_toArray, List.set_cons_zero, List.set_cons_succ]
          refine wpAnyH_take (i := 5) (oi := o3_8_5) (v := ?v3) rfl (by kernel_rfl) (by kernel_rfl) (by kernel_rfl) (fun _ _ _ h => h) (Or.inl ⟨by rfl, ?h3⟩) hHeld ?r3
          case h3 => (intro w hSw; (try dsimp only at hSw); go_simp; try with_reducible rfl)
          try simp only [Act.put, List.setIfInBounds_toArray, List.set_cons_zero, List.set_cons_succ]
          refine wpAnyH_take (i := 6) (oi := o3_8_6) (v := ?v4) rfl (by kernel_rfl) (by kernel_rfl) (by kernel_rfl) (fun _ _ _ h => h) (Or.inl ⟨by rfl, ?h4⟩) hHeld ?r4
          case h4 => (intro w hSw; (try dsimp only at hSw); go_simp; try with_reducible rfl)
          try simp only [Act.put, List.setIfInBounds_toArray, List.set_cons_zero, List.set_cons_succ]
          refine wpAnyH_take (i := 7) (oi := o3_8_7) (v := ?v5) rfl (by kernel_rfl) (by kernel_rfl) (by kernel_rfl) (fun _ _ _ h => h) (Or.inl ⟨by rfl, ?h5⟩) hHeld ?r5
          case h5 => (intro w hSw; (try dsimp only at hSw); go_simp; try with_reducible rfl)
          try simp only [Act.put, List.setIfInBounds_toArray, List.set_cons_zero, List.set_cons_succ]
          refine wpAnyH_ready (rs := [8]) (by kernel_rfl) (by simp) ?_
          refine (AllReadyH.cons (o := o3_8_8) rfl (fun K hK => ?_) AllReadyH.nil)
          go_simp
          clear hHeld
          refine hK.out _ _ (HC.out _ (bel_trans m8_9 (bel_alloc _ (.cells #[.int .i64 0, .int .i64 0, .string ⟨#[]⟩] 25)))) (fun hHeld => ?_)
          clear hK K
          try simp only [Act.put, List.setIfInBounds_toArray, List.set_cons_zero, List.set_cons_succ]
          have hFe : Below w2.heap.size w2 (m8_7w.alloc (.cells #[.int .i64 ra, .int .i64 rd, .string rs] 25)) := bel_trans m8_9 (bel_alloc _ _)
          have hXe := Box.new m8_7w 25 (edC ra rd rs)
          refine wpAnyH_ready (rs := [9]) (by kernel_rfl) (by simp) ?_
          refine (AllReadyH.cons (o := o3_8_9) rfl (fun K hK => ?_) AllReadyH.nil)
          go_simp
          clear hHeld
          refine hK.out _ _ (HC.out _ hFe) (fun hHeld => ?_)
          clear hK K
          try simp only [Act.put, List.setIfInBounds_toArray, List.set_cons_zero, List.set_cons_succ]
          refine wpAnyH_ready (rs := [10]) (by kernel_rfl) (by simp) ?_
          refine (AllReadyH.cons (o := o3_8_10) rfl (fun K hK => ?_) AllReadyH.nil)
          go_simp
          clear hHeld
          refine hK.out _ _ (HC.out _ hFe) (fun hHeld => ?_)
          clear hK K
          try simp only [Act.put, List.setIfInBounds_toArray, List.set_cons_zero, List.set_cons_succ]
          refine wpAnyH_done (by kernel_rfl) ?_ _
          (try refine NoPanic.normal ?_)
          go_wp2_with fail
          go_meet
          exact ⟨_, rfl, rfl, hFe, hXe⟩
        · go_simp
          have m8_10 : Below w2.heap.size w2 (m8_4w.alloc (.cells #[.int .i64 0, .int .i64 0, .string ⟨#[]⟩] 25)) := bel_trans m8_6 (bel_alloc _ _)
          clear hHeld
          refine hK.out _ _ (HC.out _ m8_10) (fun hHeld => ?_)
          clear hK K
          try simp only [Act.put, List.setIfInBounds_toArray, List.set_cons_zero, List.set_cons_succ]
          have m8_11 := Box.new m8_4w 25 (edC 0 0 ⟨#[]⟩)
          have hgw : w2.heap.size ≤ m8_4w.heap.size := m8_6.size
          refine wpAnyH_ready (rs := [4]) (by kernel_rfl) (by simp) ?_
          refine (AllReadyH.cons (o := o3_8_4) rfl (fun K hK => ?_) AllReadyH.nil)
          go_simp
          refine Calls.mono (HS.out _) ?_
          rintro e m8_12w ⟨rfl, m8_13⟩
          dsimp only
          have m8_14 := bel_trans m8_10 m8_13
          have m8_15 := m8_11.still m8_13
          clear hHeld
          refine hK.out _ _ (HC.out _ m8_14) (fun hHeld => ?_)
          clear hK K
          try simp only [Act.put, List.setIfInBounds_toArray, List.set_cons_zero, List.set_cons_succ]
          refine wpAnyH_take (i := 5) (oi := o3_8_5) (v := ?v6) rfl (by kernel_rfl) (by kernel_rfl) (by kernel_rfl) (fun _ _ _ h => h) (Or.inl ⟨by rfl, ?h6⟩) hHeld ?r6
          case h6 => (intro w hSw; (try dsimp only at hSw); go_simp; try with_reducible rfl)
          try simp only [Act.put, List.setIfInBounds_toArray, List.set_cons_zero, List.set_cons_succ]
          refine wpAnyH_take (i := 6) (oi := o3_8_6) (v := ?v7) rfl (by kernel_rfl) (by kernel_rfl) (by kernel_rfl) (fun _ _ _ h => h) (Or.inl ⟨by rfl, ?h7⟩) hHeld ?r7
          case h7 => (intro w hSw; (try dsimp only at hSw); go_simp; try with_reducible rfl)
          try simp only [Act.put, List.setIfInBounds_toArray, List.set_cons_zero, List.set_cons_succ]
          refine wpAnyH_take (i := 7) (oi := o3_8_7) (v := ?v8) rfl (by kernel_rfl) (by kernel_rfl) (by kernel_rfl) (fun _ _ _ h => h) (Or.inl ⟨by rfl, ?h8⟩) hHeld ?r8
          case h8 => (intro w hSw; (try dsimp only at hSw); go_simp; try with_reducible rfl)
          try simp only [Act.put, List.setIfInBounds_toArray, List.set_cons_zero, List.set_cons_succ]
          have z0 : m8_12w.cell? ⟨m8_4w.heap.size, 0, none⟩ = some (.int .i64 0) := m8_15.cell 0 (by simp)
          have z1 : m8_12w.cell? ⟨m8_4w.heap.size, 1, none⟩ = some (.int .i64 0) := m8_15.cell 1 (by simp)
          have z2 : m8_12w.cell? ⟨m8_4w.heap.size, 2, none⟩ = some (.string ⟨#[]⟩) := m8_15.cell 2 (by simp)
          have y0 := m8_15.frozen 0
          have y1 := m8_15.frozen 1
          have y2 := m8_15.frozen 2
          have hFe : Below w2.heap.size w2 (((m8_12w.setCell ⟨m8_4w.heap.size, 0, none⟩ (.int .i64 ra)).setCell ⟨m8_4w.heap.size, 1, none⟩ (.int .i64 rd)).setCell ⟨m8_4w.heap.size, 2, none⟩ (.string rs)) := ((m8_14.setCell (p := ⟨m8_4w.heap.size, 0, none⟩) (by show _ ≤ _; omega) _).setCell (p := ⟨m8_4w.heap.size, 1, none⟩) (by show _ ≤ _; omega) _).setCell (p := ⟨m8_4w.heap.size, 2, none⟩) (by show _ ≤ _; omega) _
          have hXe : Box (((m8_12w.setCell ⟨m8_4w.heap.size, 0, none⟩ (.int .i64 ra)).setCell ⟨m8_4w.heap.size, 1, none⟩ (.int .i64 rd)).setCell ⟨m8_4w.heap.size, 2, none⟩ (.string rs)) (m8_4w.heap.size) 25 (edC ra rd rs) := ((m8_15.set 0 _).set 1 _).set 2 _
          refine wpAnyH_ready (rs := [9]) (by kernel_rfl) (by simp) ?_
          refine (AllReadyH.cons (o := o3_8_9) rfl (fun K hK => ?_) AllReadyH.nil)
          go_simp
          clear hHeld
          refine hK.out _ _ (HC.out _ hFe) (fun hHeld => ?_)
          clear hK K
          try simp only [Act.put, List.setIfInBounds_toArray, List.set_cons_zero, List.set_cons_succ]
          refine wpAnyH_ready (rs := [10]) (by kernel_rfl) (by simp) ?_
          refine (AllReadyH.cons (o := o3_8_10) rfl (fun K hK => ?_) AllReadyH.nil)
          go_simp
          clear hHeld
          refine hK.out _ _ (HC.out _ hFe) (fun hHeld => ?_)
          clear hK K
          try simp only [Act.put, List.setIfInBounds_toArray, List.set_cons_zero, List.set_cons_succ]
          refine wpAnyH_done (by kernel_rfl) ?_ _
          (try refine NoPanic.normal ?_)
          go_wp2_with fail
          go_meet
          exact ⟨_, rfl, rfl, hFe, hXe⟩
      · go_simp
        have m8_16 : Below w2.heap.size w2 (m8_1w.alloc (.cells #[.int .i64 0, .int .i64 0, .string ⟨#[]⟩] 25)) := bel_trans m8_3 (bel_alloc _ _)
        clear hHeld
        refine hK.out _ _ (HC.out _ m8_16) (fun hHeld => ?_)
        clear hK K
        try simp only [Act.put, List.setIfInBounds_toArray, List.set_cons_zero, List.set_cons_succ]
        have m8_17 := Box.new m8_1w 25 (edC 0 0 ⟨#[]⟩)
        have hgw : w2.heap.size ≤ m8_1w.heap.size := m8_3.size
        refine wpAnyH_ready (rs := [3]) (by kernel_rfl) (by simp) ?_
        refine (AllReadyH.cons (o := o3_8_3) rfl (fun K hK => ?_) AllReadyH.nil)
        go_simp
        refine Calls.mono (HTB.out _) ?_
        rintro e m8_18w ⟨rfl, m8_19⟩
        dsimp only
        have m8_20 := bel_trans m8_16 m8_19
        have m8_21 := m8_17.still m8_19
        clear hHeld
        refine hK.out _ _ (HC.out _ m8_20) (fun hHeld => ?_)
        clear hK K
        try simp only [Act.put, List.setIfInBounds_toArray, List.set_cons_zero, List.set_cons_succ]
        refine wpAnyH_ready (rs := [4]) (by kernel_rfl) (by simp) ?_
        refine (AllReadyH.cons (o := o3_8_4) rfl (fun K hK => ?_) AllReadyH.nil)
        go_simp
        refine Calls.mono (HS.out _) ?_
        rintro e m8_22w ⟨rfl, m8_23⟩
        dsimp only
        have m8_24 := bel_trans m8_20 m8_23
        have m8_25 := m8_21.still m8_23
        clear hHeld
        refine hK.out _ _ (HC.out _ m8_24) (fun hHeld => ?_)
        clear hK K
        try simp only [Act.put, List.setIfInBounds_toArray, List.set_cons_zero, List.set_cons_succ]
        refine wpAnyH_take (i := 5) (oi := o3_8_5) (v := ?v9) rfl (by kernel_rfl) (by kernel_rfl) (by kernel_rfl) (fun _ _ _ h => h) (Or.inl ⟨by rfl, ?h9⟩) hHeld ?r9
        case h9 => (intro w hSw; (try dsimp only at hSw); go_simp; try with_reducible rfl)
        try simp only [Act.put, List.setIfInBounds_toArray, List.set_cons_zero, List.set_cons_succ]
        refine wpAnyH_take (i := 6) (oi := o3_8_6) (v := ?v10) rfl (by kernel_rfl) (by kernel_rfl) (by kernel_rfl) (fun _ _ _ h => h) (Or.inl ⟨by rfl, ?h10⟩) hHeld ?r10
        case h10 => (intro w hSw; (try dsimp only at hSw); go_simp; try with_reducible rfl)
        try simp only [Act.put, List.setIfInBounds_toArray, List.set_cons_zero, List.set_cons_succ]
        refine wpAnyH_take (i := 7) (oi := o3_8_7) (v := ?v11) rfl (by kernel_rfl) (by kernel_rfl) (by kernel_rfl) (fun _ _ _ h => h) (Or.inl ⟨by rfl, ?h11⟩) hHeld ?r11
        case h11 => (intro w hSw; (try dsimp only at hSw); go_simp; try with_reducible rfl)
        try simp only [Act.put, List.setIfInBounds_toArray, List.set_cons_zero, List.set_cons_succ]
        have z0 : m8_22w.cell? ⟨m8_1w.heap.size, 0, none⟩ = some (.int .i64 0) := m8_25.cell 0 (by simp)
        have z1 : m8_22w.cell? ⟨m8_1w.heap.size, 1, none⟩ = some (.int .i64 0) := m8_25.cell 1 (by simp)
        have z2 : m8_22w.cell? ⟨m8_1w.heap.size, 2, none⟩ = some (.string ⟨#[]⟩) := m8_25.cell 2 (by simp)
        have y0 := m8_25.frozen 0
        have y1 := m8_25.frozen 1
        have y2 := m8_25.frozen 2
        have hFe : Below w2.heap.size w2 (((m8_22w.setCell ⟨m8_1w.heap.size, 0, none⟩ (.int .i64 ra)).setCell ⟨m8_1w.heap.size, 1, none⟩ (.int .i64 rd)).setCell ⟨m8_1w.heap.size, 2, none⟩ (.string rs)) := ((m8_24.setCell (p := ⟨m8_1w.heap.size, 0, none⟩) (by show _ ≤ _; omega) _).setCell (p := ⟨m8_1w.heap.size, 1, none⟩) (by show _ ≤ _; omega) _).setCell (p := ⟨m8_1w.heap.size, 2, none⟩) (by show _ ≤ _; omega) _
        have hXe : Box (((m8_22w.setCell ⟨m8_1w.heap.size, 0, none⟩ (.int .i64 ra)).setCell ⟨m8_1w.heap.size, 1, none⟩ (.int .i64 rd)).setCell ⟨m8_1w.heap.size, 2, none⟩ (.string rs)) (m8_1w.heap.size) 25 (edC ra rd rs) := ((m8_25.set 0 _).set 1 _).set 2 _
        refine wpAnyH_ready (rs := [9]) (by kernel_rfl) (by simp) ?_
        refine (AllReadyH.cons (o := o3_8_9) rfl (fun K hK => ?_) AllReadyH.nil)
        go_simp
        clear hHeld
        refine hK.out _ _ (HC.out _ hFe) (fun hHeld => ?_)
        clear hK K
        try simp only [Act.put, List.setIfInBounds_toArray, List.set_cons_zero, List.set_cons_succ]
        refine wpAnyH_ready (rs := [10]) (by kernel_rfl) (by simp) ?_
        refine (AllReadyH.cons (o := o3_8_10) rfl (fun K hK => ?_) AllReadyH.nil)
        go_simp
        clear hHeld
        refine hK.out _ _ (HC.out _ hFe) (fun hHeld => ?_)
        clear hK K
        try simp only [Act.put, List.setIfInBounds_toArray, List.set_cons_zero, List.set_cons_succ]
        refine wpAnyH_done (by kernel_rfl) ?_ _
        (try refine NoPanic.normal ?_)
        go_wp2_with fail
        go_meet
        exact ⟨_, rfl, rfl, hFe, hXe⟩
    · go_simp
      clear hHeld
      refine hK.out _ _ (HC.out _ (by first | exact hBA | exact hBA2)) (fun hHeld => ?_)
      clear hK K
      try simp only [Act.put, List.setIfInBounds_toArray, List.set_cons_zero, List.set_cons_succ]
      have m8_26 : Box (w2.drew.alloc (.cells #[.int .i64 0, .int .i64 0, .string ⟨#[]⟩] 25)) w2.heap.size 25 (edC 0 0 ⟨#[]⟩) := Box.new w2.drew 25 _
      have hgw : w2.heap.size ≤ w2.heap.size := Nat.le_refl _
      refine wpAnyH_ready (rs := [1]) (by kernel_rfl) (by simp) ?_
      refine (AllReadyH.cons (o := o3_8_1) rfl (fun K hK => ?_) AllReadyH.nil)
      go_simp
      refine Calls.mono (HTA.out _) ?_
      rintro e m8_27w ⟨rfl, m8_28⟩
      dsimp only
      have m8_29 := bel_trans hBA m8_28
      have m8_30 := m8_26.still m8_28
      clear hHeld
      refine hK.out _ _ (HC.out _ m8_29) (fun hHeld => ?_)
      clear hK K
      try simp only [Act.put, List.setIfInBounds_toArray, List.set_cons_zero, List.set_cons_succ]
      refine wpAnyH_ready (rs := [3]) (by kernel_rfl) (by simp) ?_
      refine (AllReadyH.cons (o := o3_8_3) rfl (fun K hK => ?_) AllReadyH.nil)
      go_simp
      refine Calls.mono (HTB.out _) ?_
      rintro e m8_31w ⟨rfl, m8_32⟩
      dsimp only
      have m8_33 := bel_trans m8_29 m8_32
      have m8_34 := m8_30.still m8_32
      clear hHeld
      refine hK.out _ _ (HC.out _ m8_33) (fun hHeld => ?_)
      clear hK K
      try simp only [Act.put, List.setIfInBounds_toArray, List.set_cons_zero, List.set_cons_succ]
      refine wpAnyH_ready (rs := [4]) (by kernel_rfl) (by simp) ?_
      refine (AllReadyH.cons (o := o3_8_4) rfl (fun K hK => ?_) AllReadyH.nil)
      go_simp
      refine Calls.mono (HS.out _) ?_
      rintro e m8_35w ⟨rfl, m8_36⟩
      dsimp only
      have m8_37 := bel_trans m8_33 m8_36
      have m8_38 := m8_34.still m8_36
      clear hHeld
      refine hK.out _ _ (HC.out _ m8_37) (fun hHeld => ?_)
      clear hK K
      try simp only [Act.put, List.setIfInBounds_toArray, List.set_cons_zero, List.set_cons_succ]
      refine wpAnyH_take (i := 5) (oi := o3_8_5) (v := ?v12) rfl (by kernel_rfl) (by kernel_rfl) (by kernel_rfl) (fun _ _ _ h => h) (Or.inl ⟨by rfl, ?h12⟩) hHeld ?r12
      case h12 => (intro w hSw; (try dsimp only at hSw); go_simp; try with_reducible rfl)
      try simp only [Act.put, List.setIfInBounds_toArray, List.set_cons_zero, List.set_cons_succ]
      refine wpAnyH_take (i := 6) (oi := o3_8_6) (v := ?v13) rfl (by kernel_rfl) (by kernel_rfl) (by kernel_rfl) (fun _ _ _ h => h) (Or.inl ⟨by rfl, ?h13⟩) hHeld ?r13
      case h13 => (intro w hSw; (try dsimp only at hSw); go_simp; try with_reducible rfl)
      try simp only [Act.put, List.setIfInBounds_toArray, List.set_cons_zero, List.set_cons_succ]
      refine wpAnyH_take (i := 7) (oi := o3_8_7) (v := ?v14) rfl (by kernel_rfl) (by kernel_rfl) (by kernel_rfl) (fun _ _ _ h => h) (Or.inl ⟨by rfl, ?h14⟩) hHeld ?r14
      case h14 => (intro w hSw; (try dsimp only at hSw); go_simp; try with_reducible rfl)
      try simp only [Act.put, List.setIfInBounds_toArray, List.set_cons_zero, List.set_cons_succ]
      have z0 : m8_35w.cell? ⟨w2.heap.size, 0, none⟩ = some (.int .i64 0) := m8_38.cell 0 (by simp)
      have z1 : m8_35w.cell? ⟨w2.heap.size, 1, none⟩ = some (.int .i64 0) := m8_38.cell 1 (by simp)
      have z2 : m8_35w.cell? ⟨w2.heap.size, 2, none⟩ = some (.string ⟨#[]⟩) := m8_38.cell 2 (by simp)
      have y0 := m8_38.frozen 0
      have y1 := m8_38.frozen 1
      have y2 := m8_38.frozen 2
      have hFe : Below w2.heap.size w2 (((m8_35w.setCell ⟨w2.heap.size, 0, none⟩ (.int .i64 ra)).setCell ⟨w2.heap.size, 1, none⟩ (.int .i64 rd)).setCell ⟨w2.heap.size, 2, none⟩ (.string rs)) := ((m8_37.setCell (p := ⟨w2.heap.size, 0, none⟩) (by show _ ≤ _; omega) _).setCell (p := ⟨w2.heap.size, 1, none⟩) (by show _ ≤ _; omega) _).setCell (p := ⟨w2.heap.size, 2, none⟩) (by show _ ≤ _; omega) _
      have hXe : Box (((m8_35w.setCell ⟨w2.heap.size, 0, none⟩ (.int .i64 ra)).setCell ⟨w2.heap.size, 1, none⟩ (.int .i64 rd)).setCell ⟨w2.heap.size, 2, none⟩ (.string rs)) (w2.heap.size) 25 (edC ra rd rs) := ((m8_38.set 0 _).set 1 _).set 2 _
      refine wpAnyH_ready (rs := [9]) (by kernel_rfl) (by simp) ?_
      refine (AllReadyH.cons (o := o3_8_9) rfl (fun K hK => ?_) AllReadyH.nil)
      go_simp
      clear hHeld
      refine hK.out _ _ (HC.out _ hFe) (fun hHeld => ?_)
      clear hK K
      try simp only [Act.put, List.setIfInBounds_toArray, List.set_cons_zero, List.set_cons_succ]
      refine wpAnyH_ready (rs := [10]) (by kernel_rfl) (by simp) ?_
      refine (AllReadyH.cons (o := o3_8_10) rfl (fun K hK => ?_) AllReadyH.nil)
      go_simp
      clear hHeld
      refine hK.out _ _ (HC.out _ hFe) (fun hHeld => ?_)
      clear hK K
      try simp only [Act.put, List.setIfInBounds_toArray, List.set_cons_zero, List.set_cons_succ]
      refine wpAnyH_done (by kernel_rfl) ?_ _
      (try refine NoPanic.normal ?_)
      go_wp2_with fail
      go_meet
      exact ⟨_, rfl, rfl, hFe, hXe⟩
  case rest =>
    obtain ⟨g6, rfl, rfl, HX⟩ := hcut
    obtain ⟨w3, rfl⟩ : ∃ w3, w3 = wc := ⟨_, rfl⟩
    have H3 := (show Hid (Below w.heap.size w w3 ∧ Box w3 w.heap.size 23 (edC a d s) ∧ Box w3 (w.heap.size + 1) 23 (edC B D t) ∧ Box w3 g6 25 (edC ra rd rs)) from ⟨bel_trans H2.out.1 HX.out.1, H2.out.2.1.still HX.out.1, H2.out.2.2.still HX.out.1, HX.out.2⟩)
    clear HX H2 HC HS
    have HC := (show Hid (∀ wq, Below w3.heap.size w3 wq → (wq.cell? ⟨w.heap.size, 0, none⟩ = some (.int .i64 a) ∧ wq.cell? ⟨w.heap.size, 1, none⟩ = some (.int .i64 d) ∧ wq.cell? ⟨w.heap.size, 2, none⟩ = some (.string s)) ∧ wq.cell? ⟨w.heap.size + 1, 0, none⟩ = some (.int .i64 B) ∧ wq.cell? ⟨w.heap.size + 1, 1, none⟩ = some (.int .i64 D) ∧ wq.cell? ⟨w.heap.size + 1, 2, none⟩ = some (.string t)) from fun wq h => by
      have q1 := H3.out.2.1.still h
      have q2 := H3.out.2.2.1.still h
      exact ⟨⟨q1.cell 0 (by simp), q1.cell 1 (by simp), q1.cell 2 (by simp)⟩, q2.cell 0 (by simp), q2.cell 1 (by simp), q2.cell 2 (by simp)⟩)
    (try apply_assumption)
    (try (apply wp_seq_k; intro _ _))
    go_cut [8, 9] from 28 to 35 (fun b c wx => ∃ g : Nat, b = .pointer (some ⟨g, 0, none⟩) ∧ c = .int .i64 rc ∧ Hid (Below w3.heap.size w3 wx ∧ Box wx g 25 (edC ra rd rs)))
    case first =>
      have hbd := (Below.refl w3.heap.size w3).drew
      have hS0 := HC.out _ hbd
      have hBA : Below w3.heap.size w3 (w3.drew.alloc (.cells #[.int .i64 0, .int .i64 0, .string ⟨#[]⟩] 25)) := hbd.alloc (Nat.le_refl _) _
      have hBA2 : Below w3.heap.size w3 (w3.alloc (.cells #[.int .i64 0, .int .i64 0, .string ⟨#[]⟩] 25)).drew := (bel_alloc _ _).drew
      refine wp_region_held_drew (S := (fun wq => (wq.cell? ⟨w.heap.size, 0, none⟩ = some (.int .i64 a) ∧ wq.cell? ⟨w.heap.size, 1, none⟩ = some (.int .i64 d) ∧ wq.cell? ⟨w.heap.size, 2, none⟩ = some (.string s)) ∧ wq.cell? ⟨w.heap.size + 1, 0, none⟩ = some (.int .i64 B) ∧ wq.cell? ⟨w.heap.size + 1, 1, none⟩ = some (.int .i64 D) ∧ wq.cell? ⟨w.heap.size + 1, 2, none⟩ = some (.string t))) (by kernel_rfl) hS0 (fun hHeld => ?_)
      refine wpAnyH_take (i := 0) (oi := o3_9_0) (v := ?v15) rfl (by kernel_rfl) (by kernel_rfl) (by kernel_rfl) (fun _ _ _ h => h) (Or.inl ⟨by rfl, ?h15⟩) hHeld ?r15
      case h15 => (intro w hSw; (try dsimp only at hSw); go_simp; try with_reducible rfl)
      try simp only [Act.put, List.setIfInBounds_toArray, List.set_cons_zero, List.set_cons_succ]
      refine wpAnyH_take (i := 2) (oi := o3_9_2) (v := ?v16) rfl (by kernel_rfl) (by kernel_rfl) (by kernel_rfl) (fun _ _ _ h => h) (Or.inl ⟨by rfl, ?h16⟩) hHeld ?r16
      case h16 => (intro w hSw; (try dsimp only at hSw); go_simp; try with_reducible rfl)
      try simp only [Act.put, List.setIfInBounds_toArray, List.set_cons_zero, List.set_cons_succ]
      refine wpAnyH_ready (rs := [1, 8]) (by kernel_rfl) (by simp) ?_
      refine (AllReadyH.cons (o := o3_9_1) rfl (fun K hK => ?_) (AllReadyH.cons (o := o3_9_8) rfl (fun K hK => ?_) AllReadyH.nil))
      · go_simp
        refine Calls.mono (HTA.out _) ?_
        rintro e m9_1w ⟨rfl, m9_2⟩
        dsimp only
        have m9_3 := bel_trans hbd m9_2
        clear hHeld
        refine hK.out _ _ (HC.out _ m9_3) (fun hHeld => ?_)
        clear hK K
        try simp only [Act.put, List.setIfInBounds_toArray, List.set_cons_zero, List.set_cons_succ]
        refine wpAnyH_ready (rs := [3, 8]) (by kernel_rfl) (by simp) ?_
        refine (AllReadyH.cons (o := o3_9_3) rfl (fun K hK => ?_) (AllReadyH.cons (o := o3_9_8) rfl (fun K hK => ?_) AllReadyH.nil))
        · go_simp
          refine Calls.mono (HTB.out _) ?_
          rintro e m9_4w ⟨rfl, m9_5⟩
          dsimp only
          have m9_6 := bel_trans m9_3 m9_5
          clear hHeld
          refine hK.out _ _ (HC.out _ m9_6) (fun hHeld => ?_)
          clear hK K
          try simp only [Act.put, List.setIfInBounds_toArray, List.set_cons_zero, List.set_cons_succ]
          refine wpAnyH_ready (rs := [4, 8]) (by kernel_rfl) (by simp) ?_
          refine (AllReadyH.cons (o := o3_9_4) rfl (fun K hK => ?_) (AllReadyH.cons (o := o3_9_8) rfl (fun K hK => ?_) AllReadyH.nil))
          · go_simp
            refine Calls.mono (HI.out _) ?_
            rintro e m9_7w ⟨rfl, m9_8⟩
            dsimp only
            have m9_9 := bel_trans m9_6 m9_8
            clear hHeld
            refine hK.out _ _ (HC.out _ m9_9) (fun hHeld => ?_)
            clear hK K
            try simp only [Act.put, List.setIfInBounds_toArray, List.set_cons_zero, List.set_cons_succ]
            refine wpAnyH_take (i := 5) (oi := o3_9_5) (v := ?v17) rfl (by kernel_rfl) (by kernel_rfl) (by kernel_rfl) (fun _ _ _ h => h) (Or.inl ⟨by rfl, ?h17⟩) hHeld ?r17
            case h17 => (intro w hSw; (try dsimp only at hSw); go_simp; try with_reducible rfl)
            try simp only [Act.put, List.setIfInBounds_toArray, List.set_cons_zero, List.set_cons_succ]
            refine wpAnyH_take (i := 6) (oi := o3_9_6) (v := ?v18) rfl (by kernel_rfl) (by kernel_rfl) (by kernel_rfl) (fun _ _ _ h => h) (Or.inl ⟨by rfl, ?h18⟩) hHeld ?r18
            case h18 => (intro w hSw; (try dsimp only at hSw); go_simp; try with_reducible rfl)
            try simp only [Act.put, List.setIfInBounds_toArray, List.set_cons_zero, List.set_cons_succ]
            refine wpAnyH_take (i := 7) (oi := o3_9_7) (v := ?v19) rfl (by kernel_rfl) (by kernel_rfl) (by kernel_rfl) (fun _ _ _ h => h) (Or.inl ⟨by rfl, ?h19⟩) hHeld ?r19
            case h19 => (intro w hSw; (try dsimp only at hSw); go_simp; try with_reducible rfl)
            try simp only [Act.put, List.setIfInBounds_toArray, List.set_cons_zero, List.set_cons_succ]
            refine wpAnyH_ready (rs := [8]) (by kernel_rfl) (by simp) ?_
            refine (AllReadyH.cons (o := o3_9_8) rfl (fun K hK => ?_) AllReadyH.nil)
            go_simp
            clear hHeld
            refine hK.out _ _ (HC.out _ (bel_trans m9_9 (bel_alloc _ (.cells #[.int .i64 0, .int .i64 0, .string ⟨#[]⟩] 25)))) (fun hHeld => ?_)
            clear hK K
            try simp only [Act.put, List.setIfInBounds_toArray, List.set_cons_zero, List.set_cons_succ]
            have hFe : Below w3.heap.size w3 (m9_7w.alloc (.cells #[.int .i64 ra, .int .i64 rd, .string rs] 25)) := bel_trans m9_9 (bel_alloc _ _)
            have hXe := Box.new m9_7w 25 (edC ra rd rs)
            refine wpAnyH_ready (rs := [9]) (by kernel_rfl) (by simp) ?_
            refine (AllReadyH.cons (o := o3_9_9) rfl (fun K hK => ?_) AllReadyH.nil)
            go_simp
            clear hHeld
            refine hK.out _ _ (HC.out _ hFe) (fun hHeld => ?_)
            clear hK K
            try simp only [Act.put, List.setIfInBounds_toArray, List.set_cons_zero, List.set_cons_succ]
            refine wpAnyH_ready (rs := [10]) (by kernel_rfl) (by simp) ?_
            refine (AllReadyH.cons (o := o3_9_10) rfl (fun K hK => ?_) AllReadyH.nil)
            go_simp
            clear hHeld
            refine hK.out _ _ (HC.out _ hFe) (fun hHeld => ?_)
            clear hK K
            try simp only [Act.put, List.setIfInBounds_toArray, List.set_cons_zero, List.set_cons_succ]
            refine wpAnyH_done (by kernel_rfl) ?_ _
            (try refine NoPanic.normal ?_)
            go_wp2_with fail
            go_meet
            exact ⟨_, rfl, rfl, hFe, hXe⟩
          · go_simp
            have m9_10 : Below w3.heap.size w3 (m9_4w.alloc (.cells #[.int .i64 0, .int .i64 0, .string ⟨#[]⟩] 25)) := bel_trans m9_6 (bel_alloc _ _)
            clear hHeld
            refine hK.out _ _ (HC.out _ m9_10) (fun hHeld => ?_)
            clear hK K
            try simp only [Act.put, List.setIfInBounds_toArray, List.set_cons_zero, List.set_cons_succ]
            have m9_11 := Box.new m9_4w 25 (edC 0 0 ⟨#[]⟩)
            have hgw : w3.heap.size ≤ m9_4w.heap.size := m9_6.size
            refine wpAnyH_ready (rs := [4]) (by kernel_rfl) (by simp) ?_
            refine (AllReadyH.cons (o := o3_9_4) rfl (fun K hK => ?_) AllReadyH.nil)
            go_simp
            refine Calls.mono (HI.out _) ?_
            rintro e m9_12w ⟨rfl, m9_13⟩
            dsimp only
            have m9_14 := bel_trans m9_10 m9_13
            have m9_15 := m9_11.still m9_13
            clear hHeld
            refine hK.out _ _ (HC.out _ m9_14) (fun hHeld => ?_)
            clear hK K
            try simp only [Act.put, List.setIfInBounds_toArray, List.set_cons_zero, List.set_cons_succ]
            refine wpAnyH_take (i := 5) (oi := o3_9_5) (v := ?v20) rfl (by kernel_rfl) (by kernel_rfl) (by kernel_rfl) (fun _ _ _ h => h) (Or.inl ⟨by rfl, ?h20⟩) hHeld ?r20
            case h20 => (intro w hSw; (try dsimp only at hSw); go_simp; try with_reducible rfl)
            try simp only [Act.put, List.setIfInBounds_toArray, List.set_cons_zero, List.set_cons_succ]
            refine wpAnyH_take (i := 6) (oi := o3_9_6) (v := ?v21) rfl (by kernel_rfl) (by kernel_rfl) (by kernel_rfl) (fun _ _ _ h => h) (Or.inl ⟨by rfl, ?h21⟩) hHeld ?r21
            case h21 => (intro w hSw; (try dsimp only at hSw); go_simp; try with_reducible rfl)
            try simp only [Act.put, List.setIfInBounds_toArray, List.set_cons_zero, List.set_cons_succ]
            refine wpAnyH_take (i := 7) (oi := o3_9_7) (v := ?v22) rfl (by kernel_rfl) (by kernel_rfl) (by kernel_rfl) (fun _ _ _ h => h) (Or.inl ⟨by rfl, ?h22⟩) hHeld ?r22
            case h22 => (intro w hSw; (try dsimp only at hSw); go_simp; try with_reducible rfl)
            try simp only [Act.put, List.setIfInBounds_toArray, List.set_cons_zero, List.set_cons_succ]
            have z0 : m9_12w.cell? ⟨m9_4w.heap.size, 0, none⟩ = some (.int .i64 0) := m9_15.cell 0 (by simp)
            have z1 : m9_12w.cell? ⟨m9_4w.heap.size, 1, none⟩ = some (.int .i64 0) := m9_15.cell 1 (by simp)
            have z2 : m9_12w.cell? ⟨m9_4w.heap.size, 2, none⟩ = some (.string ⟨#[]⟩) := m9_15.cell 2 (by simp)
            have y0 := m9_15.frozen 0
            have y1 := m9_15.frozen 1
            have y2 := m9_15.frozen 2
            have hFe : Below w3.heap.size w3 (((m9_12w.setCell ⟨m9_4w.heap.size, 0, none⟩ (.int .i64 ra)).setCell ⟨m9_4w.heap.size, 1, none⟩ (.int .i64 rd)).setCell ⟨m9_4w.heap.size, 2, none⟩ (.string rs)) := ((m9_14.setCell (p := ⟨m9_4w.heap.size, 0, none⟩) (by show _ ≤ _; omega) _).setCell (p := ⟨m9_4w.heap.size, 1, none⟩) (by show _ ≤ _; omega) _).setCell (p := ⟨m9_4w.heap.size, 2, none⟩) (by show _ ≤ _; omega) _
            have hXe : Box (((m9_12w.setCell ⟨m9_4w.heap.size, 0, none⟩ (.int .i64 ra)).setCell ⟨m9_4w.heap.size, 1, none⟩ (.int .i64 rd)).setCell ⟨m9_4w.heap.size, 2, none⟩ (.string rs)) (m9_4w.heap.size) 25 (edC ra rd rs) := ((m9_15.set 0 _).set 1 _).set 2 _
            refine wpAnyH_ready (rs := [9]) (by kernel_rfl) (by simp) ?_
            refine (AllReadyH.cons (o := o3_9_9) rfl (fun K hK => ?_) AllReadyH.nil)
            go_simp
            clear hHeld
            refine hK.out _ _ (HC.out _ hFe) (fun hHeld => ?_)
            clear hK K
            try simp only [Act.put, List.setIfInBounds_toArray, List.set_cons_zero, List.set_cons_succ]
            refine wpAnyH_ready (rs := [10]) (by kernel_rfl) (by simp) ?_
            refine (AllReadyH.cons (o := o3_9_10) rfl (fun K hK => ?_) AllReadyH.nil)
            go_simp
            clear hHeld
            refine hK.out _ _ (HC.out _ hFe) (fun hHeld => ?_)
            clear hK K
            try simp only [Act.put, List.setIfInBounds_toArray, List.set_cons_zero, List.set_cons_succ]
            refine wpAnyH_done (by kernel_rfl) ?_ _
            (try refine NoPanic.normal ?_)
            go_wp2_with fail
            go_meet
            exact ⟨_, rfl, rfl, hFe, hXe⟩
        · go_simp
          have m9_16 : Below w3.heap.size w3 (m9_1w.alloc (.cells #[.int .i64 0, .int .i64 0, .string ⟨#[]⟩] 25)) := bel_trans m9_3 (bel_alloc _ _)
          clear hHeld
          refine hK.out _ _ (HC.out _ m9_16) (fun hHeld => ?_)
          clear hK K
          try simp only [Act.put, List.setIfInBounds_toArray, List.set_cons_zero, List.set_cons_succ]
          have m9_17 := Box.new m9_1w 25 (edC 0 0 ⟨#[]⟩)
          have hgw : w3.heap.size ≤ m9_1w.heap.size := m9_3.size
          refine wpAnyH_ready (rs := [3]) (by kernel_rfl) (by simp) ?_
          refine (AllReadyH.cons (o := o3_9_3) rfl (fun K hK => ?_) AllReadyH.nil)
          go_simp
          refine Calls.mono (HTB.out _) ?_
          rintro e m9_18w ⟨rfl, m9_19⟩
          dsimp only
          have m9_20 := bel_trans m9_16 m9_19
          have m9_21 := m9_17.still m9_19
          clear hHeld
          refine hK.out _ _ (HC.out _ m9_20) (fun hHeld => ?_)
          clear hK K
          try simp only [Act.put, List.setIfInBounds_toArray, List.set_cons_zero, List.set_cons_succ]
          refine wpAnyH_ready (rs := [4]) (by kernel_rfl) (by simp) ?_
          refine (AllReadyH.cons (o := o3_9_4) rfl (fun K hK => ?_) AllReadyH.nil)
          go_simp
          refine Calls.mono (HI.out _) ?_
          rintro e m9_22w ⟨rfl, m9_23⟩
          dsimp only
          have m9_24 := bel_trans m9_20 m9_23
          have m9_25 := m9_21.still m9_23
          clear hHeld
          refine hK.out _ _ (HC.out _ m9_24) (fun hHeld => ?_)
          clear hK K
          try simp only [Act.put, List.setIfInBounds_toArray, List.set_cons_zero, List.set_cons_succ]
          refine wpAnyH_take (i := 5) (oi := o3_9_5) (v := ?v23) rfl (by kernel_rfl) (by kernel_rfl) (by kernel_rfl) (fun _ _ _ h => h) (Or.inl ⟨by rfl, ?h23⟩) hHeld ?r23
          case h23 => (intro w hSw; (try dsimp only at hSw); go_simp; try with_reducible rfl)
          try simp only [Act.put, List.setIfInBounds_toArray, List.set_cons_zero, List.set_cons_succ]
          refine wpAnyH_take (i := 6) (oi := o3_9_6) (v := ?v24) rfl (by kernel_rfl) (by kernel_rfl) (by kernel_rfl) (fun _ _ _ h => h) (Or.inl ⟨by rfl, ?h24⟩) hHeld ?r24
          case h24 => (intro w hSw; (try dsimp only at hSw); go_simp; try with_reducible rfl)
          try simp only [Act.put, List.setIfInBounds_toArray, List.set_cons_zero, List.set_cons_succ]
          refine wpAnyH_take (i := 7) (oi := o3_9_7) (v := ?v25) rfl (by kernel_rfl) (by kernel_rfl) (by kernel_rfl) (fun _ _ _ h => h) (Or.inl ⟨by rfl, ?h25⟩) hHeld ?r25
          case h25 => (intro w hSw; (try dsimp only at hSw); go_simp; try with_reducible rfl)
          try simp only [Act.put, List.setIfInBounds_toArray, List.set_cons_zero, List.set_cons_succ]
          have z0 : m9_22w.cell? ⟨m9_1w.heap.size, 0, none⟩ = some (.int .i64 0) := m9_25.cell 0 (by simp)
          have z1 : m9_22w.cell? ⟨m9_1w.heap.size, 1, none⟩ = some (.int .i64 0) := m9_25.cell 1 (by simp)
          have z2 : m9_22w.cell? ⟨m9_1w.heap.size, 2, none⟩ = some (.string ⟨#[]⟩) := m9_25.cell 2 (by simp)
          have y0 := m9_25.frozen 0
          have y1 := m9_25.frozen 1
          have y2 := m9_25.frozen 2
          have hFe : Below w3.heap.size w3 (((m9_22w.setCell ⟨m9_1w.heap.size, 0, none⟩ (.int .i64 ra)).setCell ⟨m9_1w.heap.size, 1, none⟩ (.int .i64 rd)).setCell ⟨m9_1w.heap.size, 2, none⟩ (.string rs)) := ((m9_24.setCell (p := ⟨m9_1w.heap.size, 0, none⟩) (by show _ ≤ _; omega) _).setCell (p := ⟨m9_1w.heap.size, 1, none⟩) (by show _ ≤ _; omega) _).setCell (p := ⟨m9_1w.heap.size, 2, none⟩) (by show _ ≤ _; omega) _
          have hXe : Box (((m9_22w.setCell ⟨m9_1w.heap.size, 0, none⟩ (.int .i64 ra)).setCell ⟨m9_1w.heap.size, 1, none⟩ (.int .i64 rd)).setCell ⟨m9_1w.heap.size, 2, none⟩ (.string rs)) (m9_1w.heap.size) 25 (edC ra rd rs) := ((m9_25.set 0 _).set 1 _).set 2 _
          refine wpAnyH_ready (rs := [9]) (by kernel_rfl) (by simp) ?_
          refine (AllReadyH.cons (o := o3_9_9) rfl (fun K hK => ?_) AllReadyH.nil)
          go_simp
          clear hHeld
          refine hK.out _ _ (HC.out _ hFe) (fun hHeld => ?_)
          clear hK K
          try simp only [Act.put, List.setIfInBounds_toArray, List.set_cons_zero, List.set_cons_succ]
          refine wpAnyH_ready (rs := [10]) (by kernel_rfl) (by simp) ?_
          refine (AllReadyH.cons (o := o3_9_10) rfl (fun K hK => ?_) AllReadyH.nil)
          go_simp
          clear hHeld
          refine hK.out _ _ (HC.out _ hFe) (fun hHeld => ?_)
          clear hK K
          try simp only [Act.put, List.setIfInBounds_toArray, List.set_cons_zero, List.set_cons_succ]
          refine wpAnyH_done (by kernel_rfl) ?_ _
          (try refine NoPanic.normal ?_)
          go_wp2_with fail
          go_meet
          exact ⟨_, rfl, rfl, hFe, hXe⟩
      · go_simp
        clear hHeld
        refine hK.out _ _ (HC.out _ (by first | exact hBA | exact hBA2)) (fun hHeld => ?_)
        clear hK K
        try simp only [Act.put, List.setIfInBounds_toArray, List.set_cons_zero, List.set_cons_succ]
        have m9_26 : Box (w3.drew.alloc (.cells #[.int .i64 0, .int .i64 0, .string ⟨#[]⟩] 25)) w3.heap.size 25 (edC 0 0 ⟨#[]⟩) := Box.new w3.drew 25 _
        have hgw : w3.heap.size ≤ w3.heap.size := Nat.le_refl _
        refine wpAnyH_ready (rs := [1]) (by kernel_rfl) (by simp) ?_
        refine (AllReadyH.cons (o := o3_9_1) rfl (fun K hK => ?_) AllReadyH.nil)
        go_simp
        refine Calls.mono (HTA.out _) ?_
        rintro e m9_27w ⟨rfl, m9_28⟩
        dsimp only
        have m9_29 := bel_trans hBA m9_28
        have m9_30 := m9_26.still m9_28
        clear hHeld
        refine hK.out _ _ (HC.out _ m9_29) (fun hHeld => ?_)
        clear hK K
        try simp only [Act.put, List.setIfInBounds_toArray, List.set_cons_zero, List.set_cons_succ]
        refine wpAnyH_ready (rs := [3]) (by kernel_rfl) (by simp) ?_
        refine (AllReadyH.cons (o := o3_9_3) rfl (fun K hK => ?_) AllReadyH.nil)
        go_simp
        refine Calls.mono (HTB.out _) ?_
        rintro e m9_31w ⟨rfl, m9_32⟩
        dsimp only
        have m9_33 := bel_trans m9_29 m9_32
        have m9_34 := m9_30.still m9_32
        clear hHeld
        refine hK.out _ _ (HC.out _ m9_33) (fun hHeld => ?_)
        clear hK K
        try simp only [Act.put, List.setIfInBounds_toArray, List.set_cons_zero, List.set_cons_succ]
        refine wpAnyH_ready (rs := [4]) (by kernel_rfl) (by simp) ?_
        refine (AllReadyH.cons (o := o3_9_4) rfl (fun K hK => ?_) AllReadyH.nil)
        go_simp
        refine Calls.mono (HI.out _) ?_
        rintro e m9_35w ⟨rfl, m9_36⟩
        dsimp only
        have m9_37 := bel_trans m9_33 m9_36
        have m9_38 := m9_34.still m9_36
        clear hHeld
        refine hK.out _ _ (HC.out _ m9_37) (fun hHeld => ?_)
        clear hK K
        try simp only [Act.put, List.setIfInBounds_toArray, List.set_cons_zero, List.set_cons_succ]
        refine wpAnyH_take (i := 5) (oi := o3_9_5) (v := ?v26) rfl (by kernel_rfl) (by kernel_rfl) (by kernel_rfl) (fun _ _ _ h => h) (Or.inl ⟨by rfl, ?h26⟩) hHeld ?r26
        case h26 => (intro w hSw; (try dsimp only at hSw); go_simp; try with_reducible rfl)
        try simp only [Act.put, List.setIfInBounds_toArray, List.set_cons_zero, List.set_cons_succ]
        refine wpAnyH_take (i := 6) (oi := o3_9_6) (v := ?v27) rfl (by kernel_rfl) (by kernel_rfl) (by kernel_rfl) (fun _ _ _ h => h) (Or.inl ⟨by rfl, ?h27⟩) hHeld ?r27
        case h27 => (intro w hSw; (try dsimp only at hSw); go_simp; try with_reducible rfl)
        try simp only [Act.put, List.setIfInBounds_toArray, List.set_cons_zero, List.set_cons_succ]
        refine wpAnyH_take (i := 7) (oi := o3_9_7) (v := ?v28) rfl (by kernel_rfl) (by kernel_rfl) (by kernel_rfl) (fun _ _ _ h => h) (Or.inl ⟨by rfl, ?h28⟩) hHeld ?r28
        case h28 => (intro w hSw; (try dsimp only at hSw); go_simp; try with_reducible rfl)
        try simp only [Act.put, List.setIfInBounds_toArray, List.set_cons_zero, List.set_cons_succ]
        have z0 : m9_35w.cell? ⟨w3.heap.size, 0, none⟩ = some (.int .i64 0) := m9_38.cell 0 (by simp)
        have z1 : m9_35w.cell? ⟨w3.heap.size, 1, none⟩ = some (.int .i64 0) := m9_38.cell 1 (by simp)
        have z2 : m9_35w.cell? ⟨w3.heap.size, 2, none⟩ = some (.string ⟨#[]⟩) := m9_38.cell 2 (by simp)
        have y0 := m9_38.frozen 0
        have y1 := m9_38.frozen 1
        have y2 := m9_38.frozen 2
        have hFe : Below w3.heap.size w3 (((m9_35w.setCell ⟨w3.heap.size, 0, none⟩ (.int .i64 ra)).setCell ⟨w3.heap.size, 1, none⟩ (.int .i64 rd)).setCell ⟨w3.heap.size, 2, none⟩ (.string rs)) := ((m9_37.setCell (p := ⟨w3.heap.size, 0, none⟩) (by show _ ≤ _; omega) _).setCell (p := ⟨w3.heap.size, 1, none⟩) (by show _ ≤ _; omega) _).setCell (p := ⟨w3.heap.size, 2, none⟩) (by show _ ≤ _; omega) _
        have hXe : Box (((m9_35w.setCell ⟨w3.heap.size, 0, none⟩ (.int .i64 ra)).setCell ⟨w3.heap.size, 1, none⟩ (.int .i64 rd)).setCell ⟨w3.heap.size, 2, none⟩ (.string rs)) (w3.heap.size) 25 (edC ra rd rs) := ((m9_38.set 0 _).set 1 _).set 2 _
        refine wpAnyH_ready (rs := [9]) (by kernel_rfl) (by simp) ?_
        refine (AllReadyH.cons (o := o3_9_9) rfl (fun K hK => ?_) AllReadyH.nil)
        go_simp
        clear hHeld
        refine hK.out _ _ (HC.out _ hFe) (fun hHeld => ?_)
        clear hK K
        try simp only [Act.put, List.setIfInBounds_toArray, List.set_cons_zero, List.set_cons_succ]
        refine wpAnyH_ready (rs := [10]) (by kernel_rfl) (by simp) ?_
        refine (AllReadyH.cons (o := o3_9_10) rfl (fun K hK => ?_) AllReadyH.nil)
        go_simp
        clear hHeld
        refine hK.out _ _ (HC.out _ hFe) (fun hHeld => ?_)
        clear hK K
        try simp only [Act.put, List.setIfInBounds_toArray, List.set_cons_zero, List.set_cons_succ]
        refine wpAnyH_done (by kernel_rfl) ?_ _
        (try refine NoPanic.normal ?_)
        go_wp2_with fail
        go_meet
        exact ⟨_, rfl, rfl, hFe, hXe⟩
    case rest =>
      obtain ⟨g8, rfl, rfl, HX⟩ := hcut
      obtain ⟨w4, rfl⟩ : ∃ w4, w4 = wc := ⟨_, rfl⟩
      have H4 := (show Hid (Below w.heap.size w w4 ∧ Box w4 g6 25 (edC ra rd rs) ∧ Box w4 g8 25 (edC ra rd rs)) from ⟨bel_trans H3.out.1 HX.out.1, H3.out.2.2.2.still HX.out.1, HX.out.2⟩)
      clear HX H3 HC HI
      have c0 : w4.cell? ⟨g6, 0, none⟩ = some (.int .i64 ra) := H4.out.2.1.cell 0 (by simp)
      have c1 : w4.cell? ⟨g6, 1, none⟩ = some (.int .i64 rd) := H4.out.2.1.cell 1 (by simp)
      have c2 : w4.cell? ⟨g6, 2, none⟩ = some (.string rs) := H4.out.2.1.cell 2 (by simp)
      have d0 : w4.cell? ⟨g8, 0, none⟩ = some (.int .i64 ra) := H4.out.2.2.cell 0 (by simp)
      have d1 : w4.cell? ⟨g8, 1, none⟩ = some (.int .i64 rd) := H4.out.2.2.cell 1 (by simp)
      have d2 : w4.cell? ⟨g8, 2, none⟩ = some (.string rs) := H4.out.2.2.cell 2 (by simp)
      go_wp2_with fail
      refine Calls.mono (HQ.out _) ?_
      rintro e w5 ⟨rfl, hb5⟩
      have HB5 := (show Hid _ from bel_trans H4.out.1 hb5)
      clear hb5 H4 c0 c1 c2 d0 d1 d2
      go_wp2_with fail
      go_ret
      exact ⟨rfl, HB5.out⟩
end Go.Proofs.Ytkgoedclacfadaa
