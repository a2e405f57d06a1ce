import Derived.Test.YtbgoikaelmacbaaYb
import Derived.Deep.RegionHeld3
import Derived.Deep.CutRange
/-! Drawn terms: l11DrawTerm. -/
namespace Go.Proofs.Ytbgoikaelmacbaa
open Go.RowKit Go.Deep Go.Lib
set_option linter.unusedVariables false
set_option maxRecDepth 100000
set_option linter.unusedSimpArgs false

abbrev oT0 : Oper := { dst := some 13, op := Go.Op.buildSlice 74 2 #[(0, Go.Operand.const (Go.Value.string { data := #[78, 117, 109] })), (1, Go.Operand.const (Go.Value.string { data := #[73, 100] }))], type := 74, pos := "l11_rewriting.go:417", after := #[], guard := none }
abbrev oT1 : Oper := { dst := some 14, op := Go.Op.move (Go.Operand.tmp 0), type := 41, pos := "l11_rewriting.go:417", after := #[], guard := none }
abbrev oT2 : Oper := { dst := some 15, op := Go.Op.call { callee := Go.Callee.value (Go.Operand.func 17), args := #[Go.Operand.tmp 14, Go.Operand.const (Go.Value.int Go.IntKind.i64 2)], argTypes := #[41, 3] }, type := 3, pos := "l11_rewriting.go:417", after := #[{ on := 1, ground := Go.Ground.data }], guard := none }
abbrev oT3 : Oper := { dst := some 16, op := Go.Op.indexAddr 74 (Go.Operand.tmp 13) (Go.Operand.tmp 15), type := 0, pos := "l11_rewriting.go:417", after := #[{ on := 0, ground := Go.Ground.data }, { on := 2, ground := Go.Ground.data }], guard := none }
abbrev oT4 : Oper := { dst := some 17, op := Go.Op.load 9 (Go.Operand.tmp 16), type := 9, pos := "l11_rewriting.go:417", after := #[{ on := 3, ground := Go.Ground.data }], guard := none }
abbrev oT5 : Oper := { dst := some 18, op := Go.Op.buildSlice 74 3 #[(0, Go.Operand.const (Go.Value.string { data := #[48] })), (1, Go.Operand.const (Go.Value.string { data := #[49] })), (2, Go.Operand.const (Go.Value.string { data := #[97] }))], type := 74, pos := "l11_rewriting.go:417", after := #[], guard := none }
abbrev oT6 : Oper := { dst := some 19, op := Go.Op.move (Go.Operand.tmp 0), type := 41, pos := "l11_rewriting.go:417", after := #[], guard := none }
abbrev oT7 : Oper := { dst := some 20, op := Go.Op.call { callee := Go.Callee.value (Go.Operand.func 17), args := #[Go.Operand.tmp 19, Go.Operand.const (Go.Value.int Go.IntKind.i64 3)], argTypes := #[41, 3] }, type := 3, pos := "l11_rewriting.go:417", after := #[{ on := 6, ground := Go.Ground.data }, { on := 2, ground := Go.Ground.chain }], guard := none }
abbrev oT8 : Oper := { dst := some 21, op := Go.Op.indexAddr 74 (Go.Operand.tmp 18) (Go.Operand.tmp 20), type := 0, pos := "l11_rewriting.go:417", after := #[{ on := 5, ground := Go.Ground.data }, { on := 7, ground := Go.Ground.data }], guard := none }
abbrev oT9 : Oper := { dst := some 22, op := Go.Op.load 9 (Go.Operand.tmp 21), type := 9, pos := "l11_rewriting.go:417", after := #[{ on := 8, ground := Go.Ground.data }], guard := none }
abbrev oT10 : Oper := { dst := some 23, op := Go.Op.call { callee := Go.Callee.value (Go.Operand.func 39), args := #[Go.Operand.tmp 17, Go.Operand.tmp 22], argTypes := #[9, 9] }, type := 26, pos := "l11_rewriting.go:417", after := #[{ on := 4, ground := Go.Ground.data }, { on := 9, ground := Go.Ground.data }, { on := 7, ground := Go.Ground.chain }], guard := none }
abbrev oT11 : Oper := { dst := none, op := Go.Op.store 26 (Go.Operand.tmp 4) (Go.Operand.tmp 23), type := 0, pos := "l11_rewriting.go:417", after := #[{ on := 10, ground := Go.Ground.data }, { on := 10, ground := Go.Ground.chain }, { on := 0, ground := Go.Ground.phase }, { on := 1, ground := Go.Ground.phase }, { on := 2, ground := Go.Ground.phase }, { on := 3, ground := Go.Ground.phase }, { on := 4, ground := Go.Ground.phase }, { on := 5, ground := Go.Ground.phase }, { on := 6, ground := Go.Ground.phase }, { on := 7, ground := Go.Ground.phase }, { on := 8, ground := Go.Ground.phase }, { on := 9, ground := Go.Ground.phase }, { on := 10, ground := Go.Ground.phase }], guard := none }
abbrev oU0 : Oper := { dst := some 34, op := Go.Op.buildSlice 74 2 #[(0, Go.Operand.const (Go.Value.string { data := #[65, 100, 100] })), (1, Go.Operand.const (Go.Value.string { data := #[77, 117, 108] }))], type := 74, pos := "l11_rewriting.go:423", after := #[], guard := none }
abbrev oU1 : Oper := { dst := some 35, op := Go.Op.move (Go.Operand.tmp 5), type := 3, pos := "l11_rewriting.go:423", after := #[], guard := none }
abbrev oU2 : Oper := { dst := some 36, op := Go.Op.indexAddr 74 (Go.Operand.tmp 34) (Go.Operand.tmp 35), type := 0, pos := "l11_rewriting.go:423", after := #[{ on := 0, ground := Go.Ground.data }, { on := 1, ground := Go.Ground.data }], guard := none }
abbrev oU3 : Oper := { dst := some 37, op := Go.Op.load 9 (Go.Operand.tmp 36), type := 9, pos := "l11_rewriting.go:423", after := #[{ on := 2, ground := Go.Ground.data }], guard := none }
abbrev oU4 : Oper := { dst := some 38, op := Go.Op.move (Go.Operand.tmp 0), type := 41, pos := "l11_rewriting.go:423", after := #[], guard := none }
abbrev oU5 : Oper := { dst := some 39, op := Go.Op.move (Go.Operand.tmp 1), type := 3, pos := "l11_rewriting.go:423", after := #[], guard := none }
abbrev oU6 : Oper := { dst := some 40, op := Go.Op.binOp Go.BinOp.sub 3 (Go.Operand.tmp 39) (Go.Operand.const (Go.Value.int Go.IntKind.i64 1)) 3, type := 3, pos := "l11_rewriting.go:423", after := #[{ on := 5, ground := Go.Ground.data }], guard := none }
abbrev oU7 : Oper := { dst := some 41, op := Go.Op.call { callee := Go.Callee.value (Go.Operand.func 16), args := #[Go.Operand.tmp 38, Go.Operand.tmp 40], argTypes := #[41, 3] }, type := 26, pos := "l11_rewriting.go:423", after := #[{ on := 4, ground := Go.Ground.data }, { on := 6, ground := Go.Ground.data }], guard := none }
abbrev oU8 : Oper := { dst := some 42, op := Go.Op.move (Go.Operand.tmp 0), type := 41, pos := "l11_rewriting.go:423", after := #[], guard := none }
abbrev oU9 : Oper := { dst := some 43, op := Go.Op.move (Go.Operand.tmp 1), type := 3, pos := "l11_rewriting.go:423", after := #[], guard := none }
abbrev oU10 : Oper := { dst := some 44, op := Go.Op.binOp Go.BinOp.sub 3 (Go.Operand.tmp 43) (Go.Operand.const (Go.Value.int Go.IntKind.i64 1)) 3, type := 3, pos := "l11_rewriting.go:423", after := #[{ on := 9, ground := Go.Ground.data }], guard := none }
abbrev oU11 : Oper := { dst := some 45, op := Go.Op.call { callee := Go.Callee.value (Go.Operand.func 16), args := #[Go.Operand.tmp 42, Go.Operand.tmp 44], argTypes := #[41, 3] }, type := 26, pos := "l11_rewriting.go:423", after := #[{ on := 8, ground := Go.Ground.data }, { on := 10, ground := Go.Ground.data }, { on := 7, ground := Go.Ground.chain }], guard := none }
abbrev oU12 : Oper := { dst := some 46, op := Go.Op.buildSlice 24 2 #[(0, Go.Operand.tmp 41), (1, Go.Operand.tmp 45)], type := 24, pos := "l11_rewriting.go:423", after := #[{ on := 7, ground := Go.Ground.data }, { on := 11, ground := Go.Ground.data }], guard := none }
abbrev oU13 : Oper := { dst := some 47, op := Go.Op.call { callee := Go.Callee.value (Go.Operand.func 38), args := #[Go.Operand.tmp 37, Go.Operand.tmp 46], argTypes := #[9, 24] }, type := 26, pos := "l11_rewriting.go:423", after := #[{ on := 3, ground := Go.Ground.data }, { on := 12, ground := Go.Ground.data }, { on := 11, ground := Go.Ground.chain }], guard := none }
abbrev oU14 : Oper := { dst := none, op := Go.Op.store 26 (Go.Operand.tmp 4) (Go.Operand.tmp 47), type := 0, pos := "l11_rewriting.go:423", after := #[{ on := 13, ground := Go.Ground.data }, { on := 13, ground := Go.Ground.chain }, { on := 0, ground := Go.Ground.phase }, { on := 1, ground := Go.Ground.phase }, { on := 2, ground := Go.Ground.phase }, { on := 3, ground := Go.Ground.phase }, { on := 4, ground := Go.Ground.phase }, { on := 5, ground := Go.Ground.phase }, { on := 6, ground := Go.Ground.phase }, { on := 7, ground := Go.Ground.phase }, { on := 8, ground := Go.Ground.phase }, { on := 9, ground := Go.Ground.phase }, { on := 10, ground := Go.Ground.phase }, { on := 11, ground := Go.Ground.phase }, { on := 12, ground := Go.Ground.phase }, { on := 13, ground := Go.Ground.phase }], guard := none }
/-- A drawn term of this depth is drawn as is told. -/
def TmC (cs : List UInt8) (a : Option Addr) (cap b off c d : Nat) : Prop := ∀ (s : Nat × Nat) (w : World), Cur w cs a cap b off c s → Calls Try.prog 16 #[.pointer (some ⟨c, 0, none⟩), .int .i64 (d : Nat)] w fun e w' => DrewL cs a cap b off c (cTerm cs d s) w e w'
set_option maxHeartbeats 25600000 in
theorem term_step {cs : List UInt8} {a : Option Addr} {cap b off c : Nat} (d : Nat) (hd4 : d ≤ 6) (ih : ∀ d', d = d' + 1 → TmC cs a cap b off c d') : TmC cs a cap b off c d := by
  intro s w hc
  have hlt := hc.lt
  have H0 := (show Hid (Ds cs a cap b off c w (w.alloc zZ) s) from Ds.new hc)
  have HP := (show Hid (∀ (n : Nat) (W : World) (s : Nat × Nat), Cur W cs a cap b off c s → n ≤ 1048576 → Calls Try.prog 17 #[.pointer (some ⟨c, 0, none⟩), .int .i64 n] W fun e w' => e = .returned (.int .i64 (cPick cs n s).1) ∧ Out c (c + 1) W w' ∧ w'.heap.size = W.heap.size ∧ Cur w' cs a cap b off c (cPick cs n s).2) from fun n W s h hn => pick_any n W h hn)
  have HIH := (show Hid (∀ d', d = d' + 1 → TmC cs a cap b off c d') from ih)
  have HE := (show Hid (∀ (r : Tr × (Nat × Nat)) (w9 : World) (s9 : Nat × Nat) (xa : Option Addr) (xm xc : Nat) (u0 u1 u2 u3 : Value), Ds cs a cap b off c w w9 s9 → LiB w9 w.heap.size r.1 (.slice xa xm xc) → r.2 = s9 → DrewL cs a cap b off c r w (.returned (r.1.val (.slice xa xm xc))) (put4 w9 w.heap.size u0 u1 u2 u3)) from fun r w9 s9 xa xm xc u0 u1 u2 u3 h1 h2 h3 => drewL_put hlt h1 h2 h3)
  clear hc ih
  go_enter Try.func16, Try.ntmps16
  go_upto_region 1 with fail
  go_cut [12] from 6 to 11 (fun v wx => ∃ (bb : Bool) (s' : Nat × Nat), v = .bool bb ∧ Hid (Ds cs a cap b off c w wx s') ∧ Hid (TmS cs d s bb s'))
  case first =>
    cases d with
    | zero =>
      go_wp2_with fail
      go_meet
      exact ⟨true, s, rfl, H0, fun _ => rfl, fun h => (by cases h)⟩
    | succ d =>
      have hd1 : ¬ (((d + 1 : Nat) : Int) ≤ 0) := by omega
      have HC := (show Hid _ from HP.out 4 _ s H0.out.cur (by decide))
      go_wp2_with fail
      refine Calls.mono HC.out ?_
      rintro e w1 ⟨rfl, ho1, hz1, hc1⟩
      have H1 := ydP H0 hlt ho1 hc1
      clear ho1 hz1 hc1 HC
      by_cases h0 : (cPick cs 4 s).1 = 0
      · have HT := (show Hid (TmS cs (d + 1) s true (cPick cs 4 s).2) from ⟨fun _ => (by rw [cTerm, if_pos h0]), fun h => (by cases h)⟩)
        rw [h0]
        go_wp2_with fail
        go_meet
        exact ⟨true, _, rfl, H1, HT⟩
      · have HT := (show Hid (TmS cs (d + 1) s false (cPick cs 4 s).2) from ⟨fun h => (by cases h), fun _ => ⟨d, rfl, rfl, h0⟩⟩)
        have hne : (((cPick cs 4 s).1 : Int) == 0) = false := by simp; omega
        go_wp2_with fail
        go_meet
        exact ⟨false, _, rfl, H1, HT⟩
  case rest =>
    obtain ⟨bb, s1, rfl, H1, HT⟩ := hcut
    obtain ⟨wx, rfl⟩ : ∃ wx, wx = wc := ⟨_, rfl⟩
    have hgx : w.heap.size < wx.heap.size := H1.out.box.lt
    clear H0
    cases bb with
    | true =>
      have hT := HT.out.1 rfl
      have H0 := (show Hid (Ds cs a cap b off c w wx.drew s1) from Ds.drew H1.out)
      have HP1 := (show Hid _ from fun (W : World) (h : Cur W cs a cap b off c s1) => HP.out 2 W s1 h (by decide))
      have HP2 := (show Hid _ from fun (W : World) (h : Cur W cs a cap b off c (cPick cs 2 s1).2) => HP.out 3 W _ h (by decide))
      have hn1 := cPick_lt cs 2 s1 (by decide)
      have hn2 := cPick_lt cs 3 (cPick cs 2 s1).2 (by decide)
      have HFL := (show Hid (∀ w9 : World, Ds cs a cap b off c w w9 (cPick cs 3 (cPick cs 2 s1).2).2 → DrewL cs a cap b off c (cTerm cs d s) w (.returned (.agg #[.string (pickOf lfN (cPick cs 2 s1).1), .string (pickOf lfT (cPick cs 3 (cPick cs 2 s1).2).1), .bool true, .slice none 0 0])) (put4 w9 w.heap.size (.string (pickOf lfN (cPick cs 2 s1).1)) (.string (pickOf lfT (cPick cs 3 (cPick cs 2 s1).2).1)) (.bool true) (.slice none 0 0))) from fun w9 h => by
        rw [hT]
        exact HE.out (cLf cs s1) w9 _ none 0 0 _ _ _ _ h (lies_nil _ _ _ _ _ (pick_lfN _) (pick_lfT _)) rfl)
      clear hT HT HP HIH HE H1
      generalize cPick cs 2 s1 = q1 at *
      obtain ⟨n1, s2⟩ := q1
      dsimp only at *
      generalize cPick cs 3 s2 = q2 at *
      obtain ⟨n2, s3⟩ := q2
      dsimp only at *
      have hn1' : (n1 : Int) < 2 := by omega
      have hn2' : (n2 : Int) < 3 := by omega
      have hz1 : (0 : Int) ≤ (n1 : Int) := by omega
      have hz2 : (0 : Int) ≤ (n2 : Int) := by omega
      go_wp2_with fail
      refine wp_region_held_drew (S := fun _ => True) (by kernel_rfl) trivial (fun hHeld => ?_)
      refine wpAnyH_take (i := 1) (oi := oT1) (v := ?v1) rfl (by kernel_rfl) (by kernel_rfl) (by kernel_rfl) (fun _ _ _ h => h) (Or.inl ⟨by rfl, ?h1⟩) hHeld ?r1
      case h1 => (intro w hSw; (try dsimp only at hSw); go_simp; try with_reducible rfl)
      try simp only [Act.put, List.setIfInBounds_toArray, List.set_cons_zero, List.set_cons_succ]
      refine wpAnyH_take (i := 6) (oi := oT6) (v := ?v2) rfl (by kernel_rfl) (by kernel_rfl) (by kernel_rfl) (fun _ _ _ h => h) (Or.inl ⟨by rfl, ?h2⟩) hHeld ?r2
      case h2 => (intro w hSw; (try dsimp only at hSw); go_simp; try with_reducible rfl)
      try simp only [Act.put, List.setIfInBounds_toArray, List.set_cons_zero, List.set_cons_succ]
      refine wpAnyH_ready (rs := [0, 2, 5]) (by kernel_rfl) (by simp) ?_
      refine (AllReadyH.cons (o := oT0) rfl (fun K hK => ?yc5) (AllReadyH.cons (o := oT2) rfl (fun K hK => ?yc4) (AllReadyH.cons (o := oT5) rfl (fun K hK => ?yc3) AllReadyH.nil)))
      case' yc5 =>
       go_simp
       have H1 := ydA H0 zN
       have R1 := yrN wx.drew (wx.heap.size) (by simp)
       clear hHeld
       refine hK.out _ _ trivial (fun hHeld => ?_)
       clear hK K
       try simp only [Act.put, List.setIfInBounds_toArray, List.set_cons_zero, List.set_cons_succ]
       refine wpAnyH_ready (rs := [2, 5]) (by kernel_rfl) (by simp) ?_
       refine (AllReadyH.cons (o := oT2) rfl (fun K hK => ?yc7) (AllReadyH.cons (o := oT5) rfl (fun K hK => ?yc6) AllReadyH.nil))
       case' yc7 =>
        go_simp
        refine Calls.mono (HP1.out _ H1.out.cur) ?_
        rintro e v2 ⟨rfl, ho2, hz2, hc2⟩
        dsimp only
        have H2 := ydP H1 hlt ho2 hc2
        have QA2 := yrP R1 ho2 (by omega)
        have hg2 : w.heap.size < v2.heap.size := H2.out.box.lt
        clear ho2 hc2 hz2
        clear hHeld
        refine hK.out _ _ trivial (fun hHeld => ?_)
        clear hK K
        try simp only [Act.put, List.setIfInBounds_toArray, List.set_cons_zero, List.set_cons_succ]
        refine wpAnyH_take (i := 3) (oi := oT3) (v := ?v8) rfl (by kernel_rfl) (by kernel_rfl) (by kernel_rfl) (fun _ _ _ h => h) (Or.inl ⟨by rfl, ?h8⟩) hHeld ?r8
        case h8 => (intro w hSw; (try dsimp only at hSw); go_simp; try with_reducible rfl)
        try simp only [Act.put, List.setIfInBounds_toArray, List.set_cons_zero, List.set_cons_succ]
        have c4 := QA2.out n1 hn1
        refine wpAnyH_ready (rs := [4, 5, 7]) (by kernel_rfl) (by simp) ?_
        refine (AllReadyH.cons (o := oT4) rfl (fun K hK => ?yc11) (AllReadyH.cons (o := oT5) rfl (fun K hK => ?yc10) (AllReadyH.cons (o := oT7) rfl (fun K hK => ?yc9) AllReadyH.nil)))
        case' yc11 =>
         go_simp
         clear hHeld
         refine hK.out _ _ trivial (fun hHeld => ?_)
         clear hK K
         try simp only [Act.put, List.setIfInBounds_toArray, List.set_cons_zero, List.set_cons_succ]
         refine wpAnyH_ready (rs := [5, 7]) (by kernel_rfl) (by simp) ?_
         refine (AllReadyH.cons (o := oT5) rfl (fun K hK => ?yc13) (AllReadyH.cons (o := oT7) rfl (fun K hK => ?yc12) AllReadyH.nil))
         case' yc13 =>
          go_simp
          have H4 := ydA H2 zT
          have R4 := yrT v2 (v2.heap.size) (by simp)
          have QA4 := yrA QA2 zT
          clear hHeld
          refine hK.out _ _ trivial (fun hHeld => ?_)
          clear hK K
          try simp only [Act.put, List.setIfInBounds_toArray, List.set_cons_zero, List.set_cons_succ]
          refine wpAnyH_ready (rs := [7]) (by kernel_rfl) (by simp) ?_
          refine (AllReadyH.cons (o := oT7) rfl (fun K hK => ?_) AllReadyH.nil)
          go_simp
          refine Calls.mono (HP2.out _ H4.out.cur) ?_
          rintro e v5 ⟨rfl, ho5, hz5, hc5⟩
          dsimp only
          have H5 := ydP H4 hlt ho5 hc5
          have QA5 := yrP QA4 ho5 (by omega)
          have QB5 := yrP R4 ho5 (by omega)
          have hg5 : w.heap.size < v5.heap.size := H5.out.box.lt
          clear ho5 hc5 hz5
          clear hHeld
          refine hK.out _ _ trivial (fun hHeld => ?_)
          clear hK K
          try simp only [Act.put, List.setIfInBounds_toArray, List.set_cons_zero, List.set_cons_succ]
          refine wpAnyH_take (i := 8) (oi := oT8) (v := ?v14) rfl (by kernel_rfl) (by kernel_rfl) (by kernel_rfl) (fun _ _ _ h => h) (Or.inl ⟨by rfl, ?h14⟩) hHeld ?r14
          case h14 => (intro w hSw; (try dsimp only at hSw); go_simp; try with_reducible rfl)
          try simp only [Act.put, List.setIfInBounds_toArray, List.set_cons_zero, List.set_cons_succ]
          have c9 := QB5.out n2 hn2
          refine wpAnyH_ready (rs := [9]) (by kernel_rfl) (by simp) ?_
          refine (AllReadyH.cons (o := oT9) rfl (fun K hK => ?_) AllReadyH.nil)
          go_simp
          clear hHeld
          refine hK.out _ _ trivial (fun hHeld => ?_)
          clear hK K
          try simp only [Act.put, List.setIfInBounds_toArray, List.set_cons_zero, List.set_cons_succ]
          have HLF := H5
         case' yc12 =>
          go_simp
          refine Calls.mono (HP2.out _ H2.out.cur) ?_
          rintro e v7 ⟨rfl, ho7, hz7, hc7⟩
          dsimp only
          have H7 := ydP H2 hlt ho7 hc7
          have QA7 := yrP QA2 ho7 (by omega)
          have hg7 : w.heap.size < v7.heap.size := H7.out.box.lt
          clear ho7 hc7 hz7
          clear hHeld
          refine hK.out _ _ trivial (fun hHeld => ?_)
          clear hK K
          try simp only [Act.put, List.setIfInBounds_toArray, List.set_cons_zero, List.set_cons_succ]
          refine wpAnyH_ready (rs := [5]) (by kernel_rfl) (by simp) ?_
          refine (AllReadyH.cons (o := oT5) rfl (fun K hK => ?_) AllReadyH.nil)
          go_simp
          have H8 := ydA H7 zT
          have R8 := yrT v7 (v7.heap.size) (by simp)
          have QA8 := yrA QA7 zT
          clear hHeld
          refine hK.out _ _ trivial (fun hHeld => ?_)
          clear hK K
          try simp only [Act.put, List.setIfInBounds_toArray, List.set_cons_zero, List.set_cons_succ]
          refine wpAnyH_take (i := 8) (oi := oT8) (v := ?v15) rfl (by kernel_rfl) (by kernel_rfl) (by kernel_rfl) (fun _ _ _ h => h) (Or.inl ⟨by rfl, ?h15⟩) hHeld ?r15
          case h15 => (intro w hSw; (try dsimp only at hSw); go_simp; try with_reducible rfl)
          try simp only [Act.put, List.setIfInBounds_toArray, List.set_cons_zero, List.set_cons_succ]
          have c9 := R8.out n2 hn2
          refine wpAnyH_ready (rs := [9]) (by kernel_rfl) (by simp) ?_
          refine (AllReadyH.cons (o := oT9) rfl (fun K hK => ?_) AllReadyH.nil)
          go_simp
          clear hHeld
          refine hK.out _ _ trivial (fun hHeld => ?_)
          clear hK K
          try simp only [Act.put, List.setIfInBounds_toArray, List.set_cons_zero, List.set_cons_succ]
          have HLF := H8
        case' yc10 =>
         go_simp
         have H10 := ydA H2 zT
         have R10 := yrT v2 (v2.heap.size) (by simp)
         have QA10 := yrA QA2 zT
         clear hHeld
         refine hK.out _ _ trivial (fun hHeld => ?_)
         clear hK K
         try simp only [Act.put, List.setIfInBounds_toArray, List.set_cons_zero, List.set_cons_succ]
         have c4 := QA10.out n1 hn1
         refine wpAnyH_ready (rs := [4, 7]) (by kernel_rfl) (by simp) ?_
         refine (AllReadyH.cons (o := oT4) rfl (fun K hK => ?yc17) (AllReadyH.cons (o := oT7) rfl (fun K hK => ?yc16) AllReadyH.nil))
         case' yc17 =>
          go_simp
          clear hHeld
          refine hK.out _ _ trivial (fun hHeld => ?_)
          clear hK K
          try simp only [Act.put, List.setIfInBounds_toArray, List.set_cons_zero, List.set_cons_succ]
          refine wpAnyH_ready (rs := [7]) (by kernel_rfl) (by simp) ?_
          refine (AllReadyH.cons (o := oT7) rfl (fun K hK => ?_) AllReadyH.nil)
          go_simp
          refine Calls.mono (HP2.out _ H10.out.cur) ?_
          rintro e v12 ⟨rfl, ho12, hz12, hc12⟩
          dsimp only
          have H12 := ydP H10 hlt ho12 hc12
          have QA12 := yrP QA10 ho12 (by omega)
          have QB12 := yrP R10 ho12 (by omega)
          have hg12 : w.heap.size < v12.heap.size := H12.out.box.lt
          clear ho12 hc12 hz12
          clear hHeld
          refine hK.out _ _ trivial (fun hHeld => ?_)
          clear hK K
          try simp only [Act.put, List.setIfInBounds_toArray, List.set_cons_zero, List.set_cons_succ]
          refine wpAnyH_take (i := 8) (oi := oT8) (v := ?v18) rfl (by kernel_rfl) (by kernel_rfl) (by kernel_rfl) (fun _ _ _ h => h) (Or.inl ⟨by rfl, ?h18⟩) hHeld ?r18
          case h18 => (intro w hSw; (try dsimp only at hSw); go_simp; try with_reducible rfl)
          try simp only [Act.put, List.setIfInBounds_toArray, List.set_cons_zero, List.set_cons_succ]
          have c9 := QB12.out n2 hn2
          refine wpAnyH_ready (rs := [9]) (by kernel_rfl) (by simp) ?_
          refine (AllReadyH.cons (o := oT9) rfl (fun K hK => ?_) AllReadyH.nil)
          go_simp
          clear hHeld
          refine hK.out _ _ trivial (fun hHeld => ?_)
          clear hK K
          try simp only [Act.put, List.setIfInBounds_toArray, List.set_cons_zero, List.set_cons_succ]
          have HLF := H12
         case' yc16 =>
          go_simp
          refine Calls.mono (HP2.out _ H10.out.cur) ?_
          rintro e v14 ⟨rfl, ho14, hz14, hc14⟩
          dsimp only
          have H14 := ydP H10 hlt ho14 hc14
          have QA14 := yrP QA10 ho14 (by omega)
          have QB14 := yrP R10 ho14 (by omega)
          have hg14 : w.heap.size < v14.heap.size := H14.out.box.lt
          clear ho14 hc14 hz14
          clear hHeld
          refine hK.out _ _ trivial (fun hHeld => ?_)
          clear hK K
          try simp only [Act.put, List.setIfInBounds_toArray, List.set_cons_zero, List.set_cons_succ]
          refine wpAnyH_take (i := 8) (oi := oT8) (v := ?v19) rfl (by kernel_rfl) (by kernel_rfl) (by kernel_rfl) (fun _ _ _ h => h) (Or.inl ⟨by rfl, ?h19⟩) hHeld ?r19
          case h19 => (intro w hSw; (try dsimp only at hSw); go_simp; try with_reducible rfl)
          try simp only [Act.put, List.setIfInBounds_toArray, List.set_cons_zero, List.set_cons_succ]
          have c4 := QA14.out n1 hn1
          have c9 := QB14.out n2 hn2
          refine wpAnyH_ready (rs := [4, 9]) (by kernel_rfl) (by simp) ?_
          refine (AllReadyH.cons (o := oT4) rfl (fun K hK => ?yc21) (AllReadyH.cons (o := oT9) rfl (fun K hK => ?yc20) AllReadyH.nil))
          case' yc21 =>
           go_simp
           clear hHeld
           refine hK.out _ _ trivial (fun hHeld => ?_)
           clear hK K
           try simp only [Act.put, List.setIfInBounds_toArray, List.set_cons_zero, List.set_cons_succ]
           have c9 := QB14.out n2 hn2
           refine wpAnyH_ready (rs := [9]) (by kernel_rfl) (by simp) ?_
           refine (AllReadyH.cons (o := oT9) rfl (fun K hK => ?_) AllReadyH.nil)
           go_simp
           clear hHeld
           refine hK.out _ _ trivial (fun hHeld => ?_)
           clear hK K
           try simp only [Act.put, List.setIfInBounds_toArray, List.set_cons_zero, List.set_cons_succ]
           have HLF := H14
          case' yc20 =>
           go_simp
           clear hHeld
           refine hK.out _ _ trivial (fun hHeld => ?_)
           clear hK K
           try simp only [Act.put, List.setIfInBounds_toArray, List.set_cons_zero, List.set_cons_succ]
           have c4 := QA14.out n1 hn1
           refine wpAnyH_ready (rs := [4]) (by kernel_rfl) (by simp) ?_
           refine (AllReadyH.cons (o := oT4) rfl (fun K hK => ?_) AllReadyH.nil)
           go_simp
           clear hHeld
           refine hK.out _ _ trivial (fun hHeld => ?_)
           clear hK K
           try simp only [Act.put, List.setIfInBounds_toArray, List.set_cons_zero, List.set_cons_succ]
           have HLF := H14
        case' yc9 =>
         go_simp
         refine Calls.mono (HP2.out _ H2.out.cur) ?_
         rintro e v19 ⟨rfl, ho19, hz19, hc19⟩
         dsimp only
         have H19 := ydP H2 hlt ho19 hc19
         have QA19 := yrP QA2 ho19 (by omega)
         have hg19 : w.heap.size < v19.heap.size := H19.out.box.lt
         clear ho19 hc19 hz19
         clear hHeld
         refine hK.out _ _ trivial (fun hHeld => ?_)
         clear hK K
         try simp only [Act.put, List.setIfInBounds_toArray, List.set_cons_zero, List.set_cons_succ]
         have c4 := QA19.out n1 hn1
         refine wpAnyH_ready (rs := [4, 5]) (by kernel_rfl) (by simp) ?_
         refine (AllReadyH.cons (o := oT4) rfl (fun K hK => ?yc23) (AllReadyH.cons (o := oT5) rfl (fun K hK => ?yc22) AllReadyH.nil))
         case' yc23 =>
          go_simp
          clear hHeld
          refine hK.out _ _ trivial (fun hHeld => ?_)
          clear hK K
          try simp only [Act.put, List.setIfInBounds_toArray, List.set_cons_zero, List.set_cons_succ]
          refine wpAnyH_ready (rs := [5]) (by kernel_rfl) (by simp) ?_
          refine (AllReadyH.cons (o := oT5) rfl (fun K hK => ?_) AllReadyH.nil)
          go_simp
          have H21 := ydA H19 zT
          have R21 := yrT v19 (v19.heap.size) (by simp)
          have QA21 := yrA QA19 zT
          clear hHeld
          refine hK.out _ _ trivial (fun hHeld => ?_)
          clear hK K
          try simp only [Act.put, List.setIfInBounds_toArray, List.set_cons_zero, List.set_cons_succ]
          refine wpAnyH_take (i := 8) (oi := oT8) (v := ?v24) rfl (by kernel_rfl) (by kernel_rfl) (by kernel_rfl) (fun _ _ _ h => h) (Or.inl ⟨by rfl, ?h24⟩) hHeld ?r24
          case h24 => (intro w hSw; (try dsimp only at hSw); go_simp; try with_reducible rfl)
          try simp only [Act.put, List.setIfInBounds_toArray, List.set_cons_zero, List.set_cons_succ]
          have c9 := R21.out n2 hn2
          refine wpAnyH_ready (rs := [9]) (by kernel_rfl) (by simp) ?_
          refine (AllReadyH.cons (o := oT9) rfl (fun K hK => ?_) AllReadyH.nil)
          go_simp
          clear hHeld
          refine hK.out _ _ trivial (fun hHeld => ?_)
          clear hK K
          try simp only [Act.put, List.setIfInBounds_toArray, List.set_cons_zero, List.set_cons_succ]
          have HLF := H21
         case' yc22 =>
          go_simp
          have H23 := ydA H19 zT
          have R23 := yrT v19 (v19.heap.size) (by simp)
          have QA23 := yrA QA19 zT
          clear hHeld
          refine hK.out _ _ trivial (fun hHeld => ?_)
          clear hK K
          try simp only [Act.put, List.setIfInBounds_toArray, List.set_cons_zero, List.set_cons_succ]
          refine wpAnyH_take (i := 8) (oi := oT8) (v := ?v25) rfl (by kernel_rfl) (by kernel_rfl) (by kernel_rfl) (fun _ _ _ h => h) (Or.inl ⟨by rfl, ?h25⟩) hHeld ?r25
          case h25 => (intro w hSw; (try dsimp only at hSw); go_simp; try with_reducible rfl)
          try simp only [Act.put, List.setIfInBounds_toArray, List.set_cons_zero, List.set_cons_succ]
          have c4 := QA23.out n1 hn1
          have c9 := R23.out n2 hn2
          refine wpAnyH_ready (rs := [4, 9]) (by kernel_rfl) (by simp) ?_
          refine (AllReadyH.cons (o := oT4) rfl (fun K hK => ?yc27) (AllReadyH.cons (o := oT9) rfl (fun K hK => ?yc26) AllReadyH.nil))
          case' yc27 =>
           go_simp
           clear hHeld
           refine hK.out _ _ trivial (fun hHeld => ?_)
           clear hK K
           try simp only [Act.put, List.setIfInBounds_toArray, List.set_cons_zero, List.set_cons_succ]
           have c9 := R23.out n2 hn2
           refine wpAnyH_ready (rs := [9]) (by kernel_rfl) (by simp) ?_
           refine (AllReadyH.cons (o := oT9) rfl (fun K hK => ?_) AllReadyH.nil)
           go_simp
           clear hHeld
           refine hK.out _ _ trivial (fun hHeld => ?_)
           clear hK K
           try simp only [Act.put, List.setIfInBounds_toArray, List.set_cons_zero, List.set_cons_succ]
           have HLF := H23
          case' yc26 =>
           go_simp
           clear hHeld
           refine hK.out _ _ trivial (fun hHeld => ?_)
           clear hK K
           try simp only [Act.put, List.setIfInBounds_toArray, List.set_cons_zero, List.set_cons_succ]
           have c4 := QA23.out n1 hn1
           refine wpAnyH_ready (rs := [4]) (by kernel_rfl) (by simp) ?_
           refine (AllReadyH.cons (o := oT4) rfl (fun K hK => ?_) AllReadyH.nil)
           go_simp
           clear hHeld
           refine hK.out _ _ trivial (fun hHeld => ?_)
           clear hK K
           try simp only [Act.put, List.setIfInBounds_toArray, List.set_cons_zero, List.set_cons_succ]
           have HLF := H23
       case' yc6 =>
        go_simp
        have H28 := ydA H1 zT
        have R28 := yrT (wx.drew.alloc zN) (wx.heap.size + 1) (by simp)
        have QA28 := yrA R1 zT
        clear hHeld
        refine hK.out _ _ trivial (fun hHeld => ?_)
        clear hK K
        try simp only [Act.put, List.setIfInBounds_toArray, List.set_cons_zero, List.set_cons_succ]
        refine wpAnyH_ready (rs := [2]) (by kernel_rfl) (by simp) ?_
        refine (AllReadyH.cons (o := oT2) rfl (fun K hK => ?_) AllReadyH.nil)
        go_simp
        refine Calls.mono (HP1.out _ H28.out.cur) ?_
        rintro e v29 ⟨rfl, ho29, hz29, hc29⟩
        dsimp only
        have H29 := ydP H28 hlt ho29 hc29
        have QA29 := yrP QA28 ho29 (by omega)
        have QB29 := yrP R28 ho29 (by omega)
        have hg29 : w.heap.size < v29.heap.size := H29.out.box.lt
        clear ho29 hc29 hz29
        clear hHeld
        refine hK.out _ _ trivial (fun hHeld => ?_)
        clear hK K
        try simp only [Act.put, List.setIfInBounds_toArray, List.set_cons_zero, List.set_cons_succ]
        refine wpAnyH_take (i := 3) (oi := oT3) (v := ?v28) rfl (by kernel_rfl) (by kernel_rfl) (by kernel_rfl) (fun _ _ _ h => h) (Or.inl ⟨by rfl, ?h28⟩) hHeld ?r28
        case h28 => (intro w hSw; (try dsimp only at hSw); go_simp; try with_reducible rfl)
        try simp only [Act.put, List.setIfInBounds_toArray, List.set_cons_zero, List.set_cons_succ]
        have c4 := QA29.out n1 hn1
        refine wpAnyH_ready (rs := [4, 7]) (by kernel_rfl) (by simp) ?_
        refine (AllReadyH.cons (o := oT4) rfl (fun K hK => ?yc30) (AllReadyH.cons (o := oT7) rfl (fun K hK => ?yc29) AllReadyH.nil))
        case' yc30 =>
         go_simp
         clear hHeld
         refine hK.out _ _ trivial (fun hHeld => ?_)
         clear hK K
         try simp only [Act.put, List.setIfInBounds_toArray, List.set_cons_zero, List.set_cons_succ]
         refine wpAnyH_ready (rs := [7]) (by kernel_rfl) (by simp) ?_
         refine (AllReadyH.cons (o := oT7) rfl (fun K hK => ?_) AllReadyH.nil)
         go_simp
         refine Calls.mono (HP2.out _ H29.out.cur) ?_
         rintro e v31 ⟨rfl, ho31, hz31, hc31⟩
         dsimp only
         have H31 := ydP H29 hlt ho31 hc31
         have QA31 := yrP QA29 ho31 (by omega)
         have QB31 := yrP QB29 ho31 (by omega)
         have hg31 : w.heap.size < v31.heap.size := H31.out.box.lt
         clear ho31 hc31 hz31
         clear hHeld
         refine hK.out _ _ trivial (fun hHeld => ?_)
         clear hK K
         try simp only [Act.put, List.setIfInBounds_toArray, List.set_cons_zero, List.set_cons_succ]
         refine wpAnyH_take (i := 8) (oi := oT8) (v := ?v31) rfl (by kernel_rfl) (by kernel_rfl) (by kernel_rfl) (fun _ _ _ h => h) (Or.inl ⟨by rfl, ?h31⟩) hHeld ?r31
         case h31 => (intro w hSw; (try dsimp only at hSw); go_simp; try with_reducible rfl)
         try simp only [Act.put, List.setIfInBounds_toArray, List.set_cons_zero, List.set_cons_succ]
         have c9 := QB31.out n2 hn2
         refine wpAnyH_ready (rs := [9]) (by kernel_rfl) (by simp) ?_
         refine (AllReadyH.cons (o := oT9) rfl (fun K hK => ?_) AllReadyH.nil)
         go_simp
         clear hHeld
         refine hK.out _ _ trivial (fun hHeld => ?_)
         clear hK K
         try simp only [Act.put, List.setIfInBounds_toArray, List.set_cons_zero, List.set_cons_succ]
         have HLF := H31
        case' yc29 =>
         go_simp
         refine Calls.mono (HP2.out _ H29.out.cur) ?_
         rintro e v33 ⟨rfl, ho33, hz33, hc33⟩
         dsimp only
         have H33 := ydP H29 hlt ho33 hc33
         have QA33 := yrP QA29 ho33 (by omega)
         have QB33 := yrP QB29 ho33 (by omega)
         have hg33 : w.heap.size < v33.heap.size := H33.out.box.lt
         clear ho33 hc33 hz33
         clear hHeld
         refine hK.out _ _ trivial (fun hHeld => ?_)
         clear hK K
         try simp only [Act.put, List.setIfInBounds_toArray, List.set_cons_zero, List.set_cons_succ]
         refine wpAnyH_take (i := 8) (oi := oT8) (v := ?v32) rfl (by kernel_rfl) (by kernel_rfl) (by kernel_rfl) (fun _ _ _ h => h) (Or.inl ⟨by rfl, ?h32⟩) hHeld ?r32
         case h32 => (intro w hSw; (try dsimp only at hSw); go_simp; try with_reducible rfl)
         try simp only [Act.put, List.setIfInBounds_toArray, List.set_cons_zero, List.set_cons_succ]
         have c4 := QA33.out n1 hn1
         have c9 := QB33.out n2 hn2
         refine wpAnyH_ready (rs := [4, 9]) (by kernel_rfl) (by simp) ?_
         refine (AllReadyH.cons (o := oT4) rfl (fun K hK => ?yc34) (AllReadyH.cons (o := oT9) rfl (fun K hK => ?yc33) AllReadyH.nil))
         case' yc34 =>
          go_simp
          clear hHeld
          refine hK.out _ _ trivial (fun hHeld => ?_)
          clear hK K
          try simp only [Act.put, List.setIfInBounds_toArray, List.set_cons_zero, List.set_cons_succ]
          have c9 := QB33.out n2 hn2
          refine wpAnyH_ready (rs := [9]) (by kernel_rfl) (by simp) ?_
          refine (AllReadyH.cons (o := oT9) rfl (fun K hK => ?_) AllReadyH.nil)
          go_simp
          clear hHeld
          refine hK.out _ _ trivial (fun hHeld => ?_)
          clear hK K
          try simp only [Act.put, List.setIfInBounds_toArray, List.set_cons_zero, List.set_cons_succ]
          have HLF := H33
         case' yc33 =>
          go_simp
          clear hHeld
          refine hK.out _ _ trivial (fun hHeld => ?_)
          clear hK K
          try simp only [Act.put, List.setIfInBounds_toArray, List.set_cons_zero, List.set_cons_succ]
          have c4 := QA33.out n1 hn1
          refine wpAnyH_ready (rs := [4]) (by kernel_rfl) (by simp) ?_
          refine (AllReadyH.cons (o := oT4) rfl (fun K hK => ?_) AllReadyH.nil)
          go_simp
          clear hHeld
          refine hK.out _ _ trivial (fun hHeld => ?_)
          clear hK K
          try simp only [Act.put, List.setIfInBounds_toArray, List.set_cons_zero, List.set_cons_succ]
          have HLF := H33
      case' yc4 =>
       go_simp
       refine Calls.mono (HP1.out _ H0.out.cur) ?_
       rintro e v38 ⟨rfl, ho38, hz38, hc38⟩
       dsimp only
       have H38 := ydP H0 hlt ho38 hc38
       have hg38 : w.heap.size < v38.heap.size := H38.out.box.lt
       clear ho38 hc38 hz38
       clear hHeld
       refine hK.out _ _ trivial (fun hHeld => ?_)
       clear hK K
       try simp only [Act.put, List.setIfInBounds_toArray, List.set_cons_zero, List.set_cons_succ]
       refine wpAnyH_ready (rs := [0, 5, 7]) (by kernel_rfl) (by simp) ?_
       refine (AllReadyH.cons (o := oT0) rfl (fun K hK => ?yc37) (AllReadyH.cons (o := oT5) rfl (fun K hK => ?yc36) (AllReadyH.cons (o := oT7) rfl (fun K hK => ?yc35) AllReadyH.nil)))
       case' yc37 =>
        go_simp
        have H39 := ydA H38 zN
        have R39 := yrN v38 (v38.heap.size) (by simp)
        clear hHeld
        refine hK.out _ _ trivial (fun hHeld => ?_)
        clear hK K
        try simp only [Act.put, List.setIfInBounds_toArray, List.set_cons_zero, List.set_cons_succ]
        refine wpAnyH_take (i := 3) (oi := oT3) (v := ?v38) rfl (by kernel_rfl) (by kernel_rfl) (by kernel_rfl) (fun _ _ _ h => h) (Or.inl ⟨by rfl, ?h38⟩) hHeld ?r38
        case h38 => (intro w hSw; (try dsimp only at hSw); go_simp; try with_reducible rfl)
        try simp only [Act.put, List.setIfInBounds_toArray, List.set_cons_zero, List.set_cons_succ]
        have c4 := R39.out n1 hn1
        refine wpAnyH_ready (rs := [4, 5, 7]) (by kernel_rfl) (by simp) ?_
        refine (AllReadyH.cons (o := oT4) rfl (fun K hK => ?yc41) (AllReadyH.cons (o := oT5) rfl (fun K hK => ?yc40) (AllReadyH.cons (o := oT7) rfl (fun K hK => ?yc39) AllReadyH.nil)))
        case' yc41 =>
         go_simp
         clear hHeld
         refine hK.out _ _ trivial (fun hHeld => ?_)
         clear hK K
         try simp only [Act.put, List.setIfInBounds_toArray, List.set_cons_zero, List.set_cons_succ]
         refine wpAnyH_ready (rs := [5, 7]) (by kernel_rfl) (by simp) ?_
         refine (AllReadyH.cons (o := oT5) rfl (fun K hK => ?yc43) (AllReadyH.cons (o := oT7) rfl (fun K hK => ?yc42) AllReadyH.nil))
         case' yc43 =>
          go_simp
          have H41 := ydA H39 zT
          have R41 := yrT (v38.alloc zN) (v38.heap.size + 1) (by simp)
          have QA41 := yrA R39 zT
          clear hHeld
          refine hK.out _ _ trivial (fun hHeld => ?_)
          clear hK K
          try simp only [Act.put, List.setIfInBounds_toArray, List.set_cons_zero, List.set_cons_succ]
          refine wpAnyH_ready (rs := [7]) (by kernel_rfl) (by simp) ?_
          refine (AllReadyH.cons (o := oT7) rfl (fun K hK => ?_) AllReadyH.nil)
          go_simp
          refine Calls.mono (HP2.out _ H41.out.cur) ?_
          rintro e v42 ⟨rfl, ho42, hz42, hc42⟩
          dsimp only
          have H42 := ydP H41 hlt ho42 hc42
          have QA42 := yrP QA41 ho42 (by omega)
          have QB42 := yrP R41 ho42 (by omega)
          have hg42 : w.heap.size < v42.heap.size := H42.out.box.lt
          clear ho42 hc42 hz42
          clear hHeld
          refine hK.out _ _ trivial (fun hHeld => ?_)
          clear hK K
          try simp only [Act.put, List.setIfInBounds_toArray, List.set_cons_zero, List.set_cons_succ]
          refine wpAnyH_take (i := 8) (oi := oT8) (v := ?v44) rfl (by kernel_rfl) (by kernel_rfl) (by kernel_rfl) (fun _ _ _ h => h) (Or.inl ⟨by rfl, ?h44⟩) hHeld ?r44
          case h44 => (intro w hSw; (try dsimp only at hSw); go_simp; try with_reducible rfl)
          try simp only [Act.put, List.setIfInBounds_toArray, List.set_cons_zero, List.set_cons_succ]
          have c9 := QB42.out n2 hn2
          refine wpAnyH_ready (rs := [9]) (by kernel_rfl) (by simp) ?_
          refine (AllReadyH.cons (o := oT9) rfl (fun K hK => ?_) AllReadyH.nil)
          go_simp
          clear hHeld
          refine hK.out _ _ trivial (fun hHeld => ?_)
          clear hK K
          try simp only [Act.put, List.setIfInBounds_toArray, List.set_cons_zero, List.set_cons_succ]
          have HLF := H42
         case' yc42 =>
          go_simp
          refine Calls.mono (HP2.out _ H39.out.cur) ?_
          rintro e v44 ⟨rfl, ho44, hz44, hc44⟩
          dsimp only
          have H44 := ydP H39 hlt ho44 hc44
          have QA44 := yrP R39 ho44 (by omega)
          have hg44 : w.heap.size < v44.heap.size := H44.out.box.lt
          clear ho44 hc44 hz44
          clear hHeld
          refine hK.out _ _ trivial (fun hHeld => ?_)
          clear hK K
          try simp only [Act.put, List.setIfInBounds_toArray, List.set_cons_zero, List.set_cons_succ]
          refine wpAnyH_ready (rs := [5]) (by kernel_rfl) (by simp) ?_
          refine (AllReadyH.cons (o := oT5) rfl (fun K hK => ?_) AllReadyH.nil)
          go_simp
          have H45 := ydA H44 zT
          have R45 := yrT v44 (v44.heap.size) (by simp)
          have QA45 := yrA QA44 zT
          clear hHeld
          refine hK.out _ _ trivial (fun hHeld => ?_)
          clear hK K
          try simp only [Act.put, List.setIfInBounds_toArray, List.set_cons_zero, List.set_cons_succ]
          refine wpAnyH_take (i := 8) (oi := oT8) (v := ?v45) rfl (by kernel_rfl) (by kernel_rfl) (by kernel_rfl) (fun _ _ _ h => h) (Or.inl ⟨by rfl, ?h45⟩) hHeld ?r45
          case h45 => (intro w hSw; (try dsimp only at hSw); go_simp; try with_reducible rfl)
          try simp only [Act.put, List.setIfInBounds_toArray, List.set_cons_zero, List.set_cons_succ]
          have c9 := R45.out n2 hn2
          refine wpAnyH_ready (rs := [9]) (by kernel_rfl) (by simp) ?_
          refine (AllReadyH.cons (o := oT9) rfl (fun K hK => ?_) AllReadyH.nil)
          go_simp
          clear hHeld
          refine hK.out _ _ trivial (fun hHeld => ?_)
          clear hK K
          try simp only [Act.put, List.setIfInBounds_toArray, List.set_cons_zero, List.set_cons_succ]
          have HLF := H45
        case' yc40 =>
         go_simp
         have H47 := ydA H39 zT
         have R47 := yrT (v38.alloc zN) (v38.heap.size + 1) (by simp)
         have QA47 := yrA R39 zT
         clear hHeld
         refine hK.out _ _ trivial (fun hHeld => ?_)
         clear hK K
         try simp only [Act.put, List.setIfInBounds_toArray, List.set_cons_zero, List.set_cons_succ]
         have c4 := QA47.out n1 hn1
         refine wpAnyH_ready (rs := [4, 7]) (by kernel_rfl) (by simp) ?_
         refine (AllReadyH.cons (o := oT4) rfl (fun K hK => ?yc47) (AllReadyH.cons (o := oT7) rfl (fun K hK => ?yc46) AllReadyH.nil))
         case' yc47 =>
          go_simp
          clear hHeld
          refine hK.out _ _ trivial (fun hHeld => ?_)
          clear hK K
          try simp only [Act.put, List.setIfInBounds_toArray, List.set_cons_zero, List.set_cons_succ]
          refine wpAnyH_ready (rs := [7]) (by kernel_rfl) (by simp) ?_
          refine (AllReadyH.cons (o := oT7) rfl (fun K hK => ?_) AllReadyH.nil)
          go_simp
          refine Calls.mono (HP2.out _ H47.out.cur) ?_
          rintro e v49 ⟨rfl, ho49, hz49, hc49⟩
          dsimp only
          have H49 := ydP H47 hlt ho49 hc49
          have QA49 := yrP QA47 ho49 (by omega)
          have QB49 := yrP R47 ho49 (by omega)
          have hg49 : w.heap.size < v49.heap.size := H49.out.box.lt
          clear ho49 hc49 hz49
          clear hHeld
          refine hK.out _ _ trivial (fun hHeld => ?_)
          clear hK K
          try simp only [Act.put, List.setIfInBounds_toArray, List.set_cons_zero, List.set_cons_succ]
          refine wpAnyH_take (i := 8) (oi := oT8) (v := ?v48) rfl (by kernel_rfl) (by kernel_rfl) (by kernel_rfl) (fun _ _ _ h => h) (Or.inl ⟨by rfl, ?h48⟩) hHeld ?r48
          case h48 => (intro w hSw; (try dsimp only at hSw); go_simp; try with_reducible rfl)
          try simp only [Act.put, List.setIfInBounds_toArray, List.set_cons_zero, List.set_cons_succ]
          have c9 := QB49.out n2 hn2
          refine wpAnyH_ready (rs := [9]) (by kernel_rfl) (by simp) ?_
          refine (AllReadyH.cons (o := oT9) rfl (fun K hK => ?_) AllReadyH.nil)
          go_simp
          clear hHeld
          refine hK.out _ _ trivial (fun hHeld => ?_)
          clear hK K
          try simp only [Act.put, List.setIfInBounds_toArray, List.set_cons_zero, List.set_cons_succ]
          have HLF := H49
         case' yc46 =>
          go_simp
          refine Calls.mono (HP2.out _ H47.out.cur) ?_
          rintro e v51 ⟨rfl, ho51, hz51, hc51⟩
          dsimp only
          have H51 := ydP H47 hlt ho51 hc51
          have QA51 := yrP QA47 ho51 (by omega)
          have QB51 := yrP R47 ho51 (by omega)
          have hg51 : w.heap.size < v51.heap.size := H51.out.box.lt
          clear ho51 hc51 hz51
          clear hHeld
          refine hK.out _ _ trivial (fun hHeld => ?_)
          clear hK K
          try simp only [Act.put, List.setIfInBounds_toArray, List.set_cons_zero, List.set_cons_succ]
          refine wpAnyH_take (i := 8) (oi := oT8) (v := ?v49) rfl (by kernel_rfl) (by kernel_rfl) (by kernel_rfl) (fun _ _ _ h => h) (Or.inl ⟨by rfl, ?h49⟩) hHeld ?r49
          case h49 => (intro w hSw; (try dsimp only at hSw); go_simp; try with_reducible rfl)
          try simp only [Act.put, List.setIfInBounds_toArray, List.set_cons_zero, List.set_cons_succ]
          have c4 := QA51.out n1 hn1
          have c9 := QB51.out n2 hn2
          refine wpAnyH_ready (rs := [4, 9]) (by kernel_rfl) (by simp) ?_
          refine (AllReadyH.cons (o := oT4) rfl (fun K hK => ?yc51) (AllReadyH.cons (o := oT9) rfl (fun K hK => ?yc50) AllReadyH.nil))
          case' yc51 =>
           go_simp
           clear hHeld
           refine hK.out _ _ trivial (fun hHeld => ?_)
           clear hK K
           try simp only [Act.put, List.setIfInBounds_toArray, List.set_cons_zero, List.set_cons_succ]
           have c9 := QB51.out n2 hn2
           refine wpAnyH_ready (rs := [9]) (by kernel_rfl) (by simp) ?_
           refine (AllReadyH.cons (o := oT9) rfl (fun K hK => ?_) AllReadyH.nil)
           go_simp
           clear hHeld
           refine hK.out _ _ trivial (fun hHeld => ?_)
           clear hK K
           try simp only [Act.put, List.setIfInBounds_toArray, List.set_cons_zero, List.set_cons_succ]
           have HLF := H51
          case' yc50 =>
           go_simp
           clear hHeld
           refine hK.out _ _ trivial (fun hHeld => ?_)
           clear hK K
           try simp only [Act.put, List.setIfInBounds_toArray, List.set_cons_zero, List.set_cons_succ]
           have c4 := QA51.out n1 hn1
           refine wpAnyH_ready (rs := [4]) (by kernel_rfl) (by simp) ?_
           refine (AllReadyH.cons (o := oT4) rfl (fun K hK => ?_) AllReadyH.nil)
           go_simp
           clear hHeld
           refine hK.out _ _ trivial (fun hHeld => ?_)
           clear hK K
           try simp only [Act.put, List.setIfInBounds_toArray, List.set_cons_zero, List.set_cons_succ]
           have HLF := H51
        case' yc39 =>
         go_simp
         refine Calls.mono (HP2.out _ H39.out.cur) ?_
         rintro e v56 ⟨rfl, ho56, hz56, hc56⟩
         dsimp only
         have H56 := ydP H39 hlt ho56 hc56
         have QA56 := yrP R39 ho56 (by omega)
         have hg56 : w.heap.size < v56.heap.size := H56.out.box.lt
         clear ho56 hc56 hz56
         clear hHeld
         refine hK.out _ _ trivial (fun hHeld => ?_)
         clear hK K
         try simp only [Act.put, List.setIfInBounds_toArray, List.set_cons_zero, List.set_cons_succ]
         have c4 := QA56.out n1 hn1
         refine wpAnyH_ready (rs := [4, 5]) (by kernel_rfl) (by simp) ?_
         refine (AllReadyH.cons (o := oT4) rfl (fun K hK => ?yc53) (AllReadyH.cons (o := oT5) rfl (fun K hK => ?yc52) AllReadyH.nil))
         case' yc53 =>
          go_simp
          clear hHeld
          refine hK.out _ _ trivial (fun hHeld => ?_)
          clear hK K
          try simp only [Act.put, List.setIfInBounds_toArray, List.set_cons_zero, List.set_cons_succ]
          refine wpAnyH_ready (rs := [5]) (by kernel_rfl) (by simp) ?_
          refine (AllReadyH.cons (o := oT5) rfl (fun K hK => ?_) AllReadyH.nil)
          go_simp
          have H58 := ydA H56 zT
          have R58 := yrT v56 (v56.heap.size) (by simp)
          have QA58 := yrA QA56 zT
          clear hHeld
          refine hK.out _ _ trivial (fun hHeld => ?_)
          clear hK K
          try simp only [Act.put, List.setIfInBounds_toArray, List.set_cons_zero, List.set_cons_succ]
          refine wpAnyH_take (i := 8) (oi := oT8) (v := ?v54) rfl (by kernel_rfl) (by kernel_rfl) (by kernel_rfl) (fun _ _ _ h => h) (Or.inl ⟨by rfl, ?h54⟩) hHeld ?r54
          case h54 => (intro w hSw; (try dsimp only at hSw); go_simp; try with_reducible rfl)
          try simp only [Act.put, List.setIfInBounds_toArray, List.set_cons_zero, List.set_cons_succ]
          have c9 := R58.out n2 hn2
          refine wpAnyH_ready (rs := [9]) (by kernel_rfl) (by simp) ?_
          refine (AllReadyH.cons (o := oT9) rfl (fun K hK => ?_) AllReadyH.nil)
          go_simp
          clear hHeld
          refine hK.out _ _ trivial (fun hHeld => ?_)
          clear hK K
          try simp only [Act.put, List.setIfInBounds_toArray, List.set_cons_zero, List.set_cons_succ]
          have HLF := H58
         case' yc52 =>
          go_simp
          have H60 := ydA H56 zT
          have R60 := yrT v56 (v56.heap.size) (by simp)
          have QA60 := yrA QA56 zT
          clear hHeld
          refine hK.out _ _ trivial (fun hHeld => ?_)
          clear hK K
          try simp only [Act.put, List.setIfInBounds_toArray, List.set_cons_zero, List.set_cons_succ]
          refine wpAnyH_take (i := 8) (oi := oT8) (v := ?v55) rfl (by kernel_rfl) (by kernel_rfl) (by kernel_rfl) (fun _ _ _ h => h) (Or.inl ⟨by rfl, ?h55⟩) hHeld ?r55
          case h55 => (intro w hSw; (try dsimp only at hSw); go_simp; try with_reducible rfl)
          try simp only [Act.put, List.setIfInBounds_toArray, List.set_cons_zero, List.set_cons_succ]
          have c4 := QA60.out n1 hn1
          have c9 := R60.out n2 hn2
          refine wpAnyH_ready (rs := [4, 9]) (by kernel_rfl) (by simp) ?_
          refine (AllReadyH.cons (o := oT4) rfl (fun K hK => ?yc57) (AllReadyH.cons (o := oT9) rfl (fun K hK => ?yc56) AllReadyH.nil))
          case' yc57 =>
           go_simp
           clear hHeld
           refine hK.out _ _ trivial (fun hHeld => ?_)
           clear hK K
           try simp only [Act.put, List.setIfInBounds_toArray, List.set_cons_zero, List.set_cons_succ]
           have c9 := R60.out n2 hn2
           refine wpAnyH_ready (rs := [9]) (by kernel_rfl) (by simp) ?_
           refine (AllReadyH.cons (o := oT9) rfl (fun K hK => ?_) AllReadyH.nil)
           go_simp
           clear hHeld
           refine hK.out _ _ trivial (fun hHeld => ?_)
           clear hK K
           try simp only [Act.put, List.setIfInBounds_toArray, List.set_cons_zero, List.set_cons_succ]
           have HLF := H60
          case' yc56 =>
           go_simp
           clear hHeld
           refine hK.out _ _ trivial (fun hHeld => ?_)
           clear hK K
           try simp only [Act.put, List.setIfInBounds_toArray, List.set_cons_zero, List.set_cons_succ]
           have c4 := QA60.out n1 hn1
           refine wpAnyH_ready (rs := [4]) (by kernel_rfl) (by simp) ?_
           refine (AllReadyH.cons (o := oT4) rfl (fun K hK => ?_) AllReadyH.nil)
           go_simp
           clear hHeld
           refine hK.out _ _ trivial (fun hHeld => ?_)
           clear hK K
           try simp only [Act.put, List.setIfInBounds_toArray, List.set_cons_zero, List.set_cons_succ]
           have HLF := H60
       case' yc36 =>
        go_simp
        have H65 := ydA H38 zT
        have R65 := yrT v38 (v38.heap.size) (by simp)
        clear hHeld
        refine hK.out _ _ trivial (fun hHeld => ?_)
        clear hK K
        try simp only [Act.put, List.setIfInBounds_toArray, List.set_cons_zero, List.set_cons_succ]
        refine wpAnyH_ready (rs := [0, 7]) (by kernel_rfl) (by simp) ?_
        refine (AllReadyH.cons (o := oT0) rfl (fun K hK => ?yc59) (AllReadyH.cons (o := oT7) rfl (fun K hK => ?yc58) AllReadyH.nil))
        case' yc59 =>
         go_simp
         have H66 := ydA H65 zN
         have R66 := yrN (v38.alloc zT) (v38.heap.size + 1) (by simp)
         have QB66 := yrA R65 zN
         clear hHeld
         refine hK.out _ _ trivial (fun hHeld => ?_)
         clear hK K
         try simp only [Act.put, List.setIfInBounds_toArray, List.set_cons_zero, List.set_cons_succ]
         refine wpAnyH_take (i := 3) (oi := oT3) (v := ?v60) rfl (by kernel_rfl) (by kernel_rfl) (by kernel_rfl) (fun _ _ _ h => h) (Or.inl ⟨by rfl, ?h60⟩) hHeld ?r60
         case h60 => (intro w hSw; (try dsimp only at hSw); go_simp; try with_reducible rfl)
         try simp only [Act.put, List.setIfInBounds_toArray, List.set_cons_zero, List.set_cons_succ]
         have c4 := R66.out n1 hn1
         refine wpAnyH_ready (rs := [4, 7]) (by kernel_rfl) (by simp) ?_
         refine (AllReadyH.cons (o := oT4) rfl (fun K hK => ?yc62) (AllReadyH.cons (o := oT7) rfl (fun K hK => ?yc61) AllReadyH.nil))
         case' yc62 =>
          go_simp
          clear hHeld
          refine hK.out _ _ trivial (fun hHeld => ?_)
          clear hK K
          try simp only [Act.put, List.setIfInBounds_toArray, List.set_cons_zero, List.set_cons_succ]
          refine wpAnyH_ready (rs := [7]) (by kernel_rfl) (by simp) ?_
          refine (AllReadyH.cons (o := oT7) rfl (fun K hK => ?_) AllReadyH.nil)
          go_simp
          refine Calls.mono (HP2.out _ H66.out.cur) ?_
          rintro e v68 ⟨rfl, ho68, hz68, hc68⟩
          dsimp only
          have H68 := ydP H66 hlt ho68 hc68
          have QA68 := yrP R66 ho68 (by omega)
          have QB68 := yrP QB66 ho68 (by omega)
          have hg68 : w.heap.size < v68.heap.size := H68.out.box.lt
          clear ho68 hc68 hz68
          clear hHeld
          refine hK.out _ _ trivial (fun hHeld => ?_)
          clear hK K
          try simp only [Act.put, List.setIfInBounds_toArray, List.set_cons_zero, List.set_cons_succ]
          refine wpAnyH_take (i := 8) (oi := oT8) (v := ?v63) rfl (by kernel_rfl) (by kernel_rfl) (by kernel_rfl) (fun _ _ _ h => h) (Or.inl ⟨by rfl, ?h63⟩) hHeld ?r63
          case h63 => (intro w hSw; (try dsimp only at hSw); go_simp; try with_reducible rfl)
          try simp only [Act.put, List.setIfInBounds_toArray, List.set_cons_zero, List.set_cons_succ]
          have c9 := QB68.out n2 hn2
          refine wpAnyH_ready (rs := [9]) (by kernel_rfl) (by simp) ?_
          refine (AllReadyH.cons (o := oT9) rfl (fun K hK => ?_) AllReadyH.nil)
          go_simp
          clear hHeld
          refine hK.out _ _ trivial (fun hHeld => ?_)
          clear hK K
          try simp only [Act.put, List.setIfInBounds_toArray, List.set_cons_zero, List.set_cons_succ]
          have HLF := H68
         case' yc61 =>
          go_simp
          refine Calls.mono (HP2.out _ H66.out.cur) ?_
          rintro e v70 ⟨rfl, ho70, hz70, hc70⟩
          dsimp only
          have H70 := ydP H66 hlt ho70 hc70
          have QA70 := yrP R66 ho70 (by omega)
          have QB70 := yrP QB66 ho70 (by omega)
          have hg70 : w.heap.size < v70.heap.size := H70.out.box.lt
          clear ho70 hc70 hz70
          clear hHeld
          refine hK.out _ _ trivial (fun hHeld => ?_)
          clear hK K
          try simp only [Act.put, List.setIfInBounds_toArray, List.set_cons_zero, List.set_cons_succ]
          refine wpAnyH_take (i := 8) (oi := oT8) (v := ?v64) rfl (by kernel_rfl) (by kernel_rfl) (by kernel_rfl) (fun _ _ _ h => h) (Or.inl ⟨by rfl, ?h64⟩) hHeld ?r64
          case h64 => (intro w hSw; (try dsimp only at hSw); go_simp; try with_reducible rfl)
          try simp only [Act.put, List.setIfInBounds_toArray, List.set_cons_zero, List.set_cons_succ]
          have c4 := QA70.out n1 hn1
          have c9 := QB70.out n2 hn2
          refine wpAnyH_ready (rs := [4, 9]) (by kernel_rfl) (by simp) ?_
          refine (AllReadyH.cons (o := oT4) rfl (fun K hK => ?yc66) (AllReadyH.cons (o := oT9) rfl (fun K hK => ?yc65) AllReadyH.nil))
          case' yc66 =>
           go_simp
           clear hHeld
           refine hK.out _ _ trivial (fun hHeld => ?_)
           clear hK K
           try simp only [Act.put, List.setIfInBounds_toArray, List.set_cons_zero, List.set_cons_succ]
           have c9 := QB70.out n2 hn2
           refine wpAnyH_ready (rs := [9]) (by kernel_rfl) (by simp) ?_
           refine (AllReadyH.cons (o := oT9) rfl (fun K hK => ?_) AllReadyH.nil)
           go_simp
           clear hHeld
           refine hK.out _ _ trivial (fun hHeld => ?_)
           clear hK K
           try simp only [Act.put, List.setIfInBounds_toArray, List.set_cons_zero, List.set_cons_succ]
           have HLF := H70
          case' yc65 =>
           go_simp
           clear hHeld
           refine hK.out _ _ trivial (fun hHeld => ?_)
           clear hK K
           try simp only [Act.put, List.setIfInBounds_toArray, List.set_cons_zero, List.set_cons_succ]
           have c4 := QA70.out n1 hn1
           refine wpAnyH_ready (rs := [4]) (by kernel_rfl) (by simp) ?_
           refine (AllReadyH.cons (o := oT4) rfl (fun K hK => ?_) AllReadyH.nil)
           go_simp
           clear hHeld
           refine hK.out _ _ trivial (fun hHeld => ?_)
           clear hK K
           try simp only [Act.put, List.setIfInBounds_toArray, List.set_cons_zero, List.set_cons_succ]
           have HLF := H70
        case' yc58 =>
         go_simp
         refine Calls.mono (HP2.out _ H65.out.cur) ?_
         rintro e v75 ⟨rfl, ho75, hz75, hc75⟩
         dsimp only
         have H75 := ydP H65 hlt ho75 hc75
         have QB75 := yrP R65 ho75 (by omega)
         have hg75 : w.heap.size < v75.heap.size := H75.out.box.lt
         clear ho75 hc75 hz75
         clear hHeld
         refine hK.out _ _ trivial (fun hHeld => ?_)
         clear hK K
         try simp only [Act.put, List.setIfInBounds_toArray, List.set_cons_zero, List.set_cons_succ]
         refine wpAnyH_take (i := 8) (oi := oT8) (v := ?v67) rfl (by kernel_rfl) (by kernel_rfl) (by kernel_rfl) (fun _ _ _ h => h) (Or.inl ⟨by rfl, ?h67⟩) hHeld ?r67
         case h67 => (intro w hSw; (try dsimp only at hSw); go_simp; try with_reducible rfl)
         try simp only [Act.put, List.setIfInBounds_toArray, List.set_cons_zero, List.set_cons_succ]
         have c9 := QB75.out n2 hn2
         refine wpAnyH_ready (rs := [0, 9]) (by kernel_rfl) (by simp) ?_
         refine (AllReadyH.cons (o := oT0) rfl (fun K hK => ?yc69) (AllReadyH.cons (o := oT9) rfl (fun K hK => ?yc68) AllReadyH.nil))
         case' yc69 =>
          go_simp
          have H76 := ydA H75 zN
          have R76 := yrN v75 (v75.heap.size) (by simp)
          have QB76 := yrA QB75 zN
          clear hHeld
          refine hK.out _ _ trivial (fun hHeld => ?_)
          clear hK K
          try simp only [Act.put, List.setIfInBounds_toArray, List.set_cons_zero, List.set_cons_succ]
          refine wpAnyH_take (i := 3) (oi := oT3) (v := ?v70) rfl (by kernel_rfl) (by kernel_rfl) (by kernel_rfl) (fun _ _ _ h => h) (Or.inl ⟨by rfl, ?h70⟩) hHeld ?r70
          case h70 => (intro w hSw; (try dsimp only at hSw); go_simp; try with_reducible rfl)
          try simp only [Act.put, List.setIfInBounds_toArray, List.set_cons_zero, List.set_cons_succ]
          have c4 := R76.out n1 hn1
          have c9 := QB76.out n2 hn2
          refine wpAnyH_ready (rs := [4, 9]) (by kernel_rfl) (by simp) ?_
          refine (AllReadyH.cons (o := oT4) rfl (fun K hK => ?yc72) (AllReadyH.cons (o := oT9) rfl (fun K hK => ?yc71) AllReadyH.nil))
          case' yc72 =>
           go_simp
           clear hHeld
           refine hK.out _ _ trivial (fun hHeld => ?_)
           clear hK K
           try simp only [Act.put, List.setIfInBounds_toArray, List.set_cons_zero, List.set_cons_succ]
           have c9 := QB76.out n2 hn2
           refine wpAnyH_ready (rs := [9]) (by kernel_rfl) (by simp) ?_
           refine (AllReadyH.cons (o := oT9) rfl (fun K hK => ?_) AllReadyH.nil)
           go_simp
           clear hHeld
           refine hK.out _ _ trivial (fun hHeld => ?_)
           clear hK K
           try simp only [Act.put, List.setIfInBounds_toArray, List.set_cons_zero, List.set_cons_succ]
           have HLF := H76
          case' yc71 =>
           go_simp
           clear hHeld
           refine hK.out _ _ trivial (fun hHeld => ?_)
           clear hK K
           try simp only [Act.put, List.setIfInBounds_toArray, List.set_cons_zero, List.set_cons_succ]
           have c4 := R76.out n1 hn1
           refine wpAnyH_ready (rs := [4]) (by kernel_rfl) (by simp) ?_
           refine (AllReadyH.cons (o := oT4) rfl (fun K hK => ?_) AllReadyH.nil)
           go_simp
           clear hHeld
           refine hK.out _ _ trivial (fun hHeld => ?_)
           clear hK K
           try simp only [Act.put, List.setIfInBounds_toArray, List.set_cons_zero, List.set_cons_succ]
           have HLF := H76
         case' yc68 =>
          go_simp
          clear hHeld
          refine hK.out _ _ trivial (fun hHeld => ?_)
          clear hK K
          try simp only [Act.put, List.setIfInBounds_toArray, List.set_cons_zero, List.set_cons_succ]
          refine wpAnyH_ready (rs := [0]) (by kernel_rfl) (by simp) ?_
          refine (AllReadyH.cons (o := oT0) rfl (fun K hK => ?_) AllReadyH.nil)
          go_simp
          have H82 := ydA H75 zN
          have R82 := yrN v75 (v75.heap.size) (by simp)
          have QB82 := yrA QB75 zN
          clear hHeld
          refine hK.out _ _ trivial (fun hHeld => ?_)
          clear hK K
          try simp only [Act.put, List.setIfInBounds_toArray, List.set_cons_zero, List.set_cons_succ]
          refine wpAnyH_take (i := 3) (oi := oT3) (v := ?v73) rfl (by kernel_rfl) (by kernel_rfl) (by kernel_rfl) (fun _ _ _ h => h) (Or.inl ⟨by rfl, ?h73⟩) hHeld ?r73
          case h73 => (intro w hSw; (try dsimp only at hSw); go_simp; try with_reducible rfl)
          try simp only [Act.put, List.setIfInBounds_toArray, List.set_cons_zero, List.set_cons_succ]
          have c4 := R82.out n1 hn1
          refine wpAnyH_ready (rs := [4]) (by kernel_rfl) (by simp) ?_
          refine (AllReadyH.cons (o := oT4) rfl (fun K hK => ?_) AllReadyH.nil)
          go_simp
          clear hHeld
          refine hK.out _ _ trivial (fun hHeld => ?_)
          clear hK K
          try simp only [Act.put, List.setIfInBounds_toArray, List.set_cons_zero, List.set_cons_succ]
          have HLF := H82
       case' yc35 =>
        go_simp
        refine Calls.mono (HP2.out _ H38.out.cur) ?_
        rintro e v84 ⟨rfl, ho84, hz84, hc84⟩
        dsimp only
        have H84 := ydP H38 hlt ho84 hc84
        have hg84 : w.heap.size < v84.heap.size := H84.out.box.lt
        clear ho84 hc84 hz84
        clear hHeld
        refine hK.out _ _ trivial (fun hHeld => ?_)
        clear hK K
        try simp only [Act.put, List.setIfInBounds_toArray, List.set_cons_zero, List.set_cons_succ]
        refine wpAnyH_ready (rs := [0, 5]) (by kernel_rfl) (by simp) ?_
        refine (AllReadyH.cons (o := oT0) rfl (fun K hK => ?yc75) (AllReadyH.cons (o := oT5) rfl (fun K hK => ?yc74) AllReadyH.nil))
        case' yc75 =>
         go_simp
         have H85 := ydA H84 zN
         have R85 := yrN v84 (v84.heap.size) (by simp)
         clear hHeld
         refine hK.out _ _ trivial (fun hHeld => ?_)
         clear hK K
         try simp only [Act.put, List.setIfInBounds_toArray, List.set_cons_zero, List.set_cons_succ]
         refine wpAnyH_take (i := 3) (oi := oT3) (v := ?v76) rfl (by kernel_rfl) (by kernel_rfl) (by kernel_rfl) (fun _ _ _ h => h) (Or.inl ⟨by rfl, ?h76⟩) hHeld ?r76
         case h76 => (intro w hSw; (try dsimp only at hSw); go_simp; try with_reducible rfl)
         try simp only [Act.put, List.setIfInBounds_toArray, List.set_cons_zero, List.set_cons_succ]
         have c4 := R85.out n1 hn1
         refine wpAnyH_ready (rs := [4, 5]) (by kernel_rfl) (by simp) ?_
         refine (AllReadyH.cons (o := oT4) rfl (fun K hK => ?yc78) (AllReadyH.cons (o := oT5) rfl (fun K hK => ?yc77) AllReadyH.nil))
         case' yc78 =>
          go_simp
          clear hHeld
          refine hK.out _ _ trivial (fun hHeld => ?_)
          clear hK K
          try simp only [Act.put, List.setIfInBounds_toArray, List.set_cons_zero, List.set_cons_succ]
          refine wpAnyH_ready (rs := [5]) (by kernel_rfl) (by simp) ?_
          refine (AllReadyH.cons (o := oT5) rfl (fun K hK => ?_) AllReadyH.nil)
          go_simp
          have H87 := ydA H85 zT
          have R87 := yrT (v84.alloc zN) (v84.heap.size + 1) (by simp)
          have QA87 := yrA R85 zT
          clear hHeld
          refine hK.out _ _ trivial (fun hHeld => ?_)
          clear hK K
          try simp only [Act.put, List.setIfInBounds_toArray, List.set_cons_zero, List.set_cons_succ]
          refine wpAnyH_take (i := 8) (oi := oT8) (v := ?v79) rfl (by kernel_rfl) (by kernel_rfl) (by kernel_rfl) (fun _ _ _ h => h) (Or.inl ⟨by rfl, ?h79⟩) hHeld ?r79
          case h79 => (intro w hSw; (try dsimp only at hSw); go_simp; try with_reducible rfl)
          try simp only [Act.put, List.setIfInBounds_toArray, List.set_cons_zero, List.set_cons_succ]
          have c9 := R87.out n2 hn2
          refine wpAnyH_ready (rs := [9]) (by kernel_rfl) (by simp) ?_
          refine (AllReadyH.cons (o := oT9) rfl (fun K hK => ?_) AllReadyH.nil)
          go_simp
          clear hHeld
          refine hK.out _ _ trivial (fun hHeld => ?_)
          clear hK K
          try simp only [Act.put, List.setIfInBounds_toArray, List.set_cons_zero, List.set_cons_succ]
          have HLF := H87
         case' yc77 =>
          go_simp
          have H89 := ydA H85 zT
          have R89 := yrT (v84.alloc zN) (v84.heap.size + 1) (by simp)
          have QA89 := yrA R85 zT
          clear hHeld
          refine hK.out _ _ trivial (fun hHeld => ?_)
          clear hK K
          try simp only [Act.put, List.setIfInBounds_toArray, List.set_cons_zero, List.set_cons_succ]
          refine wpAnyH_take (i := 8) (oi := oT8) (v := ?v80) rfl (by kernel_rfl) (by kernel_rfl) (by kernel_rfl) (fun _ _ _ h => h) (Or.inl ⟨by rfl, ?h80⟩) hHeld ?r80
          case h80 => (intro w hSw; (try dsimp only at hSw); go_simp; try with_reducible rfl)
          try simp only [Act.put, List.setIfInBounds_toArray, List.set_cons_zero, List.set_cons_succ]
          have c4 := QA89.out n1 hn1
          have c9 := R89.out n2 hn2
          refine wpAnyH_ready (rs := [4, 9]) (by kernel_rfl) (by simp) ?_
          refine (AllReadyH.cons (o := oT4) rfl (fun K hK => ?yc82) (AllReadyH.cons (o := oT9) rfl (fun K hK => ?yc81) AllReadyH.nil))
          case' yc82 =>
           go_simp
           clear hHeld
           refine hK.out _ _ trivial (fun hHeld => ?_)
           clear hK K
           try simp only [Act.put, List.setIfInBounds_toArray, List.set_cons_zero, List.set_cons_succ]
           have c9 := R89.out n2 hn2
           refine wpAnyH_ready (rs := [9]) (by kernel_rfl) (by simp) ?_
           refine (AllReadyH.cons (o := oT9) rfl (fun K hK => ?_) AllReadyH.nil)
           go_simp
           clear hHeld
           refine hK.out _ _ trivial (fun hHeld => ?_)
           clear hK K
           try simp only [Act.put, List.setIfInBounds_toArray, List.set_cons_zero, List.set_cons_succ]
           have HLF := H89
          case' yc81 =>
           go_simp
           clear hHeld
           refine hK.out _ _ trivial (fun hHeld => ?_)
           clear hK K
           try simp only [Act.put, List.setIfInBounds_toArray, List.set_cons_zero, List.set_cons_succ]
           have c4 := QA89.out n1 hn1
           refine wpAnyH_ready (rs := [4]) (by kernel_rfl) (by simp) ?_
           refine (AllReadyH.cons (o := oT4) rfl (fun K hK => ?_) AllReadyH.nil)
           go_simp
           clear hHeld
           refine hK.out _ _ trivial (fun hHeld => ?_)
           clear hK K
           try simp only [Act.put, List.setIfInBounds_toArray, List.set_cons_zero, List.set_cons_succ]
           have HLF := H89
        case' yc74 =>
         go_simp
         have H94 := ydA H84 zT
         have R94 := yrT v84 (v84.heap.size) (by simp)
         clear hHeld
         refine hK.out _ _ trivial (fun hHeld => ?_)
         clear hK K
         try simp only [Act.put, List.setIfInBounds_toArray, List.set_cons_zero, List.set_cons_succ]
         refine wpAnyH_take (i := 8) (oi := oT8) (v := ?v83) rfl (by kernel_rfl) (by kernel_rfl) (by kernel_rfl) (fun _ _ _ h => h) (Or.inl ⟨by rfl, ?h83⟩) hHeld ?r83
         case h83 => (intro w hSw; (try dsimp only at hSw); go_simp; try with_reducible rfl)
         try simp only [Act.put, List.setIfInBounds_toArray, List.set_cons_zero, List.set_cons_succ]
         have c9 := R94.out n2 hn2
         refine wpAnyH_ready (rs := [0, 9]) (by kernel_rfl) (by simp) ?_
         refine (AllReadyH.cons (o := oT0) rfl (fun K hK => ?yc85) (AllReadyH.cons (o := oT9) rfl (fun K hK => ?yc84) AllReadyH.nil))
         case' yc85 =>
          go_simp
          have H95 := ydA H94 zN
          have R95 := yrN (v84.alloc zT) (v84.heap.size + 1) (by simp)
          have QB95 := yrA R94 zN
          clear hHeld
          refine hK.out _ _ trivial (fun hHeld => ?_)
          clear hK K
          try simp only [Act.put, List.setIfInBounds_toArray, List.set_cons_zero, List.set_cons_succ]
          refine wpAnyH_take (i := 3) (oi := oT3) (v := ?v86) rfl (by kernel_rfl) (by kernel_rfl) (by kernel_rfl) (fun _ _ _ h => h) (Or.inl ⟨by rfl, ?h86⟩) hHeld ?r86
          case h86 => (intro w hSw; (try dsimp only at hSw); go_simp; try with_reducible rfl)
          try simp only [Act.put, List.setIfInBounds_toArray, List.set_cons_zero, List.set_cons_succ]
          have c4 := R95.out n1 hn1
          have c9 := QB95.out n2 hn2
          refine wpAnyH_ready (rs := [4, 9]) (by kernel_rfl) (by simp) ?_
          refine (AllReadyH.cons (o := oT4) rfl (fun K hK => ?yc88) (AllReadyH.cons (o := oT9) rfl (fun K hK => ?yc87) AllReadyH.nil))
          case' yc88 =>
           go_simp
           clear hHeld
           refine hK.out _ _ trivial (fun hHeld => ?_)
           clear hK K
           try simp only [Act.put, List.setIfInBounds_toArray, List.set_cons_zero, List.set_cons_succ]
           have c9 := QB95.out n2 hn2
           refine wpAnyH_ready (rs := [9]) (by kernel_rfl) (by simp) ?_
           refine (AllReadyH.cons (o := oT9) rfl (fun K hK => ?_) AllReadyH.nil)
           go_simp
           clear hHeld
           refine hK.out _ _ trivial (fun hHeld => ?_)
           clear hK K
           try simp only [Act.put, List.setIfInBounds_toArray, List.set_cons_zero, List.set_cons_succ]
           have HLF := H95
          case' yc87 =>
           go_simp
           clear hHeld
           refine hK.out _ _ trivial (fun hHeld => ?_)
           clear hK K
           try simp only [Act.put, List.setIfInBounds_toArray, List.set_cons_zero, List.set_cons_succ]
           have c4 := R95.out n1 hn1
           refine wpAnyH_ready (rs := [4]) (by kernel_rfl) (by simp) ?_
           refine (AllReadyH.cons (o := oT4) rfl (fun K hK => ?_) AllReadyH.nil)
           go_simp
           clear hHeld
           refine hK.out _ _ trivial (fun hHeld => ?_)
           clear hK K
           try simp only [Act.put, List.setIfInBounds_toArray, List.set_cons_zero, List.set_cons_succ]
           have HLF := H95
         case' yc84 =>
          go_simp
          clear hHeld
          refine hK.out _ _ trivial (fun hHeld => ?_)
          clear hK K
          try simp only [Act.put, List.setIfInBounds_toArray, List.set_cons_zero, List.set_cons_succ]
          refine wpAnyH_ready (rs := [0]) (by kernel_rfl) (by simp) ?_
          refine (AllReadyH.cons (o := oT0) rfl (fun K hK => ?_) AllReadyH.nil)
          go_simp
          have H101 := ydA H94 zN
          have R101 := yrN (v84.alloc zT) (v84.heap.size + 1) (by simp)
          have QB101 := yrA R94 zN
          clear hHeld
          refine hK.out _ _ trivial (fun hHeld => ?_)
          clear hK K
          try simp only [Act.put, List.setIfInBounds_toArray, List.set_cons_zero, List.set_cons_succ]
          refine wpAnyH_take (i := 3) (oi := oT3) (v := ?v89) rfl (by kernel_rfl) (by kernel_rfl) (by kernel_rfl) (fun _ _ _ h => h) (Or.inl ⟨by rfl, ?h89⟩) hHeld ?r89
          case h89 => (intro w hSw; (try dsimp only at hSw); go_simp; try with_reducible rfl)
          try simp only [Act.put, List.setIfInBounds_toArray, List.set_cons_zero, List.set_cons_succ]
          have c4 := R101.out n1 hn1
          refine wpAnyH_ready (rs := [4]) (by kernel_rfl) (by simp) ?_
          refine (AllReadyH.cons (o := oT4) rfl (fun K hK => ?_) AllReadyH.nil)
          go_simp
          clear hHeld
          refine hK.out _ _ trivial (fun hHeld => ?_)
          clear hK K
          try simp only [Act.put, List.setIfInBounds_toArray, List.set_cons_zero, List.set_cons_succ]
          have HLF := H101
      case' yc3 =>
       go_simp
       have H103 := ydA H0 zT
       have R103 := yrT wx.drew (wx.heap.size) (by simp)
       clear hHeld
       refine hK.out _ _ trivial (fun hHeld => ?_)
       clear hK K
       try simp only [Act.put, List.setIfInBounds_toArray, List.set_cons_zero, List.set_cons_succ]
       refine wpAnyH_ready (rs := [0, 2]) (by kernel_rfl) (by simp) ?_
       refine (AllReadyH.cons (o := oT0) rfl (fun K hK => ?yc91) (AllReadyH.cons (o := oT2) rfl (fun K hK => ?yc90) AllReadyH.nil))
       case' yc91 =>
        go_simp
        have H104 := ydA H103 zN
        have R104 := yrN (wx.drew.alloc zT) (wx.heap.size + 1) (by simp)
        have QB104 := yrA R103 zN
        clear hHeld
        refine hK.out _ _ trivial (fun hHeld => ?_)
        clear hK K
        try simp only [Act.put, List.setIfInBounds_toArray, List.set_cons_zero, List.set_cons_succ]
        refine wpAnyH_ready (rs := [2]) (by kernel_rfl) (by simp) ?_
        refine (AllReadyH.cons (o := oT2) rfl (fun K hK => ?_) AllReadyH.nil)
        go_simp
        refine Calls.mono (HP1.out _ H104.out.cur) ?_
        rintro e v105 ⟨rfl, ho105, hz105, hc105⟩
        dsimp only
        have H105 := ydP H104 hlt ho105 hc105
        have QA105 := yrP R104 ho105 (by omega)
        have QB105 := yrP QB104 ho105 (by omega)
        have hg105 : w.heap.size < v105.heap.size := H105.out.box.lt
        clear ho105 hc105 hz105
        clear hHeld
        refine hK.out _ _ trivial (fun hHeld => ?_)
        clear hK K
        try simp only [Act.put, List.setIfInBounds_toArray, List.set_cons_zero, List.set_cons_succ]
        refine wpAnyH_take (i := 3) (oi := oT3) (v := ?v92) rfl (by kernel_rfl) (by kernel_rfl) (by kernel_rfl) (fun _ _ _ h => h) (Or.inl ⟨by rfl, ?h92⟩) hHeld ?r92
        case h92 => (intro w hSw; (try dsimp only at hSw); go_simp; try with_reducible rfl)
        try simp only [Act.put, List.setIfInBounds_toArray, List.set_cons_zero, List.set_cons_succ]
        have c4 := QA105.out n1 hn1
        refine wpAnyH_ready (rs := [4, 7]) (by kernel_rfl) (by simp) ?_
        refine (AllReadyH.cons (o := oT4) rfl (fun K hK => ?yc94) (AllReadyH.cons (o := oT7) rfl (fun K hK => ?yc93) AllReadyH.nil))
        case' yc94 =>
         go_simp
         clear hHeld
         refine hK.out _ _ trivial (fun hHeld => ?_)
         clear hK K
         try simp only [Act.put, List.setIfInBounds_toArray, List.set_cons_zero, List.set_cons_succ]
         refine wpAnyH_ready (rs := [7]) (by kernel_rfl) (by simp) ?_
         refine (AllReadyH.cons (o := oT7) rfl (fun K hK => ?_) AllReadyH.nil)
         go_simp
         refine Calls.mono (HP2.out _ H105.out.cur) ?_
         rintro e v107 ⟨rfl, ho107, hz107, hc107⟩
         dsimp only
         have H107 := ydP H105 hlt ho107 hc107
         have QA107 := yrP QA105 ho107 (by omega)
         have QB107 := yrP QB105 ho107 (by omega)
         have hg107 : w.heap.size < v107.heap.size := H107.out.box.lt
         clear ho107 hc107 hz107
         clear hHeld
         refine hK.out _ _ trivial (fun hHeld => ?_)
         clear hK K
         try simp only [Act.put, List.setIfInBounds_toArray, List.set_cons_zero, List.set_cons_succ]
         refine wpAnyH_take (i := 8) (oi := oT8) (v := ?v95) rfl (by kernel_rfl) (by kernel_rfl) (by kernel_rfl) (fun _ _ _ h => h) (Or.inl ⟨by rfl, ?h95⟩) hHeld ?r95
         case h95 => (intro w hSw; (try dsimp only at hSw); go_simp; try with_reducible rfl)
         try simp only [Act.put, List.setIfInBounds_toArray, List.set_cons_zero, List.set_cons_succ]
         have c9 := QB107.out n2 hn2
         refine wpAnyH_ready (rs := [9]) (by kernel_rfl) (by simp) ?_
         refine (AllReadyH.cons (o := oT9) rfl (fun K hK => ?_) AllReadyH.nil)
         go_simp
         clear hHeld
         refine hK.out _ _ trivial (fun hHeld => ?_)
         clear hK K
         try simp only [Act.put, List.setIfInBounds_toArray, List.set_cons_zero, List.set_cons_succ]
         have HLF := H107
        case' yc93 =>
         go_simp
         refine Calls.mono (HP2.out _ H105.out.cur) ?_
         rintro e v109 ⟨rfl, ho109, hz109, hc109⟩
         dsimp only
         have H109 := ydP H105 hlt ho109 hc109
         have QA109 := yrP QA105 ho109 (by omega)
         have QB109 := yrP QB105 ho109 (by omega)
         have hg109 : w.heap.size < v109.heap.size := H109.out.box.lt
         clear ho109 hc109 hz109
         clear hHeld
         refine hK.out _ _ trivial (fun hHeld => ?_)
         clear hK K
         try simp only [Act.put, List.setIfInBounds_toArray, List.set_cons_zero, List.set_cons_succ]
         refine wpAnyH_take (i := 8) (oi := oT8) (v := ?v96) rfl (by kernel_rfl) (by kernel_rfl) (by kernel_rfl) (fun _ _ _ h => h) (Or.inl ⟨by rfl, ?h96⟩) hHeld ?r96
         case h96 => (intro w hSw; (try dsimp only at hSw); go_simp; try with_reducible rfl)
         try simp only [Act.put, List.setIfInBounds_toArray, List.set_cons_zero, List.set_cons_succ]
         have c4 := QA109.out n1 hn1
         have c9 := QB109.out n2 hn2
         refine wpAnyH_ready (rs := [4, 9]) (by kernel_rfl) (by simp) ?_
         refine (AllReadyH.cons (o := oT4) rfl (fun K hK => ?yc98) (AllReadyH.cons (o := oT9) rfl (fun K hK => ?yc97) AllReadyH.nil))
         case' yc98 =>
          go_simp
          clear hHeld
          refine hK.out _ _ trivial (fun hHeld => ?_)
          clear hK K
          try simp only [Act.put, List.setIfInBounds_toArray, List.set_cons_zero, List.set_cons_succ]
          have c9 := QB109.out n2 hn2
          refine wpAnyH_ready (rs := [9]) (by kernel_rfl) (by simp) ?_
          refine (AllReadyH.cons (o := oT9) rfl (fun K hK => ?_) AllReadyH.nil)
          go_simp
          clear hHeld
          refine hK.out _ _ trivial (fun hHeld => ?_)
          clear hK K
          try simp only [Act.put, List.setIfInBounds_toArray, List.set_cons_zero, List.set_cons_succ]
          have HLF := H109
         case' yc97 =>
          go_simp
          clear hHeld
          refine hK.out _ _ trivial (fun hHeld => ?_)
          clear hK K
          try simp only [Act.put, List.setIfInBounds_toArray, List.set_cons_zero, List.set_cons_succ]
          have c4 := QA109.out n1 hn1
          refine wpAnyH_ready (rs := [4]) (by kernel_rfl) (by simp) ?_
          refine (AllReadyH.cons (o := oT4) rfl (fun K hK => ?_) AllReadyH.nil)
          go_simp
          clear hHeld
          refine hK.out _ _ trivial (fun hHeld => ?_)
          clear hK K
          try simp only [Act.put, List.setIfInBounds_toArray, List.set_cons_zero, List.set_cons_succ]
          have HLF := H109
       case' yc90 =>
        go_simp
        refine Calls.mono (HP1.out _ H103.out.cur) ?_
        rintro e v114 ⟨rfl, ho114, hz114, hc114⟩
        dsimp only
        have H114 := ydP H103 hlt ho114 hc114
        have QB114 := yrP R103 ho114 (by omega)
        have hg114 : w.heap.size < v114.heap.size := H114.out.box.lt
        clear ho114 hc114 hz114
        clear hHeld
        refine hK.out _ _ trivial (fun hHeld => ?_)
        clear hK K
        try simp only [Act.put, List.setIfInBounds_toArray, List.set_cons_zero, List.set_cons_succ]
        refine wpAnyH_ready (rs := [0, 7]) (by kernel_rfl) (by simp) ?_
        refine (AllReadyH.cons (o := oT0) rfl (fun K hK => ?yc100) (AllReadyH.cons (o := oT7) rfl (fun K hK => ?yc99) AllReadyH.nil))
        case' yc100 =>
         go_simp
         have H115 := ydA H114 zN
         have R115 := yrN v114 (v114.heap.size) (by simp)
         have QB115 := yrA QB114 zN
         clear hHeld
         refine hK.out _ _ trivial (fun hHeld => ?_)
         clear hK K
         try simp only [Act.put, List.setIfInBounds_toArray, List.set_cons_zero, List.set_cons_succ]
         refine wpAnyH_take (i := 3) (oi := oT3) (v := ?v101) rfl (by kernel_rfl) (by kernel_rfl) (by kernel_rfl) (fun _ _ _ h => h) (Or.inl ⟨by rfl, ?h101⟩) hHeld ?r101
         case h101 => (intro w hSw; (try dsimp only at hSw); go_simp; try with_reducible rfl)
         try simp only [Act.put, List.setIfInBounds_toArray, List.set_cons_zero, List.set_cons_succ]
         have c4 := R115.out n1 hn1
         refine wpAnyH_ready (rs := [4, 7]) (by kernel_rfl) (by simp) ?_
         refine (AllReadyH.cons (o := oT4) rfl (fun K hK => ?yc103) (AllReadyH.cons (o := oT7) rfl (fun K hK => ?yc102) AllReadyH.nil))
         case' yc103 =>
          go_simp
          clear hHeld
          refine hK.out _ _ trivial (fun hHeld => ?_)
          clear hK K
          try simp only [Act.put, List.setIfInBounds_toArray, List.set_cons_zero, List.set_cons_succ]
          refine wpAnyH_ready (rs := [7]) (by kernel_rfl) (by simp) ?_
          refine (AllReadyH.cons (o := oT7) rfl (fun K hK => ?_) AllReadyH.nil)
          go_simp
          refine Calls.mono (HP2.out _ H115.out.cur) ?_
          rintro e v117 ⟨rfl, ho117, hz117, hc117⟩
          dsimp only
          have H117 := ydP H115 hlt ho117 hc117
          have QA117 := yrP R115 ho117 (by omega)
          have QB117 := yrP QB115 ho117 (by omega)
          have hg117 : w.heap.size < v117.heap.size := H117.out.box.lt
          clear ho117 hc117 hz117
          clear hHeld
          refine hK.out _ _ trivial (fun hHeld => ?_)
          clear hK K
          try simp only [Act.put, List.setIfInBounds_toArray, List.set_cons_zero, List.set_cons_succ]
          refine wpAnyH_take (i := 8) (oi := oT8) (v := ?v104) rfl (by kernel_rfl) (by kernel_rfl) (by kernel_rfl) (fun _ _ _ h => h) (Or.inl ⟨by rfl, ?h104⟩) hHeld ?r104
          case h104 => (intro w hSw; (try dsimp only at hSw); go_simp; try with_reducible rfl)
          try simp only [Act.put, List.setIfInBounds_toArray, List.set_cons_zero, List.set_cons_succ]
          have c9 := QB117.out n2 hn2
          refine wpAnyH_ready (rs := [9]) (by kernel_rfl) (by simp) ?_
          refine (AllReadyH.cons (o := oT9) rfl (fun K hK => ?_) AllReadyH.nil)
          go_simp
          clear hHeld
          refine hK.out _ _ trivial (fun hHeld => ?_)
          clear hK K
          try simp only [Act.put, List.setIfInBounds_toArray, List.set_cons_zero, List.set_cons_succ]
          have HLF := H117
         case' yc102 =>
          go_simp
          refine Calls.mono (HP2.out _ H115.out.cur) ?_
          rintro e v119 ⟨rfl, ho119, hz119, hc119⟩
          dsimp only
          have H119 := ydP H115 hlt ho119 hc119
          have QA119 := yrP R115 ho119 (by omega)
          have QB119 := yrP QB115 ho119 (by omega)
          have hg119 : w.heap.size < v119.heap.size := H119.out.box.lt
          clear ho119 hc119 hz119
          clear hHeld
          refine hK.out _ _ trivial (fun hHeld => ?_)
          clear hK K
          try simp only [Act.put, List.setIfInBounds_toArray, List.set_cons_zero, List.set_cons_succ]
          refine wpAnyH_take (i := 8) (oi := oT8) (v := ?v105) rfl (by kernel_rfl) (by kernel_rfl) (by kernel_rfl) (fun _ _ _ h => h) (Or.inl ⟨by rfl, ?h105⟩) hHeld ?r105
          case h105 => (intro w hSw; (try dsimp only at hSw); go_simp; try with_reducible rfl)
          try simp only [Act.put, List.setIfInBounds_toArray, List.set_cons_zero, List.set_cons_succ]
          have c4 := QA119.out n1 hn1
          have c9 := QB119.out n2 hn2
          refine wpAnyH_ready (rs := [4, 9]) (by kernel_rfl) (by simp) ?_
          refine (AllReadyH.cons (o := oT4) rfl (fun K hK => ?yc107) (AllReadyH.cons (o := oT9) rfl (fun K hK => ?yc106) AllReadyH.nil))
          case' yc107 =>
           go_simp
           clear hHeld
           refine hK.out _ _ trivial (fun hHeld => ?_)
           clear hK K
           try simp only [Act.put, List.setIfInBounds_toArray, List.set_cons_zero, List.set_cons_succ]
           have c9 := QB119.out n2 hn2
           refine wpAnyH_ready (rs := [9]) (by kernel_rfl) (by simp) ?_
           refine (AllReadyH.cons (o := oT9) rfl (fun K hK => ?_) AllReadyH.nil)
           go_simp
           clear hHeld
           refine hK.out _ _ trivial (fun hHeld => ?_)
           clear hK K
           try simp only [Act.put, List.setIfInBounds_toArray, List.set_cons_zero, List.set_cons_succ]
           have HLF := H119
          case' yc106 =>
           go_simp
           clear hHeld
           refine hK.out _ _ trivial (fun hHeld => ?_)
           clear hK K
           try simp only [Act.put, List.setIfInBounds_toArray, List.set_cons_zero, List.set_cons_succ]
           have c4 := QA119.out n1 hn1
           refine wpAnyH_ready (rs := [4]) (by kernel_rfl) (by simp) ?_
           refine (AllReadyH.cons (o := oT4) rfl (fun K hK => ?_) AllReadyH.nil)
           go_simp
           clear hHeld
           refine hK.out _ _ trivial (fun hHeld => ?_)
           clear hK K
           try simp only [Act.put, List.setIfInBounds_toArray, List.set_cons_zero, List.set_cons_succ]
           have HLF := H119
        case' yc99 =>
         go_simp
         refine Calls.mono (HP2.out _ H114.out.cur) ?_
         rintro e v124 ⟨rfl, ho124, hz124, hc124⟩
         dsimp only
         have H124 := ydP H114 hlt ho124 hc124
         have QB124 := yrP QB114 ho124 (by omega)
         have hg124 : w.heap.size < v124.heap.size := H124.out.box.lt
         clear ho124 hc124 hz124
         clear hHeld
         refine hK.out _ _ trivial (fun hHeld => ?_)
         clear hK K
         try simp only [Act.put, List.setIfInBounds_toArray, List.set_cons_zero, List.set_cons_succ]
         refine wpAnyH_take (i := 8) (oi := oT8) (v := ?v108) rfl (by kernel_rfl) (by kernel_rfl) (by kernel_rfl) (fun _ _ _ h => h) (Or.inl ⟨by rfl, ?h108⟩) hHeld ?r108
         case h108 => (intro w hSw; (try dsimp only at hSw); go_simp; try with_reducible rfl)
         try simp only [Act.put, List.setIfInBounds_toArray, List.set_cons_zero, List.set_cons_succ]
         have c9 := QB124.out n2 hn2
         refine wpAnyH_ready (rs := [0, 9]) (by kernel_rfl) (by simp) ?_
         refine (AllReadyH.cons (o := oT0) rfl (fun K hK => ?yc110) (AllReadyH.cons (o := oT9) rfl (fun K hK => ?yc109) AllReadyH.nil))
         case' yc110 =>
          go_simp
          have H125 := ydA H124 zN
          have R125 := yrN v124 (v124.heap.size) (by simp)
          have QB125 := yrA QB124 zN
          clear hHeld
          refine hK.out _ _ trivial (fun hHeld => ?_)
          clear hK K
          try simp only [Act.put, List.setIfInBounds_toArray, List.set_cons_zero, List.set_cons_succ]
          refine wpAnyH_take (i := 3) (oi := oT3) (v := ?v111) rfl (by kernel_rfl) (by kernel_rfl) (by kernel_rfl) (fun _ _ _ h => h) (Or.inl ⟨by rfl, ?h111⟩) hHeld ?r111
          case h111 => (intro w hSw; (try dsimp only at hSw); go_simp; try with_reducible rfl)
          try simp only [Act.put, List.setIfInBounds_toArray, List.set_cons_zero, List.set_cons_succ]
          have c4 := R125.out n1 hn1
          have c9 := QB125.out n2 hn2
          refine wpAnyH_ready (rs := [4, 9]) (by kernel_rfl) (by simp) ?_
          refine (AllReadyH.cons (o := oT4) rfl (fun K hK => ?yc113) (AllReadyH.cons (o := oT9) rfl (fun K hK => ?yc112) AllReadyH.nil))
          case' yc113 =>
           go_simp
           clear hHeld
           refine hK.out _ _ trivial (fun hHeld => ?_)
           clear hK K
           try simp only [Act.put, List.setIfInBounds_toArray, List.set_cons_zero, List.set_cons_succ]
           have c9 := QB125.out n2 hn2
           refine wpAnyH_ready (rs := [9]) (by kernel_rfl) (by simp) ?_
           refine (AllReadyH.cons (o := oT9) rfl (fun K hK => ?_) AllReadyH.nil)
           go_simp
           clear hHeld
           refine hK.out _ _ trivial (fun hHeld => ?_)
           clear hK K
           try simp only [Act.put, List.setIfInBounds_toArray, List.set_cons_zero, List.set_cons_succ]
           have HLF := H125
          case' yc112 =>
           go_simp
           clear hHeld
           refine hK.out _ _ trivial (fun hHeld => ?_)
           clear hK K
           try simp only [Act.put, List.setIfInBounds_toArray, List.set_cons_zero, List.set_cons_succ]
           have c4 := R125.out n1 hn1
           refine wpAnyH_ready (rs := [4]) (by kernel_rfl) (by simp) ?_
           refine (AllReadyH.cons (o := oT4) rfl (fun K hK => ?_) AllReadyH.nil)
           go_simp
           clear hHeld
           refine hK.out _ _ trivial (fun hHeld => ?_)
           clear hK K
           try simp only [Act.put, List.setIfInBounds_toArray, List.set_cons_zero, List.set_cons_succ]
           have HLF := H125
         case' yc109 =>
          go_simp
          clear hHeld
          refine hK.out _ _ trivial (fun hHeld => ?_)
          clear hK K
          try simp only [Act.put, List.setIfInBounds_toArray, List.set_cons_zero, List.set_cons_succ]
          refine wpAnyH_ready (rs := [0]) (by kernel_rfl) (by simp) ?_
          refine (AllReadyH.cons (o := oT0) rfl (fun K hK => ?_) AllReadyH.nil)
          go_simp
          have H131 := ydA H124 zN
          have R131 := yrN v124 (v124.heap.size) (by simp)
          have QB131 := yrA QB124 zN
          clear hHeld
          refine hK.out _ _ trivial (fun hHeld => ?_)
          clear hK K
          try simp only [Act.put, List.setIfInBounds_toArray, List.set_cons_zero, List.set_cons_succ]
          refine wpAnyH_take (i := 3) (oi := oT3) (v := ?v114) rfl (by kernel_rfl) (by kernel_rfl) (by kernel_rfl) (fun _ _ _ h => h) (Or.inl ⟨by rfl, ?h114⟩) hHeld ?r114
          case h114 => (intro w hSw; (try dsimp only at hSw); go_simp; try with_reducible rfl)
          try simp only [Act.put, List.setIfInBounds_toArray, List.set_cons_zero, List.set_cons_succ]
          have c4 := R131.out n1 hn1
          refine wpAnyH_ready (rs := [4]) (by kernel_rfl) (by simp) ?_
          refine (AllReadyH.cons (o := oT4) rfl (fun K hK => ?_) AllReadyH.nil)
          go_simp
          clear hHeld
          refine hK.out _ _ trivial (fun hHeld => ?_)
          clear hK K
          try simp only [Act.put, List.setIfInBounds_toArray, List.set_cons_zero, List.set_cons_succ]
          have HLF := H131
      all_goals
       refine wpAnyH_ready (rs := [10]) (by kernel_rfl) (by simp) ?_
       refine (AllReadyH.cons (o := oT10) rfl (fun K hK => ?_) AllReadyH.nil)
       go_simp
       refine Calls.mono (leafD_any (pickOf lfN n1) (pickOf lfT n2) _) ?_
       rintro e w9 ⟨rfl, hb9⟩
       dsimp only
       have H9 := ydB HLF hb9
       obtain ⟨Z0, Z1, Z2, Z3⟩ := H9.out.box.cells
       have y0 := H9.out.box.frozen 0
       have y1 := H9.out.box.frozen 1
       have y2 := H9.out.box.frozen 2
       have y3 := H9.out.box.frozen 3
       clear hHeld
       refine hK.out _ _ trivial (fun hHeld => ?_)
       clear hK K
       try simp only [Act.put, List.setIfInBounds_toArray, List.set_cons_zero, List.set_cons_succ]
       refine wpAnyH_ready (rs := [11]) (by kernel_rfl) (by simp) ?_
       refine (AllReadyH.cons (o := oT11) rfl (fun K hK => ?_) AllReadyH.nil)
       go_simp
       clear hHeld
       refine hK.out _ _ trivial (fun hHeld => ?_)
       clear hK K
       try simp only [Act.put, List.setIfInBounds_toArray, List.set_cons_zero, List.set_cons_succ]
       refine wpAnyH_done (by kernel_rfl) ?_ _
       (try refine NoPanic.normal ?_)
       go_wp2_with fail
       refine bodyPost_ret (v := .agg #[.string (pickOf lfN n1), .string (pickOf lfT n2), .bool true, .slice none 0 0]) (by simp [results, Try.results16, go_sem, Z0, Z1, Z2, Z3]) rfl ?_
       exact HFL.out _ H9.out
    | false =>
      obtain ⟨d', rfl, rfl, h0⟩ := HT.out.2 rfl
      have HC := (show Hid _ from HP.out 3 wx _ H1.out.cur (by decide))
      have hk := cPick_lt cs 3 (cPick cs 4 s).2 (by decide)
      have HTM := (show Hid (TmC cs a cap b off c d') from HIH.out d' rfl)
      have HCT := (show Hid (cTerm cs (d' + 1) s = if (cPick cs 3 (cPick cs 4 s).2).1 = 2 then (nodeT negN [(cTerm cs d' (cPick cs 3 (cPick cs 4 s).2).2).1], (cTerm cs d' (cPick cs 3 (cPick cs 4 s).2).2).2) else (nodeT (pickOf opL (cPick cs 3 (cPick cs 4 s).2).1) [(cTerm cs d' (cPick cs 3 (cPick cs 4 s).2).2).1, (cTerm cs d' (cTerm cs d' (cPick cs 3 (cPick cs 4 s).2).2).2).1], (cTerm cs d' (cTerm cs d' (cPick cs 3 (cPick cs 4 s).2).2).2).2)) from (by
        show cTerm cs (d' + 1) s = _
        rw [cTerm, if_neg h0]))
      clear HT HIH HP h0
      generalize cPick cs 3 (cPick cs 4 s).2 = q1 at *
      obtain ⟨k, s2⟩ := q1
      dsimp only at *
      have hsub : ((d' + 1 : Nat) : Int) - 1 = (d' : Int) := by omega
      have hwr : IntKind.i64.wrap (d' : Int) = (d' : Int) := by rw [IntKind.wrap_i64]; omega
      go_wp2_with fail
      refine Calls.mono HC.out ?_
      rintro e wy ⟨rfl, hoy, hzy, hcy⟩
      have H2 := ydP H1 hlt hoy hcy
      have hgy : w.heap.size < wy.heap.size := H2.out.box.lt
      clear hoy hzy hcy HC H1
      by_cases h2 : k = 2
      · subst h2
        have HC1 := (show Hid _ from HTM.out s2 wy H2.out.cur)
        have hCT := HCT.out
        rw [if_pos rfl] at hCT
        generalize cTerm cs d' s2 = q2 at *
        obtain ⟨t1, s3⟩ := q2
        dsimp only at *
        have HEQ := (show Hid (cTerm cs (d' + 1) s = (nodeT negN [t1], s3)) from hCT)
        clear hCT
        clear HCT HTM
        go_wp2_with fail
        refine Calls.mono HC1.out ?_
        rintro e w3 ⟨xa, xm, xc, rfl, ho3, hc3, hl3⟩
        have H3 := ydP H2 hlt ho3 hc3
        have T3 := ylN H2 hl3
        simp only [Tr.val]
        have H4 := ydA H3 (.cells #[.string t1.name, .string t1.text, .bool t1.leaf, .slice xa xm xc] 26)
        have hg3 : w.heap.size < w3.heap.size := H3.out.box.lt
        have T4 := (show Hid (LiB (w3.alloc (.cells #[.string t1.name, .string t1.text, .bool t1.leaf, .slice xa xm xc] 26)) w.heap.size ⟨negN, ByteArray.empty, false, [t1]⟩ (.slice (some ⟨w3.heap.size, 0, none⟩) 1 1)) from lies_one (ylA T3 _).out (by unfold maxLen; decide) (Box4.new _ _ _ _ _).cells hg3)
        clear ho3 hc3 hl3 T3 H3 H2 HC1
        go_wp2_with fail
        refine Calls.mono (nodeD_any negN (some ⟨w3.heap.size, 0, none⟩) 1 1 _) ?_
        rintro e w9 ⟨rfl, hb9⟩
        have H9 := ydB H4 hb9
        have L9 := ylB T4 hb9
        obtain ⟨Z0, Z1, Z2, Z3⟩ := H9.out.box.cells
        have y0 := H9.out.box.frozen 0
        have y1 := H9.out.box.frozen 1
        have y2 := H9.out.box.frozen 2
        have y3 := H9.out.box.frozen 3
        clear hb9 H4 T4
        go_wp2_with fail
        refine bodyPost_ret (v := .agg #[.string negN, .string ByteArray.empty, .bool false, .slice (some ⟨w3.heap.size, 0, none⟩) 1 1]) (by simp [results, Try.results16, go_sem, Z0, Z1, Z2, Z3]) rfl ?_
        rw [HEQ.out]
        exact HE.out (nodeT negN [t1], s3) w9 s3 _ _ _ _ _ _ _ H9.out L9.out rfl
      · have hCT := HCT.out
        rw [if_neg h2] at hCT
        have hk1 : k < opL.length := by show k < 2; omega
        have hk2 : (k : Int) < 2 := by omega
        have hk0 : (0 : Int) ≤ (k : Int) := by omega
        have hke : ((k : Int) == 2) = false := by simp; omega
        have hOk : ([Value.string ⟨#[65, 100, 100]⟩, Value.string ⟨#[77, 117, 108]⟩] : List Value)[k]? = some (.string (pickOf opL k)) := by
          rcases (show k = 0 ∨ k = 1 by omega) with rfl | rfl <;> rfl
        have H0 := (show Hid (Ds cs a cap b off c w wy.drew s2) from Ds.drew H2.out)
        have HC1 := (show Hid _ from fun (W : World) (h : Cur W cs a cap b off c s2) => HTM.out s2 W h)
        have HC2 := (show Hid _ from fun (W : World) (h : Cur W cs a cap b off c (cTerm cs d' s2).2) => HTM.out _ W h)
        generalize cTerm cs d' s2 = q2 at *
        obtain ⟨t1, s3⟩ := q2
        dsimp only at *
        generalize cTerm cs d' s3 = q3 at *
        obtain ⟨t2, s4⟩ := q3
        dsimp only at *
        have HEQ := (show Hid (cTerm cs (d' + 1) s = (nodeT (pickOf opL k) [t1, t2], s4)) from hCT)
        clear hCT
        have HFN := (show Hid (∀ (w9 : World) (g : Nat), Ds cs a cap b off c w w9 s4 → LiB w9 w.heap.size ⟨pickOf opL k, ByteArray.empty, false, [t1, t2]⟩ (.slice (some ⟨g, 0, none⟩) 2 2) → DrewL cs a cap b off c (cTerm cs (d' + 1) s) w (.returned (.agg #[.string (pickOf opL k), .string ByteArray.empty, .bool false, .slice (some ⟨g, 0, none⟩) 2 2])) (put4 w9 w.heap.size (.string (pickOf opL k)) (.string ByteArray.empty) (.bool false) (.slice (some ⟨g, 0, none⟩) 2 2))) from fun w9 g h1 h2 => by
          rw [HEQ.out]
          exact HE.out (nodeT (pickOf opL k) [t1, t2], s4) w9 s4 _ _ _ _ _ _ _ h1 h2 rfl)
        clear HCT HTM HE H2
        go_wp2_with fail
        refine wp_region_held_drew (S := fun _ => True) (by kernel_rfl) trivial (fun hHeld => ?_)
        refine wpAnyH_take (i := 1) (oi := oU1) (v := ?v1001) rfl (by kernel_rfl) (by kernel_rfl) (by kernel_rfl) (fun _ _ _ h => h) (Or.inl ⟨by rfl, ?h1001⟩) hHeld ?r1001
        case h1001 => (intro w hSw; (try dsimp only at hSw); go_simp; try with_reducible rfl)
        try simp only [Act.put, List.setIfInBounds_toArray, List.set_cons_zero, List.set_cons_succ]
        refine wpAnyH_take (i := 4) (oi := oU4) (v := ?v1002) rfl (by kernel_rfl) (by kernel_rfl) (by kernel_rfl) (fun _ _ _ h => h) (Or.inl ⟨by rfl, ?h1002⟩) hHeld ?r1002
        case h1002 => (intro w hSw; (try dsimp only at hSw); go_simp; try with_reducible rfl)
        try simp only [Act.put, List.setIfInBounds_toArray, List.set_cons_zero, List.set_cons_succ]
        refine wpAnyH_take (i := 5) (oi := oU5) (v := ?v1003) rfl (by kernel_rfl) (by kernel_rfl) (by kernel_rfl) (fun _ _ _ h => h) (Or.inl ⟨by rfl, ?h1003⟩) hHeld ?r1003
        case h1003 => (intro w hSw; (try dsimp only at hSw); go_simp; try with_reducible rfl)
        try simp only [Act.put, List.setIfInBounds_toArray, List.set_cons_zero, List.set_cons_succ]
        refine wpAnyH_take (i := 6) (oi := oU6) (v := ?v1004) rfl (by kernel_rfl) (by kernel_rfl) (by kernel_rfl) (fun _ _ _ h => h) (Or.inl ⟨by rfl, ?h1004⟩) hHeld ?r1004
        case h1004 => (intro w hSw; (try dsimp only at hSw); go_simp; try with_reducible rfl)
        try simp only [Act.put, List.setIfInBounds_toArray, List.set_cons_zero, List.set_cons_succ]
        refine wpAnyH_take (i := 8) (oi := oU8) (v := ?v1005) rfl (by kernel_rfl) (by kernel_rfl) (by kernel_rfl) (fun _ _ _ h => h) (Or.inl ⟨by rfl, ?h1005⟩) hHeld ?r1005
        case h1005 => (intro w hSw; (try dsimp only at hSw); go_simp; try with_reducible rfl)
        try simp only [Act.put, List.setIfInBounds_toArray, List.set_cons_zero, List.set_cons_succ]
        refine wpAnyH_take (i := 9) (oi := oU9) (v := ?v1006) rfl (by kernel_rfl) (by kernel_rfl) (by kernel_rfl) (fun _ _ _ h => h) (Or.inl ⟨by rfl, ?h1006⟩) hHeld ?r1006
        case h1006 => (intro w hSw; (try dsimp only at hSw); go_simp; try with_reducible rfl)
        try simp only [Act.put, List.setIfInBounds_toArray, List.set_cons_zero, List.set_cons_succ]
        refine wpAnyH_take (i := 10) (oi := oU10) (v := ?v1007) rfl (by kernel_rfl) (by kernel_rfl) (by kernel_rfl) (fun _ _ _ h => h) (Or.inl ⟨by rfl, ?h1007⟩) hHeld ?r1007
        case h1007 => (intro w hSw; (try dsimp only at hSw); go_simp; try with_reducible rfl)
        try simp only [Act.put, List.setIfInBounds_toArray, List.set_cons_zero, List.set_cons_succ]
        refine wpAnyH_ready (rs := [0, 7]) (by kernel_rfl) (by simp) ?_
        refine (AllReadyH.cons (o := oU0) rfl (fun K hK => ?_) (AllReadyH.cons (o := oU7) rfl (fun K hK => ?_) AllReadyH.nil))
        · go_simp
          have H1001 := ydA H0 zO
          have R1001 := yrO wy.drew (wy.heap.size) (by simp)
          clear hHeld
          refine hK.out _ _ trivial (fun hHeld => ?_)
          clear hK K
          try simp only [Act.put, List.setIfInBounds_toArray, List.set_cons_zero, List.set_cons_succ]
          refine wpAnyH_take (i := 2) (oi := oU2) (v := ?v1008) rfl (by kernel_rfl) (by kernel_rfl) (by kernel_rfl) (fun _ _ _ h => h) (Or.inl ⟨by rfl, ?h1008⟩) hHeld ?r1008
          case h1008 => (intro w hSw; (try dsimp only at hSw); go_simp; try with_reducible rfl)
          try simp only [Act.put, List.setIfInBounds_toArray, List.set_cons_zero, List.set_cons_succ]
          have c3 := R1001.out k hk1
          refine wpAnyH_ready (rs := [3, 7]) (by kernel_rfl) (by simp) ?_
          refine (AllReadyH.cons (o := oU3) rfl (fun K hK => ?_) (AllReadyH.cons (o := oU7) rfl (fun K hK => ?_) AllReadyH.nil))
          · go_simp
            clear hHeld
            refine hK.out _ _ trivial (fun hHeld => ?_)
            clear hK K
            try simp only [Act.put, List.setIfInBounds_toArray, List.set_cons_zero, List.set_cons_succ]
            refine wpAnyH_ready (rs := [7]) (by kernel_rfl) (by simp) ?_
            refine (AllReadyH.cons (o := oU7) rfl (fun K hK => ?_) AllReadyH.nil)
            go_simp
            refine Calls.mono (HC1.out _ H1001.out.cur) ?_
            rintro e v1003 ⟨xa1, xm1, xc1, rfl, ho1003, hc1003, hl1003⟩
            simp only [Tr.val]
            have H1003 := ydP H1001 hlt ho1003 hc1003
            have T1003 := ylN H1001 hl1003
            have QA1003 := yrP R1001 ho1003 (by omega)
            have hg1003 : w.heap.size < v1003.heap.size := H1003.out.box.lt
            clear ho1003 hc1003 hl1003
            clear hHeld
            refine hK.out _ _ trivial (fun hHeld => ?_)
            clear hK K
            try simp only [Act.put, List.setIfInBounds_toArray, List.set_cons_zero, List.set_cons_succ]
            refine wpAnyH_ready (rs := [11]) (by kernel_rfl) (by simp) ?_
            refine (AllReadyH.cons (o := oU11) rfl (fun K hK => ?_) AllReadyH.nil)
            go_simp
            refine Calls.mono (HC2.out _ H1003.out.cur) ?_
            rintro e v1004 ⟨xa2, xm2, xc2, rfl, ho1004, hc1004, hl1004⟩
            simp only [Tr.val]
            have H1004 := ydP H1003 hlt ho1004 hc1004
            have T1004 := ylN H1003 hl1004
            have QA1004 := yrP QA1003 ho1004 (by omega)
            have QT1004 := ylP T1003 ho1004 hlt
            have hg1004 : w.heap.size < v1004.heap.size := H1004.out.box.lt
            clear ho1004 hc1004 hl1004
            clear hHeld
            refine hK.out _ _ trivial (fun hHeld => ?_)
            clear hK K
            try simp only [Act.put, List.setIfInBounds_toArray, List.set_cons_zero, List.set_cons_succ]
            refine wpAnyH_ready (rs := [12]) (by kernel_rfl) (by simp) ?_
            refine (AllReadyH.cons (o := oU12) rfl (fun K hK => ?_) AllReadyH.nil)
            go_simp
            have H1005 := ydA H1004 (zR t1 t2 (.slice xa1 xm1 xc1) (.slice xa2 xm2 xc2))
            have T1005 := ylT QT1004 T1004 H1004 (v1004.heap.size) (by simp) (pick_opL k)
            have QA1005 := yrA QA1004 (zR t1 t2 (.slice xa1 xm1 xc1) (.slice xa2 xm2 xc2))
            clear hHeld
            refine hK.out _ _ trivial (fun hHeld => ?_)
            clear hK K
            try simp only [Act.put, List.setIfInBounds_toArray, List.set_cons_zero, List.set_cons_succ]
            refine wpAnyH_ready (rs := [13]) (by kernel_rfl) (by simp) ?_
            refine (AllReadyH.cons (o := oU13) rfl (fun K hK => ?_) AllReadyH.nil)
            go_simp
            refine Calls.mono (nodeD_any (pickOf opL k) (some ⟨v1004.heap.size, 0, none⟩) 2 2 _) ?_
            rintro e w9 ⟨rfl, hb9⟩
            dsimp only
            have H9 := ydB H1005 hb9
            have L9 := ylB T1005 hb9
            obtain ⟨Z0, Z1, Z2, Z3⟩ := H9.out.box.cells
            have y0 := H9.out.box.frozen 0
            have y1 := H9.out.box.frozen 1
            have y2 := H9.out.box.frozen 2
            have y3 := H9.out.box.frozen 3
            clear hHeld
            refine hK.out _ _ trivial (fun hHeld => ?_)
            clear hK K
            try simp only [Act.put, List.setIfInBounds_toArray, List.set_cons_zero, List.set_cons_succ]
            refine wpAnyH_ready (rs := [14]) (by kernel_rfl) (by simp) ?_
            refine (AllReadyH.cons (o := oU14) rfl (fun K hK => ?_) AllReadyH.nil)
            go_simp
            clear hHeld
            refine hK.out _ _ trivial (fun hHeld => ?_)
            clear hK K
            try simp only [Act.put, List.setIfInBounds_toArray, List.set_cons_zero, List.set_cons_succ]
            refine wpAnyH_done (by kernel_rfl) ?_ _
            (try refine NoPanic.normal ?_)
            go_wp2_with fail
            refine bodyPost_ret (v := .agg #[.string (pickOf opL k), .string ByteArray.empty, .bool false, .slice (some ⟨v1004.heap.size, 0, none⟩) 2 2]) (by simp [results, Try.results16, go_sem, Z0, Z1, Z2, Z3]) rfl ?_
            exact HFN.out _ _ H9.out L9.out
          · go_simp
            refine Calls.mono (HC1.out _ H1001.out.cur) ?_
            rintro e v1006 ⟨xa1, xm1, xc1, rfl, ho1006, hc1006, hl1006⟩
            simp only [Tr.val]
            have H1006 := ydP H1001 hlt ho1006 hc1006
            have T1006 := ylN H1001 hl1006
            have QA1006 := yrP R1001 ho1006 (by omega)
            have hg1006 : w.heap.size < v1006.heap.size := H1006.out.box.lt
            clear ho1006 hc1006 hl1006
            clear hHeld
            refine hK.out _ _ trivial (fun hHeld => ?_)
            clear hK K
            try simp only [Act.put, List.setIfInBounds_toArray, List.set_cons_zero, List.set_cons_succ]
            have c3 := QA1006.out k hk1
            refine wpAnyH_ready (rs := [3, 11]) (by kernel_rfl) (by simp) ?_
            refine (AllReadyH.cons (o := oU3) rfl (fun K hK => ?_) (AllReadyH.cons (o := oU11) rfl (fun K hK => ?_) AllReadyH.nil))
            · go_simp
              clear hHeld
              refine hK.out _ _ trivial (fun hHeld => ?_)
              clear hK K
              try simp only [Act.put, List.setIfInBounds_toArray, List.set_cons_zero, List.set_cons_succ]
              refine wpAnyH_ready (rs := [11]) (by kernel_rfl) (by simp) ?_
              refine (AllReadyH.cons (o := oU11) rfl (fun K hK => ?_) AllReadyH.nil)
              go_simp
              refine Calls.mono (HC2.out _ H1006.out.cur) ?_
              rintro e v1008 ⟨xa2, xm2, xc2, rfl, ho1008, hc1008, hl1008⟩
              simp only [Tr.val]
              have H1008 := ydP H1006 hlt ho1008 hc1008
              have T1008 := ylN H1006 hl1008
              have QA1008 := yrP QA1006 ho1008 (by omega)
              have QT1008 := ylP T1006 ho1008 hlt
              have hg1008 : w.heap.size < v1008.heap.size := H1008.out.box.lt
              clear ho1008 hc1008 hl1008
              clear hHeld
              refine hK.out _ _ trivial (fun hHeld => ?_)
              clear hK K
              try simp only [Act.put, List.setIfInBounds_toArray, List.set_cons_zero, List.set_cons_succ]
              refine wpAnyH_ready (rs := [12]) (by kernel_rfl) (by simp) ?_
              refine (AllReadyH.cons (o := oU12) rfl (fun K hK => ?_) AllReadyH.nil)
              go_simp
              have H1009 := ydA H1008 (zR t1 t2 (.slice xa1 xm1 xc1) (.slice xa2 xm2 xc2))
              have T1009 := ylT QT1008 T1008 H1008 (v1008.heap.size) (by simp) (pick_opL k)
              have QA1009 := yrA QA1008 (zR t1 t2 (.slice xa1 xm1 xc1) (.slice xa2 xm2 xc2))
              clear hHeld
              refine hK.out _ _ trivial (fun hHeld => ?_)
              clear hK K
              try simp only [Act.put, List.setIfInBounds_toArray, List.set_cons_zero, List.set_cons_succ]
              refine wpAnyH_ready (rs := [13]) (by kernel_rfl) (by simp) ?_
              refine (AllReadyH.cons (o := oU13) rfl (fun K hK => ?_) AllReadyH.nil)
              go_simp
              refine Calls.mono (nodeD_any (pickOf opL k) (some ⟨v1008.heap.size, 0, none⟩) 2 2 _) ?_
              rintro e w9 ⟨rfl, hb9⟩
              dsimp only
              have H9 := ydB H1009 hb9
              have L9 := ylB T1009 hb9
              obtain ⟨Z0, Z1, Z2, Z3⟩ := H9.out.box.cells
              have y0 := H9.out.box.frozen 0
              have y1 := H9.out.box.frozen 1
              have y2 := H9.out.box.frozen 2
              have y3 := H9.out.box.frozen 3
              clear hHeld
              refine hK.out _ _ trivial (fun hHeld => ?_)
              clear hK K
              try simp only [Act.put, List.setIfInBounds_toArray, List.set_cons_zero, List.set_cons_succ]
              refine wpAnyH_ready (rs := [14]) (by kernel_rfl) (by simp) ?_
              refine (AllReadyH.cons (o := oU14) rfl (fun K hK => ?_) AllReadyH.nil)
              go_simp
              clear hHeld
              refine hK.out _ _ trivial (fun hHeld => ?_)
              clear hK K
              try simp only [Act.put, List.setIfInBounds_toArray, List.set_cons_zero, List.set_cons_succ]
              refine wpAnyH_done (by kernel_rfl) ?_ _
              (try refine NoPanic.normal ?_)
              go_wp2_with fail
              refine bodyPost_ret (v := .agg #[.string (pickOf opL k), .string ByteArray.empty, .bool false, .slice (some ⟨v1008.heap.size, 0, none⟩) 2 2]) (by simp [results, Try.results16, go_sem, Z0, Z1, Z2, Z3]) rfl ?_
              exact HFN.out _ _ H9.out L9.out
            · go_simp
              refine Calls.mono (HC2.out _ H1006.out.cur) ?_
              rintro e v1010 ⟨xa2, xm2, xc2, rfl, ho1010, hc1010, hl1010⟩
              simp only [Tr.val]
              have H1010 := ydP H1006 hlt ho1010 hc1010
              have T1010 := ylN H1006 hl1010
              have QA1010 := yrP QA1006 ho1010 (by omega)
              have QT1010 := ylP T1006 ho1010 hlt
              have hg1010 : w.heap.size < v1010.heap.size := H1010.out.box.lt
              clear ho1010 hc1010 hl1010
              clear hHeld
              refine hK.out _ _ trivial (fun hHeld => ?_)
              clear hK K
              try simp only [Act.put, List.setIfInBounds_toArray, List.set_cons_zero, List.set_cons_succ]
              have c3 := QA1010.out k hk1
              refine wpAnyH_ready (rs := [3, 12]) (by kernel_rfl) (by simp) ?_
              refine (AllReadyH.cons (o := oU3) rfl (fun K hK => ?_) (AllReadyH.cons (o := oU12) rfl (fun K hK => ?_) AllReadyH.nil))
              · go_simp
                clear hHeld
                refine hK.out _ _ trivial (fun hHeld => ?_)
                clear hK K
                try simp only [Act.put, List.setIfInBounds_toArray, List.set_cons_zero, List.set_cons_succ]
                refine wpAnyH_ready (rs := [12]) (by kernel_rfl) (by simp) ?_
                refine (AllReadyH.cons (o := oU12) rfl (fun K hK => ?_) AllReadyH.nil)
                go_simp
                have H1012 := ydA H1010 (zR t1 t2 (.slice xa1 xm1 xc1) (.slice xa2 xm2 xc2))
                have T1012 := ylT QT1010 T1010 H1010 (v1010.heap.size) (by simp) (pick_opL k)
                have QA1012 := yrA QA1010 (zR t1 t2 (.slice xa1 xm1 xc1) (.slice xa2 xm2 xc2))
                clear hHeld
                refine hK.out _ _ trivial (fun hHeld => ?_)
                clear hK K
                try simp only [Act.put, List.setIfInBounds_toArray, List.set_cons_zero, List.set_cons_succ]
                refine wpAnyH_ready (rs := [13]) (by kernel_rfl) (by simp) ?_
                refine (AllReadyH.cons (o := oU13) rfl (fun K hK => ?_) AllReadyH.nil)
                go_simp
                refine Calls.mono (nodeD_any (pickOf opL k) (some ⟨v1010.heap.size, 0, none⟩) 2 2 _) ?_
                rintro e w9 ⟨rfl, hb9⟩
                dsimp only
                have H9 := ydB H1012 hb9
                have L9 := ylB T1012 hb9
                obtain ⟨Z0, Z1, Z2, Z3⟩ := H9.out.box.cells
                have y0 := H9.out.box.frozen 0
                have y1 := H9.out.box.frozen 1
                have y2 := H9.out.box.frozen 2
                have y3 := H9.out.box.frozen 3
                clear hHeld
                refine hK.out _ _ trivial (fun hHeld => ?_)
                clear hK K
                try simp only [Act.put, List.setIfInBounds_toArray, List.set_cons_zero, List.set_cons_succ]
                refine wpAnyH_ready (rs := [14]) (by kernel_rfl) (by simp) ?_
                refine (AllReadyH.cons (o := oU14) rfl (fun K hK => ?_) AllReadyH.nil)
                go_simp
                clear hHeld
                refine hK.out _ _ trivial (fun hHeld => ?_)
                clear hK K
                try simp only [Act.put, List.setIfInBounds_toArray, List.set_cons_zero, List.set_cons_succ]
                refine wpAnyH_done (by kernel_rfl) ?_ _
                (try refine NoPanic.normal ?_)
                go_wp2_with fail
                refine bodyPost_ret (v := .agg #[.string (pickOf opL k), .string ByteArray.empty, .bool false, .slice (some ⟨v1010.heap.size, 0, none⟩) 2 2]) (by simp [results, Try.results16, go_sem, Z0, Z1, Z2, Z3]) rfl ?_
                exact HFN.out _ _ H9.out L9.out
              · go_simp
                have H1013 := ydA H1010 (zR t1 t2 (.slice xa1 xm1 xc1) (.slice xa2 xm2 xc2))
                have T1013 := ylT QT1010 T1010 H1010 (v1010.heap.size) (by simp) (pick_opL k)
                have QA1013 := yrA QA1010 (zR t1 t2 (.slice xa1 xm1 xc1) (.slice xa2 xm2 xc2))
                clear hHeld
                refine hK.out _ _ trivial (fun hHeld => ?_)
                clear hK K
                try simp only [Act.put, List.setIfInBounds_toArray, List.set_cons_zero, List.set_cons_succ]
                have c3 := QA1013.out k hk1
                refine wpAnyH_ready (rs := [3]) (by kernel_rfl) (by simp) ?_
                refine (AllReadyH.cons (o := oU3) rfl (fun K hK => ?_) AllReadyH.nil)
                go_simp
                clear hHeld
                refine hK.out _ _ trivial (fun hHeld => ?_)
                clear hK K
                try simp only [Act.put, List.setIfInBounds_toArray, List.set_cons_zero, List.set_cons_succ]
                refine wpAnyH_ready (rs := [13]) (by kernel_rfl) (by simp) ?_
                refine (AllReadyH.cons (o := oU13) rfl (fun K hK => ?_) AllReadyH.nil)
                go_simp
                refine Calls.mono (nodeD_any (pickOf opL k) (some ⟨v1010.heap.size, 0, none⟩) 2 2 _) ?_
                rintro e w9 ⟨rfl, hb9⟩
                dsimp only
                have H9 := ydB H1013 hb9
                have L9 := ylB T1013 hb9
                obtain ⟨Z0, Z1, Z2, Z3⟩ := H9.out.box.cells
                have y0 := H9.out.box.frozen 0
                have y1 := H9.out.box.frozen 1
                have y2 := H9.out.box.frozen 2
                have y3 := H9.out.box.frozen 3
                clear hHeld
                refine hK.out _ _ trivial (fun hHeld => ?_)
                clear hK K
                try simp only [Act.put, List.setIfInBounds_toArray, List.set_cons_zero, List.set_cons_succ]
                refine wpAnyH_ready (rs := [14]) (by kernel_rfl) (by simp) ?_
                refine (AllReadyH.cons (o := oU14) rfl (fun K hK => ?_) AllReadyH.nil)
                go_simp
                clear hHeld
                refine hK.out _ _ trivial (fun hHeld => ?_)
                clear hK K
                try simp only [Act.put, List.setIfInBounds_toArray, List.set_cons_zero, List.set_cons_succ]
                refine wpAnyH_done (by kernel_rfl) ?_ _
                (try refine NoPanic.normal ?_)
                go_wp2_with fail
                refine bodyPost_ret (v := .agg #[.string (pickOf opL k), .string ByteArray.empty, .bool false, .slice (some ⟨v1010.heap.size, 0, none⟩) 2 2]) (by simp [results, Try.results16, go_sem, Z0, Z1, Z2, Z3]) rfl ?_
                exact HFN.out _ _ H9.out L9.out
        · go_simp
          refine Calls.mono (HC1.out _ H0.out.cur) ?_
          rintro e v1015 ⟨xa1, xm1, xc1, rfl, ho1015, hc1015, hl1015⟩
          simp only [Tr.val]
          have H1015 := ydP H0 hlt ho1015 hc1015
          have T1015 := ylN H0 hl1015
          have hg1015 : w.heap.size < v1015.heap.size := H1015.out.box.lt
          clear ho1015 hc1015 hl1015
          clear hHeld
          refine hK.out _ _ trivial (fun hHeld => ?_)
          clear hK K
          try simp only [Act.put, List.setIfInBounds_toArray, List.set_cons_zero, List.set_cons_succ]
          refine wpAnyH_ready (rs := [0, 11]) (by kernel_rfl) (by simp) ?_
          refine (AllReadyH.cons (o := oU0) rfl (fun K hK => ?_) (AllReadyH.cons (o := oU11) rfl (fun K hK => ?_) AllReadyH.nil))
          · go_simp
            have H1016 := ydA H1015 zO
            have R1016 := yrO v1015 (v1015.heap.size) (by simp)
            have QT11016 := ylA T1015 zO
            clear hHeld
            refine hK.out _ _ trivial (fun hHeld => ?_)
            clear hK K
            try simp only [Act.put, List.setIfInBounds_toArray, List.set_cons_zero, List.set_cons_succ]
            refine wpAnyH_take (i := 2) (oi := oU2) (v := ?v1009) rfl (by kernel_rfl) (by kernel_rfl) (by kernel_rfl) (fun _ _ _ h => h) (Or.inl ⟨by rfl, ?h1009⟩) hHeld ?r1009
            case h1009 => (intro w hSw; (try dsimp only at hSw); go_simp; try with_reducible rfl)
            try simp only [Act.put, List.setIfInBounds_toArray, List.set_cons_zero, List.set_cons_succ]
            have c3 := R1016.out k hk1
            refine wpAnyH_ready (rs := [3, 11]) (by kernel_rfl) (by simp) ?_
            refine (AllReadyH.cons (o := oU3) rfl (fun K hK => ?_) (AllReadyH.cons (o := oU11) rfl (fun K hK => ?_) AllReadyH.nil))
            · go_simp
              clear hHeld
              refine hK.out _ _ trivial (fun hHeld => ?_)
              clear hK K
              try simp only [Act.put, List.setIfInBounds_toArray, List.set_cons_zero, List.set_cons_succ]
              refine wpAnyH_ready (rs := [11]) (by kernel_rfl) (by simp) ?_
              refine (AllReadyH.cons (o := oU11) rfl (fun K hK => ?_) AllReadyH.nil)
              go_simp
              refine Calls.mono (HC2.out _ H1016.out.cur) ?_
              rintro e v1018 ⟨xa2, xm2, xc2, rfl, ho1018, hc1018, hl1018⟩
              simp only [Tr.val]
              have H1018 := ydP H1016 hlt ho1018 hc1018
              have T1018 := ylN H1016 hl1018
              have QA1018 := yrP R1016 ho1018 (by omega)
              have QT1018 := ylP QT11016 ho1018 hlt
              have hg1018 : w.heap.size < v1018.heap.size := H1018.out.box.lt
              clear ho1018 hc1018 hl1018
              clear hHeld
              refine hK.out _ _ trivial (fun hHeld => ?_)
              clear hK K
              try simp only [Act.put, List.setIfInBounds_toArray, List.set_cons_zero, List.set_cons_succ]
              refine wpAnyH_ready (rs := [12]) (by kernel_rfl) (by simp) ?_
              refine (AllReadyH.cons (o := oU12) rfl (fun K hK => ?_) AllReadyH.nil)
              go_simp
              have H1019 := ydA H1018 (zR t1 t2 (.slice xa1 xm1 xc1) (.slice xa2 xm2 xc2))
              have T1019 := ylT QT1018 T1018 H1018 (v1018.heap.size) (by simp) (pick_opL k)
              have QA1019 := yrA QA1018 (zR t1 t2 (.slice xa1 xm1 xc1) (.slice xa2 xm2 xc2))
              clear hHeld
              refine hK.out _ _ trivial (fun hHeld => ?_)
              clear hK K
              try simp only [Act.put, List.setIfInBounds_toArray, List.set_cons_zero, List.set_cons_succ]
              refine wpAnyH_ready (rs := [13]) (by kernel_rfl) (by simp) ?_
              refine (AllReadyH.cons (o := oU13) rfl (fun K hK => ?_) AllReadyH.nil)
              go_simp
              refine Calls.mono (nodeD_any (pickOf opL k) (some ⟨v1018.heap.size, 0, none⟩) 2 2 _) ?_
              rintro e w9 ⟨rfl, hb9⟩
              dsimp only
              have H9 := ydB H1019 hb9
              have L9 := ylB T1019 hb9
              obtain ⟨Z0, Z1, Z2, Z3⟩ := H9.out.box.cells
              have y0 := H9.out.box.frozen 0
              have y1 := H9.out.box.frozen 1
              have y2 := H9.out.box.frozen 2
              have y3 := H9.out.box.frozen 3
              clear hHeld
              refine hK.out _ _ trivial (fun hHeld => ?_)
              clear hK K
              try simp only [Act.put, List.setIfInBounds_toArray, List.set_cons_zero, List.set_cons_succ]
              refine wpAnyH_ready (rs := [14]) (by kernel_rfl) (by simp) ?_
              refine (AllReadyH.cons (o := oU14) rfl (fun K hK => ?_) AllReadyH.nil)
              go_simp
              clear hHeld
              refine hK.out _ _ trivial (fun hHeld => ?_)
              clear hK K
              try simp only [Act.put, List.setIfInBounds_toArray, List.set_cons_zero, List.set_cons_succ]
              refine wpAnyH_done (by kernel_rfl) ?_ _
              (try refine NoPanic.normal ?_)
              go_wp2_with fail
              refine bodyPost_ret (v := .agg #[.string (pickOf opL k), .string ByteArray.empty, .bool false, .slice (some ⟨v1018.heap.size, 0, none⟩) 2 2]) (by simp [results, Try.results16, go_sem, Z0, Z1, Z2, Z3]) rfl ?_
              exact HFN.out _ _ H9.out L9.out
            · go_simp
              refine Calls.mono (HC2.out _ H1016.out.cur) ?_
              rintro e v1020 ⟨xa2, xm2, xc2, rfl, ho1020, hc1020, hl1020⟩
              simp only [Tr.val]
              have H1020 := ydP H1016 hlt ho1020 hc1020
              have T1020 := ylN H1016 hl1020
              have QA1020 := yrP R1016 ho1020 (by omega)
              have QT1020 := ylP QT11016 ho1020 hlt
              have hg1020 : w.heap.size < v1020.heap.size := H1020.out.box.lt
              clear ho1020 hc1020 hl1020
              clear hHeld
              refine hK.out _ _ trivial (fun hHeld => ?_)
              clear hK K
              try simp only [Act.put, List.setIfInBounds_toArray, List.set_cons_zero, List.set_cons_succ]
              have c3 := QA1020.out k hk1
              refine wpAnyH_ready (rs := [3, 12]) (by kernel_rfl) (by simp) ?_
              refine (AllReadyH.cons (o := oU3) rfl (fun K hK => ?_) (AllReadyH.cons (o := oU12) rfl (fun K hK => ?_) AllReadyH.nil))
              · go_simp
                clear hHeld
                refine hK.out _ _ trivial (fun hHeld => ?_)
                clear hK K
                try simp only [Act.put, List.setIfInBounds_toArray, List.set_cons_zero, List.set_cons_succ]
                refine wpAnyH_ready (rs := [12]) (by kernel_rfl) (by simp) ?_
                refine (AllReadyH.cons (o := oU12) rfl (fun K hK => ?_) AllReadyH.nil)
                go_simp
                have H1022 := ydA H1020 (zR t1 t2 (.slice xa1 xm1 xc1) (.slice xa2 xm2 xc2))
                have T1022 := ylT QT1020 T1020 H1020 (v1020.heap.size) (by simp) (pick_opL k)
                have QA1022 := yrA QA1020 (zR t1 t2 (.slice xa1 xm1 xc1) (.slice xa2 xm2 xc2))
                clear hHeld
                refine hK.out _ _ trivial (fun hHeld => ?_)
                clear hK K
                try simp only [Act.put, List.setIfInBounds_toArray, List.set_cons_zero, List.set_cons_succ]
                refine wpAnyH_ready (rs := [13]) (by kernel_rfl) (by simp) ?_
                refine (AllReadyH.cons (o := oU13) rfl (fun K hK => ?_) AllReadyH.nil)
                go_simp
                refine Calls.mono (nodeD_any (pickOf opL k) (some ⟨v1020.heap.size, 0, none⟩) 2 2 _) ?_
                rintro e w9 ⟨rfl, hb9⟩
                dsimp only
                have H9 := ydB H1022 hb9
                have L9 := ylB T1022 hb9
                obtain ⟨Z0, Z1, Z2, Z3⟩ := H9.out.box.cells
                have y0 := H9.out.box.frozen 0
                have y1 := H9.out.box.frozen 1
                have y2 := H9.out.box.frozen 2
                have y3 := H9.out.box.frozen 3
                clear hHeld
                refine hK.out _ _ trivial (fun hHeld => ?_)
                clear hK K
                try simp only [Act.put, List.setIfInBounds_toArray, List.set_cons_zero, List.set_cons_succ]
                refine wpAnyH_ready (rs := [14]) (by kernel_rfl) (by simp) ?_
                refine (AllReadyH.cons (o := oU14) rfl (fun K hK => ?_) AllReadyH.nil)
                go_simp
                clear hHeld
                refine hK.out _ _ trivial (fun hHeld => ?_)
                clear hK K
                try simp only [Act.put, List.setIfInBounds_toArray, List.set_cons_zero, List.set_cons_succ]
                refine wpAnyH_done (by kernel_rfl) ?_ _
                (try refine NoPanic.normal ?_)
                go_wp2_with fail
                refine bodyPost_ret (v := .agg #[.string (pickOf opL k), .string ByteArray.empty, .bool false, .slice (some ⟨v1020.heap.size, 0, none⟩) 2 2]) (by simp [results, Try.results16, go_sem, Z0, Z1, Z2, Z3]) rfl ?_
                exact HFN.out _ _ H9.out L9.out
              · go_simp
                have H1023 := ydA H1020 (zR t1 t2 (.slice xa1 xm1 xc1) (.slice xa2 xm2 xc2))
                have T1023 := ylT QT1020 T1020 H1020 (v1020.heap.size) (by simp) (pick_opL k)
                have QA1023 := yrA QA1020 (zR t1 t2 (.slice xa1 xm1 xc1) (.slice xa2 xm2 xc2))
                clear hHeld
                refine hK.out _ _ trivial (fun hHeld => ?_)
                clear hK K
                try simp only [Act.put, List.setIfInBounds_toArray, List.set_cons_zero, List.set_cons_succ]
                have c3 := QA1023.out k hk1
                refine wpAnyH_ready (rs := [3]) (by kernel_rfl) (by simp) ?_
                refine (AllReadyH.cons (o := oU3) rfl (fun K hK => ?_) AllReadyH.nil)
                go_simp
                clear hHeld
                refine hK.out _ _ trivial (fun hHeld => ?_)
                clear hK K
                try simp only [Act.put, List.setIfInBounds_toArray, List.set_cons_zero, List.set_cons_succ]
                refine wpAnyH_ready (rs := [13]) (by kernel_rfl) (by simp) ?_
                refine (AllReadyH.cons (o := oU13) rfl (fun K hK => ?_) AllReadyH.nil)
                go_simp
                refine Calls.mono (nodeD_any (pickOf opL k) (some ⟨v1020.heap.size, 0, none⟩) 2 2 _) ?_
                rintro e w9 ⟨rfl, hb9⟩
                dsimp only
                have H9 := ydB H1023 hb9
                have L9 := ylB T1023 hb9
                obtain ⟨Z0, Z1, Z2, Z3⟩ := H9.out.box.cells
                have y0 := H9.out.box.frozen 0
                have y1 := H9.out.box.frozen 1
                have y2 := H9.out.box.frozen 2
                have y3 := H9.out.box.frozen 3
                clear hHeld
                refine hK.out _ _ trivial (fun hHeld => ?_)
                clear hK K
                try simp only [Act.put, List.setIfInBounds_toArray, List.set_cons_zero, List.set_cons_succ]
                refine wpAnyH_ready (rs := [14]) (by kernel_rfl) (by simp) ?_
                refine (AllReadyH.cons (o := oU14) rfl (fun K hK => ?_) AllReadyH.nil)
                go_simp
                clear hHeld
                refine hK.out _ _ trivial (fun hHeld => ?_)
                clear hK K
                try simp only [Act.put, List.setIfInBounds_toArray, List.set_cons_zero, List.set_cons_succ]
                refine wpAnyH_done (by kernel_rfl) ?_ _
                (try refine NoPanic.normal ?_)
                go_wp2_with fail
                refine bodyPost_ret (v := .agg #[.string (pickOf opL k), .string ByteArray.empty, .bool false, .slice (some ⟨v1020.heap.size, 0, none⟩) 2 2]) (by simp [results, Try.results16, go_sem, Z0, Z1, Z2, Z3]) rfl ?_
                exact HFN.out _ _ H9.out L9.out
          · go_simp
            refine Calls.mono (HC2.out _ H1015.out.cur) ?_
            rintro e v1025 ⟨xa2, xm2, xc2, rfl, ho1025, hc1025, hl1025⟩
            simp only [Tr.val]
            have H1025 := ydP H1015 hlt ho1025 hc1025
            have T1025 := ylN H1015 hl1025
            have QT1025 := ylP T1015 ho1025 hlt
            have hg1025 : w.heap.size < v1025.heap.size := H1025.out.box.lt
            clear ho1025 hc1025 hl1025
            clear hHeld
            refine hK.out _ _ trivial (fun hHeld => ?_)
            clear hK K
            try simp only [Act.put, List.setIfInBounds_toArray, List.set_cons_zero, List.set_cons_succ]
            refine wpAnyH_ready (rs := [0, 12]) (by kernel_rfl) (by simp) ?_
            refine (AllReadyH.cons (o := oU0) rfl (fun K hK => ?_) (AllReadyH.cons (o := oU12) rfl (fun K hK => ?_) AllReadyH.nil))
            · go_simp
              have H1026 := ydA H1025 zO
              have R1026 := yrO v1025 (v1025.heap.size) (by simp)
              have QT11026 := ylA QT1025 zO
              have QT21026 := ylA T1025 zO
              clear hHeld
              refine hK.out _ _ trivial (fun hHeld => ?_)
              clear hK K
              try simp only [Act.put, List.setIfInBounds_toArray, List.set_cons_zero, List.set_cons_succ]
              refine wpAnyH_take (i := 2) (oi := oU2) (v := ?v1010) rfl (by kernel_rfl) (by kernel_rfl) (by kernel_rfl) (fun _ _ _ h => h) (Or.inl ⟨by rfl, ?h1010⟩) hHeld ?r1010
              case h1010 => (intro w hSw; (try dsimp only at hSw); go_simp; try with_reducible rfl)
              try simp only [Act.put, List.setIfInBounds_toArray, List.set_cons_zero, List.set_cons_succ]
              have c3 := R1026.out k hk1
              refine wpAnyH_ready (rs := [3, 12]) (by kernel_rfl) (by simp) ?_
              refine (AllReadyH.cons (o := oU3) rfl (fun K hK => ?_) (AllReadyH.cons (o := oU12) rfl (fun K hK => ?_) AllReadyH.nil))
              · go_simp
                clear hHeld
                refine hK.out _ _ trivial (fun hHeld => ?_)
                clear hK K
                try simp only [Act.put, List.setIfInBounds_toArray, List.set_cons_zero, List.set_cons_succ]
                refine wpAnyH_ready (rs := [12]) (by kernel_rfl) (by simp) ?_
                refine (AllReadyH.cons (o := oU12) rfl (fun K hK => ?_) AllReadyH.nil)
                go_simp
                have H1028 := ydA H1026 (zR t1 t2 (.slice xa1 xm1 xc1) (.slice xa2 xm2 xc2))
                have T1028 := ylT QT11026 QT21026 H1026 (v1025.heap.size + 1) (by simp) (pick_opL k)
                have QA1028 := yrA R1026 (zR t1 t2 (.slice xa1 xm1 xc1) (.slice xa2 xm2 xc2))
                clear hHeld
                refine hK.out _ _ trivial (fun hHeld => ?_)
                clear hK K
                try simp only [Act.put, List.setIfInBounds_toArray, List.set_cons_zero, List.set_cons_succ]
                refine wpAnyH_ready (rs := [13]) (by kernel_rfl) (by simp) ?_
                refine (AllReadyH.cons (o := oU13) rfl (fun K hK => ?_) AllReadyH.nil)
                go_simp
                refine Calls.mono (nodeD_any (pickOf opL k) (some ⟨v1025.heap.size + 1, 0, none⟩) 2 2 _) ?_
                rintro e w9 ⟨rfl, hb9⟩
                dsimp only
                have H9 := ydB H1028 hb9
                have L9 := ylB T1028 hb9
                obtain ⟨Z0, Z1, Z2, Z3⟩ := H9.out.box.cells
                have y0 := H9.out.box.frozen 0
                have y1 := H9.out.box.frozen 1
                have y2 := H9.out.box.frozen 2
                have y3 := H9.out.box.frozen 3
                clear hHeld
                refine hK.out _ _ trivial (fun hHeld => ?_)
                clear hK K
                try simp only [Act.put, List.setIfInBounds_toArray, List.set_cons_zero, List.set_cons_succ]
                refine wpAnyH_ready (rs := [14]) (by kernel_rfl) (by simp) ?_
                refine (AllReadyH.cons (o := oU14) rfl (fun K hK => ?_) AllReadyH.nil)
                go_simp
                clear hHeld
                refine hK.out _ _ trivial (fun hHeld => ?_)
                clear hK K
                try simp only [Act.put, List.setIfInBounds_toArray, List.set_cons_zero, List.set_cons_succ]
                refine wpAnyH_done (by kernel_rfl) ?_ _
                (try refine NoPanic.normal ?_)
                go_wp2_with fail
                refine bodyPost_ret (v := .agg #[.string (pickOf opL k), .string ByteArray.empty, .bool false, .slice (some ⟨v1025.heap.size + 1, 0, none⟩) 2 2]) (by simp [results, Try.results16, go_sem, Z0, Z1, Z2, Z3]) rfl ?_
                exact HFN.out _ _ H9.out L9.out
              · go_simp
                have H1029 := ydA H1026 (zR t1 t2 (.slice xa1 xm1 xc1) (.slice xa2 xm2 xc2))
                have T1029 := ylT QT11026 QT21026 H1026 (v1025.heap.size + 1) (by simp) (pick_opL k)
                have QA1029 := yrA R1026 (zR t1 t2 (.slice xa1 xm1 xc1) (.slice xa2 xm2 xc2))
                clear hHeld
                refine hK.out _ _ trivial (fun hHeld => ?_)
                clear hK K
                try simp only [Act.put, List.setIfInBounds_toArray, List.set_cons_zero, List.set_cons_succ]
                have c3 := QA1029.out k hk1
                refine wpAnyH_ready (rs := [3]) (by kernel_rfl) (by simp) ?_
                refine (AllReadyH.cons (o := oU3) rfl (fun K hK => ?_) AllReadyH.nil)
                go_simp
                clear hHeld
                refine hK.out _ _ trivial (fun hHeld => ?_)
                clear hK K
                try simp only [Act.put, List.setIfInBounds_toArray, List.set_cons_zero, List.set_cons_succ]
                refine wpAnyH_ready (rs := [13]) (by kernel_rfl) (by simp) ?_
                refine (AllReadyH.cons (o := oU13) rfl (fun K hK => ?_) AllReadyH.nil)
                go_simp
                refine Calls.mono (nodeD_any (pickOf opL k) (some ⟨v1025.heap.size + 1, 0, none⟩) 2 2 _) ?_
                rintro e w9 ⟨rfl, hb9⟩
                dsimp only
                have H9 := ydB H1029 hb9
                have L9 := ylB T1029 hb9
                obtain ⟨Z0, Z1, Z2, Z3⟩ := H9.out.box.cells
                have y0 := H9.out.box.frozen 0
                have y1 := H9.out.box.frozen 1
                have y2 := H9.out.box.frozen 2
                have y3 := H9.out.box.frozen 3
                clear hHeld
                refine hK.out _ _ trivial (fun hHeld => ?_)
                clear hK K
                try simp only [Act.put, List.setIfInBounds_toArray, List.set_cons_zero, List.set_cons_succ]
                refine wpAnyH_ready (rs := [14]) (by kernel_rfl) (by simp) ?_
                refine (AllReadyH.cons (o := oU14) rfl (fun K hK => ?_) AllReadyH.nil)
                go_simp
                clear hHeld
                refine hK.out _ _ trivial (fun hHeld => ?_)
                clear hK K
                try simp only [Act.put, List.setIfInBounds_toArray, List.set_cons_zero, List.set_cons_succ]
                refine wpAnyH_done (by kernel_rfl) ?_ _
                (try refine NoPanic.normal ?_)
                go_wp2_with fail
                refine bodyPost_ret (v := .agg #[.string (pickOf opL k), .string ByteArray.empty, .bool false, .slice (some ⟨v1025.heap.size + 1, 0, none⟩) 2 2]) (by simp [results, Try.results16, go_sem, Z0, Z1, Z2, Z3]) rfl ?_
                exact HFN.out _ _ H9.out L9.out
            · go_simp
              have H1031 := ydA H1025 (zR t1 t2 (.slice xa1 xm1 xc1) (.slice xa2 xm2 xc2))
              have T1031 := ylT QT1025 T1025 H1025 (v1025.heap.size) (by simp) (pick_opL k)
              clear hHeld
              refine hK.out _ _ trivial (fun hHeld => ?_)
              clear hK K
              try simp only [Act.put, List.setIfInBounds_toArray, List.set_cons_zero, List.set_cons_succ]
              refine wpAnyH_ready (rs := [0]) (by kernel_rfl) (by simp) ?_
              refine (AllReadyH.cons (o := oU0) rfl (fun K hK => ?_) AllReadyH.nil)
              go_simp
              have H1032 := ydA H1031 zO
              have R1032 := yrO (v1025.alloc (zR t1 t2 (.slice xa1 xm1 xc1) (.slice xa2 xm2 xc2))) (v1025.heap.size + 1) (by simp)
              have QT81032 := ylA T1031 zO
              clear hHeld
              refine hK.out _ _ trivial (fun hHeld => ?_)
              clear hK K
              try simp only [Act.put, List.setIfInBounds_toArray, List.set_cons_zero, List.set_cons_succ]
              refine wpAnyH_take (i := 2) (oi := oU2) (v := ?v1011) rfl (by kernel_rfl) (by kernel_rfl) (by kernel_rfl) (fun _ _ _ h => h) (Or.inl ⟨by rfl, ?h1011⟩) hHeld ?r1011
              case h1011 => (intro w hSw; (try dsimp only at hSw); go_simp; try with_reducible rfl)
              try simp only [Act.put, List.setIfInBounds_toArray, List.set_cons_zero, List.set_cons_succ]
              have c3 := R1032.out k hk1
              refine wpAnyH_ready (rs := [3]) (by kernel_rfl) (by simp) ?_
              refine (AllReadyH.cons (o := oU3) rfl (fun K hK => ?_) AllReadyH.nil)
              go_simp
              clear hHeld
              refine hK.out _ _ trivial (fun hHeld => ?_)
              clear hK K
              try simp only [Act.put, List.setIfInBounds_toArray, List.set_cons_zero, List.set_cons_succ]
              refine wpAnyH_ready (rs := [13]) (by kernel_rfl) (by simp) ?_
              refine (AllReadyH.cons (o := oU13) rfl (fun K hK => ?_) AllReadyH.nil)
              go_simp
              refine Calls.mono (nodeD_any (pickOf opL k) (some ⟨v1025.heap.size, 0, none⟩) 2 2 _) ?_
              rintro e w9 ⟨rfl, hb9⟩
              dsimp only
              have H9 := ydB H1032 hb9
              have L9 := ylB QT81032 hb9
              obtain ⟨Z0, Z1, Z2, Z3⟩ := H9.out.box.cells
              have y0 := H9.out.box.frozen 0
              have y1 := H9.out.box.frozen 1
              have y2 := H9.out.box.frozen 2
              have y3 := H9.out.box.frozen 3
              clear hHeld
              refine hK.out _ _ trivial (fun hHeld => ?_)
              clear hK K
              try simp only [Act.put, List.setIfInBounds_toArray, List.set_cons_zero, List.set_cons_succ]
              refine wpAnyH_ready (rs := [14]) (by kernel_rfl) (by simp) ?_
              refine (AllReadyH.cons (o := oU14) rfl (fun K hK => ?_) AllReadyH.nil)
              go_simp
              clear hHeld
              refine hK.out _ _ trivial (fun hHeld => ?_)
              clear hK K
              try simp only [Act.put, List.setIfInBounds_toArray, List.set_cons_zero, List.set_cons_succ]
              refine wpAnyH_done (by kernel_rfl) ?_ _
              (try refine NoPanic.normal ?_)
              go_wp2_with fail
              refine bodyPost_ret (v := .agg #[.string (pickOf opL k), .string ByteArray.empty, .bool false, .slice (some ⟨v1025.heap.size, 0, none⟩) 2 2]) (by simp [results, Try.results16, go_sem, Z0, Z1, Z2, Z3]) rfl ?_
              exact HFN.out _ _ H9.out L9.out
theorem drawTerm {cs : List UInt8} {a : Option Addr} {cap b off c : Nat} (d : Nat) (hd : d ≤ 6) : TmC cs a cap b off c d := by
  induction d with
  | zero => exact term_step 0 (by omega) (fun d' h => by omega)
  | succ d ih =>
    refine term_step (d + 1) hd (fun d' h => ?_)
    have e : d = d' := by omega
    subst e
    exact ih (by omega)
end Go.Proofs.Ytbgoikaelmacbaa
