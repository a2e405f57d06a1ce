import Derived.Test.YtbgoikaelmacbaaYc
import Derived.Deep.RegionHeld3
import Derived.Deep.CutRange
/-! Drawn patterns: l11DrawPattern. -/
namespace Go.Proofs.Ytbgoikaelmacbaa
open Go.RowKit Go.Deep Go.Lib
set_option linter.unusedVariables false
set_option maxRecDepth 100000
set_option linter.unusedSimpArgs false

def pvL : List ByteArray := [⟨#[120]⟩, ⟨#[121]⟩, ⟨#[122]⟩]
def poL : List ByteArray := [⟨#[65, 100, 100]⟩, ⟨#[77, 117, 108]⟩, ⟨#[78, 101, 103]⟩]
abbrev zV : Obj := .cells #[.string ⟨#[120]⟩, .string ⟨#[121]⟩, .string ⟨#[122]⟩] 9
abbrev zP : Obj := .cells #[.string ⟨#[65, 100, 100]⟩, .string ⟨#[77, 117, 108]⟩, .string ⟨#[78, 101, 103]⟩] 9
/-- A variable of a drawn pattern. -/
def cVr (cs : List UInt8) (s : Nat × Nat) : Tr × (Nat × Nat) := (lf varN (pickOf pvL (cPick cs 3 s).1), (cPick cs 3 s).2)
def cPn (cs : List UInt8) (f : Nat × Nat → Tr × (Nat × Nat)) (m : Nat) (s : Nat × Nat) : Tr × (Nat × Nat) := (⟨pickOf poL (cPick cs 3 (cSt f m s)).1, ByteArray.empty, false, cKids f m s⟩, (cPick cs 3 (cSt f m s)).2)
/-- What l11DrawPattern draws. -/
def cPat (cs : List UInt8) : Nat → Nat × Nat → Tr × (Nat × Nat)
  | 0, s => if (cPick cs 3 s).1 = 0 then cVr cs (cPick cs 3 s).2 else cLf cs (cPick cs 3 s).2
  | d + 1, s => if (cPick cs 3 s).1 = 0 then cVr cs (cPick cs 3 s).2 else cPn cs (cPat cs d) (cPick cs 3 (cPick cs 3 s).2).1 (cPick cs 3 (cPick cs 3 s).2).2
theorem pick_pvL (i : Nat) : (pickOf pvL i).size ≤ maxLen := Nat.le_trans (pickOf_size (m := 24) (by decide) i) (by unfold maxLen; omega)
theorem pick_poL (i : Nat) : (pickOf poL i).size ≤ maxLen := Nat.le_trans (pickOf_size (m := 24) (by decide) i) (by unfold maxLen; omega)
theorem cPat_nm (cs : List UInt8) (d : Nat) (s : Nat × Nat) : (cPat cs d s).1.name.size ≤ maxLen ∧ (cPat cs d s).1.text.size ≤ maxLen := by
  cases d with
  | zero =>
    unfold cPat
    split
    · exact ⟨by show varN.size ≤ maxLen; unfold maxLen; decide, pick_pvL _⟩
    · exact ⟨pick_lfN _, pick_lfT _⟩
  | succ d =>
    unfold cPat
    split
    · exact ⟨by show varN.size ≤ maxLen; unfold maxLen; decide, pick_pvL _⟩
    · exact ⟨pick_poL _, Nat.zero_le _⟩
theorem drew_leaf {cs : List UInt8} {a : Option Addr} {cap b off c : Nat} {w w9 : World} {s : Nat × Nat} {n x : ByteArray} {u0 u1 u2 u3 : Value} (hlt : c < w.heap.size) (h : Ds cs a cap b off c w w9 s) : Drew cs a cap b off c (lf n x, s) w (.returned (.agg #[.string n, .string x, .bool true, .slice none 0 0])) (put4 w9 w.heap.size u0 u1 u2 u3) :=
  ⟨none, 0, 0, rfl, (((h.out.put (Nat.le_refl _)).put (Nat.le_refl _)).put (Nat.le_refl _)).put (Nat.le_refl _), (((Cur.set h.cur hlt).set hlt).set hlt).set hlt, Grw.nil _ _ _⟩
/-- A drawn pattern of this depth is drawn as is told. -/
def PaC (cs : List UInt8) (a : Option Addr) (cap b off c d : Nat) : Prop := ∀ (s : Nat × Nat) (w : World), Cur w cs a cap b off c s → Calls Try.prog 37 #[.pointer (some ⟨c, 0, none⟩), .int .i64 (d : Nat)] w fun e w' => Drew cs a cap b off c (cPat cs d s) w e w'
abbrev oP0 : Oper := { dst := some 18, op := Go.Op.buildSlice 74 2 #[(0, Go.Operand.const (Go.Value.string { data := #[78, 117, 109] })), (1, Go.Operand.const (Go.Value.string { data := #[73, 100] }))], type := 74, pos := "l11_rewriting.go:405", after := #[], guard := none }
abbrev oP1 : Oper := { dst := some 19, op := Go.Op.move (Go.Operand.tmp 0), type := 41, pos := "l11_rewriting.go:405", after := #[], guard := none }
abbrev oP2 : Oper := { dst := some 20, op := Go.Op.call { callee := Go.Callee.value (Go.Operand.func 17), args := #[Go.Operand.tmp 19, Go.Operand.const (Go.Value.int Go.IntKind.i64 2)], argTypes := #[41, 3] }, type := 3, pos := "l11_rewriting.go:405", after := #[{ on := 1, ground := Go.Ground.data }], guard := none }
abbrev oP3 : Oper := { dst := some 21, op := Go.Op.indexAddr 74 (Go.Operand.tmp 18) (Go.Operand.tmp 20), type := 0, pos := "l11_rewriting.go:405", after := #[{ on := 0, ground := Go.Ground.data }, { on := 2, ground := Go.Ground.data }], guard := none }
abbrev oP4 : Oper := { dst := some 22, op := Go.Op.load 9 (Go.Operand.tmp 21), type := 9, pos := "l11_rewriting.go:405", after := #[{ on := 3, ground := Go.Ground.data }], guard := none }
abbrev oP5 : Oper := { dst := some 23, op := Go.Op.buildSlice 74 3 #[(0, Go.Operand.const (Go.Value.string { data := #[48] })), (1, Go.Operand.const (Go.Value.string { data := #[49] })), (2, Go.Operand.const (Go.Value.string { data := #[97] }))], type := 74, pos := "l11_rewriting.go:405", after := #[], guard := none }
abbrev oP6 : Oper := { dst := some 24, op := Go.Op.move (Go.Operand.tmp 0), type := 41, pos := "l11_rewriting.go:405", after := #[], guard := none }
abbrev oP7 : Oper := { dst := some 25, op := Go.Op.call { callee := Go.Callee.value (Go.Operand.func 17), args := #[Go.Operand.tmp 24, Go.Operand.const (Go.Value.int Go.IntKind.i64 3)], argTypes := #[41, 3] }, type := 3, pos := "l11_rewriting.go:405", after := #[{ on := 6, ground := Go.Ground.data }, { on := 2, ground := Go.Ground.chain }], guard := none }
abbrev oP8 : Oper := { dst := some 26, op := Go.Op.indexAddr 74 (Go.Operand.tmp 23) (Go.Operand.tmp 25), type := 0, pos := "l11_rewriting.go:405", after := #[{ on := 5, ground := Go.Ground.data }, { on := 7, ground := Go.Ground.data }], guard := none }
abbrev oP9 : Oper := { dst := some 27, op := Go.Op.load 9 (Go.Operand.tmp 26), type := 9, pos := "l11_rewriting.go:405", after := #[{ on := 8, ground := Go.Ground.data }], guard := none }
abbrev oP10 : Oper := { dst := some 28, op := Go.Op.call { callee := Go.Callee.value (Go.Operand.func 39), args := #[Go.Operand.tmp 22, Go.Operand.tmp 27], argTypes := #[9, 9] }, type := 26, pos := "l11_rewriting.go:405", after := #[{ on := 4, ground := Go.Ground.data }, { on := 9, ground := Go.Ground.data }, { on := 7, ground := Go.Ground.chain }], guard := none }
abbrev oP11 : Oper := { dst := none, op := Go.Op.store 26 (Go.Operand.tmp 4) (Go.Operand.tmp 28), type := 0, pos := "l11_rewriting.go:405", after := #[{ on := 10, ground := Go.Ground.data }, { on := 10, ground := Go.Ground.chain }, { on := 0, ground := Go.Ground.phase }, { on := 1, ground := Go.Ground.phase }, { on := 2, ground := Go.Ground.phase }, { on := 3, ground := Go.Ground.phase }, { on := 4, ground := Go.Ground.phase }, { on := 5, ground := Go.Ground.phase }, { on := 6, ground := Go.Ground.phase }, { on := 7, ground := Go.Ground.phase }, { on := 8, ground := Go.Ground.phase }, { on := 9, ground := Go.Ground.phase }, { on := 10, ground := Go.Ground.phase }], guard := none }
set_option maxHeartbeats 25600000 in
theorem pat_step {cs : List UInt8} {a : Option Addr} {cap b off c : Nat} (d : Nat) (hd4 : d ≤ 6) (ih : ∀ d', d = d' + 1 → PaC cs a cap b off c d') : PaC cs a cap b off c d := by
  intro s w hc
  have hlt := hc.lt
  have H0 := (show Hid (Ds cs a cap b off c w (w.alloc zZ) s) from Ds.new hc)
  have HP := (show Hid (∀ (n : Nat) (W : World) (s : Nat × Nat), Cur W cs a cap b off c s → n ≤ 1048576 → Calls Try.prog 17 #[.pointer (some ⟨c, 0, none⟩), .int .i64 n] W fun e w' => e = .returned (.int .i64 (cPick cs n s).1) ∧ Out c (c + 1) W w' ∧ w'.heap.size = W.heap.size ∧ Cur w' cs a cap b off c (cPick cs n s).2) from fun n W s h hn => pick_any n W h hn)
  have HIH := (show Hid (∀ d', d = d' + 1 → PaC cs a cap b off c d') from ih)
  have HC := (show Hid _ from HP.out 3 _ s H0.out.cur (by decide))
  clear hc ih
  by_cases hk : (cPick cs 3 s).1 = 0
  · have HEQ := (show Hid (cPat cs d s = cVr cs (cPick cs 3 s).2) from (by
      show cPat cs d s = cVr cs (cPick cs 3 s).2
      cases d <;> rw [cPat, if_pos hk]))
    have hn := cPick_lt cs 3 (cPick cs 3 s).2 (by decide)
    have HP1 := (show Hid _ from fun (W : World) (h : Cur W cs a cap b off c (cPick cs 3 s).2) => HP.out 3 W _ h (by decide))
    have HCV := (show Hid (∀ s, cVr cs s = (lf varN (pickOf pvL (cPick cs 3 s).1), (cPick cs 3 s).2)) from fun _ => rfl)
    generalize cPick cs 3 s = q at *
    obtain ⟨q, s1⟩ := q
    dsimp only at *
    subst hk
    have HCV1 := (show Hid _ from HCV.out s1)
    clear HCV HP HIH
    generalize cPick cs 3 s1 = q2 at *
    obtain ⟨n, s2⟩ := q2
    dsimp only at *
    have hn0 : (0 : Int) ≤ (n : Int) := by omega
    have hn1 : (n : Int) < 3 := by omega
    go_enter Try.func37, Try.ntmps37
    go_wp2_with fail
    refine Calls.mono HC.out ?_
    rintro e w1 ⟨rfl, ho1, hz1, hc1⟩
    have H1 := ydP H0 hlt ho1 hc1
    have hg1 : w.heap.size < w1.heap.size := H1.out.box.lt
    have H2 := ydA H1 zV
    have R2 := (show Hid (RowS (w1.alloc zV) w1.heap.size pvL) from rowS_new w1 pvL 9 _ _ rfl rfl)
    clear ho1 hz1 hc1 HC H0 H1
    go_wp2_with fail
    refine Calls.mono (HP1.out _ H2.out.cur) ?_
    rintro e w3 ⟨rfl, ho3, hz3, hc3⟩
    have H3 := ydP H2 hlt ho3 hc3
    have c3 := (yrP R2 ho3 (by omega)).out n hn
    clear ho3 hz3 hc3 H2 R2 HP1
    go_wp2_with fail
    refine Calls.mono (leafD_any varN (pickOf pvL n) _) ?_
    rintro e w9 ⟨rfl, hb9⟩
    have H9 := ydB H3 hb9
    obtain ⟨Z0, Z1, Z2, Z3⟩ := H9.out.box.cells
    have y0 := H9.out.box.frozen 0
    have y1 := H9.out.box.frozen 1
    have y2 := H9.out.box.frozen 2
    have y3 := H9.out.box.frozen 3
    clear hb9 H3
    go_wp2_with fail
    refine bodyPost_ret (v := .agg #[.string varN, .string (pickOf pvL n), .bool true, .slice none 0 0]) (by simp [results, Try.results37, go_sem, Z0, Z1, Z2, Z3]) rfl ?_
    rw [HEQ.out, HCV1.out]
    exact drew_leaf hlt H9.out
  have hkb : (((cPick cs 3 s).1 : Int) == 0) = false := by simp; omega
  cases d with
  | zero =>
    have HEQ := (show Hid (cPat cs 0 s = cLf cs (cPick cs 3 s).2) from (by
      show cPat cs 0 s = _
      rw [cPat, if_neg hk]))
    clear HIH
    generalize cPick cs 3 s = q at *
    obtain ⟨q, s1⟩ := q
    dsimp only at *
    have HP1 := (show Hid _ from fun (W : World) (h : Cur W cs a cap b off c s1) => HP.out 2 W s1 h (by decide))
    have HP2 := (show Hid _ from fun (W : World) (h : Cur W cs a cap b off c (cPick cs 2 s1).2) => HP.out 3 W _ h (by decide))
    have hn1 := cPick_lt cs 2 s1 (by decide)
    have hn2 := cPick_lt cs 3 (cPick cs 2 s1).2 (by decide)
    have HFL := (show Hid (∀ w9 : World, Ds cs a cap b off c w w9 (cPick cs 3 (cPick cs 2 s1).2).2 → Drew cs a cap b off c (cPat cs 0 s) w (.returned (.agg #[.string (pickOf lfN (cPick cs 2 s1).1), .string (pickOf lfT (cPick cs 3 (cPick cs 2 s1).2).1), .bool true, .slice none 0 0])) (put4 w9 w.heap.size (.string (pickOf lfN (cPick cs 2 s1).1)) (.string (pickOf lfT (cPick cs 3 (cPick cs 2 s1).2).1)) (.bool true) (.slice none 0 0))) from fun w9 h => by
      rw [HEQ.out]
      exact drew_leaf hlt h)
    clear HP HEQ
    generalize cPick cs 2 s1 = q1 at *
    obtain ⟨n1, s2⟩ := q1
    dsimp only at *
    generalize cPick cs 3 s2 = q2 at *
    obtain ⟨n2, s3⟩ := q2
    dsimp only at *
    have hn1' : (n1 : Int) < 2 := by omega
    have hn2' : (n2 : Int) < 3 := by omega
    have hz1 : (0 : Int) ≤ (n1 : Int) := by omega
    have hz2 : (0 : Int) ≤ (n2 : Int) := by omega
    go_enter Try.func37, Try.ntmps37
    go_wp2_with fail
    refine Calls.mono HC.out ?_
    rintro e wx ⟨rfl, hox, hzx, hcx⟩
    have H1 := ydP H0 hlt hox hcx
    have hgx : w.heap.size < wx.heap.size := H1.out.box.lt
    clear hox hzx hcx HC H0
    have H0 := (show Hid (Ds cs a cap b off c w wx.drew s1) from Ds.drew H1.out)
    clear H1
    go_wp2_with fail
    refine wp_region_held_drew (S := fun _ => True) (by kernel_rfl) trivial (fun hHeld => ?_)
    refine wpAnyH_take (i := 1) (oi := oP1) (v := ?v1) rfl (by kernel_rfl) (by kernel_rfl) (by kernel_rfl) (fun _ _ _ h => h) (Or.inl ⟨by rfl, ?h1⟩) hHeld ?r1
    case h1 => (intro w hSw; (try dsimp only at hSw); go_simp; try with_reducible rfl)
    try simp only [Act.put, List.setIfInBounds_toArray, List.set_cons_zero, List.set_cons_succ]
    refine wpAnyH_take (i := 6) (oi := oP6) (v := ?v2) rfl (by kernel_rfl) (by kernel_rfl) (by kernel_rfl) (fun _ _ _ h => h) (Or.inl ⟨by rfl, ?h2⟩) hHeld ?r2
    case h2 => (intro w hSw; (try dsimp only at hSw); go_simp; try with_reducible rfl)
    try simp only [Act.put, List.setIfInBounds_toArray, List.set_cons_zero, List.set_cons_succ]
    refine wpAnyH_ready (rs := [0, 2, 5]) (by kernel_rfl) (by simp) ?_
    refine (AllReadyH.cons (o := oP0) rfl (fun K hK => ?yc5) (AllReadyH.cons (o := oP2) rfl (fun K hK => ?yc4) (AllReadyH.cons (o := oP5) rfl (fun K hK => ?yc3) AllReadyH.nil)))
    case' yc5 =>
     go_simp
     have H1 := ydA H0 zN
     have R1 := yrN wx.drew (wx.heap.size) (by simp)
     clear hHeld
     refine hK.out _ _ trivial (fun hHeld => ?_)
     clear hK K
     try simp only [Act.put, List.setIfInBounds_toArray, List.set_cons_zero, List.set_cons_succ]
     refine wpAnyH_ready (rs := [2, 5]) (by kernel_rfl) (by simp) ?_
     refine (AllReadyH.cons (o := oP2) rfl (fun K hK => ?yc7) (AllReadyH.cons (o := oP5) rfl (fun K hK => ?yc6) AllReadyH.nil))
     case' yc7 =>
      go_simp
      refine Calls.mono (HP1.out _ H1.out.cur) ?_
      rintro e v2 ⟨rfl, ho2, hz2, hc2⟩
      dsimp only
      have H2 := ydP H1 hlt ho2 hc2
      have QA2 := yrP R1 ho2 (by omega)
      have hg2 : w.heap.size < v2.heap.size := H2.out.box.lt
      clear ho2 hc2 hz2
      clear hHeld
      refine hK.out _ _ trivial (fun hHeld => ?_)
      clear hK K
      try simp only [Act.put, List.setIfInBounds_toArray, List.set_cons_zero, List.set_cons_succ]
      refine wpAnyH_take (i := 3) (oi := oP3) (v := ?v8) rfl (by kernel_rfl) (by kernel_rfl) (by kernel_rfl) (fun _ _ _ h => h) (Or.inl ⟨by rfl, ?h8⟩) hHeld ?r8
      case h8 => (intro w hSw; (try dsimp only at hSw); go_simp; try with_reducible rfl)
      try simp only [Act.put, List.setIfInBounds_toArray, List.set_cons_zero, List.set_cons_succ]
      have c4 := QA2.out n1 hn1
      refine wpAnyH_ready (rs := [4, 5, 7]) (by kernel_rfl) (by simp) ?_
      refine (AllReadyH.cons (o := oP4) rfl (fun K hK => ?yc11) (AllReadyH.cons (o := oP5) rfl (fun K hK => ?yc10) (AllReadyH.cons (o := oP7) rfl (fun K hK => ?yc9) AllReadyH.nil)))
      case' yc11 =>
       go_simp
       clear hHeld
       refine hK.out _ _ trivial (fun hHeld => ?_)
       clear hK K
       try simp only [Act.put, List.setIfInBounds_toArray, List.set_cons_zero, List.set_cons_succ]
       refine wpAnyH_ready (rs := [5, 7]) (by kernel_rfl) (by simp) ?_
       refine (AllReadyH.cons (o := oP5) rfl (fun K hK => ?yc13) (AllReadyH.cons (o := oP7) rfl (fun K hK => ?yc12) AllReadyH.nil))
       case' yc13 =>
        go_simp
        have H4 := ydA H2 zT
        have R4 := yrT v2 (v2.heap.size) (by simp)
        have QA4 := yrA QA2 zT
        clear hHeld
        refine hK.out _ _ trivial (fun hHeld => ?_)
        clear hK K
        try simp only [Act.put, List.setIfInBounds_toArray, List.set_cons_zero, List.set_cons_succ]
        refine wpAnyH_ready (rs := [7]) (by kernel_rfl) (by simp) ?_
        refine (AllReadyH.cons (o := oP7) rfl (fun K hK => ?_) AllReadyH.nil)
        go_simp
        refine Calls.mono (HP2.out _ H4.out.cur) ?_
        rintro e v5 ⟨rfl, ho5, hz5, hc5⟩
        dsimp only
        have H5 := ydP H4 hlt ho5 hc5
        have QA5 := yrP QA4 ho5 (by omega)
        have QB5 := yrP R4 ho5 (by omega)
        have hg5 : w.heap.size < v5.heap.size := H5.out.box.lt
        clear ho5 hc5 hz5
        clear hHeld
        refine hK.out _ _ trivial (fun hHeld => ?_)
        clear hK K
        try simp only [Act.put, List.setIfInBounds_toArray, List.set_cons_zero, List.set_cons_succ]
        refine wpAnyH_take (i := 8) (oi := oP8) (v := ?v14) rfl (by kernel_rfl) (by kernel_rfl) (by kernel_rfl) (fun _ _ _ h => h) (Or.inl ⟨by rfl, ?h14⟩) hHeld ?r14
        case h14 => (intro w hSw; (try dsimp only at hSw); go_simp; try with_reducible rfl)
        try simp only [Act.put, List.setIfInBounds_toArray, List.set_cons_zero, List.set_cons_succ]
        have c9 := QB5.out n2 hn2
        refine wpAnyH_ready (rs := [9]) (by kernel_rfl) (by simp) ?_
        refine (AllReadyH.cons (o := oP9) rfl (fun K hK => ?_) AllReadyH.nil)
        go_simp
        clear hHeld
        refine hK.out _ _ trivial (fun hHeld => ?_)
        clear hK K
        try simp only [Act.put, List.setIfInBounds_toArray, List.set_cons_zero, List.set_cons_succ]
        have HLF := H5
       case' yc12 =>
        go_simp
        refine Calls.mono (HP2.out _ H2.out.cur) ?_
        rintro e v7 ⟨rfl, ho7, hz7, hc7⟩
        dsimp only
        have H7 := ydP H2 hlt ho7 hc7
        have QA7 := yrP QA2 ho7 (by omega)
        have hg7 : w.heap.size < v7.heap.size := H7.out.box.lt
        clear ho7 hc7 hz7
        clear hHeld
        refine hK.out _ _ trivial (fun hHeld => ?_)
        clear hK K
        try simp only [Act.put, List.setIfInBounds_toArray, List.set_cons_zero, List.set_cons_succ]
        refine wpAnyH_ready (rs := [5]) (by kernel_rfl) (by simp) ?_
        refine (AllReadyH.cons (o := oP5) rfl (fun K hK => ?_) AllReadyH.nil)
        go_simp
        have H8 := ydA H7 zT
        have R8 := yrT v7 (v7.heap.size) (by simp)
        have QA8 := yrA QA7 zT
        clear hHeld
        refine hK.out _ _ trivial (fun hHeld => ?_)
        clear hK K
        try simp only [Act.put, List.setIfInBounds_toArray, List.set_cons_zero, List.set_cons_succ]
        refine wpAnyH_take (i := 8) (oi := oP8) (v := ?v15) rfl (by kernel_rfl) (by kernel_rfl) (by kernel_rfl) (fun _ _ _ h => h) (Or.inl ⟨by rfl, ?h15⟩) hHeld ?r15
        case h15 => (intro w hSw; (try dsimp only at hSw); go_simp; try with_reducible rfl)
        try simp only [Act.put, List.setIfInBounds_toArray, List.set_cons_zero, List.set_cons_succ]
        have c9 := R8.out n2 hn2
        refine wpAnyH_ready (rs := [9]) (by kernel_rfl) (by simp) ?_
        refine (AllReadyH.cons (o := oP9) rfl (fun K hK => ?_) AllReadyH.nil)
        go_simp
        clear hHeld
        refine hK.out _ _ trivial (fun hHeld => ?_)
        clear hK K
        try simp only [Act.put, List.setIfInBounds_toArray, List.set_cons_zero, List.set_cons_succ]
        have HLF := H8
      case' yc10 =>
       go_simp
       have H10 := ydA H2 zT
       have R10 := yrT v2 (v2.heap.size) (by simp)
       have QA10 := yrA QA2 zT
       clear hHeld
       refine hK.out _ _ trivial (fun hHeld => ?_)
       clear hK K
       try simp only [Act.put, List.setIfInBounds_toArray, List.set_cons_zero, List.set_cons_succ]
       have c4 := QA10.out n1 hn1
       refine wpAnyH_ready (rs := [4, 7]) (by kernel_rfl) (by simp) ?_
       refine (AllReadyH.cons (o := oP4) rfl (fun K hK => ?yc17) (AllReadyH.cons (o := oP7) rfl (fun K hK => ?yc16) AllReadyH.nil))
       case' yc17 =>
        go_simp
        clear hHeld
        refine hK.out _ _ trivial (fun hHeld => ?_)
        clear hK K
        try simp only [Act.put, List.setIfInBounds_toArray, List.set_cons_zero, List.set_cons_succ]
        refine wpAnyH_ready (rs := [7]) (by kernel_rfl) (by simp) ?_
        refine (AllReadyH.cons (o := oP7) rfl (fun K hK => ?_) AllReadyH.nil)
        go_simp
        refine Calls.mono (HP2.out _ H10.out.cur) ?_
        rintro e v12 ⟨rfl, ho12, hz12, hc12⟩
        dsimp only
        have H12 := ydP H10 hlt ho12 hc12
        have QA12 := yrP QA10 ho12 (by omega)
        have QB12 := yrP R10 ho12 (by omega)
        have hg12 : w.heap.size < v12.heap.size := H12.out.box.lt
        clear ho12 hc12 hz12
        clear hHeld
        refine hK.out _ _ trivial (fun hHeld => ?_)
        clear hK K
        try simp only [Act.put, List.setIfInBounds_toArray, List.set_cons_zero, List.set_cons_succ]
        refine wpAnyH_take (i := 8) (oi := oP8) (v := ?v18) rfl (by kernel_rfl) (by kernel_rfl) (by kernel_rfl) (fun _ _ _ h => h) (Or.inl ⟨by rfl, ?h18⟩) hHeld ?r18
        case h18 => (intro w hSw; (try dsimp only at hSw); go_simp; try with_reducible rfl)
        try simp only [Act.put, List.setIfInBounds_toArray, List.set_cons_zero, List.set_cons_succ]
        have c9 := QB12.out n2 hn2
        refine wpAnyH_ready (rs := [9]) (by kernel_rfl) (by simp) ?_
        refine (AllReadyH.cons (o := oP9) rfl (fun K hK => ?_) AllReadyH.nil)
        go_simp
        clear hHeld
        refine hK.out _ _ trivial (fun hHeld => ?_)
        clear hK K
        try simp only [Act.put, List.setIfInBounds_toArray, List.set_cons_zero, List.set_cons_succ]
        have HLF := H12
       case' yc16 =>
        go_simp
        refine Calls.mono (HP2.out _ H10.out.cur) ?_
        rintro e v14 ⟨rfl, ho14, hz14, hc14⟩
        dsimp only
        have H14 := ydP H10 hlt ho14 hc14
        have QA14 := yrP QA10 ho14 (by omega)
        have QB14 := yrP R10 ho14 (by omega)
        have hg14 : w.heap.size < v14.heap.size := H14.out.box.lt
        clear ho14 hc14 hz14
        clear hHeld
        refine hK.out _ _ trivial (fun hHeld => ?_)
        clear hK K
        try simp only [Act.put, List.setIfInBounds_toArray, List.set_cons_zero, List.set_cons_succ]
        refine wpAnyH_take (i := 8) (oi := oP8) (v := ?v19) rfl (by kernel_rfl) (by kernel_rfl) (by kernel_rfl) (fun _ _ _ h => h) (Or.inl ⟨by rfl, ?h19⟩) hHeld ?r19
        case h19 => (intro w hSw; (try dsimp only at hSw); go_simp; try with_reducible rfl)
        try simp only [Act.put, List.setIfInBounds_toArray, List.set_cons_zero, List.set_cons_succ]
        have c4 := QA14.out n1 hn1
        have c9 := QB14.out n2 hn2
        refine wpAnyH_ready (rs := [4, 9]) (by kernel_rfl) (by simp) ?_
        refine (AllReadyH.cons (o := oP4) rfl (fun K hK => ?yc21) (AllReadyH.cons (o := oP9) rfl (fun K hK => ?yc20) AllReadyH.nil))
        case' yc21 =>
         go_simp
         clear hHeld
         refine hK.out _ _ trivial (fun hHeld => ?_)
         clear hK K
         try simp only [Act.put, List.setIfInBounds_toArray, List.set_cons_zero, List.set_cons_succ]
         have c9 := QB14.out n2 hn2
         refine wpAnyH_ready (rs := [9]) (by kernel_rfl) (by simp) ?_
         refine (AllReadyH.cons (o := oP9) rfl (fun K hK => ?_) AllReadyH.nil)
         go_simp
         clear hHeld
         refine hK.out _ _ trivial (fun hHeld => ?_)
         clear hK K
         try simp only [Act.put, List.setIfInBounds_toArray, List.set_cons_zero, List.set_cons_succ]
         have HLF := H14
        case' yc20 =>
         go_simp
         clear hHeld
         refine hK.out _ _ trivial (fun hHeld => ?_)
         clear hK K
         try simp only [Act.put, List.setIfInBounds_toArray, List.set_cons_zero, List.set_cons_succ]
         have c4 := QA14.out n1 hn1
         refine wpAnyH_ready (rs := [4]) (by kernel_rfl) (by simp) ?_
         refine (AllReadyH.cons (o := oP4) rfl (fun K hK => ?_) AllReadyH.nil)
         go_simp
         clear hHeld
         refine hK.out _ _ trivial (fun hHeld => ?_)
         clear hK K
         try simp only [Act.put, List.setIfInBounds_toArray, List.set_cons_zero, List.set_cons_succ]
         have HLF := H14
      case' yc9 =>
       go_simp
       refine Calls.mono (HP2.out _ H2.out.cur) ?_
       rintro e v19 ⟨rfl, ho19, hz19, hc19⟩
       dsimp only
       have H19 := ydP H2 hlt ho19 hc19
       have QA19 := yrP QA2 ho19 (by omega)
       have hg19 : w.heap.size < v19.heap.size := H19.out.box.lt
       clear ho19 hc19 hz19
       clear hHeld
       refine hK.out _ _ trivial (fun hHeld => ?_)
       clear hK K
       try simp only [Act.put, List.setIfInBounds_toArray, List.set_cons_zero, List.set_cons_succ]
       have c4 := QA19.out n1 hn1
       refine wpAnyH_ready (rs := [4, 5]) (by kernel_rfl) (by simp) ?_
       refine (AllReadyH.cons (o := oP4) rfl (fun K hK => ?yc23) (AllReadyH.cons (o := oP5) rfl (fun K hK => ?yc22) AllReadyH.nil))
       case' yc23 =>
        go_simp
        clear hHeld
        refine hK.out _ _ trivial (fun hHeld => ?_)
        clear hK K
        try simp only [Act.put, List.setIfInBounds_toArray, List.set_cons_zero, List.set_cons_succ]
        refine wpAnyH_ready (rs := [5]) (by kernel_rfl) (by simp) ?_
        refine (AllReadyH.cons (o := oP5) rfl (fun K hK => ?_) AllReadyH.nil)
        go_simp
        have H21 := ydA H19 zT
        have R21 := yrT v19 (v19.heap.size) (by simp)
        have QA21 := yrA QA19 zT
        clear hHeld
        refine hK.out _ _ trivial (fun hHeld => ?_)
        clear hK K
        try simp only [Act.put, List.setIfInBounds_toArray, List.set_cons_zero, List.set_cons_succ]
        refine wpAnyH_take (i := 8) (oi := oP8) (v := ?v24) rfl (by kernel_rfl) (by kernel_rfl) (by kernel_rfl) (fun _ _ _ h => h) (Or.inl ⟨by rfl, ?h24⟩) hHeld ?r24
        case h24 => (intro w hSw; (try dsimp only at hSw); go_simp; try with_reducible rfl)
        try simp only [Act.put, List.setIfInBounds_toArray, List.set_cons_zero, List.set_cons_succ]
        have c9 := R21.out n2 hn2
        refine wpAnyH_ready (rs := [9]) (by kernel_rfl) (by simp) ?_
        refine (AllReadyH.cons (o := oP9) rfl (fun K hK => ?_) AllReadyH.nil)
        go_simp
        clear hHeld
        refine hK.out _ _ trivial (fun hHeld => ?_)
        clear hK K
        try simp only [Act.put, List.setIfInBounds_toArray, List.set_cons_zero, List.set_cons_succ]
        have HLF := H21
       case' yc22 =>
        go_simp
        have H23 := ydA H19 zT
        have R23 := yrT v19 (v19.heap.size) (by simp)
        have QA23 := yrA QA19 zT
        clear hHeld
        refine hK.out _ _ trivial (fun hHeld => ?_)
        clear hK K
        try simp only [Act.put, List.setIfInBounds_toArray, List.set_cons_zero, List.set_cons_succ]
        refine wpAnyH_take (i := 8) (oi := oP8) (v := ?v25) rfl (by kernel_rfl) (by kernel_rfl) (by kernel_rfl) (fun _ _ _ h => h) (Or.inl ⟨by rfl, ?h25⟩) hHeld ?r25
        case h25 => (intro w hSw; (try dsimp only at hSw); go_simp; try with_reducible rfl)
        try simp only [Act.put, List.setIfInBounds_toArray, List.set_cons_zero, List.set_cons_succ]
        have c4 := QA23.out n1 hn1
        have c9 := R23.out n2 hn2
        refine wpAnyH_ready (rs := [4, 9]) (by kernel_rfl) (by simp) ?_
        refine (AllReadyH.cons (o := oP4) rfl (fun K hK => ?yc27) (AllReadyH.cons (o := oP9) rfl (fun K hK => ?yc26) AllReadyH.nil))
        case' yc27 =>
         go_simp
         clear hHeld
         refine hK.out _ _ trivial (fun hHeld => ?_)
         clear hK K
         try simp only [Act.put, List.setIfInBounds_toArray, List.set_cons_zero, List.set_cons_succ]
         have c9 := R23.out n2 hn2
         refine wpAnyH_ready (rs := [9]) (by kernel_rfl) (by simp) ?_
         refine (AllReadyH.cons (o := oP9) rfl (fun K hK => ?_) AllReadyH.nil)
         go_simp
         clear hHeld
         refine hK.out _ _ trivial (fun hHeld => ?_)
         clear hK K
         try simp only [Act.put, List.setIfInBounds_toArray, List.set_cons_zero, List.set_cons_succ]
         have HLF := H23
        case' yc26 =>
         go_simp
         clear hHeld
         refine hK.out _ _ trivial (fun hHeld => ?_)
         clear hK K
         try simp only [Act.put, List.setIfInBounds_toArray, List.set_cons_zero, List.set_cons_succ]
         have c4 := QA23.out n1 hn1
         refine wpAnyH_ready (rs := [4]) (by kernel_rfl) (by simp) ?_
         refine (AllReadyH.cons (o := oP4) rfl (fun K hK => ?_) AllReadyH.nil)
         go_simp
         clear hHeld
         refine hK.out _ _ trivial (fun hHeld => ?_)
         clear hK K
         try simp only [Act.put, List.setIfInBounds_toArray, List.set_cons_zero, List.set_cons_succ]
         have HLF := H23
     case' yc6 =>
      go_simp
      have H28 := ydA H1 zT
      have R28 := yrT (wx.drew.alloc zN) (wx.heap.size + 1) (by simp)
      have QA28 := yrA R1 zT
      clear hHeld
      refine hK.out _ _ trivial (fun hHeld => ?_)
      clear hK K
      try simp only [Act.put, List.setIfInBounds_toArray, List.set_cons_zero, List.set_cons_succ]
      refine wpAnyH_ready (rs := [2]) (by kernel_rfl) (by simp) ?_
      refine (AllReadyH.cons (o := oP2) rfl (fun K hK => ?_) AllReadyH.nil)
      go_simp
      refine Calls.mono (HP1.out _ H28.out.cur) ?_
      rintro e v29 ⟨rfl, ho29, hz29, hc29⟩
      dsimp only
      have H29 := ydP H28 hlt ho29 hc29
      have QA29 := yrP QA28 ho29 (by omega)
      have QB29 := yrP R28 ho29 (by omega)
      have hg29 : w.heap.size < v29.heap.size := H29.out.box.lt
      clear ho29 hc29 hz29
      clear hHeld
      refine hK.out _ _ trivial (fun hHeld => ?_)
      clear hK K
      try simp only [Act.put, List.setIfInBounds_toArray, List.set_cons_zero, List.set_cons_succ]
      refine wpAnyH_take (i := 3) (oi := oP3) (v := ?v28) rfl (by kernel_rfl) (by kernel_rfl) (by kernel_rfl) (fun _ _ _ h => h) (Or.inl ⟨by rfl, ?h28⟩) hHeld ?r28
      case h28 => (intro w hSw; (try dsimp only at hSw); go_simp; try with_reducible rfl)
      try simp only [Act.put, List.setIfInBounds_toArray, List.set_cons_zero, List.set_cons_succ]
      have c4 := QA29.out n1 hn1
      refine wpAnyH_ready (rs := [4, 7]) (by kernel_rfl) (by simp) ?_
      refine (AllReadyH.cons (o := oP4) rfl (fun K hK => ?yc30) (AllReadyH.cons (o := oP7) rfl (fun K hK => ?yc29) AllReadyH.nil))
      case' yc30 =>
       go_simp
       clear hHeld
       refine hK.out _ _ trivial (fun hHeld => ?_)
       clear hK K
       try simp only [Act.put, List.setIfInBounds_toArray, List.set_cons_zero, List.set_cons_succ]
       refine wpAnyH_ready (rs := [7]) (by kernel_rfl) (by simp) ?_
       refine (AllReadyH.cons (o := oP7) rfl (fun K hK => ?_) AllReadyH.nil)
       go_simp
       refine Calls.mono (HP2.out _ H29.out.cur) ?_
       rintro e v31 ⟨rfl, ho31, hz31, hc31⟩
       dsimp only
       have H31 := ydP H29 hlt ho31 hc31
       have QA31 := yrP QA29 ho31 (by omega)
       have QB31 := yrP QB29 ho31 (by omega)
       have hg31 : w.heap.size < v31.heap.size := H31.out.box.lt
       clear ho31 hc31 hz31
       clear hHeld
       refine hK.out _ _ trivial (fun hHeld => ?_)
       clear hK K
       try simp only [Act.put, List.setIfInBounds_toArray, List.set_cons_zero, List.set_cons_succ]
       refine wpAnyH_take (i := 8) (oi := oP8) (v := ?v31) rfl (by kernel_rfl) (by kernel_rfl) (by kernel_rfl) (fun _ _ _ h => h) (Or.inl ⟨by rfl, ?h31⟩) hHeld ?r31
       case h31 => (intro w hSw; (try dsimp only at hSw); go_simp; try with_reducible rfl)
       try simp only [Act.put, List.setIfInBounds_toArray, List.set_cons_zero, List.set_cons_succ]
       have c9 := QB31.out n2 hn2
       refine wpAnyH_ready (rs := [9]) (by kernel_rfl) (by simp) ?_
       refine (AllReadyH.cons (o := oP9) rfl (fun K hK => ?_) AllReadyH.nil)
       go_simp
       clear hHeld
       refine hK.out _ _ trivial (fun hHeld => ?_)
       clear hK K
       try simp only [Act.put, List.setIfInBounds_toArray, List.set_cons_zero, List.set_cons_succ]
       have HLF := H31
      case' yc29 =>
       go_simp
       refine Calls.mono (HP2.out _ H29.out.cur) ?_
       rintro e v33 ⟨rfl, ho33, hz33, hc33⟩
       dsimp only
       have H33 := ydP H29 hlt ho33 hc33
       have QA33 := yrP QA29 ho33 (by omega)
       have QB33 := yrP QB29 ho33 (by omega)
       have hg33 : w.heap.size < v33.heap.size := H33.out.box.lt
       clear ho33 hc33 hz33
       clear hHeld
       refine hK.out _ _ trivial (fun hHeld => ?_)
       clear hK K
       try simp only [Act.put, List.setIfInBounds_toArray, List.set_cons_zero, List.set_cons_succ]
       refine wpAnyH_take (i := 8) (oi := oP8) (v := ?v32) rfl (by kernel_rfl) (by kernel_rfl) (by kernel_rfl) (fun _ _ _ h => h) (Or.inl ⟨by rfl, ?h32⟩) hHeld ?r32
       case h32 => (intro w hSw; (try dsimp only at hSw); go_simp; try with_reducible rfl)
       try simp only [Act.put, List.setIfInBounds_toArray, List.set_cons_zero, List.set_cons_succ]
       have c4 := QA33.out n1 hn1
       have c9 := QB33.out n2 hn2
       refine wpAnyH_ready (rs := [4, 9]) (by kernel_rfl) (by simp) ?_
       refine (AllReadyH.cons (o := oP4) rfl (fun K hK => ?yc34) (AllReadyH.cons (o := oP9) rfl (fun K hK => ?yc33) AllReadyH.nil))
       case' yc34 =>
        go_simp
        clear hHeld
        refine hK.out _ _ trivial (fun hHeld => ?_)
        clear hK K
        try simp only [Act.put, List.setIfInBounds_toArray, List.set_cons_zero, List.set_cons_succ]
        have c9 := QB33.out n2 hn2
        refine wpAnyH_ready (rs := [9]) (by kernel_rfl) (by simp) ?_
        refine (AllReadyH.cons (o := oP9) rfl (fun K hK => ?_) AllReadyH.nil)
        go_simp
        clear hHeld
        refine hK.out _ _ trivial (fun hHeld => ?_)
        clear hK K
        try simp only [Act.put, List.setIfInBounds_toArray, List.set_cons_zero, List.set_cons_succ]
        have HLF := H33
       case' yc33 =>
        go_simp
        clear hHeld
        refine hK.out _ _ trivial (fun hHeld => ?_)
        clear hK K
        try simp only [Act.put, List.setIfInBounds_toArray, List.set_cons_zero, List.set_cons_succ]
        have c4 := QA33.out n1 hn1
        refine wpAnyH_ready (rs := [4]) (by kernel_rfl) (by simp) ?_
        refine (AllReadyH.cons (o := oP4) rfl (fun K hK => ?_) AllReadyH.nil)
        go_simp
        clear hHeld
        refine hK.out _ _ trivial (fun hHeld => ?_)
        clear hK K
        try simp only [Act.put, List.setIfInBounds_toArray, List.set_cons_zero, List.set_cons_succ]
        have HLF := H33
    case' yc4 =>
     go_simp
     refine Calls.mono (HP1.out _ H0.out.cur) ?_
     rintro e v38 ⟨rfl, ho38, hz38, hc38⟩
     dsimp only
     have H38 := ydP H0 hlt ho38 hc38
     have hg38 : w.heap.size < v38.heap.size := H38.out.box.lt
     clear ho38 hc38 hz38
     clear hHeld
     refine hK.out _ _ trivial (fun hHeld => ?_)
     clear hK K
     try simp only [Act.put, List.setIfInBounds_toArray, List.set_cons_zero, List.set_cons_succ]
     refine wpAnyH_ready (rs := [0, 5, 7]) (by kernel_rfl) (by simp) ?_
     refine (AllReadyH.cons (o := oP0) rfl (fun K hK => ?yc37) (AllReadyH.cons (o := oP5) rfl (fun K hK => ?yc36) (AllReadyH.cons (o := oP7) rfl (fun K hK => ?yc35) AllReadyH.nil)))
     case' yc37 =>
      go_simp
      have H39 := ydA H38 zN
      have R39 := yrN v38 (v38.heap.size) (by simp)
      clear hHeld
      refine hK.out _ _ trivial (fun hHeld => ?_)
      clear hK K
      try simp only [Act.put, List.setIfInBounds_toArray, List.set_cons_zero, List.set_cons_succ]
      refine wpAnyH_take (i := 3) (oi := oP3) (v := ?v38) rfl (by kernel_rfl) (by kernel_rfl) (by kernel_rfl) (fun _ _ _ h => h) (Or.inl ⟨by rfl, ?h38⟩) hHeld ?r38
      case h38 => (intro w hSw; (try dsimp only at hSw); go_simp; try with_reducible rfl)
      try simp only [Act.put, List.setIfInBounds_toArray, List.set_cons_zero, List.set_cons_succ]
      have c4 := R39.out n1 hn1
      refine wpAnyH_ready (rs := [4, 5, 7]) (by kernel_rfl) (by simp) ?_
      refine (AllReadyH.cons (o := oP4) rfl (fun K hK => ?yc41) (AllReadyH.cons (o := oP5) rfl (fun K hK => ?yc40) (AllReadyH.cons (o := oP7) rfl (fun K hK => ?yc39) AllReadyH.nil)))
      case' yc41 =>
       go_simp
       clear hHeld
       refine hK.out _ _ trivial (fun hHeld => ?_)
       clear hK K
       try simp only [Act.put, List.setIfInBounds_toArray, List.set_cons_zero, List.set_cons_succ]
       refine wpAnyH_ready (rs := [5, 7]) (by kernel_rfl) (by simp) ?_
       refine (AllReadyH.cons (o := oP5) rfl (fun K hK => ?yc43) (AllReadyH.cons (o := oP7) rfl (fun K hK => ?yc42) AllReadyH.nil))
       case' yc43 =>
        go_simp
        have H41 := ydA H39 zT
        have R41 := yrT (v38.alloc zN) (v38.heap.size + 1) (by simp)
        have QA41 := yrA R39 zT
        clear hHeld
        refine hK.out _ _ trivial (fun hHeld => ?_)
        clear hK K
        try simp only [Act.put, List.setIfInBounds_toArray, List.set_cons_zero, List.set_cons_succ]
        refine wpAnyH_ready (rs := [7]) (by kernel_rfl) (by simp) ?_
        refine (AllReadyH.cons (o := oP7) rfl (fun K hK => ?_) AllReadyH.nil)
        go_simp
        refine Calls.mono (HP2.out _ H41.out.cur) ?_
        rintro e v42 ⟨rfl, ho42, hz42, hc42⟩
        dsimp only
        have H42 := ydP H41 hlt ho42 hc42
        have QA42 := yrP QA41 ho42 (by omega)
        have QB42 := yrP R41 ho42 (by omega)
        have hg42 : w.heap.size < v42.heap.size := H42.out.box.lt
        clear ho42 hc42 hz42
        clear hHeld
        refine hK.out _ _ trivial (fun hHeld => ?_)
        clear hK K
        try simp only [Act.put, List.setIfInBounds_toArray, List.set_cons_zero, List.set_cons_succ]
        refine wpAnyH_take (i := 8) (oi := oP8) (v := ?v44) rfl (by kernel_rfl) (by kernel_rfl) (by kernel_rfl) (fun _ _ _ h => h) (Or.inl ⟨by rfl, ?h44⟩) hHeld ?r44
        case h44 => (intro w hSw; (try dsimp only at hSw); go_simp; try with_reducible rfl)
        try simp only [Act.put, List.setIfInBounds_toArray, List.set_cons_zero, List.set_cons_succ]
        have c9 := QB42.out n2 hn2
        refine wpAnyH_ready (rs := [9]) (by kernel_rfl) (by simp) ?_
        refine (AllReadyH.cons (o := oP9) rfl (fun K hK => ?_) AllReadyH.nil)
        go_simp
        clear hHeld
        refine hK.out _ _ trivial (fun hHeld => ?_)
        clear hK K
        try simp only [Act.put, List.setIfInBounds_toArray, List.set_cons_zero, List.set_cons_succ]
        have HLF := H42
       case' yc42 =>
        go_simp
        refine Calls.mono (HP2.out _ H39.out.cur) ?_
        rintro e v44 ⟨rfl, ho44, hz44, hc44⟩
        dsimp only
        have H44 := ydP H39 hlt ho44 hc44
        have QA44 := yrP R39 ho44 (by omega)
        have hg44 : w.heap.size < v44.heap.size := H44.out.box.lt
        clear ho44 hc44 hz44
        clear hHeld
        refine hK.out _ _ trivial (fun hHeld => ?_)
        clear hK K
        try simp only [Act.put, List.setIfInBounds_toArray, List.set_cons_zero, List.set_cons_succ]
        refine wpAnyH_ready (rs := [5]) (by kernel_rfl) (by simp) ?_
        refine (AllReadyH.cons (o := oP5) rfl (fun K hK => ?_) AllReadyH.nil)
        go_simp
        have H45 := ydA H44 zT
        have R45 := yrT v44 (v44.heap.size) (by simp)
        have QA45 := yrA QA44 zT
        clear hHeld
        refine hK.out _ _ trivial (fun hHeld => ?_)
        clear hK K
        try simp only [Act.put, List.setIfInBounds_toArray, List.set_cons_zero, List.set_cons_succ]
        refine wpAnyH_take (i := 8) (oi := oP8) (v := ?v45) rfl (by kernel_rfl) (by kernel_rfl) (by kernel_rfl) (fun _ _ _ h => h) (Or.inl ⟨by rfl, ?h45⟩) hHeld ?r45
        case h45 => (intro w hSw; (try dsimp only at hSw); go_simp; try with_reducible rfl)
        try simp only [Act.put, List.setIfInBounds_toArray, List.set_cons_zero, List.set_cons_succ]
        have c9 := R45.out n2 hn2
        refine wpAnyH_ready (rs := [9]) (by kernel_rfl) (by simp) ?_
        refine (AllReadyH.cons (o := oP9) rfl (fun K hK => ?_) AllReadyH.nil)
        go_simp
        clear hHeld
        refine hK.out _ _ trivial (fun hHeld => ?_)
        clear hK K
        try simp only [Act.put, List.setIfInBounds_toArray, List.set_cons_zero, List.set_cons_succ]
        have HLF := H45
      case' yc40 =>
       go_simp
       have H47 := ydA H39 zT
       have R47 := yrT (v38.alloc zN) (v38.heap.size + 1) (by simp)
       have QA47 := yrA R39 zT
       clear hHeld
       refine hK.out _ _ trivial (fun hHeld => ?_)
       clear hK K
       try simp only [Act.put, List.setIfInBounds_toArray, List.set_cons_zero, List.set_cons_succ]
       have c4 := QA47.out n1 hn1
       refine wpAnyH_ready (rs := [4, 7]) (by kernel_rfl) (by simp) ?_
       refine (AllReadyH.cons (o := oP4) rfl (fun K hK => ?yc47) (AllReadyH.cons (o := oP7) rfl (fun K hK => ?yc46) AllReadyH.nil))
       case' yc47 =>
        go_simp
        clear hHeld
        refine hK.out _ _ trivial (fun hHeld => ?_)
        clear hK K
        try simp only [Act.put, List.setIfInBounds_toArray, List.set_cons_zero, List.set_cons_succ]
        refine wpAnyH_ready (rs := [7]) (by kernel_rfl) (by simp) ?_
        refine (AllReadyH.cons (o := oP7) rfl (fun K hK => ?_) AllReadyH.nil)
        go_simp
        refine Calls.mono (HP2.out _ H47.out.cur) ?_
        rintro e v49 ⟨rfl, ho49, hz49, hc49⟩
        dsimp only
        have H49 := ydP H47 hlt ho49 hc49
        have QA49 := yrP QA47 ho49 (by omega)
        have QB49 := yrP R47 ho49 (by omega)
        have hg49 : w.heap.size < v49.heap.size := H49.out.box.lt
        clear ho49 hc49 hz49
        clear hHeld
        refine hK.out _ _ trivial (fun hHeld => ?_)
        clear hK K
        try simp only [Act.put, List.setIfInBounds_toArray, List.set_cons_zero, List.set_cons_succ]
        refine wpAnyH_take (i := 8) (oi := oP8) (v := ?v48) rfl (by kernel_rfl) (by kernel_rfl) (by kernel_rfl) (fun _ _ _ h => h) (Or.inl ⟨by rfl, ?h48⟩) hHeld ?r48
        case h48 => (intro w hSw; (try dsimp only at hSw); go_simp; try with_reducible rfl)
        try simp only [Act.put, List.setIfInBounds_toArray, List.set_cons_zero, List.set_cons_succ]
        have c9 := QB49.out n2 hn2
        refine wpAnyH_ready (rs := [9]) (by kernel_rfl) (by simp) ?_
        refine (AllReadyH.cons (o := oP9) rfl (fun K hK => ?_) AllReadyH.nil)
        go_simp
        clear hHeld
        refine hK.out _ _ trivial (fun hHeld => ?_)
        clear hK K
        try simp only [Act.put, List.setIfInBounds_toArray, List.set_cons_zero, List.set_cons_succ]
        have HLF := H49
       case' yc46 =>
        go_simp
        refine Calls.mono (HP2.out _ H47.out.cur) ?_
        rintro e v51 ⟨rfl, ho51, hz51, hc51⟩
        dsimp only
        have H51 := ydP H47 hlt ho51 hc51
        have QA51 := yrP QA47 ho51 (by omega)
        have QB51 := yrP R47 ho51 (by omega)
        have hg51 : w.heap.size < v51.heap.size := H51.out.box.lt
        clear ho51 hc51 hz51
        clear hHeld
        refine hK.out _ _ trivial (fun hHeld => ?_)
        clear hK K
        try simp only [Act.put, List.setIfInBounds_toArray, List.set_cons_zero, List.set_cons_succ]
        refine wpAnyH_take (i := 8) (oi := oP8) (v := ?v49) rfl (by kernel_rfl) (by kernel_rfl) (by kernel_rfl) (fun _ _ _ h => h) (Or.inl ⟨by rfl, ?h49⟩) hHeld ?r49
        case h49 => (intro w hSw; (try dsimp only at hSw); go_simp; try with_reducible rfl)
        try simp only [Act.put, List.setIfInBounds_toArray, List.set_cons_zero, List.set_cons_succ]
        have c4 := QA51.out n1 hn1
        have c9 := QB51.out n2 hn2
        refine wpAnyH_ready (rs := [4, 9]) (by kernel_rfl) (by simp) ?_
        refine (AllReadyH.cons (o := oP4) rfl (fun K hK => ?yc51) (AllReadyH.cons (o := oP9) rfl (fun K hK => ?yc50) AllReadyH.nil))
        case' yc51 =>
         go_simp
         clear hHeld
         refine hK.out _ _ trivial (fun hHeld => ?_)
         clear hK K
         try simp only [Act.put, List.setIfInBounds_toArray, List.set_cons_zero, List.set_cons_succ]
         have c9 := QB51.out n2 hn2
         refine wpAnyH_ready (rs := [9]) (by kernel_rfl) (by simp) ?_
         refine (AllReadyH.cons (o := oP9) rfl (fun K hK => ?_) AllReadyH.nil)
         go_simp
         clear hHeld
         refine hK.out _ _ trivial (fun hHeld => ?_)
         clear hK K
         try simp only [Act.put, List.setIfInBounds_toArray, List.set_cons_zero, List.set_cons_succ]
         have HLF := H51
        case' yc50 =>
         go_simp
         clear hHeld
         refine hK.out _ _ trivial (fun hHeld => ?_)
         clear hK K
         try simp only [Act.put, List.setIfInBounds_toArray, List.set_cons_zero, List.set_cons_succ]
         have c4 := QA51.out n1 hn1
         refine wpAnyH_ready (rs := [4]) (by kernel_rfl) (by simp) ?_
         refine (AllReadyH.cons (o := oP4) rfl (fun K hK => ?_) AllReadyH.nil)
         go_simp
         clear hHeld
         refine hK.out _ _ trivial (fun hHeld => ?_)
         clear hK K
         try simp only [Act.put, List.setIfInBounds_toArray, List.set_cons_zero, List.set_cons_succ]
         have HLF := H51
      case' yc39 =>
       go_simp
       refine Calls.mono (HP2.out _ H39.out.cur) ?_
       rintro e v56 ⟨rfl, ho56, hz56, hc56⟩
       dsimp only
       have H56 := ydP H39 hlt ho56 hc56
       have QA56 := yrP R39 ho56 (by omega)
       have hg56 : w.heap.size < v56.heap.size := H56.out.box.lt
       clear ho56 hc56 hz56
       clear hHeld
       refine hK.out _ _ trivial (fun hHeld => ?_)
       clear hK K
       try simp only [Act.put, List.setIfInBounds_toArray, List.set_cons_zero, List.set_cons_succ]
       have c4 := QA56.out n1 hn1
       refine wpAnyH_ready (rs := [4, 5]) (by kernel_rfl) (by simp) ?_
       refine (AllReadyH.cons (o := oP4) rfl (fun K hK => ?yc53) (AllReadyH.cons (o := oP5) rfl (fun K hK => ?yc52) AllReadyH.nil))
       case' yc53 =>
        go_simp
        clear hHeld
        refine hK.out _ _ trivial (fun hHeld => ?_)
        clear hK K
        try simp only [Act.put, List.setIfInBounds_toArray, List.set_cons_zero, List.set_cons_succ]
        refine wpAnyH_ready (rs := [5]) (by kernel_rfl) (by simp) ?_
        refine (AllReadyH.cons (o := oP5) rfl (fun K hK => ?_) AllReadyH.nil)
        go_simp
        have H58 := ydA H56 zT
        have R58 := yrT v56 (v56.heap.size) (by simp)
        have QA58 := yrA QA56 zT
        clear hHeld
        refine hK.out _ _ trivial (fun hHeld => ?_)
        clear hK K
        try simp only [Act.put, List.setIfInBounds_toArray, List.set_cons_zero, List.set_cons_succ]
        refine wpAnyH_take (i := 8) (oi := oP8) (v := ?v54) rfl (by kernel_rfl) (by kernel_rfl) (by kernel_rfl) (fun _ _ _ h => h) (Or.inl ⟨by rfl, ?h54⟩) hHeld ?r54
        case h54 => (intro w hSw; (try dsimp only at hSw); go_simp; try with_reducible rfl)
        try simp only [Act.put, List.setIfInBounds_toArray, List.set_cons_zero, List.set_cons_succ]
        have c9 := R58.out n2 hn2
        refine wpAnyH_ready (rs := [9]) (by kernel_rfl) (by simp) ?_
        refine (AllReadyH.cons (o := oP9) rfl (fun K hK => ?_) AllReadyH.nil)
        go_simp
        clear hHeld
        refine hK.out _ _ trivial (fun hHeld => ?_)
        clear hK K
        try simp only [Act.put, List.setIfInBounds_toArray, List.set_cons_zero, List.set_cons_succ]
        have HLF := H58
       case' yc52 =>
        go_simp
        have H60 := ydA H56 zT
        have R60 := yrT v56 (v56.heap.size) (by simp)
        have QA60 := yrA QA56 zT
        clear hHeld
        refine hK.out _ _ trivial (fun hHeld => ?_)
        clear hK K
        try simp only [Act.put, List.setIfInBounds_toArray, List.set_cons_zero, List.set_cons_succ]
        refine wpAnyH_take (i := 8) (oi := oP8) (v := ?v55) rfl (by kernel_rfl) (by kernel_rfl) (by kernel_rfl) (fun _ _ _ h => h) (Or.inl ⟨by rfl, ?h55⟩) hHeld ?r55
        case h55 => (intro w hSw; (try dsimp only at hSw); go_simp; try with_reducible rfl)
        try simp only [Act.put, List.setIfInBounds_toArray, List.set_cons_zero, List.set_cons_succ]
        have c4 := QA60.out n1 hn1
        have c9 := R60.out n2 hn2
        refine wpAnyH_ready (rs := [4, 9]) (by kernel_rfl) (by simp) ?_
        refine (AllReadyH.cons (o := oP4) rfl (fun K hK => ?yc57) (AllReadyH.cons (o := oP9) rfl (fun K hK => ?yc56) AllReadyH.nil))
        case' yc57 =>
         go_simp
         clear hHeld
         refine hK.out _ _ trivial (fun hHeld => ?_)
         clear hK K
         try simp only [Act.put, List.setIfInBounds_toArray, List.set_cons_zero, List.set_cons_succ]
         have c9 := R60.out n2 hn2
         refine wpAnyH_ready (rs := [9]) (by kernel_rfl) (by simp) ?_
         refine (AllReadyH.cons (o := oP9) rfl (fun K hK => ?_) AllReadyH.nil)
         go_simp
         clear hHeld
         refine hK.out _ _ trivial (fun hHeld => ?_)
         clear hK K
         try simp only [Act.put, List.setIfInBounds_toArray, List.set_cons_zero, List.set_cons_succ]
         have HLF := H60
        case' yc56 =>
         go_simp
         clear hHeld
         refine hK.out _ _ trivial (fun hHeld => ?_)
         clear hK K
         try simp only [Act.put, List.setIfInBounds_toArray, List.set_cons_zero, List.set_cons_succ]
         have c4 := QA60.out n1 hn1
         refine wpAnyH_ready (rs := [4]) (by kernel_rfl) (by simp) ?_
         refine (AllReadyH.cons (o := oP4) rfl (fun K hK => ?_) AllReadyH.nil)
         go_simp
         clear hHeld
         refine hK.out _ _ trivial (fun hHeld => ?_)
         clear hK K
         try simp only [Act.put, List.setIfInBounds_toArray, List.set_cons_zero, List.set_cons_succ]
         have HLF := H60
     case' yc36 =>
      go_simp
      have H65 := ydA H38 zT
      have R65 := yrT v38 (v38.heap.size) (by simp)
      clear hHeld
      refine hK.out _ _ trivial (fun hHeld => ?_)
      clear hK K
      try simp only [Act.put, List.setIfInBounds_toArray, List.set_cons_zero, List.set_cons_succ]
      refine wpAnyH_ready (rs := [0, 7]) (by kernel_rfl) (by simp) ?_
      refine (AllReadyH.cons (o := oP0) rfl (fun K hK => ?yc59) (AllReadyH.cons (o := oP7) rfl (fun K hK => ?yc58) AllReadyH.nil))
      case' yc59 =>
       go_simp
       have H66 := ydA H65 zN
       have R66 := yrN (v38.alloc zT) (v38.heap.size + 1) (by simp)
       have QB66 := yrA R65 zN
       clear hHeld
       refine hK.out _ _ trivial (fun hHeld => ?_)
       clear hK K
       try simp only [Act.put, List.setIfInBounds_toArray, List.set_cons_zero, List.set_cons_succ]
       refine wpAnyH_take (i := 3) (oi := oP3) (v := ?v60) rfl (by kernel_rfl) (by kernel_rfl) (by kernel_rfl) (fun _ _ _ h => h) (Or.inl ⟨by rfl, ?h60⟩) hHeld ?r60
       case h60 => (intro w hSw; (try dsimp only at hSw); go_simp; try with_reducible rfl)
       try simp only [Act.put, List.setIfInBounds_toArray, List.set_cons_zero, List.set_cons_succ]
       have c4 := R66.out n1 hn1
       refine wpAnyH_ready (rs := [4, 7]) (by kernel_rfl) (by simp) ?_
       refine (AllReadyH.cons (o := oP4) rfl (fun K hK => ?yc62) (AllReadyH.cons (o := oP7) rfl (fun K hK => ?yc61) AllReadyH.nil))
       case' yc62 =>
        go_simp
        clear hHeld
        refine hK.out _ _ trivial (fun hHeld => ?_)
        clear hK K
        try simp only [Act.put, List.setIfInBounds_toArray, List.set_cons_zero, List.set_cons_succ]
        refine wpAnyH_ready (rs := [7]) (by kernel_rfl) (by simp) ?_
        refine (AllReadyH.cons (o := oP7) rfl (fun K hK => ?_) AllReadyH.nil)
        go_simp
        refine Calls.mono (HP2.out _ H66.out.cur) ?_
        rintro e v68 ⟨rfl, ho68, hz68, hc68⟩
        dsimp only
        have H68 := ydP H66 hlt ho68 hc68
        have QA68 := yrP R66 ho68 (by omega)
        have QB68 := yrP QB66 ho68 (by omega)
        have hg68 : w.heap.size < v68.heap.size := H68.out.box.lt
        clear ho68 hc68 hz68
        clear hHeld
        refine hK.out _ _ trivial (fun hHeld => ?_)
        clear hK K
        try simp only [Act.put, List.setIfInBounds_toArray, List.set_cons_zero, List.set_cons_succ]
        refine wpAnyH_take (i := 8) (oi := oP8) (v := ?v63) rfl (by kernel_rfl) (by kernel_rfl) (by kernel_rfl) (fun _ _ _ h => h) (Or.inl ⟨by rfl, ?h63⟩) hHeld ?r63
        case h63 => (intro w hSw; (try dsimp only at hSw); go_simp; try with_reducible rfl)
        try simp only [Act.put, List.setIfInBounds_toArray, List.set_cons_zero, List.set_cons_succ]
        have c9 := QB68.out n2 hn2
        refine wpAnyH_ready (rs := [9]) (by kernel_rfl) (by simp) ?_
        refine (AllReadyH.cons (o := oP9) rfl (fun K hK => ?_) AllReadyH.nil)
        go_simp
        clear hHeld
        refine hK.out _ _ trivial (fun hHeld => ?_)
        clear hK K
        try simp only [Act.put, List.setIfInBounds_toArray, List.set_cons_zero, List.set_cons_succ]
        have HLF := H68
       case' yc61 =>
        go_simp
        refine Calls.mono (HP2.out _ H66.out.cur) ?_
        rintro e v70 ⟨rfl, ho70, hz70, hc70⟩
        dsimp only
        have H70 := ydP H66 hlt ho70 hc70
        have QA70 := yrP R66 ho70 (by omega)
        have QB70 := yrP QB66 ho70 (by omega)
        have hg70 : w.heap.size < v70.heap.size := H70.out.box.lt
        clear ho70 hc70 hz70
        clear hHeld
        refine hK.out _ _ trivial (fun hHeld => ?_)
        clear hK K
        try simp only [Act.put, List.setIfInBounds_toArray, List.set_cons_zero, List.set_cons_succ]
        refine wpAnyH_take (i := 8) (oi := oP8) (v := ?v64) rfl (by kernel_rfl) (by kernel_rfl) (by kernel_rfl) (fun _ _ _ h => h) (Or.inl ⟨by rfl, ?h64⟩) hHeld ?r64
        case h64 => (intro w hSw; (try dsimp only at hSw); go_simp; try with_reducible rfl)
        try simp only [Act.put, List.setIfInBounds_toArray, List.set_cons_zero, List.set_cons_succ]
        have c4 := QA70.out n1 hn1
        have c9 := QB70.out n2 hn2
        refine wpAnyH_ready (rs := [4, 9]) (by kernel_rfl) (by simp) ?_
        refine (AllReadyH.cons (o := oP4) rfl (fun K hK => ?yc66) (AllReadyH.cons (o := oP9) rfl (fun K hK => ?yc65) AllReadyH.nil))
        case' yc66 =>
         go_simp
         clear hHeld
         refine hK.out _ _ trivial (fun hHeld => ?_)
         clear hK K
         try simp only [Act.put, List.setIfInBounds_toArray, List.set_cons_zero, List.set_cons_succ]
         have c9 := QB70.out n2 hn2
         refine wpAnyH_ready (rs := [9]) (by kernel_rfl) (by simp) ?_
         refine (AllReadyH.cons (o := oP9) rfl (fun K hK => ?_) AllReadyH.nil)
         go_simp
         clear hHeld
         refine hK.out _ _ trivial (fun hHeld => ?_)
         clear hK K
         try simp only [Act.put, List.setIfInBounds_toArray, List.set_cons_zero, List.set_cons_succ]
         have HLF := H70
        case' yc65 =>
         go_simp
         clear hHeld
         refine hK.out _ _ trivial (fun hHeld => ?_)
         clear hK K
         try simp only [Act.put, List.setIfInBounds_toArray, List.set_cons_zero, List.set_cons_succ]
         have c4 := QA70.out n1 hn1
         refine wpAnyH_ready (rs := [4]) (by kernel_rfl) (by simp) ?_
         refine (AllReadyH.cons (o := oP4) rfl (fun K hK => ?_) AllReadyH.nil)
         go_simp
         clear hHeld
         refine hK.out _ _ trivial (fun hHeld => ?_)
         clear hK K
         try simp only [Act.put, List.setIfInBounds_toArray, List.set_cons_zero, List.set_cons_succ]
         have HLF := H70
      case' yc58 =>
       go_simp
       refine Calls.mono (HP2.out _ H65.out.cur) ?_
       rintro e v75 ⟨rfl, ho75, hz75, hc75⟩
       dsimp only
       have H75 := ydP H65 hlt ho75 hc75
       have QB75 := yrP R65 ho75 (by omega)
       have hg75 : w.heap.size < v75.heap.size := H75.out.box.lt
       clear ho75 hc75 hz75
       clear hHeld
       refine hK.out _ _ trivial (fun hHeld => ?_)
       clear hK K
       try simp only [Act.put, List.setIfInBounds_toArray, List.set_cons_zero, List.set_cons_succ]
       refine wpAnyH_take (i := 8) (oi := oP8) (v := ?v67) rfl (by kernel_rfl) (by kernel_rfl) (by kernel_rfl) (fun _ _ _ h => h) (Or.inl ⟨by rfl, ?h67⟩) hHeld ?r67
       case h67 => (intro w hSw; (try dsimp only at hSw); go_simp; try with_reducible rfl)
       try simp only [Act.put, List.setIfInBounds_toArray, List.set_cons_zero, List.set_cons_succ]
       have c9 := QB75.out n2 hn2
       refine wpAnyH_ready (rs := [0, 9]) (by kernel_rfl) (by simp) ?_
       refine (AllReadyH.cons (o := oP0) rfl (fun K hK => ?yc69) (AllReadyH.cons (o := oP9) rfl (fun K hK => ?yc68) AllReadyH.nil))
       case' yc69 =>
        go_simp
        have H76 := ydA H75 zN
        have R76 := yrN v75 (v75.heap.size) (by simp)
        have QB76 := yrA QB75 zN
        clear hHeld
        refine hK.out _ _ trivial (fun hHeld => ?_)
        clear hK K
        try simp only [Act.put, List.setIfInBounds_toArray, List.set_cons_zero, List.set_cons_succ]
        refine wpAnyH_take (i := 3) (oi := oP3) (v := ?v70) rfl (by kernel_rfl) (by kernel_rfl) (by kernel_rfl) (fun _ _ _ h => h) (Or.inl ⟨by rfl, ?h70⟩) hHeld ?r70
        case h70 => (intro w hSw; (try dsimp only at hSw); go_simp; try with_reducible rfl)
        try simp only [Act.put, List.setIfInBounds_toArray, List.set_cons_zero, List.set_cons_succ]
        have c4 := R76.out n1 hn1
        have c9 := QB76.out n2 hn2
        refine wpAnyH_ready (rs := [4, 9]) (by kernel_rfl) (by simp) ?_
        refine (AllReadyH.cons (o := oP4) rfl (fun K hK => ?yc72) (AllReadyH.cons (o := oP9) rfl (fun K hK => ?yc71) AllReadyH.nil))
        case' yc72 =>
         go_simp
         clear hHeld
         refine hK.out _ _ trivial (fun hHeld => ?_)
         clear hK K
         try simp only [Act.put, List.setIfInBounds_toArray, List.set_cons_zero, List.set_cons_succ]
         have c9 := QB76.out n2 hn2
         refine wpAnyH_ready (rs := [9]) (by kernel_rfl) (by simp) ?_
         refine (AllReadyH.cons (o := oP9) rfl (fun K hK => ?_) AllReadyH.nil)
         go_simp
         clear hHeld
         refine hK.out _ _ trivial (fun hHeld => ?_)
         clear hK K
         try simp only [Act.put, List.setIfInBounds_toArray, List.set_cons_zero, List.set_cons_succ]
         have HLF := H76
        case' yc71 =>
         go_simp
         clear hHeld
         refine hK.out _ _ trivial (fun hHeld => ?_)
         clear hK K
         try simp only [Act.put, List.setIfInBounds_toArray, List.set_cons_zero, List.set_cons_succ]
         have c4 := R76.out n1 hn1
         refine wpAnyH_ready (rs := [4]) (by kernel_rfl) (by simp) ?_
         refine (AllReadyH.cons (o := oP4) rfl (fun K hK => ?_) AllReadyH.nil)
         go_simp
         clear hHeld
         refine hK.out _ _ trivial (fun hHeld => ?_)
         clear hK K
         try simp only [Act.put, List.setIfInBounds_toArray, List.set_cons_zero, List.set_cons_succ]
         have HLF := H76
       case' yc68 =>
        go_simp
        clear hHeld
        refine hK.out _ _ trivial (fun hHeld => ?_)
        clear hK K
        try simp only [Act.put, List.setIfInBounds_toArray, List.set_cons_zero, List.set_cons_succ]
        refine wpAnyH_ready (rs := [0]) (by kernel_rfl) (by simp) ?_
        refine (AllReadyH.cons (o := oP0) rfl (fun K hK => ?_) AllReadyH.nil)
        go_simp
        have H82 := ydA H75 zN
        have R82 := yrN v75 (v75.heap.size) (by simp)
        have QB82 := yrA QB75 zN
        clear hHeld
        refine hK.out _ _ trivial (fun hHeld => ?_)
        clear hK K
        try simp only [Act.put, List.setIfInBounds_toArray, List.set_cons_zero, List.set_cons_succ]
        refine wpAnyH_take (i := 3) (oi := oP3) (v := ?v73) rfl (by kernel_rfl) (by kernel_rfl) (by kernel_rfl) (fun _ _ _ h => h) (Or.inl ⟨by rfl, ?h73⟩) hHeld ?r73
        case h73 => (intro w hSw; (try dsimp only at hSw); go_simp; try with_reducible rfl)
        try simp only [Act.put, List.setIfInBounds_toArray, List.set_cons_zero, List.set_cons_succ]
        have c4 := R82.out n1 hn1
        refine wpAnyH_ready (rs := [4]) (by kernel_rfl) (by simp) ?_
        refine (AllReadyH.cons (o := oP4) rfl (fun K hK => ?_) AllReadyH.nil)
        go_simp
        clear hHeld
        refine hK.out _ _ trivial (fun hHeld => ?_)
        clear hK K
        try simp only [Act.put, List.setIfInBounds_toArray, List.set_cons_zero, List.set_cons_succ]
        have HLF := H82
     case' yc35 =>
      go_simp
      refine Calls.mono (HP2.out _ H38.out.cur) ?_
      rintro e v84 ⟨rfl, ho84, hz84, hc84⟩
      dsimp only
      have H84 := ydP H38 hlt ho84 hc84
      have hg84 : w.heap.size < v84.heap.size := H84.out.box.lt
      clear ho84 hc84 hz84
      clear hHeld
      refine hK.out _ _ trivial (fun hHeld => ?_)
      clear hK K
      try simp only [Act.put, List.setIfInBounds_toArray, List.set_cons_zero, List.set_cons_succ]
      refine wpAnyH_ready (rs := [0, 5]) (by kernel_rfl) (by simp) ?_
      refine (AllReadyH.cons (o := oP0) rfl (fun K hK => ?yc75) (AllReadyH.cons (o := oP5) rfl (fun K hK => ?yc74) AllReadyH.nil))
      case' yc75 =>
       go_simp
       have H85 := ydA H84 zN
       have R85 := yrN v84 (v84.heap.size) (by simp)
       clear hHeld
       refine hK.out _ _ trivial (fun hHeld => ?_)
       clear hK K
       try simp only [Act.put, List.setIfInBounds_toArray, List.set_cons_zero, List.set_cons_succ]
       refine wpAnyH_take (i := 3) (oi := oP3) (v := ?v76) rfl (by kernel_rfl) (by kernel_rfl) (by kernel_rfl) (fun _ _ _ h => h) (Or.inl ⟨by rfl, ?h76⟩) hHeld ?r76
       case h76 => (intro w hSw; (try dsimp only at hSw); go_simp; try with_reducible rfl)
       try simp only [Act.put, List.setIfInBounds_toArray, List.set_cons_zero, List.set_cons_succ]
       have c4 := R85.out n1 hn1
       refine wpAnyH_ready (rs := [4, 5]) (by kernel_rfl) (by simp) ?_
       refine (AllReadyH.cons (o := oP4) rfl (fun K hK => ?yc78) (AllReadyH.cons (o := oP5) rfl (fun K hK => ?yc77) AllReadyH.nil))
       case' yc78 =>
        go_simp
        clear hHeld
        refine hK.out _ _ trivial (fun hHeld => ?_)
        clear hK K
        try simp only [Act.put, List.setIfInBounds_toArray, List.set_cons_zero, List.set_cons_succ]
        refine wpAnyH_ready (rs := [5]) (by kernel_rfl) (by simp) ?_
        refine (AllReadyH.cons (o := oP5) rfl (fun K hK => ?_) AllReadyH.nil)
        go_simp
        have H87 := ydA H85 zT
        have R87 := yrT (v84.alloc zN) (v84.heap.size + 1) (by simp)
        have QA87 := yrA R85 zT
        clear hHeld
        refine hK.out _ _ trivial (fun hHeld => ?_)
        clear hK K
        try simp only [Act.put, List.setIfInBounds_toArray, List.set_cons_zero, List.set_cons_succ]
        refine wpAnyH_take (i := 8) (oi := oP8) (v := ?v79) rfl (by kernel_rfl) (by kernel_rfl) (by kernel_rfl) (fun _ _ _ h => h) (Or.inl ⟨by rfl, ?h79⟩) hHeld ?r79
        case h79 => (intro w hSw; (try dsimp only at hSw); go_simp; try with_reducible rfl)
        try simp only [Act.put, List.setIfInBounds_toArray, List.set_cons_zero, List.set_cons_succ]
        have c9 := R87.out n2 hn2
        refine wpAnyH_ready (rs := [9]) (by kernel_rfl) (by simp) ?_
        refine (AllReadyH.cons (o := oP9) rfl (fun K hK => ?_) AllReadyH.nil)
        go_simp
        clear hHeld
        refine hK.out _ _ trivial (fun hHeld => ?_)
        clear hK K
        try simp only [Act.put, List.setIfInBounds_toArray, List.set_cons_zero, List.set_cons_succ]
        have HLF := H87
       case' yc77 =>
        go_simp
        have H89 := ydA H85 zT
        have R89 := yrT (v84.alloc zN) (v84.heap.size + 1) (by simp)
        have QA89 := yrA R85 zT
        clear hHeld
        refine hK.out _ _ trivial (fun hHeld => ?_)
        clear hK K
        try simp only [Act.put, List.setIfInBounds_toArray, List.set_cons_zero, List.set_cons_succ]
        refine wpAnyH_take (i := 8) (oi := oP8) (v := ?v80) rfl (by kernel_rfl) (by kernel_rfl) (by kernel_rfl) (fun _ _ _ h => h) (Or.inl ⟨by rfl, ?h80⟩) hHeld ?r80
        case h80 => (intro w hSw; (try dsimp only at hSw); go_simp; try with_reducible rfl)
        try simp only [Act.put, List.setIfInBounds_toArray, List.set_cons_zero, List.set_cons_succ]
        have c4 := QA89.out n1 hn1
        have c9 := R89.out n2 hn2
        refine wpAnyH_ready (rs := [4, 9]) (by kernel_rfl) (by simp) ?_
        refine (AllReadyH.cons (o := oP4) rfl (fun K hK => ?yc82) (AllReadyH.cons (o := oP9) rfl (fun K hK => ?yc81) AllReadyH.nil))
        case' yc82 =>
         go_simp
         clear hHeld
         refine hK.out _ _ trivial (fun hHeld => ?_)
         clear hK K
         try simp only [Act.put, List.setIfInBounds_toArray, List.set_cons_zero, List.set_cons_succ]
         have c9 := R89.out n2 hn2
         refine wpAnyH_ready (rs := [9]) (by kernel_rfl) (by simp) ?_
         refine (AllReadyH.cons (o := oP9) rfl (fun K hK => ?_) AllReadyH.nil)
         go_simp
         clear hHeld
         refine hK.out _ _ trivial (fun hHeld => ?_)
         clear hK K
         try simp only [Act.put, List.setIfInBounds_toArray, List.set_cons_zero, List.set_cons_succ]
         have HLF := H89
        case' yc81 =>
         go_simp
         clear hHeld
         refine hK.out _ _ trivial (fun hHeld => ?_)
         clear hK K
         try simp only [Act.put, List.setIfInBounds_toArray, List.set_cons_zero, List.set_cons_succ]
         have c4 := QA89.out n1 hn1
         refine wpAnyH_ready (rs := [4]) (by kernel_rfl) (by simp) ?_
         refine (AllReadyH.cons (o := oP4) rfl (fun K hK => ?_) AllReadyH.nil)
         go_simp
         clear hHeld
         refine hK.out _ _ trivial (fun hHeld => ?_)
         clear hK K
         try simp only [Act.put, List.setIfInBounds_toArray, List.set_cons_zero, List.set_cons_succ]
         have HLF := H89
      case' yc74 =>
       go_simp
       have H94 := ydA H84 zT
       have R94 := yrT v84 (v84.heap.size) (by simp)
       clear hHeld
       refine hK.out _ _ trivial (fun hHeld => ?_)
       clear hK K
       try simp only [Act.put, List.setIfInBounds_toArray, List.set_cons_zero, List.set_cons_succ]
       refine wpAnyH_take (i := 8) (oi := oP8) (v := ?v83) rfl (by kernel_rfl) (by kernel_rfl) (by kernel_rfl) (fun _ _ _ h => h) (Or.inl ⟨by rfl, ?h83⟩) hHeld ?r83
       case h83 => (intro w hSw; (try dsimp only at hSw); go_simp; try with_reducible rfl)
       try simp only [Act.put, List.setIfInBounds_toArray, List.set_cons_zero, List.set_cons_succ]
       have c9 := R94.out n2 hn2
       refine wpAnyH_ready (rs := [0, 9]) (by kernel_rfl) (by simp) ?_
       refine (AllReadyH.cons (o := oP0) rfl (fun K hK => ?yc85) (AllReadyH.cons (o := oP9) rfl (fun K hK => ?yc84) AllReadyH.nil))
       case' yc85 =>
        go_simp
        have H95 := ydA H94 zN
        have R95 := yrN (v84.alloc zT) (v84.heap.size + 1) (by simp)
        have QB95 := yrA R94 zN
        clear hHeld
        refine hK.out _ _ trivial (fun hHeld => ?_)
        clear hK K
        try simp only [Act.put, List.setIfInBounds_toArray, List.set_cons_zero, List.set_cons_succ]
        refine wpAnyH_take (i := 3) (oi := oP3) (v := ?v86) rfl (by kernel_rfl) (by kernel_rfl) (by kernel_rfl) (fun _ _ _ h => h) (Or.inl ⟨by rfl, ?h86⟩) hHeld ?r86
        case h86 => (intro w hSw; (try dsimp only at hSw); go_simp; try with_reducible rfl)
        try simp only [Act.put, List.setIfInBounds_toArray, List.set_cons_zero, List.set_cons_succ]
        have c4 := R95.out n1 hn1
        have c9 := QB95.out n2 hn2
        refine wpAnyH_ready (rs := [4, 9]) (by kernel_rfl) (by simp) ?_
        refine (AllReadyH.cons (o := oP4) rfl (fun K hK => ?yc88) (AllReadyH.cons (o := oP9) rfl (fun K hK => ?yc87) AllReadyH.nil))
        case' yc88 =>
         go_simp
         clear hHeld
         refine hK.out _ _ trivial (fun hHeld => ?_)
         clear hK K
         try simp only [Act.put, List.setIfInBounds_toArray, List.set_cons_zero, List.set_cons_succ]
         have c9 := QB95.out n2 hn2
         refine wpAnyH_ready (rs := [9]) (by kernel_rfl) (by simp) ?_
         refine (AllReadyH.cons (o := oP9) rfl (fun K hK => ?_) AllReadyH.nil)
         go_simp
         clear hHeld
         refine hK.out _ _ trivial (fun hHeld => ?_)
         clear hK K
         try simp only [Act.put, List.setIfInBounds_toArray, List.set_cons_zero, List.set_cons_succ]
         have HLF := H95
        case' yc87 =>
         go_simp
         clear hHeld
         refine hK.out _ _ trivial (fun hHeld => ?_)
         clear hK K
         try simp only [Act.put, List.setIfInBounds_toArray, List.set_cons_zero, List.set_cons_succ]
         have c4 := R95.out n1 hn1
         refine wpAnyH_ready (rs := [4]) (by kernel_rfl) (by simp) ?_
         refine (AllReadyH.cons (o := oP4) rfl (fun K hK => ?_) AllReadyH.nil)
         go_simp
         clear hHeld
         refine hK.out _ _ trivial (fun hHeld => ?_)
         clear hK K
         try simp only [Act.put, List.setIfInBounds_toArray, List.set_cons_zero, List.set_cons_succ]
         have HLF := H95
       case' yc84 =>
        go_simp
        clear hHeld
        refine hK.out _ _ trivial (fun hHeld => ?_)
        clear hK K
        try simp only [Act.put, List.setIfInBounds_toArray, List.set_cons_zero, List.set_cons_succ]
        refine wpAnyH_ready (rs := [0]) (by kernel_rfl) (by simp) ?_
        refine (AllReadyH.cons (o := oP0) rfl (fun K hK => ?_) AllReadyH.nil)
        go_simp
        have H101 := ydA H94 zN
        have R101 := yrN (v84.alloc zT) (v84.heap.size + 1) (by simp)
        have QB101 := yrA R94 zN
        clear hHeld
        refine hK.out _ _ trivial (fun hHeld => ?_)
        clear hK K
        try simp only [Act.put, List.setIfInBounds_toArray, List.set_cons_zero, List.set_cons_succ]
        refine wpAnyH_take (i := 3) (oi := oP3) (v := ?v89) rfl (by kernel_rfl) (by kernel_rfl) (by kernel_rfl) (fun _ _ _ h => h) (Or.inl ⟨by rfl, ?h89⟩) hHeld ?r89
        case h89 => (intro w hSw; (try dsimp only at hSw); go_simp; try with_reducible rfl)
        try simp only [Act.put, List.setIfInBounds_toArray, List.set_cons_zero, List.set_cons_succ]
        have c4 := R101.out n1 hn1
        refine wpAnyH_ready (rs := [4]) (by kernel_rfl) (by simp) ?_
        refine (AllReadyH.cons (o := oP4) rfl (fun K hK => ?_) AllReadyH.nil)
        go_simp
        clear hHeld
        refine hK.out _ _ trivial (fun hHeld => ?_)
        clear hK K
        try simp only [Act.put, List.setIfInBounds_toArray, List.set_cons_zero, List.set_cons_succ]
        have HLF := H101
    case' yc3 =>
     go_simp
     have H103 := ydA H0 zT
     have R103 := yrT wx.drew (wx.heap.size) (by simp)
     clear hHeld
     refine hK.out _ _ trivial (fun hHeld => ?_)
     clear hK K
     try simp only [Act.put, List.setIfInBounds_toArray, List.set_cons_zero, List.set_cons_succ]
     refine wpAnyH_ready (rs := [0, 2]) (by kernel_rfl) (by simp) ?_
     refine (AllReadyH.cons (o := oP0) rfl (fun K hK => ?yc91) (AllReadyH.cons (o := oP2) rfl (fun K hK => ?yc90) AllReadyH.nil))
     case' yc91 =>
      go_simp
      have H104 := ydA H103 zN
      have R104 := yrN (wx.drew.alloc zT) (wx.heap.size + 1) (by simp)
      have QB104 := yrA R103 zN
      clear hHeld
      refine hK.out _ _ trivial (fun hHeld => ?_)
      clear hK K
      try simp only [Act.put, List.setIfInBounds_toArray, List.set_cons_zero, List.set_cons_succ]
      refine wpAnyH_ready (rs := [2]) (by kernel_rfl) (by simp) ?_
      refine (AllReadyH.cons (o := oP2) rfl (fun K hK => ?_) AllReadyH.nil)
      go_simp
      refine Calls.mono (HP1.out _ H104.out.cur) ?_
      rintro e v105 ⟨rfl, ho105, hz105, hc105⟩
      dsimp only
      have H105 := ydP H104 hlt ho105 hc105
      have QA105 := yrP R104 ho105 (by omega)
      have QB105 := yrP QB104 ho105 (by omega)
      have hg105 : w.heap.size < v105.heap.size := H105.out.box.lt
      clear ho105 hc105 hz105
      clear hHeld
      refine hK.out _ _ trivial (fun hHeld => ?_)
      clear hK K
      try simp only [Act.put, List.setIfInBounds_toArray, List.set_cons_zero, List.set_cons_succ]
      refine wpAnyH_take (i := 3) (oi := oP3) (v := ?v92) rfl (by kernel_rfl) (by kernel_rfl) (by kernel_rfl) (fun _ _ _ h => h) (Or.inl ⟨by rfl, ?h92⟩) hHeld ?r92
      case h92 => (intro w hSw; (try dsimp only at hSw); go_simp; try with_reducible rfl)
      try simp only [Act.put, List.setIfInBounds_toArray, List.set_cons_zero, List.set_cons_succ]
      have c4 := QA105.out n1 hn1
      refine wpAnyH_ready (rs := [4, 7]) (by kernel_rfl) (by simp) ?_
      refine (AllReadyH.cons (o := oP4) rfl (fun K hK => ?yc94) (AllReadyH.cons (o := oP7) rfl (fun K hK => ?yc93) AllReadyH.nil))
      case' yc94 =>
       go_simp
       clear hHeld
       refine hK.out _ _ trivial (fun hHeld => ?_)
       clear hK K
       try simp only [Act.put, List.setIfInBounds_toArray, List.set_cons_zero, List.set_cons_succ]
       refine wpAnyH_ready (rs := [7]) (by kernel_rfl) (by simp) ?_
       refine (AllReadyH.cons (o := oP7) rfl (fun K hK => ?_) AllReadyH.nil)
       go_simp
       refine Calls.mono (HP2.out _ H105.out.cur) ?_
       rintro e v107 ⟨rfl, ho107, hz107, hc107⟩
       dsimp only
       have H107 := ydP H105 hlt ho107 hc107
       have QA107 := yrP QA105 ho107 (by omega)
       have QB107 := yrP QB105 ho107 (by omega)
       have hg107 : w.heap.size < v107.heap.size := H107.out.box.lt
       clear ho107 hc107 hz107
       clear hHeld
       refine hK.out _ _ trivial (fun hHeld => ?_)
       clear hK K
       try simp only [Act.put, List.setIfInBounds_toArray, List.set_cons_zero, List.set_cons_succ]
       refine wpAnyH_take (i := 8) (oi := oP8) (v := ?v95) rfl (by kernel_rfl) (by kernel_rfl) (by kernel_rfl) (fun _ _ _ h => h) (Or.inl ⟨by rfl, ?h95⟩) hHeld ?r95
       case h95 => (intro w hSw; (try dsimp only at hSw); go_simp; try with_reducible rfl)
       try simp only [Act.put, List.setIfInBounds_toArray, List.set_cons_zero, List.set_cons_succ]
       have c9 := QB107.out n2 hn2
       refine wpAnyH_ready (rs := [9]) (by kernel_rfl) (by simp) ?_
       refine (AllReadyH.cons (o := oP9) rfl (fun K hK => ?_) AllReadyH.nil)
       go_simp
       clear hHeld
       refine hK.out _ _ trivial (fun hHeld => ?_)
       clear hK K
       try simp only [Act.put, List.setIfInBounds_toArray, List.set_cons_zero, List.set_cons_succ]
       have HLF := H107
      case' yc93 =>
       go_simp
       refine Calls.mono (HP2.out _ H105.out.cur) ?_
       rintro e v109 ⟨rfl, ho109, hz109, hc109⟩
       dsimp only
       have H109 := ydP H105 hlt ho109 hc109
       have QA109 := yrP QA105 ho109 (by omega)
       have QB109 := yrP QB105 ho109 (by omega)
       have hg109 : w.heap.size < v109.heap.size := H109.out.box.lt
       clear ho109 hc109 hz109
       clear hHeld
       refine hK.out _ _ trivial (fun hHeld => ?_)
       clear hK K
       try simp only [Act.put, List.setIfInBounds_toArray, List.set_cons_zero, List.set_cons_succ]
       refine wpAnyH_take (i := 8) (oi := oP8) (v := ?v96) rfl (by kernel_rfl) (by kernel_rfl) (by kernel_rfl) (fun _ _ _ h => h) (Or.inl ⟨by rfl, ?h96⟩) hHeld ?r96
       case h96 => (intro w hSw; (try dsimp only at hSw); go_simp; try with_reducible rfl)
       try simp only [Act.put, List.setIfInBounds_toArray, List.set_cons_zero, List.set_cons_succ]
       have c4 := QA109.out n1 hn1
       have c9 := QB109.out n2 hn2
       refine wpAnyH_ready (rs := [4, 9]) (by kernel_rfl) (by simp) ?_
       refine (AllReadyH.cons (o := oP4) rfl (fun K hK => ?yc98) (AllReadyH.cons (o := oP9) rfl (fun K hK => ?yc97) AllReadyH.nil))
       case' yc98 =>
        go_simp
        clear hHeld
        refine hK.out _ _ trivial (fun hHeld => ?_)
        clear hK K
        try simp only [Act.put, List.setIfInBounds_toArray, List.set_cons_zero, List.set_cons_succ]
        have c9 := QB109.out n2 hn2
        refine wpAnyH_ready (rs := [9]) (by kernel_rfl) (by simp) ?_
        refine (AllReadyH.cons (o := oP9) rfl (fun K hK => ?_) AllReadyH.nil)
        go_simp
        clear hHeld
        refine hK.out _ _ trivial (fun hHeld => ?_)
        clear hK K
        try simp only [Act.put, List.setIfInBounds_toArray, List.set_cons_zero, List.set_cons_succ]
        have HLF := H109
       case' yc97 =>
        go_simp
        clear hHeld
        refine hK.out _ _ trivial (fun hHeld => ?_)
        clear hK K
        try simp only [Act.put, List.setIfInBounds_toArray, List.set_cons_zero, List.set_cons_succ]
        have c4 := QA109.out n1 hn1
        refine wpAnyH_ready (rs := [4]) (by kernel_rfl) (by simp) ?_
        refine (AllReadyH.cons (o := oP4) rfl (fun K hK => ?_) AllReadyH.nil)
        go_simp
        clear hHeld
        refine hK.out _ _ trivial (fun hHeld => ?_)
        clear hK K
        try simp only [Act.put, List.setIfInBounds_toArray, List.set_cons_zero, List.set_cons_succ]
        have HLF := H109
     case' yc90 =>
      go_simp
      refine Calls.mono (HP1.out _ H103.out.cur) ?_
      rintro e v114 ⟨rfl, ho114, hz114, hc114⟩
      dsimp only
      have H114 := ydP H103 hlt ho114 hc114
      have QB114 := yrP R103 ho114 (by omega)
      have hg114 : w.heap.size < v114.heap.size := H114.out.box.lt
      clear ho114 hc114 hz114
      clear hHeld
      refine hK.out _ _ trivial (fun hHeld => ?_)
      clear hK K
      try simp only [Act.put, List.setIfInBounds_toArray, List.set_cons_zero, List.set_cons_succ]
      refine wpAnyH_ready (rs := [0, 7]) (by kernel_rfl) (by simp) ?_
      refine (AllReadyH.cons (o := oP0) rfl (fun K hK => ?yc100) (AllReadyH.cons (o := oP7) rfl (fun K hK => ?yc99) AllReadyH.nil))
      case' yc100 =>
       go_simp
       have H115 := ydA H114 zN
       have R115 := yrN v114 (v114.heap.size) (by simp)
       have QB115 := yrA QB114 zN
       clear hHeld
       refine hK.out _ _ trivial (fun hHeld => ?_)
       clear hK K
       try simp only [Act.put, List.setIfInBounds_toArray, List.set_cons_zero, List.set_cons_succ]
       refine wpAnyH_take (i := 3) (oi := oP3) (v := ?v101) rfl (by kernel_rfl) (by kernel_rfl) (by kernel_rfl) (fun _ _ _ h => h) (Or.inl ⟨by rfl, ?h101⟩) hHeld ?r101
       case h101 => (intro w hSw; (try dsimp only at hSw); go_simp; try with_reducible rfl)
       try simp only [Act.put, List.setIfInBounds_toArray, List.set_cons_zero, List.set_cons_succ]
       have c4 := R115.out n1 hn1
       refine wpAnyH_ready (rs := [4, 7]) (by kernel_rfl) (by simp) ?_
       refine (AllReadyH.cons (o := oP4) rfl (fun K hK => ?yc103) (AllReadyH.cons (o := oP7) rfl (fun K hK => ?yc102) AllReadyH.nil))
       case' yc103 =>
        go_simp
        clear hHeld
        refine hK.out _ _ trivial (fun hHeld => ?_)
        clear hK K
        try simp only [Act.put, List.setIfInBounds_toArray, List.set_cons_zero, List.set_cons_succ]
        refine wpAnyH_ready (rs := [7]) (by kernel_rfl) (by simp) ?_
        refine (AllReadyH.cons (o := oP7) rfl (fun K hK => ?_) AllReadyH.nil)
        go_simp
        refine Calls.mono (HP2.out _ H115.out.cur) ?_
        rintro e v117 ⟨rfl, ho117, hz117, hc117⟩
        dsimp only
        have H117 := ydP H115 hlt ho117 hc117
        have QA117 := yrP R115 ho117 (by omega)
        have QB117 := yrP QB115 ho117 (by omega)
        have hg117 : w.heap.size < v117.heap.size := H117.out.box.lt
        clear ho117 hc117 hz117
        clear hHeld
        refine hK.out _ _ trivial (fun hHeld => ?_)
        clear hK K
        try simp only [Act.put, List.setIfInBounds_toArray, List.set_cons_zero, List.set_cons_succ]
        refine wpAnyH_take (i := 8) (oi := oP8) (v := ?v104) rfl (by kernel_rfl) (by kernel_rfl) (by kernel_rfl) (fun _ _ _ h => h) (Or.inl ⟨by rfl, ?h104⟩) hHeld ?r104
        case h104 => (intro w hSw; (try dsimp only at hSw); go_simp; try with_reducible rfl)
        try simp only [Act.put, List.setIfInBounds_toArray, List.set_cons_zero, List.set_cons_succ]
        have c9 := QB117.out n2 hn2
        refine wpAnyH_ready (rs := [9]) (by kernel_rfl) (by simp) ?_
        refine (AllReadyH.cons (o := oP9) rfl (fun K hK => ?_) AllReadyH.nil)
        go_simp
        clear hHeld
        refine hK.out _ _ trivial (fun hHeld => ?_)
        clear hK K
        try simp only [Act.put, List.setIfInBounds_toArray, List.set_cons_zero, List.set_cons_succ]
        have HLF := H117
       case' yc102 =>
        go_simp
        refine Calls.mono (HP2.out _ H115.out.cur) ?_
        rintro e v119 ⟨rfl, ho119, hz119, hc119⟩
        dsimp only
        have H119 := ydP H115 hlt ho119 hc119
        have QA119 := yrP R115 ho119 (by omega)
        have QB119 := yrP QB115 ho119 (by omega)
        have hg119 : w.heap.size < v119.heap.size := H119.out.box.lt
        clear ho119 hc119 hz119
        clear hHeld
        refine hK.out _ _ trivial (fun hHeld => ?_)
        clear hK K
        try simp only [Act.put, List.setIfInBounds_toArray, List.set_cons_zero, List.set_cons_succ]
        refine wpAnyH_take (i := 8) (oi := oP8) (v := ?v105) rfl (by kernel_rfl) (by kernel_rfl) (by kernel_rfl) (fun _ _ _ h => h) (Or.inl ⟨by rfl, ?h105⟩) hHeld ?r105
        case h105 => (intro w hSw; (try dsimp only at hSw); go_simp; try with_reducible rfl)
        try simp only [Act.put, List.setIfInBounds_toArray, List.set_cons_zero, List.set_cons_succ]
        have c4 := QA119.out n1 hn1
        have c9 := QB119.out n2 hn2
        refine wpAnyH_ready (rs := [4, 9]) (by kernel_rfl) (by simp) ?_
        refine (AllReadyH.cons (o := oP4) rfl (fun K hK => ?yc107) (AllReadyH.cons (o := oP9) rfl (fun K hK => ?yc106) AllReadyH.nil))
        case' yc107 =>
         go_simp
         clear hHeld
         refine hK.out _ _ trivial (fun hHeld => ?_)
         clear hK K
         try simp only [Act.put, List.setIfInBounds_toArray, List.set_cons_zero, List.set_cons_succ]
         have c9 := QB119.out n2 hn2
         refine wpAnyH_ready (rs := [9]) (by kernel_rfl) (by simp) ?_
         refine (AllReadyH.cons (o := oP9) rfl (fun K hK => ?_) AllReadyH.nil)
         go_simp
         clear hHeld
         refine hK.out _ _ trivial (fun hHeld => ?_)
         clear hK K
         try simp only [Act.put, List.setIfInBounds_toArray, List.set_cons_zero, List.set_cons_succ]
         have HLF := H119
        case' yc106 =>
         go_simp
         clear hHeld
         refine hK.out _ _ trivial (fun hHeld => ?_)
         clear hK K
         try simp only [Act.put, List.setIfInBounds_toArray, List.set_cons_zero, List.set_cons_succ]
         have c4 := QA119.out n1 hn1
         refine wpAnyH_ready (rs := [4]) (by kernel_rfl) (by simp) ?_
         refine (AllReadyH.cons (o := oP4) rfl (fun K hK => ?_) AllReadyH.nil)
         go_simp
         clear hHeld
         refine hK.out _ _ trivial (fun hHeld => ?_)
         clear hK K
         try simp only [Act.put, List.setIfInBounds_toArray, List.set_cons_zero, List.set_cons_succ]
         have HLF := H119
      case' yc99 =>
       go_simp
       refine Calls.mono (HP2.out _ H114.out.cur) ?_
       rintro e v124 ⟨rfl, ho124, hz124, hc124⟩
       dsimp only
       have H124 := ydP H114 hlt ho124 hc124
       have QB124 := yrP QB114 ho124 (by omega)
       have hg124 : w.heap.size < v124.heap.size := H124.out.box.lt
       clear ho124 hc124 hz124
       clear hHeld
       refine hK.out _ _ trivial (fun hHeld => ?_)
       clear hK K
       try simp only [Act.put, List.setIfInBounds_toArray, List.set_cons_zero, List.set_cons_succ]
       refine wpAnyH_take (i := 8) (oi := oP8) (v := ?v108) rfl (by kernel_rfl) (by kernel_rfl) (by kernel_rfl) (fun _ _ _ h => h) (Or.inl ⟨by rfl, ?h108⟩) hHeld ?r108
       case h108 => (intro w hSw; (try dsimp only at hSw); go_simp; try with_reducible rfl)
       try simp only [Act.put, List.setIfInBounds_toArray, List.set_cons_zero, List.set_cons_succ]
       have c9 := QB124.out n2 hn2
       refine wpAnyH_ready (rs := [0, 9]) (by kernel_rfl) (by simp) ?_
       refine (AllReadyH.cons (o := oP0) rfl (fun K hK => ?yc110) (AllReadyH.cons (o := oP9) rfl (fun K hK => ?yc109) AllReadyH.nil))
       case' yc110 =>
        go_simp
        have H125 := ydA H124 zN
        have R125 := yrN v124 (v124.heap.size) (by simp)
        have QB125 := yrA QB124 zN
        clear hHeld
        refine hK.out _ _ trivial (fun hHeld => ?_)
        clear hK K
        try simp only [Act.put, List.setIfInBounds_toArray, List.set_cons_zero, List.set_cons_succ]
        refine wpAnyH_take (i := 3) (oi := oP3) (v := ?v111) rfl (by kernel_rfl) (by kernel_rfl) (by kernel_rfl) (fun _ _ _ h => h) (Or.inl ⟨by rfl, ?h111⟩) hHeld ?r111
        case h111 => (intro w hSw; (try dsimp only at hSw); go_simp; try with_reducible rfl)
        try simp only [Act.put, List.setIfInBounds_toArray, List.set_cons_zero, List.set_cons_succ]
        have c4 := R125.out n1 hn1
        have c9 := QB125.out n2 hn2
        refine wpAnyH_ready (rs := [4, 9]) (by kernel_rfl) (by simp) ?_
        refine (AllReadyH.cons (o := oP4) rfl (fun K hK => ?yc113) (AllReadyH.cons (o := oP9) rfl (fun K hK => ?yc112) AllReadyH.nil))
        case' yc113 =>
         go_simp
         clear hHeld
         refine hK.out _ _ trivial (fun hHeld => ?_)
         clear hK K
         try simp only [Act.put, List.setIfInBounds_toArray, List.set_cons_zero, List.set_cons_succ]
         have c9 := QB125.out n2 hn2
         refine wpAnyH_ready (rs := [9]) (by kernel_rfl) (by simp) ?_
         refine (AllReadyH.cons (o := oP9) rfl (fun K hK => ?_) AllReadyH.nil)
         go_simp
         clear hHeld
         refine hK.out _ _ trivial (fun hHeld => ?_)
         clear hK K
         try simp only [Act.put, List.setIfInBounds_toArray, List.set_cons_zero, List.set_cons_succ]
         have HLF := H125
        case' yc112 =>
         go_simp
         clear hHeld
         refine hK.out _ _ trivial (fun hHeld => ?_)
         clear hK K
         try simp only [Act.put, List.setIfInBounds_toArray, List.set_cons_zero, List.set_cons_succ]
         have c4 := R125.out n1 hn1
         refine wpAnyH_ready (rs := [4]) (by kernel_rfl) (by simp) ?_
         refine (AllReadyH.cons (o := oP4) rfl (fun K hK => ?_) AllReadyH.nil)
         go_simp
         clear hHeld
         refine hK.out _ _ trivial (fun hHeld => ?_)
         clear hK K
         try simp only [Act.put, List.setIfInBounds_toArray, List.set_cons_zero, List.set_cons_succ]
         have HLF := H125
       case' yc109 =>
        go_simp
        clear hHeld
        refine hK.out _ _ trivial (fun hHeld => ?_)
        clear hK K
        try simp only [Act.put, List.setIfInBounds_toArray, List.set_cons_zero, List.set_cons_succ]
        refine wpAnyH_ready (rs := [0]) (by kernel_rfl) (by simp) ?_
        refine (AllReadyH.cons (o := oP0) rfl (fun K hK => ?_) AllReadyH.nil)
        go_simp
        have H131 := ydA H124 zN
        have R131 := yrN v124 (v124.heap.size) (by simp)
        have QB131 := yrA QB124 zN
        clear hHeld
        refine hK.out _ _ trivial (fun hHeld => ?_)
        clear hK K
        try simp only [Act.put, List.setIfInBounds_toArray, List.set_cons_zero, List.set_cons_succ]
        refine wpAnyH_take (i := 3) (oi := oP3) (v := ?v114) rfl (by kernel_rfl) (by kernel_rfl) (by kernel_rfl) (fun _ _ _ h => h) (Or.inl ⟨by rfl, ?h114⟩) hHeld ?r114
        case h114 => (intro w hSw; (try dsimp only at hSw); go_simp; try with_reducible rfl)
        try simp only [Act.put, List.setIfInBounds_toArray, List.set_cons_zero, List.set_cons_succ]
        have c4 := R131.out n1 hn1
        refine wpAnyH_ready (rs := [4]) (by kernel_rfl) (by simp) ?_
        refine (AllReadyH.cons (o := oP4) rfl (fun K hK => ?_) AllReadyH.nil)
        go_simp
        clear hHeld
        refine hK.out _ _ trivial (fun hHeld => ?_)
        clear hK K
        try simp only [Act.put, List.setIfInBounds_toArray, List.set_cons_zero, List.set_cons_succ]
        have HLF := H131
    all_goals
     refine wpAnyH_ready (rs := [10]) (by kernel_rfl) (by simp) ?_
     refine (AllReadyH.cons (o := oP10) rfl (fun K hK => ?_) AllReadyH.nil)
     go_simp
     refine Calls.mono (leafD_any (pickOf lfN n1) (pickOf lfT n2) _) ?_
     rintro e w9 ⟨rfl, hb9⟩
     dsimp only
     have H9 := ydB HLF hb9
     obtain ⟨Z0, Z1, Z2, Z3⟩ := H9.out.box.cells
     have y0 := H9.out.box.frozen 0
     have y1 := H9.out.box.frozen 1
     have y2 := H9.out.box.frozen 2
     have y3 := H9.out.box.frozen 3
     clear hHeld
     refine hK.out _ _ trivial (fun hHeld => ?_)
     clear hK K
     try simp only [Act.put, List.setIfInBounds_toArray, List.set_cons_zero, List.set_cons_succ]
     refine wpAnyH_ready (rs := [11]) (by kernel_rfl) (by simp) ?_
     refine (AllReadyH.cons (o := oP11) rfl (fun K hK => ?_) AllReadyH.nil)
     go_simp
     clear hHeld
     refine hK.out _ _ trivial (fun hHeld => ?_)
     clear hK K
     try simp only [Act.put, List.setIfInBounds_toArray, List.set_cons_zero, List.set_cons_succ]
     refine wpAnyH_done (by kernel_rfl) ?_ _
     (try refine NoPanic.normal ?_)
     go_wp2_with fail
     refine bodyPost_ret (v := .agg #[.string (pickOf lfN n1), .string (pickOf lfT n2), .bool true, .slice none 0 0]) (by simp [results, Try.results37, go_sem, Z0, Z1, Z2, Z3]) rfl ?_
     exact HFL.out _ H9.out
  | succ d =>
    have HTM := (show Hid (PaC cs a cap b off c d) from HIH.out d rfl)
    have HEQ := (show Hid (cPat cs (d + 1) s = cPn cs (cPat cs d) (cPick cs 3 (cPick cs 3 s).2).1 (cPick cs 3 (cPick cs 3 s).2).2) from (by
      show cPat cs (d + 1) s = _
      rw [cPat, if_neg hk]))
    clear HIH
    have hd1 : ¬ (((d + 1 : Nat) : Int) ≤ 0) := by omega
    have hsub : ((d + 1 : Nat) : Int) - 1 = d := by omega
    have hm := cPick_lt cs 3 (cPick cs 3 s).2 (by decide)
    generalize cPick cs 3 s = q at *
    obtain ⟨q, s1⟩ := q
    dsimp only at *
    have HP4 := (show Hid _ from fun (W : World) (h : Cur W cs a cap b off c s1) => HP.out 3 W s1 h (by decide))
    generalize cPick cs 3 s1 = q1 at *
    obtain ⟨m, s2⟩ := q1
    dsimp only at *
    obtain ⟨i28, hi28, hzz⟩ := Option.map_eq_some_iff.1 info26
    simp only [Prod.mk.injEq] at hzz
    obtain ⟨hz0, hz1, hz2⟩ := hzz
    go_enter Try.func37, Try.ntmps37
    go_wp2_with fail
    refine Calls.mono HC.out ?_
    rintro e w1 ⟨rfl, ho1, hs1, hc1⟩
    have H1 := ydP H0 hlt ho1 hc1
    have hg1 : w.heap.size < w1.heap.size := H1.out.box.lt
    have HG1 := (show Hid (Grw (cKids (cPat cs d) m s2) (w.heap.size + 1) 0 (.slice (some ⟨w1.heap.size, 0, none⟩) 0 0) (w1.alloc (.cells #[] 26))) from Grw.made w1 (w.heap.size + 1) (cKids (cPat cs d) m s2) (by omega))
    have H1a := ydA H1 (.cells #[] 26)
    clear ho1 hs1 hc1 HC H0 H1
    go_wp2_with fail
    refine Calls.mono (HP4.out _ H1a.out.cur) ?_
    rintro e w2 ⟨rfl, ho2, hs2, hc2⟩
    have H2 := (show Hid _ from (⟨Out.trans H1a.out.out ho2, hc2, Box4.out H1a.out.box ho2 hlt, Grw.out HG1.out ho2 (by omega)⟩ : Out c (c + 1) w w2 ∧ Cur w2 cs a cap b off c s2 ∧ Box4 w2 w.heap.size (.string ByteArray.empty) (.string ByteArray.empty) (.bool false) (.slice none 0 0) ∧ _)); clear ho2 hc2 hs2 HP4 H1a HG1
    go_wp2_with fail
    go_loopw [5, 6] (fun u i wr => ∃ (j : Nat), j ≤ m ∧ i = .int .i64 (m - j : Nat) ∧ (∃ a' m' c', u = .slice a' m' c') ∧ w.heap.size + 1 ≤ wr.heap.size ∧ Hid (Out c (c + 1) w wr ∧ Cur wr cs a cap b off c (cSt (cPat cs d) j s2) ∧ Box4 wr w.heap.size (.string ByteArray.empty) (.string ByteArray.empty) (.bool false) (.slice none 0 0) ∧ Grw (cKids (cPat cs d) m s2) (w.heap.size + 1) j u wr)) (fun _ i _ => (intOf i).toNat)
    case atStart => exact ⟨0, Nat.zero_le _, rfl, ⟨_, _, _, rfl⟩, by have := H2.out.2.2.1.lt; omega, H2.out⟩
    case round =>
      obtain ⟨j, hj, rfl, ⟨a', m', c', rfl⟩, hwz, HR⟩ := hrel
      by_cases hlj : j < m
      · have hmj : (0 : Int) < ((m - j : Nat) : Int) := by omega
        have hcl := HTM.out _ wr HR.out.2.1
        have HCL := (show Hid _ from hcl); clear hcl
        have hnm := cPat_nm cs d (cSt (cPat cs d) j s2)
        have hnt : nth (cKids (cPat cs d) m s2) j = (cPat cs d (cSt (cPat cs d) j s2)).1 := cKids_nth _ _ _ _ hlj
        have hst : cSt (cPat cs d) (j + 1) s2 = (cPat cs d (cSt (cPat cs d) j s2)).2 := rfl
        have HE := (show Hid _ from (⟨hnt, hst⟩ : _ ∧ _)); clear hnt hst
        generalize hkd : cPat cs d (cSt (cPat cs d) j s2) = kd at *
        obtain ⟨kd, s3⟩ := kd
        dsimp only at hnm HE
        generalize hmm : m - j = mj at *
        go_wp2_with fail
        refine Calls.mono HCL.out ?_
        rintro e w3 ⟨xa, xm, xc, rfl, ho3, hc3, hg3⟩
        dsimp only at hc3 hg3 ⊢
        obtain ⟨fs, ls, hs, hown, hls, hr, hd'⟩ := HR.out.2.2.2
        have hok := Grw.done (n := kd.name) (x := kd.text) (le := kd.leaf) hg3 hnm.1 hnm.2
        have hkd' : Own w3 wr.heap.size w3.heap.size kd (.slice xa xm xc) := by cases kd; exact hok
        have hG := Grw.out (⟨fs, ls, hs, hown, hls, hr, hd'⟩ : Grw (cKids (cPat cs d) m s2) (w.heap.size + 1) j (.slice a' m' c') wr) ho3 (by omega)
        have hls3 : ∀ i, i < j → Own w3 (ls i) (hs i) (nth (cKids (cPat cs d) m s2) i) (fs i) := fun i hi => (hls i hi).keep (Nat.le_refl _) (Nat.le_refl _) (fun q h1 h2 h3 => ho3.2.2.2.2 q h3 (by have := (hr i hi).1; omega))
        have hown2 : (w3.alloc (.cells #[.string kd.name, .string kd.text, .bool kd.leaf, .slice xa xm xc] 26)).ownsRow (w.heap.size + 1) 26 4 (.slice a' m' c') j (kc (cKids (cPat cs d) m s2) fs j) := by
          refine own_still (w := w3) ⟨hown.1, ?_⟩ (bel_alloc _ _)
          rcases hown.2 with e | ⟨g, cap', cur, e, hB, hg, rest⟩
          · exact .inl e
          · exact .inr ⟨g, cap', cur, e, hB, (ho3.2.2.2.2 g (Array.getElem?_eq_some_iff.1 hg).1 (by omega)).trans hg, rest⟩
        have HO2 := (show Hid _ from hown2)
        have HF := (show Hid _ from (⟨hkd', hown, hls3, hr, hd', Out.trans HR.out.1 ho3, hc3, Box4.out HR.out.2.2.1 ho3 hlt, ho3.2.2.2.1⟩ : _ ∧ _ ∧ _ ∧ _ ∧ _ ∧ _ ∧ _ ∧ _ ∧ _)); clear hkd' hown hls hls3 hr hd' hown2 hok hG hg3 hc3 ho3
        have hj6 : j + 1 ≤ 4 := by omega
        go_wp2_with (at_builtin; refine wpList_append_lies _ rfl (.tmp 36) (.tmp 41) 24 rfl (w.heap.size + 1) 26 i28 _ 4 64 Try.underlying24 hi28 hz0 hz1 hz2 rfl (by decide) _ j (kc (cKids (cPat cs d) m s2) fs j) rfl HO2.out ⟨w3.heap.size, 0, none⟩ 1 1 [.string kd.name, .string kd.text, .bool kd.leaf, .slice xa xm xc] rfl rfl ?c1 ?c2 (by decide) ?c3 (by omega) ?c5 _ rfl ?nx)
        case c1 => exact cell_four_box _ _ _ _ _ _
        case c2 => intro u hu; simp at hu; rcases hu with rfl | rfl | rfl | rfl <;> rfl
        case c3 => unfold maxLen; omega
        case c5 => have := HF.out.2.2.2.2.2.2.2.2; simp; omega
        case nx =>
          intro g4 cap4 w4 hown4 hgr4 hat4 hlt4
          obtain ⟨hkd', hown, hls3, hr, hd', ho, hc3, hbx, hss⟩ := HF.out
          have hvl := hown.lt
          have hG4 : Grw (cKids (cPat cs d) m s2) (w.heap.size + 1) (j + 1) (.slice (some ⟨g4, 0, none⟩) (j + 1) cap4) w4 := by
            have h1 := hkd'
            rw [← HE.out.1] at hown4 h1
            exact Grw.stepO hown (fun i hi => (hls3 i hi).still (bel_alloc _ _)) hr hd' hwz (by simp; omega) (h1.still (bel_alloc _ _)) (Nat.le_refl _) (by simp) hown4 hgr4 (by rw [World.size_alloc]; exact hat4)
          have hblk : ∀ q, q < w.heap.size + 1 → w4.heap[q]? = w3.heap[q]? := fun q hq => (hgr4.block q (by simp; omega) (fun e => by have := hvl q e.symm; omega)).trans ((bel_alloc w3 _).block q (by omega))
          have hsz4 : w3.heap.size + 1 ≤ w4.heap.size := by have := hgr4.size; simp at this; omega
          have ho4 : Out c (c + 1) w w4 := ⟨hgr4.os.trans ho.1, hgr4.tape.trans ho.2.1, hgr4.output.trans ho.2.2.1, by have := ho.2.2.2.1; omega, fun k hk hn => (hblk k (by omega)).trans (ho.2.2.2.2 k hk hn)⟩
          have hc4 := hc3.keep (fun k hk => hblk k (by omega))
          have hb4 := hbx.keep (hblk w.heap.size (by omega))
          rw [← HE.out.2] at hc4
          have HG4 := (show Hid _ from (⟨ho4, hc4, hb4, hG4⟩ : _ ∧ _ ∧ _ ∧ _)); clear ho4 hc4 hb4 hG4 hown4 hgr4 hat4 hkd' hown hls3 hr hd' ho hc3 hbx hblk hvl
          go_wp2_with fail
          exact ⟨⟨j + 1, by omega, val_int (by omega), ⟨_, _, _, rfl⟩, by omega, HG4⟩, by simp [intOf]; omega⟩
      · have hje : j = m := by omega
        subst hje
        have H1 := (show Hid (Ds cs a cap b off c w wr (cSt (cPat cs d) j s2)) from ⟨HR.out.1, HR.out.2.1, HR.out.2.2.1⟩)
        have HG := (show Hid (Grw (cKids (cPat cs d) j s2) (w.heap.size + 1) j (.slice a' m' c') wr) from HR.out.2.2.2)
        have hn := cPick_lt cs 3 (cSt (cPat cs d) j s2) (by decide)
        have HP1 := (show Hid _ from fun (W : World) (h : Cur W cs a cap b off c (cSt (cPat cs d) j s2)) => HP.out 3 W _ h (by decide))
        have HCN := (show Hid (cPn cs (cPat cs d) j s2 = (⟨pickOf poL (cPick cs 3 (cSt (cPat cs d) j s2)).1, ByteArray.empty, false, cKids (cPat cs d) j s2⟩, (cPick cs 3 (cSt (cPat cs d) j s2)).2)) from rfl)
        clear HR HP
        have hg2 : w.heap.size < wr.heap.size := H1.out.box.lt
        have H3 := ydA H1 zP
        have R3 := (show Hid (RowS (wr.alloc zP) wr.heap.size poL) from rowS_new wr poL 9 _ _ rfl rfl)
        generalize cPick cs 3 (cSt (cPat cs d) j s2) = q1 at *
        obtain ⟨n, s3⟩ := q1
        dsimp only at *
        have hn0 : (0 : Int) ≤ (n : Int) := by omega
        have hn1 : (n : Int) < 3 := by omega
        have hz : ((j - j : Nat) : Int) ≤ 0 := by omega
        generalize hjj : j - j = jj at *
        go_wp2_with fail
        refine Calls.mono (HP1.out _ H3.out.cur) ?_
        rintro e w3 ⟨rfl, ho3, hz3, hc3⟩
        have H4 := ydP H3 hlt ho3 hc3
        have c3 := (yrP R3 ho3 (by omega)).out n hn
        have G4 := (show Hid (Grw (cKids (cPat cs d) j s2) (w.heap.size + 1) j (.slice a' m' c') w3) from Grw.out (Grw.still HG.out (bel_alloc _ _)) ho3 (by omega))
        clear ho3 hz3 hc3 H3 R3 HP1 HG H1
        go_wp2_with fail
        refine Calls.mono (nodeD_any (pickOf poL n) _ _ _ w3) ?_
        rintro e w4 ⟨rfl, hb4⟩
        have H5 := ydB H4 hb4
        have G5 := (show Hid (Grw (cKids (cPat cs d) j s2) (w.heap.size + 1) j (.slice a' m' c') w4) from Grw.still G4.out hb4)
        obtain ⟨Z0, Z1, Z2, Z3⟩ := H5.out.box.cells
        have y0 := H5.out.box.frozen 0
        have y1 := H5.out.box.frozen 1
        have y2 := H5.out.box.frozen 2
        have y3 := H5.out.box.frozen 3
        clear hb4 H4 G4
        go_wp2_with fail
        refine bodyPost_ret (v := .agg #[.string (pickOf poL n), .string ByteArray.empty, .bool false, .slice a' m' c']) (by simp [results, Try.results37, go_sem, Z0, Z1, Z2, Z3]) rfl ?_
        rw [HEQ.out, HCN.out]
        refine ⟨a', m', c', rfl, (((H5.out.out.put (Nat.le_refl _)).put (Nat.le_refl _)).put (Nat.le_refl _)).put (Nat.le_refl _), (((Cur.set H5.out.cur hlt).set hlt).set hlt).set hlt, ?_⟩
        dsimp only
        rw [cKids_len]
        exact Grw.low ((((Grw.set G5.out (Nat.lt_succ_self _)).set (Nat.lt_succ_self _)).set (Nat.lt_succ_self _)).set (Nat.lt_succ_self _)) (Nat.le_succ w.heap.size)
theorem drawPat {cs : List UInt8} {a : Option Addr} {cap b off c : Nat} (d : Nat) (hd : d ≤ 6) : PaC cs a cap b off c d := by
  induction d with
  | zero => exact pat_step 0 (by omega) (fun d' h => by omega)
  | succ d ih =>
    refine pat_step (d + 1) hd (fun d' h => ?_)
    have e : d = d' := by omega
    subst e
    exact ih (by omega)
end Go.Proofs.Ytbgoikaelmacbaa
