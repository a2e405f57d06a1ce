import Derived.Test.YtbgoikaelmacbaaYd
import Derived.Deep.RegionHeld3
import Derived.Deep.CutRange
import Derived.Test.YtbgoikaelmacbaaAt2
import Derived.Test.YtbgoikaelmacbaaFc
/-! Drawn patterns, spoilt perhaps: l11DrawSpoiltPattern. -/
namespace Go.Proofs.Ytbgoikaelmacbaa
open Go.RowKit Go.Deep Go.Lib
set_option linter.unusedVariables false
set_option maxRecDepth 100000
set_option linter.unusedSimpArgs false

def addN : ByteArray := ⟨#[65, 100, 100]⟩
def oneN : ByteArray := ⟨#[49]⟩
/-- What l11DrawSpoiltPattern draws. -/
def cSpo (cs : List UInt8) (s : Nat × Nat) : Tr × (Nat × Nat) :=
  if (cPick cs 12 (cPat cs 2 s).2).1 = 0 then cAny cs (cPick cs 12 (cPat cs 2 s).2).2 else
  if (cPick cs 12 (cPat cs 2 s).2).1 = 1 then (nodeT addN [(cPat cs 2 s).1, lf varN oneN], (cPick cs 12 (cPat cs 2 s).2).2) else ((cPat cs 2 s).1, (cPick cs 12 (cPat cs 2 s).2).2)
/-- A tree that lies beyond a block, and not in another. -/
def LiN (W : World) (B g : Nat) (t : Tr) (v : Value) : Prop := Lies W (fun q => B < q ∧ q ≠ g) t v
theorem LiN.still {W W' : World} {B g : Nat} {t : Tr} {v : Value} (h : LiN W B g t v) (hb : Below W.heap.size W W') : LiN W' B g t v := Lies.still h hb
theorem LiN.out {W W' : World} {B g c : Nat} {t : Tr} {v : Value} (h : LiN W B g t v) (ho : Out c (c + 1) W W') (hc : c < B) : LiN W' B g t v :=
  (Lies.mono (fun q hq => hq.1) ((Lies.lt h).keep (fun q hq => ho.2.2.2.2 q hq.2 (by have := hq.1.1; omega))) : Lies W' (fun q => B < q ∧ q ≠ g) t v)
theorem LiN.put {W : World} {B g o : Nat} {t : Tr} {v u : Value} (h : LiN W B g t v) : LiN (W.setCell ⟨g, o, none⟩ u) B g t v := Lies.set h (fun hh => hh.2 rfl)
theorem LiN.drew {W : World} {B g : Nat} {t : Tr} {v : Value} (h : LiN W B g t v) : LiN W.drew B g t v := Lies.keep (w := W) (w' := W.drew) (fun _ _ => rfl) h
theorem LiN.lib {W : World} {B g : Nat} {t : Tr} {v : Value} (h : LiN W B g t v) : LiB W B t v := Lies.mono (fun q hq => hq.1) h
theorem ds_put4 {cs : List UInt8} {a : Option Addr} {cap b off c : Nat} {w W : World} {s : Nat × Nat} {g : Nat} (h : Ds cs a cap b off c w W s) (hg : w.heap.size < g) (hlt : c < w.heap.size) (u0 u1 u2 u3 : Value) : Ds cs a cap b off c w (put4 W g u0 u1 u2 u3) s :=
  ⟨(((h.out.put (by omega)).put (by omega)).put (by omega)).put (by omega), (((Cur.set h.cur (by omega)).set (by omega)).set (by omega)).set (by omega), (((h.box.past (by omega)).past (by omega)).past (by omega)).past (by omega)⟩
abbrev oS0 : Oper := { dst := some 14, op := Go.Op.load 26 (Go.Operand.tmp 3), type := 26, pos := "l11_rewriting.go:481", after := #[], guard := none }
abbrev oS1 : Oper := { dst := some 15, op := Go.Op.call { callee := Go.Callee.value (Go.Operand.func 39), args := #[Go.Operand.const (Go.Value.string { data := #[86, 97, 114] }), Go.Operand.const (Go.Value.string { data := #[49] })], argTypes := #[9, 9] }, type := 26, pos := "l11_rewriting.go:481", after := #[], guard := none }
abbrev oS2 : Oper := { dst := some 16, op := Go.Op.buildSlice 24 2 #[(0, Go.Operand.tmp 14), (1, Go.Operand.tmp 15)], type := 24, pos := "l11_rewriting.go:481", after := #[{ on := 0, ground := Go.Ground.data }, { on := 1, ground := Go.Ground.data }], guard := none }
abbrev oS3 : Oper := { dst := some 17, op := Go.Op.call { callee := Go.Callee.value (Go.Operand.func 38), args := #[Go.Operand.const (Go.Value.string { data := #[65, 100, 100] }), Go.Operand.tmp 16], argTypes := #[9, 24] }, type := 26, pos := "l11_rewriting.go:481", after := #[{ on := 2, ground := Go.Ground.data }, { on := 1, ground := Go.Ground.chain }], guard := none }
abbrev oS4 : Oper := { dst := none, op := Go.Op.store 26 (Go.Operand.tmp 3) (Go.Operand.tmp 17), type := 0, pos := "l11_rewriting.go:481", after := #[{ on := 3, ground := Go.Ground.data }, { on := 3, ground := Go.Ground.chain }, { on := 0, ground := Go.Ground.phase }, { on := 1, ground := Go.Ground.phase }, { on := 2, ground := Go.Ground.phase }, { on := 3, ground := Go.Ground.phase }], guard := none }
set_option maxHeartbeats 12800000 in
theorem drawSpo {cs : List UInt8} {a : Option Addr} {cap b off c : Nat} (s : Nat × Nat) (w : World) (hc : Cur w cs a cap b off c s) :
    Calls Try.prog 15 #[.pointer (some ⟨c, 0, none⟩)] w fun e w' => DrewL cs a cap b off c (cSpo cs s) w e w' := by
  have hlt := hc.lt
  have H0 := (show Hid (Ds cs a cap b off c w (w.alloc zZ) s) from Ds.new hc)
  have HPA := (show Hid _ from drawPat (cs := cs) (a := a) (cap := cap) (b := b) (off := off) (c := c) 2 (by decide) s _ H0.out.cur)
  have hnm := cPat_nm cs 2 s
  have HPK := (show Hid (∀ (n : Nat) (W : World) (s : Nat × Nat), Cur W cs a cap b off c s → n ≤ 1048576 → Calls Try.prog 17 #[.pointer (some ⟨c, 0, none⟩), .int .i64 n] W fun e w' => e = .returned (.int .i64 (cPick cs n s).1) ∧ Out c (c + 1) W w' ∧ w'.heap.size = W.heap.size ∧ Cur w' cs a cap b off c (cPick cs n s).2) from fun n W s h hn => pick_any n W h hn)
  have HAN := (show Hid (∀ (W : World) (s : Nat × Nat), Cur W cs a cap b off c s → Calls Try.prog 19 #[.pointer (some ⟨c, 0, none⟩)] W fun e w' => DrewL cs a cap b off c (cAny cs s) W e w') from fun W s h => drawAny_any s W h)
  have HEQ := (show Hid (cSpo cs s = if (cPick cs 12 (cPat cs 2 s).2).1 = 0 then cAny cs (cPick cs 12 (cPat cs 2 s).2).2 else
  if (cPick cs 12 (cPat cs 2 s).2).1 = 1 then (nodeT addN [(cPat cs 2 s).1, lf varN oneN], (cPick cs 12 (cPat cs 2 s).2).2) else ((cPat cs 2 s).1, (cPick cs 12 (cPat cs 2 s).2).2)) from rfl)
  have HE := (show Hid (∀ (r : Tr × (Nat × Nat)) (w9 : World) (s9 : Nat × Nat) (xa : Option Addr) (xm xc : Nat) (u0 u1 u2 u3 : Value), Ds cs a cap b off c w w9 s9 → LiB w9 w.heap.size r.1 (.slice xa xm xc) → r.2 = s9 → DrewL cs a cap b off c r w (.returned (r.1.val (.slice xa xm xc))) (put4 w9 w.heap.size u0 u1 u2 u3)) from fun r w9 s9 xa xm xc u0 u1 u2 u3 h1 h2 h3 => drewL_put hlt h1 h2 h3)
  clear hc
  generalize cPat cs 2 s = q at *
  obtain ⟨p, s1⟩ := q
  dsimp only at *
  have HC12 := (show Hid _ from fun (W : World) (h : Cur W cs a cap b off c s1) => HPK.out 12 W s1 h (by decide))
  generalize cPick cs 12 s1 = q2 at *
  obtain ⟨k, s2⟩ := q2
  dsimp only at *
  go_enter Try.func15, Try.ntmps15
  go_wp2_with fail
  refine Calls.mono HPA.out ?_
  rintro e w1 ⟨xa, xm, xc, rfl, ho1, hc1, hg1⟩
  dsimp only at hc1 hg1 ⊢
  simp only [Tr.val]
  have H1 := ydP H0 hlt ho1 hc1
  have hz1 : w.heap.size < w1.heap.size := H1.out.box.lt
  have hgo := Grw.done (n := p.name) (x := p.text) (le := p.leaf) hg1 hnm.1 hnm.2
  have hgo' : Own w1 (w.alloc zZ).heap.size w1.heap.size p (.slice xa xm xc) := by cases p; exact hgo
  have L1 : LiN w1 w.heap.size w1.heap.size p (.slice xa xm xc) := (Own.lies hgo').mono (fun q hq => ⟨by have h1 := hq.1; simp at h1; omega, by have h2 := hq.2; omega⟩)
  have H2 := ydA H1 (.cells #[.string p.name, .string p.text, .bool p.leaf, .slice xa xm xc] 26)
  have L2 : LiN (w1.alloc (.cells #[.string p.name, .string p.text, .bool p.leaf, .slice xa xm xc] 26)) w.heap.size w1.heap.size p (.slice xa xm xc) := LiN.still L1 (bel_alloc _ _)
  have HL2 := (show Hid _ from (⟨L2, Box4.new w1 (.string p.name) (.string p.text) (.bool p.leaf) (.slice xa xm xc)⟩ : LiN (w1.alloc (.cells #[.string p.name, .string p.text, .bool p.leaf, .slice xa xm xc] 26)) w.heap.size w1.heap.size p (.slice xa xm xc) ∧ Box4 (w1.alloc (.cells #[.string p.name, .string p.text, .bool p.leaf, .slice xa xm xc] 26)) w1.heap.size (.string p.name) (.string p.text) (.bool p.leaf) (.slice xa xm xc)))
  clear ho1 hc1 hg1 hgo hgo' L1 L2 HPA H0 H1 hnm
  go_wp2_with fail
  refine Calls.mono (HC12.out _ H2.out.cur) ?_
  rintro e w3 ⟨rfl, ho3, hz3, hc3⟩
  have H3 := ydP H2 hlt ho3 hc3
  have HL3 := (show Hid (LiN w3 w.heap.size w1.heap.size p (.slice xa xm xc) ∧ Box4 w3 w1.heap.size (.string p.name) (.string p.text) (.bool p.leaf) (.slice xa xm xc)) from ⟨LiN.out HL2.out.1 ho3 hlt, Box4.out HL2.out.2 ho3 (by omega)⟩)
  have hz3' : w1.heap.size < w3.heap.size := HL3.out.2.lt
  clear ho3 hz3 hc3 HC12 H2 HL2
  by_cases h0 : k = 0
  · subst h0
    have hEQ := HEQ.out
    rw [if_pos rfl] at hEQ
    have HEQ2 := (show Hid (cSpo cs s = cAny cs s2) from hEQ)
    have HCA := (show Hid _ from HAN.out w3 s2 H3.out.cur)
    clear hEQ HEQ HAN HPK
    generalize cAny cs s2 = q at *
    obtain ⟨u, s4⟩ := q
    dsimp only at *
    go_wp2_with fail
    refine Calls.mono HCA.out ?_
    rintro e w4 ⟨ya, ym, yc, rfl, ho4, hc4, hl4⟩
    simp only [Tr.val]
    have H4 := ydP H3 hlt ho4 hc4
    have T4 := ylN H3 hl4
    have L4 : LiN w4 w.heap.size w1.heap.size u (.slice ya ym yc) := Lies.mono (fun q hq => by have h2 : w3.heap.size ≤ q := hq; exact ⟨by omega, by omega⟩) hl4
    have G4 := Box4.out HL3.out.2 ho4 (by omega)
    have H5 := (show Hid (Ds cs a cap b off c w (put4 w4 w1.heap.size (.string u.name) (.string u.text) (.bool u.leaf) (.slice ya ym yc)) s4) from ds_put4 H4.out hz1 hlt _ _ _ _)
    have G5 := Box4.set4 G4 (.string u.name) (.string u.text) (.bool u.leaf) (.slice ya ym yc)
    have L5 := (show Hid (LiB (put4 w4 w1.heap.size (.string u.name) (.string u.text) (.bool u.leaf) (.slice ya ym yc)) w.heap.size u (.slice ya ym yc)) from LiN.lib (LiN.put (LiN.put (LiN.put (LiN.put L4)))))
    obtain ⟨A0, A1, A2, A3⟩ := G4.cells
    have x0 := G4.frozen 0
    have x1 := G4.frozen 1
    have x2 := G4.frozen 2
    have x3 := G4.frozen 3
    obtain ⟨B0, B1, B2, B3⟩ := G5.cells
    obtain ⟨Z0, Z1, Z2, Z3⟩ := H5.out.box.cells
    have y0 := H5.out.box.frozen 0
    have y1 := H5.out.box.frozen 1
    have y2 := H5.out.box.frozen 2
    have y3 := H5.out.box.frozen 3
    clear ho4 hc4 hl4 T4 L4 G4 G5 H4 H3 HL3 HCA
    go_wp2_with fail
    refine bodyPost_ret (v := .agg #[.string u.name, .string u.text, .bool u.leaf, .slice ya ym yc]) (by simp [results, Try.results15, go_sem, Z0, Z1, Z2, Z3]) rfl ?_
    rw [HEQ2.out]
    exact HE.out (u, s4) _ s4 _ _ _ _ _ _ _ H5.out L5.out rfl
  have k0 : ((k : Int) == 0) = false := by simp; omega
  clear HAN HPK
  by_cases h1 : k = 1
  · subst h1
    have hEQ := HEQ.out
    rw [if_neg (by decide), if_pos rfl] at hEQ
    have HEQ2 := (show Hid (cSpo cs s = (nodeT addN [p, lf varN oneN], s2)) from hEQ)
    clear hEQ HEQ
    have HLD := (show Hid (LiN w3.drew w.heap.size w1.heap.size p (.slice xa xm xc) ∧ Box4 w3.drew w1.heap.size (.string p.name) (.string p.text) (.bool p.leaf) (.slice xa xm xc)) from ⟨LiN.drew HL3.out.1, HL3.out.2.keep rfl⟩)
    have HD := (show Hid (Ds cs a cap b off c w w3.drew s2) from Ds.drew H3.out)
    obtain ⟨X0, X1, X2, X3⟩ := HL3.out.2.cells
    go_wp2_with fail
    refine wp_region_held_drew (S := fun _ => True) (by kernel_rfl) trivial (fun hHeld => ?_)
    refine wpAnyH_ready (rs := [0, 1]) (by kernel_rfl) (by simp) ?_
    refine (AllReadyH.cons (o := oS0) rfl (fun K hK => ?_) (AllReadyH.cons (o := oS1) rfl (fun K hK => ?_) AllReadyH.nil))
    · unfold oS0
      go_simp
      clear hHeld
      refine hK.out _ _ trivial (fun hHeld => ?_)
      clear hK K
      try simp only [Act.put, List.setIfInBounds_toArray, List.set_cons_zero, List.set_cons_succ]
      refine wpAnyH_ready (rs := [1]) (by kernel_rfl) (by simp) ?_
      refine (AllReadyH.cons (o := oS1) rfl (fun K hK => ?_) AllReadyH.nil)
      unfold oS1
      go_simp
      refine Calls.mono (leafD_any varN oneN _) ?_
      rintro e w5 ⟨rfl, hb5⟩
      dsimp only
      have H5 := ydB HD hb5
      have L5 : LiN w5 w.heap.size w1.heap.size p (.slice xa xm xc) := LiN.still HLD.out.1 hb5
      have G5 := Box4.still HLD.out.2 hb5
      clear hHeld
      refine hK.out _ _ trivial (fun hHeld => ?_)
      clear hK K
      try simp only [Act.put, List.setIfInBounds_toArray, List.set_cons_zero, List.set_cons_succ]
      refine wpAnyH_ready (rs := [2]) (by kernel_rfl) (by simp) ?_
      refine (AllReadyH.cons (o := oS2) rfl (fun K hK => ?_) AllReadyH.nil)
      unfold oS2
      go_simp
      have hz5 : w1.heap.size < w5.heap.size := G5.lt
      have H6 := ydA H5 (.cells #[.string p.name, .string p.text, .bool p.leaf, .slice xa xm xc, .string varN, .string oneN, .bool true, .slice none 0 0] 26)
      have G6 := Box4.still G5 (bel_alloc w5 (.cells #[.string p.name, .string p.text, .bool p.leaf, .slice xa xm xc, .string varN, .string oneN, .bool true, .slice none 0 0] 26))
      have L6 : LiN (w5.alloc (.cells #[.string p.name, .string p.text, .bool p.leaf, .slice xa xm xc, .string varN, .string oneN, .bool true, .slice none 0 0] 26)) w.heap.size w1.heap.size (nodeT addN [p, lf varN oneN]) (.slice (some ⟨w5.heap.size, 0, none⟩) 2 2) := lies_two (LiN.still L5 (bel_alloc _ _)) (lies_nil _ _ _ _ _ (by unfold maxLen; decide) (by unfold maxLen; decide)) (by unfold maxLen; decide) (fun i hi => by rcases (show i = 0 ∨ i = 1 ∨ i = 2 ∨ i = 3 ∨ i = 4 ∨ i = 5 ∨ i = 6 ∨ i = 7 by omega) with rfl | rfl | rfl | rfl | rfl | rfl | rfl | rfl <;> simp [go_sem, lf]) ⟨by omega, by omega⟩
      clear hHeld
      refine hK.out _ _ trivial (fun hHeld => ?_)
      clear hK K
      try simp only [Act.put, List.setIfInBounds_toArray, List.set_cons_zero, List.set_cons_succ]
      refine wpAnyH_ready (rs := [3]) (by kernel_rfl) (by simp) ?_
      refine (AllReadyH.cons (o := oS3) rfl (fun K hK => ?_) AllReadyH.nil)
      unfold oS3
      go_simp
      refine Calls.mono (nodeD_any addN (some ⟨w5.heap.size, 0, none⟩) 2 2 _) ?_
      rintro e w7 ⟨rfl, hb7⟩
      dsimp only
      have H7 := ydB H6 hb7
      have G7 := Box4.still G6 hb7
      have L7 := LiN.still L6 hb7
      have H8 := (show Hid (Ds cs a cap b off c w (put4 w7 w1.heap.size (.string addN) (.string ByteArray.empty) (.bool false) (.slice (some ⟨w5.heap.size, 0, none⟩) 2 2)) s2) from ds_put4 H7.out hz1 hlt _ _ _ _)
      have G8 := Box4.set4 G7 (.string addN) (.string ByteArray.empty) (.bool false) (.slice (some ⟨w5.heap.size, 0, none⟩) 2 2)
      have L8 := (show Hid (LiB (put4 w7 w1.heap.size (.string addN) (.string ByteArray.empty) (.bool false) (.slice (some ⟨w5.heap.size, 0, none⟩) 2 2)) w.heap.size (nodeT addN [p, lf varN oneN]) (.slice (some ⟨w5.heap.size, 0, none⟩) 2 2)) from LiN.lib (LiN.put (LiN.put (LiN.put (LiN.put L7)))))
      obtain ⟨A0, A1, A2, A3⟩ := G7.cells
      have x0 := G7.frozen 0
      have x1 := G7.frozen 1
      have x2 := G7.frozen 2
      have x3 := G7.frozen 3
      obtain ⟨B0, B1, B2, B3⟩ := G8.cells
      obtain ⟨Z0, Z1, Z2, Z3⟩ := H8.out.box.cells
      have y0 := H8.out.box.frozen 0
      have y1 := H8.out.box.frozen 1
      have y2 := H8.out.box.frozen 2
      have y3 := H8.out.box.frozen 3
      clear G7 G8 L7 L6 L5 G6 G5 hb7 hb5
      clear hHeld
      refine hK.out _ _ trivial (fun hHeld => ?_)
      clear hK K
      try simp only [Act.put, List.setIfInBounds_toArray, List.set_cons_zero, List.set_cons_succ]
      refine wpAnyH_ready (rs := [4]) (by kernel_rfl) (by simp) ?_
      refine (AllReadyH.cons (o := oS4) rfl (fun K hK => ?_) AllReadyH.nil)
      unfold oS4
      go_simp
      clear hHeld
      refine hK.out _ _ trivial (fun hHeld => ?_)
      clear hK K
      try simp only [Act.put, List.setIfInBounds_toArray, List.set_cons_zero, List.set_cons_succ]
      refine wpAnyH_done (by kernel_rfl) ?_ _
      (try refine NoPanic.normal ?_)
      go_wp2_with fail
      refine bodyPost_ret (v := .agg #[.string addN, .string ByteArray.empty, .bool false, .slice (some ⟨w5.heap.size, 0, none⟩) 2 2]) (by simp [results, Try.results15, go_sem, Z0, Z1, Z2, Z3]) rfl ?_
      rw [HEQ2.out]
      exact HE.out (nodeT addN [p, lf varN oneN], s2) _ s2 _ _ _ _ _ _ _ H8.out L8.out rfl
    · unfold oS1
      go_simp
      refine Calls.mono (leafD_any varN oneN _) ?_
      rintro e w5 ⟨rfl, hb5⟩
      dsimp only
      have H5 := ydB HD hb5
      have L5 : LiN w5 w.heap.size w1.heap.size p (.slice xa xm xc) := LiN.still HLD.out.1 hb5
      have G5 := Box4.still HLD.out.2 hb5
      obtain ⟨W0, W1, W2, W3⟩ := G5.cells
      clear hHeld
      refine hK.out _ _ trivial (fun hHeld => ?_)
      clear hK K
      try simp only [Act.put, List.setIfInBounds_toArray, List.set_cons_zero, List.set_cons_succ]
      refine wpAnyH_ready (rs := [0]) (by kernel_rfl) (by simp) ?_
      refine (AllReadyH.cons (o := oS0) rfl (fun K hK => ?_) AllReadyH.nil)
      unfold oS0
      go_simp
      clear hHeld
      refine hK.out _ _ trivial (fun hHeld => ?_)
      clear hK K
      try simp only [Act.put, List.setIfInBounds_toArray, List.set_cons_zero, List.set_cons_succ]
      refine wpAnyH_ready (rs := [2]) (by kernel_rfl) (by simp) ?_
      refine (AllReadyH.cons (o := oS2) rfl (fun K hK => ?_) AllReadyH.nil)
      unfold oS2
      go_simp
      have hz5 : w1.heap.size < w5.heap.size := G5.lt
      have H6 := ydA H5 (.cells #[.string p.name, .string p.text, .bool p.leaf, .slice xa xm xc, .string varN, .string oneN, .bool true, .slice none 0 0] 26)
      have G6 := Box4.still G5 (bel_alloc w5 (.cells #[.string p.name, .string p.text, .bool p.leaf, .slice xa xm xc, .string varN, .string oneN, .bool true, .slice none 0 0] 26))
      have L6 : LiN (w5.alloc (.cells #[.string p.name, .string p.text, .bool p.leaf, .slice xa xm xc, .string varN, .string oneN, .bool true, .slice none 0 0] 26)) w.heap.size w1.heap.size (nodeT addN [p, lf varN oneN]) (.slice (some ⟨w5.heap.size, 0, none⟩) 2 2) := lies_two (LiN.still L5 (bel_alloc _ _)) (lies_nil _ _ _ _ _ (by unfold maxLen; decide) (by unfold maxLen; decide)) (by unfold maxLen; decide) (fun i hi => by rcases (show i = 0 ∨ i = 1 ∨ i = 2 ∨ i = 3 ∨ i = 4 ∨ i = 5 ∨ i = 6 ∨ i = 7 by omega) with rfl | rfl | rfl | rfl | rfl | rfl | rfl | rfl <;> simp [go_sem, lf]) ⟨by omega, by omega⟩
      clear hHeld
      refine hK.out _ _ trivial (fun hHeld => ?_)
      clear hK K
      try simp only [Act.put, List.setIfInBounds_toArray, List.set_cons_zero, List.set_cons_succ]
      refine wpAnyH_ready (rs := [3]) (by kernel_rfl) (by simp) ?_
      refine (AllReadyH.cons (o := oS3) rfl (fun K hK => ?_) AllReadyH.nil)
      unfold oS3
      go_simp
      refine Calls.mono (nodeD_any addN (some ⟨w5.heap.size, 0, none⟩) 2 2 _) ?_
      rintro e w7 ⟨rfl, hb7⟩
      dsimp only
      have H7 := ydB H6 hb7
      have G7 := Box4.still G6 hb7
      have L7 := LiN.still L6 hb7
      have H8 := (show Hid (Ds cs a cap b off c w (put4 w7 w1.heap.size (.string addN) (.string ByteArray.empty) (.bool false) (.slice (some ⟨w5.heap.size, 0, none⟩) 2 2)) s2) from ds_put4 H7.out hz1 hlt _ _ _ _)
      have G8 := Box4.set4 G7 (.string addN) (.string ByteArray.empty) (.bool false) (.slice (some ⟨w5.heap.size, 0, none⟩) 2 2)
      have L8 := (show Hid (LiB (put4 w7 w1.heap.size (.string addN) (.string ByteArray.empty) (.bool false) (.slice (some ⟨w5.heap.size, 0, none⟩) 2 2)) w.heap.size (nodeT addN [p, lf varN oneN]) (.slice (some ⟨w5.heap.size, 0, none⟩) 2 2)) from LiN.lib (LiN.put (LiN.put (LiN.put (LiN.put L7)))))
      obtain ⟨A0, A1, A2, A3⟩ := G7.cells
      have x0 := G7.frozen 0
      have x1 := G7.frozen 1
      have x2 := G7.frozen 2
      have x3 := G7.frozen 3
      obtain ⟨B0, B1, B2, B3⟩ := G8.cells
      obtain ⟨Z0, Z1, Z2, Z3⟩ := H8.out.box.cells
      have y0 := H8.out.box.frozen 0
      have y1 := H8.out.box.frozen 1
      have y2 := H8.out.box.frozen 2
      have y3 := H8.out.box.frozen 3
      clear G7 G8 L7 L6 L5 G6 G5 hb7 hb5
      clear hHeld
      refine hK.out _ _ trivial (fun hHeld => ?_)
      clear hK K
      try simp only [Act.put, List.setIfInBounds_toArray, List.set_cons_zero, List.set_cons_succ]
      refine wpAnyH_ready (rs := [4]) (by kernel_rfl) (by simp) ?_
      refine (AllReadyH.cons (o := oS4) rfl (fun K hK => ?_) AllReadyH.nil)
      unfold oS4
      go_simp
      clear hHeld
      refine hK.out _ _ trivial (fun hHeld => ?_)
      clear hK K
      try simp only [Act.put, List.setIfInBounds_toArray, List.set_cons_zero, List.set_cons_succ]
      refine wpAnyH_done (by kernel_rfl) ?_ _
      (try refine NoPanic.normal ?_)
      go_wp2_with fail
      refine bodyPost_ret (v := .agg #[.string addN, .string ByteArray.empty, .bool false, .slice (some ⟨w5.heap.size, 0, none⟩) 2 2]) (by simp [results, Try.results15, go_sem, Z0, Z1, Z2, Z3]) rfl ?_
      rw [HEQ2.out]
      exact HE.out (nodeT addN [p, lf varN oneN], s2) _ s2 _ _ _ _ _ _ _ H8.out L8.out rfl
  have k1 : ((k : Int) == 1) = false := by simp; omega
  have hEQ := HEQ.out
  rw [if_neg h0, if_neg h1] at hEQ
  have HEQ2 := (show Hid (cSpo cs s = (p, s2)) from hEQ)
  have L5 := (show Hid (LiB w3 w.heap.size p (.slice xa xm xc)) from LiN.lib HL3.out.1)
  obtain ⟨B0, B1, B2, B3⟩ := HL3.out.2.cells
  obtain ⟨Z0, Z1, Z2, Z3⟩ := H3.out.box.cells
  have y0 := H3.out.box.frozen 0
  have y1 := H3.out.box.frozen 1
  have y2 := H3.out.box.frozen 2
  have y3 := H3.out.box.frozen 3
  clear hEQ HEQ HL3
  go_wp2_with fail
  refine bodyPost_ret (v := .agg #[.string p.name, .string p.text, .bool p.leaf, .slice xa xm xc]) (by simp [results, Try.results15, go_sem, Z0, Z1, Z2, Z3]) rfl ?_
  rw [HEQ2.out]
  exact HE.out (p, s2) _ s2 _ _ _ _ _ _ _ H3.out L5.out rfl
end Go.Proofs.Ytbgoikaelmacbaa

/-! Drawn patterns and trees: DrawMatch. -/
namespace Go.Proofs.Ytbgoikaelmacbaa
open Go.RowKit Go.Deep Go.Lib
set_option linter.unusedVariables false
set_option maxRecDepth 100000
set_option linter.unusedSimpArgs false

theorem chain_wt : ∀ n, (chainT n).wt ≤ 1 + 2 * n
  | 0 => by
    show Tr.wt ⟨_, _, _, _⟩ ≤ _
    rw [Tr.wt_mk]
    decide
  | n + 1 => by
    have := chain_wt n
    show Tr.wt ⟨_, _, _, _⟩ ≤ _
    rw [Tr.wt_mk]
    have h1 : (⟨#[110]⟩ : ByteArray).size = 1 := rfl
    have h2 : ByteArray.empty.size = 0 := rfl
    simp [Tr.wtL, h1, h2]
    omega
theorem rep_wt (n : Nat) (x : Tr) (nm : ByteArray) : Tr.wt ⟨nm, ByteArray.empty, false, List.replicate n x⟩ ≤ nm.size + n * (x.wt + 1) := by
  rw [Tr.wt_mk]
  have h := wtL_le (List.replicate n x) x.wt (fun y hy => by rw [List.eq_of_mem_replicate hy]; exact Nat.le_refl _)
  have h2 : ByteArray.empty.size = 0 := rfl
  rw [List.length_replicate] at h ⊢
  have e : n * (x.wt + 1) = n * x.wt + n := Nat.mul_succ _ _
  omega
theorem lf_wt (n x : ByteArray) : (lf n x).wt = n.size + x.size := by
  show Tr.wt ⟨_, _, _, _⟩ = _
  rw [Tr.wt_mk]
  simp [Tr.wtL]
theorem spoil_wt (cs : List UInt8) (t : Tr) (k : Nat) (s : Nat × Nat) (h : t.wt ≤ 163840) : (cSpoil cs t k s).1.wt ≤ 200000 := by
  have hk := wt_kids t
  unfold cSpoil
  split
  · have h1 : (pickOf bdL (cPick cs 4 s).1).size ≤ 25 := pickOf_size (by decide) _
    show Tr.wt ⟨_, _, _, _⟩ ≤ _
    rw [Tr.wt_mk]; omega
  split
  · show Tr.wt ⟨_, _, _, _⟩ ≤ _
    rw [Tr.wt_mk]; omega
  split
  · show Tr.wt ⟨_, _, _, _⟩ ≤ _
    rw [Tr.wt_mk, ByteArray.size_append]
    have h1 : (⟨#[113]⟩ : ByteArray).size = 1 := rfl
    omega
  split
  · show Tr.wt ⟨_, _, _, _⟩ ≤ _
    rw [Tr.wt_mk, Tr.wtL_append, List.length_append]
    have h1 : Tr.wtL [dashT] = 1 := by
      have : dashT.wt = 1 := by show Tr.wt ⟨_, _, _, _⟩ = _; rw [Tr.wt_mk]; rfl
      simp [Tr.wtL, this]
    simp only [List.length_cons, List.length_nil]
    omega
  split
  · have h1 := cLoop_le cs 60 2 62 1 s
    have h2 := chain_wt ((cLoop cs 60 2 62 1 s).1 - 1)
    dsimp only
    omega
  split
  · have h1 := cLoop_le cs 1000 2 1002 1 s
    have h2 := rep_wt ((cLoop cs 1000 2 1002 1 s).1 - 1) (lf ⟨#[107]⟩ ⟨#[]⟩) ⟨#[110]⟩
    have h3 : (lf ⟨#[107]⟩ ⟨#[]⟩).wt = 1 := lf_wt _ _
    have h4 : (⟨#[110]⟩ : ByteArray).size = 1 := rfl
    rw [h3, h4] at h2
    dsimp only
    omega
  split
  · have h1 := cPick_lt cs 2 s (by decide)
    dsimp only
    rw [lf_wt, zs_size]
    have h4 : (⟨#[97]⟩ : ByteArray).size = 1 := rfl
    omega
  split
  · have h1 := cLoop_le cs 24 3 27 0 s
    have h2 := rep_wt ((cLoop cs 24 3 27 0 s).1) (lf ⟨#[97, 98, 99]⟩ (zs 200)) ⟨#[110]⟩
    have h3 : (lf ⟨#[97, 98, 99]⟩ (zs 200)).wt = 203 := by rw [lf_wt, zs_size]; rfl
    have h4 : (⟨#[110]⟩ : ByteArray).size = 1 := rfl
    rw [h3, h4] at h2
    dsimp only
    omega
  · dsimp only; omega
theorem cAny_wt (cs : List UInt8) (s : Nat × Nat) : (cAny cs s).1.wt ≤ 200000 := by
  unfold cAny
  refine spoil_wt cs _ _ _ ?_
  have h1 := cTree_wt cs (1 + (cSize cs 5 s).1) (cSize cs 5 s).2
  have h2 := cSize_le cs 5 s
  have h3 : 4 ^ (1 + (cSize cs 5 s).1) ≤ 4 ^ 6 := Nat.pow_le_pow_right (by decide) (by omega)
  omega

theorem cLf_wt (cs : List UInt8) (s : Nat × Nat) : (cLf cs s).1.wt ≤ 48 := by
  have h1 : (pickOf lfN (cPick cs 2 s).1).size ≤ 24 := pickOf_size (by decide) _
  have h2 : (pickOf lfT (cPick cs 3 (cPick cs 2 s).2).1).size ≤ 24 := pickOf_size (by decide) _
  show (lf _ _).wt ≤ 48
  rw [lf_wt]
  omega
theorem cTerm_wt (cs : List UInt8) : ∀ d s, (cTerm cs d s).1.wt ≤ 100 * 3 ^ d
  | 0, s => by
    have := cLf_wt cs s
    show (cLf cs s).1.wt ≤ _
    omega
  | d + 1, s => by
    have e : 3 ^ (d + 1) = 3 * 3 ^ d := by rw [Nat.pow_succ, Nat.mul_comm]
    have hp : 1 ≤ 3 ^ d := Nat.one_le_pow _ _ (by decide)
    rw [cTerm]
    split
    · have := cLf_wt cs (cPick cs 4 s).2
      omega
    · split
      · have h1 := cTerm_wt cs d (cPick cs 3 (cPick cs 4 s).2).2
        show (nodeT _ _).wt ≤ _
        unfold nodeT
        rw [Tr.wt_mk]
        have hn : negN.size = 3 := rfl
        have he : ByteArray.empty.size = 0 := rfl
        simp [Tr.wtL]
        omega
      · have h1 := cTerm_wt cs d (cPick cs 3 (cPick cs 4 s).2).2
        have h2 := cTerm_wt cs d (cTerm cs d (cPick cs 3 (cPick cs 4 s).2).2).2
        have hn : (pickOf opL (cPick cs 3 (cPick cs 4 s).2).1).size ≤ 24 := pickOf_size (by decide) _
        show (nodeT _ _).wt ≤ _
        unfold nodeT
        rw [Tr.wt_mk]
        have he : ByteArray.empty.size = 0 := rfl
        simp [Tr.wtL]
        omega
def xN : ByteArray := ⟨#[120]⟩
def yN : ByteArray := ⟨#[121]⟩
def zN' : ByteArray := ⟨#[122]⟩
/-- The begin of what DrawMatch draws: a pattern, a tree, and whether the tree is filled. -/
def cM1 (cs : List UInt8) : Tr × (Nat × Nat) := cSpo cs (0, 17 + cs.length)
def cM2 (cs : List UInt8) : Tr × (Nat × Nat) := cTerm cs 3 (cM1 cs).2
def cMk (cs : List UInt8) : Nat × (Nat × Nat) := cPick cs 2 (cM2 cs).2
def cMx (cs : List UInt8) : Tr × (Nat × Nat) := cTerm cs 1 (cMk cs).2
def cMy (cs : List UInt8) : Tr × (Nat × Nat) := cTerm cs 1 (cMx cs).2
def cMz (cs : List UInt8) : Tr × (Nat × Nat) := cTerm cs 1 (cMy cs).2
def cMb (cs : List UInt8) : List (ByteArray × Tr) := [(xN, (cMx cs).1), (yN, (cMy cs).1), (zN', (cMz cs).1)]
/-- The tree, filled or not. -/
def cM3 (cs : List UInt8) : Tr × (Nat × Nat) :=
  if (cMk cs).1 = 0 then ((if (fiR (cM1 cs).1 (cMb cs)).2 = 0 then (fiR (cM1 cs).1 (cMb cs)).1 else (cM2 cs).1), (cMz cs).2) else ((cM2 cs).1, (cMk cs).2)
def cM4 (cs : List UInt8) : Nat × (Nat × Nat) := cPick cs 16 (cM3 cs).2
/-- What DrawMatch draws. -/
def cMp (cs : List UInt8) : Tr := (cM1 cs).1
def cMt (cs : List UInt8) : Tr := if (cM4 cs).1 = 0 then (cAny cs (cM4 cs).2).1 else (cM3 cs).1
theorem fi_ok {p : Tr} {bl : List (ByteArray × Tr)} (h : (fiR p bl).2 = 0) : (fiR p bl).1.ok = true := by
  unfold fiR at h ⊢
  split
  · rename_i h1
    rw [if_pos h1] at h
    split
    · rename_i h2
      rw [if_pos h2] at h
      split
      · rename_i h3
        exact h3
      · rename_i h3
        rw [if_neg h3] at h
        cases h
    · rename_i h2
      rw [if_neg h2] at h
      cases h
  · rename_i h1
    rw [if_neg h1] at h
    cases h
theorem cMt_wt (cs : List UInt8) : (cMt cs).wt ≤ 1048576 := by
  have hc : (cM2 cs).1.wt ≤ 1048576 := Nat.le_trans (cTerm_wt cs 3 _) (by decide)
  unfold cMt
  split
  · exact Nat.le_trans (cAny_wt cs _) (by decide)
  · unfold cM3
    split
    · dsimp only
      split
      · rename_i h
        exact ok_wt (fi_ok h)
      · exact hc
    · exact hc
/-- What stands while DrawMatch draws: both answers' blocks (r2, r2 + 1), the pattern's (g5), the tree's (g6). -/
structure Dm (cs : List UInt8) (a : Option Addr) (cap b off c : Nat) (w3 : World) (r2 g5 g6 : Nat) (W : World) (s : Nat × Nat) (p : Tr) (pv : Value) (t : Tr) (tv : Value) : Prop where
  out : Out c (c + 1) w3 W
  cur : Cur W cs a cap b off c s
  b2 : Box4 W r2 (.string ByteArray.empty) (.string ByteArray.empty) (.bool false) (.slice none 0 0)
  b3 : Box4 W (r2 + 1) (.string ByteArray.empty) (.string ByteArray.empty) (.bool false) (.slice none 0 0)
  b5 : Box4 W g5 (.string p.name) (.string p.text) (.bool p.leaf) pv
  b6 : Box4 W g6 (.string t.name) (.string t.text) (.bool t.leaf) tv
  lp : LiN W c g6 p pv
  lt : LiN W c g6 t tv
theorem ymB {cs : List UInt8} {a : Option Addr} {cap b off c r2 g5 g6 : Nat} {w3 : World} {W W' : World} {s : Nat × Nat} {p t : Tr} {pv tv : Value} (h : Hid (Dm cs a cap b off c w3 r2 g5 g6 W s p pv t tv)) (hb : Below W.heap.size W W') : Hid (Dm cs a cap b off c w3 r2 g5 g6 W' s p pv t tv) :=
  (⟨Out.below h.out.out hb, h.out.cur.still hb, h.out.b2.still hb, h.out.b3.still hb, h.out.b5.still hb, h.out.b6.still hb, h.out.lp.still hb, h.out.lt.still hb⟩ : Dm cs a cap b off c w3 r2 g5 g6 W' s p pv t tv)
theorem ymP {cs : List UInt8} {a : Option Addr} {cap b off c r2 g5 g6 : Nat} {w3 : World} {W W' : World} {s s' : Nat × Nat} {p t : Tr} {pv tv : Value} (h : Hid (Dm cs a cap b off c w3 r2 g5 g6 W s p pv t tv)) (hr : r2 + 1 < c) (hg : c < g5 ∧ c < g6) (ho : Out c (c + 1) W W') (hc : Cur W' cs a cap b off c s') : Hid (Dm cs a cap b off c w3 r2 g5 g6 W' s' p pv t tv) :=
  (⟨h.out.out.trans ho, hc, h.out.b2.keep (ho.2.2.2.2 _ h.out.b2.lt (by omega)), h.out.b3.keep (ho.2.2.2.2 _ h.out.b3.lt (by omega)), h.out.b5.keep (ho.2.2.2.2 _ h.out.b5.lt (by omega)), h.out.b6.keep (ho.2.2.2.2 _ h.out.b6.lt (by omega)), Lies.mono (fun q hq => hq.1) ((Lies.lt h.out.lp).keep (fun q hq => ho.2.2.2.2 q hq.2 (by have := hq.1.1; omega))), Lies.mono (fun q hq => hq.1) ((Lies.lt h.out.lt).keep (fun q hq => ho.2.2.2.2 q hq.2 (by have := hq.1.1; omega)))⟩ : Dm cs a cap b off c w3 r2 g5 g6 W' s' p pv t tv)
theorem ymT {cs : List UInt8} {a : Option Addr} {cap b off c r2 g5 g6 : Nat} {w3 : World} {W : World} {s : Nat × Nat} {p t u : Tr} {pv tv uv : Value} (h : Hid (Dm cs a cap b off c w3 r2 g5 g6 W s p pv t tv)) (hr : r2 + 1 < c) (hg : c < g5 ∧ g5 < g6) (hz : w3.heap.size ≤ g6) (hu : LiN W c g6 u uv) : Hid (Dm cs a cap b off c w3 r2 g5 g6 (put4 W g6 (.string u.name) (.string u.text) (.bool u.leaf) uv) s p pv u uv) := by
  refine (⟨?_, ?_, ?_, ?_, ?_, Box4.set4 h.out.b6 _ _ _ _, LiN.put (LiN.put (LiN.put (LiN.put h.out.lp))), LiN.put (LiN.put (LiN.put (LiN.put hu)))⟩ : Dm cs a cap b off c w3 r2 g5 g6 (put4 W g6 (.string u.name) (.string u.text) (.bool u.leaf) uv) s p pv u uv)
  · exact (((h.out.out.put hz).put hz).put hz).put hz
  · exact (((Cur.set h.out.cur (by omega)).set (by omega)).set (by omega)).set (by omega)
  · exact (((h.out.b2.past (by omega)).past (by omega)).past (by omega)).past (by omega)
  · exact (((h.out.b3.past (by omega)).past (by omega)).past (by omega)).past (by omega)
  · exact (((h.out.b5.past (by omega)).past (by omega)).past (by omega)).past (by omega)
theorem bl3 (W : World) (x y z : Tr) (xa ya za : Option Addr) (xm xc ym yc zm zc : Nat) (hx : Lies W (fun _ => True) x (.slice xa xm xc)) (hy : Lies W (fun _ => True) y (.slice ya ym yc)) (hz : Lies W (fun _ => True) z (.slice za zm zc)) :
    BLi (W.alloc (.cells #[.string xN, .string x.name, .string x.text, .bool x.leaf, .slice xa xm xc, .string yN, .string y.name, .string y.text, .bool y.leaf, .slice ya ym yc, .string zN', .string z.name, .string z.text, .bool z.leaf, .slice za zm zc] 47)) [(xN, x), (yN, y), (zN', z)] (.slice (some ⟨W.heap.size, 0, none⟩) 3 3) := by
  refine ⟨W.heap.size, 3, fun i => if i = 0 then .slice xa xm xc else if i = 1 then .slice ya ym yc else .slice za zm zc, rfl, ⟨rfl, .inr ⟨W.heap.size, 3, #[.string xN, .string x.name, .string x.text, .bool x.leaf, .slice xa xm xc, .string yN, .string y.name, .string y.text, .bool y.leaf, .slice ya ym yc, .string zN', .string z.name, .string z.text, .bool z.leaf, .slice za zm zc], rfl, Nat.zero_le _, blk_alloc_new _ _, Nat.le_refl _, by unfold maxLen; omega, rfl, rfl⟩⟩, fun i => ?_, fun i hi => ?_⟩
  · by_cases h0 : i = 0
    · exact ⟨_, _, _, if_pos h0⟩
    · by_cases h1 : i = 1
      · exact ⟨_, _, _, by dsimp only; rw [if_neg h0, if_pos h1]⟩
      · exact ⟨_, _, _, by dsimp only; rw [if_neg h0, if_neg h1]⟩
  · rcases (show i = 0 ∨ i = 1 ∨ i = 2 by simp at hi; omega) with rfl | rfl | rfl
    · exact hx.still (bel_alloc _ _)
    · exact hy.still (bel_alloc _ _)
    · exact hz.still (bel_alloc _ _)
/-- What DrawMatch leaves. -/
def DmA (cs : List UInt8) (w : World) (e : Ending) (w' : World) : Prop :=
  ∃ (pa ta : Option Addr) (pm pc tm tc : Nat), e = .returned (.tuple #[(cMp cs).val (.slice pa pm pc), (cMt cs).val (.slice ta tm tc)]) ∧ Below w.heap.size w w' ∧ Lies w' (fun _ => True) (cMp cs) (.slice pa pm pc) ∧ Lies w' (fun _ => True) (cMt cs) (.slice ta tm tc)
end Go.Proofs.Ytbgoikaelmacbaa
