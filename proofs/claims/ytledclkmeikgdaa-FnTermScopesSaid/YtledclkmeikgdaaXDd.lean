import Derived.Test.YtledclkmeikgdaaXDc
/-! Terms drawn, that may be spoilt. -/
namespace Go.Proofs.Ytledclkmeikgdaa.T
open Go.RowKit Go.Deep Go.Lib
set_option linter.unusedVariables false
set_option maxRecDepth 100000
set_option linter.unusedSimpArgs false
abbrev oD46_6_0 : Oper := { dst := some 17, op := Go.Op.load 40 (Go.Operand.tmp 3), type := 40, pos := "l12_names.go:381", after := #[], guard := none }
abbrev oD46_6_1 : Oper := { dst := some 18, op := Go.Op.buildSlice 66 4 #[(0, Go.Operand.const (Go.Value.string { data := #[48, 49] })), (1, Go.Operand.const (Go.Value.string { data := #[] })), (2, Go.Operand.const (Go.Value.string { data := #[49, 50, 51, 52, 53, 54, 55, 56, 57, 48] })), (3, Go.Operand.const (Go.Value.string { data := #[97] }))], type := 66, pos := "l12_names.go:381", after := #[], guard := none }
abbrev oD46_6_2 : Oper := { dst := some 19, op := Go.Op.move (Go.Operand.tmp 0), type := 61, pos := "l12_names.go:381", after := #[], guard := none }
abbrev oD46_6_3 : Oper := { dst := some 20, op := Go.Op.call { callee := Go.Callee.value (Go.Operand.func 30), args := #[Go.Operand.tmp 19, Go.Operand.const (Go.Value.int Go.IntKind.i64 4)], argTypes := #[61, 3] }, type := 3, pos := "l12_names.go:381", after := #[{ on := 2, ground := Go.Ground.data }], guard := none }
abbrev oD46_6_4 : Oper := { dst := some 21, op := Go.Op.indexAddr 66 (Go.Operand.tmp 18) (Go.Operand.tmp 20), type := 0, pos := "l12_names.go:381", after := #[{ on := 1, ground := Go.Ground.data }, { on := 3, ground := Go.Ground.data }], guard := none }
abbrev oD46_6_5 : Oper := { dst := some 22, op := Go.Op.load 9 (Go.Operand.tmp 21), type := 9, pos := "l12_names.go:381", after := #[{ on := 4, ground := Go.Ground.data }], guard := none }
abbrev oD46_6_6 : Oper := { dst := some 23, op := Go.Op.call { callee := Go.Callee.value (Go.Operand.func 47), args := #[Go.Operand.const (Go.Value.string { data := #[78, 117, 109] }), Go.Operand.tmp 22], argTypes := #[9, 9] }, type := 40, pos := "l12_names.go:381", after := #[{ on := 5, ground := Go.Ground.data }, { on := 3, ground := Go.Ground.chain }], guard := none }
abbrev oD46_6_7 : Oper := { dst := some 24, op := Go.Op.buildSlice 38 2 #[(0, Go.Operand.tmp 17), (1, Go.Operand.tmp 23)], type := 38, pos := "l12_names.go:381", after := #[{ on := 0, ground := Go.Ground.data }, { on := 6, ground := Go.Ground.data }], guard := none }
abbrev oD46_6_8 : Oper := { dst := some 25, op := Go.Op.call { callee := Go.Callee.value (Go.Operand.func 48), args := #[Go.Operand.const (Go.Value.string { data := #[65, 100, 100] }), Go.Operand.tmp 24], argTypes := #[9, 38] }, type := 40, pos := "l12_names.go:381", after := #[{ on := 7, ground := Go.Ground.data }, { on := 6, ground := Go.Ground.chain }], guard := none }
abbrev oD46_6_9 : Oper := { dst := none, op := Go.Op.store 40 (Go.Operand.tmp 3) (Go.Operand.tmp 25), type := 0, pos := "l12_names.go:381", after := #[{ on := 8, ground := Go.Ground.data }, { on := 8, ground := Go.Ground.chain }, { on := 0, ground := Go.Ground.phase }, { on := 1, ground := Go.Ground.phase }, { on := 2, ground := Go.Ground.phase }, { on := 3, ground := Go.Ground.phase }, { on := 4, ground := Go.Ground.phase }, { on := 5, ground := Go.Ground.phase }, { on := 6, ground := Go.Ground.phase }, { on := 7, ground := Go.Ground.phase }, { on := 8, ground := Go.Ground.phase }], guard := none }

def cATn (cs : List UInt8) (t : Tr) (k : Nat) (s : Nat × Nat) : Tr × (Nat × Nat) :=
  if k = 0 then cAny cs s
  else if k = 1 then (nd ⟨#[65, 100, 100]⟩ [t, lf ⟨#[78, 117, 109]⟩ (pickOf bnL (cPick cs 4 s).1)], (cPick cs 4 s).2)
  else if k = 2 then (nd ⟨#[76, 97, 109]⟩ [t, t], s)
  else if k = 3 then (nd ⟨#[73, 102]⟩ [t, t], s)
  else (t, s)
def cAnyT (cs : List UInt8) (s : Nat × Nat) : Tr × (Nat × Nat) :=
  cATn cs (cTm cs (1 + (cSize cs 4 s).1) (cSize cs 4 s).2).1 (cPick cs 20 (cTm cs (1 + (cSize cs 4 s).1) (cSize cs 4 s).2).2).1 (cPick cs 20 (cTm cs (1 + (cSize cs 4 s).1) (cSize cs 4 s).2).2).2
/-- What lies above m, not in g, lies there still. -/
theorem lies_outG {c m g : Nat} {w w' : World} {t : Tr} {v : Value} (h : Lies w (fun q => m ≤ q ∧ q ≠ g) t v) (ho : Out c (c + 1) w w') (hm : c < m) : Lies w' (fun q => m ≤ q ∧ q ≠ g) t v := by
  have h1 := Lies.keep (w' := w') (fun q hq => ho.2.2.2.2 q hq.2 (by have h1 := hq.1.1; omega)) h.lt
  exact h1.mono (fun q hq => hq.1)
/-- Four cells of a box written anew. -/
theorem Box4.put4 {w : World} {g : Nat} {c0 c1 c2 c3 : Value} (h : Box4 w g c0 c1 c2 c3) (d0 d1 d2 d3 : Value) : Box4 ((((w.setCell ⟨g, 0, none⟩ d0).setCell ⟨g, 1, none⟩ d1).setCell ⟨g, 2, none⟩ d2).setCell ⟨g, 3, none⟩ d3) g d0 d1 d2 d3 := ((((h.set0 d0).set1 d1).set2 d2).set3 d3)
theorem At.put {cs : List UInt8} {a : Option Addr} {cap b off c : Nat} {s : Nat × Nat} {w w1 : World} {g o : Nat} (h : At cs a cap b off c w s w1) (hlt : c < w.heap.size) (hg : w.heap.size < g) (x : Value) : At cs a cap b off c w s (w1.setCell ⟨g, o, none⟩ x) :=
  ⟨Out.put h.1 (by omega), Box4.past h.2.1 (by omega), Cur.set h.2.2 (by omega)⟩
theorem At.put4 {cs : List UInt8} {a : Option Addr} {cap b off c : Nat} {s : Nat × Nat} {w w1 : World} {g : Nat} (h : At cs a cap b off c w s w1) (hlt : c < w.heap.size) (hg : w.heap.size < g) (d0 d1 d2 d3 : Value) : At cs a cap b off c w s ((((w1.setCell ⟨g, 0, none⟩ d0).setCell ⟨g, 1, none⟩ d1).setCell ⟨g, 2, none⟩ d2).setCell ⟨g, 3, none⟩ d3) :=
  (((h.put hlt hg d0).put hlt hg d1).put hlt hg d2).put hlt hg d3
theorem lies_put4 {m g : Nat} {w : World} {t : Tr} {v : Value} (h : Lies w (fun q => m ≤ q ∧ q ≠ g) t v) (d0 d1 d2 d3 : Value) : Lies ((((w.setCell ⟨g, 0, none⟩ d0).setCell ⟨g, 1, none⟩ d1).setCell ⟨g, 2, none⟩ d2).setCell ⟨g, 3, none⟩ d3) (fun q => m ≤ q ∧ q ≠ g) t v :=
  (((Lies.set h (fun q => q.2 rfl)).set (fun q => q.2 rfl)).set (fun q => q.2 rfl)).set (fun q => q.2 rfl)
set_option maxHeartbeats 12800000 in
theorem drawAnyT_any {cs : List UInt8} {a : Option Addr} {cap b off c : Nat} (s : Nat × Nat) (w : World) (hc : Cur w cs a cap b off c s) :
    Calls Try.prog 46 #[.pointer (some ⟨c, 0, none⟩)] w fun e w' => DrewL cs a cap b off c (cAnyT cs s) w e w' := by
  have hlt := hc.lt
  have HA := (show Hid (At cs a cap b off c w s (w.alloc (.cells #[.string ByteArray.empty, .string ByteArray.empty, .bool false, .slice none 0 0] 40))) from At.new hc)
  have hsz := size_any 4 _ HA.out.2.2 (by decide)
  have hs4 := cSize_le cs 4 s
  have e0 : cAnyT cs s = cATn cs (cTm cs (1 + (cSize cs 4 s).1) (cSize cs 4 s).2).1 (cPick cs 20 (cTm cs (1 + (cSize cs 4 s).1) (cSize cs 4 s).2).2).1 (cPick cs 20 (cTm cs (1 + (cSize cs 4 s).1) (cSize cs 4 s).2).2).2 := rfl
  have HSZ := (show Hid _ from hsz); clear hsz hc
  generalize cSize cs 4 s = r at *
  obtain ⟨z, s1⟩ := r
  try dsimp only at hs4 e0
  have hdt : ∀ w1, Cur w1 cs a cap b off c s1 → Calls Try.prog 31 #[.pointer (some ⟨c, 0, none⟩), .int .i64 ((1 + z : Nat) : Int)] w1 fun e w' => DrewL cs a cap b off c (cTm cs (1 + z) s1) w1 e w' := fun w1 h => drawTm_any (1 + z) s1 w1 h (by omega)
  rw [show ((1 + z : Nat) : Int) = 1 + (z : Int) from by omega] at hdt
  have HDT := (show Hid _ from hdt); clear hdt
  generalize cTm cs (1 + z) s1 = r at *
  obtain ⟨t, s2⟩ := r
  try dsimp only at e0
  have hpk : ∀ w1, Cur w1 cs a cap b off c s2 → _ := fun w1 h => pick_any 20 w1 h (by decide)
  have HPK := (show Hid _ from hpk); clear hpk
  have hk20 := cPick_lt cs 20 s2 (by decide)
  generalize cPick cs 20 s2 = r at *
  obtain ⟨k, s3⟩ := r
  try dsimp only at e0 hk20
  have HE0 := (show Hid _ from e0); clear e0
  have hz4 : (z : Int) ≤ 4 := by omega
  go_enter Try.func46, Try.ntmps46
  go_wp2_with fail
  refine Calls.mono HSZ.out ?_
  rintro e wa ⟨rfl, hoa, hsa, hca⟩
  try dsimp only at hca
  have HAa := (show Hid (At cs a cap b off c w s1 wa) from HA.out.out hlt hoa hca)
  clear HSZ HA hoa hsa hca
  have hcl := HDT.out wa HAa.out.2.2
  have HCL := (show Hid _ from hcl); clear hcl
  try dsimp only
  go_wp2_with fail
  refine Calls.mono HCL.out ?_
  rintro e w1 ⟨xa, xm, xc, rfl, ho1, hc1, hl1⟩
  try dsimp only at hc1 hl1
  have hsz0 := HAa.out.size
  have hsz1 : w.heap.size + 1 ≤ w1.heap.size := by have := ho1.2.2.2.1; omega
  have HA1 := (show Hid (At cs a cap b off c w s2 w1) from HAa.out.out hlt ho1 hc1)
  have hb1 := bel_alloc w1 (.cells #[.string t.name, .string t.text, .bool t.leaf, .slice xa xm xc] 40)
  have hl1' : Lies w1 (fun q => w.heap.size + 1 ≤ q ∧ q ≠ w1.heap.size) t (.slice xa xm xc) := hl1.lt.mono (fun q hq => ⟨by have h1 : wa.heap.size ≤ q := hq.1; omega, by have h2 := hq.2; omega⟩)
  have hcl := HPK.out _ ((HA1.out.still hb1).2.2)
  have HB1 := (show Hid (Box4 (w1.alloc (.cells #[.string t.name, .string t.text, .bool t.leaf, .slice xa xm xc] 40)) w1.heap.size (.string t.name) (.string t.text) (.bool t.leaf) (.slice xa xm xc)) from Box4.new w1 _ _ _ _)
  have HA1b := (show Hid (At cs a cap b off c w s2 (w1.alloc (.cells #[.string t.name, .string t.text, .bool t.leaf, .slice xa xm xc] 40))) from HA1.out.still hb1)
  have HL1b := (show Hid (Lies (w1.alloc (.cells #[.string t.name, .string t.text, .bool t.leaf, .slice xa xm xc] 40)) (fun q => w.heap.size + 1 ≤ q ∧ q ≠ w1.heap.size) t (.slice xa xm xc)) from Lies.still hl1' hb1)
  clear HCL HPK ho1 hc1 hl1 hl1' HA1 hb1 HDT HAa hsz0
  have HCL := (show Hid _ from hcl); clear hcl
  try dsimp only
  go_wp2_with fail
  refine Calls.mono HCL.out ?_
  rintro e w2 ⟨rfl, ho2, hs2, hc2⟩
  have HA2 := (show Hid (At cs a cap b off c w s3 w2) from HA1b.out.out hlt ho2 hc2)
  have HB2 := (show Hid (Box4 w2 w1.heap.size (.string t.name) (.string t.text) (.bool t.leaf) (.slice xa xm xc)) from Box4.out HB1.out ho2 (by omega))
  have HL2 := (show Hid (Lies w2 (fun q => w.heap.size + 1 ≤ q ∧ q ≠ w1.heap.size) t (.slice xa xm xc)) from lies_outG HL1b.out ho2 (by omega))
  clear HCL HA1b HB1 HL1b ho2 hs2 hc2
  have hne : w1.heap.size ≠ w.heap.size := by omega
  have hgt : w.heap.size < w1.heap.size := by omega
  dsimp only
  by_cases h4 : 4 ≤ k
  · have e0 := HE0.out
    clear HE0
    unfold cATn at e0
    rw [if_neg (by omega), if_neg (by omega), if_neg (by omega), if_neg (by omega)] at e0
    have HE := (show Hid _ from e0); clear e0
    have k0 : ((k : Int) == 0) = false := by simp; omega
    have k1 : ((k : Int) == 1) = false := by simp; omega
    have k2 : ((k : Int) == 2) = false := by simp; omega
    have k3 : ((k : Int) == 3) = false := by simp; omega
    obtain ⟨X0, X1, X2, X3⟩ := Box4.cells HB2.out
    obtain ⟨Z0, Z1, Z2, Z3⟩ := Box4.cells HA2.out.2.1
    have y0 := Box4.frozen HA2.out.2.1 0
    have y1 := Box4.frozen HA2.out.2.1 1
    have y2 := Box4.frozen HA2.out.2.1 2
    have y3 := Box4.frozen HA2.out.2.1 3
    go_wp2_with fail
    refine bodyPost_ret (v := .agg #[.string t.name, .string t.text, .bool t.leaf, .slice xa xm xc]) (by simp [results, Try.results46, go_sem, Z0, Z1, Z2, Z3]) rfl ?_
    rw [HE.out]
    exact drew_at (r := (t, s3)) HA2.out hlt (Lies.mono (fun q hq => hq.1) HL2.out)
  · have hk : k = 0 ∨ k = 1 ∨ k = 2 ∨ k = 3 := by omega
    rcases hk with rfl | rfl | rfl | rfl
    · have e0 : cAnyT cs s = cAny cs s3 := HE0.out
      clear HE0
      have hc0 : ∀ wq, Cur wq cs a cap b off c s3 → Calls Try.prog 92 #[.pointer (some ⟨c, 0, none⟩)] wq fun e w' => DrewL cs a cap b off c (cAny cs s3) wq e w' := fun wq h => drawAny_any s3 wq h
      generalize cAny cs s3 = r at *
      obtain ⟨u, s4⟩ := r
      have HE := (show Hid _ from e0); clear e0
      have HCL := (show Hid _ from hc0 w2 HA2.out.2.2); clear hc0
      go_wp2_with fail
      refine Calls.mono HCL.out ?_
      rintro e w3 ⟨ya, ym, yc, rfl, ho3, hc3, hl3⟩
      try dsimp only at hc3 hl3
      have hg3 : w1.heap.size < w2.heap.size := HB2.out.lt
      have HA3 := (show Hid (At cs a cap b off c w s4 w3) from HA2.out.out hlt ho3 hc3)
      have HB3 := (show Hid (Box4 w3 w1.heap.size (.string t.name) (.string t.text) (.bool t.leaf) (.slice xa xm xc)) from Box4.out HB2.out ho3 (by omega))
      have hl4 : Lies w3 (fun q => w.heap.size + 1 ≤ q ∧ q ≠ w1.heap.size) u (.slice ya ym yc) := hl3.mono (fun q hq => by have h1 : w2.heap.size ≤ q := hq; exact ⟨by omega, by omega⟩)
      have HL3 := (show Hid _ from hl4)
      clear ho3 hc3 hl3 hl4 HCL HA2 HB2 HL2
      obtain ⟨g0, g1, g2, g3⟩ := Box4.cells HB3.out
      have f0 := Box4.frozen HB3.out 0
      have f1 := Box4.frozen HB3.out 1
      have f2 := Box4.frozen HB3.out 2
      have f3 := Box4.frozen HB3.out 3
      have HA4 := (show Hid (At cs a cap b off c w s4 _) from HA3.out.put4 hlt hgt (.string u.name) (.string u.text) (.bool u.leaf) (.slice ya ym yc))
      have HB4 := (show Hid (Box4 _ w1.heap.size (.string u.name) (.string u.text) (.bool u.leaf) (.slice ya ym yc)) from Box4.put4 HB3.out (.string u.name) (.string u.text) (.bool u.leaf) (.slice ya ym yc))
      have HL4 := (show Hid _ from lies_put4 HL3.out (.string u.name) (.string u.text) (.bool u.leaf) (.slice ya ym yc))
      clear HA3 HB3 HL3
      obtain ⟨X0, X1, X2, X3⟩ := Box4.cells HB4.out
      obtain ⟨Z0, Z1, Z2, Z3⟩ := Box4.cells HA4.out.2.1
      have y0 := Box4.frozen HA4.out.2.1 0
      have y1 := Box4.frozen HA4.out.2.1 1
      have y2 := Box4.frozen HA4.out.2.1 2
      have y3 := Box4.frozen HA4.out.2.1 3
      go_wp2_with fail
      refine bodyPost_ret (v := .agg #[.string u.name, .string u.text, .bool u.leaf, .slice ya ym yc]) (by simp [results, Try.results46, go_sem, Z0, Z1, Z2, Z3]) rfl ?_
      rw [HE.out]
      exact drew_at (r := (u, s4)) HA4.out hlt (Lies.mono (fun q hq => hq.1) HL4.out)
    · have e0 : cAnyT cs s = (nd ⟨#[65, 100, 100]⟩ [t, lf ⟨#[78, 117, 109]⟩ (pickOf bnL (cPick cs 4 s3).1)], (cPick cs 4 s3).2) := HE0.out
      clear HE0
      have hc0 : ∀ wq, Cur wq cs a cap b off c s3 → _ := fun wq h => pick_any 4 wq h (by decide)
      have hl := cPick_lt cs 4 s3 (by decide)
      have hps : (pickOf bnL (cPick cs 4 s3).1).size ≤ 10 := pickOf_size (by decide) _
      generalize cPick cs 4 s3 = r at *
      obtain ⟨q, s4⟩ := r
      try dsimp only at e0 hc0 hl hps
      have hq4 : (q : Int) < 4 := by omega
      have HE := (show Hid _ from e0); clear e0
      have HC0 := (show Hid _ from hc0); clear hc0
      go_wp2_with fail
      have HA3 := (show Hid (At cs a cap b off c w s3 w2.drew) from HA2.out.drew)
      have HB3 := (show Hid (Box4 w2.drew w1.heap.size (.string t.name) (.string t.text) (.bool t.leaf) (.slice xa xm xc)) from Box4.still HB2.out (Below.refl w2.heap.size w2).drew)
      have HL3 := (show Hid (Lies w2.drew (fun q => w.heap.size + 1 ≤ q ∧ q ≠ w1.heap.size) t (.slice xa xm xc)) from Lies.still HL2.out (Below.refl w2.heap.size w2).drew)
      clear HA2 HB2 HL2
    
      refine wp_region_held_drew (S := (fun _ => True)) (by kernel_rfl) trivial (fun hHeld => ?_)
      generalize w2.drew = W3 at *
      refine wpAnyH_take (i := 2) (oi := oD46_6_2) (v := ?v1) rfl (by kernel_rfl) (by kernel_rfl) (by kernel_rfl) (fun _ _ _ h => h) (Or.inl ⟨by rfl, ?h1⟩) hHeld ?r1
      case h1 => (intro w hSw; (try dsimp only at hSw); go_simp; try with_reducible rfl)
      try simp only [Act.put, List.setIfInBounds_toArray, List.set_cons_zero, List.set_cons_succ]
      refine wpAnyH_ready (rs := [0, 1, 3]) (by kernel_rfl) (by simp) ?_
      refine (AllReadyH.cons (o := oD46_6_0) rfl (fun K hK => ?_) (AllReadyH.cons (o := oD46_6_1) rfl (fun K hK => ?_) (AllReadyH.cons (o := oD46_6_3) rfl (fun K hK => ?_) AllReadyH.nil)))
      · skip
        obtain ⟨e0', e1', e2', e3'⟩ := Box4.cells HB3.out
        go_simp
        clear e0' e1' e2' e3'
        clear hHeld
        refine hK.out _ _ trivial (fun hHeld => ?_)
        clear hK K
        try simp only [Act.put, List.setIfInBounds_toArray, List.set_cons_zero, List.set_cons_succ]
        refine wpAnyH_ready (rs := [1, 3]) (by kernel_rfl) (by simp) ?_
        refine (AllReadyH.cons (o := oD46_6_1) rfl (fun K hK => ?_) (AllReadyH.cons (o := oD46_6_3) rfl (fun K hK => ?_) AllReadyH.nil))
        · skip
          go_simp
          have hb := bel_alloc W3 (.cells #[.string ⟨#[48, 49]⟩, .string ⟨#[]⟩, .string ⟨#[49, 50, 51, 52, 53, 54, 55, 56, 57, 48]⟩, .string ⟨#[97]⟩] 9)
          have HX4 := (show Hid ((W3.alloc (.cells #[.string ⟨#[48, 49]⟩, .string ⟨#[]⟩, .string ⟨#[49, 50, 51, 52, 53, 54, 55, 56, 57, 48]⟩, .string ⟨#[97]⟩] 9)).cell? ⟨W3.heap.size, q, none⟩ = some (.string (pickOf bnL q))) from cell_pick W3 bnL 9 #[.string ⟨#[48, 49]⟩, .string ⟨#[]⟩, .string ⟨#[49, 50, 51, 52, 53, 54, 55, 56, 57, 48]⟩, .string ⟨#[97]⟩] rfl q hl)
          have hsb : w.heap.size + 1 ≤ W3.heap.size := HA3.out.size
          have HA4 := (show Hid (At cs a cap b off c w s3 (W3.alloc (.cells #[.string ⟨#[48, 49]⟩, .string ⟨#[]⟩, .string ⟨#[49, 50, 51, 52, 53, 54, 55, 56, 57, 48]⟩, .string ⟨#[97]⟩] 9))) from HA3.out.still hb)
          have HB4 := (show Hid (Box4 (W3.alloc (.cells #[.string ⟨#[48, 49]⟩, .string ⟨#[]⟩, .string ⟨#[49, 50, 51, 52, 53, 54, 55, 56, 57, 48]⟩, .string ⟨#[97]⟩] 9)) w1.heap.size (.string t.name) (.string t.text) (.bool t.leaf) (.slice xa xm xc)) from Box4.still HB3.out hb)
          have HL4 := (show Hid (Lies (W3.alloc (.cells #[.string ⟨#[48, 49]⟩, .string ⟨#[]⟩, .string ⟨#[49, 50, 51, 52, 53, 54, 55, 56, 57, 48]⟩, .string ⟨#[97]⟩] 9)) (fun q => w.heap.size + 1 ≤ q ∧ q ≠ w1.heap.size) t (.slice xa xm xc)) from Lies.still HL3.out hb)
          clear hb HA3 HB3 HL3
          clear hHeld
          refine hK.out _ _ trivial (fun hHeld => ?_)
          clear hK K
          try simp only [Act.put, List.setIfInBounds_toArray, List.set_cons_zero, List.set_cons_succ]
          generalize W3.alloc (.cells #[.string ⟨#[48, 49]⟩, .string ⟨#[]⟩, .string ⟨#[49, 50, 51, 52, 53, 54, 55, 56, 57, 48]⟩, .string ⟨#[97]⟩] 9) = W4 at *
          refine wpAnyH_ready (rs := [3]) (by kernel_rfl) (by simp) ?_
          refine (AllReadyH.cons (o := oD46_6_3) rfl (fun K hK => ?_) AllReadyH.nil)
          go_simp
          go_at_call 30
          refine Calls.mono (HC0.out _ HA4.out.2.2) ?_
          rintro e v5 ⟨rfl, hO, hZ, hC⟩
          clear hZ
          have HA5 := (show Hid (At cs a cap b off c w s4 (v5)) from HA4.out.out hlt hO hC)
          have HB5 := (show Hid (Box4 (v5) w1.heap.size (.string t.name) (.string t.text) (.bool t.leaf) (.slice xa xm xc)) from Box4.out HB4.out hO (by omega))
          have HL5 := (show Hid (Lies (v5) (fun q => w.heap.size + 1 ≤ q ∧ q ≠ w1.heap.size) t (.slice xa xm xc)) from lies_outG HL4.out hO (by omega))
          have HX5 := (show Hid _ from Out.cell hO HX4.out (.inr (by omega)))
          clear hO hC HA4 HB4 HL4 HC0 HX4
          clear hHeld
          refine hK.out _ _ trivial (fun hHeld => ?_)
          clear hK K
          try simp only [Act.put, List.setIfInBounds_toArray, List.set_cons_zero, List.set_cons_succ]
          refine wpAnyH_take (i := 4) (oi := oD46_6_4) (v := ?v2) rfl (by kernel_rfl) (by kernel_rfl) (by kernel_rfl) (fun _ _ _ h => h) (Or.inl ⟨by rfl, ?h2⟩) hHeld ?r2
          case h2 => (intro w hSw; (try dsimp only at hSw); go_simp; try with_reducible rfl)
          try simp only [Act.put, List.setIfInBounds_toArray, List.set_cons_zero, List.set_cons_succ]
          refine wpAnyH_ready (rs := [5]) (by kernel_rfl) (by simp) ?_
          refine (AllReadyH.cons (o := oD46_6_5) rfl (fun K hK => ?_) AllReadyH.nil)
          have x5 := HX5.out
          go_simp
          clear x5
          clear hHeld
          refine hK.out _ _ trivial (fun hHeld => ?_)
          clear hK K
          try simp only [Act.put, List.setIfInBounds_toArray, List.set_cons_zero, List.set_cons_succ]
          refine wpAnyH_ready (rs := [6]) (by kernel_rfl) (by simp) ?_
          refine (AllReadyH.cons (o := oD46_6_6) rfl (fun K hK => ?_) AllReadyH.nil)
          go_simp
          go_at_call 47
          refine Calls.mono (leafD_any _ _ _) ?_
          rintro e v6 ⟨rfl, hb⟩
          have HA6 := (show Hid (At cs a cap b off c w s4 (v6)) from HA5.out.still hb)
          have HB6 := (show Hid (Box4 (v6) w1.heap.size (.string t.name) (.string t.text) (.bool t.leaf) (.slice xa xm xc)) from Box4.still HB5.out hb)
          have HL6 := (show Hid (Lies (v6) (fun q => w.heap.size + 1 ≤ q ∧ q ≠ w1.heap.size) t (.slice xa xm xc)) from Lies.still HL5.out hb)
          clear hb HA5 HB5 HL5 HX5
          clear hHeld
          refine hK.out _ _ trivial (fun hHeld => ?_)
          clear hK K
          try simp only [Act.put, List.setIfInBounds_toArray, List.set_cons_zero, List.set_cons_succ]
          refine wpAnyH_ready (rs := [7]) (by kernel_rfl) (by simp) ?_
          refine (AllReadyH.cons (o := oD46_6_7) rfl (fun K hK => ?_) AllReadyH.nil)
          go_simp
          have hb := bel_alloc v6 (.cells #[.string t.name, .string t.text, .bool t.leaf, .slice xa xm xc, .string ⟨#[78, 117, 109]⟩, .string (pickOf bnL q), .bool true, .slice none 0 0] 40)
          have hg6 : w1.heap.size < v6.heap.size := HB6.out.lt
          have HA7 := (show Hid (At cs a cap b off c w s4 (v6.alloc (.cells #[.string t.name, .string t.text, .bool t.leaf, .slice xa xm xc, .string ⟨#[78, 117, 109]⟩, .string (pickOf bnL q), .bool true, .slice none 0 0] 40))) from HA6.out.still hb)
          have HB7 := (show Hid (Box4 (v6.alloc (.cells #[.string t.name, .string t.text, .bool t.leaf, .slice xa xm xc, .string ⟨#[78, 117, 109]⟩, .string (pickOf bnL q), .bool true, .slice none 0 0] 40)) w1.heap.size (.string t.name) (.string t.text) (.bool t.leaf) (.slice xa xm xc)) from Box4.still HB6.out hb)
          have HL7 := (show Hid (Lies (v6.alloc (.cells #[.string t.name, .string t.text, .bool t.leaf, .slice xa xm xc, .string ⟨#[78, 117, 109]⟩, .string (pickOf bnL q), .bool true, .slice none 0 0] 40)) (fun q => w.heap.size + 1 ≤ q ∧ q ≠ w1.heap.size) (nd ⟨#[65, 100, 100]⟩ [t, (lf ⟨#[78, 117, 109]⟩ (pickOf bnL q))]) (.slice (some ⟨v6.heap.size, 0, none⟩) 2 2)) from lies_two v6 HL6.out (t2 := (lf ⟨#[78, 117, 109]⟩ (pickOf bnL q))) (lies_nil _ _ _ _ _ (by decide) (by unfold maxLen; omega)) ⟨HA6.out.size, by omega⟩ ⟨#[65, 100, 100]⟩ (by decide))
          clear hb HA6 HB6 HL6
          clear hHeld
          refine hK.out _ _ trivial (fun hHeld => ?_)
          clear hK K
          try simp only [Act.put, List.setIfInBounds_toArray, List.set_cons_zero, List.set_cons_succ]
          generalize v6.alloc (.cells #[.string t.name, .string t.text, .bool t.leaf, .slice xa xm xc, .string ⟨#[78, 117, 109]⟩, .string (pickOf bnL q), .bool true, .slice none 0 0] 40) = W7 at *
          refine wpAnyH_ready (rs := [8]) (by kernel_rfl) (by simp) ?_
          refine (AllReadyH.cons (o := oD46_6_8) rfl (fun K hK => ?_) AllReadyH.nil)
          go_simp
          go_at_call 48
          refine Calls.mono (nodeD_any _ _ _ _ _) ?_
          rintro e v8 ⟨rfl, hb⟩
          have HA8 := (show Hid (At cs a cap b off c w s4 (v8)) from HA7.out.still hb)
          have HB8 := (show Hid (Box4 (v8) w1.heap.size (.string t.name) (.string t.text) (.bool t.leaf) (.slice xa xm xc)) from Box4.still HB7.out hb)
          have HL8 := (show Hid (Lies v8 (fun q => w.heap.size + 1 ≤ q ∧ q ≠ w1.heap.size) (nd ⟨#[65, 100, 100]⟩ [t, (lf ⟨#[78, 117, 109]⟩ (pickOf bnL q))]) (.slice (some ⟨v6.heap.size, 0, none⟩) 2 2)) from Lies.still HL7.out hb)
          clear hb HA7 HB7 HL7
          clear hHeld
          refine hK.out _ _ trivial (fun hHeld => ?_)
          clear hK K
          try simp only [Act.put, List.setIfInBounds_toArray, List.set_cons_zero, List.set_cons_succ]
          refine wpAnyH_ready (rs := [9]) (by kernel_rfl) (by simp) ?_
          refine (AllReadyH.cons (o := oD46_6_9) rfl (fun K hK => ?_) AllReadyH.nil)
          obtain ⟨g0, g1, g2, g3⟩ := Box4.cells HB8.out
          have f0 := Box4.frozen HB8.out 0
          have f1 := Box4.frozen HB8.out 1
          have f2 := Box4.frozen HB8.out 2
          have f3 := Box4.frozen HB8.out 3
          have HA9 := (show Hid (At cs a cap b off c w s4 _) from HA8.out.put4 hlt hgt (.string ⟨#[65, 100, 100]⟩) (.string ByteArray.empty) (.bool false) (.slice (some ⟨v6.heap.size, 0, none⟩) 2 2))
          have HB9 := (show Hid (Box4 _ w1.heap.size (.string ⟨#[65, 100, 100]⟩) (.string ByteArray.empty) (.bool false) (.slice (some ⟨v6.heap.size, 0, none⟩) 2 2)) from Box4.put4 HB8.out (.string ⟨#[65, 100, 100]⟩) (.string ByteArray.empty) (.bool false) (.slice (some ⟨v6.heap.size, 0, none⟩) 2 2))
          have HL9 := (show Hid _ from lies_put4 HL8.out (.string ⟨#[65, 100, 100]⟩) (.string ByteArray.empty) (.bool false) (.slice (some ⟨v6.heap.size, 0, none⟩) 2 2))
          clear HA8 HB8 HL8
          go_simp
          clear g0 g1 g2 g3
          clear hHeld
          refine hK.out _ _ trivial (fun hHeld => ?_)
          clear hK K
          try simp only [Act.put, List.setIfInBounds_toArray, List.set_cons_zero, List.set_cons_succ]
          refine wpAnyH_done (by kernel_rfl) ?_ _
          clear hHeld
          obtain ⟨X0, X1, X2, X3⟩ := Box4.cells HB9.out
          obtain ⟨Z0, Z1, Z2, Z3⟩ := Box4.cells HA9.out.2.1
          have y0 := Box4.frozen HA9.out.2.1 0
          have y1 := Box4.frozen HA9.out.2.1 1
          have y2 := Box4.frozen HA9.out.2.1 2
          have y3 := Box4.frozen HA9.out.2.1 3
          go_wp2_with fail
          refine bodyPost_ret (v := .agg #[.string ⟨#[65, 100, 100]⟩, .string ByteArray.empty, .bool false, .slice (some ⟨v6.heap.size, 0, none⟩) 2 2]) (by simp [results, Try.results46, go_sem, Z0, Z1, Z2, Z3]) rfl ?_
          rw [HE.out]
          exact drew_at (r := (nd ⟨#[65, 100, 100]⟩ [t, (lf ⟨#[78, 117, 109]⟩ (pickOf bnL q))], s4)) HA9.out hlt (Lies.mono (fun q hq => hq.1) HL9.out)
        · skip
          go_simp
          go_at_call 30
          refine Calls.mono (HC0.out _ HA3.out.2.2) ?_
          rintro e v4 ⟨rfl, hO, hZ, hC⟩
          clear hZ
          have HA4 := (show Hid (At cs a cap b off c w s4 (v4)) from HA3.out.out hlt hO hC)
          have HB4 := (show Hid (Box4 (v4) w1.heap.size (.string t.name) (.string t.text) (.bool t.leaf) (.slice xa xm xc)) from Box4.out HB3.out hO (by omega))
          have HL4 := (show Hid (Lies (v4) (fun q => w.heap.size + 1 ≤ q ∧ q ≠ w1.heap.size) t (.slice xa xm xc)) from lies_outG HL3.out hO (by omega))
          clear hO hC HA3 HB3 HL3 HC0
          clear hHeld
          refine hK.out _ _ trivial (fun hHeld => ?_)
          clear hK K
          try simp only [Act.put, List.setIfInBounds_toArray, List.set_cons_zero, List.set_cons_succ]
          refine wpAnyH_ready (rs := [1]) (by kernel_rfl) (by simp) ?_
          refine (AllReadyH.cons (o := oD46_6_1) rfl (fun K hK => ?_) AllReadyH.nil)
          go_simp
          have hb := bel_alloc v4 (.cells #[.string ⟨#[48, 49]⟩, .string ⟨#[]⟩, .string ⟨#[49, 50, 51, 52, 53, 54, 55, 56, 57, 48]⟩, .string ⟨#[97]⟩] 9)
          have HX5 := (show Hid ((v4.alloc (.cells #[.string ⟨#[48, 49]⟩, .string ⟨#[]⟩, .string ⟨#[49, 50, 51, 52, 53, 54, 55, 56, 57, 48]⟩, .string ⟨#[97]⟩] 9)).cell? ⟨v4.heap.size, q, none⟩ = some (.string (pickOf bnL q))) from cell_pick v4 bnL 9 #[.string ⟨#[48, 49]⟩, .string ⟨#[]⟩, .string ⟨#[49, 50, 51, 52, 53, 54, 55, 56, 57, 48]⟩, .string ⟨#[97]⟩] rfl q hl)
          have hsb : w.heap.size + 1 ≤ v4.heap.size := HA4.out.size
          have HA5 := (show Hid (At cs a cap b off c w s4 (v4.alloc (.cells #[.string ⟨#[48, 49]⟩, .string ⟨#[]⟩, .string ⟨#[49, 50, 51, 52, 53, 54, 55, 56, 57, 48]⟩, .string ⟨#[97]⟩] 9))) from HA4.out.still hb)
          have HB5 := (show Hid (Box4 (v4.alloc (.cells #[.string ⟨#[48, 49]⟩, .string ⟨#[]⟩, .string ⟨#[49, 50, 51, 52, 53, 54, 55, 56, 57, 48]⟩, .string ⟨#[97]⟩] 9)) w1.heap.size (.string t.name) (.string t.text) (.bool t.leaf) (.slice xa xm xc)) from Box4.still HB4.out hb)
          have HL5 := (show Hid (Lies (v4.alloc (.cells #[.string ⟨#[48, 49]⟩, .string ⟨#[]⟩, .string ⟨#[49, 50, 51, 52, 53, 54, 55, 56, 57, 48]⟩, .string ⟨#[97]⟩] 9)) (fun q => w.heap.size + 1 ≤ q ∧ q ≠ w1.heap.size) t (.slice xa xm xc)) from Lies.still HL4.out hb)
          clear hb HA4 HB4 HL4
          clear hHeld
          refine hK.out _ _ trivial (fun hHeld => ?_)
          clear hK K
          try simp only [Act.put, List.setIfInBounds_toArray, List.set_cons_zero, List.set_cons_succ]
          generalize v4.alloc (.cells #[.string ⟨#[48, 49]⟩, .string ⟨#[]⟩, .string ⟨#[49, 50, 51, 52, 53, 54, 55, 56, 57, 48]⟩, .string ⟨#[97]⟩] 9) = W5 at *
          refine wpAnyH_take (i := 4) (oi := oD46_6_4) (v := ?v3) rfl (by kernel_rfl) (by kernel_rfl) (by kernel_rfl) (fun _ _ _ h => h) (Or.inl ⟨by rfl, ?h3⟩) hHeld ?r3
          case h3 => (intro w hSw; (try dsimp only at hSw); go_simp; try with_reducible rfl)
          try simp only [Act.put, List.setIfInBounds_toArray, List.set_cons_zero, List.set_cons_succ]
          refine wpAnyH_ready (rs := [5]) (by kernel_rfl) (by simp) ?_
          refine (AllReadyH.cons (o := oD46_6_5) rfl (fun K hK => ?_) AllReadyH.nil)
          have x5 := HX5.out
          go_simp
          clear x5
          clear hHeld
          refine hK.out _ _ trivial (fun hHeld => ?_)
          clear hK K
          try simp only [Act.put, List.setIfInBounds_toArray, List.set_cons_zero, List.set_cons_succ]
          refine wpAnyH_ready (rs := [6]) (by kernel_rfl) (by simp) ?_
          refine (AllReadyH.cons (o := oD46_6_6) rfl (fun K hK => ?_) AllReadyH.nil)
          go_simp
          go_at_call 47
          refine Calls.mono (leafD_any _ _ _) ?_
          rintro e v6 ⟨rfl, hb⟩
          have HA6 := (show Hid (At cs a cap b off c w s4 (v6)) from HA5.out.still hb)
          have HB6 := (show Hid (Box4 (v6) w1.heap.size (.string t.name) (.string t.text) (.bool t.leaf) (.slice xa xm xc)) from Box4.still HB5.out hb)
          have HL6 := (show Hid (Lies (v6) (fun q => w.heap.size + 1 ≤ q ∧ q ≠ w1.heap.size) t (.slice xa xm xc)) from Lies.still HL5.out hb)
          clear hb HA5 HB5 HL5 HX5
          clear hHeld
          refine hK.out _ _ trivial (fun hHeld => ?_)
          clear hK K
          try simp only [Act.put, List.setIfInBounds_toArray, List.set_cons_zero, List.set_cons_succ]
          refine wpAnyH_ready (rs := [7]) (by kernel_rfl) (by simp) ?_
          refine (AllReadyH.cons (o := oD46_6_7) rfl (fun K hK => ?_) AllReadyH.nil)
          go_simp
          have hb := bel_alloc v6 (.cells #[.string t.name, .string t.text, .bool t.leaf, .slice xa xm xc, .string ⟨#[78, 117, 109]⟩, .string (pickOf bnL q), .bool true, .slice none 0 0] 40)
          have hg6 : w1.heap.size < v6.heap.size := HB6.out.lt
          have HA7 := (show Hid (At cs a cap b off c w s4 (v6.alloc (.cells #[.string t.name, .string t.text, .bool t.leaf, .slice xa xm xc, .string ⟨#[78, 117, 109]⟩, .string (pickOf bnL q), .bool true, .slice none 0 0] 40))) from HA6.out.still hb)
          have HB7 := (show Hid (Box4 (v6.alloc (.cells #[.string t.name, .string t.text, .bool t.leaf, .slice xa xm xc, .string ⟨#[78, 117, 109]⟩, .string (pickOf bnL q), .bool true, .slice none 0 0] 40)) w1.heap.size (.string t.name) (.string t.text) (.bool t.leaf) (.slice xa xm xc)) from Box4.still HB6.out hb)
          have HL7 := (show Hid (Lies (v6.alloc (.cells #[.string t.name, .string t.text, .bool t.leaf, .slice xa xm xc, .string ⟨#[78, 117, 109]⟩, .string (pickOf bnL q), .bool true, .slice none 0 0] 40)) (fun q => w.heap.size + 1 ≤ q ∧ q ≠ w1.heap.size) (nd ⟨#[65, 100, 100]⟩ [t, (lf ⟨#[78, 117, 109]⟩ (pickOf bnL q))]) (.slice (some ⟨v6.heap.size, 0, none⟩) 2 2)) from lies_two v6 HL6.out (t2 := (lf ⟨#[78, 117, 109]⟩ (pickOf bnL q))) (lies_nil _ _ _ _ _ (by decide) (by unfold maxLen; omega)) ⟨HA6.out.size, by omega⟩ ⟨#[65, 100, 100]⟩ (by decide))
          clear hb HA6 HB6 HL6
          clear hHeld
          refine hK.out _ _ trivial (fun hHeld => ?_)
          clear hK K
          try simp only [Act.put, List.setIfInBounds_toArray, List.set_cons_zero, List.set_cons_succ]
          generalize v6.alloc (.cells #[.string t.name, .string t.text, .bool t.leaf, .slice xa xm xc, .string ⟨#[78, 117, 109]⟩, .string (pickOf bnL q), .bool true, .slice none 0 0] 40) = W7 at *
          refine wpAnyH_ready (rs := [8]) (by kernel_rfl) (by simp) ?_
          refine (AllReadyH.cons (o := oD46_6_8) rfl (fun K hK => ?_) AllReadyH.nil)
          go_simp
          go_at_call 48
          refine Calls.mono (nodeD_any _ _ _ _ _) ?_
          rintro e v8 ⟨rfl, hb⟩
          have HA8 := (show Hid (At cs a cap b off c w s4 (v8)) from HA7.out.still hb)
          have HB8 := (show Hid (Box4 (v8) w1.heap.size (.string t.name) (.string t.text) (.bool t.leaf) (.slice xa xm xc)) from Box4.still HB7.out hb)
          have HL8 := (show Hid (Lies v8 (fun q => w.heap.size + 1 ≤ q ∧ q ≠ w1.heap.size) (nd ⟨#[65, 100, 100]⟩ [t, (lf ⟨#[78, 117, 109]⟩ (pickOf bnL q))]) (.slice (some ⟨v6.heap.size, 0, none⟩) 2 2)) from Lies.still HL7.out hb)
          clear hb HA7 HB7 HL7
          clear hHeld
          refine hK.out _ _ trivial (fun hHeld => ?_)
          clear hK K
          try simp only [Act.put, List.setIfInBounds_toArray, List.set_cons_zero, List.set_cons_succ]
          refine wpAnyH_ready (rs := [9]) (by kernel_rfl) (by simp) ?_
          refine (AllReadyH.cons (o := oD46_6_9) rfl (fun K hK => ?_) AllReadyH.nil)
          obtain ⟨g0, g1, g2, g3⟩ := Box4.cells HB8.out
          have f0 := Box4.frozen HB8.out 0
          have f1 := Box4.frozen HB8.out 1
          have f2 := Box4.frozen HB8.out 2
          have f3 := Box4.frozen HB8.out 3
          have HA9 := (show Hid (At cs a cap b off c w s4 _) from HA8.out.put4 hlt hgt (.string ⟨#[65, 100, 100]⟩) (.string ByteArray.empty) (.bool false) (.slice (some ⟨v6.heap.size, 0, none⟩) 2 2))
          have HB9 := (show Hid (Box4 _ w1.heap.size (.string ⟨#[65, 100, 100]⟩) (.string ByteArray.empty) (.bool false) (.slice (some ⟨v6.heap.size, 0, none⟩) 2 2)) from Box4.put4 HB8.out (.string ⟨#[65, 100, 100]⟩) (.string ByteArray.empty) (.bool false) (.slice (some ⟨v6.heap.size, 0, none⟩) 2 2))
          have HL9 := (show Hid _ from lies_put4 HL8.out (.string ⟨#[65, 100, 100]⟩) (.string ByteArray.empty) (.bool false) (.slice (some ⟨v6.heap.size, 0, none⟩) 2 2))
          clear HA8 HB8 HL8
          go_simp
          clear g0 g1 g2 g3
          clear hHeld
          refine hK.out _ _ trivial (fun hHeld => ?_)
          clear hK K
          try simp only [Act.put, List.setIfInBounds_toArray, List.set_cons_zero, List.set_cons_succ]
          refine wpAnyH_done (by kernel_rfl) ?_ _
          clear hHeld
          obtain ⟨X0, X1, X2, X3⟩ := Box4.cells HB9.out
          obtain ⟨Z0, Z1, Z2, Z3⟩ := Box4.cells HA9.out.2.1
          have y0 := Box4.frozen HA9.out.2.1 0
          have y1 := Box4.frozen HA9.out.2.1 1
          have y2 := Box4.frozen HA9.out.2.1 2
          have y3 := Box4.frozen HA9.out.2.1 3
          go_wp2_with fail
          refine bodyPost_ret (v := .agg #[.string ⟨#[65, 100, 100]⟩, .string ByteArray.empty, .bool false, .slice (some ⟨v6.heap.size, 0, none⟩) 2 2]) (by simp [results, Try.results46, go_sem, Z0, Z1, Z2, Z3]) rfl ?_
          rw [HE.out]
          exact drew_at (r := (nd ⟨#[65, 100, 100]⟩ [t, (lf ⟨#[78, 117, 109]⟩ (pickOf bnL q))], s4)) HA9.out hlt (Lies.mono (fun q hq => hq.1) HL9.out)
      · skip
        go_simp
        have hb := bel_alloc W3 (.cells #[.string ⟨#[48, 49]⟩, .string ⟨#[]⟩, .string ⟨#[49, 50, 51, 52, 53, 54, 55, 56, 57, 48]⟩, .string ⟨#[97]⟩] 9)
        have HX4 := (show Hid ((W3.alloc (.cells #[.string ⟨#[48, 49]⟩, .string ⟨#[]⟩, .string ⟨#[49, 50, 51, 52, 53, 54, 55, 56, 57, 48]⟩, .string ⟨#[97]⟩] 9)).cell? ⟨W3.heap.size, q, none⟩ = some (.string (pickOf bnL q))) from cell_pick W3 bnL 9 #[.string ⟨#[48, 49]⟩, .string ⟨#[]⟩, .string ⟨#[49, 50, 51, 52, 53, 54, 55, 56, 57, 48]⟩, .string ⟨#[97]⟩] rfl q hl)
        have hsb : w.heap.size + 1 ≤ W3.heap.size := HA3.out.size
        have HA4 := (show Hid (At cs a cap b off c w s3 (W3.alloc (.cells #[.string ⟨#[48, 49]⟩, .string ⟨#[]⟩, .string ⟨#[49, 50, 51, 52, 53, 54, 55, 56, 57, 48]⟩, .string ⟨#[97]⟩] 9))) from HA3.out.still hb)
        have HB4 := (show Hid (Box4 (W3.alloc (.cells #[.string ⟨#[48, 49]⟩, .string ⟨#[]⟩, .string ⟨#[49, 50, 51, 52, 53, 54, 55, 56, 57, 48]⟩, .string ⟨#[97]⟩] 9)) w1.heap.size (.string t.name) (.string t.text) (.bool t.leaf) (.slice xa xm xc)) from Box4.still HB3.out hb)
        have HL4 := (show Hid (Lies (W3.alloc (.cells #[.string ⟨#[48, 49]⟩, .string ⟨#[]⟩, .string ⟨#[49, 50, 51, 52, 53, 54, 55, 56, 57, 48]⟩, .string ⟨#[97]⟩] 9)) (fun q => w.heap.size + 1 ≤ q ∧ q ≠ w1.heap.size) t (.slice xa xm xc)) from Lies.still HL3.out hb)
        clear hb HA3 HB3 HL3
        clear hHeld
        refine hK.out _ _ trivial (fun hHeld => ?_)
        clear hK K
        try simp only [Act.put, List.setIfInBounds_toArray, List.set_cons_zero, List.set_cons_succ]
        generalize W3.alloc (.cells #[.string ⟨#[48, 49]⟩, .string ⟨#[]⟩, .string ⟨#[49, 50, 51, 52, 53, 54, 55, 56, 57, 48]⟩, .string ⟨#[97]⟩] 9) = W4 at *
        refine wpAnyH_ready (rs := [0, 3]) (by kernel_rfl) (by simp) ?_
        refine (AllReadyH.cons (o := oD46_6_0) rfl (fun K hK => ?_) (AllReadyH.cons (o := oD46_6_3) rfl (fun K hK => ?_) AllReadyH.nil))
        · skip
          obtain ⟨e0', e1', e2', e3'⟩ := Box4.cells HB4.out
          go_simp
          clear e0' e1' e2' e3'
          clear hHeld
          refine hK.out _ _ trivial (fun hHeld => ?_)
          clear hK K
          try simp only [Act.put, List.setIfInBounds_toArray, List.set_cons_zero, List.set_cons_succ]
          refine wpAnyH_ready (rs := [3]) (by kernel_rfl) (by simp) ?_
          refine (AllReadyH.cons (o := oD46_6_3) rfl (fun K hK => ?_) AllReadyH.nil)
          go_simp
          go_at_call 30
          refine Calls.mono (HC0.out _ HA4.out.2.2) ?_
          rintro e v5 ⟨rfl, hO, hZ, hC⟩
          clear hZ
          have HA5 := (show Hid (At cs a cap b off c w s4 (v5)) from HA4.out.out hlt hO hC)
          have HB5 := (show Hid (Box4 (v5) w1.heap.size (.string t.name) (.string t.text) (.bool t.leaf) (.slice xa xm xc)) from Box4.out HB4.out hO (by omega))
          have HL5 := (show Hid (Lies (v5) (fun q => w.heap.size + 1 ≤ q ∧ q ≠ w1.heap.size) t (.slice xa xm xc)) from lies_outG HL4.out hO (by omega))
          have HX5 := (show Hid _ from Out.cell hO HX4.out (.inr (by omega)))
          clear hO hC HA4 HB4 HL4 HC0 HX4
          clear hHeld
          refine hK.out _ _ trivial (fun hHeld => ?_)
          clear hK K
          try simp only [Act.put, List.setIfInBounds_toArray, List.set_cons_zero, List.set_cons_succ]
          refine wpAnyH_take (i := 4) (oi := oD46_6_4) (v := ?v4) rfl (by kernel_rfl) (by kernel_rfl) (by kernel_rfl) (fun _ _ _ h => h) (Or.inl ⟨by rfl, ?h4⟩) hHeld ?r4
          case h4 => (intro w hSw; (try dsimp only at hSw); go_simp; try with_reducible rfl)
          try simp only [Act.put, List.setIfInBounds_toArray, List.set_cons_zero, List.set_cons_succ]
          refine wpAnyH_ready (rs := [5]) (by kernel_rfl) (by simp) ?_
          refine (AllReadyH.cons (o := oD46_6_5) rfl (fun K hK => ?_) AllReadyH.nil)
          have x5 := HX5.out
          go_simp
          clear x5
          clear hHeld
          refine hK.out _ _ trivial (fun hHeld => ?_)
          clear hK K
          try simp only [Act.put, List.setIfInBounds_toArray, List.set_cons_zero, List.set_cons_succ]
          refine wpAnyH_ready (rs := [6]) (by kernel_rfl) (by simp) ?_
          refine (AllReadyH.cons (o := oD46_6_6) rfl (fun K hK => ?_) AllReadyH.nil)
          go_simp
          go_at_call 47
          refine Calls.mono (leafD_any _ _ _) ?_
          rintro e v6 ⟨rfl, hb⟩
          have HA6 := (show Hid (At cs a cap b off c w s4 (v6)) from HA5.out.still hb)
          have HB6 := (show Hid (Box4 (v6) w1.heap.size (.string t.name) (.string t.text) (.bool t.leaf) (.slice xa xm xc)) from Box4.still HB5.out hb)
          have HL6 := (show Hid (Lies (v6) (fun q => w.heap.size + 1 ≤ q ∧ q ≠ w1.heap.size) t (.slice xa xm xc)) from Lies.still HL5.out hb)
          clear hb HA5 HB5 HL5 HX5
          clear hHeld
          refine hK.out _ _ trivial (fun hHeld => ?_)
          clear hK K
          try simp only [Act.put, List.setIfInBounds_toArray, List.set_cons_zero, List.set_cons_succ]
          refine wpAnyH_ready (rs := [7]) (by kernel_rfl) (by simp) ?_
          refine (AllReadyH.cons (o := oD46_6_7) rfl (fun K hK => ?_) AllReadyH.nil)
          go_simp
          have hb := bel_alloc v6 (.cells #[.string t.name, .string t.text, .bool t.leaf, .slice xa xm xc, .string ⟨#[78, 117, 109]⟩, .string (pickOf bnL q), .bool true, .slice none 0 0] 40)
          have hg6 : w1.heap.size < v6.heap.size := HB6.out.lt
          have HA7 := (show Hid (At cs a cap b off c w s4 (v6.alloc (.cells #[.string t.name, .string t.text, .bool t.leaf, .slice xa xm xc, .string ⟨#[78, 117, 109]⟩, .string (pickOf bnL q), .bool true, .slice none 0 0] 40))) from HA6.out.still hb)
          have HB7 := (show Hid (Box4 (v6.alloc (.cells #[.string t.name, .string t.text, .bool t.leaf, .slice xa xm xc, .string ⟨#[78, 117, 109]⟩, .string (pickOf bnL q), .bool true, .slice none 0 0] 40)) w1.heap.size (.string t.name) (.string t.text) (.bool t.leaf) (.slice xa xm xc)) from Box4.still HB6.out hb)
          have HL7 := (show Hid (Lies (v6.alloc (.cells #[.string t.name, .string t.text, .bool t.leaf, .slice xa xm xc, .string ⟨#[78, 117, 109]⟩, .string (pickOf bnL q), .bool true, .slice none 0 0] 40)) (fun q => w.heap.size + 1 ≤ q ∧ q ≠ w1.heap.size) (nd ⟨#[65, 100, 100]⟩ [t, (lf ⟨#[78, 117, 109]⟩ (pickOf bnL q))]) (.slice (some ⟨v6.heap.size, 0, none⟩) 2 2)) from lies_two v6 HL6.out (t2 := (lf ⟨#[78, 117, 109]⟩ (pickOf bnL q))) (lies_nil _ _ _ _ _ (by decide) (by unfold maxLen; omega)) ⟨HA6.out.size, by omega⟩ ⟨#[65, 100, 100]⟩ (by decide))
          clear hb HA6 HB6 HL6
          clear hHeld
          refine hK.out _ _ trivial (fun hHeld => ?_)
          clear hK K
          try simp only [Act.put, List.setIfInBounds_toArray, List.set_cons_zero, List.set_cons_succ]
          generalize v6.alloc (.cells #[.string t.name, .string t.text, .bool t.leaf, .slice xa xm xc, .string ⟨#[78, 117, 109]⟩, .string (pickOf bnL q), .bool true, .slice none 0 0] 40) = W7 at *
          refine wpAnyH_ready (rs := [8]) (by kernel_rfl) (by simp) ?_
          refine (AllReadyH.cons (o := oD46_6_8) rfl (fun K hK => ?_) AllReadyH.nil)
          go_simp
          go_at_call 48
          refine Calls.mono (nodeD_any _ _ _ _ _) ?_
          rintro e v8 ⟨rfl, hb⟩
          have HA8 := (show Hid (At cs a cap b off c w s4 (v8)) from HA7.out.still hb)
          have HB8 := (show Hid (Box4 (v8) w1.heap.size (.string t.name) (.string t.text) (.bool t.leaf) (.slice xa xm xc)) from Box4.still HB7.out hb)
          have HL8 := (show Hid (Lies v8 (fun q => w.heap.size + 1 ≤ q ∧ q ≠ w1.heap.size) (nd ⟨#[65, 100, 100]⟩ [t, (lf ⟨#[78, 117, 109]⟩ (pickOf bnL q))]) (.slice (some ⟨v6.heap.size, 0, none⟩) 2 2)) from Lies.still HL7.out hb)
          clear hb HA7 HB7 HL7
          clear hHeld
          refine hK.out _ _ trivial (fun hHeld => ?_)
          clear hK K
          try simp only [Act.put, List.setIfInBounds_toArray, List.set_cons_zero, List.set_cons_succ]
          refine wpAnyH_ready (rs := [9]) (by kernel_rfl) (by simp) ?_
          refine (AllReadyH.cons (o := oD46_6_9) rfl (fun K hK => ?_) AllReadyH.nil)
          obtain ⟨g0, g1, g2, g3⟩ := Box4.cells HB8.out
          have f0 := Box4.frozen HB8.out 0
          have f1 := Box4.frozen HB8.out 1
          have f2 := Box4.frozen HB8.out 2
          have f3 := Box4.frozen HB8.out 3
          have HA9 := (show Hid (At cs a cap b off c w s4 _) from HA8.out.put4 hlt hgt (.string ⟨#[65, 100, 100]⟩) (.string ByteArray.empty) (.bool false) (.slice (some ⟨v6.heap.size, 0, none⟩) 2 2))
          have HB9 := (show Hid (Box4 _ w1.heap.size (.string ⟨#[65, 100, 100]⟩) (.string ByteArray.empty) (.bool false) (.slice (some ⟨v6.heap.size, 0, none⟩) 2 2)) from Box4.put4 HB8.out (.string ⟨#[65, 100, 100]⟩) (.string ByteArray.empty) (.bool false) (.slice (some ⟨v6.heap.size, 0, none⟩) 2 2))
          have HL9 := (show Hid _ from lies_put4 HL8.out (.string ⟨#[65, 100, 100]⟩) (.string ByteArray.empty) (.bool false) (.slice (some ⟨v6.heap.size, 0, none⟩) 2 2))
          clear HA8 HB8 HL8
          go_simp
          clear g0 g1 g2 g3
          clear hHeld
          refine hK.out _ _ trivial (fun hHeld => ?_)
          clear hK K
          try simp only [Act.put, List.setIfInBounds_toArray, List.set_cons_zero, List.set_cons_succ]
          refine wpAnyH_done (by kernel_rfl) ?_ _
          clear hHeld
          obtain ⟨X0, X1, X2, X3⟩ := Box4.cells HB9.out
          obtain ⟨Z0, Z1, Z2, Z3⟩ := Box4.cells HA9.out.2.1
          have y0 := Box4.frozen HA9.out.2.1 0
          have y1 := Box4.frozen HA9.out.2.1 1
          have y2 := Box4.frozen HA9.out.2.1 2
          have y3 := Box4.frozen HA9.out.2.1 3
          go_wp2_with fail
          refine bodyPost_ret (v := .agg #[.string ⟨#[65, 100, 100]⟩, .string ByteArray.empty, .bool false, .slice (some ⟨v6.heap.size, 0, none⟩) 2 2]) (by simp [results, Try.results46, go_sem, Z0, Z1, Z2, Z3]) rfl ?_
          rw [HE.out]
          exact drew_at (r := (nd ⟨#[65, 100, 100]⟩ [t, (lf ⟨#[78, 117, 109]⟩ (pickOf bnL q))], s4)) HA9.out hlt (Lies.mono (fun q hq => hq.1) HL9.out)
        · skip
          go_simp
          go_at_call 30
          refine Calls.mono (HC0.out _ HA4.out.2.2) ?_
          rintro e v5 ⟨rfl, hO, hZ, hC⟩
          clear hZ
          have HA5 := (show Hid (At cs a cap b off c w s4 (v5)) from HA4.out.out hlt hO hC)
          have HB5 := (show Hid (Box4 (v5) w1.heap.size (.string t.name) (.string t.text) (.bool t.leaf) (.slice xa xm xc)) from Box4.out HB4.out hO (by omega))
          have HL5 := (show Hid (Lies (v5) (fun q => w.heap.size + 1 ≤ q ∧ q ≠ w1.heap.size) t (.slice xa xm xc)) from lies_outG HL4.out hO (by omega))
          have HX5 := (show Hid _ from Out.cell hO HX4.out (.inr (by omega)))
          clear hO hC HA4 HB4 HL4 HC0 HX4
          clear hHeld
          refine hK.out _ _ trivial (fun hHeld => ?_)
          clear hK K
          try simp only [Act.put, List.setIfInBounds_toArray, List.set_cons_zero, List.set_cons_succ]
          refine wpAnyH_take (i := 4) (oi := oD46_6_4) (v := ?v5) rfl (by kernel_rfl) (by kernel_rfl) (by kernel_rfl) (fun _ _ _ h => h) (Or.inl ⟨by rfl, ?h5⟩) hHeld ?r5
          case h5 => (intro w hSw; (try dsimp only at hSw); go_simp; try with_reducible rfl)
          try simp only [Act.put, List.setIfInBounds_toArray, List.set_cons_zero, List.set_cons_succ]
          refine wpAnyH_ready (rs := [0, 5]) (by kernel_rfl) (by simp) ?_
          refine (AllReadyH.cons (o := oD46_6_0) rfl (fun K hK => ?_) (AllReadyH.cons (o := oD46_6_5) rfl (fun K hK => ?_) AllReadyH.nil))
          · skip
            obtain ⟨e0', e1', e2', e3'⟩ := Box4.cells HB5.out
            go_simp
            clear e0' e1' e2' e3'
            clear hHeld
            refine hK.out _ _ trivial (fun hHeld => ?_)
            clear hK K
            try simp only [Act.put, List.setIfInBounds_toArray, List.set_cons_zero, List.set_cons_succ]
            refine wpAnyH_ready (rs := [5]) (by kernel_rfl) (by simp) ?_
            refine (AllReadyH.cons (o := oD46_6_5) rfl (fun K hK => ?_) AllReadyH.nil)
            have x5 := HX5.out
            go_simp
            clear x5
            clear hHeld
            refine hK.out _ _ trivial (fun hHeld => ?_)
            clear hK K
            try simp only [Act.put, List.setIfInBounds_toArray, List.set_cons_zero, List.set_cons_succ]
            refine wpAnyH_ready (rs := [6]) (by kernel_rfl) (by simp) ?_
            refine (AllReadyH.cons (o := oD46_6_6) rfl (fun K hK => ?_) AllReadyH.nil)
            go_simp
            go_at_call 47
            refine Calls.mono (leafD_any _ _ _) ?_
            rintro e v6 ⟨rfl, hb⟩
            have HA6 := (show Hid (At cs a cap b off c w s4 (v6)) from HA5.out.still hb)
            have HB6 := (show Hid (Box4 (v6) w1.heap.size (.string t.name) (.string t.text) (.bool t.leaf) (.slice xa xm xc)) from Box4.still HB5.out hb)
            have HL6 := (show Hid (Lies (v6) (fun q => w.heap.size + 1 ≤ q ∧ q ≠ w1.heap.size) t (.slice xa xm xc)) from Lies.still HL5.out hb)
            clear hb HA5 HB5 HL5 HX5
            clear hHeld
            refine hK.out _ _ trivial (fun hHeld => ?_)
            clear hK K
            try simp only [Act.put, List.setIfInBounds_toArray, List.set_cons_zero, List.set_cons_succ]
            refine wpAnyH_ready (rs := [7]) (by kernel_rfl) (by simp) ?_
            refine (AllReadyH.cons (o := oD46_6_7) rfl (fun K hK => ?_) AllReadyH.nil)
            go_simp
            have hb := bel_alloc v6 (.cells #[.string t.name, .string t.text, .bool t.leaf, .slice xa xm xc, .string ⟨#[78, 117, 109]⟩, .string (pickOf bnL q), .bool true, .slice none 0 0] 40)
            have hg6 : w1.heap.size < v6.heap.size := HB6.out.lt
            have HA7 := (show Hid (At cs a cap b off c w s4 (v6.alloc (.cells #[.string t.name, .string t.text, .bool t.leaf, .slice xa xm xc, .string ⟨#[78, 117, 109]⟩, .string (pickOf bnL q), .bool true, .slice none 0 0] 40))) from HA6.out.still hb)
            have HB7 := (show Hid (Box4 (v6.alloc (.cells #[.string t.name, .string t.text, .bool t.leaf, .slice xa xm xc, .string ⟨#[78, 117, 109]⟩, .string (pickOf bnL q), .bool true, .slice none 0 0] 40)) w1.heap.size (.string t.name) (.string t.text) (.bool t.leaf) (.slice xa xm xc)) from Box4.still HB6.out hb)
            have HL7 := (show Hid (Lies (v6.alloc (.cells #[.string t.name, .string t.text, .bool t.leaf, .slice xa xm xc, .string ⟨#[78, 117, 109]⟩, .string (pickOf bnL q), .bool true, .slice none 0 0] 40)) (fun q => w.heap.size + 1 ≤ q ∧ q ≠ w1.heap.size) (nd ⟨#[65, 100, 100]⟩ [t, (lf ⟨#[78, 117, 109]⟩ (pickOf bnL q))]) (.slice (some ⟨v6.heap.size, 0, none⟩) 2 2)) from lies_two v6 HL6.out (t2 := (lf ⟨#[78, 117, 109]⟩ (pickOf bnL q))) (lies_nil _ _ _ _ _ (by decide) (by unfold maxLen; omega)) ⟨HA6.out.size, by omega⟩ ⟨#[65, 100, 100]⟩ (by decide))
            clear hb HA6 HB6 HL6
            clear hHeld
            refine hK.out _ _ trivial (fun hHeld => ?_)
            clear hK K
            try simp only [Act.put, List.setIfInBounds_toArray, List.set_cons_zero, List.set_cons_succ]
            generalize v6.alloc (.cells #[.string t.name, .string t.text, .bool t.leaf, .slice xa xm xc, .string ⟨#[78, 117, 109]⟩, .string (pickOf bnL q), .bool true, .slice none 0 0] 40) = W7 at *
            refine wpAnyH_ready (rs := [8]) (by kernel_rfl) (by simp) ?_
            refine (AllReadyH.cons (o := oD46_6_8) rfl (fun K hK => ?_) AllReadyH.nil)
            go_simp
            go_at_call 48
            refine Calls.mono (nodeD_any _ _ _ _ _) ?_
            rintro e v8 ⟨rfl, hb⟩
            have HA8 := (show Hid (At cs a cap b off c w s4 (v8)) from HA7.out.still hb)
            have HB8 := (show Hid (Box4 (v8) w1.heap.size (.string t.name) (.string t.text) (.bool t.leaf) (.slice xa xm xc)) from Box4.still HB7.out hb)
            have HL8 := (show Hid (Lies v8 (fun q => w.heap.size + 1 ≤ q ∧ q ≠ w1.heap.size) (nd ⟨#[65, 100, 100]⟩ [t, (lf ⟨#[78, 117, 109]⟩ (pickOf bnL q))]) (.slice (some ⟨v6.heap.size, 0, none⟩) 2 2)) from Lies.still HL7.out hb)
            clear hb HA7 HB7 HL7
            clear hHeld
            refine hK.out _ _ trivial (fun hHeld => ?_)
            clear hK K
            try simp only [Act.put, List.setIfInBounds_toArray, List.set_cons_zero, List.set_cons_succ]
            refine wpAnyH_ready (rs := [9]) (by kernel_rfl) (by simp) ?_
            refine (AllReadyH.cons (o := oD46_6_9) rfl (fun K hK => ?_) AllReadyH.nil)
            obtain ⟨g0, g1, g2, g3⟩ := Box4.cells HB8.out
            have f0 := Box4.frozen HB8.out 0
            have f1 := Box4.frozen HB8.out 1
            have f2 := Box4.frozen HB8.out 2
            have f3 := Box4.frozen HB8.out 3
            have HA9 := (show Hid (At cs a cap b off c w s4 _) from HA8.out.put4 hlt hgt (.string ⟨#[65, 100, 100]⟩) (.string ByteArray.empty) (.bool false) (.slice (some ⟨v6.heap.size, 0, none⟩) 2 2))
            have HB9 := (show Hid (Box4 _ w1.heap.size (.string ⟨#[65, 100, 100]⟩) (.string ByteArray.empty) (.bool false) (.slice (some ⟨v6.heap.size, 0, none⟩) 2 2)) from Box4.put4 HB8.out (.string ⟨#[65, 100, 100]⟩) (.string ByteArray.empty) (.bool false) (.slice (some ⟨v6.heap.size, 0, none⟩) 2 2))
            have HL9 := (show Hid _ from lies_put4 HL8.out (.string ⟨#[65, 100, 100]⟩) (.string ByteArray.empty) (.bool false) (.slice (some ⟨v6.heap.size, 0, none⟩) 2 2))
            clear HA8 HB8 HL8
            go_simp
            clear g0 g1 g2 g3
            clear hHeld
            refine hK.out _ _ trivial (fun hHeld => ?_)
            clear hK K
            try simp only [Act.put, List.setIfInBounds_toArray, List.set_cons_zero, List.set_cons_succ]
            refine wpAnyH_done (by kernel_rfl) ?_ _
            clear hHeld
            obtain ⟨X0, X1, X2, X3⟩ := Box4.cells HB9.out
            obtain ⟨Z0, Z1, Z2, Z3⟩ := Box4.cells HA9.out.2.1
            have y0 := Box4.frozen HA9.out.2.1 0
            have y1 := Box4.frozen HA9.out.2.1 1
            have y2 := Box4.frozen HA9.out.2.1 2
            have y3 := Box4.frozen HA9.out.2.1 3
            go_wp2_with fail
            refine bodyPost_ret (v := .agg #[.string ⟨#[65, 100, 100]⟩, .string ByteArray.empty, .bool false, .slice (some ⟨v6.heap.size, 0, none⟩) 2 2]) (by simp [results, Try.results46, go_sem, Z0, Z1, Z2, Z3]) rfl ?_
            rw [HE.out]
            exact drew_at (r := (nd ⟨#[65, 100, 100]⟩ [t, (lf ⟨#[78, 117, 109]⟩ (pickOf bnL q))], s4)) HA9.out hlt (Lies.mono (fun q hq => hq.1) HL9.out)
          · skip
            have x5 := HX5.out
            go_simp
            clear x5
            clear hHeld
            refine hK.out _ _ trivial (fun hHeld => ?_)
            clear hK K
            try simp only [Act.put, List.setIfInBounds_toArray, List.set_cons_zero, List.set_cons_succ]
            refine wpAnyH_ready (rs := [0, 6]) (by kernel_rfl) (by simp) ?_
            refine (AllReadyH.cons (o := oD46_6_0) rfl (fun K hK => ?_) (AllReadyH.cons (o := oD46_6_6) rfl (fun K hK => ?_) AllReadyH.nil))
            · skip
              obtain ⟨e0', e1', e2', e3'⟩ := Box4.cells HB5.out
              go_simp
              clear e0' e1' e2' e3'
              clear hHeld
              refine hK.out _ _ trivial (fun hHeld => ?_)
              clear hK K
              try simp only [Act.put, List.setIfInBounds_toArray, List.set_cons_zero, List.set_cons_succ]
              refine wpAnyH_ready (rs := [6]) (by kernel_rfl) (by simp) ?_
              refine (AllReadyH.cons (o := oD46_6_6) rfl (fun K hK => ?_) AllReadyH.nil)
              go_simp
              go_at_call 47
              refine Calls.mono (leafD_any _ _ _) ?_
              rintro e v6 ⟨rfl, hb⟩
              have HA6 := (show Hid (At cs a cap b off c w s4 (v6)) from HA5.out.still hb)
              have HB6 := (show Hid (Box4 (v6) w1.heap.size (.string t.name) (.string t.text) (.bool t.leaf) (.slice xa xm xc)) from Box4.still HB5.out hb)
              have HL6 := (show Hid (Lies (v6) (fun q => w.heap.size + 1 ≤ q ∧ q ≠ w1.heap.size) t (.slice xa xm xc)) from Lies.still HL5.out hb)
              clear hb HA5 HB5 HL5 HX5
              clear hHeld
              refine hK.out _ _ trivial (fun hHeld => ?_)
              clear hK K
              try simp only [Act.put, List.setIfInBounds_toArray, List.set_cons_zero, List.set_cons_succ]
              refine wpAnyH_ready (rs := [7]) (by kernel_rfl) (by simp) ?_
              refine (AllReadyH.cons (o := oD46_6_7) rfl (fun K hK => ?_) AllReadyH.nil)
              go_simp
              have hb := bel_alloc v6 (.cells #[.string t.name, .string t.text, .bool t.leaf, .slice xa xm xc, .string ⟨#[78, 117, 109]⟩, .string (pickOf bnL q), .bool true, .slice none 0 0] 40)
              have hg6 : w1.heap.size < v6.heap.size := HB6.out.lt
              have HA7 := (show Hid (At cs a cap b off c w s4 (v6.alloc (.cells #[.string t.name, .string t.text, .bool t.leaf, .slice xa xm xc, .string ⟨#[78, 117, 109]⟩, .string (pickOf bnL q), .bool true, .slice none 0 0] 40))) from HA6.out.still hb)
              have HB7 := (show Hid (Box4 (v6.alloc (.cells #[.string t.name, .string t.text, .bool t.leaf, .slice xa xm xc, .string ⟨#[78, 117, 109]⟩, .string (pickOf bnL q), .bool true, .slice none 0 0] 40)) w1.heap.size (.string t.name) (.string t.text) (.bool t.leaf) (.slice xa xm xc)) from Box4.still HB6.out hb)
              have HL7 := (show Hid (Lies (v6.alloc (.cells #[.string t.name, .string t.text, .bool t.leaf, .slice xa xm xc, .string ⟨#[78, 117, 109]⟩, .string (pickOf bnL q), .bool true, .slice none 0 0] 40)) (fun q => w.heap.size + 1 ≤ q ∧ q ≠ w1.heap.size) (nd ⟨#[65, 100, 100]⟩ [t, (lf ⟨#[78, 117, 109]⟩ (pickOf bnL q))]) (.slice (some ⟨v6.heap.size, 0, none⟩) 2 2)) from lies_two v6 HL6.out (t2 := (lf ⟨#[78, 117, 109]⟩ (pickOf bnL q))) (lies_nil _ _ _ _ _ (by decide) (by unfold maxLen; omega)) ⟨HA6.out.size, by omega⟩ ⟨#[65, 100, 100]⟩ (by decide))
              clear hb HA6 HB6 HL6
              clear hHeld
              refine hK.out _ _ trivial (fun hHeld => ?_)
              clear hK K
              try simp only [Act.put, List.setIfInBounds_toArray, List.set_cons_zero, List.set_cons_succ]
              generalize v6.alloc (.cells #[.string t.name, .string t.text, .bool t.leaf, .slice xa xm xc, .string ⟨#[78, 117, 109]⟩, .string (pickOf bnL q), .bool true, .slice none 0 0] 40) = W7 at *
              refine wpAnyH_ready (rs := [8]) (by kernel_rfl) (by simp) ?_
              refine (AllReadyH.cons (o := oD46_6_8) rfl (fun K hK => ?_) AllReadyH.nil)
              go_simp
              go_at_call 48
              refine Calls.mono (nodeD_any _ _ _ _ _) ?_
              rintro e v8 ⟨rfl, hb⟩
              have HA8 := (show Hid (At cs a cap b off c w s4 (v8)) from HA7.out.still hb)
              have HB8 := (show Hid (Box4 (v8) w1.heap.size (.string t.name) (.string t.text) (.bool t.leaf) (.slice xa xm xc)) from Box4.still HB7.out hb)
              have HL8 := (show Hid (Lies v8 (fun q => w.heap.size + 1 ≤ q ∧ q ≠ w1.heap.size) (nd ⟨#[65, 100, 100]⟩ [t, (lf ⟨#[78, 117, 109]⟩ (pickOf bnL q))]) (.slice (some ⟨v6.heap.size, 0, none⟩) 2 2)) from Lies.still HL7.out hb)
              clear hb HA7 HB7 HL7
              clear hHeld
              refine hK.out _ _ trivial (fun hHeld => ?_)
              clear hK K
              try simp only [Act.put, List.setIfInBounds_toArray, List.set_cons_zero, List.set_cons_succ]
              refine wpAnyH_ready (rs := [9]) (by kernel_rfl) (by simp) ?_
              refine (AllReadyH.cons (o := oD46_6_9) rfl (fun K hK => ?_) AllReadyH.nil)
              obtain ⟨g0, g1, g2, g3⟩ := Box4.cells HB8.out
              have f0 := Box4.frozen HB8.out 0
              have f1 := Box4.frozen HB8.out 1
              have f2 := Box4.frozen HB8.out 2
              have f3 := Box4.frozen HB8.out 3
              have HA9 := (show Hid (At cs a cap b off c w s4 _) from HA8.out.put4 hlt hgt (.string ⟨#[65, 100, 100]⟩) (.string ByteArray.empty) (.bool false) (.slice (some ⟨v6.heap.size, 0, none⟩) 2 2))
              have HB9 := (show Hid (Box4 _ w1.heap.size (.string ⟨#[65, 100, 100]⟩) (.string ByteArray.empty) (.bool false) (.slice (some ⟨v6.heap.size, 0, none⟩) 2 2)) from Box4.put4 HB8.out (.string ⟨#[65, 100, 100]⟩) (.string ByteArray.empty) (.bool false) (.slice (some ⟨v6.heap.size, 0, none⟩) 2 2))
              have HL9 := (show Hid _ from lies_put4 HL8.out (.string ⟨#[65, 100, 100]⟩) (.string ByteArray.empty) (.bool false) (.slice (some ⟨v6.heap.size, 0, none⟩) 2 2))
              clear HA8 HB8 HL8
              go_simp
              clear g0 g1 g2 g3
              clear hHeld
              refine hK.out _ _ trivial (fun hHeld => ?_)
              clear hK K
              try simp only [Act.put, List.setIfInBounds_toArray, List.set_cons_zero, List.set_cons_succ]
              refine wpAnyH_done (by kernel_rfl) ?_ _
              clear hHeld
              obtain ⟨X0, X1, X2, X3⟩ := Box4.cells HB9.out
              obtain ⟨Z0, Z1, Z2, Z3⟩ := Box4.cells HA9.out.2.1
              have y0 := Box4.frozen HA9.out.2.1 0
              have y1 := Box4.frozen HA9.out.2.1 1
              have y2 := Box4.frozen HA9.out.2.1 2
              have y3 := Box4.frozen HA9.out.2.1 3
              go_wp2_with fail
              refine bodyPost_ret (v := .agg #[.string ⟨#[65, 100, 100]⟩, .string ByteArray.empty, .bool false, .slice (some ⟨v6.heap.size, 0, none⟩) 2 2]) (by simp [results, Try.results46, go_sem, Z0, Z1, Z2, Z3]) rfl ?_
              rw [HE.out]
              exact drew_at (r := (nd ⟨#[65, 100, 100]⟩ [t, (lf ⟨#[78, 117, 109]⟩ (pickOf bnL q))], s4)) HA9.out hlt (Lies.mono (fun q hq => hq.1) HL9.out)
            · skip
              go_simp
              go_at_call 47
              refine Calls.mono (leafD_any _ _ _) ?_
              rintro e v6 ⟨rfl, hb⟩
              have HA6 := (show Hid (At cs a cap b off c w s4 (v6)) from HA5.out.still hb)
              have HB6 := (show Hid (Box4 (v6) w1.heap.size (.string t.name) (.string t.text) (.bool t.leaf) (.slice xa xm xc)) from Box4.still HB5.out hb)
              have HL6 := (show Hid (Lies (v6) (fun q => w.heap.size + 1 ≤ q ∧ q ≠ w1.heap.size) t (.slice xa xm xc)) from Lies.still HL5.out hb)
              clear hb HA5 HB5 HL5 HX5
              clear hHeld
              refine hK.out _ _ trivial (fun hHeld => ?_)
              clear hK K
              try simp only [Act.put, List.setIfInBounds_toArray, List.set_cons_zero, List.set_cons_succ]
              refine wpAnyH_ready (rs := [0]) (by kernel_rfl) (by simp) ?_
              refine (AllReadyH.cons (o := oD46_6_0) rfl (fun K hK => ?_) AllReadyH.nil)
              obtain ⟨e0', e1', e2', e3'⟩ := Box4.cells HB6.out
              go_simp
              clear e0' e1' e2' e3'
              clear hHeld
              refine hK.out _ _ trivial (fun hHeld => ?_)
              clear hK K
              try simp only [Act.put, List.setIfInBounds_toArray, List.set_cons_zero, List.set_cons_succ]
              refine wpAnyH_ready (rs := [7]) (by kernel_rfl) (by simp) ?_
              refine (AllReadyH.cons (o := oD46_6_7) rfl (fun K hK => ?_) AllReadyH.nil)
              go_simp
              have hb := bel_alloc v6 (.cells #[.string t.name, .string t.text, .bool t.leaf, .slice xa xm xc, .string ⟨#[78, 117, 109]⟩, .string (pickOf bnL q), .bool true, .slice none 0 0] 40)
              have hg6 : w1.heap.size < v6.heap.size := HB6.out.lt
              have HA7 := (show Hid (At cs a cap b off c w s4 (v6.alloc (.cells #[.string t.name, .string t.text, .bool t.leaf, .slice xa xm xc, .string ⟨#[78, 117, 109]⟩, .string (pickOf bnL q), .bool true, .slice none 0 0] 40))) from HA6.out.still hb)
              have HB7 := (show Hid (Box4 (v6.alloc (.cells #[.string t.name, .string t.text, .bool t.leaf, .slice xa xm xc, .string ⟨#[78, 117, 109]⟩, .string (pickOf bnL q), .bool true, .slice none 0 0] 40)) w1.heap.size (.string t.name) (.string t.text) (.bool t.leaf) (.slice xa xm xc)) from Box4.still HB6.out hb)
              have HL7 := (show Hid (Lies (v6.alloc (.cells #[.string t.name, .string t.text, .bool t.leaf, .slice xa xm xc, .string ⟨#[78, 117, 109]⟩, .string (pickOf bnL q), .bool true, .slice none 0 0] 40)) (fun q => w.heap.size + 1 ≤ q ∧ q ≠ w1.heap.size) (nd ⟨#[65, 100, 100]⟩ [t, (lf ⟨#[78, 117, 109]⟩ (pickOf bnL q))]) (.slice (some ⟨v6.heap.size, 0, none⟩) 2 2)) from lies_two v6 HL6.out (t2 := (lf ⟨#[78, 117, 109]⟩ (pickOf bnL q))) (lies_nil _ _ _ _ _ (by decide) (by unfold maxLen; omega)) ⟨HA6.out.size, by omega⟩ ⟨#[65, 100, 100]⟩ (by decide))
              clear hb HA6 HB6 HL6
              clear hHeld
              refine hK.out _ _ trivial (fun hHeld => ?_)
              clear hK K
              try simp only [Act.put, List.setIfInBounds_toArray, List.set_cons_zero, List.set_cons_succ]
              generalize v6.alloc (.cells #[.string t.name, .string t.text, .bool t.leaf, .slice xa xm xc, .string ⟨#[78, 117, 109]⟩, .string (pickOf bnL q), .bool true, .slice none 0 0] 40) = W7 at *
              refine wpAnyH_ready (rs := [8]) (by kernel_rfl) (by simp) ?_
              refine (AllReadyH.cons (o := oD46_6_8) rfl (fun K hK => ?_) AllReadyH.nil)
              go_simp
              go_at_call 48
              refine Calls.mono (nodeD_any _ _ _ _ _) ?_
              rintro e v8 ⟨rfl, hb⟩
              have HA8 := (show Hid (At cs a cap b off c w s4 (v8)) from HA7.out.still hb)
              have HB8 := (show Hid (Box4 (v8) w1.heap.size (.string t.name) (.string t.text) (.bool t.leaf) (.slice xa xm xc)) from Box4.still HB7.out hb)
              have HL8 := (show Hid (Lies v8 (fun q => w.heap.size + 1 ≤ q ∧ q ≠ w1.heap.size) (nd ⟨#[65, 100, 100]⟩ [t, (lf ⟨#[78, 117, 109]⟩ (pickOf bnL q))]) (.slice (some ⟨v6.heap.size, 0, none⟩) 2 2)) from Lies.still HL7.out hb)
              clear hb HA7 HB7 HL7
              clear hHeld
              refine hK.out _ _ trivial (fun hHeld => ?_)
              clear hK K
              try simp only [Act.put, List.setIfInBounds_toArray, List.set_cons_zero, List.set_cons_succ]
              refine wpAnyH_ready (rs := [9]) (by kernel_rfl) (by simp) ?_
              refine (AllReadyH.cons (o := oD46_6_9) rfl (fun K hK => ?_) AllReadyH.nil)
              obtain ⟨g0, g1, g2, g3⟩ := Box4.cells HB8.out
              have f0 := Box4.frozen HB8.out 0
              have f1 := Box4.frozen HB8.out 1
              have f2 := Box4.frozen HB8.out 2
              have f3 := Box4.frozen HB8.out 3
              have HA9 := (show Hid (At cs a cap b off c w s4 _) from HA8.out.put4 hlt hgt (.string ⟨#[65, 100, 100]⟩) (.string ByteArray.empty) (.bool false) (.slice (some ⟨v6.heap.size, 0, none⟩) 2 2))
              have HB9 := (show Hid (Box4 _ w1.heap.size (.string ⟨#[65, 100, 100]⟩) (.string ByteArray.empty) (.bool false) (.slice (some ⟨v6.heap.size, 0, none⟩) 2 2)) from Box4.put4 HB8.out (.string ⟨#[65, 100, 100]⟩) (.string ByteArray.empty) (.bool false) (.slice (some ⟨v6.heap.size, 0, none⟩) 2 2))
              have HL9 := (show Hid _ from lies_put4 HL8.out (.string ⟨#[65, 100, 100]⟩) (.string ByteArray.empty) (.bool false) (.slice (some ⟨v6.heap.size, 0, none⟩) 2 2))
              clear HA8 HB8 HL8
              go_simp
              clear g0 g1 g2 g3
              clear hHeld
              refine hK.out _ _ trivial (fun hHeld => ?_)
              clear hK K
              try simp only [Act.put, List.setIfInBounds_toArray, List.set_cons_zero, List.set_cons_succ]
              refine wpAnyH_done (by kernel_rfl) ?_ _
              clear hHeld
              obtain ⟨X0, X1, X2, X3⟩ := Box4.cells HB9.out
              obtain ⟨Z0, Z1, Z2, Z3⟩ := Box4.cells HA9.out.2.1
              have y0 := Box4.frozen HA9.out.2.1 0
              have y1 := Box4.frozen HA9.out.2.1 1
              have y2 := Box4.frozen HA9.out.2.1 2
              have y3 := Box4.frozen HA9.out.2.1 3
              go_wp2_with fail
              refine bodyPost_ret (v := .agg #[.string ⟨#[65, 100, 100]⟩, .string ByteArray.empty, .bool false, .slice (some ⟨v6.heap.size, 0, none⟩) 2 2]) (by simp [results, Try.results46, go_sem, Z0, Z1, Z2, Z3]) rfl ?_
              rw [HE.out]
              exact drew_at (r := (nd ⟨#[65, 100, 100]⟩ [t, (lf ⟨#[78, 117, 109]⟩ (pickOf bnL q))], s4)) HA9.out hlt (Lies.mono (fun q hq => hq.1) HL9.out)
      · skip
        go_simp
        go_at_call 30
        refine Calls.mono (HC0.out _ HA3.out.2.2) ?_
        rintro e v4 ⟨rfl, hO, hZ, hC⟩
        clear hZ
        have HA4 := (show Hid (At cs a cap b off c w s4 (v4)) from HA3.out.out hlt hO hC)
        have HB4 := (show Hid (Box4 (v4) w1.heap.size (.string t.name) (.string t.text) (.bool t.leaf) (.slice xa xm xc)) from Box4.out HB3.out hO (by omega))
        have HL4 := (show Hid (Lies (v4) (fun q => w.heap.size + 1 ≤ q ∧ q ≠ w1.heap.size) t (.slice xa xm xc)) from lies_outG HL3.out hO (by omega))
        clear hO hC HA3 HB3 HL3 HC0
        clear hHeld
        refine hK.out _ _ trivial (fun hHeld => ?_)
        clear hK K
        try simp only [Act.put, List.setIfInBounds_toArray, List.set_cons_zero, List.set_cons_succ]
        refine wpAnyH_ready (rs := [0, 1]) (by kernel_rfl) (by simp) ?_
        refine (AllReadyH.cons (o := oD46_6_0) rfl (fun K hK => ?_) (AllReadyH.cons (o := oD46_6_1) rfl (fun K hK => ?_) AllReadyH.nil))
        · skip
          obtain ⟨e0', e1', e2', e3'⟩ := Box4.cells HB4.out
          go_simp
          clear e0' e1' e2' e3'
          clear hHeld
          refine hK.out _ _ trivial (fun hHeld => ?_)
          clear hK K
          try simp only [Act.put, List.setIfInBounds_toArray, List.set_cons_zero, List.set_cons_succ]
          refine wpAnyH_ready (rs := [1]) (by kernel_rfl) (by simp) ?_
          refine (AllReadyH.cons (o := oD46_6_1) rfl (fun K hK => ?_) AllReadyH.nil)
          go_simp
          have hb := bel_alloc v4 (.cells #[.string ⟨#[48, 49]⟩, .string ⟨#[]⟩, .string ⟨#[49, 50, 51, 52, 53, 54, 55, 56, 57, 48]⟩, .string ⟨#[97]⟩] 9)
          have HX5 := (show Hid ((v4.alloc (.cells #[.string ⟨#[48, 49]⟩, .string ⟨#[]⟩, .string ⟨#[49, 50, 51, 52, 53, 54, 55, 56, 57, 48]⟩, .string ⟨#[97]⟩] 9)).cell? ⟨v4.heap.size, q, none⟩ = some (.string (pickOf bnL q))) from cell_pick v4 bnL 9 #[.string ⟨#[48, 49]⟩, .string ⟨#[]⟩, .string ⟨#[49, 50, 51, 52, 53, 54, 55, 56, 57, 48]⟩, .string ⟨#[97]⟩] rfl q hl)
          have hsb : w.heap.size + 1 ≤ v4.heap.size := HA4.out.size
          have HA5 := (show Hid (At cs a cap b off c w s4 (v4.alloc (.cells #[.string ⟨#[48, 49]⟩, .string ⟨#[]⟩, .string ⟨#[49, 50, 51, 52, 53, 54, 55, 56, 57, 48]⟩, .string ⟨#[97]⟩] 9))) from HA4.out.still hb)
          have HB5 := (show Hid (Box4 (v4.alloc (.cells #[.string ⟨#[48, 49]⟩, .string ⟨#[]⟩, .string ⟨#[49, 50, 51, 52, 53, 54, 55, 56, 57, 48]⟩, .string ⟨#[97]⟩] 9)) w1.heap.size (.string t.name) (.string t.text) (.bool t.leaf) (.slice xa xm xc)) from Box4.still HB4.out hb)
          have HL5 := (show Hid (Lies (v4.alloc (.cells #[.string ⟨#[48, 49]⟩, .string ⟨#[]⟩, .string ⟨#[49, 50, 51, 52, 53, 54, 55, 56, 57, 48]⟩, .string ⟨#[97]⟩] 9)) (fun q => w.heap.size + 1 ≤ q ∧ q ≠ w1.heap.size) t (.slice xa xm xc)) from Lies.still HL4.out hb)
          clear hb HA4 HB4 HL4
          clear hHeld
          refine hK.out _ _ trivial (fun hHeld => ?_)
          clear hK K
          try simp only [Act.put, List.setIfInBounds_toArray, List.set_cons_zero, List.set_cons_succ]
          generalize v4.alloc (.cells #[.string ⟨#[48, 49]⟩, .string ⟨#[]⟩, .string ⟨#[49, 50, 51, 52, 53, 54, 55, 56, 57, 48]⟩, .string ⟨#[97]⟩] 9) = W5 at *
          refine wpAnyH_take (i := 4) (oi := oD46_6_4) (v := ?v6) rfl (by kernel_rfl) (by kernel_rfl) (by kernel_rfl) (fun _ _ _ h => h) (Or.inl ⟨by rfl, ?h6⟩) hHeld ?r6
          case h6 => (intro w hSw; (try dsimp only at hSw); go_simp; try with_reducible rfl)
          try simp only [Act.put, List.setIfInBounds_toArray, List.set_cons_zero, List.set_cons_succ]
          refine wpAnyH_ready (rs := [5]) (by kernel_rfl) (by simp) ?_
          refine (AllReadyH.cons (o := oD46_6_5) rfl (fun K hK => ?_) AllReadyH.nil)
          have x5 := HX5.out
          go_simp
          clear x5
          clear hHeld
          refine hK.out _ _ trivial (fun hHeld => ?_)
          clear hK K
          try simp only [Act.put, List.setIfInBounds_toArray, List.set_cons_zero, List.set_cons_succ]
          refine wpAnyH_ready (rs := [6]) (by kernel_rfl) (by simp) ?_
          refine (AllReadyH.cons (o := oD46_6_6) rfl (fun K hK => ?_) AllReadyH.nil)
          go_simp
          go_at_call 47
          refine Calls.mono (leafD_any _ _ _) ?_
          rintro e v6 ⟨rfl, hb⟩
          have HA6 := (show Hid (At cs a cap b off c w s4 (v6)) from HA5.out.still hb)
          have HB6 := (show Hid (Box4 (v6) w1.heap.size (.string t.name) (.string t.text) (.bool t.leaf) (.slice xa xm xc)) from Box4.still HB5.out hb)
          have HL6 := (show Hid (Lies (v6) (fun q => w.heap.size + 1 ≤ q ∧ q ≠ w1.heap.size) t (.slice xa xm xc)) from Lies.still HL5.out hb)
          clear hb HA5 HB5 HL5 HX5
          clear hHeld
          refine hK.out _ _ trivial (fun hHeld => ?_)
          clear hK K
          try simp only [Act.put, List.setIfInBounds_toArray, List.set_cons_zero, List.set_cons_succ]
          refine wpAnyH_ready (rs := [7]) (by kernel_rfl) (by simp) ?_
          refine (AllReadyH.cons (o := oD46_6_7) rfl (fun K hK => ?_) AllReadyH.nil)
          go_simp
          have hb := bel_alloc v6 (.cells #[.string t.name, .string t.text, .bool t.leaf, .slice xa xm xc, .string ⟨#[78, 117, 109]⟩, .string (pickOf bnL q), .bool true, .slice none 0 0] 40)
          have hg6 : w1.heap.size < v6.heap.size := HB6.out.lt
          have HA7 := (show Hid (At cs a cap b off c w s4 (v6.alloc (.cells #[.string t.name, .string t.text, .bool t.leaf, .slice xa xm xc, .string ⟨#[78, 117, 109]⟩, .string (pickOf bnL q), .bool true, .slice none 0 0] 40))) from HA6.out.still hb)
          have HB7 := (show Hid (Box4 (v6.alloc (.cells #[.string t.name, .string t.text, .bool t.leaf, .slice xa xm xc, .string ⟨#[78, 117, 109]⟩, .string (pickOf bnL q), .bool true, .slice none 0 0] 40)) w1.heap.size (.string t.name) (.string t.text) (.bool t.leaf) (.slice xa xm xc)) from Box4.still HB6.out hb)
          have HL7 := (show Hid (Lies (v6.alloc (.cells #[.string t.name, .string t.text, .bool t.leaf, .slice xa xm xc, .string ⟨#[78, 117, 109]⟩, .string (pickOf bnL q), .bool true, .slice none 0 0] 40)) (fun q => w.heap.size + 1 ≤ q ∧ q ≠ w1.heap.size) (nd ⟨#[65, 100, 100]⟩ [t, (lf ⟨#[78, 117, 109]⟩ (pickOf bnL q))]) (.slice (some ⟨v6.heap.size, 0, none⟩) 2 2)) from lies_two v6 HL6.out (t2 := (lf ⟨#[78, 117, 109]⟩ (pickOf bnL q))) (lies_nil _ _ _ _ _ (by decide) (by unfold maxLen; omega)) ⟨HA6.out.size, by omega⟩ ⟨#[65, 100, 100]⟩ (by decide))
          clear hb HA6 HB6 HL6
          clear hHeld
          refine hK.out _ _ trivial (fun hHeld => ?_)
          clear hK K
          try simp only [Act.put, List.setIfInBounds_toArray, List.set_cons_zero, List.set_cons_succ]
          generalize v6.alloc (.cells #[.string t.name, .string t.text, .bool t.leaf, .slice xa xm xc, .string ⟨#[78, 117, 109]⟩, .string (pickOf bnL q), .bool true, .slice none 0 0] 40) = W7 at *
          refine wpAnyH_ready (rs := [8]) (by kernel_rfl) (by simp) ?_
          refine (AllReadyH.cons (o := oD46_6_8) rfl (fun K hK => ?_) AllReadyH.nil)
          go_simp
          go_at_call 48
          refine Calls.mono (nodeD_any _ _ _ _ _) ?_
          rintro e v8 ⟨rfl, hb⟩
          have HA8 := (show Hid (At cs a cap b off c w s4 (v8)) from HA7.out.still hb)
          have HB8 := (show Hid (Box4 (v8) w1.heap.size (.string t.name) (.string t.text) (.bool t.leaf) (.slice xa xm xc)) from Box4.still HB7.out hb)
          have HL8 := (show Hid (Lies v8 (fun q => w.heap.size + 1 ≤ q ∧ q ≠ w1.heap.size) (nd ⟨#[65, 100, 100]⟩ [t, (lf ⟨#[78, 117, 109]⟩ (pickOf bnL q))]) (.slice (some ⟨v6.heap.size, 0, none⟩) 2 2)) from Lies.still HL7.out hb)
          clear hb HA7 HB7 HL7
          clear hHeld
          refine hK.out _ _ trivial (fun hHeld => ?_)
          clear hK K
          try simp only [Act.put, List.setIfInBounds_toArray, List.set_cons_zero, List.set_cons_succ]
          refine wpAnyH_ready (rs := [9]) (by kernel_rfl) (by simp) ?_
          refine (AllReadyH.cons (o := oD46_6_9) rfl (fun K hK => ?_) AllReadyH.nil)
          obtain ⟨g0, g1, g2, g3⟩ := Box4.cells HB8.out
          have f0 := Box4.frozen HB8.out 0
          have f1 := Box4.frozen HB8.out 1
          have f2 := Box4.frozen HB8.out 2
          have f3 := Box4.frozen HB8.out 3
          have HA9 := (show Hid (At cs a cap b off c w s4 _) from HA8.out.put4 hlt hgt (.string ⟨#[65, 100, 100]⟩) (.string ByteArray.empty) (.bool false) (.slice (some ⟨v6.heap.size, 0, none⟩) 2 2))
          have HB9 := (show Hid (Box4 _ w1.heap.size (.string ⟨#[65, 100, 100]⟩) (.string ByteArray.empty) (.bool false) (.slice (some ⟨v6.heap.size, 0, none⟩) 2 2)) from Box4.put4 HB8.out (.string ⟨#[65, 100, 100]⟩) (.string ByteArray.empty) (.bool false) (.slice (some ⟨v6.heap.size, 0, none⟩) 2 2))
          have HL9 := (show Hid _ from lies_put4 HL8.out (.string ⟨#[65, 100, 100]⟩) (.string ByteArray.empty) (.bool false) (.slice (some ⟨v6.heap.size, 0, none⟩) 2 2))
          clear HA8 HB8 HL8
          go_simp
          clear g0 g1 g2 g3
          clear hHeld
          refine hK.out _ _ trivial (fun hHeld => ?_)
          clear hK K
          try simp only [Act.put, List.setIfInBounds_toArray, List.set_cons_zero, List.set_cons_succ]
          refine wpAnyH_done (by kernel_rfl) ?_ _
          clear hHeld
          obtain ⟨X0, X1, X2, X3⟩ := Box4.cells HB9.out
          obtain ⟨Z0, Z1, Z2, Z3⟩ := Box4.cells HA9.out.2.1
          have y0 := Box4.frozen HA9.out.2.1 0
          have y1 := Box4.frozen HA9.out.2.1 1
          have y2 := Box4.frozen HA9.out.2.1 2
          have y3 := Box4.frozen HA9.out.2.1 3
          go_wp2_with fail
          refine bodyPost_ret (v := .agg #[.string ⟨#[65, 100, 100]⟩, .string ByteArray.empty, .bool false, .slice (some ⟨v6.heap.size, 0, none⟩) 2 2]) (by simp [results, Try.results46, go_sem, Z0, Z1, Z2, Z3]) rfl ?_
          rw [HE.out]
          exact drew_at (r := (nd ⟨#[65, 100, 100]⟩ [t, (lf ⟨#[78, 117, 109]⟩ (pickOf bnL q))], s4)) HA9.out hlt (Lies.mono (fun q hq => hq.1) HL9.out)
        · skip
          go_simp
          have hb := bel_alloc v4 (.cells #[.string ⟨#[48, 49]⟩, .string ⟨#[]⟩, .string ⟨#[49, 50, 51, 52, 53, 54, 55, 56, 57, 48]⟩, .string ⟨#[97]⟩] 9)
          have HX5 := (show Hid ((v4.alloc (.cells #[.string ⟨#[48, 49]⟩, .string ⟨#[]⟩, .string ⟨#[49, 50, 51, 52, 53, 54, 55, 56, 57, 48]⟩, .string ⟨#[97]⟩] 9)).cell? ⟨v4.heap.size, q, none⟩ = some (.string (pickOf bnL q))) from cell_pick v4 bnL 9 #[.string ⟨#[48, 49]⟩, .string ⟨#[]⟩, .string ⟨#[49, 50, 51, 52, 53, 54, 55, 56, 57, 48]⟩, .string ⟨#[97]⟩] rfl q hl)
          have hsb : w.heap.size + 1 ≤ v4.heap.size := HA4.out.size
          have HA5 := (show Hid (At cs a cap b off c w s4 (v4.alloc (.cells #[.string ⟨#[48, 49]⟩, .string ⟨#[]⟩, .string ⟨#[49, 50, 51, 52, 53, 54, 55, 56, 57, 48]⟩, .string ⟨#[97]⟩] 9))) from HA4.out.still hb)
          have HB5 := (show Hid (Box4 (v4.alloc (.cells #[.string ⟨#[48, 49]⟩, .string ⟨#[]⟩, .string ⟨#[49, 50, 51, 52, 53, 54, 55, 56, 57, 48]⟩, .string ⟨#[97]⟩] 9)) w1.heap.size (.string t.name) (.string t.text) (.bool t.leaf) (.slice xa xm xc)) from Box4.still HB4.out hb)
          have HL5 := (show Hid (Lies (v4.alloc (.cells #[.string ⟨#[48, 49]⟩, .string ⟨#[]⟩, .string ⟨#[49, 50, 51, 52, 53, 54, 55, 56, 57, 48]⟩, .string ⟨#[97]⟩] 9)) (fun q => w.heap.size + 1 ≤ q ∧ q ≠ w1.heap.size) t (.slice xa xm xc)) from Lies.still HL4.out hb)
          clear hb HA4 HB4 HL4
          clear hHeld
          refine hK.out _ _ trivial (fun hHeld => ?_)
          clear hK K
          try simp only [Act.put, List.setIfInBounds_toArray, List.set_cons_zero, List.set_cons_succ]
          generalize v4.alloc (.cells #[.string ⟨#[48, 49]⟩, .string ⟨#[]⟩, .string ⟨#[49, 50, 51, 52, 53, 54, 55, 56, 57, 48]⟩, .string ⟨#[97]⟩] 9) = W5 at *
          refine wpAnyH_take (i := 4) (oi := oD46_6_4) (v := ?v7) rfl (by kernel_rfl) (by kernel_rfl) (by kernel_rfl) (fun _ _ _ h => h) (Or.inl ⟨by rfl, ?h7⟩) hHeld ?r7
          case h7 => (intro w hSw; (try dsimp only at hSw); go_simp; try with_reducible rfl)
          try simp only [Act.put, List.setIfInBounds_toArray, List.set_cons_zero, List.set_cons_succ]
          refine wpAnyH_ready (rs := [0, 5]) (by kernel_rfl) (by simp) ?_
          refine (AllReadyH.cons (o := oD46_6_0) rfl (fun K hK => ?_) (AllReadyH.cons (o := oD46_6_5) rfl (fun K hK => ?_) AllReadyH.nil))
          · skip
            obtain ⟨e0', e1', e2', e3'⟩ := Box4.cells HB5.out
            go_simp
            clear e0' e1' e2' e3'
            clear hHeld
            refine hK.out _ _ trivial (fun hHeld => ?_)
            clear hK K
            try simp only [Act.put, List.setIfInBounds_toArray, List.set_cons_zero, List.set_cons_succ]
            refine wpAnyH_ready (rs := [5]) (by kernel_rfl) (by simp) ?_
            refine (AllReadyH.cons (o := oD46_6_5) rfl (fun K hK => ?_) AllReadyH.nil)
            have x5 := HX5.out
            go_simp
            clear x5
            clear hHeld
            refine hK.out _ _ trivial (fun hHeld => ?_)
            clear hK K
            try simp only [Act.put, List.setIfInBounds_toArray, List.set_cons_zero, List.set_cons_succ]
            refine wpAnyH_ready (rs := [6]) (by kernel_rfl) (by simp) ?_
            refine (AllReadyH.cons (o := oD46_6_6) rfl (fun K hK => ?_) AllReadyH.nil)
            go_simp
            go_at_call 47
            refine Calls.mono (leafD_any _ _ _) ?_
            rintro e v6 ⟨rfl, hb⟩
            have HA6 := (show Hid (At cs a cap b off c w s4 (v6)) from HA5.out.still hb)
            have HB6 := (show Hid (Box4 (v6) w1.heap.size (.string t.name) (.string t.text) (.bool t.leaf) (.slice xa xm xc)) from Box4.still HB5.out hb)
            have HL6 := (show Hid (Lies (v6) (fun q => w.heap.size + 1 ≤ q ∧ q ≠ w1.heap.size) t (.slice xa xm xc)) from Lies.still HL5.out hb)
            clear hb HA5 HB5 HL5 HX5
            clear hHeld
            refine hK.out _ _ trivial (fun hHeld => ?_)
            clear hK K
            try simp only [Act.put, List.setIfInBounds_toArray, List.set_cons_zero, List.set_cons_succ]
            refine wpAnyH_ready (rs := [7]) (by kernel_rfl) (by simp) ?_
            refine (AllReadyH.cons (o := oD46_6_7) rfl (fun K hK => ?_) AllReadyH.nil)
            go_simp
            have hb := bel_alloc v6 (.cells #[.string t.name, .string t.text, .bool t.leaf, .slice xa xm xc, .string ⟨#[78, 117, 109]⟩, .string (pickOf bnL q), .bool true, .slice none 0 0] 40)
            have hg6 : w1.heap.size < v6.heap.size := HB6.out.lt
            have HA7 := (show Hid (At cs a cap b off c w s4 (v6.alloc (.cells #[.string t.name, .string t.text, .bool t.leaf, .slice xa xm xc, .string ⟨#[78, 117, 109]⟩, .string (pickOf bnL q), .bool true, .slice none 0 0] 40))) from HA6.out.still hb)
            have HB7 := (show Hid (Box4 (v6.alloc (.cells #[.string t.name, .string t.text, .bool t.leaf, .slice xa xm xc, .string ⟨#[78, 117, 109]⟩, .string (pickOf bnL q), .bool true, .slice none 0 0] 40)) w1.heap.size (.string t.name) (.string t.text) (.bool t.leaf) (.slice xa xm xc)) from Box4.still HB6.out hb)
            have HL7 := (show Hid (Lies (v6.alloc (.cells #[.string t.name, .string t.text, .bool t.leaf, .slice xa xm xc, .string ⟨#[78, 117, 109]⟩, .string (pickOf bnL q), .bool true, .slice none 0 0] 40)) (fun q => w.heap.size + 1 ≤ q ∧ q ≠ w1.heap.size) (nd ⟨#[65, 100, 100]⟩ [t, (lf ⟨#[78, 117, 109]⟩ (pickOf bnL q))]) (.slice (some ⟨v6.heap.size, 0, none⟩) 2 2)) from lies_two v6 HL6.out (t2 := (lf ⟨#[78, 117, 109]⟩ (pickOf bnL q))) (lies_nil _ _ _ _ _ (by decide) (by unfold maxLen; omega)) ⟨HA6.out.size, by omega⟩ ⟨#[65, 100, 100]⟩ (by decide))
            clear hb HA6 HB6 HL6
            clear hHeld
            refine hK.out _ _ trivial (fun hHeld => ?_)
            clear hK K
            try simp only [Act.put, List.setIfInBounds_toArray, List.set_cons_zero, List.set_cons_succ]
            generalize v6.alloc (.cells #[.string t.name, .string t.text, .bool t.leaf, .slice xa xm xc, .string ⟨#[78, 117, 109]⟩, .string (pickOf bnL q), .bool true, .slice none 0 0] 40) = W7 at *
            refine wpAnyH_ready (rs := [8]) (by kernel_rfl) (by simp) ?_
            refine (AllReadyH.cons (o := oD46_6_8) rfl (fun K hK => ?_) AllReadyH.nil)
            go_simp
            go_at_call 48
            refine Calls.mono (nodeD_any _ _ _ _ _) ?_
            rintro e v8 ⟨rfl, hb⟩
            have HA8 := (show Hid (At cs a cap b off c w s4 (v8)) from HA7.out.still hb)
            have HB8 := (show Hid (Box4 (v8) w1.heap.size (.string t.name) (.string t.text) (.bool t.leaf) (.slice xa xm xc)) from Box4.still HB7.out hb)
            have HL8 := (show Hid (Lies v8 (fun q => w.heap.size + 1 ≤ q ∧ q ≠ w1.heap.size) (nd ⟨#[65, 100, 100]⟩ [t, (lf ⟨#[78, 117, 109]⟩ (pickOf bnL q))]) (.slice (some ⟨v6.heap.size, 0, none⟩) 2 2)) from Lies.still HL7.out hb)
            clear hb HA7 HB7 HL7
            clear hHeld
            refine hK.out _ _ trivial (fun hHeld => ?_)
            clear hK K
            try simp only [Act.put, List.setIfInBounds_toArray, List.set_cons_zero, List.set_cons_succ]
            refine wpAnyH_ready (rs := [9]) (by kernel_rfl) (by simp) ?_
            refine (AllReadyH.cons (o := oD46_6_9) rfl (fun K hK => ?_) AllReadyH.nil)
            obtain ⟨g0, g1, g2, g3⟩ := Box4.cells HB8.out
            have f0 := Box4.frozen HB8.out 0
            have f1 := Box4.frozen HB8.out 1
            have f2 := Box4.frozen HB8.out 2
            have f3 := Box4.frozen HB8.out 3
            have HA9 := (show Hid (At cs a cap b off c w s4 _) from HA8.out.put4 hlt hgt (.string ⟨#[65, 100, 100]⟩) (.string ByteArray.empty) (.bool false) (.slice (some ⟨v6.heap.size, 0, none⟩) 2 2))
            have HB9 := (show Hid (Box4 _ w1.heap.size (.string ⟨#[65, 100, 100]⟩) (.string ByteArray.empty) (.bool false) (.slice (some ⟨v6.heap.size, 0, none⟩) 2 2)) from Box4.put4 HB8.out (.string ⟨#[65, 100, 100]⟩) (.string ByteArray.empty) (.bool false) (.slice (some ⟨v6.heap.size, 0, none⟩) 2 2))
            have HL9 := (show Hid _ from lies_put4 HL8.out (.string ⟨#[65, 100, 100]⟩) (.string ByteArray.empty) (.bool false) (.slice (some ⟨v6.heap.size, 0, none⟩) 2 2))
            clear HA8 HB8 HL8
            go_simp
            clear g0 g1 g2 g3
            clear hHeld
            refine hK.out _ _ trivial (fun hHeld => ?_)
            clear hK K
            try simp only [Act.put, List.setIfInBounds_toArray, List.set_cons_zero, List.set_cons_succ]
            refine wpAnyH_done (by kernel_rfl) ?_ _
            clear hHeld
            obtain ⟨X0, X1, X2, X3⟩ := Box4.cells HB9.out
            obtain ⟨Z0, Z1, Z2, Z3⟩ := Box4.cells HA9.out.2.1
            have y0 := Box4.frozen HA9.out.2.1 0
            have y1 := Box4.frozen HA9.out.2.1 1
            have y2 := Box4.frozen HA9.out.2.1 2
            have y3 := Box4.frozen HA9.out.2.1 3
            go_wp2_with fail
            refine bodyPost_ret (v := .agg #[.string ⟨#[65, 100, 100]⟩, .string ByteArray.empty, .bool false, .slice (some ⟨v6.heap.size, 0, none⟩) 2 2]) (by simp [results, Try.results46, go_sem, Z0, Z1, Z2, Z3]) rfl ?_
            rw [HE.out]
            exact drew_at (r := (nd ⟨#[65, 100, 100]⟩ [t, (lf ⟨#[78, 117, 109]⟩ (pickOf bnL q))], s4)) HA9.out hlt (Lies.mono (fun q hq => hq.1) HL9.out)
          · skip
            have x5 := HX5.out
            go_simp
            clear x5
            clear hHeld
            refine hK.out _ _ trivial (fun hHeld => ?_)
            clear hK K
            try simp only [Act.put, List.setIfInBounds_toArray, List.set_cons_zero, List.set_cons_succ]
            refine wpAnyH_ready (rs := [0, 6]) (by kernel_rfl) (by simp) ?_
            refine (AllReadyH.cons (o := oD46_6_0) rfl (fun K hK => ?_) (AllReadyH.cons (o := oD46_6_6) rfl (fun K hK => ?_) AllReadyH.nil))
            · skip
              obtain ⟨e0', e1', e2', e3'⟩ := Box4.cells HB5.out
              go_simp
              clear e0' e1' e2' e3'
              clear hHeld
              refine hK.out _ _ trivial (fun hHeld => ?_)
              clear hK K
              try simp only [Act.put, List.setIfInBounds_toArray, List.set_cons_zero, List.set_cons_succ]
              refine wpAnyH_ready (rs := [6]) (by kernel_rfl) (by simp) ?_
              refine (AllReadyH.cons (o := oD46_6_6) rfl (fun K hK => ?_) AllReadyH.nil)
              go_simp
              go_at_call 47
              refine Calls.mono (leafD_any _ _ _) ?_
              rintro e v6 ⟨rfl, hb⟩
              have HA6 := (show Hid (At cs a cap b off c w s4 (v6)) from HA5.out.still hb)
              have HB6 := (show Hid (Box4 (v6) w1.heap.size (.string t.name) (.string t.text) (.bool t.leaf) (.slice xa xm xc)) from Box4.still HB5.out hb)
              have HL6 := (show Hid (Lies (v6) (fun q => w.heap.size + 1 ≤ q ∧ q ≠ w1.heap.size) t (.slice xa xm xc)) from Lies.still HL5.out hb)
              clear hb HA5 HB5 HL5 HX5
              clear hHeld
              refine hK.out _ _ trivial (fun hHeld => ?_)
              clear hK K
              try simp only [Act.put, List.setIfInBounds_toArray, List.set_cons_zero, List.set_cons_succ]
              refine wpAnyH_ready (rs := [7]) (by kernel_rfl) (by simp) ?_
              refine (AllReadyH.cons (o := oD46_6_7) rfl (fun K hK => ?_) AllReadyH.nil)
              go_simp
              have hb := bel_alloc v6 (.cells #[.string t.name, .string t.text, .bool t.leaf, .slice xa xm xc, .string ⟨#[78, 117, 109]⟩, .string (pickOf bnL q), .bool true, .slice none 0 0] 40)
              have hg6 : w1.heap.size < v6.heap.size := HB6.out.lt
              have HA7 := (show Hid (At cs a cap b off c w s4 (v6.alloc (.cells #[.string t.name, .string t.text, .bool t.leaf, .slice xa xm xc, .string ⟨#[78, 117, 109]⟩, .string (pickOf bnL q), .bool true, .slice none 0 0] 40))) from HA6.out.still hb)
              have HB7 := (show Hid (Box4 (v6.alloc (.cells #[.string t.name, .string t.text, .bool t.leaf, .slice xa xm xc, .string ⟨#[78, 117, 109]⟩, .string (pickOf bnL q), .bool true, .slice none 0 0] 40)) w1.heap.size (.string t.name) (.string t.text) (.bool t.leaf) (.slice xa xm xc)) from Box4.still HB6.out hb)
              have HL7 := (show Hid (Lies (v6.alloc (.cells #[.string t.name, .string t.text, .bool t.leaf, .slice xa xm xc, .string ⟨#[78, 117, 109]⟩, .string (pickOf bnL q), .bool true, .slice none 0 0] 40)) (fun q => w.heap.size + 1 ≤ q ∧ q ≠ w1.heap.size) (nd ⟨#[65, 100, 100]⟩ [t, (lf ⟨#[78, 117, 109]⟩ (pickOf bnL q))]) (.slice (some ⟨v6.heap.size, 0, none⟩) 2 2)) from lies_two v6 HL6.out (t2 := (lf ⟨#[78, 117, 109]⟩ (pickOf bnL q))) (lies_nil _ _ _ _ _ (by decide) (by unfold maxLen; omega)) ⟨HA6.out.size, by omega⟩ ⟨#[65, 100, 100]⟩ (by decide))
              clear hb HA6 HB6 HL6
              clear hHeld
              refine hK.out _ _ trivial (fun hHeld => ?_)
              clear hK K
              try simp only [Act.put, List.setIfInBounds_toArray, List.set_cons_zero, List.set_cons_succ]
              generalize v6.alloc (.cells #[.string t.name, .string t.text, .bool t.leaf, .slice xa xm xc, .string ⟨#[78, 117, 109]⟩, .string (pickOf bnL q), .bool true, .slice none 0 0] 40) = W7 at *
              refine wpAnyH_ready (rs := [8]) (by kernel_rfl) (by simp) ?_
              refine (AllReadyH.cons (o := oD46_6_8) rfl (fun K hK => ?_) AllReadyH.nil)
              go_simp
              go_at_call 48
              refine Calls.mono (nodeD_any _ _ _ _ _) ?_
              rintro e v8 ⟨rfl, hb⟩
              have HA8 := (show Hid (At cs a cap b off c w s4 (v8)) from HA7.out.still hb)
              have HB8 := (show Hid (Box4 (v8) w1.heap.size (.string t.name) (.string t.text) (.bool t.leaf) (.slice xa xm xc)) from Box4.still HB7.out hb)
              have HL8 := (show Hid (Lies v8 (fun q => w.heap.size + 1 ≤ q ∧ q ≠ w1.heap.size) (nd ⟨#[65, 100, 100]⟩ [t, (lf ⟨#[78, 117, 109]⟩ (pickOf bnL q))]) (.slice (some ⟨v6.heap.size, 0, none⟩) 2 2)) from Lies.still HL7.out hb)
              clear hb HA7 HB7 HL7
              clear hHeld
              refine hK.out _ _ trivial (fun hHeld => ?_)
              clear hK K
              try simp only [Act.put, List.setIfInBounds_toArray, List.set_cons_zero, List.set_cons_succ]
              refine wpAnyH_ready (rs := [9]) (by kernel_rfl) (by simp) ?_
              refine (AllReadyH.cons (o := oD46_6_9) rfl (fun K hK => ?_) AllReadyH.nil)
              obtain ⟨g0, g1, g2, g3⟩ := Box4.cells HB8.out
              have f0 := Box4.frozen HB8.out 0
              have f1 := Box4.frozen HB8.out 1
              have f2 := Box4.frozen HB8.out 2
              have f3 := Box4.frozen HB8.out 3
              have HA9 := (show Hid (At cs a cap b off c w s4 _) from HA8.out.put4 hlt hgt (.string ⟨#[65, 100, 100]⟩) (.string ByteArray.empty) (.bool false) (.slice (some ⟨v6.heap.size, 0, none⟩) 2 2))
              have HB9 := (show Hid (Box4 _ w1.heap.size (.string ⟨#[65, 100, 100]⟩) (.string ByteArray.empty) (.bool false) (.slice (some ⟨v6.heap.size, 0, none⟩) 2 2)) from Box4.put4 HB8.out (.string ⟨#[65, 100, 100]⟩) (.string ByteArray.empty) (.bool false) (.slice (some ⟨v6.heap.size, 0, none⟩) 2 2))
              have HL9 := (show Hid _ from lies_put4 HL8.out (.string ⟨#[65, 100, 100]⟩) (.string ByteArray.empty) (.bool false) (.slice (some ⟨v6.heap.size, 0, none⟩) 2 2))
              clear HA8 HB8 HL8
              go_simp
              clear g0 g1 g2 g3
              clear hHeld
              refine hK.out _ _ trivial (fun hHeld => ?_)
              clear hK K
              try simp only [Act.put, List.setIfInBounds_toArray, List.set_cons_zero, List.set_cons_succ]
              refine wpAnyH_done (by kernel_rfl) ?_ _
              clear hHeld
              obtain ⟨X0, X1, X2, X3⟩ := Box4.cells HB9.out
              obtain ⟨Z0, Z1, Z2, Z3⟩ := Box4.cells HA9.out.2.1
              have y0 := Box4.frozen HA9.out.2.1 0
              have y1 := Box4.frozen HA9.out.2.1 1
              have y2 := Box4.frozen HA9.out.2.1 2
              have y3 := Box4.frozen HA9.out.2.1 3
              go_wp2_with fail
              refine bodyPost_ret (v := .agg #[.string ⟨#[65, 100, 100]⟩, .string ByteArray.empty, .bool false, .slice (some ⟨v6.heap.size, 0, none⟩) 2 2]) (by simp [results, Try.results46, go_sem, Z0, Z1, Z2, Z3]) rfl ?_
              rw [HE.out]
              exact drew_at (r := (nd ⟨#[65, 100, 100]⟩ [t, (lf ⟨#[78, 117, 109]⟩ (pickOf bnL q))], s4)) HA9.out hlt (Lies.mono (fun q hq => hq.1) HL9.out)
            · skip
              go_simp
              go_at_call 47
              refine Calls.mono (leafD_any _ _ _) ?_
              rintro e v6 ⟨rfl, hb⟩
              have HA6 := (show Hid (At cs a cap b off c w s4 (v6)) from HA5.out.still hb)
              have HB6 := (show Hid (Box4 (v6) w1.heap.size (.string t.name) (.string t.text) (.bool t.leaf) (.slice xa xm xc)) from Box4.still HB5.out hb)
              have HL6 := (show Hid (Lies (v6) (fun q => w.heap.size + 1 ≤ q ∧ q ≠ w1.heap.size) t (.slice xa xm xc)) from Lies.still HL5.out hb)
              clear hb HA5 HB5 HL5 HX5
              clear hHeld
              refine hK.out _ _ trivial (fun hHeld => ?_)
              clear hK K
              try simp only [Act.put, List.setIfInBounds_toArray, List.set_cons_zero, List.set_cons_succ]
              refine wpAnyH_ready (rs := [0]) (by kernel_rfl) (by simp) ?_
              refine (AllReadyH.cons (o := oD46_6_0) rfl (fun K hK => ?_) AllReadyH.nil)
              obtain ⟨e0', e1', e2', e3'⟩ := Box4.cells HB6.out
              go_simp
              clear e0' e1' e2' e3'
              clear hHeld
              refine hK.out _ _ trivial (fun hHeld => ?_)
              clear hK K
              try simp only [Act.put, List.setIfInBounds_toArray, List.set_cons_zero, List.set_cons_succ]
              refine wpAnyH_ready (rs := [7]) (by kernel_rfl) (by simp) ?_
              refine (AllReadyH.cons (o := oD46_6_7) rfl (fun K hK => ?_) AllReadyH.nil)
              go_simp
              have hb := bel_alloc v6 (.cells #[.string t.name, .string t.text, .bool t.leaf, .slice xa xm xc, .string ⟨#[78, 117, 109]⟩, .string (pickOf bnL q), .bool true, .slice none 0 0] 40)
              have hg6 : w1.heap.size < v6.heap.size := HB6.out.lt
              have HA7 := (show Hid (At cs a cap b off c w s4 (v6.alloc (.cells #[.string t.name, .string t.text, .bool t.leaf, .slice xa xm xc, .string ⟨#[78, 117, 109]⟩, .string (pickOf bnL q), .bool true, .slice none 0 0] 40))) from HA6.out.still hb)
              have HB7 := (show Hid (Box4 (v6.alloc (.cells #[.string t.name, .string t.text, .bool t.leaf, .slice xa xm xc, .string ⟨#[78, 117, 109]⟩, .string (pickOf bnL q), .bool true, .slice none 0 0] 40)) w1.heap.size (.string t.name) (.string t.text) (.bool t.leaf) (.slice xa xm xc)) from Box4.still HB6.out hb)
              have HL7 := (show Hid (Lies (v6.alloc (.cells #[.string t.name, .string t.text, .bool t.leaf, .slice xa xm xc, .string ⟨#[78, 117, 109]⟩, .string (pickOf bnL q), .bool true, .slice none 0 0] 40)) (fun q => w.heap.size + 1 ≤ q ∧ q ≠ w1.heap.size) (nd ⟨#[65, 100, 100]⟩ [t, (lf ⟨#[78, 117, 109]⟩ (pickOf bnL q))]) (.slice (some ⟨v6.heap.size, 0, none⟩) 2 2)) from lies_two v6 HL6.out (t2 := (lf ⟨#[78, 117, 109]⟩ (pickOf bnL q))) (lies_nil _ _ _ _ _ (by decide) (by unfold maxLen; omega)) ⟨HA6.out.size, by omega⟩ ⟨#[65, 100, 100]⟩ (by decide))
              clear hb HA6 HB6 HL6
              clear hHeld
              refine hK.out _ _ trivial (fun hHeld => ?_)
              clear hK K
              try simp only [Act.put, List.setIfInBounds_toArray, List.set_cons_zero, List.set_cons_succ]
              generalize v6.alloc (.cells #[.string t.name, .string t.text, .bool t.leaf, .slice xa xm xc, .string ⟨#[78, 117, 109]⟩, .string (pickOf bnL q), .bool true, .slice none 0 0] 40) = W7 at *
              refine wpAnyH_ready (rs := [8]) (by kernel_rfl) (by simp) ?_
              refine (AllReadyH.cons (o := oD46_6_8) rfl (fun K hK => ?_) AllReadyH.nil)
              go_simp
              go_at_call 48
              refine Calls.mono (nodeD_any _ _ _ _ _) ?_
              rintro e v8 ⟨rfl, hb⟩
              have HA8 := (show Hid (At cs a cap b off c w s4 (v8)) from HA7.out.still hb)
              have HB8 := (show Hid (Box4 (v8) w1.heap.size (.string t.name) (.string t.text) (.bool t.leaf) (.slice xa xm xc)) from Box4.still HB7.out hb)
              have HL8 := (show Hid (Lies v8 (fun q => w.heap.size + 1 ≤ q ∧ q ≠ w1.heap.size) (nd ⟨#[65, 100, 100]⟩ [t, (lf ⟨#[78, 117, 109]⟩ (pickOf bnL q))]) (.slice (some ⟨v6.heap.size, 0, none⟩) 2 2)) from Lies.still HL7.out hb)
              clear hb HA7 HB7 HL7
              clear hHeld
              refine hK.out _ _ trivial (fun hHeld => ?_)
              clear hK K
              try simp only [Act.put, List.setIfInBounds_toArray, List.set_cons_zero, List.set_cons_succ]
              refine wpAnyH_ready (rs := [9]) (by kernel_rfl) (by simp) ?_
              refine (AllReadyH.cons (o := oD46_6_9) rfl (fun K hK => ?_) AllReadyH.nil)
              obtain ⟨g0, g1, g2, g3⟩ := Box4.cells HB8.out
              have f0 := Box4.frozen HB8.out 0
              have f1 := Box4.frozen HB8.out 1
              have f2 := Box4.frozen HB8.out 2
              have f3 := Box4.frozen HB8.out 3
              have HA9 := (show Hid (At cs a cap b off c w s4 _) from HA8.out.put4 hlt hgt (.string ⟨#[65, 100, 100]⟩) (.string ByteArray.empty) (.bool false) (.slice (some ⟨v6.heap.size, 0, none⟩) 2 2))
              have HB9 := (show Hid (Box4 _ w1.heap.size (.string ⟨#[65, 100, 100]⟩) (.string ByteArray.empty) (.bool false) (.slice (some ⟨v6.heap.size, 0, none⟩) 2 2)) from Box4.put4 HB8.out (.string ⟨#[65, 100, 100]⟩) (.string ByteArray.empty) (.bool false) (.slice (some ⟨v6.heap.size, 0, none⟩) 2 2))
              have HL9 := (show Hid _ from lies_put4 HL8.out (.string ⟨#[65, 100, 100]⟩) (.string ByteArray.empty) (.bool false) (.slice (some ⟨v6.heap.size, 0, none⟩) 2 2))
              clear HA8 HB8 HL8
              go_simp
              clear g0 g1 g2 g3
              clear hHeld
              refine hK.out _ _ trivial (fun hHeld => ?_)
              clear hK K
              try simp only [Act.put, List.setIfInBounds_toArray, List.set_cons_zero, List.set_cons_succ]
              refine wpAnyH_done (by kernel_rfl) ?_ _
              clear hHeld
              obtain ⟨X0, X1, X2, X3⟩ := Box4.cells HB9.out
              obtain ⟨Z0, Z1, Z2, Z3⟩ := Box4.cells HA9.out.2.1
              have y0 := Box4.frozen HA9.out.2.1 0
              have y1 := Box4.frozen HA9.out.2.1 1
              have y2 := Box4.frozen HA9.out.2.1 2
              have y3 := Box4.frozen HA9.out.2.1 3
              go_wp2_with fail
              refine bodyPost_ret (v := .agg #[.string ⟨#[65, 100, 100]⟩, .string ByteArray.empty, .bool false, .slice (some ⟨v6.heap.size, 0, none⟩) 2 2]) (by simp [results, Try.results46, go_sem, Z0, Z1, Z2, Z3]) rfl ?_
              rw [HE.out]
              exact drew_at (r := (nd ⟨#[65, 100, 100]⟩ [t, (lf ⟨#[78, 117, 109]⟩ (pickOf bnL q))], s4)) HA9.out hlt (Lies.mono (fun q hq => hq.1) HL9.out)
    · have e0 : cAnyT cs s = (nd ⟨#[76, 97, 109]⟩ [t, t], s3) := HE0.out
      clear HE0
      have HE := (show Hid _ from e0); clear e0
      have hb := bel_alloc w2 (.cells #[.string t.name, .string t.text, .bool t.leaf, .slice xa xm xc, .string t.name, .string t.text, .bool t.leaf, .slice xa xm xc] 40)
      have hg2 : w1.heap.size < w2.heap.size := HB2.out.lt
      obtain ⟨g0, g1, g2, g3⟩ := Box4.cells HB2.out
      have HA3 := (show Hid (At cs a cap b off c w s3 (w2.alloc (.cells #[.string t.name, .string t.text, .bool t.leaf, .slice xa xm xc, .string t.name, .string t.text, .bool t.leaf, .slice xa xm xc] 40))) from HA2.out.still hb)
      have HB3 := (show Hid (Box4 (w2.alloc (.cells #[.string t.name, .string t.text, .bool t.leaf, .slice xa xm xc, .string t.name, .string t.text, .bool t.leaf, .slice xa xm xc] 40)) w1.heap.size (.string t.name) (.string t.text) (.bool t.leaf) (.slice xa xm xc)) from Box4.still HB2.out hb)
      have HN3 := (show Hid (Lies (w2.alloc (.cells #[.string t.name, .string t.text, .bool t.leaf, .slice xa xm xc, .string t.name, .string t.text, .bool t.leaf, .slice xa xm xc] 40)) (fun q => w.heap.size + 1 ≤ q ∧ q ≠ w1.heap.size) (nd ⟨#[76, 97, 109]⟩ [t, t]) (.slice (some ⟨w2.heap.size, 0, none⟩) 2 2)) from lies_two w2 HL2.out HL2.out ⟨HA2.out.size, by omega⟩ ⟨#[76, 97, 109]⟩ (by decide))
      clear hb HA2 HB2 HL2
      go_wp2_with fail
      clear g0 g1 g2 g3
      refine Calls.mono (nodeD_any _ _ _ _ _) ?_
      rintro e w4 ⟨rfl, hb⟩
      have HA4 := (show Hid (At cs a cap b off c w s3 w4) from HA3.out.still hb)
      have HB4 := (show Hid (Box4 w4 w1.heap.size (.string t.name) (.string t.text) (.bool t.leaf) (.slice xa xm xc)) from Box4.still HB3.out hb)
      have HN4 := (show Hid (Lies w4 (fun q => w.heap.size + 1 ≤ q ∧ q ≠ w1.heap.size) (nd ⟨#[76, 97, 109]⟩ [t, t]) (.slice (some ⟨w2.heap.size, 0, none⟩) 2 2)) from Lies.still HN3.out hb)
      clear hb HA3 HB3 HN3
      obtain ⟨g0, g1, g2, g3⟩ := Box4.cells HB4.out
      have f0 := Box4.frozen HB4.out 0
      have f1 := Box4.frozen HB4.out 1
      have f2 := Box4.frozen HB4.out 2
      have f3 := Box4.frozen HB4.out 3
      have HA9 := (show Hid (At cs a cap b off c w s3 _) from HA4.out.put4 hlt hgt (.string ⟨#[76, 97, 109]⟩) (.string ByteArray.empty) (.bool false) (.slice (some ⟨w2.heap.size, 0, none⟩) 2 2))
      have HB9 := (show Hid (Box4 _ w1.heap.size (.string ⟨#[76, 97, 109]⟩) (.string ByteArray.empty) (.bool false) (.slice (some ⟨w2.heap.size, 0, none⟩) 2 2)) from Box4.put4 HB4.out (.string ⟨#[76, 97, 109]⟩) (.string ByteArray.empty) (.bool false) (.slice (some ⟨w2.heap.size, 0, none⟩) 2 2))
      have HN9 := (show Hid _ from lies_put4 HN4.out (.string ⟨#[76, 97, 109]⟩) (.string ByteArray.empty) (.bool false) (.slice (some ⟨w2.heap.size, 0, none⟩) 2 2))
      clear HA4 HB4 HN4
      obtain ⟨X0, X1, X2, X3⟩ := Box4.cells HB9.out
      obtain ⟨Z0, Z1, Z2, Z3⟩ := Box4.cells HA9.out.2.1
      have y0 := Box4.frozen HA9.out.2.1 0
      have y1 := Box4.frozen HA9.out.2.1 1
      have y2 := Box4.frozen HA9.out.2.1 2
      have y3 := Box4.frozen HA9.out.2.1 3
      go_wp2_with fail
      refine bodyPost_ret (v := .agg #[.string ⟨#[76, 97, 109]⟩, .string ByteArray.empty, .bool false, .slice (some ⟨w2.heap.size, 0, none⟩) 2 2]) (by simp [results, Try.results46, go_sem, Z0, Z1, Z2, Z3]) rfl ?_
      rw [HE.out]
      exact drew_at (r := (nd ⟨#[76, 97, 109]⟩ [t, t], s3)) HA9.out hlt (Lies.mono (fun q hq => hq.1) HN9.out)
    · have e0 : cAnyT cs s = (nd ⟨#[73, 102]⟩ [t, t], s3) := HE0.out
      clear HE0
      have HE := (show Hid _ from e0); clear e0
      have hb := bel_alloc w2 (.cells #[.string t.name, .string t.text, .bool t.leaf, .slice xa xm xc, .string t.name, .string t.text, .bool t.leaf, .slice xa xm xc] 40)
      have hg2 : w1.heap.size < w2.heap.size := HB2.out.lt
      obtain ⟨g0, g1, g2, g3⟩ := Box4.cells HB2.out
      have HA3 := (show Hid (At cs a cap b off c w s3 (w2.alloc (.cells #[.string t.name, .string t.text, .bool t.leaf, .slice xa xm xc, .string t.name, .string t.text, .bool t.leaf, .slice xa xm xc] 40))) from HA2.out.still hb)
      have HB3 := (show Hid (Box4 (w2.alloc (.cells #[.string t.name, .string t.text, .bool t.leaf, .slice xa xm xc, .string t.name, .string t.text, .bool t.leaf, .slice xa xm xc] 40)) w1.heap.size (.string t.name) (.string t.text) (.bool t.leaf) (.slice xa xm xc)) from Box4.still HB2.out hb)
      have HN3 := (show Hid (Lies (w2.alloc (.cells #[.string t.name, .string t.text, .bool t.leaf, .slice xa xm xc, .string t.name, .string t.text, .bool t.leaf, .slice xa xm xc] 40)) (fun q => w.heap.size + 1 ≤ q ∧ q ≠ w1.heap.size) (nd ⟨#[73, 102]⟩ [t, t]) (.slice (some ⟨w2.heap.size, 0, none⟩) 2 2)) from lies_two w2 HL2.out HL2.out ⟨HA2.out.size, by omega⟩ ⟨#[73, 102]⟩ (by decide))
      clear hb HA2 HB2 HL2
      go_wp2_with fail
      clear g0 g1 g2 g3
      refine Calls.mono (nodeD_any _ _ _ _ _) ?_
      rintro e w4 ⟨rfl, hb⟩
      have HA4 := (show Hid (At cs a cap b off c w s3 w4) from HA3.out.still hb)
      have HB4 := (show Hid (Box4 w4 w1.heap.size (.string t.name) (.string t.text) (.bool t.leaf) (.slice xa xm xc)) from Box4.still HB3.out hb)
      have HN4 := (show Hid (Lies w4 (fun q => w.heap.size + 1 ≤ q ∧ q ≠ w1.heap.size) (nd ⟨#[73, 102]⟩ [t, t]) (.slice (some ⟨w2.heap.size, 0, none⟩) 2 2)) from Lies.still HN3.out hb)
      clear hb HA3 HB3 HN3
      obtain ⟨g0, g1, g2, g3⟩ := Box4.cells HB4.out
      have f0 := Box4.frozen HB4.out 0
      have f1 := Box4.frozen HB4.out 1
      have f2 := Box4.frozen HB4.out 2
      have f3 := Box4.frozen HB4.out 3
      have HA9 := (show Hid (At cs a cap b off c w s3 _) from HA4.out.put4 hlt hgt (.string ⟨#[73, 102]⟩) (.string ByteArray.empty) (.bool false) (.slice (some ⟨w2.heap.size, 0, none⟩) 2 2))
      have HB9 := (show Hid (Box4 _ w1.heap.size (.string ⟨#[73, 102]⟩) (.string ByteArray.empty) (.bool false) (.slice (some ⟨w2.heap.size, 0, none⟩) 2 2)) from Box4.put4 HB4.out (.string ⟨#[73, 102]⟩) (.string ByteArray.empty) (.bool false) (.slice (some ⟨w2.heap.size, 0, none⟩) 2 2))
      have HN9 := (show Hid _ from lies_put4 HN4.out (.string ⟨#[73, 102]⟩) (.string ByteArray.empty) (.bool false) (.slice (some ⟨w2.heap.size, 0, none⟩) 2 2))
      clear HA4 HB4 HN4
      obtain ⟨X0, X1, X2, X3⟩ := Box4.cells HB9.out
      obtain ⟨Z0, Z1, Z2, Z3⟩ := Box4.cells HA9.out.2.1
      have y0 := Box4.frozen HA9.out.2.1 0
      have y1 := Box4.frozen HA9.out.2.1 1
      have y2 := Box4.frozen HA9.out.2.1 2
      have y3 := Box4.frozen HA9.out.2.1 3
      go_wp2_with fail
      refine bodyPost_ret (v := .agg #[.string ⟨#[73, 102]⟩, .string ByteArray.empty, .bool false, .slice (some ⟨w2.heap.size, 0, none⟩) 2 2]) (by simp [results, Try.results46, go_sem, Z0, Z1, Z2, Z3]) rfl ?_
      rw [HE.out]
      exact drew_at (r := (nd ⟨#[73, 102]⟩ [t, t], s3)) HA9.out hlt (Lies.mono (fun q hq => hq.1) HN9.out)
end Go.Proofs.Ytledclkmeikgdaa.T
