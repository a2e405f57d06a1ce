import Derived.Test.YtledclkmeikgdaaXDd
/-! Terms drawn for ScopesOf. -/
namespace Go.Proofs.Ytledclkmeikgdaa.T
open Go.RowKit Go.Deep Go.Lib
set_option linter.unusedVariables false
set_option maxRecDepth 100000
set_option linter.unusedSimpArgs false
abbrev oD12_8_0 : Oper := { dst := some 21, op := Go.Op.call { callee := Go.Callee.value (Go.Operand.func 47), args := #[Go.Operand.const (Go.Value.string { data := #[73, 100] }), Go.Operand.const (Go.Value.string { data := #[120] })], argTypes := #[9, 9] }, type := 40, pos := "l12_names.go:457", after := #[], guard := none }
abbrev oD12_8_1 : Oper := { dst := some 22, op := Go.Op.call { callee := Go.Callee.value (Go.Operand.func 47), args := #[Go.Operand.const (Go.Value.string { data := #[73, 100] }), Go.Operand.const (Go.Value.string { data := #[120] })], argTypes := #[9, 9] }, type := 40, pos := "l12_names.go:457", after := #[{ on := 0, ground := Go.Ground.chain }], guard := none }
abbrev oD12_8_2 : Oper := { dst := some 23, op := Go.Op.buildSlice 38 2 #[(0, Go.Operand.tmp 21), (1, Go.Operand.tmp 22)], type := 38, pos := "l12_names.go:457", after := #[{ on := 0, ground := Go.Ground.data }, { on := 1, ground := Go.Ground.data }], guard := none }
abbrev oD12_8_3 : Oper := { dst := some 24, op := Go.Op.call { callee := Go.Callee.value (Go.Operand.func 48), args := #[Go.Operand.const (Go.Value.string { data := #[76, 97, 109] }), Go.Operand.tmp 23], argTypes := #[9, 38] }, type := 40, pos := "l12_names.go:457", after := #[{ on := 2, ground := Go.Ground.data }, { on := 1, ground := Go.Ground.chain }], guard := none }
abbrev oD12_8_4 : Oper := { dst := some 25, op := Go.Op.load 40 (Go.Operand.tmp 4), type := 40, pos := "l12_names.go:457", after := #[], guard := none }
abbrev oD12_8_5 : Oper := { dst := some 26, op := Go.Op.buildSlice 38 2 #[(0, Go.Operand.tmp 24), (1, Go.Operand.tmp 25)], type := 38, pos := "l12_names.go:457", after := #[{ on := 3, ground := Go.Ground.data }, { on := 4, ground := Go.Ground.data }], guard := none }
abbrev oD12_8_6 : Oper := { dst := some 27, op := Go.Op.call { callee := Go.Callee.value (Go.Operand.func 48), args := #[Go.Operand.const (Go.Value.string { data := #[65, 100, 100] }), Go.Operand.tmp 26], argTypes := #[9, 38] }, type := 40, pos := "l12_names.go:457", after := #[{ on := 5, ground := Go.Ground.data }, { on := 3, ground := Go.Ground.chain }], guard := none }
abbrev oD12_8_7 : Oper := { dst := none, op := Go.Op.store 40 (Go.Operand.tmp 4) (Go.Operand.tmp 27), type := 0, pos := "l12_names.go:457", after := #[{ on := 6, ground := Go.Ground.data }, { on := 6, ground := Go.Ground.chain }, { on := 0, ground := Go.Ground.phase }, { on := 1, ground := Go.Ground.phase }, { on := 2, ground := Go.Ground.phase }, { on := 3, ground := Go.Ground.phase }, { on := 4, ground := Go.Ground.phase }, { on := 5, ground := Go.Ground.phase }, { on := 6, ground := Go.Ground.phase }], guard := none }

def xId : Tr := lf ⟨#[73, 100]⟩ ⟨#[120]⟩
def lamX : Tr := nd ⟨#[76, 97, 109]⟩ [xId, xId]
def lam2 : Tr := nd ⟨#[76, 97, 109]⟩ [xId, lf ⟨#[78, 117, 109]⟩ ⟨#[50]⟩]
def nxS (i : Nat) (t : Tr) : Tr := if i % 50 = 0 then lam2 else nd ⟨#[65, 100, 100]⟩ [lamX, t]
def scL (cs : List UInt8) : Nat → Nat → Tr → Nat × Nat → Tr × (Nat × Nat)
  | 0, _, t, s => (t, s)
  | f + 1, i, t, s => if i < 60 + (cPick cs 2 s).1 then scL cs f (i + 1) (nxS i t) (cPick cs 2 s).2 else (t, (cPick cs 2 s).2)
/-- The term that is drawn. -/
def dSc (cs : List UInt8) : Tr :=
  if (cPick cs 24 (cAnyT cs (0, 17 + cs.length)).2).1 = 0 then (scL cs 62 1 (lf ⟨#[78, 117, 109]⟩ ⟨#[49]⟩) (cPick cs 24 (cAnyT cs (0, 17 + cs.length)).2).2).1 else (cAnyT cs (0, 17 + cs.length)).1
/-- As the call stands: its answer's box and the cursor are made. -/
def AtC (cs : List UInt8) (a : Option Addr) (cap b off : Nat) (w : World) (s : Nat × Nat) (w' : World) : Prop := Below w.heap.size w w' ∧ zB w' w.heap.size ∧ Cur w' cs a cap b off (w.heap.size + 1) s
section
variable {cs : List UInt8} {a : Option Addr} {cap b off : Nat} {s s2 : Nat × Nat} {w w1 w2 : World}
theorem AtC.size (h : AtC cs a cap b off w s w1) : w.heap.size + 2 ≤ w1.heap.size := h.2.2.lt
theorem AtC.still (h : AtC cs a cap b off w s w1) (hb : Below w1.heap.size w1 w2) : AtC cs a cap b off w s w2 := ⟨bel_trans h.1 hb, Box4.still h.2.1 hb, h.2.2.still hb⟩
theorem AtC.out (h : AtC cs a cap b off w s w1) (ho : Out (w.heap.size + 1) (w.heap.size + 1 + 1) w1 w2) (hc : Cur w2 cs a cap b off (w.heap.size + 1) s2) : AtC cs a cap b off w s2 w2 :=
  ⟨⟨ho.1.trans h.1.os, ho.2.1.trans h.1.tape, ho.2.2.1.trans h.1.output, Nat.le_trans h.1.size ho.2.2.2.1, fun k hk => (ho.2.2.2.2 k (by have := h.size; omega) (.inl (by omega))).trans (h.1.block k hk)⟩, Box4.keep h.2.1 (ho.2.2.2.2 _ (by have := h.size; omega) (.inl (by omega))), hc⟩
theorem AtC.drew (h : AtC cs a cap b off w s w1) : AtC cs a cap b off w s w1.drew := h.still (Below.refl w1.heap.size w1).drew
theorem AtC.put {g o : Nat} (h : AtC cs a cap b off w s w1) (hg : w.heap.size + 1 < g) (x : Value) : AtC cs a cap b off w s (w1.setCell ⟨g, o, none⟩ x) :=
  ⟨h.1.setCell (p := ⟨g, o, none⟩) (by show w.heap.size ≤ g; omega) x, Box4.past h.2.1 (by omega), Cur.set h.2.2 hg⟩
theorem AtC.put4 {g : Nat} (h : AtC cs a cap b off w s w1) (hg : w.heap.size + 1 < g) (d0 d1 d2 d3 : Value) : AtC cs a cap b off w s ((((w1.setCell ⟨g, 0, none⟩ d0).setCell ⟨g, 1, none⟩ d1).setCell ⟨g, 2, none⟩ d2).setCell ⟨g, 3, none⟩ d3) :=
  (((h.put hg d0).put hg d1).put hg d2).put hg d3
end
/-- A term drawn, laid in new blocks. -/
def DrewS (t : Tr) (w : World) (e : Ending) (w' : World) : Prop := ∃ xa xm xc, e = .returned (t.val (.slice xa xm xc)) ∧ Below w.heap.size w w' ∧ Lies w' (fun q => w.heap.size ≤ q) t (.slice xa xm xc)
theorem drew_atC {cs : List UInt8} {a : Option Addr} {cap b off : Nat} {w wE : World} {s : Nat × Nat} {r : Tr} {v : Value} (h : AtC cs a cap b off w s wE) (hl : Lies wE (fun q => w.heap.size + 2 ≤ q) r v) :
    DrewS r w (.returned (r.val v)) ((((wE.setCell ⟨w.heap.size, 0, none⟩ (.string r.name)).setCell ⟨w.heap.size, 1, none⟩ (.string r.text)).setCell ⟨w.heap.size, 2, none⟩ (.bool r.leaf)).setCell ⟨w.heap.size, 3, none⟩ v) := by
  obtain ⟨xa, xm, xc, rfl⟩ := hl.form
  exact ⟨xa, xm, xc, rfl, (((h.1.setCell (p := ⟨w.heap.size, 0, none⟩) (Nat.le_refl _) _).setCell (p := ⟨w.heap.size, 1, none⟩) (Nat.le_refl _) _).setCell (p := ⟨w.heap.size, 2, none⟩) (Nat.le_refl _) _).setCell (p := ⟨w.heap.size, 3, none⟩) (Nat.le_refl _) _, Lies.mono (fun q hq => by have h1 : w.heap.size + 2 ≤ q := hq; show w.heap.size ≤ q; omega) ((((Lies.set hl (fun h => by have h1 : w.heap.size + 2 ≤ w.heap.size := h; omega)).set (fun h => by have h1 : w.heap.size + 2 ≤ w.heap.size := h; omega)).set (fun h => by have h1 : w.heap.size + 2 ≤ w.heap.size := h; omega)).set (fun h => by have h1 : w.heap.size + 2 ≤ w.heap.size := h; omega))⟩
set_option maxHeartbeats 12800000 in
theorem drawSc_any {cs : List UInt8} {a : Option Addr} {cap b off : Nat} (w : World) (h2 : cs.length ≤ 1048576) (h3 : cs.length ≤ cap) (h4 : cap ≤ 2 ^ 63 - 1) (hb : 0 < cs.length → b < w.heap.size) (h6 : 0 < cs.length → a = some ⟨b, off, none⟩) (h7 : Byts w cs b off) :
    Calls Try.prog 12 #[.slice a cs.length cap] w fun e w' => DrewS (dSc cs) w e w' := by
  have hb0 := bel_alloc w (.cells #[.string ByteArray.empty, .string ByteArray.empty, .bool false, .slice none 0 0] 40)
  have hs0 : (w.alloc (.cells #[.string ByteArray.empty, .string ByteArray.empty, .bool false, .slice none 0 0] 40)).heap.size = w.heap.size + 1 := by simp
  have hdc := drawCur_any (cs := cs) (a := a) (cap := cap) (b := b) (off := off) (w.alloc (.cells #[.string ByteArray.empty, .string ByteArray.empty, .bool false, .slice none 0 0] 40)) h2 h3 h4 (fun h => by have := hb h; omega) h6 (fun i hi => (hb0.cell (lt_of_cell (h7 i hi))).trans (h7 i hi))
  rw [hs0] at hdc
  have HDC := (show Hid _ from hdc); clear hdc
  have HZ := (show Hid (zB (w.alloc (.cells #[.string ByteArray.empty, .string ByteArray.empty, .bool false, .slice none 0 0] 40)) w.heap.size) from Box4.new w _ _ _ _)
  have HB0 := (show Hid (Below w.heap.size w (w.alloc (.cells #[.string ByteArray.empty, .string ByteArray.empty, .bool false, .slice none 0 0] 40))) from hb0)
  have e0 : dSc cs = if (cPick cs 24 (cAnyT cs (0, 17 + cs.length)).2).1 = 0 then (scL cs 62 1 (lf ⟨#[78, 117, 109]⟩ ⟨#[49]⟩) (cPick cs 24 (cAnyT cs (0, 17 + cs.length)).2).2).1 else (cAnyT cs (0, 17 + cs.length)).1 := rfl
  have hat : ∀ wq, Cur wq cs a cap b off (w.heap.size + 1) (0, 17 + cs.length) → Calls Try.prog 46 #[.pointer (some ⟨w.heap.size + 1, 0, none⟩)] wq fun e w' => DrewL cs a cap b off (w.heap.size + 1) (cAnyT cs (0, 17 + cs.length)) wq e w' := fun wq h => drawAnyT_any _ wq h
  generalize cAnyT cs (0, 17 + cs.length) = r at *
  obtain ⟨t, s2⟩ := r
  try dsimp only at e0
  have hpk : ∀ w1, Cur w1 cs a cap b off (w.heap.size + 1) s2 → _ := fun w1 h => pick_any 24 w1 h (by decide)
  generalize cPick cs 24 s2 = r at *
  obtain ⟨k, s3⟩ := r
  try dsimp only at e0
  have HE0 := (show Hid _ from e0)
  have HAT := (show Hid _ from hat)
  have HPK := (show Hid _ from hpk)
  clear e0 hat hpk hb0 hs0 h7 h6 hb h3 h4
  go_enter Try.func12, Try.ntmps12
  go_wp2_with fail
  refine Calls.mono HDC.out ?_
  rintro e wa ⟨rfl, hba, hsa, hca⟩
  have hba' : Below (w.alloc (.cells #[.string ByteArray.empty, .string ByteArray.empty, .bool false, .slice none 0 0] 40)).heap.size (w.alloc (.cells #[.string ByteArray.empty, .string ByteArray.empty, .bool false, .slice none 0 0] 40)) wa := by rw [World.size_alloc]; exact hba
  have HAa := (show Hid (AtC cs a cap b off w (0, 17 + cs.length) wa) from ⟨bel_trans HB0.out hba', Box4.still HZ.out hba', hca⟩)
  clear HDC HB0 HZ hba hba' hca hsa
  have hcl := HAT.out wa HAa.out.2.2
  have HCL := (show Hid _ from hcl); clear hcl HAT
  go_wp2_with fail
  refine Calls.mono HCL.out ?_
  rintro e w1 ⟨xa, xm, xc, rfl, ho1, hc1, hl1⟩
  try dsimp only at hc1 hl1
  have hsz0 := HAa.out.size
  have hsz1 : w.heap.size + 2 ≤ w1.heap.size := by have := ho1.2.2.2.1; omega
  have HA1 := (show Hid (AtC cs a cap b off w s2 w1) from HAa.out.out ho1 hc1)
  have hb1 := bel_alloc w1 (.cells #[.string t.name, .string t.text, .bool t.leaf, .slice xa xm xc] 40)
  have hl1' : Lies w1 (fun q => w.heap.size + 2 ≤ q ∧ q ≠ w1.heap.size) t (.slice xa xm xc) := hl1.lt.mono (fun q hq => ⟨by have h1 : wa.heap.size ≤ q := hq.1; omega, by have h2 := hq.2; omega⟩)
  have hcl := HPK.out _ ((HA1.out.still hb1).2.2)
  have HB1 := (show Hid (Box4 (w1.alloc (.cells #[.string t.name, .string t.text, .bool t.leaf, .slice xa xm xc] 40)) w1.heap.size (.string t.name) (.string t.text) (.bool t.leaf) (.slice xa xm xc)) from Box4.new w1 _ _ _ _)
  have HA1b := (show Hid (AtC cs a cap b off w s2 (w1.alloc (.cells #[.string t.name, .string t.text, .bool t.leaf, .slice xa xm xc] 40))) from HA1.out.still hb1)
  have HL1b := (show Hid (Lies (w1.alloc (.cells #[.string t.name, .string t.text, .bool t.leaf, .slice xa xm xc] 40)) (fun q => w.heap.size + 2 ≤ q ∧ q ≠ w1.heap.size) t (.slice xa xm xc)) from Lies.still hl1' hb1)
  clear HCL HPK ho1 hc1 hl1 hl1' HA1 hb1 HAa hsz0
  have HCL := (show Hid _ from hcl); clear hcl
  go_wp2_with fail
  refine Calls.mono HCL.out ?_
  rintro e w2 ⟨rfl, ho2, hs2, hc2⟩
  have HA2 := (show Hid (AtC cs a cap b off w s3 w2) from HA1b.out.out ho2 hc2)
  have HB2 := (show Hid (Box4 w2 w1.heap.size (.string t.name) (.string t.text) (.bool t.leaf) (.slice xa xm xc)) from Box4.out HB1.out ho2 (by omega))
  have HL2 := (show Hid (Lies w2 (fun q => w.heap.size + 2 ≤ q ∧ q ≠ w1.heap.size) t (.slice xa xm xc)) from lies_outG HL1b.out ho2 (by omega))
  clear HCL HA1b HB1 HL1b ho2 hs2 hc2
  have hgt : w.heap.size + 1 < w1.heap.size := by omega
  by_cases h0 : k = 0
  case neg =>
    have e0 := HE0.out
    clear HE0
    rw [if_neg h0] at e0
    have HE := (show Hid _ from e0); clear e0
    have k0 : ((k : Int) == 0) = false := by simp; omega
    obtain ⟨X0, X1, X2, X3⟩ := Box4.cells HB2.out
    obtain ⟨Z0, Z1, Z2, Z3⟩ := Box4.cells HA2.out.2.1
    have y0 := Box4.frozen HA2.out.2.1 0
    have y1 := Box4.frozen HA2.out.2.1 1
    have y2 := Box4.frozen HA2.out.2.1 2
    have y3 := Box4.frozen HA2.out.2.1 3
    go_wp2_with fail
    refine bodyPost_ret (v := .agg #[.string t.name, .string t.text, .bool t.leaf, .slice xa xm xc]) (by simp [results, Try.results12, go_sem, Z0, Z1, Z2, Z3]) rfl ?_
    rw [HE.out]
    exact drew_atC (r := t) HA2.out (Lies.mono (fun q hq => hq.1) HL2.out)
  case pos =>
    subst h0
    have e0 := HE0.out
    clear HE0
    rw [if_pos rfl] at e0
    generalize hR : scL cs 62 1 (lf ⟨#[78, 117, 109]⟩ ⟨#[49]⟩) s3 = RR at *
    have HE := (show Hid _ from e0); clear e0
    have HR0 := (show Hid _ from hR); clear hR
    go_wp2_with fail
    refine Calls.mono (leafD_any _ _ _) ?_
    rintro e w3 ⟨rfl, hb⟩
    have HA3 := (show Hid (AtC cs a cap b off w s3 w3) from HA2.out.still hb)
    have HB3 := (show Hid (Box4 w3 w1.heap.size (.string t.name) (.string t.text) (.bool t.leaf) (.slice xa xm xc)) from Box4.still HB2.out hb)
    clear hb HA2 HB2 HL2
    obtain ⟨g0, g1, g2, g3⟩ := Box4.cells HB3.out
    have f0 := Box4.frozen HB3.out 0
    have f1 := Box4.frozen HB3.out 1
    have f2 := Box4.frozen HB3.out 2
    have f3 := Box4.frozen HB3.out 3
    have HA4 := (show Hid (AtC cs a cap b off w s3 _) from HA3.out.put4 hgt (.string ⟨#[78, 117, 109]⟩) (.string ⟨#[49]⟩) (.bool true) (.slice none 0 0))
    have HB4 := (show Hid (Box4 _ w1.heap.size (.string ⟨#[78, 117, 109]⟩) (.string ⟨#[49]⟩) (.bool true) (.slice none 0 0)) from Box4.put4 HB3.out (.string ⟨#[78, 117, 109]⟩) (.string ⟨#[49]⟩) (.bool true) (.slice none 0 0))
    clear HA3 HB3
    go_wp2_with fail
    clear g0 g1 g2 g3 f0 f1 f2 f3
    go_loopw [5] (fun i wr => ∃ (n : Nat) (u : Tr) (st : Nat × Nat) (ya : Option Addr) (ym yc : Nat), i = .int .i64 (n : Int) ∧ 1 ≤ n ∧ n ≤ 61 ∧ Hid (AtC cs a cap b off w st wr) ∧ Hid (Box4 wr w1.heap.size (.string u.name) (.string u.text) (.bool u.leaf) (.slice ya ym yc)) ∧ Hid (Lies wr (fun q => w.heap.size + 2 ≤ q ∧ q ≠ w1.heap.size) u (.slice ya ym yc)) ∧ Hid (scL cs (63 - n) n u st = RR)) (fun i _ => 64 - (intOf i).toNat)
    case atStart => exact ⟨1, lf ⟨#[78, 117, 109]⟩ ⟨#[49]⟩, s3, none, 0, 0, rfl, by omega, by omega, HA4.out, HB4.out, lies_nil _ _ _ _ _ (by decide) (by decide), HR0.out⟩
    case round =>
      obtain ⟨n, u, st, ya, ym, yc, rfl, hn1, hn2, HA5, HB5, HL5, HR⟩ := hrel
      have hcl := pick_any 2 wr HA5.out.2.2 (by decide)
      have hp := cPick_lt cs 2 st (by decide)
      have hF : scL cs (62 - n + 1) n u st = RR := by rw [show 62 - n + 1 = 63 - n by omega]; exact HR.out
      rw [scL] at hF
      have HCL := (show Hid _ from hcl); clear hcl HR
      generalize cPick cs 2 st = q at *
      obtain ⟨q, st'⟩ := q
      dsimp only at hp hF
      by_cases hjp : n < 60 + q
      case neg =>
        rw [if_neg hjp] at hF
        have hjp' : 60 + (q : Int) ≤ (n : Int) := by omega
        have HFF := (show Hid _ from hF); clear hF
        go_wp2_with fail
        refine Calls.mono HCL.out ?_
        rintro e w4 ⟨rfl, ho4, hq4, hc4⟩
        clear hq4
        have HA6 := (show Hid (AtC cs a cap b off w st' w4) from HA5.out.out ho4 hc4)
        have HB6 := (show Hid (Box4 w4 w1.heap.size (.string u.name) (.string u.text) (.bool u.leaf) (.slice ya ym yc)) from Box4.out HB5.out ho4 (by omega))
        have HL6 := (show Hid (Lies w4 (fun q => w.heap.size + 2 ≤ q ∧ q ≠ w1.heap.size) u (.slice ya ym yc)) from lies_outG HL5.out ho4 (by omega))
        clear ho4 hc4 HA5 HB5 HL5 HCL
        have he2 : dSc cs = u := by rw [HE.out, ← HFF.out]
        have HE2 := (show Hid _ from he2); clear he2
        clear HE HFF
        try dsimp only
        obtain ⟨X0, X1, X2, X3⟩ := Box4.cells HB6.out
        obtain ⟨Z0, Z1, Z2, Z3⟩ := Box4.cells HA6.out.2.1
        have y0 := Box4.frozen HA6.out.2.1 0
        have y1 := Box4.frozen HA6.out.2.1 1
        have y2 := Box4.frozen HA6.out.2.1 2
        have y3 := Box4.frozen HA6.out.2.1 3
        go_wp2_with fail
        refine bodyPost_ret (v := .agg #[.string u.name, .string u.text, .bool u.leaf, .slice ya ym yc]) (by simp [results, Try.results12, go_sem, Z0, Z1, Z2, Z3]) rfl ?_
        rw [HE2.out]
        exact drew_atC (r := u) HA6.out (Lies.mono (fun q hq => hq.1) HL6.out)
      case pos =>
        rw [if_pos hjp] at hF
        have HFF := (show Hid _ from hF); clear hF
        have hjp' : (n : Int) < 60 + (q : Int) := by omega
        have hn60 : n ≤ 60 := by omega
        have r50 : (n : Int).tmod 50 = ((n % 50 : Nat) : Int) := by rw [Int.tmod_eq_emod_of_nonneg (by omega)]; omega
        go_wp2_with fail
        refine Calls.mono HCL.out ?_
        rintro e w4 ⟨rfl, ho4, hq4, hc4⟩
        clear hq4
        have HA6 := (show Hid (AtC cs a cap b off w st' w4) from HA5.out.out ho4 hc4)
        have HB6 := (show Hid (Box4 w4 w1.heap.size (.string u.name) (.string u.text) (.bool u.leaf) (.slice ya ym yc)) from Box4.out HB5.out ho4 (by omega))
        have HL6 := (show Hid (Lies w4 (fun q => w.heap.size + 2 ≤ q ∧ q ≠ w1.heap.size) u (.slice ya ym yc)) from lies_outG HL5.out ho4 (by omega))
        clear ho4 hc4 HA5 HB5 HL5 HCL HE HR0 HA4 HB4
        try dsimp only
        have HA7 := (show Hid (AtC cs a cap b off w st' w4.drew) from HA6.out.drew)
        have HB7 := (show Hid (Box4 w4.drew w1.heap.size (.string u.name) (.string u.text) (.bool u.leaf) (.slice ya ym yc)) from Box4.still HB6.out (Below.refl w4.heap.size w4).drew)
        have HL7 := (show Hid (Lies w4.drew (fun q => w.heap.size + 2 ≤ q ∧ q ≠ w1.heap.size) u (.slice ya ym yc)) from Lies.still HL6.out (Below.refl w4.heap.size w4).drew)
        clear HA6 HB6 HL6
        by_cases h50 : n % 50 = 0
        case pos =>
          rw [h50] at r50
          have e1 : nxS n u = lam2 := if_pos h50
          rw [e1] at HFF
          clear e1
          go_wp2_with fail
          refine wp_region_held_drew (S := (fun _ => True)) (by kernel_rfl) trivial (fun hHeld => ?_)
          generalize w4.drew = W7 at *
          refine wpAnyH_ready (rs := [0, 4]) (by kernel_rfl) (by simp) ?_
          refine (AllReadyH.cons (o := oD12_8_0) rfl (fun K hK => ?_) (AllReadyH.cons (o := oD12_8_4) rfl (fun K hK => ?_) AllReadyH.nil))
          · skip
            go_simp
            go_at_call 47
            refine Calls.mono (leafD_any _ _ _) ?_
            rintro e v8 ⟨rfl, hb⟩
            have HA8 := (show Hid (AtC cs a cap b off w st' (v8)) from HA7.out.still hb)
            have HB8 := (show Hid (Box4 (v8) w1.heap.size (.string u.name) (.string u.text) (.bool u.leaf) (.slice ya ym yc)) from Box4.still HB7.out hb)
            have HL8 := (show Hid (Lies (v8) (fun q => w.heap.size + 2 ≤ q ∧ q ≠ w1.heap.size) u (.slice ya ym yc)) from Lies.still HL7.out hb)
            clear hb HA7 HB7 HL7
            clear hHeld
            refine hK.out _ _ trivial (fun hHeld => ?_)
            clear hK K
            try simp only [Act.put, List.setIfInBounds_toArray, List.set_cons_zero, List.set_cons_succ]
            refine wpAnyH_ready (rs := [1, 4]) (by kernel_rfl) (by simp) ?_
            refine (AllReadyH.cons (o := oD12_8_1) rfl (fun K hK => ?_) (AllReadyH.cons (o := oD12_8_4) rfl (fun K hK => ?_) AllReadyH.nil))
            · skip
              go_simp
              go_at_call 47
              refine Calls.mono (leafD_any _ _ _) ?_
              rintro e v9 ⟨rfl, hb⟩
              have HA9 := (show Hid (AtC cs a cap b off w st' (v9)) from HA8.out.still hb)
              have HB9 := (show Hid (Box4 (v9) w1.heap.size (.string u.name) (.string u.text) (.bool u.leaf) (.slice ya ym yc)) from Box4.still HB8.out hb)
              have HL9 := (show Hid (Lies (v9) (fun q => w.heap.size + 2 ≤ q ∧ q ≠ w1.heap.size) u (.slice ya ym yc)) from Lies.still HL8.out hb)
              clear hb HA8 HB8 HL8
              clear hHeld
              refine hK.out _ _ trivial (fun hHeld => ?_)
              clear hK K
              try simp only [Act.put, List.setIfInBounds_toArray, List.set_cons_zero, List.set_cons_succ]
              refine wpAnyH_ready (rs := [2, 4]) (by kernel_rfl) (by simp) ?_
              refine (AllReadyH.cons (o := oD12_8_2) rfl (fun K hK => ?_) (AllReadyH.cons (o := oD12_8_4) rfl (fun K hK => ?_) AllReadyH.nil))
              · skip
                go_simp
                have hb := bel_alloc v9 (.cells #[.string ⟨#[73, 100]⟩, .string ⟨#[120]⟩, .bool true, .slice none 0 0, .string ⟨#[73, 100]⟩, .string ⟨#[120]⟩, .bool true, .slice none 0 0] 40)
                have hg6 : w1.heap.size < v9.heap.size := HB9.out.lt
                have HA10 := (show Hid (AtC cs a cap b off w st' (v9.alloc (.cells #[.string ⟨#[73, 100]⟩, .string ⟨#[120]⟩, .bool true, .slice none 0 0, .string ⟨#[73, 100]⟩, .string ⟨#[120]⟩, .bool true, .slice none 0 0] 40))) from HA9.out.still hb)
                have HB10 := (show Hid (Box4 (v9.alloc (.cells #[.string ⟨#[73, 100]⟩, .string ⟨#[120]⟩, .bool true, .slice none 0 0, .string ⟨#[73, 100]⟩, .string ⟨#[120]⟩, .bool true, .slice none 0 0] 40)) w1.heap.size (.string u.name) (.string u.text) (.bool u.leaf) (.slice ya ym yc)) from Box4.still HB9.out hb)
                have HL10 := (show Hid (Lies (v9.alloc (.cells #[.string ⟨#[73, 100]⟩, .string ⟨#[120]⟩, .bool true, .slice none 0 0, .string ⟨#[73, 100]⟩, .string ⟨#[120]⟩, .bool true, .slice none 0 0] 40)) (fun q => w.heap.size + 2 ≤ q ∧ q ≠ w1.heap.size) u (.slice ya ym yc)) from Lies.still HL9.out hb)
                have HM10 := (show Hid (Lies (v9.alloc (.cells #[.string ⟨#[73, 100]⟩, .string ⟨#[120]⟩, .bool true, .slice none 0 0, .string ⟨#[73, 100]⟩, .string ⟨#[120]⟩, .bool true, .slice none 0 0] 40)) (fun q => w.heap.size + 2 ≤ q ∧ q ≠ w1.heap.size) lamX (.slice (some ⟨v9.heap.size, 0, none⟩) 2 2)) from lies_two v9 (t1 := xId) (t2 := xId) (lies_nil _ _ _ _ _ (by decide) (by decide)) (lies_nil _ _ _ _ _ (by decide) (by decide)) ⟨HA9.out.size, by omega⟩ ⟨#[76, 97, 109]⟩ (by decide))
                clear hb HA9 HB9 HL9
                clear hHeld
                refine hK.out _ _ trivial (fun hHeld => ?_)
                clear hK K
                try simp only [Act.put, List.setIfInBounds_toArray, List.set_cons_zero, List.set_cons_succ]
                generalize v9.alloc (.cells #[.string ⟨#[73, 100]⟩, .string ⟨#[120]⟩, .bool true, .slice none 0 0, .string ⟨#[73, 100]⟩, .string ⟨#[120]⟩, .bool true, .slice none 0 0] 40) = W10 at *
                refine wpAnyH_ready (rs := [3, 4]) (by kernel_rfl) (by simp) ?_
                refine (AllReadyH.cons (o := oD12_8_3) rfl (fun K hK => ?_) (AllReadyH.cons (o := oD12_8_4) rfl (fun K hK => ?_) AllReadyH.nil))
                · skip
                  go_simp
                  go_at_call 48
                  refine Calls.mono (nodeD_any _ _ _ _ _) ?_
                  rintro e v11 ⟨rfl, hb⟩
                  have HA11 := (show Hid (AtC cs a cap b off w st' (v11)) from HA10.out.still hb)
                  have HB11 := (show Hid (Box4 (v11) w1.heap.size (.string u.name) (.string u.text) (.bool u.leaf) (.slice ya ym yc)) from Box4.still HB10.out hb)
                  have HL11 := (show Hid (Lies (v11) (fun q => w.heap.size + 2 ≤ q ∧ q ≠ w1.heap.size) u (.slice ya ym yc)) from Lies.still HL10.out hb)
                  have HM11 := (show Hid (Lies (v11) (fun q => w.heap.size + 2 ≤ q ∧ q ≠ w1.heap.size) lamX (.slice (some ⟨v9.heap.size, 0, none⟩) 2 2)) from Lies.still HM10.out hb)
                  clear hb HA10 HB10 HL10 HM10
                  clear hHeld
                  refine hK.out _ _ trivial (fun hHeld => ?_)
                  clear hK K
                  try simp only [Act.put, List.setIfInBounds_toArray, List.set_cons_zero, List.set_cons_succ]
                  refine wpAnyH_ready (rs := [4]) (by kernel_rfl) (by simp) ?_
                  refine (AllReadyH.cons (o := oD12_8_4) rfl (fun K hK => ?_) AllReadyH.nil)
                  obtain ⟨e0', e1', e2', e3'⟩ := Box4.cells HB11.out
                  go_simp
                  clear e0' e1' e2' e3'
                  clear hHeld
                  refine hK.out _ _ trivial (fun hHeld => ?_)
                  clear hK K
                  try simp only [Act.put, List.setIfInBounds_toArray, List.set_cons_zero, List.set_cons_succ]
                  refine wpAnyH_ready (rs := [5]) (by kernel_rfl) (by simp) ?_
                  refine (AllReadyH.cons (o := oD12_8_5) rfl (fun K hK => ?_) AllReadyH.nil)
                  go_simp
                  have hb := bel_alloc v11 (.cells #[.string ⟨#[76, 97, 109]⟩, .string ByteArray.empty, .bool false, .slice (some ⟨v9.heap.size, 0, none⟩) 2 2, .string u.name, .string u.text, .bool u.leaf, .slice ya ym yc] 40)
                  have hg6 : w1.heap.size < v11.heap.size := HB11.out.lt
                  have HA12 := (show Hid (AtC cs a cap b off w st' (v11.alloc (.cells #[.string ⟨#[76, 97, 109]⟩, .string ByteArray.empty, .bool false, .slice (some ⟨v9.heap.size, 0, none⟩) 2 2, .string u.name, .string u.text, .bool u.leaf, .slice ya ym yc] 40))) from HA11.out.still hb)
                  have HB12 := (show Hid (Box4 (v11.alloc (.cells #[.string ⟨#[76, 97, 109]⟩, .string ByteArray.empty, .bool false, .slice (some ⟨v9.heap.size, 0, none⟩) 2 2, .string u.name, .string u.text, .bool u.leaf, .slice ya ym yc] 40)) w1.heap.size (.string u.name) (.string u.text) (.bool u.leaf) (.slice ya ym yc)) from Box4.still HB11.out hb)
                  have HL12 := (show Hid (Lies (v11.alloc (.cells #[.string ⟨#[76, 97, 109]⟩, .string ByteArray.empty, .bool false, .slice (some ⟨v9.heap.size, 0, none⟩) 2 2, .string u.name, .string u.text, .bool u.leaf, .slice ya ym yc] 40)) (fun q => w.heap.size + 2 ≤ q ∧ q ≠ w1.heap.size) (nd ⟨#[65, 100, 100]⟩ [lamX, u]) (.slice (some ⟨v11.heap.size, 0, none⟩) 2 2)) from lies_two v11 HM11.out HL11.out ⟨HA11.out.size, by omega⟩ ⟨#[65, 100, 100]⟩ (by decide))
                  clear hb HA11 HB11 HL11 HM11
                  clear hHeld
                  refine hK.out _ _ trivial (fun hHeld => ?_)
                  clear hK K
                  try simp only [Act.put, List.setIfInBounds_toArray, List.set_cons_zero, List.set_cons_succ]
                  generalize v11.alloc (.cells #[.string ⟨#[76, 97, 109]⟩, .string ByteArray.empty, .bool false, .slice (some ⟨v9.heap.size, 0, none⟩) 2 2, .string u.name, .string u.text, .bool u.leaf, .slice ya ym yc] 40) = W12 at *
                  refine wpAnyH_ready (rs := [6]) (by kernel_rfl) (by simp) ?_
                  refine (AllReadyH.cons (o := oD12_8_6) rfl (fun K hK => ?_) AllReadyH.nil)
                  go_simp
                  go_at_call 48
                  refine Calls.mono (nodeD_any _ _ _ _ _) ?_
                  rintro e v13 ⟨rfl, hb⟩
                  have HA13 := (show Hid (AtC cs a cap b off w st' (v13)) from HA12.out.still hb)
                  have HB13 := (show Hid (Box4 (v13) w1.heap.size (.string u.name) (.string u.text) (.bool u.leaf) (.slice ya ym yc)) from Box4.still HB12.out hb)
                  have HL13 := (show Hid (Lies v13 (fun q => w.heap.size + 2 ≤ q ∧ q ≠ w1.heap.size) (nd ⟨#[65, 100, 100]⟩ [lamX, u]) (.slice (some ⟨v11.heap.size, 0, none⟩) 2 2)) from Lies.still HL12.out hb)
                  clear hb HA12 HB12 HL12
                  clear hHeld
                  refine hK.out _ _ trivial (fun hHeld => ?_)
                  clear hK K
                  try simp only [Act.put, List.setIfInBounds_toArray, List.set_cons_zero, List.set_cons_succ]
                  refine wpAnyH_ready (rs := [7]) (by kernel_rfl) (by simp) ?_
                  refine (AllReadyH.cons (o := oD12_8_7) rfl (fun K hK => ?_) AllReadyH.nil)
                  obtain ⟨g0, g1, g2, g3⟩ := Box4.cells HB13.out
                  have f0 := Box4.frozen HB13.out 0
                  have f1 := Box4.frozen HB13.out 1
                  have f2 := Box4.frozen HB13.out 2
                  have f3 := Box4.frozen HB13.out 3
                  have HA14 := (show Hid (AtC cs a cap b off w st' _) from HA13.out.put4 hgt (.string ⟨#[65, 100, 100]⟩) (.string ByteArray.empty) (.bool false) (.slice (some ⟨v11.heap.size, 0, none⟩) 2 2))
                  have HB14 := (show Hid (Box4 _ w1.heap.size (.string ⟨#[65, 100, 100]⟩) (.string ByteArray.empty) (.bool false) (.slice (some ⟨v11.heap.size, 0, none⟩) 2 2)) from Box4.put4 HB13.out (.string ⟨#[65, 100, 100]⟩) (.string ByteArray.empty) (.bool false) (.slice (some ⟨v11.heap.size, 0, none⟩) 2 2))
                  have HL14 := (show Hid _ from lies_put4 HL13.out (.string ⟨#[65, 100, 100]⟩) (.string ByteArray.empty) (.bool false) (.slice (some ⟨v11.heap.size, 0, none⟩) 2 2))
                  clear HA13 HB13 HL13
                  go_simp
                  clear g0 g1 g2 g3 f0 f1 f2 f3
                  clear hHeld
                  refine hK.out _ _ trivial (fun hHeld => ?_)
                  clear hK K
                  try simp only [Act.put, List.setIfInBounds_toArray, List.set_cons_zero, List.set_cons_succ]
                  refine wpAnyH_done (by kernel_rfl) ?_ _
                  clear hHeld
                  go_wp2_with fail
                  refine Calls.mono (leafD_any _ _ _) ?_
                  rintro e u1 ⟨rfl, hb⟩
                  have HA15 := (show Hid (AtC cs a cap b off w st' u1) from HA14.out.still hb)
                  have HB15 := (show Hid (Box4 u1 w1.heap.size (.string ⟨#[65, 100, 100]⟩) (.string ByteArray.empty) (.bool false) (.slice (some ⟨v11.heap.size, 0, none⟩) 2 2)) from Box4.still HB14.out hb)
                  clear hb HA14 HB14 HL14
                  go_wp2_with fail
                  refine Calls.mono (leafD_any _ _ _) ?_
                  rintro e u2 ⟨rfl, hb⟩
                  have HA16 := (show Hid (AtC cs a cap b off w st' u2) from HA15.out.still hb)
                  have HB16 := (show Hid (Box4 u2 w1.heap.size (.string ⟨#[65, 100, 100]⟩) (.string ByteArray.empty) (.bool false) (.slice (some ⟨v11.heap.size, 0, none⟩) 2 2)) from Box4.still HB15.out hb)
                  clear hb HA15 HB15
                  have hb := bel_alloc u2 (.cells #[.string ⟨#[73, 100]⟩, .string ⟨#[120]⟩, .bool true, .slice none 0 0, .string ⟨#[78, 117, 109]⟩, .string ⟨#[50]⟩, .bool true, .slice none 0 0] 40)
                  have hg6 : w1.heap.size < u2.heap.size := HB16.out.lt
                  have HA17 := (show Hid (AtC cs a cap b off w st' (u2.alloc (.cells #[.string ⟨#[73, 100]⟩, .string ⟨#[120]⟩, .bool true, .slice none 0 0, .string ⟨#[78, 117, 109]⟩, .string ⟨#[50]⟩, .bool true, .slice none 0 0] 40))) from HA16.out.still hb)
                  have HB17 := (show Hid (Box4 (u2.alloc (.cells #[.string ⟨#[73, 100]⟩, .string ⟨#[120]⟩, .bool true, .slice none 0 0, .string ⟨#[78, 117, 109]⟩, .string ⟨#[50]⟩, .bool true, .slice none 0 0] 40)) w1.heap.size (.string ⟨#[65, 100, 100]⟩) (.string ByteArray.empty) (.bool false) (.slice (some ⟨v11.heap.size, 0, none⟩) 2 2)) from Box4.still HB16.out hb)
                  have HL17 := (show Hid (Lies (u2.alloc (.cells #[.string ⟨#[73, 100]⟩, .string ⟨#[120]⟩, .bool true, .slice none 0 0, .string ⟨#[78, 117, 109]⟩, .string ⟨#[50]⟩, .bool true, .slice none 0 0] 40)) (fun q => w.heap.size + 2 ≤ q ∧ q ≠ w1.heap.size) lam2 (.slice (some ⟨u2.heap.size, 0, none⟩) 2 2)) from lies_two u2 (t1 := xId) (t2 := lf ⟨#[78, 117, 109]⟩ ⟨#[50]⟩) (lies_nil _ _ _ _ _ (by decide) (by decide)) (lies_nil _ _ _ _ _ (by decide) (by decide)) ⟨HA16.out.size, by omega⟩ ⟨#[76, 97, 109]⟩ (by decide))
                  clear hb HA16 HB16
                  go_wp2_with fail
                  refine Calls.mono (nodeD_any _ _ _ _ _) ?_
                  rintro e u4 ⟨rfl, hb⟩
                  have HA18 := (show Hid (AtC cs a cap b off w st' u4) from HA17.out.still hb)
                  have HB18 := (show Hid (Box4 u4 w1.heap.size (.string ⟨#[65, 100, 100]⟩) (.string ByteArray.empty) (.bool false) (.slice (some ⟨v11.heap.size, 0, none⟩) 2 2)) from Box4.still HB17.out hb)
                  have HL18 := (show Hid (Lies u4 (fun q => w.heap.size + 2 ≤ q ∧ q ≠ w1.heap.size) lam2 (.slice (some ⟨u2.heap.size, 0, none⟩) 2 2)) from Lies.still HL17.out hb)
                  clear hb HA17 HB17 HL17
                  obtain ⟨g0, g1, g2, g3⟩ := Box4.cells HB18.out
                  have f0 := Box4.frozen HB18.out 0
                  have f1 := Box4.frozen HB18.out 1
                  have f2 := Box4.frozen HB18.out 2
                  have f3 := Box4.frozen HB18.out 3
                  have HA19 := (show Hid (AtC cs a cap b off w st' _) from HA18.out.put4 hgt (.string ⟨#[76, 97, 109]⟩) (.string ByteArray.empty) (.bool false) (.slice (some ⟨u2.heap.size, 0, none⟩) 2 2))
                  have HB19 := (show Hid (Box4 _ w1.heap.size (.string ⟨#[76, 97, 109]⟩) (.string ByteArray.empty) (.bool false) (.slice (some ⟨u2.heap.size, 0, none⟩) 2 2)) from Box4.put4 HB18.out (.string ⟨#[76, 97, 109]⟩) (.string ByteArray.empty) (.bool false) (.slice (some ⟨u2.heap.size, 0, none⟩) 2 2))
                  have HL19 := (show Hid _ from lies_put4 HL18.out (.string ⟨#[76, 97, 109]⟩) (.string ByteArray.empty) (.bool false) (.slice (some ⟨u2.heap.size, 0, none⟩) 2 2))
                  clear HA18 HB18 HL18
                  go_wp2_with fail
                  exact ⟨⟨n + 1, lam2, st', _, _, _, by go_num, by omega, by omega, HA19.out, HB19.out, HL19.out, by rw [show 63 - (n + 1) = 62 - n by omega]; exact HFF.out⟩, by simp [intOf]; omega⟩
                · skip
                  obtain ⟨e0', e1', e2', e3'⟩ := Box4.cells HB10.out
                  go_simp
                  clear e0' e1' e2' e3'
                  clear hHeld
                  refine hK.out _ _ trivial (fun hHeld => ?_)
                  clear hK K
                  try simp only [Act.put, List.setIfInBounds_toArray, List.set_cons_zero, List.set_cons_succ]
                  refine wpAnyH_ready (rs := [3]) (by kernel_rfl) (by simp) ?_
                  refine (AllReadyH.cons (o := oD12_8_3) rfl (fun K hK => ?_) AllReadyH.nil)
                  go_simp
                  go_at_call 48
                  refine Calls.mono (nodeD_any _ _ _ _ _) ?_
                  rintro e v11 ⟨rfl, hb⟩
                  have HA11 := (show Hid (AtC cs a cap b off w st' (v11)) from HA10.out.still hb)
                  have HB11 := (show Hid (Box4 (v11) w1.heap.size (.string u.name) (.string u.text) (.bool u.leaf) (.slice ya ym yc)) from Box4.still HB10.out hb)
                  have HL11 := (show Hid (Lies (v11) (fun q => w.heap.size + 2 ≤ q ∧ q ≠ w1.heap.size) u (.slice ya ym yc)) from Lies.still HL10.out hb)
                  have HM11 := (show Hid (Lies (v11) (fun q => w.heap.size + 2 ≤ q ∧ q ≠ w1.heap.size) lamX (.slice (some ⟨v9.heap.size, 0, none⟩) 2 2)) from Lies.still HM10.out hb)
                  clear hb HA10 HB10 HL10 HM10
                  clear hHeld
                  refine hK.out _ _ trivial (fun hHeld => ?_)
                  clear hK K
                  try simp only [Act.put, List.setIfInBounds_toArray, List.set_cons_zero, List.set_cons_succ]
                  refine wpAnyH_ready (rs := [5]) (by kernel_rfl) (by simp) ?_
                  refine (AllReadyH.cons (o := oD12_8_5) rfl (fun K hK => ?_) AllReadyH.nil)
                  go_simp
                  have hb := bel_alloc v11 (.cells #[.string ⟨#[76, 97, 109]⟩, .string ByteArray.empty, .bool false, .slice (some ⟨v9.heap.size, 0, none⟩) 2 2, .string u.name, .string u.text, .bool u.leaf, .slice ya ym yc] 40)
                  have hg6 : w1.heap.size < v11.heap.size := HB11.out.lt
                  have HA12 := (show Hid (AtC cs a cap b off w st' (v11.alloc (.cells #[.string ⟨#[76, 97, 109]⟩, .string ByteArray.empty, .bool false, .slice (some ⟨v9.heap.size, 0, none⟩) 2 2, .string u.name, .string u.text, .bool u.leaf, .slice ya ym yc] 40))) from HA11.out.still hb)
                  have HB12 := (show Hid (Box4 (v11.alloc (.cells #[.string ⟨#[76, 97, 109]⟩, .string ByteArray.empty, .bool false, .slice (some ⟨v9.heap.size, 0, none⟩) 2 2, .string u.name, .string u.text, .bool u.leaf, .slice ya ym yc] 40)) w1.heap.size (.string u.name) (.string u.text) (.bool u.leaf) (.slice ya ym yc)) from Box4.still HB11.out hb)
                  have HL12 := (show Hid (Lies (v11.alloc (.cells #[.string ⟨#[76, 97, 109]⟩, .string ByteArray.empty, .bool false, .slice (some ⟨v9.heap.size, 0, none⟩) 2 2, .string u.name, .string u.text, .bool u.leaf, .slice ya ym yc] 40)) (fun q => w.heap.size + 2 ≤ q ∧ q ≠ w1.heap.size) (nd ⟨#[65, 100, 100]⟩ [lamX, u]) (.slice (some ⟨v11.heap.size, 0, none⟩) 2 2)) from lies_two v11 HM11.out HL11.out ⟨HA11.out.size, by omega⟩ ⟨#[65, 100, 100]⟩ (by decide))
                  clear hb HA11 HB11 HL11 HM11
                  clear hHeld
                  refine hK.out _ _ trivial (fun hHeld => ?_)
                  clear hK K
                  try simp only [Act.put, List.setIfInBounds_toArray, List.set_cons_zero, List.set_cons_succ]
                  generalize v11.alloc (.cells #[.string ⟨#[76, 97, 109]⟩, .string ByteArray.empty, .bool false, .slice (some ⟨v9.heap.size, 0, none⟩) 2 2, .string u.name, .string u.text, .bool u.leaf, .slice ya ym yc] 40) = W12 at *
                  refine wpAnyH_ready (rs := [6]) (by kernel_rfl) (by simp) ?_
                  refine (AllReadyH.cons (o := oD12_8_6) rfl (fun K hK => ?_) AllReadyH.nil)
                  go_simp
                  go_at_call 48
                  refine Calls.mono (nodeD_any _ _ _ _ _) ?_
                  rintro e v13 ⟨rfl, hb⟩
                  have HA13 := (show Hid (AtC cs a cap b off w st' (v13)) from HA12.out.still hb)
                  have HB13 := (show Hid (Box4 (v13) w1.heap.size (.string u.name) (.string u.text) (.bool u.leaf) (.slice ya ym yc)) from Box4.still HB12.out hb)
                  have HL13 := (show Hid (Lies v13 (fun q => w.heap.size + 2 ≤ q ∧ q ≠ w1.heap.size) (nd ⟨#[65, 100, 100]⟩ [lamX, u]) (.slice (some ⟨v11.heap.size, 0, none⟩) 2 2)) from Lies.still HL12.out hb)
                  clear hb HA12 HB12 HL12
                  clear hHeld
                  refine hK.out _ _ trivial (fun hHeld => ?_)
                  clear hK K
                  try simp only [Act.put, List.setIfInBounds_toArray, List.set_cons_zero, List.set_cons_succ]
                  refine wpAnyH_ready (rs := [7]) (by kernel_rfl) (by simp) ?_
                  refine (AllReadyH.cons (o := oD12_8_7) rfl (fun K hK => ?_) AllReadyH.nil)
                  obtain ⟨g0, g1, g2, g3⟩ := Box4.cells HB13.out
                  have f0 := Box4.frozen HB13.out 0
                  have f1 := Box4.frozen HB13.out 1
                  have f2 := Box4.frozen HB13.out 2
                  have f3 := Box4.frozen HB13.out 3
                  have HA14 := (show Hid (AtC cs a cap b off w st' _) from HA13.out.put4 hgt (.string ⟨#[65, 100, 100]⟩) (.string ByteArray.empty) (.bool false) (.slice (some ⟨v11.heap.size, 0, none⟩) 2 2))
                  have HB14 := (show Hid (Box4 _ w1.heap.size (.string ⟨#[65, 100, 100]⟩) (.string ByteArray.empty) (.bool false) (.slice (some ⟨v11.heap.size, 0, none⟩) 2 2)) from Box4.put4 HB13.out (.string ⟨#[65, 100, 100]⟩) (.string ByteArray.empty) (.bool false) (.slice (some ⟨v11.heap.size, 0, none⟩) 2 2))
                  have HL14 := (show Hid _ from lies_put4 HL13.out (.string ⟨#[65, 100, 100]⟩) (.string ByteArray.empty) (.bool false) (.slice (some ⟨v11.heap.size, 0, none⟩) 2 2))
                  clear HA13 HB13 HL13
                  go_simp
                  clear g0 g1 g2 g3 f0 f1 f2 f3
                  clear hHeld
                  refine hK.out _ _ trivial (fun hHeld => ?_)
                  clear hK K
                  try simp only [Act.put, List.setIfInBounds_toArray, List.set_cons_zero, List.set_cons_succ]
                  refine wpAnyH_done (by kernel_rfl) ?_ _
                  clear hHeld
                  go_wp2_with fail
                  refine Calls.mono (leafD_any _ _ _) ?_
                  rintro e u1 ⟨rfl, hb⟩
                  have HA15 := (show Hid (AtC cs a cap b off w st' u1) from HA14.out.still hb)
                  have HB15 := (show Hid (Box4 u1 w1.heap.size (.string ⟨#[65, 100, 100]⟩) (.string ByteArray.empty) (.bool false) (.slice (some ⟨v11.heap.size, 0, none⟩) 2 2)) from Box4.still HB14.out hb)
                  clear hb HA14 HB14 HL14
                  go_wp2_with fail
                  refine Calls.mono (leafD_any _ _ _) ?_
                  rintro e u2 ⟨rfl, hb⟩
                  have HA16 := (show Hid (AtC cs a cap b off w st' u2) from HA15.out.still hb)
                  have HB16 := (show Hid (Box4 u2 w1.heap.size (.string ⟨#[65, 100, 100]⟩) (.string ByteArray.empty) (.bool false) (.slice (some ⟨v11.heap.size, 0, none⟩) 2 2)) from Box4.still HB15.out hb)
                  clear hb HA15 HB15
                  have hb := bel_alloc u2 (.cells #[.string ⟨#[73, 100]⟩, .string ⟨#[120]⟩, .bool true, .slice none 0 0, .string ⟨#[78, 117, 109]⟩, .string ⟨#[50]⟩, .bool true, .slice none 0 0] 40)
                  have hg6 : w1.heap.size < u2.heap.size := HB16.out.lt
                  have HA17 := (show Hid (AtC cs a cap b off w st' (u2.alloc (.cells #[.string ⟨#[73, 100]⟩, .string ⟨#[120]⟩, .bool true, .slice none 0 0, .string ⟨#[78, 117, 109]⟩, .string ⟨#[50]⟩, .bool true, .slice none 0 0] 40))) from HA16.out.still hb)
                  have HB17 := (show Hid (Box4 (u2.alloc (.cells #[.string ⟨#[73, 100]⟩, .string ⟨#[120]⟩, .bool true, .slice none 0 0, .string ⟨#[78, 117, 109]⟩, .string ⟨#[50]⟩, .bool true, .slice none 0 0] 40)) w1.heap.size (.string ⟨#[65, 100, 100]⟩) (.string ByteArray.empty) (.bool false) (.slice (some ⟨v11.heap.size, 0, none⟩) 2 2)) from Box4.still HB16.out hb)
                  have HL17 := (show Hid (Lies (u2.alloc (.cells #[.string ⟨#[73, 100]⟩, .string ⟨#[120]⟩, .bool true, .slice none 0 0, .string ⟨#[78, 117, 109]⟩, .string ⟨#[50]⟩, .bool true, .slice none 0 0] 40)) (fun q => w.heap.size + 2 ≤ q ∧ q ≠ w1.heap.size) lam2 (.slice (some ⟨u2.heap.size, 0, none⟩) 2 2)) from lies_two u2 (t1 := xId) (t2 := lf ⟨#[78, 117, 109]⟩ ⟨#[50]⟩) (lies_nil _ _ _ _ _ (by decide) (by decide)) (lies_nil _ _ _ _ _ (by decide) (by decide)) ⟨HA16.out.size, by omega⟩ ⟨#[76, 97, 109]⟩ (by decide))
                  clear hb HA16 HB16
                  go_wp2_with fail
                  refine Calls.mono (nodeD_any _ _ _ _ _) ?_
                  rintro e u4 ⟨rfl, hb⟩
                  have HA18 := (show Hid (AtC cs a cap b off w st' u4) from HA17.out.still hb)
                  have HB18 := (show Hid (Box4 u4 w1.heap.size (.string ⟨#[65, 100, 100]⟩) (.string ByteArray.empty) (.bool false) (.slice (some ⟨v11.heap.size, 0, none⟩) 2 2)) from Box4.still HB17.out hb)
                  have HL18 := (show Hid (Lies u4 (fun q => w.heap.size + 2 ≤ q ∧ q ≠ w1.heap.size) lam2 (.slice (some ⟨u2.heap.size, 0, none⟩) 2 2)) from Lies.still HL17.out hb)
                  clear hb HA17 HB17 HL17
                  obtain ⟨g0, g1, g2, g3⟩ := Box4.cells HB18.out
                  have f0 := Box4.frozen HB18.out 0
                  have f1 := Box4.frozen HB18.out 1
                  have f2 := Box4.frozen HB18.out 2
                  have f3 := Box4.frozen HB18.out 3
                  have HA19 := (show Hid (AtC cs a cap b off w st' _) from HA18.out.put4 hgt (.string ⟨#[76, 97, 109]⟩) (.string ByteArray.empty) (.bool false) (.slice (some ⟨u2.heap.size, 0, none⟩) 2 2))
                  have HB19 := (show Hid (Box4 _ w1.heap.size (.string ⟨#[76, 97, 109]⟩) (.string ByteArray.empty) (.bool false) (.slice (some ⟨u2.heap.size, 0, none⟩) 2 2)) from Box4.put4 HB18.out (.string ⟨#[76, 97, 109]⟩) (.string ByteArray.empty) (.bool false) (.slice (some ⟨u2.heap.size, 0, none⟩) 2 2))
                  have HL19 := (show Hid _ from lies_put4 HL18.out (.string ⟨#[76, 97, 109]⟩) (.string ByteArray.empty) (.bool false) (.slice (some ⟨u2.heap.size, 0, none⟩) 2 2))
                  clear HA18 HB18 HL18
                  go_wp2_with fail
                  exact ⟨⟨n + 1, lam2, st', _, _, _, by go_num, by omega, by omega, HA19.out, HB19.out, HL19.out, by rw [show 63 - (n + 1) = 62 - n by omega]; exact HFF.out⟩, by simp [intOf]; omega⟩
              · skip
                obtain ⟨e0', e1', e2', e3'⟩ := Box4.cells HB9.out
                go_simp
                clear e0' e1' e2' e3'
                clear hHeld
                refine hK.out _ _ trivial (fun hHeld => ?_)
                clear hK K
                try simp only [Act.put, List.setIfInBounds_toArray, List.set_cons_zero, List.set_cons_succ]
                refine wpAnyH_ready (rs := [2]) (by kernel_rfl) (by simp) ?_
                refine (AllReadyH.cons (o := oD12_8_2) rfl (fun K hK => ?_) AllReadyH.nil)
                go_simp
                have hb := bel_alloc v9 (.cells #[.string ⟨#[73, 100]⟩, .string ⟨#[120]⟩, .bool true, .slice none 0 0, .string ⟨#[73, 100]⟩, .string ⟨#[120]⟩, .bool true, .slice none 0 0] 40)
                have hg6 : w1.heap.size < v9.heap.size := HB9.out.lt
                have HA10 := (show Hid (AtC cs a cap b off w st' (v9.alloc (.cells #[.string ⟨#[73, 100]⟩, .string ⟨#[120]⟩, .bool true, .slice none 0 0, .string ⟨#[73, 100]⟩, .string ⟨#[120]⟩, .bool true, .slice none 0 0] 40))) from HA9.out.still hb)
                have HB10 := (show Hid (Box4 (v9.alloc (.cells #[.string ⟨#[73, 100]⟩, .string ⟨#[120]⟩, .bool true, .slice none 0 0, .string ⟨#[73, 100]⟩, .string ⟨#[120]⟩, .bool true, .slice none 0 0] 40)) w1.heap.size (.string u.name) (.string u.text) (.bool u.leaf) (.slice ya ym yc)) from Box4.still HB9.out hb)
                have HL10 := (show Hid (Lies (v9.alloc (.cells #[.string ⟨#[73, 100]⟩, .string ⟨#[120]⟩, .bool true, .slice none 0 0, .string ⟨#[73, 100]⟩, .string ⟨#[120]⟩, .bool true, .slice none 0 0] 40)) (fun q => w.heap.size + 2 ≤ q ∧ q ≠ w1.heap.size) u (.slice ya ym yc)) from Lies.still HL9.out hb)
                have HM10 := (show Hid (Lies (v9.alloc (.cells #[.string ⟨#[73, 100]⟩, .string ⟨#[120]⟩, .bool true, .slice none 0 0, .string ⟨#[73, 100]⟩, .string ⟨#[120]⟩, .bool true, .slice none 0 0] 40)) (fun q => w.heap.size + 2 ≤ q ∧ q ≠ w1.heap.size) lamX (.slice (some ⟨v9.heap.size, 0, none⟩) 2 2)) from lies_two v9 (t1 := xId) (t2 := xId) (lies_nil _ _ _ _ _ (by decide) (by decide)) (lies_nil _ _ _ _ _ (by decide) (by decide)) ⟨HA9.out.size, by omega⟩ ⟨#[76, 97, 109]⟩ (by decide))
                clear hb HA9 HB9 HL9
                clear hHeld
                refine hK.out _ _ trivial (fun hHeld => ?_)
                clear hK K
                try simp only [Act.put, List.setIfInBounds_toArray, List.set_cons_zero, List.set_cons_succ]
                generalize v9.alloc (.cells #[.string ⟨#[73, 100]⟩, .string ⟨#[120]⟩, .bool true, .slice none 0 0, .string ⟨#[73, 100]⟩, .string ⟨#[120]⟩, .bool true, .slice none 0 0] 40) = W10 at *
                refine wpAnyH_ready (rs := [3]) (by kernel_rfl) (by simp) ?_
                refine (AllReadyH.cons (o := oD12_8_3) rfl (fun K hK => ?_) AllReadyH.nil)
                go_simp
                go_at_call 48
                refine Calls.mono (nodeD_any _ _ _ _ _) ?_
                rintro e v11 ⟨rfl, hb⟩
                have HA11 := (show Hid (AtC cs a cap b off w st' (v11)) from HA10.out.still hb)
                have HB11 := (show Hid (Box4 (v11) w1.heap.size (.string u.name) (.string u.text) (.bool u.leaf) (.slice ya ym yc)) from Box4.still HB10.out hb)
                have HL11 := (show Hid (Lies (v11) (fun q => w.heap.size + 2 ≤ q ∧ q ≠ w1.heap.size) u (.slice ya ym yc)) from Lies.still HL10.out hb)
                have HM11 := (show Hid (Lies (v11) (fun q => w.heap.size + 2 ≤ q ∧ q ≠ w1.heap.size) lamX (.slice (some ⟨v9.heap.size, 0, none⟩) 2 2)) from Lies.still HM10.out hb)
                clear hb HA10 HB10 HL10 HM10
                clear hHeld
                refine hK.out _ _ trivial (fun hHeld => ?_)
                clear hK K
                try simp only [Act.put, List.setIfInBounds_toArray, List.set_cons_zero, List.set_cons_succ]
                refine wpAnyH_ready (rs := [5]) (by kernel_rfl) (by simp) ?_
                refine (AllReadyH.cons (o := oD12_8_5) rfl (fun K hK => ?_) AllReadyH.nil)
                go_simp
                have hb := bel_alloc v11 (.cells #[.string ⟨#[76, 97, 109]⟩, .string ByteArray.empty, .bool false, .slice (some ⟨v9.heap.size, 0, none⟩) 2 2, .string u.name, .string u.text, .bool u.leaf, .slice ya ym yc] 40)
                have hg6 : w1.heap.size < v11.heap.size := HB11.out.lt
                have HA12 := (show Hid (AtC cs a cap b off w st' (v11.alloc (.cells #[.string ⟨#[76, 97, 109]⟩, .string ByteArray.empty, .bool false, .slice (some ⟨v9.heap.size, 0, none⟩) 2 2, .string u.name, .string u.text, .bool u.leaf, .slice ya ym yc] 40))) from HA11.out.still hb)
                have HB12 := (show Hid (Box4 (v11.alloc (.cells #[.string ⟨#[76, 97, 109]⟩, .string ByteArray.empty, .bool false, .slice (some ⟨v9.heap.size, 0, none⟩) 2 2, .string u.name, .string u.text, .bool u.leaf, .slice ya ym yc] 40)) w1.heap.size (.string u.name) (.string u.text) (.bool u.leaf) (.slice ya ym yc)) from Box4.still HB11.out hb)
                have HL12 := (show Hid (Lies (v11.alloc (.cells #[.string ⟨#[76, 97, 109]⟩, .string ByteArray.empty, .bool false, .slice (some ⟨v9.heap.size, 0, none⟩) 2 2, .string u.name, .string u.text, .bool u.leaf, .slice ya ym yc] 40)) (fun q => w.heap.size + 2 ≤ q ∧ q ≠ w1.heap.size) (nd ⟨#[65, 100, 100]⟩ [lamX, u]) (.slice (some ⟨v11.heap.size, 0, none⟩) 2 2)) from lies_two v11 HM11.out HL11.out ⟨HA11.out.size, by omega⟩ ⟨#[65, 100, 100]⟩ (by decide))
                clear hb HA11 HB11 HL11 HM11
                clear hHeld
                refine hK.out _ _ trivial (fun hHeld => ?_)
                clear hK K
                try simp only [Act.put, List.setIfInBounds_toArray, List.set_cons_zero, List.set_cons_succ]
                generalize v11.alloc (.cells #[.string ⟨#[76, 97, 109]⟩, .string ByteArray.empty, .bool false, .slice (some ⟨v9.heap.size, 0, none⟩) 2 2, .string u.name, .string u.text, .bool u.leaf, .slice ya ym yc] 40) = W12 at *
                refine wpAnyH_ready (rs := [6]) (by kernel_rfl) (by simp) ?_
                refine (AllReadyH.cons (o := oD12_8_6) rfl (fun K hK => ?_) AllReadyH.nil)
                go_simp
                go_at_call 48
                refine Calls.mono (nodeD_any _ _ _ _ _) ?_
                rintro e v13 ⟨rfl, hb⟩
                have HA13 := (show Hid (AtC cs a cap b off w st' (v13)) from HA12.out.still hb)
                have HB13 := (show Hid (Box4 (v13) w1.heap.size (.string u.name) (.string u.text) (.bool u.leaf) (.slice ya ym yc)) from Box4.still HB12.out hb)
                have HL13 := (show Hid (Lies v13 (fun q => w.heap.size + 2 ≤ q ∧ q ≠ w1.heap.size) (nd ⟨#[65, 100, 100]⟩ [lamX, u]) (.slice (some ⟨v11.heap.size, 0, none⟩) 2 2)) from Lies.still HL12.out hb)
                clear hb HA12 HB12 HL12
                clear hHeld
                refine hK.out _ _ trivial (fun hHeld => ?_)
                clear hK K
                try simp only [Act.put, List.setIfInBounds_toArray, List.set_cons_zero, List.set_cons_succ]
                refine wpAnyH_ready (rs := [7]) (by kernel_rfl) (by simp) ?_
                refine (AllReadyH.cons (o := oD12_8_7) rfl (fun K hK => ?_) AllReadyH.nil)
                obtain ⟨g0, g1, g2, g3⟩ := Box4.cells HB13.out
                have f0 := Box4.frozen HB13.out 0
                have f1 := Box4.frozen HB13.out 1
                have f2 := Box4.frozen HB13.out 2
                have f3 := Box4.frozen HB13.out 3
                have HA14 := (show Hid (AtC cs a cap b off w st' _) from HA13.out.put4 hgt (.string ⟨#[65, 100, 100]⟩) (.string ByteArray.empty) (.bool false) (.slice (some ⟨v11.heap.size, 0, none⟩) 2 2))
                have HB14 := (show Hid (Box4 _ w1.heap.size (.string ⟨#[65, 100, 100]⟩) (.string ByteArray.empty) (.bool false) (.slice (some ⟨v11.heap.size, 0, none⟩) 2 2)) from Box4.put4 HB13.out (.string ⟨#[65, 100, 100]⟩) (.string ByteArray.empty) (.bool false) (.slice (some ⟨v11.heap.size, 0, none⟩) 2 2))
                have HL14 := (show Hid _ from lies_put4 HL13.out (.string ⟨#[65, 100, 100]⟩) (.string ByteArray.empty) (.bool false) (.slice (some ⟨v11.heap.size, 0, none⟩) 2 2))
                clear HA13 HB13 HL13
                go_simp
                clear g0 g1 g2 g3 f0 f1 f2 f3
                clear hHeld
                refine hK.out _ _ trivial (fun hHeld => ?_)
                clear hK K
                try simp only [Act.put, List.setIfInBounds_toArray, List.set_cons_zero, List.set_cons_succ]
                refine wpAnyH_done (by kernel_rfl) ?_ _
                clear hHeld
                go_wp2_with fail
                refine Calls.mono (leafD_any _ _ _) ?_
                rintro e u1 ⟨rfl, hb⟩
                have HA15 := (show Hid (AtC cs a cap b off w st' u1) from HA14.out.still hb)
                have HB15 := (show Hid (Box4 u1 w1.heap.size (.string ⟨#[65, 100, 100]⟩) (.string ByteArray.empty) (.bool false) (.slice (some ⟨v11.heap.size, 0, none⟩) 2 2)) from Box4.still HB14.out hb)
                clear hb HA14 HB14 HL14
                go_wp2_with fail
                refine Calls.mono (leafD_any _ _ _) ?_
                rintro e u2 ⟨rfl, hb⟩
                have HA16 := (show Hid (AtC cs a cap b off w st' u2) from HA15.out.still hb)
                have HB16 := (show Hid (Box4 u2 w1.heap.size (.string ⟨#[65, 100, 100]⟩) (.string ByteArray.empty) (.bool false) (.slice (some ⟨v11.heap.size, 0, none⟩) 2 2)) from Box4.still HB15.out hb)
                clear hb HA15 HB15
                have hb := bel_alloc u2 (.cells #[.string ⟨#[73, 100]⟩, .string ⟨#[120]⟩, .bool true, .slice none 0 0, .string ⟨#[78, 117, 109]⟩, .string ⟨#[50]⟩, .bool true, .slice none 0 0] 40)
                have hg6 : w1.heap.size < u2.heap.size := HB16.out.lt
                have HA17 := (show Hid (AtC cs a cap b off w st' (u2.alloc (.cells #[.string ⟨#[73, 100]⟩, .string ⟨#[120]⟩, .bool true, .slice none 0 0, .string ⟨#[78, 117, 109]⟩, .string ⟨#[50]⟩, .bool true, .slice none 0 0] 40))) from HA16.out.still hb)
                have HB17 := (show Hid (Box4 (u2.alloc (.cells #[.string ⟨#[73, 100]⟩, .string ⟨#[120]⟩, .bool true, .slice none 0 0, .string ⟨#[78, 117, 109]⟩, .string ⟨#[50]⟩, .bool true, .slice none 0 0] 40)) w1.heap.size (.string ⟨#[65, 100, 100]⟩) (.string ByteArray.empty) (.bool false) (.slice (some ⟨v11.heap.size, 0, none⟩) 2 2)) from Box4.still HB16.out hb)
                have HL17 := (show Hid (Lies (u2.alloc (.cells #[.string ⟨#[73, 100]⟩, .string ⟨#[120]⟩, .bool true, .slice none 0 0, .string ⟨#[78, 117, 109]⟩, .string ⟨#[50]⟩, .bool true, .slice none 0 0] 40)) (fun q => w.heap.size + 2 ≤ q ∧ q ≠ w1.heap.size) lam2 (.slice (some ⟨u2.heap.size, 0, none⟩) 2 2)) from lies_two u2 (t1 := xId) (t2 := lf ⟨#[78, 117, 109]⟩ ⟨#[50]⟩) (lies_nil _ _ _ _ _ (by decide) (by decide)) (lies_nil _ _ _ _ _ (by decide) (by decide)) ⟨HA16.out.size, by omega⟩ ⟨#[76, 97, 109]⟩ (by decide))
                clear hb HA16 HB16
                go_wp2_with fail
                refine Calls.mono (nodeD_any _ _ _ _ _) ?_
                rintro e u4 ⟨rfl, hb⟩
                have HA18 := (show Hid (AtC cs a cap b off w st' u4) from HA17.out.still hb)
                have HB18 := (show Hid (Box4 u4 w1.heap.size (.string ⟨#[65, 100, 100]⟩) (.string ByteArray.empty) (.bool false) (.slice (some ⟨v11.heap.size, 0, none⟩) 2 2)) from Box4.still HB17.out hb)
                have HL18 := (show Hid (Lies u4 (fun q => w.heap.size + 2 ≤ q ∧ q ≠ w1.heap.size) lam2 (.slice (some ⟨u2.heap.size, 0, none⟩) 2 2)) from Lies.still HL17.out hb)
                clear hb HA17 HB17 HL17
                obtain ⟨g0, g1, g2, g3⟩ := Box4.cells HB18.out
                have f0 := Box4.frozen HB18.out 0
                have f1 := Box4.frozen HB18.out 1
                have f2 := Box4.frozen HB18.out 2
                have f3 := Box4.frozen HB18.out 3
                have HA19 := (show Hid (AtC cs a cap b off w st' _) from HA18.out.put4 hgt (.string ⟨#[76, 97, 109]⟩) (.string ByteArray.empty) (.bool false) (.slice (some ⟨u2.heap.size, 0, none⟩) 2 2))
                have HB19 := (show Hid (Box4 _ w1.heap.size (.string ⟨#[76, 97, 109]⟩) (.string ByteArray.empty) (.bool false) (.slice (some ⟨u2.heap.size, 0, none⟩) 2 2)) from Box4.put4 HB18.out (.string ⟨#[76, 97, 109]⟩) (.string ByteArray.empty) (.bool false) (.slice (some ⟨u2.heap.size, 0, none⟩) 2 2))
                have HL19 := (show Hid _ from lies_put4 HL18.out (.string ⟨#[76, 97, 109]⟩) (.string ByteArray.empty) (.bool false) (.slice (some ⟨u2.heap.size, 0, none⟩) 2 2))
                clear HA18 HB18 HL18
                go_wp2_with fail
                exact ⟨⟨n + 1, lam2, st', _, _, _, by go_num, by omega, by omega, HA19.out, HB19.out, HL19.out, by rw [show 63 - (n + 1) = 62 - n by omega]; exact HFF.out⟩, by simp [intOf]; omega⟩
            · skip
              obtain ⟨e0', e1', e2', e3'⟩ := Box4.cells HB8.out
              go_simp
              clear e0' e1' e2' e3'
              clear hHeld
              refine hK.out _ _ trivial (fun hHeld => ?_)
              clear hK K
              try simp only [Act.put, List.setIfInBounds_toArray, List.set_cons_zero, List.set_cons_succ]
              refine wpAnyH_ready (rs := [1]) (by kernel_rfl) (by simp) ?_
              refine (AllReadyH.cons (o := oD12_8_1) rfl (fun K hK => ?_) AllReadyH.nil)
              go_simp
              go_at_call 47
              refine Calls.mono (leafD_any _ _ _) ?_
              rintro e v9 ⟨rfl, hb⟩
              have HA9 := (show Hid (AtC cs a cap b off w st' (v9)) from HA8.out.still hb)
              have HB9 := (show Hid (Box4 (v9) w1.heap.size (.string u.name) (.string u.text) (.bool u.leaf) (.slice ya ym yc)) from Box4.still HB8.out hb)
              have HL9 := (show Hid (Lies (v9) (fun q => w.heap.size + 2 ≤ q ∧ q ≠ w1.heap.size) u (.slice ya ym yc)) from Lies.still HL8.out hb)
              clear hb HA8 HB8 HL8
              clear hHeld
              refine hK.out _ _ trivial (fun hHeld => ?_)
              clear hK K
              try simp only [Act.put, List.setIfInBounds_toArray, List.set_cons_zero, List.set_cons_succ]
              refine wpAnyH_ready (rs := [2]) (by kernel_rfl) (by simp) ?_
              refine (AllReadyH.cons (o := oD12_8_2) rfl (fun K hK => ?_) AllReadyH.nil)
              go_simp
              have hb := bel_alloc v9 (.cells #[.string ⟨#[73, 100]⟩, .string ⟨#[120]⟩, .bool true, .slice none 0 0, .string ⟨#[73, 100]⟩, .string ⟨#[120]⟩, .bool true, .slice none 0 0] 40)
              have hg6 : w1.heap.size < v9.heap.size := HB9.out.lt
              have HA10 := (show Hid (AtC cs a cap b off w st' (v9.alloc (.cells #[.string ⟨#[73, 100]⟩, .string ⟨#[120]⟩, .bool true, .slice none 0 0, .string ⟨#[73, 100]⟩, .string ⟨#[120]⟩, .bool true, .slice none 0 0] 40))) from HA9.out.still hb)
              have HB10 := (show Hid (Box4 (v9.alloc (.cells #[.string ⟨#[73, 100]⟩, .string ⟨#[120]⟩, .bool true, .slice none 0 0, .string ⟨#[73, 100]⟩, .string ⟨#[120]⟩, .bool true, .slice none 0 0] 40)) w1.heap.size (.string u.name) (.string u.text) (.bool u.leaf) (.slice ya ym yc)) from Box4.still HB9.out hb)
              have HL10 := (show Hid (Lies (v9.alloc (.cells #[.string ⟨#[73, 100]⟩, .string ⟨#[120]⟩, .bool true, .slice none 0 0, .string ⟨#[73, 100]⟩, .string ⟨#[120]⟩, .bool true, .slice none 0 0] 40)) (fun q => w.heap.size + 2 ≤ q ∧ q ≠ w1.heap.size) u (.slice ya ym yc)) from Lies.still HL9.out hb)
              have HM10 := (show Hid (Lies (v9.alloc (.cells #[.string ⟨#[73, 100]⟩, .string ⟨#[120]⟩, .bool true, .slice none 0 0, .string ⟨#[73, 100]⟩, .string ⟨#[120]⟩, .bool true, .slice none 0 0] 40)) (fun q => w.heap.size + 2 ≤ q ∧ q ≠ w1.heap.size) lamX (.slice (some ⟨v9.heap.size, 0, none⟩) 2 2)) from lies_two v9 (t1 := xId) (t2 := xId) (lies_nil _ _ _ _ _ (by decide) (by decide)) (lies_nil _ _ _ _ _ (by decide) (by decide)) ⟨HA9.out.size, by omega⟩ ⟨#[76, 97, 109]⟩ (by decide))
              clear hb HA9 HB9 HL9
              clear hHeld
              refine hK.out _ _ trivial (fun hHeld => ?_)
              clear hK K
              try simp only [Act.put, List.setIfInBounds_toArray, List.set_cons_zero, List.set_cons_succ]
              generalize v9.alloc (.cells #[.string ⟨#[73, 100]⟩, .string ⟨#[120]⟩, .bool true, .slice none 0 0, .string ⟨#[73, 100]⟩, .string ⟨#[120]⟩, .bool true, .slice none 0 0] 40) = W10 at *
              refine wpAnyH_ready (rs := [3]) (by kernel_rfl) (by simp) ?_
              refine (AllReadyH.cons (o := oD12_8_3) rfl (fun K hK => ?_) AllReadyH.nil)
              go_simp
              go_at_call 48
              refine Calls.mono (nodeD_any _ _ _ _ _) ?_
              rintro e v11 ⟨rfl, hb⟩
              have HA11 := (show Hid (AtC cs a cap b off w st' (v11)) from HA10.out.still hb)
              have HB11 := (show Hid (Box4 (v11) w1.heap.size (.string u.name) (.string u.text) (.bool u.leaf) (.slice ya ym yc)) from Box4.still HB10.out hb)
              have HL11 := (show Hid (Lies (v11) (fun q => w.heap.size + 2 ≤ q ∧ q ≠ w1.heap.size) u (.slice ya ym yc)) from Lies.still HL10.out hb)
              have HM11 := (show Hid (Lies (v11) (fun q => w.heap.size + 2 ≤ q ∧ q ≠ w1.heap.size) lamX (.slice (some ⟨v9.heap.size, 0, none⟩) 2 2)) from Lies.still HM10.out hb)
              clear hb HA10 HB10 HL10 HM10
              clear hHeld
              refine hK.out _ _ trivial (fun hHeld => ?_)
              clear hK K
              try simp only [Act.put, List.setIfInBounds_toArray, List.set_cons_zero, List.set_cons_succ]
              refine wpAnyH_ready (rs := [5]) (by kernel_rfl) (by simp) ?_
              refine (AllReadyH.cons (o := oD12_8_5) rfl (fun K hK => ?_) AllReadyH.nil)
              go_simp
              have hb := bel_alloc v11 (.cells #[.string ⟨#[76, 97, 109]⟩, .string ByteArray.empty, .bool false, .slice (some ⟨v9.heap.size, 0, none⟩) 2 2, .string u.name, .string u.text, .bool u.leaf, .slice ya ym yc] 40)
              have hg6 : w1.heap.size < v11.heap.size := HB11.out.lt
              have HA12 := (show Hid (AtC cs a cap b off w st' (v11.alloc (.cells #[.string ⟨#[76, 97, 109]⟩, .string ByteArray.empty, .bool false, .slice (some ⟨v9.heap.size, 0, none⟩) 2 2, .string u.name, .string u.text, .bool u.leaf, .slice ya ym yc] 40))) from HA11.out.still hb)
              have HB12 := (show Hid (Box4 (v11.alloc (.cells #[.string ⟨#[76, 97, 109]⟩, .string ByteArray.empty, .bool false, .slice (some ⟨v9.heap.size, 0, none⟩) 2 2, .string u.name, .string u.text, .bool u.leaf, .slice ya ym yc] 40)) w1.heap.size (.string u.name) (.string u.text) (.bool u.leaf) (.slice ya ym yc)) from Box4.still HB11.out hb)
              have HL12 := (show Hid (Lies (v11.alloc (.cells #[.string ⟨#[76, 97, 109]⟩, .string ByteArray.empty, .bool false, .slice (some ⟨v9.heap.size, 0, none⟩) 2 2, .string u.name, .string u.text, .bool u.leaf, .slice ya ym yc] 40)) (fun q => w.heap.size + 2 ≤ q ∧ q ≠ w1.heap.size) (nd ⟨#[65, 100, 100]⟩ [lamX, u]) (.slice (some ⟨v11.heap.size, 0, none⟩) 2 2)) from lies_two v11 HM11.out HL11.out ⟨HA11.out.size, by omega⟩ ⟨#[65, 100, 100]⟩ (by decide))
              clear hb HA11 HB11 HL11 HM11
              clear hHeld
              refine hK.out _ _ trivial (fun hHeld => ?_)
              clear hK K
              try simp only [Act.put, List.setIfInBounds_toArray, List.set_cons_zero, List.set_cons_succ]
              generalize v11.alloc (.cells #[.string ⟨#[76, 97, 109]⟩, .string ByteArray.empty, .bool false, .slice (some ⟨v9.heap.size, 0, none⟩) 2 2, .string u.name, .string u.text, .bool u.leaf, .slice ya ym yc] 40) = W12 at *
              refine wpAnyH_ready (rs := [6]) (by kernel_rfl) (by simp) ?_
              refine (AllReadyH.cons (o := oD12_8_6) rfl (fun K hK => ?_) AllReadyH.nil)
              go_simp
              go_at_call 48
              refine Calls.mono (nodeD_any _ _ _ _ _) ?_
              rintro e v13 ⟨rfl, hb⟩
              have HA13 := (show Hid (AtC cs a cap b off w st' (v13)) from HA12.out.still hb)
              have HB13 := (show Hid (Box4 (v13) w1.heap.size (.string u.name) (.string u.text) (.bool u.leaf) (.slice ya ym yc)) from Box4.still HB12.out hb)
              have HL13 := (show Hid (Lies v13 (fun q => w.heap.size + 2 ≤ q ∧ q ≠ w1.heap.size) (nd ⟨#[65, 100, 100]⟩ [lamX, u]) (.slice (some ⟨v11.heap.size, 0, none⟩) 2 2)) from Lies.still HL12.out hb)
              clear hb HA12 HB12 HL12
              clear hHeld
              refine hK.out _ _ trivial (fun hHeld => ?_)
              clear hK K
              try simp only [Act.put, List.setIfInBounds_toArray, List.set_cons_zero, List.set_cons_succ]
              refine wpAnyH_ready (rs := [7]) (by kernel_rfl) (by simp) ?_
              refine (AllReadyH.cons (o := oD12_8_7) rfl (fun K hK => ?_) AllReadyH.nil)
              obtain ⟨g0, g1, g2, g3⟩ := Box4.cells HB13.out
              have f0 := Box4.frozen HB13.out 0
              have f1 := Box4.frozen HB13.out 1
              have f2 := Box4.frozen HB13.out 2
              have f3 := Box4.frozen HB13.out 3
              have HA14 := (show Hid (AtC cs a cap b off w st' _) from HA13.out.put4 hgt (.string ⟨#[65, 100, 100]⟩) (.string ByteArray.empty) (.bool false) (.slice (some ⟨v11.heap.size, 0, none⟩) 2 2))
              have HB14 := (show Hid (Box4 _ w1.heap.size (.string ⟨#[65, 100, 100]⟩) (.string ByteArray.empty) (.bool false) (.slice (some ⟨v11.heap.size, 0, none⟩) 2 2)) from Box4.put4 HB13.out (.string ⟨#[65, 100, 100]⟩) (.string ByteArray.empty) (.bool false) (.slice (some ⟨v11.heap.size, 0, none⟩) 2 2))
              have HL14 := (show Hid _ from lies_put4 HL13.out (.string ⟨#[65, 100, 100]⟩) (.string ByteArray.empty) (.bool false) (.slice (some ⟨v11.heap.size, 0, none⟩) 2 2))
              clear HA13 HB13 HL13
              go_simp
              clear g0 g1 g2 g3 f0 f1 f2 f3
              clear hHeld
              refine hK.out _ _ trivial (fun hHeld => ?_)
              clear hK K
              try simp only [Act.put, List.setIfInBounds_toArray, List.set_cons_zero, List.set_cons_succ]
              refine wpAnyH_done (by kernel_rfl) ?_ _
              clear hHeld
              go_wp2_with fail
              refine Calls.mono (leafD_any _ _ _) ?_
              rintro e u1 ⟨rfl, hb⟩
              have HA15 := (show Hid (AtC cs a cap b off w st' u1) from HA14.out.still hb)
              have HB15 := (show Hid (Box4 u1 w1.heap.size (.string ⟨#[65, 100, 100]⟩) (.string ByteArray.empty) (.bool false) (.slice (some ⟨v11.heap.size, 0, none⟩) 2 2)) from Box4.still HB14.out hb)
              clear hb HA14 HB14 HL14
              go_wp2_with fail
              refine Calls.mono (leafD_any _ _ _) ?_
              rintro e u2 ⟨rfl, hb⟩
              have HA16 := (show Hid (AtC cs a cap b off w st' u2) from HA15.out.still hb)
              have HB16 := (show Hid (Box4 u2 w1.heap.size (.string ⟨#[65, 100, 100]⟩) (.string ByteArray.empty) (.bool false) (.slice (some ⟨v11.heap.size, 0, none⟩) 2 2)) from Box4.still HB15.out hb)
              clear hb HA15 HB15
              have hb := bel_alloc u2 (.cells #[.string ⟨#[73, 100]⟩, .string ⟨#[120]⟩, .bool true, .slice none 0 0, .string ⟨#[78, 117, 109]⟩, .string ⟨#[50]⟩, .bool true, .slice none 0 0] 40)
              have hg6 : w1.heap.size < u2.heap.size := HB16.out.lt
              have HA17 := (show Hid (AtC cs a cap b off w st' (u2.alloc (.cells #[.string ⟨#[73, 100]⟩, .string ⟨#[120]⟩, .bool true, .slice none 0 0, .string ⟨#[78, 117, 109]⟩, .string ⟨#[50]⟩, .bool true, .slice none 0 0] 40))) from HA16.out.still hb)
              have HB17 := (show Hid (Box4 (u2.alloc (.cells #[.string ⟨#[73, 100]⟩, .string ⟨#[120]⟩, .bool true, .slice none 0 0, .string ⟨#[78, 117, 109]⟩, .string ⟨#[50]⟩, .bool true, .slice none 0 0] 40)) w1.heap.size (.string ⟨#[65, 100, 100]⟩) (.string ByteArray.empty) (.bool false) (.slice (some ⟨v11.heap.size, 0, none⟩) 2 2)) from Box4.still HB16.out hb)
              have HL17 := (show Hid (Lies (u2.alloc (.cells #[.string ⟨#[73, 100]⟩, .string ⟨#[120]⟩, .bool true, .slice none 0 0, .string ⟨#[78, 117, 109]⟩, .string ⟨#[50]⟩, .bool true, .slice none 0 0] 40)) (fun q => w.heap.size + 2 ≤ q ∧ q ≠ w1.heap.size) lam2 (.slice (some ⟨u2.heap.size, 0, none⟩) 2 2)) from lies_two u2 (t1 := xId) (t2 := lf ⟨#[78, 117, 109]⟩ ⟨#[50]⟩) (lies_nil _ _ _ _ _ (by decide) (by decide)) (lies_nil _ _ _ _ _ (by decide) (by decide)) ⟨HA16.out.size, by omega⟩ ⟨#[76, 97, 109]⟩ (by decide))
              clear hb HA16 HB16
              go_wp2_with fail
              refine Calls.mono (nodeD_any _ _ _ _ _) ?_
              rintro e u4 ⟨rfl, hb⟩
              have HA18 := (show Hid (AtC cs a cap b off w st' u4) from HA17.out.still hb)
              have HB18 := (show Hid (Box4 u4 w1.heap.size (.string ⟨#[65, 100, 100]⟩) (.string ByteArray.empty) (.bool false) (.slice (some ⟨v11.heap.size, 0, none⟩) 2 2)) from Box4.still HB17.out hb)
              have HL18 := (show Hid (Lies u4 (fun q => w.heap.size + 2 ≤ q ∧ q ≠ w1.heap.size) lam2 (.slice (some ⟨u2.heap.size, 0, none⟩) 2 2)) from Lies.still HL17.out hb)
              clear hb HA17 HB17 HL17
              obtain ⟨g0, g1, g2, g3⟩ := Box4.cells HB18.out
              have f0 := Box4.frozen HB18.out 0
              have f1 := Box4.frozen HB18.out 1
              have f2 := Box4.frozen HB18.out 2
              have f3 := Box4.frozen HB18.out 3
              have HA19 := (show Hid (AtC cs a cap b off w st' _) from HA18.out.put4 hgt (.string ⟨#[76, 97, 109]⟩) (.string ByteArray.empty) (.bool false) (.slice (some ⟨u2.heap.size, 0, none⟩) 2 2))
              have HB19 := (show Hid (Box4 _ w1.heap.size (.string ⟨#[76, 97, 109]⟩) (.string ByteArray.empty) (.bool false) (.slice (some ⟨u2.heap.size, 0, none⟩) 2 2)) from Box4.put4 HB18.out (.string ⟨#[76, 97, 109]⟩) (.string ByteArray.empty) (.bool false) (.slice (some ⟨u2.heap.size, 0, none⟩) 2 2))
              have HL19 := (show Hid _ from lies_put4 HL18.out (.string ⟨#[76, 97, 109]⟩) (.string ByteArray.empty) (.bool false) (.slice (some ⟨u2.heap.size, 0, none⟩) 2 2))
              clear HA18 HB18 HL18
              go_wp2_with fail
              exact ⟨⟨n + 1, lam2, st', _, _, _, by go_num, by omega, by omega, HA19.out, HB19.out, HL19.out, by rw [show 63 - (n + 1) = 62 - n by omega]; exact HFF.out⟩, by simp [intOf]; omega⟩
          · skip
            obtain ⟨e0', e1', e2', e3'⟩ := Box4.cells HB7.out
            go_simp
            clear e0' e1' e2' e3'
            clear hHeld
            refine hK.out _ _ trivial (fun hHeld => ?_)
            clear hK K
            try simp only [Act.put, List.setIfInBounds_toArray, List.set_cons_zero, List.set_cons_succ]
            refine wpAnyH_ready (rs := [0]) (by kernel_rfl) (by simp) ?_
            refine (AllReadyH.cons (o := oD12_8_0) rfl (fun K hK => ?_) AllReadyH.nil)
            go_simp
            go_at_call 47
            refine Calls.mono (leafD_any _ _ _) ?_
            rintro e v8 ⟨rfl, hb⟩
            have HA8 := (show Hid (AtC cs a cap b off w st' (v8)) from HA7.out.still hb)
            have HB8 := (show Hid (Box4 (v8) w1.heap.size (.string u.name) (.string u.text) (.bool u.leaf) (.slice ya ym yc)) from Box4.still HB7.out hb)
            have HL8 := (show Hid (Lies (v8) (fun q => w.heap.size + 2 ≤ q ∧ q ≠ w1.heap.size) u (.slice ya ym yc)) from Lies.still HL7.out hb)
            clear hb HA7 HB7 HL7
            clear hHeld
            refine hK.out _ _ trivial (fun hHeld => ?_)
            clear hK K
            try simp only [Act.put, List.setIfInBounds_toArray, List.set_cons_zero, List.set_cons_succ]
            refine wpAnyH_ready (rs := [1]) (by kernel_rfl) (by simp) ?_
            refine (AllReadyH.cons (o := oD12_8_1) rfl (fun K hK => ?_) AllReadyH.nil)
            go_simp
            go_at_call 47
            refine Calls.mono (leafD_any _ _ _) ?_
            rintro e v9 ⟨rfl, hb⟩
            have HA9 := (show Hid (AtC cs a cap b off w st' (v9)) from HA8.out.still hb)
            have HB9 := (show Hid (Box4 (v9) w1.heap.size (.string u.name) (.string u.text) (.bool u.leaf) (.slice ya ym yc)) from Box4.still HB8.out hb)
            have HL9 := (show Hid (Lies (v9) (fun q => w.heap.size + 2 ≤ q ∧ q ≠ w1.heap.size) u (.slice ya ym yc)) from Lies.still HL8.out hb)
            clear hb HA8 HB8 HL8
            clear hHeld
            refine hK.out _ _ trivial (fun hHeld => ?_)
            clear hK K
            try simp only [Act.put, List.setIfInBounds_toArray, List.set_cons_zero, List.set_cons_succ]
            refine wpAnyH_ready (rs := [2]) (by kernel_rfl) (by simp) ?_
            refine (AllReadyH.cons (o := oD12_8_2) rfl (fun K hK => ?_) AllReadyH.nil)
            go_simp
            have hb := bel_alloc v9 (.cells #[.string ⟨#[73, 100]⟩, .string ⟨#[120]⟩, .bool true, .slice none 0 0, .string ⟨#[73, 100]⟩, .string ⟨#[120]⟩, .bool true, .slice none 0 0] 40)
            have hg6 : w1.heap.size < v9.heap.size := HB9.out.lt
            have HA10 := (show Hid (AtC cs a cap b off w st' (v9.alloc (.cells #[.string ⟨#[73, 100]⟩, .string ⟨#[120]⟩, .bool true, .slice none 0 0, .string ⟨#[73, 100]⟩, .string ⟨#[120]⟩, .bool true, .slice none 0 0] 40))) from HA9.out.still hb)
            have HB10 := (show Hid (Box4 (v9.alloc (.cells #[.string ⟨#[73, 100]⟩, .string ⟨#[120]⟩, .bool true, .slice none 0 0, .string ⟨#[73, 100]⟩, .string ⟨#[120]⟩, .bool true, .slice none 0 0] 40)) w1.heap.size (.string u.name) (.string u.text) (.bool u.leaf) (.slice ya ym yc)) from Box4.still HB9.out hb)
            have HL10 := (show Hid (Lies (v9.alloc (.cells #[.string ⟨#[73, 100]⟩, .string ⟨#[120]⟩, .bool true, .slice none 0 0, .string ⟨#[73, 100]⟩, .string ⟨#[120]⟩, .bool true, .slice none 0 0] 40)) (fun q => w.heap.size + 2 ≤ q ∧ q ≠ w1.heap.size) u (.slice ya ym yc)) from Lies.still HL9.out hb)
            have HM10 := (show Hid (Lies (v9.alloc (.cells #[.string ⟨#[73, 100]⟩, .string ⟨#[120]⟩, .bool true, .slice none 0 0, .string ⟨#[73, 100]⟩, .string ⟨#[120]⟩, .bool true, .slice none 0 0] 40)) (fun q => w.heap.size + 2 ≤ q ∧ q ≠ w1.heap.size) lamX (.slice (some ⟨v9.heap.size, 0, none⟩) 2 2)) from lies_two v9 (t1 := xId) (t2 := xId) (lies_nil _ _ _ _ _ (by decide) (by decide)) (lies_nil _ _ _ _ _ (by decide) (by decide)) ⟨HA9.out.size, by omega⟩ ⟨#[76, 97, 109]⟩ (by decide))
            clear hb HA9 HB9 HL9
            clear hHeld
            refine hK.out _ _ trivial (fun hHeld => ?_)
            clear hK K
            try simp only [Act.put, List.setIfInBounds_toArray, List.set_cons_zero, List.set_cons_succ]
            generalize v9.alloc (.cells #[.string ⟨#[73, 100]⟩, .string ⟨#[120]⟩, .bool true, .slice none 0 0, .string ⟨#[73, 100]⟩, .string ⟨#[120]⟩, .bool true, .slice none 0 0] 40) = W10 at *
            refine wpAnyH_ready (rs := [3]) (by kernel_rfl) (by simp) ?_
            refine (AllReadyH.cons (o := oD12_8_3) rfl (fun K hK => ?_) AllReadyH.nil)
            go_simp
            go_at_call 48
            refine Calls.mono (nodeD_any _ _ _ _ _) ?_
            rintro e v11 ⟨rfl, hb⟩
            have HA11 := (show Hid (AtC cs a cap b off w st' (v11)) from HA10.out.still hb)
            have HB11 := (show Hid (Box4 (v11) w1.heap.size (.string u.name) (.string u.text) (.bool u.leaf) (.slice ya ym yc)) from Box4.still HB10.out hb)
            have HL11 := (show Hid (Lies (v11) (fun q => w.heap.size + 2 ≤ q ∧ q ≠ w1.heap.size) u (.slice ya ym yc)) from Lies.still HL10.out hb)
            have HM11 := (show Hid (Lies (v11) (fun q => w.heap.size + 2 ≤ q ∧ q ≠ w1.heap.size) lamX (.slice (some ⟨v9.heap.size, 0, none⟩) 2 2)) from Lies.still HM10.out hb)
            clear hb HA10 HB10 HL10 HM10
            clear hHeld
            refine hK.out _ _ trivial (fun hHeld => ?_)
            clear hK K
            try simp only [Act.put, List.setIfInBounds_toArray, List.set_cons_zero, List.set_cons_succ]
            refine wpAnyH_ready (rs := [5]) (by kernel_rfl) (by simp) ?_
            refine (AllReadyH.cons (o := oD12_8_5) rfl (fun K hK => ?_) AllReadyH.nil)
            go_simp
            have hb := bel_alloc v11 (.cells #[.string ⟨#[76, 97, 109]⟩, .string ByteArray.empty, .bool false, .slice (some ⟨v9.heap.size, 0, none⟩) 2 2, .string u.name, .string u.text, .bool u.leaf, .slice ya ym yc] 40)
            have hg6 : w1.heap.size < v11.heap.size := HB11.out.lt
            have HA12 := (show Hid (AtC cs a cap b off w st' (v11.alloc (.cells #[.string ⟨#[76, 97, 109]⟩, .string ByteArray.empty, .bool false, .slice (some ⟨v9.heap.size, 0, none⟩) 2 2, .string u.name, .string u.text, .bool u.leaf, .slice ya ym yc] 40))) from HA11.out.still hb)
            have HB12 := (show Hid (Box4 (v11.alloc (.cells #[.string ⟨#[76, 97, 109]⟩, .string ByteArray.empty, .bool false, .slice (some ⟨v9.heap.size, 0, none⟩) 2 2, .string u.name, .string u.text, .bool u.leaf, .slice ya ym yc] 40)) w1.heap.size (.string u.name) (.string u.text) (.bool u.leaf) (.slice ya ym yc)) from Box4.still HB11.out hb)
            have HL12 := (show Hid (Lies (v11.alloc (.cells #[.string ⟨#[76, 97, 109]⟩, .string ByteArray.empty, .bool false, .slice (some ⟨v9.heap.size, 0, none⟩) 2 2, .string u.name, .string u.text, .bool u.leaf, .slice ya ym yc] 40)) (fun q => w.heap.size + 2 ≤ q ∧ q ≠ w1.heap.size) (nd ⟨#[65, 100, 100]⟩ [lamX, u]) (.slice (some ⟨v11.heap.size, 0, none⟩) 2 2)) from lies_two v11 HM11.out HL11.out ⟨HA11.out.size, by omega⟩ ⟨#[65, 100, 100]⟩ (by decide))
            clear hb HA11 HB11 HL11 HM11
            clear hHeld
            refine hK.out _ _ trivial (fun hHeld => ?_)
            clear hK K
            try simp only [Act.put, List.setIfInBounds_toArray, List.set_cons_zero, List.set_cons_succ]
            generalize v11.alloc (.cells #[.string ⟨#[76, 97, 109]⟩, .string ByteArray.empty, .bool false, .slice (some ⟨v9.heap.size, 0, none⟩) 2 2, .string u.name, .string u.text, .bool u.leaf, .slice ya ym yc] 40) = W12 at *
            refine wpAnyH_ready (rs := [6]) (by kernel_rfl) (by simp) ?_
            refine (AllReadyH.cons (o := oD12_8_6) rfl (fun K hK => ?_) AllReadyH.nil)
            go_simp
            go_at_call 48
            refine Calls.mono (nodeD_any _ _ _ _ _) ?_
            rintro e v13 ⟨rfl, hb⟩
            have HA13 := (show Hid (AtC cs a cap b off w st' (v13)) from HA12.out.still hb)
            have HB13 := (show Hid (Box4 (v13) w1.heap.size (.string u.name) (.string u.text) (.bool u.leaf) (.slice ya ym yc)) from Box4.still HB12.out hb)
            have HL13 := (show Hid (Lies v13 (fun q => w.heap.size + 2 ≤ q ∧ q ≠ w1.heap.size) (nd ⟨#[65, 100, 100]⟩ [lamX, u]) (.slice (some ⟨v11.heap.size, 0, none⟩) 2 2)) from Lies.still HL12.out hb)
            clear hb HA12 HB12 HL12
            clear hHeld
            refine hK.out _ _ trivial (fun hHeld => ?_)
            clear hK K
            try simp only [Act.put, List.setIfInBounds_toArray, List.set_cons_zero, List.set_cons_succ]
            refine wpAnyH_ready (rs := [7]) (by kernel_rfl) (by simp) ?_
            refine (AllReadyH.cons (o := oD12_8_7) rfl (fun K hK => ?_) AllReadyH.nil)
            obtain ⟨g0, g1, g2, g3⟩ := Box4.cells HB13.out
            have f0 := Box4.frozen HB13.out 0
            have f1 := Box4.frozen HB13.out 1
            have f2 := Box4.frozen HB13.out 2
            have f3 := Box4.frozen HB13.out 3
            have HA14 := (show Hid (AtC cs a cap b off w st' _) from HA13.out.put4 hgt (.string ⟨#[65, 100, 100]⟩) (.string ByteArray.empty) (.bool false) (.slice (some ⟨v11.heap.size, 0, none⟩) 2 2))
            have HB14 := (show Hid (Box4 _ w1.heap.size (.string ⟨#[65, 100, 100]⟩) (.string ByteArray.empty) (.bool false) (.slice (some ⟨v11.heap.size, 0, none⟩) 2 2)) from Box4.put4 HB13.out (.string ⟨#[65, 100, 100]⟩) (.string ByteArray.empty) (.bool false) (.slice (some ⟨v11.heap.size, 0, none⟩) 2 2))
            have HL14 := (show Hid _ from lies_put4 HL13.out (.string ⟨#[65, 100, 100]⟩) (.string ByteArray.empty) (.bool false) (.slice (some ⟨v11.heap.size, 0, none⟩) 2 2))
            clear HA13 HB13 HL13
            go_simp
            clear g0 g1 g2 g3 f0 f1 f2 f3
            clear hHeld
            refine hK.out _ _ trivial (fun hHeld => ?_)
            clear hK K
            try simp only [Act.put, List.setIfInBounds_toArray, List.set_cons_zero, List.set_cons_succ]
            refine wpAnyH_done (by kernel_rfl) ?_ _
            clear hHeld
            go_wp2_with fail
            refine Calls.mono (leafD_any _ _ _) ?_
            rintro e u1 ⟨rfl, hb⟩
            have HA15 := (show Hid (AtC cs a cap b off w st' u1) from HA14.out.still hb)
            have HB15 := (show Hid (Box4 u1 w1.heap.size (.string ⟨#[65, 100, 100]⟩) (.string ByteArray.empty) (.bool false) (.slice (some ⟨v11.heap.size, 0, none⟩) 2 2)) from Box4.still HB14.out hb)
            clear hb HA14 HB14 HL14
            go_wp2_with fail
            refine Calls.mono (leafD_any _ _ _) ?_
            rintro e u2 ⟨rfl, hb⟩
            have HA16 := (show Hid (AtC cs a cap b off w st' u2) from HA15.out.still hb)
            have HB16 := (show Hid (Box4 u2 w1.heap.size (.string ⟨#[65, 100, 100]⟩) (.string ByteArray.empty) (.bool false) (.slice (some ⟨v11.heap.size, 0, none⟩) 2 2)) from Box4.still HB15.out hb)
            clear hb HA15 HB15
            have hb := bel_alloc u2 (.cells #[.string ⟨#[73, 100]⟩, .string ⟨#[120]⟩, .bool true, .slice none 0 0, .string ⟨#[78, 117, 109]⟩, .string ⟨#[50]⟩, .bool true, .slice none 0 0] 40)
            have hg6 : w1.heap.size < u2.heap.size := HB16.out.lt
            have HA17 := (show Hid (AtC cs a cap b off w st' (u2.alloc (.cells #[.string ⟨#[73, 100]⟩, .string ⟨#[120]⟩, .bool true, .slice none 0 0, .string ⟨#[78, 117, 109]⟩, .string ⟨#[50]⟩, .bool true, .slice none 0 0] 40))) from HA16.out.still hb)
            have HB17 := (show Hid (Box4 (u2.alloc (.cells #[.string ⟨#[73, 100]⟩, .string ⟨#[120]⟩, .bool true, .slice none 0 0, .string ⟨#[78, 117, 109]⟩, .string ⟨#[50]⟩, .bool true, .slice none 0 0] 40)) w1.heap.size (.string ⟨#[65, 100, 100]⟩) (.string ByteArray.empty) (.bool false) (.slice (some ⟨v11.heap.size, 0, none⟩) 2 2)) from Box4.still HB16.out hb)
            have HL17 := (show Hid (Lies (u2.alloc (.cells #[.string ⟨#[73, 100]⟩, .string ⟨#[120]⟩, .bool true, .slice none 0 0, .string ⟨#[78, 117, 109]⟩, .string ⟨#[50]⟩, .bool true, .slice none 0 0] 40)) (fun q => w.heap.size + 2 ≤ q ∧ q ≠ w1.heap.size) lam2 (.slice (some ⟨u2.heap.size, 0, none⟩) 2 2)) from lies_two u2 (t1 := xId) (t2 := lf ⟨#[78, 117, 109]⟩ ⟨#[50]⟩) (lies_nil _ _ _ _ _ (by decide) (by decide)) (lies_nil _ _ _ _ _ (by decide) (by decide)) ⟨HA16.out.size, by omega⟩ ⟨#[76, 97, 109]⟩ (by decide))
            clear hb HA16 HB16
            go_wp2_with fail
            refine Calls.mono (nodeD_any _ _ _ _ _) ?_
            rintro e u4 ⟨rfl, hb⟩
            have HA18 := (show Hid (AtC cs a cap b off w st' u4) from HA17.out.still hb)
            have HB18 := (show Hid (Box4 u4 w1.heap.size (.string ⟨#[65, 100, 100]⟩) (.string ByteArray.empty) (.bool false) (.slice (some ⟨v11.heap.size, 0, none⟩) 2 2)) from Box4.still HB17.out hb)
            have HL18 := (show Hid (Lies u4 (fun q => w.heap.size + 2 ≤ q ∧ q ≠ w1.heap.size) lam2 (.slice (some ⟨u2.heap.size, 0, none⟩) 2 2)) from Lies.still HL17.out hb)
            clear hb HA17 HB17 HL17
            obtain ⟨g0, g1, g2, g3⟩ := Box4.cells HB18.out
            have f0 := Box4.frozen HB18.out 0
            have f1 := Box4.frozen HB18.out 1
            have f2 := Box4.frozen HB18.out 2
            have f3 := Box4.frozen HB18.out 3
            have HA19 := (show Hid (AtC cs a cap b off w st' _) from HA18.out.put4 hgt (.string ⟨#[76, 97, 109]⟩) (.string ByteArray.empty) (.bool false) (.slice (some ⟨u2.heap.size, 0, none⟩) 2 2))
            have HB19 := (show Hid (Box4 _ w1.heap.size (.string ⟨#[76, 97, 109]⟩) (.string ByteArray.empty) (.bool false) (.slice (some ⟨u2.heap.size, 0, none⟩) 2 2)) from Box4.put4 HB18.out (.string ⟨#[76, 97, 109]⟩) (.string ByteArray.empty) (.bool false) (.slice (some ⟨u2.heap.size, 0, none⟩) 2 2))
            have HL19 := (show Hid _ from lies_put4 HL18.out (.string ⟨#[76, 97, 109]⟩) (.string ByteArray.empty) (.bool false) (.slice (some ⟨u2.heap.size, 0, none⟩) 2 2))
            clear HA18 HB18 HL18
            go_wp2_with fail
            exact ⟨⟨n + 1, lam2, st', _, _, _, by go_num, by omega, by omega, HA19.out, HB19.out, HL19.out, by rw [show 63 - (n + 1) = 62 - n by omega]; exact HFF.out⟩, by simp [intOf]; omega⟩
        case neg =>
          have r51 : (((n % 50 : Nat) : Int) == 0) = false := by simp; omega
          have e1 : nxS n u = nd ⟨#[65, 100, 100]⟩ [lamX, u] := if_neg h50
          rw [e1] at HFF
          clear e1
          go_wp2_with fail
          refine wp_region_held_drew (S := (fun _ => True)) (by kernel_rfl) trivial (fun hHeld => ?_)
          generalize w4.drew = W7 at *
          refine wpAnyH_ready (rs := [0, 4]) (by kernel_rfl) (by simp) ?_
          refine (AllReadyH.cons (o := oD12_8_0) rfl (fun K hK => ?_) (AllReadyH.cons (o := oD12_8_4) rfl (fun K hK => ?_) AllReadyH.nil))
          · skip
            go_simp
            go_at_call 47
            refine Calls.mono (leafD_any _ _ _) ?_
            rintro e v8 ⟨rfl, hb⟩
            have HA8 := (show Hid (AtC cs a cap b off w st' (v8)) from HA7.out.still hb)
            have HB8 := (show Hid (Box4 (v8) w1.heap.size (.string u.name) (.string u.text) (.bool u.leaf) (.slice ya ym yc)) from Box4.still HB7.out hb)
            have HL8 := (show Hid (Lies (v8) (fun q => w.heap.size + 2 ≤ q ∧ q ≠ w1.heap.size) u (.slice ya ym yc)) from Lies.still HL7.out hb)
            clear hb HA7 HB7 HL7
            clear hHeld
            refine hK.out _ _ trivial (fun hHeld => ?_)
            clear hK K
            try simp only [Act.put, List.setIfInBounds_toArray, List.set_cons_zero, List.set_cons_succ]
            refine wpAnyH_ready (rs := [1, 4]) (by kernel_rfl) (by simp) ?_
            refine (AllReadyH.cons (o := oD12_8_1) rfl (fun K hK => ?_) (AllReadyH.cons (o := oD12_8_4) rfl (fun K hK => ?_) AllReadyH.nil))
            · skip
              go_simp
              go_at_call 47
              refine Calls.mono (leafD_any _ _ _) ?_
              rintro e v9 ⟨rfl, hb⟩
              have HA9 := (show Hid (AtC cs a cap b off w st' (v9)) from HA8.out.still hb)
              have HB9 := (show Hid (Box4 (v9) w1.heap.size (.string u.name) (.string u.text) (.bool u.leaf) (.slice ya ym yc)) from Box4.still HB8.out hb)
              have HL9 := (show Hid (Lies (v9) (fun q => w.heap.size + 2 ≤ q ∧ q ≠ w1.heap.size) u (.slice ya ym yc)) from Lies.still HL8.out hb)
              clear hb HA8 HB8 HL8
              clear hHeld
              refine hK.out _ _ trivial (fun hHeld => ?_)
              clear hK K
              try simp only [Act.put, List.setIfInBounds_toArray, List.set_cons_zero, List.set_cons_succ]
              refine wpAnyH_ready (rs := [2, 4]) (by kernel_rfl) (by simp) ?_
              refine (AllReadyH.cons (o := oD12_8_2) rfl (fun K hK => ?_) (AllReadyH.cons (o := oD12_8_4) rfl (fun K hK => ?_) AllReadyH.nil))
              · skip
                go_simp
                have hb := bel_alloc v9 (.cells #[.string ⟨#[73, 100]⟩, .string ⟨#[120]⟩, .bool true, .slice none 0 0, .string ⟨#[73, 100]⟩, .string ⟨#[120]⟩, .bool true, .slice none 0 0] 40)
                have hg6 : w1.heap.size < v9.heap.size := HB9.out.lt
                have HA10 := (show Hid (AtC cs a cap b off w st' (v9.alloc (.cells #[.string ⟨#[73, 100]⟩, .string ⟨#[120]⟩, .bool true, .slice none 0 0, .string ⟨#[73, 100]⟩, .string ⟨#[120]⟩, .bool true, .slice none 0 0] 40))) from HA9.out.still hb)
                have HB10 := (show Hid (Box4 (v9.alloc (.cells #[.string ⟨#[73, 100]⟩, .string ⟨#[120]⟩, .bool true, .slice none 0 0, .string ⟨#[73, 100]⟩, .string ⟨#[120]⟩, .bool true, .slice none 0 0] 40)) w1.heap.size (.string u.name) (.string u.text) (.bool u.leaf) (.slice ya ym yc)) from Box4.still HB9.out hb)
                have HL10 := (show Hid (Lies (v9.alloc (.cells #[.string ⟨#[73, 100]⟩, .string ⟨#[120]⟩, .bool true, .slice none 0 0, .string ⟨#[73, 100]⟩, .string ⟨#[120]⟩, .bool true, .slice none 0 0] 40)) (fun q => w.heap.size + 2 ≤ q ∧ q ≠ w1.heap.size) u (.slice ya ym yc)) from Lies.still HL9.out hb)
                have HM10 := (show Hid (Lies (v9.alloc (.cells #[.string ⟨#[73, 100]⟩, .string ⟨#[120]⟩, .bool true, .slice none 0 0, .string ⟨#[73, 100]⟩, .string ⟨#[120]⟩, .bool true, .slice none 0 0] 40)) (fun q => w.heap.size + 2 ≤ q ∧ q ≠ w1.heap.size) lamX (.slice (some ⟨v9.heap.size, 0, none⟩) 2 2)) from lies_two v9 (t1 := xId) (t2 := xId) (lies_nil _ _ _ _ _ (by decide) (by decide)) (lies_nil _ _ _ _ _ (by decide) (by decide)) ⟨HA9.out.size, by omega⟩ ⟨#[76, 97, 109]⟩ (by decide))
                clear hb HA9 HB9 HL9
                clear hHeld
                refine hK.out _ _ trivial (fun hHeld => ?_)
                clear hK K
                try simp only [Act.put, List.setIfInBounds_toArray, List.set_cons_zero, List.set_cons_succ]
                generalize v9.alloc (.cells #[.string ⟨#[73, 100]⟩, .string ⟨#[120]⟩, .bool true, .slice none 0 0, .string ⟨#[73, 100]⟩, .string ⟨#[120]⟩, .bool true, .slice none 0 0] 40) = W10 at *
                refine wpAnyH_ready (rs := [3, 4]) (by kernel_rfl) (by simp) ?_
                refine (AllReadyH.cons (o := oD12_8_3) rfl (fun K hK => ?_) (AllReadyH.cons (o := oD12_8_4) rfl (fun K hK => ?_) AllReadyH.nil))
                · skip
                  go_simp
                  go_at_call 48
                  refine Calls.mono (nodeD_any _ _ _ _ _) ?_
                  rintro e v11 ⟨rfl, hb⟩
                  have HA11 := (show Hid (AtC cs a cap b off w st' (v11)) from HA10.out.still hb)
                  have HB11 := (show Hid (Box4 (v11) w1.heap.size (.string u.name) (.string u.text) (.bool u.leaf) (.slice ya ym yc)) from Box4.still HB10.out hb)
                  have HL11 := (show Hid (Lies (v11) (fun q => w.heap.size + 2 ≤ q ∧ q ≠ w1.heap.size) u (.slice ya ym yc)) from Lies.still HL10.out hb)
                  have HM11 := (show Hid (Lies (v11) (fun q => w.heap.size + 2 ≤ q ∧ q ≠ w1.heap.size) lamX (.slice (some ⟨v9.heap.size, 0, none⟩) 2 2)) from Lies.still HM10.out hb)
                  clear hb HA10 HB10 HL10 HM10
                  clear hHeld
                  refine hK.out _ _ trivial (fun hHeld => ?_)
                  clear hK K
                  try simp only [Act.put, List.setIfInBounds_toArray, List.set_cons_zero, List.set_cons_succ]
                  refine wpAnyH_ready (rs := [4]) (by kernel_rfl) (by simp) ?_
                  refine (AllReadyH.cons (o := oD12_8_4) rfl (fun K hK => ?_) AllReadyH.nil)
                  obtain ⟨e0', e1', e2', e3'⟩ := Box4.cells HB11.out
                  go_simp
                  clear e0' e1' e2' e3'
                  clear hHeld
                  refine hK.out _ _ trivial (fun hHeld => ?_)
                  clear hK K
                  try simp only [Act.put, List.setIfInBounds_toArray, List.set_cons_zero, List.set_cons_succ]
                  refine wpAnyH_ready (rs := [5]) (by kernel_rfl) (by simp) ?_
                  refine (AllReadyH.cons (o := oD12_8_5) rfl (fun K hK => ?_) AllReadyH.nil)
                  go_simp
                  have hb := bel_alloc v11 (.cells #[.string ⟨#[76, 97, 109]⟩, .string ByteArray.empty, .bool false, .slice (some ⟨v9.heap.size, 0, none⟩) 2 2, .string u.name, .string u.text, .bool u.leaf, .slice ya ym yc] 40)
                  have hg6 : w1.heap.size < v11.heap.size := HB11.out.lt
                  have HA12 := (show Hid (AtC cs a cap b off w st' (v11.alloc (.cells #[.string ⟨#[76, 97, 109]⟩, .string ByteArray.empty, .bool false, .slice (some ⟨v9.heap.size, 0, none⟩) 2 2, .string u.name, .string u.text, .bool u.leaf, .slice ya ym yc] 40))) from HA11.out.still hb)
                  have HB12 := (show Hid (Box4 (v11.alloc (.cells #[.string ⟨#[76, 97, 109]⟩, .string ByteArray.empty, .bool false, .slice (some ⟨v9.heap.size, 0, none⟩) 2 2, .string u.name, .string u.text, .bool u.leaf, .slice ya ym yc] 40)) w1.heap.size (.string u.name) (.string u.text) (.bool u.leaf) (.slice ya ym yc)) from Box4.still HB11.out hb)
                  have HL12 := (show Hid (Lies (v11.alloc (.cells #[.string ⟨#[76, 97, 109]⟩, .string ByteArray.empty, .bool false, .slice (some ⟨v9.heap.size, 0, none⟩) 2 2, .string u.name, .string u.text, .bool u.leaf, .slice ya ym yc] 40)) (fun q => w.heap.size + 2 ≤ q ∧ q ≠ w1.heap.size) (nd ⟨#[65, 100, 100]⟩ [lamX, u]) (.slice (some ⟨v11.heap.size, 0, none⟩) 2 2)) from lies_two v11 HM11.out HL11.out ⟨HA11.out.size, by omega⟩ ⟨#[65, 100, 100]⟩ (by decide))
                  clear hb HA11 HB11 HL11 HM11
                  clear hHeld
                  refine hK.out _ _ trivial (fun hHeld => ?_)
                  clear hK K
                  try simp only [Act.put, List.setIfInBounds_toArray, List.set_cons_zero, List.set_cons_succ]
                  generalize v11.alloc (.cells #[.string ⟨#[76, 97, 109]⟩, .string ByteArray.empty, .bool false, .slice (some ⟨v9.heap.size, 0, none⟩) 2 2, .string u.name, .string u.text, .bool u.leaf, .slice ya ym yc] 40) = W12 at *
                  refine wpAnyH_ready (rs := [6]) (by kernel_rfl) (by simp) ?_
                  refine (AllReadyH.cons (o := oD12_8_6) rfl (fun K hK => ?_) AllReadyH.nil)
                  go_simp
                  go_at_call 48
                  refine Calls.mono (nodeD_any _ _ _ _ _) ?_
                  rintro e v13 ⟨rfl, hb⟩
                  have HA13 := (show Hid (AtC cs a cap b off w st' (v13)) from HA12.out.still hb)
                  have HB13 := (show Hid (Box4 (v13) w1.heap.size (.string u.name) (.string u.text) (.bool u.leaf) (.slice ya ym yc)) from Box4.still HB12.out hb)
                  have HL13 := (show Hid (Lies v13 (fun q => w.heap.size + 2 ≤ q ∧ q ≠ w1.heap.size) (nd ⟨#[65, 100, 100]⟩ [lamX, u]) (.slice (some ⟨v11.heap.size, 0, none⟩) 2 2)) from Lies.still HL12.out hb)
                  clear hb HA12 HB12 HL12
                  clear hHeld
                  refine hK.out _ _ trivial (fun hHeld => ?_)
                  clear hK K
                  try simp only [Act.put, List.setIfInBounds_toArray, List.set_cons_zero, List.set_cons_succ]
                  refine wpAnyH_ready (rs := [7]) (by kernel_rfl) (by simp) ?_
                  refine (AllReadyH.cons (o := oD12_8_7) rfl (fun K hK => ?_) AllReadyH.nil)
                  obtain ⟨g0, g1, g2, g3⟩ := Box4.cells HB13.out
                  have f0 := Box4.frozen HB13.out 0
                  have f1 := Box4.frozen HB13.out 1
                  have f2 := Box4.frozen HB13.out 2
                  have f3 := Box4.frozen HB13.out 3
                  have HA14 := (show Hid (AtC cs a cap b off w st' _) from HA13.out.put4 hgt (.string ⟨#[65, 100, 100]⟩) (.string ByteArray.empty) (.bool false) (.slice (some ⟨v11.heap.size, 0, none⟩) 2 2))
                  have HB14 := (show Hid (Box4 _ w1.heap.size (.string ⟨#[65, 100, 100]⟩) (.string ByteArray.empty) (.bool false) (.slice (some ⟨v11.heap.size, 0, none⟩) 2 2)) from Box4.put4 HB13.out (.string ⟨#[65, 100, 100]⟩) (.string ByteArray.empty) (.bool false) (.slice (some ⟨v11.heap.size, 0, none⟩) 2 2))
                  have HL14 := (show Hid _ from lies_put4 HL13.out (.string ⟨#[65, 100, 100]⟩) (.string ByteArray.empty) (.bool false) (.slice (some ⟨v11.heap.size, 0, none⟩) 2 2))
                  clear HA13 HB13 HL13
                  go_simp
                  clear g0 g1 g2 g3 f0 f1 f2 f3
                  clear hHeld
                  refine hK.out _ _ trivial (fun hHeld => ?_)
                  clear hK K
                  try simp only [Act.put, List.setIfInBounds_toArray, List.set_cons_zero, List.set_cons_succ]
                  refine wpAnyH_done (by kernel_rfl) ?_ _
                  clear hHeld
                  go_wp2_with fail
                  exact ⟨⟨n + 1, nd ⟨#[65, 100, 100]⟩ [lamX, u], st', _, _, _, by go_num, by omega, by omega, HA14.out, HB14.out, HL14.out, by rw [show 63 - (n + 1) = 62 - n by omega]; exact HFF.out⟩, by simp [intOf]; omega⟩
                · skip
                  obtain ⟨e0', e1', e2', e3'⟩ := Box4.cells HB10.out
                  go_simp
                  clear e0' e1' e2' e3'
                  clear hHeld
                  refine hK.out _ _ trivial (fun hHeld => ?_)
                  clear hK K
                  try simp only [Act.put, List.setIfInBounds_toArray, List.set_cons_zero, List.set_cons_succ]
                  refine wpAnyH_ready (rs := [3]) (by kernel_rfl) (by simp) ?_
                  refine (AllReadyH.cons (o := oD12_8_3) rfl (fun K hK => ?_) AllReadyH.nil)
                  go_simp
                  go_at_call 48
                  refine Calls.mono (nodeD_any _ _ _ _ _) ?_
                  rintro e v11 ⟨rfl, hb⟩
                  have HA11 := (show Hid (AtC cs a cap b off w st' (v11)) from HA10.out.still hb)
                  have HB11 := (show Hid (Box4 (v11) w1.heap.size (.string u.name) (.string u.text) (.bool u.leaf) (.slice ya ym yc)) from Box4.still HB10.out hb)
                  have HL11 := (show Hid (Lies (v11) (fun q => w.heap.size + 2 ≤ q ∧ q ≠ w1.heap.size) u (.slice ya ym yc)) from Lies.still HL10.out hb)
                  have HM11 := (show Hid (Lies (v11) (fun q => w.heap.size + 2 ≤ q ∧ q ≠ w1.heap.size) lamX (.slice (some ⟨v9.heap.size, 0, none⟩) 2 2)) from Lies.still HM10.out hb)
                  clear hb HA10 HB10 HL10 HM10
                  clear hHeld
                  refine hK.out _ _ trivial (fun hHeld => ?_)
                  clear hK K
                  try simp only [Act.put, List.setIfInBounds_toArray, List.set_cons_zero, List.set_cons_succ]
                  refine wpAnyH_ready (rs := [5]) (by kernel_rfl) (by simp) ?_
                  refine (AllReadyH.cons (o := oD12_8_5) rfl (fun K hK => ?_) AllReadyH.nil)
                  go_simp
                  have hb := bel_alloc v11 (.cells #[.string ⟨#[76, 97, 109]⟩, .string ByteArray.empty, .bool false, .slice (some ⟨v9.heap.size, 0, none⟩) 2 2, .string u.name, .string u.text, .bool u.leaf, .slice ya ym yc] 40)
                  have hg6 : w1.heap.size < v11.heap.size := HB11.out.lt
                  have HA12 := (show Hid (AtC cs a cap b off w st' (v11.alloc (.cells #[.string ⟨#[76, 97, 109]⟩, .string ByteArray.empty, .bool false, .slice (some ⟨v9.heap.size, 0, none⟩) 2 2, .string u.name, .string u.text, .bool u.leaf, .slice ya ym yc] 40))) from HA11.out.still hb)
                  have HB12 := (show Hid (Box4 (v11.alloc (.cells #[.string ⟨#[76, 97, 109]⟩, .string ByteArray.empty, .bool false, .slice (some ⟨v9.heap.size, 0, none⟩) 2 2, .string u.name, .string u.text, .bool u.leaf, .slice ya ym yc] 40)) w1.heap.size (.string u.name) (.string u.text) (.bool u.leaf) (.slice ya ym yc)) from Box4.still HB11.out hb)
                  have HL12 := (show Hid (Lies (v11.alloc (.cells #[.string ⟨#[76, 97, 109]⟩, .string ByteArray.empty, .bool false, .slice (some ⟨v9.heap.size, 0, none⟩) 2 2, .string u.name, .string u.text, .bool u.leaf, .slice ya ym yc] 40)) (fun q => w.heap.size + 2 ≤ q ∧ q ≠ w1.heap.size) (nd ⟨#[65, 100, 100]⟩ [lamX, u]) (.slice (some ⟨v11.heap.size, 0, none⟩) 2 2)) from lies_two v11 HM11.out HL11.out ⟨HA11.out.size, by omega⟩ ⟨#[65, 100, 100]⟩ (by decide))
                  clear hb HA11 HB11 HL11 HM11
                  clear hHeld
                  refine hK.out _ _ trivial (fun hHeld => ?_)
                  clear hK K
                  try simp only [Act.put, List.setIfInBounds_toArray, List.set_cons_zero, List.set_cons_succ]
                  generalize v11.alloc (.cells #[.string ⟨#[76, 97, 109]⟩, .string ByteArray.empty, .bool false, .slice (some ⟨v9.heap.size, 0, none⟩) 2 2, .string u.name, .string u.text, .bool u.leaf, .slice ya ym yc] 40) = W12 at *
                  refine wpAnyH_ready (rs := [6]) (by kernel_rfl) (by simp) ?_
                  refine (AllReadyH.cons (o := oD12_8_6) rfl (fun K hK => ?_) AllReadyH.nil)
                  go_simp
                  go_at_call 48
                  refine Calls.mono (nodeD_any _ _ _ _ _) ?_
                  rintro e v13 ⟨rfl, hb⟩
                  have HA13 := (show Hid (AtC cs a cap b off w st' (v13)) from HA12.out.still hb)
                  have HB13 := (show Hid (Box4 (v13) w1.heap.size (.string u.name) (.string u.text) (.bool u.leaf) (.slice ya ym yc)) from Box4.still HB12.out hb)
                  have HL13 := (show Hid (Lies v13 (fun q => w.heap.size + 2 ≤ q ∧ q ≠ w1.heap.size) (nd ⟨#[65, 100, 100]⟩ [lamX, u]) (.slice (some ⟨v11.heap.size, 0, none⟩) 2 2)) from Lies.still HL12.out hb)
                  clear hb HA12 HB12 HL12
                  clear hHeld
                  refine hK.out _ _ trivial (fun hHeld => ?_)
                  clear hK K
                  try simp only [Act.put, List.setIfInBounds_toArray, List.set_cons_zero, List.set_cons_succ]
                  refine wpAnyH_ready (rs := [7]) (by kernel_rfl) (by simp) ?_
                  refine (AllReadyH.cons (o := oD12_8_7) rfl (fun K hK => ?_) AllReadyH.nil)
                  obtain ⟨g0, g1, g2, g3⟩ := Box4.cells HB13.out
                  have f0 := Box4.frozen HB13.out 0
                  have f1 := Box4.frozen HB13.out 1
                  have f2 := Box4.frozen HB13.out 2
                  have f3 := Box4.frozen HB13.out 3
                  have HA14 := (show Hid (AtC cs a cap b off w st' _) from HA13.out.put4 hgt (.string ⟨#[65, 100, 100]⟩) (.string ByteArray.empty) (.bool false) (.slice (some ⟨v11.heap.size, 0, none⟩) 2 2))
                  have HB14 := (show Hid (Box4 _ w1.heap.size (.string ⟨#[65, 100, 100]⟩) (.string ByteArray.empty) (.bool false) (.slice (some ⟨v11.heap.size, 0, none⟩) 2 2)) from Box4.put4 HB13.out (.string ⟨#[65, 100, 100]⟩) (.string ByteArray.empty) (.bool false) (.slice (some ⟨v11.heap.size, 0, none⟩) 2 2))
                  have HL14 := (show Hid _ from lies_put4 HL13.out (.string ⟨#[65, 100, 100]⟩) (.string ByteArray.empty) (.bool false) (.slice (some ⟨v11.heap.size, 0, none⟩) 2 2))
                  clear HA13 HB13 HL13
                  go_simp
                  clear g0 g1 g2 g3 f0 f1 f2 f3
                  clear hHeld
                  refine hK.out _ _ trivial (fun hHeld => ?_)
                  clear hK K
                  try simp only [Act.put, List.setIfInBounds_toArray, List.set_cons_zero, List.set_cons_succ]
                  refine wpAnyH_done (by kernel_rfl) ?_ _
                  clear hHeld
                  go_wp2_with fail
                  exact ⟨⟨n + 1, nd ⟨#[65, 100, 100]⟩ [lamX, u], st', _, _, _, by go_num, by omega, by omega, HA14.out, HB14.out, HL14.out, by rw [show 63 - (n + 1) = 62 - n by omega]; exact HFF.out⟩, by simp [intOf]; omega⟩
              · skip
                obtain ⟨e0', e1', e2', e3'⟩ := Box4.cells HB9.out
                go_simp
                clear e0' e1' e2' e3'
                clear hHeld
                refine hK.out _ _ trivial (fun hHeld => ?_)
                clear hK K
                try simp only [Act.put, List.setIfInBounds_toArray, List.set_cons_zero, List.set_cons_succ]
                refine wpAnyH_ready (rs := [2]) (by kernel_rfl) (by simp) ?_
                refine (AllReadyH.cons (o := oD12_8_2) rfl (fun K hK => ?_) AllReadyH.nil)
                go_simp
                have hb := bel_alloc v9 (.cells #[.string ⟨#[73, 100]⟩, .string ⟨#[120]⟩, .bool true, .slice none 0 0, .string ⟨#[73, 100]⟩, .string ⟨#[120]⟩, .bool true, .slice none 0 0] 40)
                have hg6 : w1.heap.size < v9.heap.size := HB9.out.lt
                have HA10 := (show Hid (AtC cs a cap b off w st' (v9.alloc (.cells #[.string ⟨#[73, 100]⟩, .string ⟨#[120]⟩, .bool true, .slice none 0 0, .string ⟨#[73, 100]⟩, .string ⟨#[120]⟩, .bool true, .slice none 0 0] 40))) from HA9.out.still hb)
                have HB10 := (show Hid (Box4 (v9.alloc (.cells #[.string ⟨#[73, 100]⟩, .string ⟨#[120]⟩, .bool true, .slice none 0 0, .string ⟨#[73, 100]⟩, .string ⟨#[120]⟩, .bool true, .slice none 0 0] 40)) w1.heap.size (.string u.name) (.string u.text) (.bool u.leaf) (.slice ya ym yc)) from Box4.still HB9.out hb)
                have HL10 := (show Hid (Lies (v9.alloc (.cells #[.string ⟨#[73, 100]⟩, .string ⟨#[120]⟩, .bool true, .slice none 0 0, .string ⟨#[73, 100]⟩, .string ⟨#[120]⟩, .bool true, .slice none 0 0] 40)) (fun q => w.heap.size + 2 ≤ q ∧ q ≠ w1.heap.size) u (.slice ya ym yc)) from Lies.still HL9.out hb)
                have HM10 := (show Hid (Lies (v9.alloc (.cells #[.string ⟨#[73, 100]⟩, .string ⟨#[120]⟩, .bool true, .slice none 0 0, .string ⟨#[73, 100]⟩, .string ⟨#[120]⟩, .bool true, .slice none 0 0] 40)) (fun q => w.heap.size + 2 ≤ q ∧ q ≠ w1.heap.size) lamX (.slice (some ⟨v9.heap.size, 0, none⟩) 2 2)) from lies_two v9 (t1 := xId) (t2 := xId) (lies_nil _ _ _ _ _ (by decide) (by decide)) (lies_nil _ _ _ _ _ (by decide) (by decide)) ⟨HA9.out.size, by omega⟩ ⟨#[76, 97, 109]⟩ (by decide))
                clear hb HA9 HB9 HL9
                clear hHeld
                refine hK.out _ _ trivial (fun hHeld => ?_)
                clear hK K
                try simp only [Act.put, List.setIfInBounds_toArray, List.set_cons_zero, List.set_cons_succ]
                generalize v9.alloc (.cells #[.string ⟨#[73, 100]⟩, .string ⟨#[120]⟩, .bool true, .slice none 0 0, .string ⟨#[73, 100]⟩, .string ⟨#[120]⟩, .bool true, .slice none 0 0] 40) = W10 at *
                refine wpAnyH_ready (rs := [3]) (by kernel_rfl) (by simp) ?_
                refine (AllReadyH.cons (o := oD12_8_3) rfl (fun K hK => ?_) AllReadyH.nil)
                go_simp
                go_at_call 48
                refine Calls.mono (nodeD_any _ _ _ _ _) ?_
                rintro e v11 ⟨rfl, hb⟩
                have HA11 := (show Hid (AtC cs a cap b off w st' (v11)) from HA10.out.still hb)
                have HB11 := (show Hid (Box4 (v11) w1.heap.size (.string u.name) (.string u.text) (.bool u.leaf) (.slice ya ym yc)) from Box4.still HB10.out hb)
                have HL11 := (show Hid (Lies (v11) (fun q => w.heap.size + 2 ≤ q ∧ q ≠ w1.heap.size) u (.slice ya ym yc)) from Lies.still HL10.out hb)
                have HM11 := (show Hid (Lies (v11) (fun q => w.heap.size + 2 ≤ q ∧ q ≠ w1.heap.size) lamX (.slice (some ⟨v9.heap.size, 0, none⟩) 2 2)) from Lies.still HM10.out hb)
                clear hb HA10 HB10 HL10 HM10
                clear hHeld
                refine hK.out _ _ trivial (fun hHeld => ?_)
                clear hK K
                try simp only [Act.put, List.setIfInBounds_toArray, List.set_cons_zero, List.set_cons_succ]
                refine wpAnyH_ready (rs := [5]) (by kernel_rfl) (by simp) ?_
                refine (AllReadyH.cons (o := oD12_8_5) rfl (fun K hK => ?_) AllReadyH.nil)
                go_simp
                have hb := bel_alloc v11 (.cells #[.string ⟨#[76, 97, 109]⟩, .string ByteArray.empty, .bool false, .slice (some ⟨v9.heap.size, 0, none⟩) 2 2, .string u.name, .string u.text, .bool u.leaf, .slice ya ym yc] 40)
                have hg6 : w1.heap.size < v11.heap.size := HB11.out.lt
                have HA12 := (show Hid (AtC cs a cap b off w st' (v11.alloc (.cells #[.string ⟨#[76, 97, 109]⟩, .string ByteArray.empty, .bool false, .slice (some ⟨v9.heap.size, 0, none⟩) 2 2, .string u.name, .string u.text, .bool u.leaf, .slice ya ym yc] 40))) from HA11.out.still hb)
                have HB12 := (show Hid (Box4 (v11.alloc (.cells #[.string ⟨#[76, 97, 109]⟩, .string ByteArray.empty, .bool false, .slice (some ⟨v9.heap.size, 0, none⟩) 2 2, .string u.name, .string u.text, .bool u.leaf, .slice ya ym yc] 40)) w1.heap.size (.string u.name) (.string u.text) (.bool u.leaf) (.slice ya ym yc)) from Box4.still HB11.out hb)
                have HL12 := (show Hid (Lies (v11.alloc (.cells #[.string ⟨#[76, 97, 109]⟩, .string ByteArray.empty, .bool false, .slice (some ⟨v9.heap.size, 0, none⟩) 2 2, .string u.name, .string u.text, .bool u.leaf, .slice ya ym yc] 40)) (fun q => w.heap.size + 2 ≤ q ∧ q ≠ w1.heap.size) (nd ⟨#[65, 100, 100]⟩ [lamX, u]) (.slice (some ⟨v11.heap.size, 0, none⟩) 2 2)) from lies_two v11 HM11.out HL11.out ⟨HA11.out.size, by omega⟩ ⟨#[65, 100, 100]⟩ (by decide))
                clear hb HA11 HB11 HL11 HM11
                clear hHeld
                refine hK.out _ _ trivial (fun hHeld => ?_)
                clear hK K
                try simp only [Act.put, List.setIfInBounds_toArray, List.set_cons_zero, List.set_cons_succ]
                generalize v11.alloc (.cells #[.string ⟨#[76, 97, 109]⟩, .string ByteArray.empty, .bool false, .slice (some ⟨v9.heap.size, 0, none⟩) 2 2, .string u.name, .string u.text, .bool u.leaf, .slice ya ym yc] 40) = W12 at *
                refine wpAnyH_ready (rs := [6]) (by kernel_rfl) (by simp) ?_
                refine (AllReadyH.cons (o := oD12_8_6) rfl (fun K hK => ?_) AllReadyH.nil)
                go_simp
                go_at_call 48
                refine Calls.mono (nodeD_any _ _ _ _ _) ?_
                rintro e v13 ⟨rfl, hb⟩
                have HA13 := (show Hid (AtC cs a cap b off w st' (v13)) from HA12.out.still hb)
                have HB13 := (show Hid (Box4 (v13) w1.heap.size (.string u.name) (.string u.text) (.bool u.leaf) (.slice ya ym yc)) from Box4.still HB12.out hb)
                have HL13 := (show Hid (Lies v13 (fun q => w.heap.size + 2 ≤ q ∧ q ≠ w1.heap.size) (nd ⟨#[65, 100, 100]⟩ [lamX, u]) (.slice (some ⟨v11.heap.size, 0, none⟩) 2 2)) from Lies.still HL12.out hb)
                clear hb HA12 HB12 HL12
                clear hHeld
                refine hK.out _ _ trivial (fun hHeld => ?_)
                clear hK K
                try simp only [Act.put, List.setIfInBounds_toArray, List.set_cons_zero, List.set_cons_succ]
                refine wpAnyH_ready (rs := [7]) (by kernel_rfl) (by simp) ?_
                refine (AllReadyH.cons (o := oD12_8_7) rfl (fun K hK => ?_) AllReadyH.nil)
                obtain ⟨g0, g1, g2, g3⟩ := Box4.cells HB13.out
                have f0 := Box4.frozen HB13.out 0
                have f1 := Box4.frozen HB13.out 1
                have f2 := Box4.frozen HB13.out 2
                have f3 := Box4.frozen HB13.out 3
                have HA14 := (show Hid (AtC cs a cap b off w st' _) from HA13.out.put4 hgt (.string ⟨#[65, 100, 100]⟩) (.string ByteArray.empty) (.bool false) (.slice (some ⟨v11.heap.size, 0, none⟩) 2 2))
                have HB14 := (show Hid (Box4 _ w1.heap.size (.string ⟨#[65, 100, 100]⟩) (.string ByteArray.empty) (.bool false) (.slice (some ⟨v11.heap.size, 0, none⟩) 2 2)) from Box4.put4 HB13.out (.string ⟨#[65, 100, 100]⟩) (.string ByteArray.empty) (.bool false) (.slice (some ⟨v11.heap.size, 0, none⟩) 2 2))
                have HL14 := (show Hid _ from lies_put4 HL13.out (.string ⟨#[65, 100, 100]⟩) (.string ByteArray.empty) (.bool false) (.slice (some ⟨v11.heap.size, 0, none⟩) 2 2))
                clear HA13 HB13 HL13
                go_simp
                clear g0 g1 g2 g3 f0 f1 f2 f3
                clear hHeld
                refine hK.out _ _ trivial (fun hHeld => ?_)
                clear hK K
                try simp only [Act.put, List.setIfInBounds_toArray, List.set_cons_zero, List.set_cons_succ]
                refine wpAnyH_done (by kernel_rfl) ?_ _
                clear hHeld
                go_wp2_with fail
                exact ⟨⟨n + 1, nd ⟨#[65, 100, 100]⟩ [lamX, u], st', _, _, _, by go_num, by omega, by omega, HA14.out, HB14.out, HL14.out, by rw [show 63 - (n + 1) = 62 - n by omega]; exact HFF.out⟩, by simp [intOf]; omega⟩
            · skip
              obtain ⟨e0', e1', e2', e3'⟩ := Box4.cells HB8.out
              go_simp
              clear e0' e1' e2' e3'
              clear hHeld
              refine hK.out _ _ trivial (fun hHeld => ?_)
              clear hK K
              try simp only [Act.put, List.setIfInBounds_toArray, List.set_cons_zero, List.set_cons_succ]
              refine wpAnyH_ready (rs := [1]) (by kernel_rfl) (by simp) ?_
              refine (AllReadyH.cons (o := oD12_8_1) rfl (fun K hK => ?_) AllReadyH.nil)
              go_simp
              go_at_call 47
              refine Calls.mono (leafD_any _ _ _) ?_
              rintro e v9 ⟨rfl, hb⟩
              have HA9 := (show Hid (AtC cs a cap b off w st' (v9)) from HA8.out.still hb)
              have HB9 := (show Hid (Box4 (v9) w1.heap.size (.string u.name) (.string u.text) (.bool u.leaf) (.slice ya ym yc)) from Box4.still HB8.out hb)
              have HL9 := (show Hid (Lies (v9) (fun q => w.heap.size + 2 ≤ q ∧ q ≠ w1.heap.size) u (.slice ya ym yc)) from Lies.still HL8.out hb)
              clear hb HA8 HB8 HL8
              clear hHeld
              refine hK.out _ _ trivial (fun hHeld => ?_)
              clear hK K
              try simp only [Act.put, List.setIfInBounds_toArray, List.set_cons_zero, List.set_cons_succ]
              refine wpAnyH_ready (rs := [2]) (by kernel_rfl) (by simp) ?_
              refine (AllReadyH.cons (o := oD12_8_2) rfl (fun K hK => ?_) AllReadyH.nil)
              go_simp
              have hb := bel_alloc v9 (.cells #[.string ⟨#[73, 100]⟩, .string ⟨#[120]⟩, .bool true, .slice none 0 0, .string ⟨#[73, 100]⟩, .string ⟨#[120]⟩, .bool true, .slice none 0 0] 40)
              have hg6 : w1.heap.size < v9.heap.size := HB9.out.lt
              have HA10 := (show Hid (AtC cs a cap b off w st' (v9.alloc (.cells #[.string ⟨#[73, 100]⟩, .string ⟨#[120]⟩, .bool true, .slice none 0 0, .string ⟨#[73, 100]⟩, .string ⟨#[120]⟩, .bool true, .slice none 0 0] 40))) from HA9.out.still hb)
              have HB10 := (show Hid (Box4 (v9.alloc (.cells #[.string ⟨#[73, 100]⟩, .string ⟨#[120]⟩, .bool true, .slice none 0 0, .string ⟨#[73, 100]⟩, .string ⟨#[120]⟩, .bool true, .slice none 0 0] 40)) w1.heap.size (.string u.name) (.string u.text) (.bool u.leaf) (.slice ya ym yc)) from Box4.still HB9.out hb)
              have HL10 := (show Hid (Lies (v9.alloc (.cells #[.string ⟨#[73, 100]⟩, .string ⟨#[120]⟩, .bool true, .slice none 0 0, .string ⟨#[73, 100]⟩, .string ⟨#[120]⟩, .bool true, .slice none 0 0] 40)) (fun q => w.heap.size + 2 ≤ q ∧ q ≠ w1.heap.size) u (.slice ya ym yc)) from Lies.still HL9.out hb)
              have HM10 := (show Hid (Lies (v9.alloc (.cells #[.string ⟨#[73, 100]⟩, .string ⟨#[120]⟩, .bool true, .slice none 0 0, .string ⟨#[73, 100]⟩, .string ⟨#[120]⟩, .bool true, .slice none 0 0] 40)) (fun q => w.heap.size + 2 ≤ q ∧ q ≠ w1.heap.size) lamX (.slice (some ⟨v9.heap.size, 0, none⟩) 2 2)) from lies_two v9 (t1 := xId) (t2 := xId) (lies_nil _ _ _ _ _ (by decide) (by decide)) (lies_nil _ _ _ _ _ (by decide) (by decide)) ⟨HA9.out.size, by omega⟩ ⟨#[76, 97, 109]⟩ (by decide))
              clear hb HA9 HB9 HL9
              clear hHeld
              refine hK.out _ _ trivial (fun hHeld => ?_)
              clear hK K
              try simp only [Act.put, List.setIfInBounds_toArray, List.set_cons_zero, List.set_cons_succ]
              generalize v9.alloc (.cells #[.string ⟨#[73, 100]⟩, .string ⟨#[120]⟩, .bool true, .slice none 0 0, .string ⟨#[73, 100]⟩, .string ⟨#[120]⟩, .bool true, .slice none 0 0] 40) = W10 at *
              refine wpAnyH_ready (rs := [3]) (by kernel_rfl) (by simp) ?_
              refine (AllReadyH.cons (o := oD12_8_3) rfl (fun K hK => ?_) AllReadyH.nil)
              go_simp
              go_at_call 48
              refine Calls.mono (nodeD_any _ _ _ _ _) ?_
              rintro e v11 ⟨rfl, hb⟩
              have HA11 := (show Hid (AtC cs a cap b off w st' (v11)) from HA10.out.still hb)
              have HB11 := (show Hid (Box4 (v11) w1.heap.size (.string u.name) (.string u.text) (.bool u.leaf) (.slice ya ym yc)) from Box4.still HB10.out hb)
              have HL11 := (show Hid (Lies (v11) (fun q => w.heap.size + 2 ≤ q ∧ q ≠ w1.heap.size) u (.slice ya ym yc)) from Lies.still HL10.out hb)
              have HM11 := (show Hid (Lies (v11) (fun q => w.heap.size + 2 ≤ q ∧ q ≠ w1.heap.size) lamX (.slice (some ⟨v9.heap.size, 0, none⟩) 2 2)) from Lies.still HM10.out hb)
              clear hb HA10 HB10 HL10 HM10
              clear hHeld
              refine hK.out _ _ trivial (fun hHeld => ?_)
              clear hK K
              try simp only [Act.put, List.setIfInBounds_toArray, List.set_cons_zero, List.set_cons_succ]
              refine wpAnyH_ready (rs := [5]) (by kernel_rfl) (by simp) ?_
              refine (AllReadyH.cons (o := oD12_8_5) rfl (fun K hK => ?_) AllReadyH.nil)
              go_simp
              have hb := bel_alloc v11 (.cells #[.string ⟨#[76, 97, 109]⟩, .string ByteArray.empty, .bool false, .slice (some ⟨v9.heap.size, 0, none⟩) 2 2, .string u.name, .string u.text, .bool u.leaf, .slice ya ym yc] 40)
              have hg6 : w1.heap.size < v11.heap.size := HB11.out.lt
              have HA12 := (show Hid (AtC cs a cap b off w st' (v11.alloc (.cells #[.string ⟨#[76, 97, 109]⟩, .string ByteArray.empty, .bool false, .slice (some ⟨v9.heap.size, 0, none⟩) 2 2, .string u.name, .string u.text, .bool u.leaf, .slice ya ym yc] 40))) from HA11.out.still hb)
              have HB12 := (show Hid (Box4 (v11.alloc (.cells #[.string ⟨#[76, 97, 109]⟩, .string ByteArray.empty, .bool false, .slice (some ⟨v9.heap.size, 0, none⟩) 2 2, .string u.name, .string u.text, .bool u.leaf, .slice ya ym yc] 40)) w1.heap.size (.string u.name) (.string u.text) (.bool u.leaf) (.slice ya ym yc)) from Box4.still HB11.out hb)
              have HL12 := (show Hid (Lies (v11.alloc (.cells #[.string ⟨#[76, 97, 109]⟩, .string ByteArray.empty, .bool false, .slice (some ⟨v9.heap.size, 0, none⟩) 2 2, .string u.name, .string u.text, .bool u.leaf, .slice ya ym yc] 40)) (fun q => w.heap.size + 2 ≤ q ∧ q ≠ w1.heap.size) (nd ⟨#[65, 100, 100]⟩ [lamX, u]) (.slice (some ⟨v11.heap.size, 0, none⟩) 2 2)) from lies_two v11 HM11.out HL11.out ⟨HA11.out.size, by omega⟩ ⟨#[65, 100, 100]⟩ (by decide))
              clear hb HA11 HB11 HL11 HM11
              clear hHeld
              refine hK.out _ _ trivial (fun hHeld => ?_)
              clear hK K
              try simp only [Act.put, List.setIfInBounds_toArray, List.set_cons_zero, List.set_cons_succ]
              generalize v11.alloc (.cells #[.string ⟨#[76, 97, 109]⟩, .string ByteArray.empty, .bool false, .slice (some ⟨v9.heap.size, 0, none⟩) 2 2, .string u.name, .string u.text, .bool u.leaf, .slice ya ym yc] 40) = W12 at *
              refine wpAnyH_ready (rs := [6]) (by kernel_rfl) (by simp) ?_
              refine (AllReadyH.cons (o := oD12_8_6) rfl (fun K hK => ?_) AllReadyH.nil)
              go_simp
              go_at_call 48
              refine Calls.mono (nodeD_any _ _ _ _ _) ?_
              rintro e v13 ⟨rfl, hb⟩
              have HA13 := (show Hid (AtC cs a cap b off w st' (v13)) from HA12.out.still hb)
              have HB13 := (show Hid (Box4 (v13) w1.heap.size (.string u.name) (.string u.text) (.bool u.leaf) (.slice ya ym yc)) from Box4.still HB12.out hb)
              have HL13 := (show Hid (Lies v13 (fun q => w.heap.size + 2 ≤ q ∧ q ≠ w1.heap.size) (nd ⟨#[65, 100, 100]⟩ [lamX, u]) (.slice (some ⟨v11.heap.size, 0, none⟩) 2 2)) from Lies.still HL12.out hb)
              clear hb HA12 HB12 HL12
              clear hHeld
              refine hK.out _ _ trivial (fun hHeld => ?_)
              clear hK K
              try simp only [Act.put, List.setIfInBounds_toArray, List.set_cons_zero, List.set_cons_succ]
              refine wpAnyH_ready (rs := [7]) (by kernel_rfl) (by simp) ?_
              refine (AllReadyH.cons (o := oD12_8_7) rfl (fun K hK => ?_) AllReadyH.nil)
              obtain ⟨g0, g1, g2, g3⟩ := Box4.cells HB13.out
              have f0 := Box4.frozen HB13.out 0
              have f1 := Box4.frozen HB13.out 1
              have f2 := Box4.frozen HB13.out 2
              have f3 := Box4.frozen HB13.out 3
              have HA14 := (show Hid (AtC cs a cap b off w st' _) from HA13.out.put4 hgt (.string ⟨#[65, 100, 100]⟩) (.string ByteArray.empty) (.bool false) (.slice (some ⟨v11.heap.size, 0, none⟩) 2 2))
              have HB14 := (show Hid (Box4 _ w1.heap.size (.string ⟨#[65, 100, 100]⟩) (.string ByteArray.empty) (.bool false) (.slice (some ⟨v11.heap.size, 0, none⟩) 2 2)) from Box4.put4 HB13.out (.string ⟨#[65, 100, 100]⟩) (.string ByteArray.empty) (.bool false) (.slice (some ⟨v11.heap.size, 0, none⟩) 2 2))
              have HL14 := (show Hid _ from lies_put4 HL13.out (.string ⟨#[65, 100, 100]⟩) (.string ByteArray.empty) (.bool false) (.slice (some ⟨v11.heap.size, 0, none⟩) 2 2))
              clear HA13 HB13 HL13
              go_simp
              clear g0 g1 g2 g3 f0 f1 f2 f3
              clear hHeld
              refine hK.out _ _ trivial (fun hHeld => ?_)
              clear hK K
              try simp only [Act.put, List.setIfInBounds_toArray, List.set_cons_zero, List.set_cons_succ]
              refine wpAnyH_done (by kernel_rfl) ?_ _
              clear hHeld
              go_wp2_with fail
              exact ⟨⟨n + 1, nd ⟨#[65, 100, 100]⟩ [lamX, u], st', _, _, _, by go_num, by omega, by omega, HA14.out, HB14.out, HL14.out, by rw [show 63 - (n + 1) = 62 - n by omega]; exact HFF.out⟩, by simp [intOf]; omega⟩
          · skip
            obtain ⟨e0', e1', e2', e3'⟩ := Box4.cells HB7.out
            go_simp
            clear e0' e1' e2' e3'
            clear hHeld
            refine hK.out _ _ trivial (fun hHeld => ?_)
            clear hK K
            try simp only [Act.put, List.setIfInBounds_toArray, List.set_cons_zero, List.set_cons_succ]
            refine wpAnyH_ready (rs := [0]) (by kernel_rfl) (by simp) ?_
            refine (AllReadyH.cons (o := oD12_8_0) rfl (fun K hK => ?_) AllReadyH.nil)
            go_simp
            go_at_call 47
            refine Calls.mono (leafD_any _ _ _) ?_
            rintro e v8 ⟨rfl, hb⟩
            have HA8 := (show Hid (AtC cs a cap b off w st' (v8)) from HA7.out.still hb)
            have HB8 := (show Hid (Box4 (v8) w1.heap.size (.string u.name) (.string u.text) (.bool u.leaf) (.slice ya ym yc)) from Box4.still HB7.out hb)
            have HL8 := (show Hid (Lies (v8) (fun q => w.heap.size + 2 ≤ q ∧ q ≠ w1.heap.size) u (.slice ya ym yc)) from Lies.still HL7.out hb)
            clear hb HA7 HB7 HL7
            clear hHeld
            refine hK.out _ _ trivial (fun hHeld => ?_)
            clear hK K
            try simp only [Act.put, List.setIfInBounds_toArray, List.set_cons_zero, List.set_cons_succ]
            refine wpAnyH_ready (rs := [1]) (by kernel_rfl) (by simp) ?_
            refine (AllReadyH.cons (o := oD12_8_1) rfl (fun K hK => ?_) AllReadyH.nil)
            go_simp
            go_at_call 47
            refine Calls.mono (leafD_any _ _ _) ?_
            rintro e v9 ⟨rfl, hb⟩
            have HA9 := (show Hid (AtC cs a cap b off w st' (v9)) from HA8.out.still hb)
            have HB9 := (show Hid (Box4 (v9) w1.heap.size (.string u.name) (.string u.text) (.bool u.leaf) (.slice ya ym yc)) from Box4.still HB8.out hb)
            have HL9 := (show Hid (Lies (v9) (fun q => w.heap.size + 2 ≤ q ∧ q ≠ w1.heap.size) u (.slice ya ym yc)) from Lies.still HL8.out hb)
            clear hb HA8 HB8 HL8
            clear hHeld
            refine hK.out _ _ trivial (fun hHeld => ?_)
            clear hK K
            try simp only [Act.put, List.setIfInBounds_toArray, List.set_cons_zero, List.set_cons_succ]
            refine wpAnyH_ready (rs := [2]) (by kernel_rfl) (by simp) ?_
            refine (AllReadyH.cons (o := oD12_8_2) rfl (fun K hK => ?_) AllReadyH.nil)
            go_simp
            have hb := bel_alloc v9 (.cells #[.string ⟨#[73, 100]⟩, .string ⟨#[120]⟩, .bool true, .slice none 0 0, .string ⟨#[73, 100]⟩, .string ⟨#[120]⟩, .bool true, .slice none 0 0] 40)
            have hg6 : w1.heap.size < v9.heap.size := HB9.out.lt
            have HA10 := (show Hid (AtC cs a cap b off w st' (v9.alloc (.cells #[.string ⟨#[73, 100]⟩, .string ⟨#[120]⟩, .bool true, .slice none 0 0, .string ⟨#[73, 100]⟩, .string ⟨#[120]⟩, .bool true, .slice none 0 0] 40))) from HA9.out.still hb)
            have HB10 := (show Hid (Box4 (v9.alloc (.cells #[.string ⟨#[73, 100]⟩, .string ⟨#[120]⟩, .bool true, .slice none 0 0, .string ⟨#[73, 100]⟩, .string ⟨#[120]⟩, .bool true, .slice none 0 0] 40)) w1.heap.size (.string u.name) (.string u.text) (.bool u.leaf) (.slice ya ym yc)) from Box4.still HB9.out hb)
            have HL10 := (show Hid (Lies (v9.alloc (.cells #[.string ⟨#[73, 100]⟩, .string ⟨#[120]⟩, .bool true, .slice none 0 0, .string ⟨#[73, 100]⟩, .string ⟨#[120]⟩, .bool true, .slice none 0 0] 40)) (fun q => w.heap.size + 2 ≤ q ∧ q ≠ w1.heap.size) u (.slice ya ym yc)) from Lies.still HL9.out hb)
            have HM10 := (show Hid (Lies (v9.alloc (.cells #[.string ⟨#[73, 100]⟩, .string ⟨#[120]⟩, .bool true, .slice none 0 0, .string ⟨#[73, 100]⟩, .string ⟨#[120]⟩, .bool true, .slice none 0 0] 40)) (fun q => w.heap.size + 2 ≤ q ∧ q ≠ w1.heap.size) lamX (.slice (some ⟨v9.heap.size, 0, none⟩) 2 2)) from lies_two v9 (t1 := xId) (t2 := xId) (lies_nil _ _ _ _ _ (by decide) (by decide)) (lies_nil _ _ _ _ _ (by decide) (by decide)) ⟨HA9.out.size, by omega⟩ ⟨#[76, 97, 109]⟩ (by decide))
            clear hb HA9 HB9 HL9
            clear hHeld
            refine hK.out _ _ trivial (fun hHeld => ?_)
            clear hK K
            try simp only [Act.put, List.setIfInBounds_toArray, List.set_cons_zero, List.set_cons_succ]
            generalize v9.alloc (.cells #[.string ⟨#[73, 100]⟩, .string ⟨#[120]⟩, .bool true, .slice none 0 0, .string ⟨#[73, 100]⟩, .string ⟨#[120]⟩, .bool true, .slice none 0 0] 40) = W10 at *
            refine wpAnyH_ready (rs := [3]) (by kernel_rfl) (by simp) ?_
            refine (AllReadyH.cons (o := oD12_8_3) rfl (fun K hK => ?_) AllReadyH.nil)
            go_simp
            go_at_call 48
            refine Calls.mono (nodeD_any _ _ _ _ _) ?_
            rintro e v11 ⟨rfl, hb⟩
            have HA11 := (show Hid (AtC cs a cap b off w st' (v11)) from HA10.out.still hb)
            have HB11 := (show Hid (Box4 (v11) w1.heap.size (.string u.name) (.string u.text) (.bool u.leaf) (.slice ya ym yc)) from Box4.still HB10.out hb)
            have HL11 := (show Hid (Lies (v11) (fun q => w.heap.size + 2 ≤ q ∧ q ≠ w1.heap.size) u (.slice ya ym yc)) from Lies.still HL10.out hb)
            have HM11 := (show Hid (Lies (v11) (fun q => w.heap.size + 2 ≤ q ∧ q ≠ w1.heap.size) lamX (.slice (some ⟨v9.heap.size, 0, none⟩) 2 2)) from Lies.still HM10.out hb)
            clear hb HA10 HB10 HL10 HM10
            clear hHeld
            refine hK.out _ _ trivial (fun hHeld => ?_)
            clear hK K
            try simp only [Act.put, List.setIfInBounds_toArray, List.set_cons_zero, List.set_cons_succ]
            refine wpAnyH_ready (rs := [5]) (by kernel_rfl) (by simp) ?_
            refine (AllReadyH.cons (o := oD12_8_5) rfl (fun K hK => ?_) AllReadyH.nil)
            go_simp
            have hb := bel_alloc v11 (.cells #[.string ⟨#[76, 97, 109]⟩, .string ByteArray.empty, .bool false, .slice (some ⟨v9.heap.size, 0, none⟩) 2 2, .string u.name, .string u.text, .bool u.leaf, .slice ya ym yc] 40)
            have hg6 : w1.heap.size < v11.heap.size := HB11.out.lt
            have HA12 := (show Hid (AtC cs a cap b off w st' (v11.alloc (.cells #[.string ⟨#[76, 97, 109]⟩, .string ByteArray.empty, .bool false, .slice (some ⟨v9.heap.size, 0, none⟩) 2 2, .string u.name, .string u.text, .bool u.leaf, .slice ya ym yc] 40))) from HA11.out.still hb)
            have HB12 := (show Hid (Box4 (v11.alloc (.cells #[.string ⟨#[76, 97, 109]⟩, .string ByteArray.empty, .bool false, .slice (some ⟨v9.heap.size, 0, none⟩) 2 2, .string u.name, .string u.text, .bool u.leaf, .slice ya ym yc] 40)) w1.heap.size (.string u.name) (.string u.text) (.bool u.leaf) (.slice ya ym yc)) from Box4.still HB11.out hb)
            have HL12 := (show Hid (Lies (v11.alloc (.cells #[.string ⟨#[76, 97, 109]⟩, .string ByteArray.empty, .bool false, .slice (some ⟨v9.heap.size, 0, none⟩) 2 2, .string u.name, .string u.text, .bool u.leaf, .slice ya ym yc] 40)) (fun q => w.heap.size + 2 ≤ q ∧ q ≠ w1.heap.size) (nd ⟨#[65, 100, 100]⟩ [lamX, u]) (.slice (some ⟨v11.heap.size, 0, none⟩) 2 2)) from lies_two v11 HM11.out HL11.out ⟨HA11.out.size, by omega⟩ ⟨#[65, 100, 100]⟩ (by decide))
            clear hb HA11 HB11 HL11 HM11
            clear hHeld
            refine hK.out _ _ trivial (fun hHeld => ?_)
            clear hK K
            try simp only [Act.put, List.setIfInBounds_toArray, List.set_cons_zero, List.set_cons_succ]
            generalize v11.alloc (.cells #[.string ⟨#[76, 97, 109]⟩, .string ByteArray.empty, .bool false, .slice (some ⟨v9.heap.size, 0, none⟩) 2 2, .string u.name, .string u.text, .bool u.leaf, .slice ya ym yc] 40) = W12 at *
            refine wpAnyH_ready (rs := [6]) (by kernel_rfl) (by simp) ?_
            refine (AllReadyH.cons (o := oD12_8_6) rfl (fun K hK => ?_) AllReadyH.nil)
            go_simp
            go_at_call 48
            refine Calls.mono (nodeD_any _ _ _ _ _) ?_
            rintro e v13 ⟨rfl, hb⟩
            have HA13 := (show Hid (AtC cs a cap b off w st' (v13)) from HA12.out.still hb)
            have HB13 := (show Hid (Box4 (v13) w1.heap.size (.string u.name) (.string u.text) (.bool u.leaf) (.slice ya ym yc)) from Box4.still HB12.out hb)
            have HL13 := (show Hid (Lies v13 (fun q => w.heap.size + 2 ≤ q ∧ q ≠ w1.heap.size) (nd ⟨#[65, 100, 100]⟩ [lamX, u]) (.slice (some ⟨v11.heap.size, 0, none⟩) 2 2)) from Lies.still HL12.out hb)
            clear hb HA12 HB12 HL12
            clear hHeld
            refine hK.out _ _ trivial (fun hHeld => ?_)
            clear hK K
            try simp only [Act.put, List.setIfInBounds_toArray, List.set_cons_zero, List.set_cons_succ]
            refine wpAnyH_ready (rs := [7]) (by kernel_rfl) (by simp) ?_
            refine (AllReadyH.cons (o := oD12_8_7) rfl (fun K hK => ?_) AllReadyH.nil)
            obtain ⟨g0, g1, g2, g3⟩ := Box4.cells HB13.out
            have f0 := Box4.frozen HB13.out 0
            have f1 := Box4.frozen HB13.out 1
            have f2 := Box4.frozen HB13.out 2
            have f3 := Box4.frozen HB13.out 3
            have HA14 := (show Hid (AtC cs a cap b off w st' _) from HA13.out.put4 hgt (.string ⟨#[65, 100, 100]⟩) (.string ByteArray.empty) (.bool false) (.slice (some ⟨v11.heap.size, 0, none⟩) 2 2))
            have HB14 := (show Hid (Box4 _ w1.heap.size (.string ⟨#[65, 100, 100]⟩) (.string ByteArray.empty) (.bool false) (.slice (some ⟨v11.heap.size, 0, none⟩) 2 2)) from Box4.put4 HB13.out (.string ⟨#[65, 100, 100]⟩) (.string ByteArray.empty) (.bool false) (.slice (some ⟨v11.heap.size, 0, none⟩) 2 2))
            have HL14 := (show Hid _ from lies_put4 HL13.out (.string ⟨#[65, 100, 100]⟩) (.string ByteArray.empty) (.bool false) (.slice (some ⟨v11.heap.size, 0, none⟩) 2 2))
            clear HA13 HB13 HL13
            go_simp
            clear g0 g1 g2 g3 f0 f1 f2 f3
            clear hHeld
            refine hK.out _ _ trivial (fun hHeld => ?_)
            clear hK K
            try simp only [Act.put, List.setIfInBounds_toArray, List.set_cons_zero, List.set_cons_succ]
            refine wpAnyH_done (by kernel_rfl) ?_ _
            clear hHeld
            go_wp2_with fail
            exact ⟨⟨n + 1, nd ⟨#[65, 100, 100]⟩ [lamX, u], st', _, _, _, by go_num, by omega, by omega, HA14.out, HB14.out, HL14.out, by rw [show 63 - (n + 1) = 62 - n by omega]; exact HFF.out⟩, by simp [intOf]; omega⟩
end Go.Proofs.Ytledclkmeikgdaa.T
