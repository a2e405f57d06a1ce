import Derived.Test.YtledclkmeikgdaaXDs
import Derived.Deep.RegionHeld3
/-! Terms drawn: what is drawn, and an Id. -/
namespace Go.Proofs.Ytledclkmeikgdaa.T
open Go.RowKit Go.Deep Go.Lib
set_option linter.unusedVariables false
set_option maxRecDepth 100000
set_option linter.unusedSimpArgs false

def idL : List ByteArray := [⟨#[120]⟩, ⟨#[121]⟩, ⟨#[122]⟩, ⟨#[102]⟩, ⟨#[121, 49]⟩, ⟨#[120, 50]⟩]
def nuL : List ByteArray := [⟨#[48]⟩, ⟨#[49]⟩, ⟨#[52, 50]⟩, ⟨#[55]⟩]
def ynL : List ByteArray := [⟨#[89, 101, 115]⟩, ⟨#[78, 111]⟩]
def nd (n : ByteArray) (k : List Tr) : Tr := ⟨n, ByteArray.empty, false, k⟩
/-- An Id drawn. -/
def cIdT (cs : List UInt8) (s : Nat × Nat) : Tr × (Nat × Nat) := (lf ⟨#[73, 100]⟩ (pickOf idL (cPick cs 6 s).1), (cPick cs 6 s).2)
/-- A term drawn, no node. -/
def cTm0 (cs : List UInt8) (s : Nat × Nat) : Tr × (Nat × Nat) :=
  if (cPick cs 6 s).1 = 0 then (lf ⟨#[78, 117, 109]⟩ (pickOf nuL (cPick cs 4 (cPick cs 6 s).2).1), (cPick cs 4 (cPick cs 6 s).2).2)
  else if (cPick cs 6 s).1 = 1 then (lf (pickOf ynL (cPick cs 2 (cPick cs 6 s).2).1) ⟨#[]⟩, (cPick cs 2 (cPick cs 6 s).2).2)
  else cIdT cs (cPick cs 6 s).2
/-- What is made of a term, by a number. -/
def cTmN (cs : List UInt8) (f : Nat × Nat → Tr × (Nat × Nat)) (a : Tr) (k : Nat) (s : Nat × Nat) : Tr × (Nat × Nat) :=
  if k = 0 ∨ k = 1 then (nd ⟨#[76, 97, 109]⟩ [(cIdT cs s).1, a], (cIdT cs s).2)
  else if k = 2 then (nd ⟨#[65, 112, 112]⟩ [a, (f s).1], (f s).2)
  else if k = 3 then (nd ⟨#[76, 101, 116]⟩ [(cIdT cs s).1, a, (f (cIdT cs s).2).1], (f (cIdT cs s).2).2)
  else if k = 4 then (nd ⟨#[73, 102]⟩ [(cTm0 cs s).1, a, (f (cTm0 cs s).2).1], (f (cTm0 cs s).2).2)
  else if k = 5 then (nd ⟨#[65, 100, 100]⟩ [a, (f s).1], (f s).2)
  else if k = 6 then (nd ⟨#[69, 113]⟩ [a, (cTm0 cs s).1], (cTm0 cs s).2)
  else cTm0 cs s
/-- A term drawn. -/
def cTm (cs : List UInt8) : Nat → Nat × Nat → Tr × (Nat × Nat)
  | 0, s => cTm0 cs s
  | d + 1, s => cTmN cs (cTm cs d) (cTm cs d s).1 (cPick cs 8 (cTm cs d s).2).1 (cPick cs 8 (cTm cs d s).2).2

/-- The end of a drawing call: what was drawn is laid in the answer's box. -/
theorem drew_end {cs : List UInt8} {a : Option Addr} {cap b off c : Nat} {w wE : World} {r : Tr × (Nat × Nat)} {v : Value} (ho : Out c (c + 1) w wE) (hlt : c < w.heap.size) (hc : Cur wE cs a cap b off c r.2) (hl : Lies wE (fun q => w.heap.size + 1 ≤ q) r.1 v) :
    DrewL cs a cap b off c r w (.returned (r.1.val v)) ((((wE.setCell ⟨w.heap.size, 0, none⟩ (.string r.1.name)).setCell ⟨w.heap.size, 1, none⟩ (.string r.1.text)).setCell ⟨w.heap.size, 2, none⟩ (.bool r.1.leaf)).setCell ⟨w.heap.size, 3, none⟩ v) := by
  obtain ⟨xa, xm, xc, rfl⟩ := hl.form
  exact ⟨xa, xm, xc, rfl, (((ho.put (Nat.le_refl _)).put (Nat.le_refl _)).put (Nat.le_refl _)).put (Nat.le_refl _), (((Cur.set hc hlt).set hlt).set hlt).set hlt, Lies.mono (fun q hq => by have h1 : w.heap.size + 1 ≤ q := hq; show w.heap.size ≤ q; omega) ((((Lies.set hl (fun h => by have h1 : w.heap.size + 1 ≤ w.heap.size := h; omega)).set (fun h => by have h1 : w.heap.size + 1 ≤ w.heap.size := h; omega)).set (fun h => by have h1 : w.heap.size + 1 ≤ w.heap.size := h; omega)).set (fun h => by have h1 : w.heap.size + 1 ≤ w.heap.size := h; omega))⟩
theorem lies_two (w : World) {S : Nat → Prop} {t1 t2 : Tr} {v1 v2 : Value} (h1 : Lies w S t1 v1) (h2 : Lies w S t2 v2) (hS : S w.heap.size) (n : ByteArray) (hn : n.size ≤ maxLen) :
    Lies (w.alloc (.cells #[.string t1.name, .string t1.text, .bool t1.leaf, v1, .string t2.name, .string t2.text, .bool t2.leaf, v2] 40)) S (nd n [t1, t2]) (.slice (some ⟨w.heap.size, 0, none⟩) 2 2) :=
  Lies.shut ⟨some ⟨w.heap.size, 0, none⟩, 2, w.heap.size, 0, fun i => if i = 0 then v1 else v2, rfl, hn, Nat.zero_le _, Nat.le_refl _, by unfold maxLen; omega, fun _ => ⟨rfl, hS⟩, fun i hi => by
    have hi2 : i < 2 := hi
    match i, hi2 with
    | 0, _ => exact ⟨by simp [go_sem, nd], by simp [go_sem, nd], by simp [go_sem, nd], by simp [go_sem, nd]⟩
    | 1, _ => exact ⟨by simp [go_sem, nd], by simp [go_sem, nd], by simp [go_sem, nd], by simp [go_sem, nd]⟩, fun i hi => by
    have hi2 : i < 2 := hi
    match i, hi2 with
    | 0, _ => exact Lies.still h1 (bel_alloc _ _)
    | 1, _ => exact Lies.still h2 (bel_alloc _ _)⟩
theorem lies_three (w : World) {S : Nat → Prop} {t1 t2 t3 : Tr} {v1 v2 v3 : Value} (h1 : Lies w S t1 v1) (h2 : Lies w S t2 v2) (h3 : Lies w S t3 v3) (hS : S w.heap.size) (n : ByteArray) (hn : n.size ≤ maxLen) :
    Lies (w.alloc (.cells #[.string t1.name, .string t1.text, .bool t1.leaf, v1, .string t2.name, .string t2.text, .bool t2.leaf, v2, .string t3.name, .string t3.text, .bool t3.leaf, v3] 40)) S (nd n [t1, t2, t3]) (.slice (some ⟨w.heap.size, 0, none⟩) 3 3) :=
  Lies.shut ⟨some ⟨w.heap.size, 0, none⟩, 3, w.heap.size, 0, fun i => if i = 0 then v1 else if i = 1 then v2 else v3, rfl, hn, Nat.zero_le _, Nat.le_refl _, by unfold maxLen; omega, fun _ => ⟨rfl, hS⟩, fun i hi => by
    have hi2 : i < 3 := hi
    match i, hi2 with
    | 0, _ => exact ⟨by simp [go_sem, nd], by simp [go_sem, nd], by simp [go_sem, nd], by simp [go_sem, nd]⟩
    | 1, _ => exact ⟨by simp [go_sem, nd], by simp [go_sem, nd], by simp [go_sem, nd], by simp [go_sem, nd]⟩
    | 2, _ => exact ⟨by simp [go_sem, nd], by simp [go_sem, nd], by simp [go_sem, nd], by simp [go_sem, nd]⟩, fun i hi => by
    have hi2 : i < 3 := hi
    match i, hi2 with
    | 0, _ => exact Lies.still h1 (bel_alloc _ _)
    | 1, _ => exact Lies.still h2 (bel_alloc _ _)
    | 2, _ => exact Lies.still h3 (bel_alloc _ _)⟩
abbrev zB (w : World) (g : Nat) : Prop := Box4 w g (.string ByteArray.empty) (.string ByteArray.empty) (.bool false) (.slice none 0 0)
set_option maxHeartbeats 1600000 in
theorem drawId_any {cs : List UInt8} {a : Option Addr} {cap b off c : Nat} (s : Nat × Nat) (w : World) (hc : Cur w cs a cap b off c s) :
    Calls Try.prog 76 #[.pointer (some ⟨c, 0, none⟩)] w fun e w' => DrewL cs a cap b off c (cIdT cs s) w e w' := by
  have hlt := hc.lt
  have R0 := Box4.new w (.string ByteArray.empty) (.string ByteArray.empty) (.bool false) (.slice none 0 0)
  have hs0 : (w.alloc (.cells #[.string ByteArray.empty, .string ByteArray.empty, .bool false, .slice none 0 0] 40)).heap.size = w.heap.size + 1 := by simp
  have HO0 := (show Hid (Out c (c + 1) w (w.alloc (.cells #[.string ByteArray.empty, .string ByteArray.empty, .bool false, .slice none 0 0] 40))) from Out.of_below (bel_alloc _ _))
  have hb1 := bel_alloc (w.alloc (.cells #[.string ByteArray.empty, .string ByteArray.empty, .bool false, .slice none 0 0] 40)) (.cells #[.string ⟨#[120]⟩, .string ⟨#[121]⟩, .string ⟨#[122]⟩, .string ⟨#[102]⟩, .string ⟨#[121, 49]⟩, .string ⟨#[120, 50]⟩] 9)
  have hcl := pick_any 6 _ ((hc.still (bel_alloc w (.cells #[.string ByteArray.empty, .string ByteArray.empty, .bool false, .slice none 0 0] 40))).still hb1) (by decide)
  have hl := cPick_lt cs 6 s (by decide)
  have hps : (pickOf idL (cPick cs 6 s).1).size ≤ 2 := pickOf_size (by decide) _
  have e : cIdT cs s = (lf ⟨#[73, 100]⟩ (pickOf idL (cPick cs 6 s).1), (cPick cs 6 s).2) := rfl
  rw [e]
  have HCL := (show Hid _ from hcl); clear hcl hc e
  generalize cPick cs 6 s = q at *
  obtain ⟨q, s1⟩ := q
  dsimp only at hl hps ⊢
  have x0 := cell_pick (w.alloc (.cells #[.string ByteArray.empty, .string ByteArray.empty, .bool false, .slice none 0 0] 40)) idL 9 #[.string ⟨#[120]⟩, .string ⟨#[121]⟩, .string ⟨#[122]⟩, .string ⟨#[102]⟩, .string ⟨#[121, 49]⟩, .string ⟨#[120, 50]⟩] rfl q hl
  rw [hs0] at x0
  have HX := (show Hid _ from x0); clear x0
  have HR1 := (show Hid _ from Box4.still R0 hb1)
  have HO1 := (show Hid (Out c (c + 1) w _) from Out.below HO0.out hb1)
  clear R0 hb1 HO0 hs0
  go_enter Try.func76, Try.ntmps76
  go_wp2_with fail
  refine Calls.mono HCL.out ?_
  rintro e w1 ⟨rfl, ho1, hs1, hc1⟩
  have x1 := Out.cell ho1 HX.out (.inr (by omega))
  have HR2 := (show Hid _ from Box4.out HR1.out ho1 (by omega))
  have HO2 := (show Hid (Out c (c + 1) w w1) from Out.trans HO1.out ho1)
  have HC1 := (show Hid _ from hc1)
  clear ho1 hs1 hc1 HCL HX HR1 HO1
  dsimp only
  go_wp2_with fail
  refine Calls.mono (leafD_any _ _ w1) ?_
  rintro e w2 ⟨rfl, hb2⟩
  have R3 := Box4.still HR2.out hb2
  obtain ⟨Z0, Z1, Z2, Z3⟩ := R3.cells
  have y0 := R3.frozen 0
  have y1 := R3.frozen 1
  have y2 := R3.frozen 2
  have y3 := R3.frozen 3
  have HO3 := (show Hid (Out c (c + 1) w w2) from Out.below HO2.out hb2)
  have HC2 := (show Hid _ from Cur.still HC1.out hb2)
  clear R3 hb2 HO2 HC1 x1
  go_wp2_with fail
  refine bodyPost_ret (v := .agg #[.string ⟨#[73, 100]⟩, .string (pickOf idL q), .bool true, .slice none 0 0]) (by simp [results, Try.results76, go_sem, Z0, Z1, Z2, Z3]) rfl ?_
  exact drew_end (r := (lf ⟨#[73, 100]⟩ (pickOf idL q), s1)) HO3.out hlt HC2.out (lies_nil _ _ _ _ _ (by decide) (by unfold maxLen; omega))
end Go.Proofs.Ytledclkmeikgdaa.T

/-! Terms drawn. -/
namespace Go.Proofs.Ytledclkmeikgdaa.T
open Go.RowKit Go.Deep Go.Lib
set_option linter.unusedVariables false
set_option maxRecDepth 100000
set_option linter.unusedSimpArgs false

/-- As a drawing call stands: its answer's box is made, nothing else is touched. -/
def At (cs : List UInt8) (a : Option Addr) (cap b off c : Nat) (w : World) (s : Nat × Nat) (w' : World) : Prop := Out c (c + 1) w w' ∧ zB w' w.heap.size ∧ Cur w' cs a cap b off c s
theorem At.new {cs : List UInt8} {a : Option Addr} {cap b off c : Nat} {s : Nat × Nat} {w : World} (hc : Cur w cs a cap b off c s) : At cs a cap b off c w s (w.alloc (.cells #[.string ByteArray.empty, .string ByteArray.empty, .bool false, .slice none 0 0] 40)) :=
  ⟨Out.of_below (bel_alloc _ _), Box4.new w _ _ _ _, hc.still (bel_alloc _ _)⟩
theorem At.still {cs : List UInt8} {a : Option Addr} {cap b off c : Nat} {s : Nat × Nat} {w w1 w2 : World} (h : At cs a cap b off c w s w1) (hb : Below w1.heap.size w1 w2) : At cs a cap b off c w s w2 :=
  ⟨Out.below h.1 hb, Box4.still h.2.1 hb, h.2.2.still hb⟩
theorem At.out {cs : List UInt8} {a : Option Addr} {cap b off c : Nat} {s s2 : Nat × Nat} {w w1 w2 : World} (h : At cs a cap b off c w s w1) (hlt : c < w.heap.size) (ho : Out c (c + 1) w1 w2) (hc : Cur w2 cs a cap b off c s2) : At cs a cap b off c w s2 w2 :=
  ⟨Out.trans h.1 ho, Box4.out h.2.1 ho hlt, hc⟩
theorem At.size {cs : List UInt8} {a : Option Addr} {cap b off c : Nat} {s : Nat × Nat} {w w1 : World} (h : At cs a cap b off c w s w1) : w.heap.size + 1 ≤ w1.heap.size := h.2.1.lt
theorem At.drew {cs : List UInt8} {a : Option Addr} {cap b off c : Nat} {s : Nat × Nat} {w w1 : World} (h : At cs a cap b off c w s w1) : At cs a cap b off c w s w1.drew := h.still (Below.refl w1.heap.size w1).drew
/-- What lies above the answer's box lies there still. -/
theorem lies_out {c m : Nat} {w w' : World} {t : Tr} {v : Value} (h : Lies w (fun q => m ≤ q) t v) (ho : Out c (c + 1) w w') (hm : c < m) : Lies w' (fun q => m ≤ q) t v := by
  have h1 := Lies.keep (w' := w') (fun q hq => ho.2.2.2.2 q hq.2 (by have h1 : m ≤ q := hq.1; omega)) h.lt
  exact h1.mono (fun q hq => hq.1)
theorem drew_at {cs : List UInt8} {a : Option Addr} {cap b off c : Nat} {w wE : World} {r : Tr × (Nat × Nat)} {v : Value} (h : At cs a cap b off c w r.2 wE) (hlt : c < w.heap.size) (hl : Lies wE (fun q => w.heap.size + 1 ≤ q) r.1 v) :
    DrewL cs a cap b off c r w (.returned (r.1.val v)) ((((wE.setCell ⟨w.heap.size, 0, none⟩ (.string r.1.name)).setCell ⟨w.heap.size, 1, none⟩ (.string r.1.text)).setCell ⟨w.heap.size, 2, none⟩ (.bool r.1.leaf)).setCell ⟨w.heap.size, 3, none⟩ v) := drew_end h.1 hlt h.2.2 hl

set_option maxHeartbeats 3200000 in
theorem drawTm0_any {cs : List UInt8} {a : Option Addr} {cap b off c : Nat} (s : Nat × Nat) (w : World) (hc : Cur w cs a cap b off c s) :
    Calls Try.prog 31 #[.pointer (some ⟨c, 0, none⟩), .int .i64 0] w fun e w' => DrewL cs a cap b off c (cTm0 cs s) w e w' := by
  have hlt := hc.lt
  have HA := (show Hid (At cs a cap b off c w s (w.alloc (.cells #[.string ByteArray.empty, .string ByteArray.empty, .bool false, .slice none 0 0] 40))) from At.new hc)
  have hpk := pick_any 6 _ HA.out.2.2 (by decide)
  have HPK := (show Hid _ from hpk); clear hpk hc
  have e0 : cTm0 cs s = if (cPick cs 6 s).1 = 0 then (lf ⟨#[78, 117, 109]⟩ (pickOf nuL (cPick cs 4 (cPick cs 6 s).2).1), (cPick cs 4 (cPick cs 6 s).2).2)
    else if (cPick cs 6 s).1 = 1 then (lf (pickOf ynL (cPick cs 2 (cPick cs 6 s).2).1) ⟨#[]⟩, (cPick cs 2 (cPick cs 6 s).2).2) else cIdT cs (cPick cs 6 s).2 := rfl
  generalize cPick cs 6 s = q at *
  obtain ⟨k, s1⟩ := q
  dsimp only at e0
  go_enter Try.func31, Try.ntmps31
  go_wp2_with fail
  refine Calls.mono HPK.out ?_
  rintro e w1 ⟨rfl, ho1, hs1, hc1⟩
  have HA1 := (show Hid (At cs a cap b off c w s1 w1) from HA.out.out hlt ho1 hc1)
  clear HA HPK ho1 hs1 hc1
  dsimp only
  by_cases h0 : k = 0
  · subst h0
    rw [if_pos rfl] at e0
    have hb1 := bel_alloc w1 (.cells #[.string ⟨#[48]⟩, .string ⟨#[49]⟩, .string ⟨#[52, 50]⟩, .string ⟨#[55]⟩] 9)
    have hcl := pick_any 4 _ (HA1.out.still hb1).2.2 (by decide)
    have hl := cPick_lt cs 4 s1 (by decide)
    have hps : (pickOf nuL (cPick cs 4 s1).1).size ≤ 3 := pickOf_size (by decide) _
    have HCL := (show Hid _ from hcl); clear hcl
    generalize cPick cs 4 s1 = q at *
    obtain ⟨q, s2⟩ := q
    dsimp only at hl hps e0
    have HE := (show Hid _ from e0); clear e0
    have HX := (show Hid _ from cell_pick w1 nuL 9 #[.string ⟨#[48]⟩, .string ⟨#[49]⟩, .string ⟨#[52, 50]⟩, .string ⟨#[55]⟩] rfl q hl)
    have HA2 := (show Hid (At cs a cap b off c w s1 _) from HA1.out.still hb1)
    clear hb1
    go_wp2_with fail
    refine Calls.mono HCL.out ?_
    rintro e w2 ⟨rfl, ho2, hs2, hc2⟩
    have x1 := Out.cell ho2 HX.out (.inr (by have := HA1.out.size; omega))
    have HA3 := (show Hid (At cs a cap b off c w s2 w2) from HA2.out.out hlt ho2 hc2)
    clear ho2 hs2 hc2 HCL HX HA2 HA1
    dsimp only
    go_wp2_with fail
    refine Calls.mono (leafD_any _ _ w2) ?_
    rintro e w3 ⟨rfl, hb3⟩
    have HA4 := (show Hid (At cs a cap b off c w s2 w3) from HA3.out.still hb3)
    clear hb3 HA3 x1
    obtain ⟨Z0, Z1, Z2, Z3⟩ := Box4.cells HA4.out.2.1
    have y0 := Box4.frozen HA4.out.2.1 0
    have y1 := Box4.frozen HA4.out.2.1 1
    have y2 := Box4.frozen HA4.out.2.1 2
    have y3 := Box4.frozen HA4.out.2.1 3
    go_wp2_with fail
    refine bodyPost_ret (v := .agg #[.string ⟨#[78, 117, 109]⟩, .string (pickOf nuL q), .bool true, .slice none 0 0]) (by simp [results, Try.results31, go_sem, Z0, Z1, Z2, Z3]) rfl ?_
    rw [HE.out]
    exact drew_at (r := (lf ⟨#[78, 117, 109]⟩ (pickOf nuL q), s2)) HA4.out hlt (lies_nil _ _ _ _ _ (by decide) (by unfold maxLen; omega))
  · rw [if_neg h0] at e0
    have k0 : ((k : Int) == 0) = false := by simp; omega
    by_cases h1 : k = 1
    · subst h1
      rw [if_pos rfl] at e0
      have hb1 := bel_alloc w1 (.cells #[.string ⟨#[89, 101, 115]⟩, .string ⟨#[78, 111]⟩] 9)
      have hcl := pick_any 2 _ (HA1.out.still hb1).2.2 (by decide)
      have hl := cPick_lt cs 2 s1 (by decide)
      have hps : (pickOf ynL (cPick cs 2 s1).1).size ≤ 3 := pickOf_size (by decide) _
      have HCL := (show Hid _ from hcl); clear hcl
      generalize cPick cs 2 s1 = q at *
      obtain ⟨q, s2⟩ := q
      dsimp only at hl hps e0
      have HE := (show Hid _ from e0); clear e0
      have HX := (show Hid _ from cell_pick w1 ynL 9 #[.string ⟨#[89, 101, 115]⟩, .string ⟨#[78, 111]⟩] rfl q hl)
      have HA2 := (show Hid (At cs a cap b off c w s1 _) from HA1.out.still hb1)
      clear hb1
      go_wp2_with fail
      refine Calls.mono HCL.out ?_
      rintro e w2 ⟨rfl, ho2, hs2, hc2⟩
      have x1 := Out.cell ho2 HX.out (.inr (by have := HA1.out.size; omega))
      have HA3 := (show Hid (At cs a cap b off c w s2 w2) from HA2.out.out hlt ho2 hc2)
      clear ho2 hs2 hc2 HCL HX HA2 HA1
      dsimp only
      go_wp2_with fail
      refine Calls.mono (leafD_any _ _ w2) ?_
      rintro e w3 ⟨rfl, hb3⟩
      have HA4 := (show Hid (At cs a cap b off c w s2 w3) from HA3.out.still hb3)
      clear hb3 HA3 x1
      obtain ⟨Z0, Z1, Z2, Z3⟩ := Box4.cells HA4.out.2.1
      have y0 := Box4.frozen HA4.out.2.1 0
      have y1 := Box4.frozen HA4.out.2.1 1
      have y2 := Box4.frozen HA4.out.2.1 2
      have y3 := Box4.frozen HA4.out.2.1 3
      go_wp2_with fail
      refine bodyPost_ret (v := .agg #[.string (pickOf ynL q), .string ⟨#[]⟩, .bool true, .slice none 0 0]) (by simp [results, Try.results31, go_sem, Z0, Z1, Z2, Z3]) rfl ?_
      rw [HE.out]
      exact drew_at (r := (lf (pickOf ynL q) ⟨#[]⟩, s2)) HA4.out hlt (lies_nil _ _ _ _ _ (by unfold maxLen; omega) (by decide))
    · rw [if_neg h1] at e0
      have k1 : ((k : Int) == 1) = false := by simp; omega
      have hcl := drawId_any s1 w1 HA1.out.2.2
      have HCL := (show Hid _ from hcl); clear hcl
      generalize cIdT cs s1 = r at *
      obtain ⟨t, s2⟩ := r
      have HE := (show Hid _ from e0); clear e0
      go_wp2_with fail
      refine Calls.mono HCL.out ?_
      rintro e w2 ⟨xa, xm, xc, rfl, ho2, hc2, hl2⟩
      dsimp only at hc2 hl2 ⊢
      have HA3 := (show Hid (At cs a cap b off c w s2 w2) from HA1.out.out hlt ho2 hc2)
      have HL := (show Hid (Lies w2 (fun q => w.heap.size + 1 ≤ q) t (.slice xa xm xc)) from hl2.mono (fun q hq => by have h1 : w1.heap.size ≤ q := hq; have h2 := HA1.out.size; show w.heap.size + 1 ≤ q; omega))
      clear ho2 hc2 hl2 HCL HA1
      obtain ⟨Z0, Z1, Z2, Z3⟩ := Box4.cells HA3.out.2.1
      have y0 := Box4.frozen HA3.out.2.1 0
      have y1 := Box4.frozen HA3.out.2.1 1
      have y2 := Box4.frozen HA3.out.2.1 2
      have y3 := Box4.frozen HA3.out.2.1 3
      go_wp2_with fail
      refine bodyPost_ret (v := .agg #[.string t.name, .string t.text, .bool t.leaf, .slice xa xm xc]) (by simp [results, Try.results31, go_sem, Z0, Z1, Z2, Z3]) rfl ?_
      rw [HE.out]
      exact drew_at (r := (t, s2)) HA3.out hlt HL.out
end Go.Proofs.Ytledclkmeikgdaa.T
