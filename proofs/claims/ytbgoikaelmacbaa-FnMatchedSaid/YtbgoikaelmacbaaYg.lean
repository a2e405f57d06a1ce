import Derived.Test.YtbgoikaelmacbaaYf
import Derived.Deep.RegionHeld3
import Derived.Deep.CutRange
/-! Drawn patterns and trees: DrawMatch, walked. -/
namespace Go.Proofs.Ytbgoikaelmacbaa
open Go.RowKit Go.Deep Go.Lib
set_option linter.unusedVariables false
set_option maxRecDepth 100000
set_option linter.unusedSimpArgs false

theorem lin_low {W : World} {B g r o : Nat} {t : Tr} {v u : Value} (h : LiN W B g t v) (hr : r ≤ B) : LiN (W.setCell ⟨r, o, none⟩ u) B g t v := Lies.set h (fun hh => by have := hh.1; omega)
theorem out_but {c : Nat} {A B : World} (h : Out c (c + 1) A B) : But c A B := ⟨h.1, h.2.1, h.2.2.1, h.2.2.2.1, fun k hk hn => h.2.2.2.2 k hk (by omega)⟩
theorem dm_end {cs : List UInt8} {a : Option Addr} {cap b off c g5 g6 : Nat} {w w3 F : World} {s : Nat × Nat} {p t : Tr} {pv tv : Value} (h : Dm cs a cap b off c w3 w.heap.size g5 g6 F s p pv t tv) (hb : Below w.heap.size w w3) (hc : w.heap.size + 1 < c) (u0 u1 u2 u3 v0 v1 v2 v3 : Value) : Below w.heap.size w ((put4 (put4 F w.heap.size u0 u1 u2 u3) (w.heap.size + 1) v0 v1 v2 v3).drew) ∧ Lies ((put4 (put4 F w.heap.size u0 u1 u2 u3) (w.heap.size + 1) v0 v1 v2 v3).drew) (fun _ => True) p pv ∧ Lies ((put4 (put4 F w.heap.size u0 u1 u2 u3) (w.heap.size + 1) v0 v1 v2 v3).drew) (fun _ => True) t tv := by
  have hB : Below w.heap.size w F := hb.trans (But.below (out_but h.out) (by omega) hb.size)
  have hl : ∀ (x : Tr) (xv : Value), LiN F c g6 x xv → Lies ((put4 (put4 F w.heap.size u0 u1 u2 u3) (w.heap.size + 1) v0 v1 v2 v3).drew) (fun _ => True) x xv := fun x xv hx => by
    have h1 : LiN (put4 F w.heap.size u0 u1 u2 u3) c g6 x xv := lin_low (lin_low (lin_low (lin_low hx (by omega)) (by omega)) (by omega)) (by omega)
    have h2 : LiN (put4 (put4 F w.heap.size u0 u1 u2 u3) (w.heap.size + 1) v0 v1 v2 v3) c g6 x xv := lin_low (lin_low (lin_low (lin_low h1 (by omega)) (by omega)) (by omega)) (by omega)
    exact Lies.mono (fun _ _ => trivial) (LiN.drew h2)
  refine ⟨?_, hl _ _ h.lp, hl _ _ h.lt⟩
  have e1 : ∀ o, w.heap.size ≤ (⟨w.heap.size, o, none⟩ : Addr).block := fun _ => Nat.le_refl _
  have e2 : ∀ o, w.heap.size ≤ (⟨w.heap.size + 1, o, none⟩ : Addr).block := fun _ => Nat.le_succ _
  exact Below.drew ((((((((hB.setCell (e1 0) _).setCell (e1 1) _).setCell (e1 2) _).setCell (e1 3) _).setCell (e2 0) _).setCell (e2 1) _).setCell (e2 2) _).setCell (e2 3) _)
set_option maxHeartbeats 25600000 in
theorem drawMatch {cs : List UInt8} {a : Option Addr} {cap b off : Nat} (w : World) (h2 : cs.length ≤ 1048576) (h3 : cs.length ≤ cap) (h4 : cap ≤ 2 ^ 63 - 1) (hb : 0 < cs.length → b < w.heap.size) (h6 : 0 < cs.length → a = some ⟨b, off, none⟩) (h7 : Byts w cs b off) :
    Calls Try.prog 5 #[.slice a cs.length cap] w (DmA cs w) := by
  have hbw : Below w.heap.size w ((w.alloc zZ).alloc zZ) := bel_trans (bel_alloc _ _) (bel_alloc _ _)
  have h7' : Byts ((w.alloc zZ).alloc zZ) cs b off := fun i hi => (hbw.cell (lt_of_cell (h7 i hi))).trans (h7 i hi)
  have hcu := drawCur_any (cs := cs) (a := a) (cap := cap) (b := b) (off := off) ((w.alloc zZ).alloc zZ) h2 h3 h4 (fun h => by have := hb h; simp; omega) h6 h7'
  have hsz : ((w.alloc zZ).alloc zZ).heap.size = w.heap.size + 1 + 1 := by simp
  have B2 := (Box4.new w (.string ByteArray.empty) (.string ByteArray.empty) (.bool false) (.slice none 0 0)).still (bel_alloc (w.alloc zZ) zZ)
  have B3 := Box4.new (w.alloc zZ) (.string ByteArray.empty) (.string ByteArray.empty) (.bool false) (.slice none 0 0)
  have hs1 : (w.alloc zZ).heap.size = w.heap.size + 1 := by simp
  rw [hs1] at B3
  rw [hsz] at hcu
  have HCU := (show Hid _ from hcu)
  have HB := (show Hid (Below w.heap.size w ((w.alloc zZ).alloc zZ) ∧ Box4 ((w.alloc zZ).alloc zZ) w.heap.size (.string ByteArray.empty) (.string ByteArray.empty) (.bool false) (.slice none 0 0) ∧ Box4 ((w.alloc zZ).alloc zZ) (w.heap.size + 1) (.string ByteArray.empty) (.string ByteArray.empty) (.bool false) (.slice none 0 0)) from ⟨hbw, B2, B3⟩)
  have HSPO := (show Hid (∀ (W : World) (cc : Nat), Cur W cs a cap b off cc (0, 17 + cs.length) → Calls Try.prog 15 #[.pointer (some ⟨cc, 0, none⟩)] W fun e w' => DrewL cs a cap b off cc (cM1 cs) W e w') from fun W cc h => drawSpo _ W h)
  have HT2 := (show Hid (∀ W : World, Cur W cs a cap b off (w.heap.size + 1 + 1) (cM1 cs).2 → Calls Try.prog 16 #[.pointer (some ⟨w.heap.size + 1 + 1, 0, none⟩), .int .i64 3] W fun e w' => DrewL cs a cap b off (w.heap.size + 1 + 1) (cM2 cs) W e w') from fun W h => drawTerm 3 (by decide) _ W h)
  have HTx := (show Hid (∀ W : World, Cur W cs a cap b off (w.heap.size + 1 + 1) (cMk cs).2 → Calls Try.prog 16 #[.pointer (some ⟨w.heap.size + 1 + 1, 0, none⟩), .int .i64 1] W fun e w' => DrewL cs a cap b off (w.heap.size + 1 + 1) (cMx cs) W e w') from fun W h => drawTerm 1 (by decide) _ W h)
  have HTy := (show Hid (∀ W : World, Cur W cs a cap b off (w.heap.size + 1 + 1) (cMx cs).2 → Calls Try.prog 16 #[.pointer (some ⟨w.heap.size + 1 + 1, 0, none⟩), .int .i64 1] W fun e w' => DrewL cs a cap b off (w.heap.size + 1 + 1) (cMy cs) W e w') from fun W h => drawTerm 1 (by decide) _ W h)
  have HTz := (show Hid (∀ W : World, Cur W cs a cap b off (w.heap.size + 1 + 1) (cMy cs).2 → Calls Try.prog 16 #[.pointer (some ⟨w.heap.size + 1 + 1, 0, none⟩), .int .i64 1] W fun e w' => DrewL cs a cap b off (w.heap.size + 1 + 1) (cMz cs) W e w') from fun W h => drawTerm 1 (by decide) _ W h)
  have HK2 := (show Hid (∀ W : World, Cur W cs a cap b off (w.heap.size + 1 + 1) (cM2 cs).2 → Calls Try.prog 17 #[.pointer (some ⟨w.heap.size + 1 + 1, 0, none⟩), .int .i64 2] W fun e w' => e = .returned (.int .i64 (cMk cs).1) ∧ Out (w.heap.size + 1 + 1) (w.heap.size + 1 + 1 + 1) W w' ∧ w'.heap.size = W.heap.size ∧ Cur w' cs a cap b off (w.heap.size + 1 + 1) (cMk cs).2) from fun W h => pick_any 2 W h (by decide))
  have HPK := (show Hid (∀ (n : Nat) (W : World) (cc : Nat) (s : Nat × Nat), Cur W cs a cap b off cc s → n ≤ 1048576 → Calls Try.prog 17 #[.pointer (some ⟨cc, 0, none⟩), .int .i64 n] W fun e w' => e = .returned (.int .i64 (cPick cs n s).1) ∧ Out cc (cc + 1) W w' ∧ w'.heap.size = W.heap.size ∧ Cur w' cs a cap b off cc (cPick cs n s).2) from fun n W cc s h hn => pick_any n W h hn)
  have HAN := (show Hid (∀ (W : World) (cc : Nat) (s : Nat × Nat), Cur W cs a cap b off cc s → Calls Try.prog 19 #[.pointer (some ⟨cc, 0, none⟩)] W fun e w' => DrewL cs a cap b off cc (cAny cs s) W e w') from fun W cc s h => drawAny_any s W h)
  have HMP := (show Hid (cMp cs = (cM1 cs).1) from rfl)
  have HMT := (show Hid (∀ r : Tr × (Nat × Nat), cM3 cs = r → cMt cs = if (cPick cs 16 r.2).1 = 0 then (cAny cs (cPick cs 16 r.2).2).1 else r.1) from fun r hr => by unfold cMt cM4; rw [hr])
  have HM3a := (show Hid ((cMk cs).1 = 0 → (fiR (cM1 cs).1 (cMb cs)).2 = 0 → cM3 cs = ((fiR (cM1 cs).1 (cMb cs)).1, (cMz cs).2)) from fun h1 h2 => by unfold cM3; rw [if_pos h1, if_pos h2])
  have HM3b := (show Hid ((cMk cs).1 = 0 → ¬ (fiR (cM1 cs).1 (cMb cs)).2 = 0 → cM3 cs = ((cM2 cs).1, (cMz cs).2)) from fun h1 h2 => by unfold cM3; rw [if_pos h1, if_neg h2])
  have HM3c := (show Hid (¬ (cMk cs).1 = 0 → cM3 cs = ((cM2 cs).1, (cMk cs).2)) from fun h1 => by unfold cM3; rw [if_neg h1])
  have hmk := cPick_lt cs 2 (cM2 cs).2 (by decide)
  clear hcu hbw B2 B3 h7' h7 hb
  go_enter Try.func5, Try.ntmps5
  go_wp2_with fail
  refine Calls.mono HCU.out ?_
  rintro e w3 ⟨rfl, hb3', hz3, hc3⟩
  have hb3 : Below ((w.alloc zZ).alloc zZ).heap.size ((w.alloc zZ).alloc zZ) w3 := by rw [hsz]; exact hb3'
  have hw3 : w3.heap.size = w.heap.size + 1 + 1 + 1 := by rw [hz3]
  have HB3 := (show Hid (Below w.heap.size w w3 ∧ Box4 w3 w.heap.size (.string ByteArray.empty) (.string ByteArray.empty) (.bool false) (.slice none 0 0) ∧ Box4 w3 (w.heap.size + 1) (.string ByteArray.empty) (.string ByteArray.empty) (.bool false) (.slice none 0 0)) from ⟨bel_trans HB.out.1 hb3, Box4.still HB.out.2.1 hb3, Box4.still HB.out.2.2 hb3⟩)
  have HC1 := (show Hid _ from HSPO.out w3 _ hc3)
  clear hb3 hb3' hz3 hc3 HCU HB HSPO
  have hcd : w.heap.size + 1 + 1 = w.heap.size + 2 := rfl
  go_wp2_with fail
  refine Calls.mono HC1.out ?_
  rintro e w4 ⟨pa, pm, pc, rfl, ho4, hc4, hl4⟩
  simp only [Tr.val]
  have hz4 := ho4.2.2.2.1
  have hl4' : Lies w4 (fun q => w3.heap.size ≤ q ∧ q < w4.heap.size) (cM1 cs).1 (.slice pa pm pc) := Lies.lt hl4
  have HP4 := (show Hid (Lies (w4.alloc (.cells #[.string (cM1 cs).1.name, .string (cM1 cs).1.text, .bool (cM1 cs).1.leaf, .slice pa pm pc] 26)) (fun q => w3.heap.size ≤ q ∧ q < w4.heap.size) (cM1 cs).1 (.slice pa pm pc) ∧ Box4 (w4.alloc (.cells #[.string (cM1 cs).1.name, .string (cM1 cs).1.text, .bool (cM1 cs).1.leaf, .slice pa pm pc] 26)) w4.heap.size (.string (cM1 cs).1.name) (.string (cM1 cs).1.text) (.bool (cM1 cs).1.leaf) (.slice pa pm pc) ∧ Out (w.heap.size + 1 + 1) (w.heap.size + 1 + 1 + 1) w3 (w4.alloc (.cells #[.string (cM1 cs).1.name, .string (cM1 cs).1.text, .bool (cM1 cs).1.leaf, .slice pa pm pc] 26)) ∧ Box4 (w4.alloc (.cells #[.string (cM1 cs).1.name, .string (cM1 cs).1.text, .bool (cM1 cs).1.leaf, .slice pa pm pc] 26)) w.heap.size (.string ByteArray.empty) (.string ByteArray.empty) (.bool false) (.slice none 0 0) ∧ Box4 (w4.alloc (.cells #[.string (cM1 cs).1.name, .string (cM1 cs).1.text, .bool (cM1 cs).1.leaf, .slice pa pm pc] 26)) (w.heap.size + 1) (.string ByteArray.empty) (.string ByteArray.empty) (.bool false) (.slice none 0 0)) from ⟨hl4'.still (bel_alloc _ _), Box4.new _ _ _ _ _, Out.below ho4 (bel_alloc _ _), (Box4.keep HB3.out.2.1 (ho4.2.2.2.2 _ (by omega) (by omega))).still (bel_alloc _ _), (Box4.keep HB3.out.2.2 (ho4.2.2.2.2 _ (by omega) (by omega))).still (bel_alloc _ _)⟩)
  have HC2 := (show Hid _ from HT2.out (w4.alloc (.cells #[.string (cM1 cs).1.name, .string (cM1 cs).1.text, .bool (cM1 cs).1.leaf, .slice pa pm pc] 26)) (hc4.still (bel_alloc _ _)))
  have HB5 := (show Hid (Below w.heap.size w w3) from HB3.out.1)
  clear ho4 hc4 hl4 hl4' HC1 HB3
  go_wp2_with fail
  refine Calls.mono HC2.out ?_
  rintro e w5 ⟨ta, tm, tc, rfl, ho5, hc5, hl5⟩
  simp only [Tr.val]
  have hz5 : w4.heap.size + 1 ≤ w5.heap.size := by have := ho5.2.2.2.1; simpa using this
  have HD0 := (show Hid (Dm cs a cap b off (w.heap.size + 1 + 1) w3 w.heap.size w4.heap.size w5.heap.size (w5.alloc (.cells #[.string (cM2 cs).1.name, .string (cM2 cs).1.text, .bool (cM2 cs).1.leaf, .slice ta tm tc] 26)) (cM2 cs).2 (cM1 cs).1 (.slice pa pm pc) (cM2 cs).1 (.slice ta tm tc)) from (by
    obtain ⟨l1, g1, o1, r1, r2⟩ := HP4.out
    refine ⟨Out.below (o1.trans ho5) (bel_alloc _ _), hc5.still (bel_alloc _ _), (r1.keep (ho5.2.2.2.2 _ r1.lt (by omega))).still (bel_alloc _ _), (r2.keep (ho5.2.2.2.2 _ r2.lt (by omega))).still (bel_alloc _ _), (g1.keep (ho5.2.2.2.2 _ g1.lt (by omega))).still (bel_alloc _ _), Box4.new _ _ _ _ _, ?_, ?_⟩
    · exact Lies.still (Lies.mono (S := fun q => w3.heap.size ≤ q ∧ q < w4.heap.size) (fun q hq => ⟨by omega, by omega⟩) (l1.keep (fun q hq => ho5.2.2.2.2 q (by simp; omega) (by omega)))) (bel_alloc _ _)
    · exact Lies.still (Lies.mono (fun q hq => ⟨by have h1 : (w4.alloc (.cells #[.string (cM1 cs).1.name, .string (cM1 cs).1.text, .bool (cM1 cs).1.leaf, .slice pa pm pc] 26)).heap.size ≤ q := hq.1; simp at h1; omega, by have h1 := hq.2; omega⟩) (Lies.lt hl5)) (bel_alloc _ _)))
  have hg : w.heap.size + 1 + 1 < w4.heap.size ∧ w4.heap.size < w5.heap.size := ⟨by omega, by omega⟩
  have hg' : w.heap.size + 1 + 1 < w4.heap.size ∧ w.heap.size + 1 + 1 < w5.heap.size := ⟨by omega, by omega⟩
  have hw35 : w3.heap.size ≤ w5.heap.size := by omega
  have hrc : w.heap.size + 1 < w.heap.size + 1 + 1 := Nat.lt_succ_self _
  have HFIN := (show Hid (∀ (F : World) (s : Nat × Nat) (T : Tr) (xa : Option Addr) (xm xc : Nat) (u0 u1 u2 u3 v0 v1 v2 v3 : Value), Dm cs a cap b off (w.heap.size + 1 + 1) w3 w.heap.size w4.heap.size w5.heap.size F s (cM1 cs).1 (.slice pa pm pc) T (.slice xa xm xc) → cMt cs = T → DmA cs w (.returned (.tuple #[.agg #[.string (cM1 cs).1.name, .string (cM1 cs).1.text, .bool (cM1 cs).1.leaf, .slice pa pm pc], .agg #[.string T.name, .string T.text, .bool T.leaf, .slice xa xm xc]])) ((put4 (put4 F w.heap.size u0 u1 u2 u3) (w.heap.size + 1) v0 v1 v2 v3).drew)) from fun F s T xa xm xc u0 u1 u2 u3 v0 v1 v2 v3 hd ht => by
    obtain ⟨e1, e2, e3⟩ := dm_end hd HB5.out hrc u0 u1 u2 u3 v0 v1 v2 v3
    exact ⟨pa, xa, pm, pc, xm, xc, by rw [ht]; rfl, e1, e2, by rw [ht]; exact e3⟩)
  have HC3 := (show Hid _ from HK2.out _ HD0.out.cur)
  clear ho5 hc5 hl5 HC2 HP4 hz4
  go_wp2_with fail
  refine Calls.mono HC3.out ?_
  rintro e w6 ⟨rfl, ho6, hz6, hc6⟩
  have HD := ymP HD0 hrc hg' ho6 hc6
  clear ho6 hz6 hc6 HC3 HD0
  by_cases hk : (cMk cs).1 = 0
  case neg =>
    have hke : (((cMk cs).1 : Int) == 0) = false := by
      simp
      omega
    have hM3 := HM3c.out hk
    have HMt := (show Hid _ from HMT.out _ hM3)
    have HC16 := (show Hid _ from HPK.out 16 _ _ (cMk cs).2 HD.out.cur (by decide))
    clear HMT HM3a HM3b HM3c hM3
    go_wp2_with fail
    refine Calls.mono HC16.out ?_
    rintro e x1 ⟨rfl, hox, hzx, hcx⟩
    have HX := ymP HD hrc hg' hox hcx
    clear hox hzx hcx HC16
    by_cases h16 : (cPick cs 16 (cMk cs).2).1 = 0
    · have HMu := (show Hid (cMt cs = (cAny cs (cPick cs 16 (cMk cs).2).2).1) from HMt.out.trans (if_pos h16))
      have HCA := (show Hid _ from HAN.out x1 _ _ HX.out.cur)
      rw [h16]
      clear h16
      go_wp2_with fail
      refine Calls.mono HCA.out ?_
      rintro e x2 ⟨ua, um, uc, rfl, hoy, hcy, hly⟩
      simp only [Tr.val]
      have HY := ymP HX hrc hg' hoy hcy
      have h6x := HX.out.b6.lt
      have LU : LiN x2 (w.heap.size + 1 + 1) w5.heap.size (cAny cs (cPick cs 16 (cMk cs).2).2).1 (.slice ua um uc) := Lies.mono (fun q hq => by have h2 : x1.heap.size ≤ q := hq; exact ⟨by omega, by omega⟩) hly
      have HZ := ymT HY hrc hg hw35 LU
      obtain ⟨A0, A1, A2, A3⟩ := HY.out.b6.cells
      have x0 := HY.out.b6.frozen 0
      have x1' := HY.out.b6.frozen 1
      have x2' := HY.out.b6.frozen 2
      have x3' := HY.out.b6.frozen 3
      clear hoy hcy hly LU HCA HX HMt
      obtain ⟨P0, P1, P2, P3⟩ := HZ.out.b5.cells
      obtain ⟨T0, T1, T2, T3⟩ := HZ.out.b6.cells
      obtain ⟨Z0, Z1, Z2, Z3⟩ := HZ.out.b2.cells
      obtain ⟨Y0, Y1, Y2, Y3⟩ := HZ.out.b3.cells
      have fz0 := HZ.out.b2.frozen 0
      have fz1 := HZ.out.b2.frozen 1
      have fz2 := HZ.out.b2.frozen 2
      have fz3 := HZ.out.b2.frozen 3
      have fy0 := HZ.out.b3.frozen 0
      have fy1 := HZ.out.b3.frozen 1
      have fy2 := HZ.out.b3.frozen 2
      have fy3 := HZ.out.b3.frozen 3
      have ne1 : w.heap.size ≠ w.heap.size + 1 := by omega
      have ne2 : w.heap.size + 1 ≠ w.heap.size := by omega
      go_wp2_with fail
      go_region
      all_goals
        go_wp2_with fail
        refine bodyPost_ret (v := .tuple #[.agg #[.string (cM1 cs).1.name, .string (cM1 cs).1.text, .bool (cM1 cs).1.leaf, .slice pa pm pc], .agg #[.string (cAny cs (cPick cs 16 (cMk cs).2).2).1.name, .string (cAny cs (cPick cs 16 (cMk cs).2).2).1.text, .bool (cAny cs (cPick cs 16 (cMk cs).2).2).1.leaf, .slice ua um uc]]) (by simp [results, Try.results5, go_sem, Z0, Z1, Z2, Z3, Y0, Y1, Y2, Y3]) rfl ?_
        exact HFIN.out _ _ _ _ _ _ _ _ _ _ _ _ _ _ HZ.out (HMu.out)
    · have HMu := (show Hid (cMt cs = (cM2 cs).1) from HMt.out.trans (if_neg h16))
      have hne : (((cPick cs 16 (cMk cs).2).1 : Int) == 0) = false := by simp; omega
      clear HMt
      obtain ⟨P0, P1, P2, P3⟩ := HX.out.b5.cells
      obtain ⟨T0, T1, T2, T3⟩ := HX.out.b6.cells
      obtain ⟨Z0, Z1, Z2, Z3⟩ := HX.out.b2.cells
      obtain ⟨Y0, Y1, Y2, Y3⟩ := HX.out.b3.cells
      have fz0 := HX.out.b2.frozen 0
      have fz1 := HX.out.b2.frozen 1
      have fz2 := HX.out.b2.frozen 2
      have fz3 := HX.out.b2.frozen 3
      have fy0 := HX.out.b3.frozen 0
      have fy1 := HX.out.b3.frozen 1
      have fy2 := HX.out.b3.frozen 2
      have fy3 := HX.out.b3.frozen 3
      have ne1 : w.heap.size ≠ w.heap.size + 1 := by omega
      have ne2 : w.heap.size + 1 ≠ w.heap.size := by omega
      go_wp2_with fail
      go_region
      all_goals
        go_wp2_with fail
        refine bodyPost_ret (v := .tuple #[.agg #[.string (cM1 cs).1.name, .string (cM1 cs).1.text, .bool (cM1 cs).1.leaf, .slice pa pm pc], .agg #[.string (cM2 cs).1.name, .string (cM2 cs).1.text, .bool (cM2 cs).1.leaf, .slice ta tm tc]]) (by simp [results, Try.results5, go_sem, Z0, Z1, Z2, Z3, Y0, Y1, Y2, Y3]) rfl ?_
        exact HFIN.out _ _ _ _ _ _ _ _ _ _ _ _ _ _ HX.out (HMu.out)
  case pos =>
    rw [hk]
    have HCx := (show Hid _ from HTx.out w6 HD.out.cur)
    go_wp2_with fail
    refine Calls.mono HCx.out ?_
    rintro e w7 ⟨xa, xm, xc, rfl, ho7, hc7, hl7⟩
    simp only [Tr.val]
    have h66 := HD.out.b6.lt
    have HD7 := ymP HD hrc hg' ho7 hc7
    have X7 := (show Hid (LiB w7 (w.heap.size + 1 + 1) (cMx cs).1 (.slice xa xm xc)) from Lies.mono (fun q hq => by have h2 : w6.heap.size ≤ q := hq; show w.heap.size + 1 + 1 < q; omega) hl7)
    have HCy := (show Hid _ from HTy.out w7 HD7.out.cur)
    clear ho7 hc7 hl7 HCx HD
    go_wp2_with fail
    refine Calls.mono HCy.out ?_
    rintro e w8 ⟨ya, ym, yc, rfl, ho8, hc8, hl8⟩
    simp only [Tr.val]
    have h67 := HD7.out.b6.lt
    have HD8 := ymP HD7 hrc hg' ho8 hc8
    have X8 := (show Hid (LiB w8 (w.heap.size + 1 + 1) (cMx cs).1 (.slice xa xm xc)) from Lies.mono (fun q hq => hq.1) ((Lies.lt X7.out).keep (fun q hq => ho8.2.2.2.2 q hq.2 (by have := hq.1; omega))))
    have Y8 := (show Hid (LiB w8 (w.heap.size + 1 + 1) (cMy cs).1 (.slice ya ym yc)) from Lies.mono (fun q hq => by have h2 : w7.heap.size ≤ q := hq; show w.heap.size + 1 + 1 < q; omega) hl8)
    have HCz := (show Hid _ from HTz.out w8 HD8.out.cur)
    clear ho8 hc8 hl8 HCy HD7 X7
    go_wp2_with fail
    refine Calls.mono HCz.out ?_
    rintro e w9 ⟨za, zm, zc, rfl, ho9, hc9, hl9⟩
    simp only [Tr.val]
    have h68 := HD8.out.b6.lt
    have HD9 := ymP HD8 hrc hg' ho9 hc9
    have X9 := Lies.mono (S' := fun _ => True) (fun _ _ => trivial) ((Lies.lt X8.out).keep (w' := w9) (fun q hq => ho9.2.2.2.2 q hq.2 (by have := hq.1; omega)))
    have Y9 := Lies.mono (S' := fun _ => True) (fun _ _ => trivial) ((Lies.lt Y8.out).keep (w' := w9) (fun q hq => ho9.2.2.2.2 q hq.2 (by have := hq.1; omega)))
    have Z9 := Lies.mono (S' := fun _ => True) (fun _ _ => trivial) hl9
    have hbl : BLi (w9.alloc (.cells #[.string ⟨#[120]⟩, .string (cMx cs).1.name, .string (cMx cs).1.text, .bool (cMx cs).1.leaf, .slice xa xm xc, .string ⟨#[121]⟩, .string (cMy cs).1.name, .string (cMy cs).1.text, .bool (cMy cs).1.leaf, .slice ya ym yc, .string ⟨#[122]⟩, .string (cMz cs).1.name, .string (cMz cs).1.text, .bool (cMz cs).1.leaf, .slice za zm zc] 47)) (cMb cs) (.slice (some ⟨w9.heap.size, 0, none⟩) 3 3) := bl3 w9 (cMx cs).1 (cMy cs).1 (cMz cs).1 xa ya za xm xc ym yc zm zc X9 Y9 Z9
    have HDA := ymB HD9 (bel_alloc w9 (.cells #[.string ⟨#[120]⟩, .string (cMx cs).1.name, .string (cMx cs).1.text, .bool (cMx cs).1.leaf, .slice xa xm xc, .string ⟨#[121]⟩, .string (cMy cs).1.name, .string (cMy cs).1.text, .bool (cMy cs).1.leaf, .slice ya ym yc, .string ⟨#[122]⟩, .string (cMz cs).1.name, .string (cMz cs).1.text, .bool (cMz cs).1.leaf, .slice za zm zc] 47))
    have hlp : Lies (w9.alloc (.cells #[.string ⟨#[120]⟩, .string (cMx cs).1.name, .string (cMx cs).1.text, .bool (cMx cs).1.leaf, .slice xa xm xc, .string ⟨#[121]⟩, .string (cMy cs).1.name, .string (cMy cs).1.text, .bool (cMy cs).1.leaf, .slice ya ym yc, .string ⟨#[122]⟩, .string (cMz cs).1.name, .string (cMz cs).1.text, .bool (cMz cs).1.leaf, .slice za zm zc] 47)) (fun _ => True) (cM1 cs).1 (.slice pa pm pc) := Lies.mono (fun _ _ => trivial) HDA.out.lp
    have HFI := (show Hid (Calls Try.prog 18 #[.agg #[.string (cM1 cs).1.name, .string (cM1 cs).1.text, .bool (cM1 cs).1.leaf, .slice pa pm pc], .slice (some ⟨w9.heap.size, 0, none⟩) 3 3] (w9.alloc (.cells #[.string ⟨#[120]⟩, .string (cMx cs).1.name, .string (cMx cs).1.text, .bool (cMx cs).1.leaf, .slice xa xm xc, .string ⟨#[121]⟩, .string (cMy cs).1.name, .string (cMy cs).1.text, .bool (cMy cs).1.leaf, .slice ya ym yc, .string ⟨#[122]⟩, .string (cMz cs).1.name, .string (cMz cs).1.text, .bool (cMz cs).1.leaf, .slice za zm zc] 47)) (FiA (cM1 cs).1 (cMb cs) (w9.alloc (.cells #[.string ⟨#[120]⟩, .string (cMx cs).1.name, .string (cMx cs).1.text, .bool (cMx cs).1.leaf, .slice xa xm xc, .string ⟨#[121]⟩, .string (cMy cs).1.name, .string (cMy cs).1.text, .bool (cMy cs).1.leaf, .slice ya ym yc, .string ⟨#[122]⟩, .string (cMz cs).1.name, .string (cMz cs).1.text, .bool (cMz cs).1.leaf, .slice za zm zc] 47)))) from sFill17 (cM1 cs).1 (cMb cs) _ _ _ hlp hbl (fun i hi => by
      rcases (show i = 0 ∨ i = 1 ∨ i = 2 by have : i < 3 := hi; omega) with rfl | rfl | rfl
      · show xN.size ≤ maxLen; unfold maxLen; decide
      · show yN.size ≤ maxLen; unfold maxLen; decide
      · show zN'.size ≤ maxLen; unfold maxLen; decide))
    unfold FiA at HFI
    obtain ⟨Q0, Q1, Q2, Q3⟩ := HDA.out.b5.cells
    have h69 := HD9.out.b6.lt
    clear ho9 hc9 hl9 HCz HD8 X8 Y8 X9 Y9 Z9 hbl hlp HD9
    go_wp2_with fail
    refine Calls.mono HFI.out ?_
    rintro e x5 ⟨uv, rfl, hb5, hown⟩
    obtain ⟨va, vm, vc, rfl⟩ := (Own.lies hown).form
    simp only [Tr.val]
    have HDB := ymB HDA hb5
    have hzz : (w9.alloc (.cells #[.string ⟨#[120]⟩, .string (cMx cs).1.name, .string (cMx cs).1.text, .bool (cMx cs).1.leaf, .slice xa xm xc, .string ⟨#[121]⟩, .string (cMy cs).1.name, .string (cMy cs).1.text, .bool (cMy cs).1.leaf, .slice ya ym yc, .string ⟨#[122]⟩, .string (cMz cs).1.name, .string (cMz cs).1.text, .bool (cMz cs).1.leaf, .slice za zm zc] 47)).heap.size = w9.heap.size + 1 := by simp
    have LU0 : LiN x5 (w.heap.size + 1 + 1) w5.heap.size (fiR (cM1 cs).1 (cMb cs)).1 (.slice va vm vc) := Lies.mono (fun q hq => by have h2 : (w9.alloc (.cells #[.string ⟨#[120]⟩, .string (cMx cs).1.name, .string (cMx cs).1.text, .bool (cMx cs).1.leaf, .slice xa xm xc, .string ⟨#[121]⟩, .string (cMy cs).1.name, .string (cMy cs).1.text, .bool (cMy cs).1.leaf, .slice ya ym yc, .string ⟨#[122]⟩, .string (cMz cs).1.name, .string (cMz cs).1.text, .bool (cMz cs).1.leaf, .slice za zm zc] 47)).heap.size ≤ q := hq.1; rw [hzz] at h2; exact ⟨by omega, by omega⟩) (Own.lies hown)
    have HDC := ymB HDB (bel_alloc x5 (.cells #[.string (fiR (cM1 cs).1 (cMb cs)).1.name, .string (fiR (cM1 cs).1 (cMb cs)).1.text, .bool (fiR (cM1 cs).1 (cMb cs)).1.leaf, .slice va vm vc] 26))
    have LU1 := LiN.still LU0 (bel_alloc x5 (.cells #[.string (fiR (cM1 cs).1 (cMb cs)).1.name, .string (fiR (cM1 cs).1 (cMb cs)).1.text, .bool (fiR (cM1 cs).1 (cMb cs)).1.leaf, .slice va vm vc] 26))
    clear hb5 hown HFI HDA HDB LU0 Q0 Q1 Q2 Q3
    by_cases he : (fiR (cM1 cs).1 (cMb cs)).2 = 0
    · have HDD := ymT HDC hrc hg hw35 LU1
      have hM3' := HM3a.out hk he
      obtain ⟨A0, A1, A2, A3⟩ := HDC.out.b6.cells
      have a0 := HDC.out.b6.frozen 0
      have a1 := HDC.out.b6.frozen 1
      have a2 := HDC.out.b6.frozen 2
      have a3 := HDC.out.b6.frozen 3
      rw [he]
      clear LU1 he hk
      generalize (fiR (cM1 cs).1 (cMb cs)).1 = FU at *
      have hM3 := hM3'
      have HMt := (show Hid _ from HMT.out _ hM3)
      have HC16 := (show Hid _ from HPK.out 16 _ _ (cMz cs).2 HDD.out.cur (by decide))
      clear HMT HM3a HM3b HM3c hM3 hM3'
      go_wp2_with fail
      refine Calls.mono HC16.out ?_
      rintro e x1 ⟨rfl, hox, hzx, hcx⟩
      have HX := ymP HDD hrc hg' hox hcx
      clear hox hzx hcx HC16
      by_cases h16 : (cPick cs 16 (cMz cs).2).1 = 0
      · have HMu := (show Hid (cMt cs = (cAny cs (cPick cs 16 (cMz cs).2).2).1) from HMt.out.trans (if_pos h16))
        have HCA := (show Hid _ from HAN.out x1 _ _ HX.out.cur)
        rw [h16]
        clear h16
        go_wp2_with fail
        refine Calls.mono HCA.out ?_
        rintro e x2 ⟨ua, um, uc, rfl, hoy, hcy, hly⟩
        simp only [Tr.val]
        have HY := ymP HX hrc hg' hoy hcy
        have h6x := HX.out.b6.lt
        have LU : LiN x2 (w.heap.size + 1 + 1) w5.heap.size (cAny cs (cPick cs 16 (cMz cs).2).2).1 (.slice ua um uc) := Lies.mono (fun q hq => by have h2 : x1.heap.size ≤ q := hq; exact ⟨by omega, by omega⟩) hly
        have HZ := ymT HY hrc hg hw35 LU
        obtain ⟨A0, A1, A2, A3⟩ := HY.out.b6.cells
        have x0 := HY.out.b6.frozen 0
        have x1' := HY.out.b6.frozen 1
        have x2' := HY.out.b6.frozen 2
        have x3' := HY.out.b6.frozen 3
        clear hoy hcy hly LU HCA HX HMt
        obtain ⟨P0, P1, P2, P3⟩ := HZ.out.b5.cells
        obtain ⟨T0, T1, T2, T3⟩ := HZ.out.b6.cells
        obtain ⟨Z0, Z1, Z2, Z3⟩ := HZ.out.b2.cells
        obtain ⟨Y0, Y1, Y2, Y3⟩ := HZ.out.b3.cells
        have fz0 := HZ.out.b2.frozen 0
        have fz1 := HZ.out.b2.frozen 1
        have fz2 := HZ.out.b2.frozen 2
        have fz3 := HZ.out.b2.frozen 3
        have fy0 := HZ.out.b3.frozen 0
        have fy1 := HZ.out.b3.frozen 1
        have fy2 := HZ.out.b3.frozen 2
        have fy3 := HZ.out.b3.frozen 3
        have ne1 : w.heap.size ≠ w.heap.size + 1 := by omega
        have ne2 : w.heap.size + 1 ≠ w.heap.size := by omega
        go_wp2_with fail
        go_region
        all_goals
          go_wp2_with fail
          refine bodyPost_ret (v := .tuple #[.agg #[.string (cM1 cs).1.name, .string (cM1 cs).1.text, .bool (cM1 cs).1.leaf, .slice pa pm pc], .agg #[.string (cAny cs (cPick cs 16 (cMz cs).2).2).1.name, .string (cAny cs (cPick cs 16 (cMz cs).2).2).1.text, .bool (cAny cs (cPick cs 16 (cMz cs).2).2).1.leaf, .slice ua um uc]]) (by simp [results, Try.results5, go_sem, Z0, Z1, Z2, Z3, Y0, Y1, Y2, Y3]) rfl ?_
          exact HFIN.out _ _ _ _ _ _ _ _ _ _ _ _ _ _ HZ.out (HMu.out)
      · have HMu := (show Hid (cMt cs = FU) from HMt.out.trans (if_neg h16))
        have hne : (((cPick cs 16 (cMz cs).2).1 : Int) == 0) = false := by simp; omega
        clear HMt
        obtain ⟨P0, P1, P2, P3⟩ := HX.out.b5.cells
        obtain ⟨T0, T1, T2, T3⟩ := HX.out.b6.cells
        obtain ⟨Z0, Z1, Z2, Z3⟩ := HX.out.b2.cells
        obtain ⟨Y0, Y1, Y2, Y3⟩ := HX.out.b3.cells
        have fz0 := HX.out.b2.frozen 0
        have fz1 := HX.out.b2.frozen 1
        have fz2 := HX.out.b2.frozen 2
        have fz3 := HX.out.b2.frozen 3
        have fy0 := HX.out.b3.frozen 0
        have fy1 := HX.out.b3.frozen 1
        have fy2 := HX.out.b3.frozen 2
        have fy3 := HX.out.b3.frozen 3
        have ne1 : w.heap.size ≠ w.heap.size + 1 := by omega
        have ne2 : w.heap.size + 1 ≠ w.heap.size := by omega
        go_wp2_with fail
        go_region
        all_goals
          go_wp2_with fail
          refine bodyPost_ret (v := .tuple #[.agg #[.string (cM1 cs).1.name, .string (cM1 cs).1.text, .bool (cM1 cs).1.leaf, .slice pa pm pc], .agg #[.string FU.name, .string FU.text, .bool FU.leaf, .slice va vm vc]]) (by simp [results, Try.results5, go_sem, Z0, Z1, Z2, Z3, Y0, Y1, Y2, Y3]) rfl ?_
          exact HFIN.out _ _ _ _ _ _ _ _ _ _ _ _ _ _ HX.out (HMu.out)
    · have hee : ((fiR (cM1 cs).1 (cMb cs)).2 == 0) = false := by simpa using he
      have hM3' := HM3b.out hk he
      clear LU1 he hk
      have hM3 := hM3'
      have HMt := (show Hid _ from HMT.out _ hM3)
      have HC16 := (show Hid _ from HPK.out 16 _ _ (cMz cs).2 HDC.out.cur (by decide))
      clear HMT HM3a HM3b HM3c hM3 hM3'
      go_wp2_with fail
      refine Calls.mono HC16.out ?_
      rintro e x1 ⟨rfl, hox, hzx, hcx⟩
      have HX := ymP HDC hrc hg' hox hcx
      clear hox hzx hcx HC16
      by_cases h16 : (cPick cs 16 (cMz cs).2).1 = 0
      · have HMu := (show Hid (cMt cs = (cAny cs (cPick cs 16 (cMz cs).2).2).1) from HMt.out.trans (if_pos h16))
        have HCA := (show Hid _ from HAN.out x1 _ _ HX.out.cur)
        rw [h16]
        clear h16
        go_wp2_with fail
        refine Calls.mono HCA.out ?_
        rintro e x2 ⟨ua, um, uc, rfl, hoy, hcy, hly⟩
        simp only [Tr.val]
        have HY := ymP HX hrc hg' hoy hcy
        have h6x := HX.out.b6.lt
        have LU : LiN x2 (w.heap.size + 1 + 1) w5.heap.size (cAny cs (cPick cs 16 (cMz cs).2).2).1 (.slice ua um uc) := Lies.mono (fun q hq => by have h2 : x1.heap.size ≤ q := hq; exact ⟨by omega, by omega⟩) hly
        have HZ := ymT HY hrc hg hw35 LU
        obtain ⟨A0, A1, A2, A3⟩ := HY.out.b6.cells
        have x0 := HY.out.b6.frozen 0
        have x1' := HY.out.b6.frozen 1
        have x2' := HY.out.b6.frozen 2
        have x3' := HY.out.b6.frozen 3
        clear hoy hcy hly LU HCA HX HMt
        obtain ⟨P0, P1, P2, P3⟩ := HZ.out.b5.cells
        obtain ⟨T0, T1, T2, T3⟩ := HZ.out.b6.cells
        obtain ⟨Z0, Z1, Z2, Z3⟩ := HZ.out.b2.cells
        obtain ⟨Y0, Y1, Y2, Y3⟩ := HZ.out.b3.cells
        have fz0 := HZ.out.b2.frozen 0
        have fz1 := HZ.out.b2.frozen 1
        have fz2 := HZ.out.b2.frozen 2
        have fz3 := HZ.out.b2.frozen 3
        have fy0 := HZ.out.b3.frozen 0
        have fy1 := HZ.out.b3.frozen 1
        have fy2 := HZ.out.b3.frozen 2
        have fy3 := HZ.out.b3.frozen 3
        have ne1 : w.heap.size ≠ w.heap.size + 1 := by omega
        have ne2 : w.heap.size + 1 ≠ w.heap.size := by omega
        go_wp2_with fail
        go_region
        all_goals
          go_wp2_with fail
          refine bodyPost_ret (v := .tuple #[.agg #[.string (cM1 cs).1.name, .string (cM1 cs).1.text, .bool (cM1 cs).1.leaf, .slice pa pm pc], .agg #[.string (cAny cs (cPick cs 16 (cMz cs).2).2).1.name, .string (cAny cs (cPick cs 16 (cMz cs).2).2).1.text, .bool (cAny cs (cPick cs 16 (cMz cs).2).2).1.leaf, .slice ua um uc]]) (by simp [results, Try.results5, go_sem, Z0, Z1, Z2, Z3, Y0, Y1, Y2, Y3]) rfl ?_
          exact HFIN.out _ _ _ _ _ _ _ _ _ _ _ _ _ _ HZ.out (HMu.out)
      · have HMu := (show Hid (cMt cs = (cM2 cs).1) from HMt.out.trans (if_neg h16))
        have hne : (((cPick cs 16 (cMz cs).2).1 : Int) == 0) = false := by simp; omega
        clear HMt
        obtain ⟨P0, P1, P2, P3⟩ := HX.out.b5.cells
        obtain ⟨T0, T1, T2, T3⟩ := HX.out.b6.cells
        obtain ⟨Z0, Z1, Z2, Z3⟩ := HX.out.b2.cells
        obtain ⟨Y0, Y1, Y2, Y3⟩ := HX.out.b3.cells
        have fz0 := HX.out.b2.frozen 0
        have fz1 := HX.out.b2.frozen 1
        have fz2 := HX.out.b2.frozen 2
        have fz3 := HX.out.b2.frozen 3
        have fy0 := HX.out.b3.frozen 0
        have fy1 := HX.out.b3.frozen 1
        have fy2 := HX.out.b3.frozen 2
        have fy3 := HX.out.b3.frozen 3
        have ne1 : w.heap.size ≠ w.heap.size + 1 := by omega
        have ne2 : w.heap.size + 1 ≠ w.heap.size := by omega
        go_wp2_with fail
        go_region
        all_goals
          go_wp2_with fail
          refine bodyPost_ret (v := .tuple #[.agg #[.string (cM1 cs).1.name, .string (cM1 cs).1.text, .bool (cM1 cs).1.leaf, .slice pa pm pc], .agg #[.string (cM2 cs).1.name, .string (cM2 cs).1.text, .bool (cM2 cs).1.leaf, .slice ta tm tc]]) (by simp [results, Try.results5, go_sem, Z0, Z1, Z2, Z3, Y0, Y1, Y2, Y3]) rfl ?_
          exact HFIN.out _ _ _ _ _ _ _ _ _ _ _ _ _ _ HX.out (HMu.out)
end Go.Proofs.Ytbgoikaelmacbaa
