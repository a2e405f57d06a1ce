import Derived.Test.YthmdoplickpmaaaTPa
import Derived.Test.YthmdoplickpmaaaPut7
import Derived.Test.YthmdoplickpmaaaHash
import Derived.Test.YthmdoplickpmaaaDPut
import Derived.Test.YthmdoplickpmaaaSame
namespace Go.Proofs.Ythmdoplickpmaaa
open Go.RowKit Go.Deep Go.Lib
set_option linter.unusedVariables false
set_option maxRecDepth 100000
set_option linter.unusedSimpArgs false

/-- The cells that the law's loop loads. -/
def HeldK (kd f0 : Tr) (g15 g10 tb to pb po : Nat) (i0 : Int) (kv fv sv : Value) (w' : World) : Prop :=
  w'.cell? ⟨pb, po, none⟩ = some (.int .i64 i0) ∧ w'.cell? ⟨g10, 3, none⟩ = some sv ∧ Four w' g15 (.string kd.name) (.string kd.text) (.bool kd.leaf) kv ∧
    w'.cell? ⟨tb, to, none⟩ = some (.string f0.name) ∧ w'.cell? ⟨tb, to + 1, none⟩ = some (.string f0.text) ∧ w'.cell? ⟨tb, to + 2, none⟩ = some (.bool f0.leaf) ∧ w'.cell? ⟨tb, to + 3, none⟩ = some fv
theorem HeldK.still {kd f0 : Tr} {g15 g10 tb to pb po : Nat} {i0 : Int} {kv fv sv : Value} {w w' : World} (H : HeldK kd f0 g15 g10 tb to pb po i0 kv fv sv w) (hb : Below w.heap.size w w') : HeldK kd f0 g15 g10 tb to pb po i0 kv fv sv w' := by
  have e : ∀ {b o : Nat} {v : Value}, w.cell? ⟨b, o, none⟩ = some v → w'.cell? ⟨b, o, none⟩ = some v := fun h => (hb.cell (lt_of_cell h)).trans h
  obtain ⟨h0, h1, h2, h3, h4, h5, h6⟩ := H
  exact ⟨e h0, e h1, h2.still hb, e h3, e h4, e h5, e h6⟩

set_option maxHeartbeats 6400000 in
theorem lawTP {cs : List UInt8} {a : Option Addr} {cap b off : Nat} (w : World) (h3 : cs.length ≤ cap) (h4 : cap ≤ 2 ^ 63 - 1) (hb : b < w.heap.size + 2) (h6 : 0 < cs.length → a = some ⟨b, off, none⟩) (h7 : Byts w cs b off) :
    Calls Try.prog 4 #[.slice a cs.length cap] w fun e w' => e = .returned (.bool true) ∧ Below w.heap.size w w' := by
  by_cases h2 : cs.length ≤ 1048576
  · have hdp := fun (w' : World) (hw : Below w.heap.size w w') => dput_any (a := a) (cap := cap) (b := b) (off := off) w' h2 h3 h4 (by have := hw.size; omega) h6 (fun i hi => (hw.cell (lt_of_cell (h7 i hi))).trans (h7 i hi))
    have HDP := (show Hid _ from hdp); clear hdp
    have hbg := big_any a cs.length cap w (by omega)
    rw [show decide (1048576 < cs.length) = false from by simp; omega] at hbg
    have HBG := (show Hid _ from hbg); clear hbg h7 h6
    have hTw := cPutT_wt cs
    have hUw : (cPutU cs).1.wt ≤ 200000 := cAny_wt _ _
    have hLl := cPutL_len cs
    unfold DrewP at HDP
    generalize (cPutT cs).1 = T at *
    generalize (cPutL cs).1 = L at *
    generalize (cPutU cs).1 = U at *
    have hrw := putR_wt T L U
    have hI : ∀ (v pv uv : Value) (w' : World), (∃ S, Lies w' S T v) → (∃ S, Ints w' S L pv) → (∃ S, Lies w' S U uv) → Calls Try.prog 13 #[T.val v, pv, U.val uv] w' fun e w'' => Ans (putR T L U) w' e w'' := fun v pv uv w' ⟨_, h1⟩ ⟨_, h2⟩ ⟨_, h3⟩ => iPut_any T U L v pv uv w' h1 h2 h3 (by omega)
    have hS : ∀ (v pv uv : Value) (w' : World), (∃ S, Lies w' S T v) → (∃ S, Ints w' S L pv) → (∃ S, Lies w' S U uv) → Calls Try.prog 12 #[T.val v, pv, U.val uv] w' fun e w'' => Ans (putR T L U) w' e w'' := fun v pv uv w' ⟨_, h1⟩ ⟨_, h2⟩ ⟨_, h3⟩ => sPut_any T U L v pv uv w' h1 h2 h3 (by omega)
    have HI := (show Hid _ from hI); clear hI
    have HP := (show Hid _ from hS); clear hS
    generalize hRC : putR T L U = r at *
    obtain ⟨R, C⟩ := r
    have HRC := (show Hid _ from hRC); clear hRC
    dsimp only at hrw
    have hneC : ((C : Int) != C) = false := by simp
    go_enter Try.func4, Try.ntmps4
    go_wp2_with fail
    refine Calls.mono HBG.out ?_
    rintro e w0 ⟨rfl, rfl⟩
    go_wp2_with fail
    refine Calls.mono (HDP.out _ (Below.refl _ _)) ?_
    rintro e w1 ⟨ta, tm, tc, pa, pm, pc, ua, um, uc, rfl, hb1, hlt1, hin1, hlu1⟩
    have hTB := bel_trans (bel_alloc w1 (.cells #[.string T.name, .string T.text, .bool T.leaf, .slice ta tm tc] 28)) (bel_alloc (w1.alloc (.cells #[.string T.name, .string T.text, .bool T.leaf, .slice ta tm tc] 28)) (.cells #[.string U.name, .string U.text, .bool U.leaf, .slice ua um uc] 28))
    have F3 := (show Hid _ from (four_box w1 (.string T.name) (.string T.text) (.bool T.leaf) (.slice ta tm tc) 28).still (bel_alloc (w1.alloc (.cells #[.string T.name, .string T.text, .bool T.leaf, .slice ta tm tc] 28)) (.cells #[.string U.name, .string U.text, .bool U.leaf, .slice ua um uc] 28)))
    have F5 : Hid (Four ((w1.alloc (.cells #[.string T.name, .string T.text, .bool T.leaf, .slice ta tm tc] 28)).alloc (.cells #[.string U.name, .string U.text, .bool U.leaf, .slice ua um uc] 28)) (w1.heap.size + 1) (.string U.name) (.string U.text) (.bool U.leaf) (.slice ua um uc)) := by
      have := four_box (w1.alloc (.cells #[.string T.name, .string T.text, .bool T.leaf, .slice ta tm tc] 28)) (.string U.name) (.string U.text) (.bool U.leaf) (.slice ua um uc) 28
      simp only [World.size_alloc] at this
      exact this
    have HX := (show Hid _ from (⟨hlt1.still hTB, hin1.still hTB, hlu1.still hTB, bel_trans hb1 hTB⟩ : _ ∧ _ ∧ _ ∧ _)); clear hlt1 hin1 hlu1 hb1 hTB
    go_wp2_with fail
    generalize hw1b : (w1.alloc (.cells #[.string T.name, .string T.text, .bool T.leaf, .slice ta tm tc] 28)).alloc (.cells #[.string U.name, .string U.text, .bool U.leaf, .slice ua um uc] 28) = wA at *
    clear hw1b
    refine Calls.mono (HDP.out _ HX.out.2.2.2) ?_
    rintro e w2 ⟨ta2, tm2, tc2, pa2, pm2, pc2, ua2, um2, uc2, rfl, hb2, hlt2, hin2, hlu2⟩
    have HC2 := (show Hid _ from HP.out _ _ _ w2 ⟨_, hlt2⟩ ⟨_, hin2⟩ ⟨_, hlu2⟩); clear hlt2 hin2 hlu2
    go_wp2_with fail
    refine Calls.mono HC2.out ?_
    rintro e w3 ⟨a3, m3, c3, rfl, hb3, ho3⟩
    dsimp only at ho3 ⊢
    have hc3 := bel_trans (bel_trans hb2 hb3) (bel_alloc w3 (.cells #[.string R.name, .string R.text, .bool R.leaf, .slice a3 m3 c3] 28))
    have F6 := (show Hid _ from four_box w3 (.string R.name) (.string R.text) (.bool R.leaf) (.slice a3 m3 c3) 28)
    have O3 := (show Hid _ from ho3.still (bel_alloc w3 (.cells #[.string R.name, .string R.text, .bool R.leaf, .slice a3 m3 c3] 28)))
    have hq3 := hb3.size
    have HB3 := (show Hid _ from hc3); clear hc3 hb2 hb3 ho3 HC2
    obtain ⟨A0, A1, A2, A3⟩ := Four.still F3.out HB3.out
    obtain ⟨B0, B1, B2, B3⟩ := Four.still F5.out HB3.out
    go_wp2_with fail
    clear A0 A1 A2 A3 B0 B1 B2 B3
    generalize hw3b : w3.alloc (.cells #[.string R.name, .string R.text, .bool R.leaf, .slice a3 m3 c3] 28) = wB at *
    clear hw3b
    refine Calls.mono (HI.out _ _ _ wB ⟨_, Lies.still HX.out.1 HB3.out⟩ ⟨_, Ints.still HX.out.2.1 HB3.out⟩ ⟨_, Lies.still HX.out.2.2.1 HB3.out⟩) ?_
    rintro e w4 ⟨a4, m4, c4, rfl, hb4, ho4⟩
    dsimp only at ho4 ⊢
    have hc4 := bel_trans hb4 (bel_alloc w4 (.cells #[.string R.name, .string R.text, .bool R.leaf, .slice a4 m4 c4] 28))
    have F8 := (show Hid _ from four_box w4 (.string R.name) (.string R.text) (.bool R.leaf) (.slice a4 m4 c4) 28)
    have O4 := (show Hid _ from ho4.still (bel_alloc w4 (.cells #[.string R.name, .string R.text, .bool R.leaf, .slice a4 m4 c4] 28)))
    have HB4 := (show Hid _ from hc4); clear hc4 hb4 ho4
    obtain ⟨A0, A1, A2, A3⟩ := F8.out
    obtain ⟨B0, B1, B2, B3⟩ := Four.still F6.out HB4.out
    go_wp2_with fail
    clear A0 A1 A2 A3 B0 B1 B2 B3
    generalize hw4b : w4.alloc (.cells #[.string R.name, .string R.text, .bool R.leaf, .slice a4 m4 c4] 28) = wC at *
    clear hw4b
    refine Calls.mono (same_any R _ _ wC (Own.lies O4.out) (Lies.still (Own.lies O3.out) HB4.out)) ?_
    rintro e w5 ⟨rfl, hb5⟩
    have HAC := (show Hid _ from bel_trans (bel_trans HB3.out HB4.out) hb5)
    have HW5 := (show Hid _ from bel_trans HX.out.2.2.2 HAC.out)
    have HC5 := (show Hid _ from hb5); clear hb5
    by_cases hC0 : C = 0
    · subst hC0
      obtain ⟨hTok, hUok, hput, hRok⟩ := putR_ok HRC.out
      obtain ⟨old, hold⟩ : ∃ x, walkAt L T = some x := Option.isSome_iff_exists.1 (by rw [← putAt_some L T U, hput]; rfl)
      have holdw := walkAt_wt L hold
      have hA1 : ∀ (v pv : Value) (w' : World), (∃ S, Lies w' S R v) → (∃ S, Ints w' S L pv) → Calls Try.prog 14 #[R.val v, pv] w' fun e w'' => Ans (U, 0) w' e w'' := fun v pv w' ⟨_, h1⟩ ⟨_, h2⟩ => by
        have := iAt_any R L v pv w' h1 h2 (by omega)
        rwa [atR_yes hRok (walk_put L hput)] at this
      have hA2 : ∀ (v pv : Value) (w' : World), (∃ S, Lies w' S T v) → (∃ S, Ints w' S L pv) → Calls Try.prog 14 #[T.val v, pv] w' fun e w'' => Ans (old, 0) w' e w'' := fun v pv w' ⟨_, h1⟩ ⟨_, h2⟩ => by
        have := iAt_any T L v pv w' h1 h2 (by omega)
        rwa [atR_yes hTok hold] at this
      have hA3 : ∀ (v pv uv : Value) (w' : World), (∃ S, Lies w' S R v) → (∃ S, Ints w' S L pv) → (∃ S, Lies w' S old uv) → Calls Try.prog 13 #[R.val v, pv, old.val uv] w' fun e w'' => Ans (T, 0) w' e w'' := fun v pv uv w' ⟨_, h1⟩ ⟨_, h2⟩ ⟨_, h3⟩ => by
        have := iPut_any R old L v pv uv w' h1 h2 h3 (by omega)
        rwa [putR_yes hRok (walk_ok L hTok hold) (put_back L hput hold) hTok] at this
      have hA4 : ∀ (v pv : Value) (w' : World) (j : Nat), j < R.kids.length → (∃ S, Lies w' S R v) → (∃ S, Ints w' S [(j : Int)] pv) → Calls Try.prog 14 #[R.val v, pv] w' fun e w'' => Ans (nth R.kids j, 0) w' e w'' := fun v pv w' j hj ⟨_, h1⟩ ⟨_, h2⟩ => by
        have := iAt_any R [(j : Int)] v pv w' h1 h2 (by omega)
        rwa [atR_one hRok hj] at this
      have hA5 : ∀ (v : Value) (w' : World), (∃ S, Lies w' S T v) → Calls Try.prog 15 #[T.val v] w' _ := fun v w' ⟨_, h1⟩ => iHash_yes T v w' h1 hTok (by omega)
      have hA6 : ∀ (v : Value) (w' : World), (∃ S, Lies w' S T v) → Calls Try.prog 16 #[T.val v] w' _ := fun v w' ⟨_, h1⟩ => sHash_yes T v w' h1 hTok (by omega)
      have HA := (show Hid _ from (⟨hA1, hA2, hA3, hA4, hA5, hA6⟩ : _ ∧ _ ∧ _ ∧ _ ∧ _ ∧ _)); clear hA1 hA2 hA3 hA4 hA5 hA6
      have HPU := (show Hid _ from hput); clear hput hold hTok hUok hRok
      go_wp2_with fail
      refine Calls.mono (HDP.out _ HW5.out) ?_
      rintro e w6 ⟨ta6, tm6, tc6, pa6, pm6, pc6, ua6, um6, uc6, rfl, hb6, hlt6, hin6, hlu6⟩
      have hTB := bel_trans (bel_alloc w6 (.cells #[.string T.name, .string T.text, .bool T.leaf, .slice ta6 tm6 tc6] 28)) (bel_alloc (w6.alloc (.cells #[.string T.name, .string T.text, .bool T.leaf, .slice ta6 tm6 tc6] 28)) (.cells #[.string U.name, .string U.text, .bool U.leaf, .slice ua6 um6 uc6] 28))
      have F10 := (show Hid _ from (four_box w6 (.string T.name) (.string T.text) (.bool T.leaf) (.slice ta6 tm6 tc6) 28).still (bel_alloc (w6.alloc (.cells #[.string T.name, .string T.text, .bool T.leaf, .slice ta6 tm6 tc6] 28)) (.cells #[.string U.name, .string U.text, .bool U.leaf, .slice ua6 um6 uc6] 28)))
      have L6 := (show Hid _ from hlt6.still hTB)
      have HB6 := (show Hid _ from bel_trans hb6 hTB); clear hlt6 hin6 hlu6 hb6 hTB
      have F86 := (show Hid _ from Four.still F8.out (bel_trans HC5.out HB6.out))
      obtain ⟨A0, A1, A2, A3⟩ := F86.out
      go_wp2_with fail
      clear A0 A1 A2 A3
      generalize hwD : (w6.alloc (.cells #[.string T.name, .string T.text, .bool T.leaf, .slice ta6 tm6 tc6] 28)).alloc (.cells #[.string U.name, .string U.text, .bool U.leaf, .slice ua6 um6 uc6] 28) = wD at *
      clear hwD
      refine Calls.mono (HA.out.1 _ _ wD ⟨_, Lies.still (Own.lies O4.out) (bel_trans HC5.out HB6.out)⟩ ⟨_, Ints.still HX.out.2.1 (bel_trans HAC.out HB6.out)⟩) ?_
      rintro e w7 ⟨a7, m7, c7, rfl, hb7, ho7⟩
      dsimp only at ho7 ⊢
      have hc7 := bel_trans hb7 (bel_alloc w7 (.cells #[.string U.name, .string U.text, .bool U.leaf, .slice a7 m7 c7] 28))
      have F13 := four_box w7 (.string U.name) (.string U.text) (.bool U.leaf) (.slice a7 m7 c7) 28
      have O7 := (show Hid _ from ho7.still (bel_alloc w7 (.cells #[.string U.name, .string U.text, .bool U.leaf, .slice a7 m7 c7] 28)))
      have HB7 := (show Hid _ from hc7); clear hc7 hb7 ho7
      obtain ⟨A0, A1, A2, A3⟩ := F13
      obtain ⟨B0, B1, B2, B3⟩ := Four.still F5.out (bel_trans (bel_trans HAC.out HB6.out) HB7.out)
      go_wp2_with fail
      clear A0 A1 A2 A3 B0 B1 B2 B3
      generalize hw7b : w7.alloc (.cells #[.string U.name, .string U.text, .bool U.leaf, .slice a7 m7 c7] 28) = wE at *
      clear hw7b
      refine Calls.mono (same_any U _ _ wE (Own.lies O7.out) (Lies.still HX.out.2.2.1 (bel_trans (bel_trans HAC.out HB6.out) HB7.out))) ?_
      rintro e w8 ⟨rfl, hb8⟩
      have K8 := bel_trans HB7.out hb8
      have N10 := (show Hid _ from Four.still F10.out K8)
      have N8 := (show Hid _ from Four.still F86.out K8)
      have NT := (show Hid _ from Lies.still L6.out K8)
      have NR := (show Hid _ from Lies.still (Own.lies O4.out) (bel_trans (bel_trans HC5.out HB6.out) K8))
      have NL := (show Hid _ from Ints.still HX.out.2.1 (bel_trans (bel_trans HAC.out HB6.out) K8))
      have NW := (show Hid _ from bel_trans HW5.out (bel_trans HB6.out K8))
      clear F10 F86 L6 O4 HX HAC HW5 HB6 HB7 F3 F5 F6 F8 O3 O7 HC5 HB3 HB4 HDP HI HP hb8 K8
      obtain ⟨xa, tcZ, xb, xoff, sv, hv, hxn, hxx, hxc, hxm, hxa, hxcell, hxk⟩ := Lies.out NT.out
      cases hv
      obtain ⟨qa, qcap, qb, qoff, hv, hqc, hqm, hqa, hqcell⟩ := NL.out
      cases hv
      have HE := (show Hid _ from (⟨hxa, hxcell, hxk, hqa, hqcell⟩ : _ ∧ _ ∧ _ ∧ _ ∧ _)); clear hxa hxcell hxk hqa hqcell hxn hxx
      unfold maxLen at hxm hqm
      have hTk := wt_sizes T
      go_wp2_with fail
      go_loopw [14] (fun i wr => ∃ j : Nat, i = .int .i64 j ∧ j ≤ T.kids.length ∧ Below w8.heap.size w8 wr) (fun i _ => T.kids.length - (intOf i).toNat)
      case atStart => exact ⟨0, rfl, Nat.zero_le _, Below.refl _ _⟩
      case round =>
        obtain ⟨j, rfl, hj, hbr⟩ := hrel
        obtain ⟨D0, D1, D2, D3⟩ := Four.still N10.out hbr
        by_cases hjk : j < T.kids.length
        · have hjk' : (j : Int) < T.kids.length := by omega
          by_cases hL0 : L.length = 0
          · have hLz : (L.length : Int) ≤ 0 := by omega
            have hNL0 : Ints w8 (fun q => w0.heap.size ≤ q) L (.slice pa 0 pc) := by
              have h : Ints w8 (fun q => w0.heap.size ≤ q) L (.slice pa L.length pc) := NL.out
              rwa [hL0] at h
            have NL0 := (show Hid _ from hNL0); clear hNL0
            go_wp2_with fail
            clear D0 D1 D2 D3
            refine Calls.mono (HA.out.2.1 _ _ wr ⟨_, Lies.still NT.out hbr⟩ ⟨_, Ints.still NL0.out hbr⟩) ?_
            rintro e w20 ⟨a20, m20, c20, rfl, hb20, ho20⟩
            dsimp only at ho20 ⊢
            have hc20 := bel_trans hb20 (bel_alloc w20 (.cells #[.string old.name, .string old.text, .bool old.leaf, .slice a20 m20 c20] 28))
            have F17 := four_box w20 (.string old.name) (.string old.text) (.bool old.leaf) (.slice a20 m20 c20) 28
            have O20 := (show Hid _ from ho20.still (bel_alloc w20 (.cells #[.string old.name, .string old.text, .bool old.leaf, .slice a20 m20 c20] 28)))
            have hbr20 := bel_trans hbr hc20
            obtain ⟨A0, A1, A2, A3⟩ := Four.still N8.out hbr20
            obtain ⟨B0, B1, B2, B3⟩ := F17
            have HBR := (show Hid _ from hbr20); clear hb20 ho20 hc20 hbr20
            go_wp2_with fail
            clear A0 A1 A2 A3 B0 B1 B2 B3
            generalize hw20 : w20.alloc (.cells #[.string old.name, .string old.text, .bool old.leaf, .slice a20 m20 c20] 28) = wF at *
            clear hw20
            refine Calls.mono (HA.out.2.2.1 _ _ _ wF ⟨_, Lies.still NR.out HBR.out⟩ ⟨_, Ints.still NL0.out HBR.out⟩ ⟨_, Own.lies O20.out⟩) ?_
            rintro e w21 ⟨a21, m21, c21, rfl, hb21, ho21⟩
            dsimp only at ho21 ⊢
            have hc21 := bel_trans hb21 (bel_alloc w21 (.cells #[.string T.name, .string T.text, .bool T.leaf, .slice a21 m21 c21] 28))
            have F18 := (show Hid _ from four_box w21 (.string T.name) (.string T.text) (.bool T.leaf) (.slice a21 m21 c21) 28)
            have O21 := (show Hid _ from ho21.still (bel_alloc w21 (.cells #[.string T.name, .string T.text, .bool T.leaf, .slice a21 m21 c21] 28)))
            have HB2 := (show Hid _ from bel_trans HBR.out hc21); clear hb21 ho21 hc21
            obtain ⟨A0, A1, A2, A3⟩ := F18.out
            obtain ⟨B0, B1, B2, B3⟩ := Four.still N10.out HB2.out
            go_wp2_with fail
            clear A0 A1 A2 A3 B0 B1 B2 B3
            generalize hw21 : w21.alloc (.cells #[.string T.name, .string T.text, .bool T.leaf, .slice a21 m21 c21] 28) = wG at *
            clear hw21
            refine Calls.mono (same_any T _ _ wG (Own.lies O21.out) (Lies.still NT.out HB2.out)) ?_
            rintro e w22 ⟨rfl, hb22⟩
            obtain ⟨A0, A1, A2, A3⟩ := Four.still F18.out hb22
            go_wp2_with fail
            clear A0 A1 A2 A3
            refine Calls.mono (HA.out.2.2.2.2.1 _ w22 ⟨_, Lies.still (Own.lies O21.out) hb22⟩) ?_
            rintro e w23 ⟨rfl, hb23⟩
            have hb2223 := bel_trans hb22 hb23
            obtain ⟨A0, A1, A2, A3⟩ := Four.still N10.out (bel_trans HB2.out hb2223)
            go_wp2_with fail
            clear A0 A1 A2 A3
            refine Calls.mono (HA.out.2.2.2.2.2 _ w23 ⟨_, Lies.still NT.out (bel_trans HB2.out hb2223)⟩) ?_
            rintro e w24 ⟨rfl, hb24⟩
            have hfin := bel_trans NW.out (bel_trans (bel_trans HB2.out hb2223) hb24)
            have HFIN := (show Hid _ from hfin); clear hfin
            go_wp2_with fail
            go_ret
            exact ⟨by simp, HFIN.out⟩
          · obtain ⟨i0, r, hL⟩ := List.exists_cons_of_length_pos (Nat.pos_of_ne_zero hL0)
            obtain ⟨hRk, hRn⟩ := put_kids hL HPU.out
            have hLp : (0 : Int) < L.length := by omega
            obtain ⟨rfl, _⟩ := HE.out.2.2.2.1 (by rw [hL]; simp)
            have q0 : w8.cell? ⟨qb, qoff, none⟩ = some (.int .i64 i0) := by
              have := HE.out.2.2.2.2 0 (by rw [hL]; simp)
              simpa [hL] using this
            obtain ⟨rfl, _⟩ := HE.out.1 (by omega)
            obtain ⟨e0, e1, e2, e3⟩ := HE.out.2.1 j hjk
            have hkf := HE.out.2.2.1 j hjk
            obtain ⟨z1, z2, z3, hz⟩ := hkf.form
            rw [hz] at e3 hkf
            rw [← nth_eq hjk] at e0 e1 e2 hkf
            have hkT := hRn j
            generalize nth T.kids j = f0 at *
            have hcl := HA.out.2.2.2.1 (.slice a4 m4 c4) (.slice (some ⟨wr.heap.size, 0, none⟩) 1 1) (wr.alloc (.cells #[.int .i64 (j : Int)] 3)) j (by omega) ⟨_, Lies.still NR.out (bel_trans hbr (bel_alloc _ _))⟩ ⟨fun _ => True, some ⟨wr.heap.size, 0, none⟩, 1, wr.heap.size, 0, rfl, Nat.le_refl _, by unfold maxLen; omega, fun _ => ⟨rfl, trivial⟩, fun i hi => by
              have hi0 : i = 0 := by simpa using hi
              subst hi0
              simp [go_sem]⟩
            have HCL := (show Hid _ from hcl); clear hcl
            generalize nth R.kids j = kd at *
            obtain ⟨A0, A1, A2, A3⟩ := Four.still N8.out hbr
            clear hL
            go_wp2_with fail
            clear A0 A1 A2 A3
            refine Calls.mono HCL.out ?_
            rintro e w9 ⟨a9, m9, c9, rfl, hb9, ho9⟩
            dsimp only at ho9 ⊢
            have hb9' := bel_trans (bel_trans (bel_alloc wr (.cells #[.int .i64 (j : Int)] 3)) hb9) (bel_alloc w9 (.cells #[.string kd.name, .string kd.text, .bool kd.leaf, .slice a9 m9 c9] 28))
            have O9 := (show Hid _ from ho9.still (bel_alloc w9 (.cells #[.string kd.name, .string kd.text, .bool kd.leaf, .slice a9 m9 c9] 28)))
            have F15 := four_box w9 (.string kd.name) (.string kd.text) (.bool kd.leaf) (.slice a9 m9 c9) 28
            have hbr9 := bel_trans hbr hb9'
            have mv : ∀ {bb o : Nat} {v : Value}, w8.cell? ⟨bb, o, none⟩ = some v → (w9.alloc (.cells #[.string kd.name, .string kd.text, .bool kd.leaf, .slice a9 m9 c9] 28)).cell? ⟨bb, o, none⟩ = some v := fun h => (hbr9.cell (lt_of_cell h)).trans h
            have hS9 : HeldK kd f0 w9.heap.size w6.heap.size xb (xoff + j * 4) qb qoff i0 (.slice a9 m9 c9) (.slice z1 z2 z3) (.slice (some ⟨xb, xoff, none⟩) T.kids.length tc6) (w9.alloc (.cells #[.string kd.name, .string kd.text, .bool kd.leaf, .slice a9 m9 c9] 28)) := ⟨mv q0, mv N10.out.2.2.2, F15, mv e0, mv e1, mv e2, mv e3⟩
            have HBR9 := (show Hid _ from hbr9)
            clear hb9 ho9 hb9' F15 hbr9 D0 D1 D2 D3
            clear mv
            have HS9 := (show Hid _ from hS9); clear hS9
            go_wp2_with fail
            generalize hw9 : w9.alloc (.cells #[.string kd.name, .string kd.text, .bool kd.leaf, .slice a9 m9 c9] 28) = wH at *
            clear hw9
            have hdr := (Below.refl wH.heap.size wH).drew
            have hS0 := HeldK.still HS9.out hdr
            have HDR := (show Hid _ from hdr); clear hdr
            by_cases hji : (j : Int) = i0
            · subst hji
              have hneJ : (((j : Int)) != (j : Int)) = false := by simp
              have q9 := HS9.out.1
              clear hS0
              go_region
              all_goals
                go_wp2_with fail
                exact ⟨⟨j + 1, by go_num, by omega, Below.drew HBR9.out⟩, by simp [intOf]; omega⟩
            · have hkd := hkT hji
              subst hkd
              have hnb : ((j : Int) != i0) = true := by simp; exact hji
              have hcl := same_any kd (.slice a9 m9 c9) (.slice z1 z2 z3) wH.drew ((Own.lies O9.out).still HDR.out) (Lies.still hkf (Below.drew HBR9.out))
              have HCL := (show Hid _ from hcl); clear hcl
              go_region_held3 (fun w' => w'.cell? ⟨qb, qoff, none⟩ = some (.int .i64 i0) ∧ w'.cell? ⟨w6.heap.size, 3, none⟩ = some (.slice (some ⟨xb, xoff, none⟩) T.kids.length tc6) ∧ (w'.cell? ⟨w9.heap.size, 0, none⟩ = some (.string kd.name) ∧ w'.cell? ⟨w9.heap.size, 1, none⟩ = some (.string kd.text) ∧ w'.cell? ⟨w9.heap.size, 2, none⟩ = some (.bool kd.leaf) ∧ w'.cell? ⟨w9.heap.size, 3, none⟩ = some (.slice a9 m9 c9)) ∧ w'.cell? ⟨xb, xoff + j * 4, none⟩ = some (.string kd.name) ∧ w'.cell? ⟨xb, xoff + j * 4 + 1, none⟩ = some (.string kd.text) ∧ w'.cell? ⟨xb, xoff + j * 4 + 2, none⟩ = some (.bool kd.leaf) ∧ w'.cell? ⟨xb, xoff + j * 4 + 3, none⟩ = some (.slice z1 z2 z3)) (((show HeldK kd kd w9.heap.size w6.heap.size xb (xoff + j * 4) qb qoff i0 (.slice a9 m9 c9) (.slice z1 z2 z3) (.slice (some ⟨xb, xoff, none⟩) T.kids.length tc6) _); (first | with_reducible exact hS0 | with_reducible exact hS1)))
                (first | (go_at_call 10; refine Calls.mono HCL.out ?_; rintro e w10 ⟨rfl, hb10⟩; have hx10 : Below wH.heap.size wH w10 := HDR.out.trans (hb10.mono (Nat.le_refl _)); have hS1 := HeldK.still HS9.out hx10))
              have hb11 := bel_trans HBR9.out hx10
              clear hS0 hS1 hb10 hx10
              go_wp2_with fail
              exact ⟨⟨j + 1, by go_num, by omega, hb11⟩, by simp [intOf]; omega⟩
        · have hjk' : (T.kids.length : Int) ≤ j := by omega
          go_wp2_with fail
          clear D0 D1 D2 D3
          refine Calls.mono (HA.out.2.1 _ _ wr ⟨_, Lies.still NT.out hbr⟩ ⟨_, Ints.still NL.out hbr⟩) ?_
          rintro e w20 ⟨a20, m20, c20, rfl, hb20, ho20⟩
          dsimp only at ho20 ⊢
          have hc20 := bel_trans hb20 (bel_alloc w20 (.cells #[.string old.name, .string old.text, .bool old.leaf, .slice a20 m20 c20] 28))
          have F17 := four_box w20 (.string old.name) (.string old.text) (.bool old.leaf) (.slice a20 m20 c20) 28
          have O20 := (show Hid _ from ho20.still (bel_alloc w20 (.cells #[.string old.name, .string old.text, .bool old.leaf, .slice a20 m20 c20] 28)))
          have hbr20 := bel_trans hbr hc20
          obtain ⟨A0, A1, A2, A3⟩ := Four.still N8.out hbr20
          obtain ⟨B0, B1, B2, B3⟩ := F17
          have HBR := (show Hid _ from hbr20); clear hb20 ho20 hc20 hbr20
          go_wp2_with fail
          clear A0 A1 A2 A3 B0 B1 B2 B3
          generalize hw20 : w20.alloc (.cells #[.string old.name, .string old.text, .bool old.leaf, .slice a20 m20 c20] 28) = wF at *
          clear hw20
          refine Calls.mono (HA.out.2.2.1 _ _ _ wF ⟨_, Lies.still NR.out HBR.out⟩ ⟨_, Ints.still NL.out HBR.out⟩ ⟨_, Own.lies O20.out⟩) ?_
          rintro e w21 ⟨a21, m21, c21, rfl, hb21, ho21⟩
          dsimp only at ho21 ⊢
          have hc21 := bel_trans hb21 (bel_alloc w21 (.cells #[.string T.name, .string T.text, .bool T.leaf, .slice a21 m21 c21] 28))
          have F18 := (show Hid _ from four_box w21 (.string T.name) (.string T.text) (.bool T.leaf) (.slice a21 m21 c21) 28)
          have O21 := (show Hid _ from ho21.still (bel_alloc w21 (.cells #[.string T.name, .string T.text, .bool T.leaf, .slice a21 m21 c21] 28)))
          have HB2 := (show Hid _ from bel_trans HBR.out hc21); clear hb21 ho21 hc21
          obtain ⟨A0, A1, A2, A3⟩ := F18.out
          obtain ⟨B0, B1, B2, B3⟩ := Four.still N10.out HB2.out
          go_wp2_with fail
          clear A0 A1 A2 A3 B0 B1 B2 B3
          generalize hw21 : w21.alloc (.cells #[.string T.name, .string T.text, .bool T.leaf, .slice a21 m21 c21] 28) = wG at *
          clear hw21
          refine Calls.mono (same_any T _ _ wG (Own.lies O21.out) (Lies.still NT.out HB2.out)) ?_
          rintro e w22 ⟨rfl, hb22⟩
          obtain ⟨A0, A1, A2, A3⟩ := Four.still F18.out hb22
          go_wp2_with fail
          clear A0 A1 A2 A3
          refine Calls.mono (HA.out.2.2.2.2.1 _ w22 ⟨_, Lies.still (Own.lies O21.out) hb22⟩) ?_
          rintro e w23 ⟨rfl, hb23⟩
          have hb2223 := bel_trans hb22 hb23
          obtain ⟨A0, A1, A2, A3⟩ := Four.still N10.out (bel_trans HB2.out hb2223)
          go_wp2_with fail
          clear A0 A1 A2 A3
          refine Calls.mono (HA.out.2.2.2.2.2 _ w23 ⟨_, Lies.still NT.out (bel_trans HB2.out hb2223)⟩) ?_
          rintro e w24 ⟨rfl, hb24⟩
          have hfin := bel_trans NW.out (bel_trans (bel_trans HB2.out hb2223) hb24)
          have HFIN := (show Hid _ from hfin); clear hfin
          go_wp2_with fail
          go_ret
          exact ⟨by simp, HFIN.out⟩
    · have hCb : ((C : Int) != 0) = true := by simp; exact hC0
      go_wp2_with fail
      go_ret
      exact ⟨rfl, HW5.out⟩
  · have hbg := big_any a cs.length cap w (by omega)
    rw [show decide (1048576 < cs.length) = true from by simp; omega] at hbg
    have HBG := (show Hid _ from hbg); clear hbg
    clear h7 h6
    go_enter Try.func4, Try.ntmps4
    go_wp2_with fail
    refine Calls.mono HBG.out ?_
    rintro e w0 ⟨rfl, rfl⟩
    go_wp2_with fail
    go_ret
    exact ⟨rfl, Below.refl _ _⟩
end Go.Proofs.Ythmdoplickpmaaa
