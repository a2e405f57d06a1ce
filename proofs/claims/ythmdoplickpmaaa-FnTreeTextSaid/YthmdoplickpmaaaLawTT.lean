import Derived.Test.YthmdoplickpmaaaDShow
import Derived.Test.YthmdoplickpmaaaShow6
import Derived.Test.YthmdoplickpmaaaRead3
import Derived.Test.YthmdoplickpmaaaParse4
import Derived.Test.YthmdoplickpmaaaSame
namespace Go.Proofs.Ythmdoplickpmaaa
open Go.RowKit Go.Deep Go.Lib
set_option linter.unusedVariables false
set_option maxRecDepth 100000
set_option linter.unusedSimpArgs false

/-- What TreeShow answers. -/
def shR (t : Tr) : List UInt8 × Int := if t.ok then (shTxt t, shCode t) else ([], 1)
theorem shR_zero {t : Tr} {l : List UInt8} (h : shR t = (l, 0)) : t.ok = true ∧ t.sh.length ≤ 20000 ∧ l = t.sh := by
  unfold shR at h
  split at h
  · rename_i hok
    simp only [Prod.mk.injEq] at h
    by_cases hb : 20000 < t.sh.length
    · have := (shTxt_no hb).2; omega
    · exact ⟨hok, by omega, by rw [← h.1]; exact (shTxt_yes hb).1⟩
  · simp at h
theorem sShow_any {S : Nat → Prop} (t : Tr) (v : Value) (w : World) (hl : Lies w S t v) (hwt : t.wt ≤ 1048576) :
    Calls Try.prog 6 #[t.val v] w fun e w' => e = .returned (.tuple #[.string (bs (shR t).1), .int .i64 (shR t).2]) ∧ Below w.heap.size w w' := by
  by_cases h : t.ok = true
  · rw [show shR t = (shTxt t, shCode t) from if_pos h]; exact sShow_yes t v w hl h hwt
  · have h' : t.ok = false := by simpa using h
    rw [show shR t = ([], 1) from if_neg h]; exact sShow_no t v w hl h'
theorem iShow_any {S : Nat → Prop} (t : Tr) (v : Value) (w : World) (hl : Lies w S t v) (hwt : t.wt ≤ 1048576) :
    Calls Try.prog 8 #[t.val v] w fun e w' => e = .returned (.tuple #[.string (bs (shR t).1), .int .i64 (shR t).2]) ∧ Below w.heap.size w w' := by
  by_cases h : t.ok = true
  · rw [show shR t = (shTxt t, shCode t) from if_pos h]; exact iShow_yes t v w hl h hwt
  · have h' : t.ok = false := by simpa using h
    rw [show shR t = ([], 1) from if_neg h]; exact iShow_no t v w hl h'
theorem rd_sh {t : Tr} (hok : t.ok = true) (hl : t.sh.length ≤ 20000) : rd (bs t.sh) = (t, 0, 0) := by
  unfold rd
  rw [if_neg (by rw [bs_size]; omega), pAll_sh (ok_right hok).1]
  simp [hok]
theorem rd_cut {t : Tr} (hok : t.ok = true) (hl : t.sh.length ≤ 20000) : rd (bs t.sh.dropLast) = (zr, 2, ((t.sh.length - 1 : Nat) : Int)) := by
  unfold rd
  rw [if_neg (by rw [bs_size, List.length_dropLast]; omega), pAll_cut (ok_right hok).1]
theorem rd_blank {t : Tr} (hok : t.ok = true) (hl : t.sh.length ≤ 19997) : rd (bs ([32, 10] ++ t.sh ++ [32])) = (t, 0, 0) := by
  unfold rd
  rw [if_neg (by rw [bs_size]; simp; omega), pAll_blank (ok_right hok).1]
  simp [hok]

theorem bs_cut (l : List UInt8) : (bs l).extract 0 ((bs l).size - 1) = bs l.dropLast := by
  rw [bs_size]
  apply ByteArray.ext
  show ((bs l).extract 0 (l.length - 1)).data = _
  rw [ByteArray.data_extract]
  show l.toArray.extract 0 (l.length - 1) = l.dropLast.toArray
  apply Array.ext'
  simp [List.dropLast_eq_take]

set_option maxHeartbeats 6400000 in
theorem lawTT {cs : List UInt8} {a : Option Addr} {cap b off : Nat} (w : World) (h3 : cs.length ≤ cap) (h4 : cap ≤ 2 ^ 63 - 1) (h6 : 0 < cs.length → a = some ⟨b, off, none⟩) (h7 : Byts w cs b off) :
    Calls Try.prog 3 #[.slice a cs.length cap] w fun e w' => e = .returned (.bool true) ∧ Below w.heap.size w w' := by
  by_cases h2 : cs.length ≤ 1048576
  · have hd := fun (w' : World) (hw : Below w.heap.size w w') => dshow_any (a := a) (cap := cap) (b := b) (off := off) w' h2 h3 h4 h6 (fun i hi => (hw.cell (lt_of_cell (h7 i hi))).trans (h7 i hi))
    have HD := (show Hid _ from hd); clear hd
    have hbg := big_any a cs.length cap w (by omega)
    rw [show decide (1048576 < cs.length) = false from by simp; omega] at hbg
    have HBG := (show Hid _ from hbg); clear hbg h7 h6
    have hTw := cShowT_wt cs
    generalize cShowT cs = T at *
    have hS : ∀ (v : Value) (w' : World), (∃ S, Lies w' S T v) → Calls Try.prog 6 #[T.val v] w' _ := fun v w' ⟨_, h⟩ => sShow_any T v w' h (by omega)
    have hI : ∀ (v : Value) (w' : World), (∃ S, Lies w' S T v) → Calls Try.prog 8 #[T.val v] w' _ := fun v w' ⟨_, h⟩ => iShow_any T v w' h (by omega)
    have HS := (show Hid _ from hS); clear hS
    have HI := (show Hid _ from hI); clear hI
    generalize hRC : shR T = r at *
    obtain ⟨R, C⟩ := r
    have HRC := (show Hid _ from hRC); clear hRC
    dsimp only at HS HI
    have hneC : ((C : Int) != C) = false := by simp
    go_enter Try.func3, Try.ntmps3
    go_wp2_with fail
    refine Calls.mono HBG.out ?_
    rintro e w0 ⟨rfl, rfl⟩
    go_wp2_with fail
    refine Calls.mono (HD.out _ (Below.refl _ _)) ?_
    rintro e w1 ⟨ta1, tm1, tc1, rfl, hb1, hl1⟩
    have HC1 := (show Hid _ from HS.out _ w1 ⟨_, hl1⟩); clear hl1
    go_wp2_with fail
    refine Calls.mono HC1.out ?_
    rintro e w2 ⟨rfl, hb2⟩
    have HW2 := (show Hid _ from bel_trans hb1 hb2); clear hb1 hb2 HC1
    go_wp2_with fail
    refine Calls.mono (HD.out _ HW2.out) ?_
    rintro e w3 ⟨ta3, tm3, tc3, rfl, hb3, hl3⟩
    have HC3 := (show Hid _ from HI.out _ w3 ⟨_, hl3⟩); clear hl3
    go_wp2_with fail
    refine Calls.mono HC3.out ?_
    rintro e w4 ⟨rfl, hb4⟩
    have HW4 := (show Hid _ from bel_trans HW2.out (bel_trans hb3 hb4)); clear hb3 hb4 HC3
    by_cases hC0 : C = 0
    · subst hC0
      obtain ⟨hok, hlen, hRs⟩ := shR_zero HRC.out
      subst hRs
      have hRd : ∀ (w' : World), Calls Try.prog 9 #[.string (bs T.sh)] w' fun e w'' => RAns (T, 0, 0) w' e w'' := fun w' => by
        have := iRead_any (bs T.sh) w' (by rw [bs_size]; omega)
        rwa [rd_sh hok hlen] at this
      have hRc : ∀ (w' : World), Calls Try.prog 9 #[.string ((bs T.sh).extract 0 ((bs T.sh).size - 1))] w' fun e w'' => RAns (zr, 2, ((bs T.sh).size : Int) - 1) w' e w'' := fun w' => by
        have := iRead_any (bs T.sh.dropLast) w' (by rw [bs_size, List.length_dropLast]; omega)
        have h1 := deep_sh T (ok_right hok).1
        have h2 := Tr.deep_pos T
        rw [rd_cut hok hlen, show ((T.sh.length - 1 : Nat) : Int) = (T.sh.length : Int) - 1 from by omega] at this
        rw [bs_cut, bs_size]
        exact this
      have hRb : (bs T.sh).size ≤ 19997 → ∀ (w' : World), Calls Try.prog 9 #[.string (⟨#[32, 10]⟩ ++ bs T.sh ++ ⟨#[32]⟩)] w' fun e w'' => RAns (T, 0, 0) w' e w'' := fun hq w' => by
        rw [bs_size] at hq
        have := iRead_any (bs ([32, 10] ++ T.sh ++ [32])) w' (by rw [bs_size]; simp; omega)
        rw [rd_blank hok hq, ← bs_append, ← bs_append] at this
        exact this
      have hn1 : 1 ≤ (bs T.sh).size := by
        have h1 := deep_sh T (ok_right hok).1
        have h2 := Tr.deep_pos T
        rw [bs_size]; omega
      have hn2 : (bs T.sh).size ≤ 20000 := by rw [bs_size]; exact hlen
      have HRD := (show Hid _ from (⟨hRd, hRc, hRb⟩ : _ ∧ _ ∧ _)); clear hRd hRc hRb
      generalize bs T.sh = str at *
      go_wp2_with fail
      refine Calls.mono (HRD.out.1 _) ?_
      rintro e w5 ⟨a5, m5, c5, rfl, hb5, ho5⟩
      dsimp only at ho5 ⊢
      have hc5 := bel_trans hb5 (bel_alloc w5 (.cells #[.string T.name, .string T.text, .bool T.leaf, .slice a5 m5 c5] 28))
      have F5 := (show Hid _ from four_box w5 (.string T.name) (.string T.text) (.bool T.leaf) (.slice a5 m5 c5) 28)
      have O5 := (show Hid _ from Own.lies (ho5.still (bel_alloc w5 (.cells #[.string T.name, .string T.text, .bool T.leaf, .slice a5 m5 c5] 28))))
      have HW5 := (show Hid _ from bel_trans HW4.out hc5); clear hb5 ho5 hc5
      go_wp2_with fail
      generalize hwA : w5.alloc (.cells #[.string T.name, .string T.text, .bool T.leaf, .slice a5 m5 c5] 28) = wA at *
      clear hwA
      have hdr := (Below.refl wA.heap.size wA).drew
      have hS0 := Four.still F5.out hdr
      have hcl7 := HD.out wA.drew (bel_trans HW5.out hdr)
      have HC7 := (show Hid _ from hcl7); clear hcl7
      have HDR := (show Hid _ from hdr); clear hdr
      go_region_held3 (fun w' => w'.cell? ⟨w5.heap.size, 0, none⟩ = some (.string T.name) ∧ w'.cell? ⟨w5.heap.size, 1, none⟩ = some (.string T.text) ∧ w'.cell? ⟨w5.heap.size, 2, none⟩ = some (.bool T.leaf) ∧ w'.cell? ⟨w5.heap.size, 3, none⟩ = some (.slice a5 m5 c5)) (((show Four _ w5.heap.size (.string T.name) (.string T.text) (.bool T.leaf) (.slice a5 m5 c5)); (first | with_reducible exact hS0 | with_reducible exact hS1 | with_reducible exact hS2)))
        (first
        | (go_at_call 7; refine Calls.mono HC7.out ?_; rintro e w6 ⟨ta6, tm6, tc6, rfl, hb6, hl6⟩; have hx6 : Below wA.heap.size wA w6 := HDR.out.trans (hb6.mono (Nat.le_refl _)); have hS1 := Four.still F5.out hx6; have HX6 := (show Hid _ from hx6); have HCS := (show Hid _ from same_any T _ _ w6 (Lies.still O5.out hx6) hl6); clear hx6 hb6 hl6)
        | (go_at_call 10; refine Calls.mono HCS.out ?_; rintro e w7 ⟨rfl, hb7⟩; have HX7 := (show Hid _ from bel_trans HX6.out hb7); have hS2 := Four.still F5.out HX7.out; clear hb7))
      all_goals
        clear hS0 hS1 hS2
        have hzz : ((str.size : Int) - 1).toNat = str.size - 1 := by omega
        go_wp2_with fail
        refine Calls.mono (HRD.out.2.1 _) ?_
        rintro e w8 ⟨a8, m8, c8, rfl, hb8, _⟩
        have HX8 := (show Hid _ from bel_trans HX7.out hb8); clear hb8
        have hneS : ((str.size : Int) - 1 != (str.size : Int) - 1) = false := by simp
        by_cases hbig : 19997 < str.size
        · go_wp2_with fail
          go_ret
          exact ⟨rfl, bel_trans HW5.out HX8.out⟩
        · have hRb := HRD.out.2.2 (by omega)
          have HRB := (show Hid _ from hRb); clear hRb
          go_wp2_with fail
          refine Calls.mono (HRB.out _) ?_
          rintro e w9 ⟨a9, m9, c9, rfl, hb9, ho9⟩
          dsimp only at ho9 ⊢
          have hc9 := bel_trans (bel_trans HX8.out hb9) (bel_alloc w9 (.cells #[.string T.name, .string T.text, .bool T.leaf, .slice a9 m9 c9] 28))
          have F9 := four_box w9 (.string T.name) (.string T.text) (.bool T.leaf) (.slice a9 m9 c9) 28
          have O9 := Own.lies (ho9.still (bel_alloc w9 (.cells #[.string T.name, .string T.text, .bool T.leaf, .slice a9 m9 c9] 28)))
          obtain ⟨A0, A1, A2, A3⟩ := Four.still F5.out hc9
          obtain ⟨B0, B1, B2, B3⟩ := F9
          have HCS := (show Hid _ from same_any T _ _ _ O9 (Lies.still O5.out hc9))
          have HX9 := (show Hid _ from bel_trans HW5.out hc9); clear hb9 ho9 hc9 O9
          go_wp2_with fail
          refine Calls.mono HCS.out ?_
          rintro e w10 ⟨rfl, hb10⟩
          have HW10 := (show Hid _ from bel_trans HX9.out hb10); clear hb10 A0 A1 A2 A3 B0 B1 B2 B3
          go_wp2_with fail
          go_ret
          exact ⟨rfl, HW10.out⟩
    · have hCb : ((C : Int) != 0) = true := by simp; exact hC0
      go_wp2_with fail
      go_ret
      exact ⟨rfl, HW4.out⟩
  · have hbg := big_any a cs.length cap w (by omega)
    rw [show decide (1048576 < cs.length) = true from by simp; omega] at hbg
    have HBG := (show Hid _ from hbg); clear hbg
    clear h7 h6
    go_enter Try.func3, Try.ntmps3
    go_wp2_with fail
    refine Calls.mono HBG.out ?_
    rintro e w0 ⟨rfl, rfl⟩
    go_wp2_with fail
    go_ret
    exact ⟨rfl, Below.refl _ _⟩
end Go.Proofs.Ythmdoplickpmaaa
