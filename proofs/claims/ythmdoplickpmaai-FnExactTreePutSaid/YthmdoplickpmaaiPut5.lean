import Derived.Test.YthmdoplickpmaaiPut4
import Derived.Deep.RegionHeld3
namespace Go.Proofs.Ythmdoplickpmaai
open Go.RowKit Go.Deep Go.Lib
set_option linter.unusedVariables false
set_option maxRecDepth 100000
set_option linter.unusedSimpArgs false

/-- What the program's put comes to. -/
def PutAns (q : Option Tr) (S : Nat → Prop) (w : World) (e : Ending) (w' : World) : Prop :=
  (∃ o T X, q = some o ∧ e = .returned (.tuple #[.iface T X, .bool true]) ∧ Below w.heap.size w w' ∧ Form w' (fun b => S b ∨ w.heap.size ≤ b) o (.iface T X)) ∨ (q = none ∧ ∃ X, e = .returned (.tuple #[X, .bool false]) ∧ Below w.heap.size w w')
def Put3 (f pv uv : Value) (w : World) (R : Ending → World → Prop) : Prop :=
  (∃ X, f = .iface 83 X ∧ Calls Try.prog 124 #[X, pv, uv] w R) ∨ (∃ X, f = .iface 86 X ∧ Calls Try.prog 129 #[X, pv, uv] w R)

/-- The cells that put's call of kid loads. -/
def HeldN (n : ByteArray) (sl : Value) (h pb poff : Nat) (i : Int) (w' : World) : Prop := w'.cell? ⟨h, 0, none⟩ = some (.string n) ∧ w'.cell? ⟨h, 1, none⟩ = some sl ∧ w'.cell? ⟨pb, poff, none⟩ = some (.int .i64 i)
theorem HeldN.still {n : ByteArray} {sl : Value} {h pb poff : Nat} {i : Int} {w w' : World} (H : HeldN n sl h pb poff i w) (hb : Below w.heap.size w w') : HeldN n sl h pb poff i w' :=
  ⟨(hb.cell (lt_of_cell H.1)).trans H.1, (hb.cell (lt_of_cell H.2.1)).trans H.2.1, (hb.cell (lt_of_cell H.2.2)).trans H.2.2⟩
theorem HeldN.new {w : World} {pb poff : Nat} {i : Int} (n : ByteArray) (sl : Value) (p0 : w.cell? ⟨pb, poff, none⟩ = some (.int .i64 i)) : HeldN n sl w.heap.size pb poff i (w.alloc (.cells #[.string n, sl] 86)) :=
  ⟨by simp [go_sem], by simp [go_sem], ((bel_alloc w _).cell (lt_of_cell p0)).trans p0⟩

theorem putAt_leaf {t : Tr} {i : Int} {r : List Int} {u : Tr} (hr : t.right = true) (hl : t.leaf = true) : putAt (i :: r) t u = none := by
  have hk : kidAt t i = none := by
    refine kidAt_no ?_
    have : t.kids.length = 0 := by
      cases t with
      | mk n x le k => dsimp only at hl; subst hl; exact leaf_kids hr
    omega
  show (kidAt t i).bind _ = none
  rw [hk]; rfl

set_option maxHeartbeats 1600000 in
theorem put_any (l : List Int) : ∀ (S : Nat → Prop) (t u : Tr) (f pv uv : Value) (w : World), Form w S t f → Ints w (fun _ => True) l pv → Form w S u uv → t.right = true → t.wt ≤ 1048576 →
    Put3 f pv uv w fun e w' => PutAns (putAt l t u) S w e w' := by
  induction l with
  | nil =>
    intro S t u f pv uv w hft hp hfu hr hwt
    obtain ⟨T, Y, rfl⟩ := hfu.iface
    obtain ⟨pa, pcap, pb, poff, rfl, hpc, hpm, hpa, hpcell⟩ := hp
    rcases hft.out with ⟨hle, _, _, rfl⟩ | ⟨hle, hn, cap, b, fv, rfl, _⟩
    · refine .inl ⟨_, rfl, Calls.mono (put_leaf _ _ _ _ _ _ _ _ (by simp)) ?_⟩
      rintro e w' ⟨rfl, hb⟩
      exact .inl ⟨u, T, Y, rfl, rfl, hb, (hfu.still hb).mono (fun _ h _ => .inl h)⟩
    · refine .inr ⟨_, rfl, ?_⟩
      have HU := (show Hid _ from hfu); clear hfu hft hpcell hpa
      simp only [List.length_nil]
      go_enter Try.func129, Try.ntmps129
      go_wp2_with fail
      go_ret2
      exact .inl ⟨u, T, Y, rfl, rfl, bel_alloc _ _, (Form.still HU.out (bel_alloc _ _)).mono (fun _ h _ => .inl h)⟩
  | cons i r ih =>
    intro S t u f pv uv w hft hp hfu hr hwt
    obtain ⟨T, Y, rfl⟩ := hfu.iface
    obtain ⟨pa, pcap, pb, poff, rfl, hpc, hpm, hpa, hpcell⟩ := hp
    rcases hft.out with ⟨hle, _, _, rfl⟩ | ⟨hle, hn, cap, b, fv, rfl, hc, hm, hSb, hb, hcell, hk⟩
    · have hno : putAt (i :: r) t u = none := putAt_leaf hr hle
      refine .inl ⟨_, rfl, Calls.mono (put_leaf _ _ _ _ _ _ _ _ (by unfold maxLen at hpm; simp at hpc ⊢; omega)) ?_⟩
      rintro e w' ⟨rfl, hb⟩
      exact .inr ⟨hno, _, rfl, hb⟩
    · refine .inr ⟨_, rfl, ?_⟩
      obtain ⟨rfl, _⟩ := hpa (by simp)
      have p0 := hpcell 0 (by simp)
      simp only [List.getElem_cons_zero, Nat.add_zero] at p0
      have hpr : ∀ j (hj : j < r.length), w.cell? ⟨pb, poff + 1 + j, none⟩ = some (.int .i64 r[j]) := by
        intro j hj
        have := hpcell (j + 1) (by simp; omega)
        rw [show poff + 1 + j = poff + (j + 1) by omega]
        simpa using this
      have hkl : t.kids.length ≤ 1048576 := by have := wt_kids t; omega
      unfold maxLen at hm hpm
      simp only [List.length_cons] at *
      obtain ⟨pa1, hpa1, hps⟩ := path_rest pb poff r.length pcap hpc
      by_cases hin : 0 ≤ i ∧ i < (t.kids.length : Int)
      · obtain ⟨ii, rfl⟩ : ∃ ii : Nat, i = ii := ⟨i.toNat, by omega⟩
        have hii : ii < t.kids.length := by omega
        have hkk := kidAt_yes hii
        have hkr := kidAt_right hr hkk
        have hwk : t.kids[ii].wt ≤ 1048576 := by have := wt_kids t; have := Tr.wt_mem t.kids ii hii; omega
        have hq : putAt ((ii : Int) :: r) t u = (putAt r t.kids[ii] u).map (setKid t ii) := by
          show (kidAt t ii).bind _ = _
          rw [hkk]; rfl
        rw [hq]
        have HE := (show Hid _ from (⟨hle, hn, hk, hcell, hpr, hfu, hpa1⟩ : _ ∧ _ ∧ _ ∧ _ ∧ _ ∧ _ ∧ _))
        have hih := fun (w' : World) (hw : Below w.heap.size w w') => ih S t.kids[ii] u (fv ii) (.slice pa1 r.length (pcap - 1)) (.iface T Y) w' ((hk ii hii).still hw)
          ⟨pa1, pcap - 1, pb, poff + 1, rfl, by omega, by unfold maxLen; omega, fun h => ⟨hpa1 h, trivial⟩, fun j hj => (hw.cell (lt_of_cell (hpr j hj))).trans (hpr j hj)⟩ (hfu.still hw) hkr hwk
        have hcl : ∀ (w' : World), Below w.heap.size w w' → ∀ TT XX, fv ii = .iface TT XX → Calls Try.prog 128 #[.agg #[.string t.name, .slice (some ⟨b, 0, none⟩) t.kids.length cap], .int .i64 ii] w' fun e w'' => e = .returned (.tuple #[.iface TT XX, .bool true]) ∧ Below w'.heap.size w' w'' :=
          fun w' hw TT XX hv => kid_yes t.name b t.kids.length cap ii TT XX w' hii (by omega) (by rw [← hv]; exact (hw.cell (lt_of_cell (hcell ii hii))).trans (hcell ii hii))
        obtain ⟨TT, XX, hfv⟩ := (hk ii hii).iface
        have HCL := (show Hid _ from (fun w' hw => hcl w' hw TT XX hfv)); clear hcl
        have HIH := (show Hid _ from hih); clear hih ih
        clear hcell hk hpr hpcell hpa hft hfu hkk hkr hq hpa1 hSb hle
        have hS0 := HeldN.new t.name (.slice (some ⟨b, 0, none⟩) t.kids.length cap) p0
        have hbw0 := bel_alloc w (.cells #[.string t.name, .slice (some ⟨b, 0, none⟩) t.kids.length cap] 86)
        have H0 := (show Hid _ from (⟨hS0, hbw0⟩ : _ ∧ _)); clear hS0 hbw0
        go_enter Try.func129, Try.ntmps129
        go_wp2_with fail
        generalize hw0 : w.alloc (.cells #[.string t.name, .slice (some ⟨b, 0, none⟩) t.kids.length cap] 86) = w0 at *
        clear hw0
        obtain ⟨hS0, hbw0⟩ := H0.out
        have hdr0 := (Below.refl w0.heap.size w0).drew
        have hS0d : HeldN t.name (.slice (some ⟨b, 0, none⟩) t.kids.length cap) w.heap.size pb poff ii w0.drew := HeldN.still hS0 hdr0
        have HC1 := (show Hid _ from HCL.out w0.drew hbw0.drew)
        have HS0 := (show Hid _ from hS0); clear hS0
        go_region_held3 (fun w' => w'.cell? ⟨w.heap.size, 0, none⟩ = some (.string t.name) ∧ w'.cell? ⟨w.heap.size, 1, none⟩ = some (.slice (some ⟨b, 0, none⟩) t.kids.length cap) ∧ w'.cell? ⟨pb, poff, none⟩ = some (.int .i64 ii)) (first | exact hS0d | exact hS1)
          (first
          | (go_at_call 128; refine Calls.mono HC1.out ?_; rintro e w1 ⟨rfl, hb1⟩; have hb01 : Below w0.heap.size w0 w1 := hdr0.trans (hb1.mono (Nat.le_refl _)); have hS1 : HeldN t.name (.slice (some ⟨b, 0, none⟩) t.kids.length cap) w.heap.size pb poff ii w1 := HeldN.still HS0.out hb01))
        have hbw1 := bel_trans hbw0 hb01
        clear hS0d hb1 hdr0 HC1 HCL HS0 H0
        have H1 := (show Hid _ from (⟨hS1, hbw1⟩ : _ ∧ _)); clear hS1 hbw1 hbw0 hb01
        go_wp2_with fail
        have hcall := HIH.out w1.drew (Below.drew H1.out.2)
        rw [hfv] at hcall
        have hdr1 := (Below.refl w1.heap.size w1).drew
        have HDR := (show Hid _ from hdr1); clear hdr1
        have hmL := method_putL XX
        have hmN := method_putN XX
        have hnL := nilA_putL XX
        have hnN := nilA_putN XX
        clear HIH
        cases hq : putAt r t.kids[ii] u with
        | none =>
          rw [hq] at hcall
          have HQ := (show Hid _ from hq); clear hq
          rcases hcall with ⟨X', hX, hcall⟩ | ⟨X', hX, hcall⟩
          · cases hX
            have hc2 : Calls Try.prog 124 #[XX, .slice pa1 r.length (pcap - 1), .iface T Y] w1.drew fun e w' => ∃ X, e = .returned (.tuple #[X, .bool false]) ∧ Below w1.heap.size w1 w' := Calls.mono hcall (fun e w' h => by
              rcases h with ⟨_, _, _, h, _⟩ | ⟨_, X, he, hb⟩
              · cases h
              · exact ⟨X, he, HDR.out.trans (hb.mono (Nat.le_refl _))⟩)
            have HC2 := (show Hid _ from hc2); clear hc2 hcall
            go_region_held3 (fun _ => True) (trivial) (first | (go_at_call 124; refine Calls.mono HC2.out ?_; rintro e w2 ⟨X, rfl, hb2⟩))
            have hbw2 := bel_trans H1.out.2 hb2
            have HB2 := (show Hid _ from hbw2); clear hbw2 hb2
            go_wp2_with fail
            go_ret2
            exact .inr ⟨by rw [HQ.out]; rfl, _, rfl, HB2.out⟩
          · cases hX
            have hc2 : Calls Try.prog 129 #[XX, .slice pa1 r.length (pcap - 1), .iface T Y] w1.drew fun e w' => ∃ X, e = .returned (.tuple #[X, .bool false]) ∧ Below w1.heap.size w1 w' := Calls.mono hcall (fun e w' h => by
              rcases h with ⟨_, _, _, h, _⟩ | ⟨_, X, he, hb⟩
              · cases h
              · exact ⟨X, he, HDR.out.trans (hb.mono (Nat.le_refl _))⟩)
            have HC2 := (show Hid _ from hc2); clear hc2 hcall
            go_region_held3 (fun _ => True) (trivial) (first | (go_at_call 129; refine Calls.mono HC2.out ?_; rintro e w2 ⟨X, rfl, hb2⟩))
            have hbw2 := bel_trans H1.out.2 hb2
            have HB2 := (show Hid _ from hbw2); clear hbw2 hb2
            go_wp2_with fail
            go_ret2
            exact .inr ⟨by rw [HQ.out]; rfl, _, rfl, HB2.out⟩
        | some s' =>
          rw [hq] at hcall
          have HQ := (show Hid _ from hq); clear hq
          rcases hcall with ⟨X', hX, hcall⟩ | ⟨X', hX, hcall⟩
          · cases hX
            have hc2 : Calls Try.prog 124 #[XX, .slice pa1 r.length (pcap - 1), .iface T Y] w1.drew fun e w' => ∃ T2 X2, e = .returned (.tuple #[.iface T2 X2, .bool true]) ∧ Below w1.heap.size w1 w' ∧ Form w' (fun b => S b ∨ w1.heap.size ≤ b) s' (.iface T2 X2) := Calls.mono hcall (fun e w' h => by
              rcases h with ⟨o, T2, X2, h, he, hb, hf⟩ | ⟨h, _⟩
              · cases h
                exact ⟨T2, X2, he, HDR.out.trans (hb.mono (Nat.le_refl _)), hf⟩
              · cases h)
            have HC2 := (show Hid _ from hc2); clear hc2 hcall
            go_region_held3 (fun _ => True) (trivial) (first | (go_at_call 124; refine Calls.mono HC2.out ?_; rintro e w2 ⟨T2, X2, rfl, hb2, hf2⟩))
            have hbw2 := bel_trans H1.out.2 hb2
            have hS2 := HeldN.still H1.out.1 hb2
            have hz2 := hb2.size
            have HB2 := (show Hid _ from (⟨hbw2, hS2, hf2⟩ : _ ∧ _ ∧ _)); clear hb2 hf2 hbw2
            obtain ⟨s0, s1, s2⟩ := hS2
            go_wp2_with fail
            have hcl := clone_any ((List.range t.kids.length).map fv) b cap w2 (by simp; omega) (by simp; omega) (by
              intro x hx
              obtain ⟨j, hj, rfl⟩ := List.mem_map.1 hx
              obtain ⟨T4, X4, e4⟩ := (HE.out.2.2.1 j (List.mem_range.1 hj)).iface
              rw [e4]; rfl) (by
              intro j x hx
              have hj : j < t.kids.length := by have := (List.getElem?_eq_some_iff.1 hx).1; simpa using this
              simp [hj] at hx
              subst hx
              exact (HB2.out.1.cell (lt_of_cell (HE.out.2.2.2.1 j hj))).trans (HE.out.2.2.2.1 j hj))
            simp only [List.length_map, List.length_range] at hcl
            refine Calls.mono hcl ?_
            clear hcl s0 s1 s2
            rintro e w3 ⟨g, cap3, rfl, hown3, hb3⟩
            have hS3 := HeldN.still HB2.out.2.1 hb3
            have hbw3 := bel_trans HB2.out.1 hb3
            obtain ⟨hg, hnc, hcm, f3, hrow, hf⟩ := row_of_own hown3
            have hz3 := lt_of_cell HB2.out.2.1.1
            dsimp only at hz3
            have hfo := form_put (s' := s') (X := .iface T2 X2) (ii := ii) HE.out.1 HE.out.2.1 hii (fun i hi => ((HE.out.2.2.1 i hi).still HB2.out.1).mono (fun b hb _ => .inl hb)) HB2.out.2.2 hb3 hown3 (by
              intro i hi
              simp [hi])
            obtain ⟨s0, s1, s2⟩ := hS3
            have r0 := hrow.cell (i := ii) (by omega)
            have r1 := hrow.frozen ii
            have n0 : (w3.setCell ⟨g, ii, none⟩ (.iface T2 X2)).cell? ⟨w.heap.size, 0, none⟩ = some (.string t.name) := (World.cell?_of_block (w := w3) (blk_setCell_other _ _ _ _ (by show w.heap.size ≠ g; omega))).trans s0
            have hzw := H1.out.2.size
            have HF := (show Hid _ from (⟨hfo, hbw3, hg, hnc⟩ : _ ∧ _ ∧ _ ∧ _)); clear hfo hbw3 hown3 hrow hf hb3 hg hcm
            have HN0 := (show Hid _ from n0)
            go_wp2_with fail
            go_ret2
            refine .inl ⟨setKid t ii s', 86, _, by rw [HQ.out]; rfl, rfl, HF.out.2.1.setCell (by show w.heap.size ≤ g; have := HF.out.2.2.1; omega) _, HF.out.1.mono (fun b hb _ => ?_)⟩
            rcases hb with (h | h) | h
            · exact .inl h
            · exact .inr (by omega)
            · exact .inr (by omega)
          · cases hX
            have hc2 : Calls Try.prog 129 #[XX, .slice pa1 r.length (pcap - 1), .iface T Y] w1.drew fun e w' => ∃ T2 X2, e = .returned (.tuple #[.iface T2 X2, .bool true]) ∧ Below w1.heap.size w1 w' ∧ Form w' (fun b => S b ∨ w1.heap.size ≤ b) s' (.iface T2 X2) := Calls.mono hcall (fun e w' h => by
              rcases h with ⟨o, T2, X2, h, he, hb, hf⟩ | ⟨h, _⟩
              · cases h
                exact ⟨T2, X2, he, HDR.out.trans (hb.mono (Nat.le_refl _)), hf⟩
              · cases h)
            have HC2 := (show Hid _ from hc2); clear hc2 hcall
            go_region_held3 (fun _ => True) (trivial) (first | (go_at_call 129; refine Calls.mono HC2.out ?_; rintro e w2 ⟨T2, X2, rfl, hb2, hf2⟩))
            have hbw2 := bel_trans H1.out.2 hb2
            have hS2 := HeldN.still H1.out.1 hb2
            have hz2 := hb2.size
            have HB2 := (show Hid _ from (⟨hbw2, hS2, hf2⟩ : _ ∧ _ ∧ _)); clear hb2 hf2 hbw2
            obtain ⟨s0, s1, s2⟩ := hS2
            go_wp2_with fail
            have hcl := clone_any ((List.range t.kids.length).map fv) b cap w2 (by simp; omega) (by simp; omega) (by
              intro x hx
              obtain ⟨j, hj, rfl⟩ := List.mem_map.1 hx
              obtain ⟨T4, X4, e4⟩ := (HE.out.2.2.1 j (List.mem_range.1 hj)).iface
              rw [e4]; rfl) (by
              intro j x hx
              have hj : j < t.kids.length := by have := (List.getElem?_eq_some_iff.1 hx).1; simpa using this
              simp [hj] at hx
              subst hx
              exact (HB2.out.1.cell (lt_of_cell (HE.out.2.2.2.1 j hj))).trans (HE.out.2.2.2.1 j hj))
            simp only [List.length_map, List.length_range] at hcl
            refine Calls.mono hcl ?_
            clear hcl s0 s1 s2
            rintro e w3 ⟨g, cap3, rfl, hown3, hb3⟩
            have hS3 := HeldN.still HB2.out.2.1 hb3
            have hbw3 := bel_trans HB2.out.1 hb3
            obtain ⟨hg, hnc, hcm, f3, hrow, hf⟩ := row_of_own hown3
            have hz3 := lt_of_cell HB2.out.2.1.1
            dsimp only at hz3
            have hfo := form_put (s' := s') (X := .iface T2 X2) (ii := ii) HE.out.1 HE.out.2.1 hii (fun i hi => ((HE.out.2.2.1 i hi).still HB2.out.1).mono (fun b hb _ => .inl hb)) HB2.out.2.2 hb3 hown3 (by
              intro i hi
              simp [hi])
            obtain ⟨s0, s1, s2⟩ := hS3
            have r0 := hrow.cell (i := ii) (by omega)
            have r1 := hrow.frozen ii
            have n0 : (w3.setCell ⟨g, ii, none⟩ (.iface T2 X2)).cell? ⟨w.heap.size, 0, none⟩ = some (.string t.name) := (World.cell?_of_block (w := w3) (blk_setCell_other _ _ _ _ (by show w.heap.size ≠ g; omega))).trans s0
            have hzw := H1.out.2.size
            have HF := (show Hid _ from (⟨hfo, hbw3, hg, hnc⟩ : _ ∧ _ ∧ _ ∧ _)); clear hfo hbw3 hown3 hrow hf hb3 hg hcm
            have HN0 := (show Hid _ from n0)
            go_wp2_with fail
            go_ret2
            refine .inl ⟨setKid t ii s', 86, _, by rw [HQ.out]; rfl, rfl, HF.out.2.1.setCell (by show w.heap.size ≤ g; have := HF.out.2.2.1; omega) _, HF.out.1.mono (fun b hb _ => ?_)⟩
            rcases hb with (h | h) | h
            · exact .inl h
            · exact .inr (by omega)
            · exact .inr (by omega)
      · have hno : putAt (i :: r) t u = none := by
          show (kidAt t i).bind _ = none
          rw [kidAt_no (by omega)]; rfl
        have hcl := fun (w' : World) => kid_no t.name b t.kids.length cap i w' (by omega)
        have HCL := (show Hid _ from hcl); clear hcl
        have HNO := (show Hid _ from hno); clear hno
        clear hcell hk hpr hpcell hpa hft hfu hpa1 hSb hle ih hin hwt
        have hS0 := HeldN.new t.name (.slice (some ⟨b, 0, none⟩) t.kids.length cap) p0
        have hbw0 := bel_alloc w (.cells #[.string t.name, .slice (some ⟨b, 0, none⟩) t.kids.length cap] 86)
        have H0 := (show Hid _ from (⟨hS0, hbw0⟩ : _ ∧ _)); clear hS0 hbw0
        go_enter Try.func129, Try.ntmps129
        go_wp2_with fail
        generalize hw0 : w.alloc (.cells #[.string t.name, .slice (some ⟨b, 0, none⟩) t.kids.length cap] 86) = w0 at *
        clear hw0
        obtain ⟨hS0, hbw0⟩ := H0.out
        have hdr0 := (Below.refl w0.heap.size w0).drew
        have hS0d : HeldN t.name (.slice (some ⟨b, 0, none⟩) t.kids.length cap) w.heap.size pb poff i w0.drew := HeldN.still hS0 hdr0
        have HC1 := (show Hid _ from HCL.out w0.drew)
        have HS0 := (show Hid _ from hS0); clear hS0
        go_region_held3 (fun w' => w'.cell? ⟨w.heap.size, 0, none⟩ = some (.string t.name) ∧ w'.cell? ⟨w.heap.size, 1, none⟩ = some (.slice (some ⟨b, 0, none⟩) t.kids.length cap) ∧ w'.cell? ⟨pb, poff, none⟩ = some (.int .i64 i)) (first | exact hS0d | exact hS1)
          (first
          | (go_at_call 128; refine Calls.mono HC1.out ?_; rintro e w1 ⟨rfl, hb1⟩; have hb01 : Below w0.heap.size w0 w1 := hdr0.trans (hb1.mono (Nat.le_refl _)); have hS1 : HeldN t.name (.slice (some ⟨b, 0, none⟩) t.kids.length cap) w.heap.size pb poff i w1 := HeldN.still HS0.out hb01))
        have hbw1 := bel_trans hbw0 hb01
        clear hS0d hb1 hdr0 HC1 HCL HS0 H0
        go_wp2_with fail
        go_ret2
        exact .inr ⟨HNO.out, _, rfl, hbw1⟩
end Go.Proofs.Ythmdoplickpmaai
