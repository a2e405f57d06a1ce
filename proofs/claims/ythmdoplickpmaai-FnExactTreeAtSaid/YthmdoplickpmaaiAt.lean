import Derived.Test.YthmdoplickpmaaiOutw
import Derived.Test.YthmdoplickpmaaiRight
import Derived.Test.YthmdoplickpmaaiSize
import Derived.Deep.RegionWith
import Derived.Deep.QuietTactic
import Derived.BigQuiet
namespace Go.Proofs.Ythmdoplickpmaai
open Go.RowKit Go.Deep Go.Lib
set_option linter.unusedVariables false
set_option maxRecDepth 100000
set_option linter.unusedSimpArgs false

/-- The Kid at a place. -/
def kidAt (t : Tr) (i : Int) : Option Tr := if 0 ≤ i ∧ i < t.kids.length then some (nth t.kids i.toNat) else none
/-- The tree at a path. -/
def walkAt : List Int → Tr → Option Tr
  | [], t => some t
  | i :: r, t => (kidAt t i).bind (walkAt r)
theorem walkAt_append : ∀ (a b : List Int) (t : Tr), walkAt (a ++ b) t = (walkAt a t).bind (walkAt b)
  | [], b, t => rfl
  | i :: r, b, t => by
    show (kidAt t i).bind (walkAt (r ++ b)) = ((kidAt t i).bind (walkAt r)).bind (walkAt b)
    cases kidAt t i with
    | none => rfl
    | some s => exact walkAt_append r b s
theorem walkAt_succ {l : List Int} {j : Nat} (h : j < l.length) {t s : Tr} (hs : walkAt (l.take j) t = some s) : walkAt (l.take (j + 1)) t = kidAt s l[j] := by
  rw [List.take_succ_eq_append_getElem h, walkAt_append, hs]
  show (kidAt s l[j]).bind (walkAt []) = _
  cases kidAt s l[j] <;> rfl
theorem walkAt_none {l : List Int} {j : Nat} {t : Tr} (hs : walkAt (l.take j) t = none) : walkAt l t = none := by
  have := walkAt_append (l.take j) (l.drop j) t
  rw [List.take_append_drop, hs] at this
  exact this
theorem kidAt_yes {t : Tr} {i : Nat} (h : i < t.kids.length) : kidAt t i = some t.kids[i] := by
  unfold kidAt
  rw [if_pos (by omega), Int.toNat_natCast, nth_eq h]
theorem kidAt_no {t : Tr} {i : Int} (h : i < 0 ∨ (t.kids.length : Int) ≤ i) : kidAt t i = none := by
  unfold kidAt
  rw [if_neg (by omega)]

theorem Box4.set4 {w : World} {b : Nat} {c0 c1 c2 c3 : Value} (h : Box4 w b c0 c1 c2 c3) (u0 u1 u2 u3 : Value) : Box4 ((((w.setCell ⟨b, 0, none⟩ u0).setCell ⟨b, 1, none⟩ u1).setCell ⟨b, 2, none⟩ u2).setCell ⟨b, 3, none⟩ u3) b u0 u1 u2 u3 := by
  obtain ⟨f, h, rfl, rfl, rfl, rfl⟩ := h
  exact ⟨_, (((h.set 0 u0).set 1 u1).set 2 u2).set 3 u3, rfl, rfl, rfl, rfl⟩

theorem between_any (x lo hi : Int) (w : World) : Calls Try.prog 45 #[.int .i64 x, .int .i64 lo, .int .i64 hi] w fun e w' => e = .returned (.bool (decide (lo ≤ x ∧ x ≤ hi))) ∧ w' = w := by
  by_cases h1 : lo ≤ x
  · by_cases h2 : x ≤ hi
    · go_enter Try.func45, Try.ntmps45
      go_wp2_with fail
      go_ret
      exact ⟨ret_bool (by simp [h1, h2]), rfl⟩
    · have h2' : hi < x := by omega
      go_enter Try.func45, Try.ntmps45
      go_wp2_with fail
      go_ret
      exact ⟨ret_bool (by simp [h1, h2]), rfl⟩
  · have h1' : x < lo := by omega
    go_enter Try.func45, Try.ntmps45
    go_wp2_with fail
    go_ret
    have h3 : ¬ lo ≤ x := by omega
    exact ⟨ret_bool (by rw [decide_eq_false h3]; rfl), rfl⟩

set_option maxHeartbeats 1600000 in
theorem leads_any {S S' : Nat → Prop} (t : Tr) (l : List Int) (v pv : Value) (w : World) (hl : Lies w S t v) (hp : Ints w S' l pv) :
    Calls Try.prog 25 #[t.val v, pv] w fun e w' => e = .returned (.bool (walkAt l t).isSome) ∧ Below w.heap.size w w' := by
  obtain ⟨pa, pcap, pb, poff, rfl, hpc, hpm, hpa, hpcell⟩ := hp
  obtain ⟨a0, l0, p0, rfl⟩ := hl.form
  have HL0 := (show Hid _ from hl); clear hl
  have HPC := (show Hid _ from hpcell); clear hpcell
  have HPA := (show Hid _ from hpa); clear hpa
  unfold maxLen at hpm
  simp only [Tr.val]
  go_enter Try.func25, Try.ntmps25
  go_wp2_with fail
  go_loopw [5] (fun i wr => ∃ (j : Nat) (s : Tr) (a' : Option Addr) (m' c' : Nat), j ≤ l.length ∧ i = .int .i64 j ∧ Below w.heap.size w wr ∧ Hid (walkAt (l.take j) t = some s) ∧ Hid (Box4 wr w.heap.size (.string s.name) (.string s.text) (.bool s.leaf) (.slice a' m' c')) ∧ Hid (Lies w S s (.slice a' m' c'))) (fun i _ => l.length - (intOf i).toNat)
  case atStart => exact ⟨0, t, a0, l0, p0, Nat.zero_le _, rfl, bel_alloc _ _, rfl, Box4.new _ _ _ _ _, HL0⟩
  case round =>
    obtain ⟨j, s, a', m', c', hj, rfl, hbw, HW, HB, HL⟩ := hrel
    by_cases hlt : j < l.length
    · obtain ⟨rfl, _⟩ := HPA.out (by omega)
      have c0 := HPC.out j hlt
      rw [← hbw.cell (lt_of_cell c0)] at c0
      obtain ⟨T0, T1, T2, T3⟩ := HB.out.cells
      obtain ⟨a, cap, b, off, sv, hv, hn, hx, hc, hm, ha, hcell, hk⟩ := HL.out.out
      obtain ⟨rfl, hmk, rfl⟩ : a' = a ∧ m' = s.kids.length ∧ c' = cap := by simpa using hv
      have HMK := (show Hid _ from hmk)
      have HX := (show Hid _ from (⟨ha, hcell, hk⟩ : _ ∧ _ ∧ _)); clear ha hcell hk hv
      rw [← hmk] at hc
      clear hmk
      unfold maxLen at hm
      have hbt := fun w' => between_any l[j] 0 ((m' : Int) - 1) w'
      have HBT := (show Hid _ from hbt); clear hbt
      have hdr := (Below.refl wr.heap.size wr).drew
      have hws := walkAt_succ hlt HW.out
      have HWS := (show Hid _ from hws); clear hws
      generalize hlj : l[j] = lj at *
      have hml : (m' : Int) - 1 < 9223372036854775807 := by omega
      by_cases hin : 0 ≤ lj ∧ lj ≤ (m' : Int) - 1
      · obtain ⟨ii, rfl⟩ : ∃ ii : Nat, lj = ii := ⟨lj.toNat, by omega⟩
        have hii : ii < m' := by omega
        have hii' : ii < s.kids.length := by rw [← HMK.out]; exact hii
        have hcl := HBT.out
        rw [decide_eq_true hin] at hcl
        have HCL := (show Hid _ from hcl); clear hcl HBT
        have hkk := kidAt_yes hii'
        have hwk : walkAt (l.take (j + 1)) t = some s.kids[ii] := HWS.out.trans hkk
        obtain ⟨ha, hcell, hk⟩ := HX.out
        obtain ⟨rfl, _⟩ := ha (by omega)
        obtain ⟨k0, k1, k2, k3⟩ := hcell ii hii'
        rw [← hbw.cell (lt_of_cell k0)] at k0
        rw [← hbw.cell (lt_of_cell k1)] at k1
        rw [← hbw.cell (lt_of_cell k2)] at k2
        rw [← hbw.cell (lt_of_cell k3)] at k3
        have hlk := hk ii hii'
        obtain ⟨a2, m2, c2, hsv⟩ := hlk.form
        rw [hsv] at k3 hlk
        have HK2 := (show Hid _ from (⟨hwk, hlk⟩ : _ ∧ _)); clear hwk hlk hkk ha hcell hk hsv hin
        have hbb : ∀ m, Below w.heap.size w (wr.drewN m) := fun m => below_drewN hbw m
        have z0 := HB.out.frozen 0
        have z1 := HB.out.frozen 1
        have z2 := HB.out.frozen 2
        have z3 := HB.out.frozen 3
        generalize hsk : s.kids[ii] = sk at *
        go_wp2_with fail
        go_quiet ((go_at_call 45; refine Calls.quiet_of_same (HCL.out _)))
        go_wp2_with fail
        go_region
        all_goals
          have H4 := (show Hid _ from Box4.set4 (HB.out.keep (w' := wr.drewN (nq + 1)) rfl) (.string sk.name) (.string sk.text) (.bool sk.leaf) (.slice a2 m2 c2))
          have hb4 := ((((hbb (nq + 1)).setCell (p := ⟨w.heap.size, 0, none⟩) (Nat.le_refl _) (.string sk.name)).setCell (p := ⟨w.heap.size, 1, none⟩) (Nat.le_refl _) (.string sk.text)).setCell (p := ⟨w.heap.size, 2, none⟩) (Nat.le_refl _) (.bool sk.leaf)).setCell (p := ⟨w.heap.size, 3, none⟩) (Nat.le_refl _) (.slice a2 m2 c2)
          go_wp2_with fail
          exact ⟨⟨j + 1, sk, a2, m2, c2, by omega, by go_num, hb4, HK2.out.1, H4, HK2.out.2⟩, by simp [intOf]; omega⟩
      · go_wp2_with fail
        have hcl := HBT.out
        rw [decide_eq_false hin] at hcl
        have HCL := (show Hid _ from hcl); clear hcl HBT
        go_quiet ((go_at_call 45; refine Calls.quiet_of_same (HCL.out _)))
        go_wp2_with fail
        go_ret
        have hno := kidAt_no (t := s) (i := lj) (by rw [← HMK.out]; omega)
        have := walkAt_none (HWS.out.trans hno)
        exact ⟨ret_bool (by rw [this]; rfl), below_drewN hbw _⟩
    · go_wp2_with fail
      go_ret
      have hw := HW.out
      rw [List.take_of_length_le (by omega)] at hw
      exact ⟨ret_bool (by rw [hw]; rfl), hbw⟩

set_option maxHeartbeats 1600000 in
theorem at_any {S S' : Nat → Prop} (t s0 : Tr) (l : List Int) (v pv : Value) (w : World) (hl : Lies w S t v) (hp : Ints w S' l pv) (hw0 : walkAt l t = some s0) :
    Calls Try.prog 27 #[t.val v, pv] w fun e w' => ∃ v', e = .returned (s0.val v') ∧ Below w.heap.size w w' ∧ Lies w' S s0 v' := by
  obtain ⟨pa, pcap, pb, poff, rfl, hpc, hpm, hpa, hpcell⟩ := hp
  obtain ⟨a0, l0, p0, rfl⟩ := hl.form
  have HL0 := (show Hid _ from hl); clear hl
  have HPC := (show Hid _ from hpcell); clear hpcell
  have HPA := (show Hid _ from hpa); clear hpa
  have HW0 := (show Hid _ from hw0); clear hw0
  unfold maxLen at hpm
  simp only [Tr.val]
  go_enter Try.func27, Try.ntmps27
  go_wp2_with fail
  go_loopw [5] (fun i wr => ∃ (j : Nat) (s : Tr) (a' : Option Addr) (m' c' : Nat), j ≤ l.length ∧ i = .int .i64 j ∧ Below w.heap.size w wr ∧ Hid (walkAt (l.take j) t = some s) ∧ Hid (Box4 wr w.heap.size (.string s.name) (.string s.text) (.bool s.leaf) (.slice a' m' c')) ∧ Hid (Box4 wr (w.heap.size + 1) (.string ByteArray.empty) (.string ByteArray.empty) (.bool false) (.slice none 0 0)) ∧ Hid (Lies w S s (.slice a' m' c'))) (fun i _ => l.length - (intOf i).toNat)
  case atStart =>
    refine ⟨0, t, a0, l0, p0, Nat.zero_le _, rfl, (bel_alloc _ _).alloc (by simp) _, rfl, (Box4.new _ _ _ _ _).still (bel_alloc _ _), ?_, HL0⟩
    have := Box4.new (w.alloc (.cells #[.string t.name, .string t.text, .bool t.leaf, .slice a0 l0 p0] 29)) (.string ByteArray.empty) (.string ByteArray.empty) (.bool false) (.slice none 0 0)
    simp only [World.size_alloc] at this
    exact this
  case round =>
    obtain ⟨j, s, a', m', c', hj, rfl, hbw, HW, HB, HR, HL⟩ := hrel
    obtain ⟨T0, T1, T2, T3⟩ := HB.out.cells
    by_cases hlt : j < l.length
    · obtain ⟨rfl, _⟩ := HPA.out (by omega)
      have c0 := HPC.out j hlt
      rw [← hbw.cell (lt_of_cell c0)] at c0
      obtain ⟨a, cap, b, off, sv, hv, hn, hx, hc, hm, ha, hcell, hk⟩ := HL.out.out
      obtain ⟨rfl, hmk, rfl⟩ : a' = a ∧ m' = s.kids.length ∧ c' = cap := by simpa using hv
      have HMK := (show Hid _ from hmk)
      have HX := (show Hid _ from (⟨ha, hcell, hk⟩ : _ ∧ _ ∧ _)); clear ha hcell hk hv
      rw [← hmk] at hc
      clear hmk
      unfold maxLen at hm
      have hws := walkAt_succ hlt HW.out
      have HWS := (show Hid _ from hws); clear hws
      generalize hlj : l[j] = lj at *
      have hin : 0 ≤ lj ∧ lj ≤ (m' : Int) - 1 := by
        apply Decidable.byContradiction
        intro hno
        have := walkAt_none (HWS.out.trans (kidAt_no (t := s) (i := lj) (by rw [← HMK.out]; omega)))
        rw [HW0.out] at this
        cases this
      obtain ⟨ii, rfl⟩ : ∃ ii : Nat, lj = ii := ⟨lj.toNat, by omega⟩
      have hii : ii < m' := by omega
      have hii' : ii < s.kids.length := by rw [← HMK.out]; exact hii
      have hkk := kidAt_yes hii'
      have hwk : walkAt (l.take (j + 1)) t = some s.kids[ii] := HWS.out.trans hkk
      obtain ⟨ha, hcell, hk⟩ := HX.out
      obtain ⟨rfl, _⟩ := ha (by omega)
      obtain ⟨k0, k1, k2, k3⟩ := hcell ii hii'
      rw [← hbw.cell (lt_of_cell k0)] at k0
      rw [← hbw.cell (lt_of_cell k1)] at k1
      rw [← hbw.cell (lt_of_cell k2)] at k2
      rw [← hbw.cell (lt_of_cell k3)] at k3
      have hlk := hk ii hii'
      obtain ⟨a2, m2, c2, hsv⟩ := hlk.form
      rw [hsv] at k3 hlk
      have HK2 := (show Hid _ from (⟨hwk, hlk⟩ : _ ∧ _)); clear hwk hlk hkk ha hcell hk hsv hin
      have z0 := HB.out.frozen 0
      have z1 := HB.out.frozen 1
      have z2 := HB.out.frozen 2
      have z3 := HB.out.frozen 3
      generalize hsk : s.kids[ii] = sk at *
      have H4 := (show Hid _ from Box4.set4 (HB.out.keep (w' := wr.drew) rfl) (.string sk.name) (.string sk.text) (.bool sk.leaf) (.slice a2 m2 c2))
      have hr4 : Box4 ((((wr.drew.setCell ⟨w.heap.size, 0, none⟩ (.string sk.name)).setCell ⟨w.heap.size, 1, none⟩ (.string sk.text)).setCell ⟨w.heap.size, 2, none⟩ (.bool sk.leaf)).setCell ⟨w.heap.size, 3, none⟩ (.slice a2 m2 c2)) (w.heap.size + 1) (.string ByteArray.empty) (.string ByteArray.empty) (.bool false) (.slice none 0 0) := by
        refine HR.out.keep ?_
        rw [blk_setCell_other _ _ _ _ (by simp), blk_setCell_other _ _ _ _ (by simp), blk_setCell_other _ _ _ _ (by simp), blk_setCell_other _ _ _ _ (by simp)]
        rfl
      have HR4 := (show Hid _ from hr4); clear hr4
      have hb4 := (((hbw.drew.setCell (p := ⟨w.heap.size, 0, none⟩) (Nat.le_refl _) (.string sk.name)).setCell (p := ⟨w.heap.size, 1, none⟩) (Nat.le_refl _) (.string sk.text)).setCell (p := ⟨w.heap.size, 2, none⟩) (Nat.le_refl _) (.bool sk.leaf)).setCell (p := ⟨w.heap.size, 3, none⟩) (Nat.le_refl _) (.slice a2 m2 c2)
      go_wp2_with fail
      go_region
      all_goals
        go_wp2_with fail
        exact ⟨⟨j + 1, sk, a2, m2, c2, by omega, by go_num, hb4, HK2.out.1, H4, HR4, HK2.out.2⟩, by simp [intOf]; omega⟩
    · have hw := HW.out
      rw [List.take_of_length_le (by omega), HW0.out] at hw
      cases hw
      obtain ⟨Z0, Z1, Z2, Z3⟩ := HR.out.cells
      have y0 := HR.out.frozen 0
      have y1 := HR.out.frozen 1
      have y2 := HR.out.frozen 2
      have y3 := HR.out.frozen 3
      go_wp2_with fail
      refine bodyPost_ret (v := .agg #[.string s0.name, .string s0.text, .bool s0.leaf, .slice a' m' c']) (by simp [results, Try.results27, go_sem, Z0, Z1, Z2, Z3]) rfl ⟨_, rfl, ?_, ?_⟩
      · exact (((hbw.setCell (by simp) _).setCell (by simp) _).setCell (by simp) _).setCell (by simp) _
      · exact HL.out.still ((((hbw.setCell (by simp) _).setCell (by simp) _).setCell (by simp) _).setCell (by simp) _)
end Go.Proofs.Ythmdoplickpmaai
