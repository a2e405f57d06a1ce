import Derived.Test.YtgjnlhidbjpdkajGreatS2
/-! The specification's l03Say: one part, shown. -/
namespace Go.Proofs.YtgjnlhidbjpdkajGreat
open Go.RowKit Go.Deep
set_option linter.unusedVariables false
set_option maxRecDepth 100000
set_option linter.unusedSimpArgs false

set_option maxHeartbeats 3200000 in
theorem say_step {S : Nat → Prop} (parts : List DPart) (A : List (List Int) → ByteArray) (nm : ByteArray) (a1 a2 a3 : Option Addr) (n1 p1 n2 p2 n3 p3 : Nat) (vp : Value) (x : Nat) (w : World) (hx : x < parts.length) (hP : PartR w S parts vp)
    (hA : ∀ (w' : World) (v : Value), Below w.heap.size w w' → IRws w' S parts[x].alts v → 2 < parts[x].kind → Calls Tryz.prog 96 #[.agg #[.string nm, .slice a1 n1 p1, .slice a2 n2 p2, .slice a3 n3 p3, vp], v] w' fun e w'' => e = .returned (.string (A parts[x].alts)) ∧ Below w'.heap.size w' w'')
    (hs : parts[x].s.size ≤ 1048576) (hk : 1 ≤ parts[x].kind) (hsz : (A parts[x].alts).size ≤ 2 ^ 62) :
    Calls Tryz.prog 72 #[.agg #[.string nm, .slice a1 n1 p1, .slice a2 n2 p2, .slice a3 n3 p3, vp], .int .i64 x] w fun e w' => e = .returned (.string (sayP parts A x)) ∧ Below w.heap.size w w' := by
  have hE : sayP parts A x = if parts[x].kind = 1 then parts[x].s
      else if parts[x].kind = 2 then ⟨#[39]⟩ ++ parts[x].s ++ ⟨#[39]⟩
      else if parts[x].kind = 3 then ⟨#[40]⟩ ++ A parts[x].alts ++ ⟨#[41]⟩
      else if parts[x].kind = 4 then ⟨#[91]⟩ ++ A parts[x].alts ++ ⟨#[93]⟩
      else ⟨#[123]⟩ ++ A parts[x].alts ++ ⟨#[125]⟩ := by
    have : parts.getD ((x : Int)).toNat dfl = parts[x] := by simp [List.getD_eq_getElem?_getD, hx]
    unfold sayP
    rw [this]
  rw [hE]
  clear hE
  obtain ⟨a, cap, b, off, s2, rfl, hc, hm, ha, hcell, r2⟩ := hP
  obtain ⟨rfl, hS⟩ := ha (by omega)
  obtain ⟨c0, c1, c2, z1⟩ := hcell x hx
  have hI := r2 x hx
  obtain ⟨ai, ci, ei, mi⟩ := hI.form
  rw [ei] at c2 hI
  have HI := (show Hid _ from fun w' (hb : Below w.heap.size w w') => hI.still hb)
  have HA := (show Hid _ from hA)
  clear hI ei hcell r2 ha hA z1 mi
  have hpx := hx
  unfold maxLen at hm
  generalize parts[x] = P at *
  rw [← (bel_alloc w (.cells #[.string nm, .slice a1 n1 p1, .slice a2 n2 p2, .slice a3 n3 p3, .slice (some ⟨b, off, none⟩) parts.length cap] 36)).cell (lt_of_cell c0)] at c0
  rw [← (bel_alloc w (.cells #[.string nm, .slice a1 n1 p1, .slice a2 n2 p2, .slice a3 n3 p3, .slice (some ⟨b, off, none⟩) parts.length cap] 36)).cell (lt_of_cell c1)] at c1
  rw [← (bel_alloc w (.cells #[.string nm, .slice a1 n1 p1, .slice a2 n2 p2, .slice a3 n3 p3, .slice (some ⟨b, off, none⟩) parts.length cap] 36)).cell (lt_of_cell c2)] at c2
  have hbw := bel2 w (.cells #[.string nm, .slice a1 n1 p1, .slice a2 n2 p2, .slice a3 n3 p3, .slice (some ⟨b, off, none⟩) parts.length cap] 36) (.cells #[.int .i64 P.kind, .string P.s, .slice ai P.alts.length ci] 91)
  have HC := (show Hid _ from fun h => HA.out _ _ hbw (HI.out _ hbw) h)
  clear HA HI
  have HW := (show Hid _ from hbw)
  go_enter Tryz.func72, Tryz.ntmps72
  by_cases k1 : P.kind = 1
  · have k1' : (P.kind == 1) = true := by simp [k1]
    rw [if_pos k1]
    clear k1 HC
    go_wp2_with fail
    go_ret
    exact ⟨rfl, HW.out⟩
  have k1' : (P.kind == 1) = false := by simp [k1]
  rw [if_neg k1]
  by_cases k2 : P.kind = 2
  · have k2' : (P.kind == 2) = true := by simp [k2]
    rw [if_pos k2]
    clear k1 k2 HC
    go_wp2_with fail
    go_ret
    exact ⟨rfl, HW.out⟩
  have k2' : (P.kind == 2) = false := by simp [k2]
  rw [if_neg k2]
  have HD := (show Hid _ from HC.out (by omega)); clear HC
  have q2 : (ByteArray.mk #[40]).size = 1 := rfl
  have q4 : (ByteArray.mk #[91]).size = 1 := rfl
  have q6 : (ByteArray.mk #[123]).size = 1 := rfl
  by_cases k3 : P.kind = 3
  · have k3' : (P.kind == 3) = true := by simp [k3]
    rw [if_pos k3]
    clear k1 k2 k3
    go_wp2_with fail
    refine Calls.mono HD.out ?_
    rintro e w1 ⟨rfl, hb1⟩
    have HE := (show Hid _ from bel_trans HW.out hb1); clear hb1
    go_wp2_with fail
    go_ret
    exact ⟨rfl, HE.out⟩
  have k3' : (P.kind == 3) = false := by simp [k3]
  rw [if_neg k3]
  by_cases k4 : P.kind = 4
  · have k4' : (P.kind == 4) = true := by simp [k4]
    rw [if_pos k4]
    clear k1 k2 k3 k4
    go_wp2_with fail
    refine Calls.mono HD.out ?_
    rintro e w1 ⟨rfl, hb1⟩
    have HE := (show Hid _ from bel_trans HW.out hb1); clear hb1
    go_wp2_with fail
    go_ret
    exact ⟨rfl, HE.out⟩
  have k4' : (P.kind == 4) = false := by simp [k4]
  rw [if_neg k4]
  clear k1 k2 k3 k4
  go_wp2_with fail
  refine Calls.mono HD.out ?_
  rintro e w1 ⟨rfl, hb1⟩
  have HE := (show Hid _ from bel_trans HW.out hb1); clear hb1
  go_wp2_with fail
  go_ret
  exact ⟨rfl, HE.out⟩
end Go.Proofs.YtgjnlhidbjpdkajGreat
