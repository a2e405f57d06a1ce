import Derived.Test.YtnmdgbnbnpibhaaCe
import Derived.Laws.EntriesVeiled
/-! The program: all Args of an Eq. -/
namespace Go.Proofs.Ytnmdgbnbnpibhaa
open Go.RowKit Go.Deep
set_option linter.unusedVariables false
set_option maxRecDepth 100000
set_option linter.unusedSimpArgs false

theorem box6 {w w' : World} {g T : Nat} {c0 c1 c2 c3 c4 c5 : Value} (h : Box w g T [c0, c1, c2, c3, c4, c5]) (hb : Below w.heap.size w w') :
    w'.cell? ⟨g, 0, none⟩ = some c0 ∧ w'.cell? ⟨g, 1, none⟩ = some c1 ∧ w'.cell? ⟨g, 2, none⟩ = some c2 ∧ w'.cell? ⟨g, 3, none⟩ = some c3 ∧ w'.cell? ⟨g, 4, none⟩ = some c4 ∧ w'.cell? ⟨g, 5, none⟩ = some c5 :=
  ⟨(h.still hb).cell 0 (by simp), (h.still hb).cell 1 (by simp), (h.still hb).cell 2 (by simp), (h.still hb).cell 3 (by simp), (h.still hb).cell 4 (by simp), (h.still hb).cell 5 (by simp)⟩
theorem box5 {w w' : World} {g T : Nat} {c0 c1 c2 c3 c4 : Value} (h : Box w g T [c0, c1, c2, c3, c4]) (hb : Below w.heap.size w w') :
    w'.cell? ⟨g, 0, none⟩ = some c0 ∧ w'.cell? ⟨g, 1, none⟩ = some c1 ∧ w'.cell? ⟨g, 2, none⟩ = some c2 ∧ w'.cell? ⟨g, 3, none⟩ = some c3 ∧ w'.cell? ⟨g, 4, none⟩ = some c4 :=
  ⟨(h.still hb).cell 0 (by simp), (h.still hb).cell 1 (by simp), (h.still hb).cell 2 (by simp), (h.still hb).cell 3 (by simp), (h.still hb).cell 4 (by simp)⟩
set_option maxHeartbeats 1600000 in
theorem clo63 {S S' S2 : Nat → Prop} (d : Bn) (g : DAg) (P : Pd) (v0 v1 v3 u0 u1 pv : Value) (rp ra rn : Int) (q p : Nat) (w : World) (h : BLies w S d v0 v1 v3) (hg : DAgL w S' g u0 u1) (hP : Ints w S2 P.right pv) (hsm : ∀ i (hi : i < g.attrs.length), 0 ≤ g.attrs[i].non ∧ g.attrs[i].non ≤ 1000) (hT : d.terms.length ≤ 1000000)
    (B1 : Box w q 76 [v0, v1, .int .i64 d.own, v3, u0, u1]) (B2 : Box w p 67 [.int .i64 P.left, pv, .string P.label, .int .i64 P.lev, .int .i64 P.asc]) :
    Calls Try.prog 63 #[.agg #[.int .i64 rp, .int .i64 ra, .int .i64 rn], .pointer (some ⟨q, 0, none⟩), .pointer (some ⟨p, 0, none⟩)] w fun e w' => e = .returned (.bool (arB d g P ⟨rp, ra, rn⟩)) ∧ Below w.heap.size w w' := by
  have hb1 := bel_alloc w (.cells #[.int .i64 rp, .int .i64 ra, .int .i64 rn] 64)
  have HAR := (show Hid _ from arg64 d g P v0 v1 v3 u0 u1 pv rp ra rn _ (h.still hb1) (hg.still hb1) (hP.still hb1) hsm hT)
  have HB1 := (show Hid _ from hb1)
  obtain ⟨x0, x1, x2, x3, x4, x5, rfl, rfl, rfl⟩ := h.form
  obtain ⟨y0, y1, y2, y3, rfl, rfl⟩ := hg.form
  obtain ⟨pa, pc, rfl, _⟩ := hP.form
  obtain ⟨q0, q1, q2, q3, q4, q5⟩ := box6 B1 hb1
  obtain ⟨p0, p1, p2, p3, p4⟩ := box5 B2 hb1
  clear h hg hP hsm hT B1 B2 hb1
  generalize arB d g P ⟨rp, ra, rn⟩ = R at *
  go_enter Try.func63, Try.ntmps63
  go_wp2_with fail
  refine Calls.mono HAR.out ?_
  rintro e w1 ⟨rfl, hb⟩
  have HE := (show Hid _ from bel_trans HB1.out hb); clear hb
  go_wp2_with fail
  go_ret
  exact ⟨rfl, HE.out⟩
set_option maxHeartbeats 1600000 in
theorem all62 {S S' S2 S3 : Nat → Prop} (d : Bn) (g : DAg) (P : Pd) (v0 v1 v3 u0 u1 pv v : Value) (l : List DRef) (q p : Nat) (w : World) (h : BLies w S d v0 v1 v3) (hg : DAgL w S' g u0 u1) (hP : Ints w S2 P.right pv) (hsm : ∀ i (hi : i < g.attrs.length), 0 ≤ g.attrs[i].non ∧ g.attrs[i].non ≤ 1000) (hT : d.terms.length ≤ 1000000)
    (B1 : Box w q 76 [v0, v1, .int .i64 d.own, v3, u0, u1]) (B2 : Box w p 67 [.int .i64 P.left, pv, .string P.label, .int .i64 P.lev, .int .i64 P.asc]) (hl : RefR w S3 l v) :
    Calls Try.prog 62 #[v, .func (.func 63) #[] #[.pointer (some ⟨q, 0, none⟩), .pointer (some ⟨p, 0, none⟩)]] w fun e w' => e = .returned (.bool (l.all (arB d g P))) ∧ Below w.heap.size w w' := by
  have HCL : Hid (∀ (rp ra rn : Int) (wq : World), Below w.heap.size w wq → Calls Try.prog 63 #[.agg #[.int .i64 rp, .int .i64 ra, .int .i64 rn], .pointer (some ⟨q, 0, none⟩), .pointer (some ⟨p, 0, none⟩)] wq fun e w' => e = .returned (.bool (arB d g P ⟨rp, ra, rn⟩)) ∧ Below wq.heap.size wq w') :=
    fun rp ra rn wq hb => clo63 d g P v0 v1 v3 u0 u1 pv rp ra rn q p wq (h.still hb) (hg.still hb) (hP.still hb) hsm hT (B1.still hb) (B2.still hb)
  clear h hg hP hsm hT B1 B2
  obtain ⟨a, cap, b, off, rfl, hc, hm, ha, hcell⟩ := hl
  have HC := (show Hid _ from hcell); clear hcell
  have HA := (show Hid _ from ha); clear ha
  unfold maxLen at hm
  generalize hRes : l.all (arB d g P) = R
  have HRes := (show Hid _ from hRes); clear hRes
  go_enter Try.func62, Try.ntmps62
  go_wp2_with fail
  go_loopw [9] (fun i wr => ∃ j : Nat, i = .int .i64 j ∧ j ≤ l.length ∧ Hid (∀ i (hi : i < l.length), i < j → arB d g P l[i] = true) ∧ Below w.heap.size w wr) (fun i _ => l.length - (intOf i).toNat)
  case atStart => exact ⟨0, rfl, Nat.zero_le _, fun i hi h0 => absurd h0 (Nat.not_lt_zero _), Below.refl _ _⟩
  case round =>
    obtain ⟨j, rfl, hj, HJ, hbel⟩ := hrel
    by_cases hjl : j < l.length
    · obtain ⟨rfl, _⟩ := HA.out (by omega)
      obtain ⟨c0, c1, c2⟩ := HC.out j hjl
      rw [← hbel.cell (lt_of_cell c0)] at c0
      rw [← hbel.cell (lt_of_cell c1)] at c1
      rw [← hbel.cell (lt_of_cell c2)] at c2
      have HNX := (show Hid (arB d g P l[j] = true → ∀ i (hi : i < l.length), i < j + 1 → arB d g P l[i] = true) from fun h i hi hij => by
        by_cases e : i = j
        · subst e; exact h
        · exact HJ.out i hi (by omega))
      have HFX := (show Hid (arB d g P l[j] = false → R = false) from fun h => by
        rw [← HRes.out, List.all_eq_false]
        exact ⟨l[j], List.getElem_mem hjl, by rw [h]; simp⟩)
      have HC3 : Hid (∀ (wq : World), Below w.heap.size w wq → Calls Try.prog 63 #[.agg #[.int .i64 l[j].pos, .int .i64 l[j].attr, .int .i64 l[j].n], .pointer (some ⟨q, 0, none⟩), .pointer (some ⟨p, 0, none⟩)] wq fun e w' => e = .returned (.bool (arB d g P l[j])) ∧ Below wq.heap.size wq w') := fun wq hb => HCL.out l[j].pos l[j].attr l[j].n wq hb
      generalize arB d g P l[j] = B at *
      generalize l[j].pos = z0 at *
      generalize l[j].attr = z1 at *
      generalize l[j].n = z2 at *
      have HBE := (show Hid _ from hbel.alloc hbel.size (.cells #[.int .i64 z0, .int .i64 z1, .int .i64 z2] 64))
      cases B
      · have HF := (show Hid (R = false) from HFX.out rfl)
        go_wp2_with fail
        go_at_call 63
        refine Calls.mono (HC3.out _ HBE.out) ?_
        rintro e w1 ⟨rfl, hb1⟩
        have HE := (show Hid _ from bel_trans HBE.out hb1); clear hb1 c0 c1 c2 hbel
        go_wp2_with fail
        go_ret
        exact ⟨by rw [HF.out]; rfl, HE.out⟩
      · have HN := (show Hid _ from HNX.out rfl)
        go_wp2_with fail
        go_at_call 63
        refine Calls.mono (HC3.out _ HBE.out) ?_
        rintro e w1 ⟨rfl, hb1⟩
        have HE := (show Hid _ from bel_trans HBE.out hb1); clear hb1 c0 c1 c2 hbel
        go_wp2_with fail
        exact ⟨⟨j + 1, by go_num, by omega, HN, HE.out⟩, by simp [intOf]; omega⟩
    · have HF := (show Hid (R = true) from by
        show R = true
        rw [← HRes.out, List.all_eq_true]
        intro x hx
        obtain ⟨i, hi, rfl⟩ := List.mem_iff_getElem.1 hx
        exact HJ.out i hi (by omega))
      go_wp2_with fail
      go_ret
      exact ⟨by rw [HF.out]; rfl, hbel⟩
/-- A Non is one. -/
theorem hasNon57 (d : Bn) (v0 v3 : Value) (a1 a0 a3 : Option Addr) (c0 c1 c3 n0 n3 : Nat) (x : Int) (w : World) :
    Calls Try.prog 57 #[.agg #[.slice a0 n0 c0, .slice a1 d.nons.length c1, .int .i64 d.own, .slice a3 n3 c3], .int .i64 x] w fun e w' => e = .returned (.bool (wiB x 0 ((d.nons.length : Int) - 1))) ∧ Below w.heap.size w w' := by
  have HB := (show Hid _ from bel_alloc w (.cells #[.slice a0 n0 c0, .slice a1 d.nons.length c1, .int .i64 d.own, .slice a3 n3 c3] 37))
  generalize d.nons.length = N at *
  by_cases h1 : 0 ≤ x <;> by_cases h2 : x < (N : Int)
  all_goals
    go_enter Try.func57, Try.ntmps57
    go_wp2_with fail
    go_ret
    exact ⟨ret_bool (by simp [wiB]; try omega), HB.out⟩
end Go.Proofs.Ytnmdgbnbnpibhaa
