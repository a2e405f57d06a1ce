import Derived.Test.YtjpjjfgdgieapaaDoorSv
import Derived.Deep.RegionWith
/-! The specification: l04Non, l04AllNull. -/
namespace Go.Proofs.YtjpjjfgdgieapaaDoor
open Go.RowKit Go.Deep
set_option linter.unusedVariables false
set_option maxRecDepth 100000
set_option linter.unusedSimpArgs false

theorem non_any (d : Bn) (a0 : Option Addr) (c0 : Nat) (v1 v3 : Value) (x : Int) (w : World) (hx : -1000 ≤ x ∧ x ≤ 1000) (hnt : d.terms.length ≤ 60) :
    Calls Tryd.prog 49 #[.agg #[.slice a0 d.terms.length c0, v1, .int .i64 d.own, v3], .int .i64 x] w fun e w' => e = .returned (.int .i64 (x - d.terms.length)) ∧ Below w.heap.size w w' := by
  have HB := (show Hid _ from bel_alloc w (.cells #[.slice a0 d.terms.length c0, v1, .int .i64 d.own, v3] 38))
  obtain ⟨h1, h2⟩ := hx
  go_enter Tryd.func49, Tryd.ntmps49
  go_wp2_with fail
  go_ret
  exact ⟨rfl, HB.out⟩
/-- Truth values in a row of their own. -/
def BRow (w : World) (b : Nat) (nl : List Bool) : Prop := w.rowIs b 4 nl.length (fun i => .bool (nl.getD i false))
theorem BRow.cell {w : World} {b : Nat} {nl : List Bool} (h : BRow w b nl) {i : Nat} (hi : i < nl.length) : w.cell? ⟨b, i, none⟩ = some (.bool nl[i]) := by
  have := World.rowIs.cell h hi
  simpa [List.getD_eq_getElem?_getD, hi] using this
theorem BRow.still {w w' : World} {b : Nat} {nl : List Bool} (h : BRow w b nl) (hb : Below w.heap.size w w') : BRow w' b nl := World.rowIs.of_block h (hb.block b (World.rowIs.lt h))
theorem BRow.set {w : World} {b : Nat} {nl : List Bool} (h : BRow w b nl) {x : Nat} (hx : x < nl.length) (u : Bool) : BRow (w.setCell ⟨b, x, none⟩ (.bool u)) b (nl.set x u) := by
  obtain ⟨c, h1, h2, h3⟩ := World.rowIs.set h x (.bool u)
  refine ⟨c, h1, by simpa using h2, fun j hj => ?_⟩
  rw [List.length_set] at hj
  rw [h3 j hj]
  by_cases e : j = x
  · subst e; simp [List.getD_eq_getElem?_getD, hx]
  · have e2 : (nl.set x u)[j]? = nl[j]? := List.getElem?_set_ne (fun h : x = j => e h.symm)
    simp [List.getD_eq_getElem?_getD, e, e2]
theorem BRow.uniq {w : World} {b : Nat} {L M : List Bool} (h : BRow w b L) (k : BRow w b M) (hl : L.length = M.length) : L = M := by
  apply List.ext_getElem hl
  intro i h1 h2
  have e1 := h.cell h1
  rw [k.cell h2] at e1
  simp at e1
  exact e1.symm
/-- Which symbols make the empty word. -/
def Nf (nt : Nat) (nl : List Bool) : Nat → Bool := fun x => decide (nt ≤ x) && nl.getD (x - nt) false
theorem nats_all (f : Nat → Bool) (r : List Int) (j : Nat) (h : j < r.length) : nall f ((nats r).drop j) = (f r[j].toNat && nall f ((nats r).drop (j + 1))) := by
  rw [nats_drop r j h]; rfl

set_option maxHeartbeats 3200000 in
theorem allNull_any {S : Nat → Prop} (d : Bn) (a0 a1 a3 : Option Addr) (c0 c1 c3 n1 n3 : Nat) (b : Nat) (nl : List Bool) (r : List Int) (v : Value) (w : World) (hnt : d.terms.length ≤ 60) (hnl : nl.length ≤ 100) (hb : BRow w b nl) (hr : Ints w S r v) (hin : ∀ i (hi : i < r.length), 0 ≤ r[i] ∧ r[i] < ((d.terms.length + nl.length : Nat) : Int)) (hlen : r.length ≤ 1048576) :
    Calls Tryd.prog 50 #[.agg #[.slice a0 d.terms.length c0, .slice a1 n1 c1, .int .i64 d.own, .slice a3 n3 c3], .slice (some ⟨b, 0, none⟩) nl.length nl.length, v] w fun e w' => e = .returned (.bool (nall (Nf d.terms.length nl) (nats r))) ∧ Below w.heap.size w w' := by
  obtain ⟨a, cap, bb, off, rfl, hc, hm, ha, hcell⟩ := hr
  have HC := (show Hid _ from hcell); clear hcell
  have HA := (show Hid _ from ha); clear ha
  have HI := (show Hid _ from hin); clear hin
  have HBR := (show Hid _ from hb); clear hb
  unfold maxLen at hm
  generalize hR : nall (Nf d.terms.length nl) (nats r) = R
  have HR := (show Hid _ from hR); clear hR
  have HX := (show Hid _ from Box.new w 38 [.slice a0 d.terms.length c0, .slice a1 n1 c1, .int .i64 d.own, .slice a3 n3 c3])
  have HB0 := (show Hid _ from bel_alloc w (.cells #[.slice a0 d.terms.length c0, .slice a1 n1 c1, .int .i64 d.own, .slice a3 n3 c3] 38))
  go_enter Tryd.func50, Tryd.ntmps50
  go_wp2_with fail
  go_loopw [7] (fun i wr => ∃ j : Nat, i = .int .i64 j ∧ j ≤ r.length ∧ Hid (Below w.heap.size w wr ∧ Box wr w.heap.size 38 [.slice a0 d.terms.length c0, .slice a1 n1 c1, .int .i64 d.own, .slice a3 n3 c3] ∧ nall (Nf d.terms.length nl) ((nats r).drop j) = R)) (fun i _ => r.length - (intOf i).toNat)
  case atStart => exact ⟨0, rfl, Nat.zero_le _, HB0.out, HX.out, HR.out⟩
  case round =>
    obtain ⟨j, rfl, hj, HJ⟩ := hrel
    by_cases hlt : j < r.length
    · have hlt' := hlt
      obtain ⟨rfl, _⟩ := HA.out (by omega)
      have q0 := HC.out j hlt'
      rw [← HJ.out.1.cell (lt_of_cell q0)] at q0
      obtain ⟨i1, i2⟩ := HI.out j hlt'
      have hE := HJ.out.2.2
      rw [nats_all _ r j hlt'] at hE
      obtain ⟨x, hx⟩ : ∃ x : Nat, r[j] = x := ⟨r[j].toNat, by omega⟩
      rw [hx] at i1 i2 q0 hE
      rw [Int.toNat_natCast] at hE
      have T0 : wr.cell? ⟨w.heap.size, 0, none⟩ = some (.slice a0 d.terms.length c0) := HJ.out.2.1.cell 0 (by simp)
      have T1 : wr.cell? ⟨w.heap.size, 1, none⟩ = some (.slice a1 n1 c1) := HJ.out.2.1.cell 1 (by simp)
      have T2 : wr.cell? ⟨w.heap.size, 2, none⟩ = some (.int .i64 d.own) := HJ.out.2.1.cell 2 (by simp)
      have T3 : wr.cell? ⟨w.heap.size, 3, none⟩ = some (.slice a3 n3 c3) := HJ.out.2.1.cell 3 (by simp)
      have HV := (show Hid _ from non_any d a0 c0 (.slice a1 n1 c1) (.slice a3 n3 c3) x wr.drew (by omega) hnt)
      have HJ2 := (show Hid _ from (⟨HJ.out.1.drew, HJ.out.2.1.still ((Below.refl _ _).drew)⟩ : Below w.heap.size w wr.drew ∧ Box wr.drew w.heap.size 38 [.slice a0 d.terms.length c0, .slice a1 n1 c1, .int .i64 d.own, .slice a3 n3 c3]))
      have HE := (show Hid _ from hE); clear hE HJ hx
      by_cases ht : d.terms.length ≤ x
      · have hbl : x - d.terms.length < nl.length := by omega
        have hk : ((x : Int) - d.terms.length) = ((x - d.terms.length : Nat) : Int) := by omega
        have hnf : Nf d.terms.length nl x = nl[x - d.terms.length] := by unfold Nf; rw [decide_eq_true ht, Bool.true_and, getD_lt _ _ hbl]
        have b0 := fun (w' : World) (hb' : Below w.heap.size w w') => (BRow.still HBR.out hb').cell hbl
        have HB2 := (show Hid _ from b0); clear b0
        rw [hk] at HV
        have hE := HE.out
        rw [hnf] at hE
        clear HE hnf hk
        generalize nl[x - d.terms.length] = B at *
        have HE := (show Hid _ from hE); clear hE
        obtain ⟨y, hy⟩ : ∃ y, y = x - d.terms.length := ⟨_, rfl⟩
        rw [← hy] at HV HB2 hbl
        clear hy
        go_wp2_with fail
        cases B
        · have HF : Hid (R = false) := by have := HE.out; rw [Bool.false_and] at this; exact this.symm
          go_region_with (go_at_call 49; refine Calls.mono HV.out ?_; rintro e w1 ⟨rfl, hb1⟩; have hbw := bel_trans HJ2.out.1 hb1; have b1 := HB2.out w1 hbw)
          all_goals
            have HN := (show Hid _ from hbw)
            clear hbw hb1
            go_wp2_with fail
            go_ret
            exact ⟨by rw [HF.out]; rfl, HN.out⟩
        · have HF : Hid (nall (Nf d.terms.length nl) ((nats r).drop (j + 1)) = R) := by have := HE.out; rw [Bool.true_and] at this; exact this
          go_region_with (go_at_call 49; refine Calls.mono HV.out ?_; rintro e w1 ⟨rfl, hb1⟩; have hbw := bel_trans HJ2.out.1 hb1; have b1 := HB2.out w1 hbw; have HN := (show Hid _ from (⟨hbw, Box.still HJ2.out.2 hb1, HF.out⟩ : _ ∧ _ ∧ _)))
          all_goals
            clear hbw hb1
            go_wp2_with fail
            exact ⟨⟨j + 1, by go_num, by omega, HN⟩, by simp [intOf]; omega⟩
      · have hnf : Nf d.terms.length nl x = false := by unfold Nf; rw [decide_eq_false ht, Bool.false_and]
        have HF : Hid (R = false) := by have := HE.out; rw [hnf, Bool.false_and] at this; exact this.symm
        have hneg : decide ((x : Int) - d.terms.length < 0) = true := by simp; omega
        clear HE hnf
        go_wp2_with fail
        go_region_with (go_at_call 49; refine Calls.mono HV.out ?_; rintro e w1 ⟨rfl, hb1⟩; have HN := (show Hid _ from bel_trans HJ2.out.1 hb1); clear hb1)
        all_goals
          go_wp2_with fail
          go_ret
          exact ⟨by rw [HF.out]; rfl, HN.out⟩
    · have HF : Hid (R = true) := by
        have := HJ.out.2.2
        rw [List.drop_eq_nil_of_le (by simp [nats]; omega)] at this
        exact this.symm
      have HN := (show Hid _ from HJ.out.1)
      clear HJ
      go_wp2_with fail
      go_ret
      exact ⟨by rw [HF.out]; rfl, HN.out⟩
end Go.Proofs.YtjpjjfgdgieapaaDoor
