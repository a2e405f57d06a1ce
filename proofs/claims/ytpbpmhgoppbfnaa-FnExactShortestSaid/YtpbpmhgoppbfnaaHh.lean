import Derived.Test.YtpbpmhgoppbfnaaSn
import Derived.Test.YtpbpmhgoppbfnaaHa
/-! The specification: l04Sum. -/
namespace Go.Proofs.Ytpbpmhgoppbfnaa
open Go.RowKit Go.Deep
set_option linter.unusedVariables false
set_option maxRecDepth 100000
set_option linter.unusedSimpArgs false

/-- The Least of each symbol, by that of the Nons. -/
def Mf (nt : Nat) (M : List Int) : Nat → Int := fun x => if x < nt then 1 else M.getD (x - nt) (-1)
theorem Mf_tm {nt : Nat} {M : List Int} {x : Nat} (h : x < nt) : Mf nt M x = 1 := by unfold Mf; rw [if_pos h]
theorem Mf_non {nt : Nat} {M : List Int} {y : Nat} (h : y < M.length) : Mf nt M (nt + y) = M[y] := by
  unfold Mf
  rw [if_neg (by omega)]
  have : nt + y - nt = y := by omega
  rw [this, getD_lt _ _ h]
theorem Mf_set {nt : Nat} {M : List Int} {y : Nat} (hy : y < M.length) (u : Int) : Mf nt (M.set y u) = upd (Mf nt M) (nt + y) u := by
  funext x
  unfold Mf upd
  by_cases e : x = nt + y
  · subst e
    rw [if_pos rfl, if_neg (by omega)]
    have e1 : nt + y - nt = y := by omega
    rw [e1]
    simp [List.getD_eq_getElem?_getD, hy]
  · rw [if_neg e]
    dsimp only
    by_cases h : x < nt
    · rw [if_pos h, if_pos h]
    · rw [if_neg h, if_neg h]
      have e2 : (M.set y u)[x - nt]? = M[x - nt]? := List.getElem?_set_ne (fun h : y = x - nt => e (by omega))
      simp [List.getD_eq_getElem?_getD, e2]
theorem irow_cell {w : World} {b : Nat} {L : List Int} (h : IRow w b L) {x : Nat} (hx : x < L.length) : w.cell? ⟨b, x, none⟩ = some (.int .i64 L[x]) := by
  have := World.rowIs.cell h hx
  simpa [List.getD_eq_getElem?_getD, hx] using this
theorem irow_still {w w' : World} {b : Nat} {L : List Int} (h : IRow w b L) (hb : Below w.heap.size w w') : IRow w' b L := World.rowIs.of_block h (hb.block b (World.rowIs.lt h))

set_option maxHeartbeats 6400000 in
theorem sum_any {S : Nat → Prop} (d : Bn) (a0 a1 a3 : Option Addr) (c0 c1 c3 n1 n3 : Nat) (b : Nat) (M r : List Int) (v : Value) (w : World) (hnt : d.terms.length ≤ 60) (hnl : M.length ≤ 100) (hb : IRow w b M) (hr : Ints w S r v) (hin : ∀ i (hi : i < r.length), 0 ≤ r[i] ∧ r[i] < ((d.terms.length + M.length : Nat) : Int)) (hlo : ∀ x, -1 ≤ Mf d.terms.length M x) (hto : ∀ x, Mf d.terms.length M x ≤ 1000) (hlen : r.length ≤ 12) :
    Calls Try.prog 56 #[.agg #[.slice a0 d.terms.length c0, .slice a1 n1 c1, .int .i64 d.own, .slice a3 n3 c3], .slice (some ⟨b, 0, none⟩) M.length M.length, v] w fun e w' => e = .returned (.int .i64 (lof (Mf d.terms.length M) (nats r))) ∧ Below w.heap.size w w' := by
  obtain ⟨a, cap, bb, off, rfl, hc, hm, ha, hcell⟩ := hr
  have HC := (show Hid _ from hcell); clear hcell
  have HA := (show Hid _ from ha); clear ha
  have HI := (show Hid _ from hin); clear hin
  have HBR := (show Hid _ from hb); clear hb
  have HLO := (show Hid _ from hlo); clear hlo
  have HTO := (show Hid _ from hto); clear hto
  unfold maxLen at hm
  generalize hR : lof (Mf d.terms.length M) (nats r) = R
  have HR := (show Hid _ from hR); clear hR
  have HX := (show Hid _ from Box.new w 34 [.slice a0 d.terms.length c0, .slice a1 n1 c1, .int .i64 d.own, .slice a3 n3 c3])
  have HB0 := (show Hid _ from bel_alloc w (.cells #[.slice a0 d.terms.length c0, .slice a1 n1 c1, .int .i64 d.own, .slice a3 n3 c3] 34))
  go_enter Try.func56, Try.ntmps56
  go_wp2_with fail
  go_loopw [7, 8] (fun u i wr => ∃ (s j : Nat), u = .int .i64 s ∧ i = .int .i64 j ∧ j ≤ r.length ∧ s ≤ 1000 * j ∧ Hid (Below w.heap.size w wr ∧ Box wr w.heap.size 34 [.slice a0 d.terms.length c0, .slice a1 n1 c1, .int .i64 d.own, .slice a3 n3 c3] ∧ lsum (Mf d.terms.length M) (nats r) = (lsum (Mf d.terms.length M) ((nats r).drop j)).map ((s : Int) + ·))) (fun _ i _ => r.length - (intOf i).toNat)
  case atStart =>
    refine ⟨0, 0, rfl, rfl, Nat.zero_le _, Nat.zero_le _, HB0.out, HX.out, ?_⟩
    rw [List.drop_zero]
    cases lsum (Mf d.terms.length M) (nats r) with
    | none => rfl
    | some t => simp
  case round =>
    obtain ⟨s, j, rfl, rfl, hj, hs, HJ⟩ := hrel
    by_cases hlt : j < r.length
    · have hlt' := hlt
      obtain ⟨rfl, _⟩ := HA.out (by omega)
      have q0 := HC.out j hlt'
      rw [← HJ.out.1.cell (lt_of_cell q0)] at q0
      obtain ⟨i1, i2⟩ := HI.out j hlt'
      have hE := HJ.out.2.2
      rw [nats_drop r j hlt'] at hE
      obtain ⟨x, hx⟩ : ∃ x : Nat, r[j] = x := ⟨r[j].toNat, by omega⟩
      rw [hx] at i1 i2 q0 hE
      rw [Int.toNat_natCast] at hE
      have T0 : wr.cell? ⟨w.heap.size, 0, none⟩ = some (.slice a0 d.terms.length c0) := HJ.out.2.1.cell 0 (by simp)
      have T1 : wr.cell? ⟨w.heap.size, 1, none⟩ = some (.slice a1 n1 c1) := HJ.out.2.1.cell 1 (by simp)
      have T2 : wr.cell? ⟨w.heap.size, 2, none⟩ = some (.int .i64 d.own) := HJ.out.2.1.cell 2 (by simp)
      have T3 : wr.cell? ⟨w.heap.size, 3, none⟩ = some (.slice a3 n3 c3) := HJ.out.2.1.cell 3 (by simp)
      have HV := (show Hid _ from non_any d a0 c0 (.slice a1 n1 c1) (.slice a3 n3 c3) x wr.drew (by omega) hnt)
      have HJ2 := (show Hid _ from (⟨HJ.out.1.drew, HJ.out.2.1.still ((Below.refl _ _).drew)⟩ : Below w.heap.size w wr.drew ∧ Box wr.drew w.heap.size 34 [.slice a0 d.terms.length c0, .slice a1 n1 c1, .int .i64 d.own, .slice a3 n3 c3]))
      have HE := (show Hid _ from hE); clear hE HJ hx
      by_cases ht : d.terms.length ≤ x
      · obtain ⟨y, hy⟩ : ∃ y, x = d.terms.length + y := ⟨x - d.terms.length, by omega⟩
        have hbl : y < M.length := by omega
        have hk : ((x : Int) - d.terms.length) = (y : Int) := by omega
        have hnf : Mf d.terms.length M x = M[y] := by rw [hy]; exact Mf_non hbl
        have HB2 := (show Hid _ from fun (w' : World) (hb' : Below w.heap.size w w') => irow_cell (irow_still HBR.out hb') hbl)
        rw [hk] at HV
        have hlx := HLO.out x
        have htx := HTO.out x
        rw [hnf] at hlx htx
        have hE := HE.out
        clear HE hk hy
        by_cases e : M[y] = -1
        · have HF : Hid (R = -1) := by
            show R = -1
            rw [← HR.out]
            unfold lof
            rw [hE]
            have : lsum (Mf d.terms.length M) (x :: (nats r).drop (j + 1)) = none := by rw [lsum, if_pos (by rw [hnf]; exact e)]
            rw [this]
            rfl
          rw [e] at HB2
          clear hE hnf hlx htx e
          go_wp2_with fail
          go_region_with (go_at_call 26; refine Calls.mono HV.out ?_; rintro e w1 ⟨rfl, hb1⟩; have hbw := bel_trans HJ2.out.1 hb1; have b1 := HB2.out w1 hbw; have HN := (show Hid _ from hbw); clear hbw hb1)
          all_goals
            go_wp2_with fail
            go_ret
            exact ⟨by rw [HF.out]; rfl, HN.out⟩
        · obtain ⟨z, hz⟩ : ∃ z : Nat, M[y] = z := ⟨M[y].toNat, by omega⟩
          have HF : Hid (lsum (Mf d.terms.length M) (nats r) = (lsum (Mf d.terms.length M) ((nats r).drop (j + 1))).map (((s + z : Nat) : Int) + ·)) := by
            show lsum (Mf d.terms.length M) (nats r) = _
            rw [hE]
            have : lsum (Mf d.terms.length M) (x :: (nats r).drop (j + 1)) = (lsum (Mf d.terms.length M) ((nats r).drop (j + 1))).map ((z : Int) + ·) := by rw [lsum, if_neg (by rw [hnf]; exact e), hnf, hz]
            rw [this]
            cases lsum (Mf d.terms.length M) ((nats r).drop (j + 1)) with
            | none => rfl
            | some t => simp; omega
          rw [hz] at HB2 htx
          clear hE hnf hlx e hz
          go_wp2_with fail
          go_region_with (go_at_call 26; refine Calls.mono HV.out ?_; rintro e w1 ⟨rfl, hb1⟩; have hbw := bel_trans HJ2.out.1 hb1; have b1 := HB2.out w1 hbw; have HN := (show Hid _ from (⟨hbw, Box.still HJ2.out.2 hb1, HF.out⟩ : _ ∧ _ ∧ _)); clear hbw hb1)
          all_goals
            go_wp2_with fail
            exact ⟨⟨s + z, j + 1, by go_num, by go_num, by omega, by omega, HN⟩, by simp [intOf]; omega⟩
      · have hx2 : x < d.terms.length := by omega
        have hnf := Mf_tm (M := M) hx2
        have hneg : decide ((x : Int) - d.terms.length < 0) = true := by simp; omega
        have hE := HE.out
        have HF : Hid (lsum (Mf d.terms.length M) (nats r) = (lsum (Mf d.terms.length M) ((nats r).drop (j + 1))).map (((s + 1 : Nat) : Int) + ·)) := by
          show lsum (Mf d.terms.length M) (nats r) = _
          rw [hE]
          have : lsum (Mf d.terms.length M) (x :: (nats r).drop (j + 1)) = (lsum (Mf d.terms.length M) ((nats r).drop (j + 1))).map ((1 : Int) + ·) := by rw [lsum, if_neg (by rw [hnf]; omega), hnf]
          rw [this]
          cases lsum (Mf d.terms.length M) ((nats r).drop (j + 1)) with
          | none => rfl
          | some t => simp; omega
        clear hE hnf HE
        go_wp2_with fail
        go_region_with (go_at_call 26; refine Calls.mono HV.out ?_; rintro e w1 ⟨rfl, hb1⟩; have hbw := bel_trans HJ2.out.1 hb1; have HN := (show Hid _ from (⟨hbw, Box.still HJ2.out.2 hb1, HF.out⟩ : _ ∧ _ ∧ _)); clear hbw hb1)
        all_goals
          go_wp2_with fail
          exact ⟨⟨s + 1, j + 1, by go_num, by go_num, by omega, by omega, HN⟩, by simp [intOf]; omega⟩
    · have hF : R = min (s : Int) 1000 := by
        have h1 := HJ.out.2.2
        rw [List.drop_eq_nil_of_le (by simp [nats]; omega)] at h1
        rw [← HR.out]
        unfold lof
        rw [h1]
        simp [lsum]
      have HN := (show Hid _ from HJ.out.1)
      clear HJ
      by_cases hs1 : 1000 < s
      · have hF2 : R = 1000 := by omega
        have HF := (show Hid _ from hF2)
        clear hF hF2
        go_wp2_with fail
        go_ret
        exact ⟨by rw [HF.out]; rfl, HN.out⟩
      · have hF2 : R = s := by omega
        have HF := (show Hid _ from hF2)
        clear hF hF2
        go_wp2_with fail
        go_ret
        exact ⟨by rw [HF.out]; rfl, HN.out⟩
end Go.Proofs.Ytpbpmhgoppbfnaa
