import Derived.Test.YtblfeifedcddnaaMark2
import Derived.Deep.RegionWith
namespace Go.Proofs.Ytblfeifedcddnaa
open Go.RowKit Go.Deep Go.Lib
set_option linter.unusedVariables false
set_option linter.unusedSimpArgs false

set_option maxHeartbeats 1600000 in
theorem heldS_any {S : Nat → Prop} (t : Tr) : ∀ (nm x : ByteArray) (le : Bool) (v : Value) (w : World) (n : Nat), Lies w S ⟨nm, x, le, (mkP t).2 n⟩ v → 0 < n → n + 3 * Tr.cntL t.kids ≤ 67108864 →
    Calls Try.prog 22 #[v, .int .i64 n] w fun e w' => e = .returned (.int .i64 (n + 3 * Tr.cntL t.kids : Nat)) ∧ Below w.heap.size w w' := by
  refine Tr.ind (P := fun t => ∀ (nm x : ByteArray) (le : Bool) (v : Value) (w : World) (n : Nat), Lies w S ⟨nm, x, le, (mkP t).2 n⟩ v → 0 < n → n + 3 * Tr.cntL t.kids ≤ 67108864 →
    Calls Try.prog 22 #[v, .int .i64 n] w fun e w' => e = .returned (.int .i64 (n + 3 * Tr.cntL t.kids : Nat)) ∧ Below w.heap.size w w') ?_ t
  intro nm0 x0 le0 k ih nm x le v w n hlies hn0 hnk
  have ek : (mkP ⟨nm0, x0, le0, k⟩).2 n = mkL k n := by rw [mkP_mk]; rfl
  rw [ek] at hlies
  obtain ⟨a, cap, b, off, sv, rfl, hn, hx, hc, hm, ha, hcell, hk⟩ := hlies.out
  dsimp only at hn hx hc ha hcell hk hnk ⊢
  have hlen := mkL_len k n
  rw [hlen] at hc ha ⊢
  have hcell' : ∀ i (hi : i < k.length), w.cell? ⟨b, off + i * 4, none⟩ = some (.string (mt (n + 3 * Tr.cntL (k.take i)))) ∧ w.cell? ⟨b, off + i * 4 + 1, none⟩ = some (.string (mt (n + 3 * Tr.cntL (k.take i) + 1))) ∧
        w.cell? ⟨b, off + i * 4 + 2, none⟩ = some (.bool (decide ((n + 3 * Tr.cntL (k.take i) + 2) % 3 = 0))) ∧ w.cell? ⟨b, off + i * 4 + 3, none⟩ = some (sv i) := by
    intro i hi
    have := hcell i (by rw [hlen]; exact hi)
    rw [mkL_get k n i hi] at this
    exact this
  have hk' : ∀ i (hi : i < k.length), ∃ nm x le, Lies w S ⟨nm, x, le, (mkP k[i]).2 (n + 3 * Tr.cntL (k.take i) + 3)⟩ (sv i) := by
    intro i hi
    have := hk i (by rw [hlen]; exact hi)
    rw [mkL_get k n i hi] at this
    exact ⟨_, _, _, this⟩
  clear hcell hk hlen ek hlies
  have HI := (show Hid _ from ih); clear ih
  have HC := (show Hid _ from hcell'); clear hcell'
  have HK := (show Hid _ from hk'); clear hk'
  have HA := (show Hid _ from ha); clear ha
  unfold maxLen at hm
  go_enter Try.func22, Try.ntmps22
  go_wp2_with fail
  go_loopw [1, 5] (fun u i wr => ∃ (j q : Nat), j ≤ k.length ∧ i = .int .i64 j ∧ u = .int .i64 q ∧ q ≤ 67108864 ∧ 0 < q ∧ Hid (q = n + 3 * Tr.cntL (k.take j)) ∧ Below w.heap.size w wr) (fun _ i _ => k.length - (intOf i).toNat)
  case atStart => exact ⟨0, n, Nat.zero_le _, rfl, rfl, by omega, hn0, by show n = _; simp [Tr.cntL], Below.refl _ _⟩
  case round =>
    obtain ⟨j, q, hj, rfl, rfl, hq1, hq0, HQ, hbw⟩ := hrel
    by_cases hlt : j < k.length
    · obtain ⟨rfl, _⟩ := HA.out (by omega)
      obtain ⟨c0, c1, c2, c3⟩ := HC.out j hlt
      obtain ⟨n1, x1, le1, hkj⟩ := HK.out j hlt
      rw [← HQ.out] at c0 c1 c2 hkj
      have hcp := cnt_eq k[j]
      have hq2 : q + 3 * k[j].cnt ≤ 67108864 := by
        have := Tr.cntL_take_succ k j hlt
        have := Tr.cntL_take_le k (j + 1)
        have := HQ.out
        omega
      have eb : decide ((q + 2) % 3 = 0) = (((q : Int) + 1 + 1) % 3 == 0) := by
        rw [Bool.eq_iff_iff]
        simp
        omega
      rw [eb] at c2
      clear eb
      rw [← hbw.cell (lt_of_cell c0)] at c0
      rw [← hbw.cell (lt_of_cell c1)] at c1
      rw [← hbw.cell (lt_of_cell c2)] at c2
      rw [← hbw.cell (lt_of_cell c3)] at c3
      obtain ⟨a1, l1, p1, hsvj⟩ := hkj.form
      have hcl := fun (w' : World) (hw : Below wr.heap.size wr w') => HI.out j hlt n1 x1 le1 (sv j) w' (q + 3) (hkj.still (bel_trans hbw hw)) (by omega) (by omega)
      rw [hsvj] at hcl c3
      have HCL := (show Hid _ from hcl); clear hcl hkj hsvj
      have hmt := fun (w' : World) => markText_any q hq0 hq1 w'
      have hmt1 := fun (w' : World) => markText_any (q + 1) (by omega) (by omega) w'
      have HM0 := (show Hid _ from hmt); clear hmt
      have HM1 := (show Hid _ from hmt1); clear hmt1
      have C0 := (show Hid _ from c0)
      have C1 := (show Hid _ from (⟨c1, c2, c3⟩ : _ ∧ _ ∧ _)); clear c1 c2 c3
      have hdr := (Below.refl wr.heap.size wr).drew
      go_wp2_with fail
      go_region_with (go_at_call 51; refine Calls.mono (HM0.out _) ?_; rintro e w1 ⟨rfl, hb1⟩; have d0 := ((hdr.trans (hb1.mono (Nat.le_refl _))).cell (lt_of_cell C0.out)).trans C0.out)
      all_goals
        have hbA : Below wr.heap.size wr w1 := hdr.trans (hb1.mono (Nat.le_refl _))
        obtain ⟨c1, c2, c3⟩ := C1.out
        rw [← hbA.cell (lt_of_cell c1)] at c1
        rw [← hbA.cell (lt_of_cell c2)] at c2
        rw [← hbA.cell (lt_of_cell c3)] at c3
        have D1 := (show Hid _ from c1)
        have D2 := (show Hid _ from (⟨c2, c3⟩ : _ ∧ _)); clear c2 c3 d0 c0 C0 C1
        have hdr1 := (Below.refl w1.heap.size w1).drew
        go_wp2_with fail
        go_region_with (go_at_call 51; refine Calls.mono (HM1.out _) ?_; rintro e w2 ⟨rfl, hb2⟩; have d1 := ((hdr1.trans (hb2.mono (Nat.le_refl _))).cell (lt_of_cell D1.out)).trans D1.out)
      all_goals
        have hbB : Below wr.heap.size wr w2 := bel_trans hbA (hdr1.trans (hb2.mono (Nat.le_refl _)))
        obtain ⟨c2, c3⟩ := D2.out
        have hbC := hdr1.trans (hb2.mono (Nat.le_refl _))
        rw [← hbC.cell (lt_of_cell c2)] at c2
        rw [← hbC.cell (lt_of_cell c3)] at c3
        clear D1 D2 d1 c1 hdr1 hdr hbC
        go_wp2_with fail
        have eq3 : ((q : Int) + 1 + 1 + 1) = ((q + 3 : Nat) : Int) := by omega
        rw [eq3]
        refine Calls.mono (HCL.out w2 hbB) ?_
        rintro e w4 ⟨rfl, hb4⟩
        have hb5 : Below w.heap.size w w4 := bel_trans hbw (bel_trans hbB hb4)
        have hq4 : q + 3 + 3 * Tr.cntL k[j].kids = n + 3 * Tr.cntL (k.take (j + 1)) := by
          have := Tr.cntL_take_succ k j hlt
          have := HQ.out
          omega
        have HQ4 := (show Hid _ from hq4); clear hq4
        generalize hqq : q + 3 + 3 * Tr.cntL k[j].kids = qq at *
        have hqq2 : qq ≤ 67108864 := by omega
        have hqq0 : 0 < qq := by omega
        clear hqq
        go_wp2_with fail
        exact ⟨⟨j + 1, qq, by omega, by go_num, rfl, hqq2, hqq0, HQ4, hb5⟩, by simp [intOf]; omega⟩
    · have : j = k.length := by omega
      subst this
      have hqe := HQ.out
      rw [List.take_length] at hqe
      have HF := (show Hid _ from hqe); clear hqe
      go_wp2_with fail
      go_ret
      exact ⟨by rw [← HF.out]; rfl, hbw⟩
end Go.Proofs.Ytblfeifedcddnaa
