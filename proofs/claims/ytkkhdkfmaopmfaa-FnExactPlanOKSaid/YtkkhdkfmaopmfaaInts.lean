import Derived.Test.YtkkhdkfmaopmfaaMark2
import Derived.Deep.RegionWith
namespace Go.Proofs.Ytkkhdkfmaopmfaa
open Go.RowKit Go.Deep Go.Lib
set_option linter.unusedVariables false
set_option linter.unusedSimpArgs false

set_option maxHeartbeats 1600000 in
theorem heldS_any {S : Nat → Prop} (t : Tr) : ∀ (nm x : ByteArray) (le : Bool) (v : Value) (w : World) (n : Nat), Lies w S ⟨nm, x, le, (mkP t).2 n⟩ v → 0 < n → n + 3 * Tr.cntL t.kids ≤ 67108864 →
    Calls Try.prog 45 #[v, .int .i64 n] w fun e w' => e = .returned (.int .i64 (n + 3 * Tr.cntL t.kids : Nat)) ∧ Below w.heap.size w w' := by
  refine Tr.ind (P := fun t => ∀ (nm x : ByteArray) (le : Bool) (v : Value) (w : World) (n : Nat), Lies w S ⟨nm, x, le, (mkP t).2 n⟩ v → 0 < n → n + 3 * Tr.cntL t.kids ≤ 67108864 →
    Calls Try.prog 45 #[v, .int .i64 n] w fun e w' => e = .returned (.int .i64 (n + 3 * Tr.cntL t.kids : Nat)) ∧ Below w.heap.size w w') ?_ t
  intro nm0 x0 le0 k ih nm x le v w n hlies hn0 hnk
  have ek : (mkP ⟨nm0, x0, le0, k⟩).2 n = mkL k n := by rw [mkP_mk]; rfl
  rw [ek] at hlies
  obtain ⟨a, cap, b, off, sv, rfl, hn, hx, hc, hm, ha, hcell, hk⟩ := hlies.out
  dsimp only at hn hx hc ha hcell hk hnk ⊢
  have hlen := mkL_len k n
  rw [hlen] at hc ha ⊢
  have hcell' : ∀ i (hi : i < k.length), w.cell? ⟨b, off + i * 4, none⟩ = some (.string (mt (n + 3 * Tr.cntL (k.take i)))) ∧ w.cell? ⟨b, off + i * 4 + 1, none⟩ = some (.string (mt (n + 3 * Tr.cntL (k.take i) + 1))) ∧
        w.cell? ⟨b, off + i * 4 + 2, none⟩ = some (.bool (decide ((n + 3 * Tr.cntL (k.take i) + 2) % 3 = 0))) ∧ w.cell? ⟨b, off + i * 4 + 3, none⟩ = some (sv i) := by
    intro i hi
    have := hcell i (by rw [hlen]; exact hi)
    rw [mkL_get k n i hi] at this
    exact this
  have hk' : ∀ i (hi : i < k.length), ∃ nm x le, Lies w S ⟨nm, x, le, (mkP k[i]).2 (n + 3 * Tr.cntL (k.take i) + 3)⟩ (sv i) := by
    intro i hi
    have := hk i (by rw [hlen]; exact hi)
    rw [mkL_get k n i hi] at this
    exact ⟨_, _, _, this⟩
  clear hcell hk hlen ek hlies
  have HI := (show Hid _ from ih); clear ih
  have HC := (show Hid _ from hcell'); clear hcell'
  have HK := (show Hid _ from hk'); clear hk'
  have HA := (show Hid _ from ha); clear ha
  unfold maxLen at hm
  go_enter Try.func45, Try.ntmps45
  go_wp2_with fail
  go_loopw [1, 5] (fun u i wr => ∃ (j q : Nat), j ≤ k.length ∧ i = .int .i64 j ∧ u = .int .i64 q ∧ q ≤ 67108864 ∧ 0 < q ∧ Hid (q = n + 3 * Tr.cntL (k.take j)) ∧ Below w.heap.size w wr) (fun _ i _ => k.length - (intOf i).toNat)
  case atStart => exact ⟨0, n, Nat.zero_le _, rfl, rfl, by omega, hn0, by show n = _; simp [Tr.cntL], Below.refl _ _⟩
  case round =>
    obtain ⟨j, q, hj, rfl, rfl, hq1, hq0, HQ, hbw⟩ := hrel
    by_cases hlt : j < k.length
    · obtain ⟨rfl, _⟩ := HA.out (by omega)
      obtain ⟨c0, c1, c2, c3⟩ := HC.out j hlt
      obtain ⟨n1, x1, le1, hkj⟩ := HK.out j hlt
      rw [← HQ.out] at c0 c1 c2 hkj
      have hcp := cnt_eq k[j]
      have hq2 : q + 3 * k[j].cnt ≤ 67108864 := by
        have := Tr.cntL_take_succ k j hlt
        have := Tr.cntL_take_le k (j + 1)
        have := HQ.out
        omega
      have eb : decide ((q + 2) % 3 = 0) = (((q : Int) + 1 + 1) % 3 == 0) := by
        rw [Bool.eq_iff_iff]
        simp
        omega
      rw [eb] at c2
      clear eb
      rw [← hbw.cell (lt_of_cell c0)] at c0
      rw [← hbw.cell (lt_of_cell c1)] at c1
      rw [← hbw.cell (lt_of_cell c2)] at c2
      rw [← hbw.cell (lt_of_cell c3)] at c3
      obtain ⟨a1, l1, p1, hsvj⟩ := hkj.form
      have hcl := fun (w' : World) (hw : Below wr.heap.size wr w') => HI.out j hlt n1 x1 le1 (sv j) w' (q + 3) (hkj.still (bel_trans hbw hw)) (by omega) (by omega)
      rw [hsvj] at hcl c3
      have HCL := (show Hid _ from hcl); clear hcl hkj hsvj
      have hmt := fun (w' : World) => markText_any q hq0 hq1 w'
      have hmt1 := fun (w' : World) => markText_any (q + 1) (by omega) (by omega) w'
      have HM0 := (show Hid _ from hmt); clear hmt
      have HM1 := (show Hid _ from hmt1); clear hmt1
      have C0 := (show Hid _ from c0)
      have C1 := (show Hid _ from (⟨c1, c2, c3⟩ : _ ∧ _ ∧ _)); clear c1 c2 c3
      have hdr := (Below.refl wr.heap.size wr).drew
      go_wp2_with fail
      go_region_with (go_at_call 44; refine Calls.mono (HM0.out _) ?_; rintro e w1 ⟨rfl, hb1⟩; have d0 := ((hdr.trans (hb1.mono (Nat.le_refl _))).cell (lt_of_cell C0.out)).trans C0.out)
      all_goals
        have hbA : Below wr.heap.size wr w1 := hdr.trans (hb1.mono (Nat.le_refl _))
        obtain ⟨c1, c2, c3⟩ := C1.out
        rw [← hbA.cell (lt_of_cell c1)] at c1
        rw [← hbA.cell (lt_of_cell c2)] at c2
        rw [← hbA.cell (lt_of_cell c3)] at c3
        have D1 := (show Hid _ from c1)
        have D2 := (show Hid _ from (⟨c2, c3⟩ : _ ∧ _)); clear c2 c3 d0 c0 C0 C1
        have hdr1 := (Below.refl w1.heap.size w1).drew
        go_wp2_with fail
        go_region_with (go_at_call 44; refine Calls.mono (HM1.out _) ?_; rintro e w2 ⟨rfl, hb2⟩; have d1 := ((hdr1.trans (hb2.mono (Nat.le_refl _))).cell (lt_of_cell D1.out)).trans D1.out)
      all_goals
        have hbB : Below wr.heap.size wr w2 := bel_trans hbA (hdr1.trans (hb2.mono (Nat.le_refl _)))
        obtain ⟨c2, c3⟩ := D2.out
        have hbC := hdr1.trans (hb2.mono (Nat.le_refl _))
        rw [← hbC.cell (lt_of_cell c2)] at c2
        rw [← hbC.cell (lt_of_cell c3)] at c3
        clear D1 D2 d1 c1 hdr1 hdr hbC
        go_wp2_with fail
        have eq3 : ((q : Int) + 1 + 1 + 1) = ((q + 3 : Nat) : Int) := by omega
        rw [eq3]
        refine Calls.mono (HCL.out w2 hbB) ?_
        rintro e w4 ⟨rfl, hb4⟩
        have hb5 : Below w.heap.size w w4 := bel_trans hbw (bel_trans hbB hb4)
        have hq4 : q + 3 + 3 * Tr.cntL k[j].kids = n + 3 * Tr.cntL (k.take (j + 1)) := by
          have := Tr.cntL_take_succ k j hlt
          have := HQ.out
          omega
        have HQ4 := (show Hid _ from hq4); clear hq4
        generalize hqq : q + 3 + 3 * Tr.cntL k[j].kids = qq at *
        have hqq2 : qq ≤ 67108864 := by omega
        have hqq0 : 0 < qq := by omega
        clear hqq
        go_wp2_with fail
        exact ⟨⟨j + 1, qq, by omega, by go_num, rfl, hqq2, hqq0, HQ4, hb5⟩, by simp [intOf]; omega⟩
    · have : j = k.length := by omega
      subst this
      have hqe := HQ.out
      rw [List.take_length] at hqe
      have HF := (show Hid _ from hqe); clear hqe
      go_wp2_with fail
      go_ret
      exact ⟨by rw [← HF.out]; rfl, hbw⟩
end Go.Proofs.Ytkkhdkfmaopmfaa

namespace Go.Proofs.Ytkkhdkfmaopmfaa
open Go.RowKit Go.Deep Go.Lib
set_option linter.unusedVariables false
set_option maxRecDepth 100000
set_option linter.unusedSimpArgs false

/-- Numbers that lie behind a slice, in a block of S. -/
def Ints (w : World) (S : Nat → Prop) (l : List Int) (v : Value) : Prop :=
  ∃ (a : Option Addr) (cap b off : Nat), v = .slice a l.length cap ∧ l.length ≤ cap ∧ cap ≤ maxLen ∧ (0 < l.length → a = some ⟨b, off, none⟩ ∧ S b) ∧ ∀ i (hi : i < l.length), w.cell? ⟨b, off + i, none⟩ = some (.int .i64 l[i])
theorem Ints.still {w w' : World} {S : Nat → Prop} {l : List Int} {v : Value} (h : Ints w S l v) (hb : Below w.heap.size w w') : Ints w' S l v := by
  obtain ⟨a, cap, b, off, hv, hc, hm, ha, hcell⟩ := h
  exact ⟨a, cap, b, off, hv, hc, hm, ha, fun i hi => (hb.cell (lt_of_cell (hcell i hi))).trans (hcell i hi)⟩
theorem Ints.keep {w w' : World} {S : Nat → Prop} {l : List Int} {v : Value} (h : Ints w S l v) (hb : ∀ b, S b → b < w.heap.size → w'.heap[b]? = w.heap[b]?) : Ints w' S l v := by
  obtain ⟨a, cap, b, off, hv, hc, hm, ha, hcell⟩ := h
  exact ⟨a, cap, b, off, hv, hc, hm, ha, fun i hi => (World.cell?_of_block (w := w) (hb b (ha (by omega)).2 (lt_of_cell (hcell i hi)))).trans (hcell i hi)⟩
theorem Ints.form {w : World} {S : Nat → Prop} {l : List Int} {v : Value} (h : Ints w S l v) : ∃ a len cap, v = .slice a len cap := by
  obtain ⟨a, cap, b, off, hv, _⟩ := h
  exact ⟨_, _, _, hv⟩
/-- .. in a row of its own. -/
def IRow (w : World) (b : Nat) (l : List Int) : Prop := w.rowIs b 3 l.length (fun i => .int .i64 (l.getD i 0))
theorem IRow.ints {w : World} {b : Nat} {l : List Int} (h : IRow w b l) (hl : l.length ≤ maxLen) : Ints w (fun c => c = b) l (.slice (some ⟨b, 0, none⟩) l.length l.length) := by
  refine ⟨_, _, b, 0, rfl, Nat.le_refl _, hl, fun _ => ⟨rfl, rfl⟩, fun i hi => ?_⟩
  rw [Nat.zero_add, h.cell hi]
  simp [List.getD_eq_getElem?_getD, hi]

theorem info3i : (Try.prog.info? 3).map (fun i => (i.zero, i.size, i.bytes)) = some (some (.int .i64 0), 1, 8) := by kernel_rfl
theorem run_makeInts (n : Nat) (hn : n ≤ 1048576) (w : World) :
    (Instr.makeSlice 86 (.int .i64 (n : Int)) (.int .i64 (n : Int))).run Try.prog w = .ok (.slice (some ⟨w.heap.size, 0, none⟩) n n) (w.alloc (.cells (madeCells #[.int .i64 0] n) 3)) := by
  obtain ⟨i, hi, hz, hs, hb⟩ := info_parts info3i
  have hr := run_make (P := Try.prog) w 86 3 i _ Try.underlying86 hi hz .i64 .i64 n n (by omega) (Int.le_refl _) (by rw [hb]; omega) (by omega)
  simp only [Int.toNat_natCast, hs, Nat.mul_one] at hr
  exact hr

end Go.Proofs.Ytkkhdkfmaopmfaa
