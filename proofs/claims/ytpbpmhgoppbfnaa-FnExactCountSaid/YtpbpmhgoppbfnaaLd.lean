import Derived.Test.YtpbpmhgoppbfnaaAl
import Derived.Deep.RegionWith
/-! The program: one Prod leads further. -/
namespace Go.Proofs.Ytpbpmhgoppbfnaa
open Go.RowKit Go.Deep
set_option linter.unusedVariables false
set_option maxRecDepth 100000
set_option linter.unusedSimpArgs false

theorem alo_sub (L : Nat → Int) (r : List Int) : (alo L r).length ≤ r.length ∧ ∀ x ∈ alo L r, x ∈ r := by
  unfold alo
  split
  · exact ⟨Nat.le_refl _, fun x hx => hx⟩
  · split
    · exact ⟨List.length_filter_le _ _, fun x hx => (List.mem_filter.1 hx).1⟩
    · exact ⟨Nat.zero_le _, fun x hx => by simp at hx⟩
/-- Whether a set has grown. -/
def grew (V W : List Nat) (l : Nat) : Bool := !((((V.getD (l * 3) 0 : Nat) : Int) == ((W.getD (l * 3) 0 : Nat) : Int)) && ((((V.getD (l * 3 + 1) 0 : Nat) : Int) == ((W.getD (l * 3 + 1) 0 : Nat) : Int)) && (((V.getD (l * 3 + 2) 0 : Nat) : Int) == ((W.getD (l * 3 + 2) 0 : Nat) : Int))))

set_option maxHeartbeats 12800000 in
theorem leads1_any (w : World) (gs bs g g2 b N : Nat) (v0 v1 vo v3 : Value) (L : List Int) (W : List Nat) (p : Pd) (v : Value)
    (hS : St w gs bs v0 v1 vo v3 L) (hLN : L.length = N) (hN : N ≤ 160) (hG : Box w g 108 [.slice (some ⟨b, 0, none⟩) N N]) (hG2 : Box w g2 46 [.func (.func 75) #[.pointer (some ⟨gs, 0, none⟩)] #[]]) (hW : WRow w b W) (hWN : W.length = N * 3) (hWl : ∀ i, W.getD i 0 < 2 ^ 64)
    (n1 : gs ≠ b) (n2 : bs ≠ b) (n3 : g ≠ b) (n4 : g2 ≠ b) (hr : Ints w (fun c => c ≠ b) p.right v) (hin : ∀ i (hi : i < p.right.length), 0 ≤ p.right[i] ∧ p.right[i] < N) (hl0 : 0 ≤ p.left) (hl1 : p.left < N) (hlen : p.right.length ≤ 1048576) :
    Calls Try.prog 92 #[.agg #[.int .i64 p.left, v, .string p.label, .int .i64 p.lev, .int .i64 p.asc], .pointer (some ⟨g, 0, none⟩), .pointer (some ⟨g2, 0, none⟩)] w fun e w' => e = .returned (.bool (grew (stepW W p.left.toNat (nats (alo (Lf L) p.right))) W p.left.toNat)) ∧ WRow w' b (stepW W p.left.toNat (nats (alo (Lf L) p.right))) ∧ Bt b w w' := by
  obtain ⟨l, hl⟩ : ∃ l : Nat, p.left = l := ⟨p.left.toNat, by omega⟩
  rw [hl] at hl0 hl1 ⊢
  rw [Int.toNat_natCast]
  obtain ⟨ai, ci, ei, _⟩ := hr.form
  rw [ei] at hr ⊢
  have hblt := World.rowIs.lt hW
  have hll : l * 3 + 3 ≤ W.length := by omega
  have C0 := hW.cell (i := l * 3) (by omega)
  have C1 := hW.cell (i := l * 3 + 1) (by omega)
  have C2 := hW.cell (i := l * 3 + 2) (by omega)
  rw [← getD_lt W 0 (i := l * 3) (by omega)] at C0
  rw [← getD_lt W 0 (i := l * 3 + 1) (by omega)] at C1
  rw [← getD_lt W 0 (i := l * 3 + 2) (by omega)] at C2
  obtain ⟨P1, hP1⟩ : ∃ o : Obj, o = .cells #[.int .i64 l, .slice ai p.right.length ci, .string p.label, .int .i64 p.lev, .int .i64 p.asc] 57 := ⟨_, rfl⟩
  obtain ⟨P2, hP2⟩ : ∃ o : Obj, o = .cells #[.int .u64 (W.getD (l * 3) 0 : Nat), .int .u64 (W.getD (l * 3 + 1) 0 : Nat), .int .u64 (W.getD (l * 3 + 2) 0 : Nat)] 112 := ⟨_, rfl⟩
  have hb1 := bel_alloc w P1
  have hb2 := bel_trans hb1 (bel_alloc (w.alloc P1) P2)
  have G0 : w.cell? ⟨g, 0, none⟩ = some (.slice (some ⟨b, 0, none⟩) N N) := hG.cell 0 (by simp)
  have G1 : (w.alloc P1).cell? ⟨g, 0, none⟩ = some (.slice (some ⟨b, 0, none⟩) N N) := (hG.still hb1).cell 0 (by simp)
  have G2 : ((w.alloc P1).alloc P2).cell? ⟨g2, 0, none⟩ = some (.func (.func 75) #[.pointer (some ⟨gs, 0, none⟩)] #[]) := (hG2.still hb2).cell 0 (by simp)
  rw [← hb1.cell (lt_of_cell C0)] at C0
  rw [← hb1.cell (lt_of_cell C1)] at C1
  rw [← hb1.cell (lt_of_cell C2)] at C2
  have hbx1 : Box ((w.alloc P1).alloc P2) w.heap.size 57 [.int .i64 l, .slice ai p.right.length ci, .string p.label, .int .i64 p.lev, .int .i64 p.asc] := by
    have := (Box.new w 57 [.int .i64 l, .slice ai p.right.length ci, .string p.label, .int .i64 p.lev, .int .i64 p.asc])
    rw [hP1]
    exact this.still (bel_alloc _ _)
  have hbx2 : Box ((w.alloc P1).alloc P2) (w.heap.size + 1) 112 [.int .u64 (W.getD (l * 3) 0 : Nat), .int .u64 (W.getD (l * 3 + 1) 0 : Nat), .int .u64 (W.getD (l * 3 + 2) 0 : Nat)] := by
    have := (Box.new (w.alloc P1) 112 [.int .u64 (W.getD (l * 3) 0 : Nat), .int .u64 (W.getD (l * 3 + 1) 0 : Nat), .int .u64 (W.getD (l * 3 + 2) 0 : Nat)])
    rw [World.size_alloc] at this
    rw [hP2]
    exact this
  have R1 : ((w.alloc P1).alloc P2).cell? ⟨w.heap.size, 1, none⟩ = some (.slice ai p.right.length ci) := hbx1.cell 1 (by simp)
  have HV := (show Hid _ from alones_any b ((w.alloc P1).alloc P2) (by simp; omega) gs bs v0 v1 vo v3 L p.right _ (hS.still hb2) (hr.still hb2) (by rw [hLN]; exact hin) hlen (by omega))
  have H0 := (show Hid _ from (⟨hbx1, hbx2, hG.still hb2, hW.still hb2, Bt.of_below (g := b) hb2⟩ : _ ∧ _ ∧ _ ∧ _ ∧ _))
  have hQ : ∀ i (hi : i < (alo (Lf L) p.right).length), 0 ≤ (alo (Lf L) p.right)[i] ∧ (alo (Lf L) p.right)[i] < (N : Int) := fun i hi => by
    have hm := (alo_sub (Lf L) p.right).2 _ (List.getElem_mem hi)
    obtain ⟨k, hk, he⟩ := List.mem_iff_getElem.1 hm
    rw [← he]
    exact hin k hk
  have hQl : (alo (Lf L) p.right).length ≤ 1048576 := Nat.le_trans (alo_sub (Lf L) p.right).1 hlen
  have HQ := (show Hid _ from hQ)
  clear hQ hbx1 hbx2 hb1 hb2 hS hG hG2 hW hr hin
  generalize alo (Lf L) p.right = Q at *
  generalize hw0 : W.getD (l * 3) 0 = w0 at *
  generalize hw1 : W.getD (l * 3 + 1) 0 = w1 at *
  generalize hw2 : W.getD (l * 3 + 2) 0 = w2 at *
  subst hP1 hP2
  go_enter Try.func92, Try.ntmps92
  go_wp2_with fail
  go_at_call 75
  refine Calls.mono HV.out ?_
  rintro e u1 ⟨vq, rfl, hbq, hIq⟩
  obtain ⟨aq, cq, eq1, _⟩ := hIq.form
  have hIq2 := hIq
  rw [eq1] at hIq2
  obtain ⟨a', c', bq, oq, e2, hcq, hmq, haq, hcellq⟩ := hIq2
  injection e2 with e3 e4 e5
  subst e3 e5
  subst eq1
  have HQC := (show Hid _ from hcellq); clear hcellq
  have HQA := (show Hid _ from haq); clear haq
  unfold maxLen at hmq
  have H1 := (show Hid _ from (⟨Box.still H0.out.1 hbq, Box.still H0.out.2.1 hbq, Box.still H0.out.2.2.1 hbq, WRow.still H0.out.2.2.2.1 hbq, H0.out.2.2.2.2.trans (Bt.of_below hbq)⟩ : _ ∧ _ ∧ _ ∧ _ ∧ _))
  have hu1 : w.heap.size + 2 ≤ u1.heap.size := by have := hbq.size; simp at this; omega
  have HU := (show Hid (∀ i (hi : i < Q.length), u1.cell? ⟨bq, oq + i, none⟩ = some (.int .i64 Q[i])) from HQC.out)
  clear hbq hIq H0 HV G0 G1 G2 R1 C0 C1 C2 HQC
  go_wp2_with fail
  go_loopw [18] (fun i wr => ∃ j : Nat, i = .int .i64 j ∧ j ≤ Q.length ∧ Hid (WRow wr b (stepW W l (nats (Q.take j))) ∧ Bt b u1 wr)) (fun i _ => Q.length - (intOf i).toNat)
  case atStart => exact ⟨0, rfl, Nat.zero_le _, H1.out.2.2.2.1, Bt.refl _ _⟩
  case round =>
    obtain ⟨j, rfl, hj, HJ⟩ := hrel
    have hVl : (stepW W l (nats (Q.take j))).length = N * 3 := by rw [stepW_len]; exact hWN
    have hV64 := stepW_lt l (nats (Q.take j)) W hWl
    have hwr : w.heap.size + 2 ≤ wr.heap.size := Nat.le_trans hu1 HJ.out.2.size
    by_cases hlt : j < Q.length
    · have hlt' := hlt
      obtain ⟨rfl, hbq⟩ := HQA.out (by omega)
      have c0 := HU.out j hlt'
      have c0' := (World.cell?_of_block (w := u1) (w' := wr) (a := ⟨bq, oq + j, none⟩) (HJ.out.2.block bq (lt_of_cell c0) hbq)).trans c0
      clear c0
      obtain ⟨i1, i2⟩ := HQ.out j hlt'
      have htk : Q.take (j + 1) = Q.take j ++ [Q[j]] := (List.take_append_getElem hlt').symm
      obtain ⟨x, hx⟩ : ∃ x : Nat, Q[j] = x := ⟨Q[j].toNat, by omega⟩
      rw [hx] at i1 i2 c0' htk
      have hxN : x < N := by omega
      have hst : stepW W l (nats (Q.take (j + 1))) = addS (stepW W l (nats (Q.take j))) l x := by
        rw [htk]
        simp [nats, stepW, List.foldl_append]
      have g0 : wr.cell? ⟨g, 0, none⟩ = some (.slice (some ⟨b, 0, none⟩) N N) := (H1.out.2.2.1.bt HJ.out.2 n3).cell 0 (by simp)
      have l0 : wr.cell? ⟨w.heap.size, 0, none⟩ = some (.int .i64 l) := (H1.out.1.bt HJ.out.2 (by omega)).cell 0 (by simp)
      have hxx : 64 * (x / 64) + x % 64 = x := Nat.div_add_mod x 64
      have hidx : l * 3 + x / 64 < (stepW W l (nats (Q.take j))).length := by rw [hVl]; omega
      have hv1 := add_any b (l * 3) (stepW W l (nats (Q.take j))) (x / 64) (x % 64) (by omega) (Nat.mod_lt _ (by omega)) wr HJ.out.1 hidx (by rw [← getD_lt _ 0 hidx]; exact hV64 _)
      rw [hxx] at hv1
      have ha1 : (stepW W l (nats (Q.take j))).set (l * 3 + x / 64) ((stepW W l (nats (Q.take j)))[l * 3 + x / 64] ||| 2 ^ (x % 64)) = add1 (stepW W l (nats (Q.take j))) l x := by
        unfold add1; rw [getD_lt _ _ hidx]
      rw [ha1] at hv1
      have HV1 := (show Hid _ from hv1)
      have HJ2 := (show Hid _ from HJ.out.2)
      have HST := (show Hid _ from hst)
      clear hv1 ha1 hidx hst htk HJ hx
      generalize stepW W l (nats (Q.take j)) = V at *
      have hA := add1_len V l x
      have hA64 := add1_lt V hV64 l x
      have HSD : Hid (addS V l x = orW (add1 V l x) (l * 3) (fun i => (add1 V l x).getD (x * 3 + i) 0) 3) := rfl
      generalize add1 V l x = V1 at *
      go_wp2_with fail
      refine Calls.mono HV1.out ?_
      rintro e w3 ⟨rfl, h3, h4⟩
      have hB4 := HJ2.out.trans h4
      have g1 : w3.cell? ⟨g, 0, none⟩ = some (.slice (some ⟨b, 0, none⟩) N N) := (H1.out.2.2.1.bt hB4 n3).cell 0 (by simp)
      have l1 : w3.cell? ⟨w.heap.size, 0, none⟩ = some (.int .i64 l) := (H1.out.1.bt hB4 (by omega)).cell 0 (by simp)
      have e0 := h3.cell (i := x * 3) (by omega)
      have e1 := h3.cell (i := x * 3 + 1) (by omega)
      have e2 := h3.cell (i := x * 3 + 2) (by omega)
      rw [← getD_lt V1 0 (i := x * 3) (by omega)] at e0
      rw [← getD_lt V1 0 (i := x * 3 + 1) (by omega)] at e1
      rw [← getD_lt V1 0 (i := x * 3 + 2) (by omega)] at e2
      have HV2 := (show Hid _ from addAll_any b (l * 3) V1 (fun i => V1.getD (x * 3 + i) 0) w3.drew (World.rowIs.of_block h3 rfl) (by omega) hA64 (fun i => hA64 _))
      have HB4 := (show Hid _ from hB4)
      have hhz := HB4.out.size
      clear h3 h4 hB4 g0 l0 c0' HV1 HJ2 HQ HU HQA H1 hWl hV64 hA64 hw0 hw1 hw2 hVl hA hlen hblt hbq n1 n2 n3 n4 hxx hu1 hwr hmq
      go_wp2_with fail
      go_region_with (go_at_call 94; refine Calls.mono HV2.out ?_; rintro e w4 ⟨⟨BB, rfl⟩, h5, h6⟩; have HN := (show Hid _ from (⟨by rw [HST.out, HSD.out]; exact h5, (HB4.out.drew).trans h6⟩ : WRow w4 b (stepW W l (nats (Q.take (j + 1)))) ∧ Bt b u1 w4)); clear h5 h6)
      all_goals
        clear g1 l1 e0 e1 e2 HV2 HB4
        go_wp2_with fail
        exact ⟨⟨j + 1, by go_num, by omega, HN⟩, by simp [intOf]; omega⟩
    · have htk : Q.take j = Q := List.take_of_length_le (by omega)
      have hJ1 := HJ.out.1
      rw [htk] at hJ1 hVl
      have g0 : wr.cell? ⟨g, 0, none⟩ = some (.slice (some ⟨b, 0, none⟩) N N) := (H1.out.2.2.1.bt HJ.out.2 n3).cell 0 (by simp)
      have l0 : wr.cell? ⟨w.heap.size, 0, none⟩ = some (.int .i64 l) := (H1.out.1.bt HJ.out.2 (by omega)).cell 0 (by simp)
      have b0 : wr.cell? ⟨w.heap.size + 1, 0, none⟩ = some (.int .u64 (w0 : Nat)) := (H1.out.2.1.bt HJ.out.2 (by omega)).cell 0 (by simp)
      have b1 : wr.cell? ⟨w.heap.size + 1, 1, none⟩ = some (.int .u64 (w1 : Nat)) := (H1.out.2.1.bt HJ.out.2 (by omega)).cell 1 (by simp)
      have b2 : wr.cell? ⟨w.heap.size + 1, 2, none⟩ = some (.int .u64 (w2 : Nat)) := (H1.out.2.1.bt HJ.out.2 (by omega)).cell 2 (by simp)
      have e0 := hJ1.cell (i := l * 3) (by omega)
      have e1 := hJ1.cell (i := l * 3 + 1) (by omega)
      have e2 := hJ1.cell (i := l * 3 + 2) (by omega)
      rw [← getD_lt _ 0 (i := l * 3) (by omega)] at e0
      rw [← getD_lt _ 0 (i := l * 3 + 1) (by omega)] at e1
      rw [← getD_lt _ 0 (i := l * 3 + 2) (by omega)] at e2
      have HG : Hid (grew (stepW W l (nats Q)) W l = !((((stepW W l (nats Q)).getD (l * 3) 0 : Nat) : Int) == (w0 : Nat) && ((((stepW W l (nats Q)).getD (l * 3 + 1) 0 : Nat) : Int) == (w1 : Nat) && (((stepW W l (nats Q)).getD (l * 3 + 2) 0 : Nat) : Int) == (w2 : Nat)))) := by
        show grew (stepW W l (nats Q)) W l = _
        unfold grew
        rw [hw0, hw1, hw2]
      have HF := (show Hid _ from (⟨hJ1, H1.out.2.2.2.2.trans HJ.out.2⟩ : _ ∧ _))
      clear hJ1 HJ hV64
      generalize (stepW W l (nats Q)).getD (l * 3) 0 = y0 at e0 HG
      generalize (stepW W l (nats Q)).getD (l * 3 + 1) 0 = y1 at e1 HG
      generalize (stepW W l (nats Q)).getD (l * 3 + 2) 0 = y2 at e2 HG
      have heq := eq3 (y0 : Nat) (y1 : Nat) (y2 : Nat) (w0 : Nat) (w1 : Nat) (w2 : Nat)
      go_wp2_with fail
      go_quiet (fail)
      go_wp2_with fail
      go_ret
      exact ⟨by rw [HG.out, Bool.not_and, Bool.not_and]; rfl, World.rowIs.of_block HF.out.1 rfl, HF.out.2.trans (Bt.of_below (bel_drewN _ _ _))⟩
end Go.Proofs.Ytpbpmhgoppbfnaa
