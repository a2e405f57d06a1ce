import Derived.Test.YtjpjjfgdgieapaaDoorLc
/-! The program: one Prod leads further; what leads where (whole). -/
namespace Go.Proofs.YtjpjjfgdgieapaaDoor.W
open Go.RowKit Go.Deep
set_option linter.unusedVariables false
set_option maxRecDepth 100000
set_option linter.unusedSimpArgs false
open Go.Proofs.YtjpjjfgdgieapaaDoor
set_option maxHeartbeats 12800000 in
theorem leads1_any (w : World) (gs bs g g2 b N : Nat) (v0 v1 vo v3 : Value) (L : List Int) (W : List Nat) (p : Pd) (v : Value)
    (hS : St w gs bs v0 v1 vo v3 L) (hLN : L.length = N) (hN : N ≤ 160) (hG : Box w g 103 [.slice (some ⟨b, 0, none⟩) N N]) (hG2 : Box w g2 105 [.func (.func 65) #[] #[]]) (hW : WRow w b W) (hWN : W.length = N * 3) (hWl : ∀ i, W.getD i 0 < 2 ^ 64)
    (n1 : gs ≠ b) (n2 : bs ≠ b) (n3 : g ≠ b) (n4 : g2 ≠ b) (hr : Ints w (fun c => c ≠ b) p.right v) (hin : ∀ i (hi : i < p.right.length), 0 ≤ p.right[i] ∧ p.right[i] < N) (hl0 : 0 ≤ p.left) (hl1 : p.left < N) (hlen : p.right.length ≤ 1048576) :
    Calls Tryd.prog 86 #[.agg #[.int .i64 p.left, v, .string p.label, .int .i64 p.lev, .int .i64 p.asc], .pointer (some ⟨g, 0, none⟩), .pointer (some ⟨g2, 0, none⟩)] w fun e w' => e = .returned (.bool (grew (stepW W p.left.toNat (nats (whl (Lf L) p.right))) W p.left.toNat)) ∧ WRow w' b (stepW W p.left.toNat (nats (whl (Lf L) p.right))) ∧ Bt b w w' := by
  obtain ⟨l, hl⟩ : ∃ l : Nat, p.left = l := ⟨p.left.toNat, by omega⟩
  rw [hl] at hl0 hl1 ⊢
  rw [Int.toNat_natCast]
  obtain ⟨ai, ci, ei, _⟩ := hr.form
  rw [ei] at hr ⊢
  have hblt := World.rowIs.lt hW
  have hll : l * 3 + 3 ≤ W.length := by omega
  have C0 := hW.cell (i := l * 3) (by omega)
  have C1 := hW.cell (i := l * 3 + 1) (by omega)
  have C2 := hW.cell (i := l * 3 + 2) (by omega)
  rw [← getD_lt W 0 (i := l * 3) (by omega)] at C0
  rw [← getD_lt W 0 (i := l * 3 + 1) (by omega)] at C1
  rw [← getD_lt W 0 (i := l * 3 + 2) (by omega)] at C2
  obtain ⟨P1, hP1⟩ : ∃ o : Obj, o = .cells #[.int .i64 l, .slice ai p.right.length ci, .string p.label, .int .i64 p.lev, .int .i64 p.asc] 82 := ⟨_, rfl⟩
  obtain ⟨P2, hP2⟩ : ∃ o : Obj, o = .cells #[.int .u64 (W.getD (l * 3) 0 : Nat), .int .u64 (W.getD (l * 3 + 1) 0 : Nat), .int .u64 (W.getD (l * 3 + 2) 0 : Nat)] 102 := ⟨_, rfl⟩
  have hb1 := bel_alloc w P1
  have hb2 := bel_trans hb1 (bel_alloc (w.alloc P1) P2)
  have G0 : w.cell? ⟨g, 0, none⟩ = some (.slice (some ⟨b, 0, none⟩) N N) := hG.cell 0 (by simp)
  have G1 : (w.alloc P1).cell? ⟨g, 0, none⟩ = some (.slice (some ⟨b, 0, none⟩) N N) := (hG.still hb1).cell 0 (by simp)
  have G2 : ((w.alloc P1).alloc P2).cell? ⟨g2, 0, none⟩ = some (.func (.func 65) #[] #[]) := (hG2.still hb2).cell 0 (by simp)
  rw [← hb1.cell (lt_of_cell C0)] at C0
  rw [← hb1.cell (lt_of_cell C1)] at C1
  rw [← hb1.cell (lt_of_cell C2)] at C2
  have hbx1 : Box ((w.alloc P1).alloc P2) w.heap.size 82 [.int .i64 l, .slice ai p.right.length ci, .string p.label, .int .i64 p.lev, .int .i64 p.asc] := by
    have := (Box.new w 82 [.int .i64 l, .slice ai p.right.length ci, .string p.label, .int .i64 p.lev, .int .i64 p.asc])
    rw [hP1]
    exact this.still (bel_alloc _ _)
  have hbx2 : Box ((w.alloc P1).alloc P2) (w.heap.size + 1) 102 [.int .u64 (W.getD (l * 3) 0 : Nat), .int .u64 (W.getD (l * 3 + 1) 0 : Nat), .int .u64 (W.getD (l * 3 + 2) 0 : Nat)] := by
    have := (Box.new (w.alloc P1) 102 [.int .u64 (W.getD (l * 3) 0 : Nat), .int .u64 (W.getD (l * 3 + 1) 0 : Nat), .int .u64 (W.getD (l * 3 + 2) 0 : Nat)])
    rw [World.size_alloc] at this
    rw [hP2]
    exact this
  have R1 : ((w.alloc P1).alloc P2).cell? ⟨w.heap.size, 1, none⟩ = some (.slice ai p.right.length ci) := hbx1.cell 1 (by simp)
  have HV := (show Hid _ from whole_any b ((w.alloc P1).alloc P2) (by simp; omega) gs bs v0 v1 vo v3 L p.right _ (hS.still hb2) (hr.still hb2) (by rw [hLN]; exact hin) hlen (by omega))
  have H0 := (show Hid _ from (⟨hbx1, hbx2, hG.still hb2, hW.still hb2, Bt.of_below (g := b) hb2⟩ : _ ∧ _ ∧ _ ∧ _ ∧ _))
  have hQ : ∀ i (hi : i < (whl (Lf L) p.right).length), 0 ≤ (whl (Lf L) p.right)[i] ∧ (whl (Lf L) p.right)[i] < (N : Int) := fun i hi => by
    have hm := (whl_sub (Lf L) p.right).2 _ (List.getElem_mem hi)
    obtain ⟨k, hk, he⟩ := List.mem_iff_getElem.1 hm
    rw [← he]
    exact hin k hk
  have hQl : (whl (Lf L) p.right).length ≤ 1048576 := Nat.le_trans (whl_sub (Lf L) p.right).1 hlen
  have HQ := (show Hid _ from hQ)
  clear hQ hbx1 hbx2 hb1 hb2 hS hG hG2 hW hr hin
  generalize whl (Lf L) p.right = Q at *
  generalize hw0 : W.getD (l * 3) 0 = w0 at *
  generalize hw1 : W.getD (l * 3 + 1) 0 = w1 at *
  generalize hw2 : W.getD (l * 3 + 2) 0 = w2 at *
  subst hP1 hP2
  go_enter Tryd.func86, Tryd.ntmps86
  go_wp2_with fail
  go_at_call 65
  refine Calls.mono HV.out ?_
  rintro e u1 ⟨vq, rfl, hbq, hIq⟩
  obtain ⟨aq, cq, eq1, _⟩ := hIq.form
  have hIq2 := hIq
  rw [eq1] at hIq2
  obtain ⟨a', c', bq, oq, e2, hcq, hmq, haq, hcellq⟩ := hIq2
  injection e2 with e3 e4 e5
  subst e3 e5
  subst eq1
  have HQC := (show Hid _ from hcellq); clear hcellq
  have HQA := (show Hid _ from haq); clear haq
  unfold maxLen at hmq
  have H1 := (show Hid _ from (⟨Box.still H0.out.1 hbq, Box.still H0.out.2.1 hbq, Box.still H0.out.2.2.1 hbq, WRow.still H0.out.2.2.2.1 hbq, H0.out.2.2.2.2.trans (Bt.of_below hbq)⟩ : _ ∧ _ ∧ _ ∧ _ ∧ _))
  have hu1 : w.heap.size + 2 ≤ u1.heap.size := by have := hbq.size; simp at this; omega
  have HU := (show Hid (∀ i (hi : i < Q.length), u1.cell? ⟨bq, oq + i, none⟩ = some (.int .i64 Q[i])) from HQC.out)
  clear hbq hIq H0 HV G0 G1 G2 R1 C0 C1 C2 HQC
  go_wp2_with fail
  go_loopw [18] (fun i wr => ∃ j : Nat, i = .int .i64 j ∧ j ≤ Q.length ∧ Hid (WRow wr b (stepW W l (nats (Q.take j))) ∧ Bt b u1 wr)) (fun i _ => Q.length - (intOf i).toNat)
  case atStart => exact ⟨0, rfl, Nat.zero_le _, H1.out.2.2.2.1, Bt.refl _ _⟩
  case round =>
    obtain ⟨j, rfl, hj, HJ⟩ := hrel
    have hVl : (stepW W l (nats (Q.take j))).length = N * 3 := by rw [stepW_len]; exact hWN
    have hV64 := stepW_lt l (nats (Q.take j)) W hWl
    have hwr : w.heap.size + 2 ≤ wr.heap.size := Nat.le_trans hu1 HJ.out.2.size
    by_cases hlt : j < Q.length
    · have hlt' := hlt
      obtain ⟨rfl, hbq⟩ := HQA.out (by omega)
      have c0 := HU.out j hlt'
      have c0' := (World.cell?_of_block (w := u1) (w' := wr) (a := ⟨bq, oq + j, none⟩) (HJ.out.2.block bq (lt_of_cell c0) hbq)).trans c0
      clear c0
      obtain ⟨i1, i2⟩ := HQ.out j hlt'
      have htk : Q.take (j + 1) = Q.take j ++ [Q[j]] := (List.take_append_getElem hlt').symm
      obtain ⟨x, hx⟩ : ∃ x : Nat, Q[j] = x := ⟨Q[j].toNat, by omega⟩
      rw [hx] at i1 i2 c0' htk
      have hxN : x < N := by omega
      have hst : stepW W l (nats (Q.take (j + 1))) = addS (stepW W l (nats (Q.take j))) l x := by
        rw [htk]
        simp [nats, stepW, List.foldl_append]
      have g0 : wr.cell? ⟨g, 0, none⟩ = some (.slice (some ⟨b, 0, none⟩) N N) := (H1.out.2.2.1.bt HJ.out.2 n3).cell 0 (by simp)
      have l0 : wr.cell? ⟨w.heap.size, 0, none⟩ = some (.int .i64 l) := (H1.out.1.bt HJ.out.2 (by omega)).cell 0 (by simp)
      have hxx : 64 * (x / 64) + x % 64 = x := Nat.div_add_mod x 64
      have hidx : l * 3 + x / 64 < (stepW W l (nats (Q.take j))).length := by rw [hVl]; omega
      have hv1 := add_any b (l * 3) (stepW W l (nats (Q.take j))) (x / 64) (x % 64) (by omega) (Nat.mod_lt _ (by omega)) wr HJ.out.1 hidx (by rw [← getD_lt _ 0 hidx]; exact hV64 _)
      rw [hxx] at hv1
      have ha1 : (stepW W l (nats (Q.take j))).set (l * 3 + x / 64) ((stepW W l (nats (Q.take j)))[l * 3 + x / 64] ||| 2 ^ (x % 64)) = add1 (stepW W l (nats (Q.take j))) l x := by
        unfold add1; rw [getD_lt _ _ hidx]
      rw [ha1] at hv1
      have HV1 := (show Hid _ from hv1)
      have HJ2 := (show Hid _ from HJ.out.2)
      have HST := (show Hid _ from hst)
      clear hv1 ha1 hidx hst htk HJ hx
      generalize stepW W l (nats (Q.take j)) = V at *
      have hA := add1_len V l x
      have hA64 := add1_lt V hV64 l x
      have HSD : Hid (addS V l x = orW (add1 V l x) (l * 3) (fun i => (add1 V l x).getD (x * 3 + i) 0) 3) := rfl
      generalize add1 V l x = V1 at *
      go_wp2_with fail
      refine Calls.mono HV1.out ?_
      rintro e w3 ⟨rfl, h3, h4⟩
      have hB4 := HJ2.out.trans h4
      have g1 : w3.cell? ⟨g, 0, none⟩ = some (.slice (some ⟨b, 0, none⟩) N N) := (H1.out.2.2.1.bt hB4 n3).cell 0 (by simp)
      have l1 : w3.cell? ⟨w.heap.size, 0, none⟩ = some (.int .i64 l) := (H1.out.1.bt hB4 (by omega)).cell 0 (by simp)
      have e0 := h3.cell (i := x * 3) (by omega)
      have e1 := h3.cell (i := x * 3 + 1) (by omega)
      have e2 := h3.cell (i := x * 3 + 2) (by omega)
      rw [← getD_lt V1 0 (i := x * 3) (by omega)] at e0
      rw [← getD_lt V1 0 (i := x * 3 + 1) (by omega)] at e1
      rw [← getD_lt V1 0 (i := x * 3 + 2) (by omega)] at e2
      have HV2 := (show Hid _ from addAll_any b (l * 3) V1 (fun i => V1.getD (x * 3 + i) 0) w3.drew (World.rowIs.of_block h3 rfl) (by omega) hA64 (fun i => hA64 _))
      have HB4 := (show Hid _ from hB4)
      have hhz := HB4.out.size
      clear h3 h4 hB4 g0 l0 c0' HV1 HJ2 HQ HU HQA H1 hWl hV64 hA64 hw0 hw1 hw2 hVl hA hlen hblt hbq n1 n2 n3 n4 hxx hu1 hwr hmq
      go_wp2_with fail
      go_region_with (go_at_call 87; refine Calls.mono HV2.out ?_; rintro e w4 ⟨⟨BB, rfl⟩, h5, h6⟩; have HN := (show Hid _ from (⟨by rw [HST.out, HSD.out]; exact h5, (HB4.out.drew).trans h6⟩ : WRow w4 b (stepW W l (nats (Q.take (j + 1)))) ∧ Bt b u1 w4)); clear h5 h6)
      all_goals
        clear g1 l1 e0 e1 e2 HV2 HB4
        go_wp2_with fail
        exact ⟨⟨j + 1, by go_num, by omega, HN⟩, by simp [intOf]; omega⟩
    · have htk : Q.take j = Q := List.take_of_length_le (by omega)
      have hJ1 := HJ.out.1
      rw [htk] at hJ1 hVl
      have g0 : wr.cell? ⟨g, 0, none⟩ = some (.slice (some ⟨b, 0, none⟩) N N) := (H1.out.2.2.1.bt HJ.out.2 n3).cell 0 (by simp)
      have l0 : wr.cell? ⟨w.heap.size, 0, none⟩ = some (.int .i64 l) := (H1.out.1.bt HJ.out.2 (by omega)).cell 0 (by simp)
      have b0 : wr.cell? ⟨w.heap.size + 1, 0, none⟩ = some (.int .u64 (w0 : Nat)) := (H1.out.2.1.bt HJ.out.2 (by omega)).cell 0 (by simp)
      have b1 : wr.cell? ⟨w.heap.size + 1, 1, none⟩ = some (.int .u64 (w1 : Nat)) := (H1.out.2.1.bt HJ.out.2 (by omega)).cell 1 (by simp)
      have b2 : wr.cell? ⟨w.heap.size + 1, 2, none⟩ = some (.int .u64 (w2 : Nat)) := (H1.out.2.1.bt HJ.out.2 (by omega)).cell 2 (by simp)
      have e0 := hJ1.cell (i := l * 3) (by omega)
      have e1 := hJ1.cell (i := l * 3 + 1) (by omega)
      have e2 := hJ1.cell (i := l * 3 + 2) (by omega)
      rw [← getD_lt _ 0 (i := l * 3) (by omega)] at e0
      rw [← getD_lt _ 0 (i := l * 3 + 1) (by omega)] at e1
      rw [← getD_lt _ 0 (i := l * 3 + 2) (by omega)] at e2
      have HG : Hid (grew (stepW W l (nats Q)) W l = !((((stepW W l (nats Q)).getD (l * 3) 0 : Nat) : Int) == (w0 : Nat) && ((((stepW W l (nats Q)).getD (l * 3 + 1) 0 : Nat) : Int) == (w1 : Nat) && (((stepW W l (nats Q)).getD (l * 3 + 2) 0 : Nat) : Int) == (w2 : Nat)))) := by
        show grew (stepW W l (nats Q)) W l = _
        unfold grew
        rw [hw0, hw1, hw2]
      have HF := (show Hid _ from (⟨hJ1, H1.out.2.2.2.2.trans HJ.out.2⟩ : _ ∧ _))
      clear hJ1 HJ hV64
      generalize (stepW W l (nats Q)).getD (l * 3) 0 = y0 at e0 HG
      generalize (stepW W l (nats Q)).getD (l * 3 + 1) 0 = y1 at e1 HG
      generalize (stepW W l (nats Q)).getD (l * 3 + 2) 0 = y2 at e2 HG
      have heq := eq3 (y0 : Nat) (y1 : Nat) (y2 : Nat) (w0 : Nat) (w1 : Nat) (w2 : Nat)
      go_wp2_with fail
      go_quiet (fail)
      go_wp2_with fail
      go_ret
      exact ⟨by rw [HG.out, Bool.not_and, Bool.not_and]; rfl, World.rowIs.of_block HF.out.1 rfl, HF.out.2.trans (Bt.of_below (bel_drewN _ _ _))⟩
/-- One step: to a symbol that is picked. -/
def Ed (d : Bn) (L : Nat → Int) (a b : Nat) : Prop := ∃ k, ∃ hk : k < d.prods.length, d.prods[k].left.toNat = a ∧ b ∈ nats (whl L d.prods[k].right)
/-- The state of the search for what leads where. -/
structure InvW (W0 : World) (d : Bn) (N gs bs g g2 b : Nat) (v0 v1 vo v3 : Value) (L : List Int) (W : List Nat) (w : World) : Prop where
  bel : Below W0.heap.size W0 w
  st : St w gs bs v0 v1 vo v3 L
  box : Box w g 103 [.slice (some ⟨b, 0, none⟩) N N]
  pick : Box w g2 105 [.func (.func 65) #[] #[]]
  row : WRow w b W
  len : W.length = N * 3
  lt : ∀ i, W.getD i 0 < 2 ^ 64
  snd : ∀ a y, y < 192 → mem W a y = true → Tc (Ed d (Lf L)) a y
def stpW (d : Bn) (L : List Int) (W : List Nat) (k : Nat) : List Nat := stepW W (d.prods.getD k dflP).left.toNat (nats (whl (Lf L) (d.prods.getD k dflP).right))
def newW (d : Bn) (L : List Int) (W : List Nat) (k : Nat) : Bool := grew (stpW d L W k) W (d.prods.getD k dflP).left.toNat
/-- Where nothing is new the state is as it was. -/
def nxtW (d : Bn) (L : List Int) (W : List Nat) (k : Nat) : List Nat := if newW d L W k then stpW d L W k else W
theorem whl_nats {L : Nat → Int} {r : List Int} {N : Nat} (hin : ∀ i (hi : i < r.length), 0 ≤ r[i] ∧ r[i] < (N : Int)) : ∀ x ∈ nats (whl L r), x < N := by
  intro x hx
  obtain ⟨y, hy, rfl⟩ := List.mem_map.1 hx
  obtain ⟨k, hk, he⟩ := List.mem_iff_getElem.1 ((whl_sub L r).2 y hy)
  have := hin k hk
  rw [he] at this
  omega
set_option maxHeartbeats 6400000 in
theorem leads_any {S : Nat → Prop} (d : Bn) (hok : Bok d) (W0 : World) (N gs bs : Nat) (v0 v1 vo v3 : Value) (hP : Pds W0 S d.prods v3) (L : List Int) (w : World) (hb : Below W0.heap.size W0 w) (hS : St w gs bs v0 v1 vo v3 L) (hL : L.length = N) (hN : N = d.terms.length + d.nons.length) :
    Calls Tryd.prog 64 #[.pointer (some ⟨gs, 0, none⟩), .func (.func 65) #[] #[]] w fun e w' => ∃ b W, e = .returned (.slice (some ⟨b, 0, none⟩) N N) ∧ Below w.heap.size w w' ∧ WRow w' b W ∧ W.length = N * 3 ∧ (∀ i, W.getD i 0 < 2 ^ 64) ∧ (∀ a y, y < 192 → mem W a y = true → Tc (Ed d (Lf L)) a y) ∧ ∀ k, k < d.prods.length → newW d L W k = false := by
  have hmk := fun w => run_makeSets N (by rw [hN]; have := hok.nt; have := hok.nn.2; omega) w
  have hN160 : N ≤ 160 := by rw [hN]; have := hok.nt; have := hok.nn.2; omega
  obtain ⟨a3, c3, e3, _⟩ := hP.form
  have hP' := hP
  rw [e3] at hP' hS
  clear hP
  have hlt1 := hS.box.lt
  have hlt2 := World.rowIs.lt hS.row
  have T4 : (w.alloc (.cells #[.func (.func 65) #[] #[]] 105)).cell? ⟨gs, 4, none⟩ = some (.slice (some ⟨bs, 0, none⟩) L.length L.length) := (hS.still (bel_alloc _ _)).box.cell 4 (by simp)
  rw [hL] at T4
  have hbA : Below w.heap.size w (((w.alloc (.cells #[.func (.func 65) #[] #[]] 105)).alloc (.cells (madeCells #[.int .u64 0, .int .u64 0, .int .u64 0] (N * 3)) 102)).alloc (.cells #[.slice (some ⟨w.heap.size + 1, 0, none⟩) N N] 103)) := ((bel_alloc w (.cells #[.func (.func 65) #[] #[]] 105)).alloc (by simp) (.cells (madeCells #[.int .u64 0, .int .u64 0, .int .u64 0] (N * 3)) 102)).alloc (by simp; omega) (.cells #[.slice (some ⟨w.heap.size + 1, 0, none⟩) N N] 103)
  have T3 : (((w.alloc (.cells #[.func (.func 65) #[] #[]] 105)).alloc (.cells (madeCells #[.int .u64 0, .int .u64 0, .int .u64 0] (N * 3)) 102)).alloc (.cells #[.slice (some ⟨w.heap.size + 1, 0, none⟩) N N] 103)).cell? ⟨gs, 3, none⟩ = some (.slice a3 d.prods.length c3) := (hS.still hbA).box.cell 3 (by simp)
  have hx1 : Box (((w.alloc (.cells #[.func (.func 65) #[] #[]] 105)).alloc (.cells (madeCells #[.int .u64 0, .int .u64 0, .int .u64 0] (N * 3)) 102)).alloc (.cells #[.slice (some ⟨w.heap.size + 1, 0, none⟩) N N] 103)) w.heap.size 105 [.func (.func 65) #[] #[]] := (Box.new w 105 [.func (.func 65) #[] #[]]).still ((bel_alloc (w.alloc (.cells #[.func (.func 65) #[] #[]] 105)) (.cells (madeCells #[.int .u64 0, .int .u64 0, .int .u64 0] (N * 3)) 102)).alloc (by simp) (.cells #[.slice (some ⟨w.heap.size + 1, 0, none⟩) N N] 103))
  have hx2 : WRow (((w.alloc (.cells #[.func (.func 65) #[] #[]] 105)).alloc (.cells (madeCells #[.int .u64 0, .int .u64 0, .int .u64 0] (N * 3)) 102)).alloc (.cells #[.slice (some ⟨w.heap.size + 1, 0, none⟩) N N] 103)) (w.heap.size + 1) (List.replicate (N * 3) 0) := by
    have := zero_row (w.alloc (.cells #[.func (.func 65) #[] #[]] 105)) (N * 3)
    rw [World.size_alloc] at this
    exact this.still (bel_alloc _ _)
  have hx3 : Box (((w.alloc (.cells #[.func (.func 65) #[] #[]] 105)).alloc (.cells (madeCells #[.int .u64 0, .int .u64 0, .int .u64 0] (N * 3)) 102)).alloc (.cells #[.slice (some ⟨w.heap.size + 1, 0, none⟩) N N] 103)) (w.heap.size + 1 + 1) 103 [.slice (some ⟨w.heap.size + 1, 0, none⟩) N N] := by
    have := Box.new ((w.alloc (.cells #[.func (.func 65) #[] #[]] 105)).alloc (.cells (madeCells #[.int .u64 0, .int .u64 0, .int .u64 0] (N * 3)) 102)) 103 [.slice (some ⟨w.heap.size + 1, 0, none⟩) N N]
    rw [World.size_alloc, World.size_alloc] at this
    exact this
  have h0 : InvW W0 d N gs bs (w.heap.size + 1 + 1) w.heap.size (w.heap.size + 1) v0 v1 vo (.slice a3 d.prods.length c3) L (List.replicate (N * 3) 0) (((w.alloc (.cells #[.func (.func 65) #[] #[]] 105)).alloc (.cells (madeCells #[.int .u64 0, .int .u64 0, .int .u64 0] (N * 3)) 102)).alloc (.cells #[.slice (some ⟨w.heap.size + 1, 0, none⟩) N N] 103)) :=
    ⟨hb.trans (hbA.mono hb.size), hS.still hbA, hx3, hx1, hx2, by simp, fun i => by
      by_cases h : i < N * 3
      · simp [List.getD_eq_getElem?_getD, h]
      · simp [List.getD_eq_getElem?_getD, Nat.le_of_not_lt h], fun a y hy hm => by rw [mem_zero] at hm; cases hm⟩
  have hsz0 := hb.size
  have hlr : ∀ k, ∀ hk : k < d.prods.length, d.prods[k].left.toNat < N ∧ (∀ x ∈ nats (whl (Lf L) d.prods[k].right), x < N) := fun k hk => by
    have h1 := hok.left k hk
    refine ⟨by rw [hN]; omega, whl_nats (fun i hi => by rw [hN]; exact hok.right k hk i hi)⟩
  have hset := settle107 (w.heap.size + 1 + 1) w.heap.size d.prods _ W0 hP' (fun W w' => InvW W0 d N gs bs (w.heap.size + 1 + 1) w.heap.size (w.heap.size + 1) v0 v1 vo (.slice a3 d.prods.length c3) L W w' ∧ Below w.heap.size w w') room (newW d L) (nxtW d L)
    (fun a w' h => h.1.bel)
    (fun a b w' ha hb => by rw [WRow.uniq ha.1.row hb.1.row (by rw [ha.1.len, hb.1.len])])
    (fun a w' o h => ⟨⟨h.1.bel.trans ((bel_alloc w' o).mono h.1.bel.size), h.1.st.still (bel_alloc w' o), h.1.box.still (bel_alloc w' o), h.1.pick.still (bel_alloc w' o), h.1.row.still (bel_alloc w' o), h.1.len, h.1.lt, h.1.snd⟩, h.2.trans ((bel_alloc w' o).mono h.2.size)⟩)
    (fun a k w' hk h hn => by
      unfold nxtW
      rw [if_pos hn]
      obtain ⟨q1, q2⟩ := hlr k hk
      have hll : (d.prods.getD k dflP).left.toNat * 3 + 3 ≤ a.length := by rw [getD_lt _ _ hk, h.1.len]; omega
      exact room_lt _ _ (stepW_len _ _ _) (stepW_ge _ _ _ hll) (stepW_lt _ _ _ h.1.lt) (grew_yes hn))
    (fun a k hn => by unfold nxtW; rw [hn]; rfl)
    (fun k hk a w' vr h hr => by
      obtain ⟨q1, q2⟩ := hlr k hk
      have hl := hok.left k hk
      have hll : d.prods[k].left.toNat * 3 + 3 ≤ a.length := by rw [h.1.len]; omega
      have hin : ∀ i (hi : i < d.prods[k].right.length), 0 ≤ d.prods[k].right[i] ∧ d.prods[k].right[i] < (N : Int) := fun i hi => by rw [hN]; exact hok.right k hk i hi
      have hri := (hr.blk.still h.1.bel).mono (S' := fun c => c ≠ w.heap.size + 1) (fun c hc => by omega)
      refine Calls.mono (leads1_any w' gs bs (w.heap.size + 1 + 1) w.heap.size (w.heap.size + 1) N v0 v1 vo _ L a d.prods[k] vr h.1.st hL hN160 h.1.box h.1.pick h.1.row h.1.len h.1.lt (by omega) (by omega) (by omega) (by omega) hri hin (by omega) (by rw [hN]; omega) (by have := hok.len k hk; omega)) ?_
      rintro e w2 ⟨rfl, h1, h2⟩
      have hst : stpW d L a k = stepW a d.prods[k].left.toNat (nats (whl (Lf L) d.prods[k].right)) := by unfold stpW; rw [getD_lt _ _ hk]
      have hnw : newW d L a k = grew (stepW a d.prods[k].left.toNat (nats (whl (Lf L) d.prods[k].right))) a d.prods[k].left.toNat := by unfold newW; rw [hst, getD_lt _ _ hk]
      have hsame : nxtW d L a k = stepW a d.prods[k].left.toNat (nats (whl (Lf L) d.prods[k].right)) := by
        unfold nxtW
        by_cases hn : newW d L a k = true
        · rw [if_pos hn, hst]
        · rw [if_neg hn]
          have hn' : newW d L a k = false := by simpa using hn
          rw [hnw] at hn'
          exact (grew_no (stepW_len _ _ _) (fun i hi => stepW_other _ _ (fun x hx => by have := q2 x hx; omega) _ hll i hi) hn').symm
      rw [hsame]
      have hb2 : Below w.heap.size w' w2 := h2.below (by omega) h.2.size
      refine ⟨by rw [hnw], ⟨h.1.bel.trans (hb2.mono hsz0), h.1.st.bt h2 (by omega) (by omega), h.1.box.bt h2 (by omega), h.1.pick.bt h2 (by omega), h1, by rw [stepW_len]; exact h.1.len, stepW_lt _ _ _ h.1.lt, ?_⟩, h.2.trans hb2⟩
      exact stepW_sound (Ed d (Lf L)) _ _ (fun x hx => ⟨by have := q2 x hx; omega, k, hk, rfl, hx⟩) _ hll h.1.snd)
    (List.replicate (N * 3) 0) (((w.alloc (.cells #[.func (.func 65) #[] #[]] 105)).alloc (.cells (madeCells #[.int .u64 0, .int .u64 0, .int .u64 0] (N * 3)) 102)).alloc (.cells #[.slice (some ⟨w.heap.size + 1, 0, none⟩) N N] 103)) ⟨h0, hbA⟩
  have HSE := (show Hid _ from hset)
  clear hset h0 hx1 hx2 hx3 hbA hS hP' hb hlr hN hL
  go_enter Tryd.func64, Tryd.ntmps64
  go_wp2_with fail
  refine Calls.mono HSE.out ?_
  rintro e w1 ⟨rfl, W, hI, hq⟩
  have G0 : w1.cell? ⟨w.heap.size + 1 + 1, 0, none⟩ = some (.slice (some ⟨w.heap.size + 1, 0, none⟩) N N) := hI.1.box.cell 0 (by simp)
  have HF := (show Hid _ from (⟨hI, hq⟩ : _ ∧ _)); clear hI hq HSE T3 T4
  go_wp2_with fail
  go_ret
  exact ⟨_, W, rfl, HF.out.1.2, HF.out.1.1.row, HF.out.1.1.len, HF.out.1.1.lt, HF.out.1.1.snd, HF.out.2⟩
end Go.Proofs.YtjpjjfgdgieapaaDoor.W
