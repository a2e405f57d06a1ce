import Derived.Test.YtpbpmhgoppbfnaaHb
import Derived.Laws.Concat
import Derived.Laws.Cover1
/-! The program: what a Prod adds to the shortest words. -/
namespace Go.Proofs.Ytpbpmhgoppbfnaa
open Go.RowKit Go.Deep
set_option linter.unusedVariables false
set_option maxRecDepth 100000
set_option linter.unusedSimpArgs false

theorem cat_take {W : Nat → List Nat} {r : List Nat} {j x : Nat} (hj : j < r.length) (hx : r[j] = x) : cat W (r.take (j + 1)) = cat W (r.take j) ++ W x := by
  induction r generalizing j with
  | nil => exact absurd hj (Nat.not_lt_zero _)
  | cons y r ih =>
    cases j with
    | zero =>
      simp only [List.getElem_cons_zero] at hx
      subst hx
      simp [cat]
    | succ j =>
      simp only [List.getElem_cons_succ] at hx
      rw [List.take_succ_cons, cat, ih (by simpa using hj) hx, List.take_succ_cons, cat, List.append_assoc]
theorem cat_size {W : Nat → List Nat} (h : ∀ x, (W x).length ≤ 1000) : ∀ r : List Nat, (cat W r).length ≤ 1000 * r.length := by
  intro r
  induction r with
  | nil => simp [cat]
  | cons x r ih => rw [cat, List.length_append, List.length_cons]; have := h x; omega
theorem Box.keepBt {w w' : World} {g T b : Nat} {cs : List Value} (h : Box w g T cs) (hb : Bt b w w') (hne : g ≠ b) : Box w' g T cs := h.keep (hb.block g h.lt hne)

set_option maxHeartbeats 6400000 in
theorem spell_any {S : Nat → Prop} (w : World) (gP gW g bs b : Nat) (v0 v1 vo v3 : Value) (L : List Int) (l : List (List Nat)) (p : Pd) (v : Value)
    (hbP : Box w gP 65 [.pointer (some ⟨g, 0, none⟩)]) (hbW : Box w gW 23 [.slice (some ⟨b, 0, none⟩) l.length l.length]) (h : St w g bs v0 v1 vo v3 L) (hrow : SRow w b l) (hlL : l.length = L.length)
    (hr : Ints w S p.right v) (hin : ∀ i (hi : i < p.right.length), 0 ≤ p.right[i] ∧ p.right[i] < L.length) (hl0 : 0 ≤ p.left) (hl1 : p.left < L.length) (hlo : ∀ x, -1 ≤ Lf L x) (hto : ∀ x, Lf L x ≤ 1000) (hlen : p.right.length ≤ 12) (hLl : L.length ≤ 160) (hlim : ∀ x, (wsF l x).length ≤ 1000) (hsm : ∀ x, sml (wsF l x)) :
    Calls Try.prog 68 #[.agg #[.int .i64 p.left, v, .string p.label, .int .i64 p.lev, .int .i64 p.asc], .pointer (some ⟨gP, 0, none⟩), .pointer (some ⟨gW, 0, none⟩)] w fun e w' => e = .returned (.bool (newS (Lf L) l (pN p))) ∧ SRow w' b (nxtS (Lf L) l (pN p)) ∧ Bt b w w' := by
  obtain ⟨x, hx⟩ : ∃ x : Nat, p.left = x := ⟨p.left.toNat, by omega⟩
  have hpN : pN p = (x, nats p.right) := by unfold pN; rw [hx]; rfl
  have hxl : x < L.length := by omega
  obtain ⟨ai, ci, ei, _⟩ := hr.form
  have hri := hr
  rw [ei] at hri
  subst ei
  obtain ⟨ai', ci', bi, oi, e', hci, hmi, hai, hcelli⟩ := hri
  injection e' with e1 e2 e3
  subst e1 e3
  have HC := (show Hid _ from hcelli); clear hcelli
  have HA := (show Hid _ from hai); clear hai
  have HI := (show Hid _ from hin)
  have HLIM := (show Hid _ from hlim)
  have HSM := (show Hid _ from hsm)
  have HSS := (show Hid _ from h)
  have HRW := (show Hid _ from hrow)
  have HV := (show Hid _ from fun (w' : World) (hb : Below w.heap.size w w') => leastOf_any w' g bs v0 v1 vo v3 L p.right _ (h.still hb) (hr.still hb) hin hlo hto (by omega) (by omega))
  have hb0 := bel_alloc w (.cells #[.int .i64 x, .slice ai p.right.length ci, .string p.label, .int .i64 p.lev, .int .i64 p.asc] 57)
  have HB0 := (show Hid _ from hb0)
  have HPR := (show Hid _ from Box.new w 57 [.int .i64 x, .slice ai p.right.length ci, .string p.label, .int .i64 p.lev, .int .i64 p.asc])
  have HBP := (show Hid _ from hbP.still hb0)
  have HBW := (show Hid _ from hbW.still hb0)
  have hst := h.still hb0
  have d0 := hst.cell x hxl
  have T4 := hst.box.cell 4 (by simp)
  have P0 := HBP.out.cell 0 (by simp)
  have Q0 := HBW.out.cell 0 (by simp)
  have p0 := HPR.out.cell 0 (by simp)
  have p1 := HPR.out.cell 1 (by simp)
  simp only [List.getD_cons_zero, List.getD_cons_succ] at T4 P0 Q0 p0 p1
  have hlx := hlo x
  have hf := Lf_lt hxl
  rw [hf] at hlx
  rw [hpN, hx]
  have HN1 := (show Hid _ from newS_1 (L := Lf L) (l := l) (p := (x, nats p.right)))
  have HN2 := (show Hid _ from newS_2 (L := Lf L) (l := l) (p := (x, nats p.right)))
  have HN3 := (show Hid _ from newS_3 (L := Lf L) (l := l) (p := (x, nats p.right)))
  have HN4 := (show Hid _ from newS_4 (L := Lf L) (l := l) (p := (x, nats p.right)))
  dsimp only at HN1 HN2 HN3 HN4
  have hrl : (nats p.right).length = p.right.length := by simp [nats]
  have hcs := cat_size (W := wsF l) hlim (nats p.right)
  rw [hrl] at hcs
  have hsx := hlim x
  have HSX := (show Hid _ from hsx)
  clear hpN hr hin hlo hto hbP hbW h hrow hlim hsm hst hx hl0 hl1
  generalize hNW : newS (Lf L) l (x, nats p.right) = NW at *
  generalize hNX : nxtS (Lf L) l (x, nats p.right) = NX at *
  have HNX : Hid (NX = if NW then l.set x (cat (wsF l) (nats p.right)) else l) := by
    show NX = _
    rw [← hNX, ← hNW]; rfl
  clear hNW hNX
  generalize hRR : lof (Lf L) (nats p.right) = R at *
  have HRR := (show Hid _ from hRR); clear hRR
  rw [hf] at HN1 HN2 HN3 HN4
  generalize hLX : L[x] = Lx at *
  clear hf hLX
  go_enter Try.func68, Try.ntmps68
  go_wp2_with fail
  generalize w.alloc (.cells #[.int .i64 x, .slice ai p.right.length ci, .string p.label, .int .i64 p.lev, .int .i64 p.asc] 57) = w1 at *
  go_quiet (fail)
  go_wp2_with fail
  refine Calls.mono (HV.out _ (bel_trans HB0.out (bel_drewN _ _ _))) ?_
  rintro e w2 ⟨rfl, rfl⟩
  by_cases e1 : R = Lx
  case neg =>
    have hnw := HN1.out e1
    subst hnw
    have k1 : (R != Lx) = true := by simp [e1]
    have HF : Hid (SRow (w1.drewN nq) b NX ∧ Bt b w (w1.drewN nq)) := by
      have hb := bel_trans HB0.out (bel_drewN _ _ nq)
      refine ⟨?_, Bt.of_below hb⟩
      rw [HNX.out]
      exact SRow.still HRW.out hb
    clear d0 T4 P0 Q0 p0 p1
    go_wp2_with fail
    go_ret
    exact ⟨rfl, HF.out⟩
  have k1 : (R != Lx) = false := by simp [e1]
  have HB1 := (show Hid (Below w1.heap.size w1 (w1.drewN nq)) from bel_drewN _ _ _)
  have HR12 := (show Hid (p.right.length ≤ 12) from hlen)
  have HCS := (show Hid _ from hcs)
  clear d0 T4 P0 Q0 p0 hcs
  go_wp2_with fail
  go_loopw [6, 26] (fun u i wr => ∃ j : Nat, i = .int .i64 j ∧ j ≤ p.right.length ∧ u = .string (bw (cat (wsF l) ((nats p.right).take j))) ∧ Hid (Below w1.heap.size w1 wr)) (fun _ i _ => p.right.length - (intOf i).toNat)
  case atStart => exact ⟨0, rfl, Nat.zero_le _, by rw [List.take_zero]; rfl, HB1.out⟩
  case round =>
    obtain ⟨j, rfl, hj, rfl, HJ⟩ := hrel
    have hbw := bel_trans HB0.out HJ.out
    by_cases hlt : j < p.right.length
    · have hlt' := hlt
      obtain ⟨rfl, _⟩ := HA.out (by omega)
      have c0 := HC.out j hlt'
      rw [← hbw.cell (lt_of_cell c0)] at c0
      obtain ⟨i1, i2⟩ := HI.out j hlt'
      obtain ⟨y, hy⟩ : ∃ y : Nat, p.right[j] = y := ⟨p.right[j].toNat, by omega⟩
      rw [hy] at i1 i2 c0
      have hyl : y < l.length := by omega
      have hjn : j < (nats p.right).length := by rw [hrl]; exact hlt
      have hyn : (nats p.right)[j] = y := by simp [nats, hy]
      have hcat := cat_take (W := wsF l) hjn hyn
      have s0 := (SRow.still HRW.out hbw).cell hyl
      have Q0 := (Box.still HBW.out HJ.out).cell 0 (by simp)
      simp only [List.getD_cons_zero] at Q0
      have hsz : (bw (cat (wsF l) ((nats p.right).take j))).size + (bw (wsF l y)).size ≤ 9223372036854775807 := by
        rw [bw_size, bw_size]
        have h1 := cat_size (W := wsF l) HLIM.out ((nats p.right).take j)
        rw [List.length_take] at h1
        have h2 := HLIM.out y
        omega
      have hadd := fun w => run_string_add_sum (P := Try.prog) (w := w) (bw (cat (wsF l) ((nats p.right).take j))) (bw (wsF l y)) hsz
      rw [bw_append, ← hcat] at hadd
      clear hsz hcat hyn hjn
      obtain ⟨Z, hZ⟩ : ∃ Z, bw (cat (wsF l) ((nats p.right).take (j + 1))) = Z := ⟨_, rfl⟩
      rw [hZ] at hadd
      have HZ := (show Hid _ from hZ); clear hZ
      clear hbw
      go_wp2_with fail
      exact ⟨⟨j + 1, by go_num, by omega, by rw [HZ.out], HJ⟩, by simp [intOf]; omega⟩
    · have hje : j = p.right.length := by omega
      subst hje
      rw [← hrl, List.take_length]
      have hxl2 : x < l.length := by omega
      have s0 := (SRow.still HRW.out hbw).cell hxl2
      have f0 : wr.frozen? ⟨b, x, none⟩ = false := World.rowIs.frozen (SRow.still HRW.out hbw) x
      have Q0 := (Box.still HBW.out HJ.out).cell 0 (by simp)
      have p0 := (Box.still HPR.out HJ.out).cell 0 (by simp)
      simp only [List.getD_cons_zero] at Q0 p0
      have HBT : Hid (Bt b w wr ∧ SRow wr b l) := ⟨Bt.of_below hbw, SRow.still HRW.out hbw⟩
      have hTs := bw_size (cat (wsF l) (nats p.right))
      have hXs := bw_size (wsF l x)
      have HLE := (show Hid _ from fun hl => bw_le (u := wsF l x) (v := cat (wsF l) (nats p.right)) hl (HSM.out x) (cat_sml HSM.out _))
      have HSET := (show Hid _ from SRow.set (SRow.still HRW.out hbw) hxl2 (cat (wsF l) (nats p.right)))
      generalize cat (wsF l) (nats p.right) = C at *
      generalize wsF l x = Wx at *
      obtain ⟨T, hT⟩ : ∃ T, bw C = T := ⟨_, rfl⟩
      obtain ⟨X, hX⟩ : ∃ X, bw Wx = X := ⟨_, rfl⟩
      rw [hT] at hTs HLE HSET
      rw [hX] at hXs HLE s0
      rw [hT]
      clear hT hX hbw
      have hCs := HCS.out
      have hWs := HSX.out
      by_cases e2 : (C.length : Int) = Lx
      case neg =>
        have hnw := HN2.out e2
        subst hnw
        have k2 : ((T.size : Int) != Lx) = true := by rw [hTs]; simp [e2]
        have HF : Hid (SRow wr b NX ∧ Bt b w wr) := by
          refine ⟨?_, HBT.out.1⟩
          rw [HNX.out]
          exact HBT.out.2
        clear hTs hXs
        go_wp2_with fail
        go_ret
        exact ⟨rfl, HF.out⟩
      have k2 : ((T.size : Int) != Lx) = false := by rw [hTs]; simp [e2]
      by_cases e3 : (Wx.length : Int) = Lx
      · have k3 : ((X.size : Int) == Lx) = true := by rw [hXs]; simp [e3]
        have hle := HLE.out (by omega)
        by_cases e4 : rk Wx ≤ rk C
        · have hnw := HN3.out e3 e4
          subst hnw
          rw [decide_eq_true e4] at hle
          have HF : Hid (SRow wr b NX ∧ Bt b w wr) := by
            refine ⟨?_, HBT.out.1⟩
            rw [HNX.out]
            exact HBT.out.2
          clear hTs hXs
          go_wp2_with fail
          go_ret
          exact ⟨rfl, HF.out⟩
        · have hnw := HN4.out e1 e2 (.inr e4)
          subst hnw
          rw [decide_eq_false e4] at hle
          have HF : Hid (SRow (wr.setCell ⟨b, x, none⟩ (.string T)) b NX ∧ Bt b w (wr.setCell ⟨b, x, none⟩ (.string T))) := by
            refine ⟨?_, HBT.out.1.trans (Bt.set _ _)⟩
            rw [HNX.out]
            exact HSET.out
          clear hTs hXs
          go_wp2_with fail
          go_ret
          exact ⟨rfl, HF.out⟩
      · have k3 : ((X.size : Int) == Lx) = false := by rw [hXs]; simp [e3]
        have hnw := HN4.out e1 e2 (.inl e3)
        subst hnw
        have HF : Hid (SRow (wr.setCell ⟨b, x, none⟩ (.string T)) b NX ∧ Bt b w (wr.setCell ⟨b, x, none⟩ (.string T))) := by
          refine ⟨?_, HBT.out.1.trans (Bt.set _ _)⟩
          rw [HNX.out]
          exact HSET.out
        clear hTs hXs
        go_wp2_with fail
        go_ret
        exact ⟨rfl, HF.out⟩
end Go.Proofs.Ytpbpmhgoppbfnaa
