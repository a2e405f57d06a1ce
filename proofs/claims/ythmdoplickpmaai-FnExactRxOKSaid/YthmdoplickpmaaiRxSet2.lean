import Derived.Test.YthmdoplickpmaaiRxItem
namespace Go.Proofs.Ythmdoplickpmaai
open Go.RowKit Go.Deep Go.Lib
set_option linter.unusedVariables false
set_option maxRecDepth 100000
set_option linter.unusedSimpArgs false

theorem xItems_step {s : ByteArray} {k : Nat} (hk : k ≤ s.size) (h : seesB s k 93 = false) : xItems s (s.size + 1 - k) k = (match xItem s k with
    | .error j => .error j
    | .ok k1 => xItems s (s.size + 1 - k1) k1) := by
  rw [show s.size + 1 - k = s.size - k + 1 by omega, xItems, if_neg (by rw [h]; simp)]
  have h1 := xItem_in hk
  revert h1
  cases xItem s k with
  | error j => exact fun _ => rfl
  | ok k1 =>
    intro h1
    have h1a := h1.1
    exact xItems_fuel _ _ k1 h1.2 (by omega) (Nat.le_refl _)
theorem xItems_stop {s : ByteArray} {k : Nat} (hk : k ≤ s.size) (h : seesB s k 93 = true) : xItems s (s.size + 1 - k) k = .ok k := by
  rw [show s.size + 1 - k = s.size - k + 1 by omega, xItems, if_pos h]
/-- A set was read, or it is a fault. -/
def SGot (r : Except Nat Nat) (p q : Nat) (s : ByteArray) (e : Ending) (w' : World) : Prop := match r with
  | .ok k => (∃ n0 n1 n2 n3 : Int, e = .returned (.agg #[.int .u64 n0, .int .u64 n1, .int .u64 n2, .int .u64 n3])) ∧ Scn w' p q s k
  | .error j => e = .panicked [flt j]
theorem Out.beyond {lo hi g o : Nat} {x : Value} {w w' : World} (h : Out lo hi w w') (hg : w.heap.size ≤ g) : Out lo hi w (w'.setCell ⟨g, o, none⟩ x) :=
  ⟨h.1, h.2.1, h.2.2.1, by simpa using h.2.2.2.1, fun k hk hh => (blk_setCell_other _ _ _ _ (by show k ≠ g; omega)).trans (h.2.2.2.2 k hk hh)⟩
theorem Scn.past {w : World} {p q k g o : Nat} {s : ByteArray} {x : Value} (h : Scn w p q s k) (hg : p ≠ g) : Scn (w.setCell ⟨g, o, none⟩ x) p q s k := h.keep (blk_setCell_other _ _ _ _ (by exact hg))
/-- Behind the bracket. -/
def fin : Except Nat Nat → Except Nat Nat
  | .error j => .error j
  | .ok k => .ok (k + 1)
/-- What is done behind two new boxes is done to the scanner's box alone. -/
theorem bot {p g : Nat} {w w2 w3 w4 : World} (h3 : Out2 p g w3 w4) (h2 : Out p (p + 1) w2 w3) (h1 : Below w.heap.size w w2 ∧ w.heap.size ≤ g) : Out p (p + 1) w w4 := by
  obtain ⟨hb, hg⟩ := h1
  have hz := hb.size
  have hz2 := h2.2.2.2.1
  exact ⟨h3.1.trans (h2.1.trans hb.os), h3.2.1.trans (h2.2.1.trans hb.tape), h3.2.2.1.trans (h2.2.2.1.trans hb.output), Nat.le_trans hz (Nat.le_trans hz2 h3.2.2.2.1), fun k hk hh => (h3.2.2.2.2 k (by omega) (by omega) (by omega)).trans ((h2.2.2.2.2 k (by omega) hh).trans (hb.block k hk))⟩

set_option maxHeartbeats 1600000 in
theorem set_any {p q k : Nat} {s : ByteArray} (w : World) (h : Scn w p q s k) (h91 : seesB s k 91 = true) :
    Calls Try.prog 92 #[.pointer (some ⟨p, 0, none⟩)] w fun e w' => Out p (p + 1) w w' ∧ SGot (xSet s k) p q s e w' := by
  have hs := h.2.1
  have hlt := seesB_lt h91
  have hp := h.lt
  have hpb : p ≠ w.heap.size + 1 := by omega
  have hbw : Below w.heap.size w ((w.alloc (.cells #[.int .u64 0, .int .u64 0, .int .u64 0, .int .u64 0] 129)).alloc (.cells #[.int .u64 0, .int .u64 0, .int .u64 0, .int .u64 0] 129)) := (bel_alloc _ _).alloc (by simp) _
  have hS1 := (BSet.new w 0 0 0 0).still (bel_alloc _ (.cells #[.int .u64 0, .int .u64 0, .int .u64 0, .int .u64 0] 129))
  have hS2 := BSet.new (w.alloc (.cells #[.int .u64 0, .int .u64 0, .int .u64 0, .int .u64 0] 129)) 0 0 0 0
  simp only [World.size_alloc] at hS2
  have H0 := (show Hid _ from (⟨h.still hbw, hS1, hS2, hbw, Nat.le_succ _⟩ : Scn ((w.alloc (.cells #[.int .u64 0, .int .u64 0, .int .u64 0, .int .u64 0] 129)).alloc (.cells #[.int .u64 0, .int .u64 0, .int .u64 0, .int .u64 0] 129)) p q s k ∧ BSet _ w.heap.size ∧ BSet ((w.alloc (.cells #[.int .u64 0, .int .u64 0, .int .u64 0, .int .u64 0] 129)).alloc (.cells #[.int .u64 0, .int .u64 0, .int .u64 0, .int .u64 0] 129)) (w.heap.size + 1) ∧ Below w.heap.size w ((w.alloc (.cells #[.int .u64 0, .int .u64 0, .int .u64 0, .int .u64 0] 129)).alloc (.cells #[.int .u64 0, .int .u64 0, .int .u64 0, .int .u64 0] 129)) ∧ w.heap.size ≤ w.heap.size + 1)); clear hbw hS1 hS2 h
  have hP := pass_any 91 _ H0.out.1
  have HP : Hid (Calls Try.prog 98 #[.pointer (some ⟨p, 0, none⟩), .int .u8 91] ((w.alloc (.cells #[.int .u64 0, .int .u64 0, .int .u64 0, .int .u64 0] 129)).alloc (.cells #[.int .u64 0, .int .u64 0, .int .u64 0, .int .u64 0] 129)) fun e w' => Out p (p + 1) ((w.alloc (.cells #[.int .u64 0, .int .u64 0, .int .u64 0, .int .u64 0] 129)).alloc (.cells #[.int .u64 0, .int .u64 0, .int .u64 0, .int .u64 0] 129)) w' ∧ e = .returned (.tuple #[]) ∧ Scn w' p q s (k + 1)) := hP.mono (fun e w' ⟨ho, hc⟩ => by
    rcases hc with ⟨_, he, hs'⟩ | ⟨hf, _⟩
    · exact ⟨ho, he, hs'⟩
    · rw [h91] at hf; cases hf)
  clear hP h91
  cases h94 : seesB s (k + 1) 94
  case true =>
    have hK : (if seesB s (k + 1) 94 then k + 2 else k + 1) = k + 1 + 1 := by rw [h94]; rfl
    have hle : k + 1 + 1 ≤ s.size := by have := seesB_lt h94; omega
    have hset : xSet s k = (match xItem s (k + 1 + 1) with
        | .error j => .error j
        | .ok k2 => match xItems s (s.size + 1 - k2) k2 with
          | .error j => .error j
          | .ok k3 => .ok (k3 + 1)) := by
      unfold xSet
      rw [hK]
      cases xItem s (k + 1 + 1) with
      | error j => rfl
      | ok k2 =>
        dsimp only
        cases xItems s (s.size + 1 - k2) k2 <;> rfl
    rw [hset]
    have HS : Hid (∀ w', Scn w' p q s (k + 1) → Calls Try.prog 65 #[.pointer (some ⟨p, 0, none⟩), .int .u8 94] w' fun e w'' => e = .returned (.bool true) ∧ Out p (p + 1) w' w'' ∧ Scn w'' p q s (k + 1)) := fun w' h' => by
      have := sees_any 94 w' h'
      rwa [h94] at this
    have hin := xItem_in hle
    have hc := fun w' (h' : Scn w' p q s (k + 1 + 1)) (hb' : BSet w' (w.heap.size + 1)) => item_any w' h' hb' hpb
    clear h94 hset hK
    cases hr1 : xItem s (k + 1 + 1) with
    | error j =>
      rw [hr1] at hc
      have HC := (show Hid _ from hc); clear hc hr1
      dsimp only
      go_enter Try.func92, Try.ntmps92
      go_wp2_with fail
      refine Calls.mono HP.out ?_
      rintro e w1 ⟨ho1, rfl, hs1⟩
      have HQ := (show Hid _ from HS.out w1 hs1); clear hs1
      have HO1 := (show Hid _ from ho1); clear ho1
      go_wp2_with fail
      refine Calls.mono HQ.out ?_
      rintro e w2 ⟨rfl, ho2, hs2⟩
      obtain ⟨x0, x1, y1⟩ := hs2.cells
      have ho2' := Out.trans HO1.out (Out.trans ho2 (Out.set (o := 1) w2 (.int .i64 (((k + 1 : Nat) : Int) + 1)) (Nat.le_refl p) (Nat.lt_succ_self p)))
      have HN := (show Hid _ from HC.out _ (hs2.next (by omega)) (BSet.out H0.out.2.2.1 ho2' hpb))
      have HO2 := (show Hid _ from ho2'); clear ho2 hs2 ho2'
      go_wp2_with fail
      refine Calls.mono HN.out ?_
      rintro e w3 ⟨ho3, rfl⟩
      have HE := (show Hid _ from bot ho3 HO2.out H0.out.2.2.2); clear ho3
      go_wp2_with fail
      exact ⟨rfl, HE.out, rfl⟩
    | ok k2 =>
      rw [hr1] at hc hin
      have hk2 : k2 ≤ s.size := hin.2
      have HC := (show Hid _ from hc); clear hc hr1 hin
      have HIT : Hid (∀ k' w', Scn w' p q s k' → BSet w' (w.heap.size + 1) → Calls Try.prog 99 #[.pointer (some ⟨p, 0, none⟩), .pointer (some ⟨w.heap.size + 1, 0, none⟩)] w' fun e w'' => Out2 p (w.heap.size + 1) w' w'' ∧ IGot (xItem s k') p q (w.heap.size + 1) s e w'') := fun k' w' h' hb' => item_any w' h' hb' hpb
      dsimp only
      have hfin : (match xItems s (s.size + 1 - k2) k2 with
          | .error j => .error j
          | .ok k3 => .ok (k3 + 1)) = fin (xItems s (s.size + 1 - k2) k2) := by cases xItems s (s.size + 1 - k2) k2 <;> rfl
      rw [hfin]
      clear hfin
      generalize hR : xItems s (s.size + 1 - k2) k2 = R
      have HR0 := (show Hid _ from hR); clear hR
      go_enter Try.func92, Try.ntmps92
      go_wp2_with fail
      refine Calls.mono HP.out ?_
      rintro e w1 ⟨ho1, rfl, hs1⟩
      have HQ := (show Hid _ from HS.out w1 hs1); clear hs1
      have HO1 := (show Hid _ from ho1); clear ho1
      go_wp2_with fail
      refine Calls.mono HQ.out ?_
      rintro e w2 ⟨rfl, ho2, hs2⟩
      obtain ⟨x0, x1, y1⟩ := hs2.cells
      have ho2' := Out.trans HO1.out (Out.trans ho2 (Out.set (o := 1) w2 (.int .i64 (((k + 1 : Nat) : Int) + 1)) (Nat.le_refl p) (Nat.lt_succ_self p)))
      have HN := (show Hid _ from HC.out _ (hs2.next (by omega)) (BSet.out H0.out.2.2.1 ho2' hpb))
      have HO2 := (show Hid _ from ho2'); clear ho2 hs2 ho2'
      go_wp2_with fail
      refine Calls.mono HN.out ?_
      rintro e w3 ⟨ho3, rfl, hs3, hb3⟩
      have H3 := (show Hid _ from (⟨Out2.trans (Out2.of1 HO2.out) ho3, hs3, hb3⟩ : Out2 p (w.heap.size + 1) ((w.alloc (.cells #[.int .u64 0, .int .u64 0, .int .u64 0, .int .u64 0] 129)).alloc (.cells #[.int .u64 0, .int .u64 0, .int .u64 0, .int .u64 0] 129)) w3 ∧ _ ∧ _)); clear ho3 hs3 hb3
      go_wp2_with fail
      go_loopw [] (fun wr => ∃ k' : Nat, k' ≤ s.size ∧ Hid (Out2 p (w.heap.size + 1) ((w.alloc (.cells #[.int .u64 0, .int .u64 0, .int .u64 0, .int .u64 0] 129)).alloc (.cells #[.int .u64 0, .int .u64 0, .int .u64 0, .int .u64 0] 129)) wr ∧ Scn wr p q s k' ∧ BSet wr (w.heap.size + 1) ∧ xItems s (s.size + 1 - k') k' = R)) (fun wr => s.size - (intOf ((wr.cell? ⟨p, 1, none⟩).getD (.bool false))).toNat)
      case atStart => exact ⟨k2, hk2, H3.out.1, H3.out.2.1, H3.out.2.2, HR0.out⟩
      case round =>
        obtain ⟨k', hk', HR⟩ := hrel
        have hcl := sees_any 93 wr HR.out.2.1
        cases h93 : seesB s k' 93
        case true =>
          rw [h93] at hcl
          have HCL := (show Hid _ from hcl); clear hcl
          have hlt' := seesB_lt h93
          have hRR : R = .ok k' := HR.out.2.2.2.symm.trans (xItems_stop hk' h93)
          have HRR := (show Hid _ from hRR); clear hRR
          have HPS : Hid (∀ w', Scn w' p q s k' → Calls Try.prog 98 #[.pointer (some ⟨p, 0, none⟩), .int .u8 93] w' fun e w'' => Out p (p + 1) w' w'' ∧ e = .returned (.tuple #[]) ∧ Scn w'' p q s (k' + 1)) := fun w' h' => (pass_any 93 w' h').mono (fun e w'' ⟨ho, hc⟩ => by
            rcases hc with ⟨_, he, hs'⟩ | ⟨hf, _⟩
            · exact ⟨ho, he, hs'⟩
            · rw [h93] at hf; cases hf)
          clear h93
          go_wp2_with fail
          refine Calls.mono HCL.out ?_
          rintro e w4 ⟨rfl, ho4, hs4⟩
          have HPQ := (show Hid _ from HPS.out w4 hs4); clear hs4
          have HO4 := (show Hid _ from ho4); clear ho4
          go_wp2_with fail
          refine Calls.mono HPQ.out ?_
          rintro e w5 ⟨ho5, rfl, hs5⟩
          have ho45 := Out.trans HO4.out ho5
          have H5 := (show Hid _ from (⟨Out2.trans HR.out.1 (Out2.of1 ho45), hs5, BSet.out HR.out.2.2.1 ho45 hpb⟩ : Out2 p (w.heap.size + 1) ((w.alloc (.cells #[.int .u64 0, .int .u64 0, .int .u64 0, .int .u64 0] 129)).alloc (.cells #[.int .u64 0, .int .u64 0, .int .u64 0, .int .u64 0] 129)) w5 ∧ _ ∧ BSet w5 (w.heap.size + 1))); clear ho5 hs5 ho45
          have hres5 : BSet w5 w.heap.size := BSet.keep H0.out.2.1 (H5.out.1.2.2.2.2 w.heap.size (by simp; omega) (by omega) (by omega))
          have HOT := (show Hid _ from others_any w5 H5.out.2.2)
          have HRS := (show Hid _ from hres5); clear hres5
          go_wp2_with fail
          refine Calls.mono HOT.out ?_
          rintro e w6 ⟨n0, n1, n2, n3, rfl, hb6⟩
          have hres6 := BSet.still HRS.out hb6
          have HSC := (show Hid _ from (⟨Out.trans (bot H5.out.1 (Out.refl _ _ _) H0.out.2.2.2) (Out.of_below hb6), Scn.still H5.out.2.1 hb6⟩ : Out p (p + 1) w w6 ∧ Scn w6 p q s (k' + 1))); clear hb6
          obtain ⟨⟨m0, d0⟩, e0⟩ := hres6.cell 0 (by omega)
          obtain ⟨⟨m1, d1⟩, e1⟩ := hres6.cell 1 (by omega)
          obtain ⟨⟨m2, d2⟩, e2⟩ := hres6.cell 2 (by omega)
          obtain ⟨⟨m3, d3⟩, e3⟩ := hres6.cell 3 (by omega)
          clear hres6
          go_wp2_with fail
          refine bodyPost_ret (v := .agg #[.int .u64 n0, .int .u64 n1, .int .u64 n2, .int .u64 n3]) (by simp [results, Try.results92, go_sem, d0, d1, d2, d3]) rfl ⟨?_, ?_⟩
          · exact ((((HSC.out.1.beyond (Nat.le_refl _)).beyond (Nat.le_refl _)).beyond (Nat.le_refl _)).beyond (Nat.le_refl _))
          · rw [HRR.out]
            exact ⟨⟨n0, n1, n2, n3, rfl⟩, (((HSC.out.2.past (by omega)).past (by omega)).past (by omega)).past (by omega)⟩
        case false =>
          rw [h93] at hcl
          have HCL := (show Hid _ from hcl); clear hcl
          have hst := HR.out.2.2.2.symm.trans (xItems_step hk' h93)
          have hin := xItem_in hk'
          have hit := fun w' h' hb' => HIT.out k' w' h' hb'
          clear h93
          cases hr2 : xItem s k' with
          | error j =>
            rw [hr2] at hst hit
            have HST := (show Hid _ from hst); clear hst hr2 hin
            have HIX := (show Hid _ from hit); clear hit
            go_wp2_with fail
            refine Calls.mono HCL.out ?_
            rintro e w4 ⟨rfl, ho4, hs4⟩
            have HN4 := (show Hid _ from HIX.out w4 hs4 (BSet.out HR.out.2.2.1 ho4 hpb))
            have HO4 := (show Hid _ from Out2.trans HR.out.1 (Out2.of1 ho4)); clear ho4 hs4
            go_wp2_with fail
            refine Calls.mono HN4.out ?_
            rintro e w5 ⟨ho5, rfl⟩
            have HE := (show Hid _ from bot (Out2.trans HO4.out ho5) (Out.refl _ _ _) H0.out.2.2.2); clear ho5
            go_wp2_with fail
            exact ⟨rfl, HE.out, by rw [show R = .error j from HST.out]; rfl⟩
          | ok k4 =>
            rw [hr2] at hst hit hin
            have HST := (show Hid _ from hst); clear hst hr2
            have HIX := (show Hid _ from hit); clear hit
            have hk4a : k' + 1 ≤ k4 := hin.1
            have hk4 : k4 ≤ s.size := hin.2
            clear hin
            go_wp2_with fail
            refine Calls.mono HCL.out ?_
            rintro e w4 ⟨rfl, ho4, hs4⟩
            have HN4 := (show Hid _ from HIX.out w4 hs4 (BSet.out HR.out.2.2.1 ho4 hpb))
            have HO4 := (show Hid _ from Out2.trans HR.out.1 (Out2.of1 ho4)); clear ho4 hs4
            go_wp2_with fail
            refine Calls.mono HN4.out ?_
            rintro e w5 ⟨ho5, rfl, hs5, hb5⟩
            have H5 := (show Hid _ from (⟨Out2.trans HO4.out ho5, hs5, hb5⟩ : Out2 p (w.heap.size + 1) ((w.alloc (.cells #[.int .u64 0, .int .u64 0, .int .u64 0, .int .u64 0] 129)).alloc (.cells #[.int .u64 0, .int .u64 0, .int .u64 0, .int .u64 0] 129)) w5 ∧ _ ∧ _)); clear ho5 hs5 hb5
            go_wp2_with fail
            refine ⟨⟨k4, hk4, H5.out.1, H5.out.2.1, H5.out.2.2, HST.out.symm⟩, ?_⟩
            have m1 := (Scn.cells H5.out.2.1).2.1
            have m2 := (Scn.cells HR.out.2.1).2.1
            rw [m1, m2]
            simp [intOf]
            omega
  case false =>
    have hK : (if seesB s (k + 1) 94 then k + 2 else k + 1) = k + 1 := by rw [h94]; rfl
    have hle : k + 1 ≤ s.size := by omega
    have hset : xSet s k = (match xItem s (k + 1) with
        | .error j => .error j
        | .ok k2 => match xItems s (s.size + 1 - k2) k2 with
          | .error j => .error j
          | .ok k3 => .ok (k3 + 1)) := by
      unfold xSet
      rw [hK]
      cases xItem s (k + 1) with
      | error j => rfl
      | ok k2 =>
        dsimp only
        cases xItems s (s.size + 1 - k2) k2 <;> rfl
    rw [hset]
    have HS : Hid (∀ w', Scn w' p q s (k + 1) → Calls Try.prog 65 #[.pointer (some ⟨p, 0, none⟩), .int .u8 94] w' fun e w'' => e = .returned (.bool false) ∧ Out p (p + 1) w' w'' ∧ Scn w'' p q s (k + 1)) := fun w' h' => by
      have := sees_any 94 w' h'
      rwa [h94] at this
    have hin := xItem_in hle
    have hc := fun w' (h' : Scn w' p q s (k + 1)) (hb' : BSet w' (w.heap.size + 1)) => item_any w' h' hb' hpb
    clear h94 hset hK
    cases hr1 : xItem s (k + 1) with
    | error j =>
      rw [hr1] at hc
      have HC := (show Hid _ from hc); clear hc hr1
      dsimp only
      go_enter Try.func92, Try.ntmps92
      go_wp2_with fail
      refine Calls.mono HP.out ?_
      rintro e w1 ⟨ho1, rfl, hs1⟩
      have HQ := (show Hid _ from HS.out w1 hs1); clear hs1
      have HO1 := (show Hid _ from ho1); clear ho1
      go_wp2_with fail
      refine Calls.mono HQ.out ?_
      rintro e w2 ⟨rfl, ho2, hs2⟩
      have ho2' := Out.trans HO1.out ho2
      have HN := (show Hid _ from HC.out _ hs2 (BSet.out H0.out.2.2.1 ho2' hpb))
      have HO2 := (show Hid _ from ho2'); clear ho2 hs2 ho2'
      go_wp2_with fail
      refine Calls.mono HN.out ?_
      rintro e w3 ⟨ho3, rfl⟩
      have HE := (show Hid _ from bot ho3 HO2.out H0.out.2.2.2); clear ho3
      go_wp2_with fail
      exact ⟨rfl, HE.out, rfl⟩
    | ok k2 =>
      rw [hr1] at hc hin
      have hk2 : k2 ≤ s.size := hin.2
      have HC := (show Hid _ from hc); clear hc hr1 hin
      have HIT : Hid (∀ k' w', Scn w' p q s k' → BSet w' (w.heap.size + 1) → Calls Try.prog 99 #[.pointer (some ⟨p, 0, none⟩), .pointer (some ⟨w.heap.size + 1, 0, none⟩)] w' fun e w'' => Out2 p (w.heap.size + 1) w' w'' ∧ IGot (xItem s k') p q (w.heap.size + 1) s e w'') := fun k' w' h' hb' => item_any w' h' hb' hpb
      dsimp only
      have hfin : (match xItems s (s.size + 1 - k2) k2 with
          | .error j => .error j
          | .ok k3 => .ok (k3 + 1)) = fin (xItems s (s.size + 1 - k2) k2) := by cases xItems s (s.size + 1 - k2) k2 <;> rfl
      rw [hfin]
      clear hfin
      generalize hR : xItems s (s.size + 1 - k2) k2 = R
      have HR0 := (show Hid _ from hR); clear hR
      go_enter Try.func92, Try.ntmps92
      go_wp2_with fail
      refine Calls.mono HP.out ?_
      rintro e w1 ⟨ho1, rfl, hs1⟩
      have HQ := (show Hid _ from HS.out w1 hs1); clear hs1
      have HO1 := (show Hid _ from ho1); clear ho1
      go_wp2_with fail
      refine Calls.mono HQ.out ?_
      rintro e w2 ⟨rfl, ho2, hs2⟩
      have ho2' := Out.trans HO1.out ho2
      have HN := (show Hid _ from HC.out _ hs2 (BSet.out H0.out.2.2.1 ho2' hpb))
      have HO2 := (show Hid _ from ho2'); clear ho2 hs2 ho2'
      go_wp2_with fail
      refine Calls.mono HN.out ?_
      rintro e w3 ⟨ho3, rfl, hs3, hb3⟩
      have H3 := (show Hid _ from (⟨Out2.trans (Out2.of1 HO2.out) ho3, hs3, hb3⟩ : Out2 p (w.heap.size + 1) ((w.alloc (.cells #[.int .u64 0, .int .u64 0, .int .u64 0, .int .u64 0] 129)).alloc (.cells #[.int .u64 0, .int .u64 0, .int .u64 0, .int .u64 0] 129)) w3 ∧ _ ∧ _)); clear ho3 hs3 hb3
      go_wp2_with fail
      go_loopw [] (fun wr => ∃ k' : Nat, k' ≤ s.size ∧ Hid (Out2 p (w.heap.size + 1) ((w.alloc (.cells #[.int .u64 0, .int .u64 0, .int .u64 0, .int .u64 0] 129)).alloc (.cells #[.int .u64 0, .int .u64 0, .int .u64 0, .int .u64 0] 129)) wr ∧ Scn wr p q s k' ∧ BSet wr (w.heap.size + 1) ∧ xItems s (s.size + 1 - k') k' = R)) (fun wr => s.size - (intOf ((wr.cell? ⟨p, 1, none⟩).getD (.bool false))).toNat)
      case atStart => exact ⟨k2, hk2, H3.out.1, H3.out.2.1, H3.out.2.2, HR0.out⟩
      case round =>
        obtain ⟨k', hk', HR⟩ := hrel
        have hcl := sees_any 93 wr HR.out.2.1
        cases h93 : seesB s k' 93
        case true =>
          rw [h93] at hcl
          have HCL := (show Hid _ from hcl); clear hcl
          have hlt' := seesB_lt h93
          have hRR : R = .ok k' := HR.out.2.2.2.symm.trans (xItems_stop hk' h93)
          have HRR := (show Hid _ from hRR); clear hRR
          have HPS : Hid (∀ w', Scn w' p q s k' → Calls Try.prog 98 #[.pointer (some ⟨p, 0, none⟩), .int .u8 93] w' fun e w'' => Out p (p + 1) w' w'' ∧ e = .returned (.tuple #[]) ∧ Scn w'' p q s (k' + 1)) := fun w' h' => (pass_any 93 w' h').mono (fun e w'' ⟨ho, hc⟩ => by
            rcases hc with ⟨_, he, hs'⟩ | ⟨hf, _⟩
            · exact ⟨ho, he, hs'⟩
            · rw [h93] at hf; cases hf)
          clear h93
          go_wp2_with fail
          refine Calls.mono HCL.out ?_
          rintro e w4 ⟨rfl, ho4, hs4⟩
          have HPQ := (show Hid _ from HPS.out w4 hs4); clear hs4
          have HO4 := (show Hid _ from ho4); clear ho4
          go_wp2_with fail
          refine Calls.mono HPQ.out ?_
          rintro e w5 ⟨ho5, rfl, hs5⟩
          have ho45 := Out.trans HO4.out ho5
          have H5 := (show Hid _ from (⟨Out2.trans HR.out.1 (Out2.of1 ho45), hs5, BSet.out HR.out.2.2.1 ho45 hpb⟩ : Out2 p (w.heap.size + 1) ((w.alloc (.cells #[.int .u64 0, .int .u64 0, .int .u64 0, .int .u64 0] 129)).alloc (.cells #[.int .u64 0, .int .u64 0, .int .u64 0, .int .u64 0] 129)) w5 ∧ _ ∧ BSet w5 (w.heap.size + 1))); clear ho5 hs5 ho45
          have hres5 : BSet w5 w.heap.size := BSet.keep H0.out.2.1 (H5.out.1.2.2.2.2 w.heap.size (by simp; omega) (by omega) (by omega))
          obtain ⟨⟨n0, c0⟩, _⟩ := BSet.cell H5.out.2.2 0 (by omega)
          obtain ⟨⟨n1, c1⟩, _⟩ := BSet.cell H5.out.2.2 1 (by omega)
          obtain ⟨⟨n2, c2⟩, _⟩ := BSet.cell H5.out.2.2 2 (by omega)
          obtain ⟨⟨n3, c3⟩, _⟩ := BSet.cell H5.out.2.2 3 (by omega)
          have HSC := (show Hid _ from (⟨bot H5.out.1 (Out.refl _ _ _) H0.out.2.2.2, H5.out.2.1⟩ : Out p (p + 1) w w5 ∧ Scn w5 p q s (k' + 1)))
          obtain ⟨⟨m0, d0⟩, e0⟩ := hres5.cell 0 (by omega)
          obtain ⟨⟨m1, d1⟩, e1⟩ := hres5.cell 1 (by omega)
          obtain ⟨⟨m2, d2⟩, e2⟩ := hres5.cell 2 (by omega)
          obtain ⟨⟨m3, d3⟩, e3⟩ := hres5.cell 3 (by omega)
          clear hres5
          go_wp2_with fail
          refine bodyPost_ret (v := .agg #[.int .u64 n0, .int .u64 n1, .int .u64 n2, .int .u64 n3]) (by simp [results, Try.results92, go_sem, d0, d1, d2, d3]) rfl ⟨?_, ?_⟩
          · exact ((((HSC.out.1.beyond (Nat.le_refl _)).beyond (Nat.le_refl _)).beyond (Nat.le_refl _)).beyond (Nat.le_refl _))
          · rw [HRR.out]
            exact ⟨⟨n0, n1, n2, n3, rfl⟩, (((HSC.out.2.past (by omega)).past (by omega)).past (by omega)).past (by omega)⟩
        case false =>
          rw [h93] at hcl
          have HCL := (show Hid _ from hcl); clear hcl
          have hst := HR.out.2.2.2.symm.trans (xItems_step hk' h93)
          have hin := xItem_in hk'
          have hit := fun w' h' hb' => HIT.out k' w' h' hb'
          clear h93
          cases hr2 : xItem s k' with
          | error j =>
            rw [hr2] at hst hit
            have HST := (show Hid _ from hst); clear hst hr2 hin
            have HIX := (show Hid _ from hit); clear hit
            go_wp2_with fail
            refine Calls.mono HCL.out ?_
            rintro e w4 ⟨rfl, ho4, hs4⟩
            have HN4 := (show Hid _ from HIX.out w4 hs4 (BSet.out HR.out.2.2.1 ho4 hpb))
            have HO4 := (show Hid _ from Out2.trans HR.out.1 (Out2.of1 ho4)); clear ho4 hs4
            go_wp2_with fail
            refine Calls.mono HN4.out ?_
            rintro e w5 ⟨ho5, rfl⟩
            have HE := (show Hid _ from bot (Out2.trans HO4.out ho5) (Out.refl _ _ _) H0.out.2.2.2); clear ho5
            go_wp2_with fail
            exact ⟨rfl, HE.out, by rw [show R = .error j from HST.out]; rfl⟩
          | ok k4 =>
            rw [hr2] at hst hit hin
            have HST := (show Hid _ from hst); clear hst hr2
            have HIX := (show Hid _ from hit); clear hit
            have hk4a : k' + 1 ≤ k4 := hin.1
            have hk4 : k4 ≤ s.size := hin.2
            clear hin
            go_wp2_with fail
            refine Calls.mono HCL.out ?_
            rintro e w4 ⟨rfl, ho4, hs4⟩
            have HN4 := (show Hid _ from HIX.out w4 hs4 (BSet.out HR.out.2.2.1 ho4 hpb))
            have HO4 := (show Hid _ from Out2.trans HR.out.1 (Out2.of1 ho4)); clear ho4 hs4
            go_wp2_with fail
            refine Calls.mono HN4.out ?_
            rintro e w5 ⟨ho5, rfl, hs5, hb5⟩
            have H5 := (show Hid _ from (⟨Out2.trans HO4.out ho5, hs5, hb5⟩ : Out2 p (w.heap.size + 1) ((w.alloc (.cells #[.int .u64 0, .int .u64 0, .int .u64 0, .int .u64 0] 129)).alloc (.cells #[.int .u64 0, .int .u64 0, .int .u64 0, .int .u64 0] 129)) w5 ∧ _ ∧ _)); clear ho5 hs5 hb5
            go_wp2_with fail
            refine ⟨⟨k4, hk4, H5.out.1, H5.out.2.1, H5.out.2.2, HST.out.symm⟩, ?_⟩
            have m1 := (Scn.cells H5.out.2.1).2.1
            have m2 := (Scn.cells HR.out.2.1).2.1
            rw [m1, m2]
            simp [intOf]
            omega
end Go.Proofs.Ythmdoplickpmaai
