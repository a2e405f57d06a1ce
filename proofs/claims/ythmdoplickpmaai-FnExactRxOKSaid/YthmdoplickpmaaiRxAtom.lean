import Derived.Test.YthmdoplickpmaaiRxSt
namespace Go.Proofs.Ythmdoplickpmaai
open Go.RowKit Go.Deep Go.Lib
set_option linter.unusedVariables false
set_option maxRecDepth 100000
set_option linter.unusedSimpArgs false

theorem St.pos {w : World} {L p q k c : Nat} {s : ByteArray} (h : St w L p q s k c) : 0 < c := by
  obtain ⟨h1, h2, h3, n, g, h4, h5, h6⟩ := h
  have := h4.lt.2.2.2.2.2
  have := h1.1
  omega
theorem sees_st {w : World} {L p q k c : Nat} {s : ByteArray} (b : UInt8) (h : St w L p q s k c) :
    Calls Try.prog 65 #[.pointer (some ⟨p, 0, none⟩), .int .u8 b.toNat] w fun e w' => e = .returned (.bool (seesB s k b)) ∧ Out p (p + 1) w w' ∧ St w' L p q s k c :=
  (sees_any b w h.scn).mono fun e w' ⟨h1, h2, h3⟩ => ⟨h1, h2, h.keep h2 h3⟩
/-- A set is written. -/
def wrote (w : World) (B : Nat) (n0 n1 n2 n3 : Int) : World := (((w.setCell ⟨B, 0, none⟩ (.int .u64 n0)).setCell ⟨B, 1, none⟩ (.int .u64 n1)).setCell ⟨B, 2, none⟩ (.int .u64 n2)).setCell ⟨B, 3, none⟩ (.int .u64 n3)
theorem wrote_cells {w : World} {B : Nat} (h : BSet w B) (n0 n1 n2 n3 : Int) : (wrote w B n0 n1 n2 n3).cell? ⟨B, 0, none⟩ = some (.int .u64 n0) ∧ (wrote w B n0 n1 n2 n3).cell? ⟨B, 1, none⟩ = some (.int .u64 n1) ∧ (wrote w B n0 n1 n2 n3).cell? ⟨B, 2, none⟩ = some (.int .u64 n2) ∧ (wrote w B n0 n1 n2 n3).cell? ⟨B, 3, none⟩ = some (.int .u64 n3) := by
  obtain ⟨f, h, _⟩ := h
  have h' := (((h.set 0 (.int .u64 n0)).set 1 (.int .u64 n1)).set 2 (.int .u64 n2)).set 3 (.int .u64 n3)
  exact ⟨h'.cell (by omega), h'.cell (by omega), h'.cell (by omega), h'.cell (by omega)⟩
theorem wrote_out (w : World) (B : Nat) (n0 n1 n2 n3 : Int) : Out B (B + 1) w (wrote w B n0 n1 n2 n3) :=
  Out.trans (Out.trans (Out.trans (Out.set (o := 0) w _ (Nat.le_refl B) (Nat.lt_succ_self B)) (Out.set (o := 1) _ _ (Nat.le_refl B) (Nat.lt_succ_self B))) (Out.set (o := 2) _ _ (Nat.le_refl B) (Nat.lt_succ_self B))) (Out.set (o := 3) _ _ (Nat.le_refl B) (Nat.lt_succ_self B))
/-- The scanner, its net, and a set of bytes beside them. -/
def Sb (w : World) (L p q : Nat) (s : ByteArray) (k c B : Nat) : Prop := Scn w p q s k ∧ p ≠ q ∧ L ≤ p ∧ BSet w B ∧ B ≠ p ∧ B ≠ q ∧ ∃ n g, Net w L q n g ∧ g ≠ p ∧ g ≠ B ∧ n + s.size ≤ k + c
theorem Sb.st {w : World} {L p q k c B : Nat} {s : ByteArray} (h : Sb w L p q s k c B) : St w L p q s k c := by
  obtain ⟨h1, h2, h3, hb, b1, b2, n, g, h4, h5, h5', h6⟩ := h
  exact ⟨h1, h2, h3, n, g, h4, h5, h6⟩
theorem Sb.set {w : World} {L p q k c B : Nat} {s : ByteArray} (h : Sb w L p q s k c B) : BSet w B := h.2.2.2.1
theorem Sb.new {w : World} {L p q k c : Nat} {s : ByteArray} (h : St w L p q s k c) : Sb (w.alloc (.cells #[.int .u64 0, .int .u64 0, .int .u64 0, .int .u64 0] 129)) L p q s k c w.heap.size := by
  have hs := h.still (bel_alloc w (.cells #[.int .u64 0, .int .u64 0, .int .u64 0, .int .u64 0] 129))
  obtain ⟨h1, h2, h3, n, g, h4, h5, h6⟩ := h
  have hl := h4.lt
  have hp := h1.lt
  exact ⟨hs.1, h2, h3, BSet.new w 0 0 0 0, by omega, by omega, n, g, h4.still (bel_alloc _ _), h5, by omega, h6⟩
theorem Sb.outp {w w' : World} {L p q k c k' c' B : Nat} {s : ByteArray} (h : Sb w L p q s k c B) (ho : Out p (p + 1) w w') (hs : Scn w' p q s k') (hk : k + c ≤ k' + c') : Sb w' L p q s k' c' B := by
  obtain ⟨h1, h2, h3, hb, b1, b2, n, g, h4, h5, h5', h6⟩ := h
  have hl := h4.lt
  exact ⟨hs, h2, h3, hb.out ho (by omega), b1, b2, n, g, h4.keep (ho.2.2.2.2 q hl.1 (by omega)) (ho.2.2.2.2 g hl.2.1 (by omega)), h5, h5', by omega⟩
theorem Sb.outb {w w' : World} {L p q k c B : Nat} {s : ByteArray} (h : Sb w L p q s k c B) (ho : Out B (B + 1) w w') (hs : BSet w' B) : Sb w' L p q s k c B := by
  obtain ⟨h1, h2, h3, hb, b1, b2, n, g, h4, h5, h5', h6⟩ := h
  have hl := h4.lt
  exact ⟨h1.keep (ho.2.2.2.2 p h1.lt (by omega)), h2, h3, hs, b1, b2, n, g, h4.keep (ho.2.2.2.2 q hl.1 (by omega)) (ho.2.2.2.2 g hl.2.1 (by omega)), h5, h5', h6⟩
theorem Sb.still {w w' : World} {L p q k c B : Nat} {s : ByteArray} (h : Sb w L p q s k c B) (hb : Below w.heap.size w w') : Sb w' L p q s k c B := h.outp (Out.of_below hb) (h.1.still hb) (Nat.le_refl _)
theorem wrote_set {w : World} {B : Nat} (h : BSet w B) (n0 n1 n2 n3 : Int) : BSet (wrote w B n0 n1 n2 n3) B := (((h.set 0 n0).set 1 n1).set 2 n2).set 3 n3
theorem belDrew {L : Nat} {w w' : World} (h : Below L w w') : Below L w w'.drew := ⟨h.os, h.tape, h.output, h.size, h.block⟩
theorem Out.lowb {L B : Nat} {w w' : World} (h : Out B (B + 1) w w') (hB : L ≤ B) (hL : L ≤ w.heap.size) : Below L w w' := ⟨h.1, h.2.1, h.2.2.1, h.2.2.2.1, fun k hk => h.2.2.2.2 k (by omega) (by omega)⟩

set_option maxHeartbeats 1600000 in
theorem atom_any {pC : Nat → Except Nat Nat} {L p q k c : Nat} {s : ByteArray} (w : World) (hC : CDoes pC L p q s k) (hg : RxGood s k pC) (h : St w L p q s k c) (hc : c ≤ 1000) :
    Calls Try.prog 82 #[.pointer (some ⟨p, 0, none⟩)] w fun e w' => Below L w w' ∧ CGot (xAtom pC s k) L p q s c e w' := by
  have hs := h.scn.2.1
  have hsz := h.scn.1
  have hc0 := h.pos
  have hlow := h.low
  have hLw : L ≤ w.heap.size := by omega
  have hS0 := Sb.new h
  have hb0 : Below L w (w.alloc (.cells #[.int .u64 0, .int .u64 0, .int .u64 0, .int .u64 0] 129)) := (bel_alloc _ _).mono hLw
  have hc1 := sees_st 40 hS0.st
  cases h40 : seesB s k 40
  case true =>
    have HG : Hid (∀ w', St w' L p q s k c → Calls Try.prog 89 #[.pointer (some ⟨p, 0, none⟩)] w' fun e w'' => Below L w' w'' ∧ CGot (xAtom pC s k) L p q s c e w'') := fun w' h' => group_any w' hC hg h' hc h40
    rw [h40] at hc1
    have HC1 := (show Hid _ from hc1); clear hc1 hC hg h hS0 h40
    have HB0 := (show Hid _ from hb0); clear hb0
    generalize xAtom pC s k = r at *
    go_enter Try.func82, Try.ntmps82
    go_wp2_with fail
    refine Calls.mono HC1.out ?_
    rintro e w1 ⟨rfl, ho1, hs1⟩
    have HQ := (show Hid _ from HG.out w1 hs1)
    have HB1 := (show Hid _ from HB0.out.trans (ho1.low ⟨hlow.1, by simp; omega⟩)); clear ho1 hs1
    go_wp2_with fail
    refine Calls.mono HQ.out ?_
    rintro e w2 ⟨hb2, hg2⟩
    have HB2 := (show Hid _ from HB1.out.trans hb2); clear hb2
    cases r with
    | error j =>
      obtain rfl := hg2
      go_wp2_with fail
      exact ⟨rfl, HB2.out, rfl⟩
    | ok k2 =>
      obtain ⟨⟨v, rfl, f, cc, rfl⟩, hs2⟩ := hg2
      have HS2 := (show Hid _ from hs2); clear hs2
      go_wp2_with fail
      go_ret
      exact ⟨HB2.out, ⟨_, rfl, _, _, rfl⟩, HS2.out⟩
  rw [h40] at hc1
  have HC1 := (show Hid _ from hc1); clear hc1 hC hg
  have HS0 := (show Hid _ from hS0); clear hS0 h
  have HB0 := (show Hid _ from hb0); clear hb0
  cases h46 : seesB s k 46
  case true =>
    have hlt := seesB_lt h46
    have hr : xAtom pC s k = .ok (k + 1) := by unfold xAtom; rw [if_neg (by rw [h40]; simp), if_pos h46]
    rw [hr]
    have HC2 : Hid (∀ w', St w' L p q s k c → Calls Try.prog 65 #[.pointer (some ⟨p, 0, none⟩), .int .u8 46] w' fun e w'' => e = .returned (.bool true) ∧ Out p (p + 1) w' w'' ∧ St w'' L p q s k c) := fun w' h' => by
      have := sees_st 46 h'
      rwa [h46] at this
    clear hr h40 h46
    go_enter Try.func82, Try.ntmps82
    go_wp2_with fail
    refine Calls.mono HC1.out ?_
    rintro e w1 ⟨rfl, ho1, hs1⟩
    have HQ := (show Hid _ from HC2.out w1 hs1)
    have HB1 := (show Hid _ from (⟨HB0.out.trans (ho1.low ⟨hlow.1, by simp; omega⟩), Sb.outp HS0.out ho1 hs1.1 (Nat.le_refl _)⟩ : _ ∧ _)); clear ho1 hs1
    go_wp2_with fail
    refine Calls.mono HQ.out ?_
    rintro e w2 ⟨rfl, ho2, hs2⟩
    have hS3 := (HB1.out.2.outp ho2 hs2.1 (Nat.le_refl _)).outp (c' := c - 1) (Out.set (o := 1) w2 (.int .i64 ((k : Int) + 1)) (Nat.le_refl p) (Nat.lt_succ_self p)) (hs2.1.next hlt) (by omega)
    obtain ⟨x0, x1, y1⟩ := hs2.1.cells
    have hb3 : Below L w (w2.setCell ⟨p, 1, none⟩ (.int .i64 ((k : Int) + 1))) := (HB1.out.1.trans (ho2.low HB1.out.2.st.low)).trans (Out.low (Out.set (o := 1) w2 (.int .i64 ((k : Int) + 1)) (Nat.le_refl p) (Nat.lt_succ_self p)) hs2.low)
    have HA := (show Hid _ from addAll_any 10 10 _ hS3.set)
    have HB3 := (show Hid _ from (⟨hb3, hS3⟩ : _ ∧ _)); clear ho2 hs2 hS3 hb3
    go_wp2_with fail
    refine Calls.mono HA.out ?_
    rintro e w3 ⟨rfl, ho3, hs3⟩
    have hS4 := HB3.out.2.outb ho3 hs3
    have hb4 := HB3.out.1.trans (ho3.lowb hLw (by have := HB3.out.2.st.low; simp at this ⊢; omega))
    have HA2 := (show Hid _ from others_any _ hS4.set)
    have HB4 := (show Hid _ from (⟨hb4, hS4⟩ : _ ∧ _)); clear ho3 hs3 hS4 hb4
    go_wp2_with fail
    refine Calls.mono HA2.out ?_
    rintro e w4 ⟨n0, n1, n2, n3, rfl, hb5⟩
    have hS5 := HB4.out.2.still hb5
    have hb5' : Below L w w4 := HB4.out.1.trans (hb5.mono (by have := HB4.out.2.st.low; omega))
    obtain ⟨⟨m0, d0⟩, e0⟩ := hS5.set.cell 0 (by omega)
    obtain ⟨⟨m1, d1⟩, e1⟩ := hS5.set.cell 1 (by omega)
    obtain ⟨⟨m2, d2⟩, e2⟩ := hS5.set.cell 2 (by omega)
    obtain ⟨⟨m3, d3⟩, e3⟩ := hS5.set.cell 3 (by omega)
    obtain ⟨u0, u1, u2, u3⟩ := wrote_cells hS5.set n0 n1 n2 n3
    have hS6 := hS5.outb (wrote_out w4 w.heap.size n0 n1 n2 n3) (wrote_set hS5.set n0 n1 n2 n3)
    have hb6 := hb5'.trans ((wrote_out w4 w.heap.size n0 n1 n2 n3).lowb hLw (by have := hS5.st.low; omega))
    have hnet := hS6.1.net
    have HOF : Hid (Calls Try.prog 94 #[.pointer (some ⟨q, 0, none⟩), .agg #[.int .u64 n0, .int .u64 n1, .int .u64 n2, .int .u64 n3]] (wrote w4 w.heap.size n0 n1 n2 n3).drew fun e w' => Plc L p q s (k + 1) (c - 1) e (wrote w4 w.heap.size n0 n1 n2 n3).drew w') := oneOf_st (hS6.st.drewN 1) (by omega) n0 n1 n2 n3
    have HB6 := (show Hid _ from belDrew hb6); clear hS5 hS6 hb6 hb5 hb5'
    go_wp2_with fail
    change Code.wp _ _ _ _ (wrote w4 w.heap.size n0 n1 n2 n3)
    clear d0 d1 d2 d3 e0 e1 e2 e3 HA HA2 HQ HC1 HC2 HB0 HB1 HB3 HB4 HS0
    generalize wrote w4 w.heap.size n0 n1 n2 n3 = W at *
    go_region_with (go_at_call 94; refine Calls.mono HOF.out ?_; rintro e w5 ⟨⟨v, rfl, f, cc, rfl⟩, hb7, hs7⟩)
    all_goals
      have HS7 := (show Hid _ from (⟨HB6.out.trans hb7, hs7⟩ : _ ∧ _)); clear hb7 hs7
      go_wp2_with fail
      go_ret
      exact ⟨HS7.out.1, ⟨_, rfl, _, _, rfl⟩, HS7.out.2.mono (by omega)⟩
  have HC2 : Hid (∀ w', St w' L p q s k c → Calls Try.prog 65 #[.pointer (some ⟨p, 0, none⟩), .int .u8 46] w' fun e w'' => e = .returned (.bool false) ∧ Out p (p + 1) w' w'' ∧ St w'' L p q s k c) := fun w' h' => by
    have := sees_st 46 h'
    rwa [h46] at this
  cases h91 : seesB s k 91
  case true =>
    have hlt := seesB_lt h91
    have hr : xAtom pC s k = xSet s k := by unfold xAtom; rw [if_neg (by rw [h40]; simp), if_neg (by rw [h46]; simp), if_pos h91]
    rw [hr]
    have HC3 : Hid (∀ w', St w' L p q s k c → Calls Try.prog 65 #[.pointer (some ⟨p, 0, none⟩), .int .u8 91] w' fun e w'' => e = .returned (.bool true) ∧ Out p (p + 1) w' w'' ∧ St w'' L p q s k c) := fun w' h' => by
      have := sees_st 91 h'
      rwa [h91] at this
    have HST : Hid (∀ w', St w' L p q s k c → Calls Try.prog 92 #[.pointer (some ⟨p, 0, none⟩)] w' fun e w'' => Out p (p + 1) w' w'' ∧ SGot (xSet s k) p q s e w'') := fun w' h' => set_any w' h'.scn h91
    have hin := xSet_in h91
    clear hr h40 h46 h91
    generalize xSet s k = r at *
    go_enter Try.func82, Try.ntmps82
    go_wp2_with fail
    refine Calls.mono HC1.out ?_
    rintro e w1 ⟨rfl, ho1, hs1⟩
    have HQ := (show Hid _ from HC2.out w1 hs1)
    have HB1 := (show Hid _ from (⟨HB0.out.trans (ho1.low ⟨hlow.1, by simp; omega⟩), Sb.outp HS0.out ho1 hs1.1 (Nat.le_refl _)⟩ : _ ∧ _)); clear ho1 hs1
    go_wp2_with fail
    refine Calls.mono HQ.out ?_
    rintro e w2 ⟨rfl, ho2, hs2⟩
    have HQ2 := (show Hid _ from HC3.out w2 hs2)
    have HB2 := (show Hid _ from (⟨HB1.out.1.trans (ho2.low HB1.out.2.st.low), HB1.out.2.outp ho2 hs2.1 (Nat.le_refl _)⟩ : _ ∧ _)); clear ho2 hs2
    go_wp2_with fail
    refine Calls.mono HQ2.out ?_
    rintro e w3 ⟨rfl, ho3, hs3⟩
    have HQ3 := (show Hid _ from HST.out w3 hs3)
    have HB3 := (show Hid _ from (⟨HB2.out.1.trans (ho3.low HB2.out.2.st.low), HB2.out.2.outp ho3 hs3.1 (Nat.le_refl _)⟩ : _ ∧ _)); clear ho3 hs3
    go_wp2_with fail
    refine Calls.mono HQ3.out ?_
    rintro e w4 ⟨ho4, hg4⟩
    have hb4 := HB3.out.1.trans (ho4.low HB3.out.2.st.low)
    cases r with
    | error j =>
      obtain rfl := hg4
      have HB4 := (show Hid _ from hb4); clear hb4 ho4
      go_wp2_with fail
      exact ⟨rfl, HB4.out, rfl⟩
    | ok k4 =>
      obtain ⟨⟨n0, n1, n2, n3, rfl⟩, hs4⟩ := hg4
      have hk4 : k + 1 ≤ k4 := hin.1
      have hS5 := HB3.out.2.outp (c' := c - 1) ho4 hs4 (by omega)
      obtain ⟨⟨m0, d0⟩, e0⟩ := hS5.set.cell 0 (by omega)
      obtain ⟨⟨m1, d1⟩, e1⟩ := hS5.set.cell 1 (by omega)
      obtain ⟨⟨m2, d2⟩, e2⟩ := hS5.set.cell 2 (by omega)
      obtain ⟨⟨m3, d3⟩, e3⟩ := hS5.set.cell 3 (by omega)
      obtain ⟨u0, u1, u2, u3⟩ := wrote_cells hS5.set n0 n1 n2 n3
      have hS6 := hS5.outb (wrote_out w4 w.heap.size n0 n1 n2 n3) (wrote_set hS5.set n0 n1 n2 n3)
      have hb6 := hb4.trans ((wrote_out w4 w.heap.size n0 n1 n2 n3).lowb hLw (by have := hS5.st.low; omega))
      have hnet := hS6.1.net
      have HOF : Hid (Calls Try.prog 94 #[.pointer (some ⟨q, 0, none⟩), .agg #[.int .u64 n0, .int .u64 n1, .int .u64 n2, .int .u64 n3]] (wrote w4 w.heap.size n0 n1 n2 n3).drew fun e w' => Plc L p q s k4 (c - 1) e (wrote w4 w.heap.size n0 n1 n2 n3).drew w') := oneOf_st (hS6.st.drewN 1) (by omega) n0 n1 n2 n3
      have HB6 := (show Hid _ from belDrew hb6); clear hS5 hS6 hb6 hb4 ho4 hs4
      go_wp2_with fail
      change Code.wp _ _ _ _ (wrote w4 w.heap.size n0 n1 n2 n3)
      clear d0 d1 d2 d3 e0 e1 e2 e3 HQ HQ2 HQ3 HC1 HC2 HC3 HST HB0 HB1 HB2 HB3 HS0
      generalize wrote w4 w.heap.size n0 n1 n2 n3 = W at *
      go_region_with (go_at_call 94; refine Calls.mono HOF.out ?_; rintro e w5 ⟨⟨v, rfl, f, cc, rfl⟩, hb7, hs7⟩)
      all_goals
        have HS7 := (show Hid _ from (⟨HB6.out.trans hb7, hs7⟩ : _ ∧ _)); clear hb7 hs7
        go_wp2_with fail
        go_ret
        exact ⟨HS7.out.1, ⟨_, rfl, _, _, rfl⟩, HS7.out.2.mono (by omega)⟩
  have hr : xAtom pC s k = (match xOne sOut s k with
    | .error j => .error j
    | .ok (_, k1) => .ok k1) := by
    unfold xAtom
    rw [if_neg (by rw [h40]; simp), if_neg (by rw [h46]; simp), if_neg (by rw [h91]; simp)]
    cases xOne sOut s k <;> rfl
  rw [hr]
  have HC3 : Hid (∀ w', St w' L p q s k c → Calls Try.prog 65 #[.pointer (some ⟨p, 0, none⟩), .int .u8 91] w' fun e w'' => e = .returned (.bool false) ∧ Out p (p + 1) w' w'' ∧ St w'' L p q s k c) := fun w' h' => by
    have := sees_st 91 h'
    rwa [h91] at this
  have HST : Hid (∀ w', St w' L p q s k c → Calls Try.prog 93 #[.pointer (some ⟨p, 0, none⟩), .string ⟨#[124, 42, 43, 63, 40, 41, 46, 91, 93, 92]⟩] w' fun e w'' => Out p (p + 1) w' w'' ∧ Got (xOne sOut s k) p q s e w'') := fun w' h' => one_any ⟨#[124, 42, 43, 63, 40, 41, 46, 91, 93, 92]⟩ w' h'.scn
  have hin := xOne_in (l := sOut) hsz
  clear hr h40 h46 h91
  generalize xOne sOut s k = r at *
  go_enter Try.func82, Try.ntmps82
  go_wp2_with fail
  refine Calls.mono HC1.out ?_
  rintro e w1 ⟨rfl, ho1, hs1⟩
  have HQ := (show Hid _ from HC2.out w1 hs1)
  have HB1 := (show Hid _ from (⟨HB0.out.trans (ho1.low ⟨hlow.1, by simp; omega⟩), Sb.outp HS0.out ho1 hs1.1 (Nat.le_refl _)⟩ : _ ∧ _)); clear ho1 hs1
  go_wp2_with fail
  refine Calls.mono HQ.out ?_
  rintro e w2 ⟨rfl, ho2, hs2⟩
  have HQ2 := (show Hid _ from HC3.out w2 hs2)
  have HB2 := (show Hid _ from (⟨HB1.out.1.trans (ho2.low HB1.out.2.st.low), HB1.out.2.outp ho2 hs2.1 (Nat.le_refl _)⟩ : _ ∧ _)); clear ho2 hs2
  go_wp2_with fail
  refine Calls.mono HQ2.out ?_
  rintro e w3 ⟨rfl, ho3, hs3⟩
  have HQ3 := (show Hid _ from HST.out w3 hs3)
  have HB3 := (show Hid _ from (⟨HB2.out.1.trans (ho3.low HB2.out.2.st.low), HB2.out.2.outp ho3 hs3.1 (Nat.le_refl _)⟩ : _ ∧ _)); clear ho3 hs3
  go_wp2_with fail
  refine Calls.mono HQ3.out ?_
  rintro e w4 ⟨ho4, hg4⟩
  have hb4 := HB3.out.1.trans (ho4.low HB3.out.2.st.low)
  rcases hg4.ok with ⟨b, k4, rfl, rfl, hs4⟩ | ⟨j, rfl, rfl⟩
  case inr =>
    have HB4 := (show Hid _ from hb4); clear hb4 ho4 hg4
    dsimp only
    go_wp2_with fail
    exact ⟨rfl, HB4.out, rfl⟩
  have hk4 : k < k4 := hin.1
  have hS5 := HB3.out.2.outp (c' := c - 1) ho4 hs4 (by omega)
  have HA := (show Hid _ from addAll_any b b _ hS5.set)
  have HB5 := (show Hid _ from (⟨hb4, hS5⟩ : _ ∧ _)); clear hS5 hb4 ho4 hs4 hg4 hin
  dsimp only
  go_wp2_with fail
  refine Calls.mono HA.out ?_
  rintro e w6 ⟨rfl, ho6, hs6⟩
  have hS6 := HB5.out.2.outb ho6 hs6
  have hb6 := HB5.out.1.trans (ho6.lowb hLw (by have := HB5.out.2.st.low; omega))
  obtain ⟨⟨n0, u0⟩, _⟩ := hs6.cell 0 (by omega)
  obtain ⟨⟨n1, u1⟩, _⟩ := hs6.cell 1 (by omega)
  obtain ⟨⟨n2, u2⟩, _⟩ := hs6.cell 2 (by omega)
  obtain ⟨⟨n3, u3⟩, _⟩ := hs6.cell 3 (by omega)
  have hnet := hS6.1.net
  have HOF : Hid (Calls Try.prog 94 #[.pointer (some ⟨q, 0, none⟩), .agg #[.int .u64 n0, .int .u64 n1, .int .u64 n2, .int .u64 n3]] w6.drew fun e w' => Plc L p q s k4 (c - 1) e w6.drew w') := oneOf_st (hS6.st.drewN 1) (by omega) n0 n1 n2 n3
  have HB6 := (show Hid _ from belDrew hb6); clear hS6 hb6 ho6 hs6
  clear HQ HQ2 HQ3 HC1 HC2 HC3 HST HB0 HB1 HB2 HB3 HS0 HA HB5
  go_wp2_with fail
  go_region_with (go_at_call 94; refine Calls.mono HOF.out ?_; rintro e w5 ⟨⟨v, rfl, f, cc, rfl⟩, hb7, hs7⟩)
  all_goals
    have HS7 := (show Hid _ from (⟨HB6.out.trans hb7, hs7⟩ : _ ∧ _)); clear hb7 hs7
    go_wp2_with fail
    go_ret
    exact ⟨HS7.out.1, ⟨_, rfl, _, _, rfl⟩, HS7.out.2.mono (by omega)⟩
end Go.Proofs.Ythmdoplickpmaai
