import Derived.Test.YthmdoplickpmaaiRxNet2
namespace Go.Proofs.Ythmdoplickpmaai
open Go.RowKit Go.Deep Go.Lib
set_option linter.unusedVariables false
set_option maxRecDepth 100000
set_option linter.unusedSimpArgs false

/-- The scanner and its net; c: how many places the net has ahead of the bytes that are read. -/
def St (w : World) (L p q : Nat) (s : ByteArray) (k c : Nat) : Prop := Scn w p q s k ∧ p ≠ q ∧ L ≤ p ∧ ∃ n g, Net w L q n g ∧ g ≠ p ∧ n + s.size ≤ k + c
theorem St.scn {w : World} {L p q k c : Nat} {s : ByteArray} (h : St w L p q s k c) : Scn w p q s k := h.1
theorem St.low {w : World} {L p q k c : Nat} {s : ByteArray} (h : St w L p q s k c) : L ≤ p ∧ p < w.heap.size := ⟨h.2.2.1, h.1.lt⟩
theorem Out.low {L p : Nat} {w w' : World} (h : Out p (p + 1) w w') (hp : L ≤ p ∧ p < w.heap.size) : Below L w w' := ⟨h.1, h.2.1, h.2.2.1, h.2.2.2.1, fun k hk => h.2.2.2.2 k (by omega) (by omega)⟩
theorem St.out {w w' : World} {L p q k c k' c' : Nat} {s : ByteArray} (h : St w L p q s k c) (ho : Out p (p + 1) w w') (hs : Scn w' p q s k') (hk : k + c ≤ k' + c') : St w' L p q s k' c' := by
  obtain ⟨h1, h2, h3, n, g, h4, h5, h6⟩ := h
  have hl := h4.lt
  exact ⟨hs, h2, h3, n, g, h4.keep (ho.2.2.2.2 q hl.1 (by omega)) (ho.2.2.2.2 g hl.2.1 (by omega)), h5, by omega⟩
theorem St.keep {w w' : World} {L p q k c : Nat} {s : ByteArray} (h : St w L p q s k c) (ho : Out p (p + 1) w w') (hs : Scn w' p q s k) : St w' L p q s k c := h.out ho hs (Nat.le_refl _)
theorem St.still {w w' : World} {L p q k c : Nat} {s : ByteArray} (h : St w L p q s k c) (hb : Below w.heap.size w w') : St w' L p q s k c := h.out (Out.of_below hb) (h.1.still hb) (Nat.le_refl _)
theorem St.drewN {w : World} {L p q k c : Nat} {s : ByteArray} (h : St w L p q s k c) (m : Nat) : St (w.drewN m) L p q s k c := h.keep (Out.drewN (Out.refl _ _ _) m) (h.1.drewN m)
theorem St.mono {w : World} {L p q k c c' : Nat} {s : ByteArray} (h : St w L p q s k c) (hc : c ≤ c') : St w L p q s k c' := h.out (Out.refl _ _ _) h.1 (by omega)
/-- A place was made. -/
def Plc (L p q : Nat) (s : ByteArray) (k c : Nat) (e : Ending) (w w' : World) : Prop := (∃ v, e = .returned v ∧ FnV v) ∧ Below L w w' ∧ St w' L p q s k (c + 1)
theorem made_of {w w' : World} {L p q k c n g : Nat} {s : ByteArray} {e : Ending} (h1 : Scn w p q s k) (h2 : p ≠ q) (h3 : L ≤ p) (h4 : Net w L q n g) (h5 : g ≠ p) (h6 : n + s.size ≤ k + c) (hg : Grew L q n g e w w') : Plc L p q s k c e w w' := by
  obtain ⟨hv, g', hN, hgg, ho⟩ := hg
  have hl := h4.lt
  have hp := h1.lt
  exact ⟨hv, ho.below hl.2.2.1 hl.2.2.2.1 (by omega), h1.keep (ho.2.2.2.2 p hp (by omega) (by omega)), h2, h3, n + 1, g', hN, by omega, by omega⟩
theorem either_st {w : World} {L p q k c : Nat} {s : ByteArray} (h : St w L p q s k c) (hc : c ≤ 10000) {v1 v2 : Value} (hv1 : FnV v1) (hv2 : FnV v2) :
    Calls Try.prog 66 #[.pointer (some ⟨q, 0, none⟩), v1, v2] w fun e w' => Plc L p q s k c e w w' := by
  obtain ⟨f1, c1, rfl⟩ := hv1
  obtain ⟨f2, c2, rfl⟩ := hv2
  obtain ⟨h1, h2, h3, n, g, h4, h5, h6⟩ := h
  have := h1.1
  exact (either_any w h4 (by omega)).mono fun e w' hg => made_of h1 h2 h3 h4 h5 h6 hg
theorem anyTimes_st {w : World} {L p q k c : Nat} {s : ByteArray} (h : St w L p q s k c) (hc : c ≤ 10000) {v1 : Value} (hv1 : FnV v1) :
    Calls Try.prog 83 #[.pointer (some ⟨q, 0, none⟩), v1] w fun e w' => Plc L p q s k c e w w' := by
  obtain ⟨f1, c1, rfl⟩ := hv1
  obtain ⟨h1, h2, h3, n, g, h4, h5, h6⟩ := h
  have := h1.1
  exact (anyTimes_any w h4 (by omega)).mono fun e w' hg => made_of h1 h2 h3 h4 h5 h6 hg
theorem onceOrMore_st {w : World} {L p q k c : Nat} {s : ByteArray} (h : St w L p q s k c) (hc : c ≤ 10000) {v1 : Value} (hv1 : FnV v1) :
    Calls Try.prog 84 #[.pointer (some ⟨q, 0, none⟩), v1] w fun e w' => Plc L p q s k c e w w' := by
  obtain ⟨f1, c1, rfl⟩ := hv1
  obtain ⟨h1, h2, h3, n, g, h4, h5, h6⟩ := h
  have := h1.1
  exact (onceOrMore_any w h4 (by omega)).mono fun e w' hg => made_of h1 h2 h3 h4 h5 h6 hg
theorem sequence_st {w : World} {L p q k c : Nat} {s : ByteArray} (h : St w L p q s k c) {v1 v2 : Value} (hv1 : FnV v1) (hv2 : FnV v2) :
    Calls Try.prog 72 #[v1, v2] w fun e w' => (∃ v, e = .returned v ∧ FnV v) ∧ Below L w w' ∧ St w' L p q s k c := by
  obtain ⟨f1, c1, rfl⟩ := hv1
  obtain ⟨f2, c2, rfl⟩ := hv2
  have hl := h.low
  exact (sequence_any w).mono fun e w' hg => ⟨hg.1, hg.2.mono (by omega), h.still hg.2⟩
theorem oneOf_st {w : World} {L p q k c : Nat} {s : ByteArray} (h : St w L p q s k c) (hc : c ≤ 10000) (n0 n1 n2 n3 : Int) :
    Calls Try.prog 94 #[.pointer (some ⟨q, 0, none⟩), .agg #[.int .u64 n0, .int .u64 n1, .int .u64 n2, .int .u64 n3]] w fun e w' => Plc L p q s k c e w w' := by
  obtain ⟨h1, h2, h3, n, g, h4, h5, h6⟩ := h
  have := h1.1
  exact (oneOf_any n0 n1 n2 n3 w h4 (by omega)).mono fun e w' hg => made_of h1 h2 h3 h4 h5 h6 hg
/-- A part was read, or it is a fault. -/
def CGot (r : Except Nat Nat) (L p q : Nat) (s : ByteArray) (c : Nat) (e : Ending) (w' : World) : Prop := match r with
  | .ok k => (∃ v, e = .returned v ∧ FnV v) ∧ St w' L p q s k c
  | .error j => e = .panicked [flt j]
/-- What is asked of a choice's code. -/
def CDoes (pC : Nat → Except Nat Nat) (L p q : Nat) (s : ByteArray) (k : Nat) : Prop := ∀ k' w c, k < k' → c ≤ 1000 → St w L p q s k' c → Calls Try.prog 58 #[.pointer (some ⟨p, 0, none⟩)] w fun e w' => Below L w w' ∧ CGot (pC k') L p q s c e w'

set_option maxHeartbeats 800000 in
theorem group_any {pC : Nat → Except Nat Nat} {L p q k c : Nat} {s : ByteArray} (w : World) (hC : CDoes pC L p q s k) (hg : RxGood s k pC) (h : St w L p q s k c) (hc : c ≤ 1000) (h40 : seesB s k 40 = true) :
    Calls Try.prog 89 #[.pointer (some ⟨p, 0, none⟩)] w fun e w' => Below L w w' ∧ CGot (xAtom pC s k) L p q s c e w' := by
  have hlt := seesB_lt h40
  have hp := pass_any 40 w h.scn
  have HP : Hid (Calls Try.prog 98 #[.pointer (some ⟨p, 0, none⟩), .int .u8 40] w fun e w' => e = .returned (.tuple #[]) ∧ Below L w w' ∧ St w' L p q s (k + 1) c) := hp.mono (fun e w' ⟨ho, hc⟩ => by
    rcases hc with ⟨_, he, hs'⟩ | ⟨hf, _⟩
    · exact ⟨he, ho.low h.low, h.out ho hs' (by omega)⟩
    · rw [h40] at hf; cases hf)
  have hin := hg (k + 1) (Nat.lt_succ_self _) hlt
  have hcc := fun w' (h' : St w' L p q s (k + 1) c) => hC (k + 1) w' c (Nat.lt_succ_self _) hc h'
  have hr : xAtom pC s k = (match pC (k + 1) with
    | .error j => .error j
    | .ok k1 => if seesB s k1 41 then .ok (k1 + 1) else .error k1) := by unfold xAtom; rw [if_pos h40]; cases pC (k + 1) <;> rfl
  rw [hr]
  clear hr hp h40 hC hg h
  cases hr1 : pC (k + 1) with
  | error j =>
    rw [hr1] at hcc
    have HC := (show Hid _ from hcc); clear hcc hr1 hin
    dsimp only
    go_enter Try.func89, Try.ntmps89
    go_wp2_with fail
    refine Calls.mono HP.out ?_
    rintro e w1 ⟨rfl, hb1, hs1⟩
    have HQ := (show Hid _ from HC.out w1 hs1); clear hs1
    go_wp2_with fail
    refine Calls.mono HQ.out ?_
    rintro e w2 ⟨hb2, rfl⟩
    go_wp2_with fail
    exact ⟨rfl, hb1.trans hb2, rfl⟩
  | ok k1 =>
    rw [hr1] at hcc hin
    have HC := (show Hid _ from hcc); clear hcc hr1 hin
    dsimp only
    have hps := fun w' (h' : St w' L p q s k1 c) => pass_any 41 w' h'.scn
    cases h41 : seesB s k1 41
    case true =>
      rw [if_pos rfl]
      have HPS : Hid (∀ w', St w' L p q s k1 c → Calls Try.prog 98 #[.pointer (some ⟨p, 0, none⟩), .int .u8 41] w' fun e w'' => e = .returned (.tuple #[]) ∧ Below L w' w'' ∧ St w'' L p q s (k1 + 1) c) := fun w' h' => (hps w' h').mono (fun e w'' ⟨ho, hc⟩ => by
        rcases hc with ⟨_, he, hs'⟩ | ⟨hf, _⟩
        · exact ⟨he, ho.low h'.low, h'.out ho hs' (by omega)⟩
        · rw [h41] at hf; cases hf)
      clear hps h41
      go_enter Try.func89, Try.ntmps89
      go_wp2_with fail
      refine Calls.mono HP.out ?_
      rintro e w1 ⟨rfl, hb1, hs1⟩
      have HQ := (show Hid _ from HC.out w1 hs1); clear hs1
      go_wp2_with fail
      refine Calls.mono HQ.out ?_
      rintro e w2 ⟨hb2, ⟨v, rfl, f, cc, rfl⟩, hs2⟩
      have HQ2 := (show Hid _ from HPS.out w2 hs2); clear hs2
      go_wp2_with fail
      refine Calls.mono HQ2.out ?_
      rintro e w3 ⟨rfl, hb3, hs3⟩
      have HS3 := (show Hid _ from hs3); clear hs3
      go_wp2_with fail
      go_ret
      exact ⟨(hb1.trans hb2).trans hb3, ⟨_, rfl, _, _, rfl⟩, HS3.out⟩
    case false =>
      rw [if_neg (by simp)]
      have HPS : Hid (∀ w', St w' L p q s k1 c → Calls Try.prog 98 #[.pointer (some ⟨p, 0, none⟩), .int .u8 41] w' fun e w'' => e = .panicked [flt k1] ∧ Below L w' w'') := fun w' h' => (hps w' h').mono (fun e w'' ⟨ho, hc⟩ => by
        rcases hc with ⟨hf, _, _⟩ | ⟨_, he⟩
        · rw [h41] at hf; cases hf
        · exact ⟨he, ho.low h'.low⟩)
      clear hps h41
      go_enter Try.func89, Try.ntmps89
      go_wp2_with fail
      refine Calls.mono HP.out ?_
      rintro e w1 ⟨rfl, hb1, hs1⟩
      have HQ := (show Hid _ from HC.out w1 hs1); clear hs1
      go_wp2_with fail
      refine Calls.mono HQ.out ?_
      rintro e w2 ⟨hb2, ⟨v, rfl, f, cc, rfl⟩, hs2⟩
      have HQ2 := (show Hid _ from HPS.out w2 hs2); clear hs2
      go_wp2_with fail
      refine Calls.mono HQ2.out ?_
      rintro e w3 ⟨rfl, hb3⟩
      go_wp2_with fail
      exact ⟨rfl, (hb1.trans hb2).trans hb3, rfl⟩
end Go.Proofs.Ythmdoplickpmaai
