import Derived.Test.YthmdoplickpmaahScan6
import Derived.Deep.AppendLies
namespace Go.Proofs.Ythmdoplickpmaah
open Go.RowKit Go.Deep Go.Lib
set_option linter.unusedVariables false
set_option maxRecDepth 100000
set_option linter.unusedSimpArgs false

/-- The next Kid: none, or one, or a fault. -/
def pKid (pT : Nat → Except Nat (Tr × Nat)) (s : ByteArray) (fb : Bool) (k : Nat) : Except Nat (Option (Tr × Nat)) :=
  if seesB s (skip s k) 41 then .ok none
  else if skip s k = k ∧ ¬ (fb = true ∧ seesB s k 40 = true) then .error k
  else match pT (skip s k) with
    | .error j => .error j
    | .ok r => .ok (some r)
theorem pKids_kid {pT : Nat → Except Nat (Tr × Nat)} {s : ByteArray} {f k : Nat} {l : List Tr} : pKids pT s (f + 1) k l = (match pKid pT s l.isEmpty k with
    | .error j => .error j
    | .ok none => .ok (l, skip s k)
    | .ok (some r) => pKids pT s f r.2 (l ++ [r.1])) := by
  rw [pKids]
  unfold pKid
  by_cases h1 : seesB s (skip s k) 41 = true
  · rw [if_pos h1, if_pos h1]
  · rw [if_neg h1, if_neg h1]
    by_cases h2 : skip s k = k ∧ ¬ (l.isEmpty = true ∧ seesB s k 40 = true)
    · have h3 : skip s k = k ∧ ¬ (l = [] ∧ seesB s k 40 = true) := by simpa using h2
      rw [if_pos h2, if_pos h3]
    · have h3 : ¬ (skip s k = k ∧ ¬ (l = [] ∧ seesB s k 40 = true)) := by simpa using h2
      rw [if_neg h2, if_neg h3]
      cases pT (skip s k) with
      | error j => rfl
      | ok r => rfl
/-- What kid answers. -/
def KGot (r : Except Nat (Option (Tr × Nat))) (B p : Nat) (s : ByteArray) (k : Nat) (e : Ending) (w' : World) : Prop := match r with
  | .error j => e = .panicked [flt j]
  | .ok none => e = .returned (.tuple #[.nilIface, .bool false]) ∧ Scn w' p s (skip s k)
  | .ok (some a) => ∃ u, e = .returned (.tuple #[u, .bool true]) ∧ Frm w' (fun b => B ≤ b) a.1 u ∧ Scn w' p s a.2

set_option maxHeartbeats 3200000 in
theorem kid_any {p d k : Nat} {s : ByteArray} (fb : Bool) (hT : ∀ (w : World) (k : Nat), Scn w p s k → s.size - k < d → Calls Try.prog 51 #[.pointer (some ⟨p, 0, none⟩)] w fun e w' => Out p (p + 1) w w' ∧ TGot (pTree s d k) w.heap.size p s e w')
    (w : World) (h : Scn w p s k) (hd : s.size - k < d) :
    Calls Try.prog 68 #[.pointer (some ⟨p, 0, none⟩), .bool fb] w fun e w' => Out p (p + 1) w w' ∧ KGot (pKid (pTree s d) s fb k) w.heap.size p s k e w' := by
  have hk := h.1
  have hs := h.2.1
  have hp := h.lt
  have hsk := skip_le hk
  have HBL := (show Hid _ from blanks_any w h); clear h
  have HT := (show Hid _ from hT); clear hT
  have HS1 := (show Hid _ from fun w1 (h1 : Scn w1 p s (skip s k)) => sees_any 41 w1 h1)
  have HS4 := (show Hid _ from fun w1 (h1 : Scn w1 p s (skip s k)) => sees_any 40 w1 h1)
  have HFL := (show Hid _ from fun w1 (h1 : Scn w1 p s (skip s k)) => fault_any w1 h1)
  have HTR := (show Hid _ from fun w1 (h1 : Scn w1 p s (skip s k)) => HT.out w1 (skip s k) h1 (by omega)); clear HT
  cases h41 : seesB s (skip s k) 41
  case true =>
    rw [h41] at HS1
    have hr : pKid (pTree s d) s fb k = .ok none := by unfold pKid; rw [if_pos h41]
    rw [hr]
    clear hr h41
    go_enter Try.func68, Try.ntmps68
    go_wp2_with fail
    refine Calls.mono HBL.out ?_
    rintro e w1 ⟨rfl, ho1, hs1⟩
    have H1 := (show Hid _ from HS1.out w1 hs1)
    have HO := (show Hid _ from ho1); clear ho1 hs1
    go_wp2_with fail
    refine Calls.mono H1.out ?_
    rintro e w2 ⟨rfl, ho2, hs2⟩
    have HO2 := (show Hid _ from (⟨Out.trans HO.out ho2, hs2⟩ : _ ∧ _)); clear ho2 hs2
    go_wp2_with fail
    refine bodyPost_ret (v := .tuple #[.nilIface, .bool false]) (by simp [results, Try.results68, go_sem]) rfl ⟨HO2.out.1, rfl, HO2.out.2⟩
  rw [h41] at HS1
  have hbt : ∀ (hne : ¬ (skip s k = k ∧ ¬ (fb = true ∧ seesB s k 40 = true))), pKid (pTree s d) s fb k = (match pTree s d (skip s k) with
    | .error j => .error j
    | .ok r => .ok (some r)) := fun hne => by unfold pKid; rw [if_neg (by rw [h41]; simp), if_neg hne]
  have hbf : ∀ (hne : skip s k = k ∧ ¬ (fb = true ∧ seesB s k 40 = true)), pKid (pTree s d) s fb k = .error k := fun hne => by unfold pKid; rw [if_neg (by rw [h41]; simp), if_pos hne]
  clear h41
  generalize pKid (pTree s d) s fb k = R at *
  generalize pTree s d (skip s k) = T at *
  by_cases hpt : skip s k = k
  case neg =>
    have hR := hbt (fun h => hpt h.1)
    clear hbt hbf
    have hdt : decide (k < skip s k) = true := by simp; omega
    rw [hdt] at HBL
    clear hdt hpt
    cases T with
    | error j =>
      dsimp only at hR
      subst hR
      go_enter Try.func68, Try.ntmps68
      go_wp2_with fail
      refine Calls.mono HBL.out ?_
      rintro e w1 ⟨rfl, ho1, hs1⟩
      have H1 := (show Hid _ from HS1.out w1 hs1)
      have HO := (show Hid _ from ho1); clear ho1 hs1
      go_wp2_with fail
      refine Calls.mono H1.out ?_
      rintro e w2 ⟨rfl, ho2, hs2⟩
      have H2 := (show Hid _ from HTR.out w2 hs2)
      have HO2 := (show Hid _ from Out.trans HO.out ho2); clear ho2 hs2
      go_wp2_with fail
      refine Calls.mono H2.out ?_
      rintro e w3 ⟨ho3, hg3⟩
      obtain rfl : e = .panicked [flt j] := hg3
      have HO3 := (show Hid _ from Out.trans HO2.out ho3); clear ho3
      go_wp2_with fail
      exact ⟨rfl, HO3.out, rfl⟩
    | ok r =>
      dsimp only at hR
      subst hR
      go_enter Try.func68, Try.ntmps68
      go_wp2_with fail
      refine Calls.mono HBL.out ?_
      rintro e w1 ⟨rfl, ho1, hs1⟩
      have H1 := (show Hid _ from HS1.out w1 hs1)
      have HO := (show Hid _ from ho1); clear ho1 hs1
      go_wp2_with fail
      refine Calls.mono H1.out ?_
      rintro e w2 ⟨rfl, ho2, hs2⟩
      have H2 := (show Hid _ from HTR.out w2 hs2)
      have HO2 := (show Hid _ from Out.trans HO.out ho2); clear ho2 hs2
      go_wp2_with fail
      refine Calls.mono H2.out ?_
      rintro e w3 ⟨ho3, u, rfl, hf3, hs3⟩
      obtain ⟨TT, XX, rfl⟩ := hf3.iface
      have hsz2 := HO2.out.2.2.2.1
      have HO3 := (show Hid _ from (⟨Out.trans HO2.out ho3, Frm.mono (S' := fun b => w.heap.size ≤ b) (fun b (hb : w2.heap.size ≤ b) _ => by omega) hf3, hs3⟩ : _ ∧ _ ∧ _)); clear ho3 hf3 hs3 hsz2
      go_wp2_with fail
      refine bodyPost_ret (v := .tuple #[.iface TT XX, .bool true]) (by simp [results, Try.results68, go_sem]) rfl ⟨HO3.out.1, _, rfl, HO3.out.2⟩
  have hdt : decide (k < skip s k) = false := by simp; omega
  rw [hdt] at HBL
  clear hdt
  cases fb
  case false =>
    have hR := hbf ⟨hpt, by simp⟩
    clear hbt hbf
    subst hR
    have HPT := (show Hid _ from hpt)
    clear hpt hsk
    generalize hsk : skip s k = K at *
    have hKk : K = k := HPT.out
    subst hKk
    clear hsk HPT
    go_enter Try.func68, Try.ntmps68
    go_wp2_with fail
    refine Calls.mono HBL.out ?_
    rintro e w1 ⟨rfl, ho1, hs1⟩
    have H1 := (show Hid _ from HS1.out w1 hs1)
    have HO := (show Hid _ from ho1); clear ho1 hs1
    go_wp2_with fail
    refine Calls.mono H1.out ?_
    rintro e w2 ⟨rfl, ho2, hs2⟩
    have H2 := (show Hid _ from HFL.out w2 hs2)
    have HO2 := (show Hid _ from Out.trans HO.out ho2); clear ho2 hs2
    go_wp2_with fail
    refine Calls.mono H2.out ?_
    rintro e w3 ⟨rfl, hb3⟩
    go_wp2_with fail
    exact ⟨rfl, Out.trans HO2.out (Out.of_below hb3), rfl⟩
  case true =>
    have HPT := (show Hid _ from hpt)
    clear hpt hsk
    generalize hsk : skip s k = K at *
    have hKk : K = k := HPT.out
    subst hKk
    clear hsk HPT
    cases h40 : seesB s K 40
    · rw [h40] at HS4
      have hR := hbf ⟨rfl, by simp [h40]⟩
      clear hbt hbf h40
      subst hR
      go_enter Try.func68, Try.ntmps68
      go_wp2_with fail
      refine Calls.mono HBL.out ?_
      rintro e w1 ⟨rfl, ho1, hs1⟩
      have H1 := (show Hid _ from HS1.out w1 hs1)
      have HO := (show Hid _ from ho1); clear ho1 hs1
      go_wp2_with fail
      refine Calls.mono H1.out ?_
      rintro e w2 ⟨rfl, ho2, hs2⟩
      have H2 := (show Hid _ from HS4.out w2 hs2)
      have HO2 := (show Hid _ from Out.trans HO.out ho2); clear ho2 hs2
      go_wp2_with fail
      refine Calls.mono H2.out ?_
      rintro e w3 ⟨rfl, ho3, hs3⟩
      have H3 := (show Hid _ from HFL.out w3 hs3)
      have HO3 := (show Hid _ from Out.trans HO2.out ho3); clear ho3 hs3
      go_wp2_with fail
      refine Calls.mono H3.out ?_
      rintro e w4 ⟨rfl, hb4⟩
      go_wp2_with fail
      exact ⟨rfl, Out.trans HO3.out (Out.of_below hb4), rfl⟩
    · rw [h40] at HS4
      have hR := hbt (by simp [h40])
      clear hbt hbf h40
      cases T with
      | error j =>
        dsimp only at hR
        subst hR
        go_enter Try.func68, Try.ntmps68
        go_wp2_with fail
        refine Calls.mono HBL.out ?_
        rintro e w1 ⟨rfl, ho1, hs1⟩
        have H1 := (show Hid _ from HS1.out w1 hs1)
        have HO := (show Hid _ from ho1); clear ho1 hs1
        go_wp2_with fail
        refine Calls.mono H1.out ?_
        rintro e w2 ⟨rfl, ho2, hs2⟩
        have H2 := (show Hid _ from HS4.out w2 hs2)
        have HO2 := (show Hid _ from Out.trans HO.out ho2); clear ho2 hs2
        go_wp2_with fail
        refine Calls.mono H2.out ?_
        rintro e w3 ⟨rfl, ho3, hs3⟩
        have H3 := (show Hid _ from HTR.out w3 hs3)
        have HO3 := (show Hid _ from Out.trans HO2.out ho3); clear ho3 hs3
        go_wp2_with fail
        refine Calls.mono H3.out ?_
        rintro e w4 ⟨ho4, hg4⟩
        obtain rfl : e = .panicked [flt j] := hg4
        have HO4 := (show Hid _ from Out.trans HO3.out ho4); clear ho4
        go_wp2_with fail
        exact ⟨rfl, HO4.out, rfl⟩
      | ok r =>
        dsimp only at hR
        subst hR
        go_enter Try.func68, Try.ntmps68
        go_wp2_with fail
        refine Calls.mono HBL.out ?_
        rintro e w1 ⟨rfl, ho1, hs1⟩
        have H1 := (show Hid _ from HS1.out w1 hs1)
        have HO := (show Hid _ from ho1); clear ho1 hs1
        go_wp2_with fail
        refine Calls.mono H1.out ?_
        rintro e w2 ⟨rfl, ho2, hs2⟩
        have H2 := (show Hid _ from HS4.out w2 hs2)
        have HO2 := (show Hid _ from Out.trans HO.out ho2); clear ho2 hs2
        go_wp2_with fail
        refine Calls.mono H2.out ?_
        rintro e w3 ⟨rfl, ho3, hs3⟩
        have H3 := (show Hid _ from HTR.out w3 hs3)
        have HO3 := (show Hid _ from Out.trans HO2.out ho3); clear ho3 hs3
        go_wp2_with fail
        refine Calls.mono H3.out ?_
        rintro e w4 ⟨ho4, u, rfl, hf4, hs4⟩
        obtain ⟨TT, XX, rfl⟩ := hf4.iface
        have hsz2 := HO3.out.2.2.2.1
        have HO4 := (show Hid _ from (⟨Out.trans HO3.out ho4, Frm.mono (S' := fun b => w.heap.size ≤ b) (fun b (hb : w3.heap.size ≤ b) _ => by omega) hf4, hs4⟩ : _ ∧ _ ∧ _)); clear ho4 hf4 hs4 hsz2
        go_wp2_with fail
        refine bodyPost_ret (v := .tuple #[.iface TT XX, .bool true]) (by simp [results, Try.results68, go_sem]) rfl ⟨HO4.out.1, _, rfl, HO4.out.2⟩

theorem make_func (fn : Fn) (first cap : Array Value) (w : World) : (Instr.makeFunc fn first cap).run Try.prog w = .ok (.func fn first cap) w := rfl

/-- What listOf reads. -/
def LGot (r : Except Nat (List Tr × Nat)) (B p : Nat) (s : ByteArray) (e : Ending) (w' : World) : Prop := match r with
  | .error j => e = .panicked [flt j]
  | .ok a => ∃ (aa : Option Addr) (cap b : Nat) (fv : Nat → Value), e = .returned (.slice aa a.1.length cap) ∧ a.1.length ≤ cap ∧ cap ≤ maxLen ∧ (0 < a.1.length → aa = some ⟨b, 0, none⟩ ∧ B ≤ b ∧ b < w'.heap.size) ∧
      (∀ i (hi : i < a.1.length), w'.cell? ⟨b, i, none⟩ = some (fv i)) ∧ (∀ i (hi : i < a.1.length), Frm w' (fun b => B ≤ b) a.1[i] (fv i)) ∧ Scn w' p s a.2 ∧ a.1.length ≤ s.size
set_option maxHeartbeats 3200000 in
theorem list_any {p d k : Nat} {s : ByteArray} (hT : ∀ (w : World) (k : Nat), Scn w p s k → s.size - k < d → Calls Try.prog 51 #[.pointer (some ⟨p, 0, none⟩)] w fun e w' => Out p (p + 1) w w' ∧ TGot (pTree s d k) w.heap.size p s e w')
    (w : World) (h : Scn w p s k) (hd : s.size - k < d) :
    Calls Try.prog 67 #[.func (.func 68) #[.pointer (some ⟨p, 0, none⟩)] #[]] w fun e w' => Out p (p + 1) w w' ∧ LGot (pKids (pTree s d) s (s.size + 1 - k) k []) w.heap.size p s e w' := by
  have hs := h.2.1
  have hp := h.lt
  have HK := (show Hid _ from fun (fb : Bool) (w1 : World) (k1 : Nat) (h1 : Scn w1 p s k1) (hd1 : s.size - k1 < d) => kid_any fb hT w1 h1 hd1); clear hT
  have HS := (show Hid _ from h); clear h
  generalize hR : pKids (pTree s d) s (s.size + 1 - k) k [] = R at *
  have HR0 := (show Hid _ from hR); clear hR
  obtain ⟨i55, hi55, hz0, hz1, hz2⟩ := info_parts info55
  go_enter Try.func67, Try.ntmps67
  go_wp2_with fail
  go_loopw [3] (fun u wr => ∃ (j f : Nat) (l : List Tr) (fv : Nat → Value) (a' : Option Addr) (c' : Nat), u = .slice a' l.length c' ∧ k ≤ j ∧ j ≤ s.size ∧ l.length ≤ j - k ∧ s.size - j + 1 ≤ f ∧ Hid (Out p (p + 1) w wr ∧ Scn wr p s j ∧ wr.ownsRow w.heap.size 55 1 (.slice a' l.length c') l.length ((List.range l.length).map fv) ∧ (∀ i (hi : i < l.length), Frm wr (fun b => w.heap.size ≤ b ∧ some b ≠ (Value.slice a' l.length c').ownBlock) l[i] (fv i)) ∧ pKids (pTree s d) s f j l = R)) (fun _ wr => s.size - (intOf ((wr.cell? ⟨p, 1, none⟩).getD (.bool false))).toNat)
  case atStart => exact ⟨k, s.size + 1 - k, [], fun _ => .nilIface, none, 0, rfl, Nat.le_refl _, HS.out.1, Nat.zero_le _, by have := HS.out.1; omega, Out.refl _ _ _, HS.out, World.ownsRow_nil _ _ _ _, fun i hi => absurd hi (Nat.not_lt_zero _), HR0.out⟩
  case round =>
    obtain ⟨j, f, l, fv, a', c', rfl, hkj, hj, hlj, hf, HR⟩ := hrel
    have hfb : ((l.length : Int) == 0) = l.isEmpty := by cases l with
      | nil => rfl
      | cons x y => simp; omega
    have hcl : Calls Try.prog 68 #[.pointer (some ⟨p, 0, none⟩), .bool ((l.length : Int) == 0)] wr fun e w' => Out p (p + 1) wr w' ∧ KGot (pKid (pTree s d) s l.isEmpty j) wr.heap.size p s j e w' := by
      rw [hfb]; exact HK.out l.isEmpty wr j HR.out.2.1 (by omega)
    have HCL := (show Hid _ from hcl); clear hcl hfb
    have hkk : pKids (pTree s d) s f j l = (match pKid (pTree s d) s l.isEmpty j with
      | .error q => .error q
      | .ok none => .ok (l, skip s j)
      | .ok (some r) => pKids (pTree s d) s (f - 1) r.2 (l ++ [r.1])) := by
      obtain ⟨g, rfl⟩ : ∃ g, f = g + 1 := ⟨f - 1, by omega⟩
      exact pKids_kid
    have hft : ∀ r, pKid (pTree s d) s l.isEmpty j = .ok (some r) → j < r.2 ∧ r.2 ≤ s.size := fun r hr => by
      unfold pKid at hr
      split at hr
      · cases hr
      · split at hr
        · cases hr
        · have hq := pTree_fits (s := s) d (skip s j) (skip_le hj).2
          cases hx : pTree s d (skip s j) with
          | error q => rw [hx] at hr; cases hr
          | ok a =>
            rw [hx] at hr hq
            cases hr
            exact ⟨by have := hq.1; have := (skip_le hj).1; omega, hq.2⟩
    have hkr := hkk.symm.trans HR.out.2.2.2.2
    clear hkk
    generalize pKid (pTree s d) s l.isEmpty j = rk at *
    have HKR := (show Hid _ from hkr); clear hkr
    have HFT := (show Hid _ from hft); clear hft
    go_wp2_with fail
    refine Calls.mono HCL.out ?_
    rintro e w3 ⟨ho3, hg3⟩
    cases rk with
    | error q =>
      obtain rfl : e = .panicked [flt q] := hg3
      have HO3 := (show Hid _ from Out.trans HR.out.1 ho3); clear ho3
      go_wp2_with fail
      refine ⟨rfl, HO3.out, ?_⟩
      rw [← HKR.out]
      rfl
    | ok o =>
      cases o with
      | none =>
        obtain ⟨rfl, hs3⟩ := hg3
        have hown3 := own_past HR.out.2.2.1 ho3 hp
        have hfr3 := fun i hi => (HR.out.2.2.2.1 i hi).carry (w' := w3) (S' := fun b => w.heap.size ≤ b) (fun b hS hlt => ⟨hS.1, Nat.lt_of_lt_of_le hlt ho3.2.2.2.1⟩) (fun b o hS hlt => World.cell?_of_block (w := wr) (ho3.2.2.2.2 b hlt (by have := hS.1; omega)))
        have HO3 := (show Hid _ from (⟨Out.trans HR.out.1 ho3, hs3, hown3, hfr3⟩ : _ ∧ _ ∧ _ ∧ _)); clear ho3 hs3 hown3 hfr3
        go_wp2_with fail
        go_ret
        rw [← HKR.out]
        refine ⟨HO3.out.1, ?_⟩
        obtain ⟨_, hs3, hown3, hfr3⟩ := HO3.out
        rcases hown3.2 with ⟨e1, h0⟩ | ⟨g, cap, cur, e1, hB, hg, hnc, hcm, rest⟩
        · obtain ⟨q1, q2, q3⟩ : a' = none ∧ l.length = 0 ∧ c' = 0 := by simpa using e1
          subst q1 q3
          exact ⟨_, _, 0, fv, rfl, by dsimp only; omega, Nat.zero_le _, fun h => absurd h (by dsimp only; omega), fun i hi => absurd hi (by dsimp only; omega), hfr3, hs3, by dsimp only; omega⟩
        · obtain ⟨q1, q3⟩ : a' = some ⟨g, 0, none⟩ ∧ c' = cap := by simpa using e1
          subst q1 q3
          exact ⟨_, _, g, fv, rfl, hnc, hcm, fun _ => ⟨rfl, hB, (Array.getElem?_eq_some_iff.1 hg).1⟩, fun i hi => by dsimp only at hi; rw [hown3.cellAt i (by omega)]; simp [hi], hfr3, hs3, by dsimp only; omega⟩
      | some a =>
        obtain ⟨u, rfl, hf3, hs3⟩ := hg3
        obtain ⟨TT, XX, rfl⟩ := hf3.iface
        obtain ⟨hj4, hj4s⟩ := HFT.out a rfl
        obtain ⟨t3, j4⟩ := a
        dsimp only at hj4 hj4s hs3 hf3 HKR ⊢
        have hown3 := own_past HR.out.2.2.1 ho3 hp
        have hfr3 := fun i hi => (HR.out.2.2.2.1 i hi).carry (w' := w3) (S' := fun b => (w.heap.size ≤ b ∧ some b ≠ (Value.slice a' l.length c').ownBlock) ∧ b < w3.heap.size) (fun b hS hlt => ⟨⟨hS, Nat.lt_of_lt_of_le hlt ho3.2.2.2.1⟩, Nat.lt_of_lt_of_le hlt ho3.2.2.2.1⟩) (fun b o hS hlt => World.cell?_of_block (w := wr) (ho3.2.2.2.2 b hlt (by have := hS.1; omega)))
        have hlt0 := World.ownsRow.lt HR.out.2.2.1
        have hsw := HR.out.1.2.2.2.1
        have hsz3 := ho3.2.2.2.1
        have hf3' : Frm w3 (fun b => (w.heap.size ≤ b ∧ some b ≠ (Value.slice a' l.length c').ownBlock) ∧ b < w3.heap.size) t3 (.iface TT XX) := Frm.mono (fun b (hb : wr.heap.size ≤ b) hlt => ⟨⟨by omega, fun e => by have := (hlt0 b e.symm).2; omega⟩, hlt⟩) hf3
        have HO2 := (show Hid _ from own_still hown3 (bel_alloc w3 (.cells #[.iface TT XX] 55)))
        have HF := (show Hid _ from (⟨Out.trans HR.out.1 ho3, hs3, hfr3, hf3', hlt0⟩ : _ ∧ _ ∧ _ ∧ _ ∧ _)); clear ho3 hs3 hown3 hfr3 hf3 hf3' hlt0
        have hB3 : w.heap.size ≤ w3.heap.size := HF.out.1.2.2.2.1
        go_wp2_with (at_builtin; refine wpList_append_lies _ rfl (.tmp 17) (.tmp 19) 75 rfl w.heap.size 55 i55 _ 1 16 Try.underlying75 hi55 hz0 hz1 hz2 rfl (by decide) _ l.length ((List.range l.length).map fv) rfl HO2.out ⟨w3.heap.size, 0, none⟩ 1 1 [.iface TT XX] rfl rfl ?c1 ?c2 (by decide) ?c3 (by omega) ?c5 _ rfl ?nx)
        case c1 => exact cell_one_box _ _ _
        case c2 => intro u hu; simp at hu; subst hu; rfl
        case c3 => unfold maxLen; omega
        case c5 => simp; omega
        case nx =>
          intro g4 cap4 w4 hown4 hgr4 hat4 hlt4
          obtain ⟨ho, hs3, hfr3, hf3, hlt0⟩ := HF.out
          have hblk : ∀ q, q < w.heap.size → w4.heap[q]? = w3.heap[q]? := fun q hq => (hgr4.block q (by simp; omega) (fun e => by have := (hlt0 q e.symm).1; omega)).trans ((bel_alloc w3 _).block q (by omega))
          have hsz4 : w3.heap.size ≤ w4.heap.size := by have := hgr4.size; simp at this; omega
          have ho4 : Out p (p + 1) w w4 := ⟨hgr4.os.trans ho.1, hgr4.tape.trans ho.2.1, hgr4.output.trans ho.2.2.1, by omega, fun q hq hn => (hblk q hq).trans (ho.2.2.2.2 q hq hn)⟩
          have hs4 := Scn.keep (w' := w4) hs3 (hblk p hp)
          have hmv : ∀ {t : Tr} {v : Value}, Frm w3 (fun b => (w.heap.size ≤ b ∧ some b ≠ (Value.slice a' l.length c').ownBlock) ∧ b < w3.heap.size) t v → Frm w4 (fun b => w.heap.size ≤ b ∧ some b ≠ (Value.slice (some ⟨g4, 0, none⟩) (l.length + 1) cap4).ownBlock) t v := fun h =>
            Frm.mono (fun b hb _ => ⟨hb.1.1, fun e => by
              simp [Value.ownBlock] at e
              subst e
              rcases hat4 with e | e
              · exact hb.1.2 e.symm
              · have := hb.2; omega⟩) ((h.still (bel_alloc w3 (.cells #[.iface TT XX] 55))).grown hgr4 (fun b hb => hb.1.2))
          have hown5 : w4.ownsRow w.heap.size 55 1 (.slice (some ⟨g4, 0, none⟩) (l ++ [t3]).length cap4) (l ++ [t3]).length ((List.range (l ++ [t3]).length).map (fun i => if i = l.length then .iface TT XX else fv i)) := by
            have e : (List.range (l.length + 1)).map (fun i => if i = l.length then .iface TT XX else fv i) = (List.range l.length).map fv ++ [.iface TT XX] := by
              rw [List.range_succ, List.map_append]
              congr 1
              · exact List.map_congr_left fun i hi => if_neg (by have := List.mem_range.1 hi; omega)
              · simp
            rw [List.length_append, List.length_singleton, e]
            exact hown4
          have hfr5 : ∀ i (hi : i < (l ++ [t3]).length), Frm w4 (fun b => w.heap.size ≤ b ∧ some b ≠ (Value.slice (some ⟨g4, 0, none⟩) (l ++ [t3]).length cap4).ownBlock) (l ++ [t3])[i] (if i = l.length then .iface TT XX else fv i) := fun i hi => by
            by_cases e : i = l.length
            · subst e
              simp only [if_true, List.getElem_concat_length]
              exact hmv hf3
            · rw [if_neg e]
              have hi' : i < l.length := by simp at hi; omega
              rw [List.getElem_append_left hi']
              exact hmv (hfr3 i hi')
          have H5 := (show Hid _ from (⟨ho4, hs4, hown5, hfr5, HKR.out⟩ : _ ∧ _ ∧ _ ∧ _ ∧ _)); clear ho4 hs4 hown5 hfr5 hown4 hgr4 hat4 hblk hlt0 ho hs3 hfr3 hf3 hmv
          go_wp2_with fail
          refine ⟨⟨j4, f - 1, l ++ [t3], _, _, _, by rw [List.length_append]; rfl, by omega, hj4s, by simp; omega, by omega, H5.out⟩, ?_⟩
          have m1 := (Scn.cells H5.out.2.1).2.1
          have m2 := (Scn.cells HR.out.2.1).2.1
          rw [m1, m2]
          simp [intOf]
          omega
end Go.Proofs.Ythmdoplickpmaah
