import Derived.Test.YthmdoplickpmaahScan7
namespace Go.Proofs.Ythmdoplickpmaah
open Go.RowKit Go.Deep Go.Lib
set_option linter.unusedVariables false
set_option maxRecDepth 100000
set_option linter.unusedSimpArgs false

/-- A node of a name and what its Kids are read as. -/
def mkNode (nm : ByteArray) (q : Except Nat (List Tr × Nat)) : Except Nat (Tr × Nat) := match q with
  | .error j => .error j
  | .ok q => .ok (⟨nm, ByteArray.empty, false, q.1⟩, q.2 + 1)
theorem pName_small {s : ByteArray} {k : Nat} {a : ByteArray × Nat} (hk : k ≤ s.size) (hs : s.size ≤ 1048576) (ha : pName s k = .ok a) : a.1.size ≤ 1048576 := by
  unfold pName at ha
  split at ha
  · cases ha
    simp
    have := (nmEnd_le 24 k hk).2.1
    omega
  · cases ha

set_option maxHeartbeats 3200000 in
theorem node_any {p d k : Nat} {s : ByteArray} (hT : ∀ (w : World) (k : Nat), Scn w p s k → s.size - k < d → Calls Try.prog 51 #[.pointer (some ⟨p, 0, none⟩)] w fun e w' => Out p (p + 1) w w' ∧ TGot (pTree s d k) w.heap.size p s e w')
    (w : World) (h : Scn w p s k) (hd : s.size - k < d + 1) (h40 : seesB s k 40 = true) :
    Calls Try.prog 59 #[.pointer (some ⟨p, 0, none⟩)] w fun e w' => Out p (p + 1) w w' ∧ TGot (pTree s (d + 1) k) w.heap.size p s e w' := by
  have hk := h.1
  have hs := h.2.1
  have hp := h.lt
  have hlt := seesB_lt h40
  have hsk := skip_le (s := s) (k := k + 1) hlt
  have hpt : pTree s (d + 1) k = (match pName s (skip s (k + 1)) with
    | .error j => .error j
    | .ok r => mkNode r.1 (pKids (pTree s d) s (s.size + 1 - r.2) r.2 [])) := by rw [pTree, if_pos h40]; rfl
  rw [hpt]
  have HP := (show Hid _ from pass_any 40 w h)
  rw [h40] at HP
  have HBL := (show Hid _ from fun w1 (h1 : Scn w1 p s (k + 1)) => blanks_any w1 h1)
  have HN := (show Hid _ from fun w1 (h1 : Scn w1 p s (skip s (k + 1))) => name_any w1 h1)
  have HL := (show Hid _ from fun (k1 : Nat) (w1 : World) (h1 : Scn w1 p s k1) (hd1 : s.size - k1 < d) => list_any hT w1 h1 hd1)
  have hfit := pName_fits hsk.2
  have hsm := fun a (ha : pName s (skip s (k + 1)) = .ok a) => pName_small hsk.2 hs ha
  have hkf := fun k1 (h1 : k1 ≤ s.size) => pKids_fits (pT := pTree s d) (fun k hk => pTree_fits d k hk) (s.size + 1 - k1) k1 [] h1
  clear h hT h40 hpt
  have hmf := make_func
  generalize pName s (skip s (k + 1)) = rn at *
  generalize skip s (k + 1) = K at *
  cases rn with
  | error j =>
    dsimp only
    clear hsm hfit hkf
    go_enter Try.func59, Try.ntmps59
    go_wp2_with fail
    refine Calls.mono HP.out ?_
    rintro e w1 ⟨ho1, ⟨_, rfl, hs1⟩ | ⟨hf, _⟩⟩
    case inr => exact absurd hf (by simp)
    have H1 := (show Hid _ from HBL.out w1 hs1)
    have HO1 := (show Hid _ from ho1); clear ho1 hs1
    go_wp2_with fail
    refine Calls.mono H1.out ?_
    rintro e w2 ⟨rfl, ho2, hs2⟩
    have H2 := (show Hid _ from HN.out w2 hs2)
    have HO2 := (show Hid _ from Out.trans HO1.out ho2); clear ho2 hs2
    go_wp2_with fail
    refine Calls.mono H2.out ?_
    rintro e w3 ⟨ho3, hg3⟩
    obtain rfl : e = .panicked [flt j] := hg3
    have HO3 := (show Hid _ from Out.trans HO2.out ho3); clear ho3
    go_wp2_with fail
    exact ⟨rfl, HO3.out, rfl⟩
  | ok a =>
    obtain ⟨nm, k1⟩ := a
    have hnm := hsm _ rfl
    obtain ⟨hk1, hk1s⟩ := hfit
    dsimp only at hnm hk1 hk1s ⊢
    have hkf1 := hkf k1 hk1s
    have HLK := (show Hid _ from fun w1 (h1 : Scn w1 p s k1) => HL.out k1 w1 h1 (by omega)); clear HL hkf hsm
    generalize pKids (pTree s d) s (s.size + 1 - k1) k1 [] = rk at *
    cases rk with
    | error j =>
      clear hkf1
      go_enter Try.func59, Try.ntmps59
      go_wp2_with fail
      refine Calls.mono HP.out ?_
      rintro e w1 ⟨ho1, ⟨_, rfl, hs1⟩ | ⟨hf, _⟩⟩
      case inr => exact absurd hf (by simp)
      have H1 := (show Hid _ from HBL.out w1 hs1)
      have HO1 := (show Hid _ from ho1); clear ho1 hs1
      go_wp2_with fail
      refine Calls.mono H1.out ?_
      rintro e w2 ⟨rfl, ho2, hs2⟩
      have H2 := (show Hid _ from HN.out w2 hs2)
      have HO2 := (show Hid _ from Out.trans HO1.out ho2); clear ho2 hs2
      go_wp2_with fail
      refine Calls.mono H2.out ?_
      rintro e w3 ⟨ho3, rfl, hs3⟩
      have H3 := (show Hid _ from HLK.out w3 hs3)
      have HO3 := (show Hid _ from Out.trans HO2.out ho3); clear ho3 hs3
      go_wp2_with fail
      refine Calls.mono H3.out ?_
      rintro e w4 ⟨ho4, hg4⟩
      obtain rfl : e = .panicked [flt j] := hg4
      have HO4 := (show Hid _ from Out.trans HO3.out ho4); clear ho4
      go_wp2_with fail
      exact ⟨rfl, HO4.out, rfl⟩
    | ok q =>
      obtain ⟨ks, k2⟩ := q
      obtain ⟨hk2, h41⟩ := hkf1
      dsimp only at hk2 h41
      have HP4 := (show Hid _ from fun w1 (h1 : Scn w1 p s k2) => pass_any 41 w1 h1)
      rw [h41] at HP4
      clear h41
      go_enter Try.func59, Try.ntmps59
      go_wp2_with fail
      refine Calls.mono HP.out ?_
      rintro e w1 ⟨ho1, ⟨_, rfl, hs1⟩ | ⟨hf, _⟩⟩
      case inr => exact absurd hf (by simp)
      have H1 := (show Hid _ from HBL.out w1 hs1)
      have HO1 := (show Hid _ from ho1); clear ho1 hs1
      go_wp2_with fail
      refine Calls.mono H1.out ?_
      rintro e w2 ⟨rfl, ho2, hs2⟩
      have H2 := (show Hid _ from HN.out w2 hs2)
      have HO2 := (show Hid _ from Out.trans HO1.out ho2); clear ho2 hs2
      go_wp2_with fail
      refine Calls.mono H2.out ?_
      rintro e w3 ⟨ho3, rfl, hs3⟩
      have H3 := (show Hid _ from HLK.out w3 hs3)
      have HO3 := (show Hid _ from Out.trans HO2.out ho3); clear ho3 hs3
      go_wp2_with fail
      refine Calls.mono H3.out ?_
      rintro e w4 ⟨ho4, aa, cap, b, fv, rfl, hc, hm, hb, hcell, hfr, hs4, hkl⟩
      dsimp only at hc hb hcell hfr hs4 hkl ⊢
      have hsz3 := HO3.out.2.2.2.1
      have H4 := (show Hid _ from HP4.out w4 hs4)
      have HF := (show Hid _ from (⟨Out.trans HO3.out ho4, hb, hcell, hfr⟩ : _ ∧ _ ∧ _ ∧ _)); clear ho4 hb hcell hfr hs4
      go_wp2_with fail
      refine Calls.mono H4.out ?_
      rintro e w5 ⟨ho5, ⟨_, rfl, hs5⟩ | ⟨hf, _⟩⟩
      case inr => exact absurd hf (by simp)
      obtain ⟨ho4, hb, hcell, hfr⟩ := HF.out
      have hfrm : Frm w5 (fun b => w.heap.size ≤ b) ⟨nm, ByteArray.empty, false, ks⟩ (.iface 77 (.agg #[.string nm, .slice aa ks.length cap])) := by
        refine Frm.shut (.inr ⟨rfl, rfl, by unfold maxLen; show nm.size ≤ _; omega, by show ks.length ≤ _; omega, aa, cap, b, fv, rfl, hc, hm, fun h0 => ?_, fun i hi => ?_, fun i hi => ?_⟩)
        · obtain ⟨e1, e2, e3⟩ := hb h0
          exact ⟨e1, by omega, Nat.lt_of_lt_of_le e3 ho5.2.2.2.1⟩
        · obtain ⟨e1, e2, e3⟩ := hb (by have : i < ks.length := hi; omega)
          exact (World.cell?_of_block (w := w4) (ho5.2.2.2.2 b e3 (by omega))).trans (hcell i hi)
        · exact (hfr i hi).carry (fun b hS hlt => ⟨by omega, Nat.lt_of_lt_of_le hlt ho5.2.2.2.1⟩) (fun b o hS hlt => World.cell?_of_block (w := w4) (ho5.2.2.2.2 b hlt (by omega)))
      have HE := (show Hid _ from (⟨Out.trans ho4 ho5, hfrm, hs5⟩ : _ ∧ _ ∧ _)); clear ho4 ho5 hfrm hs5 hb hcell hfr
      go_wp2_with fail
      go_ret
      exact ⟨HE.out.1, _, rfl, HE.out.2.1, HE.out.2.2⟩

set_option maxHeartbeats 1600000 in
theorem tree_any {p : Nat} {s : ByteArray} : ∀ (d : Nat) (w : World) (k : Nat), Scn w p s k → s.size - k < d → Calls Try.prog 51 #[.pointer (some ⟨p, 0, none⟩)] w fun e w' => Out p (p + 1) w w' ∧ TGot (pTree s d k) w.heap.size p s e w' := by
  intro d
  induction d with
  | zero => intro w k _ h; exact absurd h (Nat.not_lt_zero _)
  | succ d ih =>
    intro w k h hd
    have hs := h.2.1
    have HS := (show Hid _ from sees_any 40 w h)
    cases h40 : seesB s k 40
    · have hr : pTree s (d + 1) k = pLeaf s k := by rw [pTree, if_neg (by rw [h40]; simp)]
      rw [hr]
      rw [h40] at HS
      have HL := (show Hid _ from fun w1 (h1 : Scn w1 p s k) => leaf_any w1 h1)
      generalize pLeaf s k = r at *
      clear hr h40 h ih
      go_enter Try.func51, Try.ntmps51
      go_wp2_with fail
      refine Calls.mono HS.out ?_
      rintro e w1 ⟨rfl, ho1, hs1⟩
      have H1 := (show Hid _ from HL.out w1 hs1)
      have hsz := ho1.2.2.2.1
      have HO := (show Hid _ from ho1); clear ho1 hs1
      go_wp2_with fail
      refine Calls.mono H1.out ?_
      rintro e w2 ⟨ho2, hg2⟩
      cases r with
      | error j =>
        obtain rfl : e = .panicked [flt j] := hg2
        have HO2 := (show Hid _ from Out.trans HO.out ho2); clear ho2
        go_wp2_with fail
        exact ⟨rfl, HO2.out, rfl⟩
      | ok a =>
        obtain ⟨u, rfl, hf2, hs2⟩ := hg2
        obtain ⟨TT, XX, rfl⟩ := hf2.iface
        have HO2 := (show Hid _ from (⟨Out.trans HO.out ho2, Frm.mono (S' := fun b => w.heap.size ≤ b) (fun b (hb : w1.heap.size ≤ b) _ => by omega) hf2, hs2⟩ : _ ∧ _ ∧ _)); clear ho2 hf2 hs2
        go_wp2_with fail
        go_ret
        exact ⟨HO2.out.1, _, rfl, HO2.out.2⟩
    · rw [h40] at HS
      have HL := (show Hid _ from fun w1 (h1 : Scn w1 p s k) => node_any ih w1 h1 hd h40)
      generalize pTree s (d + 1) k = r at *
      clear h40 h ih
      go_enter Try.func51, Try.ntmps51
      go_wp2_with fail
      refine Calls.mono HS.out ?_
      rintro e w1 ⟨rfl, ho1, hs1⟩
      have H1 := (show Hid _ from HL.out w1 hs1)
      have hsz := ho1.2.2.2.1
      have HO := (show Hid _ from ho1); clear ho1 hs1
      go_wp2_with fail
      refine Calls.mono H1.out ?_
      rintro e w2 ⟨ho2, hg2⟩
      cases r with
      | error j =>
        obtain rfl : e = .panicked [flt j] := hg2
        have HO2 := (show Hid _ from Out.trans HO.out ho2); clear ho2
        go_wp2_with fail
        exact ⟨rfl, HO2.out, rfl⟩
      | ok a =>
        obtain ⟨u, rfl, hf2, hs2⟩ := hg2
        obtain ⟨TT, XX, rfl⟩ := hf2.iface
        have HO2 := (show Hid _ from (⟨Out.trans HO.out ho2, Frm.mono (S' := fun b => w.heap.size ≤ b) (fun b (hb : w1.heap.size ≤ b) _ => by omega) hf2, hs2⟩ : _ ∧ _ ∧ _)); clear ho2 hf2 hs2
        go_wp2_with fail
        go_ret
        exact ⟨HO2.out.1, _, rfl, HO2.out.2⟩

/-- What all of a text is read as. -/
def WGot (r : Except Nat Tr) (B : Nat) (e : Ending) (w' : World) : Prop := match r with
  | .error j => e = .panicked [flt j]
  | .ok t => ∃ u, e = .returned u ∧ Frm w' (fun b => B ≤ b) t u
set_option maxHeartbeats 1600000 in
theorem whole_any {p : Nat} {s : ByteArray} (w : World) (h : Scn w p s 0) :
    Calls Try.prog 40 #[.pointer (some ⟨p, 0, none⟩)] w fun e w' => Out p (p + 1) w w' ∧ WGot (pAll s) w.heap.size e w' := by
  have hs := h.2.1
  have hp := h.lt
  have hsk := skip_le (s := s) (k := 0) (Nat.zero_le _)
  have HB0 := (show Hid _ from blanks_any w h)
  have HT := (show Hid _ from fun w1 (h1 : Scn w1 p s (skip s 0)) => tree_any (s.size + 1) w1 (skip s 0) h1 (by omega))
  have hfit := pTree_fits (s.size + 1) (skip s 0) hsk.2
  have hpa : pAll s = (match pTree s (s.size + 1) (skip s 0) with
    | .error j => .error j
    | .ok r => if skip s r.2 < s.size then .error (skip s r.2) else .ok r.1) := rfl
  rw [hpa]
  clear hpa h
  generalize pTree s (s.size + 1) (skip s 0) = rt at *
  generalize skip s 0 = K at *
  cases rt with
  | error j =>
    clear hfit
    dsimp only
    go_enter Try.func40, Try.ntmps40
    go_wp2_with fail
    refine Calls.mono HB0.out ?_
    rintro e w1 ⟨rfl, ho1, hs1⟩
    have H1 := (show Hid _ from HT.out w1 hs1)
    have HO1 := (show Hid _ from ho1); clear ho1 hs1
    go_wp2_with fail
    refine Calls.mono H1.out ?_
    rintro e w2 ⟨ho2, hg2⟩
    obtain rfl : e = .panicked [flt j] := hg2
    have HO2 := (show Hid _ from Out.trans HO1.out ho2); clear ho2
    go_wp2_with fail
    exact ⟨rfl, HO2.out, rfl⟩
  | ok a =>
    obtain ⟨t, k2⟩ := a
    obtain ⟨hk2, hk2s⟩ := hfit
    dsimp only at hk2 hk2s ⊢
    have hsk2 := skip_le (s := s) (k := k2) hk2s
    have HB2 := (show Hid _ from fun w1 (h1 : Scn w1 p s k2) => blanks_any w1 h1)
    generalize skip s k2 = K2 at *
    by_cases hlt : K2 < s.size
    · rw [if_pos hlt]
      have hd : decide ((K2 : Int) < s.size) = true := by simp; omega
      go_enter Try.func40, Try.ntmps40
      go_wp2_with fail
      refine Calls.mono HB0.out ?_
      rintro e w1 ⟨rfl, ho1, hs1⟩
      have H1 := (show Hid _ from HT.out w1 hs1)
      have HO1 := (show Hid _ from ho1); clear ho1 hs1
      go_wp2_with fail
      refine Calls.mono H1.out ?_
      rintro e w2 ⟨ho2, u, rfl, hf2, hs2⟩
      obtain ⟨TT, XX, rfl⟩ := hf2.iface
      have H2 := (show Hid _ from HB2.out w2 hs2)
      have HO2 := (show Hid _ from Out.trans HO1.out ho2); clear ho2 hf2 hs2
      go_wp2_with fail
      refine Calls.mono H2.out ?_
      rintro e w3 ⟨rfl, ho3, hs3⟩
      obtain ⟨x0, x1, y1⟩ := hs3.cells
      have HF := (show Hid _ from fun n => fault_any (w3.drewN n) (Scn.keep (w := w3) hs3 rfl))
      have HO3 := (show Hid _ from Out.trans HO2.out ho3); clear ho3 hs3
      go_wp2_with fail
      go_quiet (fail)
      go_wp2_with fail
      refine Calls.mono (HF.out _) ?_
      rintro e w4 ⟨rfl, hb4⟩
      go_wp2_with fail
      exact ⟨rfl, Out.trans (Out.drewN HO3.out _) (Out.of_below hb4), rfl⟩
    · rw [if_neg hlt]
      have hd : decide ((K2 : Int) < s.size) = false := by simp; omega
      go_enter Try.func40, Try.ntmps40
      go_wp2_with fail
      refine Calls.mono HB0.out ?_
      rintro e w1 ⟨rfl, ho1, hs1⟩
      have H1 := (show Hid _ from HT.out w1 hs1)
      have hsz := ho1.2.2.2.1
      have HO1 := (show Hid _ from ho1); clear ho1 hs1
      go_wp2_with fail
      refine Calls.mono H1.out ?_
      rintro e w2 ⟨ho2, u, rfl, hf2, hs2⟩
      obtain ⟨TT, XX, rfl⟩ := hf2.iface
      have H2 := (show Hid _ from HB2.out w2 hs2)
      have HO2 := (show Hid _ from (⟨Out.trans HO1.out ho2, Frm.mono (S' := fun b => w.heap.size ≤ b) (fun b (hb : w1.heap.size ≤ b) _ => by omega) hf2⟩ : _ ∧ _)); clear ho2 hf2 hs2
      go_wp2_with fail
      refine Calls.mono H2.out ?_
      rintro e w3 ⟨rfl, ho3, hs3⟩
      obtain ⟨x0, x1, y1⟩ := hs3.cells
      have HO3 := (show Hid _ from (⟨Out.trans HO2.out.1 ho3, Frm.past HO2.out.2 ho3 hp⟩ : _ ∧ _)); clear ho3 hs3
      go_wp2_with fail
      go_quiet (fail)
      go_wp2_with fail
      go_ret
      exact ⟨Out.drewN HO3.out.1 _, _, rfl, Frm.still (w := w3) (w' := w3.drewN nq) HO3.out.2 ⟨rfl, rfl, rfl, Nat.le_refl _, fun _ _ => rfl⟩⟩
end Go.Proofs.Ythmdoplickpmaah
