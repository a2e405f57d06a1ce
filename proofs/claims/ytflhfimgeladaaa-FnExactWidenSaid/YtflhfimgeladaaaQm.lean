import Derived.Test.YtflhfimgeladaaaQb
/-! Marks in rows. -/
namespace Go.Proofs.Ytflhfimgeladaaa
open Go.RowKit Go.Deep
set_option linter.unusedVariables false
set_option maxRecDepth 100000
set_option linter.unusedSimpArgs false

/-- Numbers from k on, as cells. -/
def cntc (k m : Nat) : List Value := (List.range m).map fun i => Value.int .i64 ((k + i : Nat) : Int)
theorem cntc_len (k m : Nat) : (cntc k m).length = m := by simp [cntc]
theorem cntc_get (k m i : Nat) (h : i < m) : (cntc k m)[i]? = some (.int .i64 ((k + i : Nat) : Int)) := by simp [cntc, h]
theorem own_row {w : World} {B t k n : Nat} {v : Value} {cs : List Value} (h : w.ownsRow B t k v n cs) (h0 : 0 < n) : ∃ g cap f, v = .slice (some ⟨g, 0, none⟩) n cap ∧ B ≤ g ∧ n ≤ cap ∧ cap ≤ maxLen ∧ w.rowIs g t (cap * k) f := by
  rcases h.2 with ⟨_, h1⟩ | ⟨g, cap, cur, hv, hB, hg, hnc, hcm, hcs, htk⟩
  · omega
  · exact ⟨g, cap, fun i => (cur[i]?).getD .nilFunc, hv, hB, hnc, hcm, cur, hg, hcs, fun i hi => by
      have e : cur[i]? = some cur[i] := Array.getElem?_eq_getElem (by omega)
      simp only [e, Option.getD_some]⟩
theorem row_own {w : World} {B t k n g cap : Nat} {f : Nat → Value} {cs : List Value} (h : w.rowIs g t (cap * k) f) (hB : B ≤ g) (hnc : n ≤ cap) (hcm : cap ≤ maxLen) (hl : cs.length = n * k) (hf : ∀ i, i < n * k → cs[i]? = some (f i)) : w.ownsRow B t k (.slice (some ⟨g, 0, none⟩) n cap) n cs := by
  obtain ⟨c, h1, h2, h3⟩ := h
  have hle : n * k ≤ cap * k := Nat.mul_le_mul_right k hnc
  refine ⟨hl, .inr ⟨g, cap, c, rfl, hB, h1, hnc, hcm, h2, ?_⟩⟩
  apply List.ext_getElem?
  intro i
  rw [List.getElem?_take]
  split
  · rename_i hi
    rw [hf i hi, ← h3 i (by omega)]
    simp
  · rw [List.getElem?_eq_none (by omega)]
theorem own_zero {w : World} {B t k : Nat} {v : Value} {cs cs' : List Value} (h : w.ownsRow B t k v 0 cs) (hl : cs'.length = 0) : w.ownsRow B t k v 0 cs' := by
  have e1 : cs = [] := List.eq_nil_of_length_eq_zero (by have := h.1; omega)
  have e2 : cs' = [] := List.eq_nil_of_length_eq_zero hl
  rw [e2, ← e1]
  exact h
theorem grown_set (w : World) (g o : Nat) (u : Value) : w.grownBy (w.setCell ⟨g, o, none⟩ u) (some g) := ⟨rfl, rfl, rfl, by simp [World.setCell], fun k _ hne => blk_setCell_other _ _ _ _ (by show k ≠ g; intro e; exact hne (by rw [e]))⟩
theorem grown_refl (w : World) (o : Option Nat) : w.grownBy w o := ⟨rfl, rfl, rfl, Nat.le_refl _, fun _ _ _ => rfl⟩
/-- Marked rows. -/
def mkE : Nat → List Ent → List Ent
  | _, [] => []
  | k, e :: es => ⟨e.t, e.k, e.v, e.n, cntc k e.cs.length⟩ :: mkE (k + e.cs.length) es
def tot : List Ent → Nat
  | [] => 0
  | e :: es => e.cs.length + tot es
theorem tot_append : ∀ (es fs : List Ent), tot (es ++ fs) = tot es + tot fs
  | [], fs => by simp [tot]
  | e :: es, fs => by simp [tot, tot_append es fs]; omega
theorem mkE_append : ∀ (k : Nat) (es fs : List Ent), mkE k (es ++ fs) = mkE k es ++ mkE (k + tot es) fs
  | k, [], fs => by simp [mkE, tot]
  | k, e :: es, fs => by simp [mkE, tot, mkE_append (k + e.cs.length) es fs]; rw [Nat.add_assoc]
theorem tot_le {es : List Ent} {m : Nat} (h : ∀ e ∈ es, e.cs.length ≤ m) : tot es ≤ es.length * m := by
  induction es with
  | nil => simp [tot]
  | cons e es ih =>
    have h1 := h e (List.mem_cons_self ..)
    have h2 := ih (fun x hx => h x (List.mem_cons_of_mem _ hx))
    simp only [tot, List.length_cons]
    rw [Nat.succ_mul]
    omega
set_option maxHeartbeats 1600000 in
theorem markI_any (B n k : Nat) (v : Value) (cs : List Value) (w : World) (h : w.ownsRow B 3 1 v n cs) (hn : n ≤ 1048576) (hk : k ≤ 1125899906842624) :
    Calls Try.prog 60 #[v, .int .i64 k] w fun e w' => e = .returned (.int .i64 (k + n : Nat)) ∧ w.grownBy w' v.ownBlock ∧ w'.ownsRow B 3 1 v n (cntc k (n)) := by
  by_cases h0 : 0 < n
  case neg =>
    have hn0 : n = 0 := by omega
    obtain ⟨a, cap, g, rfl, _⟩ := own_cell h
    have hz : w.ownsRow B 3 1 (.slice a n cap) n (cntc k (n)) := by
      subst hn0
      exact own_zero h (by rw [cntc_len]; try omega)
    have HZ := (show Hid _ from hz)
    have hd : decide ((0 : Int) < (n : Int)) = false := by simp; omega
    have HN0 := (show Hid _ from hn0)
    clear h hz hn0
    go_enter Try.func60, Try.ntmps60
    go_wp2_with fail
    go_loopw [1, 5] (fun u i wr => u = .int .i64 k ∧ i = .int .i64 0 ∧ wr = w) (fun _ _ _ => 0)
    case atStart => exact ⟨rfl, rfl, rfl⟩
    case round =>
      obtain ⟨rfl, rfl, rfl⟩ := hrel
      go_wp2_with fail
      go_ret
      exact ⟨by rw [HN0.out]; rfl, grown_refl _ _, HZ.out⟩
  obtain ⟨g, cap, f0, rfl, hB, hnc, hcm, hr0⟩ := own_row h h0
  have HR0 := (show Hid _ from hr0)
  have HCM := (show Hid _ from hcm)
  unfold maxLen at hcm
  clear h hr0
  go_enter Try.func60, Try.ntmps60
  go_wp2_with fail
  go_loopw [1, 5] (fun u i wr => ∃ (j : Nat), j ≤ n ∧ i = .int .i64 j ∧ u = .int .i64 (k + j : Nat) ∧ w.grownBy wr (some g) ∧ ∃ f, wr.rowIs g 3 (cap * 1) f ∧ ∀ i, i < j → f i = .int .i64 ((k + i : Nat) : Int)) (fun _ i _ => n - (intOf i).toNat)
  case atStart => exact ⟨0, Nat.zero_le _, rfl, rfl, grown_refl _ _, _, HR0.out, fun i hi => absurd hi (by omega)⟩
  case round =>
    obtain ⟨j, hj, rfl, rfl, hg, f, hrow, hf⟩ := hrel
    by_cases hlt : j < n
    · have hlt' := hlt
      have e0 := hrow.cell (i := j) (by omega)
      have z0 := hrow.frozen j
      have HR := (show Hid _ from (⟨hrow, hf⟩ : _ ∧ _)); clear hrow hf
      go_wp2_with fail
      refine ⟨⟨j + 1, by omega, by go_num, by go_num, hg.trans (grown_set _ _ _ _), _, World.rowIs.set HR.out.1 j _, fun i hi => ?_⟩, by simp [intOf]; omega⟩
      by_cases e : i = j
      · subst e; simp
      · rw [if_neg e]; exact HR.out.2 i (by omega)
    · obtain rfl : j = n := by omega
      have HX := (show Hid _ from (⟨hg, row_own (B := B) (n := j) (cs := cntc k (j)) hrow hB hnc HCM.out (by rw [cntc_len]; try omega) (fun i hi => by rw [cntc_get k _ i (by omega), hf i (by omega)])⟩ : _ ∧ _))
      clear hrow hf hg
      go_wp2_with fail
      go_ret
      exact ⟨rfl, HX.out.1, HX.out.2⟩
set_option maxHeartbeats 1600000 in
theorem heldI_any (B n k : Nat) (v : Value) (w : World) (h : w.ownsRow B 3 1 v n (cntc k (n))) (hn : n ≤ 1048576) (hk : k ≤ 1125899906842624) :
    Calls Try.prog 63 #[v, .int .i64 k] w fun e w' => e = .returned (.int .i64 (k + n : Nat)) ∧ w' = w := by
  obtain ⟨a, cap, g, rfl, hnc, hcm, ha, hcell⟩ := own_cell h
  have HC := (show Hid (∀ i, i < n → w.cell? ⟨g, i, none⟩ = some (.int .i64 ((k + i : Nat) : Int))) from fun i hi => hcell i _ (cntc_get k _ i hi))
  have HA := (show Hid _ from ha)
  unfold maxLen at hcm
  clear h hcell ha
  go_enter Try.func63, Try.ntmps63
  go_wp2_with fail
  go_loopw [1, 5] (fun u i wr => ∃ (j : Nat), j ≤ n ∧ i = .int .i64 j ∧ u = .int .i64 (k + j : Nat) ∧ wr = w) (fun _ i _ => n - (intOf i).toNat)
  case atStart => exact ⟨0, Nat.zero_le _, rfl, rfl, rfl⟩
  case round =>
    obtain ⟨j, hj, rfl, rfl, rfl⟩ := hrel
    by_cases hlt : j < n
    · have hlt' := hlt
      obtain ⟨rfl, hcb⟩ := HA.out (by omega)
      clear hcb
      have c0 := HC.out j (by omega)
      have hne : (((k + j : Nat) : Int) != ((k + j : Nat) : Int)) = false := by simp
      go_wp2_with fail
      exact ⟨⟨j + 1, by omega, by go_num, by go_num, trivial⟩, by simp [intOf]; omega⟩
    · obtain rfl : j = n := by omega
      go_wp2_with fail
      go_ret
      exact ⟨rfl, rfl⟩
set_option maxHeartbeats 1600000 in
theorem markA_any (B n k : Nat) (v : Value) (cs : List Value) (w : World) (h : w.ownsRow B 71 2 v n cs) (hn : n ≤ 1048576) (hk : k ≤ 1125899906842624) :
    Calls Try.prog 100 #[v, .int .i64 k] w fun e w' => e = .returned (.int .i64 (k + n * 2 : Nat)) ∧ w.grownBy w' v.ownBlock ∧ w'.ownsRow B 71 2 v n (cntc k (n * 2)) := by
  by_cases h0 : 0 < n
  case neg =>
    have hn0 : n = 0 := by omega
    obtain ⟨a, cap, g, rfl, _⟩ := own_cell h
    have hz : w.ownsRow B 71 2 (.slice a n cap) n (cntc k (n * 2)) := by
      subst hn0
      exact own_zero h (by rw [cntc_len]; try omega)
    have HZ := (show Hid _ from hz)
    have hd : decide ((0 : Int) < (n : Int)) = false := by simp; omega
    have HN0 := (show Hid _ from hn0)
    clear h hz hn0
    go_enter Try.func100, Try.ntmps100
    go_wp2_with fail
    go_loopw [1, 5] (fun u i wr => u = .int .i64 k ∧ i = .int .i64 0 ∧ wr = w) (fun _ _ _ => 0)
    case atStart => exact ⟨rfl, rfl, rfl⟩
    case round =>
      obtain ⟨rfl, rfl, rfl⟩ := hrel
      go_wp2_with fail
      go_ret
      exact ⟨by rw [HN0.out]; rfl, grown_refl _ _, HZ.out⟩
  obtain ⟨g, cap, f0, rfl, hB, hnc, hcm, hr0⟩ := own_row h h0
  have HR0 := (show Hid _ from hr0)
  have HCM := (show Hid _ from hcm)
  unfold maxLen at hcm
  clear h hr0
  go_enter Try.func100, Try.ntmps100
  go_wp2_with fail
  go_loopw [1, 5] (fun u i wr => ∃ (j : Nat), j ≤ n ∧ i = .int .i64 j ∧ u = .int .i64 (k + j * 2 : Nat) ∧ w.grownBy wr (some g) ∧ ∃ f, wr.rowIs g 71 (cap * 2) f ∧ ∀ i, i < j * 2 → f i = .int .i64 ((k + i : Nat) : Int)) (fun _ i _ => n - (intOf i).toNat)
  case atStart => exact ⟨0, Nat.zero_le _, rfl, rfl, grown_refl _ _, _, HR0.out, fun i hi => absurd hi (by omega)⟩
  case round =>
    obtain ⟨j, hj, rfl, rfl, hg, f, hrow, hf⟩ := hrel
    by_cases hlt : j < n
    · have hlt' := hlt
      have e0 := hrow.cell (i := j * 2) (by omega)
      have z0 := hrow.frozen (j * 2)
      have e1 := hrow.cell (i := j * 2 + 1) (by omega)
      have z1 := hrow.frozen (j * 2 + 1)
      have HR := (show Hid _ from (⟨hrow, hf⟩ : _ ∧ _)); clear hrow hf
      go_wp2_with fail
      refine ⟨⟨j + 1, by omega, by go_num, by go_num, (hg.trans (grown_set _ _ _ _)).trans (grown_set _ _ _ _), _, World.rowIs.set (World.rowIs.set HR.out.1 (j * 2) _) (j * 2 + 1) _, fun i hi => ?_⟩, by simp [intOf]; omega⟩
      by_cases e : i = j * 2 + 1
      · subst e; simp; omega
      · rw [if_neg e]
        by_cases e2 : i = j * 2
        · subst e2; simp
        · rw [if_neg e2]; exact HR.out.2 i (by omega)
    · obtain rfl : j = n := by omega
      have HX := (show Hid _ from (⟨hg, row_own (B := B) (n := j) (cs := cntc k (j * 2)) hrow hB hnc HCM.out (by rw [cntc_len]; try omega) (fun i hi => by rw [cntc_get k _ i (by omega), hf i (by omega)])⟩ : _ ∧ _))
      clear hrow hf hg
      go_wp2_with fail
      go_ret
      exact ⟨rfl, HX.out.1, HX.out.2⟩
set_option maxHeartbeats 1600000 in
theorem heldA_any (B n k : Nat) (v : Value) (w : World) (h : w.ownsRow B 71 2 v n (cntc k (n * 2))) (hn : n ≤ 1048576) (hk : k ≤ 1125899906842624) :
    Calls Try.prog 101 #[v, .int .i64 k] w fun e w' => e = .returned (.int .i64 (k + n * 2 : Nat)) ∧ w' = w := by
  obtain ⟨a, cap, g, rfl, hnc, hcm, ha, hcell⟩ := own_cell h
  have HC := (show Hid (∀ i, i < n * 2 → w.cell? ⟨g, i, none⟩ = some (.int .i64 ((k + i : Nat) : Int))) from fun i hi => hcell i _ (cntc_get k _ i hi))
  have HA := (show Hid _ from ha)
  unfold maxLen at hcm
  clear h hcell ha
  go_enter Try.func101, Try.ntmps101
  go_wp2_with fail
  go_loopw [1, 5] (fun u i wr => ∃ (j : Nat), j ≤ n ∧ i = .int .i64 j ∧ u = .int .i64 (k + j * 2 : Nat) ∧ wr = w) (fun _ i _ => n - (intOf i).toNat)
  case atStart => exact ⟨0, Nat.zero_le _, rfl, rfl, rfl⟩
  case round =>
    obtain ⟨j, hj, rfl, rfl, rfl⟩ := hrel
    by_cases hlt : j < n
    · have hlt' := hlt
      obtain ⟨rfl, hcb⟩ := HA.out (by omega)
      clear hcb
      have c0 := HC.out (j * 2) (by omega)
      have c1 := HC.out (j * 2 + 1) (by omega)
      have hne : (((k + j * 2 : Nat) : Int) != ((k + j * 2 : Nat) : Int)) = false := by simp
      have hne1 : (((k + (j * 2 + 1) : Nat) : Int) != ((k + j * 2 : Nat) : Int) + 1) = false := by simp; omega
      have hw1 : IntKind.i64.wrap (((k + j * 2 : Nat) : Int) + 1) = ((k + j * 2 : Nat) : Int) + 1 := by simp [IntKind.wrap, IntKind.bits, IntKind.signed]; omega
      go_wp2_with fail
      exact ⟨⟨j + 1, by omega, by go_num, by go_num, trivial⟩, by simp [intOf]; omega⟩
    · obtain rfl : j = n := by omega
      go_wp2_with fail
      go_ret
      exact ⟨rfl, rfl⟩
end Go.Proofs.Ytflhfimgeladaaa
