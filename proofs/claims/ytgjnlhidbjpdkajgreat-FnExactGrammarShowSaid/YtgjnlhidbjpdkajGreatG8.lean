import Derived.Test.YtgjnlhidbjpdkajGreatG7
import Derived.Deep.RegionHeld3
/-! The walk through the parts: the specification. -/
namespace Go.Proofs.YtgjnlhidbjpdkajGreat
open Go.RowKit Go.Deep
set_option linter.unusedVariables false
set_option maxRecDepth 100000
set_option linter.unusedSimpArgs false

/-- As the program's walk; each part is looked at. -/
def itsL (parts : List DPart) (rec : List Int → Int → Nat → Option Nat) : List Int → Int → Nat → Option Nat
  | [], _, e => some e
  | x :: r, bw, e => if x < e ∨ bw ≤ x then none else if parB (parts.getD x.toNat dfl) = false then none else match altsL rec (parts.getD x.toNat dfl).alts x e with
    | none => none
    | some e' => if x = e' then itsL parts rec r bw (e' + 1) else none
def its (parts : List DPart) : Nat → List Int → Int → Nat → Option Nat
  | 0 => itsL parts fun _ _ _ => none
  | f + 1 => itsL parts (its parts f)
theorem itsL_end {parts : List DPart} {rec : List Int → Int → Nat → Option Nat} {l : List Int} {b : Int} {k e : Nat} (h : l.length ≤ k) : itsL parts rec (l.drop k) b e = some e := by
  rw [List.drop_eq_nil_of_le h, itsL]
theorem itsL_out {parts : List DPart} {rec : List Int → Int → Nat → Option Nat} {l : List Int} {b : Int} {k e : Nat} (h : k < l.length) (hx : l[k] < e ∨ b ≤ l[k]) : itsL parts rec (l.drop k) b e = none := by
  rw [List.drop_eq_getElem_cons h, itsL, if_pos hx]
theorem itsL_bad {parts : List DPart} {rec : List Int → Int → Nat → Option Nat} {l : List Int} {b : Int} {k e : Nat} (h : k < l.length) (hx : ¬ (l[k] < e ∨ b ≤ l[k])) (hp : parB (parts.getD l[k].toNat dfl) = false) : itsL parts rec (l.drop k) b e = none := by
  rw [List.drop_eq_getElem_cons h, itsL, if_neg hx, if_pos hp]
theorem itsL_none {parts : List DPart} {rec : List Int → Int → Nat → Option Nat} {l : List Int} {b : Int} {k e : Nat} (h : k < l.length) (hx : ¬ (l[k] < e ∨ b ≤ l[k])) (ha : altsL rec (parts.getD l[k].toNat dfl).alts l[k] e = none) : itsL parts rec (l.drop k) b e = none := by
  rw [List.drop_eq_getElem_cons h, itsL, if_neg hx, ha]
  split <;> rfl
theorem itsL_ne {parts : List DPart} {rec : List Int → Int → Nat → Option Nat} {l : List Int} {b : Int} {k e e' : Nat} (h : k < l.length) (hx : ¬ (l[k] < e ∨ b ≤ l[k])) (ha : altsL rec (parts.getD l[k].toNat dfl).alts l[k] e = some e') (hn : ¬ l[k] = e') : itsL parts rec (l.drop k) b e = none := by
  rw [List.drop_eq_getElem_cons h, itsL, if_neg hx, ha]
  split
  · rfl
  · simp only [if_neg hn]
theorem itsL_some {parts : List DPart} {rec : List Int → Int → Nat → Option Nat} {l : List Int} {b : Int} {k e e' : Nat} (h : k < l.length) (hx : ¬ (l[k] < e ∨ b ≤ l[k])) (hp : parB (parts.getD l[k].toNat dfl) = true) (ha : altsL rec (parts.getD l[k].toNat dfl).alts l[k] e = some e') (hn : l[k] = e') : itsL parts rec (l.drop k) b e = itsL parts rec (l.drop (k + 1)) b (e' + 1) := by
  rw [List.drop_eq_getElem_cons h, itsL, if_neg hx, if_neg (by rw [hp]; simp), ha]
  simp only [if_pos hn]
theorem Bt.drew {g : Nat} {a b : World} (h : Bt g a b) : Bt g a b.drew := h.trans ⟨rfl, rfl, rfl, Nat.le_refl _, fun _ _ _ => rfl⟩
theorem Box.drew {w : World} {g T : Nat} {cs : List Value} (h : Box w g T cs) : Box w.drew g T cs := h.keep rfl
/-- The walk's box: the grammar, next, ok. -/
abbrev WBx (w : World) (g : Nat) (nm v1 v2 v3 v4 : Value) (e : Nat) (ok : Bool) : Prop := Box w g 82 [nm, v1, v2, v3, v4, .int .i64 e, .bool ok]
def ItA (R : Option Nat) (g : Nat) (nm v1 v2 v3 v4 : Value) (below : Int) (w' : World) : Prop :=
  (∃ e' : Nat, R = some e' ∧ WBx w' g nm v1 v2 v3 v4 e' true) ∨ (R = none ∧ ∃ z : Nat, (z : Int) ≤ 300 + below ∧ WBx w' g nm v1 v2 v3 v4 z false)
set_option maxHeartbeats 6400000 in
theorem items_step {S : Nat → Prop} (parts : List DPart) (rec : List Int → Int → Nat → Option Nat) (nm v1 v2 v3 vp : Value) (g : Nat) (below : Int) (hS : ∀ b, S b → b ≠ g) (hpl : parts.length ≤ 200) (hbl : below ≤ parts.length) (hb0 : 0 ≤ below)
    (HR : ∀ (l : List Int) (v : Value) (b' : Int) (e : Nat) (w : World), 0 ≤ b' → b' < below → Ints w S l v → PartR w S parts vp → WBx w g nm v1 v2 v3 vp e true → e ≤ 200 → Calls Tryz.prog 35 #[.pointer (some ⟨g, 0, none⟩), v, .int .i64 b'] w fun en w' => en = .returned (.tuple #[]) ∧ ItA (rec l b' e) g nm v1 v2 v3 vp b' w' ∧ Bt g w w' ∧ ∀ e', rec l b' e = some e' → e' ≤ 200)
    (items : List Int) (v : Value) (e : Nat) (w : World) (hI : Ints w S items v) (hP : PartR w S parts vp) (hB : WBx w g nm v1 v2 v3 vp e true) (he : e ≤ 200) :
    Calls Tryz.prog 35 #[.pointer (some ⟨g, 0, none⟩), v, .int .i64 below] w fun en w' => en = .returned (.tuple #[]) ∧ ItA (itsL parts rec items below e) g nm v1 v2 v3 vp below w' ∧ Bt g w w' ∧ ∀ e', itsL parts rec items below e = some e' → e' ≤ 200 := by
  have HRR := (show Hid _ from HR); clear HR
  have HPP := (show Hid _ from hP)
  obtain ⟨a, cap, b, off, rfl, hc, hm, ha, hcell⟩ := hI
  have HC := (show Hid _ from hcell); clear hcell
  have HA := (show Hid _ from ha); clear ha
  obtain ⟨ap, cp, bp, op, s2, rfl, hcp, hmp, hap, hcellp, rp⟩ := hP
  have HCP := (show Hid _ from hcellp); clear hcellp
  have HAP := (show Hid _ from hap); clear hap
  have HRP := (show Hid _ from rp); clear rp
  have HSS := (show Hid _ from hS); clear hS
  have HB0 := (show Hid _ from hB); clear hB
  have HBT := (show Hid _ from fun (x a b : Int) (w : World) => between_any x a b w)
  unfold maxLen at hm hmp
  generalize hR : itsL parts rec items below e = R
  have HRes := (show Hid _ from hR); clear hR
  go_enter Tryz.func35, Tryz.ntmps35
  go_wp2_with fail
  go_loopw [6] (fun i wr => ∃ (j e1 : Nat) (ok : Bool), i = .int .i64 j ∧ j ≤ items.length ∧ (e1 : Int) ≤ 300 + below ∧ (ok = true → e1 ≤ 200) ∧ Hid (Bt g w wr ∧ WBx wr g nm v1 v2 v3 (.slice ap parts.length cp) e1 ok ∧ (if ok then itsL parts rec (items.drop j) below e1 = R else R = none))) (fun i _ => items.length - (intOf i).toNat)
  case atStart => exact ⟨0, e, true, rfl, Nat.zero_le _, by omega, fun _ => he, Bt.refl _ _, HB0.out, by rw [List.drop_zero]; simpa using HRes.out⟩
  case round =>
    obtain ⟨j, e1, ok, rfl, hj, he1, he1', HX⟩ := hrel
    have x6 : wr.cell? ⟨g, 6, none⟩ = some (.bool ok) := HX.out.2.1.cell 6 (by simp)
    cases ok
    · have HE := (show Hid (R = none) from (by have := HX.out.2.2; simpa using this : R = none))
      by_cases hjl : j < items.length
      · go_wp2_with fail
        refine bodyPost_end (v := .tuple #[]) (by simp [results, Tryz.results35]) rfl ?_
        exact ⟨rfl, .inr ⟨HE.out, e1, he1, HX.out.2.1⟩, HX.out.1, fun e' h => by rw [HE.out] at h; cases h⟩
      · go_wp2_with fail
        refine bodyPost_end (v := .tuple #[]) (by simp [results, Tryz.results35]) rfl ?_
        exact ⟨rfl, .inr ⟨HE.out, e1, he1, HX.out.2.1⟩, HX.out.1, fun e' h => by rw [HE.out] at h; cases h⟩
    · have he200 := he1' rfl
      have HXq := (show Hid (itsL parts rec (items.drop j) below e1 = R) from (by have := HX.out.2.2; simpa using this : itsL parts rec (items.drop j) below e1 = R))
      have HXb := (show Hid (Bt g w wr ∧ WBx wr g nm v1 v2 v3 (.slice ap parts.length cp) e1 true) from ⟨HX.out.1, HX.out.2.1⟩)
      clear HX he1'
      by_cases hjl : j < items.length
      · have hjl' := hjl
        obtain ⟨rfl, hSb⟩ := HA.out (by omega)
        have c0 := HC.out j hjl'
        have hkb : wr.heap[b]? = w.heap[b]? := HXb.out.1.block b (lt_of_cell c0) (HSS.out b hSb)
        rw [← World.cell?_of_block (w := w) hkb] at c0
        have x4 : wr.cell? ⟨g, 4, none⟩ = some (.slice ap parts.length cp) := HXb.out.2.cell 4 (by simp)
        have x5 : wr.cell? ⟨g, 5, none⟩ = some (.int .i64 e1) := HXb.out.2.cell 5 (by simp)
        have z6 := HXb.out.2.frozen 6
        clear hkb hSb
        by_cases hx : items[j] < e1 ∨ below ≤ items[j]
        · have HE : Hid (R = none) := HXq.out.symm.trans (itsL_out hjl' hx)
          have HBF := (show Hid _ from fun w => HBT.out items[j] e1 (below - 1) w)
          rw [show wiB items[j] e1 (below - 1) = false by simp [wiB]; omega] at HBF
          generalize items[j] = x at *
          clear hx
          go_wp2_with fail
          go_quiet ((go_at_call 33; refine Calls.quiet_of_same (HBF.out _)))
          have hbt := HXb.out.1
          have HN := (show Hid (∀ m, Bt g w ((wr.drewN m).setCell ⟨g, 6, none⟩ (.bool false)) ∧ WBx ((wr.drewN m).setCell ⟨g, 6, none⟩ (.bool false)) g nm v1 v2 v3 (.slice ap parts.length cp) e1 false) from fun m => ⟨(hbt.trans ⟨rfl, rfl, rfl, Nat.le_refl _, fun _ _ _ => rfl⟩ : Bt g w (wr.drewN m)).trans (Bt.set _ _), (HXb.out.2.keep (w' := wr.drewN m) rfl).set 6 _⟩)
          clear hbt
          go_wp2_with fail
          refine bodyPost_ret (v := .tuple #[]) (by simp [results, Tryz.results35]) rfl ?_
          exact ⟨rfl, .inr ⟨HE.out, e1, he1, (HN.out _).2⟩, (HN.out _).1, fun e' h => by rw [HE.out] at h; cases h⟩
        · have HT0 : Hid (∀ e', parB (parts.getD items[j].toNat dfl) = true → altsL rec (parts.getD items[j].toNat dfl).alts items[j] e1 = some e' → (¬ items[j] = e' → R = none) ∧ (items[j] = e' → itsL parts rec (items.drop (j + 1)) below (e' + 1) = R)) := fun e' hp h => ⟨fun hn => HXq.out.symm.trans (itsL_ne hjl' hx h hn), fun hn => (itsL_some hjl' hx hp h hn).symm.trans HXq.out⟩
          have HTN : Hid (altsL rec (parts.getD items[j].toNat dfl).alts items[j] e1 = none → R = none) := fun h => HXq.out.symm.trans (itsL_none hjl' hx h)
          have HTB : Hid (parB (parts.getD items[j].toNat dfl) = false → R = none) := fun h => HXq.out.symm.trans (itsL_bad hjl' hx h)
          have HBF := (show Hid _ from fun w => HBT.out items[j] e1 (below - 1) w)
          rw [show wiB items[j] e1 (below - 1) = true by simp [wiB]; omega] at HBF
          have HCJ := (show Hid (items[j] = items[j]) from rfl)
          generalize hitem : items[j] = x at *
          obtain ⟨n, rfl⟩ : ∃ n : Nat, x = n := ⟨x.toNat, by omega⟩
          have hnl : n < parts.length := by omega
          have hen : e1 ≤ n := by omega
          have hnb : (n : Int) < below := by omega
          simp only [Int.toNat_natCast] at HT0 HTN HTB
          rw [getD_lt _ _ hnl] at HT0 HTN HTB
          obtain ⟨rfl, hSp⟩ := HAP.out (by omega)
          obtain ⟨d0, d1, d2, hsz⟩ := HCP.out n hnl
          have hkp : wr.heap[bp]? = w.heap[bp]? := HXb.out.1.block bp (lt_of_cell d0) (HSS.out bp hSp)
          rw [← World.cell?_of_block (w := w) hkp] at d0 d1 d2
          have hIR := HRP.out n hnl
          obtain ⟨a4, c4, e4, hm4⟩ := hIR.form
          have HIR := (show Hid _ from hIR)
          rw [e4] at d2 HIR
          have HIT := (show Hid _ from hitem)
          clear hkp hSp hx hitem hIR e4
          generalize parts[n] = P at *
          have FM := (show Hid (∀ m, (wr.drewN m).cell? ⟨b, off + j, none⟩ = some (.int .i64 n) ∧ (wr.drewN m).cell? ⟨bp, op + n * 3, none⟩ = some (.int .i64 P.kind) ∧ (wr.drewN m).cell? ⟨bp, op + n * 3 + 1, none⟩ = some (.string P.s) ∧ (wr.drewN m).cell? ⟨bp, op + n * 3 + 2, none⟩ = some (.slice a4 P.alts.length c4) ∧ Bt g w (wr.drewN m) ∧ WBx (wr.drewN m) g nm v1 v2 v3 (.slice (some ⟨bp, op, none⟩) parts.length cp) e1 true) from fun m => ⟨c0, d0, d1, d2, (HXb.out.1.trans ⟨rfl, rfl, rfl, Nat.le_refl _, fun _ _ _ => rfl⟩ : Bt g w (wr.drewN m)), HXb.out.2.keep (w' := wr.drewN m) rfl⟩)
          go_wp2_with fail
          go_quiet ((go_at_call 33; refine Calls.quiet_of_same (HBF.out _)))
          go_wp2_with fail
          clear c0 d0 d1 d2 x4 x5 x6 z6 HXb HBF
          obtain ⟨W2, hW2⟩ : ∃ W2, wr.drewN nq = W2 := ⟨_, rfl⟩
          have FW := FM.out nq
          rw [hW2] at FW ⊢
          clear FM hW2
          have HFW := (show Hid _ from FW)
          obtain ⟨c0, d0, d1, d2, hbt2, hbx2⟩ := FW
          have x4 : W2.cell? ⟨g, 4, none⟩ = some (.slice (some ⟨bp, op, none⟩) parts.length cp) := hbx2.cell 4 (by simp)
          have lb := lt_of_cell c0
          have lp := lt_of_cell d0
          have lg := lt_of_cell x4
          dsimp only at lb lp lg
          clear hbt2 hbx2
          go_cut [7] from 36 to 46 (fun p wx => ∃ B : Nat, p = .pointer (some ⟨B, 0, none⟩) ∧ Hid (Bt g w wx ∧ WBx wx g nm v1 v2 v3 (.slice (some ⟨bp, op, none⟩) parts.length cp) e1 true ∧ Box wx B 91 [.int .i64 P.kind, .string P.s, .slice a4 P.alts.length c4] ∧ B ≠ g ∧ w.heap.size ≤ B))
          case first =>
            go_region
            all_goals
              go_wp2_with fail
              go_meet
              refine ⟨W2.heap.size, rfl, HFW.out.2.2.2.2.1.trans (Bt.of_below (bel_alloc _ _).drew), (HFW.out.2.2.2.2.2.still (bel_alloc _ _)).keep (w' := (W2.alloc _).drew) rfl, (Box.new W2 91 [.int .i64 P.kind, .string P.s, .slice a4 P.alts.length c4]).keep (w' := (W2.alloc _).drew) rfl, by omega, ?_⟩
              exact HFW.out.2.2.2.2.1.size
          case rest =>
            obtain ⟨B, rfl, HZ⟩ := hcut
            clear c0 d0 d1 d2 x4 lb lp lg HFW
            go_upto_region 6 with fail
            go_cut [48] from 47 to 47 (fun v wx => v = .int .i64 P.kind ∧ wx = wc)
            case first =>
              have y0 : wc.cell? ⟨B, 0, none⟩ = some (.int .i64 P.kind) := HZ.out.2.2.1.cell 0 (by simp)
              go_wp2_with fail
              go_meet
              exact ⟨rfl, rfl⟩
            case rest =>
              obtain ⟨rfl, rfl⟩ := hcut
              apply_assumption
              go_cut [8] from 47 to 125 (fun _ wx => ∃ (ok2 : Bool) (e2 : Nat), Bt g w wx ∧ WBx wx g nm v1 v2 v3 (.slice (some ⟨bp, op, none⟩) parts.length cp) e2 ok2 ∧ (if ok2 then parB P = true ∧ altsL rec P.alts n e1 = some e2 ∧ e2 ≤ 200 else R = none ∧ (e2 : Int) ≤ 300 + n))
              case first =>
                have y1 : wc.cell? ⟨B, 1, none⟩ = some (.string P.s) := HZ.out.2.2.1.cell 1 (by simp)
                have y2 : wc.cell? ⟨B, 2, none⟩ = some (.slice a4 P.alts.length c4) := HZ.out.2.2.1.cell 2 (by simp)
                have x6 : wc.cell? ⟨g, 6, none⟩ = some (.bool true) := HZ.out.2.1.cell 6 (by simp)
                have z6 := HZ.out.2.1.frozen 6
                have HNA := (show Hid _ from fun w => sName P.s hsz w)
                have HKW := (show Hid _ from fun w => keyword_any P.s w)
                have HLT := (show Hid _ from fun w => sLit_any P.s hsz w)
                have hEm := isEmpty_iff P.s
                unfold maxLen at hm4
                by_cases k1 : P.kind = 1
                · have k1' : (P.kind == 1) = true := by simpa using k1
                  cases hn1 : nmB P.s
                  · have HNO : Hid (R = none) := HTB.out (by unfold parB; rw [if_pos k1]; unfold ownB; rw [hn1]; rfl)
                    rw [hn1] at HNA
                    clear hn1 k1
                    go_wp2_with fail
                    refine Calls.mono (HNA.out _) ?_
                    rintro e w9 ⟨rfl, rfl⟩
                    go_wp2_with fail
                    go_meet
                    exact ⟨false, e1, HZ.out.1.trans (Bt.set _ _), HZ.out.2.1.set 6 _, by simpa using (⟨HNO.out, by omega⟩ : R = none ∧ (e1 : Int) ≤ 300 + n)⟩
                  · rw [hn1] at HNA
                    cases hk1 : kwB P.s
                    · rw [hk1] at HKW
                      by_cases hl0 : P.alts.length = 0
                      · have HYES : Hid (parB P = true ∧ altsL rec P.alts n e1 = some e1) := ⟨by unfold parB; rw [if_pos k1]; unfold ownB; rw [hn1, hk1, decide_eq_true hl0]; rfl, by rw [List.eq_nil_of_length_eq_zero hl0, altsL]⟩
                        have hl0' : ((P.alts.length : Int) == 0) = true := by simp [hl0]
                        clear hn1 hk1 k1 hl0
                        go_wp2_with fail
                        refine Calls.mono (HNA.out _) ?_
                        rintro e w9 ⟨rfl, rfl⟩
                        go_wp2_with fail
                        refine Calls.mono (HKW.out _) ?_
                        rintro e w9 ⟨rfl, hb9⟩
                        clear x6 z6 y1 y2
                        have y1 : w9.cell? ⟨B, 1, none⟩ = some (.string P.s) := (HZ.out.2.2.1.still hb9).cell 1 (by simp)
                        have y2 : w9.cell? ⟨B, 2, none⟩ = some (.slice a4 P.alts.length c4) := (HZ.out.2.2.1.still hb9).cell 2 (by simp)
                        have x6 : w9.cell? ⟨g, 6, none⟩ = some (.bool true) := (HZ.out.2.1.still hb9).cell 6 (by simp)
                        have z6 := (HZ.out.2.1.still hb9).frozen 6
                        have HZ9 := (show Hid _ from (⟨HZ.out.1.trans (Bt.of_below hb9), HZ.out.2.1.still hb9⟩ : Bt g w w9 ∧ WBx w9 g nm v1 v2 v3 (.slice (some ⟨bp, op, none⟩) parts.length cp) e1 true)); clear hb9
                        go_wp2_with fail
                        go_meet
                        exact ⟨true, e1, HZ9.out.1.trans (Bt.set _ _), HZ9.out.2.set 6 _, by simpa using (⟨HYES.out.1, HYES.out.2, he200⟩ : parB P = true ∧ altsL rec P.alts n e1 = some e1 ∧ e1 ≤ 200)⟩
                      · have HNO : Hid (R = none) := HTB.out (by unfold parB; rw [if_pos k1, decide_eq_false hl0]; simp)
                        have hl0' : ((P.alts.length : Int) == 0) = false := by simpa using hl0
                        clear hn1 hk1 k1
                        go_wp2_with fail
                        refine Calls.mono (HNA.out _) ?_
                        rintro e w9 ⟨rfl, rfl⟩
                        go_wp2_with fail
                        refine Calls.mono (HKW.out _) ?_
                        rintro e w9 ⟨rfl, hb9⟩
                        clear x6 z6 y1 y2
                        have y1 : w9.cell? ⟨B, 1, none⟩ = some (.string P.s) := (HZ.out.2.2.1.still hb9).cell 1 (by simp)
                        have y2 : w9.cell? ⟨B, 2, none⟩ = some (.slice a4 P.alts.length c4) := (HZ.out.2.2.1.still hb9).cell 2 (by simp)
                        have x6 : w9.cell? ⟨g, 6, none⟩ = some (.bool true) := (HZ.out.2.1.still hb9).cell 6 (by simp)
                        have z6 := (HZ.out.2.1.still hb9).frozen 6
                        have HZ9 := (show Hid _ from (⟨HZ.out.1.trans (Bt.of_below hb9), HZ.out.2.1.still hb9⟩ : Bt g w w9 ∧ WBx w9 g nm v1 v2 v3 (.slice (some ⟨bp, op, none⟩) parts.length cp) e1 true)); clear hb9
                        go_wp2_with fail
                        go_meet
                        exact ⟨false, e1, HZ9.out.1.trans (Bt.set _ _), HZ9.out.2.set 6 _, by simpa using (⟨HNO.out, by omega⟩ : R = none ∧ (e1 : Int) ≤ 300 + n)⟩
                    · rw [hk1] at HKW
                      have HNO : Hid (R = none) := HTB.out (by unfold parB; rw [if_pos k1]; unfold ownB; rw [hk1]; simp)
                      clear hn1 hk1 k1
                      go_wp2_with fail
                      refine Calls.mono (HNA.out _) ?_
                      rintro e w9 ⟨rfl, rfl⟩
                      go_wp2_with fail
                      refine Calls.mono (HKW.out _) ?_
                      rintro e w9 ⟨rfl, hb9⟩
                      clear x6 z6 y1 y2
                      have y1 : w9.cell? ⟨B, 1, none⟩ = some (.string P.s) := (HZ.out.2.2.1.still hb9).cell 1 (by simp)
                      have y2 : w9.cell? ⟨B, 2, none⟩ = some (.slice a4 P.alts.length c4) := (HZ.out.2.2.1.still hb9).cell 2 (by simp)
                      have x6 : w9.cell? ⟨g, 6, none⟩ = some (.bool true) := (HZ.out.2.1.still hb9).cell 6 (by simp)
                      have z6 := (HZ.out.2.1.still hb9).frozen 6
                      have HZ9 := (show Hid _ from (⟨HZ.out.1.trans (Bt.of_below hb9), HZ.out.2.1.still hb9⟩ : Bt g w w9 ∧ WBx w9 g nm v1 v2 v3 (.slice (some ⟨bp, op, none⟩) parts.length cp) e1 true)); clear hb9
                      go_wp2_with fail
                      go_meet
                      exact ⟨false, e1, HZ9.out.1.trans (Bt.set _ _), HZ9.out.2.set 6 _, by simpa using (⟨HNO.out, by omega⟩ : R = none ∧ (e1 : Int) ≤ 300 + n)⟩
                · have k1' : (P.kind == 1) = false := by simpa using k1
                  by_cases k2 : P.kind = 2
                  · have k2' : (P.kind == 2) = true := by simpa using k2
                    cases hn1 : litB P.s
                    · have HNO : Hid (R = none) := HTB.out (by unfold parB; rw [if_neg k1, if_pos k2, hn1]; rfl)
                      rw [hn1] at HLT
                      clear hn1 k2 k1
                      go_wp2_with fail
                      refine Calls.mono (HLT.out _) ?_
                      rintro e w9 ⟨rfl, rfl⟩
                      go_wp2_with fail
                      go_meet
                      exact ⟨false, e1, HZ.out.1.trans (Bt.set _ _), HZ.out.2.1.set 6 _, by simpa using (⟨HNO.out, by omega⟩ : R = none ∧ (e1 : Int) ≤ 300 + n)⟩
                    · rw [hn1] at HLT
                      by_cases hl0 : P.alts.length = 0
                      · have HYES : Hid (parB P = true ∧ altsL rec P.alts n e1 = some e1) := ⟨by unfold parB; rw [if_neg k1, if_pos k2, hn1, decide_eq_true hl0]; rfl, by rw [List.eq_nil_of_length_eq_zero hl0, altsL]⟩
                        have hl0' : ((P.alts.length : Int) == 0) = true := by simp [hl0]
                        clear hn1 k1 k2 hl0
                        go_wp2_with fail
                        refine Calls.mono (HLT.out _) ?_
                        rintro e w9 ⟨rfl, rfl⟩
                        go_wp2_with fail
                        go_meet
                        exact ⟨true, e1, HZ.out.1.trans (Bt.set _ _), HZ.out.2.1.set 6 _, by simpa using (⟨HYES.out.1, HYES.out.2, he200⟩ : parB P = true ∧ altsL rec P.alts n e1 = some e1 ∧ e1 ≤ 200)⟩
                      · have HNO : Hid (R = none) := HTB.out (by unfold parB; rw [if_neg k1, if_pos k2, decide_eq_false hl0]; simp)
                        have hl0' : ((P.alts.length : Int) == 0) = false := by simpa using hl0
                        clear hn1 k1 k2
                        go_wp2_with fail
                        refine Calls.mono (HLT.out _) ?_
                        rintro e w9 ⟨rfl, rfl⟩
                        go_wp2_with fail
                        go_meet
                        exact ⟨false, e1, HZ.out.1.trans (Bt.set _ _), HZ.out.2.1.set 6 _, by simpa using (⟨HNO.out, by omega⟩ : R = none ∧ (e1 : Int) ≤ 300 + n)⟩
                  · have k2' : (P.kind == 2) = false := by simpa using k2
                    by_cases k35 : 3 ≤ P.kind ∧ P.kind ≤ 5
                    · have k5 : (P.kind == 3) = true ∨ ((P.kind == 3) = false ∧ (P.kind == 4) = true) ∨ ((P.kind == 3) = false ∧ (P.kind == 4) = false ∧ (P.kind == 5) = true) := by simp; omega
                      have hwi : wiB P.kind 3 5 = true := by simp [wiB]; omega
                      by_cases hs0 : P.s.size = 0
                      · rw [decide_eq_true hs0] at hEm
                        by_cases hl0 : 0 < P.alts.length
                        · have HPB : Hid (parB P = true) := by
                            show parB P = true
                            unfold parB; rw [if_neg k1, if_neg k2, hwi, decide_eq_true hs0, decide_eq_true hl0]; rfl
                          clear k1 k2 k35 hwi hs0
                          rcases k5 with k3 | ⟨k3, k4⟩ | ⟨k3, k4, k5⟩
                          all_goals
                            go_wp2_with fail
                            go_loopw [8] (fun i wr => ∃ (q e2 : Nat) (ok3 : Bool), i = .int .i64 q ∧ q ≤ P.alts.length ∧ Hid (Bt g w wr ∧ WBx wr g nm v1 v2 v3 (.slice (some ⟨bp, op, none⟩) parts.length cp) e2 ok3 ∧ Box wr B 91 [.int .i64 P.kind, .string P.s, .slice a4 P.alts.length c4] ∧ (if ok3 then altsL rec (P.alts.drop q) n e2 = altsL rec P.alts n e1 ∧ e2 ≤ 200 else R = none ∧ (e2 : Int) ≤ 300 + n))) (fun i _ => P.alts.length - (intOf i).toNat)
                            case atStart => exact ⟨0, e1, true, rfl, Nat.zero_le _, HZ.out.1.trans (Bt.set _ _), HZ.out.2.1.set 6 _, HZ.out.2.2.1.past HZ.out.2.2.2.1, by rw [List.drop_zero]; simpa using he200⟩
                            case round =>
                              obtain ⟨q, e2, ok3, rfl, hq, HX⟩ := hrel
                              have y2' : wr.cell? ⟨B, 2, none⟩ = some (.slice a4 P.alts.length c4) := HX.out.2.2.1.cell 2 (by simp)
                              have x6' : wr.cell? ⟨g, 6, none⟩ = some (.bool ok3) := HX.out.2.1.cell 6 (by simp)
                              clear y1 y2 x6 z6
                              by_cases hql : q < P.alts.length
                              · cases ok3
                                · have hst : R = none ∧ (e2 : Int) ≤ 300 + n := by simpa using HX.out.2.2.2
                                  have HST := (show Hid _ from hst); clear hst
                                  go_wp2_with fail
                                  go_meet
                                  exact ⟨false, e2, HX.out.1, HX.out.2.1, by simpa using HST.out⟩
                                · have hst : altsL rec (P.alts.drop q) n e2 = altsL rec P.alts n e1 ∧ e2 ≤ 200 := by simpa using HX.out.2.2.2
                                  have HST := (show Hid _ from hst.1)
                                  have he2 := hst.2
                                  clear hst
                                  have hql' := hql
                                  have c0 := HC.out j hjl'
                                  obtain ⟨_, hSb⟩ := HA.out (by omega)
                                  have hkb : wr.heap[b]? = w.heap[b]? := HX.out.1.block b (lt_of_cell c0) (HSS.out b hSb)
                                  rw [← World.cell?_of_block (w := w) hkb, HIT.out] at c0
                                  obtain ⟨a5, c5, b5, o5, s0, e5, hc5, hm5, ha5, hcell5, r5⟩ := HIR.out
                                  obtain ⟨rfl, hS5⟩ := ha5 (by omega)
                                  have f0 := hcell5 q hql'
                                  have hk5 : wr.heap[b5]? = w.heap[b5]? := HX.out.1.block b5 (lt_of_cell f0) (HSS.out b5 hS5)
                                  rw [← World.cell?_of_block (w := w) hk5] at f0
                                  have hkeep : ∀ q, S q → q < w.heap.size → wr.drew.heap[q]? = w.heap[q]? := fun q h1 h2 => HX.out.1.block q h2 (HSS.out q h1)
                                  have hcl := HRR.out P.alts[q] (s0 q) n e2 wr.drew (by omega) hnb ((r5 q hql').keep hkeep) (PartR.keep HPP.out hkeep) HX.out.2.1.drew he2
                                  obtain ⟨a6, c6, e6, _⟩ := (r5 q hql').form
                                  rw [e6] at f0 hcl
                                  have HCL := (show Hid _ from hcl)
                                  have hsl : (.slice a4 P.alts.length c4 : Value) = .slice (some ⟨b5, o5, none⟩) P.alts.length c5 := e5
                                  injection hsl with hs1 _ hs3
                                  subst hs1 hs3
                                  clear hcl e6 hk5 hS5 hkb hSb hkeep hcell5 r5 ha5 e5
                                  unfold maxLen at hm5
                                  go_wp2_with fail
                                  go_region_with (go_at_call 35; refine Calls.mono HCL.out ?_; rintro en w9 ⟨rfl, hA9, ht9, hl9⟩)
                                  all_goals
                                    have hbt9 : Bt g w w9 := (HX.out.1.drew).trans ht9
                                    have hbx9 : Box w9 B 91 [.int .i64 P.kind, .string P.s, .slice (some ⟨b5, o5, none⟩) P.alts.length c4] := HX.out.2.2.1.drew.keep (ht9.block B (Box.lt HX.out.2.2.1.drew) HZ.out.2.2.2.1)
                                    rcases hA9 with ⟨e3, hr3, hb3⟩ | ⟨hr3, z, hz, hb3⟩
                                    · have HN := (show Hid (Bt g w w9 ∧ WBx w9 g nm v1 v2 v3 (.slice (some ⟨bp, op, none⟩) parts.length cp) e3 true ∧ Box w9 B 91 [.int .i64 P.kind, .string P.s, .slice (some ⟨b5, o5, none⟩) P.alts.length c4] ∧ (if true = true then altsL rec (P.alts.drop (q + 1)) n e3 = altsL rec P.alts n e1 ∧ e3 ≤ 200 else R = none ∧ (e3 : Int) ≤ 300 + n)) from ⟨hbt9, hb3, hbx9, by simpa using (⟨(altsL_some hql' hr3).symm.trans HST.out, hl9 e3 hr3⟩ : _ ∧ _)⟩)
                                      clear hr3 hb3 hbt9 hbx9 ht9 hl9 c0 f0 y2' x6'
                                      go_wp2_with fail
                                      exact ⟨⟨q + 1, e3, true, by go_num, by omega, HN⟩, by simp [intOf]; omega⟩
                                    · have HN := (show Hid (Bt g w w9 ∧ WBx w9 g nm v1 v2 v3 (.slice (some ⟨bp, op, none⟩) parts.length cp) z false ∧ Box w9 B 91 [.int .i64 P.kind, .string P.s, .slice (some ⟨b5, o5, none⟩) P.alts.length c4] ∧ (if false = true then altsL rec (P.alts.drop (q + 1)) n z = altsL rec P.alts n e1 ∧ z ≤ 200 else R = none ∧ (z : Int) ≤ 300 + n)) from ⟨hbt9, hb3, hbx9, by simpa using (⟨HTN.out (HST.out.symm.trans (altsL_none hql' hr3)), hz⟩ : _ ∧ _)⟩)
                                      clear hr3 hb3 hbt9 hbx9 ht9 hl9 c0 f0 y2' x6'
                                      go_wp2_with fail
                                      exact ⟨⟨q + 1, z, false, by go_num, by omega, HN⟩, by simp [intOf]; omega⟩
                              · have hst3 : (if ok3 then parB P = true ∧ altsL rec P.alts n e1 = some e2 ∧ e2 ≤ 200 else R = none ∧ (e2 : Int) ≤ 300 + n) := by
                                  have h4 := HX.out.2.2.2
                                  cases ok3
                                  · simpa using h4
                                  · have h5 : altsL rec (P.alts.drop q) n e2 = altsL rec P.alts n e1 ∧ e2 ≤ 200 := by simpa using h4
                                    have h6 : altsL rec P.alts n e1 = some e2 := h5.1.symm.trans (altsL_end (by omega))
                                    simpa using (⟨HPB.out, h6, h5.2⟩ : _ ∧ _ ∧ _)
                                have HST := (show Hid _ from hst3); clear hst3
                                go_wp2_with fail
                                go_meet
                                exact ⟨ok3, e2, HX.out.1, HX.out.2.1, HST.out⟩
                        · have HNO : Hid (R = none) := HTB.out (by unfold parB; rw [if_neg k1, if_neg k2, decide_eq_false hl0]; simp)
                          clear k1 k2 k35 hwi hs0
                          rcases k5 with k3 | ⟨k3, k4⟩ | ⟨k3, k4, k5⟩
                          all_goals
                            have x6' : (wc.setCell ⟨g, 6, none⟩ (.bool false)).cell? ⟨g, 6, none⟩ = some (.bool false) := (HZ.out.2.1.set 6 (.bool false)).cell 6 (by simp)
                            have y2' : (wc.setCell ⟨g, 6, none⟩ (.bool false)).cell? ⟨B, 2, none⟩ = some (.slice a4 P.alts.length c4) := (HZ.out.2.2.1.past (T := 91) (u := .bool false) (o := 6) HZ.out.2.2.2.1).cell 2 (by simp)
                            have HW6 := (show Hid _ from (⟨x6', y2'⟩ : _ ∧ _)); clear x6' y2'
                            go_wp2_with fail
                            go_loopw [8] (fun i wr => ∃ q : Nat, i = .int .i64 q ∧ q = 0 ∧ wr = wc.setCell ⟨g, 6, none⟩ (.bool false)) (fun i _ => 0)
                            case atStart => exact ⟨0, rfl, rfl, rfl⟩
                            case round =>
                              obtain ⟨q, rfl, rfl, rfl⟩ := hrel
                              have x6' := HW6.out.1
                              have y2' := HW6.out.2
                              go_wp2_with fail
                              go_meet
                              exact ⟨false, e1, HZ.out.1.trans (Bt.set _ _), HZ.out.2.1.set 6 _, by simpa using (⟨HNO.out, by omega⟩ : R = none ∧ (e1 : Int) ≤ 300 + n)⟩
                      · rw [decide_eq_false hs0] at hEm
                        have HNO : Hid (R = none) := HTB.out (by unfold parB; rw [if_neg k1, if_neg k2, decide_eq_false hs0]; simp)
                        clear k1 k2 k35 hwi hs0
                        by_cases hl0 : 0 < P.alts.length
                        · rcases k5 with k3 | ⟨k3, k4⟩ | ⟨k3, k4, k5⟩
                          all_goals
                            have x6' : (wc.setCell ⟨g, 6, none⟩ (.bool false)).cell? ⟨g, 6, none⟩ = some (.bool false) := (HZ.out.2.1.set 6 (.bool false)).cell 6 (by simp)
                            have y2' : (wc.setCell ⟨g, 6, none⟩ (.bool false)).cell? ⟨B, 2, none⟩ = some (.slice a4 P.alts.length c4) := (HZ.out.2.2.1.past (T := 91) (u := .bool false) (o := 6) HZ.out.2.2.2.1).cell 2 (by simp)
                            have HW6 := (show Hid _ from (⟨x6', y2'⟩ : _ ∧ _)); clear x6' y2'
                            go_wp2_with fail
                            go_loopw [8] (fun i wr => ∃ q : Nat, i = .int .i64 q ∧ q = 0 ∧ wr = wc.setCell ⟨g, 6, none⟩ (.bool false)) (fun i _ => 0)
                            case atStart => exact ⟨0, rfl, rfl, rfl⟩
                            case round =>
                              obtain ⟨q, rfl, rfl, rfl⟩ := hrel
                              have x6' := HW6.out.1
                              have y2' := HW6.out.2
                              go_wp2_with fail
                              go_meet
                              exact ⟨false, e1, HZ.out.1.trans (Bt.set _ _), HZ.out.2.1.set 6 _, by simpa using (⟨HNO.out, by omega⟩ : R = none ∧ (e1 : Int) ≤ 300 + n)⟩
                        · rcases k5 with k3 | ⟨k3, k4⟩ | ⟨k3, k4, k5⟩
                          all_goals
                            have x6' : (wc.setCell ⟨g, 6, none⟩ (.bool false)).cell? ⟨g, 6, none⟩ = some (.bool false) := (HZ.out.2.1.set 6 (.bool false)).cell 6 (by simp)
                            have y2' : (wc.setCell ⟨g, 6, none⟩ (.bool false)).cell? ⟨B, 2, none⟩ = some (.slice a4 P.alts.length c4) := (HZ.out.2.2.1.past (T := 91) (u := .bool false) (o := 6) HZ.out.2.2.2.1).cell 2 (by simp)
                            have HW6 := (show Hid _ from (⟨x6', y2'⟩ : _ ∧ _)); clear x6' y2'
                            go_wp2_with fail
                            go_loopw [8] (fun i wr => ∃ q : Nat, i = .int .i64 q ∧ q = 0 ∧ wr = wc.setCell ⟨g, 6, none⟩ (.bool false)) (fun i _ => 0)
                            case atStart => exact ⟨0, rfl, rfl, rfl⟩
                            case round =>
                              obtain ⟨q, rfl, rfl, rfl⟩ := hrel
                              have x6' := HW6.out.1
                              have y2' := HW6.out.2
                              go_wp2_with fail
                              go_meet
                              exact ⟨false, e1, HZ.out.1.trans (Bt.set _ _), HZ.out.2.1.set 6 _, by simpa using (⟨HNO.out, by omega⟩ : R = none ∧ (e1 : Int) ≤ 300 + n)⟩
                    · have HNO : Hid (R = none) := HTB.out (by unfold parB; rw [if_neg k1, if_neg k2, show wiB P.kind 3 5 = false by simp [wiB]; omega]; rfl)
                      have k3' : (P.kind == 3) = false := by simp; omega
                      have k4' : (P.kind == 4) = false := by simp; omega
                      have k5' : (P.kind == 5) = false := by simp; omega
                      clear k1 k2 k35
                      go_wp2_with fail
                      go_meet
                      exact ⟨false, e1, HZ.out.1.trans (Bt.set _ _), HZ.out.2.1.set 6 _, by simpa using (⟨HNO.out, by omega⟩ : R = none ∧ (e1 : Int) ≤ 300 + n)⟩
              case rest =>
                obtain ⟨ok2, e2, hbt, hbx, hst⟩ := hcut
                have c0 := HC.out j hjl'
                obtain ⟨_, hSb⟩ := HA.out (by omega)
                have hkb : wc.heap[b]? = w.heap[b]? := hbt.block b (lt_of_cell c0) (HSS.out b hSb)
                rw [← World.cell?_of_block (w := w) hkb, HIT.out] at c0
                have x5 : wc.cell? ⟨g, 5, none⟩ = some (.int .i64 e2) := hbx.cell 5 (by simp)
                have x6 : wc.cell? ⟨g, 6, none⟩ = some (.bool ok2) := hbx.cell 6 (by simp)
                have z5 := hbx.frozen 5
                have z6 := hbx.frozen 6
                have HW := (show Hid _ from (⟨hbt, hbx⟩ : Bt g w wc ∧ WBx wc g nm v1 v2 v3 (.slice (some ⟨bp, op, none⟩) parts.length cp) e2 ok2))
                clear hkb hSb hbt hbx
                cases ok2
                · have hst2 : R = none ∧ (e2 : Int) ≤ 300 + n := by simpa using hst
                  have HR2 := (show Hid _ from hst2.1)
                  have he2 := hst2.2
                  clear hst hst2
                  go_wp2_with fail
                  go_region
                  all_goals
                    go_wp2_with fail
                    exact ⟨⟨j + 1, e2 + 1, false, by go_num, by omega, by omega, by simp, ((HW.out.1.trans (Bt.set _ _)).trans (Bt.set _ _)).drew, ((HW.out.2.set 6 _).set 5 _).drew, by simpa using HR2.out⟩, by simp [intOf]; omega⟩
                · have hst2 : parB P = true ∧ altsL rec P.alts n e1 = some e2 ∧ e2 ≤ 200 := by simpa using hst
                  have HT := (show Hid _ from HT0.out e2 hst2.1 hst2.2.1)
                  have he2 := hst2.2.2
                  clear hst hst2
                  by_cases hne : n = e2
                  · subst hne
                    have HRn := (show Hid _ from HT.out.2 rfl)
                    go_wp2_with fail
                    go_region
                    all_goals
                      go_wp2_with fail
                      exact ⟨⟨j + 1, n + 1, true, by go_num, by omega, by omega, fun _ => by omega, ((HW.out.1.trans (Bt.set _ _)).trans (Bt.set _ _)).drew, ((HW.out.2.set 6 _).set 5 _).drew, by simpa using HRn.out⟩, by simp [intOf]; omega⟩
                  · have hne' : ((n : Int) == e2) = false := by simp; omega
                    have HRn := (show Hid _ from HT.out.1 (by omega))
                    go_wp2_with fail
                    go_region
                    all_goals
                      go_wp2_with fail
                      exact ⟨⟨j + 1, e2 + 1, false, by go_num, by omega, by omega, by simp, ((HW.out.1.trans (Bt.set _ _)).trans (Bt.set _ _)).drew, ((HW.out.2.set 6 _).set 5 _).drew, by simpa using HRn.out⟩, by simp [intOf]; omega⟩
      · have HE : Hid (some e1 = R) := (itsL_end (by omega)).symm.trans HXq.out
        go_wp2_with fail
        refine bodyPost_end (v := .tuple #[]) (by simp [results, Tryz.results35]) rfl ?_
        exact ⟨rfl, .inl ⟨e1, HE.out.symm, HXb.out.2⟩, HXb.out.1, fun e' h => by rw [← HE.out] at h; cases h; exact he200⟩
end Go.Proofs.YtgjnlhidbjpdkajGreat
