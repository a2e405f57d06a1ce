import Derived.Test.YtflhfimgeladaaaWj
import Derived.Deep.RegionHeld3
import Derived.Deep.CutRange
/-! The specification: Widen. -/
namespace Go.Proofs.Ytflhfimgeladaaa
open Go.RowKit Go.Deep
set_option linter.unusedVariables false
set_option maxRecDepth 100000
set_option linter.unusedSimpArgs false

/-- Four cells. -/
def S4 (b0 o0 o2 bN iN bA iA : Nat) (v0 v2 vN vA : Value) (w' : World) : Prop := w'.cell? ⟨b0, o0, none⟩ = some v0 ∧ w'.cell? ⟨b0, o2, none⟩ = some v2 ∧ w'.cell? ⟨bN, iN, none⟩ = some vN ∧ w'.cell? ⟨bA, iA, none⟩ = some vA
theorem wiB_wnB (x a b : Int) : wiB x a b = wnB a b x := by unfold wiB wnB; rw [Bool.decide_and]
theorem all_take {N : List Int} {p : Int → Bool} {s : Nat} (hs : s < N.length) (h : (N.take s).all p = true) (hx : p N[s] = true) : (N.take (s + 1)).all p = true := by
  rw [List.take_succ_eq_append_getElem hs, List.all_append, h]
  simp [hx]
set_option maxHeartbeats 12800000 in
theorem sWid_any {S : Nat → Prop} (R : PkD) (x0 x1 x2 x3 : Value) (w : World) (h : PLN w S R x0 x1 x2 x3) (hs : PSm R) :
    Calls Try.prog 21 #[.agg #[x0, x1, x2, x3]] w fun e w' => TAns R w e w' := by
  obtain ⟨ihA, hihA, hyA⟩ := Option.map_eq_some_iff.1 info69i
  simp only [Prod.mk.injEq] at hyA
  obtain ⟨ha0, ha1, ha2⟩ := hyA
  obtain ⟨ihG, hihG, hyG⟩ := Option.map_eq_some_iff.1 info46i
  simp only [Prod.mk.injEq] at hyG
  obtain ⟨hg0, hg1, hg2⟩ := hyG
  obtain ⟨ieA, hieA, hyE⟩ := Option.map_eq_some_iff.1 info71i
  simp only [Prod.mk.injEq] at hyE
  obtain ⟨he0, he1, he2⟩ := hyE
  obtain ⟨i3, hi3, hzz⟩ := Option.map_eq_some_iff.1 info3i
  simp only [Prod.mk.injEq] at hzz
  obtain ⟨hz0, hz1, hz2⟩ := hzz
  obtain ⟨a0, c0, bA, oA, svA, rfl, hcA, hmA, haA, hcellA, hrA, hnA⟩ := h.acts
  obtain ⟨a1, c1, bG, oG, svG, rfl, hcG, hmG, haG, hcellG, hrG, hnG⟩ := h.gotos
  obtain ⟨a2, c2, bN, oN, rfl, hcN, hmN, haN, hcellN⟩ := h.arow
  obtain ⟨a3, c3, bM, oM, rfl, hcM, hmM, haM, hcellM⟩ := h.grow
  have HAR := (show Hid _ from h.arow)
  have HGR := (show Hid _ from h.grow)
  have HRA := (show Hid _ from fun (k : Nat) (hk : k < R.1.length) => (show ∃ (ad : Addr) (cr : Nat), w.cell? ⟨bA, oA + k, none⟩ = some (.slice (some ad) R.1[k].length cr) ∧ Acs w S R.1[k] (.slice (some ad) R.1[k].length cr) from by
    obtain ⟨ad, cr, e⟩ := hnA k hk
    exact ⟨ad, cr, by rw [← e]; exact hcellA k hk, by rw [← e]; exact hrA k hk⟩))
  have HRG := (show Hid _ from fun (k : Nat) (hk : k < R.2.1.length) => (show ∃ (ad : Addr) (cr : Nat), w.cell? ⟨bG, oG + k, none⟩ = some (.slice (some ad) R.2.1[k].length cr) ∧ Ints w S R.2.1[k] (.slice (some ad) R.2.1[k].length cr) from by
    obtain ⟨ad, cr, e⟩ := hnG k hk
    exact ⟨ad, cr, by rw [← e]; exact hcellG k hk, by rw [← e]; exact hrG k hk⟩))
  have HNA := (show Hid _ from hcellN)
  have HMA := (show Hid _ from hcellM)
  have HA0 := (show Hid _ from fun q => (haA q).1)
  have HA1 := (show Hid _ from fun q => (haG q).1)
  have HA2 := (show Hid _ from fun q => (haN q).1)
  have HA3 := (show Hid _ from fun q => (haM q).1)
  have HPS := (show Hid _ from hs)
  unfold maxLen at hmA hmG hmN hmM
  clear hcellA hrA hnA hcellG hrG hnG hcellN hcellM haA haG haN haM h hs
  have hQ : Mtb w (((w.alloc (.cells #[(.slice a0 R.1.length c0), (.slice a1 R.2.1.length c1), (.slice a2 R.2.2.1.length c2), (.slice a3 R.2.2.2.length c3)] 48)).alloc (.cells #[.slice none 0 0, .slice none 0 0] 41)).alloc (.cells #[.slice none 0 0, .slice none 0 0] 41)) (.slice a0 R.1.length c0) (.slice a1 R.2.1.length c1) (.slice a2 R.2.2.1.length c2) (.slice a3 R.2.2.2.length c3) (.slice none 0 0) (.slice none 0 0) := by
    have r1 := (box2_alloc (w.alloc (.cells #[(.slice a0 R.1.length c0), (.slice a1 R.2.1.length c1), (.slice a2 R.2.2.1.length c2), (.slice a3 R.2.2.2.length c3)] 48)) 41 (.slice none 0 0) (.slice none 0 0)).still (bel_alloc _ (.cells #[.slice none 0 0, .slice none 0 0] 41))
    have r2 := box2_alloc ((w.alloc (.cells #[(.slice a0 R.1.length c0), (.slice a1 R.2.1.length c1), (.slice a2 R.2.2.1.length c2), (.slice a3 R.2.2.2.length c3)] 48)).alloc (.cells #[.slice none 0 0, .slice none 0 0] 41)) 41 (.slice none 0 0) (.slice none 0 0)
    simp only [World.size_alloc] at r1 r2
    exact ⟨bel_trans (bel_trans (bel_alloc _ _) (bel_alloc _ _)) (bel_alloc _ _), by simp, ((Box4.new w 48 _ _ _ _).still (bel_alloc _ _)).still (bel_alloc _ _), r1, r2⟩
  have HQ := (show Hid _ from hQ)
  obtain ⟨p0, p1, p2, p3⟩ := hQ.p.cells
  obtain ⟨⟨t0, t1⟩, _⟩ := hQ.t.cells
  have HNO : Hid (sdB R = false → wdR R = (⟨[], []⟩, 10)) := fun e => by
    show wdR R = _
    have : wdB R = false := by rw [← sdB_wdB]; exact e
    unfold wdR; rw [this]; rfl
  have HYE : Hid (sdB R = true → wdR R = (wdT R, 0)) := fun e => by
    show wdR R = _
    have : wdB R = true := by rw [← sdB_wdB]; exact e
    unfold wdR; rw [this]; rfl
  clear hQ
  by_cases h1 : R.2.2.1.length = R.2.2.2.length
  case neg =>
    have HR := (show Hid _ from HNO.out (by unfold sdB; rw [decide_eq_false h1]; rfl))
    have i1 : ((R.2.2.1.length : Int) != (R.2.2.2.length : Int)) = true := by simp; omega
    have HQb := (show Hid _ from HQ.out)
    clear h1 HNO HYE
    go_enter Try.func21, Try.ntmps21
    obtain ⟨⟨r0, r1⟩, z0, z1⟩ := (Mtb.r HQb.out).cells
    obtain ⟨⟨s0, s1⟩, _⟩ := (((Mtb.r HQb.out).set0 (.slice none 0 0)).set1 (.slice none 0 0)).cells
    have HF := (show Hid _ from ((Mtb.bel HQb.out).setCell (p := ⟨w.heap.size + 1, 0, none⟩) (by show w.heap.size ≤ w.heap.size + 1; omega) (.slice none 0 0)).setCell (p := ⟨w.heap.size + 1, 1, none⟩) (by show w.heap.size ≤ w.heap.size + 1; omega) (.slice none 0 0))
    go_wp2_with fail
    refine bodyPost_ret (v := .tuple #[.agg #[.slice none 0 0, .slice none 0 0], .int .i64 10]) (by first | (simp [results, Try.results21, go_sem, s0, s1]; done) | (simp [results, Try.results21, go_sem, r0, r1]; done)) rfl ?_
    first | exact ⟨_, _, [], [], by rw [HR.out], HF.out, tent_nil _ _, by rw [HR.out]; rfl, by rw [HR.out]; rfl⟩ | exact ⟨_, _, [], [], by rw [HR.out], Mtb.bel HQb.out, tent_nil _ _, by rw [HR.out]; rfl, by rw [HR.out]; rfl⟩
  have i1 : ((R.2.2.1.length : Int) != (R.2.2.2.length : Int)) = false := by simp; omega
  by_cases h2 : R.2.2.1.length ≤ 250
  case neg =>
    have HR := (show Hid _ from HNO.out (by unfold sdB; rw [decide_eq_false h2]; simp))
    have i2 : decide ((R.2.2.1.length : Int) > 250) = true := by simp; omega
    have HQb := (show Hid _ from HQ.out)
    clear h1 h2 HNO HYE
    go_enter Try.func21, Try.ntmps21
    obtain ⟨⟨r0, r1⟩, z0, z1⟩ := (Mtb.r HQb.out).cells
    obtain ⟨⟨s0, s1⟩, _⟩ := (((Mtb.r HQb.out).set0 (.slice none 0 0)).set1 (.slice none 0 0)).cells
    have HF := (show Hid _ from ((Mtb.bel HQb.out).setCell (p := ⟨w.heap.size + 1, 0, none⟩) (by show w.heap.size ≤ w.heap.size + 1; omega) (.slice none 0 0)).setCell (p := ⟨w.heap.size + 1, 1, none⟩) (by show w.heap.size ≤ w.heap.size + 1; omega) (.slice none 0 0))
    go_wp2_with fail
    refine bodyPost_ret (v := .tuple #[.agg #[.slice none 0 0, .slice none 0 0], .int .i64 10]) (by first | (simp [results, Try.results21, go_sem, s0, s1]; done) | (simp [results, Try.results21, go_sem, r0, r1]; done)) rfl ?_
    first | exact ⟨_, _, [], [], by rw [HR.out], HF.out, tent_nil _ _, by rw [HR.out]; rfl, by rw [HR.out]; rfl⟩ | exact ⟨_, _, [], [], by rw [HR.out], Mtb.bel HQb.out, tent_nil _ _, by rw [HR.out]; rfl, by rw [HR.out]; rfl⟩
  have i2 : decide ((R.2.2.1.length : Int) > 250) = false := by simp; omega
  have HL1 := (show Hid _ from h1)
  clear h1
  go_enter Try.func21, Try.ntmps21
  go_wp2_with fail
  clear i1 i2 p0 p1 p2 p3 t0 t1
  go_loopw [5] (fun i wr => ∃ s : Nat, i = .int .i64 s ∧ s ≤ R.2.2.1.length ∧ Hid (∃ (u0 u1 : Value) (ra : List (Value × List (Int × Int))) (rg : List (Value × List Int)), Mt w wr (.slice a0 R.1.length c0) (.slice a1 R.2.1.length c1) (.slice a2 R.2.2.1.length c2) (.slice a3 R.2.2.2.length c3) u0 u1 ra rg ∧ ra.map (·.2) = agn R.1 (R.2.2.1.take s) ∧ rg.map (·.2) = agn R.2.1 (R.2.2.2.take s) ∧ (R.2.2.1.take s).all (wnB 0 ((R.1.length : Int) - 1)) = true ∧ (R.2.2.2.take s).all (wnB 0 ((R.2.1.length : Int) - 1)) = true)) (fun i _ => R.2.2.1.length - (intOf i).toNat)
  case atStart => exact ⟨0, rfl, Nat.zero_le _, _, _, [], [], ⟨HQ.out, tent_nil _ _, fun p hp => absurd hp (by simp), fun p hp => absurd hp (by simp)⟩, by simp [agn], by simp [agn], by simp, by simp⟩
  case round =>
    obtain ⟨s, rfl, hs, HI⟩ := hrel
    obtain ⟨u0, u1, ra, rg, hM, hda, hdg, hia, hig⟩ := HI.out
    obtain ⟨y0, f0, _, rfl, _⟩ := own_cell (show wr.ownsRow (w.heap.size + 3) 69 1 u0 ra.length (ra.map (·.1)) from hM.own.ok (hdA u0 ra) (by simp [TEnt]))
    obtain ⟨y1, f1, _, rfl, _⟩ := own_cell (show wr.ownsRow (w.heap.size + 3) 46 1 u1 rg.length (rg.map (·.1)) from hM.own.ok (hdG u1 rg) (by simp [TEnt]))
    have HM := (show Hid _ from hM)
    have HD := (show Hid _ from (⟨hda, hdg, hia, hig⟩ : _ ∧ _ ∧ _ ∧ _))
    clear hM hda hdg hia hig HI
    obtain ⟨p0, p1, p2, p3⟩ := (Mtb.p HM.out.mb).cells
    obtain ⟨⟨t0, t1⟩, _⟩ := (Mtb.t HM.out.mb).cells
    by_cases hsl : s < R.2.2.1.length
    · have hsl' := hsl
      have hsm : s < R.2.2.2.length := by have := HL1.out; omega
      have e2' := HA2.out (by omega)
      have e3' := HA3.out (by omega)
      subst e2' e3'
      have n0 := HNA.out s hsl'
      have m0 := HMA.out s hsm
      rw [← (Mtb.bel HM.out.mb).cell (lt_of_cell n0)] at n0
      rw [← (Mtb.bel HM.out.mb).cell (lt_of_cell m0)] at m0
      have HBT := (show Hid _ from between_any)
      have HW1 := (show Hid _ from wiB_wnB R.2.2.1[s] 0 ((R.1.length : Int) - 1))
      have HW2 := (show Hid _ from wiB_wnB R.2.2.2[s] 0 ((R.2.1.length : Int) - 1))
      have HN3 : Hid (wiB R.2.2.1[s] 0 ((R.1.length : Int) - 1) = false → wdR R = (⟨[], []⟩, 10)) := fun e => HNO.out (by
        have : R.2.2.1.all (wnB 0 ((R.1.length : Int) - 1)) = false := List.all_eq_false.2 ⟨_, List.getElem_mem hsl', by rw [← HW1.out, e]; simp⟩
        unfold sdB; rw [this]; simp)
      have HN4 : Hid (wiB R.2.2.2[s] 0 ((R.2.1.length : Int) - 1) = false → wdR R = (⟨[], []⟩, 10)) := fun e => HNO.out (by
        have : R.2.2.2.all (wnB 0 ((R.2.1.length : Int) - 1)) = false := List.all_eq_false.2 ⟨_, List.getElem_mem hsm, by rw [← HW2.out, e]; simp⟩
        unfold sdB; rw [this]; simp)
      go_wp2_with fail
      go_cut [52] from 29 to 51 (fun v wx => v = .bool (!wiB R.2.2.1[s] 0 ((R.1.length : Int) - 1) || !wiB R.2.2.2[s] 0 ((R.2.1.length : Int) - 1)) ∧ Hid (Below wr.heap.size wr wx))
      case first =>
        have HV1 := (show Hid _ from HBT.out R.2.2.1[s] 0 ((R.1.length : Int) - 1))
        have HV2 := (show Hid _ from HBT.out R.2.2.2[s] 0 ((R.2.1.length : Int) - 1))
        clear HW1 HW2 HN3 HN4 HBT
        generalize wiB R.2.2.1[s] 0 ((R.1.length : Int) - 1) = X1 at *
        generalize wiB R.2.2.2[s] 0 ((R.2.1.length : Int) - 1) = X2 at *
        generalize R.2.2.1[s] = n1 at *
        generalize R.2.2.2[s] = n2 at *
        cases X1 <;> cases X2
        all_goals
          go_quiet (first
            | (go_at_call_of 31 (Value.int .i64 n1); refine Calls.quiet_of_same (HV1.out _))
            | (go_at_call_of 31 (Value.int .i64 n2); refine Calls.quiet_of_same (HV2.out _)))
          go_wp2_with fail
          go_meet
          exact ⟨rfl, bel_drewS (Below.refl _ _) _⟩
      case rest =>
        obtain ⟨rfl, HC⟩ := hcut
        have HM2 := (show Hid _ from Mt.still HM.out HC.out)
        clear p0 p1 p2 p3 t0 t1 n0 m0 HC HM HBT
        by_cases hx : (wiB R.2.2.1[s] 0 ((R.1.length : Int) - 1) = true ∧ wiB R.2.2.2[s] 0 ((R.2.1.length : Int) - 1) = true)
        case neg =>
          have hxb : (!wiB R.2.2.1[s] 0 ((R.1.length : Int) - 1) || !wiB R.2.2.2[s] 0 ((R.2.1.length : Int) - 1)) = true := by
            cases e1 : wiB R.2.2.1[s] 0 ((R.1.length : Int) - 1) <;> cases e2 : wiB R.2.2.2[s] 0 ((R.2.1.length : Int) - 1) <;> simp_all
          have HR : Hid (wdR R = (⟨[], []⟩, 10)) := by
            show wdR R = _
            cases e1 : wiB R.2.2.1[s] 0 ((R.1.length : Int) - 1)
            · exact HN3.out e1
            · cases e2 : wiB R.2.2.2[s] 0 ((R.2.1.length : Int) - 1)
              · exact HN4.out e2
              · exact absurd ⟨e1, e2⟩ hx
          rw [hxb]
          have HQb := (show Hid _ from HM2.out.mb)
          clear hx hxb HN3 HN4 HW1 HW2
          obtain ⟨⟨r0, r1⟩, z0, z1⟩ := (Mtb.r HQb.out).cells
          obtain ⟨⟨s0, s1⟩, _⟩ := (((Mtb.r HQb.out).set0 (.slice none 0 0)).set1 (.slice none 0 0)).cells
          have HF := (show Hid _ from ((Mtb.bel HQb.out).setCell (p := ⟨w.heap.size + 1, 0, none⟩) (by show w.heap.size ≤ w.heap.size + 1; omega) (.slice none 0 0)).setCell (p := ⟨w.heap.size + 1, 1, none⟩) (by show w.heap.size ≤ w.heap.size + 1; omega) (.slice none 0 0))
          go_wp2_with fail
          refine bodyPost_ret (v := .tuple #[.agg #[.slice none 0 0, .slice none 0 0], .int .i64 10]) (by first | (simp [results, Try.results21, go_sem, s0, s1]; done) | (simp [results, Try.results21, go_sem, r0, r1]; done)) rfl ?_
          first | exact ⟨_, _, [], [], by rw [HR.out], HF.out, tent_nil _ _, by rw [HR.out]; rfl, by rw [HR.out]; rfl⟩ | exact ⟨_, _, [], [], by rw [HR.out], Mtb.bel HQb.out, tent_nil _ _, by rw [HR.out]; rfl, by rw [HR.out]; rfl⟩
        obtain ⟨hx1, hx2⟩ := hx
        rw [hx1, hx2]
        rw [HW1.out] at hx1
        rw [HW2.out] at hx2
        obtain ⟨k, hk, hkl⟩ : ∃ k : Nat, R.2.2.1[s] = (k : Int) ∧ k < R.1.length := by
          unfold wnB at hx1
          simp only [Bool.and_eq_true, decide_eq_true_eq] at hx1
          exact ⟨R.2.2.1[s].toNat, by omega, by omega⟩
        obtain ⟨l, hl, hll⟩ : ∃ k : Nat, R.2.2.2[s] = (k : Int) ∧ k < R.2.1.length := by
          unfold wnB at hx2
          simp only [Bool.and_eq_true, decide_eq_true_eq] at hx2
          exact ⟨R.2.2.2[s].toNat, by omega, by omega⟩
        obtain ⟨adA, crA, kA, hrowA⟩ := HRA.out k hkl
        obtain ⟨adG, crG, kG, hrowG⟩ := HRG.out l hll
        have hrl := HPS.out.act k hkl
        have hgl := HPS.out.goto l hll
        have e0 := HA0.out (by omega)
        have e1 := HA1.out (by omega)
        subst e0 e1
        have n0 := HNA.out s hsl'
        rw [hk] at n0
        have m0 := HMA.out s hsm
        rw [hl] at m0
        have hra : ra.length = s := by have := congrArg List.length HD.out.1; simp [agn] at this; omega
        have hrg : rg.length = s := by have := congrArg List.length HD.out.2.1; simp [agn] at this; omega
        have HXN := (show Hid _ from fun (v v' : Value) => (⟨agn_next R.1 R.2.2.1 s k hsl' hk hkl ra HD.out.1 v, agn_next R.2.1 R.2.2.2 s l hsm hl hll rg HD.out.2.1 v', all_take hsl' HD.out.2.2.1 hx1, all_take hsm HD.out.2.2.2 hx2⟩ : _ ∧ _ ∧ _ ∧ _))
        have hra' : ra.length ≤ 250 := by omega
        have hrg' : rg.length ≤ 250 := by omega
        clear hx1 hx2 HN3 HN4 HW1 HW2 hk hl hra hrg
        have HCQA := (show Hid _ from fun (w' : World) (v0 v1 : Value) (hb : Mtb w w' (.slice (some ⟨bA, oA, none⟩) R.1.length c0) (.slice (some ⟨bG, oG, none⟩) R.2.1.length c1) (.slice (some ⟨bN, oN, none⟩) R.2.2.1.length c2) (.slice (some ⟨bM, oM, none⟩) R.2.2.2.length c3) v0 v1) => (⟨hb.p.cells.1, hb.p.cells.2.2.1, (hb.bel.cell (lt_of_cell n0)).trans n0, (hb.bel.cell (lt_of_cell kA)).trans kA⟩ : S4 w.heap.size 0 2 bN (oN + s) bA (oA + k) (.slice (some ⟨bA, oA, none⟩) R.1.length c0) (.slice (some ⟨bN, oN, none⟩) R.2.2.1.length c2) (.int .i64 (k : Nat)) (.slice (some adA) R.1[k].length crA) w'))
        obtain ⟨p0, p1, p2, p3⟩ := (Mtb.p HM2.out.mb).cells
        obtain ⟨⟨t0, t1⟩, _⟩ := (Mtb.t HM2.out.mb).cells
        have hbd : Below wc.heap.size wc (wc.alloc (.cells #[] 71)).drew := (bel_alloc wc (.cells #[] 71)).drew
        have hba := bel_alloc wc (.cells #[] 71)
        have HNW := (show Hid _ from newsA ((hrowA.still (Mtb.bel HM2.out.mb)).still hbd))
        have HBD := (show Hid _ from hbd)
        have d1 := (hba.cell (lt_of_cell t0)).trans t0
        have hS0 := HCQA.out _ _ _ (Mtb.still HM2.out.mb ((Below.refl wc.heap.size wc).drew))
        have hS1 := HCQA.out _ _ _ (Mtb.still HM2.out.mb hbd)
        have hszc := HM2.out.mb.sz
        clear hbd hba
        go_wp2_with fail
        go_cut [68] from 54 to 69 (fun v wx => Hid (∃ (u' : Value) (gr cr' : Nat), Mt w wx (.slice (some ⟨bA, oA, none⟩) R.1.length c0) (.slice (some ⟨bG, oG, none⟩) R.2.1.length c1) (.slice (some ⟨bN, oN, none⟩) R.2.2.1.length c2) (.slice (some ⟨bM, oM, none⟩) R.2.2.2.length c3) u' (.slice y1 rg.length f1) (ra ++ [(.slice (some ⟨gr, 0, none⟩) R.1[k].length cr', R.1[k])]) rg))
        case first =>
          refine wp_region_held_drew (S := (fun w' => w'.cell? ⟨w.heap.size, 0, none⟩ = some (.slice (some ⟨bA, oA, none⟩) R.1.length c0) ∧ w'.cell? ⟨w.heap.size, 2, none⟩ = some (.slice (some ⟨bN, oN, none⟩) R.2.2.1.length c2) ∧ w'.cell? ⟨bN, oN + s, none⟩ = some (.int .i64 (k : Nat)) ∧ w'.cell? ⟨bA, oA + k, none⟩ = some (.slice (some adA) R.1[k].length crA))) (by kernel_rfl) hS0 (fun hHeld => ?_)
          refine wpAnyH_take (i := 0) (oi := { dst := some 54, op := Go.Op.fieldAddr 41 (Go.Operand.tmp 4) 0, type := 0, pos := "l05_tables.go:413", after := #[], guard := none }) (v := ?v1) rfl (by kernel_rfl) (by kernel_rfl) (by kernel_rfl) (fun _ _ _ h => h) (Or.inl ⟨by rfl, ?h1⟩) (by assumption) ?r1
          case h1 => (intro w hSw; (try dsimp only at hSw); go_simp; try with_reducible rfl)
          try simp only [Act.put, List.setIfInBounds_toArray, List.set_cons_zero, List.set_cons_succ]
          refine wpAnyH_take (i := 3) (oi := { dst := some 57, op := Go.Op.fieldAddr 48 (Go.Operand.tmp 1) 0, type := 0, pos := "l05_tables.go:413", after := #[], guard := none }) (v := ?v2) rfl (by kernel_rfl) (by kernel_rfl) (by kernel_rfl) (fun _ _ _ h => h) (Or.inl ⟨by rfl, ?h2⟩) (by assumption) ?r2
          case h2 => (intro w hSw; (try dsimp only at hSw); go_simp; try with_reducible rfl)
          try simp only [Act.put, List.setIfInBounds_toArray, List.set_cons_zero, List.set_cons_succ]
          refine wpAnyH_take (i := 4) (oi := { dst := some 58, op := Go.Op.load 39 (Go.Operand.tmp 57), type := 39, pos := "l05_tables.go:413", after := #[{ on := 3, ground := Go.Ground.data }], guard := none }) (v := ?v3) rfl (by kernel_rfl) (by kernel_rfl) (by kernel_rfl) (fun _ _ _ h => h) (Or.inl ⟨by rfl, ?h3⟩) (by assumption) ?r3
          case h3 => (intro w hSw; (try dsimp only at hSw); go_simp; try with_reducible rfl)
          try simp only [Act.put, List.setIfInBounds_toArray, List.set_cons_zero, List.set_cons_succ]
          refine wpAnyH_take (i := 5) (oi := { dst := some 59, op := Go.Op.fieldAddr 48 (Go.Operand.tmp 1) 2, type := 0, pos := "l05_tables.go:413", after := #[], guard := none }) (v := ?v4) rfl (by kernel_rfl) (by kernel_rfl) (by kernel_rfl) (fun _ _ _ h => h) (Or.inl ⟨by rfl, ?h4⟩) (by assumption) ?r4
          case h4 => (intro w hSw; (try dsimp only at hSw); go_simp; try with_reducible rfl)
          try simp only [Act.put, List.setIfInBounds_toArray, List.set_cons_zero, List.set_cons_succ]
          refine wpAnyH_take (i := 6) (oi := { dst := some 60, op := Go.Op.load 46 (Go.Operand.tmp 59), type := 46, pos := "l05_tables.go:413", after := #[{ on := 5, ground := Go.Ground.data }], guard := none }) (v := ?v5) rfl (by kernel_rfl) (by kernel_rfl) (by kernel_rfl) (fun _ _ _ h => h) (Or.inl ⟨by rfl, ?h5⟩) (by assumption) ?r5
          case h5 => (intro w hSw; (try dsimp only at hSw); go_simp; try with_reducible rfl)
          try simp only [Act.put, List.setIfInBounds_toArray, List.set_cons_zero, List.set_cons_succ]
          refine wpAnyH_take (i := 7) (oi := { dst := some 61, op := Go.Op.move (Go.Operand.tmp 5), type := 3, pos := "l05_tables.go:413", after := #[], guard := none }) (v := ?v6) rfl (by kernel_rfl) (by kernel_rfl) (by kernel_rfl) (fun _ _ _ h => h) (Or.inl ⟨by rfl, ?h6⟩) (by assumption) ?r6
          case h6 => (intro w hSw; (try dsimp only at hSw); go_simp; try with_reducible rfl)
          try simp only [Act.put, List.setIfInBounds_toArray, List.set_cons_zero, List.set_cons_succ]
          refine wpAnyH_take (i := 8) (oi := { dst := some 62, op := Go.Op.indexAddr 46 (Go.Operand.tmp 60) (Go.Operand.tmp 61), type := 0, pos := "l05_tables.go:413", after := #[{ on := 6, ground := Go.Ground.data }, { on := 7, ground := Go.Ground.data }], guard := none }) (v := ?v7) rfl (by kernel_rfl) (by kernel_rfl) (by kernel_rfl) (fun _ _ _ h => h) (Or.inl ⟨by rfl, ?h7⟩) (by assumption) ?r7
          case h7 => (intro w hSw; (try dsimp only at hSw); go_simp; try with_reducible rfl)
          try simp only [Act.put, List.setIfInBounds_toArray, List.set_cons_zero, List.set_cons_succ]
          refine wpAnyH_take (i := 9) (oi := { dst := some 63, op := Go.Op.load 3 (Go.Operand.tmp 62), type := 3, pos := "l05_tables.go:413", after := #[{ on := 8, ground := Go.Ground.data }], guard := none }) (v := ?v8) rfl (by kernel_rfl) (by kernel_rfl) (by kernel_rfl) (fun _ _ _ h => h) (Or.inl ⟨by rfl, ?h8⟩) (by assumption) ?r8
          case h8 => (intro w hSw; (try dsimp only at hSw); go_simp; try with_reducible rfl)
          try simp only [Act.put, List.setIfInBounds_toArray, List.set_cons_zero, List.set_cons_succ]
          refine wpAnyH_take (i := 10) (oi := { dst := some 64, op := Go.Op.indexAddr 39 (Go.Operand.tmp 58) (Go.Operand.tmp 63), type := 0, pos := "l05_tables.go:413", after := #[{ on := 4, ground := Go.Ground.data }, { on := 9, ground := Go.Ground.data }], guard := none }) (v := ?v9) rfl (by kernel_rfl) (by kernel_rfl) (by kernel_rfl) (fun _ _ _ h => h) (Or.inl ⟨by rfl, ?h9⟩) (by assumption) ?r9
          case h9 => (intro w hSw; (try dsimp only at hSw); go_simp; try with_reducible rfl)
          try simp only [Act.put, List.setIfInBounds_toArray, List.set_cons_zero, List.set_cons_succ]
          refine wpAnyH_take (i := 11) (oi := { dst := some 65, op := Go.Op.load 69 (Go.Operand.tmp 64), type := 69, pos := "l05_tables.go:413", after := #[{ on := 10, ground := Go.Ground.data }], guard := none }) (v := ?v10) rfl (by kernel_rfl) (by kernel_rfl) (by kernel_rfl) (fun _ _ _ h => h) (Or.inl ⟨by rfl, ?h10⟩) (by assumption) ?r10
          case h10 => (intro w hSw; (try dsimp only at hSw); go_simp; try with_reducible rfl)
          try simp only [Act.put, List.setIfInBounds_toArray, List.set_cons_zero, List.set_cons_succ]
          refine wpAnyH_ready (rs := [1, 2]) (by kernel_rfl) (by simp) ?_
          refine AllReadyH.cons (o := { dst := some 55, op := Go.Op.load 39 (Go.Operand.tmp 54), type := 39, pos := "l05_tables.go:413", after := #[{ on := 0, ground := Go.Ground.data }], guard := none }) rfl (fun K hK => ?_) (AllReadyH.cons (o := { dst := some 56, op := Go.Op.buildSlice 69 0 #[], type := 69, pos := "l05_tables.go:413", after := #[], guard := none }) rfl (fun K hK => ?_) AllReadyH.nil)
          · go_simp
            clear hHeld
            refine hK.out _ _ ?_ (fun hHeld => ?_)
            · ((try dsimp only); (show S4 w.heap.size 0 2 bN (oN + s) bA (oA + k) (.slice (some ⟨bA, oA, none⟩) R.1.length c0) (.slice (some ⟨bN, oN, none⟩) R.2.2.1.length c2) (.int .i64 (k : Nat)) (.slice (some adA) R.1[k].length crA) _); (first | exact hS0 | exact hS1 | exact hS5 | exact hS5A | exact hS7 | exact hS8))
            clear hK K
            try simp only [Act.put, List.setIfInBounds_toArray, List.set_cons_zero, List.set_cons_succ]
            refine wpAnyH_ready (rs := [2]) (by kernel_rfl) (by simp) ?_
            refine AllReadyH.cons (o := { dst := some 56, op := Go.Op.buildSlice 69 0 #[], type := 69, pos := "l05_tables.go:413", after := #[], guard := none }) rfl (fun K hK => ?_) AllReadyH.nil
            go_simp
            clear hHeld
            refine hK.out _ _ ?_ (fun hHeld => ?_)
            · ((try dsimp only); (show S4 w.heap.size 0 2 bN (oN + s) bA (oA + k) (.slice (some ⟨bA, oA, none⟩) R.1.length c0) (.slice (some ⟨bN, oN, none⟩) R.2.2.1.length c2) (.int .i64 (k : Nat)) (.slice (some adA) R.1[k].length crA) _); (first | exact hS0 | exact hS1 | exact hS5 | exact hS5A | exact hS7 | exact hS8))
            clear hK K
            try simp only [Act.put, List.setIfInBounds_toArray, List.set_cons_zero, List.set_cons_succ]
            refine wpAnyH_ready (rs := [12]) (by kernel_rfl) (by simp) ?_
            refine AllReadyH.cons (o := { dst := some 66, op := Go.Op.call { callee := Go.Callee.builtin Go.Builtin.append, args := #[Go.Operand.tmp 56, Go.Operand.tmp 65], argTypes := #[69, 69] }, type := 69, pos := "l05_tables.go:413", after := #[{ on := 2, ground := Go.Ground.data }, { on := 11, ground := Go.Ground.data }], guard := none }) rfl (fun K hK => ?_) AllReadyH.nil
            (refine step_append_made _ rfl (.tmp 56) (.tmp 65) 69 rfl wc.heap.size 71 ieA _ 2 16 Try.underlying69 hieA he0 he1 he2 rfl (by decide) wc.heap.size (by simp [Act.eval, Act.put]) (own_empty _ _ _) adA R.1[k].length crA (encA R.1[k]) (by simp [Act.eval, Act.put]) (encA_len _) HNW.out (encA_one _) (by unfold maxLen; omega) (by omega) (by simp) ?_; intro g5 c5 w5 hown5 hgr5; have hb5 : Below wc.heap.size wc w5 := grown_bel HBD.out hgr5 (fun q hq => Nat.le_of_eq (by simpa using hq)) (by simp); have HMB5 := (show Hid _ from (Mtb.still HM2.out.mb hb5).still (bel_alloc w5 (.cells #[.slice (some ⟨g5, 0, none⟩) R.1[k].length c5] 69))); have HH5 := (show Hid _ from ((Own.still HM2.out.own hb5).still (bel_alloc w5 (.cells #[.slice (some ⟨g5, 0, none⟩) R.1[k].length c5] 69))).ok (hdA (.slice y0 ra.length f0) ra) (by simp [TEnt])); have d4 := (hb5.cell (lt_of_cell t0)).trans t0; obtain ⟨⟨b0, b1⟩, _⟩ := HMB5.out.t.cells; have hb5s := HMB5.out.sz; have HO5 := (show Hid _ from (⟨hb5, hown5⟩ : _ ∧ _)); have hS5 := HCQA.out _ _ _ (Mtb.still HM2.out.mb hb5); have hS5A := HCQA.out _ _ _ HMB5.out; clear hown5 hgr5)
            clear hHeld
            refine hK.out _ _ ?_ (fun hHeld => ?_)
            · ((try dsimp only); (show S4 w.heap.size 0 2 bN (oN + s) bA (oA + k) (.slice (some ⟨bA, oA, none⟩) R.1.length c0) (.slice (some ⟨bN, oN, none⟩) R.2.2.1.length c2) (.int .i64 (k : Nat)) (.slice (some adA) R.1[k].length crA) _); (first | exact hS0 | exact hS1 | exact hS5 | exact hS5A | exact hS7 | exact hS8))
            clear hK K
            try simp only [Act.put, List.setIfInBounds_toArray, List.set_cons_zero, List.set_cons_succ]
            refine wpAnyH_ready (rs := [13]) (by kernel_rfl) (by simp) ?_
            refine AllReadyH.cons (o := { dst := some 67, op := Go.Op.buildSlice 39 1 #[(0, Go.Operand.tmp 66)], type := 39, pos := "l05_tables.go:413", after := #[{ on := 12, ground := Go.Ground.data }], guard := none }) rfl (fun K hK => ?_) AllReadyH.nil
            go_simp
            clear hHeld
            refine hK.out _ _ ?_ (fun hHeld => ?_)
            · ((try dsimp only); (show S4 w.heap.size 0 2 bN (oN + s) bA (oA + k) (.slice (some ⟨bA, oA, none⟩) R.1.length c0) (.slice (some ⟨bN, oN, none⟩) R.2.2.1.length c2) (.int .i64 (k : Nat)) (.slice (some adA) R.1[k].length crA) _); (first | exact hS0 | exact hS1 | exact hS5 | exact hS5A | exact hS7 | exact hS8))
            clear hK K
            try simp only [Act.put, List.setIfInBounds_toArray, List.set_cons_zero, List.set_cons_succ]
            refine wpAnyH_ready (rs := [14]) (by kernel_rfl) (by simp) ?_
            refine AllReadyH.cons (o := { dst := some 68, op := Go.Op.call { callee := Go.Callee.builtin Go.Builtin.append, args := #[Go.Operand.tmp 55, Go.Operand.tmp 67], argTypes := #[39, 39] }, type := 39, pos := "l05_tables.go:413", after := #[{ on := 1, ground := Go.Ground.data }, { on := 13, ground := Go.Ground.data }, { on := 12, ground := Go.Ground.chain }], guard := none }) rfl (fun K hK => ?_) AllReadyH.nil
            (refine step_append_lies _ rfl (.tmp 55) (.tmp 67) 39 rfl (w.heap.size + 3) 69 ihA _ 1 24 Try.underlying39 hihA ha0 ha1 ha2 rfl (by decide) _ ra.length _ (by simp [Act.eval, Act.put]) HH5.out ⟨w5.heap.size, 0, none⟩ 1 1 [.slice (some ⟨g5, 0, none⟩) R.1[k].length c5] (by simp [Act.eval, Act.put]) rfl (cell_one_new _ _ _) (by intro y hy; simp at hy; subst hy; rfl) (by decide) (by unfold maxLen; omega) (by omega) hb5s _ rfl ?_; intro g7 cap7 w7 hown7 hgr7 hat7 hlt7; have hmb7 := (HMB5.out).grown hgr7 (fun q hq => (World.ownsRow.lt HH5.out q hq).1); obtain ⟨⟨s0, s1⟩, r0, r1⟩ := hmb7.t.cells; have hS7 := HCQA.out _ _ _ hmb7; have hS8 := HCQA.out _ _ _ (hmb7.set (hmb7.t.set0 (.slice (some ⟨g7, 0, none⟩) (ra.length + 1) cap7))); clear hmb7)
            clear hHeld
            refine hK.out _ _ ?_ (fun hHeld => ?_)
            · ((try dsimp only); (show S4 w.heap.size 0 2 bN (oN + s) bA (oA + k) (.slice (some ⟨bA, oA, none⟩) R.1.length c0) (.slice (some ⟨bN, oN, none⟩) R.2.2.1.length c2) (.int .i64 (k : Nat)) (.slice (some adA) R.1[k].length crA) _); (first | exact hS0 | exact hS1 | exact hS5 | exact hS5A | exact hS7 | exact hS8))
            clear hK K
            try simp only [Act.put, List.setIfInBounds_toArray, List.set_cons_zero, List.set_cons_succ]
            refine wpAnyH_take (i := 15) (oi := { dst := some 69, op := Go.Op.fieldAddr 41 (Go.Operand.tmp 4) 0, type := 0, pos := "l05_tables.go:413", after := #[{ on := 0, ground := Go.Ground.phase }, { on := 1, ground := Go.Ground.phase }, { on := 2, ground := Go.Ground.phase }, { on := 3, ground := Go.Ground.phase }, { on := 4, ground := Go.Ground.phase }, { on := 5, ground := Go.Ground.phase }, { on := 6, ground := Go.Ground.phase }, { on := 7, ground := Go.Ground.phase }, { on := 8, ground := Go.Ground.phase }, { on := 9, ground := Go.Ground.phase }, { on := 10, ground := Go.Ground.phase }, { on := 11, ground := Go.Ground.phase }, { on := 12, ground := Go.Ground.phase }, { on := 13, ground := Go.Ground.phase }, { on := 14, ground := Go.Ground.phase }], guard := none }) (v := ?v11) rfl (by kernel_rfl) (by kernel_rfl) (by kernel_rfl) (fun _ _ _ h => h) (Or.inl ⟨by rfl, ?h11⟩) (by assumption) ?r11
            case h11 => (intro w hSw; (try dsimp only at hSw); go_simp; try with_reducible rfl)
            try simp only [Act.put, List.setIfInBounds_toArray, List.set_cons_zero, List.set_cons_succ]
            refine wpAnyH_ready (rs := [16]) (by kernel_rfl) (by simp) ?_
            refine AllReadyH.cons (o := { dst := none, op := Go.Op.store 39 (Go.Operand.tmp 69) (Go.Operand.tmp 68), type := 0, pos := "l05_tables.go:413", after := #[{ on := 15, ground := Go.Ground.data }, { on := 14, ground := Go.Ground.data }, { on := 14, ground := Go.Ground.chain }, { on := 0, ground := Go.Ground.phase }, { on := 1, ground := Go.Ground.phase }, { on := 2, ground := Go.Ground.phase }, { on := 3, ground := Go.Ground.phase }, { on := 4, ground := Go.Ground.phase }, { on := 5, ground := Go.Ground.phase }, { on := 6, ground := Go.Ground.phase }, { on := 7, ground := Go.Ground.phase }, { on := 8, ground := Go.Ground.phase }, { on := 9, ground := Go.Ground.phase }, { on := 10, ground := Go.Ground.phase }, { on := 11, ground := Go.Ground.phase }, { on := 12, ground := Go.Ground.phase }, { on := 13, ground := Go.Ground.phase }, { on := 14, ground := Go.Ground.phase }], guard := none }) rfl (fun K hK => ?_) AllReadyH.nil
            go_simp
            clear hHeld
            refine hK.out _ _ ?_ (fun hHeld => ?_)
            · ((try dsimp only); (show S4 w.heap.size 0 2 bN (oN + s) bA (oA + k) (.slice (some ⟨bA, oA, none⟩) R.1.length c0) (.slice (some ⟨bN, oN, none⟩) R.2.2.1.length c2) (.int .i64 (k : Nat)) (.slice (some adA) R.1[k].length crA) _); (first | exact hS0 | exact hS1 | exact hS5 | exact hS5A | exact hS7 | exact hS8))
            clear hK K
            try simp only [Act.put, List.setIfInBounds_toArray, List.set_cons_zero, List.set_cons_succ]
            refine wpAnyH_done (by kernel_rfl) ?_ _
            have HFIN := (show Hid _ from Mt.rowA (row := R.1[k]) (ad := ⟨g5, 0, none⟩) (c5 := c5) (u' := .slice (some ⟨g7, 0, none⟩) (ra.length + 1) cap7) HM2.out HO5.out.1 HO5.out.2 hgr7 hown7 (fun q hq => by
              have : g7 = q := by simpa [Value.ownBlock] using hq
              subst this
              rcases hat7 with h | h
              · exact .inl h
              · exact .inr (by first | omega | (simp at h ⊢; done) | (simp at h ⊢; omega))))
            clear hgr7 hown7 hat7 hlt7
            go_wp2_with fail
            go_meet
            exact ⟨_, _, _, HFIN.out⟩
          · go_simp
            clear hHeld
            refine hK.out _ _ ?_ (fun hHeld => ?_)
            · ((try dsimp only); (show S4 w.heap.size 0 2 bN (oN + s) bA (oA + k) (.slice (some ⟨bA, oA, none⟩) R.1.length c0) (.slice (some ⟨bN, oN, none⟩) R.2.2.1.length c2) (.int .i64 (k : Nat)) (.slice (some adA) R.1[k].length crA) _); (first | exact hS0 | exact hS1 | exact hS5 | exact hS5A | exact hS7 | exact hS8))
            clear hK K
            try simp only [Act.put, List.setIfInBounds_toArray, List.set_cons_zero, List.set_cons_succ]
            refine wpAnyH_ready (rs := [1, 12]) (by kernel_rfl) (by simp) ?_
            refine AllReadyH.cons (o := { dst := some 55, op := Go.Op.load 39 (Go.Operand.tmp 54), type := 39, pos := "l05_tables.go:413", after := #[{ on := 0, ground := Go.Ground.data }], guard := none }) rfl (fun K hK => ?_) (AllReadyH.cons (o := { dst := some 66, op := Go.Op.call { callee := Go.Callee.builtin Go.Builtin.append, args := #[Go.Operand.tmp 56, Go.Operand.tmp 65], argTypes := #[69, 69] }, type := 69, pos := "l05_tables.go:413", after := #[{ on := 2, ground := Go.Ground.data }, { on := 11, ground := Go.Ground.data }], guard := none }) rfl (fun K hK => ?_) AllReadyH.nil)
            · go_simp
              clear hHeld
              refine hK.out _ _ ?_ (fun hHeld => ?_)
              · ((try dsimp only); (show S4 w.heap.size 0 2 bN (oN + s) bA (oA + k) (.slice (some ⟨bA, oA, none⟩) R.1.length c0) (.slice (some ⟨bN, oN, none⟩) R.2.2.1.length c2) (.int .i64 (k : Nat)) (.slice (some adA) R.1[k].length crA) _); (first | exact hS0 | exact hS1 | exact hS5 | exact hS5A | exact hS7 | exact hS8))
              clear hK K
              try simp only [Act.put, List.setIfInBounds_toArray, List.set_cons_zero, List.set_cons_succ]
              refine wpAnyH_ready (rs := [12]) (by kernel_rfl) (by simp) ?_
              refine AllReadyH.cons (o := { dst := some 66, op := Go.Op.call { callee := Go.Callee.builtin Go.Builtin.append, args := #[Go.Operand.tmp 56, Go.Operand.tmp 65], argTypes := #[69, 69] }, type := 69, pos := "l05_tables.go:413", after := #[{ on := 2, ground := Go.Ground.data }, { on := 11, ground := Go.Ground.data }], guard := none }) rfl (fun K hK => ?_) AllReadyH.nil
              (refine step_append_made _ rfl (.tmp 56) (.tmp 65) 69 rfl wc.heap.size 71 ieA _ 2 16 Try.underlying69 hieA he0 he1 he2 rfl (by decide) wc.heap.size (by simp [Act.eval, Act.put]) (own_empty _ _ _) adA R.1[k].length crA (encA R.1[k]) (by simp [Act.eval, Act.put]) (encA_len _) HNW.out (encA_one _) (by unfold maxLen; omega) (by omega) (by simp) ?_; intro g5 c5 w5 hown5 hgr5; have hb5 : Below wc.heap.size wc w5 := grown_bel HBD.out hgr5 (fun q hq => Nat.le_of_eq (by simpa using hq)) (by simp); have HMB5 := (show Hid _ from (Mtb.still HM2.out.mb hb5).still (bel_alloc w5 (.cells #[.slice (some ⟨g5, 0, none⟩) R.1[k].length c5] 69))); have HH5 := (show Hid _ from ((Own.still HM2.out.own hb5).still (bel_alloc w5 (.cells #[.slice (some ⟨g5, 0, none⟩) R.1[k].length c5] 69))).ok (hdA (.slice y0 ra.length f0) ra) (by simp [TEnt])); have d4 := (hb5.cell (lt_of_cell t0)).trans t0; obtain ⟨⟨b0, b1⟩, _⟩ := HMB5.out.t.cells; have hb5s := HMB5.out.sz; have HO5 := (show Hid _ from (⟨hb5, hown5⟩ : _ ∧ _)); have hS5 := HCQA.out _ _ _ (Mtb.still HM2.out.mb hb5); have hS5A := HCQA.out _ _ _ HMB5.out; clear hown5 hgr5)
              clear hHeld
              refine hK.out _ _ ?_ (fun hHeld => ?_)
              · ((try dsimp only); (show S4 w.heap.size 0 2 bN (oN + s) bA (oA + k) (.slice (some ⟨bA, oA, none⟩) R.1.length c0) (.slice (some ⟨bN, oN, none⟩) R.2.2.1.length c2) (.int .i64 (k : Nat)) (.slice (some adA) R.1[k].length crA) _); (first | exact hS0 | exact hS1 | exact hS5 | exact hS5A | exact hS7 | exact hS8))
              clear hK K
              try simp only [Act.put, List.setIfInBounds_toArray, List.set_cons_zero, List.set_cons_succ]
              refine wpAnyH_ready (rs := [13]) (by kernel_rfl) (by simp) ?_
              refine AllReadyH.cons (o := { dst := some 67, op := Go.Op.buildSlice 39 1 #[(0, Go.Operand.tmp 66)], type := 39, pos := "l05_tables.go:413", after := #[{ on := 12, ground := Go.Ground.data }], guard := none }) rfl (fun K hK => ?_) AllReadyH.nil
              go_simp
              clear hHeld
              refine hK.out _ _ ?_ (fun hHeld => ?_)
              · ((try dsimp only); (show S4 w.heap.size 0 2 bN (oN + s) bA (oA + k) (.slice (some ⟨bA, oA, none⟩) R.1.length c0) (.slice (some ⟨bN, oN, none⟩) R.2.2.1.length c2) (.int .i64 (k : Nat)) (.slice (some adA) R.1[k].length crA) _); (first | exact hS0 | exact hS1 | exact hS5 | exact hS5A | exact hS7 | exact hS8))
              clear hK K
              try simp only [Act.put, List.setIfInBounds_toArray, List.set_cons_zero, List.set_cons_succ]
              refine wpAnyH_ready (rs := [14]) (by kernel_rfl) (by simp) ?_
              refine AllReadyH.cons (o := { dst := some 68, op := Go.Op.call { callee := Go.Callee.builtin Go.Builtin.append, args := #[Go.Operand.tmp 55, Go.Operand.tmp 67], argTypes := #[39, 39] }, type := 39, pos := "l05_tables.go:413", after := #[{ on := 1, ground := Go.Ground.data }, { on := 13, ground := Go.Ground.data }, { on := 12, ground := Go.Ground.chain }], guard := none }) rfl (fun K hK => ?_) AllReadyH.nil
              (refine step_append_lies _ rfl (.tmp 55) (.tmp 67) 39 rfl (w.heap.size + 3) 69 ihA _ 1 24 Try.underlying39 hihA ha0 ha1 ha2 rfl (by decide) _ ra.length _ (by simp [Act.eval, Act.put]) HH5.out ⟨w5.heap.size, 0, none⟩ 1 1 [.slice (some ⟨g5, 0, none⟩) R.1[k].length c5] (by simp [Act.eval, Act.put]) rfl (cell_one_new _ _ _) (by intro y hy; simp at hy; subst hy; rfl) (by decide) (by unfold maxLen; omega) (by omega) hb5s _ rfl ?_; intro g7 cap7 w7 hown7 hgr7 hat7 hlt7; have hmb7 := (HMB5.out).grown hgr7 (fun q hq => (World.ownsRow.lt HH5.out q hq).1); obtain ⟨⟨s0, s1⟩, r0, r1⟩ := hmb7.t.cells; have hS7 := HCQA.out _ _ _ hmb7; have hS8 := HCQA.out _ _ _ (hmb7.set (hmb7.t.set0 (.slice (some ⟨g7, 0, none⟩) (ra.length + 1) cap7))); clear hmb7)
              clear hHeld
              refine hK.out _ _ ?_ (fun hHeld => ?_)
              · ((try dsimp only); (show S4 w.heap.size 0 2 bN (oN + s) bA (oA + k) (.slice (some ⟨bA, oA, none⟩) R.1.length c0) (.slice (some ⟨bN, oN, none⟩) R.2.2.1.length c2) (.int .i64 (k : Nat)) (.slice (some adA) R.1[k].length crA) _); (first | exact hS0 | exact hS1 | exact hS5 | exact hS5A | exact hS7 | exact hS8))
              clear hK K
              try simp only [Act.put, List.setIfInBounds_toArray, List.set_cons_zero, List.set_cons_succ]
              refine wpAnyH_take (i := 15) (oi := { dst := some 69, op := Go.Op.fieldAddr 41 (Go.Operand.tmp 4) 0, type := 0, pos := "l05_tables.go:413", after := #[{ on := 0, ground := Go.Ground.phase }, { on := 1, ground := Go.Ground.phase }, { on := 2, ground := Go.Ground.phase }, { on := 3, ground := Go.Ground.phase }, { on := 4, ground := Go.Ground.phase }, { on := 5, ground := Go.Ground.phase }, { on := 6, ground := Go.Ground.phase }, { on := 7, ground := Go.Ground.phase }, { on := 8, ground := Go.Ground.phase }, { on := 9, ground := Go.Ground.phase }, { on := 10, ground := Go.Ground.phase }, { on := 11, ground := Go.Ground.phase }, { on := 12, ground := Go.Ground.phase }, { on := 13, ground := Go.Ground.phase }, { on := 14, ground := Go.Ground.phase }], guard := none }) (v := ?v12) rfl (by kernel_rfl) (by kernel_rfl) (by kernel_rfl) (fun _ _ _ h => h) (Or.inl ⟨by rfl, ?h12⟩) (by assumption) ?r12
              case h12 => (intro w hSw; (try dsimp only at hSw); go_simp; try with_reducible rfl)
              try simp only [Act.put, List.setIfInBounds_toArray, List.set_cons_zero, List.set_cons_succ]
              refine wpAnyH_ready (rs := [16]) (by kernel_rfl) (by simp) ?_
              refine AllReadyH.cons (o := { dst := none, op := Go.Op.store 39 (Go.Operand.tmp 69) (Go.Operand.tmp 68), type := 0, pos := "l05_tables.go:413", after := #[{ on := 15, ground := Go.Ground.data }, { on := 14, ground := Go.Ground.data }, { on := 14, ground := Go.Ground.chain }, { on := 0, ground := Go.Ground.phase }, { on := 1, ground := Go.Ground.phase }, { on := 2, ground := Go.Ground.phase }, { on := 3, ground := Go.Ground.phase }, { on := 4, ground := Go.Ground.phase }, { on := 5, ground := Go.Ground.phase }, { on := 6, ground := Go.Ground.phase }, { on := 7, ground := Go.Ground.phase }, { on := 8, ground := Go.Ground.phase }, { on := 9, ground := Go.Ground.phase }, { on := 10, ground := Go.Ground.phase }, { on := 11, ground := Go.Ground.phase }, { on := 12, ground := Go.Ground.phase }, { on := 13, ground := Go.Ground.phase }, { on := 14, ground := Go.Ground.phase }], guard := none }) rfl (fun K hK => ?_) AllReadyH.nil
              go_simp
              clear hHeld
              refine hK.out _ _ ?_ (fun hHeld => ?_)
              · ((try dsimp only); (show S4 w.heap.size 0 2 bN (oN + s) bA (oA + k) (.slice (some ⟨bA, oA, none⟩) R.1.length c0) (.slice (some ⟨bN, oN, none⟩) R.2.2.1.length c2) (.int .i64 (k : Nat)) (.slice (some adA) R.1[k].length crA) _); (first | exact hS0 | exact hS1 | exact hS5 | exact hS5A | exact hS7 | exact hS8))
              clear hK K
              try simp only [Act.put, List.setIfInBounds_toArray, List.set_cons_zero, List.set_cons_succ]
              refine wpAnyH_done (by kernel_rfl) ?_ _
              have HFIN := (show Hid _ from Mt.rowA (row := R.1[k]) (ad := ⟨g5, 0, none⟩) (c5 := c5) (u' := .slice (some ⟨g7, 0, none⟩) (ra.length + 1) cap7) HM2.out HO5.out.1 HO5.out.2 hgr7 hown7 (fun q hq => by
                have : g7 = q := by simpa [Value.ownBlock] using hq
                subst this
                rcases hat7 with h | h
                · exact .inl h
                · exact .inr (by first | omega | (simp at h ⊢; done) | (simp at h ⊢; omega))))
              clear hgr7 hown7 hat7 hlt7
              go_wp2_with fail
              go_meet
              exact ⟨_, _, _, HFIN.out⟩
            · (refine step_append_made _ rfl (.tmp 56) (.tmp 65) 69 rfl wc.heap.size 71 ieA _ 2 16 Try.underlying69 hieA he0 he1 he2 rfl (by decide) wc.heap.size (by simp [Act.eval, Act.put]) (own_empty _ _ _) adA R.1[k].length crA (encA R.1[k]) (by simp [Act.eval, Act.put]) (encA_len _) HNW.out (encA_one _) (by unfold maxLen; omega) (by omega) (by simp) ?_; intro g5 c5 w5 hown5 hgr5; have hb5 : Below wc.heap.size wc w5 := grown_bel HBD.out hgr5 (fun q hq => Nat.le_of_eq (by simpa using hq)) (by simp); have HMB5 := (show Hid _ from (Mtb.still HM2.out.mb hb5).still (bel_alloc w5 (.cells #[.slice (some ⟨g5, 0, none⟩) R.1[k].length c5] 69))); have HH5 := (show Hid _ from ((Own.still HM2.out.own hb5).still (bel_alloc w5 (.cells #[.slice (some ⟨g5, 0, none⟩) R.1[k].length c5] 69))).ok (hdA (.slice y0 ra.length f0) ra) (by simp [TEnt])); have d4 := (hb5.cell (lt_of_cell t0)).trans t0; obtain ⟨⟨b0, b1⟩, _⟩ := HMB5.out.t.cells; have hb5s := HMB5.out.sz; have HO5 := (show Hid _ from (⟨hb5, hown5⟩ : _ ∧ _)); have hS5 := HCQA.out _ _ _ (Mtb.still HM2.out.mb hb5); have hS5A := HCQA.out _ _ _ HMB5.out; clear hown5 hgr5)
              clear hHeld
              refine hK.out _ _ ?_ (fun hHeld => ?_)
              · ((try dsimp only); (show S4 w.heap.size 0 2 bN (oN + s) bA (oA + k) (.slice (some ⟨bA, oA, none⟩) R.1.length c0) (.slice (some ⟨bN, oN, none⟩) R.2.2.1.length c2) (.int .i64 (k : Nat)) (.slice (some adA) R.1[k].length crA) _); (first | exact hS0 | exact hS1 | exact hS5 | exact hS5A | exact hS7 | exact hS8))
              clear hK K
              try simp only [Act.put, List.setIfInBounds_toArray, List.set_cons_zero, List.set_cons_succ]
              refine wpAnyH_ready (rs := [1, 13]) (by kernel_rfl) (by simp) ?_
              refine AllReadyH.cons (o := { dst := some 55, op := Go.Op.load 39 (Go.Operand.tmp 54), type := 39, pos := "l05_tables.go:413", after := #[{ on := 0, ground := Go.Ground.data }], guard := none }) rfl (fun K hK => ?_) (AllReadyH.cons (o := { dst := some 67, op := Go.Op.buildSlice 39 1 #[(0, Go.Operand.tmp 66)], type := 39, pos := "l05_tables.go:413", after := #[{ on := 12, ground := Go.Ground.data }], guard := none }) rfl (fun K hK => ?_) AllReadyH.nil)
              · go_simp
                clear hHeld
                refine hK.out _ _ ?_ (fun hHeld => ?_)
                · ((try dsimp only); (show S4 w.heap.size 0 2 bN (oN + s) bA (oA + k) (.slice (some ⟨bA, oA, none⟩) R.1.length c0) (.slice (some ⟨bN, oN, none⟩) R.2.2.1.length c2) (.int .i64 (k : Nat)) (.slice (some adA) R.1[k].length crA) _); (first | exact hS0 | exact hS1 | exact hS5 | exact hS5A | exact hS7 | exact hS8))
                clear hK K
                try simp only [Act.put, List.setIfInBounds_toArray, List.set_cons_zero, List.set_cons_succ]
                refine wpAnyH_ready (rs := [13]) (by kernel_rfl) (by simp) ?_
                refine AllReadyH.cons (o := { dst := some 67, op := Go.Op.buildSlice 39 1 #[(0, Go.Operand.tmp 66)], type := 39, pos := "l05_tables.go:413", after := #[{ on := 12, ground := Go.Ground.data }], guard := none }) rfl (fun K hK => ?_) AllReadyH.nil
                go_simp
                clear hHeld
                refine hK.out _ _ ?_ (fun hHeld => ?_)
                · ((try dsimp only); (show S4 w.heap.size 0 2 bN (oN + s) bA (oA + k) (.slice (some ⟨bA, oA, none⟩) R.1.length c0) (.slice (some ⟨bN, oN, none⟩) R.2.2.1.length c2) (.int .i64 (k : Nat)) (.slice (some adA) R.1[k].length crA) _); (first | exact hS0 | exact hS1 | exact hS5 | exact hS5A | exact hS7 | exact hS8))
                clear hK K
                try simp only [Act.put, List.setIfInBounds_toArray, List.set_cons_zero, List.set_cons_succ]
                refine wpAnyH_ready (rs := [14]) (by kernel_rfl) (by simp) ?_
                refine AllReadyH.cons (o := { dst := some 68, op := Go.Op.call { callee := Go.Callee.builtin Go.Builtin.append, args := #[Go.Operand.tmp 55, Go.Operand.tmp 67], argTypes := #[39, 39] }, type := 39, pos := "l05_tables.go:413", after := #[{ on := 1, ground := Go.Ground.data }, { on := 13, ground := Go.Ground.data }, { on := 12, ground := Go.Ground.chain }], guard := none }) rfl (fun K hK => ?_) AllReadyH.nil
                (refine step_append_lies _ rfl (.tmp 55) (.tmp 67) 39 rfl (w.heap.size + 3) 69 ihA _ 1 24 Try.underlying39 hihA ha0 ha1 ha2 rfl (by decide) _ ra.length _ (by simp [Act.eval, Act.put]) HH5.out ⟨w5.heap.size, 0, none⟩ 1 1 [.slice (some ⟨g5, 0, none⟩) R.1[k].length c5] (by simp [Act.eval, Act.put]) rfl (cell_one_new _ _ _) (by intro y hy; simp at hy; subst hy; rfl) (by decide) (by unfold maxLen; omega) (by omega) hb5s _ rfl ?_; intro g7 cap7 w7 hown7 hgr7 hat7 hlt7; have hmb7 := (HMB5.out).grown hgr7 (fun q hq => (World.ownsRow.lt HH5.out q hq).1); obtain ⟨⟨s0, s1⟩, r0, r1⟩ := hmb7.t.cells; have hS7 := HCQA.out _ _ _ hmb7; have hS8 := HCQA.out _ _ _ (hmb7.set (hmb7.t.set0 (.slice (some ⟨g7, 0, none⟩) (ra.length + 1) cap7))); clear hmb7)
                clear hHeld
                refine hK.out _ _ ?_ (fun hHeld => ?_)
                · ((try dsimp only); (show S4 w.heap.size 0 2 bN (oN + s) bA (oA + k) (.slice (some ⟨bA, oA, none⟩) R.1.length c0) (.slice (some ⟨bN, oN, none⟩) R.2.2.1.length c2) (.int .i64 (k : Nat)) (.slice (some adA) R.1[k].length crA) _); (first | exact hS0 | exact hS1 | exact hS5 | exact hS5A | exact hS7 | exact hS8))
                clear hK K
                try simp only [Act.put, List.setIfInBounds_toArray, List.set_cons_zero, List.set_cons_succ]
                refine wpAnyH_take (i := 15) (oi := { dst := some 69, op := Go.Op.fieldAddr 41 (Go.Operand.tmp 4) 0, type := 0, pos := "l05_tables.go:413", after := #[{ on := 0, ground := Go.Ground.phase }, { on := 1, ground := Go.Ground.phase }, { on := 2, ground := Go.Ground.phase }, { on := 3, ground := Go.Ground.phase }, { on := 4, ground := Go.Ground.phase }, { on := 5, ground := Go.Ground.phase }, { on := 6, ground := Go.Ground.phase }, { on := 7, ground := Go.Ground.phase }, { on := 8, ground := Go.Ground.phase }, { on := 9, ground := Go.Ground.phase }, { on := 10, ground := Go.Ground.phase }, { on := 11, ground := Go.Ground.phase }, { on := 12, ground := Go.Ground.phase }, { on := 13, ground := Go.Ground.phase }, { on := 14, ground := Go.Ground.phase }], guard := none }) (v := ?v13) rfl (by kernel_rfl) (by kernel_rfl) (by kernel_rfl) (fun _ _ _ h => h) (Or.inl ⟨by rfl, ?h13⟩) (by assumption) ?r13
                case h13 => (intro w hSw; (try dsimp only at hSw); go_simp; try with_reducible rfl)
                try simp only [Act.put, List.setIfInBounds_toArray, List.set_cons_zero, List.set_cons_succ]
                refine wpAnyH_ready (rs := [16]) (by kernel_rfl) (by simp) ?_
                refine AllReadyH.cons (o := { dst := none, op := Go.Op.store 39 (Go.Operand.tmp 69) (Go.Operand.tmp 68), type := 0, pos := "l05_tables.go:413", after := #[{ on := 15, ground := Go.Ground.data }, { on := 14, ground := Go.Ground.data }, { on := 14, ground := Go.Ground.chain }, { on := 0, ground := Go.Ground.phase }, { on := 1, ground := Go.Ground.phase }, { on := 2, ground := Go.Ground.phase }, { on := 3, ground := Go.Ground.phase }, { on := 4, ground := Go.Ground.phase }, { on := 5, ground := Go.Ground.phase }, { on := 6, ground := Go.Ground.phase }, { on := 7, ground := Go.Ground.phase }, { on := 8, ground := Go.Ground.phase }, { on := 9, ground := Go.Ground.phase }, { on := 10, ground := Go.Ground.phase }, { on := 11, ground := Go.Ground.phase }, { on := 12, ground := Go.Ground.phase }, { on := 13, ground := Go.Ground.phase }, { on := 14, ground := Go.Ground.phase }], guard := none }) rfl (fun K hK => ?_) AllReadyH.nil
                go_simp
                clear hHeld
                refine hK.out _ _ ?_ (fun hHeld => ?_)
                · ((try dsimp only); (show S4 w.heap.size 0 2 bN (oN + s) bA (oA + k) (.slice (some ⟨bA, oA, none⟩) R.1.length c0) (.slice (some ⟨bN, oN, none⟩) R.2.2.1.length c2) (.int .i64 (k : Nat)) (.slice (some adA) R.1[k].length crA) _); (first | exact hS0 | exact hS1 | exact hS5 | exact hS5A | exact hS7 | exact hS8))
                clear hK K
                try simp only [Act.put, List.setIfInBounds_toArray, List.set_cons_zero, List.set_cons_succ]
                refine wpAnyH_done (by kernel_rfl) ?_ _
                have HFIN := (show Hid _ from Mt.rowA (row := R.1[k]) (ad := ⟨g5, 0, none⟩) (c5 := c5) (u' := .slice (some ⟨g7, 0, none⟩) (ra.length + 1) cap7) HM2.out HO5.out.1 HO5.out.2 hgr7 hown7 (fun q hq => by
                  have : g7 = q := by simpa [Value.ownBlock] using hq
                  subst this
                  rcases hat7 with h | h
                  · exact .inl h
                  · exact .inr (by first | omega | (simp at h ⊢; done) | (simp at h ⊢; omega))))
                clear hgr7 hown7 hat7 hlt7
                go_wp2_with fail
                go_meet
                exact ⟨_, _, _, HFIN.out⟩
              · go_simp
                clear hHeld
                refine hK.out _ _ ?_ (fun hHeld => ?_)
                · ((try dsimp only); (show S4 w.heap.size 0 2 bN (oN + s) bA (oA + k) (.slice (some ⟨bA, oA, none⟩) R.1.length c0) (.slice (some ⟨bN, oN, none⟩) R.2.2.1.length c2) (.int .i64 (k : Nat)) (.slice (some adA) R.1[k].length crA) _); (first | exact hS0 | exact hS1 | exact hS5 | exact hS5A | exact hS7 | exact hS8))
                clear hK K
                try simp only [Act.put, List.setIfInBounds_toArray, List.set_cons_zero, List.set_cons_succ]
                refine wpAnyH_ready (rs := [1]) (by kernel_rfl) (by simp) ?_
                refine AllReadyH.cons (o := { dst := some 55, op := Go.Op.load 39 (Go.Operand.tmp 54), type := 39, pos := "l05_tables.go:413", after := #[{ on := 0, ground := Go.Ground.data }], guard := none }) rfl (fun K hK => ?_) AllReadyH.nil
                go_simp
                clear hHeld
                refine hK.out _ _ ?_ (fun hHeld => ?_)
                · ((try dsimp only); (show S4 w.heap.size 0 2 bN (oN + s) bA (oA + k) (.slice (some ⟨bA, oA, none⟩) R.1.length c0) (.slice (some ⟨bN, oN, none⟩) R.2.2.1.length c2) (.int .i64 (k : Nat)) (.slice (some adA) R.1[k].length crA) _); (first | exact hS0 | exact hS1 | exact hS5 | exact hS5A | exact hS7 | exact hS8))
                clear hK K
                try simp only [Act.put, List.setIfInBounds_toArray, List.set_cons_zero, List.set_cons_succ]
                refine wpAnyH_ready (rs := [14]) (by kernel_rfl) (by simp) ?_
                refine AllReadyH.cons (o := { dst := some 68, op := Go.Op.call { callee := Go.Callee.builtin Go.Builtin.append, args := #[Go.Operand.tmp 55, Go.Operand.tmp 67], argTypes := #[39, 39] }, type := 39, pos := "l05_tables.go:413", after := #[{ on := 1, ground := Go.Ground.data }, { on := 13, ground := Go.Ground.data }, { on := 12, ground := Go.Ground.chain }], guard := none }) rfl (fun K hK => ?_) AllReadyH.nil
                (refine step_append_lies _ rfl (.tmp 55) (.tmp 67) 39 rfl (w.heap.size + 3) 69 ihA _ 1 24 Try.underlying39 hihA ha0 ha1 ha2 rfl (by decide) _ ra.length _ (by simp [Act.eval, Act.put]) HH5.out ⟨w5.heap.size, 0, none⟩ 1 1 [.slice (some ⟨g5, 0, none⟩) R.1[k].length c5] (by simp [Act.eval, Act.put]) rfl (cell_one_new _ _ _) (by intro y hy; simp at hy; subst hy; rfl) (by decide) (by unfold maxLen; omega) (by omega) hb5s _ rfl ?_; intro g7 cap7 w7 hown7 hgr7 hat7 hlt7; have hmb7 := (HMB5.out).grown hgr7 (fun q hq => (World.ownsRow.lt HH5.out q hq).1); obtain ⟨⟨s0, s1⟩, r0, r1⟩ := hmb7.t.cells; have hS7 := HCQA.out _ _ _ hmb7; have hS8 := HCQA.out _ _ _ (hmb7.set (hmb7.t.set0 (.slice (some ⟨g7, 0, none⟩) (ra.length + 1) cap7))); clear hmb7)
                clear hHeld
                refine hK.out _ _ ?_ (fun hHeld => ?_)
                · ((try dsimp only); (show S4 w.heap.size 0 2 bN (oN + s) bA (oA + k) (.slice (some ⟨bA, oA, none⟩) R.1.length c0) (.slice (some ⟨bN, oN, none⟩) R.2.2.1.length c2) (.int .i64 (k : Nat)) (.slice (some adA) R.1[k].length crA) _); (first | exact hS0 | exact hS1 | exact hS5 | exact hS5A | exact hS7 | exact hS8))
                clear hK K
                try simp only [Act.put, List.setIfInBounds_toArray, List.set_cons_zero, List.set_cons_succ]
                refine wpAnyH_take (i := 15) (oi := { dst := some 69, op := Go.Op.fieldAddr 41 (Go.Operand.tmp 4) 0, type := 0, pos := "l05_tables.go:413", after := #[{ on := 0, ground := Go.Ground.phase }, { on := 1, ground := Go.Ground.phase }, { on := 2, ground := Go.Ground.phase }, { on := 3, ground := Go.Ground.phase }, { on := 4, ground := Go.Ground.phase }, { on := 5, ground := Go.Ground.phase }, { on := 6, ground := Go.Ground.phase }, { on := 7, ground := Go.Ground.phase }, { on := 8, ground := Go.Ground.phase }, { on := 9, ground := Go.Ground.phase }, { on := 10, ground := Go.Ground.phase }, { on := 11, ground := Go.Ground.phase }, { on := 12, ground := Go.Ground.phase }, { on := 13, ground := Go.Ground.phase }, { on := 14, ground := Go.Ground.phase }], guard := none }) (v := ?v14) rfl (by kernel_rfl) (by kernel_rfl) (by kernel_rfl) (fun _ _ _ h => h) (Or.inl ⟨by rfl, ?h14⟩) (by assumption) ?r14
                case h14 => (intro w hSw; (try dsimp only at hSw); go_simp; try with_reducible rfl)
                try simp only [Act.put, List.setIfInBounds_toArray, List.set_cons_zero, List.set_cons_succ]
                refine wpAnyH_ready (rs := [16]) (by kernel_rfl) (by simp) ?_
                refine AllReadyH.cons (o := { dst := none, op := Go.Op.store 39 (Go.Operand.tmp 69) (Go.Operand.tmp 68), type := 0, pos := "l05_tables.go:413", after := #[{ on := 15, ground := Go.Ground.data }, { on := 14, ground := Go.Ground.data }, { on := 14, ground := Go.Ground.chain }, { on := 0, ground := Go.Ground.phase }, { on := 1, ground := Go.Ground.phase }, { on := 2, ground := Go.Ground.phase }, { on := 3, ground := Go.Ground.phase }, { on := 4, ground := Go.Ground.phase }, { on := 5, ground := Go.Ground.phase }, { on := 6, ground := Go.Ground.phase }, { on := 7, ground := Go.Ground.phase }, { on := 8, ground := Go.Ground.phase }, { on := 9, ground := Go.Ground.phase }, { on := 10, ground := Go.Ground.phase }, { on := 11, ground := Go.Ground.phase }, { on := 12, ground := Go.Ground.phase }, { on := 13, ground := Go.Ground.phase }, { on := 14, ground := Go.Ground.phase }], guard := none }) rfl (fun K hK => ?_) AllReadyH.nil
                go_simp
                clear hHeld
                refine hK.out _ _ ?_ (fun hHeld => ?_)
                · ((try dsimp only); (show S4 w.heap.size 0 2 bN (oN + s) bA (oA + k) (.slice (some ⟨bA, oA, none⟩) R.1.length c0) (.slice (some ⟨bN, oN, none⟩) R.2.2.1.length c2) (.int .i64 (k : Nat)) (.slice (some adA) R.1[k].length crA) _); (first | exact hS0 | exact hS1 | exact hS5 | exact hS5A | exact hS7 | exact hS8))
                clear hK K
                try simp only [Act.put, List.setIfInBounds_toArray, List.set_cons_zero, List.set_cons_succ]
                refine wpAnyH_done (by kernel_rfl) ?_ _
                have HFIN := (show Hid _ from Mt.rowA (row := R.1[k]) (ad := ⟨g5, 0, none⟩) (c5 := c5) (u' := .slice (some ⟨g7, 0, none⟩) (ra.length + 1) cap7) HM2.out HO5.out.1 HO5.out.2 hgr7 hown7 (fun q hq => by
                  have : g7 = q := by simpa [Value.ownBlock] using hq
                  subst this
                  rcases hat7 with h | h
                  · exact .inl h
                  · exact .inr (by first | omega | (simp at h ⊢; done) | (simp at h ⊢; omega))))
                clear hgr7 hown7 hat7 hlt7
                go_wp2_with fail
                go_meet
                exact ⟨_, _, _, HFIN.out⟩
        case rest =>
          obtain ⟨unA, gnA, cnA, hm9⟩ := hcut.out
          have HM9 := (show Hid _ from hm9)
          clear hm9 hcut p0 p1 p2 p3 t0 t1 d1 hS0 hS1 HNW HBD hszc
          have HCQI := (show Hid _ from fun (w' : World) (v0 v1 : Value) (hb : Mtb w w' (.slice (some ⟨bA, oA, none⟩) R.1.length c0) (.slice (some ⟨bG, oG, none⟩) R.2.1.length c1) (.slice (some ⟨bN, oN, none⟩) R.2.2.1.length c2) (.slice (some ⟨bM, oM, none⟩) R.2.2.2.length c3) v0 v1) => (⟨hb.p.cells.2.1, hb.p.cells.2.2.2, (hb.bel.cell (lt_of_cell m0)).trans m0, (hb.bel.cell (lt_of_cell kG)).trans kG⟩ : S4 w.heap.size 1 3 bM (oM + s) bG (oG + l) (.slice (some ⟨bG, oG, none⟩) R.2.1.length c1) (.slice (some ⟨bM, oM, none⟩) R.2.2.2.length c3) (.int .i64 (l : Nat)) (.slice (some adG) R.2.1[l].length crG) w'))
          obtain ⟨p0, p1, p2, p3⟩ := (Mtb.p HM9.out.mb).cells
          obtain ⟨⟨t0, t1⟩, _⟩ := (Mtb.t HM9.out.mb).cells
          have hbd : Below wc.heap.size wc (wc.alloc (.cells #[] 3)).drew := (bel_alloc wc (.cells #[] 3)).drew
          have hba := bel_alloc wc (.cells #[] 3)
          have HNW := (show Hid _ from newsI ((hrowG.still (Mtb.bel HM9.out.mb)).still hbd))
          have HBD := (show Hid _ from hbd)
          have d1 := (hba.cell (lt_of_cell t1)).trans t1
          have hS0 := HCQI.out _ _ _ (Mtb.still HM9.out.mb ((Below.refl wc.heap.size wc).drew))
          have hS1 := HCQI.out _ _ _ (Mtb.still HM9.out.mb hbd)
          have hszc := HM9.out.mb.sz
          clear hbd hba
          go_wp2_with fail
          refine wp_region_held_drew (S := (fun w' => w'.cell? ⟨w.heap.size, 1, none⟩ = some (.slice (some ⟨bG, oG, none⟩) R.2.1.length c1) ∧ w'.cell? ⟨w.heap.size, 3, none⟩ = some (.slice (some ⟨bM, oM, none⟩) R.2.2.2.length c3) ∧ w'.cell? ⟨bM, oM + s, none⟩ = some (.int .i64 (l : Nat)) ∧ w'.cell? ⟨bG, oG + l, none⟩ = some (.slice (some adG) R.2.1[l].length crG))) (by kernel_rfl) hS0 (fun hHeld => ?_)
          refine wpAnyH_take (i := 0) (oi := { dst := some 70, op := Go.Op.fieldAddr 41 (Go.Operand.tmp 4) 1, type := 0, pos := "l05_tables.go:414", after := #[], guard := none }) (v := ?v15) rfl (by kernel_rfl) (by kernel_rfl) (by kernel_rfl) (fun _ _ _ h => h) (Or.inl ⟨by rfl, ?h15⟩) (by assumption) ?r15
          case h15 => (intro w hSw; (try dsimp only at hSw); go_simp; try with_reducible rfl)
          try simp only [Act.put, List.setIfInBounds_toArray, List.set_cons_zero, List.set_cons_succ]
          refine wpAnyH_take (i := 3) (oi := { dst := some 73, op := Go.Op.fieldAddr 48 (Go.Operand.tmp 1) 1, type := 0, pos := "l05_tables.go:414", after := #[], guard := none }) (v := ?v16) rfl (by kernel_rfl) (by kernel_rfl) (by kernel_rfl) (fun _ _ _ h => h) (Or.inl ⟨by rfl, ?h16⟩) (by assumption) ?r16
          case h16 => (intro w hSw; (try dsimp only at hSw); go_simp; try with_reducible rfl)
          try simp only [Act.put, List.setIfInBounds_toArray, List.set_cons_zero, List.set_cons_succ]
          refine wpAnyH_take (i := 4) (oi := { dst := some 74, op := Go.Op.load 28 (Go.Operand.tmp 73), type := 28, pos := "l05_tables.go:414", after := #[{ on := 3, ground := Go.Ground.data }], guard := none }) (v := ?v17) rfl (by kernel_rfl) (by kernel_rfl) (by kernel_rfl) (fun _ _ _ h => h) (Or.inl ⟨by rfl, ?h17⟩) (by assumption) ?r17
          case h17 => (intro w hSw; (try dsimp only at hSw); go_simp; try with_reducible rfl)
          try simp only [Act.put, List.setIfInBounds_toArray, List.set_cons_zero, List.set_cons_succ]
          refine wpAnyH_take (i := 5) (oi := { dst := some 75, op := Go.Op.fieldAddr 48 (Go.Operand.tmp 1) 3, type := 0, pos := "l05_tables.go:414", after := #[], guard := none }) (v := ?v18) rfl (by kernel_rfl) (by kernel_rfl) (by kernel_rfl) (fun _ _ _ h => h) (Or.inl ⟨by rfl, ?h18⟩) (by assumption) ?r18
          case h18 => (intro w hSw; (try dsimp only at hSw); go_simp; try with_reducible rfl)
          try simp only [Act.put, List.setIfInBounds_toArray, List.set_cons_zero, List.set_cons_succ]
          refine wpAnyH_take (i := 6) (oi := { dst := some 76, op := Go.Op.load 46 (Go.Operand.tmp 75), type := 46, pos := "l05_tables.go:414", after := #[{ on := 5, ground := Go.Ground.data }], guard := none }) (v := ?v19) rfl (by kernel_rfl) (by kernel_rfl) (by kernel_rfl) (fun _ _ _ h => h) (Or.inl ⟨by rfl, ?h19⟩) (by assumption) ?r19
          case h19 => (intro w hSw; (try dsimp only at hSw); go_simp; try with_reducible rfl)
          try simp only [Act.put, List.setIfInBounds_toArray, List.set_cons_zero, List.set_cons_succ]
          refine wpAnyH_take (i := 7) (oi := { dst := some 77, op := Go.Op.move (Go.Operand.tmp 5), type := 3, pos := "l05_tables.go:414", after := #[], guard := none }) (v := ?v20) rfl (by kernel_rfl) (by kernel_rfl) (by kernel_rfl) (fun _ _ _ h => h) (Or.inl ⟨by rfl, ?h20⟩) (by assumption) ?r20
          case h20 => (intro w hSw; (try dsimp only at hSw); go_simp; try with_reducible rfl)
          try simp only [Act.put, List.setIfInBounds_toArray, List.set_cons_zero, List.set_cons_succ]
          refine wpAnyH_take (i := 8) (oi := { dst := some 78, op := Go.Op.indexAddr 46 (Go.Operand.tmp 76) (Go.Operand.tmp 77), type := 0, pos := "l05_tables.go:414", after := #[{ on := 6, ground := Go.Ground.data }, { on := 7, ground := Go.Ground.data }], guard := none }) (v := ?v21) rfl (by kernel_rfl) (by kernel_rfl) (by kernel_rfl) (fun _ _ _ h => h) (Or.inl ⟨by rfl, ?h21⟩) (by assumption) ?r21
          case h21 => (intro w hSw; (try dsimp only at hSw); go_simp; try with_reducible rfl)
          try simp only [Act.put, List.setIfInBounds_toArray, List.set_cons_zero, List.set_cons_succ]
          refine wpAnyH_take (i := 9) (oi := { dst := some 79, op := Go.Op.load 3 (Go.Operand.tmp 78), type := 3, pos := "l05_tables.go:414", after := #[{ on := 8, ground := Go.Ground.data }], guard := none }) (v := ?v22) rfl (by kernel_rfl) (by kernel_rfl) (by kernel_rfl) (fun _ _ _ h => h) (Or.inl ⟨by rfl, ?h22⟩) (by assumption) ?r22
          case h22 => (intro w hSw; (try dsimp only at hSw); go_simp; try with_reducible rfl)
          try simp only [Act.put, List.setIfInBounds_toArray, List.set_cons_zero, List.set_cons_succ]
          refine wpAnyH_take (i := 10) (oi := { dst := some 80, op := Go.Op.indexAddr 28 (Go.Operand.tmp 74) (Go.Operand.tmp 79), type := 0, pos := "l05_tables.go:414", after := #[{ on := 4, ground := Go.Ground.data }, { on := 9, ground := Go.Ground.data }], guard := none }) (v := ?v23) rfl (by kernel_rfl) (by kernel_rfl) (by kernel_rfl) (fun _ _ _ h => h) (Or.inl ⟨by rfl, ?h23⟩) (by assumption) ?r23
          case h23 => (intro w hSw; (try dsimp only at hSw); go_simp; try with_reducible rfl)
          try simp only [Act.put, List.setIfInBounds_toArray, List.set_cons_zero, List.set_cons_succ]
          refine wpAnyH_take (i := 11) (oi := { dst := some 81, op := Go.Op.load 46 (Go.Operand.tmp 80), type := 46, pos := "l05_tables.go:414", after := #[{ on := 10, ground := Go.Ground.data }], guard := none }) (v := ?v24) rfl (by kernel_rfl) (by kernel_rfl) (by kernel_rfl) (fun _ _ _ h => h) (Or.inl ⟨by rfl, ?h24⟩) (by assumption) ?r24
          case h24 => (intro w hSw; (try dsimp only at hSw); go_simp; try with_reducible rfl)
          try simp only [Act.put, List.setIfInBounds_toArray, List.set_cons_zero, List.set_cons_succ]
          refine wpAnyH_ready (rs := [1, 2]) (by kernel_rfl) (by simp) ?_
          refine AllReadyH.cons (o := { dst := some 71, op := Go.Op.load 28 (Go.Operand.tmp 70), type := 28, pos := "l05_tables.go:414", after := #[{ on := 0, ground := Go.Ground.data }], guard := none }) rfl (fun K hK => ?_) (AllReadyH.cons (o := { dst := some 72, op := Go.Op.buildSlice 46 0 #[], type := 46, pos := "l05_tables.go:414", after := #[], guard := none }) rfl (fun K hK => ?_) AllReadyH.nil)
          · go_simp
            clear hHeld
            refine hK.out _ _ ?_ (fun hHeld => ?_)
            · ((try dsimp only); (show S4 w.heap.size 1 3 bM (oM + s) bG (oG + l) (.slice (some ⟨bG, oG, none⟩) R.2.1.length c1) (.slice (some ⟨bM, oM, none⟩) R.2.2.2.length c3) (.int .i64 (l : Nat)) (.slice (some adG) R.2.1[l].length crG) _); (first | exact hS0 | exact hS1 | exact hS5 | exact hS5A | exact hS7 | exact hS8))
            clear hK K
            try simp only [Act.put, List.setIfInBounds_toArray, List.set_cons_zero, List.set_cons_succ]
            refine wpAnyH_ready (rs := [2]) (by kernel_rfl) (by simp) ?_
            refine AllReadyH.cons (o := { dst := some 72, op := Go.Op.buildSlice 46 0 #[], type := 46, pos := "l05_tables.go:414", after := #[], guard := none }) rfl (fun K hK => ?_) AllReadyH.nil
            go_simp
            clear hHeld
            refine hK.out _ _ ?_ (fun hHeld => ?_)
            · ((try dsimp only); (show S4 w.heap.size 1 3 bM (oM + s) bG (oG + l) (.slice (some ⟨bG, oG, none⟩) R.2.1.length c1) (.slice (some ⟨bM, oM, none⟩) R.2.2.2.length c3) (.int .i64 (l : Nat)) (.slice (some adG) R.2.1[l].length crG) _); (first | exact hS0 | exact hS1 | exact hS5 | exact hS5A | exact hS7 | exact hS8))
            clear hK K
            try simp only [Act.put, List.setIfInBounds_toArray, List.set_cons_zero, List.set_cons_succ]
            refine wpAnyH_ready (rs := [12]) (by kernel_rfl) (by simp) ?_
            refine AllReadyH.cons (o := { dst := some 82, op := Go.Op.call { callee := Go.Callee.builtin Go.Builtin.append, args := #[Go.Operand.tmp 72, Go.Operand.tmp 81], argTypes := #[46, 46] }, type := 46, pos := "l05_tables.go:414", after := #[{ on := 2, ground := Go.Ground.data }, { on := 11, ground := Go.Ground.data }], guard := none }) rfl (fun K hK => ?_) AllReadyH.nil
            (refine step_append_made _ rfl (.tmp 72) (.tmp 81) 46 rfl wc.heap.size 3 i3 _ 1 8 Try.underlying46 hi3 hz0 hz1 hz2 rfl (by decide) wc.heap.size (by simp [Act.eval, Act.put]) (own_empty _ _ _) adG R.2.1[l].length crG (encI R.2.1[l]) (by simp [Act.eval, Act.put]) (encI_len _) HNW.out (encI_one _) (by unfold maxLen; omega) (by omega) (by simp) ?_; intro g5 c5 w5 hown5 hgr5; have hb5 : Below wc.heap.size wc w5 := grown_bel HBD.out hgr5 (fun q hq => Nat.le_of_eq (by simpa using hq)) (by simp); have HMB5 := (show Hid _ from (Mtb.still HM9.out.mb hb5).still (bel_alloc w5 (.cells #[.slice (some ⟨g5, 0, none⟩) R.2.1[l].length c5] 46))); have HH5 := (show Hid _ from ((Own.still HM9.out.own hb5).still (bel_alloc w5 (.cells #[.slice (some ⟨g5, 0, none⟩) R.2.1[l].length c5] 46))).ok (hdG (.slice y1 rg.length f1) rg) (by simp [TEnt])); have d4 := (hb5.cell (lt_of_cell t1)).trans t1; obtain ⟨⟨b0, b1⟩, _⟩ := HMB5.out.t.cells; have hb5s := HMB5.out.sz; have HO5 := (show Hid _ from (⟨hb5, hown5⟩ : _ ∧ _)); have hS5 := HCQI.out _ _ _ (Mtb.still HM9.out.mb hb5); have hS5A := HCQI.out _ _ _ HMB5.out; clear hown5 hgr5)
            clear hHeld
            refine hK.out _ _ ?_ (fun hHeld => ?_)
            · ((try dsimp only); (show S4 w.heap.size 1 3 bM (oM + s) bG (oG + l) (.slice (some ⟨bG, oG, none⟩) R.2.1.length c1) (.slice (some ⟨bM, oM, none⟩) R.2.2.2.length c3) (.int .i64 (l : Nat)) (.slice (some adG) R.2.1[l].length crG) _); (first | exact hS0 | exact hS1 | exact hS5 | exact hS5A | exact hS7 | exact hS8))
            clear hK K
            try simp only [Act.put, List.setIfInBounds_toArray, List.set_cons_zero, List.set_cons_succ]
            refine wpAnyH_ready (rs := [13]) (by kernel_rfl) (by simp) ?_
            refine AllReadyH.cons (o := { dst := some 83, op := Go.Op.buildSlice 28 1 #[(0, Go.Operand.tmp 82)], type := 28, pos := "l05_tables.go:414", after := #[{ on := 12, ground := Go.Ground.data }], guard := none }) rfl (fun K hK => ?_) AllReadyH.nil
            go_simp
            clear hHeld
            refine hK.out _ _ ?_ (fun hHeld => ?_)
            · ((try dsimp only); (show S4 w.heap.size 1 3 bM (oM + s) bG (oG + l) (.slice (some ⟨bG, oG, none⟩) R.2.1.length c1) (.slice (some ⟨bM, oM, none⟩) R.2.2.2.length c3) (.int .i64 (l : Nat)) (.slice (some adG) R.2.1[l].length crG) _); (first | exact hS0 | exact hS1 | exact hS5 | exact hS5A | exact hS7 | exact hS8))
            clear hK K
            try simp only [Act.put, List.setIfInBounds_toArray, List.set_cons_zero, List.set_cons_succ]
            refine wpAnyH_ready (rs := [14]) (by kernel_rfl) (by simp) ?_
            refine AllReadyH.cons (o := { dst := some 84, op := Go.Op.call { callee := Go.Callee.builtin Go.Builtin.append, args := #[Go.Operand.tmp 71, Go.Operand.tmp 83], argTypes := #[28, 28] }, type := 28, pos := "l05_tables.go:414", after := #[{ on := 1, ground := Go.Ground.data }, { on := 13, ground := Go.Ground.data }, { on := 12, ground := Go.Ground.chain }], guard := none }) rfl (fun K hK => ?_) AllReadyH.nil
            (refine step_append_lies _ rfl (.tmp 71) (.tmp 83) 28 rfl (w.heap.size + 3) 46 ihG _ 1 24 Try.underlying28 hihG hg0 hg1 hg2 rfl (by decide) _ rg.length _ (by simp [Act.eval, Act.put]) HH5.out ⟨w5.heap.size, 0, none⟩ 1 1 [.slice (some ⟨g5, 0, none⟩) R.2.1[l].length c5] (by simp [Act.eval, Act.put]) rfl (cell_one_new _ _ _) (by intro y hy; simp at hy; subst hy; rfl) (by decide) (by unfold maxLen; omega) (by omega) hb5s _ rfl ?_; intro g7 cap7 w7 hown7 hgr7 hat7 hlt7; have hmb7 := (HMB5.out).grown hgr7 (fun q hq => (World.ownsRow.lt HH5.out q hq).1); obtain ⟨⟨s0, s1⟩, r0, r1⟩ := hmb7.t.cells; have hS7 := HCQI.out _ _ _ hmb7; have hS8 := HCQI.out _ _ _ (hmb7.set (hmb7.t.set1 (.slice (some ⟨g7, 0, none⟩) (rg.length + 1) cap7))); clear hmb7)
            clear hHeld
            refine hK.out _ _ ?_ (fun hHeld => ?_)
            · ((try dsimp only); (show S4 w.heap.size 1 3 bM (oM + s) bG (oG + l) (.slice (some ⟨bG, oG, none⟩) R.2.1.length c1) (.slice (some ⟨bM, oM, none⟩) R.2.2.2.length c3) (.int .i64 (l : Nat)) (.slice (some adG) R.2.1[l].length crG) _); (first | exact hS0 | exact hS1 | exact hS5 | exact hS5A | exact hS7 | exact hS8))
            clear hK K
            try simp only [Act.put, List.setIfInBounds_toArray, List.set_cons_zero, List.set_cons_succ]
            refine wpAnyH_take (i := 15) (oi := { dst := some 85, op := Go.Op.fieldAddr 41 (Go.Operand.tmp 4) 1, type := 0, pos := "l05_tables.go:414", after := #[{ on := 0, ground := Go.Ground.phase }, { on := 1, ground := Go.Ground.phase }, { on := 2, ground := Go.Ground.phase }, { on := 3, ground := Go.Ground.phase }, { on := 4, ground := Go.Ground.phase }, { on := 5, ground := Go.Ground.phase }, { on := 6, ground := Go.Ground.phase }, { on := 7, ground := Go.Ground.phase }, { on := 8, ground := Go.Ground.phase }, { on := 9, ground := Go.Ground.phase }, { on := 10, ground := Go.Ground.phase }, { on := 11, ground := Go.Ground.phase }, { on := 12, ground := Go.Ground.phase }, { on := 13, ground := Go.Ground.phase }, { on := 14, ground := Go.Ground.phase }], guard := none }) (v := ?v25) rfl (by kernel_rfl) (by kernel_rfl) (by kernel_rfl) (fun _ _ _ h => h) (Or.inl ⟨by rfl, ?h25⟩) (by assumption) ?r25
            case h25 => (intro w hSw; (try dsimp only at hSw); go_simp; try with_reducible rfl)
            try simp only [Act.put, List.setIfInBounds_toArray, List.set_cons_zero, List.set_cons_succ]
            refine wpAnyH_ready (rs := [16]) (by kernel_rfl) (by simp) ?_
            refine AllReadyH.cons (o := { dst := none, op := Go.Op.store 28 (Go.Operand.tmp 85) (Go.Operand.tmp 84), type := 0, pos := "l05_tables.go:414", after := #[{ on := 15, ground := Go.Ground.data }, { on := 14, ground := Go.Ground.data }, { on := 14, ground := Go.Ground.chain }, { on := 0, ground := Go.Ground.phase }, { on := 1, ground := Go.Ground.phase }, { on := 2, ground := Go.Ground.phase }, { on := 3, ground := Go.Ground.phase }, { on := 4, ground := Go.Ground.phase }, { on := 5, ground := Go.Ground.phase }, { on := 6, ground := Go.Ground.phase }, { on := 7, ground := Go.Ground.phase }, { on := 8, ground := Go.Ground.phase }, { on := 9, ground := Go.Ground.phase }, { on := 10, ground := Go.Ground.phase }, { on := 11, ground := Go.Ground.phase }, { on := 12, ground := Go.Ground.phase }, { on := 13, ground := Go.Ground.phase }, { on := 14, ground := Go.Ground.phase }], guard := none }) rfl (fun K hK => ?_) AllReadyH.nil
            go_simp
            clear hHeld
            refine hK.out _ _ ?_ (fun hHeld => ?_)
            · ((try dsimp only); (show S4 w.heap.size 1 3 bM (oM + s) bG (oG + l) (.slice (some ⟨bG, oG, none⟩) R.2.1.length c1) (.slice (some ⟨bM, oM, none⟩) R.2.2.2.length c3) (.int .i64 (l : Nat)) (.slice (some adG) R.2.1[l].length crG) _); (first | exact hS0 | exact hS1 | exact hS5 | exact hS5A | exact hS7 | exact hS8))
            clear hK K
            try simp only [Act.put, List.setIfInBounds_toArray, List.set_cons_zero, List.set_cons_succ]
            refine wpAnyH_done (by kernel_rfl) ?_ _
            have HFIN := (show Hid _ from Mt.rowI (row := R.2.1[l]) (ad := ⟨g5, 0, none⟩) (c5 := c5) (u' := .slice (some ⟨g7, 0, none⟩) (rg.length + 1) cap7) HM9.out HO5.out.1 HO5.out.2 hgr7 hown7 (fun q hq => by
              have : g7 = q := by simpa [Value.ownBlock] using hq
              subst this
              rcases hat7 with h | h
              · exact .inl h
              · exact .inr (by first | omega | (simp at h ⊢; done) | (simp at h ⊢; omega))))
            clear hgr7 hown7 hat7 hlt7
            have HYN := (show Hid _ from HXN.out (.slice (some ⟨gnA, 0, none⟩) R.1[k].length cnA) (.slice (some ⟨g5, 0, none⟩) R.2.1[l].length c5))
            go_wp2_with fail
            exact ⟨⟨s + 1, by go_num, by omega, _, _, _, _, HFIN.out, HYN.out⟩, by simp [intOf]; omega⟩
          · go_simp
            clear hHeld
            refine hK.out _ _ ?_ (fun hHeld => ?_)
            · ((try dsimp only); (show S4 w.heap.size 1 3 bM (oM + s) bG (oG + l) (.slice (some ⟨bG, oG, none⟩) R.2.1.length c1) (.slice (some ⟨bM, oM, none⟩) R.2.2.2.length c3) (.int .i64 (l : Nat)) (.slice (some adG) R.2.1[l].length crG) _); (first | exact hS0 | exact hS1 | exact hS5 | exact hS5A | exact hS7 | exact hS8))
            clear hK K
            try simp only [Act.put, List.setIfInBounds_toArray, List.set_cons_zero, List.set_cons_succ]
            refine wpAnyH_ready (rs := [1, 12]) (by kernel_rfl) (by simp) ?_
            refine AllReadyH.cons (o := { dst := some 71, op := Go.Op.load 28 (Go.Operand.tmp 70), type := 28, pos := "l05_tables.go:414", after := #[{ on := 0, ground := Go.Ground.data }], guard := none }) rfl (fun K hK => ?_) (AllReadyH.cons (o := { dst := some 82, op := Go.Op.call { callee := Go.Callee.builtin Go.Builtin.append, args := #[Go.Operand.tmp 72, Go.Operand.tmp 81], argTypes := #[46, 46] }, type := 46, pos := "l05_tables.go:414", after := #[{ on := 2, ground := Go.Ground.data }, { on := 11, ground := Go.Ground.data }], guard := none }) rfl (fun K hK => ?_) AllReadyH.nil)
            · go_simp
              clear hHeld
              refine hK.out _ _ ?_ (fun hHeld => ?_)
              · ((try dsimp only); (show S4 w.heap.size 1 3 bM (oM + s) bG (oG + l) (.slice (some ⟨bG, oG, none⟩) R.2.1.length c1) (.slice (some ⟨bM, oM, none⟩) R.2.2.2.length c3) (.int .i64 (l : Nat)) (.slice (some adG) R.2.1[l].length crG) _); (first | exact hS0 | exact hS1 | exact hS5 | exact hS5A | exact hS7 | exact hS8))
              clear hK K
              try simp only [Act.put, List.setIfInBounds_toArray, List.set_cons_zero, List.set_cons_succ]
              refine wpAnyH_ready (rs := [12]) (by kernel_rfl) (by simp) ?_
              refine AllReadyH.cons (o := { dst := some 82, op := Go.Op.call { callee := Go.Callee.builtin Go.Builtin.append, args := #[Go.Operand.tmp 72, Go.Operand.tmp 81], argTypes := #[46, 46] }, type := 46, pos := "l05_tables.go:414", after := #[{ on := 2, ground := Go.Ground.data }, { on := 11, ground := Go.Ground.data }], guard := none }) rfl (fun K hK => ?_) AllReadyH.nil
              (refine step_append_made _ rfl (.tmp 72) (.tmp 81) 46 rfl wc.heap.size 3 i3 _ 1 8 Try.underlying46 hi3 hz0 hz1 hz2 rfl (by decide) wc.heap.size (by simp [Act.eval, Act.put]) (own_empty _ _ _) adG R.2.1[l].length crG (encI R.2.1[l]) (by simp [Act.eval, Act.put]) (encI_len _) HNW.out (encI_one _) (by unfold maxLen; omega) (by omega) (by simp) ?_; intro g5 c5 w5 hown5 hgr5; have hb5 : Below wc.heap.size wc w5 := grown_bel HBD.out hgr5 (fun q hq => Nat.le_of_eq (by simpa using hq)) (by simp); have HMB5 := (show Hid _ from (Mtb.still HM9.out.mb hb5).still (bel_alloc w5 (.cells #[.slice (some ⟨g5, 0, none⟩) R.2.1[l].length c5] 46))); have HH5 := (show Hid _ from ((Own.still HM9.out.own hb5).still (bel_alloc w5 (.cells #[.slice (some ⟨g5, 0, none⟩) R.2.1[l].length c5] 46))).ok (hdG (.slice y1 rg.length f1) rg) (by simp [TEnt])); have d4 := (hb5.cell (lt_of_cell t1)).trans t1; obtain ⟨⟨b0, b1⟩, _⟩ := HMB5.out.t.cells; have hb5s := HMB5.out.sz; have HO5 := (show Hid _ from (⟨hb5, hown5⟩ : _ ∧ _)); have hS5 := HCQI.out _ _ _ (Mtb.still HM9.out.mb hb5); have hS5A := HCQI.out _ _ _ HMB5.out; clear hown5 hgr5)
              clear hHeld
              refine hK.out _ _ ?_ (fun hHeld => ?_)
              · ((try dsimp only); (show S4 w.heap.size 1 3 bM (oM + s) bG (oG + l) (.slice (some ⟨bG, oG, none⟩) R.2.1.length c1) (.slice (some ⟨bM, oM, none⟩) R.2.2.2.length c3) (.int .i64 (l : Nat)) (.slice (some adG) R.2.1[l].length crG) _); (first | exact hS0 | exact hS1 | exact hS5 | exact hS5A | exact hS7 | exact hS8))
              clear hK K
              try simp only [Act.put, List.setIfInBounds_toArray, List.set_cons_zero, List.set_cons_succ]
              refine wpAnyH_ready (rs := [13]) (by kernel_rfl) (by simp) ?_
              refine AllReadyH.cons (o := { dst := some 83, op := Go.Op.buildSlice 28 1 #[(0, Go.Operand.tmp 82)], type := 28, pos := "l05_tables.go:414", after := #[{ on := 12, ground := Go.Ground.data }], guard := none }) rfl (fun K hK => ?_) AllReadyH.nil
              go_simp
              clear hHeld
              refine hK.out _ _ ?_ (fun hHeld => ?_)
              · ((try dsimp only); (show S4 w.heap.size 1 3 bM (oM + s) bG (oG + l) (.slice (some ⟨bG, oG, none⟩) R.2.1.length c1) (.slice (some ⟨bM, oM, none⟩) R.2.2.2.length c3) (.int .i64 (l : Nat)) (.slice (some adG) R.2.1[l].length crG) _); (first | exact hS0 | exact hS1 | exact hS5 | exact hS5A | exact hS7 | exact hS8))
              clear hK K
              try simp only [Act.put, List.setIfInBounds_toArray, List.set_cons_zero, List.set_cons_succ]
              refine wpAnyH_ready (rs := [14]) (by kernel_rfl) (by simp) ?_
              refine AllReadyH.cons (o := { dst := some 84, op := Go.Op.call { callee := Go.Callee.builtin Go.Builtin.append, args := #[Go.Operand.tmp 71, Go.Operand.tmp 83], argTypes := #[28, 28] }, type := 28, pos := "l05_tables.go:414", after := #[{ on := 1, ground := Go.Ground.data }, { on := 13, ground := Go.Ground.data }, { on := 12, ground := Go.Ground.chain }], guard := none }) rfl (fun K hK => ?_) AllReadyH.nil
              (refine step_append_lies _ rfl (.tmp 71) (.tmp 83) 28 rfl (w.heap.size + 3) 46 ihG _ 1 24 Try.underlying28 hihG hg0 hg1 hg2 rfl (by decide) _ rg.length _ (by simp [Act.eval, Act.put]) HH5.out ⟨w5.heap.size, 0, none⟩ 1 1 [.slice (some ⟨g5, 0, none⟩) R.2.1[l].length c5] (by simp [Act.eval, Act.put]) rfl (cell_one_new _ _ _) (by intro y hy; simp at hy; subst hy; rfl) (by decide) (by unfold maxLen; omega) (by omega) hb5s _ rfl ?_; intro g7 cap7 w7 hown7 hgr7 hat7 hlt7; have hmb7 := (HMB5.out).grown hgr7 (fun q hq => (World.ownsRow.lt HH5.out q hq).1); obtain ⟨⟨s0, s1⟩, r0, r1⟩ := hmb7.t.cells; have hS7 := HCQI.out _ _ _ hmb7; have hS8 := HCQI.out _ _ _ (hmb7.set (hmb7.t.set1 (.slice (some ⟨g7, 0, none⟩) (rg.length + 1) cap7))); clear hmb7)
              clear hHeld
              refine hK.out _ _ ?_ (fun hHeld => ?_)
              · ((try dsimp only); (show S4 w.heap.size 1 3 bM (oM + s) bG (oG + l) (.slice (some ⟨bG, oG, none⟩) R.2.1.length c1) (.slice (some ⟨bM, oM, none⟩) R.2.2.2.length c3) (.int .i64 (l : Nat)) (.slice (some adG) R.2.1[l].length crG) _); (first | exact hS0 | exact hS1 | exact hS5 | exact hS5A | exact hS7 | exact hS8))
              clear hK K
              try simp only [Act.put, List.setIfInBounds_toArray, List.set_cons_zero, List.set_cons_succ]
              refine wpAnyH_take (i := 15) (oi := { dst := some 85, op := Go.Op.fieldAddr 41 (Go.Operand.tmp 4) 1, type := 0, pos := "l05_tables.go:414", after := #[{ on := 0, ground := Go.Ground.phase }, { on := 1, ground := Go.Ground.phase }, { on := 2, ground := Go.Ground.phase }, { on := 3, ground := Go.Ground.phase }, { on := 4, ground := Go.Ground.phase }, { on := 5, ground := Go.Ground.phase }, { on := 6, ground := Go.Ground.phase }, { on := 7, ground := Go.Ground.phase }, { on := 8, ground := Go.Ground.phase }, { on := 9, ground := Go.Ground.phase }, { on := 10, ground := Go.Ground.phase }, { on := 11, ground := Go.Ground.phase }, { on := 12, ground := Go.Ground.phase }, { on := 13, ground := Go.Ground.phase }, { on := 14, ground := Go.Ground.phase }], guard := none }) (v := ?v26) rfl (by kernel_rfl) (by kernel_rfl) (by kernel_rfl) (fun _ _ _ h => h) (Or.inl ⟨by rfl, ?h26⟩) (by assumption) ?r26
              case h26 => (intro w hSw; (try dsimp only at hSw); go_simp; try with_reducible rfl)
              try simp only [Act.put, List.setIfInBounds_toArray, List.set_cons_zero, List.set_cons_succ]
              refine wpAnyH_ready (rs := [16]) (by kernel_rfl) (by simp) ?_
              refine AllReadyH.cons (o := { dst := none, op := Go.Op.store 28 (Go.Operand.tmp 85) (Go.Operand.tmp 84), type := 0, pos := "l05_tables.go:414", after := #[{ on := 15, ground := Go.Ground.data }, { on := 14, ground := Go.Ground.data }, { on := 14, ground := Go.Ground.chain }, { on := 0, ground := Go.Ground.phase }, { on := 1, ground := Go.Ground.phase }, { on := 2, ground := Go.Ground.phase }, { on := 3, ground := Go.Ground.phase }, { on := 4, ground := Go.Ground.phase }, { on := 5, ground := Go.Ground.phase }, { on := 6, ground := Go.Ground.phase }, { on := 7, ground := Go.Ground.phase }, { on := 8, ground := Go.Ground.phase }, { on := 9, ground := Go.Ground.phase }, { on := 10, ground := Go.Ground.phase }, { on := 11, ground := Go.Ground.phase }, { on := 12, ground := Go.Ground.phase }, { on := 13, ground := Go.Ground.phase }, { on := 14, ground := Go.Ground.phase }], guard := none }) rfl (fun K hK => ?_) AllReadyH.nil
              go_simp
              clear hHeld
              refine hK.out _ _ ?_ (fun hHeld => ?_)
              · ((try dsimp only); (show S4 w.heap.size 1 3 bM (oM + s) bG (oG + l) (.slice (some ⟨bG, oG, none⟩) R.2.1.length c1) (.slice (some ⟨bM, oM, none⟩) R.2.2.2.length c3) (.int .i64 (l : Nat)) (.slice (some adG) R.2.1[l].length crG) _); (first | exact hS0 | exact hS1 | exact hS5 | exact hS5A | exact hS7 | exact hS8))
              clear hK K
              try simp only [Act.put, List.setIfInBounds_toArray, List.set_cons_zero, List.set_cons_succ]
              refine wpAnyH_done (by kernel_rfl) ?_ _
              have HFIN := (show Hid _ from Mt.rowI (row := R.2.1[l]) (ad := ⟨g5, 0, none⟩) (c5 := c5) (u' := .slice (some ⟨g7, 0, none⟩) (rg.length + 1) cap7) HM9.out HO5.out.1 HO5.out.2 hgr7 hown7 (fun q hq => by
                have : g7 = q := by simpa [Value.ownBlock] using hq
                subst this
                rcases hat7 with h | h
                · exact .inl h
                · exact .inr (by first | omega | (simp at h ⊢; done) | (simp at h ⊢; omega))))
              clear hgr7 hown7 hat7 hlt7
              have HYN := (show Hid _ from HXN.out (.slice (some ⟨gnA, 0, none⟩) R.1[k].length cnA) (.slice (some ⟨g5, 0, none⟩) R.2.1[l].length c5))
              go_wp2_with fail
              exact ⟨⟨s + 1, by go_num, by omega, _, _, _, _, HFIN.out, HYN.out⟩, by simp [intOf]; omega⟩
            · (refine step_append_made _ rfl (.tmp 72) (.tmp 81) 46 rfl wc.heap.size 3 i3 _ 1 8 Try.underlying46 hi3 hz0 hz1 hz2 rfl (by decide) wc.heap.size (by simp [Act.eval, Act.put]) (own_empty _ _ _) adG R.2.1[l].length crG (encI R.2.1[l]) (by simp [Act.eval, Act.put]) (encI_len _) HNW.out (encI_one _) (by unfold maxLen; omega) (by omega) (by simp) ?_; intro g5 c5 w5 hown5 hgr5; have hb5 : Below wc.heap.size wc w5 := grown_bel HBD.out hgr5 (fun q hq => Nat.le_of_eq (by simpa using hq)) (by simp); have HMB5 := (show Hid _ from (Mtb.still HM9.out.mb hb5).still (bel_alloc w5 (.cells #[.slice (some ⟨g5, 0, none⟩) R.2.1[l].length c5] 46))); have HH5 := (show Hid _ from ((Own.still HM9.out.own hb5).still (bel_alloc w5 (.cells #[.slice (some ⟨g5, 0, none⟩) R.2.1[l].length c5] 46))).ok (hdG (.slice y1 rg.length f1) rg) (by simp [TEnt])); have d4 := (hb5.cell (lt_of_cell t1)).trans t1; obtain ⟨⟨b0, b1⟩, _⟩ := HMB5.out.t.cells; have hb5s := HMB5.out.sz; have HO5 := (show Hid _ from (⟨hb5, hown5⟩ : _ ∧ _)); have hS5 := HCQI.out _ _ _ (Mtb.still HM9.out.mb hb5); have hS5A := HCQI.out _ _ _ HMB5.out; clear hown5 hgr5)
              clear hHeld
              refine hK.out _ _ ?_ (fun hHeld => ?_)
              · ((try dsimp only); (show S4 w.heap.size 1 3 bM (oM + s) bG (oG + l) (.slice (some ⟨bG, oG, none⟩) R.2.1.length c1) (.slice (some ⟨bM, oM, none⟩) R.2.2.2.length c3) (.int .i64 (l : Nat)) (.slice (some adG) R.2.1[l].length crG) _); (first | exact hS0 | exact hS1 | exact hS5 | exact hS5A | exact hS7 | exact hS8))
              clear hK K
              try simp only [Act.put, List.setIfInBounds_toArray, List.set_cons_zero, List.set_cons_succ]
              refine wpAnyH_ready (rs := [1, 13]) (by kernel_rfl) (by simp) ?_
              refine AllReadyH.cons (o := { dst := some 71, op := Go.Op.load 28 (Go.Operand.tmp 70), type := 28, pos := "l05_tables.go:414", after := #[{ on := 0, ground := Go.Ground.data }], guard := none }) rfl (fun K hK => ?_) (AllReadyH.cons (o := { dst := some 83, op := Go.Op.buildSlice 28 1 #[(0, Go.Operand.tmp 82)], type := 28, pos := "l05_tables.go:414", after := #[{ on := 12, ground := Go.Ground.data }], guard := none }) rfl (fun K hK => ?_) AllReadyH.nil)
              · go_simp
                clear hHeld
                refine hK.out _ _ ?_ (fun hHeld => ?_)
                · ((try dsimp only); (show S4 w.heap.size 1 3 bM (oM + s) bG (oG + l) (.slice (some ⟨bG, oG, none⟩) R.2.1.length c1) (.slice (some ⟨bM, oM, none⟩) R.2.2.2.length c3) (.int .i64 (l : Nat)) (.slice (some adG) R.2.1[l].length crG) _); (first | exact hS0 | exact hS1 | exact hS5 | exact hS5A | exact hS7 | exact hS8))
                clear hK K
                try simp only [Act.put, List.setIfInBounds_toArray, List.set_cons_zero, List.set_cons_succ]
                refine wpAnyH_ready (rs := [13]) (by kernel_rfl) (by simp) ?_
                refine AllReadyH.cons (o := { dst := some 83, op := Go.Op.buildSlice 28 1 #[(0, Go.Operand.tmp 82)], type := 28, pos := "l05_tables.go:414", after := #[{ on := 12, ground := Go.Ground.data }], guard := none }) rfl (fun K hK => ?_) AllReadyH.nil
                go_simp
                clear hHeld
                refine hK.out _ _ ?_ (fun hHeld => ?_)
                · ((try dsimp only); (show S4 w.heap.size 1 3 bM (oM + s) bG (oG + l) (.slice (some ⟨bG, oG, none⟩) R.2.1.length c1) (.slice (some ⟨bM, oM, none⟩) R.2.2.2.length c3) (.int .i64 (l : Nat)) (.slice (some adG) R.2.1[l].length crG) _); (first | exact hS0 | exact hS1 | exact hS5 | exact hS5A | exact hS7 | exact hS8))
                clear hK K
                try simp only [Act.put, List.setIfInBounds_toArray, List.set_cons_zero, List.set_cons_succ]
                refine wpAnyH_ready (rs := [14]) (by kernel_rfl) (by simp) ?_
                refine AllReadyH.cons (o := { dst := some 84, op := Go.Op.call { callee := Go.Callee.builtin Go.Builtin.append, args := #[Go.Operand.tmp 71, Go.Operand.tmp 83], argTypes := #[28, 28] }, type := 28, pos := "l05_tables.go:414", after := #[{ on := 1, ground := Go.Ground.data }, { on := 13, ground := Go.Ground.data }, { on := 12, ground := Go.Ground.chain }], guard := none }) rfl (fun K hK => ?_) AllReadyH.nil
                (refine step_append_lies _ rfl (.tmp 71) (.tmp 83) 28 rfl (w.heap.size + 3) 46 ihG _ 1 24 Try.underlying28 hihG hg0 hg1 hg2 rfl (by decide) _ rg.length _ (by simp [Act.eval, Act.put]) HH5.out ⟨w5.heap.size, 0, none⟩ 1 1 [.slice (some ⟨g5, 0, none⟩) R.2.1[l].length c5] (by simp [Act.eval, Act.put]) rfl (cell_one_new _ _ _) (by intro y hy; simp at hy; subst hy; rfl) (by decide) (by unfold maxLen; omega) (by omega) hb5s _ rfl ?_; intro g7 cap7 w7 hown7 hgr7 hat7 hlt7; have hmb7 := (HMB5.out).grown hgr7 (fun q hq => (World.ownsRow.lt HH5.out q hq).1); obtain ⟨⟨s0, s1⟩, r0, r1⟩ := hmb7.t.cells; have hS7 := HCQI.out _ _ _ hmb7; have hS8 := HCQI.out _ _ _ (hmb7.set (hmb7.t.set1 (.slice (some ⟨g7, 0, none⟩) (rg.length + 1) cap7))); clear hmb7)
                clear hHeld
                refine hK.out _ _ ?_ (fun hHeld => ?_)
                · ((try dsimp only); (show S4 w.heap.size 1 3 bM (oM + s) bG (oG + l) (.slice (some ⟨bG, oG, none⟩) R.2.1.length c1) (.slice (some ⟨bM, oM, none⟩) R.2.2.2.length c3) (.int .i64 (l : Nat)) (.slice (some adG) R.2.1[l].length crG) _); (first | exact hS0 | exact hS1 | exact hS5 | exact hS5A | exact hS7 | exact hS8))
                clear hK K
                try simp only [Act.put, List.setIfInBounds_toArray, List.set_cons_zero, List.set_cons_succ]
                refine wpAnyH_take (i := 15) (oi := { dst := some 85, op := Go.Op.fieldAddr 41 (Go.Operand.tmp 4) 1, type := 0, pos := "l05_tables.go:414", after := #[{ on := 0, ground := Go.Ground.phase }, { on := 1, ground := Go.Ground.phase }, { on := 2, ground := Go.Ground.phase }, { on := 3, ground := Go.Ground.phase }, { on := 4, ground := Go.Ground.phase }, { on := 5, ground := Go.Ground.phase }, { on := 6, ground := Go.Ground.phase }, { on := 7, ground := Go.Ground.phase }, { on := 8, ground := Go.Ground.phase }, { on := 9, ground := Go.Ground.phase }, { on := 10, ground := Go.Ground.phase }, { on := 11, ground := Go.Ground.phase }, { on := 12, ground := Go.Ground.phase }, { on := 13, ground := Go.Ground.phase }, { on := 14, ground := Go.Ground.phase }], guard := none }) (v := ?v27) rfl (by kernel_rfl) (by kernel_rfl) (by kernel_rfl) (fun _ _ _ h => h) (Or.inl ⟨by rfl, ?h27⟩) (by assumption) ?r27
                case h27 => (intro w hSw; (try dsimp only at hSw); go_simp; try with_reducible rfl)
                try simp only [Act.put, List.setIfInBounds_toArray, List.set_cons_zero, List.set_cons_succ]
                refine wpAnyH_ready (rs := [16]) (by kernel_rfl) (by simp) ?_
                refine AllReadyH.cons (o := { dst := none, op := Go.Op.store 28 (Go.Operand.tmp 85) (Go.Operand.tmp 84), type := 0, pos := "l05_tables.go:414", after := #[{ on := 15, ground := Go.Ground.data }, { on := 14, ground := Go.Ground.data }, { on := 14, ground := Go.Ground.chain }, { on := 0, ground := Go.Ground.phase }, { on := 1, ground := Go.Ground.phase }, { on := 2, ground := Go.Ground.phase }, { on := 3, ground := Go.Ground.phase }, { on := 4, ground := Go.Ground.phase }, { on := 5, ground := Go.Ground.phase }, { on := 6, ground := Go.Ground.phase }, { on := 7, ground := Go.Ground.phase }, { on := 8, ground := Go.Ground.phase }, { on := 9, ground := Go.Ground.phase }, { on := 10, ground := Go.Ground.phase }, { on := 11, ground := Go.Ground.phase }, { on := 12, ground := Go.Ground.phase }, { on := 13, ground := Go.Ground.phase }, { on := 14, ground := Go.Ground.phase }], guard := none }) rfl (fun K hK => ?_) AllReadyH.nil
                go_simp
                clear hHeld
                refine hK.out _ _ ?_ (fun hHeld => ?_)
                · ((try dsimp only); (show S4 w.heap.size 1 3 bM (oM + s) bG (oG + l) (.slice (some ⟨bG, oG, none⟩) R.2.1.length c1) (.slice (some ⟨bM, oM, none⟩) R.2.2.2.length c3) (.int .i64 (l : Nat)) (.slice (some adG) R.2.1[l].length crG) _); (first | exact hS0 | exact hS1 | exact hS5 | exact hS5A | exact hS7 | exact hS8))
                clear hK K
                try simp only [Act.put, List.setIfInBounds_toArray, List.set_cons_zero, List.set_cons_succ]
                refine wpAnyH_done (by kernel_rfl) ?_ _
                have HFIN := (show Hid _ from Mt.rowI (row := R.2.1[l]) (ad := ⟨g5, 0, none⟩) (c5 := c5) (u' := .slice (some ⟨g7, 0, none⟩) (rg.length + 1) cap7) HM9.out HO5.out.1 HO5.out.2 hgr7 hown7 (fun q hq => by
                  have : g7 = q := by simpa [Value.ownBlock] using hq
                  subst this
                  rcases hat7 with h | h
                  · exact .inl h
                  · exact .inr (by first | omega | (simp at h ⊢; done) | (simp at h ⊢; omega))))
                clear hgr7 hown7 hat7 hlt7
                have HYN := (show Hid _ from HXN.out (.slice (some ⟨gnA, 0, none⟩) R.1[k].length cnA) (.slice (some ⟨g5, 0, none⟩) R.2.1[l].length c5))
                go_wp2_with fail
                exact ⟨⟨s + 1, by go_num, by omega, _, _, _, _, HFIN.out, HYN.out⟩, by simp [intOf]; omega⟩
              · go_simp
                clear hHeld
                refine hK.out _ _ ?_ (fun hHeld => ?_)
                · ((try dsimp only); (show S4 w.heap.size 1 3 bM (oM + s) bG (oG + l) (.slice (some ⟨bG, oG, none⟩) R.2.1.length c1) (.slice (some ⟨bM, oM, none⟩) R.2.2.2.length c3) (.int .i64 (l : Nat)) (.slice (some adG) R.2.1[l].length crG) _); (first | exact hS0 | exact hS1 | exact hS5 | exact hS5A | exact hS7 | exact hS8))
                clear hK K
                try simp only [Act.put, List.setIfInBounds_toArray, List.set_cons_zero, List.set_cons_succ]
                refine wpAnyH_ready (rs := [1]) (by kernel_rfl) (by simp) ?_
                refine AllReadyH.cons (o := { dst := some 71, op := Go.Op.load 28 (Go.Operand.tmp 70), type := 28, pos := "l05_tables.go:414", after := #[{ on := 0, ground := Go.Ground.data }], guard := none }) rfl (fun K hK => ?_) AllReadyH.nil
                go_simp
                clear hHeld
                refine hK.out _ _ ?_ (fun hHeld => ?_)
                · ((try dsimp only); (show S4 w.heap.size 1 3 bM (oM + s) bG (oG + l) (.slice (some ⟨bG, oG, none⟩) R.2.1.length c1) (.slice (some ⟨bM, oM, none⟩) R.2.2.2.length c3) (.int .i64 (l : Nat)) (.slice (some adG) R.2.1[l].length crG) _); (first | exact hS0 | exact hS1 | exact hS5 | exact hS5A | exact hS7 | exact hS8))
                clear hK K
                try simp only [Act.put, List.setIfInBounds_toArray, List.set_cons_zero, List.set_cons_succ]
                refine wpAnyH_ready (rs := [14]) (by kernel_rfl) (by simp) ?_
                refine AllReadyH.cons (o := { dst := some 84, op := Go.Op.call { callee := Go.Callee.builtin Go.Builtin.append, args := #[Go.Operand.tmp 71, Go.Operand.tmp 83], argTypes := #[28, 28] }, type := 28, pos := "l05_tables.go:414", after := #[{ on := 1, ground := Go.Ground.data }, { on := 13, ground := Go.Ground.data }, { on := 12, ground := Go.Ground.chain }], guard := none }) rfl (fun K hK => ?_) AllReadyH.nil
                (refine step_append_lies _ rfl (.tmp 71) (.tmp 83) 28 rfl (w.heap.size + 3) 46 ihG _ 1 24 Try.underlying28 hihG hg0 hg1 hg2 rfl (by decide) _ rg.length _ (by simp [Act.eval, Act.put]) HH5.out ⟨w5.heap.size, 0, none⟩ 1 1 [.slice (some ⟨g5, 0, none⟩) R.2.1[l].length c5] (by simp [Act.eval, Act.put]) rfl (cell_one_new _ _ _) (by intro y hy; simp at hy; subst hy; rfl) (by decide) (by unfold maxLen; omega) (by omega) hb5s _ rfl ?_; intro g7 cap7 w7 hown7 hgr7 hat7 hlt7; have hmb7 := (HMB5.out).grown hgr7 (fun q hq => (World.ownsRow.lt HH5.out q hq).1); obtain ⟨⟨s0, s1⟩, r0, r1⟩ := hmb7.t.cells; have hS7 := HCQI.out _ _ _ hmb7; have hS8 := HCQI.out _ _ _ (hmb7.set (hmb7.t.set1 (.slice (some ⟨g7, 0, none⟩) (rg.length + 1) cap7))); clear hmb7)
                clear hHeld
                refine hK.out _ _ ?_ (fun hHeld => ?_)
                · ((try dsimp only); (show S4 w.heap.size 1 3 bM (oM + s) bG (oG + l) (.slice (some ⟨bG, oG, none⟩) R.2.1.length c1) (.slice (some ⟨bM, oM, none⟩) R.2.2.2.length c3) (.int .i64 (l : Nat)) (.slice (some adG) R.2.1[l].length crG) _); (first | exact hS0 | exact hS1 | exact hS5 | exact hS5A | exact hS7 | exact hS8))
                clear hK K
                try simp only [Act.put, List.setIfInBounds_toArray, List.set_cons_zero, List.set_cons_succ]
                refine wpAnyH_take (i := 15) (oi := { dst := some 85, op := Go.Op.fieldAddr 41 (Go.Operand.tmp 4) 1, type := 0, pos := "l05_tables.go:414", after := #[{ on := 0, ground := Go.Ground.phase }, { on := 1, ground := Go.Ground.phase }, { on := 2, ground := Go.Ground.phase }, { on := 3, ground := Go.Ground.phase }, { on := 4, ground := Go.Ground.phase }, { on := 5, ground := Go.Ground.phase }, { on := 6, ground := Go.Ground.phase }, { on := 7, ground := Go.Ground.phase }, { on := 8, ground := Go.Ground.phase }, { on := 9, ground := Go.Ground.phase }, { on := 10, ground := Go.Ground.phase }, { on := 11, ground := Go.Ground.phase }, { on := 12, ground := Go.Ground.phase }, { on := 13, ground := Go.Ground.phase }, { on := 14, ground := Go.Ground.phase }], guard := none }) (v := ?v28) rfl (by kernel_rfl) (by kernel_rfl) (by kernel_rfl) (fun _ _ _ h => h) (Or.inl ⟨by rfl, ?h28⟩) (by assumption) ?r28
                case h28 => (intro w hSw; (try dsimp only at hSw); go_simp; try with_reducible rfl)
                try simp only [Act.put, List.setIfInBounds_toArray, List.set_cons_zero, List.set_cons_succ]
                refine wpAnyH_ready (rs := [16]) (by kernel_rfl) (by simp) ?_
                refine AllReadyH.cons (o := { dst := none, op := Go.Op.store 28 (Go.Operand.tmp 85) (Go.Operand.tmp 84), type := 0, pos := "l05_tables.go:414", after := #[{ on := 15, ground := Go.Ground.data }, { on := 14, ground := Go.Ground.data }, { on := 14, ground := Go.Ground.chain }, { on := 0, ground := Go.Ground.phase }, { on := 1, ground := Go.Ground.phase }, { on := 2, ground := Go.Ground.phase }, { on := 3, ground := Go.Ground.phase }, { on := 4, ground := Go.Ground.phase }, { on := 5, ground := Go.Ground.phase }, { on := 6, ground := Go.Ground.phase }, { on := 7, ground := Go.Ground.phase }, { on := 8, ground := Go.Ground.phase }, { on := 9, ground := Go.Ground.phase }, { on := 10, ground := Go.Ground.phase }, { on := 11, ground := Go.Ground.phase }, { on := 12, ground := Go.Ground.phase }, { on := 13, ground := Go.Ground.phase }, { on := 14, ground := Go.Ground.phase }], guard := none }) rfl (fun K hK => ?_) AllReadyH.nil
                go_simp
                clear hHeld
                refine hK.out _ _ ?_ (fun hHeld => ?_)
                · ((try dsimp only); (show S4 w.heap.size 1 3 bM (oM + s) bG (oG + l) (.slice (some ⟨bG, oG, none⟩) R.2.1.length c1) (.slice (some ⟨bM, oM, none⟩) R.2.2.2.length c3) (.int .i64 (l : Nat)) (.slice (some adG) R.2.1[l].length crG) _); (first | exact hS0 | exact hS1 | exact hS5 | exact hS5A | exact hS7 | exact hS8))
                clear hK K
                try simp only [Act.put, List.setIfInBounds_toArray, List.set_cons_zero, List.set_cons_succ]
                refine wpAnyH_done (by kernel_rfl) ?_ _
                have HFIN := (show Hid _ from Mt.rowI (row := R.2.1[l]) (ad := ⟨g5, 0, none⟩) (c5 := c5) (u' := .slice (some ⟨g7, 0, none⟩) (rg.length + 1) cap7) HM9.out HO5.out.1 HO5.out.2 hgr7 hown7 (fun q hq => by
                  have : g7 = q := by simpa [Value.ownBlock] using hq
                  subst this
                  rcases hat7 with h | h
                  · exact .inl h
                  · exact .inr (by first | omega | (simp at h ⊢; done) | (simp at h ⊢; omega))))
                clear hgr7 hown7 hat7 hlt7
                have HYN := (show Hid _ from HXN.out (.slice (some ⟨gnA, 0, none⟩) R.1[k].length cnA) (.slice (some ⟨g5, 0, none⟩) R.2.1[l].length c5))
                go_wp2_with fail
                exact ⟨⟨s + 1, by go_num, by omega, _, _, _, _, HFIN.out, HYN.out⟩, by simp [intOf]; omega⟩
    · have hse : s = R.2.2.1.length := by omega
      have hse2 : s = R.2.2.2.length := by have := HL1.out; omega
      have HDa : Hid (ra.map (·.2) = (wdT R).acts ∧ rg.map (·.2) = (wdT R).gotos ∧ R.2.2.1.all (wnB 0 ((R.1.length : Int) - 1)) = true ∧ R.2.2.2.all (wnB 0 ((R.2.1.length : Int) - 1)) = true) := by
        obtain ⟨d1, d2, d3, d4⟩ := HD.out
        rw [List.take_of_length_le (by omega)] at d1 d2 d3 d4
        exact ⟨d1, d2, d3, d4⟩
      have HT := (show Hid (TLiesN wr (fun b => w.heap.size + 3 ≤ b) (wdT R) (.slice y0 ra.length f0) (.slice y1 rg.length f1)) from ⟨by rw [← HDa.out.1]; exact tOwn_arows (fun e he => HM.out.own.ok e he) HM.out.na, by rw [← HDa.out.2.1]; exact tOwn_irows (fun e he => HM.out.own.ok e he) HM.out.ng⟩)
      have hle : (wdT R).acts.length ≤ 250 := by simp only [wdT, agn, List.length_map]; omega
      have hge : (wdT R).gotos.length = (wdT R).acts.length := by simp only [wdT, agn, List.length_map]; have := HL1.out; omega
      have HCP := (show Hid _ from sPack_any (wdT R) _ _ wr HT.out (wdT_small HPS.out h2 HDa.out.2.2.1 (by have := HL1.out; omega) HDa.out.2.2.2) hle hge)
      have HEV := (show Hid _ from fun (w' : World) (hb : Below wr.heap.size wr w') => sEven_any (wdT R) _ _ w' (HT.out.lies.still hb))
      have HS1 : Hid (∀ (e l1 l2 m1 m2 : Bool), evB (wdT R) = e → decide ((onc [] [] (wdT R).acts).1.length = R.1.length) = l1 → decide ((onc [] [] (wdT R).gotos).1.length = R.2.1.length) = l2 → decide ((onc [] [] (wdT R).acts).2 = R.2.2.1) = m1 → decide ((onc [] [] (wdT R).gotos).2 = R.2.2.2) = m2 → sdB R = (e && ((l1 && l2) && (m1 && m2)))) := fun e l1 l2 m1 m2 q1 q2 q3 q4 q5 => by
        unfold sdB
        rw [q1, q2, q3, q4, q5, HDa.out.2.2.1, HDa.out.2.2.2, decide_eq_true HL1.out, decide_eq_true h2]
        rfl
      have HDb := (show Hid _ from (⟨HDa.out.1, HDa.out.2.1⟩ : _ ∧ _))
      have hsl2 : ¬ ((s : Int) < R.2.2.1.length) := by omega
      clear HD HDa hle hge HT HNA HMA HRA HRG HA0 HA1 HA2 HA3 hse hse2
      go_wp2_with fail
      refine Calls.mono HCP.out ?_
      rintro e w1 ⟨k0, k1, k2, k3, rfl, hb1, ka, kg, na, ng, ho, hq⟩
      have hh0 : w1.ownsRow wr.heap.size 69 1 k0 ka.length (ka.map (·.1)) := ho.ok (hdA k0 ka) (by simp)
      have hh1 : w1.ownsRow wr.heap.size 46 1 k1 kg.length (kg.map (·.1)) := ho.ok (hdG k1 kg) (by simp)
      have hh2 : w1.ownsRow wr.heap.size 3 1 k2 na.length (encI na) := ho.ok (nmI k2 na) (by simp)
      have hh3 : w1.ownsRow wr.heap.size 3 1 k3 ng.length (encI ng) := ho.ok (nmI k3 ng) (by simp)
      obtain ⟨g0, o0, _, rfl, _⟩ := own_cell hh0
      obtain ⟨g1, o1, _, rfl, _⟩ := own_cell hh1
      obtain ⟨g2, o2, _, rfl, _⟩ := own_cell hh2
      obtain ⟨g3, o3, _, rfl, _⟩ := own_cell hh3
      have hpl := pl_of2 (fun e he => ho.ok e he)
      obtain ⟨z1, z2, z3, z4⟩ : ka.map (·.2) = (onc [] [] (wdT R).acts).1 ∧ kg.map (·.2) = (onc [] [] (wdT R).gotos).1 ∧ na = (onc [] [] (wdT R).acts).2 ∧ ng = (onc [] [] (wdT R).gotos).2 := by
        simp only [Prod.mk.injEq] at hq
        exact ⟨hq.1.symm, hq.2.1.symm, hq.2.2.1.symm, hq.2.2.2.symm⟩
      have hba : Below wr.heap.size wr (w1.alloc (.cells #[.slice g0 ka.length o0, .slice g1 kg.length o1, .slice g2 na.length o2, .slice g3 ng.length o3] 48)) := bel_trans hb1 (bel_alloc _ _)
      have HI2 := (show Hid _ from fun (w' : World) (hb : Below w1.heap.size w1 w') => hpl.arow.still hb)
      have HI3 := (show Hid _ from fun (w' : World) (hb : Below w1.heap.size w1 w') => hpl.grow.still hb)
      have HBX := (show Hid _ from Box4.new w1 48 (.slice g0 ka.length o0) (.slice g1 kg.length o1) (.slice g2 na.length o2) (.slice g3 ng.length o3))
      have HL0 : Hid (ka.length = (onc [] [] (wdT R).acts).1.length ∧ kg.length = (onc [] [] (wdT R).gotos).1.length ∧ na = (onc [] [] (wdT R).acts).2 ∧ ng = (onc [] [] (wdT R).gotos).2) := ⟨by rw [← z1, List.length_map], by rw [← z2, List.length_map], z3, z4⟩
      have HM1 := (show Hid _ from Mt.still HM.out hba)
      have HC1 := (show Hid _ from HEV.out _ hba)
      have HB1 := (show Hid _ from (bel_alloc w1 (.cells #[.slice g0 ka.length o0, .slice g1 kg.length o1, .slice g2 na.length o2, .slice g3 ng.length o3] 48)))
      have hmk : ka.length ≤ maxLen := by obtain ⟨_, _, _, hh⟩ := hpl.acts.form; simpa using hh
      have hmg' : kg.length ≤ maxLen := by obtain ⟨_, _, _, hh⟩ := hpl.gotos.form; simpa using hh
      unfold maxLen at hmk hmg'
      clear hba hpl z1 z2 z3 z4 hh0 hh1 hh2 hh3 ho hq hb1 HCP HEV HM p0 p1 p2 p3 t0 t1
      obtain ⟨⟨t0, t1⟩, _⟩ := (Mtb.t HM1.out.mb).cells
      go_wp2_with fail
      refine Calls.mono HC1.out ?_
      rintro e w2 ⟨rfl, hb2⟩
      have HB2 := (show Hid _ from bel_trans HB1.out hb2)
      have HM2 := (show Hid _ from Mt.still HM1.out hb2)
      have HBX2 := (show Hid _ from HBX.out.still hb2)
      obtain ⟨x0, x1, x2, x3⟩ := HBX2.out.cells
      obtain ⟨p0, p1, p2, p3⟩ := (Mtb.p HM2.out.mb).cells
      have HC4 := (show Hid _ from fun (w' : World) (hb : Below w2.heap.size w2 w') => sameI_s na R.2.2.1 _ _ w' (HI2.out w' (bel_trans HB2.out hb)) (Ints.still (S := S) (l := R.2.2.1) HAR.out (bel_trans HM2.out.mb.bel hb)))
      have HC5 := (show Hid _ from fun (w' : World) (hb : Below w2.heap.size w2 w') => sameI_s ng R.2.2.2 _ _ w' (HI3.out w' (bel_trans HB2.out hb)) (Ints.still (S := S) (l := R.2.2.2) HGR.out (bel_trans HM2.out.mb.bel hb)))
      obtain ⟨q1, q2, q3, q4⟩ := HL0.out
      have HS2 : Hid (∀ (e l1 l2 m1 m2 : Bool), evB (wdT R) = e → decide (ka.length = R.1.length) = l1 → decide (kg.length = R.2.1.length) = l2 → decide (na = R.2.2.1) = m1 → decide (ng = R.2.2.2) = m2 → sdB R = (e && ((l1 && l2) && (m1 && m2)))) := fun e l1 l2 m1 m2 j1 j2 j3 j4 j5 => HS1.out e l1 l2 m1 m2 j1 (by rw [← q1]; exact j2) (by rw [← q2]; exact j3) (by rw [← q3]; exact j4) (by rw [← q4]; exact j5)
      clear q1 q2 q3 q4 HS1 HL0 HI2 HI3 HM1 HC1 HB1 HBX t0 t1 hb2
      cases hev : evB (wdT R)
      · have HR := (show Hid _ from HNO.out (by rw [HS2.out _ _ _ _ _ hev rfl rfl rfl rfl]; rfl))
        have HQb := (show Hid _ from HM2.out.mb)
        clear HS2 HC4 HC5 hev p0 p1 p2 p3 x0 x1 x2 x3
        obtain ⟨⟨r0, r1⟩, z0, z1⟩ := (Mtb.r HQb.out).cells
        obtain ⟨⟨s0, s1⟩, _⟩ := (((Mtb.r HQb.out).set0 (.slice none 0 0)).set1 (.slice none 0 0)).cells
        have HF := (show Hid _ from ((Mtb.bel HQb.out).setCell (p := ⟨w.heap.size + 1, 0, none⟩) (by show w.heap.size ≤ w.heap.size + 1; omega) (.slice none 0 0)).setCell (p := ⟨w.heap.size + 1, 1, none⟩) (by show w.heap.size ≤ w.heap.size + 1; omega) (.slice none 0 0))
        go_wp2_with fail
        refine bodyPost_ret (v := .tuple #[.agg #[.slice none 0 0, .slice none 0 0], .int .i64 10]) (by first | (simp [results, Try.results21, go_sem, s0, s1]; done) | (simp [results, Try.results21, go_sem, r0, r1]; done)) rfl ?_
        first | exact ⟨_, _, [], [], by rw [HR.out], HF.out, tent_nil _ _, by rw [HR.out]; rfl, by rw [HR.out]; rfl⟩ | exact ⟨_, _, [], [], by rw [HR.out], Mtb.bel HQb.out, tent_nil _ _, by rw [HR.out]; rfl, by rw [HR.out]; rfl⟩
      by_cases hl1 : ka.length = R.1.length
      case neg =>
        have HR := (show Hid _ from HNO.out (by rw [HS2.out _ _ _ _ _ hev (decide_eq_false hl1) rfl rfl rfl]; rfl))
        have i1 : ((ka.length : Int) != (R.1.length : Int)) = true := by simp; omega
        have HQb := (show Hid _ from HM2.out.mb)
        clear HS2 HC4 HC5 hev hl1
        obtain ⟨⟨r0, r1⟩, z0, z1⟩ := (Mtb.r HQb.out).cells
        obtain ⟨⟨s0, s1⟩, _⟩ := (((Mtb.r HQb.out).set0 (.slice none 0 0)).set1 (.slice none 0 0)).cells
        have HF := (show Hid _ from ((Mtb.bel HQb.out).setCell (p := ⟨w.heap.size + 1, 0, none⟩) (by show w.heap.size ≤ w.heap.size + 1; omega) (.slice none 0 0)).setCell (p := ⟨w.heap.size + 1, 1, none⟩) (by show w.heap.size ≤ w.heap.size + 1; omega) (.slice none 0 0))
        go_wp2_with fail
        refine bodyPost_ret (v := .tuple #[.agg #[.slice none 0 0, .slice none 0 0], .int .i64 10]) (by first | (simp [results, Try.results21, go_sem, s0, s1]; done) | (simp [results, Try.results21, go_sem, r0, r1]; done)) rfl ?_
        first | exact ⟨_, _, [], [], by rw [HR.out], HF.out, tent_nil _ _, by rw [HR.out]; rfl, by rw [HR.out]; rfl⟩ | exact ⟨_, _, [], [], by rw [HR.out], Mtb.bel HQb.out, tent_nil _ _, by rw [HR.out]; rfl, by rw [HR.out]; rfl⟩
      have i1 : ((ka.length : Int) != (R.1.length : Int)) = false := by simp; omega
      by_cases hl2 : kg.length = R.2.1.length
      case neg =>
        have HR := (show Hid _ from HNO.out (by rw [HS2.out _ _ _ _ _ hev (decide_eq_true hl1) (decide_eq_false hl2) rfl rfl]; rfl))
        have i2 : ((kg.length : Int) != (R.2.1.length : Int)) = true := by simp; omega
        have HQb := (show Hid _ from HM2.out.mb)
        clear HS2 HC4 HC5 hev hl1 hl2
        obtain ⟨⟨r0, r1⟩, z0, z1⟩ := (Mtb.r HQb.out).cells
        obtain ⟨⟨s0, s1⟩, _⟩ := (((Mtb.r HQb.out).set0 (.slice none 0 0)).set1 (.slice none 0 0)).cells
        have HF := (show Hid _ from ((Mtb.bel HQb.out).setCell (p := ⟨w.heap.size + 1, 0, none⟩) (by show w.heap.size ≤ w.heap.size + 1; omega) (.slice none 0 0)).setCell (p := ⟨w.heap.size + 1, 1, none⟩) (by show w.heap.size ≤ w.heap.size + 1; omega) (.slice none 0 0))
        go_wp2_with fail
        refine bodyPost_ret (v := .tuple #[.agg #[.slice none 0 0, .slice none 0 0], .int .i64 10]) (by first | (simp [results, Try.results21, go_sem, s0, s1]; done) | (simp [results, Try.results21, go_sem, r0, r1]; done)) rfl ?_
        first | exact ⟨_, _, [], [], by rw [HR.out], HF.out, tent_nil _ _, by rw [HR.out]; rfl, by rw [HR.out]; rfl⟩ | exact ⟨_, _, [], [], by rw [HR.out], Mtb.bel HQb.out, tent_nil _ _, by rw [HR.out]; rfl, by rw [HR.out]; rfl⟩
      have i2 : ((kg.length : Int) != (R.2.1.length : Int)) = false := by simp; omega
      have HS3 := (show Hid _ from fun (m1 m2 : Bool) (j4 : decide (na = R.2.2.1) = m1) (j5 : decide (ng = R.2.2.2) = m2) => HS2.out _ _ _ _ _ hev (decide_eq_true hl1) (decide_eq_true hl2) j4 j5)
      clear HS2 hev hl1 hl2
      have HC4' := (show Hid _ from HC4.out w2 (Below.refl _ _))
      clear HC4
      go_wp2_with fail
      refine Calls.mono HC4'.out ?_
      rintro e w3 ⟨rfl, hb3⟩
      have HM3 := (show Hid _ from Mt.still HM2.out hb3)
      have HBX3 := (show Hid _ from HBX2.out.still hb3)
      have HC5' := (show Hid _ from HC5.out w3 hb3)
      clear hb3 p0 p1 p2 p3 x0 x1 x2 x3 HC4' HC5 HM2 HBX2
      obtain ⟨x0, x1, x2, x3⟩ := HBX3.out.cells
      obtain ⟨p0, p1, p2, p3⟩ := (Mtb.p HM3.out.mb).cells
      cases hm1 : decide (na = R.2.2.1)
      · have HR := (show Hid _ from HNO.out (by rw [HS3.out _ _ hm1 rfl]; rfl))
        have HQb := (show Hid _ from HM3.out.mb)
        clear HS3 HC5' hm1 p0 p1 p2 p3 x0 x1 x2 x3
        obtain ⟨⟨r0, r1⟩, z0, z1⟩ := (Mtb.r HQb.out).cells
        obtain ⟨⟨s0, s1⟩, _⟩ := (((Mtb.r HQb.out).set0 (.slice none 0 0)).set1 (.slice none 0 0)).cells
        have HF := (show Hid _ from ((Mtb.bel HQb.out).setCell (p := ⟨w.heap.size + 1, 0, none⟩) (by show w.heap.size ≤ w.heap.size + 1; omega) (.slice none 0 0)).setCell (p := ⟨w.heap.size + 1, 1, none⟩) (by show w.heap.size ≤ w.heap.size + 1; omega) (.slice none 0 0))
        go_wp2_with fail
        refine bodyPost_ret (v := .tuple #[.agg #[.slice none 0 0, .slice none 0 0], .int .i64 10]) (by first | (simp [results, Try.results21, go_sem, s0, s1]; done) | (simp [results, Try.results21, go_sem, r0, r1]; done)) rfl ?_
        first | exact ⟨_, _, [], [], by rw [HR.out], HF.out, tent_nil _ _, by rw [HR.out]; rfl, by rw [HR.out]; rfl⟩ | exact ⟨_, _, [], [], by rw [HR.out], Mtb.bel HQb.out, tent_nil _ _, by rw [HR.out]; rfl, by rw [HR.out]; rfl⟩
      go_wp2_with fail
      refine Calls.mono HC5'.out ?_
      rintro e w4 ⟨rfl, hb4⟩
      have HM4 := (show Hid _ from Mt.still HM3.out hb4)
      clear hb4 p0 p1 p2 p3 x0 x1 x2 x3 HC5' HM3 HBX3
      cases hm2 : decide (ng = R.2.2.2)
      · have HR := (show Hid _ from HNO.out (by rw [HS3.out _ _ hm1 hm2]; rfl))
        have HQb := (show Hid _ from HM4.out.mb)
        clear HS3 hm1 hm2
        obtain ⟨⟨r0, r1⟩, z0, z1⟩ := (Mtb.r HQb.out).cells
        obtain ⟨⟨s0, s1⟩, _⟩ := (((Mtb.r HQb.out).set0 (.slice none 0 0)).set1 (.slice none 0 0)).cells
        have HF := (show Hid _ from ((Mtb.bel HQb.out).setCell (p := ⟨w.heap.size + 1, 0, none⟩) (by show w.heap.size ≤ w.heap.size + 1; omega) (.slice none 0 0)).setCell (p := ⟨w.heap.size + 1, 1, none⟩) (by show w.heap.size ≤ w.heap.size + 1; omega) (.slice none 0 0))
        go_wp2_with fail
        refine bodyPost_ret (v := .tuple #[.agg #[.slice none 0 0, .slice none 0 0], .int .i64 10]) (by first | (simp [results, Try.results21, go_sem, s0, s1]; done) | (simp [results, Try.results21, go_sem, r0, r1]; done)) rfl ?_
        first | exact ⟨_, _, [], [], by rw [HR.out], HF.out, tent_nil _ _, by rw [HR.out]; rfl, by rw [HR.out]; rfl⟩ | exact ⟨_, _, [], [], by rw [HR.out], Mtb.bel HQb.out, tent_nil _ _, by rw [HR.out]; rfl, by rw [HR.out]; rfl⟩
      have HR := (show Hid _ from HYE.out (by rw [HS3.out _ _ hm1 hm2]; rfl))
      have hg2 : w.heap.size + 1 < w.heap.size + 3 := by omega
      have ho9 := (((HM4.out.own).set (o := 0) (u := (.slice y0 ra.length f0)) hg2).set (o := 1) (u := (.slice y1 rg.length f1)) hg2).base (B' := w.heap.size) (by omega)
      have hb10 := ((Mtb.bel HM4.out.mb).setCell (p := ⟨w.heap.size + 1, 0, none⟩) (by show w.heap.size ≤ w.heap.size + 1; omega) (.slice y0 ra.length f0)).setCell (p := ⟨w.heap.size + 1, 1, none⟩) (by show w.heap.size ≤ w.heap.size + 1; omega) (.slice y1 rg.length f1)
      obtain ⟨⟨t0, t1⟩, _⟩ := (Mtb.t HM4.out.mb).cells
      obtain ⟨⟨r0, r1⟩, z0, z1⟩ := (Mtb.r HM4.out.mb).cells
      obtain ⟨⟨s0, s1⟩, _⟩ := (((Mtb.r HM4.out.mb).set0 (.slice y0 ra.length f0)).set1 (.slice y1 rg.length f1)).cells
      have HF := (show Hid _ from (⟨hb10, ho9, HDb.out.1, HDb.out.2⟩ : _ ∧ _ ∧ _ ∧ _))
      clear ho9 hb10 hg2 HM4 hm1 hm2 HS3
      go_wp2_with fail
      refine bodyPost_ret (v := .tuple #[.agg #[(.slice y0 ra.length f0), (.slice y1 rg.length f1)], .int .i64 0]) (by simp [results, Try.results21, go_sem, s0, s1]) rfl ?_
      exact ⟨_, _, ra, rg, by rw [HR.out], HF.out.1, HF.out.2.1, by rw [HR.out]; exact HF.out.2.2.1, by rw [HR.out]; exact HF.out.2.2.2⟩
end Go.Proofs.Ytflhfimgeladaaa
