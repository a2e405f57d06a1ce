import Derived.Test.YtflhfimgeladaaaQv
import Derived.BigRegion
import Derived.Deep.RegionHeld3
import Derived.Deep.RegionLaw
/-! The specification: l05Pack. -/
namespace Go.Proofs.Ytflhfimgeladaaa
open Go.RowKit Go.Deep
set_option linter.unusedVariables false
set_option maxRecDepth 100000
set_option linter.unusedSimpArgs false

theorem own_empty (w : World) (T k : Nat) : (w.alloc (.cells #[] T)).drew.ownsRow w.heap.size T k (.slice (some ⟨w.heap.size, 0, none⟩) 0 0) 0 [] := World.ownsRow_lit (base := w.heap.size) (e := T) (size := k) w #[] 0 (Nat.le_refl _) (Nat.zero_le _) (by simp)
/-- The cells that a comparison reads. -/
def CelQ (gp i gh k gt b o : Nat) (u rk x rs : Value) (w' : World) : Prop := w'.cell? ⟨gp, i, none⟩ = some u ∧ w'.cell? ⟨gh, k, none⟩ = some rk ∧ w'.cell? ⟨gt, i, none⟩ = some x ∧ w'.cell? ⟨b, o, none⟩ = some rs
theorem pent_nil (w : World) (B : Nat) : Own w B (PEnt (.slice none 0 0) (.slice none 0 0) (.slice none 0 0) (.slice none 0 0) [] [] [] [] []) := by
  refine ⟨fun e he => ?_, ?_⟩
  · simp only [PEnt, List.map_nil, List.append_nil, List.nil_append, List.mem_append, List.mem_singleton] at he
    rcases he with rfl | rfl | rfl | rfl <;> exact World.ownsRow_nil _ _ _ _
  · have hn : ∀ (e e' : Ent), e.v = .slice none 0 0 → Apt e e' := fun e e' h k hk => by rw [h] at hk; simp [Value.ownBlock] at hk
    show List.Pairwise Apt [hdA (.slice none 0 0) [], hdG (.slice none 0 0) [], nmI (.slice none 0 0) [], nmI (.slice none 0 0) []]
    refine List.pairwise_cons.2 ⟨fun x _ => hn _ x rfl, List.pairwise_cons.2 ⟨fun x _ => hn _ x rfl, List.pairwise_cons.2 ⟨fun x _ => hn _ x rfl, List.pairwise_cons.2 ⟨fun x hx => absurd hx (by simp), List.Pairwise.nil⟩⟩⟩⟩
set_option maxHeartbeats 25600000 in
theorem sPack_any {S : Nat → Prop} (t : Tb) (x0 x1 : Value) (w : World) (h : TLiesN w S t x0 x1) (hs : t.Small) (hn : t.acts.length ≤ 250) (hg : t.gotos.length = t.acts.length) :
    Calls Try.prog 52 #[.agg #[x0, x1]] w fun e w' => ∃ u0 u1 u2 u3, e = .returned (.agg #[u0, u1, u2, u3]) ∧ Below w.heap.size w w' ∧ PO w' w.heap.size ((onc [] [] t.acts).1, (onc [] [] t.gotos).1, (onc [] [] t.acts).2, (onc [] [] t.gotos).2) u0 u1 u2 u3 := by
  obtain ⟨i3, hi3, hzz⟩ := Option.map_eq_some_iff.1 info3i
  simp only [Prod.mk.injEq] at hzz
  obtain ⟨hz0, hz1, hz2⟩ := hzz
  obtain ⟨ihA, hihA, hyy⟩ := Option.map_eq_some_iff.1 info69i
  simp only [Prod.mk.injEq] at hyy
  obtain ⟨ha0, ha1, ha2⟩ := hyy
  obtain ⟨ihG, hihG, hxx⟩ := Option.map_eq_some_iff.1 info46i
  simp only [Prod.mk.injEq] at hxx
  obtain ⟨hg0, hg1, hg2⟩ := hxx
  obtain ⟨ieA, hieA, huu⟩ := Option.map_eq_some_iff.1 info71i
  simp only [Prod.mk.injEq] at huu
  obtain ⟨ea0, ea1, ea2⟩ := huu
  obtain ⟨aA, cA, bA, oA, svA, rfl, hcA, hmA, haA, hcellA, hrA, hnnA⟩ := h.acts
  obtain ⟨aG, cG, bG, oG, svG, rfl, hcG, hmG, haG, hcellG, hrG, hnnG⟩ := h.gotos
  unfold maxLen at hmA hmG
  have HAA := (show Hid _ from haA)
  have HAG := (show Hid _ from haG)
  have HROWS := (show Hid _ from fun (s : Nat) (h1 : s < t.acts.length) (h2 : s < t.gotos.length) (w' : World) (hb : Below w.heap.size w w') => (⟨(hb.cell (lt_of_cell (hcellA s h1))).trans (hcellA s h1), (hrA s h1).still hb, (hb.cell (lt_of_cell (hcellG s h2))).trans (hcellG s h2), (hrG s h2).still hb⟩ : _ ∧ _ ∧ _ ∧ _))
  have HNN := (show Hid _ from fun (s : Nat) (h1 : s < t.acts.length) (h2 : s < t.gotos.length) => (⟨hnnA s h1, hnnG s h2⟩ : _ ∧ _))
  have HSM := (show Hid _ from fun (s : Nat) (h1 : s < t.acts.length) (h2 : s < t.gotos.length) => (⟨hs.act s h1, hs.goto s h2⟩ : _ ∧ _))
  have hb3 : Below w.heap.size w (((w.alloc (.cells #[.slice aA t.acts.length cA, .slice aG t.gotos.length cG] 41)).alloc (.cells #[.slice none 0 0, .slice none 0 0, .slice none 0 0, .slice none 0 0] 48)).alloc (.cells #[.slice none 0 0, .slice none 0 0, .slice none 0 0, .slice none 0 0] 48)) := bel_trans (bel_trans (bel_alloc _ _) (bel_alloc _ _)) (bel_alloc _ _)
  have q2 := ((box2_alloc w 41 (.slice aA t.acts.length cA) (.slice aG t.gotos.length cG)).still (bel_alloc _ (.cells #[.slice none 0 0, .slice none 0 0, .slice none 0 0, .slice none 0 0] 48))).still (bel_alloc _ (.cells #[.slice none 0 0, .slice none 0 0, .slice none 0 0, .slice none 0 0] 48))
  have q3 := (Box4.new (w.alloc (.cells #[.slice aA t.acts.length cA, .slice aG t.gotos.length cG] 41)) 48 (.slice none 0 0) (.slice none 0 0) (.slice none 0 0) (.slice none 0 0)).still (bel_alloc _ (.cells #[.slice none 0 0, .slice none 0 0, .slice none 0 0, .slice none 0 0] 48))
  have q4 := Box4.new ((w.alloc (.cells #[.slice aA t.acts.length cA, .slice aG t.gotos.length cG] 41)).alloc (.cells #[.slice none 0 0, .slice none 0 0, .slice none 0 0, .slice none 0 0] 48)) 48 (.slice none 0 0) (.slice none 0 0) (.slice none 0 0) (.slice none 0 0)
  simp only [World.size_alloc] at q3 q4
  have M0 : Hid (Mem w (((w.alloc (.cells #[.slice aA t.acts.length cA, .slice aG t.gotos.length cG] 41)).alloc (.cells #[.slice none 0 0, .slice none 0 0, .slice none 0 0, .slice none 0 0] 48)).alloc (.cells #[.slice none 0 0, .slice none 0 0, .slice none 0 0, .slice none 0 0] 48)) (.slice aA t.acts.length cA) (.slice aG t.gotos.length cG) (.slice none 0 0) (.slice none 0 0) (.slice none 0 0) (.slice none 0 0) [] [] [] []) := ⟨⟨hb3, by simp, q2.cells.1, q3, q4⟩, pent_nil _ _⟩
  generalize hRA : onc [] [] t.acts = RA
  generalize hRG : onc [] [] t.gotos = RG
  have HRA := (show Hid _ from hRA)
  have HRG := (show Hid _ from hRG)
  have HGL := (show Hid _ from hg)
  obtain ⟨⟨y0, y1⟩, _⟩ := q2.cells
  clear h hs haA haG hcellA hrA hnnA hcellG hrG hnnG hb3 q2 q3 q4 hRA hRG hg
  go_enter Try.func52, Try.ntmps52
  go_wp2_with fail
  clear y0 y1
  go_loopw [4] (fun i wr => ∃ s : Nat, i = .int .i64 s ∧ s ≤ t.acts.length ∧ Hid (∃ u0 u1 u2 u3 ra rg na ng, Mem w wr (.slice aA t.acts.length cA) (.slice aG t.gotos.length cG) u0 u1 u2 u3 ra rg na ng ∧ onc (ra.map (·.2)) na (t.acts.drop s) = RA ∧ onc (rg.map (·.2)) ng (t.gotos.drop s) = RG ∧ ra.length ≤ s ∧ na.length = s ∧ rg.length ≤ s ∧ ng.length = s)) (fun i _ => t.acts.length - (intOf i).toNat)
  case atStart => exact ⟨0, rfl, Nat.zero_le _, _, _, _, _, [], [], [], [], M0.out, HRA.out, HRG.out, Nat.le_refl _, rfl, Nat.le_refl _, rfl⟩
  case round =>
    clear M0
    obtain ⟨s, rfl, hsn, HX⟩ := hrel
    obtain ⟨u0, u1, u2, u3, ra, rg, na, ng, hM, hEA, hEG, l1, l2, l3, l4⟩ := HX.out
    have hh0 : wr.ownsRow (w.heap.size + 3) 69 1 u0 ra.length (ra.map (·.1)) := hM.own.ok (hdA u0 ra) (by simp [PEnt])
    have hh1 : wr.ownsRow (w.heap.size + 3) 46 1 u1 rg.length (rg.map (·.1)) := hM.own.ok (hdG u1 rg) (by simp [PEnt])
    have hh2 : wr.ownsRow (w.heap.size + 3) 3 1 u2 na.length (encI na) := hM.own.ok (nmI u2 na) (by simp [PEnt])
    have hh3 : wr.ownsRow (w.heap.size + 3) 3 1 u3 ng.length (encI ng) := hM.own.ok (nmI u3 ng) (by simp [PEnt])
    obtain ⟨p0, q0, _, rfl, _⟩ := own_cell hh0
    obtain ⟨p1, q1, _, rfl, _⟩ := own_cell hh1
    obtain ⟨p2, q2, _, rfl, _⟩ := own_cell hh2
    obtain ⟨p3, q3, _, rfl, _⟩ := own_cell hh3
    clear hh0 hh1 hh2 hh3 HX
    by_cases hlt : s < t.acts.length
    · have hlt' := hlt
      have hltg : s < t.gotos.length := by have := HGL.out; omega
      have hltg' := hltg
      obtain ⟨rfl, _⟩ := HAA.out (by omega)
      obtain ⟨rfl, _⟩ := HAG.out (by omega)
      rw [List.drop_eq_getElem_cons hlt'] at hEA
      rw [List.drop_eq_getElem_cons hltg'] at hEG
      unfold onc at hEA hEG
      obtain ⟨⟨adA, crA, erA⟩, ⟨adG, crG, erG⟩⟩ := HNN.out s hlt' hltg'
      obtain ⟨hsA, hsG⟩ := HSM.out s hlt' hltg'
      have HRW := HROWS.out s hlt' hltg'
      rw [erA, erG] at HRW
      have HRWA := (show Hid _ from fun (w' : World) (hb : Below w.heap.size w w') => (⟨(HRW w' hb).1, (HRW w' hb).2.1⟩ : _ ∧ _))
      have HRWG := (show Hid _ from fun (w' : World) (hb : Below w.heap.size w w') => (⟨(HRW w' hb).2.2.1, (HRW w' hb).2.2.2⟩ : _ ∧ _))
      have HEA := (show Hid _ from hEA)
      have HEG := (show Hid _ from hEG)
      have hrab : ra.length ≤ 250 := by omega
      have hnab : na.length ≤ 250 := by omega
      have hrgb : rg.length ≤ 250 := by omega
      have hngb : ng.length ≤ 250 := by omega
      have HLEN := (show Hid _ from (⟨l1, l2, l3, l4⟩ : _ ∧ _ ∧ _ ∧ _))
      have HMM := (show Hid _ from hM)
      obtain ⟨c0, c1, c2, c3⟩ := hM.mb.pb.cells
      obtain ⟨t0, t1⟩ := hM.mb.tb
      generalize t.acts[s] = rA at *
      generalize t.gotos[s] = rG at *
      clear HRW hEA hEG l1 l2 l3 l4 hM erA erG
      go_wp2_with fail
      clear c0 c1 c2 c3 t0 t1
      generalize wr = wA0 at *
      go_loopw [5] (fun i wq => ∃ kA : Nat, i = .int .i64 kA ∧ kA ≤ ra.length ∧ Hid (Below wA0.heap.size wA0 wq ∧ ∀ i (hi : i < (ra.map (·.2)).length), i < kA → (ra.map (·.2))[i] ≠ rA)) (fun i _ => ra.length - (intOf i).toNat)
      case atStart => exact ⟨0, rfl, Nat.zero_le _, Below.refl _ _, fun i hi h0 => absurd h0 (Nat.not_lt_zero _)⟩
      case round =>
        obtain ⟨kA, rfl, hk, HK⟩ := hrel
        have HMq := (show Hid _ from Mem.still HMM.out HK.out.1)
        obtain ⟨c0, c1, c2, c3⟩ := HMq.out.mb.pb.cells
        obtain ⟨t0, t1⟩ := HMq.out.mb.tb
        obtain ⟨kR, hrowd⟩ := HRWA.out wr HMq.out.mb.bel
        have HROW := (show Hid _ from hrowd)
        clear hrowd
        by_cases hkl : kA < ra.length
        · have hkl' := hkl
          have hhd : wr.ownsRow (w.heap.size + 3) 69 1 (.slice p0 ra.length q0) ra.length (ra.map (·.1)) := HMq.out.own.ok (hdA (.slice p0 ra.length q0) ra) (by simp [PEnt])
          obtain ⟨_, _, ghA, e9, _, _, hg9, hc9⟩ := own_cell hhd
          obtain ⟨e8, _⟩ := hg9 (by omega)
          injection e9 with e91 e92 e93
          rw [e8] at e91
          subst e91
          have kK := hc9 kA ra[kA].1 (by rw [List.getElem?_map, List.getElem?_eq_getElem hkl']; rfl)
          have hok := HMq.out.own.ok (entA ra[kA]) (by simp only [PEnt, List.mem_append]; exact .inr (.inl (List.mem_map.2 ⟨ra[kA], List.getElem_mem hkl', rfl⟩)))
          have hdat := own_acs hok
          obtain ⟨ak, ck, _, ek, _⟩ := own_cell hok
          have ek' : ra[kA].1 = .slice ak ra[kA].2.length ck := ek
          have hdat' : Acs wr (fun b => (w.heap.size + 3) ≤ b) ra[kA].2 (.slice ak ra[kA].2.length ck) := by rw [← ek']; exact hdat
          rw [ek'] at kK
          have HSM := (show Hid _ from fun (w' : World) (hb : Below wr.heap.size wr w') => sameA_s ra[kA].2 rA _ _ w' (hdat'.still hb) (Acs.still HROW.out hb))
          have HCQ := (show Hid _ from fun (w' : World) (hb : Below wr.heap.size wr w') => (⟨(hb.cell (lt_of_cell c0)).trans c0, (hb.cell (lt_of_cell kK)).trans kK, (hb.cell (lt_of_cell t0)).trans t0, (hb.cell (lt_of_cell kR)).trans kR⟩ : CelQ (w.heap.size + 1 + 1) 0 ghA kA w.heap.size bA (oA + s) (.slice (some ⟨ghA, 0, none⟩) ra.length q0) (.slice ak ra[kA].2.length ck) (.slice (some ⟨bA, oA, none⟩) t.acts.length cA) (.slice (some adA) rA.length crA) w'))
          have HDR := (show Hid _ from (Below.refl wr.heap.size wr).drew)
          have hS0 := HCQ.out _ HDR.out
          have hke : ((kA : Int) == (ra.length : Int)) = false := by simp; omega
          have hmx := (ra.map (·.2))[kA]?
          clear hhd hg9 hc9 e8 e92 e93 hok hdat ek ek' hdat' c0 c1 c2 c3 t0 t1 kR kK hmx
          by_cases he : ra[kA].2 = rA
          · have HIX : Hid (ixO rA (ra.map (·.2)) = kA) := by
              show ixO rA (ra.map (·.2)) = kA
              exact ixO_at rA (ra.map (·.2)) kA (by simpa using hkl') (by simpa using he) (fun i hi hik => HK.out.2 i hi hik)
            rw [decide_eq_true he] at HSM
            have HSD := (show Hid _ from HSM.out _ HDR.out)
            have HEQA0 := (show Hid _ from HEA.out)
            rw [HIX.out, if_pos (by simpa using hkl')] at HEQA0
            clear he HSM
            go_wp2_with fail
            go_region_held3 (fun w' => w'.cell? ⟨w.heap.size + 1 + 1, 0, none⟩ = some (.slice (some ⟨ghA, 0, none⟩) ra.length q0) ∧ w'.cell? ⟨ghA, kA, none⟩ = some (.slice ak ra[kA].2.length ck) ∧ w'.cell? ⟨w.heap.size, 0, none⟩ = some (.slice (some ⟨bA, oA, none⟩) t.acts.length cA) ∧ w'.cell? ⟨bA, oA + s, none⟩ = some (.slice (some adA) rA.length crA)) (((show CelQ (w.heap.size + 1 + 1) 0 ghA kA w.heap.size bA (oA + s) (.slice (some ⟨ghA, 0, none⟩) ra.length q0) (.slice ak ra[kA].2.length ck) (.slice (some ⟨bA, oA, none⟩) t.acts.length cA) (.slice (some adA) rA.length crA) _); (first | exact hS0 | exact hSa | fail)))
              (first
              | (go_at_call 9999)
              | (go_at_call 89; refine Calls.mono HSD.out ?_; rintro e w2 ⟨rfl, hb2⟩; have HBW := (show Hid _ from bel_trans HDR.out hb2); have hSa := HCQ.out _ HBW.out; dsimp only))
            all_goals
              have HM2 := (show Hid _ from Mem.still HMq.out HBW.out)
              clear HBW hSa hS0 HCQ HSD HDR HMq HK HROW HIX
              obtain ⟨c0, c1, c2, c3⟩ := HM2.out.mb.pb.cells
              obtain ⟨t0, t1⟩ := HM2.out.mb.tb
              have hnn0f : (w2.alloc (.cells #[.int .i64 ((kA : Nat) : Int)] 3)).ownsRow (w.heap.size + 3) 3 1 (.slice p2 na.length q2) na.length (encI na) := (HM2.out.own.still (bel_alloc _ _)).ok (nmI (.slice p2 na.length q2) na) (by simp [PEnt])
              have HN0f := (show Hid _ from hnn0f)
              have hbs0f : (w.heap.size + 3) ≤ (w2.alloc (.cells #[.int .i64 ((kA : Nat) : Int)] 3)).heap.size := by have := HM2.out.mb.sz; simp; omega
              clear hnn0f
              go_wp2_with (at_builtin; refine wpList_append_lies _ rfl (.tmp 53) (.tmp 55) 46 rfl (w.heap.size + 3) 3 i3 _ 1 8 Try.underlying46 hi3 hz0 hz1 hz2 rfl (by decide) _ na.length _ rfl HN0f.out ⟨w2.heap.size, 0, none⟩ 1 1 [.int .i64 ((kA : Nat) : Int)] rfl rfl (cell_one_new _ _ _) ?c2 (by decide) ?c3 (by omega) hbs0f _ rfl ?nx)
              case c2 => (first | (intro y hy; simp at hy; subst hy; rfl) | rfl | simp [Value.oneCell'])
              case c3 => (unfold maxLen; omega)
              case nx =>
                intro g30f cap30f w60f hown6 hgr6 hat6 hlt6
                have hmb6 := (HM2.out.mb.still (bel_alloc w2 (.cells #[.int .i64 ((kA : Nat) : Int)] 3))).grown hgr6 (fun q hq => (World.ownsRow.lt HN0f.out q hq).1)
                have hm6 := Mem.numA (u' := (.slice (some ⟨g30f, 0, none⟩) (na.length + 1) cap30f)) HM2.out hgr6 hown6 (fun q hq => by
                  have : g30f = q := by simpa [Value.ownBlock] using hq
                  subst this
                  rcases hat6 with h | h
                  · exact .inl h
                  · exact .inr (by first | omega | (simp at h ⊢; done) | (simp at h ⊢; omega)))
                obtain ⟨c0, c1, c2, c3⟩ := hmb6.pb.cells
                have z2 := hmb6.pb.frozen 2
                have HM60f := (show Hid _ from hm6)
                clear hm6 hmb6 hown6 hgr6 hat6 hlt6 HN0f hbs0f
                go_wp2_with fail
                clear c0 c1 c2 c3 z2
                generalize (w60f.setCell ⟨w.heap.size + 1 + 1, 2, none⟩ (.slice (some ⟨g30f, 0, none⟩) (na.length + 1) cap30f)) = wI0f at *
                go_loopw [5] (fun i wq => ∃ kI : Nat, i = .int .i64 kI ∧ kI ≤ rg.length ∧ Hid (Below wI0f.heap.size wI0f wq ∧ ∀ i (hi : i < (rg.map (·.2)).length), i < kI → (rg.map (·.2))[i] ≠ rG)) (fun i _ => rg.length - (intOf i).toNat)
                case atStart => exact ⟨0, rfl, Nat.zero_le _, Below.refl _ _, fun i hi h0 => absurd h0 (Nat.not_lt_zero _)⟩
                case round =>
                  obtain ⟨kI, rfl, hk, HK⟩ := hrel
                  have HMq := (show Hid _ from Mem.still HM60f.out HK.out.1)
                  obtain ⟨c0, c1, c2, c3⟩ := HMq.out.mb.pb.cells
                  obtain ⟨t0, t1⟩ := HMq.out.mb.tb
                  obtain ⟨kR, hrowd⟩ := HRWG.out wr HMq.out.mb.bel
                  have HROW := (show Hid _ from hrowd)
                  clear hrowd
                  by_cases hkl : kI < rg.length
                  · have hkl' := hkl
                    have hhd : wr.ownsRow (w.heap.size + 3) 46 1 (.slice p1 rg.length q1) rg.length (rg.map (·.1)) := HMq.out.own.ok (hdG (.slice p1 rg.length q1) rg) (by simp [PEnt])
                    obtain ⟨_, _, ghI, e9, _, _, hg9, hc9⟩ := own_cell hhd
                    obtain ⟨e8, _⟩ := hg9 (by omega)
                    injection e9 with e91 e92 e93
                    rw [e8] at e91
                    subst e91
                    have kK := hc9 kI rg[kI].1 (by rw [List.getElem?_map, List.getElem?_eq_getElem hkl']; rfl)
                    have hok := HMq.out.own.ok (entI rg[kI]) (by simp only [PEnt, List.mem_append]; exact .inr (.inr (.inr (.inl (List.mem_map.2 ⟨rg[kI], List.getElem_mem hkl', rfl⟩)))))
                    have hdat := own_ints hok
                    obtain ⟨ak, ck, _, ek, _⟩ := own_cell hok
                    have ek' : rg[kI].1 = .slice ak rg[kI].2.length ck := ek
                    have hdat' : Ints wr (fun b => (w.heap.size + 3) ≤ b) rg[kI].2 (.slice ak rg[kI].2.length ck) := by rw [← ek']; exact hdat
                    rw [ek'] at kK
                    have HSM := (show Hid _ from fun (w' : World) (hb : Below wr.heap.size wr w') => sameI_s rg[kI].2 rG _ _ w' (hdat'.still hb) (Ints.still HROW.out hb))
                    have HCQ := (show Hid _ from fun (w' : World) (hb : Below wr.heap.size wr w') => (⟨(hb.cell (lt_of_cell c1)).trans c1, (hb.cell (lt_of_cell kK)).trans kK, (hb.cell (lt_of_cell t1)).trans t1, (hb.cell (lt_of_cell kR)).trans kR⟩ : CelQ (w.heap.size + 1 + 1) 1 ghI kI w.heap.size bG (oG + s) (.slice (some ⟨ghI, 0, none⟩) rg.length q1) (.slice ak rg[kI].2.length ck) (.slice (some ⟨bG, oG, none⟩) t.gotos.length cG) (.slice (some adG) rG.length crG) w'))
                    have HDR := (show Hid _ from (Below.refl wr.heap.size wr).drew)
                    have hS0 := HCQ.out _ HDR.out
                    have hke : ((kI : Int) == (rg.length : Int)) = false := by simp; omega
                    have hmx := (rg.map (·.2))[kI]?
                    clear hhd hg9 hc9 e8 e92 e93 hok hdat ek ek' hdat' c0 c1 c2 c3 t0 t1 kR kK hmx
                    by_cases he : rg[kI].2 = rG
                    · have HIX : Hid (ixO rG (rg.map (·.2)) = kI) := by
                        show ixO rG (rg.map (·.2)) = kI
                        exact ixO_at rG (rg.map (·.2)) kI (by simpa using hkl') (by simpa using he) (fun i hi hik => HK.out.2 i hi hik)
                      rw [decide_eq_true he] at HSM
                      have HSD := (show Hid _ from HSM.out _ HDR.out)
                      have HEQI0f := (show Hid _ from HEG.out)
                      rw [HIX.out, if_pos (by simpa using hkl')] at HEQI0f
                      clear he HSM
                      go_wp2_with fail
                      go_region_held3 (fun w' => w'.cell? ⟨w.heap.size + 1 + 1, 1, none⟩ = some (.slice (some ⟨ghI, 0, none⟩) rg.length q1) ∧ w'.cell? ⟨ghI, kI, none⟩ = some (.slice ak rg[kI].2.length ck) ∧ w'.cell? ⟨w.heap.size, 1, none⟩ = some (.slice (some ⟨bG, oG, none⟩) t.gotos.length cG) ∧ w'.cell? ⟨bG, oG + s, none⟩ = some (.slice (some adG) rG.length crG)) (((show CelQ (w.heap.size + 1 + 1) 1 ghI kI w.heap.size bG (oG + s) (.slice (some ⟨ghI, 0, none⟩) rg.length q1) (.slice ak rg[kI].2.length ck) (.slice (some ⟨bG, oG, none⟩) t.gotos.length cG) (.slice (some adG) rG.length crG) _); (first | exact hS0 | exact hSa | fail)))
                        (first
                        | (go_at_call 9999)
                        | (go_at_call 65; refine Calls.mono HSD.out ?_; rintro e w2 ⟨rfl, hb2⟩; have HBW := (show Hid _ from bel_trans HDR.out hb2); have hSa := HCQ.out _ HBW.out; dsimp only))
                      all_goals
                        have HM2 := (show Hid _ from Mem.still HMq.out HBW.out)
                        clear HBW hSa hS0 HCQ HSD HDR HMq HK HROW HIX
                        obtain ⟨c0, c1, c2, c3⟩ := HM2.out.mb.pb.cells
                        obtain ⟨t0, t1⟩ := HM2.out.mb.tb
                        have hnn0ff : (w2.alloc (.cells #[.int .i64 ((kI : Nat) : Int)] 3)).ownsRow (w.heap.size + 3) 3 1 (.slice p3 ng.length q3) ng.length (encI ng) := (HM2.out.own.still (bel_alloc _ _)).ok (nmI (.slice p3 ng.length q3) ng) (by simp [PEnt])
                        have HN0ff := (show Hid _ from hnn0ff)
                        have hbs0ff : (w.heap.size + 3) ≤ (w2.alloc (.cells #[.int .i64 ((kI : Nat) : Int)] 3)).heap.size := by have := HM2.out.mb.sz; simp; omega
                        clear hnn0ff
                        go_wp2_with (at_builtin; refine wpList_append_lies _ rfl (.tmp 97) (.tmp 99) 46 rfl (w.heap.size + 3) 3 i3 _ 1 8 Try.underlying46 hi3 hz0 hz1 hz2 rfl (by decide) _ ng.length _ rfl HN0ff.out ⟨w2.heap.size, 0, none⟩ 1 1 [.int .i64 ((kI : Nat) : Int)] rfl rfl (cell_one_new _ _ _) ?c2 (by decide) ?c3 (by omega) hbs0ff _ rfl ?nx)
                        case c2 => (first | (intro y hy; simp at hy; subst hy; rfl) | rfl | simp [Value.oneCell'])
                        case c3 => (unfold maxLen; omega)
                        case nx =>
                          intro g30ff cap30ff w60ff hown6 hgr6 hat6 hlt6
                          have hmb6 := (HM2.out.mb.still (bel_alloc w2 (.cells #[.int .i64 ((kI : Nat) : Int)] 3))).grown hgr6 (fun q hq => (World.ownsRow.lt HN0ff.out q hq).1)
                          have hm6 := Mem.numI (u' := (.slice (some ⟨g30ff, 0, none⟩) (ng.length + 1) cap30ff)) HM2.out hgr6 hown6 (fun q hq => by
                            have : g30ff = q := by simpa [Value.ownBlock] using hq
                            subst this
                            rcases hat6 with h | h
                            · exact .inl h
                            · exact .inr (by first | omega | (simp at h ⊢; done) | (simp at h ⊢; omega)))
                          obtain ⟨c0, c1, c2, c3⟩ := hmb6.pb.cells
                          have z3 := hmb6.pb.frozen 3
                          have HM60ff := (show Hid _ from hm6)
                          clear hm6 hmb6 hown6 hgr6 hat6 hlt6 HN0ff hbs0ff
                          have HXN : Hid (∃ y0 y1 y2 y3 rx ry nx ny, Mem w (w60ff.setCell ⟨w.heap.size + 1 + 1, 3, none⟩ (.slice (some ⟨g30ff, 0, none⟩) (ng.length + 1) cap30ff)) (.slice (some ⟨bA, oA, none⟩) t.acts.length cA) (.slice (some ⟨bG, oG, none⟩) t.gotos.length cG) y0 y1 y2 y3 rx ry nx ny ∧ onc (rx.map (·.2)) nx (t.acts.drop (s + 1)) = RA ∧ onc (ry.map (·.2)) ny (t.gotos.drop (s + 1)) = RG ∧ rx.length ≤ s + 1 ∧ nx.length = s + 1 ∧ ry.length ≤ s + 1 ∧ ny.length = s + 1) :=
                            ⟨_, _, _, _, _, _, _, _, HM60ff.out, by first | exact HEQA0.out | simpa using HEQA0.out, by first | exact HEQI0f.out | simpa using HEQI0f.out, by have := HLEN.out; first | omega | (simp; done) | (simp; omega), by have := HLEN.out; simp; omega, by have := HLEN.out; first | omega | (simp; done) | (simp; omega), by have := HLEN.out; simp; omega⟩
                          go_wp2_with fail
                          exact ⟨⟨s + 1, by go_num, by omega, HXN⟩, by simp [intOf]; omega⟩

                    · have HN : Hid (∀ i (hi : i < (rg.map (·.2)).length), i < kI + 1 → (rg.map (·.2))[i] ≠ rG) := fun i hi hik => by
                        by_cases e : i = kI
                        · subst e; simpa using he
                        · exact HK.out.2 i hi (by omega)
                      rw [decide_eq_false he] at HSM
                      have HSD := (show Hid _ from HSM.out _ HDR.out)
                      clear he HSM
                      go_wp2_with fail
                      go_region_held3 (fun w' => w'.cell? ⟨w.heap.size + 1 + 1, 1, none⟩ = some (.slice (some ⟨ghI, 0, none⟩) rg.length q1) ∧ w'.cell? ⟨ghI, kI, none⟩ = some (.slice ak rg[kI].2.length ck) ∧ w'.cell? ⟨w.heap.size, 1, none⟩ = some (.slice (some ⟨bG, oG, none⟩) t.gotos.length cG) ∧ w'.cell? ⟨bG, oG + s, none⟩ = some (.slice (some adG) rG.length crG)) (((show CelQ (w.heap.size + 1 + 1) 1 ghI kI w.heap.size bG (oG + s) (.slice (some ⟨ghI, 0, none⟩) rg.length q1) (.slice ak rg[kI].2.length ck) (.slice (some ⟨bG, oG, none⟩) t.gotos.length cG) (.slice (some adG) rG.length crG) _); (first | exact hS0 | exact hSa | fail)))
                        (first
                        | (go_at_call 9999)
                        | (go_at_call 65; refine Calls.mono HSD.out ?_; rintro e w2 ⟨rfl, hb2⟩; have HBW := (show Hid _ from bel_trans HDR.out hb2); have hSa := HCQ.out _ HBW.out; dsimp only))
                      all_goals
                        have HB2 := (show Hid _ from bel_trans HK.out.1 HBW.out)
                        clear HBW hSa hS0 HCQ HSD HDR HMq HK HROW
                        go_wp2_with fail
                        exact ⟨⟨kI + 1, by go_num, by omega, HB2.out, HN.out⟩, by simp [intOf]; omega⟩
                  · obtain rfl : kI = rg.length := by omega
                    have hki : (((rg.length : Nat) : Int) == (rg.length : Int)) = true := by simp
                    have HIX : Hid (ixO rG (rg.map (·.2)) = rg.length) := by
                      show ixO rG (rg.map (·.2)) = rg.length
                      have := ixO_no rG (rg.map (·.2)) (fun i hi => HK.out.2 i hi (by simp at hi; omega))
                      simpa using this
                    have HEQI0f := (show Hid _ from HEG.out)
                    rw [HIX.out, if_neg (by simp)] at HEQI0f
                    go_wp2_with fail
                    go_cut [76] from 58 to 75 (fun v wx => v = .bool false ∧ Hid (Below wr.heap.size wr wx))
                    case first =>
                      go_quiet (fail)
                      go_wp2_with fail
                      go_meet
                      exact ⟨rfl, bel_drewS (Below.refl _ _) _⟩
                    case rest =>
                      obtain ⟨rfl, HC⟩ := hcut
                      have HM2 := (show Hid _ from Mem.still HMq.out HC.out)
                      clear c0 c1 c2 c3 t0 t1 kR HMq HK HROW HC HIX
                      obtain ⟨c0, c1, c2, c3⟩ := HM2.out.mb.pb.cells
                      obtain ⟨t0, t1⟩ := HM2.out.mb.tb
                      obtain ⟨kR, hrowd⟩ := HRWG.out wc HM2.out.mb.bel
                      have hbd : Below wc.heap.size wc (wc.alloc (.cells #[] 3)).drew := (bel_alloc wc (.cells #[] 3)).drew
                      have hba := bel_alloc wc (.cells #[] 3)
                      have HNW := (show Hid _ from newsI (hrowd.still hbd))
                      have HBD := (show Hid _ from hbd)
                      have d1 := (hba.cell (lt_of_cell c1)).trans c1
                      have d2 := (hba.cell (lt_of_cell t1)).trans t1
                      have d3 := (hba.cell (lt_of_cell kR)).trans kR
                      have hszc := HM2.out.mb.sz
                      clear hrowd hbd hba
                      go_wp2_with fail
                      go_cut [94] from 84 to 95 (fun v wx => Hid (∃ (u' v5 : Value), Mem w wx (.slice (some ⟨bA, oA, none⟩) t.acts.length cA) (.slice (some ⟨bG, oG, none⟩) t.gotos.length cG) (.slice (some ⟨ghA, 0, none⟩) ra.length q0) u' (.slice (some ⟨g30f, 0, none⟩) (na.length + 1) cap30f) (.slice p3 ng.length q3) ra (rg ++ [(v5, rG)]) (na ++ [((kA : Nat) : Int)]) ng))
                      case first =>
                        go_region_law (first
                          | (refine step_append_lies _ rfl (.tmp 85) (.tmp 93) 28 rfl (w.heap.size + 3) 46 ihG _ 1 24 Try.underlying28 hihG hg0 hg1 hg2 rfl (by decide) _ rg.length _ (by simp [Act.eval, Act.put]) HH5.out ⟨w5.heap.size, 0, none⟩ 1 1 [.slice a5 rG.length c5] (by simp [Act.eval, Act.put]) rfl (cell_one_new _ _ _) (by intro y hy; simp at hy; subst hy; rfl) (by decide) (by unfold maxLen; omega) (by omega) hb5s _ rfl ?_; intro g7 cap7 w7 hown7 hgr7 hat7 hlt7; have hmb7 := (HMB5.out).grown hgr7 (fun q hq => (World.ownsRow.lt HH5.out q hq).1); obtain ⟨s0, s1, s2, s3⟩ := hmb7.pb.cells; have r1 := hmb7.pb.frozen 1; have HMB7 := (show Hid _ from hmb7); clear hmb7)
                          | (refine step_append_copy _ rfl (.tmp 86) (.tmp 91) 46 rfl wc.heap.size 3 i3 _ 1 8 Try.underlying46 hi3 hz0 hz1 hz2 rfl (by decide) _ (by simp [Act.eval, Act.put]) (own_empty _ _ _) adG rG.length crG (encI rG) (by simp [Act.eval, Act.put]) (encI_len _) HNW.out (encI_one _) (by unfold maxLen; omega) (by omega) (by simp) ?_; intro a5 c5 w5 hown5 hgr5; have hb5 : Below wc.heap.size wc w5 := grown_bel HBD.out hgr5 (fun q hq => Nat.le_of_eq (by simpa [Value.ownBlock] using hq)) (by simp); have HMB5 := (show Hid _ from (HM2.out.mb.still hb5).still (bel_alloc w5 (.cells #[.slice a5 rG.length c5] 46))); have HH5 := (show Hid _ from ((HM2.out.own.still hb5).still (bel_alloc w5 (.cells #[.slice a5 rG.length c5] 46))).ok (hdG (.slice p1 rg.length q1) rg) (by simp [PEnt])); have d4 := (hb5.cell (lt_of_cell c1)).trans c1; obtain ⟨b0, b1, b2, b3⟩ := HMB5.out.pb.cells; have hb5s : (w.heap.size + 3) ≤ (w5.alloc (.cells #[.slice a5 rG.length c5] 46)).heap.size := HMB5.out.sz; have HO5 := (show Hid _ from (⟨hb5, hown5⟩ : _ ∧ _)); clear hown5 hgr5))
                        all_goals
                          have HFIN := (show Hid _ from Mem.rowI (row := rG) (v5 := .slice a5 rG.length c5) (u' := .slice (some ⟨g7, 0, none⟩) (rg.length + 1) cap7) HM2.out HO5.out.1 HO5.out.2 hgr7 hown7 (fun q hq => by
                            have : g7 = q := by simpa [Value.ownBlock] using hq
                            subst this
                            rcases hat7 with h | h
                            · exact .inl h
                            · exact .inr (by first | omega | (simp at h ⊢; done) | (simp at h ⊢; omega))))
                          clear hgr7 hown7 hat7 hlt7
                          go_wp2_with fail
                          go_meet
                          exact ⟨_, _, HFIN.out⟩
                      case rest =>
                        obtain ⟨unI, v5I, hm9⟩ := hcut.out
                        have HM9 := (show Hid _ from hm9)
                        clear hm9 hcut HM2 c0 c1 c2 c3 t0 t1 kR d1 d2 d3 HNW HBD hszc
                        obtain ⟨c0, c1, c2, c3⟩ := HM9.out.mb.pb.cells
                        obtain ⟨t0, t1⟩ := HM9.out.mb.tb
                        have hnn0fn : (wc.alloc (.cells #[.int .i64 ((rg.length : Nat) : Int)] 3)).ownsRow (w.heap.size + 3) 3 1 (.slice p3 ng.length q3) ng.length (encI ng) := (HM9.out.own.still (bel_alloc _ _)).ok (nmI (.slice p3 ng.length q3) ng) (by simp [PEnt])
                        have HN0fn := (show Hid _ from hnn0fn)
                        have hbs0fn : (w.heap.size + 3) ≤ (wc.alloc (.cells #[.int .i64 ((rg.length : Nat) : Int)] 3)).heap.size := by have := HM9.out.mb.sz; simp; omega
                        clear hnn0fn
                        go_wp2_with (at_builtin; refine wpList_append_lies _ rfl (.tmp 97) (.tmp 99) 46 rfl (w.heap.size + 3) 3 i3 _ 1 8 Try.underlying46 hi3 hz0 hz1 hz2 rfl (by decide) _ ng.length _ rfl HN0fn.out ⟨wc.heap.size, 0, none⟩ 1 1 [.int .i64 ((rg.length : Nat) : Int)] rfl rfl (cell_one_new _ _ _) ?c2 (by decide) ?c3 (by omega) hbs0fn _ rfl ?nx)
                        case c2 => (first | (intro y hy; simp at hy; subst hy; rfl) | rfl | simp [Value.oneCell'])
                        case c3 => (unfold maxLen; omega)
                        case nx =>
                          intro g30fn cap30fn w60fn hown6 hgr6 hat6 hlt6
                          have hmb6 := (HM9.out.mb.still (bel_alloc wc (.cells #[.int .i64 ((rg.length : Nat) : Int)] 3))).grown hgr6 (fun q hq => (World.ownsRow.lt HN0fn.out q hq).1)
                          have hm6 := Mem.numI (u' := (.slice (some ⟨g30fn, 0, none⟩) (ng.length + 1) cap30fn)) HM9.out hgr6 hown6 (fun q hq => by
                            have : g30fn = q := by simpa [Value.ownBlock] using hq
                            subst this
                            rcases hat6 with h | h
                            · exact .inl h
                            · exact .inr (by first | omega | (simp at h ⊢; done) | (simp at h ⊢; omega)))
                          obtain ⟨c0, c1, c2, c3⟩ := hmb6.pb.cells
                          have z3 := hmb6.pb.frozen 3
                          have HM60fn := (show Hid _ from hm6)
                          clear hm6 hmb6 hown6 hgr6 hat6 hlt6 HN0fn hbs0fn
                          have HXN : Hid (∃ y0 y1 y2 y3 rx ry nx ny, Mem w (w60fn.setCell ⟨w.heap.size + 1 + 1, 3, none⟩ (.slice (some ⟨g30fn, 0, none⟩) (ng.length + 1) cap30fn)) (.slice (some ⟨bA, oA, none⟩) t.acts.length cA) (.slice (some ⟨bG, oG, none⟩) t.gotos.length cG) y0 y1 y2 y3 rx ry nx ny ∧ onc (rx.map (·.2)) nx (t.acts.drop (s + 1)) = RA ∧ onc (ry.map (·.2)) ny (t.gotos.drop (s + 1)) = RG ∧ rx.length ≤ s + 1 ∧ nx.length = s + 1 ∧ ry.length ≤ s + 1 ∧ ny.length = s + 1) :=
                            ⟨_, _, _, _, _, _, _, _, HM60fn.out, by first | exact HEQA0.out | simpa using HEQA0.out, by first | exact HEQI0f.out | simpa using HEQI0f.out, by have := HLEN.out; first | omega | (simp; done) | (simp; omega), by have := HLEN.out; simp; omega, by have := HLEN.out; first | omega | (simp; done) | (simp; omega), by have := HLEN.out; simp; omega⟩
                          go_wp2_with fail
                          exact ⟨⟨s + 1, by go_num, by omega, HXN⟩, by simp [intOf]; omega⟩


          · have HN : Hid (∀ i (hi : i < (ra.map (·.2)).length), i < kA + 1 → (ra.map (·.2))[i] ≠ rA) := fun i hi hik => by
              by_cases e : i = kA
              · subst e; simpa using he
              · exact HK.out.2 i hi (by omega)
            rw [decide_eq_false he] at HSM
            have HSD := (show Hid _ from HSM.out _ HDR.out)
            clear he HSM
            go_wp2_with fail
            go_region_held3 (fun w' => w'.cell? ⟨w.heap.size + 1 + 1, 0, none⟩ = some (.slice (some ⟨ghA, 0, none⟩) ra.length q0) ∧ w'.cell? ⟨ghA, kA, none⟩ = some (.slice ak ra[kA].2.length ck) ∧ w'.cell? ⟨w.heap.size, 0, none⟩ = some (.slice (some ⟨bA, oA, none⟩) t.acts.length cA) ∧ w'.cell? ⟨bA, oA + s, none⟩ = some (.slice (some adA) rA.length crA)) (((show CelQ (w.heap.size + 1 + 1) 0 ghA kA w.heap.size bA (oA + s) (.slice (some ⟨ghA, 0, none⟩) ra.length q0) (.slice ak ra[kA].2.length ck) (.slice (some ⟨bA, oA, none⟩) t.acts.length cA) (.slice (some adA) rA.length crA) _); (first | exact hS0 | exact hSa | fail)))
              (first
              | (go_at_call 9999)
              | (go_at_call 89; refine Calls.mono HSD.out ?_; rintro e w2 ⟨rfl, hb2⟩; have HBW := (show Hid _ from bel_trans HDR.out hb2); have hSa := HCQ.out _ HBW.out; dsimp only))
            all_goals
              have HB2 := (show Hid _ from bel_trans HK.out.1 HBW.out)
              clear HBW hSa hS0 HCQ HSD HDR HMq HK HROW
              go_wp2_with fail
              exact ⟨⟨kA + 1, by go_num, by omega, HB2.out, HN.out⟩, by simp [intOf]; omega⟩
        · obtain rfl : kA = ra.length := by omega
          have hki : (((ra.length : Nat) : Int) == (ra.length : Int)) = true := by simp
          have HIX : Hid (ixO rA (ra.map (·.2)) = ra.length) := by
            show ixO rA (ra.map (·.2)) = ra.length
            have := ixO_no rA (ra.map (·.2)) (fun i hi => HK.out.2 i hi (by simp at hi; omega))
            simpa using this
          have HEQA0 := (show Hid _ from HEA.out)
          rw [HIX.out, if_neg (by simp)] at HEQA0
          go_wp2_with fail
          go_cut [32] from 14 to 31 (fun v wx => v = .bool false ∧ Hid (Below wr.heap.size wr wx))
          case first =>
            go_quiet (fail)
            go_wp2_with fail
            go_meet
            exact ⟨rfl, bel_drewS (Below.refl _ _) _⟩
          case rest =>
            obtain ⟨rfl, HC⟩ := hcut
            have HM2 := (show Hid _ from Mem.still HMq.out HC.out)
            clear c0 c1 c2 c3 t0 t1 kR HMq HK HROW HC HIX
            obtain ⟨c0, c1, c2, c3⟩ := HM2.out.mb.pb.cells
            obtain ⟨t0, t1⟩ := HM2.out.mb.tb
            obtain ⟨kR, hrowd⟩ := HRWA.out wc HM2.out.mb.bel
            have hbd : Below wc.heap.size wc (wc.alloc (.cells #[] 71)).drew := (bel_alloc wc (.cells #[] 71)).drew
            have hba := bel_alloc wc (.cells #[] 71)
            have HNW := (show Hid _ from newsA (hrowd.still hbd))
            have HBD := (show Hid _ from hbd)
            have d1 := (hba.cell (lt_of_cell c0)).trans c0
            have d2 := (hba.cell (lt_of_cell t0)).trans t0
            have d3 := (hba.cell (lt_of_cell kR)).trans kR
            have hszc := HM2.out.mb.sz
            clear hrowd hbd hba
            go_wp2_with fail
            go_cut [50] from 40 to 51 (fun v wx => Hid (∃ (u' v5 : Value), Mem w wx (.slice (some ⟨bA, oA, none⟩) t.acts.length cA) (.slice (some ⟨bG, oG, none⟩) t.gotos.length cG) u' (.slice p1 rg.length q1) (.slice p2 na.length q2) (.slice p3 ng.length q3) (ra ++ [(v5, rA)]) rg na ng))
            case first =>
              go_region_law (first
                | (refine step_append_lies _ rfl (.tmp 41) (.tmp 49) 39 rfl (w.heap.size + 3) 69 ihA _ 1 24 Try.underlying39 hihA ha0 ha1 ha2 rfl (by decide) _ ra.length _ (by simp [Act.eval, Act.put]) HH5.out ⟨w5.heap.size, 0, none⟩ 1 1 [.slice a5 rA.length c5] (by simp [Act.eval, Act.put]) rfl (cell_one_new _ _ _) (by intro y hy; simp at hy; subst hy; rfl) (by decide) (by unfold maxLen; omega) (by omega) hb5s _ rfl ?_; intro g7 cap7 w7 hown7 hgr7 hat7 hlt7; have hmb7 := (HMB5.out).grown hgr7 (fun q hq => (World.ownsRow.lt HH5.out q hq).1); obtain ⟨s0, s1, s2, s3⟩ := hmb7.pb.cells; have r0 := hmb7.pb.frozen 0; have HMB7 := (show Hid _ from hmb7); clear hmb7)
                | (refine step_append_copy _ rfl (.tmp 42) (.tmp 47) 69 rfl wc.heap.size 71 ieA _ 2 16 Try.underlying69 hieA ea0 ea1 ea2 rfl (by decide) _ (by simp [Act.eval, Act.put]) (own_empty _ _ _) adA rA.length crA (encA rA) (by simp [Act.eval, Act.put]) (encA_len _) HNW.out (encA_one _) (by unfold maxLen; omega) (by omega) (by simp) ?_; intro a5 c5 w5 hown5 hgr5; have hb5 : Below wc.heap.size wc w5 := grown_bel HBD.out hgr5 (fun q hq => Nat.le_of_eq (by simpa [Value.ownBlock] using hq)) (by simp); have HMB5 := (show Hid _ from (HM2.out.mb.still hb5).still (bel_alloc w5 (.cells #[.slice a5 rA.length c5] 69))); have HH5 := (show Hid _ from ((HM2.out.own.still hb5).still (bel_alloc w5 (.cells #[.slice a5 rA.length c5] 69))).ok (hdA (.slice p0 ra.length q0) ra) (by simp [PEnt])); have d4 := (hb5.cell (lt_of_cell c0)).trans c0; obtain ⟨b0, b1, b2, b3⟩ := HMB5.out.pb.cells; have hb5s : (w.heap.size + 3) ≤ (w5.alloc (.cells #[.slice a5 rA.length c5] 69)).heap.size := HMB5.out.sz; have HO5 := (show Hid _ from (⟨hb5, hown5⟩ : _ ∧ _)); clear hown5 hgr5))
              all_goals
                have HFIN := (show Hid _ from Mem.rowA (row := rA) (v5 := .slice a5 rA.length c5) (u' := .slice (some ⟨g7, 0, none⟩) (ra.length + 1) cap7) HM2.out HO5.out.1 HO5.out.2 hgr7 hown7 (fun q hq => by
                  have : g7 = q := by simpa [Value.ownBlock] using hq
                  subst this
                  rcases hat7 with h | h
                  · exact .inl h
                  · exact .inr (by first | omega | (simp at h ⊢; done) | (simp at h ⊢; omega))))
                clear hgr7 hown7 hat7 hlt7
                go_wp2_with fail
                go_meet
                exact ⟨_, _, HFIN.out⟩
            case rest =>
              obtain ⟨unA, v5A, hm9⟩ := hcut.out
              have HM9 := (show Hid _ from hm9)
              clear hm9 hcut HM2 c0 c1 c2 c3 t0 t1 kR d1 d2 d3 HNW HBD hszc
              obtain ⟨c0, c1, c2, c3⟩ := HM9.out.mb.pb.cells
              obtain ⟨t0, t1⟩ := HM9.out.mb.tb
              have hnn0n : (wc.alloc (.cells #[.int .i64 ((ra.length : Nat) : Int)] 3)).ownsRow (w.heap.size + 3) 3 1 (.slice p2 na.length q2) na.length (encI na) := (HM9.out.own.still (bel_alloc _ _)).ok (nmI (.slice p2 na.length q2) na) (by simp [PEnt])
              have HN0n := (show Hid _ from hnn0n)
              have hbs0n : (w.heap.size + 3) ≤ (wc.alloc (.cells #[.int .i64 ((ra.length : Nat) : Int)] 3)).heap.size := by have := HM9.out.mb.sz; simp; omega
              clear hnn0n
              go_wp2_with (at_builtin; refine wpList_append_lies _ rfl (.tmp 53) (.tmp 55) 46 rfl (w.heap.size + 3) 3 i3 _ 1 8 Try.underlying46 hi3 hz0 hz1 hz2 rfl (by decide) _ na.length _ rfl HN0n.out ⟨wc.heap.size, 0, none⟩ 1 1 [.int .i64 ((ra.length : Nat) : Int)] rfl rfl (cell_one_new _ _ _) ?c2 (by decide) ?c3 (by omega) hbs0n _ rfl ?nx)
              case c2 => (first | (intro y hy; simp at hy; subst hy; rfl) | rfl | simp [Value.oneCell'])
              case c3 => (unfold maxLen; omega)
              case nx =>
                intro g30n cap30n w60n hown6 hgr6 hat6 hlt6
                have hmb6 := (HM9.out.mb.still (bel_alloc wc (.cells #[.int .i64 ((ra.length : Nat) : Int)] 3))).grown hgr6 (fun q hq => (World.ownsRow.lt HN0n.out q hq).1)
                have hm6 := Mem.numA (u' := (.slice (some ⟨g30n, 0, none⟩) (na.length + 1) cap30n)) HM9.out hgr6 hown6 (fun q hq => by
                  have : g30n = q := by simpa [Value.ownBlock] using hq
                  subst this
                  rcases hat6 with h | h
                  · exact .inl h
                  · exact .inr (by first | omega | (simp at h ⊢; done) | (simp at h ⊢; omega)))
                obtain ⟨c0, c1, c2, c3⟩ := hmb6.pb.cells
                have z2 := hmb6.pb.frozen 2
                have HM60n := (show Hid _ from hm6)
                clear hm6 hmb6 hown6 hgr6 hat6 hlt6 HN0n hbs0n
                go_wp2_with fail
                clear c0 c1 c2 c3 z2
                generalize (w60n.setCell ⟨w.heap.size + 1 + 1, 2, none⟩ (.slice (some ⟨g30n, 0, none⟩) (na.length + 1) cap30n)) = wI0n at *
                go_loopw [5] (fun i wq => ∃ kI : Nat, i = .int .i64 kI ∧ kI ≤ rg.length ∧ Hid (Below wI0n.heap.size wI0n wq ∧ ∀ i (hi : i < (rg.map (·.2)).length), i < kI → (rg.map (·.2))[i] ≠ rG)) (fun i _ => rg.length - (intOf i).toNat)
                case atStart => exact ⟨0, rfl, Nat.zero_le _, Below.refl _ _, fun i hi h0 => absurd h0 (Nat.not_lt_zero _)⟩
                case round =>
                  obtain ⟨kI, rfl, hk, HK⟩ := hrel
                  have HMq := (show Hid _ from Mem.still HM60n.out HK.out.1)
                  obtain ⟨c0, c1, c2, c3⟩ := HMq.out.mb.pb.cells
                  obtain ⟨t0, t1⟩ := HMq.out.mb.tb
                  obtain ⟨kR, hrowd⟩ := HRWG.out wr HMq.out.mb.bel
                  have HROW := (show Hid _ from hrowd)
                  clear hrowd
                  by_cases hkl : kI < rg.length
                  · have hkl' := hkl
                    have hhd : wr.ownsRow (w.heap.size + 3) 46 1 (.slice p1 rg.length q1) rg.length (rg.map (·.1)) := HMq.out.own.ok (hdG (.slice p1 rg.length q1) rg) (by simp [PEnt])
                    obtain ⟨_, _, ghI, e9, _, _, hg9, hc9⟩ := own_cell hhd
                    obtain ⟨e8, _⟩ := hg9 (by omega)
                    injection e9 with e91 e92 e93
                    rw [e8] at e91
                    subst e91
                    have kK := hc9 kI rg[kI].1 (by rw [List.getElem?_map, List.getElem?_eq_getElem hkl']; rfl)
                    have hok := HMq.out.own.ok (entI rg[kI]) (by simp only [PEnt, List.mem_append]; exact .inr (.inr (.inr (.inl (List.mem_map.2 ⟨rg[kI], List.getElem_mem hkl', rfl⟩)))))
                    have hdat := own_ints hok
                    obtain ⟨ak, ck, _, ek, _⟩ := own_cell hok
                    have ek' : rg[kI].1 = .slice ak rg[kI].2.length ck := ek
                    have hdat' : Ints wr (fun b => (w.heap.size + 3) ≤ b) rg[kI].2 (.slice ak rg[kI].2.length ck) := by rw [← ek']; exact hdat
                    rw [ek'] at kK
                    have HSM := (show Hid _ from fun (w' : World) (hb : Below wr.heap.size wr w') => sameI_s rg[kI].2 rG _ _ w' (hdat'.still hb) (Ints.still HROW.out hb))
                    have HCQ := (show Hid _ from fun (w' : World) (hb : Below wr.heap.size wr w') => (⟨(hb.cell (lt_of_cell c1)).trans c1, (hb.cell (lt_of_cell kK)).trans kK, (hb.cell (lt_of_cell t1)).trans t1, (hb.cell (lt_of_cell kR)).trans kR⟩ : CelQ (w.heap.size + 1 + 1) 1 ghI kI w.heap.size bG (oG + s) (.slice (some ⟨ghI, 0, none⟩) rg.length q1) (.slice ak rg[kI].2.length ck) (.slice (some ⟨bG, oG, none⟩) t.gotos.length cG) (.slice (some adG) rG.length crG) w'))
                    have HDR := (show Hid _ from (Below.refl wr.heap.size wr).drew)
                    have hS0 := HCQ.out _ HDR.out
                    have hke : ((kI : Int) == (rg.length : Int)) = false := by simp; omega
                    have hmx := (rg.map (·.2))[kI]?
                    clear hhd hg9 hc9 e8 e92 e93 hok hdat ek ek' hdat' c0 c1 c2 c3 t0 t1 kR kK hmx
                    by_cases he : rg[kI].2 = rG
                    · have HIX : Hid (ixO rG (rg.map (·.2)) = kI) := by
                        show ixO rG (rg.map (·.2)) = kI
                        exact ixO_at rG (rg.map (·.2)) kI (by simpa using hkl') (by simpa using he) (fun i hi hik => HK.out.2 i hi hik)
                      rw [decide_eq_true he] at HSM
                      have HSD := (show Hid _ from HSM.out _ HDR.out)
                      have HEQI0n := (show Hid _ from HEG.out)
                      rw [HIX.out, if_pos (by simpa using hkl')] at HEQI0n
                      clear he HSM
                      go_wp2_with fail
                      go_region_held3 (fun w' => w'.cell? ⟨w.heap.size + 1 + 1, 1, none⟩ = some (.slice (some ⟨ghI, 0, none⟩) rg.length q1) ∧ w'.cell? ⟨ghI, kI, none⟩ = some (.slice ak rg[kI].2.length ck) ∧ w'.cell? ⟨w.heap.size, 1, none⟩ = some (.slice (some ⟨bG, oG, none⟩) t.gotos.length cG) ∧ w'.cell? ⟨bG, oG + s, none⟩ = some (.slice (some adG) rG.length crG)) (((show CelQ (w.heap.size + 1 + 1) 1 ghI kI w.heap.size bG (oG + s) (.slice (some ⟨ghI, 0, none⟩) rg.length q1) (.slice ak rg[kI].2.length ck) (.slice (some ⟨bG, oG, none⟩) t.gotos.length cG) (.slice (some adG) rG.length crG) _); (first | exact hS0 | exact hSa | fail)))
                        (first
                        | (go_at_call 9999)
                        | (go_at_call 65; refine Calls.mono HSD.out ?_; rintro e w2 ⟨rfl, hb2⟩; have HBW := (show Hid _ from bel_trans HDR.out hb2); have hSa := HCQ.out _ HBW.out; dsimp only))
                      all_goals
                        have HM2 := (show Hid _ from Mem.still HMq.out HBW.out)
                        clear HBW hSa hS0 HCQ HSD HDR HMq HK HROW HIX
                        obtain ⟨c0, c1, c2, c3⟩ := HM2.out.mb.pb.cells
                        obtain ⟨t0, t1⟩ := HM2.out.mb.tb
                        have hnn0nf : (w2.alloc (.cells #[.int .i64 ((kI : Nat) : Int)] 3)).ownsRow (w.heap.size + 3) 3 1 (.slice p3 ng.length q3) ng.length (encI ng) := (HM2.out.own.still (bel_alloc _ _)).ok (nmI (.slice p3 ng.length q3) ng) (by simp [PEnt])
                        have HN0nf := (show Hid _ from hnn0nf)
                        have hbs0nf : (w.heap.size + 3) ≤ (w2.alloc (.cells #[.int .i64 ((kI : Nat) : Int)] 3)).heap.size := by have := HM2.out.mb.sz; simp; omega
                        clear hnn0nf
                        go_wp2_with (at_builtin; refine wpList_append_lies _ rfl (.tmp 97) (.tmp 99) 46 rfl (w.heap.size + 3) 3 i3 _ 1 8 Try.underlying46 hi3 hz0 hz1 hz2 rfl (by decide) _ ng.length _ rfl HN0nf.out ⟨w2.heap.size, 0, none⟩ 1 1 [.int .i64 ((kI : Nat) : Int)] rfl rfl (cell_one_new _ _ _) ?c2 (by decide) ?c3 (by omega) hbs0nf _ rfl ?nx)
                        case c2 => (first | (intro y hy; simp at hy; subst hy; rfl) | rfl | simp [Value.oneCell'])
                        case c3 => (unfold maxLen; omega)
                        case nx =>
                          intro g30nf cap30nf w60nf hown6 hgr6 hat6 hlt6
                          have hmb6 := (HM2.out.mb.still (bel_alloc w2 (.cells #[.int .i64 ((kI : Nat) : Int)] 3))).grown hgr6 (fun q hq => (World.ownsRow.lt HN0nf.out q hq).1)
                          have hm6 := Mem.numI (u' := (.slice (some ⟨g30nf, 0, none⟩) (ng.length + 1) cap30nf)) HM2.out hgr6 hown6 (fun q hq => by
                            have : g30nf = q := by simpa [Value.ownBlock] using hq
                            subst this
                            rcases hat6 with h | h
                            · exact .inl h
                            · exact .inr (by first | omega | (simp at h ⊢; done) | (simp at h ⊢; omega)))
                          obtain ⟨c0, c1, c2, c3⟩ := hmb6.pb.cells
                          have z3 := hmb6.pb.frozen 3
                          have HM60nf := (show Hid _ from hm6)
                          clear hm6 hmb6 hown6 hgr6 hat6 hlt6 HN0nf hbs0nf
                          have HXN : Hid (∃ y0 y1 y2 y3 rx ry nx ny, Mem w (w60nf.setCell ⟨w.heap.size + 1 + 1, 3, none⟩ (.slice (some ⟨g30nf, 0, none⟩) (ng.length + 1) cap30nf)) (.slice (some ⟨bA, oA, none⟩) t.acts.length cA) (.slice (some ⟨bG, oG, none⟩) t.gotos.length cG) y0 y1 y2 y3 rx ry nx ny ∧ onc (rx.map (·.2)) nx (t.acts.drop (s + 1)) = RA ∧ onc (ry.map (·.2)) ny (t.gotos.drop (s + 1)) = RG ∧ rx.length ≤ s + 1 ∧ nx.length = s + 1 ∧ ry.length ≤ s + 1 ∧ ny.length = s + 1) :=
                            ⟨_, _, _, _, _, _, _, _, HM60nf.out, by first | exact HEQA0.out | simpa using HEQA0.out, by first | exact HEQI0n.out | simpa using HEQI0n.out, by have := HLEN.out; first | omega | (simp; done) | (simp; omega), by have := HLEN.out; simp; omega, by have := HLEN.out; first | omega | (simp; done) | (simp; omega), by have := HLEN.out; simp; omega⟩
                          go_wp2_with fail
                          exact ⟨⟨s + 1, by go_num, by omega, HXN⟩, by simp [intOf]; omega⟩

                    · have HN : Hid (∀ i (hi : i < (rg.map (·.2)).length), i < kI + 1 → (rg.map (·.2))[i] ≠ rG) := fun i hi hik => by
                        by_cases e : i = kI
                        · subst e; simpa using he
                        · exact HK.out.2 i hi (by omega)
                      rw [decide_eq_false he] at HSM
                      have HSD := (show Hid _ from HSM.out _ HDR.out)
                      clear he HSM
                      go_wp2_with fail
                      go_region_held3 (fun w' => w'.cell? ⟨w.heap.size + 1 + 1, 1, none⟩ = some (.slice (some ⟨ghI, 0, none⟩) rg.length q1) ∧ w'.cell? ⟨ghI, kI, none⟩ = some (.slice ak rg[kI].2.length ck) ∧ w'.cell? ⟨w.heap.size, 1, none⟩ = some (.slice (some ⟨bG, oG, none⟩) t.gotos.length cG) ∧ w'.cell? ⟨bG, oG + s, none⟩ = some (.slice (some adG) rG.length crG)) (((show CelQ (w.heap.size + 1 + 1) 1 ghI kI w.heap.size bG (oG + s) (.slice (some ⟨ghI, 0, none⟩) rg.length q1) (.slice ak rg[kI].2.length ck) (.slice (some ⟨bG, oG, none⟩) t.gotos.length cG) (.slice (some adG) rG.length crG) _); (first | exact hS0 | exact hSa | fail)))
                        (first
                        | (go_at_call 9999)
                        | (go_at_call 65; refine Calls.mono HSD.out ?_; rintro e w2 ⟨rfl, hb2⟩; have HBW := (show Hid _ from bel_trans HDR.out hb2); have hSa := HCQ.out _ HBW.out; dsimp only))
                      all_goals
                        have HB2 := (show Hid _ from bel_trans HK.out.1 HBW.out)
                        clear HBW hSa hS0 HCQ HSD HDR HMq HK HROW
                        go_wp2_with fail
                        exact ⟨⟨kI + 1, by go_num, by omega, HB2.out, HN.out⟩, by simp [intOf]; omega⟩
                  · obtain rfl : kI = rg.length := by omega
                    have hki : (((rg.length : Nat) : Int) == (rg.length : Int)) = true := by simp
                    have HIX : Hid (ixO rG (rg.map (·.2)) = rg.length) := by
                      show ixO rG (rg.map (·.2)) = rg.length
                      have := ixO_no rG (rg.map (·.2)) (fun i hi => HK.out.2 i hi (by simp at hi; omega))
                      simpa using this
                    have HEQI0n := (show Hid _ from HEG.out)
                    rw [HIX.out, if_neg (by simp)] at HEQI0n
                    go_wp2_with fail
                    go_cut [76] from 58 to 75 (fun v wx => v = .bool false ∧ Hid (Below wr.heap.size wr wx))
                    case first =>
                      go_quiet (fail)
                      go_wp2_with fail
                      go_meet
                      exact ⟨rfl, bel_drewS (Below.refl _ _) _⟩
                    case rest =>
                      obtain ⟨rfl, HC⟩ := hcut
                      have HM2 := (show Hid _ from Mem.still HMq.out HC.out)
                      clear c0 c1 c2 c3 t0 t1 kR HMq HK HROW HC HIX
                      obtain ⟨c0, c1, c2, c3⟩ := HM2.out.mb.pb.cells
                      obtain ⟨t0, t1⟩ := HM2.out.mb.tb
                      obtain ⟨kR, hrowd⟩ := HRWG.out wc HM2.out.mb.bel
                      have hbd : Below wc.heap.size wc (wc.alloc (.cells #[] 3)).drew := (bel_alloc wc (.cells #[] 3)).drew
                      have hba := bel_alloc wc (.cells #[] 3)
                      have HNW := (show Hid _ from newsI (hrowd.still hbd))
                      have HBD := (show Hid _ from hbd)
                      have d1 := (hba.cell (lt_of_cell c1)).trans c1
                      have d2 := (hba.cell (lt_of_cell t1)).trans t1
                      have d3 := (hba.cell (lt_of_cell kR)).trans kR
                      have hszc := HM2.out.mb.sz
                      clear hrowd hbd hba
                      go_wp2_with fail
                      go_cut [94] from 84 to 95 (fun v wx => Hid (∃ (u' v5 : Value), Mem w wx (.slice (some ⟨bA, oA, none⟩) t.acts.length cA) (.slice (some ⟨bG, oG, none⟩) t.gotos.length cG) unA u' (.slice (some ⟨g30n, 0, none⟩) (na.length + 1) cap30n) (.slice p3 ng.length q3) (ra ++ [(v5A, rA)]) (rg ++ [(v5, rG)]) (na ++ [((ra.length : Nat) : Int)]) ng))
                      case first =>
                        go_region_law (first
                          | (refine step_append_lies _ rfl (.tmp 85) (.tmp 93) 28 rfl (w.heap.size + 3) 46 ihG _ 1 24 Try.underlying28 hihG hg0 hg1 hg2 rfl (by decide) _ rg.length _ (by simp [Act.eval, Act.put]) HH5.out ⟨w5.heap.size, 0, none⟩ 1 1 [.slice a5 rG.length c5] (by simp [Act.eval, Act.put]) rfl (cell_one_new _ _ _) (by intro y hy; simp at hy; subst hy; rfl) (by decide) (by unfold maxLen; omega) (by omega) hb5s _ rfl ?_; intro g7 cap7 w7 hown7 hgr7 hat7 hlt7; have hmb7 := (HMB5.out).grown hgr7 (fun q hq => (World.ownsRow.lt HH5.out q hq).1); obtain ⟨s0, s1, s2, s3⟩ := hmb7.pb.cells; have r1 := hmb7.pb.frozen 1; have HMB7 := (show Hid _ from hmb7); clear hmb7)
                          | (refine step_append_copy _ rfl (.tmp 86) (.tmp 91) 46 rfl wc.heap.size 3 i3 _ 1 8 Try.underlying46 hi3 hz0 hz1 hz2 rfl (by decide) _ (by simp [Act.eval, Act.put]) (own_empty _ _ _) adG rG.length crG (encI rG) (by simp [Act.eval, Act.put]) (encI_len _) HNW.out (encI_one _) (by unfold maxLen; omega) (by omega) (by simp) ?_; intro a5 c5 w5 hown5 hgr5; have hb5 : Below wc.heap.size wc w5 := grown_bel HBD.out hgr5 (fun q hq => Nat.le_of_eq (by simpa [Value.ownBlock] using hq)) (by simp); have HMB5 := (show Hid _ from (HM2.out.mb.still hb5).still (bel_alloc w5 (.cells #[.slice a5 rG.length c5] 46))); have HH5 := (show Hid _ from ((HM2.out.own.still hb5).still (bel_alloc w5 (.cells #[.slice a5 rG.length c5] 46))).ok (hdG (.slice p1 rg.length q1) rg) (by simp [PEnt])); have d4 := (hb5.cell (lt_of_cell c1)).trans c1; obtain ⟨b0, b1, b2, b3⟩ := HMB5.out.pb.cells; have hb5s : (w.heap.size + 3) ≤ (w5.alloc (.cells #[.slice a5 rG.length c5] 46)).heap.size := HMB5.out.sz; have HO5 := (show Hid _ from (⟨hb5, hown5⟩ : _ ∧ _)); clear hown5 hgr5))
                        all_goals
                          have HFIN := (show Hid _ from Mem.rowI (row := rG) (v5 := .slice a5 rG.length c5) (u' := .slice (some ⟨g7, 0, none⟩) (rg.length + 1) cap7) HM2.out HO5.out.1 HO5.out.2 hgr7 hown7 (fun q hq => by
                            have : g7 = q := by simpa [Value.ownBlock] using hq
                            subst this
                            rcases hat7 with h | h
                            · exact .inl h
                            · exact .inr (by first | omega | (simp at h ⊢; done) | (simp at h ⊢; omega))))
                          clear hgr7 hown7 hat7 hlt7
                          go_wp2_with fail
                          go_meet
                          exact ⟨_, _, HFIN.out⟩
                      case rest =>
                        obtain ⟨unI, v5I, hm9⟩ := hcut.out
                        have HM9 := (show Hid _ from hm9)
                        clear hm9 hcut HM2 c0 c1 c2 c3 t0 t1 kR d1 d2 d3 HNW HBD hszc
                        obtain ⟨c0, c1, c2, c3⟩ := HM9.out.mb.pb.cells
                        obtain ⟨t0, t1⟩ := HM9.out.mb.tb
                        have hnn0nn : (wc.alloc (.cells #[.int .i64 ((rg.length : Nat) : Int)] 3)).ownsRow (w.heap.size + 3) 3 1 (.slice p3 ng.length q3) ng.length (encI ng) := (HM9.out.own.still (bel_alloc _ _)).ok (nmI (.slice p3 ng.length q3) ng) (by simp [PEnt])
                        have HN0nn := (show Hid _ from hnn0nn)
                        have hbs0nn : (w.heap.size + 3) ≤ (wc.alloc (.cells #[.int .i64 ((rg.length : Nat) : Int)] 3)).heap.size := by have := HM9.out.mb.sz; simp; omega
                        clear hnn0nn
                        go_wp2_with (at_builtin; refine wpList_append_lies _ rfl (.tmp 97) (.tmp 99) 46 rfl (w.heap.size + 3) 3 i3 _ 1 8 Try.underlying46 hi3 hz0 hz1 hz2 rfl (by decide) _ ng.length _ rfl HN0nn.out ⟨wc.heap.size, 0, none⟩ 1 1 [.int .i64 ((rg.length : Nat) : Int)] rfl rfl (cell_one_new _ _ _) ?c2 (by decide) ?c3 (by omega) hbs0nn _ rfl ?nx)
                        case c2 => (first | (intro y hy; simp at hy; subst hy; rfl) | rfl | simp [Value.oneCell'])
                        case c3 => (unfold maxLen; omega)
                        case nx =>
                          intro g30nn cap30nn w60nn hown6 hgr6 hat6 hlt6
                          have hmb6 := (HM9.out.mb.still (bel_alloc wc (.cells #[.int .i64 ((rg.length : Nat) : Int)] 3))).grown hgr6 (fun q hq => (World.ownsRow.lt HN0nn.out q hq).1)
                          have hm6 := Mem.numI (u' := (.slice (some ⟨g30nn, 0, none⟩) (ng.length + 1) cap30nn)) HM9.out hgr6 hown6 (fun q hq => by
                            have : g30nn = q := by simpa [Value.ownBlock] using hq
                            subst this
                            rcases hat6 with h | h
                            · exact .inl h
                            · exact .inr (by first | omega | (simp at h ⊢; done) | (simp at h ⊢; omega)))
                          obtain ⟨c0, c1, c2, c3⟩ := hmb6.pb.cells
                          have z3 := hmb6.pb.frozen 3
                          have HM60nn := (show Hid _ from hm6)
                          clear hm6 hmb6 hown6 hgr6 hat6 hlt6 HN0nn hbs0nn
                          have HXN : Hid (∃ y0 y1 y2 y3 rx ry nx ny, Mem w (w60nn.setCell ⟨w.heap.size + 1 + 1, 3, none⟩ (.slice (some ⟨g30nn, 0, none⟩) (ng.length + 1) cap30nn)) (.slice (some ⟨bA, oA, none⟩) t.acts.length cA) (.slice (some ⟨bG, oG, none⟩) t.gotos.length cG) y0 y1 y2 y3 rx ry nx ny ∧ onc (rx.map (·.2)) nx (t.acts.drop (s + 1)) = RA ∧ onc (ry.map (·.2)) ny (t.gotos.drop (s + 1)) = RG ∧ rx.length ≤ s + 1 ∧ nx.length = s + 1 ∧ ry.length ≤ s + 1 ∧ ny.length = s + 1) :=
                            ⟨_, _, _, _, _, _, _, _, HM60nn.out, by first | exact HEQA0.out | simpa using HEQA0.out, by first | exact HEQI0n.out | simpa using HEQI0n.out, by have := HLEN.out; first | omega | (simp; done) | (simp; omega), by have := HLEN.out; simp; omega, by have := HLEN.out; first | omega | (simp; done) | (simp; omega), by have := HLEN.out; simp; omega⟩
                          go_wp2_with fail
                          exact ⟨⟨s + 1, by go_num, by omega, HXN⟩, by simp [intOf]; omega⟩



    · have hsn2 : s = t.acts.length := by omega
      rw [List.drop_eq_nil_of_le (by omega)] at hEA
      rw [List.drop_eq_nil_of_le (by have := HGL.out; omega)] at hEG
      unfold onc at hEA hEG
      obtain ⟨c0, c1, c2, c3⟩ := hM.mb.pb.cells
      obtain ⟨t0, t1⟩ := hM.mb.tb
      obtain ⟨n0, n1, n2, n3⟩ := hM.mb.rb.cells
      have f0 := hM.mb.rb.frozen 0
      have f1 := hM.mb.rb.frozen 1
      have f2 := hM.mb.rb.frozen 2
      have f3 := hM.mb.rb.frozen 3
      have g7 := (((hM.mb.rb.set0 (.slice p0 ra.length q0)).set1 (.slice p1 rg.length q1)).set2 (.slice p2 na.length q2)).set3 (.slice p3 ng.length q3)
      have hb7 := (((hM.mb.bel.setCell (p := ⟨w.heap.size + 1, 0, none⟩) (by show w.heap.size ≤ w.heap.size + 1; omega) (.slice p0 ra.length q0)).setCell (p := ⟨w.heap.size + 1, 1, none⟩) (by show w.heap.size ≤ w.heap.size + 1; omega) (.slice p1 rg.length q1)).setCell (p := ⟨w.heap.size + 1, 2, none⟩) (by show w.heap.size ≤ w.heap.size + 1; omega) (.slice p2 na.length q2)).setCell (p := ⟨w.heap.size + 1, 3, none⟩) (by show w.heap.size ≤ w.heap.size + 1; omega) (.slice p3 ng.length q3)
      have hg1 : w.heap.size + 1 < w.heap.size + 3 := by omega
      have ho7 := (((hM.own.set (o := 0) (u := (.slice p0 ra.length q0)) hg1).set (o := 1) (u := (.slice p1 rg.length q1)) hg1).set (o := 2) (u := (.slice p2 na.length q2)) hg1).set (o := 3) (u := (.slice p3 ng.length q3)) hg1
      have ho8 := (ho7.base (B' := w.heap.size) (by omega)).perm (fs := hdA (.slice p0 ra.length q0) ra :: hdG (.slice p1 rg.length q1) rg :: nmI (.slice p2 na.length q2) na :: nmI (.slice p3 ng.length q3) ng :: (ra.map entA ++ rg.map entI)) (by classical exact List.perm_iff_count.2 (fun a => by simp only [PEnt, List.map_append, List.map_cons, List.map_nil, List.count_append, List.count_cons, List.count_nil]; first | omega | ac_rfl))
      have HF := (show Hid _ from (⟨hb7, ho8, hEA, hEG⟩ : _ ∧ _ ∧ _ ∧ _))
      obtain ⟨o0, o1, o2, o3⟩ := g7.cells
      clear hM hEA hEG g7 hb7 ho7 ho8 l1 l2 l3 l4 hsn2 hg1
      go_wp2_with fail
      refine bodyPost_ret (v := .agg #[.slice p0 ra.length q0, .slice p1 rg.length q1, .slice p2 na.length q2, .slice p3 ng.length q3]) (by simp [results, Try.results52, go_sem, o0, o1, o2, o3]) rfl ?_
      refine ⟨_, _, _, _, rfl, HF.out.1, ra, rg, na, ng, HF.out.2.1, ?_⟩
      rw [← HF.out.2.2.1, ← HF.out.2.2.2]
end Go.Proofs.Ytflhfimgeladaaa
