import Derived.Test.YtflhfimgeladaaaQx
import Derived.Test.YtflhfimgeladaaaTd
import Derived.Deep.RegionWith
/-! The law FnExactShrink, walked. -/
namespace Go.Proofs.Ytflhfimgeladaaa
open Go.RowKit Go.Deep
set_option linter.unusedVariables false
set_option maxRecDepth 100000
set_option linter.unusedSimpArgs false

theorem own_two {w : World} {B T g : Nat} {es : List Ent} {v0 v1 : Value} (h : Own w B es) (hm : bx T 2 g [v0, v1] ∈ es) : w.cell? ⟨g, 0, none⟩ = some v0 ∧ w.cell? ⟨g, 1, none⟩ = some v1 := ⟨bx_cell (i := 0) (h.ok _ hm) rfl, bx_cell (i := 1) (h.ok _ hm) rfl⟩
theorem own_four {w : World} {B T g : Nat} {es : List Ent} {v0 v1 v2 v3 : Value} (h : Own w B es) (hm : bx T 4 g [v0, v1, v2, v3] ∈ es) : Four w g v0 v1 v2 v3 := ⟨bx_cell (i := 0) (h.ok _ hm) rfl, bx_cell (i := 1) (h.ok _ hm) rfl, bx_cell (i := 2) (h.ok _ hm) rfl, bx_cell (i := 3) (h.ok _ hm) rfl⟩
/-- What is alive once all answers are there. -/
def Alive (ga gw gx gg : Nat) (x0 x1 w0 w1 w2 w3 y0 y1 g0 g1 g2 g3 : Value) (wa : List (Value × List (Int × Int))) (wg : List (Value × List Int)) (wn wm : List Int) (ya : List (Value × List (Int × Int))) (yg : List (Value × List Int)) (xa : List (Value × List (Int × Int))) (xg : List (Value × List Int)) (xn xm : List Int) : List Ent :=
  bx 48 4 gg [g0, g1, g2, g3] :: ((bx 41 2 gx [y0, y1] :: ((bx 48 4 gw [w0, w1, w2, w3] :: ([bx 30 2 ga [x0, x1]] ++ (hdA w0 wa :: hdG w1 wg :: nmI w2 wn :: nmI w3 wm :: (wa.map entA ++ wg.map entI)))) ++ TEnt y0 y1 ya yg [])) ++ (hdA g0 xa :: hdG g1 xg :: nmI g2 xn :: nmI g3 xm :: (xa.map entA ++ xg.map entI)))
/-- Where each of them stands. -/
theorem alive_g {w : World} {B ga gw gx gg : Nat} {x0 x1 w0 w1 w2 w3 y0 y1 g0 g1 g2 g3 : Value} {wa : List (Value × List (Int × Int))} {wg : List (Value × List Int)} {wn wm : List Int} {ya : List (Value × List (Int × Int))} {yg : List (Value × List Int)} {xa : List (Value × List (Int × Int))} {xg : List (Value × List Int)} {xn xm : List Int} (h : Own w B (Alive ga gw gx gg x0 x1 w0 w1 w2 w3 y0 y1 g0 g1 g2 g3 wa wg wn wm ya yg xa xg xn xm)) : (∀ e ∈ (hdA g0 xa :: hdG g1 xg :: nmI g2 xn :: nmI g3 xm :: (xa.map entA ++ xg.map entI)), e.ok w B) ∧ (∀ e ∈ (hdA w0 wa :: hdG w1 wg :: nmI w2 wn :: nmI w3 wm :: (wa.map entA ++ wg.map entI)), e.ok w B) ∧ Four w gg g0 g1 g2 g3 ∧ Two w gx y0 y1 ∧ Four w gw w0 w1 w2 w3 ∧ Two w ga x0 x1 := by
  refine ⟨fun e he => h.ok e (List.mem_cons_of_mem _ (List.mem_append.2 (.inr he))), fun e he => h.ok e (List.mem_cons_of_mem _ (List.mem_append.2 (.inl (List.mem_cons_of_mem _ (List.mem_append.2 (.inl (List.mem_cons_of_mem _ (List.mem_append.2 (.inr he))))))))), own_four h (List.mem_cons_self ..), own_two h (List.mem_cons_of_mem _ (List.mem_append.2 (.inl (List.mem_cons_self ..)))), own_four h (List.mem_cons_of_mem _ (List.mem_append.2 (.inl (List.mem_cons_of_mem _ (List.mem_append.2 (.inl (List.mem_cons_self ..))))))), own_two h (List.mem_cons_of_mem _ (List.mem_append.2 (.inl (List.mem_cons_of_mem _ (List.mem_append.2 (.inl (List.mem_cons_of_mem _ (List.mem_append.2 (.inl (List.mem_cons_self ..)))))))))) ⟩
set_option maxHeartbeats 12800000 in
theorem lawSk {S : Nat → Prop} (t : Tb) (v0 v1 : Value) (w : World) (h : TLies w S t v0 v1) :
    Calls Try.prog 4 #[.agg #[v0, v1]] w fun e w' => e = .returned (.bool true) ∧ Below w.heap.size w w' := by
  have HTT := (show Hid _ from fun w' (hb : Below w.heap.size w w') (hs : t.Small) => toTableO_any t v0 v1 w' (h.still hb) hs)
  have HTE := (show Hid _ from fun w' (hb : Below w.heap.size w w') (hs : t.Small) => toTable_any t v0 v1 w' (h.still hb) hs)
  have HZT := (show Hid _ from fun w' (hb : Below w.heap.size w w') => szTable_any t v0 v1 w' 1048576 (h.still hb) (Nat.le_refl _))
  obtain ⟨a0, c0, a1, c1, rfl, rfl⟩ := h.form
  clear h
  have hb0 := bel_alloc w (.cells #[.slice a0 t.acts.length c0, .slice a1 t.gotos.length c1] 30)
  have ho0 : Own (w.alloc (.cells #[.slice a0 t.acts.length c0, .slice a1 t.gotos.length c1] 30)) w.heap.size [bx 30 2 w.heap.size [.slice a0 t.acts.length c0, .slice a1 t.gotos.length c1]] := (Own.nil w w.heap.size).box #[.slice a0 t.acts.length c0, .slice a1 t.gotos.length c1] (Nat.le_refl _) rfl
  obtain ⟨t0, t1⟩ := own_two ho0 (List.mem_cons_self ..)
  have HSP := (show Hid _ from fun (S1 : Nat → Prop) (z0 z1 : Value) (w' : World) (h2 : TLiesN w' S1 t z0 z1) (hs : t.Small) => sShr_any t z0 z1 w' h2 hs)
  have HIM := (show Hid _ from fun (S1 : Nat → Prop) (z0 z1 : Value) (w' : World) (h2 : TLiesN w' S1 t z0 z1) (hs : t.Small) => iShr_any t z0 z1 w' h2 hs)
  have HSM := (show Hid _ from fun (hs : t.Small) => pk_small hs)
  unfold PAns at HSP HIM
  generalize pkR t = RR at *
  obtain ⟨R, C⟩ := RR
  simp only at HSP HIM HSM
  have hCC : (C != C) = false := by simp
  have HC0 := (show Hid _ from HZT.out _ hb0)
  have HB0 := (show Hid _ from hb0)
  have HO0 := (show Hid _ from ho0)
  clear hb0 ho0
  go_enter Try.func4, Try.ntmps4
  go_wp2_with fail
  refine Calls.mono HC0.out ?_
  rintro e w1 ⟨rfl | ⟨m1, rfl, hm1, hsm1⟩, hb1⟩
  · have hbw := bel_trans HB0.out hb1
    go_wp2_with fail
    go_ret
    exact ⟨rfl, hbw⟩
  have HS := (show Hid _ from hsm1)
  have HB1 := (show Hid _ from bel_trans HB0.out hb1)
  have HO1 := (show Hid _ from Own.still HO0.out hb1)
  clear t0 t1 hsm1 HC0 hb1 HO0 HZT
  obtain ⟨t0, t1⟩ := own_two HO1.out (List.mem_cons_self ..)
  go_wp2_with fail
  -- the specification's answer
  refine Calls.mono (HTT.out _ HB1.out HS.out) ?_
  rintro e w2 ⟨z0, z1, za, zg, rfl, hb2, oz, dza, dzg, nza, nzg⟩
  have HC2 := (show Hid _ from HSP.out _ z0 z1 w2 ⟨by rw [← dza]; exact tOwn_arows (fun e he => oz.ok e he) nza, by rw [← dzg]; exact tOwn_irows (fun e he => oz.ok e he) nzg⟩ HS.out)
  have HB2 := (show Hid _ from bel_trans HB1.out hb2)
  have HO2 := (show Hid _ from Own.still HO1.out hb2)
  have hz0 : ∃ p q, z0 = .slice p za.length q := by obtain ⟨p, q, _, e, _⟩ := own_cell (show w2.ownsRow w1.heap.size 69 1 z0 za.length (za.map (·.1)) from oz.ok (hdA z0 za) (by simp [TEnt])); exact ⟨p, q, e⟩
  have hz1 : ∃ p q, z1 = .slice p zg.length q := by obtain ⟨p, q, _, e, _⟩ := own_cell (show w2.ownsRow w1.heap.size 46 1 z1 zg.length (zg.map (·.1)) from oz.ok (hdG z1 zg) (by simp [TEnt])); exact ⟨p, q, e⟩
  obtain ⟨pz0, qz0, rfl⟩ := hz0
  obtain ⟨pz1, qz1, rfl⟩ := hz1
  clear t0 t1 hb2 oz dza dzg nza nzg HO1 HB1
  go_wp2_with fail
  refine Calls.mono HC2.out ?_
  rintro e w3 ⟨w0, wv1, wv2, wv3, rfl, hb3, wa, wg, wn, wm, ow, hRw⟩
  obtain ⟨pw0, qw0, _, rfl, _⟩ := own_cell (show w3.ownsRow w2.heap.size 69 1 w0 wa.length (wa.map (·.1)) from ow.ok (hdA w0 wa) (by simp))
  obtain ⟨pw1, qw1, _, rfl, _⟩ := own_cell (show w3.ownsRow w2.heap.size 46 1 wv1 wg.length (wg.map (·.1)) from ow.ok (hdG wv1 wg) (by simp))
  obtain ⟨pw2, qw2, _, rfl, _⟩ := own_cell (show w3.ownsRow w2.heap.size 3 1 wv2 wn.length (encI wn) from ow.ok (nmI wv2 wn) (by simp))
  obtain ⟨pw3, qw3, _, rfl, _⟩ := own_cell (show w3.ownsRow w2.heap.size 3 1 wv3 wm.length (encI wm) from ow.ok (nmI wv3 wm) (by simp))
  have hj3 := Own.join HO2.out hb3 ow (Nat.le_refl _) HB2.out.size
  have HB3 := (show Hid _ from bel_trans HB2.out hb3)
  have ho4 := hj3.box (T := 48) (k := 4) #[(.slice pw0 wa.length qw0), (.slice pw1 wg.length qw1), (.slice pw2 wn.length qw2), (.slice pw3 wm.length qw3)] HB3.out.size rfl
  have HO4 := (show Hid _ from ho4)
  have HRW := (show Hid _ from hRw)
  have HB4 := (show Hid _ from bel_trans HB3.out (bel_alloc w3 (.cells #[(.slice pw0 wa.length qw0), (.slice pw1 wg.length qw1), (.slice pw2 wn.length qw2), (.slice pw3 wm.length qw3)] 48)))
  obtain ⟨t0, t1⟩ := own_two HO4.out (List.mem_cons_of_mem _ (List.mem_append.2 (.inl (List.mem_cons_self ..))))
  clear hb3 ow hRw hj3 ho4 HC2 HO2 HB2 HB3
  go_wp2_with fail
  -- the argument's copy
  refine Calls.mono (HTT.out _ HB4.out HS.out) ?_
  rintro e w5 ⟨y0, y1, ya, yg, rfl, hb5, oy, dya, dyg, nya, nyg⟩
  obtain ⟨py0, qy0, _, rfl, _⟩ := own_cell (show w5.ownsRow _ 69 1 y0 ya.length (ya.map (·.1)) from oy.ok (hdA y0 ya) (by simp [TEnt]))
  obtain ⟨py1, qy1, _, rfl, _⟩ := own_cell (show w5.ownsRow _ 46 1 y1 yg.length (yg.map (·.1)) from oy.ok (hdG y1 yg) (by simp [TEnt]))
  have hj5 := Own.join HO4.out hb5 oy (Nat.le_refl _) HB4.out.size
  have HB5 := (show Hid _ from bel_trans HB4.out hb5)
  have ho6 := hj5.box (T := 41) (k := 2) #[(.slice py0 ya.length qy0), (.slice py1 yg.length qy1)] HB5.out.size rfl
  have HO6 := (show Hid _ from ho6)
  have HY := (show Hid _ from (⟨dya, dyg, nya, nyg⟩ : _ ∧ _ ∧ _ ∧ _))
  have HB6 := (show Hid _ from bel_trans HB5.out (bel_alloc w5 (.cells #[(.slice py0 ya.length qy0), (.slice py1 yg.length qy1)] 41)))
  have hy6 : TLiesN (w5.alloc (.cells #[(.slice py0 ya.length qy0), (.slice py1 yg.length qy1)] 41)) (fun b => w.heap.size ≤ b) t (.slice py0 ya.length qy0) (.slice py1 yg.length qy1) := ⟨by rw [← dya]; exact tOwn_arows (u1 := (.slice py1 yg.length qy1)) (rg := yg) (fs := []) (fun e he => ho6.ok e (List.mem_cons_of_mem _ (List.mem_append.2 (.inr he)))) nya, by rw [← dyg]; exact tOwn_irows (u0 := (.slice py0 ya.length qy0)) (ra := ya) (fs := []) (fun e he => ho6.ok e (List.mem_cons_of_mem _ (List.mem_append.2 (.inr he)))) nyg⟩
  have HYL := (show Hid _ from hy6)
  have HC6 := (show Hid _ from HIM.out _ _ _ _ hy6 HS.out)
  clear t0 t1 hb5 oy dya dyg nya nyg hj5 ho6 HO4 HB4 HB5 hy6
  obtain ⟨x0, x1⟩ := own_two HO6.out (List.mem_cons_self ..)
  go_wp2_with fail
  refine Calls.mono HC6.out ?_
  rintro e w7 ⟨g0, g1, g2, g3, rfl, hb7, xa, xg, xn, xm, og, hRg⟩
  obtain ⟨pg0, qg0, _, rfl, _⟩ := own_cell (show w7.ownsRow _ 69 1 g0 xa.length (xa.map (·.1)) from og.ok (hdA g0 xa) (by simp))
  obtain ⟨pg1, qg1, _, rfl, _⟩ := own_cell (show w7.ownsRow _ 46 1 g1 xg.length (xg.map (·.1)) from og.ok (hdG g1 xg) (by simp))
  obtain ⟨pg2, qg2, _, rfl, _⟩ := own_cell (show w7.ownsRow _ 3 1 g2 xn.length (encI xn) from og.ok (nmI g2 xn) (by simp))
  obtain ⟨pg3, qg3, _, rfl, _⟩ := own_cell (show w7.ownsRow _ 3 1 g3 xm.length (encI xm) from og.ok (nmI g3 xm) (by simp))
  have hj7 := Own.join HO6.out hb7 og (Nat.le_refl _) HB6.out.size
  have HB7 := (show Hid _ from bel_trans HB6.out hb7)
  have ho8 := hj7.box (T := 48) (k := 4) #[(.slice pg0 xa.length qg0), (.slice pg1 xg.length qg1), (.slice pg2 xn.length qg2), (.slice pg3 xm.length qg3)] HB7.out.size rfl
  have hal : Own (w7.alloc (.cells #[(.slice pg0 xa.length qg0), (.slice pg1 xg.length qg1), (.slice pg2 xn.length qg2), (.slice pg3 xm.length qg3)] 48)) w.heap.size (Alive w.heap.size w3.heap.size w5.heap.size w7.heap.size (.slice a0 t.acts.length c0) (.slice a1 t.gotos.length c1) (.slice pw0 wa.length qw0) (.slice pw1 wg.length qw1) (.slice pw2 wn.length qw2) (.slice pw3 wm.length qw3) (.slice py0 ya.length qy0) (.slice py1 yg.length qy1) (.slice pg0 xa.length qg0) (.slice pg1 xg.length qg1) (.slice pg2 xn.length qg2) (.slice pg3 xm.length qg3) wa wg wn wm ya yg xa xg xn xm) := ho8
  have HRG := (show Hid _ from hRg)
  have HB8 := (show Hid _ from bel_trans HB7.out (bel_alloc w7 (.cells #[(.slice pg0 xa.length qg0), (.slice pg1 xg.length qg1), (.slice pg2 xn.length qg2), (.slice pg3 xm.length qg3)] 48)))
  have HYL8 := (show Hid _ from (TLiesN.still HYL.out hb7).still (bel_alloc w7 (.cells #[(.slice pg0 xa.length qg0), (.slice pg1 xg.length qg1), (.slice pg2 xn.length qg2), (.slice pg3 xm.length qg3)] 48)))
  have HO8 := (show Hid _ from hal)
  -- what is known of what is alive
  have HPLG := (show Hid _ from fun (w' : World) (ho : ∀ e ∈ (hdA (.slice pg0 xa.length qg0) xa :: hdG (.slice pg1 xg.length qg1) xg :: nmI (.slice pg2 xn.length qg2) xn :: nmI (.slice pg3 xm.length qg3) xm :: (xa.map entA ++ xg.map entI)), e.ok w' w.heap.size) => (show PL w' (fun b => w.heap.size ≤ b) R (.slice pg0 xa.length qg0) (.slice pg1 xg.length qg1) (.slice pg2 xn.length qg2) (.slice pg3 xm.length qg3) from by have := pl_of2 ho; rw [← hRg] at this; exact this))
  have HPLW := (show Hid _ from fun (w' : World) (ho : ∀ e ∈ (hdA (.slice pw0 wa.length qw0) wa :: hdG (.slice pw1 wg.length qw1) wg :: nmI (.slice pw2 wn.length qw2) wn :: nmI (.slice pw3 wm.length qw3) wm :: (wa.map entA ++ wg.map entI)), e.ok w' w.heap.size) => (show PL w' (fun b => w.heap.size ≤ b) R (.slice pw0 wa.length qw0) (.slice pw1 wg.length qw1) (.slice pw2 wn.length qw2) (.slice pw3 wm.length qw3) from by have := pl_of2 ho; rw [← HRW.out] at this; exact this))
  clear x0 x1 hb7 og hRg hj7 ho8 hal HC6 HO6 HB6 HB7 HYL
  obtain ⟨hg8, hw8, ⟨k0, k1, k2, k3⟩, ⟨x0, x1⟩, ⟨l0, l1, l2, l3⟩, ⟨t0, t1⟩⟩ := alive_g HO8.out
  have HE8 := (show Hid _ from eqP_any R _ _ _ _ _ _ _ _ (w7.alloc (.cells #[(.slice pg0 xa.length qg0), (.slice pg1 xg.length qg1), (.slice pg2 xn.length qg2), (.slice pg3 xm.length qg3)] 48)) (HPLG.out _ hg8) (HPLW.out _ hw8))
  clear hg8 hw8
  go_wp2_with fail
  refine Calls.mono HE8.out ?_
  rintro e w9 ⟨rfl, hb9⟩
  have HO9 := (show Hid _ from Own.still HO8.out hb9)
  have HB9 := (show Hid _ from bel_trans HB8.out hb9)
  have HYL9 := (show Hid _ from TLiesN.still HYL8.out hb9)
  clear hb9 k0 k1 k2 k3 x0 x1 l0 l1 l2 l3 t0 t1 HE8 HO8 HB8 HYL8
  obtain ⟨_, _, _, ⟨x0, x1⟩, _, ⟨t0, t1⟩⟩ := alive_g HO9.out
  have H13 := (show Hid _ from HTE.out w9.drew HB9.out.drew HS.out)
  have H14 := (show Hid _ from fun (w' : World) (S9 : Nat → Prop) (q0 q1 : Value) (hb : Below w9.drew.heap.size w9.drew w') (hd : TLies w' S9 t q0 q1) => eqTable_any t _ _ q0 q1 w' (TLies.still HYL9.out.lies (((Below.refl _ _).drew).trans hb)) hd)
  have HXC := (show Hid _ from fun (w' : World) (hb : Below w9.heap.size w9 w') => (⟨(hb.cell (lt_of_cell x0)).trans x0, (hb.cell (lt_of_cell x1)).trans x1⟩ : Two w' _ _ _))
  go_wp2_with fail
  go_cut [45] from 41 to 44 (fun v wx => v = .bool false ∧ Hid (Below w9.heap.size w9 wx))
  case first =>
    go_region_with (first
      | (go_at_call 13; refine Calls.mono (H14.out _ _ _ _ hb13 E13) ?_; rintro e w14 ⟨rfl, hb14⟩)
      | (go_at_call 10; refine Calls.mono H13.out ?_; rintro e w13 ⟨q0, q1, rfl, hb13, E13⟩; obtain ⟨Z0, Z1⟩ := HXC.out _ (Below.trans ((Below.refl _ _).drew) hb13)))
    all_goals
      go_wp2_with fail
      go_meet
      exact ⟨rfl, bel_trans (((Below.refl w9.heap.size w9).drew).trans hb13) hb14⟩
  case rest =>
    obtain ⟨rfl, HC⟩ := hcut
    have HO10 := (show Hid _ from Own.still HO9.out HC.out)
    have HB10 := (show Hid _ from bel_trans HB9.out HC.out)
    clear HC HO9 HB9 HYL9 H13 H14 HXC x0 x1 t0 t1
    obtain ⟨_, _, _, ⟨x0, x1⟩, _, _⟩ := alive_g HO10.out
    have hpx : Own wc w.heap.size (TEnt (.slice py0 ya.length qy0) (.slice py1 yg.length qy1) ya yg (bx 48 4 w7.heap.size [(.slice pg0 xa.length qg0), (.slice pg1 xg.length qg1), (.slice pg2 xn.length qg2), (.slice pg3 xm.length qg3)] :: bx 48 4 w3.heap.size [(.slice pw0 wa.length qw0), (.slice pw1 wg.length qw1), (.slice pw2 wn.length qw2), (.slice pw3 wm.length qw3)] :: bx 30 2 w.heap.size [.slice a0 t.acts.length c0, .slice a1 t.gotos.length c1] :: ((hdA (.slice pw0 wa.length qw0) wa :: hdG (.slice pw1 wg.length qw1) wg :: nmI (.slice pw2 wn.length qw2) wn :: nmI (.slice pw3 wm.length qw3) wm :: (wa.map entA ++ wg.map entI)) ++ ((hdA (.slice pg0 xa.length qg0) xa :: hdG (.slice pg1 xg.length qg1) xg :: nmI (.slice pg2 xn.length qg2) xn :: nmI (.slice pg3 xm.length qg3) xm :: (xa.map entA ++ xg.map entI)) ++ [bx 41 2 w5.heap.size [(.slice py0 ya.length qy0), (.slice py1 yg.length qy1)]])))) := by
      have h0 := HO10.out
      unfold Alive at h0
      exact h0.perm (by classical exact List.perm_iff_count.2 (fun a => by simp only [TEnt, PEnt, List.map_append, List.map_cons, List.map_nil, List.count_append, List.count_cons, List.count_nil]; first | omega | ac_rfl))
    have hyl : ya.length ≤ 1048576 := by
      have h1 := congrArg List.length HY.out.1
      have h2 := HS.out.acts
      simp at h1
      omega
    have hyg : yg.length ≤ 1048576 := by
      have h1 := congrArg List.length HY.out.2.1
      have h2 := HS.out.gotos
      simp at h1
      omega
    have hsa : ∀ p ∈ ya, p.2.length ≤ 1048576 := fun p hp => small_mem HS.out.act p.2 (by rw [← HY.out.1]; exact List.mem_map.2 ⟨p, hp, rfl⟩)
    have hsg : ∀ p ∈ yg, p.2.length ≤ 1048576 := fun p hp => small_mem HS.out.goto p.2 (by rw [← HY.out.2.1]; exact List.mem_map.2 ⟨p, hp, rfl⟩)
    have HM1 := (show Hid _ from markT_any w.heap.size 1 (.slice py0 ya.length qy0) (.slice py1 yg.length qy1) ya yg (bx 48 4 w7.heap.size [(.slice pg0 xa.length qg0), (.slice pg1 xg.length qg1), (.slice pg2 xn.length qg2), (.slice pg3 xm.length qg3)] :: bx 48 4 w3.heap.size [(.slice pw0 wa.length qw0), (.slice pw1 wg.length qw1), (.slice pw2 wn.length qw2), (.slice pw3 wm.length qw3)] :: bx 30 2 w.heap.size [.slice a0 t.acts.length c0, .slice a1 t.gotos.length c1] :: ((hdA (.slice pw0 wa.length qw0) wa :: hdG (.slice pw1 wg.length qw1) wg :: nmI (.slice pw2 wn.length qw2) wn :: nmI (.slice pw3 wm.length qw3) wm :: (wa.map entA ++ wg.map entI)) ++ ((hdA (.slice pg0 xa.length qg0) xa :: hdG (.slice pg1 xg.length qg1) xg :: nmI (.slice pg2 xn.length qg2) xn :: nmI (.slice pg3 xm.length qg3) xm :: (xa.map entA ++ xg.map entI)) ++ [bx 41 2 w5.heap.size [(.slice py0 ya.length qy0), (.slice py1 yg.length qy1)]]))) wc hpx HB10.out.size hyl hyg hsa hsg (Nat.le_refl _))
    clear hpx hyl hyg hsa hsg HO10
    go_wp2_with fail
    refine Calls.mono HM1.out ?_
    rintro e w11 ⟨m2, rfl, hb11, ho11⟩
    have HB11 := (show Hid _ from HB10.out.trans hb11)
    have HO11 := (show Hid _ from ho11)
    have hm2 : ¬ ((m2 : Int) < 0) := by omega
    clear hb11 ho11 HM1 HB10 x0 x1
    have hg11 : ∀ e ∈ (hdA (.slice pg0 xa.length qg0) xa :: hdG (.slice pg1 xg.length qg1) xg :: nmI (.slice pg2 xn.length qg2) xn :: nmI (.slice pg3 xm.length qg3) xm :: (xa.map entA ++ xg.map entI)), e.ok w11 w.heap.size := fun e he => HO11.out.ok e (List.mem_cons_of_mem _ (List.mem_cons_of_mem _ (List.mem_cons_of_mem _ (List.mem_append.2 (.inr (List.mem_append.2 (.inl he)))))))
    have hw11 : ∀ e ∈ (hdA (.slice pw0 wa.length qw0) wa :: hdG (.slice pw1 wg.length qw1) wg :: nmI (.slice pw2 wn.length qw2) wn :: nmI (.slice pw3 wm.length qw3) wm :: (wa.map entA ++ wg.map entI)), e.ok w11 w.heap.size := fun e he => HO11.out.ok e (List.mem_cons_of_mem _ (List.mem_cons_of_mem _ (List.mem_cons_of_mem _ (List.mem_append.2 (.inl he)))))
    obtain ⟨k0, k1, k2, k3⟩ := own_four (T := 48) (g := w7.heap.size) HO11.out (List.mem_cons_self ..)
    obtain ⟨l0, l1, l2, l3⟩ := own_four (T := 48) (g := w3.heap.size) HO11.out (List.mem_cons_of_mem _ (List.mem_cons_self ..))
    have HE11 := (show Hid _ from eqP_any R _ _ _ _ _ _ _ _ w11 (HPLG.out w11 hg11) (HPLW.out w11 hw11))
    clear hg11 hw11
    go_wp2_with fail
    refine Calls.mono HE11.out ?_
    rintro e w12 ⟨rfl, hb12⟩
    have HO12 := (show Hid _ from Own.still HO11.out hb12)
    have HB12 := (show Hid _ from bel_trans HB11.out hb12)
    clear hb12 HE11 HO11 HB11 k0 k1 k2 k3 l0 l1 l2 l3
    obtain ⟨k0, k1, k2, k3⟩ := own_four (T := 48) (g := w7.heap.size) HO12.out (List.mem_cons_self ..)
    obtain ⟨s1, s2, s3, s4, s5, s6⟩ := HSM.out HS.out
    rw [HRG.out] at s1 s2 s3 s4 s5 s6
    simp only [List.length_map] at s1 s2
    have s3' : ∀ p ∈ xa, p.2.length ≤ 1048576 := fun p hp => s3 p.2 (List.mem_map.2 ⟨p, hp, rfl⟩)
    have s4' : ∀ p ∈ xg, p.2.length ≤ 1048576 := fun p hp => s4 p.2 (List.mem_map.2 ⟨p, hp, rfl⟩)
    have hpg : Own w12 w.heap.size (PEnt (.slice pg0 xa.length qg0) (.slice pg1 xg.length qg1) (.slice pg2 xn.length qg2) (.slice pg3 xm.length qg3) xa xg xn xm (bx 48 4 w7.heap.size [(.slice pg0 xa.length qg0), (.slice pg1 xg.length qg1), (.slice pg2 xn.length qg2), (.slice pg3 xm.length qg3)] :: bx 48 4 w3.heap.size [(.slice pw0 wa.length qw0), (.slice pw1 wg.length qw1), (.slice pw2 wn.length qw2), (.slice pw3 wm.length qw3)] :: bx 30 2 w.heap.size [.slice a0 t.acts.length c0, .slice a1 t.gotos.length c1] :: ((hdA (.slice pw0 wa.length qw0) wa :: hdG (.slice pw1 wg.length qw1) wg :: nmI (.slice pw2 wn.length qw2) wn :: nmI (.slice pw3 wm.length qw3) wm :: (wa.map entA ++ wg.map entI)) ++ [bx 41 2 w5.heap.size [(.slice py0 ya.length qy0), (.slice py1 yg.length qy1)]]))) := HO12.out.perm (by classical exact List.perm_iff_count.2 (fun a => by simp only [TEnt, PEnt, List.map_append, List.map_cons, List.map_nil, List.count_append, List.count_cons, List.count_nil]; first | omega | ac_rfl))
    have HM2 := (show Hid _ from markP_any w.heap.size (.slice pg0 xa.length qg0) (.slice pg1 xg.length qg1) (.slice pg2 xn.length qg2) (.slice pg3 xm.length qg3) xa xg xn xm (bx 48 4 w7.heap.size [(.slice pg0 xa.length qg0), (.slice pg1 xg.length qg1), (.slice pg2 xn.length qg2), (.slice pg3 xm.length qg3)] :: bx 48 4 w3.heap.size [(.slice pw0 wa.length qw0), (.slice pw1 wg.length qw1), (.slice pw2 wn.length qw2), (.slice pw3 wm.length qw3)] :: bx 30 2 w.heap.size [.slice a0 t.acts.length c0, .slice a1 t.gotos.length c1] :: ((hdA (.slice pw0 wa.length qw0) wa :: hdG (.slice pw1 wg.length qw1) wg :: nmI (.slice pw2 wn.length qw2) wn :: nmI (.slice pw3 wm.length qw3) wm :: (wa.map entA ++ wg.map entI)) ++ [bx 41 2 w5.heap.size [(.slice py0 ya.length qy0), (.slice py1 yg.length qy1)]])) w12 hpg HB12.out.size s1 s2 s3' s4' s5 s6)
    have HH := (show Hid _ from fun (w' : World) (hok : ∀ e ∈ PMk 1 (.slice pg0 xa.length qg0) (.slice pg1 xg.length qg1) (.slice pg2 xn.length qg2) (.slice pg3 xm.length qg3) xa xg xn.length xm.length, e.ok w' w.heap.size) => heldP_any w.heap.size (.slice pg0 xa.length qg0) (.slice pg1 xg.length qg1) (.slice pg2 xn.length qg2) (.slice pg3 xm.length qg3) xa xg xn.length xm.length w' hok s1 s2 s3' s4' s5 s6)
    generalize (1 + tot (xa.map entA) + tot (xg.map entI) + xn.length + xm.length) = M at *
    clear s1 s2 s3 s4 s5 s6 s3' s4' hpg HO12
    have hM0 : ¬ ((M : Int) < 0) := by omega
    have hMM : ((M : Int) != (M : Int)) = false := by simp
    go_wp2_with fail
    refine Calls.mono HM2.out ?_
    rintro e w13 ⟨rfl, hb13, hpm, hfp⟩
    have HB13 := (show Hid _ from HB12.out.trans hb13)
    have HP13 := (show Hid _ from (⟨hpm, hfp⟩ : _ ∧ _))
    have HC13 := (show Hid _ from HH.out w13 hpm)
    clear hb13 hpm hfp HM2 HB12 k0 k1 k2 k3
    have HKK := (show Hid _ from fun (w' : World) (hfp : ∀ e ∈ (bx 48 4 w7.heap.size [(.slice pg0 xa.length qg0), (.slice pg1 xg.length qg1), (.slice pg2 xn.length qg2), (.slice pg3 xm.length qg3)] :: bx 48 4 w3.heap.size [(.slice pw0 wa.length qw0), (.slice pw1 wg.length qw1), (.slice pw2 wn.length qw2), (.slice pw3 wm.length qw3)] :: bx 30 2 w.heap.size [.slice a0 t.acts.length c0, .slice a1 t.gotos.length c1] :: ((hdA (.slice pw0 wa.length qw0) wa :: hdG (.slice pw1 wg.length qw1) wg :: nmI (.slice pw2 wn.length qw2) wn :: nmI (.slice pw3 wm.length qw3) wm :: (wa.map entA ++ wg.map entI)) ++ [bx 41 2 w5.heap.size [(.slice py0 ya.length qy0), (.slice py1 yg.length qy1)]])), e.ok w' w.heap.size) => (⟨bx_cell (i := 0) (hfp _ (List.mem_cons_self ..)) rfl, bx_cell (i := 1) (hfp _ (List.mem_cons_self ..)) rfl, bx_cell (i := 2) (hfp _ (List.mem_cons_self ..)) rfl, bx_cell (i := 3) (hfp _ (List.mem_cons_self ..)) rfl⟩ : Four w' w7.heap.size (.slice pg0 xa.length qg0) (.slice pg1 xg.length qg1) (.slice pg2 xn.length qg2) (.slice pg3 xm.length qg3)))
    have HLL := (show Hid _ from fun (w' : World) (hfp : ∀ e ∈ (bx 48 4 w7.heap.size [(.slice pg0 xa.length qg0), (.slice pg1 xg.length qg1), (.slice pg2 xn.length qg2), (.slice pg3 xm.length qg3)] :: bx 48 4 w3.heap.size [(.slice pw0 wa.length qw0), (.slice pw1 wg.length qw1), (.slice pw2 wn.length qw2), (.slice pw3 wm.length qw3)] :: bx 30 2 w.heap.size [.slice a0 t.acts.length c0, .slice a1 t.gotos.length c1] :: ((hdA (.slice pw0 wa.length qw0) wa :: hdG (.slice pw1 wg.length qw1) wg :: nmI (.slice pw2 wn.length qw2) wn :: nmI (.slice pw3 wm.length qw3) wm :: (wa.map entA ++ wg.map entI)) ++ [bx 41 2 w5.heap.size [(.slice py0 ya.length qy0), (.slice py1 yg.length qy1)]])), e.ok w' w.heap.size) => (⟨bx_cell (i := 0) (hfp _ (List.mem_cons_of_mem _ (List.mem_cons_self ..))) rfl, bx_cell (i := 1) (hfp _ (List.mem_cons_of_mem _ (List.mem_cons_self ..))) rfl, bx_cell (i := 2) (hfp _ (List.mem_cons_of_mem _ (List.mem_cons_self ..))) rfl, bx_cell (i := 3) (hfp _ (List.mem_cons_of_mem _ (List.mem_cons_self ..))) rfl⟩ : Four w' w3.heap.size (.slice pw0 wa.length qw0) (.slice pw1 wg.length qw1) (.slice pw2 wn.length qw2) (.slice pw3 wm.length qw3)))
    have HAA := (show Hid _ from fun (w' : World) (hfp : ∀ e ∈ (bx 48 4 w7.heap.size [(.slice pg0 xa.length qg0), (.slice pg1 xg.length qg1), (.slice pg2 xn.length qg2), (.slice pg3 xm.length qg3)] :: bx 48 4 w3.heap.size [(.slice pw0 wa.length qw0), (.slice pw1 wg.length qw1), (.slice pw2 wn.length qw2), (.slice pw3 wm.length qw3)] :: bx 30 2 w.heap.size [.slice a0 t.acts.length c0, .slice a1 t.gotos.length c1] :: ((hdA (.slice pw0 wa.length qw0) wa :: hdG (.slice pw1 wg.length qw1) wg :: nmI (.slice pw2 wn.length qw2) wn :: nmI (.slice pw3 wm.length qw3) wm :: (wa.map entA ++ wg.map entI)) ++ [bx 41 2 w5.heap.size [(.slice py0 ya.length qy0), (.slice py1 yg.length qy1)]])), e.ok w' w.heap.size) => (⟨bx_cell (i := 0) (hfp _ (List.mem_cons_of_mem _ (List.mem_cons_of_mem _ (List.mem_cons_self ..)))) rfl, bx_cell (i := 1) (hfp _ (List.mem_cons_of_mem _ (List.mem_cons_of_mem _ (List.mem_cons_self ..)))) rfl⟩ : Two w' w.heap.size (.slice a0 t.acts.length c0) (.slice a1 t.gotos.length c1)))
    have HST := (show Hid _ from fun (w1 w2 : World) (hb : Below w1.heap.size w1 w2) (h : (∀ e ∈ PMk 1 (.slice pg0 xa.length qg0) (.slice pg1 xg.length qg1) (.slice pg2 xn.length qg2) (.slice pg3 xm.length qg3) xa xg xn.length xm.length, e.ok w1 w.heap.size) ∧ ∀ e ∈ (bx 48 4 w7.heap.size [(.slice pg0 xa.length qg0), (.slice pg1 xg.length qg1), (.slice pg2 xn.length qg2), (.slice pg3 xm.length qg3)] :: bx 48 4 w3.heap.size [(.slice pw0 wa.length qw0), (.slice pw1 wg.length qw1), (.slice pw2 wn.length qw2), (.slice pw3 wm.length qw3)] :: bx 30 2 w.heap.size [.slice a0 t.acts.length c0, .slice a1 t.gotos.length c1] :: ((hdA (.slice pw0 wa.length qw0) wa :: hdG (.slice pw1 wg.length qw1) wg :: nmI (.slice pw2 wn.length qw2) wn :: nmI (.slice pw3 wm.length qw3) wm :: (wa.map entA ++ wg.map entI)) ++ [bx 41 2 w5.heap.size [(.slice py0 ya.length qy0), (.slice py1 yg.length qy1)]])), e.ok w1 w.heap.size) => (⟨fun e he => own_still (h.1 e he) hb, fun e he => own_still (h.2 e he) hb⟩ : (∀ e ∈ PMk 1 (.slice pg0 xa.length qg0) (.slice pg1 xg.length qg1) (.slice pg2 xn.length qg2) (.slice pg3 xm.length qg3) xa xg xn.length xm.length, e.ok w2 w.heap.size) ∧ ∀ e ∈ (bx 48 4 w7.heap.size [(.slice pg0 xa.length qg0), (.slice pg1 xg.length qg1), (.slice pg2 xn.length qg2), (.slice pg3 xm.length qg3)] :: bx 48 4 w3.heap.size [(.slice pw0 wa.length qw0), (.slice pw1 wg.length qw1), (.slice pw2 wn.length qw2), (.slice pw3 wm.length qw3)] :: bx 30 2 w.heap.size [.slice a0 t.acts.length c0, .slice a1 t.gotos.length c1] :: ((hdA (.slice pw0 wa.length qw0) wa :: hdG (.slice pw1 wg.length qw1) wg :: nmI (.slice pw2 wn.length qw2) wn :: nmI (.slice pw3 wm.length qw3) wm :: (wa.map entA ++ wg.map entI)) ++ [bx 41 2 w5.heap.size [(.slice py0 ya.length qy0), (.slice py1 yg.length qy1)]])), e.ok w2 w.heap.size))
    obtain ⟨k0, k1, k2, k3⟩ := HKK.out w13 HP13.out.2
    go_wp2_with fail
    refine Calls.mono HC13.out ?_
    rintro e w14 ⟨rfl, hb14⟩
    have HP14 := (show Hid _ from HST.out _ _ hb14 HP13.out)
    have HB14 := (show Hid _ from bel_trans HB13.out hb14)
    clear hb14 HP13 HB13 HC13 k0 k1 k2 k3
    obtain ⟨t0, t1⟩ := HAA.out w14 HP14.out.2
    go_wp2_with fail
    refine Calls.mono (HTT.out _ HB14.out HS.out) ?_
    rintro e w15 ⟨z0, z1, za, zg, rfl, hb15, oz, dza, dzg, nza, nzg⟩
    have HC15 := (show Hid _ from HIM.out _ z0 z1 w15 ⟨by rw [← dza]; exact tOwn_arows (fun e he => oz.ok e he) nza, by rw [← dzg]; exact tOwn_irows (fun e he => oz.ok e he) nzg⟩ HS.out)
    have HP15 := (show Hid _ from HST.out _ _ hb15 HP14.out)
    have HB15 := (show Hid _ from bel_trans HB14.out hb15)
    have hz0 : ∃ p q, z0 = .slice p za.length q := by obtain ⟨p, q, _, e, _⟩ := own_cell (show w15.ownsRow w14.heap.size 69 1 z0 za.length (za.map (·.1)) from oz.ok (hdA z0 za) (by simp [TEnt])); exact ⟨p, q, e⟩
    have hz1 : ∃ p q, z1 = .slice p zg.length q := by obtain ⟨p, q, _, e, _⟩ := own_cell (show w15.ownsRow w14.heap.size 46 1 z1 zg.length (zg.map (·.1)) from oz.ok (hdG z1 zg) (by simp [TEnt])); exact ⟨p, q, e⟩
    obtain ⟨pz0, qz0, rfl⟩ := hz0
    obtain ⟨pz1, qz1, rfl⟩ := hz1
    clear hb15 oz dza dzg nza nzg HP14 HB14 t0 t1
    go_wp2_with fail
    refine Calls.mono HC15.out ?_
    rintro e w16 ⟨h0, h1, h2, h3, rfl, hb16, ha, hg, hn, hm, oh, hRh⟩
    obtain ⟨ph0, qh0, _, rfl, _⟩ := own_cell (show w16.ownsRow w15.heap.size 69 1 h0 ha.length (ha.map (·.1)) from oh.ok (hdA h0 ha) (by simp))
    obtain ⟨ph1, qh1, _, rfl, _⟩ := own_cell (show w16.ownsRow w15.heap.size 46 1 h1 hg.length (hg.map (·.1)) from oh.ok (hdG h1 hg) (by simp))
    obtain ⟨ph2, qh2, _, rfl, _⟩ := own_cell (show w16.ownsRow w15.heap.size 3 1 h2 hn.length (encI hn) from oh.ok (nmI h2 hn) (by simp))
    obtain ⟨ph3, qh3, _, rfl, _⟩ := own_cell (show w16.ownsRow w15.heap.size 3 1 h3 hm.length (encI hm) from oh.ok (nmI h3 hm) (by simp))
    have hbl := bel_alloc w16 (.cells #[(.slice ph0 ha.length qh0), (.slice ph1 hg.length qh1), (.slice ph2 hn.length qh2), (.slice ph3 hm.length qh3)] 48)
    have hpl := pl_of2 (fun e he => own_still (oh.ok e he) hbl)
    rw [← hRh] at hpl
    have HP17 := (show Hid _ from HST.out _ _ (bel_trans hb16 hbl) HP15.out)
    have HB17 := (show Hid _ from bel_trans HB15.out (bel_trans hb16 hbl))
    obtain ⟨k0, k1, k2, k3⟩ := four_box w16 (.slice ph0 ha.length qh0) (.slice ph1 hg.length qh1) (.slice ph2 hn.length qh2) (.slice ph3 hm.length qh3) 48
    obtain ⟨l0, l1, l2, l3⟩ := HLL.out _ HP17.out.2
    have HE17 := (show Hid _ from eqP_any R _ _ _ _ _ _ _ _ _ hpl (HPLW.out _ (fun e he => HP17.out.2 e (List.mem_cons_of_mem _ (List.mem_cons_of_mem _ (List.mem_cons_of_mem _ (List.mem_append.2 (.inl he))))))))
    clear hb16 oh hRh hbl hpl HP15 HB15 HC15
    go_wp2_with fail
    refine Calls.mono HE17.out ?_
    rintro e w18 ⟨rfl, hb18⟩
    have HP18 := (show Hid _ from HST.out _ _ hb18 HP17.out)
    have HB18 := (show Hid _ from bel_trans HB17.out hb18)
    have HC18 := (show Hid _ from HH.out w18 HP18.out.1)
    clear hb18 HP17 HB17 HE17 k0 k1 k2 k3 l0 l1 l2 l3
    obtain ⟨k0, k1, k2, k3⟩ := HKK.out w18 HP18.out.2
    go_wp2_with fail
    refine Calls.mono HC18.out ?_
    rintro e w19 ⟨rfl, hb19⟩
    have HB19 := (show Hid _ from bel_trans HB18.out hb19)
    clear hb19 k0 k1 k2 k3 HC18
    go_wp2_with fail
    go_ret
    exact ⟨rfl, HB19.out⟩
end Go.Proofs.Ytflhfimgeladaaa
