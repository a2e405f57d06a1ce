import Derived.Test.YtflhfimgeladaaaWh
import Derived.Deep.RegionHeld3
import Derived.Deep.CutRange
/-! The program: Widen. -/
namespace Go.Proofs.Ytflhfimgeladaaa
open Go.RowKit Go.Deep
set_option linter.unusedVariables false
set_option maxRecDepth 100000
set_option linter.unusedSimpArgs false

set_option maxHeartbeats 12800000 in
theorem iWid_any {S : Nat → Prop} (R : PkD) (x0 x1 x2 x3 : Value) (w : World) (h : PLN w S R x0 x1 x2 x3) (hs : PSm R) :
    Calls Try.prog 23 #[.agg #[x0, x1, x2, x3]] w fun e w' => TAns R w e w' := by
  have HA1 := (show Hid _ from fun (w' : World) (hb : Below w.heap.size w w') => areRows_any R.2.2.1 R.1.length hs.acts x2 w' (h.arow.still hb))
  have HA2 := (show Hid _ from fun (w' : World) (hb : Below w.heap.size w w') => areRows_any R.2.2.2 R.2.1.length hs.gotos x3 w' (h.grow.still hb))
  have HAG := (show Hid _ from fun (hl : R.2.2.1.length ≤ 250) (hin : R.2.2.1.all (wnB 0 ((R.1.length : Int) - 1)) = true) (w' : World) (hb : Below w.heap.size w w') => againA_sl R.1 R.2.2.1 x0 x2 w' (h.acts.still hb) (h.arow.still hb) hl hin hs.act)
  have HGG := (show Hid _ from fun (hl : R.2.2.2.length ≤ 250) (hin : R.2.2.2.all (wnB 0 ((R.2.1.length : Int) - 1)) = true) (w' : World) (hb : Below w.heap.size w w') => againI_sl R.2.1 R.2.2.2 x1 x3 w' (h.gotos.still hb) (h.grow.still hb) hl hin hs.goto)
  have HSR := (show Hid _ from fun (w' : World) (hb : Below w.heap.size w w') (S1 : Nat → Prop) (ms : List (List (Int × Int))) (u : Value) (hu : ARows w' S1 ms u) => sameRowsA_any ms R.1 u x0 w' hu (h.acts.rows.still hb))
  have HSG := (show Hid _ from fun (w' : World) (hb : Below w.heap.size w w') (S1 : Nat → Prop) (ms : List (List Int)) (u : Value) (hu : IRows w' S1 ms u) => sameRowsI_any ms R.2.1 u x1 w' hu (h.gotos.rows.still hb))
  have HSH := (show Hid _ from fun (l1 : R.2.2.1.length ≤ 250) (b1 : R.2.2.1.all (wnB 0 ((R.1.length : Int) - 1)) = true) (l2 : R.2.2.2.length ≤ 250) (b2 : R.2.2.2.all (wnB 0 ((R.2.1.length : Int) - 1)) = true) => wdT_small hs l1 b1 l2 b2)
  obtain ⟨a0, c0, a1, c1, a2, c2, a3, c3, rfl, rfl, rfl, rfl⟩ := h.pl.form
  clear h hs
  have hQ : WBx w ((w.alloc (.cells #[(.slice a0 R.1.length c0), (.slice a1 R.2.1.length c1), (.slice a2 R.2.2.1.length c2), (.slice a3 R.2.2.2.length c3)] 48)).alloc (.cells #[.slice none 0 0, .slice none 0 0] 41)) (.slice a0 R.1.length c0) (.slice a1 R.2.1.length c1) (.slice a2 R.2.2.1.length c2) (.slice a3 R.2.2.2.length c3) := by
    have r1 := box2_alloc (w.alloc (.cells #[(.slice a0 R.1.length c0), (.slice a1 R.2.1.length c1), (.slice a2 R.2.2.1.length c2), (.slice a3 R.2.2.2.length c3)] 48)) 41 (.slice none 0 0) (.slice none 0 0)
    simp only [World.size_alloc] at r1
    exact ⟨bel_trans (bel_alloc _ _) (bel_alloc _ _), by simp, (Box4.new w 48 _ _ _ _).still (bel_alloc _ _), r1⟩
  have HQ := (show Hid _ from fun (w' : World) (hb : Below ((w.alloc (.cells #[(.slice a0 R.1.length c0), (.slice a1 R.2.1.length c1), (.slice a2 R.2.2.1.length c2), (.slice a3 R.2.2.2.length c3)] 48)).alloc (.cells #[.slice none 0 0, .slice none 0 0] 41)).heap.size ((w.alloc (.cells #[(.slice a0 R.1.length c0), (.slice a1 R.2.1.length c1), (.slice a2 R.2.2.1.length c2), (.slice a3 R.2.2.2.length c3)] 48)).alloc (.cells #[.slice none 0 0, .slice none 0 0] 41)) w') => hQ.still hb)
  obtain ⟨p0, p1, p2, p3⟩ := hQ.p.cells
  have HC1 := (show Hid _ from HA1.out _ hQ.bel)
  have HN1 : Hid ((decide (R.2.2.1.length ≤ 250) && R.2.2.1.all (wnB 0 ((R.1.length : Int) - 1))) = false → wdR R = (⟨[], []⟩, 10)) := fun e => by
    show wdR R = _
    have : wdB R = false := by unfold wdB; rw [e]; rfl
    unfold wdR; rw [this]; rfl
  have HN2 : Hid ((decide (R.2.2.2.length ≤ 250) && R.2.2.2.all (wnB 0 ((R.2.1.length : Int) - 1))) = false → wdR R = (⟨[], []⟩, 10)) := fun e => by
    show wdR R = _
    have : wdB R = false := by unfold wdB; rw [e, Bool.and_false]; rfl
    unfold wdR; rw [this]; rfl
  have HN3 : Hid (evB (wdT R) = false → wdR R = (⟨[], []⟩, 10)) := fun e => by
    show wdR R = _
    have : wdB R = false := by unfold wdB; rw [e]; simp
    unfold wdR; rw [this]; rfl
  have HN4 : Hid (decide ((onc [] [] (wdT R).acts).1 = R.1) = false → wdR R = (⟨[], []⟩, 10)) := fun e => by
    show wdR R = _
    have : wdB R = false := by unfold wdB; rw [e]; simp
    unfold wdR; rw [this]; rfl
  have HN5 : Hid (decide ((onc [] [] (wdT R).gotos).1 = R.2.1) = false → wdR R = (⟨[], []⟩, 10)) := fun e => by
    show wdR R = _
    have : wdB R = false := by unfold wdB; rw [e]; simp
    unfold wdR; rw [this]; rfl
  have HYS : Hid ((decide (R.2.2.1.length ≤ 250) && R.2.2.1.all (wnB 0 ((R.1.length : Int) - 1))) = true → (decide (R.2.2.2.length ≤ 250) && R.2.2.2.all (wnB 0 ((R.2.1.length : Int) - 1))) = true → evB (wdT R) = true → decide ((onc [] [] (wdT R).acts).1 = R.1) = true → decide ((onc [] [] (wdT R).gotos).1 = R.2.1) = true → wdR R = (wdT R, 0)) := fun e1 e2 e3 e4 e5 => by
    show wdR R = _
    have : wdB R = true := by unfold wdB; rw [e1, e2, e3, e4, e5]; rfl
    unfold wdR; rw [this]; rfl
  have HLE : Hid ((decide (R.2.2.1.length ≤ 250) && R.2.2.1.all (wnB 0 ((R.1.length : Int) - 1))) = true → (decide (R.2.2.2.length ≤ 250) && R.2.2.2.all (wnB 0 ((R.2.1.length : Int) - 1))) = true → (R.2.2.1.length ≤ 250 ∧ R.2.2.1.all (wnB 0 ((R.1.length : Int) - 1)) = true) ∧ (R.2.2.2.length ≤ 250 ∧ R.2.2.2.all (wnB 0 ((R.2.1.length : Int) - 1)) = true)) := fun e1 e2 => by
    simp only [Bool.and_eq_true, decide_eq_true_eq] at e1 e2
    exact ⟨e1, e2⟩
  clear hQ HA1
  generalize (decide (R.2.2.1.length ≤ 250) && R.2.2.1.all (wnB 0 ((R.1.length : Int) - 1))) = X1 at *
  generalize (decide (R.2.2.2.length ≤ 250) && R.2.2.2.all (wnB 0 ((R.2.1.length : Int) - 1))) = X2 at *
  cases X1
  · have HR := (show Hid _ from HN1.out rfl)
    clear HN1 HN2 HN3 HN4 HN5 HYS HLE
    go_enter Try.func23, Try.ntmps23
    go_wp2_with fail
    refine Calls.mono HC1.out ?_
    rintro e w1 ⟨rfl, hb1⟩
    have HQb := (show Hid _ from HQ.out w1 hb1)
    clear hb1 p0 p1 p2 p3 HC1
    obtain ⟨⟨r0, r1⟩, z0, z1⟩ := (WBx.r HQb.out).cells
    obtain ⟨⟨s0, s1⟩, _⟩ := (((WBx.r HQb.out).set0 (.slice none 0 0)).set1 (.slice none 0 0)).cells
    have HF := (show Hid _ from ((WBx.bel HQb.out).setCell (p := ⟨w.heap.size + 1, 0, none⟩) (by show w.heap.size ≤ w.heap.size + 1; omega) (.slice none 0 0)).setCell (p := ⟨w.heap.size + 1, 1, none⟩) (by show w.heap.size ≤ w.heap.size + 1; omega) (.slice none 0 0))
    go_wp2_with fail
    refine bodyPost_ret (v := .tuple #[.agg #[.slice none 0 0, .slice none 0 0], .int .i64 10]) (by simp [results, Try.results23, go_sem, s0, s1]) rfl ?_
    exact ⟨_, _, [], [], by rw [HR.out], HF.out, tent_nil _ _, by rw [HR.out]; rfl, by rw [HR.out]; rfl⟩
  cases X2
  · have HR := (show Hid _ from HN2.out rfl)
    clear HN1 HN2 HN3 HN4 HN5 HYS HLE
    go_enter Try.func23, Try.ntmps23
    go_wp2_with fail
    refine Calls.mono HC1.out ?_
    rintro e w1 ⟨rfl, hb1⟩
    have HC2 := (show Hid _ from HA2.out w1 (WBx.bel (HQ.out w1 hb1)))
    have HQ1 := (show Hid _ from HQ.out w1 hb1)
    have HB1 := (show Hid _ from hb1)
    clear hb1 p0 p1 p2 p3 HC1
    obtain ⟨p0, p1, p2, p3⟩ := (WBx.p HQ1.out).cells
    go_wp2_with fail
    refine Calls.mono HC2.out ?_
    rintro e w2 ⟨rfl, hb2⟩
    have HQb := (show Hid _ from WBx.still HQ1.out hb2)
    clear hb2 p0 p1 p2 p3 HC2
    obtain ⟨⟨r0, r1⟩, z0, z1⟩ := (WBx.r HQb.out).cells
    obtain ⟨⟨s0, s1⟩, _⟩ := (((WBx.r HQb.out).set0 (.slice none 0 0)).set1 (.slice none 0 0)).cells
    have HF := (show Hid _ from ((WBx.bel HQb.out).setCell (p := ⟨w.heap.size + 1, 0, none⟩) (by show w.heap.size ≤ w.heap.size + 1; omega) (.slice none 0 0)).setCell (p := ⟨w.heap.size + 1, 1, none⟩) (by show w.heap.size ≤ w.heap.size + 1; omega) (.slice none 0 0))
    go_wp2_with fail
    refine bodyPost_ret (v := .tuple #[.agg #[.slice none 0 0, .slice none 0 0], .int .i64 10]) (by simp [results, Try.results23, go_sem, s0, s1]) rfl ?_
    exact ⟨_, _, [], [], by rw [HR.out], HF.out, tent_nil _ _, by rw [HR.out]; rfl, by rw [HR.out]; rfl⟩
  obtain ⟨⟨l1, b1⟩, ⟨l2, b2⟩⟩ := HLE.out rfl rfl
  have HAGc := (show Hid _ from HAG.out l1 b1)
  have HGGc := (show Hid _ from HGG.out l2 b2)
  have HSM := (show Hid _ from HSH.out l1 b1 l2 b2)
  have HYT := (show Hid _ from HYS.out rfl rfl)
  clear HN1 HN2 HYS HLE HAG HGG HSH b1 b2
  go_enter Try.func23, Try.ntmps23
  go_wp2_with fail
  refine Calls.mono HC1.out ?_
  rintro e w1 ⟨rfl, hb1⟩
  have HC2 := (show Hid _ from HA2.out w1 (WBx.bel (HQ.out w1 hb1)))
  have HQ1 := (show Hid _ from HQ.out w1 hb1)
  clear hb1 p0 p1 p2 p3 HC1 HQ HA2
  obtain ⟨p0, p1, p2, p3⟩ := (WBx.p HQ1.out).cells
  go_wp2_with fail
  refine Calls.mono HC2.out ?_
  rintro e w2 ⟨rfl, hb2⟩
  have HQ2 := (show Hid _ from WBx.still HQ1.out hb2)
  clear hb2 p0 p1 p2 p3 HC2 HQ1
  have HCQ := (show Hid _ from fun (w' : World) (hb : Below w2.heap.size w2 w') => (Box4.still (WBx.p HQ2.out) hb).cells)
  have hbd := (Below.refl w2.heap.size w2).drew
  have hbdA : Below w2.heap.size w2 (w2.alloc (.cells #[.slice none 0 0, .slice none 0 0] 41)).drew := (bel_alloc w2 _).drew
  have hS0 := HCQ.out _ hbd
  have hS1 := HCQ.out _ hbdA
  have H68 := (show Hid _ from fun (w' : World) (hb : Below w2.heap.size w2 w') => HAGc.out w' (bel_trans (WBx.bel HQ2.out) hb))
  have H69 := (show Hid _ from fun (w' : World) (hb : Below w2.heap.size w2 w') => HGGc.out w' (bel_trans (WBx.bel HQ2.out) hb))
  have HBXA := (show Hid _ from fun (w' : World) (hb : Below (w2.alloc (.cells #[.slice none 0 0, .slice none 0 0] 41)).drew.heap.size (w2.alloc (.cells #[.slice none 0 0, .slice none 0 0] 41)).drew w') => (box2_alloc w2 41 (.slice none 0 0) (.slice none 0 0)).still (bel_trans ((Below.refl _ _).drew) hb))
  clear HAGc HGGc
  go_wp2_with fail
  go_cut [4] from 24 to 34 (fun v wx => ∃ (g : Nat) (y0 y1 : Value) (ya : List (Value × List (Int × Int))) (yg : List (Value × List Int)), v = .pointer (some ⟨g, 0, none⟩) ∧ Hid (CT R w2 wx g y0 y1 ya yg))
  case first =>
    go_region_held3 (fun w' => w'.cell? ⟨w.heap.size, 0, none⟩ = some (.slice a0 R.1.length c0) ∧ w'.cell? ⟨w.heap.size, 1, none⟩ = some (.slice a1 R.2.1.length c1) ∧ w'.cell? ⟨w.heap.size, 2, none⟩ = some (.slice a2 R.2.2.1.length c2) ∧ w'.cell? ⟨w.heap.size, 3, none⟩ = some (.slice a3 R.2.2.2.length c3)) ((show Four _ w.heap.size (.slice a0 R.1.length c0) (.slice a1 R.2.1.length c1) (.slice a2 R.2.2.1.length c2) (.slice a3 R.2.2.2.length c3); (first | exact hS0 | exact hS1 | exact hS3 | exact hS3A | exact hS4 | exact hS4A | exact hS5 | exact hS6 | exact hS7 | fail)))
      (first
      | (go_at_call 9999)
      | (go_at_call 68; refine Calls.mono (H68.out _ ?_) ?_; (first | exact hbd | exact hbdA | fail); rintro e w3 ⟨yp0, yq0, ya, rfl, hb3, oy, ny, dy⟩; have hbw3 : Below w2.heap.size w2 w3 := (by first | exact bel_trans hbd hb3 | exact bel_trans hbdA hb3); have hbw3A := bel_trans hbw3 (bel_alloc w3 (.cells #[.slice none 0 0, .slice none 0 0] 41)); have hS3 := HCQ.out _ hbw3; have hS3A := HCQ.out _ hbw3A; dsimp only)
      | (go_at_call 69; refine Calls.mono (H69.out _ ?_) ?_; (first | exact hbw3 | exact hbw3A | fail); rintro e w4 ⟨yp1, yq1, yg, rfl, hb4, og, ng, dg⟩; have hbw4 : Below w2.heap.size w2 w4 := (by first | exact bel_trans hbw3 hb4 | exact bel_trans hbw3A hb4); have hbw4A := bel_trans hbw4 (bel_alloc w4 (.cells #[.slice none 0 0, .slice none 0 0] 41)); (try (have bx4 : Box2 w4 w2.heap.size 41 (.slice none 0 0) (.slice none 0 0) := (HBXA.out w3 hb3).still hb4; have bc4 := bx4.cells; obtain ⟨⟨e0, e1⟩, f0, f1⟩ := bc4)); (try (have bx4 : Box2 w4 w3.heap.size 41 (.slice none 0 0) (.slice none 0 0) := (box2_alloc w3 41 (.slice none 0 0) (.slice none 0 0)).still hb4; have bc4 := bx4.cells; obtain ⟨⟨e0, e1⟩, f0, f1⟩ := bc4)); have hS4 := HCQ.out _ hbw4; have hS4A := HCQ.out _ hbw4A; have hS5 := HCQ.out _ (bel_trans hbw4 (bel_alloc w4 (.cells #[(Value.slice yp0 ya.length yq0), (Value.slice yp1 yg.length yq1)] 41))); have hS6 := HCQ.out _ ((hbw4.setCell (p := ⟨w2.heap.size, 0, none⟩) (Nat.le_refl _) (Value.slice yp0 ya.length yq0)).setCell (p := ⟨w2.heap.size, 1, none⟩) (Nat.le_refl _) (Value.slice yp1 yg.length yq1)); have hS7 := HCQ.out _ ((hbw4.setCell (p := ⟨w3.heap.size, 0, none⟩) hbw3.size (Value.slice yp0 ya.length yq0)).setCell (p := ⟨w3.heap.size, 1, none⟩) hbw3.size (Value.slice yp1 yg.length yq1)); have hb34 : Below w3.heap.size w3 w4 := (by first | exact hb4 | exact bel_trans (bel_alloc w3 _) hb4); dsimp only))
    all_goals
      go_wp2_with fail
      go_meet
      first
        | (refine ⟨_, _, _, ya, yg, rfl, CT.late hbw4 (ct_own oy hb34 og ?_ hb3.size ?_).1 dy dg ny ng⟩
           · first | exact hbd.size | exact hbdA.size
           · first | exact Nat.le_refl _ | exact (bel_alloc w3 _).size)
        | (refine ⟨_, _, _, ya, yg, rfl, CT.early (g := w2.heap.size) hbw4 (Nat.le_refl _) bx4 (ct_own oy hb34 og hbdA.size hb3.size (Nat.le_refl _)).1 ((ct_own oy hb34 og hbdA.size hb3.size (Nat.le_refl _)).2 _ ?_ ?_) dy dg ny ng⟩
           · intro k hk _
             have hk' : w2.heap.size + 1 ≤ k := by simpa using hk
             omega
           · intro k hk
             have h9 := hb3.size
             have h9' : w2.heap.size + 1 ≤ w3.heap.size := by simpa using h9
             omega)
        | (refine ⟨_, _, _, ya, yg, rfl, CT.early (g := w3.heap.size) hbw4 hbw3.size bx4 (ct_own oy hb34 og hbd.size hb3.size (bel_alloc w3 _).size).1 ((ct_own oy hb34 og hbd.size hb3.size (bel_alloc w3 _).size).2 _ ?_ ?_) dy dg ny ng⟩
           · intro k _ hk
             omega
           · intro k hk
             have hk' : w3.heap.size + 1 ≤ k := by simpa using hk
             omega)
  case rest =>
    obtain ⟨g, y0, y1, ya, yg, rfl, HCT⟩ := hcut
    obtain ⟨yp0, yq0, _, rfl, _⟩ := own_cell (show wc.ownsRow w2.heap.size 69 1 y0 ya.length (ya.map (·.1)) from (CT.own HCT.out).ok (hdA y0 ya) (by simp [TEnt]))
    obtain ⟨yp1, yq1, _, rfl, _⟩ := own_cell (show wc.ownsRow w2.heap.size 46 1 y1 yg.length (yg.map (·.1)) from (CT.own HCT.out).ok (hdG y1 yg) (by simp [TEnt]))
    have HT := (show Hid (TLiesN wc (fun b => w2.heap.size ≤ b) (wdT R) (.slice yp0 ya.length yq0) (.slice yp1 yg.length yq1)) from ⟨by rw [← HCT.out.da]; exact tOwn_arows (fun e he => HCT.out.own.ok e he) HCT.out.na, by rw [← HCT.out.dg]; exact tOwn_irows (fun e he => HCT.out.own.ok e he) HCT.out.ng⟩)
    have hcs := iShr_any (wdT R) _ _ wc HT.out HSM.out
    unfold PAns at hcs
    obtain ⟨⟨q0, q1⟩, _⟩ := (CT.box HCT.out).cells
    have HQ3 := (show Hid _ from WBx.still HQ2.out (CT.bel HCT.out))
    clear hS0 hS1 hbd hbdA H68 H69 HBXA HCQ HT
    cases he : evB (wdT R)
    · have HR := (show Hid _ from HN3.out he)
      rw [pkR_no he] at hcs
      have HCS := (show Hid _ from hcs)
      clear hcs he HN3 HN4 HN5 HYT
      go_wp2_with fail
      refine Calls.mono HCS.out ?_
      rintro e w5 ⟨u0, u1, u2, u3, rfl, hb5, ra, rg, na, ng, ho, hq⟩
      obtain ⟨up0, uq0, _, rfl, _⟩ := own_cell (show w5.ownsRow wc.heap.size 69 1 u0 ra.length (ra.map (·.1)) from ho.ok _ (List.mem_cons_self ..))
      obtain ⟨up1, uq1, _, rfl, _⟩ := own_cell (show w5.ownsRow wc.heap.size 46 1 u1 rg.length (rg.map (·.1)) from ho.ok _ (List.mem_cons_of_mem _ (List.mem_cons_self ..)))
      obtain ⟨up2, uq2, _, rfl, _⟩ := own_cell (show w5.ownsRow wc.heap.size 3 1 u2 na.length (encI na) from ho.ok _ (List.mem_cons_of_mem _ (List.mem_cons_of_mem _ (List.mem_cons_self ..))))
      obtain ⟨up3, uq3, _, rfl, _⟩ := own_cell (show w5.ownsRow wc.heap.size 3 1 u3 ng.length (encI ng) from ho.ok _ (List.mem_cons_of_mem _ (List.mem_cons_of_mem _ (List.mem_cons_of_mem _ (List.mem_cons_self ..)))))
      have HQb := (show Hid _ from WBx.still (WBx.still HQ3.out hb5) (bel_alloc w5 (.cells #[(.slice up0 ra.length uq0), (.slice up1 rg.length uq1), (.slice up2 na.length uq2), (.slice up3 ng.length uq3)] 48)))
      have i9 : ((1 : Int) != 0) = true := by decide
      clear hb5 ho hq q0 q1 HCS
      obtain ⟨⟨r0, r1⟩, z0, z1⟩ := (WBx.r HQb.out).cells
      obtain ⟨⟨s0, s1⟩, _⟩ := (((WBx.r HQb.out).set0 (.slice none 0 0)).set1 (.slice none 0 0)).cells
      have HF := (show Hid _ from ((WBx.bel HQb.out).setCell (p := ⟨w.heap.size + 1, 0, none⟩) (by show w.heap.size ≤ w.heap.size + 1; omega) (.slice none 0 0)).setCell (p := ⟨w.heap.size + 1, 1, none⟩) (by show w.heap.size ≤ w.heap.size + 1; omega) (.slice none 0 0))
      go_wp2_with fail
      refine bodyPost_ret (v := .tuple #[.agg #[.slice none 0 0, .slice none 0 0], .int .i64 10]) (by simp [results, Try.results23, go_sem, s0, s1]) rfl ?_
      exact ⟨_, _, [], [], by rw [HR.out], HF.out, tent_nil _ _, by rw [HR.out]; rfl, by rw [HR.out]; rfl⟩
    have HEV := (show Hid _ from he)
    rw [pkR_yes he] at hcs
    have HCS := (show Hid _ from hcs)
    clear hcs he HN3
    go_wp2_with fail
    refine Calls.mono HCS.out ?_
    rintro e w5 ⟨u0, u1, u2, u3, rfl, hb5, ra, rg, na, ng, ho, hq⟩
    obtain ⟨up0, uq0, _, rfl, _⟩ := own_cell (show w5.ownsRow wc.heap.size 69 1 u0 ra.length (ra.map (·.1)) from ho.ok _ (List.mem_cons_self ..))
    obtain ⟨up1, uq1, _, rfl, _⟩ := own_cell (show w5.ownsRow wc.heap.size 46 1 u1 rg.length (rg.map (·.1)) from ho.ok _ (List.mem_cons_of_mem _ (List.mem_cons_self ..)))
    obtain ⟨up2, uq2, _, rfl, _⟩ := own_cell (show w5.ownsRow wc.heap.size 3 1 u2 na.length (encI na) from ho.ok _ (List.mem_cons_of_mem _ (List.mem_cons_of_mem _ (List.mem_cons_self ..))))
    obtain ⟨up3, uq3, _, rfl, _⟩ := own_cell (show w5.ownsRow wc.heap.size 3 1 u3 ng.length (encI ng) from ho.ok _ (List.mem_cons_of_mem _ (List.mem_cons_of_mem _ (List.mem_cons_of_mem _ (List.mem_cons_self ..)))))
    have hb6 := bel_trans hb5 (bel_alloc w5 (.cells #[(.slice up0 ra.length uq0), (.slice up1 rg.length uq1), (.slice up2 na.length uq2), (.slice up3 ng.length uq3)] 48))
    have ho6 := ho.still (bel_alloc w5 (.cells #[(.slice up0 ra.length uq0), (.slice up1 rg.length uq1), (.slice up2 na.length uq2), (.slice up3 ng.length uq3)] 48))
    have hq1 : ra.map (·.2) = (onc [] [] (wdT R).acts).1 := (congrArg (fun z : PkD => z.1) hq).symm
    have hq2 : rg.map (·.2) = (onc [] [] (wdT R).gotos).1 := (congrArg (fun z : PkD => z.2.1) hq).symm
    have HU0 := (show Hid _ from fun (w' : World) (hb : Below (w5.alloc (.cells #[(.slice up0 ra.length uq0), (.slice up1 rg.length uq1), (.slice up2 na.length uq2), (.slice up3 ng.length uq3)] 48)).heap.size (w5.alloc (.cells #[(.slice up0 ra.length uq0), (.slice up1 rg.length uq1), (.slice up2 na.length uq2), (.slice up3 ng.length uq3)] 48)) w') => (show ARows w' (fun b => wc.heap.size ≤ b) (onc [] [] (wdT R).acts).1 (.slice up0 ra.length uq0) from by rw [← hq1]; exact own_arows ((ho6.still hb).ok _ (List.mem_cons_self ..)) (fun p hp => (ho6.still hb).ok _ (by simp only [List.mem_cons, List.mem_append]; exact .inr (.inr (.inr (.inr (.inl (List.mem_map.2 ⟨p, hp, rfl⟩))))))) ))
    have HU1 := (show Hid _ from fun (w' : World) (hb : Below (w5.alloc (.cells #[(.slice up0 ra.length uq0), (.slice up1 rg.length uq1), (.slice up2 na.length uq2), (.slice up3 ng.length uq3)] 48)).heap.size (w5.alloc (.cells #[(.slice up0 ra.length uq0), (.slice up1 rg.length uq1), (.slice up2 na.length uq2), (.slice up3 ng.length uq3)] 48)) w') => (show IRows w' (fun b => wc.heap.size ≤ b) (onc [] [] (wdT R).gotos).1 (.slice up1 rg.length uq1) from by rw [← hq2]; exact own_irows ((ho6.still hb).ok _ (List.mem_cons_of_mem _ (List.mem_cons_self ..))) (fun p hp => (ho6.still hb).ok _ (by simp only [List.mem_cons, List.mem_append]; exact .inr (.inr (.inr (.inr (.inr (List.mem_map.2 ⟨p, hp, rfl⟩))))))) ))
    have HP6 := (show Hid _ from fun (w' : World) (hb : Below (w5.alloc (.cells #[(.slice up0 ra.length uq0), (.slice up1 rg.length uq1), (.slice up2 na.length uq2), (.slice up3 ng.length uq3)] 48)).heap.size (w5.alloc (.cells #[(.slice up0 ra.length uq0), (.slice up1 rg.length uq1), (.slice up2 na.length uq2), (.slice up3 ng.length uq3)] 48)) w') => ((Box4.new w5 48 (.slice up0 ra.length uq0) (.slice up1 rg.length uq1) (.slice up2 na.length uq2) (.slice up3 ng.length uq3)).still hb).cells)
    have HB6 := (show Hid _ from hb6)
    have HQ6 := (show Hid _ from WBx.still HQ3.out hb6)
    have HC6 := (show Hid _ from HSR.out _ (WBx.bel HQ6.out) _ _ _ (HU0.out _ (Below.refl _ _)))
    have HSGc := (show Hid _ from fun (w' : World) (hb : Below (w5.alloc (.cells #[(.slice up0 ra.length uq0), (.slice up1 rg.length uq1), (.slice up2 na.length uq2), (.slice up3 ng.length uq3)] 48)).heap.size (w5.alloc (.cells #[(.slice up0 ra.length uq0), (.slice up1 rg.length uq1), (.slice up2 na.length uq2), (.slice up3 ng.length uq3)] 48)) w') => HSG.out w' (bel_trans (WBx.bel HQ6.out) hb) _ _ _ (HU1.out w' hb))
    obtain ⟨p0, p1, p2, p3⟩ := (WBx.p HQ6.out).cells
    obtain ⟨k0, k1, k2, k3⟩ := HP6.out _ (Below.refl _ _)
    clear hb5 hb6 ho ho6 hq hq1 hq2 q0 q1 HCS HU0 HU1 HSR HSG HQ3
    generalize decide ((onc [] [] (wdT R).acts).1 = R.1) = X4 at *
    generalize decide ((onc [] [] (wdT R).gotos).1 = R.2.1) = X5 at *
    cases X4
    · have HR := (show Hid _ from HN4.out rfl)
      clear HN4 HN5 HYT HSGc
      go_wp2_with fail
      refine Calls.mono HC6.out ?_
      rintro e w7 ⟨rfl, hb7⟩
      have HQb := (show Hid _ from WBx.still HQ6.out hb7)
      clear hb7 HC6 p0 p1 p2 p3 k0 k1 k2 k3
      obtain ⟨⟨r0, r1⟩, z0, z1⟩ := (WBx.r HQb.out).cells
      obtain ⟨⟨s0, s1⟩, _⟩ := (((WBx.r HQb.out).set0 (.slice none 0 0)).set1 (.slice none 0 0)).cells
      have HF := (show Hid _ from ((WBx.bel HQb.out).setCell (p := ⟨w.heap.size + 1, 0, none⟩) (by show w.heap.size ≤ w.heap.size + 1; omega) (.slice none 0 0)).setCell (p := ⟨w.heap.size + 1, 1, none⟩) (by show w.heap.size ≤ w.heap.size + 1; omega) (.slice none 0 0))
      go_wp2_with fail
      refine bodyPost_ret (v := .tuple #[.agg #[.slice none 0 0, .slice none 0 0], .int .i64 10]) (by simp [results, Try.results23, go_sem, s0, s1]) rfl ?_
      exact ⟨_, _, [], [], by rw [HR.out], HF.out, tent_nil _ _, by rw [HR.out]; rfl, by rw [HR.out]; rfl⟩
    go_wp2_with fail
    refine Calls.mono HC6.out ?_
    rintro e w7 ⟨rfl, hb7⟩
    have HQ7 := (show Hid _ from WBx.still HQ6.out hb7)
    have HB7 := (show Hid _ from bel_trans HB6.out hb7)
    have HC7 := (show Hid _ from HSGc.out w7 hb7)
    clear p0 p1 p2 p3 k0 k1 k2 k3
    obtain ⟨p0, p1, p2, p3⟩ := (WBx.p HQ7.out).cells
    obtain ⟨k0, k1, k2, k3⟩ := HP6.out w7 hb7
    clear hb7 HC6 HQ6 HB6 HP6 HSGc
    cases X5
    · have HR := (show Hid _ from HN5.out rfl)
      clear HN4 HN5 HYT
      go_wp2_with fail
      refine Calls.mono HC7.out ?_
      rintro e w8 ⟨rfl, hb8⟩
      have HQb := (show Hid _ from WBx.still HQ7.out hb8)
      clear hb8 HC7 p0 p1 p2 p3 k0 k1 k2 k3
      obtain ⟨⟨r0, r1⟩, z0, z1⟩ := (WBx.r HQb.out).cells
      obtain ⟨⟨s0, s1⟩, _⟩ := (((WBx.r HQb.out).set0 (.slice none 0 0)).set1 (.slice none 0 0)).cells
      have HF := (show Hid _ from ((WBx.bel HQb.out).setCell (p := ⟨w.heap.size + 1, 0, none⟩) (by show w.heap.size ≤ w.heap.size + 1; omega) (.slice none 0 0)).setCell (p := ⟨w.heap.size + 1, 1, none⟩) (by show w.heap.size ≤ w.heap.size + 1; omega) (.slice none 0 0))
      go_wp2_with fail
      refine bodyPost_ret (v := .tuple #[.agg #[.slice none 0 0, .slice none 0 0], .int .i64 10]) (by simp [results, Try.results23, go_sem, s0, s1]) rfl ?_
      exact ⟨_, _, [], [], by rw [HR.out], HF.out, tent_nil _ _, by rw [HR.out]; rfl, by rw [HR.out]; rfl⟩
    have HR := (show Hid _ from HYT.out HEV.out (by trivial) (by trivial))
    clear HN4 HN5 HYT HEV
    go_wp2_with fail
    refine Calls.mono HC7.out ?_
    rintro e w8 ⟨rfl, hb8⟩
    have HQ8 := (show Hid _ from WBx.still HQ7.out hb8)
    have hb9 := bel_trans HB7.out hb8
    have hbx := (CT.box HCT.out).still hb9
    have hg2 : w.heap.size + 1 < w2.heap.size := (WBx.sz HQ2.out)
    have ho9 := ((((CT.own HCT.out).still hb9).set (o := 0) (u := (.slice yp0 ya.length yq0)) hg2).set (o := 1) (u := (.slice yp1 yg.length yq1)) hg2).base (B' := w.heap.size) (by omega)
    have hb10 := ((WBx.bel HQ8.out).setCell (p := ⟨w.heap.size + 1, 0, none⟩) (by show w.heap.size ≤ w.heap.size + 1; omega) (.slice yp0 ya.length yq0)).setCell (p := ⟨w.heap.size + 1, 1, none⟩) (by show w.heap.size ≤ w.heap.size + 1; omega) (.slice yp1 yg.length yq1)
    obtain ⟨⟨q0, q1⟩, _⟩ := hbx.cells
    obtain ⟨⟨r0, r1⟩, z0, z1⟩ := (WBx.r HQ8.out).cells
    obtain ⟨⟨s0, s1⟩, _⟩ := (((WBx.r HQ8.out).set0 (.slice yp0 ya.length yq0)).set1 (.slice yp1 yg.length yq1)).cells
    have HF := (show Hid _ from (⟨hb10, ho9, HCT.out.da, HCT.out.dg⟩ : _ ∧ _ ∧ _ ∧ _))
    clear hb8 hb9 hbx hg2 ho9 hb10 HC7 p0 p1 p2 p3 k0 k1 k2 k3 HQ7 HB7 HQ8
    go_wp2_with fail
    refine bodyPost_ret (v := .tuple #[.agg #[(.slice yp0 ya.length yq0), (.slice yp1 yg.length yq1)], .int .i64 0]) (by simp [results, Try.results23, go_sem, s0, s1]) rfl ?_
    exact ⟨_, _, ya, yg, by rw [HR.out], HF.out.1, HF.out.2.1, by rw [HR.out]; exact HF.out.2.2.1, by rw [HR.out]; exact HF.out.2.2.2⟩
end Go.Proofs.Ytflhfimgeladaaa
