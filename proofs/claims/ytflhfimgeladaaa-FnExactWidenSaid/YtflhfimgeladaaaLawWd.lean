import Derived.Test.YtflhfimgeladaaaQq
import Derived.Test.YtflhfimgeladaaaLawSk
import Derived.Test.YtflhfimgeladaaaWk
import Derived.Test.YtflhfimgeladaaaWi
/-! Marks of a table, read again. -/
namespace Go.Proofs.Ytflhfimgeladaaa
open Go.RowKit Go.Deep
set_option linter.unusedVariables false
set_option maxRecDepth 100000
set_option linter.unusedSimpArgs false

/-- A table that is marked. -/
def TMk (k : Nat) (u0 u1 : Value) (ra : List (Value × List (Int × Int))) (rg : List (Value × List Int)) : List Ent :=
  [hdA u0 ra] ++ (mkE k (ra.map entA) ++ ([hdG u1 rg] ++ mkE (k + tot (ra.map entA)) (rg.map entI)))
set_option maxHeartbeats 3200000 in
theorem markTM_any (B : Nat) (u0 u1 : Value) (ra : List (Value × List (Int × Int))) (rg : List (Value × List Int)) (fs : List Ent) (w : World) (h : Own w B (TEnt u0 u1 ra rg fs)) (hB : B ≤ w.heap.size) (hla : ra.length ≤ 1048576) (hlg : rg.length ≤ 1048576) (hsa : ∀ p ∈ ra, p.2.length ≤ 1048576) (hsg : ∀ p ∈ rg, p.2.length ≤ 1048576) :
    Calls Try.prog 17 #[.agg #[u0, u1], .int .i64 1] w fun e w' => e = .returned (.int .i64 (1 + tot (ra.map entA) + tot (rg.map entI) : Nat)) ∧ Below B w w' ∧ (∀ e ∈ TMk 1 u0 u1 ra rg, e.ok w' B) ∧ ∀ e ∈ fs, e.ok w' B := by
  have ho1 : Own (w.alloc (.cells #[u0, u1] 41)) B (bx 41 2 w.heap.size [u0, u1] :: TEnt u0 u1 ra rg fs) := h.box #[u0, u1] hB rfl
  have hb1 : Below B w (w.alloc (.cells #[u0, u1] 41)) := (bel_alloc _ _).mono hB
  have ho2 : Own (w.alloc (.cells #[u0, u1] 41)) B ([hdA u0 ra] ++ (ra.map entA ++ ([hdG u1 rg] ++ (rg.map entI ++ (fs ++ [bx 41 2 w.heap.size [u0, u1]]))))) := by
    have := (show Own _ B ([bx 41 2 w.heap.size [u0, u1]] ++ TEnt u0 u1 ra rg fs) from ho1).rot
    simpa [TEnt, List.append_assoc] using this
  have HC1 := (show Hid _ from markRA_any B 1 u0 ra ([hdG u1 rg] ++ (rg.map entI ++ (fs ++ [bx 41 2 w.heap.size [u0, u1]]))) (w.alloc (.cells #[u0, u1] 41)) ho2 hla hsa (by simp; omega) (by omega))
  have htA : tot (ra.map entA) ≤ 2199023255552 := by
    have h1 := tot_le (es := ra.map entA) (m := 2097152) (fun e he => by
      obtain ⟨p, hp, rfl⟩ := List.mem_map.1 he
      have := hsa p hp
      show (encA p.2).length ≤ _
      rw [encA_len]; omega)
    simp only [List.length_map] at h1
    omega
  have HC2 := (show Hid _ from fun (w' : World) (hB' : B ≤ w'.heap.size) (m : Nat) (hm : m ≤ 1 + 2199023255552) (gs : List Ent) (ho : Own w' B (hdG u1 rg :: (rg.map entI ++ gs))) => markRI_any B m u1 rg gs w' ho hlg hsg hB' (by omega))
  have hA0 : w.ownsRow B 69 1 u0 ra.length (ra.map (·.1)) := h.ok (hdA u0 ra) (by simp [TEnt])
  have hG0 : w.ownsRow B 46 1 u1 rg.length (rg.map (·.1)) := h.ok (hdG u1 rg) (by simp [TEnt])
  have HBX := (show Hid _ from fun (w' : World) (gs : List Ent) (ho : Own w' B gs) (hm : bx 41 2 w.heap.size [u0, u1] ∈ gs) => (⟨bx_cell (i := 0) (ho.ok _ hm) rfl, bx_cell (i := 1) (ho.ok _ hm) rfl⟩ : w'.cell? ⟨w.heap.size, 0, none⟩ = some u0 ∧ w'.cell? ⟨w.heap.size, 1, none⟩ = some u1))
  obtain ⟨c0, c1⟩ := HBX.out _ _ ho1 (List.mem_cons_self ..)
  obtain ⟨p0, q0, _, rfl, _⟩ := own_cell hA0
  obtain ⟨p1, q1, _, rfl, _⟩ := own_cell hG0
  have HB1 := (show Hid _ from hb1)
  clear h ho1 ho2 hb1 hA0 hG0
  have HMK : Hid (∀ e, e ∈ TMk 1 (.slice p0 ra.length q0) (.slice p1 rg.length q1) ra rg → e = hdA (.slice p0 ra.length q0) ra ∨ e ∈ mkE 1 (ra.map entA) ∨ e = hdG (.slice p1 rg.length q1) rg ∨ e ∈ mkE (1 + tot (ra.map entA)) (rg.map entI)) := fun e he => by
    simp only [TMk, List.mem_append, List.mem_singleton] at he
    exact he
  generalize hPM : TMk 1 (.slice p0 ra.length q0) (.slice p1 rg.length q1) ra rg = PM at *
  clear hPM
  generalize tot (ra.map entA) = tA at *
  go_enter Try.func17, Try.ntmps17
  go_wp2_with fail
  refine Calls.mono HC1.out ?_
  rintro e w1 ⟨rfl, hb1, ho1⟩
  have ho2 := (show Own w1 B ([hdA (.slice p0 ra.length q0) ra] ++ (mkE 1 (ra.map entA) ++ ([hdG (.slice p1 rg.length q1) rg] ++ (rg.map entI ++ (fs ++ [bx 41 2 w.heap.size [.slice p0 ra.length q0, .slice p1 rg.length q1]]))))) from ho1).turn4
  clear c0 c1
  obtain ⟨c0, c1⟩ := HBX.out w1 _ ho1 (by simp)
  have HB2 := (show Hid _ from HB1.out.trans hb1)
  have HC3 := (show Hid _ from HC2.out w1 (Nat.le_trans hB HB2.out.size) (1 + tA) (by omega) _ ho2)
  clear ho1 ho2 hb1 HC1
  obtain ⟨M, hM⟩ : ∃ M, 1 + tA = M := ⟨_, rfl⟩
  rw [hM] at HC3 HMK ⊢
  have HM1 := (show Hid _ from hM); clear hM
  go_wp2_with fail
  refine Calls.mono HC3.out ?_
  rintro e w2 ⟨rfl, hb2, ho2⟩
  have HF := (show Hid _ from (⟨HB2.out.trans hb2, fun e he => by
      rcases HMK.out e he with rfl | h | rfl | h
      · exact ho2.ok _ (by simp)
      · exact ho2.ok _ (by simp [h])
      · exact ho2.ok _ (by simp)
      · exact ho2.ok _ (by simp [h]), fun e he => ho2.ok e (by simp [he])⟩ : Below B w w2 ∧ (∀ e ∈ PM, e.ok w2 B) ∧ ∀ e ∈ fs, e.ok w2 B))
  clear hb2 ho2 c0 c1 HC3
  obtain ⟨M2, hM2⟩ : ∃ M2, M + tot (rg.map entI) = M2 := ⟨_, rfl⟩
  rw [hM2]
  have HM2 := (show Hid _ from hM2); clear hM2
  go_wp2_with fail
  go_ret
  exact ⟨by rw [HM1.out, HM2.out]; rfl, HF.out⟩
set_option maxHeartbeats 3200000 in
theorem heldT_any (B : Nat) (u0 u1 : Value) (ra : List (Value × List (Int × Int))) (rg : List (Value × List Int)) (w : World) (h : ∀ e ∈ TMk 1 u0 u1 ra rg, e.ok w B) (hla : ra.length ≤ 1048576) (hlg : rg.length ≤ 1048576) (hsa : ∀ p ∈ ra, p.2.length ≤ 1048576) (hsg : ∀ p ∈ rg, p.2.length ≤ 1048576) :
    Calls Try.prog 24 #[.agg #[u0, u1], .int .i64 1] w fun e w' => e = .returned (.int .i64 (1 + tot (ra.map entA) + tot (rg.map entI) : Nat)) ∧ Below w.heap.size w w' := by
  have hA0 : w.ownsRow B 69 1 u0 ra.length (ra.map (·.1)) := h (hdA u0 ra) (by simp [TMk])
  have hG0 : w.ownsRow B 46 1 u1 rg.length (rg.map (·.1)) := h (hdG u1 rg) (by simp [TMk])
  have hrA : ∀ e ∈ mkE 1 (ra.map entA), e.ok w B := fun e he => h e (by simp [TMk, he])
  have hrG : ∀ e ∈ mkE (1 + tot (ra.map entA)) (rg.map entI), e.ok w B := fun e he => h e (by simp [TMk, he])
  have htA := totA_le hla hsa
  have htG := totI_le hlg hsg
  have hb := bel_alloc w (.cells #[u0, u1] 41)
  have HC1 := (show Hid _ from heldRA_any B 1 u0 ra (w.alloc (.cells #[u0, u1] 41)) (own_still hA0 hb) (fun e he => own_still (hrA e he) hb) hla hsa (by omega))
  have HC2 := (show Hid _ from heldRI_any B (1 + tot (ra.map entA)) u1 rg (w.alloc (.cells #[u0, u1] 41)) (own_still hG0 hb) (fun e he => own_still (hrG e he) hb) hlg hsg (by omega))
  obtain ⟨⟨c0, c1⟩, _⟩ := (box2_alloc w 41 u0 u1).cells
  have HB := (show Hid _ from hb)
  obtain ⟨p0, q0, _, rfl, _⟩ := own_cell hA0
  obtain ⟨p1, q1, _, rfl, _⟩ := own_cell hG0
  clear h hb hA0 hG0 hrA hrG
  generalize tot (ra.map entA) = tA at *
  generalize tot (rg.map entI) = tG at *
  obtain ⟨M1, hM1⟩ : ∃ M, 1 + tA = M := ⟨_, rfl⟩
  rw [hM1] at HC1 HC2 ⊢
  obtain ⟨M2, hM2⟩ : ∃ M, M1 + tG = M := ⟨_, rfl⟩
  rw [hM2] at HC2 ⊢
  have s1 : ¬ ((M1 : Int) < 0) := by omega
  have s2 : ¬ ((M2 : Int) < 0) := by omega
  clear hM1 hM2 htA htG
  go_enter Try.func24, Try.ntmps24
  go_wp2_with fail
  refine Calls.mono HC1.out ?_
  rintro e w1 ⟨rfl, rfl⟩
  go_wp2_with fail
  refine Calls.mono HC2.out ?_
  rintro e w1 ⟨rfl, rfl⟩
  clear c0 c1
  go_wp2_with fail
  go_ret
  exact ⟨rfl, HB.out⟩
end Go.Proofs.Ytflhfimgeladaaa

/-! The law FnExactWiden, walked. -/
namespace Go.Proofs.Ytflhfimgeladaaa
open Go.RowKit Go.Deep
set_option linter.unusedVariables false
set_option maxRecDepth 100000
set_option linter.unusedSimpArgs false

theorem tl_of {w : World} {B : Nat} {u0 u1 : Value} {ra : List (Value × List (Int × Int))} {rg : List (Value × List Int)} (h : ∀ e ∈ TEnt u0 u1 ra rg [], e.ok w B) : TLies w (fun b => B ≤ b) ⟨ra.map (·.2), rg.map (·.2)⟩ u0 u1 :=
  ⟨own_arows (h (hdA u0 ra) (by simp [TEnt])) (fun p hp => h _ (by simp only [TEnt, List.mem_append]; exact .inr (.inl (List.mem_map.2 ⟨p, hp, rfl⟩)))), own_irows (h (hdG u1 rg) (by simp [TEnt])) (fun p hp => h _ (by simp only [TEnt, List.mem_append]; exact .inr (.inr (.inr (.inl (List.mem_map.2 ⟨p, hp, rfl⟩))))))⟩
theorem pn_of {w : World} {B : Nat} {u0 u1 u2 u3 : Value} {ra : List (Value × List (Int × Int))} {rg : List (Value × List Int)} {R : PkD} (h : ∀ e ∈ PEnt u0 u1 u2 u3 ra rg R.2.2.1 R.2.2.2 [], e.ok w B) (da : ra.map (·.2) = R.1) (dg : rg.map (·.2) = R.2.1) (na : ∀ p ∈ ra, ∃ ad c, p.1 = .slice (some ad) p.2.length c) (ng : ∀ p ∈ rg, ∃ ad c, p.1 = .slice (some ad) p.2.length c) : PLN w (fun b => B ≤ b) R u0 u1 u2 u3 := by
  have ht : ∀ e ∈ TEnt u0 u1 ra rg [], e.ok w B := fun e he => h e (by
    simp only [TEnt, PEnt, List.mem_append, List.append_nil] at he ⊢
    rcases he with he | he | he | he
    · exact .inl he
    · exact .inr (.inl he)
    · exact .inr (.inr (.inl he))
    · exact .inr (.inr (.inr (.inl he))))
  have hp := pl_of h
  exact ⟨by rw [← da]; exact tOwn_arows ht na, by rw [← dg]; exact tOwn_irows ht ng, hp.arow, hp.grow⟩
theorem own_fs {w w' : World} {B : Nat} {es fs : List Ent} (h : Own w B es) (hs : fs.Sublist es) (hf : ∀ e ∈ fs, e.ok w' B) : Own w' B fs := ⟨hf, h.ne.sublist hs⟩
theorem wd_small {R : PkD} (hs : PSm R) : (wdR R).1.acts.length ≤ 1048576 ∧ (wdR R).1.gotos.length ≤ 1048576 ∧ (∀ r ∈ (wdR R).1.acts, r.length ≤ 1048576) ∧ ∀ r ∈ (wdR R).1.gotos, r.length ≤ 1048576 := by
  unfold wdR
  split
  · rename_i h
    unfold wdB at h
    simp only [Bool.and_eq_true, decide_eq_true_eq] at h
    have hh := wdT_small hs h.1.1.1 h.1.1.2 h.1.2.1 h.1.2.2
    exact ⟨hh.acts, hh.gotos, small_mem hh.act, small_mem hh.goto⟩
  · simp
/-- What is alive once all answers are there. -/
def AliveW (ga gw gx gg : Nat) (x0 x1 x2 x3 w0 w1 y0 y1 y2 y3 g0 g1 : Value) (wa : List (Value × List (Int × Int))) (wg : List (Value × List Int)) (ya : List (Value × List (Int × Int))) (yg : List (Value × List Int)) (yn ym : List Int) (xa : List (Value × List (Int × Int))) (xg : List (Value × List Int)) : List Ent :=
  bx 41 2 gg [g0, g1] :: ((bx 48 4 gx [y0, y1, y2, y3] :: ((bx 41 2 gw [w0, w1] :: ([bx 56 4 ga [x0, x1, x2, x3]] ++ TEnt w0 w1 wa wg [])) ++ PEnt y0 y1 y2 y3 ya yg yn ym [])) ++ TEnt g0 g1 xa xg [])
/-- Where each of them stands. -/
theorem aliveW_g {w : World} {B ga gw gx gg : Nat} {x0 x1 x2 x3 w0 w1 y0 y1 y2 y3 g0 g1 : Value} {wa : List (Value × List (Int × Int))} {wg : List (Value × List Int)} {ya : List (Value × List (Int × Int))} {yg : List (Value × List Int)} {yn ym : List Int} {xa : List (Value × List (Int × Int))} {xg : List (Value × List Int)} (h : Own w B (AliveW ga gw gx gg x0 x1 x2 x3 w0 w1 y0 y1 y2 y3 g0 g1 wa wg ya yg yn ym xa xg)) : (∀ e ∈ TEnt g0 g1 xa xg [], e.ok w B) ∧ (∀ e ∈ TEnt w0 w1 wa wg [], e.ok w B) ∧ Two w gg g0 g1 ∧ Four w gx y0 y1 y2 y3 ∧ Two w gw w0 w1 ∧ Four w ga x0 x1 x2 x3 :=
  ⟨fun e he => h.ok e (List.mem_cons_of_mem _ (List.mem_append.2 (.inr he))), fun e he => h.ok e (List.mem_cons_of_mem _ (List.mem_append.2 (.inl (List.mem_cons_of_mem _ (List.mem_append.2 (.inl (List.mem_cons_of_mem _ (List.mem_append.2 (.inr he))))))))), own_two h (List.mem_cons_self ..), own_four h (List.mem_cons_of_mem _ (List.mem_append.2 (.inl (List.mem_cons_self ..)))), own_two h (List.mem_cons_of_mem _ (List.mem_append.2 (.inl (List.mem_cons_of_mem _ (List.mem_append.2 (.inl (List.mem_cons_self ..))))))), own_four h (List.mem_cons_of_mem _ (List.mem_append.2 (.inl (List.mem_cons_of_mem _ (List.mem_append.2 (.inl (List.mem_cons_of_mem _ (List.mem_append.2 (.inl (List.mem_cons_self ..))))))))))⟩
set_option maxHeartbeats 12800000 in
theorem lawWd {S : Nat → Prop} (R : PkD) (v0 v1 v2 v3 : Value) (w : World) (h : PL w S R v0 v1 v2 v3) :
    Calls Try.prog 5 #[.agg #[v0, v1, v2, v3]] w fun e w' => e = .returned (.bool true) ∧ Below w.heap.size w w' := by
  have HTT := (show Hid _ from fun w' (hb : Below w.heap.size w w') (hs : PSm R) => toPackedO_any R v0 v1 v2 v3 w' (h.still hb) hs)
  have HZT := (show Hid _ from fun w' (hb : Below w.heap.size w w') => szPacked_any R v0 v1 v2 v3 w' 1048576 (h.still hb) (Nat.le_refl _))
  obtain ⟨a0, c0, rfl, _⟩ := h.acts.form
  obtain ⟨a1, c1, rfl, _⟩ := h.gotos.form
  obtain ⟨a2, c2, rfl, _⟩ := h.arow.form
  obtain ⟨a3, c3, rfl, _⟩ := h.grow.form
  clear h
  have hb0 := bel_alloc w (.cells #[.slice a0 R.1.length c0, .slice a1 R.2.1.length c1, .slice a2 R.2.2.1.length c2, .slice a3 R.2.2.2.length c3] 56)
  have ho0 : Own (w.alloc (.cells #[.slice a0 R.1.length c0, .slice a1 R.2.1.length c1, .slice a2 R.2.2.1.length c2, .slice a3 R.2.2.2.length c3] 56)) w.heap.size [bx 56 4 w.heap.size [.slice a0 R.1.length c0, .slice a1 R.2.1.length c1, .slice a2 R.2.2.1.length c2, .slice a3 R.2.2.2.length c3]] := (Own.nil w w.heap.size).box #[.slice a0 R.1.length c0, .slice a1 R.2.1.length c1, .slice a2 R.2.2.1.length c2, .slice a3 R.2.2.2.length c3] (Nat.le_refl _) rfl
  obtain ⟨t0, t1, t2, t3⟩ := own_four ho0 (List.mem_cons_self ..)
  have HSP := (show Hid _ from fun (S1 : Nat → Prop) (z0 z1 z2 z3 : Value) (w' : World) (h2 : PLN w' S1 R z0 z1 z2 z3) (hs : PSm R) => sWid_any R z0 z1 z2 z3 w' h2 hs)
  have HIM := (show Hid _ from fun (S1 : Nat → Prop) (z0 z1 z2 z3 : Value) (w' : World) (h2 : PLN w' S1 R z0 z1 z2 z3) (hs : PSm R) => iWid_any R z0 z1 z2 z3 w' h2 hs)
  have HSM := (show Hid _ from fun (hs : PSm R) => wd_small hs)
  unfold TAns at HSP HIM
  generalize wdR R = RR at *
  obtain ⟨T, Cc⟩ := RR
  simp only at HSP HIM HSM
  have hCC : (Cc != Cc) = false := by simp
  have HC0 := (show Hid _ from HZT.out _ hb0)
  have HB0 := (show Hid _ from hb0)
  have HO0 := (show Hid _ from ho0)
  clear hb0 ho0
  go_enter Try.func5, Try.ntmps5
  go_wp2_with fail
  refine Calls.mono HC0.out ?_
  rintro e w1 ⟨rfl | ⟨m1, rfl, hm1, hsm1⟩, hb1⟩
  · have hbw := bel_trans HB0.out hb1
    go_wp2_with fail
    go_ret
    exact ⟨rfl, hbw⟩
  have HS := (show Hid _ from hsm1)
  have HB1 := (show Hid _ from bel_trans HB0.out hb1)
  have HO1 := (show Hid _ from Own.still HO0.out hb1)
  clear t0 t1 t2 t3 hsm1 HC0 hb1 HO0 HZT
  obtain ⟨t0, t1, t2, t3⟩ := own_four HO1.out (List.mem_cons_self ..)
  go_wp2_with fail
  -- the specification's answer
  refine Calls.mono (HTT.out _ HB1.out HS.out) ?_
  rintro e w2 ⟨z0, z1, z2, z3, za, zg, rfl, hb2, oz, dza, dzg, nza, nzg⟩
  have HC2 := (show Hid _ from HSP.out _ z0 z1 z2 z3 w2 (pn_of (fun e he => oz.ok e he) dza dzg nza nzg) HS.out)
  have HB2 := (show Hid _ from bel_trans HB1.out hb2)
  have HO2 := (show Hid _ from Own.still HO1.out hb2)
  obtain ⟨pz0, qz0, rfl⟩ : ∃ p q, z0 = .slice p za.length q := by obtain ⟨p, q, _, e, _⟩ := own_cell (show w2.ownsRow w1.heap.size 69 1 z0 za.length (za.map (·.1)) from oz.ok (hdA z0 za) (by simp [PEnt])); exact ⟨p, q, e⟩
  obtain ⟨pz1, qz1, rfl⟩ : ∃ p q, z1 = .slice p zg.length q := by obtain ⟨p, q, _, e, _⟩ := own_cell (show w2.ownsRow w1.heap.size 46 1 z1 zg.length (zg.map (·.1)) from oz.ok (hdG z1 zg) (by simp [PEnt])); exact ⟨p, q, e⟩
  obtain ⟨pz2, qz2, rfl⟩ : ∃ p q, z2 = .slice p R.2.2.1.length q := by obtain ⟨p, q, _, e, _⟩ := own_cell (show w2.ownsRow w1.heap.size 3 1 z2 R.2.2.1.length (encI R.2.2.1) from oz.ok (nmI z2 R.2.2.1) (by simp [PEnt])); exact ⟨p, q, e⟩
  obtain ⟨pz3, qz3, rfl⟩ : ∃ p q, z3 = .slice p R.2.2.2.length q := by obtain ⟨p, q, _, e, _⟩ := own_cell (show w2.ownsRow w1.heap.size 3 1 z3 R.2.2.2.length (encI R.2.2.2) from oz.ok (nmI z3 R.2.2.2) (by simp [PEnt])); exact ⟨p, q, e⟩
  clear t0 t1 t2 t3 hb2 oz dza dzg nza nzg HO1 HB1
  go_wp2_with fail
  refine Calls.mono HC2.out ?_
  rintro e w3 ⟨w0, wv1, wa, wg, rfl, hb3, ow, dwa, dwg⟩
  obtain ⟨pw0, qw0, _, rfl, _⟩ := own_cell (show w3.ownsRow w2.heap.size 69 1 w0 wa.length (wa.map (·.1)) from ow.ok (hdA w0 wa) (by simp [TEnt]))
  obtain ⟨pw1, qw1, _, rfl, _⟩ := own_cell (show w3.ownsRow w2.heap.size 46 1 wv1 wg.length (wg.map (·.1)) from ow.ok (hdG wv1 wg) (by simp [TEnt]))
  have hj3 := Own.join HO2.out hb3 ow (Nat.le_refl _) HB2.out.size
  have HB3 := (show Hid _ from bel_trans HB2.out hb3)
  have ho4 := hj3.box (T := 41) (k := 2) #[(.slice pw0 wa.length qw0), (.slice pw1 wg.length qw1)] HB3.out.size rfl
  have HO4 := (show Hid _ from ho4)
  have HRW := (show Hid _ from (⟨dwa, dwg⟩ : _ ∧ _))
  have HB4 := (show Hid _ from bel_trans HB3.out (bel_alloc w3 (.cells #[(.slice pw0 wa.length qw0), (.slice pw1 wg.length qw1)] 41)))
  obtain ⟨t0, t1, t2, t3⟩ := own_four HO4.out (List.mem_cons_of_mem _ (List.mem_append.2 (.inl (List.mem_cons_self ..))))
  clear hb3 ow dwa dwg hj3 ho4 HC2 HO2 HB2 HB3
  go_wp2_with fail
  -- the argument's copy
  refine Calls.mono (HTT.out _ HB4.out HS.out) ?_
  rintro e w5 ⟨y0, y1, y2, y3, ya, yg, rfl, hb5, oy, dya, dyg, nya, nyg⟩
  obtain ⟨py0, qy0, _, rfl, _⟩ := own_cell (show w5.ownsRow _ 69 1 y0 ya.length (ya.map (·.1)) from oy.ok (hdA y0 ya) (by simp [PEnt]))
  obtain ⟨py1, qy1, _, rfl, _⟩ := own_cell (show w5.ownsRow _ 46 1 y1 yg.length (yg.map (·.1)) from oy.ok (hdG y1 yg) (by simp [PEnt]))
  obtain ⟨py2, qy2, _, rfl, _⟩ := own_cell (show w5.ownsRow _ 3 1 y2 R.2.2.1.length (encI R.2.2.1) from oy.ok (nmI y2 R.2.2.1) (by simp [PEnt]))
  obtain ⟨py3, qy3, _, rfl, _⟩ := own_cell (show w5.ownsRow _ 3 1 y3 R.2.2.2.length (encI R.2.2.2) from oy.ok (nmI y3 R.2.2.2) (by simp [PEnt]))
  have hj5 := Own.join HO4.out hb5 oy (Nat.le_refl _) HB4.out.size
  have HB5 := (show Hid _ from bel_trans HB4.out hb5)
  have ho6 := hj5.box (T := 48) (k := 4) #[(.slice py0 ya.length qy0), (.slice py1 yg.length qy1), (.slice py2 R.2.2.1.length qy2), (.slice py3 R.2.2.2.length qy3)] HB5.out.size rfl
  have HO6 := (show Hid _ from ho6)
  have HY := (show Hid _ from (⟨dya, dyg, nya, nyg⟩ : _ ∧ _ ∧ _ ∧ _))
  have HB6 := (show Hid _ from bel_trans HB5.out (bel_alloc w5 (.cells #[(.slice py0 ya.length qy0), (.slice py1 yg.length qy1), (.slice py2 R.2.2.1.length qy2), (.slice py3 R.2.2.2.length qy3)] 48)))
  have hy6 : PLN (w5.alloc (.cells #[(.slice py0 ya.length qy0), (.slice py1 yg.length qy1), (.slice py2 R.2.2.1.length qy2), (.slice py3 R.2.2.2.length qy3)] 48)) (fun b => w.heap.size ≤ b) R (.slice py0 ya.length qy0) (.slice py1 yg.length qy1) (.slice py2 R.2.2.1.length qy2) (.slice py3 R.2.2.2.length qy3) := pn_of (fun e he => ho6.ok e (List.mem_cons_of_mem _ (List.mem_append.2 (.inr he)))) dya dyg nya nyg
  have HYL := (show Hid _ from hy6)
  have HC6 := (show Hid _ from HIM.out _ _ _ _ _ _ hy6 HS.out)
  clear t0 t1 t2 t3 hb5 oy dya dyg nya nyg hj5 ho6 HO4 HB4 HB5 hy6
  obtain ⟨x0, x1, x2, x3⟩ := own_four HO6.out (List.mem_cons_self ..)
  go_wp2_with fail
  refine Calls.mono HC6.out ?_
  rintro e w7 ⟨g0, g1, xa, xg, rfl, hb7, og, dga, dgg⟩
  obtain ⟨pg0, qg0, _, rfl, _⟩ := own_cell (show w7.ownsRow _ 69 1 g0 xa.length (xa.map (·.1)) from og.ok (hdA g0 xa) (by simp [TEnt]))
  obtain ⟨pg1, qg1, _, rfl, _⟩ := own_cell (show w7.ownsRow _ 46 1 g1 xg.length (xg.map (·.1)) from og.ok (hdG g1 xg) (by simp [TEnt]))
  have hj7 := Own.join HO6.out hb7 og (Nat.le_refl _) HB6.out.size
  have HB7 := (show Hid _ from bel_trans HB6.out hb7)
  have ho8 := hj7.box (T := 41) (k := 2) #[(.slice pg0 xa.length qg0), (.slice pg1 xg.length qg1)] HB7.out.size rfl
  have hal : Own (w7.alloc (.cells #[(.slice pg0 xa.length qg0), (.slice pg1 xg.length qg1)] 41)) w.heap.size (AliveW w.heap.size w3.heap.size w5.heap.size w7.heap.size (.slice a0 R.1.length c0) (.slice a1 R.2.1.length c1) (.slice a2 R.2.2.1.length c2) (.slice a3 R.2.2.2.length c3) (.slice pw0 wa.length qw0) (.slice pw1 wg.length qw1) (.slice py0 ya.length qy0) (.slice py1 yg.length qy1) (.slice py2 R.2.2.1.length qy2) (.slice py3 R.2.2.2.length qy3) (.slice pg0 xa.length qg0) (.slice pg1 xg.length qg1) wa wg ya yg R.2.2.1 R.2.2.2 xa xg) := ho8
  have HRG := (show Hid _ from (⟨dga, dgg⟩ : _ ∧ _))
  have HB8 := (show Hid _ from bel_trans HB7.out (bel_alloc w7 (.cells #[(.slice pg0 xa.length qg0), (.slice pg1 xg.length qg1)] 41)))
  have HYL8 := (show Hid _ from (PLN.still HYL.out hb7).still (bel_alloc w7 (.cells #[(.slice pg0 xa.length qg0), (.slice pg1 xg.length qg1)] 41)))
  have HO8 := (show Hid _ from hal)
  -- what is known of what is alive
  have HPLG := (show Hid _ from fun (w' : World) (ho : ∀ e ∈ TEnt (.slice pg0 xa.length qg0) (.slice pg1 xg.length qg1) xa xg [], e.ok w' w.heap.size) => (show TLies w' (fun b => w.heap.size ≤ b) T (.slice pg0 xa.length qg0) (.slice pg1 xg.length qg1) from by have := tl_of ho; rw [HRG.out.1, HRG.out.2] at this; exact this))
  have HPLW := (show Hid _ from fun (w' : World) (ho : ∀ e ∈ TEnt (.slice pw0 wa.length qw0) (.slice pw1 wg.length qw1) wa wg [], e.ok w' w.heap.size) => (show TLies w' (fun b => w.heap.size ≤ b) T (.slice pw0 wa.length qw0) (.slice pw1 wg.length qw1) from by have := tl_of ho; rw [HRW.out.1, HRW.out.2] at this; exact this))
  clear x0 x1 x2 x3 hb7 og dga dgg hj7 ho8 hal HC6 HO6 HB6 HB7 HYL
  obtain ⟨hg8, hw8, ⟨k0, k1⟩, ⟨x0, x1, x2, x3⟩, ⟨l0, l1⟩, ⟨t0, t1, t2, t3⟩⟩ := aliveW_g HO8.out
  have HE8 := (show Hid _ from eqTable_any T _ _ _ _ (w7.alloc (.cells #[(.slice pg0 xa.length qg0), (.slice pg1 xg.length qg1)] 41)) (HPLG.out _ hg8) (HPLW.out _ hw8))
  clear hg8 hw8
  go_wp2_with fail
  refine Calls.mono HE8.out ?_
  rintro e w9 ⟨rfl, hb9⟩
  have HO9 := (show Hid _ from Own.still HO8.out hb9)
  have HB9 := (show Hid _ from bel_trans HB8.out hb9)
  have HYL9 := (show Hid _ from PLN.still HYL8.out hb9)
  clear hb9 k0 k1 x0 x1 x2 x3 l0 l1 t0 t1 t2 t3 HE8 HO8 HB8 HYL8
  obtain ⟨_, _, _, ⟨x0, x1, x2, x3⟩, _, ⟨t0, t1, t2, t3⟩⟩ := aliveW_g HO9.out
  have H13 := (show Hid _ from HTT.out w9.drew HB9.out.drew HS.out)
  have H14 := (show Hid _ from fun (w' : World) (S9 : Nat → Prop) (q0 q1 q2 q3 : Value) (hb : Below w9.drew.heap.size w9.drew w') (hd : PL w' S9 R q0 q1 q2 q3) => eqP_any R _ _ _ _ q0 q1 q2 q3 w' (PL.still HYL9.out.pl (((Below.refl _ _).drew).trans hb)) hd)
  have HXC := (show Hid _ from fun (w' : World) (hb : Below w9.heap.size w9 w') => (⟨(hb.cell (lt_of_cell x0)).trans x0, (hb.cell (lt_of_cell x1)).trans x1, (hb.cell (lt_of_cell x2)).trans x2, (hb.cell (lt_of_cell x3)).trans x3⟩ : Four w' _ _ _ _ _))
  go_wp2_with fail
  go_cut [45] from 41 to 44 (fun v wx => v = .bool false ∧ Hid (Below w9.heap.size w9 wx))
  case first =>
    go_region_with (first
      | (go_at_call 16; refine Calls.mono (H14.out _ _ _ _ _ _ hb13 E13) ?_; rintro e w14 ⟨rfl, hb14⟩)
      | (go_at_call 22; refine Calls.mono H13.out ?_; rintro e w13 ⟨q0, q1, q2, q3, qa, qg, rfl, hb13, oq, dqa, dqg, nqa, nqg⟩; have E13 := (pn_of (fun e he => oq.ok e he) dqa dqg nqa nqg).pl; clear oq dqa dqg nqa nqg; obtain ⟨Z0, Z1, Z2, Z3⟩ := HXC.out _ (Below.trans ((Below.refl _ _).drew) hb13)))
    all_goals
      go_wp2_with fail
      go_meet
      exact ⟨rfl, bel_trans (((Below.refl w9.heap.size w9).drew).trans hb13) hb14⟩
  case rest =>
    obtain ⟨rfl, HC⟩ := hcut
    have HO10 := (show Hid _ from Own.still HO9.out HC.out)
    have HB10 := (show Hid _ from bel_trans HB9.out HC.out)
    clear HC HO9 HB9 HYL9 H13 H14 HXC x0 x1 x2 x3 t0 t1 t2 t3
    obtain ⟨_, _, _, ⟨x0, x1, x2, x3⟩, _, _⟩ := aliveW_g HO10.out
    have hpx : Own wc w.heap.size (PEnt (.slice py0 ya.length qy0) (.slice py1 yg.length qy1) (.slice py2 R.2.2.1.length qy2) (.slice py3 R.2.2.2.length qy3) ya yg R.2.2.1 R.2.2.2 (bx 41 2 w7.heap.size [(.slice pg0 xa.length qg0), (.slice pg1 xg.length qg1)] :: bx 41 2 w3.heap.size [(.slice pw0 wa.length qw0), (.slice pw1 wg.length qw1)] :: bx 56 4 w.heap.size [.slice a0 R.1.length c0, .slice a1 R.2.1.length c1, .slice a2 R.2.2.1.length c2, .slice a3 R.2.2.2.length c3] :: (TEnt (.slice pw0 wa.length qw0) (.slice pw1 wg.length qw1) wa wg [] ++ (TEnt (.slice pg0 xa.length qg0) (.slice pg1 xg.length qg1) xa xg [] ++ [bx 48 4 w5.heap.size [(.slice py0 ya.length qy0), (.slice py1 yg.length qy1), (.slice py2 R.2.2.1.length qy2), (.slice py3 R.2.2.2.length qy3)]])))) := by
      have h0 := HO10.out
      unfold AliveW at h0
      exact h0.perm (by classical exact List.perm_iff_count.2 (fun a => by simp only [TEnt, PEnt, List.map_append, List.map_cons, List.map_nil, List.count_append, List.count_cons, List.count_nil]; first | omega | ac_rfl))
    have hyl : ya.length ≤ 1048576 := by
      have h1 := congrArg List.length HY.out.1
      have h2 := HS.out.acts
      simp at h1
      omega
    have hyg : yg.length ≤ 1048576 := by
      have h1 := congrArg List.length HY.out.2.1
      have h2 := HS.out.gotos
      simp at h1
      omega
    have hsa : ∀ p ∈ ya, p.2.length ≤ 1048576 := fun p hp => small_mem HS.out.act p.2 (by rw [← HY.out.1]; exact List.mem_map.2 ⟨p, hp, rfl⟩)
    have hsg : ∀ p ∈ yg, p.2.length ≤ 1048576 := fun p hp => small_mem HS.out.goto p.2 (by rw [← HY.out.2.1]; exact List.mem_map.2 ⟨p, hp, rfl⟩)
    have HM1 := (show Hid _ from markP_any w.heap.size (.slice py0 ya.length qy0) (.slice py1 yg.length qy1) (.slice py2 R.2.2.1.length qy2) (.slice py3 R.2.2.2.length qy3) ya yg R.2.2.1 R.2.2.2 (bx 41 2 w7.heap.size [(.slice pg0 xa.length qg0), (.slice pg1 xg.length qg1)] :: bx 41 2 w3.heap.size [(.slice pw0 wa.length qw0), (.slice pw1 wg.length qw1)] :: bx 56 4 w.heap.size [.slice a0 R.1.length c0, .slice a1 R.2.1.length c1, .slice a2 R.2.2.1.length c2, .slice a3 R.2.2.2.length c3] :: (TEnt (.slice pw0 wa.length qw0) (.slice pw1 wg.length qw1) wa wg [] ++ (TEnt (.slice pg0 xa.length qg0) (.slice pg1 xg.length qg1) xa xg [] ++ [bx 48 4 w5.heap.size [(.slice py0 ya.length qy0), (.slice py1 yg.length qy1), (.slice py2 R.2.2.1.length qy2), (.slice py3 R.2.2.2.length qy3)]]))) wc hpx HB10.out.size hyl hyg hsa hsg HS.out.arow HS.out.grow)
    have HFS := (show Hid _ from fun (w' : World) (hf : ∀ e ∈ (bx 41 2 w7.heap.size [(.slice pg0 xa.length qg0), (.slice pg1 xg.length qg1)] :: bx 41 2 w3.heap.size [(.slice pw0 wa.length qw0), (.slice pw1 wg.length qw1)] :: bx 56 4 w.heap.size [.slice a0 R.1.length c0, .slice a1 R.2.1.length c1, .slice a2 R.2.2.1.length c2, .slice a3 R.2.2.2.length c3] :: (TEnt (.slice pw0 wa.length qw0) (.slice pw1 wg.length qw1) wa wg [] ++ (TEnt (.slice pg0 xa.length qg0) (.slice pg1 xg.length qg1) xa xg [] ++ [bx 48 4 w5.heap.size [(.slice py0 ya.length qy0), (.slice py1 yg.length qy1), (.slice py2 R.2.2.1.length qy2), (.slice py3 R.2.2.2.length qy3)]]))), e.ok w' w.heap.size) => own_fs hpx (by simp only [PEnt, List.cons_append, List.nil_append]; exact ((((((List.Sublist.refl _).cons _).cons _).trans (List.sublist_append_right _ _)).cons _).trans (List.sublist_append_right _ _)).cons _) hf)
    generalize (1 + tot (ya.map entA) + tot (yg.map entI) + R.2.2.1.length + R.2.2.2.length) = m2 at *
    clear hpx hyl hyg hsa hsg HO10
    go_wp2_with fail
    refine Calls.mono HM1.out ?_
    rintro e w11 ⟨rfl, hb11, _, hf11⟩
    have HB11 := (show Hid _ from HB10.out.trans hb11)
    have HO11 := (show Hid _ from HFS.out w11 hf11)
    have hm2 : ¬ ((m2 : Int) < 0) := by omega
    clear hb11 hf11 HM1 HB10 HFS x0 x1 x2 x3
    have hg11 : ∀ e ∈ TEnt (.slice pg0 xa.length qg0) (.slice pg1 xg.length qg1) xa xg [], e.ok w11 w.heap.size := fun e he => HO11.out.ok e (List.mem_cons_of_mem _ (List.mem_cons_of_mem _ (List.mem_cons_of_mem _ (List.mem_append.2 (.inr (List.mem_append.2 (.inl he)))))))
    have hw11 : ∀ e ∈ TEnt (.slice pw0 wa.length qw0) (.slice pw1 wg.length qw1) wa wg [], e.ok w11 w.heap.size := fun e he => HO11.out.ok e (List.mem_cons_of_mem _ (List.mem_cons_of_mem _ (List.mem_cons_of_mem _ (List.mem_append.2 (.inl he)))))
    obtain ⟨k0, k1⟩ := own_two (T := 41) (g := w7.heap.size) HO11.out (List.mem_cons_self ..)
    obtain ⟨l0, l1⟩ := own_two (T := 41) (g := w3.heap.size) HO11.out (List.mem_cons_of_mem _ (List.mem_cons_self ..))
    have HE11 := (show Hid _ from eqTable_any T _ _ _ _ w11 (HPLG.out w11 hg11) (HPLW.out w11 hw11))
    clear hg11 hw11
    go_wp2_with fail
    refine Calls.mono HE11.out ?_
    rintro e w12 ⟨rfl, hb12⟩
    have HO12 := (show Hid _ from Own.still HO11.out hb12)
    have HB12 := (show Hid _ from bel_trans HB11.out hb12)
    clear hb12 HE11 HO11 HB11 k0 k1 l0 l1
    obtain ⟨k0, k1⟩ := own_two (T := 41) (g := w7.heap.size) HO12.out (List.mem_cons_self ..)
    obtain ⟨s1, s2, s3, s4⟩ := HSM.out HS.out
    rw [← HRG.out.1] at s1 s3
    rw [← HRG.out.2] at s2 s4
    simp only [List.length_map] at s1 s2
    have s3' : ∀ p ∈ xa, p.2.length ≤ 1048576 := fun p hp => s3 p.2 (List.mem_map.2 ⟨p, hp, rfl⟩)
    have s4' : ∀ p ∈ xg, p.2.length ≤ 1048576 := fun p hp => s4 p.2 (List.mem_map.2 ⟨p, hp, rfl⟩)
    have hpg : Own w12 w.heap.size (TEnt (.slice pg0 xa.length qg0) (.slice pg1 xg.length qg1) xa xg (bx 41 2 w7.heap.size [(.slice pg0 xa.length qg0), (.slice pg1 xg.length qg1)] :: bx 41 2 w3.heap.size [(.slice pw0 wa.length qw0), (.slice pw1 wg.length qw1)] :: bx 56 4 w.heap.size [.slice a0 R.1.length c0, .slice a1 R.2.1.length c1, .slice a2 R.2.2.1.length c2, .slice a3 R.2.2.2.length c3] :: (TEnt (.slice pw0 wa.length qw0) (.slice pw1 wg.length qw1) wa wg [] ++ [bx 48 4 w5.heap.size [(.slice py0 ya.length qy0), (.slice py1 yg.length qy1), (.slice py2 R.2.2.1.length qy2), (.slice py3 R.2.2.2.length qy3)]]))) := HO12.out.perm (by classical exact List.perm_iff_count.2 (fun a => by simp only [TEnt, PEnt, List.map_append, List.map_cons, List.map_nil, List.count_append, List.count_cons, List.count_nil]; first | omega | ac_rfl))
    have HM2 := (show Hid _ from markTM_any w.heap.size (.slice pg0 xa.length qg0) (.slice pg1 xg.length qg1) xa xg (bx 41 2 w7.heap.size [(.slice pg0 xa.length qg0), (.slice pg1 xg.length qg1)] :: bx 41 2 w3.heap.size [(.slice pw0 wa.length qw0), (.slice pw1 wg.length qw1)] :: bx 56 4 w.heap.size [.slice a0 R.1.length c0, .slice a1 R.2.1.length c1, .slice a2 R.2.2.1.length c2, .slice a3 R.2.2.2.length c3] :: (TEnt (.slice pw0 wa.length qw0) (.slice pw1 wg.length qw1) wa wg [] ++ [bx 48 4 w5.heap.size [(.slice py0 ya.length qy0), (.slice py1 yg.length qy1), (.slice py2 R.2.2.1.length qy2), (.slice py3 R.2.2.2.length qy3)]])) w12 hpg HB12.out.size s1 s2 s3' s4')
    have HH := (show Hid _ from fun (w' : World) (hok : ∀ e ∈ TMk 1 (.slice pg0 xa.length qg0) (.slice pg1 xg.length qg1) xa xg, e.ok w' w.heap.size) => heldT_any w.heap.size (.slice pg0 xa.length qg0) (.slice pg1 xg.length qg1) xa xg w' hok s1 s2 s3' s4')
    generalize (1 + tot (xa.map entA) + tot (xg.map entI)) = M at *
    clear s1 s2 s3 s4 s3' s4' hpg HO12
    have hM0 : ¬ ((M : Int) < 0) := by omega
    have hMM : ((M : Int) != (M : Int)) = false := by simp
    go_wp2_with fail
    refine Calls.mono HM2.out ?_
    rintro e w13 ⟨rfl, hb13, hpm, hfp⟩
    have HB13 := (show Hid _ from HB12.out.trans hb13)
    have HP13 := (show Hid _ from (⟨hpm, hfp⟩ : _ ∧ _))
    have HC13 := (show Hid _ from HH.out w13 hpm)
    clear hb13 hpm hfp HM2 HB12 k0 k1
    have HKK := (show Hid _ from fun (w' : World) (hfp : ∀ e ∈ (bx 41 2 w7.heap.size [(.slice pg0 xa.length qg0), (.slice pg1 xg.length qg1)] :: bx 41 2 w3.heap.size [(.slice pw0 wa.length qw0), (.slice pw1 wg.length qw1)] :: bx 56 4 w.heap.size [.slice a0 R.1.length c0, .slice a1 R.2.1.length c1, .slice a2 R.2.2.1.length c2, .slice a3 R.2.2.2.length c3] :: (TEnt (.slice pw0 wa.length qw0) (.slice pw1 wg.length qw1) wa wg [] ++ [bx 48 4 w5.heap.size [(.slice py0 ya.length qy0), (.slice py1 yg.length qy1), (.slice py2 R.2.2.1.length qy2), (.slice py3 R.2.2.2.length qy3)]])), e.ok w' w.heap.size) => (⟨bx_cell (i := 0) (hfp _ (List.mem_cons_self ..)) rfl, bx_cell (i := 1) (hfp _ (List.mem_cons_self ..)) rfl⟩ : Two w' w7.heap.size (.slice pg0 xa.length qg0) (.slice pg1 xg.length qg1)))
    have HLL := (show Hid _ from fun (w' : World) (hfp : ∀ e ∈ (bx 41 2 w7.heap.size [(.slice pg0 xa.length qg0), (.slice pg1 xg.length qg1)] :: bx 41 2 w3.heap.size [(.slice pw0 wa.length qw0), (.slice pw1 wg.length qw1)] :: bx 56 4 w.heap.size [.slice a0 R.1.length c0, .slice a1 R.2.1.length c1, .slice a2 R.2.2.1.length c2, .slice a3 R.2.2.2.length c3] :: (TEnt (.slice pw0 wa.length qw0) (.slice pw1 wg.length qw1) wa wg [] ++ [bx 48 4 w5.heap.size [(.slice py0 ya.length qy0), (.slice py1 yg.length qy1), (.slice py2 R.2.2.1.length qy2), (.slice py3 R.2.2.2.length qy3)]])), e.ok w' w.heap.size) => (⟨bx_cell (i := 0) (hfp _ (List.mem_cons_of_mem _ (List.mem_cons_self ..))) rfl, bx_cell (i := 1) (hfp _ (List.mem_cons_of_mem _ (List.mem_cons_self ..))) rfl⟩ : Two w' w3.heap.size (.slice pw0 wa.length qw0) (.slice pw1 wg.length qw1)))
    have HAA := (show Hid _ from fun (w' : World) (hfp : ∀ e ∈ (bx 41 2 w7.heap.size [(.slice pg0 xa.length qg0), (.slice pg1 xg.length qg1)] :: bx 41 2 w3.heap.size [(.slice pw0 wa.length qw0), (.slice pw1 wg.length qw1)] :: bx 56 4 w.heap.size [.slice a0 R.1.length c0, .slice a1 R.2.1.length c1, .slice a2 R.2.2.1.length c2, .slice a3 R.2.2.2.length c3] :: (TEnt (.slice pw0 wa.length qw0) (.slice pw1 wg.length qw1) wa wg [] ++ [bx 48 4 w5.heap.size [(.slice py0 ya.length qy0), (.slice py1 yg.length qy1), (.slice py2 R.2.2.1.length qy2), (.slice py3 R.2.2.2.length qy3)]])), e.ok w' w.heap.size) => (⟨bx_cell (i := 0) (hfp _ (List.mem_cons_of_mem _ (List.mem_cons_of_mem _ (List.mem_cons_self ..)))) rfl, bx_cell (i := 1) (hfp _ (List.mem_cons_of_mem _ (List.mem_cons_of_mem _ (List.mem_cons_self ..)))) rfl, bx_cell (i := 2) (hfp _ (List.mem_cons_of_mem _ (List.mem_cons_of_mem _ (List.mem_cons_self ..)))) rfl, bx_cell (i := 3) (hfp _ (List.mem_cons_of_mem _ (List.mem_cons_of_mem _ (List.mem_cons_self ..)))) rfl⟩ : Four w' w.heap.size (.slice a0 R.1.length c0) (.slice a1 R.2.1.length c1) (.slice a2 R.2.2.1.length c2) (.slice a3 R.2.2.2.length c3)))
    have HST := (show Hid _ from fun (w1 w2 : World) (hb : Below w1.heap.size w1 w2) (h : (∀ e ∈ TMk 1 (.slice pg0 xa.length qg0) (.slice pg1 xg.length qg1) xa xg, e.ok w1 w.heap.size) ∧ ∀ e ∈ (bx 41 2 w7.heap.size [(.slice pg0 xa.length qg0), (.slice pg1 xg.length qg1)] :: bx 41 2 w3.heap.size [(.slice pw0 wa.length qw0), (.slice pw1 wg.length qw1)] :: bx 56 4 w.heap.size [.slice a0 R.1.length c0, .slice a1 R.2.1.length c1, .slice a2 R.2.2.1.length c2, .slice a3 R.2.2.2.length c3] :: (TEnt (.slice pw0 wa.length qw0) (.slice pw1 wg.length qw1) wa wg [] ++ [bx 48 4 w5.heap.size [(.slice py0 ya.length qy0), (.slice py1 yg.length qy1), (.slice py2 R.2.2.1.length qy2), (.slice py3 R.2.2.2.length qy3)]])), e.ok w1 w.heap.size) => (⟨fun e he => own_still (h.1 e he) hb, fun e he => own_still (h.2 e he) hb⟩ : (∀ e ∈ TMk 1 (.slice pg0 xa.length qg0) (.slice pg1 xg.length qg1) xa xg, e.ok w2 w.heap.size) ∧ ∀ e ∈ (bx 41 2 w7.heap.size [(.slice pg0 xa.length qg0), (.slice pg1 xg.length qg1)] :: bx 41 2 w3.heap.size [(.slice pw0 wa.length qw0), (.slice pw1 wg.length qw1)] :: bx 56 4 w.heap.size [.slice a0 R.1.length c0, .slice a1 R.2.1.length c1, .slice a2 R.2.2.1.length c2, .slice a3 R.2.2.2.length c3] :: (TEnt (.slice pw0 wa.length qw0) (.slice pw1 wg.length qw1) wa wg [] ++ [bx 48 4 w5.heap.size [(.slice py0 ya.length qy0), (.slice py1 yg.length qy1), (.slice py2 R.2.2.1.length qy2), (.slice py3 R.2.2.2.length qy3)]])), e.ok w2 w.heap.size))
    obtain ⟨k0, k1⟩ := HKK.out w13 HP13.out.2
    go_wp2_with fail
    refine Calls.mono HC13.out ?_
    rintro e w14 ⟨rfl, hb14⟩
    have HP14 := (show Hid _ from HST.out _ _ hb14 HP13.out)
    have HB14 := (show Hid _ from bel_trans HB13.out hb14)
    clear hb14 HP13 HB13 HC13 k0 k1
    obtain ⟨t0, t1, t2, t3⟩ := HAA.out w14 HP14.out.2
    go_wp2_with fail
    refine Calls.mono (HTT.out _ HB14.out HS.out) ?_
    rintro e w15 ⟨z0, z1, z2, z3, za, zg, rfl, hb15, oz, dza, dzg, nza, nzg⟩
    have HC15 := (show Hid _ from HIM.out _ z0 z1 z2 z3 w15 (pn_of (fun e he => oz.ok e he) dza dzg nza nzg) HS.out)
    have HP15 := (show Hid _ from HST.out _ _ hb15 HP14.out)
    have HB15 := (show Hid _ from bel_trans HB14.out hb15)
    obtain ⟨pz0, qz0, rfl⟩ : ∃ p q, z0 = .slice p za.length q := by obtain ⟨p, q, _, e, _⟩ := own_cell (show w15.ownsRow w14.heap.size 69 1 z0 za.length (za.map (·.1)) from oz.ok (hdA z0 za) (by simp [PEnt])); exact ⟨p, q, e⟩
    obtain ⟨pz1, qz1, rfl⟩ : ∃ p q, z1 = .slice p zg.length q := by obtain ⟨p, q, _, e, _⟩ := own_cell (show w15.ownsRow w14.heap.size 46 1 z1 zg.length (zg.map (·.1)) from oz.ok (hdG z1 zg) (by simp [PEnt])); exact ⟨p, q, e⟩
    obtain ⟨pz2, qz2, rfl⟩ : ∃ p q, z2 = .slice p R.2.2.1.length q := by obtain ⟨p, q, _, e, _⟩ := own_cell (show w15.ownsRow w14.heap.size 3 1 z2 R.2.2.1.length (encI R.2.2.1) from oz.ok (nmI z2 R.2.2.1) (by simp [PEnt])); exact ⟨p, q, e⟩
    obtain ⟨pz3, qz3, rfl⟩ : ∃ p q, z3 = .slice p R.2.2.2.length q := by obtain ⟨p, q, _, e, _⟩ := own_cell (show w15.ownsRow w14.heap.size 3 1 z3 R.2.2.2.length (encI R.2.2.2) from oz.ok (nmI z3 R.2.2.2) (by simp [PEnt])); exact ⟨p, q, e⟩
    clear hb15 oz dza dzg nza nzg HP14 HB14 t0 t1 t2 t3
    go_wp2_with fail
    refine Calls.mono HC15.out ?_
    rintro e w16 ⟨h0, h1, ha, hg, rfl, hb16, oh, dha, dhg⟩
    obtain ⟨ph0, qh0, _, rfl, _⟩ := own_cell (show w16.ownsRow w15.heap.size 69 1 h0 ha.length (ha.map (·.1)) from oh.ok (hdA h0 ha) (by simp [TEnt]))
    obtain ⟨ph1, qh1, _, rfl, _⟩ := own_cell (show w16.ownsRow w15.heap.size 46 1 h1 hg.length (hg.map (·.1)) from oh.ok (hdG h1 hg) (by simp [TEnt]))
    have hbl := bel_alloc w16 (.cells #[(.slice ph0 ha.length qh0), (.slice ph1 hg.length qh1)] 41)
    have hpl := tl_of (fun e he => own_still (oh.ok e he) hbl)
    rw [dha, dhg] at hpl
    have HP17 := (show Hid _ from HST.out _ _ (bel_trans hb16 hbl) HP15.out)
    have HB17 := (show Hid _ from bel_trans HB15.out (bel_trans hb16 hbl))
    obtain ⟨⟨k0, k1⟩, _⟩ := (box2_alloc w16 41 (.slice ph0 ha.length qh0) (.slice ph1 hg.length qh1)).cells
    obtain ⟨l0, l1⟩ := HLL.out _ HP17.out.2
    have HE17 := (show Hid _ from eqTable_any T _ _ _ _ _ hpl (HPLW.out _ (fun e he => HP17.out.2 e (List.mem_cons_of_mem _ (List.mem_cons_of_mem _ (List.mem_cons_of_mem _ (List.mem_append.2 (.inl he))))))))
    clear hb16 oh dha dhg hbl hpl HP15 HB15 HC15
    go_wp2_with fail
    refine Calls.mono HE17.out ?_
    rintro e w18 ⟨rfl, hb18⟩
    have HP18 := (show Hid _ from HST.out _ _ hb18 HP17.out)
    have HB18 := (show Hid _ from bel_trans HB17.out hb18)
    have HC18 := (show Hid _ from HH.out w18 HP18.out.1)
    clear hb18 HP17 HB17 HE17 k0 k1 l0 l1
    obtain ⟨k0, k1⟩ := HKK.out w18 HP18.out.2
    go_wp2_with fail
    refine Calls.mono HC18.out ?_
    rintro e w19 ⟨rfl, hb19⟩
    have HB19 := (show Hid _ from bel_trans HB18.out hb19)
    clear hb19 k0 k1 HC18
    go_wp2_with fail
    go_ret
    exact ⟨rfl, HB19.out⟩
end Go.Proofs.Ytflhfimgeladaaa
