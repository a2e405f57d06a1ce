import Derived.Test.YtflhfimgeladaaaIt
import Derived.Test.YtflhfimgeladaaaSbo
import Derived.Test.YtflhfimgeladaaaSbq
import Derived.BigQuiet
/-! The specification: TableOK. -/
namespace Go.Proofs.Ytflhfimgeladaaa
open Go.RowKit Go.Deep
set_option linter.unusedVariables false
set_option maxRecDepth 100000
set_option linter.unusedSimpArgs false

theorem sBnf_all {S : Nat → Prop} (d : Bn) (v0 v1 v3 : Value) (w : World) (h : BLies w S d v0 v1 v3) :
    Calls Try.prog 30 #[.agg #[v0, v1, .int .i64 d.own, v3]] w fun e w' => e = .returned (.bool (bnB d)) ∧ Below w.heap.size w w' := by
  cases hz : szB d
  · have : bnB d = false := by unfold bnB; rw [hz]; rfl
    rw [this]
    exact sBnf_no d v0 v1 v3 w h (by rw [hz]; simp)
  · exact sBnf_yes d v0 v1 v3 w h hz
/-- What the specification asks of an Act. -/
theorem acB_wi (n p : Int) (k m : Int) (hp : 0 ≤ p) : acB n p (k, m) = (wiB k 0 3 && wiB m 0 (if k = 1 then n - 1 else if k = 2 then p - 1 else 0)) := by
  unfold acB wiB
  simp only
  by_cases h0 : k = 0
  · subst h0; rw [Bool.eq_iff_iff]; simp; omega
  by_cases h3 : k = 3
  · subst h3; rw [Bool.eq_iff_iff]; simp; omega
  by_cases h1 : k = 1
  · subst h1; rw [Bool.eq_iff_iff]; simp; omega
  by_cases h2 : k = 2
  · subst h2; rw [Bool.eq_iff_iff]; simp; omega
  rw [if_neg (by omega), if_neg h1, if_neg h2]
  have : ¬ (0 ≤ k ∧ k ≤ 3) := by omega
  simp [this]
theorem wnB_wi (a b x : Int) : wnB a b x = wiB x a b := by unfold wnB wiB; rw [Bool.eq_iff_iff]; simp
theorem all_false_at {α : Type} {l : List α} {p : α → Bool} (i : Nat) (hi : i < l.length) (h : p l[i] = false) : l.all p = false := List.all_eq_false.2 ⟨l[i], List.getElem_mem hi, by rw [h]; simp⟩
theorem all_true_of {α : Type} {l : List α} {p : α → Bool} (h : ∀ i (hi : i < l.length), p l[i] = true) : l.all p = true := List.all_eq_true.2 (fun x hx => by obtain ⟨i, hi, rfl⟩ := List.mem_iff_getElem.1 hx; exact h i hi)
set_option maxHeartbeats 12800000 in
theorem sTab_any {S S' : Nat → Prop} (d : Bn) (t : Tb) (v0 v1 v3 x0 x1 : Value) (w : World) (h : BLies w S d v0 v1 v3) (ht : TLies w S' t x0 x1) :
    Calls Try.prog 8 #[.agg #[v0, v1, .int .i64 d.own, v3], .agg #[x0, x1]] w fun e w' => e = .returned (.bool (tbB d t)) ∧ Below w.heap.size w w' := by
  have HB := (show Hid _ from fun (x a b : Int) (w : World) => between_any x a b w)
  have hma := ht.acts.form
  have hmg := ht.gotos.form
  obtain ⟨a0, c0, a1, c1, a3, c3, rfl, rfl, rfl⟩ := h.form
  obtain ⟨e0, f0, rfl, hma⟩ := hma
  obtain ⟨e1, f1, rfl, hmg⟩ := hmg
  unfold maxLen at hma hmg
  have hb0 : Below w.heap.size w ((w.alloc (.cells #[.slice a0 d.terms.length c0, .slice a1 d.nons.length c1, .int .i64 d.own, .slice a3 d.prods.length c3] 37)).alloc (.cells #[.slice e0 t.acts.length f0, .slice e1 t.gotos.length f1] 41)) := bel_trans (bel_alloc _ _) (bel_alloc _ _)
  have HBN := (show Hid _ from sBnf_all d _ _ _ _ (h.still hb0))
  have q4 := (Box4.new w 37 (.slice a0 d.terms.length c0) (.slice a1 d.nons.length c1) (.int .i64 d.own) (.slice a3 d.prods.length c3)).still (bel_alloc _ (.cells #[.slice e0 t.acts.length f0, .slice e1 t.gotos.length f1] 41))
  have q2 := box2_alloc (w.alloc (.cells #[.slice a0 d.terms.length c0, .slice a1 d.nons.length c1, .int .i64 d.own, .slice a3 d.prods.length c3] 37)) 41 (.slice e0 t.acts.length f0) (.slice e1 t.gotos.length f1)
  simp only [World.size_alloc] at q2
  have ht0 := ht.still hb0
  have HQ := (show Hid _ from fun (w' : World) (hb : Below ((w.alloc (.cells #[.slice a0 d.terms.length c0, .slice a1 d.nons.length c1, .int .i64 d.own, .slice a3 d.prods.length c3] 37)).alloc (.cells #[.slice e0 t.acts.length f0, .slice e1 t.gotos.length f1] 41)).heap.size ((w.alloc (.cells #[.slice a0 d.terms.length c0, .slice a1 d.nons.length c1, .int .i64 d.own, .slice a3 d.prods.length c3] 37)).alloc (.cells #[.slice e0 t.acts.length f0, .slice e1 t.gotos.length f1] 41)) w') => (⟨(q4.still hb).cells, (q2.still hb).cells.1, ht0.still hb⟩ : Four w' w.heap.size (.slice a0 d.terms.length c0) (.slice a1 d.nons.length c1) (.int .i64 d.own) (.slice a3 d.prods.length c3) ∧ Two w' (w.heap.size + 1) (.slice e0 t.acts.length f0) (.slice e1 t.gotos.length f1) ∧ TLies w' S' t (.slice e0 t.acts.length f0) (.slice e1 t.gotos.length f1)))
  have HB0 := (show Hid _ from hb0)
  clear h ht ht0 q4 q2 hb0
  cases hbn : bnB d
  · rw [tbB_bn hbn]
    rw [hbn] at HBN
    obtain ⟨⟨z0, z1, z2, z3⟩, ⟨y0, y1⟩, _⟩ := HQ.out _ (Below.refl _ _)
    clear hbn
    go_enter Try.func8, Try.ntmps8
    go_wp2_with fail
    refine Calls.mono HBN.out ?_
    rintro e w1 ⟨rfl, hb1⟩
    have HN := (show Hid _ from bel_trans HB0.out hb1); clear hb1
    go_wp2_with fail
    go_ret
    exact ⟨rfl, HN.out⟩
  obtain ⟨hT, hN, hP⟩ := bnB_sz hbn
  rw [hbn] at HBN
  by_cases h12 : 1 ≤ t.acts.length ∧ t.acts.length ≤ 250
  case neg =>
    rw [tbB_sz (by omega)]
    have E1 : wiB t.acts.length 1 250 = false := by unfold wiB; simp; omega
    obtain ⟨⟨z0, z1, z2, z3⟩, ⟨y0, y1⟩, _⟩ := HQ.out _ (Below.refl _ _)
    clear hbn h12
    go_enter Try.func8, Try.ntmps8
    go_wp2_with fail
    refine Calls.mono HBN.out ?_
    rintro e w1 ⟨rfl, hb1⟩
    have HN := (show Hid _ from bel_trans HB0.out hb1)
    clear z0 z1 z2 z3 y0 y1
    obtain ⟨_, ⟨y0, y1⟩, _⟩ := HQ.out _ hb1
    clear hb1
    go_wp2_with fail
    refine Calls.mono (HB.out _ _ _ _) ?_
    rintro e w2 ⟨rfl, rfl⟩
    rw [E1]
    go_wp2_with fail
    go_ret
    exact ⟨rfl, HN.out⟩
  have E1 : wiB t.acts.length 1 250 = true := by unfold wiB; simp; omega
  by_cases h3 : t.gotos.length = t.acts.length
  case neg =>
    rw [tbB_sz (by omega)]
    have i3 : ((t.gotos.length : Int) != (t.acts.length : Int)) = true := by simp; omega
    obtain ⟨⟨z0, z1, z2, z3⟩, ⟨y0, y1⟩, _⟩ := HQ.out _ (Below.refl _ _)
    clear hbn h12 h3
    go_enter Try.func8, Try.ntmps8
    go_wp2_with fail
    refine Calls.mono HBN.out ?_
    rintro e w1 ⟨rfl, hb1⟩
    have HN := (show Hid _ from bel_trans HB0.out hb1)
    clear z0 z1 z2 z3 y0 y1
    obtain ⟨_, ⟨y0, y1⟩, _⟩ := HQ.out _ hb1
    clear hb1
    go_wp2_with fail
    refine Calls.mono (HB.out _ _ _ _) ?_
    rintro e w2 ⟨rfl, rfl⟩
    rw [E1]
    go_wp2_with fail
    go_ret
    exact ⟨rfl, HN.out⟩
  have i3 : ((t.gotos.length : Int) != (t.acts.length : Int)) = false := by simp; omega
  rw [tbB_in hbn (by omega)]
  generalize hRes : (t.acts.all (rAB t.acts.length d.prods.length d.terms.length) && t.gotos.all (rGB t.acts.length d.nons.length)) = R
  -- what a wrong row says, and what right ones say
  have HWA : Hid (∀ i (hi : i < t.acts.length), rAB t.acts.length d.prods.length d.terms.length t.acts[i] = false → R = false) := fun i hi hf => by rw [← hRes, all_false_at i hi hf]; rfl
  have HWG : Hid (∀ i (hi : i < t.gotos.length), rGB t.acts.length d.nons.length t.gotos[i] = false → R = false) := fun i hi hf => by rw [← hRes, all_false_at i hi hf, Bool.and_false]
  have HWT : Hid ((∀ i (hi : i < t.acts.length), rAB t.acts.length d.prods.length d.terms.length t.acts[i] = true) → (∀ i (hi : i < t.gotos.length), rGB t.acts.length d.nons.length t.gotos[i] = true) → R = true) := fun h1 h2 => by rw [← hRes, all_true_of h1, all_true_of h2]; rfl
  have HG3 := (show Hid _ from h3)
  obtain ⟨z1', z2'⟩ := h12
  have HNX : Hid (∀ s, s < t.acts.length → s < t.gotos.length) := fun s hs => by show s < t.gotos.length; omega
  have hwT : IntKind.i64.wrap ((d.terms.length : Int) + 1) = (d.terms.length : Int) + 1 := by simp [IntKind.wrap, IntKind.bits, IntKind.signed]; omega
  have hwN : IntKind.i64.wrap ((t.acts.length : Int) - 1) = (t.acts.length : Int) - 1 := by simp [IntKind.wrap, IntKind.bits, IntKind.signed]; omega
  have hwP : IntKind.i64.wrap ((d.prods.length : Int) - 1) = (d.prods.length : Int) - 1 := by simp [IntKind.wrap, IntKind.bits, IntKind.signed]; omega
  obtain ⟨⟨z0, z1, z2, z3⟩, ⟨y0, y1⟩, _⟩ := HQ.out _ (Below.refl _ _)
  clear hbn hRes h3
  go_enter Try.func8, Try.ntmps8
  go_wp2_with fail
  refine Calls.mono HBN.out ?_
  rintro e w1 ⟨rfl, hb1⟩
  clear z0 z1 z2 z3 y0 y1 HBN
  obtain ⟨_, ⟨y0, y1⟩, _⟩ := HQ.out _ hb1
  have HB1 := (show Hid _ from hb1)
  clear hb1
  go_wp2_with fail
  refine Calls.mono (HB.out _ _ _ _) ?_
  rintro e w2 ⟨rfl, rfl⟩
  rw [E1]
  go_wp2_with fail
  clear y0 y1 i3 E1
  generalize hW : ((w.alloc (.cells #[.slice a0 d.terms.length c0, .slice a1 d.nons.length c1, .int .i64 d.own, .slice a3 d.prods.length c3] 37)).alloc (.cells #[.slice e0 t.acts.length f0, .slice e1 t.gotos.length f1] 41)) = W at *
  have HW := (show Hid _ from hW); clear hW
  go_loopw [6] (fun i wr => ∃ s : Nat, i = .int .i64 s ∧ s ≤ t.acts.length ∧ Hid (Below W.heap.size W wr ∧ (∀ i (hi : i < t.acts.length), i < s → rAB t.acts.length d.prods.length d.terms.length t.acts[i] = true) ∧ ∀ i (hi : i < t.gotos.length), i < s → rGB t.acts.length d.nons.length t.gotos[i] = true)) (fun i _ => t.acts.length - (intOf i).toNat)
  case atStart => exact ⟨0, rfl, Nat.zero_le _, HB1.out, fun i hi h0 => absurd h0 (Nat.not_lt_zero _), fun i hi h0 => absurd h0 (Nat.not_lt_zero _)⟩
  case round =>
    obtain ⟨s, rfl, hs, HX⟩ := hrel
    by_cases hlt : s < t.acts.length
    · have hlt' := hlt
      have hltg := HNX.out s hlt'
      have hltg' := hltg
      -- the two rows
      obtain ⟨ea, ca, ba, oa, sa, e8, hca, hma', haa, hcella, hra⟩ := (HQ.out wr HX.out.1).2.2.acts
      obtain ⟨eg, cg, bg, og, sg, e9, hcg, hmg', hag, hcellg, hrg⟩ := (HQ.out wr HX.out.1).2.2.gotos
      injection e8 with e81 e82 e83
      injection e9 with e91 e92 e93
      obtain ⟨rfl, _⟩ := haa (by omega)
      obtain ⟨rfl, _⟩ := hag (by omega)
      subst e81 e91
      have hA0 := hra s hlt'
      have hG0 := hrg s hltg'
      have kA := hcella s hlt'
      have kG := hcellg s hltg'
      obtain ⟨a2, p2, b2, o2, eA, hp2, hm2, h2a, hcA⟩ := hA0
      obtain ⟨a5, p5, b5, o5, eG, hp5, hm5, h5a, hcG⟩ := hG0
      rw [eA] at kA
      rw [eG] at kG
      unfold maxLen at hm2 hm5
      have HWA2 := (show Hid _ from HWA.out s hlt')
      have HWG2 := (show Hid _ from HWG.out s hltg')
      have HNA := (show Hid _ from fun (h1 : rAB t.acts.length d.prods.length d.terms.length t.acts[s] = true) (h2 : rGB t.acts.length d.nons.length t.gotos[s] = true) => (⟨fun i hi hij => by
        by_cases e : i = s
        · subst e; exact h1
        · exact HX.out.2.1 i hi (by omega), fun i hi hij => by
        by_cases e : i = s
        · subst e; exact h2
        · exact HX.out.2.2 i hi (by omega)⟩ : (∀ i (hi : i < t.acts.length), i < s + 1 → rAB t.acts.length d.prods.length d.terms.length t.acts[i] = true) ∧ ∀ i (hi : i < t.gotos.length), i < s + 1 → rGB t.acts.length d.nons.length t.gotos[i] = true))
      have HRD := (show Hid _ from fun (w' : World) (hb : Below wr.heap.size wr w') => (⟨(HQ.out w' (HX.out.1.trans (hb.mono (HX.out.1.size)))).1, (HQ.out w' (HX.out.1.trans (hb.mono (HX.out.1.size)))).2.1, (hb.cell (lt_of_cell kA)).trans kA, (hb.cell (lt_of_cell kG)).trans kG, HX.out.1.trans (hb.mono (HX.out.1.size))⟩ : Four w' w.heap.size (.slice a0 d.terms.length c0) (.slice a1 d.nons.length c1) (.int .i64 d.own) (.slice a3 d.prods.length c3) ∧ Two w' (w.heap.size + 1) (.slice (some ⟨ba, oa, none⟩) t.acts.length f0) (.slice (some ⟨bg, og, none⟩) t.gotos.length f1) ∧ w'.cell? ⟨ba, oa + s, none⟩ = some (.slice a2 t.acts[s].length p2) ∧ w'.cell? ⟨bg, og + s, none⟩ = some (.slice a5 t.gotos[s].length p5) ∧ Below W.heap.size W w'))
      have HCA := (show Hid _ from fun (w' : World) (hb : Below wr.heap.size wr w') (k : Nat) (hk : k < t.acts[s].length) => (⟨(h2a (by omega)).1, (hb.cell (lt_of_cell (hcA k hk).1)).trans (hcA k hk).1, (hb.cell (lt_of_cell (hcA k hk).2)).trans (hcA k hk).2⟩ : a2 = some ⟨b2, o2, none⟩ ∧ w'.cell? ⟨b2, o2 + k * 2, none⟩ = some (.int .i64 t.acts[s][k].1) ∧ w'.cell? ⟨b2, o2 + k * 2 + 1, none⟩ = some (.int .i64 t.acts[s][k].2)))
      have HCG := (show Hid _ from fun (w' : World) (hb : Below wr.heap.size wr w') (k : Nat) (hk : k < t.gotos[s].length) => (⟨(h5a (by omega)).1, (hb.cell (lt_of_cell (hcG k hk))).trans (hcG k hk)⟩ : a5 = some ⟨b5, o5, none⟩ ∧ w'.cell? ⟨b5, o5 + k, none⟩ = some (.int .i64 t.gotos[s][k])))
      clear hca hma' haa hcella hra hcg hmg' hag hcellg hrg e82 e83 e92 e93 eA eG h2a hcA h5a hcG kA kG
      have HWB := (show Hid _ from bel_trans HB0.out HX.out.1)
      generalize hRA : t.acts[s] = rowA at *
      generalize hRG : t.gotos[s] = rowG at *
      clear hRA hRG HX
      obtain ⟨⟨z0, z1, z2, z3⟩, ⟨y0, y1⟩, kA, kG, _⟩ := HRD.out wr (Below.refl _ _)
      by_cases hLA : rowA.length = d.terms.length + 1
      case neg =>
        have HF : Hid (R = false) := HWA2.out (by unfold rAB; rw [decide_eq_false hLA]; rfl)
        have j1 : ((rowA.length : Int) != (d.terms.length : Int) + 1) = true := by simp; omega
        clear hLA HWA2 HWG2 HNA HRD HCA HCG
        go_wp2_with fail
        go_quiet (fail)
        go_wp2_with fail
        go_ret
        exact ⟨by rw [HF.out]; rfl, bel_drewS HWB.out _⟩
      have j1 : ((rowA.length : Int) != (d.terms.length : Int) + 1) = false := by simp; omega
      by_cases hLG : rowG.length = d.nons.length
      case neg =>
        have HF : Hid (R = false) := HWG2.out (by unfold rGB; rw [decide_eq_false hLG]; rfl)
        have j2 : ((rowG.length : Int) != (d.nons.length : Int)) = true := by simp; omega
        clear hLG hLA HWA2 HWG2 HNA HRD HCA HCG
        go_wp2_with fail
        go_quiet (fail)
        go_wp2_with fail
        go_ret
        exact ⟨by rw [HF.out]; rfl, bel_drewS HWB.out _⟩
      have j2 : ((rowG.length : Int) != (d.nons.length : Int)) = false := by simp; omega
      have HLA := (show Hid _ from hLA)
      have HLG := (show Hid _ from hLG)
      clear hLA hLG
      have HWB0 := (show Hid _ from HWB.out)
      clear hwT
      go_wp2_with fail
      go_quiet (fail)
      go_wp2_with fail
      have HDR := (show Hid _ from bel_drewS (Below.refl wr.heap.size wr) 1)
      have HWK := (show Hid _ from fun (w' : World) (hb : Below wr.heap.size wr w') => bel_trans HWB0.out hb)
      have HBW := (show Hid _ from fun (w' : World) (hb : Below wr.heap.size wr w') => (HRD.out w' hb).2.2.2.2)
      clear z0 z1 z2 z3 y0 y1 kA kG j1 j2
      generalize wr = wo at *
      go_loopw [7] (fun i wq => ∃ k : Nat, i = .int .i64 k ∧ k ≤ rowA.length ∧ Hid (Below wo.heap.size wo wq ∧ ∀ i (hi : i < rowA.length), i < k → acB t.acts.length d.prods.length rowA[i] = true)) (fun i _ => rowA.length - (intOf i).toNat)
      case atStart => exact ⟨0, rfl, Nat.zero_le _, by first | exact HDR.out | exact bel_drewS (Below.refl wo.heap.size wo) _, fun i hi h0 => absurd h0 (Nat.not_lt_zero _)⟩
      case round =>
        obtain ⟨k, rfl, hk, HK⟩ := hrel
        obtain ⟨⟨z0, z1, z2, z3⟩, ⟨y0, y1⟩, kA, kG, _⟩ := HRD.out _ HK.out.1
        by_cases hkl : k < rowA.length
        · have hkl' := hkl
          obtain ⟨rfl, m0, m1⟩ := HCA.out _ HK.out.1 k hkl'
          have HNK := (show Hid _ from fun (h1 : acB t.acts.length d.prods.length rowA[k] = true) (i : Nat) (hi : i < rowA.length) (hij : i < k + 1) => (show acB t.acts.length d.prods.length rowA[i] = true by
            by_cases e : i = k
            · subst e; exact h1
            · exact HK.out.2 i hi (by omega)))
          have HFK : Hid (acB t.acts.length d.prods.length rowA[k] = false → R = false) := fun hf => HWA2.out (by unfold rAB; rw [all_false_at k hkl' hf, Bool.and_false])
          generalize rowA[k] = A at *
          obtain ⟨kd, N⟩ := A
          simp only at m0 m1
          have hac := acB_wi t.acts.length d.prods.length kd N (by omega)
          have HBK := (show Hid _ from fun (o : Obj) => HK.out.1.alloc (Nat.le_trans HK.out.1.size (Nat.le_refl _)) o)
          cases hX1 : wiB kd 0 3
          · have HF : Hid (R = false) := HFK.out (by rw [hac, hX1]; rfl)
            clear hac HNK HFK HRD HCA HCG
            by_cases hk1 : kd = 1
            · rw [hk1] at hX1; exact absurd hX1 (by decide)
            by_cases hk2 : kd = 2
            · rw [hk2] at hX1; exact absurd hX1 (by decide)
            have b1 : (kd == 1) = false := by simp [hk1]
            have b2 : (kd == 2) = false := by simp [hk2]
            go_wp2_with fail
            refine Calls.mono (HB.out _ _ _ _) ?_
            rintro e w3 ⟨rfl, rfl⟩
            rw [hX1]
            go_wp2_with fail
            go_ret
            exact ⟨by rw [HF.out]; rfl, HWK.out _ (HBK.out _)⟩
          by_cases hk1 : kd = 1
          · subst hk1
            rw [if_pos rfl] at hac
            cases hX2 : wiB N 0 ((t.acts.length : Int) - 1)
            · have HF : Hid (R = false) := HFK.out (by rw [hac, hX1, hX2]; rfl)
              clear hac HNK HFK HRD HCA HCG
              go_wp2_with fail
              refine Calls.mono (HB.out _ _ _ _) ?_
              rintro e w3 ⟨rfl, rfl⟩
              rw [hX1]
              go_wp2_with fail
              refine Calls.mono (HB.out _ _ _ _) ?_
              rintro e w3 ⟨rfl, rfl⟩
              rw [hX2]
              go_wp2_with fail
              go_ret
              exact ⟨by rw [HF.out]; rfl, HWK.out _ (HBK.out _)⟩
            · have HN := (show Hid _ from HNK.out (by rw [hac, hX1, hX2]; rfl))
              clear hac HNK HFK HRD HCA HCG
              go_wp2_with fail
              refine Calls.mono (HB.out _ _ _ _) ?_
              rintro e w3 ⟨rfl, rfl⟩
              rw [hX1]
              go_wp2_with fail
              refine Calls.mono (HB.out _ _ _ _) ?_
              rintro e w3 ⟨rfl, rfl⟩
              rw [hX2]
              go_wp2_with fail
              exact ⟨⟨k + 1, by go_num, by omega, HBK.out _, HN.out⟩, by simp [intOf]; omega⟩
          by_cases hk2 : kd = 2
          · subst hk2
            obtain ⟨⟨_, _, _, z3'⟩, _⟩ := HRD.out _ (HBK.out (.cells #[.int .i64 2, .int .i64 N] 71))
            rw [if_neg (by omega), if_pos rfl] at hac
            cases hX2 : wiB N 0 ((d.prods.length : Int) - 1)
            · have HF : Hid (R = false) := HFK.out (by rw [hac, hX1, hX2]; rfl)
              clear hac HNK HFK HRD HCA HCG
              go_wp2_with fail
              refine Calls.mono (HB.out _ _ _ _) ?_
              rintro e w3 ⟨rfl, rfl⟩
              rw [hX1]
              go_wp2_with fail
              refine Calls.mono (HB.out _ _ _ _) ?_
              rintro e w3 ⟨rfl, rfl⟩
              rw [hX2]
              go_wp2_with fail
              go_ret
              exact ⟨by rw [HF.out]; rfl, HWK.out _ (HBK.out _)⟩
            · have HN := (show Hid _ from HNK.out (by rw [hac, hX1, hX2]; rfl))
              clear hac HNK HFK HRD HCA HCG
              go_wp2_with fail
              refine Calls.mono (HB.out _ _ _ _) ?_
              rintro e w3 ⟨rfl, rfl⟩
              rw [hX1]
              go_wp2_with fail
              refine Calls.mono (HB.out _ _ _ _) ?_
              rintro e w3 ⟨rfl, rfl⟩
              rw [hX2]
              go_wp2_with fail
              exact ⟨⟨k + 1, by go_num, by omega, HBK.out _, HN.out⟩, by simp [intOf]; omega⟩
          have b1 : (kd == 1) = false := by simp [hk1]
          have b2 : (kd == 2) = false := by simp [hk2]
          rw [if_neg hk1, if_neg hk2] at hac
          cases hX2 : wiB N 0 (0)
          · have HF : Hid (R = false) := HFK.out (by rw [hac, hX1, hX2]; rfl)
            clear hac HNK HFK HRD HCA HCG
            go_wp2_with fail
            refine Calls.mono (HB.out _ _ _ _) ?_
            rintro e w3 ⟨rfl, rfl⟩
            rw [hX1]
            go_wp2_with fail
            refine Calls.mono (HB.out _ _ _ _) ?_
            rintro e w3 ⟨rfl, rfl⟩
            rw [hX2]
            go_wp2_with fail
            go_ret
            exact ⟨by rw [HF.out]; rfl, HWK.out _ (HBK.out _)⟩
          · have HN := (show Hid _ from HNK.out (by rw [hac, hX1, hX2]; rfl))
            clear hac HNK HFK HRD HCA HCG
            go_wp2_with fail
            refine Calls.mono (HB.out _ _ _ _) ?_
            rintro e w3 ⟨rfl, rfl⟩
            rw [hX1]
            go_wp2_with fail
            refine Calls.mono (HB.out _ _ _ _) ?_
            rintro e w3 ⟨rfl, rfl⟩
            rw [hX2]
            go_wp2_with fail
            exact ⟨⟨k + 1, by go_num, by omega, HBK.out _, HN.out⟩, by simp [intOf]; omega⟩
        · have HAT : Hid (rAB t.acts.length d.prods.length d.terms.length rowA = true) := by
            show rAB t.acts.length d.prods.length d.terms.length rowA = true
            unfold rAB
            rw [decide_eq_true HLA.out, all_true_of (fun i hi => HK.out.2 i hi (by omega))]
            rfl
          have HB2 := (show Hid _ from HK.out.1)
          clear HK HCA HWA2
          go_wp2_with fail
          clear z0 z1 z2 z3 y0 y1 kA kG
          go_loopw [10] (fun i wq => ∃ k : Nat, i = .int .i64 k ∧ k ≤ rowG.length ∧ Hid (Below wo.heap.size wo wq ∧ ∀ i (hi : i < rowG.length), i < k → wnB (-1) ((t.acts.length : Int) - 1) rowG[i] = true)) (fun i _ => rowG.length - (intOf i).toNat)
          case atStart => exact ⟨0, rfl, Nat.zero_le _, HB2.out, fun i hi h0 => absurd h0 (Nat.not_lt_zero _)⟩
          case round =>
            obtain ⟨k, rfl, hk, HK⟩ := hrel
            obtain ⟨_, ⟨y0, y1⟩, kA, kG, _⟩ := HRD.out _ HK.out.1
            by_cases hkl : k < rowG.length
            · have hkl' := hkl
              obtain ⟨rfl, m0⟩ := HCG.out _ HK.out.1 k hkl'
              have HNK := (show Hid _ from fun (h1 : wnB (-1) ((t.acts.length : Int) - 1) rowG[k] = true) (i : Nat) (hi : i < rowG.length) (hij : i < k + 1) => (show wnB (-1) ((t.acts.length : Int) - 1) rowG[i] = true by
                by_cases e : i = k
                · subst e; exact h1
                · exact HK.out.2 i hi (by omega)))
              have HFK : Hid (wnB (-1) ((t.acts.length : Int) - 1) rowG[k] = false → R = false) := fun hf => HWG2.out (by unfold rGB; rw [all_false_at k hkl' hf, Bool.and_false])
              generalize rowG[k] = A at *
              have hac := wnB_wi (-1) ((t.acts.length : Int) - 1) A
              have HBK := (show Hid _ from HK.out.1)
              clear HRD HCG HK
              cases hX1 : wiB A (-1) ((t.acts.length : Int) - 1)
              · have HF : Hid (R = false) := HFK.out (by rw [hac, hX1])
                clear hac HNK HFK
                go_wp2_with fail
                refine Calls.mono (HB.out _ _ _ _) ?_
                rintro e w3 ⟨rfl, rfl⟩
                rw [hX1]
                go_wp2_with fail
                go_ret
                exact ⟨by rw [HF.out]; rfl, HWK.out _ HBK.out⟩
              · have HN := (show Hid _ from HNK.out (by rw [hac, hX1]))
                clear hac HNK HFK
                go_wp2_with fail
                refine Calls.mono (HB.out _ _ _ _) ?_
                rintro e w3 ⟨rfl, rfl⟩
                rw [hX1]
                go_wp2_with fail
                exact ⟨⟨k + 1, by go_num, by omega, HBK.out, HN.out⟩, by simp [intOf]; omega⟩
            · have HGT : Hid (rGB t.acts.length d.nons.length rowG = true) := by
                show rGB t.acts.length d.nons.length rowG = true
                unfold rGB
                rw [decide_eq_true HLG.out, all_true_of (fun i hi => HK.out.2 i hi (by omega))]
                rfl
              have HNN := (show Hid _ from HNA.out HAT.out HGT.out)
              have HBB := (show Hid _ from HBW.out _ HK.out.1)
              clear HK HCG HWG2 HRD
              go_wp2_with fail
              exact ⟨⟨s + 1, by go_num, by omega, HBB.out, HNN.out.1, HNN.out.2⟩, by simp [intOf]; omega⟩
    · have hsn : s = t.acts.length := by omega
      have HF : Hid (R = true) := HWT.out (fun i hi => HX.out.2.1 i hi (by omega)) (fun i hi => HX.out.2.2 i hi (by have := HG3.out; omega))
      have HWB := (show Hid _ from bel_trans HB0.out HX.out.1)
      clear HX hsn
      go_wp2_with fail
      go_ret
      exact ⟨by rw [HF.out]; rfl, HWB.out⟩
end Go.Proofs.Ytflhfimgeladaaa
