import Derived.Test.YtpbpmhgoppbfnaaHf
import Derived.Test.YtpbpmhgoppbfnaaIbo
/-! The program: Shortest. -/
namespace Go.Proofs.Ytpbpmhgoppbfnaa
open Go.RowKit Go.Deep
set_option linter.unusedVariables false
set_option maxRecDepth 100000
set_option linter.unusedSimpArgs false

/-- What Shortest answers for a Non that there is, by the Least. -/
def ShL (d : Bn) (x : Nat) (R : List Int × Int) : Prop :=
  ∃ L : Nat → Int, Snd d.terms.length (bps d) L ∧ (∀ p ∈ bps d, lnew L p = false) ∧ ((L x = -1 ∧ R = ([], 6)) ∨ (200 < L x ∧ R = ([], 3)) ∨ (0 ≤ L x ∧ L x ≤ 200 ∧ ∃ u, Bst d.terms.length (bps d) L x u ∧ R = (tin u, 0)))
/-- What Shortest answers. -/
def ShR (d : Bn) (non : Int) (R : List Int × Int) : Prop :=
  (bnB d = false ∧ R = ([], 1)) ∨ (bnB d = true ∧ ¬ (0 ≤ non ∧ non < d.nons.length) ∧ R = ([], 4)) ∨ (bnB d = true ∧ 0 ≤ non ∧ non < d.nons.length ∧ ShL d (d.terms.length + non.toNat) R)
theorem Bst.move {nt : Nat} {ps : List (Nat × List Nat)} {L M : Nat → Int} {x : Nat} {u : List Nat} (h : Bst nt ps L x u) (e : L x = M x) : Bst nt ps M x u := ⟨h.made, by rw [← e]; exact h.len, h.least⟩
theorem ShL.uniq {d : Bn} (hnt : d.terms.length ≤ 256) {x : Nat} {R R' : List Int × Int} (h : ShL d x R) (k : ShL d x R') : R = R' := by
  obtain ⟨L, hS, hq, h⟩ := h
  obtain ⟨M, kS, kq, k⟩ := k
  have e := hS.uniq hq kS kq x
  rcases h with ⟨h1, rfl⟩ | ⟨h1, rfl⟩ | ⟨h1, h2, u, hu, rfl⟩
  · rcases k with ⟨k1, rfl⟩ | ⟨k1, rfl⟩ | ⟨k1, k2, v, hv, rfl⟩
    · rfl
    · omega
    · omega
  · rcases k with ⟨k1, rfl⟩ | ⟨k1, rfl⟩ | ⟨k1, k2, v, hv, rfl⟩
    · omega
    · rfl
    · omega
  · rcases k with ⟨k1, rfl⟩ | ⟨k1, rfl⟩ | ⟨k1, k2, v, hv, rfl⟩
    · omega
    · omega
    · rw [hu.uniq hnt (hv.move e.symm)]
theorem ShR.uniq {d : Bn} {non : Int} {R R' : List Int × Int} (h : ShR d non R) (k : ShR d non R') : R = R' := by
  rcases h with ⟨h1, rfl⟩ | ⟨h1, h2, rfl⟩ | ⟨h1, h2, h3, h4⟩
  · rcases k with ⟨k1, rfl⟩ | ⟨k1, k2, rfl⟩ | ⟨k1, k2, k3, k4⟩
    · rfl
    · rw [h1] at k1; cases k1
    · rw [h1] at k1; cases k1
  · rcases k with ⟨k1, rfl⟩ | ⟨k1, k2, rfl⟩ | ⟨k1, k2, k3, k4⟩
    · rw [h1] at k1; cases k1
    · rfl
    · exact absurd ⟨k2, k3⟩ h2
  · rcases k with ⟨k1, rfl⟩ | ⟨k1, k2, rfl⟩ | ⟨k1, k2, k3, k4⟩
    · rw [h1] at k1; cases k1
    · exact absurd ⟨h2, h3⟩ k2
    · exact h4.uniq (by have := (bnB_ok h1).nt; omega) k4
theorem ShR.len {d : Bn} {non : Int} {R : List Int × Int} (h : ShR d non R) : R.1.length ≤ 200 := by
  rcases h with ⟨h1, rfl⟩ | ⟨h1, h2, rfl⟩ | ⟨h1, h2, h3, L, hS, hq, h⟩
  · simp
  · simp
  · rcases h with ⟨h1, rfl⟩ | ⟨h1, rfl⟩ | ⟨h1, h2, u, hu, rfl⟩
    · simp
    · simp
    · have := hu.len
      show (tin u).length ≤ 200
      rw [tin_len]
      omega
theorem hasNon33 (d : Bn) (v0 v3 : Value) (a1 : Option Addr) (c1 : Nat) (non : Int) (w : World) :
    Calls Try.prog 33 #[.agg #[v0, .slice a1 d.nons.length c1, .int .i64 d.own, v3], .int .i64 non] w fun e w' => e = .returned (.bool (decide (0 ≤ non ∧ non < d.nons.length))) ∧ Below w.heap.size w w' := by
  have HB := (show Hid _ from bel_alloc w (.cells #[v0, .slice a1 d.nons.length c1, .int .i64 d.own, v3] 34))
  by_cases h1 : 0 ≤ non
  · by_cases h2 : non < d.nons.length
    · have e : decide (0 ≤ non ∧ non < d.nons.length) = true := decide_eq_true ⟨h1, h2⟩
      rw [e]
      clear e
      go_enter Try.func33, Try.ntmps33
      go_wp2_with fail
      go_ret
      exact ⟨by simp [h2], HB.out⟩
    · have e : decide (0 ≤ non ∧ non < d.nons.length) = false := decide_eq_false (fun h => h2 h.2)
      rw [e]
      clear e
      go_enter Try.func33, Try.ntmps33
      go_wp2_with fail
      go_ret
      exact ⟨by simp [h2], HB.out⟩
  · have e : decide (0 ≤ non ∧ non < d.nons.length) = false := decide_eq_false (fun h => h1 h.1)
    rw [e]
    clear e
    go_enter Try.func33, Try.ntmps33
    go_wp2_with fail
    go_ret
    exact ⟨rfl, HB.out⟩
set_option maxHeartbeats 6400000 in
theorem iSho_any {S : Nat → Prop} (d : Bn) (v0 v1 v3 : Value) (non : Int) (w : World) (h : BLies w S d v0 v1 v3) :
    Calls Try.prog 9 #[.agg #[v0, v1, .int .i64 d.own, v3], .int .i64 non] w fun e w' => ∃ R, ShR d non R ∧ YAns R w e w' := by
  obtain ⟨a0, c0, a1, c1, a3, c3, rfl, rfl, rfl⟩ := h.form
  have hb0 := bel_alloc w (.cells #[.slice a0 d.terms.length c0, .slice a1 d.nons.length c1, .int .i64 d.own, .slice a3 d.prods.length c3] 34)
  have HG := (show Hid _ from iBnf_any d _ _ _ _ (h.still hb0))
  have HX := (show Hid _ from Box.new w 34 [.slice a0 d.terms.length c0, .slice a1 d.nons.length c1, .int .i64 d.own, .slice a3 d.prods.length c3])
  have HB0 := (show Hid _ from hb0)
  have HL := (show Hid _ from h)
  have HNIL := (show Hid (∀ (C : Int) (w' : World), ShR d non ([], C) → Below w.heap.size w w' → ∃ R, ShR d non R ∧ YAns R w (.returned (.tuple #[.slice none 0 0, .int .i64 C])) w') from fun C w' h1 h2 => ⟨_, h1, YAns.nil h2⟩)
  clear h hb0
  cases hbn : bnB d
  · have HSR : Hid (ShR d non ([], 1)) := .inl ⟨hbn, rfl⟩
    rw [hbn] at HG
    clear hbn
    go_enter Try.func9, Try.ntmps9
    go_wp2_with fail
    refine Calls.mono HG.out ?_
    rintro e w1 ⟨rfl, hb1⟩
    have HF := (show Hid _ from HNIL.out 1 w1 HSR.out (bel_trans HB0.out hb1)); clear hb1
    go_wp2_with fail
    refine bodyPost_ret (v := .tuple #[.slice none 0 0, .int .i64 1]) (by simp [results, Try.results9, go_sem]) rfl ?_
    exact HF.out
  rw [hbn] at HG
  have hok := bnB_ok hbn
  have HBN := (show Hid _ from hbn)
  have HOK := (show Hid _ from hok)
  have HHN := (show Hid _ from fun (w' : World) => hasNon33 d (.slice a0 d.terms.length c0) (.slice a3 d.prods.length c3) a1 c1 non w')
  clear hbn hok
  go_enter Try.func9, Try.ntmps9
  go_wp2_with fail
  refine Calls.mono HG.out ?_
  rintro e w1 ⟨rfl, hb1⟩
  have HX1 := (show Hid _ from HX.out.still hb1)
  have HB1 := (show Hid _ from bel_trans HB0.out hb1); clear hb1 HG
  have T0 := HX1.out.cell 0 (by simp)
  have T1 := HX1.out.cell 1 (by simp)
  have T2 := HX1.out.cell 2 (by simp)
  have T3 := HX1.out.cell 3 (by simp)
  simp only [List.getD_cons_zero, List.getD_cons_succ] at T0 T1 T2 T3
  go_wp2_with fail
  refine Calls.mono (HHN.out w1) ?_
  rintro e w2 ⟨rfl, hb2⟩
  have HX2 := (show Hid _ from Box.still HX1.out hb2)
  have HB2 := (show Hid _ from bel_trans HB1.out hb2); clear hb2 T0 T1 T2 T3 HX1 HB1
  by_cases hn : 0 ≤ non ∧ non < d.nons.length
  case neg =>
    have e0 : decide (0 ≤ non ∧ non < d.nons.length) = false := decide_eq_false hn
    rw [e0]
    have HF := (show Hid _ from HNIL.out 4 w2 (.inr (.inl ⟨HBN.out, hn, rfl⟩)) HB2.out)
    clear e0 hn
    go_wp2_with fail
    refine bodyPost_ret (v := .tuple #[.slice none 0 0, .int .i64 4]) (by simp [results, Try.results9, go_sem]) rfl ?_
    exact HF.out
  have e0 : decide (0 ≤ non ∧ non < d.nons.length) = true := decide_eq_true hn
  rw [e0]
  clear e0
  obtain ⟨hn0, hn1⟩ := hn
  obtain ⟨m, hm⟩ : ∃ m : Nat, non = m := ⟨non.toNat, by omega⟩
  subst hm
  have hm1 : m < d.nons.length := by omega
  have HSR := (show Hid (∀ R, ShL d (d.terms.length + m) R → ShR d (m : Int) R) from fun R hR => .inr (.inr ⟨HBN.out, hn0, hn1, by rw [Int.toNat_natCast]; exact hR⟩))
  have HST := (show Hid _ from study_any d HOK.out _ _ _ w2 (BLies.still HL.out HB2.out))
  have T0 := HX2.out.cell 0 (by simp)
  have T1 := HX2.out.cell 1 (by simp)
  have T2 := HX2.out.cell 2 (by simp)
  have T3 := HX2.out.cell 3 (by simp)
  simp only [List.getD_cons_zero, List.getD_cons_succ] at T0 T1 T2 T3
  have h60 := HOK.out.nt
  have h100 := HOK.out.nn.2
  go_wp2_with fail
  refine Calls.mono HST.out ?_
  rintro e w3 ⟨g, b, L, rfl, hg1, hg2, hI, hq⟩
  have HB3 := (show Hid _ from bel_trans HB2.out hI.1)
  have hX3 := Box.still HX2.out hI.1
  have T0' := hX3.cell 0 (by simp)
  simp only [List.getD_cons_zero] at T0'
  obtain ⟨N, hN⟩ : ∃ N, N = d.terms.length + d.nons.length := ⟨_, rfl⟩
  obtain ⟨x, hx⟩ : ∃ x, x = d.terms.length + m := ⟨_, rfl⟩
  rw [← hN] at hI
  have hLl : L.length = N := hI.2.2.1
  have hxN : x < L.length := by omega
  have Q4 := hI.2.1.box.cell 4 (by simp)
  simp only [List.getD_cons_zero, List.getD_cons_succ] at Q4
  rw [hLl] at Q4
  have Qx := hI.2.1.cell x hxN
  have hlo := hI.2.2.2.low x
  rw [Lf_lt hxN] at hlo
  have HQ := (show Hid _ from hq)
  have HLF := (show Hid _ from Lf_lt hxN)
  have HSHO := (show Hid _ from shortest_any d HOK.out N g b a0 c0 _ _ _ L w3 (BLies.still HL.out HB3.out).prods hI.2.1 hLl hN hI.2.2.2)
  have HSND := (show Hid _ from hI.2.2.2)
  have hxe : (d.terms.length : Int) + (m : Int) = (x : Int) := by omega
  have hxN2 : x < N := by omega
  have HXN := (show Hid (x = d.terms.length + m ∧ x < N) from ⟨hx, hxN2⟩)
  clear hI hq hX3 hN T0 T1 T2 T3 HST hLl
  generalize hLx : L[x] = Lx at *
  by_cases e1 : Lx = -1
  · have HF := (show Hid _ from HNIL.out 6 w3 (HSR.out _ ⟨Lf L, HSND.out, HQ.out, .inl ⟨by rw [← hx, HLF.out]; exact e1, rfl⟩⟩) HB3.out)
    subst e1
    clear hLx hx
    go_wp2_with fail
    refine bodyPost_ret (v := .tuple #[.slice none 0 0, .int .i64 6]) (by simp [results, Try.results9, go_sem]) rfl ?_
    exact HF.out
  have k1 : (Lx == -1) = false := by simp [e1]
  by_cases e2 : 200 < Lx
  · have HF := (show Hid _ from HNIL.out 3 w3 (HSR.out _ ⟨Lf L, HSND.out, HQ.out, .inr (.inl ⟨by rw [← hx, HLF.out]; exact e2, rfl⟩)⟩) HB3.out)
    clear hLx hx
    go_wp2_with fail
    refine bodyPost_ret (v := .tuple #[.slice none 0 0, .int .i64 3]) (by simp [results, Try.results9, go_sem]) rfl ?_
    exact HF.out
  have HLX := (show Hid (0 ≤ Lf L x ∧ Lf L x ≤ 200) from by show 0 ≤ Lf L x ∧ Lf L x ≤ 200; rw [HLF.out]; omega)
  clear hLx hx
  go_wp2_with fail
  refine Calls.mono HSHO.out ?_
  rintro e w4 ⟨b4, l, rfl, hb4, hr4, hl4, hpw, hnw⟩
  have hbst := hpw.best HSND.out HQ.out hnw x HLX.out.1 HLX.out.2
  have hxl : x < l.length := by have := HXN.out.2; omega
  have s4 := hr4.cell hxl
  have HTI := (show Hid _ from termsIn_any (wsF l x) (hpw.sm x) (hpw.lim x) w4)
  have HB4 := (show Hid _ from bel_trans HB3.out hb4)
  have HBE := (show Hid (ShR d (m : Int) (tin (wsF l x), 0)) from HSR.out _ ⟨Lf L, HSND.out, HQ.out, .inr (.inr ⟨by rw [← HXN.out.1]; exact HLX.out.1, by rw [← HXN.out.1]; exact HLX.out.2, wsF l x, by rw [← HXN.out.1]; exact hbst, rfl⟩)⟩)
  clear hb4 hr4 hpw hnw hbst hl4 HSHO
  generalize wsF l x = U at *
  obtain ⟨T, hT⟩ : ∃ T, bw U = T := ⟨_, rfl⟩
  rw [hT] at s4 HTI
  clear hT
  go_wp2_with fail
  refine Calls.mono HTI.out ?_
  rintro e w5 ⟨v, rfl, hb5, ho5⟩
  have HF : Hid (∃ R, ShR d (m : Int) R ∧ YAns R w (.returned (.tuple #[v, .int .i64 0])) w5) := ⟨_, HBE.out, YAns.of ho5 HB4.out.size (bel_trans HB4.out hb5)⟩
  clear hb5 ho5 HTI
  go_wp2_with fail
  refine bodyPost_ret (v := .tuple #[v, .int .i64 0]) (by simp [results, Try.results9, go_sem]) rfl ?_
  exact HF.out
end Go.Proofs.Ytpbpmhgoppbfnaa
