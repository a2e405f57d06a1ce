import Derived.Test.YtpbpmhgoppbfnaaTz
import Derived.Test.YtpbpmhgoppbfnaaCw
/-! The program's Count. -/
namespace Go.Proofs.Ytpbpmhgoppbfnaa
open Go.RowKit Go.Deep
set_option linter.unusedVariables false
set_option maxRecDepth 100000
set_option linter.unusedSimpArgs false

/-- A word of terminals. -/
def wdB (d : Bn) (W : List Int) : Bool := decide (W.length ≤ 40) && W.all (fun x => wiB x 0 ((d.terms.length : Int) - 1))
/-- What is answered. -/
def CtR (d : Bn) (non : Int) (W : List Int) (R : Int × Int) : Prop :=
  (¬ (bnB d = true ∧ wdB d W = true) ∧ R = (0, 1)) ∨
  (bnB d = true ∧ wdB d W = true ∧ ¬ (0 ≤ non ∧ non < d.nons.length) ∧ R = (0, 4)) ∨
  (bnB d = true ∧ wdB d W = true ∧ (0 ≤ non ∧ non < d.nons.length) ∧ Cyc d ∧ R = (0, 9)) ∨
  (bnB d = true ∧ wdB d W = true ∧ (0 ≤ non ∧ non < d.nons.length) ∧ ¬ Cyc d ∧ ∃ V, Cn d W V ∧ R = (((cp (V (d.terms.length + non.toNat) 0 W.length) : Nat) : Int), 0))
theorem CtR.uniq {d : Bn} {non : Int} {W : List Int} {R R' : Int × Int} (h : CtR d non W R) (k : CtR d non W R') : R = R' := by
  have hwl : wdB d W = true → W.length ≤ 1000 := fun hw => by
    unfold wdB at hw
    simp only [Bool.and_eq_true, decide_eq_true_eq] at hw
    omega
  rcases h with ⟨h1, rfl⟩ | ⟨h1, h2, h3, rfl⟩ | ⟨h1, h2, h3, h4, rfl⟩ | ⟨h1, h2, h3, h4, V, hV, rfl⟩ <;>
  rcases k with ⟨k1, rfl⟩ | ⟨k1, k2, k3, rfl⟩ | ⟨k1, k2, k3, k4, rfl⟩ | ⟨k1, k2, k3, k4, V', hV', rfl⟩ <;>
  first
    | rfl
    | exact absurd ⟨k1, k2⟩ h1
    | exact absurd ⟨h1, h2⟩ k1
    | exact absurd k3 h3
    | exact absurd h3 k3
    | exact absurd k4 h4
    | exact absurd h4 k4
    | (rw [Cn.uniq (bnB_ok h1) h4 (hwl h2) hV hV' _ _ _ (by omega) (Nat.le_refl _)])
theorem CtR.small {d : Bn} {non : Int} {W : List Int} {R : Int × Int} (h : CtR d non W R) : 0 ≤ R.1 ∧ R.1 ≤ 1000000 := by
  rcases h with ⟨_, rfl⟩ | ⟨_, _, _, rfl⟩ | ⟨_, _, _, _, rfl⟩ | ⟨_, _, _, _, V, _, rfl⟩
  · simp
  · simp
  · simp
  · have := cp_le (V (d.terms.length + non.toNat) 0 W.length)
    dsimp only
    omega
theorem CtR.bad1 {d : Bn} {non : Int} {W : List Int} (h : bnB d = false) : CtR d non W (0, 1) := Or.inl ⟨fun hh => by rw [h] at hh; exact absurd hh.1 (by simp), rfl⟩
theorem CtR.bad2 {d : Bn} {non : Int} {W : List Int} (h : wdB d W = false) : CtR d non W (0, 1) := Or.inl ⟨fun hh => by rw [h] at hh; exact absurd hh.2 (by simp), rfl⟩
theorem CtR.place {d : Bn} {non : Int} {W : List Int} (h1 : bnB d = true) (h2 : wdB d W = true) (h3 : ¬ (0 ≤ non ∧ non < d.nons.length)) : CtR d non W (0, 4) := Or.inr (Or.inl ⟨h1, h2, h3, rfl⟩)
theorem CtR.loop {d : Bn} {non : Int} {W : List Int} (h1 : bnB d = true) (h2 : wdB d W = true) (h3 : 0 ≤ non ∧ non < d.nons.length) (h4 : Cyc d) : CtR d non W (0, 9) := Or.inr (Or.inr (Or.inl ⟨h1, h2, h3, h4, rfl⟩))
theorem CtR.fine {d : Bn} {non : Int} {W : List Int} (h1 : bnB d = true) (h2 : wdB d W = true) (h3 : 0 ≤ non ∧ non < d.nons.length) (h4 : ¬ Cyc d) {V : Nat → Nat → Nat → Nat} (hV : Cn d W V) : CtR d non W (((cp (V (d.terms.length + non.toNat) 0 W.length) : Nat) : Int), 0) := Or.inr (Or.inr (Or.inr ⟨h1, h2, h3, h4, V, hV, rfl⟩))
theorem new49 (g : Nat) (av : Option Addr) (nv cv : Nat) (w : World) :
    Calls Try.prog 49 #[.pointer (some ⟨g, 0, none⟩), .slice av nv cv] w fun e w' => e = .returned (.pointer (some ⟨w.heap.size + 1 + 1, 0, none⟩)) ∧ w' = ((w.alloc (.map #[] 0)).alloc (.map #[] 0)).alloc (.cells #[.pointer (some ⟨g, 0, none⟩), .slice av nv cv, .map (some w.heap.size), .map (some (w.heap.size + 1))] 123) := by
  have hmm := @run_makeMap Try.prog
  go_enter Try.func49, Try.ntmps49
  go_wp2_with fail
  go_ret
  exact ⟨rfl, rfl⟩
theorem isWord48 {S : Nat → Prop} (d : Bn) (v1 v3 : Value) (a0 : Option Addr) (c0 : Nat) (W : List Int) (vw : Value) (w : World) (hnt : d.terms.length ≤ 60) (h : Ints w S W vw) :
    Calls Try.prog 48 #[.agg #[.slice a0 d.terms.length c0, v1, .int .i64 d.own, v3], vw, .int .i64 40] w fun e w' => e = .returned (.bool (wdB d W)) ∧ Below w.heap.size w w' := by
  have hb := bel_alloc w (.cells #[.slice a0 d.terms.length c0, v1, .int .i64 d.own, v3] 34)
  have HB := (show Hid _ from hb)
  have HWI := (show Hid _ from within_any W 0 ((d.terms.length : Int) - 1) vw _ (h.still hb))
  obtain ⟨av, cv, rfl, hm⟩ := h.form
  unfold maxLen at hm
  by_cases hl : W.length ≤ 40
  · have hd : decide ((W.length : Int) ≤ 40) = true := by simp; omega
    have he : wdB d W = W.all (fun x => wiB x 0 ((d.terms.length : Int) - 1)) := by unfold wdB; simp [hl]
    have HE := (show Hid _ from he); clear he
    clear h hb
    go_enter Try.func48, Try.ntmps48
    go_wp2_with fail
    refine Calls.mono HWI.out ?_
    rintro e w2 ⟨rfl, rfl⟩
    go_wp2_with fail
    go_ret
    exact ⟨by rw [HE.out]; rfl, HB.out⟩
  · have hd : decide ((W.length : Int) ≤ 40) = false := by simp; omega
    have he : wdB d W = false := by unfold wdB; simp [hl]
    have HE := (show Hid _ from he); clear he
    clear h hb
    go_enter Try.func48, Try.ntmps48
    go_wp2_with fail
    go_ret
    exact ⟨by rw [HE.out]; rfl, HB.out⟩
set_option maxHeartbeats 3200000 in
theorem iCnt_any {S S2 : Nat → Prop} (d : Bn) (v0 v1 v3 : Value) (non : Int) (W : List Int) (vw : Value) (w : World) (h : BLies w S d v0 v1 v3) (hwd : Ints w S2 W vw) :
    Calls Try.prog 19 #[.agg #[v0, v1, .int .i64 d.own, v3], .int .i64 non, vw] w fun e w' => ∃ R, CtR d non W R ∧ e = .returned (.tuple #[.int .i64 R.1, .int .i64 R.2]) ∧ Below w.heap.size w w' := by
  obtain ⟨a0, c0, a1, c1, a3, c3, rfl, rfl, rfl⟩ := h.form
  obtain ⟨av, cv, rfl, hwm⟩ := hwd.form
  have hb0 := bel_alloc w (.cells #[.slice a0 d.terms.length c0, .slice a1 d.nons.length c1, .int .i64 d.own, .slice a3 d.prods.length c3] 34)
  have HG := (show Hid _ from iBnf_any d _ _ _ _ (h.still hb0))
  have HX := (show Hid _ from Box.new w 34 [.slice a0 d.terms.length c0, .slice a1 d.nons.length c1, .int .i64 d.own, .slice a3 d.prods.length c3])
  have HB0 := (show Hid _ from hb0)
  have HL := (show Hid _ from h)
  have HWD := (show Hid (Ints w S2 W (.slice av W.length cv)) from hwd)
  unfold maxLen at hwm
  clear h hb0 hwd
  cases hbn : bnB d
  · rw [hbn] at HG
    have HR := (show Hid (CtR d non W (0, 1)) from CtR.bad1 hbn)
    clear hbn
    go_enter Try.func19, Try.ntmps19
    go_wp2_with fail
    refine Calls.mono HG.out ?_
    rintro e w1 ⟨rfl, hb1⟩
    have HN := (show Hid _ from bel_trans HB0.out hb1); clear hb1
    go_wp2_with fail
    refine bodyPost_ret (v := .tuple #[.int .i64 0, .int .i64 1]) (by simp [results, Try.results19, go_sem]) rfl ?_
    exact ⟨((0 : Int), (1 : Int)), HR.out, rfl, HN.out⟩
  rw [hbn] at HG
  have hok := bnB_ok hbn
  have hnt := hok.nt
  go_enter Try.func19, Try.ntmps19
  go_wp2_with fail
  refine Calls.mono HG.out ?_
  rintro e w1 ⟨rfl, hb1⟩
  have T0 : w1.cell? ⟨w.heap.size, 0, none⟩ = some (.slice a0 d.terms.length c0) := (HX.out.still hb1).cell 0 (by simp)
  have T1 : w1.cell? ⟨w.heap.size, 1, none⟩ = some (.slice a1 d.nons.length c1) := (HX.out.still hb1).cell 1 (by simp)
  have T2 : w1.cell? ⟨w.heap.size, 2, none⟩ = some (.int .i64 d.own) := (HX.out.still hb1).cell 2 (by simp)
  have T3 : w1.cell? ⟨w.heap.size, 3, none⟩ = some (.slice a3 d.prods.length c3) := (HX.out.still hb1).cell 3 (by simp)
  have HX1 := (show Hid _ from HX.out.still hb1)
  have HB1 := (show Hid _ from bel_trans HB0.out hb1); clear hb1 HG
  have HIW := (show Hid _ from isWord48 d (.slice a1 d.nons.length c1) (.slice a3 d.prods.length c3) a0 c0 W _ w1 hnt (Ints.still HWD.out HB1.out))
  cases hwb : wdB d W
  · rw [hwb] at HIW
    have HR := (show Hid (CtR d non W (0, 1)) from CtR.bad2 hwb)
    clear hwb hbn
    go_wp2_with fail
    refine Calls.mono HIW.out ?_
    rintro e w2 ⟨rfl, hb2⟩
    have HN := (show Hid _ from bel_trans HB1.out hb2); clear hb2
    go_wp2_with fail
    refine bodyPost_ret (v := .tuple #[.int .i64 0, .int .i64 1]) (by simp [results, Try.results19, go_sem]) rfl ?_
    exact ⟨((0 : Int), (1 : Int)), HR.out, rfl, HN.out⟩
  rw [hwb] at HIW
  go_wp2_with fail
  refine Calls.mono HIW.out ?_
  rintro e w2 ⟨rfl, hb2⟩
  have HX2 := (show Hid _ from HX1.out.still hb2)
  have HB2 := (show Hid _ from bel_trans HB1.out hb2)
  clear T0 T1 T2 T3 hb2 HIW HX1
  have T0 : w2.cell? ⟨w.heap.size, 0, none⟩ = some (.slice a0 d.terms.length c0) := HX2.out.cell 0 (by simp)
  have T1 : w2.cell? ⟨w.heap.size, 1, none⟩ = some (.slice a1 d.nons.length c1) := HX2.out.cell 1 (by simp)
  have T2 : w2.cell? ⟨w.heap.size, 2, none⟩ = some (.int .i64 d.own) := HX2.out.cell 2 (by simp)
  have T3 : w2.cell? ⟨w.heap.size, 3, none⟩ = some (.slice a3 d.prods.length c3) := HX2.out.cell 3 (by simp)
  have HHN := (show Hid _ from hasNonC d (.slice a0 d.terms.length c0) (.slice a3 d.prods.length c3) a1 c1 non w2)
  by_cases hnon : 0 ≤ non ∧ non < d.nons.length
  case neg =>
    have hdn : decide (0 ≤ non ∧ non < d.nons.length) = false := decide_eq_false hnon
    rw [hdn] at HHN
    have HR := (show Hid (CtR d non W (0, 4)) from CtR.place hbn hwb hnon)
    clear hwb hbn hnon hdn
    go_wp2_with fail
    refine Calls.mono HHN.out ?_
    rintro e w3 ⟨rfl, hb3⟩
    have HN := (show Hid _ from bel_trans HB2.out hb3); clear hb3
    go_wp2_with fail
    refine bodyPost_ret (v := .tuple #[.int .i64 0, .int .i64 4]) (by simp [results, Try.results19, go_sem]) rfl ?_
    exact ⟨((0 : Int), (4 : Int)), HR.out, rfl, HN.out⟩
  have hdn : decide (0 ≤ non ∧ non < d.nons.length) = true := decide_eq_true hnon
  rw [hdn] at HHN
  go_wp2_with fail
  refine Calls.mono HHN.out ?_
  rintro e w3 ⟨rfl, hb3⟩
  have HX3 := (show Hid _ from HX2.out.still hb3)
  have HB3 := (show Hid _ from bel_trans HB2.out hb3)
  clear T0 T1 T2 T3 hb3 HHN HX2
  have T0 : w3.cell? ⟨w.heap.size, 0, none⟩ = some (.slice a0 d.terms.length c0) := HX3.out.cell 0 (by simp)
  have T1 : w3.cell? ⟨w.heap.size, 1, none⟩ = some (.slice a1 d.nons.length c1) := HX3.out.cell 1 (by simp)
  have T2 : w3.cell? ⟨w.heap.size, 2, none⟩ = some (.int .i64 d.own) := HX3.out.cell 2 (by simp)
  have T3 : w3.cell? ⟨w.heap.size, 3, none⟩ = some (.slice a3 d.prods.length c3) := HX3.out.cell 3 (by simp)
  have HBL := (show Hid _ from HL.out.still HB3.out)
  have HST := (show Hid _ from study_any d hok _ _ _ w3 HBL.out)
  go_wp2_with fail
  refine Calls.mono HST.out ?_
  rintro e w4 ⟨gs, bs, L, rfl, hg1, hg2, hI, hq⟩
  have HI := (show Hid _ from (⟨hI, hq, hg1, hg2⟩ : _ ∧ _ ∧ _ ∧ _))
  have HX4 := (show Hid _ from HX3.out.still hI.1)
  have HCY := (show Hid _ from cyclic_any d hok w3 (d.terms.length + d.nons.length) gs bs _ _ _ _ HBL.out.prods L w4 hI.1 hI.2.1 hI.2.2.1 rfl)
  have hzz : ∀ x, Lf L x = 0 ↔ Lens d.terms.length (bps d) [x] 0 := fun x => hI.2.2.2.zero hq x
  have HZZ := (show Hid _ from hzz)
  clear T0 T1 T2 T3 hI hq hg1 hg2 hzz HST HX3
  go_wp2_with fail
  refine Calls.mono HCY.out ?_
  rintro e w5 ⟨B, rfl, hb5, hB⟩
  have hcyc : B = true ↔ Cyc d := by
    rw [hB]
    constructor
    · rintro ⟨x, hx⟩
      exact ⟨x, hx.mono (fun a b hab => (Ed_Es HZZ.out a b).1 hab)⟩
    · rintro ⟨x, hx⟩
      exact ⟨x, hx.mono (fun a b hab => (Ed_Es HZZ.out a b).2 hab)⟩
  have HB5 := (show Hid _ from (⟨bel_trans HI.out.1.1 hb5, bel_trans HB3.out (bel_trans HI.out.1.1 hb5)⟩ : Below w3.heap.size w3 w5 ∧ Below w.heap.size w w5))
  have HST5 := (show Hid _ from HI.out.1.2.1.still hb5)
  have HX5 := (show Hid _ from HX4.out.still hb5)
  clear hB hb5 HCY HX4
  cases B with
  | true =>
    have HR := (show Hid (CtR d non W (0, 9)) from CtR.loop hbn hwb hnon (hcyc.1 rfl))
    clear hwb hbn hnon hdn hcyc
    go_wp2_with fail
    refine bodyPost_ret (v := .tuple #[.int .i64 0, .int .i64 9]) (by simp [results, Try.results19, go_sem]) rfl ?_
    exact ⟨((0 : Int), (9 : Int)), HR.out, rfl, HB5.out.2⟩
  | false =>
  have hnc : ¬ Cyc d := fun hcc => by have := hcyc.2 hcc; cases this
  have hwl : W.length ≤ 40 := by
    have := hwb
    unfold wdB at this
    simp only [Bool.and_eq_true, decide_eq_true_eq] at this
    exact this.1
  obtain ⟨V, hV⟩ := cn_ex hok hnc W (by omega)
  obtain ⟨hh, hh1, hh2⟩ := hgt d hnc (d.terms.length + d.nons.length)
  obtain ⟨nn, rfl⟩ : ∃ nn : Nat, non = nn := ⟨non.toNat, by omega⟩
  have HR := (show Hid _ from CtR.fine hbn hwb hnon hnc hV)
  have hnn := hok.nn
  obtain ⟨c, hcd⟩ : ∃ c : Cx, c = ⟨w3, d, W, L, V, hh, w5.heap.size + 1 + 1, gs, bs, w5.heap.size, w5.heap.size + 1, a0, c0, .slice a1 d.nons.length c1, .int .i64 d.own, .slice a3 d.prods.length c3, .slice av W.length cv⟩ := ⟨_, rfl⟩
  have hgsl := HST5.out.box.lt
  have hbsl := World.rowIs.lt HST5.out.row
  have hz35 := HB5.out.1.size
  have hok2 : CxOK (fun _ => True) c := by
    subst hcd
    exact ⟨hok, hV, HI.out.1.2.2.2, HI.out.2.1, HI.out.1.2.2.1, HBL.out.prods.mono (fun _ _ => trivial), (Ints.still HWD.out HB3.out).mono (fun _ _ => trivial), hwl, hh1, hh2, hz35, (by dsimp only; omega), (by dsimp only; omega), (by dsimp only; omega), (by dsimp only; omega), (by dsimp only; omega), (by dsimp only; omega), (by dsimp only; omega), (by dsimp only; omega)⟩
  have hB6 : Below w5.heap.size w5 (((w5.drew.alloc (.map #[] 0)).alloc (.map #[] 0)).alloc (.cells #[.pointer (some ⟨gs, 0, none⟩), .slice av W.length cv, .map (some w5.heap.size), .map (some (w5.heap.size + 1))] 123)) := (((Below.refl _ w5).drew.alloc (Nat.le_refl _) _).alloc (by simp) _).alloc (by simp; omega) _
  have hWC : WC c (((w5.drew.alloc (.map #[] 0)).alloc (.map #[] 0)).alloc (.cells #[.pointer (some ⟨gs, 0, none⟩), .slice av W.length cv, .map (some w5.heap.size), .map (some (w5.heap.size + 1))] 123)) := by
    subst hcd
    refine ⟨bel_trans HB5.out.1 hB6, HST5.out.still hB6, ?_, ?_, ?_⟩
    · have := Box.new ((w5.drew.alloc (.map #[] 0)).alloc (.map #[] 0)) 123 [.pointer (some ⟨gs, 0, none⟩), .slice av W.length cv, .map (some w5.heap.size), .map (some (w5.heap.size + 1))]
      simp only [World.size_alloc] at this
      exact this
    · have h1 := Mp.new w5.drew 127 Ky3 (Gn ⟨w3, d, W, L, V, hh, w5.heap.size + 1 + 1, gs, bs, w5.heap.size, w5.heap.size + 1, a0, c0, .slice a1 d.nons.length c1, .int .i64 d.own, .slice a3 d.prods.length c3, .slice av W.length cv⟩)
      have h2 := h1.keep ((bel_alloc (w5.drew.alloc (.map #[] 0)) (.map #[] 0)).block _ h1.lt)
      exact h2.keep ((bel_alloc ((w5.drew.alloc (.map #[] 0)).alloc (.map #[] 0)) _).block _ h2.lt)
    · have h1 := Mp.new (w5.drew.alloc (.map #[] 0)) 140 Ky4 (Gr ⟨w3, d, W, L, V, hh, w5.heap.size + 1 + 1, gs, bs, w5.heap.size, w5.heap.size + 1, a0, c0, .slice a1 d.nons.length c1, .int .i64 d.own, .slice a3 d.prods.length c3, .slice av W.length cv⟩)
      have h2 := h1.keep ((bel_alloc ((w5.drew.alloc (.map #[] 0)).alloc (.map #[] 0)) (.cells #[.pointer (some ⟨gs, 0, none⟩), .slice av W.length cv, .map (some w5.heap.size), .map (some (w5.heap.size + 1))] 123)).block _ h1.lt)
      simp only [World.size_alloc] at h2
      exact h2
  have hPS : PS c (d.terms.length + nn) 0 W.length := by
    have h1 := ways_all c hok2 _ (d.terms.length + nn) 0 W.length (by subst hcd; dsimp only; omega) (Nat.zero_le _) (by subst hcd; exact Nat.le_refl _) (Nat.lt_succ_self _)
    exact h1
  have hcall := hPS _ hWC
  have hgc : c.gc = w5.heap.size + 1 + 1 := by rw [hcd]
  have hcV : c.V = V := by rw [hcd]
  have hcb : c.bn = w5.heap.size ∧ c.br = w5.heap.size + 1 := by rw [hcd]; exact ⟨rfl, rfl⟩
  rw [hgc, Int.natCast_add] at hcall
  unfold Rt at hcall
  rw [hcV, hcb.1, hcb.2] at hcall
  have HCALL := (show Hid _ from hcall)
  have HN49 := (show Hid _ from fun (wq : World) => new49 gs av W.length cv wq)
  have HBE := (show Hid (∀ w7, Kq w5.heap.size (w5.heap.size + 1) (((w5.drew.alloc (.map #[] 0)).alloc (.map #[] 0)).alloc (.cells #[.pointer (some ⟨gs, 0, none⟩), .slice av W.length cv, .map (some w5.heap.size), .map (some (w5.heap.size + 1))] 123)) w7 → Below w5.heap.size w5 w7) from fun w7 hk => hB6.trans (hk.below (Nat.le_refl _) (by omega) hB6.size))
  have HCX := (show Hid (∀ wq, Below w5.heap.size w5 wq → wq.cell? ⟨w.heap.size, 0, none⟩ = some (.slice a0 d.terms.length c0)) from fun wq hb => (HX5.out.still hb).cell 0 (by simp))
  have hS0 := HCX.out _ (Below.refl _ w5).drew
  have hS1 := HCX.out _ hB6
  have kw : IntKind.i64.wrap ((d.terms.length : Int) + (nn : Int)) = (d.terms.length : Int) + (nn : Int) := by simp [IntKind.wrap, IntKind.bits, IntKind.signed]; omega
  clear hcall hPS hWC hok2 hgc hcV hcb hcd hV hh1 hh2 hnc hcyc hwb hbn hnon hdn hnn hgsl hbsl hz35 hok HI HST5 HBL
  go_wp2_with fail
  go_region_held3 (fun w' => w'.cell? ⟨w.heap.size, 0, none⟩ = some (.slice a0 d.terms.length c0)) (first | exact hS0 | exact hS1 | exact hS2) ((first
    | (go_at_call 50; refine Calls.mono HCALL.out ?_; rintro e w7 ⟨rfl, hw7, hk7⟩; have hB7 := HBE.out w7 hk7; have hS2 := HCX.out w7 hB7)
    | (go_at_call 49; refine Calls.mono (HN49.out _) ?_; rintro e w6 ⟨rfl, rfl⟩)))
  all_goals go_wp2_with fail
  all_goals refine bodyPost_ret (v := .tuple #[.int .i64 (cp (V (d.terms.length + nn) 0 W.length) : Nat), .int .i64 0]) (by simp [results, Try.results19, go_sem]) rfl ?_
  all_goals exact ⟨_, HR.out, rfl, bel_trans HB5.out.2 hB7⟩
end Go.Proofs.Ytpbpmhgoppbfnaa
