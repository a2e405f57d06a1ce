import Derived.Test.YtjpjjfgdgieapaaDoorPy
import Derived.Test.YtjpjjfgdgieapaaDoorSo
import Derived.Deep.CutRange
/-! The specification: l04First, walked. -/
namespace Go.Proofs.YtjpjjfgdgieapaaDoor
open Go.RowKit Go.Deep
set_option linter.unusedVariables false
set_option maxRecDepth 100000
set_option linter.unusedSimpArgs false

theorem info29 : (Tryd.prog.info? 29).map (fun i => (i.zero, i.size, i.bytes)) = some (some (.slice none 0 0), 1, 24) := by kernel_rfl
theorem run_makeRows29 (n : Nat) (hn : n ≤ 1048576) (w : World) :
    (Instr.makeSlice 30 (.int .i64 (n : Int)) (.int .i64 (n : Int))).run Tryd.prog w = .ok (.slice (some ⟨w.heap.size, 0, none⟩) n n) (w.alloc (.cells (madeCells #[.slice none 0 0] n) 29)) := by
  obtain ⟨i, hi, hzz⟩ := Option.map_eq_some_iff.1 info29
  simp only [Prod.mk.injEq] at hzz
  obtain ⟨hz0, hz1, hz2⟩ := hzz
  have hr := run_make (P := Tryd.prog) w 30 29 i _ Tryd.underlying30 hi hz0 .i64 .i64 n n (by omega) (Int.le_refl _) (by rw [hz2]; omega) (by omega)
  simp only [Int.toNat_natCast, hz1, Nat.mul_one] at hr
  exact hr
theorem nil_row (w : World) (n : Nat) : FR (w.alloc (.cells (madeCells #[.slice none 0 0] n) 29)) w.heap.size n (List.replicate n []) := by
  obtain ⟨c, q1, q2, q3⟩ : (w.alloc (.cells (madeCells #[.slice none 0 0] n) 29)).rowIs w.heap.size 29 n (fun _ => .slice none 0 0) := by
    refine ⟨_, blk_alloc_new _ _, by rw [size_madeCells], fun i hi => ?_⟩
    have h1 : i % 1 = 0 := Nat.mod_one i
    simp [madeCells, hi, h1]
  refine ⟨by simp, fun _ => .slice none 0 0, ⟨c, q1, q2, q3⟩, fun i hi => ?_⟩
  have e : (List.replicate n ([] : List Int)).getD i [] = [] := by simp [List.getD_eq_getElem?_getD, hi]
  rw [e]
  exact ⟨none, 0, 0, 0, rfl, Nat.le_refl _, Nat.zero_le _, fun h => absurd h (Nat.not_lt_zero _), fun i hi => absurd hi (Nat.not_lt_zero _)⟩
/-- The state of the search for what begins (and for what follows). -/
structure InvF (w : World) (d : Bn) (a0 a1 a3 : Option Addr) (c0 c1 c3 b : Nat) (F : List (List Int)) (wr : World) : Prop where
  bel : Below w.heap.size w wr
  box : Box wr w.heap.size 38 [.slice a0 d.terms.length c0, .slice a1 d.nons.length c1, .int .i64 d.own, .slice a3 d.prods.length c3]
  row : FR wr b d.nons.length F
theorem Nf_tm (nt : Nat) (nl : List Bool) : ∀ x, x < nt → Nf nt nl x = false := fun x hx => by unfold Nf; rw [decide_eq_false (by omega)]; rfl
/-- No news by this Prod. -/
def qF (d : Bn) (nl : List Bool) (F : List (List Int)) (k : Nat) (hk : k < d.prods.length) : Prop := fresh (F.getD (d.prods[k].left.toNat - d.terms.length) []) (fo d.terms.length (Nf d.terms.length nl) (fun x => F.getD x []) [] d.prods[k].right).1 = false
/-- What is known is right. -/
structure OkF (d : Bn) (nl : List Bool) (F : List (List Int)) : Prop where
  ok : RwOk ((d.terms.length : Int) - 1) F
  snd : ∀ n y, y ∈ F.getD n [] → Fst d (Nf d.terms.length nl) n y
theorem OkF.fos {d : Bn} (hok : Bok d) {nl : List Bool} {F : List (List Int)} (h : OkF d nl F) {k : Nat} (hk : k < d.prods.length) : ∀ y ∈ (fo d.terms.length (Nf d.terms.length nl) (fun x => F.getD x []) [] d.prods[k].right).1, Fst d (Nf d.terms.length nl) (d.prods[k].left.toNat - d.terms.length) y := by
  intro y hy
  rcases (fo_mem (Nf_tm _ _) y _ _).1 hy with hy | hy
  · simp at hy
  · exact Fst.closed d (Nf d.terms.length nl) k hk y (hy.mono (fun n y h2 => h.snd n y h2))
theorem OkF.step {d : Bn} (hok : Bok d) {nl : List Bool} {F : List (List Int)} (h : OkF d nl F) {k : Nat} (hk : k < d.prods.length) (hn : d.prods[k].left.toNat - d.terms.length < F.length) : OkF d nl (stepF F (d.prods[k].left.toNat - d.terms.length) (fo d.terms.length (Nf d.terms.length nl) (fun x => F.getD x []) [] d.prods[k].right).1) := by
  have h1 := h.fos hok hk
  refine ⟨stepF_ok h.ok hn (fun y hy => by have := (h1 y hy).range hok; omega), fun n y hy => ?_⟩
  rcases (stepF_mem hn n y).1 hy with h2 | ⟨rfl, h2⟩
  · exact h.snd n y h2
  · exact h1 y h2
theorem OkF.done {d : Bn} {nl : List Bool} {F : List (List Int)} (h : OkF d nl F) (hq : ∀ k (hk : k < d.prods.length), qF d nl F k hk) (n : Nat) (y : Int) : y ∈ F.getD n [] ↔ Fst d (Nf d.terms.length nl) n y :=
  ⟨h.snd n y, fun hf => hf (fun n y => y ∈ F.getD n []) (fun k hk y hy => fresh_no (hq k hk) y ((fo_mem (Nf_tm _ _) y _ _).2 (.inr hy)))⟩

set_option maxHeartbeats 12800000 in
theorem first_any {S : Nat → Prop} (d : Bn) (hok : Bok d) (v0 v1 v3 : Value) (nb : Nat) (nl : List Bool) (w : World) (h : BLies w S d v0 v1 v3) (hnb : BRow w nb nl) (hnl : nl.length = d.nons.length) :
    Calls Tryd.prog 18 #[.agg #[v0, v1, .int .i64 d.own, v3], .slice (some ⟨nb, 0, none⟩) d.nons.length d.nons.length] w fun e w' => ∃ b F, e = .returned (.slice (some ⟨b, 0, none⟩) d.nons.length d.nons.length) ∧ Below w.heap.size w w' ∧ w.heap.size ≤ b ∧ FR w' b d.nons.length F ∧ OkF d nl F ∧ ∀ n y, y ∈ F.getD n [] ↔ Fst d (Nf d.terms.length nl) n y := by
  obtain ⟨a0, c0, a1, c1, a3', c3', rfl, rfl, e3⟩ := h.form
  obtain ⟨a3, c3, bp, op, sv, e3', hcp, hmp, hap, hcellp, hrp⟩ := h.prods
  subst e3'
  clear e3 h
  have HOK := (show Hid (Bok d) from hok)
  obtain ⟨h60, ⟨hn1, hn2⟩, h120, hleft, hlen, hright⟩ := hok
  have HLE := (show Hid _ from hleft); clear hleft
  have HLN := (show Hid _ from hlen); clear hlen
  have HRI := (show Hid _ from hright); clear hright
  have HCP := (show Hid _ from hcellp); clear hcellp
  have HAP := (show Hid _ from hap); clear hap
  have HRP := (show Hid _ from hrp); clear hrp
  have HNB := (show Hid (BRow w nb nl) from hnb); clear hnb
  have HNL := (show Hid (nl.length = d.nons.length) from hnl); clear hnl
  unfold maxLen at hmp
  have hmk := fun w => run_makeRows29 d.nons.length (by omega) w
  have hbA : Below w.heap.size w ((w.alloc (.cells #[.slice a0 d.terms.length c0, .slice a1 d.nons.length c1, .int .i64 d.own, .slice a3 d.prods.length c3] 38)).alloc (.cells (madeCells #[.slice none 0 0] d.nons.length) 29)) := (bel_alloc _ _).alloc (by simp) _
  have hrow := nil_row (w.alloc (.cells #[.slice a0 d.terms.length c0, .slice a1 d.nons.length c1, .int .i64 d.own, .slice a3 d.prods.length c3] 38)) d.nons.length
  rw [World.size_alloc] at hrow
  have H0 : Hid (InvF w d a0 a1 a3 c0 c1 c3 (w.heap.size + 1) (List.replicate d.nons.length []) ((w.alloc (.cells #[.slice a0 d.terms.length c0, .slice a1 d.nons.length c1, .int .i64 d.own, .slice a3 d.prods.length c3] 38)).alloc (.cells (madeCells #[.slice none 0 0] d.nons.length) 29))) :=
    ⟨hbA, (Box.new w 38 [.slice a0 d.terms.length c0, .slice a1 d.nons.length c1, .int .i64 d.own, .slice a3 d.prods.length c3]).still (bel_alloc _ _), hrow⟩
  have HK0 : Hid (OkF d nl (List.replicate d.nons.length [])) := by
    have e : ∀ x, (List.replicate d.nons.length ([] : List Int)).getD x [] = [] := fun x => by
      by_cases hx : x < d.nons.length
      · simp [List.getD_eq_getElem?_getD, hx]
      · simp [List.getD_eq_getElem?_getD, Nat.le_of_not_lt hx]
    exact ⟨fun x => by rw [e]; exact ⟨List.Pairwise.nil, fun y hy => by simp at hy⟩, fun n y hy => by rw [e] at hy; simp at hy⟩
  have hU0 : (∀ (a b : List (List Int)) (w' : World), InvF w d a0 a1 a3 c0 c1 c3 (w.heap.size + 1) a w' → InvF w d a0 a1 a3 c0 c1 c3 (w.heap.size + 1) b w' → room2 a = room2 b) := fun a b w' ha hb => by rw [FR.uniq ha.row hb.row]
  obtain ⟨toDo, htd⟩ := toDo_ex hU0
  have HU := (show Hid (∀ a w', InvF w d a0 a1 a3 c0 c1 c3 (w.heap.size + 1) a w' → toDo w' = room2 a) from htd)
  clear hU0 htd hbA hrow
  go_enter Tryd.func18, Tryd.ntmps18
  go_wp2_with fail
  go_loopw [6] (fun u wr => ∃ more : Bool, u = .bool more ∧ Hid (∃ F, InvF w d a0 a1 a3 c0 c1 c3 (w.heap.size + 1) F wr ∧ OkF d nl F ∧ (more = false → ∀ k (hk : k < d.prods.length), qF d nl F k hk))) (fun u wr => if boolOf u then toDo wr + 1 else 0)
  case atStart => exact ⟨true, rfl, _, H0.out, HK0.out, fun h => by cases h⟩
  case round =>
    clear H0 HK0
    obtain ⟨more, rfl, HI⟩ := hrel
    obtain ⟨n0, hn0, hs0, hq0⟩ := HI.out
    cases more
    · have HF : Hid (∃ b F, Ending.returned (.slice (some ⟨w.heap.size + 1, 0, none⟩) d.nons.length d.nons.length) = .returned (.slice (some ⟨b, 0, none⟩) d.nons.length d.nons.length) ∧ Below w.heap.size w wr ∧ w.heap.size ≤ b ∧ FR wr b d.nons.length F ∧ OkF d nl F ∧ ∀ n y, y ∈ F.getD n [] ↔ Fst d (Nf d.terms.length nl) n y) :=
        ⟨w.heap.size + 1, n0, rfl, hn0.bel, by omega, hn0.row, hs0, hs0.done (hq0 rfl)⟩
      clear hn0 hq0 HI hs0
      go_wp2_with fail
      go_ret
      exact HF.out
    · have HM : Hid (toDo wr = room2 n0) := HU.out _ _ hn0
      have HX0 := (show Hid (InvF w d a0 a1 a3 c0 c1 c3 (w.heap.size + 1) n0 wr ∧ OkF d nl n0) from ⟨hn0, hs0⟩); clear hn0 hq0 HI hs0
      go_wp2_with fail
      go_loopw [6, 7] (fun u i wi => ∃ (ag : Bool) (k : Nat), u = .bool ag ∧ i = .int .i64 k ∧ k ≤ d.prods.length ∧ Hid (∃ F, InvF w d a0 a1 a3 c0 c1 c3 (w.heap.size + 1) F wi ∧ OkF d nl F ∧ (ag = true → room2 F < room2 n0) ∧ (ag = false → F = n0 ∧ ∀ j (hj : j < d.prods.length), j < k → qF d nl n0 j hj))) (fun _ i _ => d.prods.length - (intOf i).toNat)
      case atStart => exact ⟨false, 0, rfl, rfl, Nat.zero_le _, n0, HX0.out.1, HX0.out.2, (fun h => by cases h), fun _ => ⟨rfl, fun k _ hk => absurd hk (Nat.not_lt_zero _)⟩⟩
      case round =>
        obtain ⟨ag, k, rfl, rfl, hk, HJ⟩ := hrel
        obtain ⟨F, hN, hsF, hx1, hx2⟩ := HJ.out
        have T3 : wr.cell? ⟨w.heap.size, 3, none⟩ = some (.slice a3 d.prods.length c3) := hN.box.cell 3 (by simp)
        by_cases hlt : k < d.prods.length
        · have hlt' := hlt
          obtain ⟨rfl, _⟩ := HAP.out (by omega)
          obtain ⟨q0, q1, _⟩ := HCP.out k hlt'
          have hri := HRP.out k hlt'
          obtain ⟨ai, ci, ei, _⟩ := hri.form
          rw [ei] at q1 hri
          obtain ⟨l1, l2⟩ := HLE.out k hlt'
          obtain ⟨y, hy⟩ : ∃ y : Nat, d.prods[k].left = ((d.terms.length + y : Nat) : Int) := ⟨(d.prods[k].left - d.terms.length).toNat, by omega⟩
          have hyn : y < d.nons.length := by rw [hy] at l2; omega
          have hyF : y < F.length := by rw [hN.row.len]; exact hyn
          have hyy : (((d.terms.length + y : Nat) : Int) - d.terms.length) = (y : Int) := by omega
          have hly : d.prods[k].left.toNat - d.terms.length = y := by rw [hy]; omega
          have hF1 : ∀ x, (F.getD x []).length ≤ 1000 := fun x => by have := hsF.ok.len (by omega) x; omega
          have hfol := fo_len d.terms.length (Nf d.terms.length nl) (fun x => F.getD x []) hF1 d.prods[k].right []
          have hr12 := HLN.out k hlt'
          have hstep := hsF.step HOK.out hlt' (by rw [hly]; exact hyF)
          rw [hly] at hstep
          have hfr : ∀ y' ∈ (fo d.terms.length (Nf d.terms.length nl) (fun x => F.getD x []) [] d.prods[k].right).1, 0 ≤ y' ∧ y' ≤ ((d.terms.length : Int) - 1) := fun y' hy' => by
            have := (hsF.fos HOK.out hlt' y' hy').range HOK.out
            omega
          have hq : qF d nl F k hlt' ↔ fresh (F.getD y []) (fo d.terms.length (Nf d.terms.length nl) (fun x => F.getD x []) [] d.prods[k].right).1 = false := by unfold qF; rw [hly]
          have hro : fresh (F.getD y []) (fo d.terms.length (Nf d.terms.length nl) (fun x => F.getD x []) [] d.prods[k].right).1 = true → room2 (stepF F y (fo d.terms.length (Nf d.terms.length nl) (fun x => F.getD x []) [] d.prods[k].right).1) < room2 F := stepF_room (by omega) hsF.ok hyF hfr
          have hrl : room2 (stepF F y (fo d.terms.length (Nf d.terms.length nl) (fun x => F.getD x []) [] d.prods[k].right).1) ≤ room2 F := stepF_le (by omega) hsF.ok hyF hfr
          have hrs : fresh (F.getD y []) (fo d.terms.length (Nf d.terms.length nl) (fun x => F.getD x []) [] d.prods[k].right).1 = false → stepF F y (fo d.terms.length (Nf d.terms.length nl) (fun x => F.getD x []) [] d.prods[k].right).1 = F := stepF_same hyF
          have HCELL := (show Hid (∀ w', Below wr.heap.size wr w' → InvF w d a0 a1 (some ⟨bp, op, none⟩) c0 c1 c3 (w.heap.size + 1) F w' ∧ w'.cell? ⟨bp, op + k * 5, none⟩ = some (.int .i64 ((d.terms.length + y : Nat) : Int)) ∧ w'.cell? ⟨bp, op + k * 5 + 1, none⟩ = some (.slice ai d.prods[k].right.length ci)) from fun w' hb => by
            have h1 := bel_trans hN.bel hb
            rw [hy] at q0
            exact ⟨⟨h1, hN.box.still hb, hN.row.still hb⟩, (h1.cell (lt_of_cell q0)).trans q0, (h1.cell (lt_of_cell q1)).trans q1⟩)
          have HV := (show Hid (∀ w', Calls Tryd.prog 49 #[.agg #[.slice a0 d.terms.length c0, .slice a1 d.nons.length c1, .int .i64 d.own, .slice (some ⟨bp, op, none⟩) d.prods.length c3], .int .i64 ((d.terms.length + y : Nat) : Int)] w' fun e w'' => e = .returned (.int .i64 (y : Int)) ∧ Below w'.heap.size w' w'') from fun w' => by
            have := non_any d a0 c0 (.slice a1 d.nons.length c1) (.slice (some ⟨bp, op, none⟩) d.prods.length c3) ((d.terms.length + y : Nat) : Int) w' (by omega) h60
            rw [hyy] at this
            exact this)
          have HV2 := (show Hid (∀ w', Below wr.heap.size wr w' → Calls Tryd.prog 51 #[.agg #[.slice a0 d.terms.length c0, .slice a1 d.nons.length c1, .int .i64 d.own, .slice (some ⟨bp, op, none⟩) d.prods.length c3], .slice (some ⟨nb, 0, none⟩) d.nons.length d.nons.length, .slice (some ⟨w.heap.size + 1, 0, none⟩) d.nons.length d.nons.length, .slice ai d.prods[k].right.length ci] w' fun e w'' => ∃ v', e = .returned (.tuple #[v', .bool (fo d.terms.length (Nf d.terms.length nl) (fun x => F.getD x []) [] d.prods[k].right).2]) ∧ Below w'.heap.size w' w'' ∧ Ints w'' (fun c => w'.heap.size ≤ c) (fo d.terms.length (Nf d.terms.length nl) (fun x => F.getD x []) [] d.prods[k].right).1 v') from fun w' hb => by
            have hI := (HCELL.out w' hb).1
            have := firstOf51 d a0 a1 (some ⟨bp, op, none⟩) c0 c1 c3 d.nons.length d.prods.length nb (w.heap.size + 1) nl F d.prods[k].right _ w' h60 (by rw [HNL.out]; exact hn2) (BRow.still HNB.out hI.bel) (by rw [HNL.out]; exact hI.row) hF1 (hri.still hI.bel) (fun i hi => by rw [HNL.out]; exact HRI.out k hlt' i hi) hr12
            rw [HNL.out] at this
            exact this)
          -- what is put
          have HPUT := (show Hid (∀ w' f', Below wr.heap.size wr w' → Ints w' (fun _ => True) (fo d.terms.length (Nf d.terms.length nl) (fun x => F.getD x []) [] d.prods[k].right).1 f' → ∃ vy, w'.cell? ⟨w.heap.size + 1, y, none⟩ = some vy ∧ Calls Tryd.prog 52 #[vy, f'] w' fun e w'' => ∃ v', e = .returned (.tuple #[v', .bool (fresh (F.getD y []) (fo d.terms.length (Nf d.terms.length nl) (fun x => F.getD x []) [] d.prods[k].right).1)]) ∧ Below w'.heap.size w' w'' ∧ w''.frozen? ⟨w.heap.size + 1, y, none⟩ = false ∧ (∃ vo, w''.cell? ⟨w.heap.size + 1, y, none⟩ = some vo) ∧ (InvF w d a0 a1 (some ⟨bp, op, none⟩) c0 c1 c3 (w.heap.size + 1) (stepF F y (fo d.terms.length (Nf d.terms.length nl) (fun x => F.getD x []) [] d.prods[k].right).1) (w''.setCell ⟨w.heap.size + 1, y, none⟩ v')) ∧ ∃ a c n, v' = .slice a n c) from fun w' f' hb hf => by
            have hI := (HCELL.out w' hb).1
            obtain ⟨vs, hvs, hrows⟩ := hI.row.ex
            have hry := hrows y hyn
            have hsz : w.heap.size + 1 < w'.heap.size := World.rowIs.lt hvs
            refine ⟨vs y, hvs.cell hyn, Calls.mono (putAll52 (F.getD y []) (fo d.terms.length (Nf d.terms.length nl) (fun x => F.getD x []) [] d.prods[k].right).1 _ _ w' hry hf (by have := hF1 y; simp only [List.length_nil, Nat.zero_add] at hfol; omega)) ?_⟩
            rintro e w2 ⟨v', rfl, hb2, hi2⟩
            have hI2 : InvF w d a0 a1 (some ⟨bp, op, none⟩) c0 c1 c3 (w.heap.size + 1) F w2 := ⟨bel_trans hI.bel hb2, hI.box.still hb2, hI.row.still hb2⟩
            obtain ⟨vs2, hvs2, _⟩ := hI2.row.ex
            have hbt : Bt (w.heap.size + 1) w2 (w2.setCell ⟨w.heap.size + 1, y, none⟩ v') := Bt.set _ _
            obtain ⟨av, cv, ev, _⟩ := hi2.form
            refine ⟨v', rfl, hb2, World.rowIs.frozen hvs2 y, ⟨_, hvs2.cell hyn⟩, ⟨hI2.bel.trans (hbt.below (by omega) hI2.bel.size), hI2.box.keep (hbt.block _ hI2.box.lt (by omega)), ?_⟩, ⟨av, cv, _, ev⟩⟩
            exact hI2.row.set hyn (hi2.mono (fun c hc => by
              rcases hc with hc | hc
              · exact hc
              · intro e; omega)))
          -- the round's end
          have HEND := (show Hid (∀ wn, InvF w d a0 a1 (some ⟨bp, op, none⟩) c0 c1 c3 (w.heap.size + 1) (stepF F y (fo d.terms.length (Nf d.terms.length nl) (fun x => F.getD x []) [] d.prods[k].right).1) wn → ∃ F', InvF w d a0 a1 (some ⟨bp, op, none⟩) c0 c1 c3 (w.heap.size + 1) F' wn ∧ OkF d nl F' ∧ ((ag || fresh (F.getD y []) (fo d.terms.length (Nf d.terms.length nl) (fun x => F.getD x []) [] d.prods[k].right).1) = true → room2 F' < room2 n0) ∧ ((ag || fresh (F.getD y []) (fo d.terms.length (Nf d.terms.length nl) (fun x => F.getD x []) [] d.prods[k].right).1) = false → F' = n0 ∧ ∀ j (hj : j < d.prods.length), j < k + 1 → qF d nl n0 j hj)) from fun wn hI => by
            refine ⟨_, hI, hstep, fun h => ?_, fun h => ?_⟩
            · cases ag
              · obtain ⟨e1, _⟩ := hx2 rfl
                rw [← e1]
                exact hro (by simpa using h)
              · exact Nat.lt_of_le_of_lt hrl (hx1 rfl)
            · rw [Bool.or_eq_false_iff] at h
              obtain ⟨rfl, h2⟩ := h
              obtain ⟨e1, e2⟩ := hx2 rfl
              refine ⟨by rw [hrs h2, e1], fun j hj hjk => ?_⟩
              by_cases ej : j = k
              · subst ej
                rw [← e1]
                exact hq.2 h2
              · exact e2 j hj (by omega))
          have HBX := (show Hid (∀ w', Below wr.heap.size wr w' → w'.cell? ⟨w.heap.size, 0, none⟩ = some (.slice a0 d.terms.length c0) ∧ w'.cell? ⟨w.heap.size, 1, none⟩ = some (.slice a1 d.nons.length c1) ∧ w'.cell? ⟨w.heap.size, 2, none⟩ = some (.int .i64 d.own) ∧ w'.cell? ⟨w.heap.size, 3, none⟩ = some (.slice (some ⟨bp, op, none⟩) d.prods.length c3) ∧ w'.cell? ⟨bp, op + k * 5, none⟩ = some (.int .i64 ((d.terms.length + y : Nat) : Int)) ∧ w'.cell? ⟨bp, op + k * 5 + 1, none⟩ = some (.slice ai d.prods[k].right.length ci)) from fun w' hb => by
            obtain ⟨h1, h2, h3⟩ := HCELL.out w' hb
            exact ⟨h1.box.cell 0 (by simp), h1.box.cell 1 (by simp), h1.box.cell 2 (by simp), h1.box.cell 3 (by simp), h2, h3⟩)
          clear hri hx1 hx2 HJ hsF hN q0 q1 l1 l2 hyy ei hstep hfr hq hro hrl hrs hF1 hfol hyF HCELL T3
          obtain ⟨FL, hFL⟩ : ∃ FL, (fo d.terms.length (Nf d.terms.length nl) (fun x => F.getD x []) [] d.prods[k].right).1 = FL := ⟨_, rfl⟩
          obtain ⟨FB, hFB⟩ : ∃ FB, (fo d.terms.length (Nf d.terms.length nl) (fun x => F.getD x []) [] d.prods[k].right).2 = FB := ⟨_, rfl⟩
          rw [hFL] at HEND HPUT HV2
          rw [hFB] at HV2
          obtain ⟨NW, hNW⟩ : ∃ NW, fresh (F.getD y []) FL = NW := ⟨_, rfl⟩
          rw [hNW] at HEND HPUT
          clear hFL hFB hNW
          generalize d.prods[k].right.length = RL at *
          obtain ⟨T0, T1, T2, T3, q0, q1⟩ := HBX.out wr (Below.refl _ _)
          go_upto_region 8 with fail
          go_cut [8] from 25 to 32 (fun v wx => v = .int .i64 y ∧ Hid (Below wr.heap.size wr wx))
          case first =>
            have HDR3 := (show Hid (Below wr.heap.size wr wr.drew) from (Below.refl wr.heap.size wr).drew)
            have HV3 := (show Hid _ from HV.out wr.drew)
            clear HV2 HPUT HEND HBX HLE HLN HRI HRP HCP HAP HU HM HX0 HV HOK HNB HNL q1 hy hly
            go_region_with (go_at_call 49; refine Calls.mono HV3.out ?_; rintro e w1 ⟨rfl, hb1⟩; have HBW := (show Hid _ from bel_trans HDR3.out hb1); clear hb1)
            all_goals
              go_wp2_with fail
              go_meet
              exact ⟨rfl, HBW⟩
          case rest =>
            obtain ⟨rfl, HC⟩ := hcut
            clear T0 T1 T2 T3 q0 q1
            obtain ⟨T0, T1, T2, T3, q0, q1⟩ := HBX.out wc HC.out
            go_upto_region 9 with fail
            go_cut [9] from 33 to 45 (fun v wx => ∃ fa fn fc, v = .slice fa fn fc ∧ Hid (Below wr.heap.size wr wx ∧ Ints wx (fun _ => True) FL (.slice fa fn fc)))
            case first =>
              have HDR3 := (show Hid (Below wr.heap.size wr wc.drew) from HC.out.drew)
              have HV3 := (show Hid _ from HV2.out wc.drew HDR3.out)
              clear HV2 HPUT HEND HBX HLE HLN HRI HRP HCP HAP HU HM HX0 HV HOK HNB HNL q0 hy hly
              go_region_with (go_at_call 51; refine Calls.mono HV3.out ?_; rintro e w1 ⟨vf, rfl, hb1, hi1⟩; have HBW := (show Hid _ from (⟨bel_trans HDR3.out hb1, hi1.mono (fun _ _ => trivial)⟩ : Below wr.heap.size wr w1 ∧ Ints w1 (fun _ => True) FL vf)); obtain ⟨af, cf, ef, _⟩ := hi1.form; subst ef; clear hb1 hi1)
              all_goals
                go_wp2_with fail
                go_meet
                exact ⟨_, _, _, rfl, HBW⟩
            case rest =>
              obtain ⟨fa, fn, fc, rfl, HC2⟩ := hcut
              obtain ⟨vy, hvy, hcall⟩ := HPUT.out wc _ HC2.out.1 HC2.out.2
              have HCALL := (show Hid _ from hcall)
              clear hcall T0 T1 T2 T3 q0 q1 HC2 HPUT HV2 HV
              go_wp2_with fail
              refine Calls.mono HCALL.out ?_
              rintro e w2 ⟨v', rfl, hb2, fr2, ⟨vo, hvo⟩, hI2, av, cv, nv, rfl⟩
              have HN := (show Hid _ from HEND.out _ hI2)
              clear hI2 HEND HCALL hvy hb2
              cases ag <;> cases NW
              all_goals
                go_wp2_with fail
                exact ⟨⟨_, k + 1, by rfl, by go_num, by omega, HN⟩, by simp [intOf]; omega⟩
        · have HN : Hid (∃ F, InvF w d a0 a1 a3 c0 c1 c3 (w.heap.size + 1) F wr ∧ OkF d nl F ∧ (ag = false → ∀ k (hk : k < d.prods.length), qF d nl F k hk)) := ⟨F, hN, hsF, fun h => by
            obtain ⟨e1, e2⟩ := hx2 h
            subst e1
            exact fun j hj => e2 j hj (by omega)⟩
          have HLT : Hid ((if boolOf (.bool ag) then toDo wr + 1 else 0) < room2 n0 + 1) := by
            show (if boolOf (.bool ag) then toDo wr + 1 else 0) < room2 n0 + 1
            cases ag
            · simp [boolOf]
            · have h1 := hx1 rfl
              have h2 : toDo wr = room2 F := HU.out _ _ hN
              simp only [boolOf, if_true, h2]
              omega
          clear hN hx1 hx2 HJ hsF
          go_wp2_with fail
          refine ⟨⟨ag, by rfl, HN⟩, ?_⟩
          have h1 := HLT.out
          have h2 := HM.out
          simp only [boolOf, if_true] at h1 ⊢
          omega
end Go.Proofs.YtjpjjfgdgieapaaDoor

/-! Pure: what follows, step by step. -/
namespace Go.Proofs.YtjpjjfgdgieapaaDoor
open Go.RowKit Go.Deep
set_option linter.unusedVariables false
set_option maxRecDepth 100000
set_option linter.unusedSimpArgs false

/-- What is put behind place i of Prod k. -/
def fO (d : Bn) (nl : List Bool) (Fb F : List (List Int)) (p : Pd) (i : Nat) : List Int := if (fo d.terms.length (Nf d.terms.length nl) (fun x => Fb.getD x []) [] (p.right.drop (i + 1))).2 then putAll (fo d.terms.length (Nf d.terms.length nl) (fun x => Fb.getD x []) [] (p.right.drop (i + 1))).1 (F.getD (p.left.toNat - d.terms.length) []) else (fo d.terms.length (Nf d.terms.length nl) (fun x => Fb.getD x []) [] (p.right.drop (i + 1))).1
/-- No news at place i of a Prod. -/
def qI (d : Bn) (nl : List Bool) (Fb F : List (List Int)) (p : Pd) (i : Nat) : Prop := ∀ hi : i < p.right.length, d.terms.length ≤ p.right[i].toNat → fresh (F.getD (p.right[i].toNat - d.terms.length) []) (fO d nl Fb F p i) = false
/-- What begins is known. -/
def KnB (d : Bn) (nl : List Bool) (Fb : List (List Int)) : Prop := ∀ n y, y ∈ Fb.getD n [] ↔ Fst d (Nf d.terms.length nl) n y
structure OkO (d : Bn) (nl : List Bool) (F : List (List Int)) : Prop where
  ok : RwOk (d.terms.length : Int) F
  snd : ∀ n y, y ∈ F.getD n [] → Fol d (Nf d.terms.length nl) (Fst d (Nf d.terms.length nl)) n y
  beg : (d.terms.length : Int) ∈ F.getD 0 []
theorem fO_mem {d : Bn} {nl : List Bool} {Fb F : List (List Int)} (hB : KnB d nl Fb) (p : Pd) (i : Nat) (y : Int) : y ∈ fO d nl Fb F p i ↔ Bg d.terms.length (Nf d.terms.length nl) (Fst d (Nf d.terms.length nl)) (p.right.drop (i + 1)) y ∨ ((∀ x ∈ p.right.drop (i + 1), Nf d.terms.length nl x.toNat = true) ∧ y ∈ F.getD (p.left.toNat - d.terms.length) []) := by
  have h1 : ∀ y, y ∈ (fo d.terms.length (Nf d.terms.length nl) (fun x => Fb.getD x []) [] (p.right.drop (i + 1))).1 ↔ Bg d.terms.length (Nf d.terms.length nl) (Fst d (Nf d.terms.length nl)) (p.right.drop (i + 1)) y := by
    intro y
    rw [fo_mem (Nf_tm _ _)]
    constructor
    · rintro (h | h)
      · simp at h
      · exact h.mono (fun n y h => (hB n y).1 h)
    · exact fun h => .inr (h.mono (fun n y h => (hB n y).2 h))
  have h2 := fo_all (F := fun x => Fb.getD x []) (Nf_tm d.terms.length nl) (p.right.drop (i + 1)) []
  unfold fO
  by_cases e : (fo d.terms.length (Nf d.terms.length nl) (fun x => Fb.getD x []) [] (p.right.drop (i + 1))).2 = true
  · rw [if_pos e, putAll_mem, h1]
    constructor
    · rintro (h | h)
      · exact .inl h
      · exact .inr ⟨h2.1 e, h⟩
    · rintro (h | ⟨_, h⟩)
      · exact .inl h
      · exact .inr h
  · rw [if_neg e, h1]
    constructor
    · exact .inl
    · rintro (h | ⟨h, _⟩)
      · exact h
      · exact absurd (h2.2 h) e
theorem OkO.fos {d : Bn} {nl : List Bool} {Fb F : List (List Int)} (hB : KnB d nl Fb) (h : OkO d nl F) {k : Nat} (hk : k < d.prods.length) {i : Nat} (hi : i < d.prods[k].right.length) (ht : d.terms.length ≤ d.prods[k].right[i].toNat) : ∀ y ∈ fO d nl Fb F d.prods[k] i, Fol d (Nf d.terms.length nl) (Fst d (Nf d.terms.length nl)) (d.prods[k].right[i].toNat - d.terms.length) y := by
  intro y hy
  refine (Fol.closed d _ _).2 k hk i hi ht y ?_
  rcases (fO_mem hB _ _ _).1 hy with h1 | ⟨h1, h2⟩
  · exact .inl h1
  · exact .inr ⟨h1, h.snd _ _ h2⟩
theorem Fol.rng {d : Bn} (hok : Bok d) {z : Nat → Bool} {n : Nat} {y : Int} (h : Fol d z (Fst d z) n y) : 0 ≤ y ∧ y ≤ d.terms.length := h.range hok (fun n y h => Fst.range hok h)
theorem OkO.step {d : Bn} (hok : Bok d) {nl : List Bool} {Fb F : List (List Int)} (hB : KnB d nl Fb) (h : OkO d nl F) {k : Nat} (hk : k < d.prods.length) {i : Nat} (hi : i < d.prods[k].right.length) (ht : d.terms.length ≤ d.prods[k].right[i].toNat) (hn : d.prods[k].right[i].toNat - d.terms.length < F.length) : OkO d nl (stepF F (d.prods[k].right[i].toNat - d.terms.length) (fO d nl Fb F d.prods[k] i)) := by
  have h1 := h.fos hB hk hi ht
  refine ⟨stepF_ok h.ok hn (fun y hy => (h1 y hy).rng hok), fun n y hy => ?_, (stepF_mem hn _ _).2 (.inl h.beg)⟩
  rcases (stepF_mem hn n y).1 hy with h2 | ⟨rfl, h2⟩
  · exact h.snd n y h2
  · exact h1 y h2
theorem OkO.done {d : Bn} {nl : List Bool} {Fb F : List (List Int)} (hB : KnB d nl Fb) (h : OkO d nl F) (hq : ∀ k (hk : k < d.prods.length) i, i < d.prods[k].right.length → qI d nl Fb F d.prods[k] i) (n : Nat) (y : Int) : y ∈ F.getD n [] ↔ Fol d (Nf d.terms.length nl) (Fst d (Nf d.terms.length nl)) n y :=
  ⟨h.snd n y, fun hf => hf (fun n y => y ∈ F.getD n []) ⟨h.beg, fun k hk i hi ht y hy => fresh_no (hq k hk i hi hi ht) y ((fO_mem hB _ _ _).2 hy)⟩⟩
end Go.Proofs.YtjpjjfgdgieapaaDoor
