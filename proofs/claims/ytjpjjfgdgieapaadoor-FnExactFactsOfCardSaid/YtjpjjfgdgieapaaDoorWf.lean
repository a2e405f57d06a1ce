import Derived.Test.YtjpjjfgdgieapaaDoorWe
import Derived.Test.YtjpjjfgdgieapaaDoorRk
/-! Both sides' FactsOf, told by data. -/
namespace Go.Proofs.YtjpjjfgdgieapaaDoor
open Go.RowKit Go.Deep
set_option linter.unusedVariables false
set_option maxRecDepth 100000
set_option linter.unusedSimpArgs false

/-- What the specification found, purely. -/
structure SpP (d : Bn) (nl : List Bool) (M : List Int) (F O : List (List Int)) (FA FL : Nat → Nat → Bool) : Prop where
  hn : nl.length = d.nons.length ∧ Nsd d.terms.length (bps d) (Nf d.terms.length nl) ∧ ∀ p ∈ bps d, quN d.terms.length nl p
  hm : M.length = d.nons.length ∧ Snd d.terms.length (bps d) (Mf d.terms.length M) ∧ ∀ p ∈ bps d, lnew (Mf d.terms.length M) p = false
  hFl : F.length = d.nons.length
  hOl : O.length = d.nons.length
  hF : OkF d nl F ∧ ∀ n y, y ∈ F.getD n [] ↔ Fst d (Nf d.terms.length nl) n y
  hO : OkO d nl O ∧ ∀ n y, y ∈ O.getD n [] ↔ Fol d (Nf d.terms.length nl) (Fst d (Nf d.terms.length nl)) n y
  hA : ∀ a b, FA a b = true ↔ Tc (En false d) a b
  hL : ∀ a b, FL a b = true ↔ Tc (En true d) a b
def datF (d : Bn) (nl : List Bool) (M : List Int) (F O : List (List Int)) (FA FL : Nat → Nat → Bool) : FaD :=
  ⟨nl, (List.range d.nons.length).map fun i => decide (0 ≤ M.getD i 0), (List.range d.nons.length).map fun i => i == 0 || FA 0 i, (List.range d.nons.length).map fun i => FL i i, M, F, O⟩
/-- What both sides answer. -/
def SameF (d : Bn) (C : Int) (D : FaD) : Prop := (bnB d = false → C = 1 ∧ D = ⟨[], [], [], [], [], [], []⟩) ∧ (bnB d = true → C = 0 ∧ ∃ nl M F O FA FL, SpP d nl M F O FA FL ∧ D = datF d nl M F O FA FL)
theorem Bls.nil (w : World) : Bls w [] (.slice none 0 0) := ⟨none, 0, 0, 0, rfl, Nat.le_refl _, Nat.zero_le _, fun h => absurd h (Nat.not_lt_zero _), fun i hi => absurd hi (Nat.not_lt_zero _)⟩
theorem Ints.nil0 (w : World) : Ints w (fun _ => True) [] (.slice none 0 0) := ⟨none, 0, 0, 0, rfl, Nat.le_refl _, Nat.zero_le _, fun h => absurd h (Nat.not_lt_zero _), fun i hi => absurd hi (Nat.not_lt_zero _)⟩
theorem IRows.nil0 (w : World) : IRows w (fun _ => True) [] (.slice none 0 0) := ⟨none, 0, 0, 0, fun _ => .nilFunc, rfl, Nat.le_refl _, Nat.zero_le _, fun h => absurd h (Nat.not_lt_zero _), fun i hi => absurd hi (Nat.not_lt_zero _), fun i hi => absurd hi (Nat.not_lt_zero _)⟩
theorem FaL.nil (w : World) : FaL w ⟨[], [], [], [], [], [], []⟩ (.slice none 0 0) (.slice none 0 0) (.slice none 0 0) (.slice none 0 0) (.slice none 0 0) (.slice none 0 0) (.slice none 0 0) :=
  ⟨Bls.nil w, Bls.nil w, Bls.nil w, Bls.nil w, Ints.nil0 w, IRows.nil0 w, IRows.nil0 w⟩
theorem FR.irows {w : World} {b N : Nat} {F : List (List Int)} (h : FR w b N F) (hN : N ≤ 1000) : IRows w (fun _ => True) F (.slice (some ⟨b, 0, none⟩) N N) := by
  obtain ⟨vs, h1, h2⟩ := h.ex
  have hl := h.len
  subst hl
  refine ⟨_, F.length, b, 0, vs, rfl, Nat.le_refl _, by unfold maxLen; omega, fun _ => ⟨rfl, trivial⟩, fun i hi => by rw [Nat.zero_add]; exact h1.cell hi, fun i hi => ?_⟩
  have := h2 i hi
  rw [getD_lt _ _ hi] at this
  exact this.mono (fun _ _ => trivial)
/-- The specification's answer, told by data. -/
theorem sFactsD {S : Nat → Prop} (d : Bn) (v0 v1 v3 : Value) (w : World) (h : BLies w S d v0 v1 v3) :
    Calls Tryd.prog 5 #[.agg #[v0, v1, .int .i64 d.own, v3]] w fun e w' => Below w.heap.size w w' ∧ ∃ (C : Int) (D : FaD) (u0 u1 u2 u3 u4 u5 u6 : Value), e = .returned (.tuple #[.agg #[u0, u1, u2, u3, u4, u5, u6], .int .i64 C]) ∧ FaL w' D u0 u1 u2 u3 u4 u5 u6 ∧ SameF d C D := by
  refine Calls.mono (sFacts5 d v0 v1 v3 w h) ?_
  rintro e w' ⟨hb, h1, h2⟩
  refine ⟨hb, ?_⟩
  cases hB : bnB d
  · exact ⟨1, _, _, _, _, _, _, _, _, h1 hB, FaL.nil w', fun _ => ⟨rfl, rfl⟩, fun h => by rw [hB] at h; cases h⟩
  · have hok := bnB_ok hB
    obtain ⟨us, nl, F, M, O, FA, FL, rfl, B, nb, fb, lb, ob, vF, vO, hl7, hown, g0, g4, g5, g6, hnr, hmr, hfr, hor, hn, hm, hF, hO, hA, hL⟩ := h2 hB
    obtain ⟨u0, u1, u2, u3, u4, u5, u6, rfl⟩ := list7 hl7
    have hN := hok.nn.2
    simp only [List.getElem?_cons_zero, List.getElem?_cons_succ, Option.some.injEq] at g0 g4 g5 g6
    have o0 : w'.ownsRow B 4 1 u0 (nl.map Value.bool).length (nl.map Value.bool) := hown.ok ⟨4, 1, u0, _, _⟩ (by simp [colE, csK])
    have o1 : w'.ownsRow B 4 1 u1 _ _ := hown.ok ⟨4, 1, u1, ((List.range d.nons.length).map fun i => Value.bool (decide (0 ≤ M.getD i 0))).length, (List.range d.nons.length).map fun i => .bool (decide (0 ≤ M.getD i 0))⟩ (by simp [colE, csK])
    have o2 : w'.ownsRow B 4 1 u2 _ _ := hown.ok ⟨4, 1, u2, ((List.range d.nons.length).map fun i => Value.bool (i == 0 || FA 0 i)).length, (List.range d.nons.length).map fun i => .bool (i == 0 || FA 0 i)⟩ (by simp [colE, csK])
    have o3 : w'.ownsRow B 4 1 u3 _ _ := hown.ok ⟨4, 1, u3, ((List.range d.nons.length).map fun i => Value.bool (FL i i)).length, (List.range d.nons.length).map fun i => .bool (FL i i)⟩ (by simp [colE, csK])
    have o4 : w'.ownsRow B 3 1 u4 (encI M).length (encI M) := hown.ok ⟨3, 1, u4, _, _⟩ (by simp [colE, csK, encI])
    refine ⟨0, datF d nl M F O FA FL, u0, u1, u2, u3, u4, u5, u6, rfl, ⟨own_bls (l := nl) (by simpa using o0), own_bls (B := B) ?_, own_bls (B := B) ?_, own_bls (B := B) ?_, (own_intsE (l := M) (by simpa [encI] using o4)).mono (fun _ _ => trivial), by rw [g5]; exact hfr.irows (by omega), by rw [g6]; exact hor.irows (by omega)⟩, fun h => by (rw [hB] at h; cases h), fun _ => ⟨rfl, nl, M, F, O, FA, FL, ⟨hn, hm, hfr.len, hor.len, hF, hO, hA, hL⟩, rfl⟩⟩
    · simpa [datF, List.map_map, Function.comp_def] using o1
    · simpa [datF, List.map_map, Function.comp_def] using o2
    · simpa [datF, List.map_map, Function.comp_def] using o3
/-- The program's answer: it is this data, and it owns its memory. -/
def PrA (w w' : World) (D : FaD) (u0 u1 u2 u3 u4 u5 u6 : Value) : Prop :=
  ∃ (B n0 n1 n2 n3 n4 : Nat) (s0 s1 s2 s3 s4 : List Value) (RF RO : List (Value × List Int)), (∀ W, Own W B (⟨4, 1, u0, n0, s0⟩ :: ⟨4, 1, u1, n1, s1⟩ :: ⟨4, 1, u2, n2, s2⟩ :: ⟨4, 1, u3, n3, s3⟩ :: ⟨3, 1, u4, n4, s4⟩ :: ⟨29, 1, u5, RF.length, RF.map (fun p : Value × List Int => p.1)⟩ :: ⟨29, 1, u6, RO.length, RO.map (fun p : Value × List Int => p.1)⟩ :: (RF.map entI ++ RO.map entI)) → FaL W D u0 u1 u2 u3 u4 u5 u6) ∧ w.heap.size ≤ B ∧ B ≤ w'.heap.size ∧ Own w' B (⟨4, 1, u0, n0, s0⟩ :: ⟨4, 1, u1, n1, s1⟩ :: ⟨4, 1, u2, n2, s2⟩ :: ⟨4, 1, u3, n3, s3⟩ :: ⟨3, 1, u4, n4, s4⟩ :: ⟨29, 1, u5, RF.length, RF.map (fun p : Value × List Int => p.1)⟩ :: ⟨29, 1, u6, RO.length, RO.map (fun p : Value × List Int => p.1)⟩ :: (RF.map entI ++ RO.map entI)) ∧ n0 ≤ 1000 ∧ n1 ≤ 1000 ∧ n2 ≤ 1000 ∧ n3 ≤ 1000 ∧ n4 ≤ 1000 ∧ RF.length ≤ 1000 ∧ RO.length ≤ 1000 ∧ (∀ p ∈ RF, p.2.length ≤ 1000) ∧ ∀ p ∈ RO, p.2.length ≤ 1000
theorem own_nil0 {w : World} {B t : Nat} {l : List Ent} (h : Own w B l) : Own w B (⟨t, 1, .slice none 0 0, 0, []⟩ :: l) :=
  h.add (Below.refl _ _) (World.ownsRow_nil _ _ _ _) (fun k hk => by simp [Value.ownBlock] at hk)
theorem iFactsD {S : Nat → Prop} (d : Bn) (v0 v1 v3 : Value) (C : Int) (D : FaD) (w : World) (h : BLies w S d v0 v1 v3) (hT : Tz w) (hD : SameF d C D) :
    Calls Tryd.prog 7 #[.agg #[v0, v1, .int .i64 d.own, v3]] w fun e w' => Below w.heap.size w w' ∧ ∃ u0 u1 u2 u3 u4 u5 u6 : Value, e = .returned (.tuple #[.agg #[u0, u1, u2, u3, u4, u5, u6], .int .i64 C]) ∧ PrA w w' D u0 u1 u2 u3 u4 u5 u6 := by
  cases hB : bnB d
  · obtain ⟨rfl, rfl⟩ := hD.1 hB
    refine Calls.mono (iFacts7 d v0 v1 v3 (fun x => @decide (Lens d.terms.length (bps d) [x] 0) (Classical.propDecidable _)) (Fst d (fun x => @decide (Lens d.terms.length (bps d) [x] 0) (Classical.propDecidable _))) w h hT (fun hok L hL hs hq WB WF h1 h2 h3 h4 => folH hok (fun x => by rw [@decide_eq_true_iff _ (Classical.propDecidable _), hs.zero hq]) h1 h2 h3 h4)) ?_
    · rintro e w' ⟨hb, h1, _⟩
      exact ⟨hb, _, _, _, _, _, _, _, h1 hB, w.heap.size, 0, 0, 0, 0, 0, [], [], [], [], [], [], [], fun W _ => FaL.nil W, Nat.le_refl _, hb.size, own_nil0 (own_nil0 (own_nil0 (own_nil0 (own_nil0 (own_nil0 (own_nil0 (Own.nil _ _))))))), by omega, by omega, by omega, by omega, by omega, by simp, by simp, by simp, by simp⟩
  · have hok := bnB_ok hB
    obtain ⟨rfl, nl, M, F, O, FA, FL, hp, rfl⟩ := hD.2 hB
    refine Calls.mono (iFacts7 d v0 v1 v3 (Nf d.terms.length nl) (Fst d (Nf d.terms.length nl)) w h hT (fun hok L hL hs hq WB WF h1 h2 h3 h4 => folH hok (zero_iff hs hq hp.hn.2.1 hp.hn.2.2) h1 h2 h3 h4)) ?_
    rintro e w' ⟨hb, _, h2⟩
    obtain ⟨us, L, Rr, WW, WB, WF, WO, RF, RO, Bb, rfl, hs, hq, hL, hl7, hBb, hown, hRF, hRO, q1, q2, q3, q4, q5, q6, q7, q8, q9⟩ := h2 hB
    obtain ⟨u0, u1, u2, u3, u4, u5, u6, rfl⟩ := list7 hl7
    have hN := hok.nn
    obtain ⟨f0, f1, f2, f3, f4, f5, f6⟩ := fields_eq hok hs hq q1 q2 q3 q4 q5 q6 q7 q8 q9 hp.hn hp.hm hp.hFl hp.hOl hp.hF hp.hO hp.hA hp.hL
    rw [f5] at hRF
    rw [f6] at hRO
    have lF : RF.length = d.nons.length := by have := congrArg List.length hRF; rw [List.length_map] at this; rw [this]; exact hp.hFl
    have lO : RO.length = d.nons.length := by have := congrArg List.length hRO; rw [List.length_map] at this; rw [this]; exact hp.hOl
    have hown2 : Own w' Bb (⟨4, 1, u0, d.nons.length, (List.range d.nons.length).map fun i => .bool (Lf L (d.terms.length + i) == 0)⟩ :: ⟨4, 1, u1, d.nons.length, (List.range d.nons.length).map fun i => .bool (Lf L (d.terms.length + i) != -1)⟩ :: ⟨4, 1, u2, d.nons.length, (List.range d.nons.length).map fun i => .bool (mem Rr 0 (d.terms.length + i))⟩ :: ⟨4, 1, u3, d.nons.length, (List.range d.nons.length).map fun i => .bool (mem WB (d.terms.length + i) (d.terms.length + i))⟩ :: ⟨3, 1, u4, d.nons.length, (List.range d.nons.length).map fun i => .int .i64 (Lf L (d.terms.length + i))⟩ :: ⟨29, 1, u5, RF.length, RF.map (fun p : Value × List Int => p.1)⟩ :: ⟨29, 1, u6, RO.length, RO.map (fun p : Value × List Int => p.1)⟩ :: (RF.map entI ++ RO.map entI)) := by
      simpa [colE, colF] using hown
    have o0 : w'.ownsRow Bb 4 1 u0 d.nons.length ((List.range d.nons.length).map fun i => Value.bool (Lf L (d.terms.length + i) == 0)) := hown2.ok _ (List.mem_cons_self ..)
    have hBw : Bb ≤ w'.heap.size := by
      obtain ⟨g, cap, f, _, hg, _, _, hr⟩ := own_row o0 (by omega)
      have := World.rowIs.lt hr
      omega
    have sF : ∀ p ∈ RF, p.2.length ≤ 1000 := fun p hp' => by
      have h9 : p.2 ∈ F := by rw [← hRF]; exact List.mem_map_of_mem hp'
      rw [← f5] at h9
      obtain ⟨i, _, e⟩ := List.mem_map.1 h9
      rw [← e]
      exact Nat.le_trans (ascI_len _ _ _) (by decide)
    have sO : ∀ p ∈ RO, p.2.length ≤ 1000 := fun p hp' => by
      have h9 : p.2 ∈ O := by rw [← hRO]; exact List.mem_map_of_mem hp'
      rw [← f6] at h9
      obtain ⟨i, _, e⟩ := List.mem_map.1 h9
      rw [← e]
      exact Nat.le_trans (ascI_len _ _ _) (by decide)
    have g0 : ((List.range d.nons.length).map fun i => Value.bool (Lf L (d.terms.length + i) == 0)) = nl.map .bool := by rw [← f0, List.map_map]; rfl
    have g1 : ((List.range d.nons.length).map fun i => Value.bool (Lf L (d.terms.length + i) != -1)) = ((List.range d.nons.length).map fun i => decide (0 ≤ M.getD i 0)).map .bool := by
      rw [List.map_map]
      exact List.map_congr_left (fun i hi => by simp only [Function.comp]; rw [f1 i (List.mem_range.1 hi)])
    have g2 : ((List.range d.nons.length).map fun i => Value.bool (mem Rr 0 (d.terms.length + i))) = ((List.range d.nons.length).map fun i => i == 0 || FA 0 i).map .bool := by
      rw [List.map_map]
      exact List.map_congr_left (fun i hi => by simp only [Function.comp]; rw [f2 i (List.mem_range.1 hi)])
    have g3 : ((List.range d.nons.length).map fun i => Value.bool (mem WB (d.terms.length + i) (d.terms.length + i))) = ((List.range d.nons.length).map fun i => FL i i).map .bool := by
      rw [List.map_map]
      exact List.map_congr_left (fun i hi => by simp only [Function.comp]; rw [f3 i (List.mem_range.1 hi)])
    have g4 : ((List.range d.nons.length).map fun i => Value.int .i64 (Lf L (d.terms.length + i))) = encI M := by rw [encI, ← f4, List.map_map]; rfl
    have key : ∀ W, Own W Bb (⟨4, 1, u0, d.nons.length, (List.range d.nons.length).map fun i => .bool (Lf L (d.terms.length + i) == 0)⟩ :: ⟨4, 1, u1, d.nons.length, (List.range d.nons.length).map fun i => .bool (Lf L (d.terms.length + i) != -1)⟩ :: ⟨4, 1, u2, d.nons.length, (List.range d.nons.length).map fun i => .bool (mem Rr 0 (d.terms.length + i))⟩ :: ⟨4, 1, u3, d.nons.length, (List.range d.nons.length).map fun i => .bool (mem WB (d.terms.length + i) (d.terms.length + i))⟩ :: ⟨3, 1, u4, d.nons.length, (List.range d.nons.length).map fun i => .int .i64 (Lf L (d.terms.length + i))⟩ :: ⟨29, 1, u5, RF.length, RF.map (fun p : Value × List Int => p.1)⟩ :: ⟨29, 1, u6, RO.length, RO.map (fun p : Value × List Int => p.1)⟩ :: (RF.map entI ++ RO.map entI)) → FaL W (datF d nl M F O FA FL) u0 u1 u2 u3 u4 u5 u6 := fun W hW => by
      have rF : ∀ p ∈ RF, (entI p).ok W Bb := fun p hp' => hW.ok _ (by simp only [List.mem_cons, List.mem_append]; exact .inr (.inr (.inr (.inr (.inr (.inr (.inr (.inl (List.mem_map_of_mem hp')))))))))
      have rO : ∀ p ∈ RO, (entI p).ok W Bb := fun p hp' => hW.ok _ (by simp only [List.mem_cons, List.mem_append]; exact .inr (.inr (.inr (.inr (.inr (.inr (.inr (.inr (List.mem_map_of_mem hp')))))))))
      have o0 : W.ownsRow Bb 4 1 u0 d.nons.length ((List.range d.nons.length).map fun i => Value.bool (Lf L (d.terms.length + i) == 0)) := hW.ok _ (List.mem_cons_self ..)
      have o1 : W.ownsRow Bb 4 1 u1 d.nons.length ((List.range d.nons.length).map fun i => Value.bool (Lf L (d.terms.length + i) != -1)) := hW.ok _ (List.mem_cons_of_mem _ (List.mem_cons_self ..))
      have o2 : W.ownsRow Bb 4 1 u2 d.nons.length ((List.range d.nons.length).map fun i => Value.bool (mem Rr 0 (d.terms.length + i))) := hW.ok _ (List.mem_cons_of_mem _ (List.mem_cons_of_mem _ (List.mem_cons_self ..)))
      have o3 : W.ownsRow Bb 4 1 u3 d.nons.length ((List.range d.nons.length).map fun i => Value.bool (mem WB (d.terms.length + i) (d.terms.length + i))) := hW.ok _ (List.mem_cons_of_mem _ (List.mem_cons_of_mem _ (List.mem_cons_of_mem _ (List.mem_cons_self ..))))
      have o4 : W.ownsRow Bb 3 1 u4 d.nons.length ((List.range d.nons.length).map fun i => Value.int .i64 (Lf L (d.terms.length + i))) := hW.ok _ (List.mem_cons_of_mem _ (List.mem_cons_of_mem _ (List.mem_cons_of_mem _ (List.mem_cons_of_mem _ (List.mem_cons_self ..)))))
      have o5 : W.ownsRow Bb 29 1 u5 RF.length (RF.map (fun p : Value × List Int => p.1)) := hW.ok _ (List.mem_cons_of_mem _ (List.mem_cons_of_mem _ (List.mem_cons_of_mem _ (List.mem_cons_of_mem _ (List.mem_cons_of_mem _ (List.mem_cons_self ..))))))
      have o6 : W.ownsRow Bb 29 1 u6 RO.length (RO.map (fun p : Value × List Int => p.1)) := hW.ok _ (List.mem_cons_of_mem _ (List.mem_cons_of_mem _ (List.mem_cons_of_mem _ (List.mem_cons_of_mem _ (List.mem_cons_of_mem _ (List.mem_cons_of_mem _ (List.mem_cons_self ..)))))))
      rw [g0] at o0
      rw [g1] at o1
      rw [g2] at o2
      rw [g3] at o3
      rw [g4] at o4
      refine ⟨own_bls (l := nl) (by rw [hp.hn.1]; exact o0), own_bls (l := (List.range d.nons.length).map fun i => decide (0 ≤ M.getD i 0)) (by rw [List.length_map, List.length_range]; exact o1), own_bls (l := (List.range d.nons.length).map fun i => i == 0 || FA 0 i) (by rw [List.length_map, List.length_range]; exact o2), own_bls (l := (List.range d.nons.length).map fun i => FL i i) (by rw [List.length_map, List.length_range]; exact o3), (own_intsE (l := M) (by rw [hp.hm.1]; exact o4)).mono (fun _ _ => trivial), ?_, ?_⟩
      · have h9 := (own_irows o5 rF).mono (fun _ _ => trivial) (S' := fun _ => True)
        rw [hRF] at h9
        exact h9
      · have h9 := (own_irows o6 rO).mono (fun _ _ => trivial) (S' := fun _ => True)
        rw [hRO] at h9
        exact h9
    refine ⟨hb, u0, u1, u2, u3, u4, u5, u6, rfl, Bb, _, _, _, _, _, _, _, _, _, _, RF, RO, key, hBb, hBw, hown2, by omega, by omega, by omega, by omega, by omega, by omega, by omega, sF, sO⟩
end Go.Proofs.YtjpjjfgdgieapaaDoor
