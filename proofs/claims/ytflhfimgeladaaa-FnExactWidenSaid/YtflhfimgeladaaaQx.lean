import Derived.Test.YtflhfimgeladaaaQw
import Derived.Test.YtflhfimgeladaaaQq
import Derived.Test.YtflhfimgeladaaaQt
/-! The specification: Shrink. -/
namespace Go.Proofs.Ytflhfimgeladaaa
open Go.RowKit Go.Deep
set_option linter.unusedVariables false
set_option maxRecDepth 100000
set_option linter.unusedSimpArgs false

theorem evB_yes {t : Tb} (h : evB t = true) : t.acts.length ≤ 250 ∧ t.gotos.length = t.acts.length := by
  unfold evB at h
  simp only [Bool.and_eq_true, decide_eq_true_eq] at h
  exact ⟨h.1, h.2.1⟩
set_option maxHeartbeats 3200000 in
theorem sShr_any {S : Nat → Prop} (t : Tb) (x0 x1 : Value) (w : World) (h : TLiesN w S t x0 x1) (hs : t.Small) :
    Calls Try.prog 14 #[.agg #[x0, x1]] w fun e w' => PAns t w e w' := by
  have hma := h.acts.rows.form
  have hmg := h.gotos.rows.form
  obtain ⟨e0, f0, rfl, hma⟩ := hma
  obtain ⟨e1, f1, rfl, hmg⟩ := hmg
  have hb2 : Below w.heap.size w ((w.alloc (.cells #[.slice e0 t.acts.length f0, .slice e1 t.gotos.length f1] 41)).alloc (.cells #[.slice none 0 0, .slice none 0 0, .slice none 0 0, .slice none 0 0] 48)) := bel_trans (bel_alloc _ _) (bel_alloc _ _)
  have q2 := (box2_alloc w 41 (.slice e0 t.acts.length f0) (.slice e1 t.gotos.length f1)).still (bel_alloc _ (.cells #[.slice none 0 0, .slice none 0 0, .slice none 0 0, .slice none 0 0] 48))
  have q4 := Box4.new (w.alloc (.cells #[.slice e0 t.acts.length f0, .slice e1 t.gotos.length f1] 41)) 48 (.slice none 0 0) (.slice none 0 0) (.slice none 0 0) (.slice none 0 0)
  simp only [World.size_alloc] at q4
  have HQ := (show Hid _ from fun (w' : World) (hb : Below ((w.alloc (.cells #[.slice e0 t.acts.length f0, .slice e1 t.gotos.length f1] 41)).alloc (.cells #[.slice none 0 0, .slice none 0 0, .slice none 0 0, .slice none 0 0] 48)).heap.size ((w.alloc (.cells #[.slice e0 t.acts.length f0, .slice e1 t.gotos.length f1] 41)).alloc (.cells #[.slice none 0 0, .slice none 0 0, .slice none 0 0, .slice none 0 0] 48)) w') => (⟨(q2.still hb).cells.1, q4.still hb, bel_trans hb2 hb⟩ : Two w' w.heap.size (.slice e0 t.acts.length f0) (.slice e1 t.gotos.length f1) ∧ Box4 w' (w.heap.size + 1) 48 (.slice none 0 0) (.slice none 0 0) (.slice none 0 0) (.slice none 0 0) ∧ Below w.heap.size w w'))
  have HEV := (show Hid _ from fun (w' : World) (hb : Below w.heap.size w w') => sEven_any t _ _ w' (h.lies.still hb))
  have HPK := (show Hid _ from fun (w' : World) (hb : Below w.heap.size w w') (hl : t.acts.length ≤ 250) (hg : t.gotos.length = t.acts.length) => sPack_any t _ _ w' (h.still hb) hs hl hg)
  obtain ⟨c0, c1⟩ := (HQ.out _ (Below.refl _ _)).1
  have HC1 := (show Hid _ from HEV.out _ hb2)
  clear h hs q2 q4 hb2
  cases he : evB t
  · rw [he] at HC1
    have hR := pkR_no he
    clear he
    go_enter Try.func14, Try.ntmps14
    go_wp2_with fail
    refine Calls.mono HC1.out ?_
    rintro e w1 ⟨rfl, hb1⟩
    have g6 := (HQ.out w1 hb1).2.1
    have hb7 := ((((HQ.out w1 hb1).2.2.setCell (p := ⟨w.heap.size + 1, 0, none⟩) (by show w.heap.size ≤ w.heap.size + 1; omega) (.slice none 0 0)).setCell (p := ⟨w.heap.size + 1, 1, none⟩) (by show w.heap.size ≤ w.heap.size + 1; omega) (.slice none 0 0)).setCell (p := ⟨w.heap.size + 1, 2, none⟩) (by show w.heap.size ≤ w.heap.size + 1; omega) (.slice none 0 0)).setCell (p := ⟨w.heap.size + 1, 3, none⟩) (by show w.heap.size ≤ w.heap.size + 1; omega) (.slice none 0 0)
    have g7 := (((g6.set0 (.slice none 0 0)).set1 (.slice none 0 0)).set2 (.slice none 0 0)).set3 (.slice none 0 0)
    obtain ⟨z0, z1, z2, z3⟩ := g6.cells
    have y0 := g6.frozen 0
    have y1 := g6.frozen 1
    have y2 := g6.frozen 2
    have y3 := g6.frozen 3
    obtain ⟨o0, o1, o2, o3⟩ := g7.cells
    have HF := (show Hid _ from hb7)
    have HR := (show Hid _ from hR)
    clear g6 g7 hb7 hb1 c0 c1 hR
    go_wp2_with fail
    refine bodyPost_ret (v := .tuple #[.agg #[.slice none 0 0, .slice none 0 0, .slice none 0 0, .slice none 0 0], .int .i64 1]) (by simp [results, Try.results14, go_sem, o0, o1, o2, o3]) rfl ?_
    exact ⟨_, _, _, _, by rw [HR.out], HF.out, by rw [HR.out]; exact PO.nil _ _⟩
  · rw [he] at HC1
    have hR := pkR_yes he
    have HEV2 := (show Hid _ from evB_yes he)
    clear he
    go_enter Try.func14, Try.ntmps14
    go_wp2_with fail
    refine Calls.mono HC1.out ?_
    rintro e w1 ⟨rfl, hb1⟩
    have HC2 := (show Hid _ from HPK.out w1 (HQ.out w1 hb1).2.2 HEV2.out.1 HEV2.out.2)
    have HB1 := (show Hid _ from hb1)
    have HR := (show Hid _ from hR)
    clear c0 c1 hb1 hR HEV2
    obtain ⟨c0, c1⟩ := (HQ.out w1 HB1.out).1
    go_wp2_with fail
    refine Calls.mono HC2.out ?_
    rintro e w2 ⟨u0, u1, u2, u3, rfl, hb2, ra, rg, na, ng, ho, hq⟩
    have hh0 : w2.ownsRow w1.heap.size 69 1 u0 ra.length (ra.map (·.1)) := ho.ok (hdA u0 ra) (by simp)
    have hh1 : w2.ownsRow w1.heap.size 46 1 u1 rg.length (rg.map (·.1)) := ho.ok (hdG u1 rg) (by simp)
    have hh2 : w2.ownsRow w1.heap.size 3 1 u2 na.length (encI na) := ho.ok (nmI u2 na) (by simp)
    have hh3 : w2.ownsRow w1.heap.size 3 1 u3 ng.length (encI ng) := ho.ok (nmI u3 ng) (by simp)
    obtain ⟨p0, q0, _, rfl, _⟩ := own_cell hh0
    obtain ⟨p1, q1, _, rfl, _⟩ := own_cell hh1
    obtain ⟨p2, q2, _, rfl, _⟩ := own_cell hh2
    obtain ⟨p3, q3, _, rfl, _⟩ := own_cell hh3
    have hbb := bel_trans HB1.out hb2
    have g6 := (HQ.out w2 hbb).2.1
    have g7 := (((g6.set0 (.slice p0 ra.length q0)).set1 (.slice p1 rg.length q1)).set2 (.slice p2 na.length q2)).set3 (.slice p3 ng.length q3)
    have hb7 := ((((HQ.out w2 hbb).2.2.setCell (p := ⟨w.heap.size + 1, 0, none⟩) (by show w.heap.size ≤ w.heap.size + 1; omega) (.slice p0 ra.length q0)).setCell (p := ⟨w.heap.size + 1, 1, none⟩) (by show w.heap.size ≤ w.heap.size + 1; omega) (.slice p1 rg.length q1)).setCell (p := ⟨w.heap.size + 1, 2, none⟩) (by show w.heap.size ≤ w.heap.size + 1; omega) (.slice p2 na.length q2)).setCell (p := ⟨w.heap.size + 1, 3, none⟩) (by show w.heap.size ≤ w.heap.size + 1; omega) (.slice p3 ng.length q3)
    have hg1 : w.heap.size + 1 < w1.heap.size := by have := HB1.out.size; simp at this; omega
    have ho7 := (((ho.set (o := 0) (u := (.slice p0 ra.length q0)) hg1).set (o := 1) (u := (.slice p1 rg.length q1)) hg1).set (o := 2) (u := (.slice p2 na.length q2)) hg1).set (o := 3) (u := (.slice p3 ng.length q3)) hg1
    have ho8 := ho7.base (B' := w.heap.size) (by omega)
    have HF := (show Hid _ from (⟨hb7, ho8, hq⟩ : _ ∧ _ ∧ _))
    obtain ⟨z0, z1, z2, z3⟩ := g6.cells
    have y0 := g6.frozen 0
    have y1 := g6.frozen 1
    have y2 := g6.frozen 2
    have y3 := g6.frozen 3
    obtain ⟨o0, o1, o2, o3⟩ := g7.cells
    clear g6 g7 hb7 hg1 ho7 ho8 ho hq hh0 hh1 hh2 hh3 hb2 hbb c0 c1
    go_wp2_with fail
    refine bodyPost_ret (v := .tuple #[.agg #[.slice p0 ra.length q0, .slice p1 rg.length q1, .slice p2 na.length q2, .slice p3 ng.length q3], .int .i64 0]) (by simp [results, Try.results14, go_sem, o0, o1, o2, o3]) rfl ?_
    refine ⟨_, _, _, _, by rw [HR.out], HF.out.1, ra, rg, na, ng, HF.out.2.1, ?_⟩
    rw [HR.out]
    exact HF.out.2.2
theorem onc_mem {α : Type} [DecidableEq α] : ∀ (rs acc : List α) (nums : List Int) (r : α), r ∈ (onc acc nums rs).1 → r ∈ acc ∨ r ∈ rs
  | [], acc, nums, r, h => .inl h
  | x :: rs, acc, nums, r, h => by
    unfold onc at h
    rcases onc_mem rs _ _ r h with h1 | h1
    · split at h1
      · exact .inl h1
      · rcases List.mem_append.1 h1 with h2 | h2
        · exact .inl h2
        · rw [List.mem_singleton.1 h2]; exact .inr (List.mem_cons_self ..)
    · exact .inr (List.mem_cons_of_mem _ h1)
theorem small_mem {α : Type} {ls : List (List α)} (h : ∀ i (hi : i < ls.length), ls[i].length ≤ 1048576) : ∀ r ∈ ls, r.length ≤ 1048576 := fun r hr => by
  obtain ⟨i, hi, rfl⟩ := List.mem_iff_getElem.1 hr
  exact h i hi
theorem pk_small {t : Tb} (hs : t.Small) : (pkR t).1.1.length ≤ 1048576 ∧ (pkR t).1.2.1.length ≤ 1048576 ∧ (∀ r ∈ (pkR t).1.1, r.length ≤ 1048576) ∧ (∀ r ∈ (pkR t).1.2.1, r.length ≤ 1048576) ∧ (pkR t).1.2.2.1.length ≤ 1048576 ∧ (pkR t).1.2.2.2.length ≤ 1048576 := by
  unfold pkR
  split
  · have h1 := onc_len t.acts [] []
    have h2 := onc_len t.gotos [] []
    have h3 := hs.acts
    have h4 := hs.gotos
    simp only [List.length_nil, Nat.zero_add] at h1 h2
    refine ⟨by show (onc [] [] t.acts).1.length ≤ _; omega, by show (onc [] [] t.gotos).1.length ≤ _; omega, fun r hr => ?_, fun r hr => ?_, by show (onc [] [] t.acts).2.length ≤ _; omega, by show (onc [] [] t.gotos).2.length ≤ _; omega⟩
    · rcases onc_mem t.acts [] [] r hr with h | h
      · cases h
      · exact small_mem hs.act r h
    · rcases onc_mem t.gotos [] [] r hr with h | h
      · cases h
      · exact small_mem hs.goto r h
  · simp
theorem pl_of2 {w : World} {B : Nat} {u0 u1 u2 u3 : Value} {ra : List (Value × List (Int × Int))} {rg : List (Value × List Int)} {na ng : List Int} (h : ∀ e ∈ (hdA u0 ra :: hdG u1 rg :: nmI u2 na :: nmI u3 ng :: (ra.map entA ++ rg.map entI)), e.ok w B) : PL w (fun b => B ≤ b) (ra.map (·.2), rg.map (·.2), na, ng) u0 u1 u2 u3 :=
  pl_of (fun e he => h e (by
    simp only [PEnt, List.mem_append, List.mem_singleton, List.mem_cons, List.append_nil] at he ⊢
    rcases he with h | h | h | h | h | h
    · exact .inl (by simpa using h)
    · exact .inr (.inr (.inr (.inr (.inl h))))
    · exact .inr (.inl (by simpa using h))
    · exact .inr (.inr (.inr (.inr (.inr h))))
    · exact .inr (.inr (.inl (by simpa using h)))
    · exact .inr (.inr (.inr (.inl (by simpa using h))))))
end Go.Proofs.Ytflhfimgeladaaa
