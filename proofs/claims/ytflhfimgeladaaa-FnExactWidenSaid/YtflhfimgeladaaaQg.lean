import Derived.Test.YtflhfimgeladaaaQf
import Derived.Test.YtflhfimgeladaaaQd
/-! The program: Shrink. -/
namespace Go.Proofs.Ytflhfimgeladaaa
open Go.RowKit Go.Deep
set_option linter.unusedVariables false
set_option maxRecDepth 100000
set_option linter.unusedSimpArgs false

/-- A table of which all rows are made. -/
structure TLiesN (w : World) (S : Nat → Prop) (t : Tb) (v0 v1 : Value) : Prop where
  acts : ARowsN w S t.acts v0
  gotos : IRowsN w S t.gotos v1
theorem TLiesN.still {w w' : World} {S : Nat → Prop} {t : Tb} {v0 v1 : Value} (h : TLiesN w S t v0 v1) (hb : Below w.heap.size w w') : TLiesN w' S t v0 v1 := ⟨h.acts.still hb, h.gotos.still hb⟩
theorem TLiesN.lies {w : World} {S : Nat → Prop} {t : Tb} {v0 v1 : Value} (h : TLiesN w S t v0 v1) : TLies w S t v0 v1 := ⟨h.acts.rows, h.gotos.rows⟩
/-- Its rows are of one length. -/
def evB (t : Tb) : Bool := decide (t.acts.length ≤ 250) && (decide (t.gotos.length = t.acts.length) && (t.acts.all (fun r => decide (r.length = (t.acts.getD 0 []).length)) && t.gotos.all (fun r => decide (r.length = (t.gotos.getD 0 []).length))))
abbrev PkD := List (List (Int × Int)) × List (List Int) × List Int × List Int
/-- What Shrink answers. -/
def pkR (t : Tb) : PkD × Int := if evB t = true then (((onc [] [] t.acts).1, (onc [] [] t.gotos).1, (onc [] [] t.acts).2, (onc [] [] t.gotos).2), 0) else (([], [], [], []), 1)
/-- Four slices that own what they hold. -/
def PO (w : World) (B : Nat) (R : PkD) (u0 u1 u2 u3 : Value) : Prop :=
  ∃ (ra : List (Value × List (Int × Int))) (rg : List (Value × List Int)) (na ng : List Int), Own w B (⟨69, 1, u0, ra.length, ra.map (·.1)⟩ :: ⟨46, 1, u1, rg.length, rg.map (·.1)⟩ :: ⟨3, 1, u2, na.length, encI na⟩ :: ⟨3, 1, u3, ng.length, encI ng⟩ :: (ra.map entA ++ rg.map entI)) ∧ R = (ra.map (·.2), rg.map (·.2), na, ng)
def PAns (t : Tb) (w : World) (e : Ending) (w' : World) : Prop :=
  ∃ u0 u1 u2 u3, e = .returned (.tuple #[.agg #[u0, u1, u2, u3], .int .i64 (pkR t).2]) ∧ Below w.heap.size w w' ∧ PO w' w.heap.size (pkR t).1 u0 u1 u2 u3
theorem Own.join {w1 w : World} {B B' : Nat} {es fs : List Ent} (h1 : Own w1 B es) (hb : Below w1.heap.size w1 w) (h2 : Own w B' fs) (hB : w1.heap.size ≤ B') (hBB : B ≤ B') : Own w B (es ++ fs) := by
  refine ⟨fun e he => ?_, List.pairwise_append.2 ⟨h1.ne, h2.ne, fun a ha b hb' k hk hk' => ?_⟩⟩
  · rcases List.mem_append.1 he with he | he
    · exact own_still (h1.ok e he) hb
    · have := h2.ok e he
      refine ⟨this.1, ?_⟩
      rcases this.2 with h0 | ⟨g, cp, cur, r1, r2, r3⟩
      · exact .inl h0
      · exact .inr ⟨g, cp, cur, r1, Nat.le_trans hBB r2, r3⟩
  · have q1 := (World.ownsRow.lt (h1.ok a ha) k hk).2
    have q2 := (World.ownsRow.lt (h2.ok b hb') k hk').1
    omega
theorem own_keep {w w' : World} {B t k n : Nat} {v : Value} {cs : List Value} (h : w.ownsRow B t k v n cs) (hb : ∀ b, B ≤ b → b < w.heap.size → w'.heap[b]? = w.heap[b]?) : w'.ownsRow B t k v n cs := by
  refine ⟨h.1, ?_⟩
  rcases h.2 with h0 | ⟨g, cap, cur, hv, hB, hg, r⟩
  · exact .inl h0
  · exact .inr ⟨g, cap, cur, hv, hB, (hb g hB (Array.getElem?_eq_some_iff.1 hg).1).trans hg, r⟩
theorem Own.keep {w w' : World} {B : Nat} {es : List Ent} (h : Own w B es) (hb : ∀ b, B ≤ b → b < w.heap.size → w'.heap[b]? = w.heap[b]?) : Own w' B es := ⟨fun e he => own_keep (h.ok e he) hb, h.ne⟩
theorem Own.set {w : World} {B g o : Nat} {u : Value} {es : List Ent} (h : Own w B es) (hg : g < B) : Own (w.setCell ⟨g, o, none⟩ u) B es := h.keep (fun b hb _ => blk_setCell_other _ _ _ _ (by show b ≠ g; omega))
theorem Own.base {w : World} {B B' : Nat} {es : List Ent} (h : Own w B es) (hB : B' ≤ B) : Own w B' es :=
  ⟨fun e he => by
    have := h.ok e he
    refine ⟨this.1, ?_⟩
    rcases this.2 with h0 | ⟨g, cp, cur, r1, r2, r3⟩
    · exact .inl h0
    · exact .inr ⟨g, cp, cur, r1, Nat.le_trans hB r2, r3⟩, h.ne⟩
theorem PO.nil (w : World) (B : Nat) : PO w B ([], [], [], []) (.slice none 0 0) (.slice none 0 0) (.slice none 0 0) (.slice none 0 0) := by
  refine ⟨[], [], [], [], ⟨fun e he => ?_, ?_⟩, rfl⟩
  · simp only [List.map_nil, List.append_nil, List.mem_cons, List.not_mem_nil, or_false] at he
    rcases he with rfl | rfl | rfl | rfl <;> exact World.ownsRow_nil _ _ _ _
  · have hn : ∀ (e e' : Ent), e.v = .slice none 0 0 → Apt e e' := fun e e' h k hk => by rw [h] at hk; simp [Value.ownBlock] at hk
    refine List.pairwise_cons.2 ⟨fun x _ => hn _ x rfl, List.pairwise_cons.2 ⟨fun x _ => hn _ x rfl, List.pairwise_cons.2 ⟨fun x _ => hn _ x rfl, List.pairwise_cons.2 ⟨fun x hx => absurd hx (by simp), List.Pairwise.nil⟩⟩⟩⟩
theorem Box4.set3 {w : World} {g T : Nat} {c0 c1 c2 c3 : Value} (h : Box4 w g T c0 c1 c2 c3) (u : Value) : Box4 (w.setCell ⟨g, 3, none⟩ u) g T c0 c1 c2 u := by
  obtain ⟨f, h, e0, e1, e2, e3⟩ := h
  exact ⟨_, h.set 3 u, by rw [if_neg (by omega)]; exact e0, by rw [if_neg (by omega)]; exact e1, by rw [if_neg (by omega)]; exact e2, if_pos rfl⟩
theorem pkR_no {t : Tb} (h : evB t = false) : pkR t = (([], [], [], []), 1) := by unfold pkR; rw [h]; rfl
theorem pkR_yes {t : Tb} (h : evB t = true) : pkR t = (((onc [] [] t.acts).1, (onc [] [] t.gotos).1, (onc [] [] t.acts).2, (onc [] [] t.gotos).2), 0) := by unfold pkR; rw [if_pos h]
theorem perm6 {α : Type} (a b c d : α) (xs ys : List α) : ((a :: b :: xs) ++ (c :: d :: ys)).Perm (a :: c :: b :: d :: (xs ++ ys)) := by
  refine List.Perm.cons a ?_
  exact (List.Perm.cons b (List.perm_middle.trans (List.Perm.cons c List.perm_middle))).trans (List.Perm.swap c b _)
/-- A box that is put anew, cell by cell. -/
def set4 (w : World) (g : Nat) (u0 u1 u2 u3 : Value) : World := (((w.setCell ⟨g, 0, none⟩ u0).setCell ⟨g, 1, none⟩ u1).setCell ⟨g, 2, none⟩ u2).setCell ⟨g, 3, none⟩ u3
set_option maxHeartbeats 6400000 in
theorem iShr_any {S : Nat → Prop} (t : Tb) (x0 x1 : Value) (w : World) (h : TLiesN w S t x0 x1) (hs : t.Small) :
    Calls Try.prog 15 #[.agg #[x0, x1]] w fun e w' => PAns t w e w' := by
  have hma := h.acts.rows.form
  have hmg := h.gotos.rows.form
  obtain ⟨e0, f0, rfl, hma⟩ := hma
  obtain ⟨e1, f1, rfl, hmg⟩ := hmg
  unfold maxLen at hma hmg
  have hb2 : Below w.heap.size w ((w.alloc (.cells #[.slice e0 t.acts.length f0, .slice e1 t.gotos.length f1] 41)).alloc (.cells #[.slice none 0 0, .slice none 0 0, .slice none 0 0, .slice none 0 0] 48)) := bel_trans (bel_alloc _ _) (bel_alloc _ _)
  have q2 := (box2_alloc w 41 (.slice e0 t.acts.length f0) (.slice e1 t.gotos.length f1)).still (bel_alloc _ (.cells #[.slice none 0 0, .slice none 0 0, .slice none 0 0, .slice none 0 0] 48))
  have q4 := Box4.new (w.alloc (.cells #[.slice e0 t.acts.length f0, .slice e1 t.gotos.length f1] 41)) 48 (.slice none 0 0) (.slice none 0 0) (.slice none 0 0) (.slice none 0 0)
  simp only [World.size_alloc] at q4
  have HQ := (show Hid _ from fun (w' : World) (hb : Below ((w.alloc (.cells #[.slice e0 t.acts.length f0, .slice e1 t.gotos.length f1] 41)).alloc (.cells #[.slice none 0 0, .slice none 0 0, .slice none 0 0, .slice none 0 0] 48)).heap.size ((w.alloc (.cells #[.slice e0 t.acts.length f0, .slice e1 t.gotos.length f1] 41)).alloc (.cells #[.slice none 0 0, .slice none 0 0, .slice none 0 0, .slice none 0 0] 48)) w') => (⟨(q2.still hb).cells.1, q4.still hb, bel_trans hb2 hb⟩ : Two w' w.heap.size (.slice e0 t.acts.length f0) (.slice e1 t.gotos.length f1) ∧ Box4 w' (w.heap.size + 1) 48 (.slice none 0 0) (.slice none 0 0) (.slice none 0 0) (.slice none 0 0) ∧ Below w.heap.size w w'))
  have HLA := (show Hid _ from fun (w' : World) (hb : Below w.heap.size w w') => sameLenA_any t.acts _ w' (h.acts.rows.still hb))
  have HLG := (show Hid _ from fun (w' : World) (hb : Below w.heap.size w w') => sameLenI_any t.gotos _ w' (h.gotos.rows.still hb))
  have HOA := (show Hid _ from fun (w' : World) (hb : Below w.heap.size w w') (hl : t.acts.length ≤ 250) => onceA_any t.acts _ w' (h.acts.still hb) hl hs.act)
  have HOG := (show Hid _ from fun (w' : World) (hb : Below w.heap.size w w') (hl : t.gotos.length ≤ 250) => onceI_any t.gotos _ w' (h.gotos.still hb) hl hs.goto)
  -- the end with a fault
  have HBAD : Hid (∀ (w1 : World), Below ((w.alloc (.cells #[.slice e0 t.acts.length f0, .slice e1 t.gotos.length f1] 41)).alloc (.cells #[.slice none 0 0, .slice none 0 0, .slice none 0 0, .slice none 0 0] 48)).heap.size ((w.alloc (.cells #[.slice e0 t.acts.length f0, .slice e1 t.gotos.length f1] 41)).alloc (.cells #[.slice none 0 0, .slice none 0 0, .slice none 0 0, .slice none 0 0] 48)) w1 → evB t = false → (Below w.heap.size w (set4 w1 (w.heap.size + 1) (.slice none 0 0) (.slice none 0 0) (.slice none 0 0) (.slice none 0 0)) ∧ Box4 (set4 w1 (w.heap.size + 1) (.slice none 0 0) (.slice none 0 0) (.slice none 0 0) (.slice none 0 0)) (w.heap.size + 1) 48 (.slice none 0 0) (.slice none 0 0) (.slice none 0 0) (.slice none 0 0))) := fun w1 hb he =>
    ⟨((((HQ.out w1 hb).2.2.setCell (p := ⟨w.heap.size + 1, 0, none⟩) (by show w.heap.size ≤ w.heap.size + 1; omega) _).setCell (p := ⟨w.heap.size + 1, 1, none⟩) (by show w.heap.size ≤ w.heap.size + 1; omega) _).setCell (p := ⟨w.heap.size + 1, 2, none⟩) (by show w.heap.size ≤ w.heap.size + 1; omega) _).setCell (p := ⟨w.heap.size + 1, 3, none⟩) (by show w.heap.size ≤ w.heap.size + 1; omega) _, ((((HQ.out w1 hb).2.1.set0 _).set1 _).set2 _).set3 _⟩
  have HEV : Hid (evB t = (decide (t.acts.length ≤ 250) && (decide (t.gotos.length = t.acts.length) && (t.acts.all (fun r => decide (r.length = (t.acts.getD 0 []).length)) && t.gotos.all (fun r => decide (r.length = (t.gotos.getD 0 []).length)))))) := rfl
  clear h hs q2 q4 hb2
  generalize t.acts.all (fun r => decide (r.length = (t.acts.getD 0 []).length)) = B1 at *
  generalize t.gotos.all (fun r => decide (r.length = (t.gotos.getD 0 []).length)) = B2 at *
  by_cases h1 : t.acts.length ≤ 250
  case neg =>
    have i1 : decide ((t.acts.length : Int) > 250) = true := by simp; omega
    have he : evB t = false := by rw [HEV.out]; rw [decide_eq_false h1]; rfl
    have HE := (show Hid _ from HBAD.out ((w.alloc (.cells #[.slice e0 t.acts.length f0, .slice e1 t.gotos.length f1] 41)).alloc (.cells #[.slice none 0 0, .slice none 0 0, .slice none 0 0, .slice none 0 0] 48)) (Below.refl _ _) he)
    have hR := pkR_no he
    have z0 := (HQ.out ((w.alloc (.cells #[.slice e0 t.acts.length f0, .slice e1 t.gotos.length f1] 41)).alloc (.cells #[.slice none 0 0, .slice none 0 0, .slice none 0 0, .slice none 0 0] 48)) (Below.refl _ _)).2.1.cells.1
    have z1 := (HQ.out ((w.alloc (.cells #[.slice e0 t.acts.length f0, .slice e1 t.gotos.length f1] 41)).alloc (.cells #[.slice none 0 0, .slice none 0 0, .slice none 0 0, .slice none 0 0] 48)) (Below.refl _ _)).2.1.cells.2.1
    have z2 := (HQ.out ((w.alloc (.cells #[.slice e0 t.acts.length f0, .slice e1 t.gotos.length f1] 41)).alloc (.cells #[.slice none 0 0, .slice none 0 0, .slice none 0 0, .slice none 0 0] 48)) (Below.refl _ _)).2.1.cells.2.2.1
    have z3 := (HQ.out ((w.alloc (.cells #[.slice e0 t.acts.length f0, .slice e1 t.gotos.length f1] 41)).alloc (.cells #[.slice none 0 0, .slice none 0 0, .slice none 0 0, .slice none 0 0] 48)) (Below.refl _ _)).2.1.cells.2.2.2
    have y0 := (HQ.out ((w.alloc (.cells #[.slice e0 t.acts.length f0, .slice e1 t.gotos.length f1] 41)).alloc (.cells #[.slice none 0 0, .slice none 0 0, .slice none 0 0, .slice none 0 0] 48)) (Below.refl _ _)).2.1.frozen 0
    have y1 := (HQ.out ((w.alloc (.cells #[.slice e0 t.acts.length f0, .slice e1 t.gotos.length f1] 41)).alloc (.cells #[.slice none 0 0, .slice none 0 0, .slice none 0 0, .slice none 0 0] 48)) (Below.refl _ _)).2.1.frozen 1
    have y2 := (HQ.out ((w.alloc (.cells #[.slice e0 t.acts.length f0, .slice e1 t.gotos.length f1] 41)).alloc (.cells #[.slice none 0 0, .slice none 0 0, .slice none 0 0, .slice none 0 0] 48)) (Below.refl _ _)).2.1.frozen 2
    have y3 := (HQ.out ((w.alloc (.cells #[.slice e0 t.acts.length f0, .slice e1 t.gotos.length f1] 41)).alloc (.cells #[.slice none 0 0, .slice none 0 0, .slice none 0 0, .slice none 0 0] 48)) (Below.refl _ _)).2.1.frozen 3
    obtain ⟨t0, t1⟩ := HE.out.2.cells
    obtain ⟨t2, t3⟩ := t1
    obtain ⟨t3, t4⟩ := t3
    unfold set4 at t0 t2 t3 t4
    obtain ⟨c0, c1⟩ := (HQ.out ((w.alloc (.cells #[.slice e0 t.acts.length f0, .slice e1 t.gotos.length f1] 41)).alloc (.cells #[.slice none 0 0, .slice none 0 0, .slice none 0 0, .slice none 0 0] 48)) (Below.refl _ _)).1
    clear h1 he
    go_enter Try.func15, Try.ntmps15
    go_wp2_with fail
    refine bodyPost_ret (v := .tuple #[.agg #[.slice none 0 0, .slice none 0 0, .slice none 0 0, .slice none 0 0], .int .i64 1]) (by simp [results, Try.results15, go_sem, t0, t2, t3, t4]) rfl ?_
    first | exact ⟨_, _, _, _, by rw [hR], HE.out.1, by rw [hR]; exact PO.nil _ _⟩ | exact ⟨_, _, _, _, by rw [hR], (HQ.out _ (Below.refl _ _)).2.2, by rw [hR]; exact PO.nil _ _⟩
  have i1 : decide ((t.acts.length : Int) > 250) = false := by simp; omega
  by_cases h2 : t.gotos.length = t.acts.length
  case neg =>
    have i2 : ((t.gotos.length : Int) != (t.acts.length : Int)) = true := by simp; omega
    have he : evB t = false := by rw [HEV.out]; rw [decide_eq_false h2]; simp
    have HE := (show Hid _ from HBAD.out ((w.alloc (.cells #[.slice e0 t.acts.length f0, .slice e1 t.gotos.length f1] 41)).alloc (.cells #[.slice none 0 0, .slice none 0 0, .slice none 0 0, .slice none 0 0] 48)) (Below.refl _ _) he)
    have hR := pkR_no he
    have z0 := (HQ.out ((w.alloc (.cells #[.slice e0 t.acts.length f0, .slice e1 t.gotos.length f1] 41)).alloc (.cells #[.slice none 0 0, .slice none 0 0, .slice none 0 0, .slice none 0 0] 48)) (Below.refl _ _)).2.1.cells.1
    have z1 := (HQ.out ((w.alloc (.cells #[.slice e0 t.acts.length f0, .slice e1 t.gotos.length f1] 41)).alloc (.cells #[.slice none 0 0, .slice none 0 0, .slice none 0 0, .slice none 0 0] 48)) (Below.refl _ _)).2.1.cells.2.1
    have z2 := (HQ.out ((w.alloc (.cells #[.slice e0 t.acts.length f0, .slice e1 t.gotos.length f1] 41)).alloc (.cells #[.slice none 0 0, .slice none 0 0, .slice none 0 0, .slice none 0 0] 48)) (Below.refl _ _)).2.1.cells.2.2.1
    have z3 := (HQ.out ((w.alloc (.cells #[.slice e0 t.acts.length f0, .slice e1 t.gotos.length f1] 41)).alloc (.cells #[.slice none 0 0, .slice none 0 0, .slice none 0 0, .slice none 0 0] 48)) (Below.refl _ _)).2.1.cells.2.2.2
    have y0 := (HQ.out ((w.alloc (.cells #[.slice e0 t.acts.length f0, .slice e1 t.gotos.length f1] 41)).alloc (.cells #[.slice none 0 0, .slice none 0 0, .slice none 0 0, .slice none 0 0] 48)) (Below.refl _ _)).2.1.frozen 0
    have y1 := (HQ.out ((w.alloc (.cells #[.slice e0 t.acts.length f0, .slice e1 t.gotos.length f1] 41)).alloc (.cells #[.slice none 0 0, .slice none 0 0, .slice none 0 0, .slice none 0 0] 48)) (Below.refl _ _)).2.1.frozen 1
    have y2 := (HQ.out ((w.alloc (.cells #[.slice e0 t.acts.length f0, .slice e1 t.gotos.length f1] 41)).alloc (.cells #[.slice none 0 0, .slice none 0 0, .slice none 0 0, .slice none 0 0] 48)) (Below.refl _ _)).2.1.frozen 2
    have y3 := (HQ.out ((w.alloc (.cells #[.slice e0 t.acts.length f0, .slice e1 t.gotos.length f1] 41)).alloc (.cells #[.slice none 0 0, .slice none 0 0, .slice none 0 0, .slice none 0 0] 48)) (Below.refl _ _)).2.1.frozen 3
    obtain ⟨t0, t1⟩ := HE.out.2.cells
    obtain ⟨t2, t3⟩ := t1
    obtain ⟨t3, t4⟩ := t3
    unfold set4 at t0 t2 t3 t4
    obtain ⟨c0, c1⟩ := (HQ.out ((w.alloc (.cells #[.slice e0 t.acts.length f0, .slice e1 t.gotos.length f1] 41)).alloc (.cells #[.slice none 0 0, .slice none 0 0, .slice none 0 0, .slice none 0 0] 48)) (Below.refl _ _)).1
    clear h1 he h2
    go_enter Try.func15, Try.ntmps15
    go_wp2_with fail
    refine bodyPost_ret (v := .tuple #[.agg #[.slice none 0 0, .slice none 0 0, .slice none 0 0, .slice none 0 0], .int .i64 1]) (by simp [results, Try.results15, go_sem, t0, t2, t3, t4]) rfl ?_
    first | exact ⟨_, _, _, _, by rw [hR], HE.out.1, by rw [hR]; exact PO.nil _ _⟩ | exact ⟨_, _, _, _, by rw [hR], (HQ.out _ (Below.refl _ _)).2.2, by rw [hR]; exact PO.nil _ _⟩
  have i2 : ((t.gotos.length : Int) != (t.acts.length : Int)) = false := by simp; omega
  have HH := (show Hid _ from (⟨h1, h2⟩ : _ ∧ _))
  obtain ⟨c0, c1⟩ := (HQ.out ((w.alloc (.cells #[.slice e0 t.acts.length f0, .slice e1 t.gotos.length f1] 41)).alloc (.cells #[.slice none 0 0, .slice none 0 0, .slice none 0 0, .slice none 0 0] 48)) (Below.refl _ _)).1
  clear h1 h2
  go_enter Try.func15, Try.ntmps15
  go_wp2_with fail
  refine Calls.mono (HLA.out _ (HQ.out _ (Below.refl _ _)).2.2) ?_
  rintro e w1 ⟨rfl, hb1⟩
  have HB1 := (show Hid _ from hb1)
  clear c0 c1 hb1
  obtain ⟨c0, c1⟩ := (HQ.out w1 HB1.out).1
  cases B1
  · have he : evB t = false := by rw [HEV.out]; simp
    have HE := (show Hid _ from HBAD.out w1 HB1.out he)
    have hR := pkR_no he
    have z0 := (HQ.out w1 HB1.out).2.1.cells.1
    have z1 := (HQ.out w1 HB1.out).2.1.cells.2.1
    have z2 := (HQ.out w1 HB1.out).2.1.cells.2.2.1
    have z3 := (HQ.out w1 HB1.out).2.1.cells.2.2.2
    have y0 := (HQ.out w1 HB1.out).2.1.frozen 0
    have y1 := (HQ.out w1 HB1.out).2.1.frozen 1
    have y2 := (HQ.out w1 HB1.out).2.1.frozen 2
    have y3 := (HQ.out w1 HB1.out).2.1.frozen 3
    obtain ⟨t0, t1⟩ := HE.out.2.cells
    obtain ⟨t2, t3⟩ := t1
    obtain ⟨t3, t4⟩ := t3
    unfold set4 at t0 t2 t3 t4
    clear he
    go_wp2_with fail
    refine bodyPost_ret (v := .tuple #[.agg #[.slice none 0 0, .slice none 0 0, .slice none 0 0, .slice none 0 0], .int .i64 1]) (by simp [results, Try.results15, go_sem, t0, t2, t3, t4]) rfl ?_
    first | exact ⟨_, _, _, _, by rw [hR], HE.out.1, by rw [hR]; exact PO.nil _ _⟩ | exact ⟨_, _, _, _, by rw [hR], (HQ.out _ (Below.refl _ _)).2.2, by rw [hR]; exact PO.nil _ _⟩
  go_wp2_with fail
  refine Calls.mono (HLG.out _ (HQ.out w1 HB1.out).2.2) ?_
  rintro e w2 ⟨rfl, hb2⟩
  have HB2 := (show Hid _ from bel_trans HB1.out hb2)
  clear c0 c1 hb2
  obtain ⟨c0, c1⟩ := (HQ.out w2 HB2.out).1
  cases B2
  · have he : evB t = false := by rw [HEV.out]; simp
    have HE := (show Hid _ from HBAD.out w2 HB2.out he)
    have hR := pkR_no he
    have z0 := (HQ.out w2 HB2.out).2.1.cells.1
    have z1 := (HQ.out w2 HB2.out).2.1.cells.2.1
    have z2 := (HQ.out w2 HB2.out).2.1.cells.2.2.1
    have z3 := (HQ.out w2 HB2.out).2.1.cells.2.2.2
    have y0 := (HQ.out w2 HB2.out).2.1.frozen 0
    have y1 := (HQ.out w2 HB2.out).2.1.frozen 1
    have y2 := (HQ.out w2 HB2.out).2.1.frozen 2
    have y3 := (HQ.out w2 HB2.out).2.1.frozen 3
    obtain ⟨t0, t1⟩ := HE.out.2.cells
    obtain ⟨t2, t3⟩ := t1
    obtain ⟨t3, t4⟩ := t3
    unfold set4 at t0 t2 t3 t4
    clear he
    go_wp2_with fail
    refine bodyPost_ret (v := .tuple #[.agg #[.slice none 0 0, .slice none 0 0, .slice none 0 0, .slice none 0 0], .int .i64 1]) (by simp [results, Try.results15, go_sem, t0, t2, t3, t4]) rfl ?_
    first | exact ⟨_, _, _, _, by rw [hR], HE.out.1, by rw [hR]; exact PO.nil _ _⟩ | exact ⟨_, _, _, _, by rw [hR], (HQ.out _ (Below.refl _ _)).2.2, by rw [hR]; exact PO.nil _ _⟩
  have he : evB t = true := by rw [HEV.out, decide_eq_true HH.out.1, decide_eq_true HH.out.2]; rfl
  have hR := pkR_yes he
  have HR := (show Hid _ from hR)
  clear he hR HBAD HEV HLA HLG
  -- the new box
  have q5 := Box4.new w2 48 (.slice none 0 0) (.slice none 0 0) (.slice none 0 0) (.slice none 0 0)
  have HA2 := (show Hid _ from bel_trans HB2.out (bel_alloc w2 (.cells #[.slice none 0 0, .slice none 0 0, .slice none 0 0, .slice none 0 0] 48)))
  have HC3 := (show Hid _ from HOA.out _ (HQ.out _ HA2.out).2.2 HH.out.1)
  have HQ5 := (show Hid _ from q5)
  clear q5 c0 c1
  obtain ⟨c0, c1⟩ := (HQ.out _ HA2.out).1
  go_wp2_with fail
  refine Calls.mono HC3.out ?_
  rintro e w3 ⟨u0, u2, ra, na, rfl, hb3, ho3, hq3⟩
  have hsz2 : ((w.alloc (.cells #[.slice e0 t.acts.length f0, .slice e1 t.gotos.length f1] 41)).alloc (.cells #[.slice none 0 0, .slice none 0 0, .slice none 0 0, .slice none 0 0] 48)).heap.size ≤ w2.heap.size := HB2.out.size
  have hszw : ((w.alloc (.cells #[.slice e0 t.acts.length f0, .slice e1 t.gotos.length f1] 41)).alloc (.cells #[.slice none 0 0, .slice none 0 0, .slice none 0 0, .slice none 0 0] 48)).heap.size = w.heap.size + 1 + 1 := by simp
  obtain ⟨p0, q0, _, eu0, _⟩ := own_cell (ho3.ok _ (List.mem_cons_self ..))
  obtain ⟨p2, q2, _, eu2, _⟩ := own_cell (ho3.ok _ (List.mem_cons_of_mem _ (List.mem_cons_self ..)))
  simp only at eu0 eu2
  subst eu0 eu2
  have b3 := Box4.still HQ5.out hb3
  have b4 := (b3.set0 (.slice p0 ra.length q0)).set2 (.slice p2 na.length q2)
  have hbW4 : Below ((w.alloc (.cells #[.slice e0 t.acts.length f0, .slice e1 t.gotos.length f1] 41)).alloc (.cells #[.slice none 0 0, .slice none 0 0, .slice none 0 0, .slice none 0 0] 48)).heap.size ((w.alloc (.cells #[.slice e0 t.acts.length f0, .slice e1 t.gotos.length f1] 41)).alloc (.cells #[.slice none 0 0, .slice none 0 0, .slice none 0 0, .slice none 0 0] 48)) ((w3.setCell ⟨w2.heap.size, 0, none⟩ (.slice p0 ra.length q0)).setCell ⟨w2.heap.size, 2, none⟩ (.slice p2 na.length q2)) := ((bel_trans HA2.out hb3).setCell (p := ⟨w2.heap.size, 0, none⟩) hsz2 _).setCell (p := ⟨w2.heap.size, 2, none⟩) hsz2 _
  have hsA : w2.heap.size < (w2.alloc (.cells #[.slice none 0 0, .slice none 0 0, .slice none 0 0, .slice none 0 0] 48)).heap.size := by simp
  have ho4 : Own ((w3.setCell ⟨w2.heap.size, 0, none⟩ (.slice p0 ra.length q0)).setCell ⟨w2.heap.size, 2, none⟩ (.slice p2 na.length q2)) (w2.alloc (.cells #[.slice none 0 0, .slice none 0 0, .slice none 0 0, .slice none 0 0] 48)).heap.size _ := (ho3.set (o := 0) (u := (.slice p0 ra.length q0)) hsA).set (o := 2) (u := (.slice p2 na.length q2)) hsA
  have H4 := (show Hid _ from (⟨hbW4, b4, ho4, hsA, hq3, hb3.size⟩ : _ ∧ _ ∧ _ ∧ _ ∧ _ ∧ _))
  have HC4 := (show Hid _ from HOG.out _ (HQ.out _ hbW4).2.2 (by have := HH.out; omega))
  obtain ⟨s0, s1, s2, s3⟩ := b3.cells
  have r0 := b3.frozen 0
  have r2 := b3.frozen 2
  clear c0 c1 hbW4 b3 b4 ho3 ho4 hq3 hb3 hsA HC3 HOA
  obtain ⟨c0, c1⟩ := (HQ.out _ H4.out.1).1
  go_wp2_with fail
  clear s0 s1 s2 s3 r0 r2 c0 c1
  refine Calls.mono HC4.out ?_
  rintro e w5 ⟨u1, u3, rg, ng, rfl, hb5, ho5, hq5⟩
  obtain ⟨p1, q1, _, eu1, _⟩ := own_cell (ho5.ok _ (List.mem_cons_self ..))
  obtain ⟨p3, q3, _, eu3, _⟩ := own_cell (ho5.ok _ (List.mem_cons_of_mem _ (List.mem_cons_self ..)))
  simp only at eu1 eu3
  subst eu1 eu3
  have hj := Own.join H4.out.2.2.1 hb5 ho5 (Nat.le_refl _) (by have := H4.out.2.2.2.2.2; simp [World.setCell] at this ⊢; omega)
  have b5 := H4.out.2.1.still hb5
  have b6 := (b5.set1 (.slice p1 rg.length q1)).set3 (.slice p3 ng.length q3)
  have hbW6 : Below ((w.alloc (.cells #[.slice e0 t.acts.length f0, .slice e1 t.gotos.length f1] 41)).alloc (.cells #[.slice none 0 0, .slice none 0 0, .slice none 0 0, .slice none 0 0] 48)).heap.size ((w.alloc (.cells #[.slice e0 t.acts.length f0, .slice e1 t.gotos.length f1] 41)).alloc (.cells #[.slice none 0 0, .slice none 0 0, .slice none 0 0, .slice none 0 0] 48)) ((w5.setCell ⟨w2.heap.size, 1, none⟩ (.slice p1 rg.length q1)).setCell ⟨w2.heap.size, 3, none⟩ (.slice p3 ng.length q3)) := ((bel_trans H4.out.1 hb5).setCell (p := ⟨w2.heap.size, 1, none⟩) hsz2 _).setCell (p := ⟨w2.heap.size, 3, none⟩) hsz2 _
  have ho6 : Own ((w5.setCell ⟨w2.heap.size, 1, none⟩ (.slice p1 rg.length q1)).setCell ⟨w2.heap.size, 3, none⟩ (.slice p3 ng.length q3)) (w2.alloc (.cells #[.slice none 0 0, .slice none 0 0, .slice none 0 0, .slice none 0 0] 48)).heap.size _ := (hj.set (o := 1) (u := (.slice p1 rg.length q1)) H4.out.2.2.2.1).set (o := 3) (u := (.slice p3 ng.length q3)) H4.out.2.2.2.1
  have g6 := (HQ.out _ hbW6).2.1
  have g7 := (((g6.set0 (.slice p0 ra.length q0)).set1 (.slice p1 rg.length q1)).set2 (.slice p2 na.length q2)).set3 (.slice p3 ng.length q3)
  have hb7 := ((((HQ.out _ hbW6).2.2.setCell (p := ⟨w.heap.size + 1, 0, none⟩) (by show w.heap.size ≤ w.heap.size + 1; omega) (.slice p0 ra.length q0)).setCell (p := ⟨w.heap.size + 1, 1, none⟩) (by show w.heap.size ≤ w.heap.size + 1; omega) (.slice p1 rg.length q1)).setCell (p := ⟨w.heap.size + 1, 2, none⟩) (by show w.heap.size ≤ w.heap.size + 1; omega) (.slice p2 na.length q2)).setCell (p := ⟨w.heap.size + 1, 3, none⟩) (by show w.heap.size ≤ w.heap.size + 1; omega) (.slice p3 ng.length q3)
  have hg1 : w.heap.size + 1 < (w2.alloc (.cells #[.slice none 0 0, .slice none 0 0, .slice none 0 0, .slice none 0 0] 48)).heap.size := by simp; omega
  have ho7 := (((ho6.set (o := 0) (u := (.slice p0 ra.length q0)) hg1).set (o := 1) (u := (.slice p1 rg.length q1)) hg1).set (o := 2) (u := (.slice p2 na.length q2)) hg1).set (o := 3) (u := (.slice p3 ng.length q3)) hg1
  have ho8 := (ho7.base (B' := w.heap.size) (by omega)).perm (perm6 _ _ _ _ _ _)
  have HF := (show Hid _ from (⟨hb7, ho8, H4.out.2.2.2.2.1, hq5⟩ : _ ∧ _ ∧ _ ∧ _))
  obtain ⟨s0, s1, s2, s3⟩ := b5.cells
  have r1 := b5.frozen 1
  have r3 := b5.frozen 3
  obtain ⟨m0, m1, m2, m3⟩ := b6.cells
  obtain ⟨n0, n1, n2, n3⟩ := g6.cells
  have l0 := g6.frozen 0
  have l1 := g6.frozen 1
  have l2 := g6.frozen 2
  have l3 := g6.frozen 3
  obtain ⟨o0, o1, o2, o3⟩ := g7.cells
  clear hj b5 b6 hbW6 ho6 g6 g7 hb7 hg1 ho7 ho8 hb5 ho5 hq5 H4 HC4 HOG HQ5 HA2
  go_wp2_with fail
  refine bodyPost_ret (v := .tuple #[.agg #[(.slice p0 ra.length q0), (.slice p1 rg.length q1), (.slice p2 na.length q2), (.slice p3 ng.length q3)], .int .i64 0]) (by simp [results, Try.results15, go_sem, o0, o1, o2, o3]) rfl ?_
  refine ⟨_, _, _, _, by rw [HR.out], HF.out.1, ra, rg, na, ng, HF.out.2.1, ?_⟩
  rw [HR.out, HF.out.2.2.1, HF.out.2.2.2]
end Go.Proofs.Ytflhfimgeladaaa
