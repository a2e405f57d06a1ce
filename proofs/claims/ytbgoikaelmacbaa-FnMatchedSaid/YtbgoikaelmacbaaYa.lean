import Derived.Test.YtbgoikaelmacbaaPp
import Derived.Test.YtbgoikaelmacbaaFa
/-! Pure: a pattern that a tree matches, filled, is the tree; what stands at the places. -/
namespace Go.Proofs.Ytbgoikaelmacbaa
open Go.RowKit
set_option linter.unusedVariables false
set_option maxRecDepth 100000
set_option linter.unusedSimpArgs false

/-- What is bound stays bound. -/
def Ext (a b : List (ByteArray × Tr)) : Prop := ∀ x u, look a x = some u → look b x = some u
theorem Ext.refl (a : List (ByteArray × Tr)) : Ext a a := fun _ _ h => h
theorem Ext.trans {a b c : List (ByteArray × Tr)} (h : Ext a b) (g : Ext b c) : Ext a c := fun x u e => g x u (h x u e)
theorem look_app (bl : List (ByteArray × Tr)) (x : ByteArray) (t : Tr) : ∀ y, look (bl ++ [(x, t)]) y = match look bl y with
    | some u => some u
    | none => if eqS x y = true then some t else none := by
  intro y
  induction bl with
  | nil => rfl
  | cons b r ih =>
    rw [List.cons_append, look, look]
    split
    · rfl
    · exact ih
theorem mtV_ext (x : ByteArray) (t : Tr) (bl : List (ByteArray × Tr)) : Ext bl (mtV x t bl).1 := by
  unfold mtV
  split
  · exact Ext.refl _
  · intro y u h
    rw [look_app, h]
theorem mtV_look (x : ByteArray) (t : Tr) (bl : List (ByteArray × Tr)) (h : (mtV x t bl).2 = true) : look (mtV x t bl).1 x = some t := by
  unfold mtV at h ⊢
  split
  · rename_i u e
    rw [e] at h
    simp only at h
    rw [eqT_iff] at h
    subst h
    exact e
  · rename_i e
    simp only
    rw [look_app, e]
    simp only
    rw [if_pos (eqS_refl x)]
def SnP (p : Tr) : Prop := ∀ t bl, (mtT p t bl).2 = true → Ext bl (mtT p t bl).1 ∧ ∀ bl', Ext (mtT p t bl).1 bl' → flT bl' p = t ∧ hvT bl' p = true
theorem mtK_sound : ∀ (k ts : List Tr) (bl : List (ByteArray × Tr)), (∀ i (hi : i < k.length), SnP k[i]) → k.length = ts.length → (mtK (k.map mtT) ts bl).2 = true → Ext bl (mtK (k.map mtT) ts bl).1 ∧ ∀ bl', Ext (mtK (k.map mtT) ts bl).1 bl' → k.map (flT bl') = ts ∧ k.all (hvT bl') = true
  | [], [], bl, _, _, _ => ⟨Ext.refl _, fun _ _ => ⟨rfl, rfl⟩⟩
  | [], _ :: _, bl, _, h, _ => by simp at h
  | _ :: _, [], bl, _, h, _ => by simp at h
  | p :: r, t :: ts, bl, ih, h, hm => by
    rw [List.map_cons, mtK] at hm ⊢
    by_cases e : (mtT p t bl).2 = true
    · rw [if_pos e] at hm ⊢
      have h0 := ih 0 (by simp) t bl e
      simp only [List.getElem_cons_zero] at h0
      obtain ⟨a1, a2⟩ := h0
      obtain ⟨b1, b2⟩ := mtK_sound r ts (mtT p t bl).1 (fun i hi => by have := ih (i + 1) (by simp; omega); simpa using this) (by simpa using h) hm
      refine ⟨a1.trans b1, fun bl' hb => ?_⟩
      obtain ⟨c1, c2⟩ := b2 bl' hb
      obtain ⟨d1, d2⟩ := a2 bl' (b1.trans hb)
      rw [List.map_cons, List.all_cons, c1, c2, d1, d2]
      exact ⟨rfl, rfl⟩
    · rw [if_neg e] at hm
      cases hm
theorem mtT_sound (p : Tr) : SnP p := by
  refine Tr.ind (P := fun p => SnP p) ?_ p
  intro n x lf k ih t bl hm
  rw [mtT_mk] at hm ⊢
  by_cases hv : vrB n lf = true
  · rw [if_pos hv] at hm ⊢
    refine ⟨mtV_ext x t bl, fun bl' hb => ?_⟩
    have := hb x t (mtV_look x t bl hm)
    rw [flT_mk, hvT_mk, if_pos hv, if_pos hv, this]
    exact ⟨rfl, rfl⟩
  · rw [if_neg hv] at hm ⊢
    by_cases hh : hdB n x lf k.length t = true
    · rw [if_pos hh] at hm ⊢
      unfold hdB at hh
      rw [Bool.and_eq_true, Bool.and_eq_true, Bool.and_eq_true, eqS_iff, eqS_iff, beq_iff_eq, decide_eq_true_eq] at hh
      obtain ⟨h1, h2, h3, h4⟩ := hh
      obtain ⟨a1, a2⟩ := mtK_sound k t.kids bl (fun i hi => ih i hi) h4 hm
      refine ⟨a1, fun bl' hb => ?_⟩
      obtain ⟨b1, b2⟩ := a2 bl' hb
      rw [flT_mk, hvT_mk, if_neg hv, if_neg hv, b1, b2, h1, h2, h3]
      refine ⟨?_, rfl⟩
      cases t
      rfl
    · rw [if_neg hh] at hm
      cases hm
theorem ok_kids {t : Tr} (h : t.ok = true) (i : Nat) (hi : i < t.kids.length) : t.kids[i].ok = true := by
  obtain ⟨n, x, lf, k⟩ := t
  unfold Tr.ok at h ⊢
  simp only [Bool.and_eq_true, decide_eq_true_eq] at h ⊢
  obtain ⟨⟨h1, h2⟩, h3⟩ := h
  rw [Tr.cnt_mk] at h1
  rw [Tr.deep_mk] at h2
  rw [Tr.right_mk, Bool.and_eq_true] at h3
  have a := Tr.cnt_mem k i hi
  have b : Tr.deep k[i] ≤ Tr.deepL k := by
    have h1 := Tr.deepL_take_succ k i hi
    have h2 := Tr.deepL_take_le k (i + 1)
    omega
  have c : k[i].right = true := by
    have := h3.2
    unfold Tr.rightL at this
    exact List.all_eq_true.1 this _ (List.getElem_mem hi)
  refine ⟨⟨?_, ?_⟩, c⟩
  · show k[i].cnt ≤ _
    omega
  · show Tr.deep k[i] ≤ _
    omega
/-- Each bind is right. -/
def Bds (bl : List (ByteArray × Tr)) : Prop := ∀ j, j < bl.length → oneB bl j = true
theorem look_no {bl : List (ByteArray × Tr)} {x : ByteArray} (h : look bl x = none) : ∀ i, i < bl.length → eqS (nb bl i).1 x = false := by
  induction bl with
  | nil => intro i hi; simp at hi
  | cons b r ih =>
    rw [look] at h
    by_cases e : eqS b.1 x = true
    · rw [if_pos e] at h; cases h
    · rw [if_neg e] at h
      intro i hi
      cases i with
      | zero => simpa [nb] using e
      | succ i =>
        have := ih h i (by simpa using hi)
        simpa [nb] using this
theorem mtV_bds {x : ByteArray} {t : Tr} {bl : List (ByteArray × Tr)} (hx : nmB x = true) (ht : t.ok = true) (h : Bds bl) : Bds (mtV x t bl).1 := by
  unfold mtV
  split
  · exact h
  · rename_i e
    intro j hj
    simp only [List.length_append, List.length_cons, List.length_nil] at hj
    by_cases hl : j < bl.length
    · have h1 := h j hl
      unfold oneB at h1 ⊢
      rw [nb_app hl]
      rw [Bool.and_eq_true, Bool.and_eq_true, List.all_eq_true] at h1 ⊢
      refine ⟨h1.1, h1.2.1, fun i hi => ?_⟩
      have := h1.2.2 i hi
      rw [nb_app (by have := List.mem_range.1 hi; omega)]
      exact this
    · obtain rfl : j = bl.length := by omega
      unfold oneB
      rw [nb_last, Bool.and_eq_true, Bool.and_eq_true, List.all_eq_true]
      refine ⟨hx, ht, fun i hi => ?_⟩
      rw [nb_app (List.mem_range.1 hi), look_no e i (List.mem_range.1 hi)]
      rfl
theorem mtK_bds : ∀ (k ts : List Tr) (bl : List (ByteArray × Tr)), (∀ i (hi : i < k.length) t bl, nmV k[i] = true → t.ok = true → Bds bl → Bds (mtT k[i] t bl).1) → k.all nmV = true → (∀ t ∈ ts, t.ok = true) → Bds bl → Bds (mtK (k.map mtT) ts bl).1
  | [], ts, bl, _, _, _, h => by simpa [mtK] using h
  | _ :: _, [], bl, _, _, _, h => by simpa [mtK] using h
  | p :: r, t :: ts, bl, ih, hn, ho, h => by
    rw [List.all_cons, Bool.and_eq_true] at hn
    have h0 := ih 0 (by simp) t bl
    simp only [List.getElem_cons_zero] at h0
    have h1 := h0 hn.1 (ho t (by simp)) h
    rw [List.map_cons, mtK]
    split
    · exact mtK_bds r ts (mtT p t bl).1 (fun i hi u m => by have := ih (i + 1) (by simp; omega) u m; simpa using this) hn.2 (fun u hu => ho u (by simp [hu])) h1
    · exact h1
theorem mtT_bds (p : Tr) : ∀ t bl, nmV p = true → t.ok = true → Bds bl → Bds (mtT p t bl).1 := by
  refine Tr.ind (P := fun p => ∀ t bl, nmV p = true → t.ok = true → Bds bl → Bds (mtT p t bl).1) ?_ p
  intro n x lf k ih t bl hn ho h
  rw [nmV_mk] at hn
  rw [mtT_mk]
  split
  · rename_i hv
    rw [if_pos hv] at hn
    exact mtV_bds hn ho h
  · rename_i hv
    rw [if_neg hv] at hn
    split
    · refine mtK_bds k t.kids bl (fun i hi u m => ih i hi u m) hn (fun u hu => ?_) h
      obtain ⟨i, hi, rfl⟩ := List.mem_iff_getElem.1 hu
      exact ok_kids ho i hi
    · exact h
theorem bds_bdJ {bl : List (ByteArray × Tr)} (h : Bds bl) : ∀ j, j ≤ bl.length → bdJ bl j = true
  | 0, _ => rfl
  | j + 1, hj => by rw [bdJ, bds_bdJ h j (by omega), h j (by omega)]; rfl
/-- What is matched is filled again. -/
theorem fi_ma {p t : Tr} (hp : patB p = true) (ht : t.ok = true) (hm : mtB p t = true) : fiR p (mtT p t []).1 = (t, 0) := by
  obtain ⟨h1, h2⟩ := mtT_sound p t [] hm
  obtain ⟨h3, h4⟩ := h2 _ (Ext.refl _)
  have hn : nmV p = true := by
    unfold patB at hp
    rw [Bool.and_eq_true] at hp
    exact hp.2
  have hb : bdB (mtT p t []).1 = true := bds_bdJ (mtT_bds p t [] hn ht (fun j hj => by simp at hj)) _ (Nat.le_refl _)
  unfold fiR
  rw [hp, hb, if_pos (by rfl), if_pos h4, h3, if_pos ht]
theorem ma_yes {p t : Tr} (hp : patB p = true) (ht : t.ok = true) (hm : mtB p t = true) : maR p t = ((mtT p t []).1, true, 0) := by
  unfold maR
  rw [hp, ht]
  unfold mtB at hm
  rw [hm]
  rfl
theorem ma_no {p t : Tr} (hp : patB p = true) (ht : t.ok = true) (hm : mtB p t = false) : maR p t = ([], false, 0) := by
  unfold maR
  rw [hp, ht]
  unfold mtB at hm
  rw [hm]
  rfl
theorem ma_bad {p t : Tr} (h : (patB p && t.ok) = false) : maR p t = ([], false, 1) := by
  unfold maR
  rw [h]
  rfl
/-- The Kid at a place. -/
def kidAt (t : Tr) (i : Int) : Option Tr := if 0 ≤ i ∧ i < t.kids.length then some (nth t.kids i.toNat) else none
/-- The tree at a path. -/
def walkAt : List Int → Tr → Option Tr
  | [], t => some t
  | i :: r, t => (kidAt t i).bind (walkAt r)
theorem kidAt_yes {t : Tr} {i : Nat} (h : i < t.kids.length) : kidAt t i = some t.kids[i] := by
  unfold kidAt
  rw [if_pos (by omega), Int.toNat_natCast, nth_eq h]
abbrev natI (l : List Nat) : List Int := l.map (fun (n : Nat) => (n : Int))
def PsP (t : Tr) : Prop := ∀ xs u ys, (u, ys) ∈ ps t xs → ∃ zs, ys = xs ++ zs ∧ walkAt (natI zs) t = some u ∧ (t.ok = true → u.ok = true)
theorem spK_mem (xs : List Nat) (u : Tr) (ys : List Nat) : ∀ (k : List Tr) (j : Nat), (∀ i (hi : i < k.length), PsP k[i]) → (u, ys) ∈ spK (k.map ps) j xs → ∃ i, ∃ hi : i < k.length, ∃ zs, ys = xs ++ (j + i) :: zs ∧ walkAt (natI zs) k[i] = some u ∧ (k[i].ok = true → u.ok = true)
  | [], j, _, h => by simp [spK] at h
  | p :: r, j, ih, h => by
    rw [List.map_cons, spK, List.mem_append] at h
    rcases h with h | h
    · have h0 := ih 0 (by simp)
      simp only [List.getElem_cons_zero] at h0
      obtain ⟨zs, e1, e2, e3⟩ := h0 _ _ _ h
      exact ⟨0, by simp, zs, by rw [e1, List.append_assoc]; rfl, e2, e3⟩
    · obtain ⟨i, hi, zs, e1, e2, e3⟩ := spK_mem xs u ys r (j + 1) (fun i hi => by have := ih (i + 1) (by simp; omega); simpa using this) h
      exact ⟨i + 1, by simp; omega, zs, by rw [e1, show j + 1 + i = j + (i + 1) by omega], by simpa using e2, by simpa using e3⟩
theorem ps_at (t : Tr) : PsP t := by
  refine Tr.ind (P := fun t => PsP t) ?_ t
  intro n x lf k ih xs u ys h
  rw [ps_mk, List.mem_cons] at h
  rcases h with h | h
  · injection h with h1 h2
    subst h1
    subst h2
    exact ⟨[], by simp, rfl, id⟩
  · obtain ⟨i, hi, zs, e1, e2, e3⟩ := spK_mem xs u ys k 0 (fun i hi => ih i hi) h
    refine ⟨i :: zs, by rw [e1, Nat.zero_add], ?_, fun ho => e3 (ok_kids ho i hi)⟩
    show (kidAt ⟨n, x, lf, k⟩ ((i : Nat) : Int)).bind (walkAt (natI zs)) = some u
    rw [kidAt_yes (t := ⟨n, x, lf, k⟩) hi]
    exact e2
/-- What stands at a place is the pattern. -/
theorem pl_at {p t : Tr} {ys : List Nat} (h : ys ∈ plT p t []) : ∃ u, walkAt (natI ys) t = some u ∧ mtB p u = true ∧ (t.ok = true → u.ok = true) := by
  unfold plT at h
  rw [List.mem_map] at h
  obtain ⟨⟨u, zs⟩, h1, h2⟩ := h
  rw [List.mem_filter] at h1
  simp only at h2
  subst h2
  obtain ⟨zs', e1, e2, e3⟩ := ps_at t [] u zs h1.1
  rw [List.nil_append] at e1
  subst e1
  exact ⟨u, e2, h1.2, e3⟩
/-- How many paths have no place in them. -/
def czN (l : List (List Nat)) : Nat := (l.filter fun y => decide (y.length = 0)).length
theorem czN_app (a b : List (List Nat)) : czN (a ++ b) = czN a + czN b := by
  unfold czN
  rw [List.filter_append, List.length_append]
theorem pl_cz (p t : Tr) : czN (plT p t []) = if mtB p t = true then 1 else 0 := by
  obtain ⟨n, x, lf, k⟩ := t
  rw [plT_mk, czN_app]
  have h0 : czN (spK (k.map (plT p)) 0 []) = 0 := by
    unfold czN
    rw [List.length_eq_zero_iff, List.filter_eq_nil_iff]
    intro y hy
    have hm : ∃ u, (u, y) ∈ spK (k.map ps) 0 [] := by
      have key : ∀ (l : List Tr) (i : Nat) (xs : List Nat), y ∈ spK (l.map (plT p)) i xs → ∃ u, (u, y) ∈ spK (l.map ps) i xs := by
        intro l
        induction l with
        | nil => intro i xs h; simp [spK] at h
        | cons t r ih =>
          intro i xs h
          rw [List.map_cons, spK, List.mem_append] at h
          rcases h with h | h
          · unfold plT at h
            rw [List.mem_map] at h
            obtain ⟨⟨u, zs⟩, h1, h2⟩ := h
            rw [List.mem_filter] at h1
            simp only at h2
            subst h2
            exact ⟨u, by rw [List.map_cons, spK, List.mem_append]; exact .inl h1.1⟩
          · obtain ⟨u, hu⟩ := ih (i + 1) xs h
            exact ⟨u, by rw [List.map_cons, spK, List.mem_append]; exact .inr hu⟩
      exact key k 0 [] hy
    obtain ⟨u, hu⟩ := hm
    obtain ⟨i, hi, zs, e1, _⟩ := spK_mem [] u y k 0 (fun i hi => ps_at _) hu
    rw [e1]
    simp
  rw [h0]
  split
  · rfl
  · rfl
theorem czN_take {l : List (List Nat)} {j : Nat} (h : j < l.length) : czN (l.take (j + 1)) = czN (l.take j) + (if l[j].length = 0 then 1 else 0) := by
  rw [List.take_succ_eq_append_getElem h, czN_app]
  congr 1
  unfold czN
  rw [List.filter_cons]
  split
  · rename_i e
    rw [if_pos (of_decide_eq_true e)]
    rfl
  · rename_i e
    rw [if_neg (by simpa using e)]
    rfl
end Go.Proofs.Ytbgoikaelmacbaa
