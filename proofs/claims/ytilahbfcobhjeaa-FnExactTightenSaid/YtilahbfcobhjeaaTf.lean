import Derived.Test.YtilahbfcobhjeaaTe
/-! Programs that are made tighter: the specification. -/
namespace Go.Proofs.Ytilahbfcobhjeaa
open Go.RowKit Go.Deep
set_option linter.unusedVariables false
set_option maxRecDepth 100000
set_option linter.unusedSimpArgs false

/-- What Tighten answers of a program that is right. -/
def TgR (l r : List DIns) : Prop := ∃ bs ls, Lst (led l) bs ∧ Lvs (led l) (notB bs) ls ∧ r = wtO ls (led l) (led l).length
theorem Lvs.uniq {l : List DIns} {b lv lv' : List Bool} (h : Lvs l b lv) (h' : Lvs l b lv') : lv = lv' := by
  have key : ∀ (d i : Nat), i < l.length → i + d = l.length → (lv.getD i true = true ↔ lv'.getD i true = true) := by
    intro d
    induction d using Nat.strongRecOn with
    | _ d ih =>
    intro i hi hd
    rw [h.at_ i hi, h'.at_ i hi]
    have hC : LvC l lv i ↔ LvC l lv' i := by
      unfold LvC
      constructor
      · rintro ⟨h1, h2, h3⟩
        refine ⟨h1, h2, fun j hj1 hj2 => ?_⟩
        by_cases hjl : j < l.length
        · exact (ih (l.length - j) (by omega) j hjl (by omega)).1 (h3 j hj1 hj2)
        · have : lv'.length ≤ j := by rw [h'.len]; omega
          simp [List.getD_eq_getElem?_getD, List.getElem?_eq_none this]
      · rintro ⟨h1, h2, h3⟩
        refine ⟨h1, h2, fun j hj1 hj2 => ?_⟩
        by_cases hjl : j < l.length
        · exact (ih (l.length - j) (by omega) j hjl (by omega)).2 (h3 j hj1 hj2)
        · have : lv.length ≤ j := by rw [h.len]; omega
          simp [List.getD_eq_getElem?_getD, List.getElem?_eq_none this]
    rw [hC]
  apply List.ext_getElem
  · rw [h.len, h'.len]
  · intro i h1 h2
    have := key (l.length - i) i (by rw [← h.len]; exact h1) (by rw [← h.len]; omega)
    rw [getD_at h1, getD_at h2] at this
    cases e1 : lv[i] <;> cases e2 : lv'[i]
    · rfl
    · rw [e1, e2] at this; simp at this
    · rw [e1, e2] at this; simp at this
    · rfl
theorem TgR.uniq {l r r' : List DIns} (h : TgR l r) (h' : TgR l r') : r = r' := by
  obtain ⟨bs, ls, h1, h2, rfl⟩ := h
  obtain ⟨bs', ls', h1', h2', rfl⟩ := h'
  obtain rfl := h1.uniq h1'
  obtain rfl := h2.uniq h2'
  rfl
/-- What leaves can be told. -/
theorem lvs_ex (l : List DIns) (b : List Bool) (hto : ∀ i, i < l.length → htB (insAt l i).op = true → (insAt l i).to_ ≤ l.length) : ∃ ls, Lvs l b ls := by
  have key : ∀ d, d ≤ l.length → ∃ lv nx, Bw l b lv (l.length - d) nx := by
    intro d
    induction d with
    | zero => intro _; exact ⟨List.replicate l.length true, l.length, Bw.start (by simp)⟩
    | succ d ih =>
      intro hd
      obtain ⟨lv, nx, h⟩ := ih (by omega)
      rw [show l.length - d = (l.length - (d + 1)) + 1 by omega] at h
      have hv : ∃ v : Bool, v = true ↔ (b.getD (l.length - (d + 1)) false = true ∨ (htB (insAt l (l.length - (d + 1))).op = true ∧ ((l.length - (d + 1) : Nat) : Int) < (insAt l (l.length - (d + 1))).to_ ∧ (insAt l (l.length - (d + 1))).to_ ≤ nx)) := by
        by_cases hc : (b.getD (l.length - (d + 1)) false = true ∨ (htB (insAt l (l.length - (d + 1))).op = true ∧ ((l.length - (d + 1) : Nat) : Int) < (insAt l (l.length - (d + 1))).to_ ∧ (insAt l (l.length - (d + 1))).to_ ≤ nx))
        · exact ⟨true, ⟨fun _ => hc, fun _ => rfl⟩⟩
        · exact ⟨false, ⟨fun h => (by cases h), fun h => absurd h hc⟩⟩
      obtain ⟨v, hv⟩ := hv
      exact ⟨_, _, h.step (by omega) (hto _ (by omega)) hv⟩
  obtain ⟨lv, nx, h⟩ := key l.length (Nat.le_refl _)
  rw [Nat.sub_self] at h
  exact ⟨lv, h.done⟩
theorem led_to {l : List DIns} (hp : ∀ i (hi : i < l.length), inB l.length l[i] = true) : ∀ i (hi : i < (led l).length), htB (led l)[i].op = true → 0 ≤ (led l)[i].to_ ∧ (led l)[i].to_ < (led l).length := by
  intro i hi hh
  have hil : i < l.length := by rw [led_len] at hi; exact hi
  rw [led_get hi] at hh ⊢
  rw [ldX_op] at hh
  unfold ldX
  rw [if_pos hh]
  obtain ⟨_, _, f3, f4, _, _⟩ := in_facts (hp i hil)
  have := f4 hh
  have h2 := ldT_lt hp (k := l[i].to_.toNat) (by omega)
  have hll := led_len l
  dsimp only
  omega
theorem wtO_to {l : List DIns} {lb : List Bool} (hlb : lb.length = l.length) (hto : ∀ i (hi : i < l.length), htB l[i].op = true → 0 ≤ l[i].to_ ∧ l[i].to_ < l.length)
    (hcl : ∀ i (hi : i < l.length), lb.getD i true = false → htB l[i].op = true → lb.getD l[i].to_.toNat true = false) :
    ∀ m, m ≤ l.length → ∀ x, x ∈ wtO lb l m → htB x.op = true → 0 ≤ x.to_ ∧ x.to_ < stN lb l.length := by
  intro m
  induction m with
  | zero => intro _ x hx; cases hx
  | succ m ih =>
    intro hm x hx hh
    rw [wtO_succ (by omega) (by omega)] at hx
    rcases List.mem_append.1 hx with hx | hx
    · exact ih (by omega) x hx hh
    · split at hx
      · cases hx
      · rename_i hlm
        simp only [List.mem_singleton] at hx
        subst hx
        have hop : (wtX lb (l[m]'(by omega))).op = (l[m]'(by omega)).op := by unfold wtX; split <;> rfl
        rw [hop] at hh
        obtain ⟨t0, t1⟩ := hto m (by omega) hh
        have h1 := hcl m (by omega) (by rw [getD_at (by omega)]; simpa using hlm) hh
        unfold wtX
        rw [if_pos hh]
        dsimp only
        have htl : (l[m]'(by omega)).to_.toNat < lb.length := by omega
        rw [getD_at htl] at h1
        have h2 := stN_step htl h1
        have := stN_mono lb (i := (l[m]'(by omega)).to_.toNat + 1) (j := l.length) (by omega)
        omega
theorem lst_cl {l : List DIns} {bs : List Bool} (h : Lst l bs) (hto : ∀ i (hi : i < l.length), htB l[i].op = true → 0 ≤ l[i].to_ ∧ l[i].to_ < l.length) : ∀ i (hi : i < l.length), (notB bs).getD i true = false → htB l[i].op = true → (notB bs).getD l[i].to_.toNat true = false := by
  intro i hi h1 hh
  have hl := h.cl.len
  obtain ⟨t0, t1⟩ := hto i hi hh
  have ht := h.cl.to_ i hi
  rw [getD_at (by rw [notB_len]; omega), notB_getD (by omega)] at h1 ⊢
  rw [getD_at (by omega), getD_at (by omega)] at ht
  have := ht (by simpa using h1) hh
  simp [this]
/-- What stands while places wait. -/
structure T3 (w : World) (g g2 g3 c3 : Nat) (L : List DIns) (lv : List Bool) (T : List Nat) (wr : World) : Prop where
  bel : Below w.heap.size w wr
  x : XR wr g L
  b : BR wr g2 lv
  t : wr.ownsRow w.heap.size 3 1 (.slice (some ⟨g3, 0, none⟩) T.length c3) T.length (iv (nL T))
theorem own_ne {w : World} {g3 c3 n base : Nat} {xs : List Value} (h : w.ownsRow base 3 1 (.slice (some ⟨g3, 0, none⟩) n c3) n xs) {g2 : Nat} {lv : List Bool} (hb : BR w g2 lv) : g2 ≠ g3 := by
  obtain ⟨_, _, hr, _⟩ := own_row h
  obtain ⟨c, f, hb, _⟩ := hb
  exact row_apart hb hr (by decide)
theorem own_neX {w : World} {g3 c3 n base : Nat} {xs : List Value} (h : w.ownsRow base 3 1 (.slice (some ⟨g3, 0, none⟩) n c3) n xs) {g2 : Nat} {l : List DIns} (hb : XR w g2 l) : g2 ≠ g3 := by
  obtain ⟨_, _, hr, _⟩ := own_row h
  obtain ⟨c, f, hb, _⟩ := hb
  exact row_apart hb hr (by decide)
section
variable {w : World} {g g2 g3 c3 : Nat} {L : List DIns} {lv : List Bool} {T : List Nat} {wr w8 : World}
theorem T3.cut {k : Nat} (h : T3 w g g2 g3 c3 L lv (T ++ [k]) wr) : T3 w g g2 g3 c3 L lv T wr := by
  refine ⟨h.bel, h.x, h.b, ?_⟩
  have h1 := own_cut h.t (m := T.length) (by simp)
  have e : (nL (T ++ [k])).take T.length = nL T := by
    unfold nL
    rw [List.map_append, List.take_append_of_le_length (by simp), List.take_of_length_le (by simp)]
  rw [e] at h1
  exact h1
theorem T3.last {k : Nat} (h : T3 w g g2 g3 c3 L lv (T ++ [k]) wr) : wr.cell? ⟨g3, T.length, none⟩ = some (.int .i64 (k : Int)) := by
  have := own_cell h.t rfl (i := T.length) (by rw [nL_len]; simp)
  rw [this]
  simp [nL]
theorem T3.see (h : T3 w g g2 g3 c3 L lv T wr) (hg : w.heap.size ≤ g2) (k : Nat) (u : Bool) : T3 w g g2 g3 c3 L (lv.set k u) T (wr.setCell ⟨g2, k, none⟩ (.bool u)) := by
  refine ⟨h.bel.setCell (by exact hg) _, h.x.keep (blk_setCell_other _ _ _ _ ?_), h.b.set k u, own_keep h.t (fun q hq => blk_setCell_other _ _ _ _ ?_)⟩
  · show g ≠ g2
    exact fun e => (h.b.apart h.x) e.symm
  · show q ≠ g2
    injection hq with hq
    subst hq
    exact fun e => own_ne h.t h.b e.symm
theorem T3.alloc (h : T3 w g g2 g3 c3 L lv T wr) (o : Obj) : T3 w g g2 g3 c3 L lv T (wr.alloc o) :=
  ⟨bel_trans h.bel (bel_alloc _ _), h.x.still (bel_alloc _ _), h.b.still (bel_alloc _ _), own_keep h.t (fun q hq => (bel_alloc wr o).block q (own_lt h.t hq).2)⟩
theorem T3.app {k g8 c8 : Nat} (h : T3 w g g2 g3 c3 L lv T wr) (hg : wr.grownBy w8 (some g3)) (ho : w8.ownsRow w.heap.size 3 1 (.slice (some ⟨g8, 0, none⟩) (T.length + 1) c8) (T.length + 1) (iv (nL T) ++ [.int .i64 (k : Int)])) : T3 w g g2 g8 c8 L lv (T ++ [k]) w8 := by
  refine ⟨h.bel.grown hg h.bel.size (fun q hq => ?_), h.x.keep (hg.block g h.x.lt (fun e => ?_)), h.b.keep (hg.block g2 h.b.lt (fun e => ?_)), ?_⟩
  · injection hq with hq; subst hq; exact (own_lt h.t (b := g3) rfl).1
  · injection e with e; exact own_neX h.t h.x e
  · injection e with e; exact own_ne h.t h.b e
  · have e : iv (nL (T ++ [k])) = iv (nL T) ++ [.int .i64 (k : Int)] := by simp [nL, iv]
    rw [e, List.length_append]
    exact ho
theorem T3.app1 {k g8 c8 : Nat} (h : T3 w g g2 g3 c3 L lv T wr) (hg : wr.grownBy w8 (some g3)) (ho : w8.ownsRow w.heap.size 3 1 (.slice (some ⟨g8, 0, none⟩) (T.length + 1) c8) (T.length + 1) (iv (nL T) ++ [.int .i64 ((k : Int) + 1)])) : T3 w g g2 g8 c8 L lv (T ++ [k + 1]) w8 :=
  h.app (k := k + 1) hg (by rw [show ((k + 1 : Nat) : Int) = (k : Int) + 1 by omega]; exact ho)
end
theorem gs_next {l : List DIns} (hp : pgB l = true) {k : Nat} (hk : k < (led l).length) (hg : gsB (led l)[k].op = true) : k + 1 < l.length := by
  have hkl : k < l.length := by rw [led_len] at hk; exact hk
  rw [led_get hk, ldX_op] at hg
  exact (pg_at hp hkl).2.2 hg
/-- .. where the specification tells what leaves. -/
theorem TgR.of {l : List DIns} {bs lt : List Bool} (hp : ∀ i (hi : i < l.length), inB l.length l[i] = true) (hb : Lst (led l) bs) (ht : Lvs (wtO (notB bs) (led l) (led l).length) (List.replicate (wtO (notB bs) (led l) (led l).length).length false) lt) :
    TgR l (wtO lt (wtO (notB bs) (led l) (led l).length) (wtO (notB bs) (led l) (led l).length).length) := by
  have hto := led_to hp
  obtain ⟨ls, hls⟩ := lvs_ex (led l) (notB bs) (fun i hi hh => by rw [insAt_at hi] at hh ⊢; have := (hto i hi hh).2; omega)
  exact ⟨bs, ls, hb, hls, tight_same (by rw [notB_len]; exact hb.cl.len) hto ht hls⟩
/-- What is answered lies in a row of its own. -/
def TgA (l : List DIns) (w : World) (e : Ending) (w' : World) : Prop := ∃ r g c, TgR l r ∧ e = .returned (.slice (some ⟨g, 0, none⟩) r.length c) ∧ Below w.heap.size w w' ∧ w'.ownsRow w.heap.size 57 3 (.slice (some ⟨g, 0, none⟩) r.length c) r.length (xv r)
theorem info4p : (Try.prog.info? 4).map (fun i => (i.zero, i.size, i.bytes)) = some (some (.bool false), 1, 1) := by kernel_rfl
theorem run_makeB (n : Nat) (hn : n ≤ 50000) (w : World) :
    (Instr.makeSlice 108 (.int .i64 (n : Int)) (.int .i64 (n : Int))).run Try.prog w = .ok (.slice (some ⟨w.heap.size, 0, none⟩) n n) (w.alloc (.cells (madeCells #[.bool false] n) 4)) := by
  obtain ⟨i, hi, hzz⟩ := Option.map_eq_some_iff.1 info4p
  simp only [Prod.mk.injEq] at hzz
  obtain ⟨hz, hs, hb⟩ := hzz
  have hr := run_make (P := Try.prog) w 108 4 i _ Try.underlying108 hi hz .i64 .i64 n n (by omega) (Int.le_refl _) (by rw [hb]; omega) (by omega)
  simp only [Int.toNat_natCast, hs, Nat.mul_one] at hr
  exact hr
theorem notB_notB (lv : List Bool) : notB (notB lv) = lv := by
  unfold notB
  rw [List.map_map]
  have e : ((fun x => !x) ∘ fun x => !x) = (id : Bool → Bool) := by funext b; cases b <;> rfl
  rw [e, List.map_id]
theorem led_take {l : List DIns} {j : Nat} (h : j < l.length) : (led l).take (j + 1) = (led l).take j ++ [ldX l l[j]] := by
  rw [List.take_succ_eq_append_getElem (by rw [led_len]; exact h), led_get (by rw [led_len]; exact h)]
theorem rep_succ (j : Nat) : List.replicate (j + 1) true = List.replicate j true ++ [true] := List.replicate_succ'

end Go.Proofs.Ytilahbfcobhjeaa
