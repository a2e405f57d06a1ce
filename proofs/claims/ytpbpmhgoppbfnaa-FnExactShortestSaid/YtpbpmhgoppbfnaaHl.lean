import Derived.Test.YtpbpmhgoppbfnaaHk
/-! The specification's search for shortest words: pure, and in memory. -/
namespace Go.Proofs.Ytpbpmhgoppbfnaa
open Go.RowKit Go.Deep
set_option linter.unusedVariables false
set_option maxRecDepth 100000
set_option linter.unusedSimpArgs false

/-- What is known of the words. -/
structure PH (nt : Nat) (ps : List (Nat × List Nat)) (M : List Int) (hs : List Bool) (l : List (List Nat)) : Prop where
  lim : ∀ y, (wsF l y).length ≤ 1000
  made : ∀ y, hs.getD y false = true → Wo nt ps [nt + y] (wsF l y) ∧ ((wsF l y).length : Int) = Mf nt M (nt + y)
/-- A Prod says something new. -/
def newH (nt : Nat) (M : List Int) (hs : List Bool) (l : List (List Nat)) (p : Nat × List Nat) : Prop := spB nt M hs p.2 (Mf nt M p.1) = true ∧ (Kf nt hs p.1 = false ∨ rk (cat (Wf nt l) p.2) < rk (Wf nt l p.1))
theorem Kf_getD {nt : Nat} {hs : List Bool} {y : Nat} : Kf nt hs (nt + y) = hs.getD y false := by
  unfold Kf
  rw [decide_eq_false (by omega), Bool.false_or]
  have : nt + y - nt = y := by omega
  rw [this]
theorem PH.known {nt : Nat} {ps : List (Nat × List Nat)} {M : List Int} {hs : List Bool} {l : List (List Nat)} (hS : Snd nt ps (Mf nt M)) (h : PH nt ps M hs l) {x : Nat} (hx : Kf nt hs x = true) : Wo nt ps [x] (Wf nt l x) ∧ ((Wf nt l x).length : Int) = Mf nt M x := by
  by_cases e : x < nt
  · rw [Wf_tm e, hS.tm x e]
    exact ⟨Wo.term e Wo.nil, rfl⟩
  · obtain ⟨y, rfl⟩ : ∃ y, x = nt + y := ⟨x - nt, by omega⟩
    rw [Wf_non]
    rw [Kf_getD] at hx
    exact h.made y hx
theorem spB_word {nt : Nat} {ps : List (Nat × List Nat)} {M : List Int} {hs : List Bool} {l : List (List Nat)} (hS : Snd nt ps (Mf nt M)) (h : PH nt ps M hs l) {r : List Nat} {len : Int} (hb : spB nt M hs r len = true) : Wo nt ps r (cat (Wf nt l) r) ∧ ((cat (Wf nt l) r).length : Int) = len ∧ 0 ≤ len ∧ len ≤ 200 := by
  unfold spB at hb
  obtain ⟨h1, h2, h3, h4⟩ := of_decide_eq_true hb
  refine ⟨Wo.cat r (fun x hx => (h.known hS (h4 x hx)).1), ?_, h1, h2⟩
  unfold lof at h3
  cases hs' : lsum (Mf nt M) r with
  | none => rw [hs'] at h3; simp only at h3; omega
  | some s =>
    rw [hs'] at h3
    simp only at h3
    have := cat_len (W := Wf nt l) _ _ hs' (fun x hx => (h.known hS (h4 x hx)).2)
    omega
theorem PH.step {nt : Nat} {ps : List (Nat × List Nat)} {M : List Int} {hs : List Bool} {l : List (List Nat)} (hS : Snd nt ps (Mf nt M)) (h : PH nt ps M hs l) {p : Nat × List Nat} {y : Nat} (hp : p ∈ ps) (hy : p.1 = nt + y) (hyh : y < hs.length) (hyl : y < l.length) (hn : newH nt M hs l p) : PH nt ps M (hs.set y true) (l.set y (cat (Wf nt l) p.2)) := by
  obtain ⟨h1, h2, h3, h4⟩ := spB_word hS h hn.1
  refine ⟨fun x => ?_, fun x hx => ?_⟩
  · rw [wsF_set hyl]; split
    · omega
    · exact h.lim x
  · rw [wsF_set hyl]
    by_cases e : x = y
    · rw [if_pos e]
      subst e
      rw [hy] at h2
      refine ⟨?_, h2⟩
      have := Wo.non hp h1 Wo.nil
      rw [List.append_nil, hy] at this
      exact this
    · rw [if_neg e]
      have e2 : (hs.set y true)[x]? = hs[x]? := List.getElem?_set_ne (fun h : y = x => e h.symm)
      have hx' : hs.getD x false = true := by
        rw [List.getD_eq_getElem?_getD, e2, ← List.getD_eq_getElem?_getD] at hx
        exact hx
      exact h.made x hx'
theorem PH.best {nt : Nat} {ps : List (Nat × List Nat)} {M : List Int} {hs : List Bool} {l : List (List Nat)} (hS : Snd nt ps (Mf nt M)) (hq : ∀ p ∈ ps, lnew (Mf nt M) p = false) (h : PH nt ps M hs l) (hn : ∀ p ∈ ps, ¬ newH nt M hs l p) (y : Nat) (h0 : 0 ≤ Mf nt M (nt + y)) (h1 : Mf nt M (nt + y) ≤ 200) : hs.getD y false = true ∧ Bst nt ps (Mf nt M) (nt + y) (wsF l y) := by
  have key := bst_of hS hq (Kf nt hs) (Wf nt l) (fun x g0 g1 g2 => h.known hS g2) (fun x hx => ⟨Kf_tm hx, Wf_tm hx⟩) (fun p hp g0 g1 g2 g3 => by
    have hb : spB nt M hs p.2 (Mf nt M p.1) = true := decide_eq_true ⟨g0, g1, g2, g3⟩
    by_cases hk : Kf nt hs p.1 = true
    · refine ⟨hk, Nat.le_of_not_lt fun hlt => hn p hp ⟨hb, .inr hlt⟩⟩
    · exact absurd ⟨hb, .inl (by simpa using hk)⟩ (hn p hp)) (nt + y) h0 h1
  rw [Kf_getD, Wf_non] at key
  exact key
/-- How much better they may become. -/
def mvH (hs : List Bool) (l : List (List Nat)) (y : Nat) : Nat := if hs.getD y false then rk (wsF l y) else big
def msH (n : Nat) (A : List Bool × List (List Nat)) : Nat := ((List.range n).map (mvH A.1 A.2)).sum
theorem msH_less {nt : Nat} {ps : List (Nat × List Nat)} {M : List Int} {hs : List Bool} {l : List (List Nat)} (hnt : nt ≤ 256) (hS : Snd nt ps (Mf nt M)) (h : PH nt ps M hs l) {p : Nat × List Nat} {y n : Nat} (hy : p.1 = nt + y) (hyn : y < n) (hyh : y < hs.length) (hyl : y < l.length) (hn : newH nt M hs l p) : msH n (hs.set y true, l.set y (cat (Wf nt l) p.2)) < msH n (hs, l) := by
  obtain ⟨h1, h2, h3, h4⟩ := spB_word hS h hn.1
  have hc : rk (cat (Wf nt l) p.2) < big := rk_big (h1.sml hnt) (by omega)
  have hg : (hs.set y true).getD y false = true := by simp [List.getD_eq_getElem?_getD, hyh]
  have hlt : mvH (hs.set y true) (l.set y (cat (Wf nt l) p.2)) y < mvH hs l y := by
    unfold mvH
    rw [hg, wsF_set hyl, if_pos rfl, if_pos rfl]
    have h5 := hn.2
    rw [hy, Kf_getD, Wf_non] at h5
    cases e : hs.getD y false
    · exact hc
    · rcases h5 with h5 | h5
      · rw [e] at h5; cases h5
      · exact h5
  refine sum_lt _ (fun i _ => ?_) y (List.mem_range.2 hyn) hlt
  show mvH (hs.set y true) (l.set y (cat (Wf nt l) p.2)) i ≤ mvH hs l i
  by_cases e : i = y
  · subst e; exact Nat.le_of_lt hlt
  · unfold mvH
    have e2 : (hs.set y true)[i]? = hs[i]? := List.getElem?_set_ne (fun h : y = i => e h.symm)
    rw [List.getD_eq_getElem?_getD, e2, ← List.getD_eq_getElem?_getD, wsF_set hyl, if_neg e]
    exact Nat.le_refl _
theorem tin_inj {u v : List Nat} (h : tin u = tin v) : u = v := by
  unfold tin at h
  exact (List.map_inj_right (fun a b e => by injection e)).1 h
theorem iv_inj {u v : List Int} (h : iv u = iv v) : u = v := (List.map_inj_right (fun a b e => by injection e)).1 h
theorem own_same {w : World} {B B' : Nat} {v : Value} {n n' : Nat} {xs ys : List Value} (h : w.ownsRow B 3 1 v n xs) (k : w.ownsRow B' 3 1 v n' ys) (g : Nat) (hg : v.ownBlock = some g) : xs = ys := by
  rcases h.2 with ⟨rfl, _⟩ | ⟨g1, c1, cur1, r1, _, q1, _, _, _, t1⟩
  · cases hg
  · rcases k.2 with ⟨rfl, _⟩ | ⟨g2, c2, cur2, r2, _, q2, _, _, _, t2⟩
    · cases hg
    · rw [r1] at r2
      simp only [Value.slice.injEq, Option.some.injEq, Addr.mk.injEq] at r2
      obtain ⟨⟨rfl, _⟩, rfl, _⟩ := r2
      rw [q1] at q2
      simp only [Option.some.injEq, Obj.cells.injEq] at q2
      rw [← t1, ← t2, q2.1]
theorem WLs.uniq {w : World} {bW n : Nat} {S S' : Nat → Prop} {hs : List Bool} {l l' : List (List Nat)} {sv sv' : Nat → Value} (h : WLs w bW n S hs l sv) (k : WLs w bW n S' hs l' sv') (y : Nat) (hy : y < n) (hh : hs.getD y false = true) : wsF l y = wsF l' y := by
  obtain ⟨g, c, e1, _, o1⟩ := h.is y hy hh
  obtain ⟨g', c', e2, _, o2⟩ := k.is y hy hh
  have h1 := World.rowIs.cell h.row hy
  have h2 := World.rowIs.cell k.row hy
  rw [h1, e1, e2] at h2
  simp only [Option.some.injEq, Value.slice.injEq, Addr.mk.injEq] at h2
  obtain ⟨⟨rfl, _⟩, hl, rfl⟩ := h2
  rw [← hl] at o2
  exact tin_inj (iv_inj (own_same o1 o2 g rfl))
/-- The state of the specification's search. -/
structure InvH (w : World) (d : Bn) (a0 a1 a3 : Option Addr) (c0 c1 c3 b bW bH : Nat) (M : List Int) (A : List Bool × List (List Nat)) (wr : World) : Prop where
  bel : Below w.heap.size w wr
  box : Box wr w.heap.size 34 [.slice a0 d.terms.length c0, .slice a1 d.nons.length c1, .int .i64 d.own, .slice a3 d.prods.length c3]
  mrow : IRow wr b M
  hrow : BRow wr bH A.1
  wl : ∃ sv, WLs wr bW d.nons.length (fun q => q ≠ bW ∧ q ≠ bH) A.1 A.2 sv
  hlen : A.1.length = d.nons.length
  llen : A.2.length = d.nons.length
theorem InvH.still {w : World} {d : Bn} {a0 a1 a3 : Option Addr} {c0 c1 c3 b bW bH : Nat} {M : List Int} {A : List Bool × List (List Nat)} {wr w' : World} (h : InvH w d a0 a1 a3 c0 c1 c3 b bW bH M A wr) (hb : Below wr.heap.size wr w') : InvH w d a0 a1 a3 c0 c1 c3 b bW bH M A w' := by
  obtain ⟨sv, hwl⟩ := h.wl
  exact ⟨bel_trans h.bel hb, h.box.still hb, irow_still h.mrow hb, h.hrow.still hb, ⟨sv, hwl.still hb⟩, h.hlen, h.llen⟩
theorem InvH.uniq {w : World} {d : Bn} {a0 a1 a3 : Option Addr} {c0 c1 c3 b bW bH : Nat} {M : List Int} {A B : List Bool × List (List Nat)} {wr : World} (h : InvH w d a0 a1 a3 c0 c1 c3 b bW bH M A wr) (k : InvH w d a0 a1 a3 c0 c1 c3 b bW bH M B wr) : msH d.nons.length A = msH d.nons.length B := by
  have e := BRow.uniq h.hrow k.hrow (by rw [h.hlen, k.hlen])
  obtain ⟨sv, h1⟩ := h.wl
  obtain ⟨sv', h2⟩ := k.wl
  rw [← e] at h2
  unfold msH
  congr 1
  apply List.map_congr_left
  intro y hy
  unfold mvH
  rw [← e]
  cases hh : A.1.getD y false
  · rfl
  · rw [h1.uniq h2 y (List.mem_range.1 hy) hh]
/-- A word is set down, and told to be there. -/
theorem InvH.set {w : World} {d : Bn} {a0 a1 a3 : Option Addr} {c0 c1 c3 b bW bH : Nat} {M : List Int} {A : List Bool × List (List Nat)} {wr : World} (h : InvH w d a0 a1 a3 c0 c1 c3 b bW bH M A wr) {y : Nat} (hy : y < d.nons.length) (C : List Nat) {g c B : Nat} (ho : wr.ownsRow B 3 1 (.slice (some ⟨g, 0, none⟩) C.length c) C.length (iv (tin C))) (hgW : g ≠ bW) (hgH : g ≠ bH) (hWH : bW ≠ bH) (hbW : b ≠ bW) (hbH : b ≠ bH) (h1 : w.heap.size < bW) (h2 : w.heap.size < bH) :
    InvH w d a0 a1 a3 c0 c1 c3 b bW bH M (A.1.set y true, A.2.set y C) ((wr.setCell ⟨bW, y, none⟩ (.slice (some ⟨g, 0, none⟩) C.length c)).setCell ⟨bH, y, none⟩ (.bool true)) := by
  obtain ⟨sv, hwl⟩ := h.wl
  have k1 : ∀ q, q ≠ bW → q ≠ bH → ((wr.setCell ⟨bW, y, none⟩ (.slice (some ⟨g, 0, none⟩) C.length c)).setCell ⟨bH, y, none⟩ (.bool true)).heap[q]? = wr.heap[q]? := fun q e1 e2 => (blk_setCell_other _ _ _ _ (by exact e2)).trans (blk_setCell_other _ _ _ _ (by exact e1))
  have hsz := h.bel.size
  have hbl : Below w.heap.size wr ((wr.setCell ⟨bW, y, none⟩ (.slice (some ⟨g, 0, none⟩) C.length c)).setCell ⟨bH, y, none⟩ (.bool true)) := ⟨rfl, rfl, rfl, by simp [World.setCell], fun q hq => k1 q (by omega) (by omega)⟩
  refine ⟨h.bel.trans hbl, h.box.keep (k1 _ (by omega) (by omega)), World.rowIs.of_block h.mrow (k1 _ hbW hbH), ?_, ?_, by rw [List.length_set]; exact h.hlen, by rw [List.length_set]; exact h.llen⟩
  · have h3 : BRow (wr.setCell ⟨bW, y, none⟩ (.slice (some ⟨g, 0, none⟩) C.length c)) bH A.1 := World.rowIs.of_block h.hrow (blk_setCell_other _ _ _ _ (by exact fun e => hWH e.symm))
    exact h3.set (by rw [h.hlen]; exact hy) true
  · refine ⟨fun i => if i = y then .slice (some ⟨g, 0, none⟩) C.length c else sv i, ?_, fun i hi hh => ?_⟩
    · have h3 := World.rowIs.set hwl.row y (.slice (some ⟨g, 0, none⟩) C.length c)
      have h4 := World.rowIs.of_block h3 (w' := (wr.setCell ⟨bW, y, none⟩ (.slice (some ⟨g, 0, none⟩) C.length c)).setCell ⟨bH, y, none⟩ (.bool true)) (blk_setCell_other _ _ _ _ (by exact hWH))
      exact h4
    · dsimp only
      by_cases e : i = y
      · rw [if_pos e]
        subst e
        rw [wsF_set (by rw [h.llen]; exact hy), if_pos rfl]
        refine ⟨g, c, rfl, ⟨hgW, hgH⟩, own_kept (own_low ho (Nat.zero_le _)) (fun k hk => ?_)⟩
        have e9 : g = k := by simpa [Value.ownBlock] using hk
        subst e9
        exact k1 g hgW hgH
      · rw [if_neg e, wsF_set (by rw [h.llen]; exact hy), if_neg e]
        have e2 : (A.1.set y true)[i]? = A.1[i]? := List.getElem?_set_ne (fun h : y = i => e h.symm)
        have hh' : A.1.getD i false = true := by
          dsimp only at hh
          rw [List.getD_eq_getElem?_getD, e2, ← List.getD_eq_getElem?_getD] at hh
          exact hh
        obtain ⟨g', c', q1, q2, q3⟩ := hwl.is i hi hh'
        refine ⟨g', c', q1, q2, own_kept q3 (fun k hk => ?_)⟩
        have e9 : g' = k := by simpa [Value.ownBlock] using hk
        subst e9
        exact k1 g' q2.1 q2.2
end Go.Proofs.Ytpbpmhgoppbfnaa
