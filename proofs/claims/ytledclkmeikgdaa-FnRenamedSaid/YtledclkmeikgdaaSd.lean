import Derived.Test.YtledclkmeikgdaaSc
/-! What is gathered: one path more, one scope more. -/
namespace Go.Proofs.Ytledclkmeikgdaa
open Go.RowKit Go.Deep Go.Lib
set_option linter.unusedVariables false
set_option maxRecDepth 100000
set_option linter.unusedSimpArgs false

/-- One more row, whoever made it, in a block of its own. -/
theorem RRv.push {W W1 W3 : World} {B g cap : Nat} {ls : List (List Nat)} {xs : List Nat} {v u : Value} {vs : Nat → Value} (h : RRv W B ls v vs) (hb : Below W.heap.size W W1) (hu : W1.ownsRow B 3 1 u xs.length (nums xs)) (hnew : ∀ q, u.ownBlock = some q → ∀ i, i < ls.length → (vs i).ownBlock ≠ some q)
    (hown : W3.ownsRow B 34 1 (.slice (some ⟨g, 0, none⟩) (ls.length + 1) cap) (ls.length + 1) (slv vs ls.length ++ [u])) (hgr : W1.grownBy W3 v.ownBlock) (h1 : W1.ownsRow B 34 1 v ls.length (slv vs ls.length)) :
    RRv W3 B (ls ++ [xs]) (.slice (some ⟨g, 0, none⟩) (ls.length + 1) cap) (fun i => if i = ls.length then u else vs i) := by
  have hs := hb.size
  have hlen : (ls ++ [xs]).length = ls.length + 1 := by simp
  have hrow : ∀ i (hi : i < ls.length), W3.ownsRow B 3 1 (vs i) ls[i].length (nums ls[i]) := fun i hi => own_keep1 (h.row i hi) (fun q hq => (hgr.block q (by have := (World.ownsRow.lt (h.row i hi) q hq).2; omega) (fun e => h.apart i hi q hq e.symm)).trans (hb.block q (World.ownsRow.lt (h.row i hi) q hq).2))
  have hu3 : W3.ownsRow B 3 1 u xs.length (nums xs) := own_keep1 hu (fun q hq => hgr.block q (World.ownsRow.lt hu q hq).2 (fun e => own_apart h1 hu (by decide) hq e.symm))
  have hrow2 : ∀ i (hi : i < (ls ++ [xs]).length), W3.ownsRow B 3 1 (if i = ls.length then u else vs i) (ls ++ [xs])[i].length (nums (ls ++ [xs])[i]) := fun i hi => by
    rw [hlen] at hi
    by_cases e : i = ls.length
    · subst e
      rw [if_pos rfl, List.getElem_append_right (Nat.le_refl _)]
      simpa using hu3
    · rw [if_neg e, List.getElem_append_left (by omega)]
      exact hrow i (by omega)
  refine ⟨?_, hrow2, fun i hi q hq e => ?_, fun i j hij hj q hq e => ?_⟩
  · rw [hlen, slv_succ]
    exact hown
  · exact own_apart (hrow2 i hi) hown (by decide) e hq
  · rw [hlen] at hj
    rw [if_neg (by omega)] at hq
    by_cases e2 : j = ls.length
    · rw [if_pos e2] at e
      exact hnew q e i (by omega) hq
    · rw [if_neg e2] at e
      exact h.dis i j hij (by omega) q hq e
theorem Co.setN {w : World} {A q ty : Nat} {s : Sw} {c : CV} (h : Co w A q ty s c) (n : Nat) : St A q ty w s c (w.setCell ⟨q, 0, none⟩ (.int .i64 (n : Nat))) { s with n := n } c (fun _ => False) (fun _ => False) := by
  have hk : ∀ b, b ≠ q → (w.setCell ⟨q, 0, none⟩ (.int .i64 (n : Nat))).heap[b]? = w.heap[b]? := fun b hb => blk_setCell_other _ _ _ _ (by show b ≠ q; exact hb)
  refine ⟨⟨by simpa using h.bx.set 0 (.int .i64 (n : Nat)), own_keep1 h.e (fun b e => hk b (own_box h.e h.bx (fun e => h.ty.1 e.symm) e)), own_keep1 h.d (fun b e => hk b (own_box h.d h.bx (fun e => h.ty.2.1 e.symm) e)), own_keep1 h.r (fun b e => hk b (own_box h.r h.bx (fun e => h.ty.2.1 e.symm) e)),
    h.dp.keep (fun b e => hk b (own_box h.dp.out h.bx (fun e => h.ty.2.2.1 e.symm) e)) (fun i hi b e => hk b (own_box (h.dp.row i hi) h.bx (fun e => h.ty.2.2.2 e.symm) e)), h.rp.keep (fun b e => hk b (own_box h.rp.out h.bx (fun e => h.ty.2.2.1 e.symm) e)) (fun i hi b e => hk b (own_box (h.rp.row i hi) h.bx (fun e => h.ty.2.2.2 e.symm) e)), h.dr, h.pp, h.px, h.hq, h.ty⟩,
    ⟨rfl, rfl, rfl, by simp, fun b hb hn => hk b (fun e => hn (.inl (.inl e)))⟩, fun b hb => .inl hb⟩

theorem Co.pushDp {w w1 w2 : World} {A q ty g cp : Nat} {s : Sw} {c : CV} {u : Value} {xs : List Nat} (h : Co w A q ty s c) (hb : Below w.heap.size w w1) (hu : w1.ownsRow A 3 1 u xs.length (nums xs)) (hnew : ∀ b, u.ownBlock = some b → ¬ c.B q s b)
    (ho : w2.ownsRow A 34 1 (.slice (some ⟨g, 0, none⟩) (s.dp.length + 1) cp) (s.dp.length + 1) (slv c.D s.dp.length ++ [u])) (hg : w1.grownBy w2 c.v4.ownBlock) (hat : c.v4.ownBlock = some g ∨ w.heap.size ≤ g) :
    St A q ty w s c (w2.setCell ⟨q, 4, none⟩ (.slice (some ⟨g, 0, none⟩) (s.dp.length + 1) cp)) { s with dp := s.dp ++ [xs] } { c with v4 := .slice (some ⟨g, 0, none⟩) (s.dp.length + 1) cp, D := fun i => if i = s.dp.length then u else c.D i } (fun _ => False) (fun b => u.ownBlock = some b) := by
  have hs1 := hb.size
  have hs2 := hg.size
  have hk : ∀ b, b < w.heap.size → c.v4.ownBlock ≠ some b → b ≠ q → (w2.setCell ⟨q, 4, none⟩ (.slice (some ⟨g, 0, none⟩) (s.dp.length + 1) cp)).heap[b]? = w.heap[b]? := fun b h1 h2 h3 => (blk_setCell_other _ _ _ _ (by show b ≠ q; exact h3)).trans ((hg.block b (by omega) (fun e => h2 e.symm)).trans (hb.block b h1))
  have hvq : c.v4.ownBlock ≠ some q := fun e => own_box h.dp.out h.bx (fun e => h.ty.2.2.1 e.symm) e rfl
  have hql := h.bx.lt
  have hbx2 : Box w2 q ty [.int .i64 s.n, c.v1, c.v2, c.v3, c.v4, c.v5] := h.bx.keep ((hg.block q (by omega) (fun e => hvq e.symm)).trans (hb.block q hql))
  have hgq : g ≠ q := fun e => own_box ho hbx2 (fun e => h.ty.2.2.1 e.symm) (b := g) rfl e
  have h1 : w1.ownsRow A 34 1 c.v4 s.dp.length (slv c.D s.dp.length) := own_keep1 h.dp.out (fun b e => hb.block b (World.ownsRow.lt h.dp.out b e).2)
  have hme := (h.dp.push hb hu (fun b e i hi e2 => hnew b e (.inr (.inr (.inr (.inr (.inr (.inr (.inl ⟨i, hi, e2⟩)))))))) ho hg h1).keep (W' := (w2.setCell ⟨q, 4, none⟩ (.slice (some ⟨g, 0, none⟩) (s.dp.length + 1) cp))) (fun b e => blk_setCell_other _ _ _ _ (by
    have e : g = b := by simpa [Value.ownBlock] using e
    show b ≠ q
    omega)) (fun i hi b e => blk_setCell_other _ _ _ _ (by
    show b ≠ q
    have hL : (s.dp ++ [xs]).length = s.dp.length + 1 := by simp
    rw [hL] at hi
    split at e
    · rintro rfl
      exact hnew b e (.inl rfl)
    · exact own_box (h.dp.row i (by omega)) h.bx (fun e => h.ty.2.2.2 e.symm) e))
  have he : (w2.setCell ⟨q, 4, none⟩ (.slice (some ⟨g, 0, none⟩) (s.dp.length + 1) cp)).ownsRow A 74 3 c.v1 s.es.length (edL s.es) := own_keep1 h.e (fun b hb => hk b (World.ownsRow.lt h.e b hb).2 (fun e2 => own_apart h.e h.dp.out (by decide) e2 hb) (own_box h.e h.bx (fun e => h.ty.1 e.symm) hb))
  have hd : (w2.setCell ⟨q, 4, none⟩ (.slice (some ⟨g, 0, none⟩) (s.dp.length + 1) cp)).ownsRow A 33 2 c.v2 s.ds.length (spL s.ds) := own_keep1 h.d (fun b hb => hk b (World.ownsRow.lt h.d b hb).2 (fun e2 => own_apart h.d h.dp.out (by decide) e2 hb) (own_box h.d h.bx (fun e => h.ty.2.1 e.symm) hb))
  have hr : (w2.setCell ⟨q, 4, none⟩ (.slice (some ⟨g, 0, none⟩) (s.dp.length + 1) cp)).ownsRow A 33 2 c.v3 s.rs.length (spL s.rs) := own_keep1 h.r (fun b hb => hk b (World.ownsRow.lt h.r b hb).2 (fun e2 => own_apart h.r h.dp.out (by decide) e2 hb) (own_box h.r h.bx (fun e => h.ty.2.1 e.symm) hb))
  have hot : RRv (w2.setCell ⟨q, 4, none⟩ (.slice (some ⟨g, 0, none⟩) (s.dp.length + 1) cp)) A s.rp c.v5 c.R := h.rp.keep (fun b hb => hk b (World.ownsRow.lt h.rp.out b hb).2 (fun e2 => h.pp b e2 hb) (own_box h.rp.out h.bx (fun e => h.ty.2.2.1 e.symm) hb)) (fun i hi b hb => hk b (World.ownsRow.lt (h.rp.row i hi) b hb).2 (fun e2 => own_apart (h.rp.row i hi) h.dp.out (by decide) e2 hb) (own_box (h.rp.row i hi) h.bx (fun e => h.ty.2.2.2 e.symm) hb))
  have hpp : ∀ b, (Value.slice (some ⟨g, 0, none⟩) (s.dp.length + 1) cp).ownBlock = some b → c.v5.ownBlock ≠ some b := fun b e e2 => by
    have e : g = b := by simpa [Value.ownBlock] using e
    subst e
    have := (World.ownsRow.lt h.rp.out g e2).2
    exact hat.elim (fun e => h.pp g e e2) (fun e => by omega)
  have hpx : ∀ i j, i < (s.dp ++ [xs]).length → j < s.rp.length → ∀ b, (if i = s.dp.length then u else c.D i).ownBlock = some b → (c.R j).ownBlock ≠ some b := fun i j hi hj b e e2 => by
    have hL : (s.dp ++ [xs]).length = s.dp.length + 1 := by simp
    rw [hL] at hi
    split at e
    · exact hnew b e (.inr (.inr (.inr (.inr (.inr (.inr (.inr ⟨j, hj, e2⟩)))))))
    · exact h.px i j (by omega) hj b e e2
  refine ⟨⟨by simpa using hbx2.set 4 (.slice (some ⟨g, 0, none⟩) (s.dp.length + 1) cp), he, hd, hr, hme, hot, h.dr, hpp, hpx, h.hq, h.ty⟩, ⟨hg.os.trans hb.os, hg.tape.trans hb.tape, hg.output.trans hb.output, by simp; omega, fun b h1 h2 => hk b h1 (fun e => h2 (.inl (.inr (.inr (.inr (.inr (.inl e))))))) (fun e => h2 (.inl (.inl e)))⟩, fun b hb => ?_⟩
  rcases hb with e | e | e | e | e | e | e | e
  · exact .inl (.inl e)
  · exact .inl (.inr (.inl e))
  · exact .inl (.inr (.inr (.inl e)))
  · exact .inl (.inr (.inr (.inr (.inl e))))
  · have e : g = b := by simpa [Value.ownBlock] using e
    subst e
    exact hat.elim (fun e => .inl (.inr (.inr (.inr (.inr (.inl e)))))) (fun e => .inr (.inr e))
  · exact .inl (.inr (.inr (.inr (.inr (.inr (.inl e))))))
  · obtain ⟨i, hi, e⟩ := e
    have hL : (s.dp ++ [xs]).length = s.dp.length + 1 := by simp
    rw [hL] at hi
    dsimp only at e
    split at e
    · exact .inr (.inl e)
    · exact .inl (.inr (.inr (.inr (.inr (.inr (.inr (.inl ⟨i, by omega, e⟩)))))))
  · exact .inl (.inr (.inr (.inr (.inr (.inr (.inr (.inr e)))))))

theorem Co.pushRp {w w1 w2 : World} {A q ty g cp : Nat} {s : Sw} {c : CV} {u : Value} {xs : List Nat} (h : Co w A q ty s c) (hb : Below w.heap.size w w1) (hu : w1.ownsRow A 3 1 u xs.length (nums xs)) (hnew : ∀ b, u.ownBlock = some b → ¬ c.B q s b)
    (ho : w2.ownsRow A 34 1 (.slice (some ⟨g, 0, none⟩) (s.rp.length + 1) cp) (s.rp.length + 1) (slv c.R s.rp.length ++ [u])) (hg : w1.grownBy w2 c.v5.ownBlock) (hat : c.v5.ownBlock = some g ∨ w.heap.size ≤ g) :
    St A q ty w s c (w2.setCell ⟨q, 5, none⟩ (.slice (some ⟨g, 0, none⟩) (s.rp.length + 1) cp)) { s with rp := s.rp ++ [xs] } { c with v5 := .slice (some ⟨g, 0, none⟩) (s.rp.length + 1) cp, R := fun i => if i = s.rp.length then u else c.R i } (fun _ => False) (fun b => u.ownBlock = some b) := by
  have hs1 := hb.size
  have hs2 := hg.size
  have hk : ∀ b, b < w.heap.size → c.v5.ownBlock ≠ some b → b ≠ q → (w2.setCell ⟨q, 5, none⟩ (.slice (some ⟨g, 0, none⟩) (s.rp.length + 1) cp)).heap[b]? = w.heap[b]? := fun b h1 h2 h3 => (blk_setCell_other _ _ _ _ (by show b ≠ q; exact h3)).trans ((hg.block b (by omega) (fun e => h2 e.symm)).trans (hb.block b h1))
  have hvq : c.v5.ownBlock ≠ some q := fun e => own_box h.rp.out h.bx (fun e => h.ty.2.2.1 e.symm) e rfl
  have hql := h.bx.lt
  have hbx2 : Box w2 q ty [.int .i64 s.n, c.v1, c.v2, c.v3, c.v4, c.v5] := h.bx.keep ((hg.block q (by omega) (fun e => hvq e.symm)).trans (hb.block q hql))
  have hgq : g ≠ q := fun e => own_box ho hbx2 (fun e => h.ty.2.2.1 e.symm) (b := g) rfl e
  have h1 : w1.ownsRow A 34 1 c.v5 s.rp.length (slv c.R s.rp.length) := own_keep1 h.rp.out (fun b e => hb.block b (World.ownsRow.lt h.rp.out b e).2)
  have hme := (h.rp.push hb hu (fun b e i hi e2 => hnew b e (.inr (.inr (.inr (.inr (.inr (.inr (.inr ⟨i, hi, e2⟩)))))))) ho hg h1).keep (W' := (w2.setCell ⟨q, 5, none⟩ (.slice (some ⟨g, 0, none⟩) (s.rp.length + 1) cp))) (fun b e => blk_setCell_other _ _ _ _ (by
    have e : g = b := by simpa [Value.ownBlock] using e
    show b ≠ q
    omega)) (fun i hi b e => blk_setCell_other _ _ _ _ (by
    show b ≠ q
    have hL : (s.rp ++ [xs]).length = s.rp.length + 1 := by simp
    rw [hL] at hi
    split at e
    · rintro rfl
      exact hnew b e (.inl rfl)
    · exact own_box (h.rp.row i (by omega)) h.bx (fun e => h.ty.2.2.2 e.symm) e))
  have he : (w2.setCell ⟨q, 5, none⟩ (.slice (some ⟨g, 0, none⟩) (s.rp.length + 1) cp)).ownsRow A 74 3 c.v1 s.es.length (edL s.es) := own_keep1 h.e (fun b hb => hk b (World.ownsRow.lt h.e b hb).2 (fun e2 => own_apart h.e h.rp.out (by decide) e2 hb) (own_box h.e h.bx (fun e => h.ty.1 e.symm) hb))
  have hd : (w2.setCell ⟨q, 5, none⟩ (.slice (some ⟨g, 0, none⟩) (s.rp.length + 1) cp)).ownsRow A 33 2 c.v2 s.ds.length (spL s.ds) := own_keep1 h.d (fun b hb => hk b (World.ownsRow.lt h.d b hb).2 (fun e2 => own_apart h.d h.rp.out (by decide) e2 hb) (own_box h.d h.bx (fun e => h.ty.2.1 e.symm) hb))
  have hr : (w2.setCell ⟨q, 5, none⟩ (.slice (some ⟨g, 0, none⟩) (s.rp.length + 1) cp)).ownsRow A 33 2 c.v3 s.rs.length (spL s.rs) := own_keep1 h.r (fun b hb => hk b (World.ownsRow.lt h.r b hb).2 (fun e2 => own_apart h.r h.rp.out (by decide) e2 hb) (own_box h.r h.bx (fun e => h.ty.2.1 e.symm) hb))
  have hot : RRv (w2.setCell ⟨q, 5, none⟩ (.slice (some ⟨g, 0, none⟩) (s.rp.length + 1) cp)) A s.dp c.v4 c.D := h.dp.keep (fun b hb => hk b (World.ownsRow.lt h.dp.out b hb).2 (fun e2 => h.pp b hb e2) (own_box h.dp.out h.bx (fun e => h.ty.2.2.1 e.symm) hb)) (fun i hi b hb => hk b (World.ownsRow.lt (h.dp.row i hi) b hb).2 (fun e2 => own_apart (h.dp.row i hi) h.rp.out (by decide) e2 hb) (own_box (h.dp.row i hi) h.bx (fun e => h.ty.2.2.2 e.symm) hb))
  have hpp : ∀ b, c.v4.ownBlock = some b → (Value.slice (some ⟨g, 0, none⟩) (s.rp.length + 1) cp).ownBlock ≠ some b := fun b e2 e => by
    have e : g = b := by simpa [Value.ownBlock] using e
    subst e
    have := (World.ownsRow.lt h.dp.out g e2).2
    exact hat.elim (fun e => h.pp g e2 e) (fun e => by omega)
  have hpx : ∀ i j, i < s.dp.length → j < (s.rp ++ [xs]).length → ∀ b, (c.D i).ownBlock = some b → (if j = s.rp.length then u else c.R j).ownBlock ≠ some b := fun i j hi hj b e2 e => by
    have hL : (s.rp ++ [xs]).length = s.rp.length + 1 := by simp
    rw [hL] at hj
    split at e
    · exact hnew b e (.inr (.inr (.inr (.inr (.inr (.inr (.inl ⟨i, hi, e2⟩)))))))
    · exact h.px i j hi (by omega) b e2 e
  refine ⟨⟨by simpa using hbx2.set 5 (.slice (some ⟨g, 0, none⟩) (s.rp.length + 1) cp), he, hd, hr, hot, hme, h.dr, hpp, hpx, h.hq, h.ty⟩, ⟨hg.os.trans hb.os, hg.tape.trans hb.tape, hg.output.trans hb.output, by simp; omega, fun b h1 h2 => hk b h1 (fun e => h2 (.inl (.inr (.inr (.inr (.inr (.inr (.inl e)))))))) (fun e => h2 (.inl (.inl e)))⟩, fun b hb => ?_⟩
  rcases hb with e | e | e | e | e | e | e | e
  · exact .inl (.inl e)
  · exact .inl (.inr (.inl e))
  · exact .inl (.inr (.inr (.inl e)))
  · exact .inl (.inr (.inr (.inr (.inl e))))
  · exact .inl (.inr (.inr (.inr (.inr (.inl e)))))
  · have e : g = b := by simpa [Value.ownBlock] using e
    subst e
    exact hat.elim (fun e => .inl (.inr (.inr (.inr (.inr (.inr (.inl e))))))) (fun e => .inr (.inr e))
  · exact .inl (.inr (.inr (.inr (.inr (.inr (.inr (.inl e)))))))
  · obtain ⟨i, hi, e⟩ := e
    have hL : (s.rp ++ [xs]).length = s.rp.length + 1 := by simp
    rw [hL] at hi
    dsimp only at e
    split at e
    · exact .inr (.inl e)
    · exact .inl (.inr (.inr (.inr (.inr (.inr (.inr (.inr ⟨i, by omega, e⟩)))))))
end Go.Proofs.Ytledclkmeikgdaa
