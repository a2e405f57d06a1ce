import Derived.Test.YtjpjjfgdgieapaaDoorRa
import Derived.Test.YtjpjjfgdgieapaaDoorUf
import Derived.Test.YtjpjjfgdgieapaaDoorUa
import Derived.Test.YtjpjjfgdgieapaaDoorLb
import Derived.Test.YtjpjjfgdgieapaaDoorLw
/-! A struct in a block of its own whose rows grow. -/
namespace Go.Proofs.YtjpjjfgdgieapaaDoor
open Go.RowKit Go.Deep
set_option linter.unusedVariables false
set_option maxRecDepth 100000
set_option linter.unusedSimpArgs false

/-- A box, as a row of one. -/
def bx (T k g : Nat) (cs : List Value) : Ent := ⟨T, k, .slice (some ⟨g, 0, none⟩) 1 1, 1, cs⟩
theorem Own.box {w : World} {B T k : Nat} {es : List Ent} (h : Own w B es) (cs : Array Value) (hB : B ≤ w.heap.size) (hk : cs.size = 1 * k) : Own (w.alloc (.cells cs T)) B (bx T k w.heap.size cs.toList :: es) :=
  h.add (bel_alloc _ _) (by
    show World.ownsRow _ _ _ _ _ _ _
    exact World.ownsRow_lit (base := B) (e := T) (size := k) w cs 1 hB (by unfold maxLen; omega) hk) (fun b hb => by
    have : w.heap.size = b := by simpa [bx, Value.ownBlock] using hb
    omega)
theorem bx_cell {w : World} {B T k g : Nat} {cs : List Value} (h : (bx T k g cs).ok w B) {i : Nat} {u : Value} (hi : cs[i]? = some u) : w.cell? ⟨g, i, none⟩ = some u := by
  have h' : w.ownsRow B T k (.slice (some ⟨g, 0, none⟩) 1 1) 1 cs := h
  obtain ⟨a, cap, g', e, _, _, ha, hc⟩ := own_cell h'
  obtain ⟨e2, _⟩ := ha (by omega)
  injection e with e1
  rw [e2] at e1
  injection e1 with e1
  injection e1 with e1
  subst e1
  exact hc i u hi

theorem perm_out {α : Type} (cols rows : List α) (j : Nat) (hj : j < cols.length) : (cols ++ rows).Perm (cols[j] :: (cols.eraseIdx j ++ rows)) := by
  have h1 : cols = cols.take j ++ cols[j] :: cols.drop (j + 1) := by rw [← List.drop_eq_getElem_cons hj, List.take_append_drop]
  have h3 : (cols.take j ++ cols[j] :: cols.drop (j + 1)) ++ rows = cols ++ rows := by rw [← h1]
  have h2 : (cols ++ rows) = cols.take j ++ cols[j] :: (cols.drop (j + 1) ++ rows) := by
    rw [← h3, List.append_assoc, List.cons_append]
  rw [h2, List.eraseIdx_eq_take_drop_succ, List.append_assoc]
  exact List.perm_middle
theorem perm_in {α : Type} (cols rows : List α) (j : Nat) (hj : j < cols.length) (e : α) : (e :: (cols.eraseIdx j ++ rows)).Perm (cols.set j e ++ rows) := by
  have h1 : cols.set j e = cols.take j ++ e :: cols.drop (j + 1) := by rw [List.set_eq_take_append_cons_drop, if_pos hj]
  rw [h1, List.eraseIdx_eq_take_drop_succ, List.append_assoc, List.append_assoc, List.cons_append]
  exact List.perm_middle.symm
/-- A field is put anew. -/
theorem Own.fld {W : World} {B T k g : Nat} {us : List Value} {es : List Ent} (h : Own W B (bx T k g us :: es)) (j : Nat) (v : Value) (hj : j < us.length) : Own (W.setCell ⟨g, j, none⟩ v) B (bx T k g (us.set j v) :: es) := by
  have h0 : W.ownsRow B T k (.slice (some ⟨g, 0, none⟩) 1 1) 1 us := h.ok _ (List.mem_cons_self ..)
  refine h.grow (grown_set W g j v) ?_ (fun q hq => .inl hq)
  show World.ownsRow _ B T k (.slice (some ⟨g, 0, none⟩) 1 1) 1 (us.set j v)
  obtain ⟨g1, cap, f, e1, hB, hnc, hcm, hr⟩ := own_row h0 (by omega)
  have e2 : g1 = g ∧ cap = 1 := by
    injection e1 with e3 e4 e5
    injection e3 with e3
    injection e3 with e3
    exact ⟨e3.symm, e5.symm⟩
  obtain ⟨rfl, rfl⟩ := e2
  refine row_own (World.rowIs.set hr j v) hB (Nat.le_refl _) hcm (by rw [List.length_set]; exact h0.1) (fun i hi => ?_)
  have hl : us.length = 1 * k := h0.1
  have hi2 : i < us.length := by omega
  by_cases e : i = j
  · subst e; simp [hi2]
  · rw [List.getElem?_set_ne (fun h => e h.symm), if_neg e]
    obtain ⟨c, q1, q2, q3⟩ := hr
    obtain ⟨_, h3⟩ := h0
    rcases h3 with ⟨h3, _⟩ | ⟨g', cap', cur, r1, r2, r3, r4, r5, r6, r7⟩
    · cases h3
    · injection r1 with s1 s2 s3
      injection s1 with s1
      injection s1 with s1
      subst s1 s3
      rw [q1] at r3
      injection r3 with r3
      injection r3 with r3
      subst r3
      have q4 := q3 i (by omega)
      have h7 := congrArg (·[i]?) r7
      have hi3 : i < 1 * k := hi
      simp only [List.getElem?_take, if_pos hi3] at h7
      rw [← h7]
      simpa using q4
theorem bx_lt {W : World} {B T k g : Nat} {us : List Value} {es : List Ent} (h : Own W B (bx T k g us :: es)) : B ≤ g ∧ g < W.heap.size := (h.ok _ (List.mem_cons_self ..)).lt g rfl
theorem bx_froz {W : World} {B T k g : Nat} {us : List Value} {es : List Ent} (h : Own W B (bx T k g us :: es)) (j : Nat) : W.frozen? ⟨g, j, none⟩ = false := by
  obtain ⟨g1, cap, f, e1, hB, hnc, hcm, hr⟩ := own_row (show W.ownsRow B T k (.slice (some ⟨g, 0, none⟩) 1 1) 1 us from h.ok _ (List.mem_cons_self ..)) (by omega)
  injection e1 with e3 e4 e5
  injection e3 with e3
  injection e3 with e3
  subst e3
  exact hr.frozen j
/-- One more in a row, and the row put into its field. -/
theorem push {w0 W : World} {B g n c : Nat} {a : Option Addr} {us cs : List Value} {es fs : List Ent} (t T : TypeId) (i : TypeInfo) (z : Value) (bytes : Nat) (ht : Tryd.prog.underlying T = some (.slice t)) (hi : Tryd.prog.info? t = some i) (hz : i.zero = some z) (hsize : i.size = 1) (hby : i.bytes = bytes) (hzs : z.cells.size = 1) (hbb : bytes ≤ 24)
    (j N M : Nat) (x : Value) (hx : x.oneCell' = true) (hO : Own W B (bx 32 7 g us :: es)) (hp : es.Perm (⟨t, 1, .slice a n c, n, cs⟩ :: fs)) (hb : Below B w0 W) (hBW : B ≤ W.heap.size) (hN : W.heap.size = N) (hM : n + 1 = M) (hn : n ≤ 100000) (hj : j < us.length) :
    ∃ a' c' w', (Builtin.append_ #[T, T] T #[.slice a n c, .slice (some ⟨N, 0, none⟩) 1 1]).run Tryd.prog (W.alloc (.cells #[x] t)) = .ok (.slice a' M c') w' ∧ (∃ u, w'.cell? ⟨g, j, none⟩ = some u) ∧ w'.frozen? ⟨g, j, none⟩ = false ∧ Own (w'.setCell ⟨g, j, none⟩ (.slice a' M c')) B (bx 32 7 g (us.set j (.slice a' M c')) :: ⟨t, 1, .slice a' M c', M, cs ++ [x]⟩ :: fs) ∧ Below B w0 (w'.setCell ⟨g, j, none⟩ (.slice a' M c')) ∧ B ≤ (w'.setCell ⟨g, j, none⟩ (.slice a' M c')).heap.size ∧ Below B w0 w' := by
  subst hN hM
  have hba := bel_alloc W (.cells #[x] t)
  have hO1 := (hO.still hba).perm (List.Perm.cons _ hp)
  have hO2 : Own (W.alloc (.cells #[x] t)) B (⟨t, 1, .slice a n c, n, cs⟩ :: bx 32 7 g us :: fs) := hO1.perm (List.Perm.swap _ _ _)
  have ho := hO2.ok _ (List.mem_cons_self ..)
  obtain ⟨g2, cap, w', hr, h2, h3, h4, h5⟩ := run_append_lies (P := Tryd.prog) (W.alloc (.cells #[x] t)) T T B t i z 1 bytes ht hi hz hsize hby hzs (by decide) (.slice a n c) n cs ho ⟨W.heap.size, 0, none⟩ 1 1 [x] rfl (al_box _ _ _) (by intro u hu; simp at hu; subst hu; exact hx) (by decide) (by unfold maxLen; omega) (by
      have : (n + 1) * bytes ≤ 100001 * 24 := Nat.mul_le_mul (by omega) hbb
      omega) (by simp; omega) _ rfl
  have hO3 : Own w' B (⟨t, 1, .slice (some ⟨g2, 0, none⟩) (n + 1) cap, n + 1, cs ++ [x]⟩ :: bx 32 7 g us :: fs) := hO2.grow h3 h2 (fun q hq => by
    have e : g2 = q := by
      simp only [Value.ownBlock, Option.some.injEq] at hq
      exact hq
    rcases h4 with h4 | h4
    · left; show (Value.slice a n c).ownBlock = some q; rw [h4, e]
    · right; rw [← e, h4]; exact Nat.le_refl _)
  have hO4 : Own w' B (bx 32 7 g us :: ⟨t, 1, .slice (some ⟨g2, 0, none⟩) (n + 1) cap, n + 1, cs ++ [x]⟩ :: fs) := hO3.perm (List.Perm.swap _ _ _)
  have hgB := bx_lt hO4
  have hb1 : Below B w0 w' := (hb.trans (hba.mono hBW)).grown h3 (by simp; omega) (fun q hq => (ho.lt q hq).1)
  have hb2 : Below g w' (w'.setCell ⟨g, j, none⟩ (.slice (some ⟨g2, 0, none⟩) (n + 1) cap)) := ⟨rfl, rfl, rfl, by simp, fun q hq => blk_setCell_other _ _ _ _ (by show q ≠ g; omega)⟩
  obtain ⟨u, hu⟩ : ∃ u, us[j]? = some u := ⟨_, List.getElem?_eq_getElem hj⟩
  have hsz := h3.size
  simp at hsz
  exact ⟨_, cap, w', hr, ⟨u, bx_cell (hO4.ok _ (List.mem_cons_self ..)) hu⟩, bx_froz hO4 j, hO4.fld j _ hj, hb1.trans (hb2.mono hgB.1), by simp; omega, hb1⟩
end Go.Proofs.YtjpjjfgdgieapaaDoor

/-! Facts while they are gathered. -/
namespace Go.Proofs.YtjpjjfgdgieapaaDoor
open Go.RowKit Go.Deep
set_option linter.unusedVariables false
set_option maxRecDepth 100000
set_option linter.unusedSimpArgs false

theorem step_append_run {P : Program} {ops : Array Oper} {o : Oper} {a : Act} {w : World} {K : Act → World → Prop} {Q : Exit → Act → World → Prop} {E : Prop} (hg : o.guard = none) (s x : Operand) (t u : TypeId) (hop : o.op = Op.call { callee := Callee.builtin Builtin.append, args := #[s, x], argTypes := #[t, u] })
    {v xv v' : Value} {w' : World} (hs : a.eval s = v) (hx : a.eval x = xv) (hr : (Builtin.append_ #[t, u] o.type #[v, xv]).run P w = .ok v' w') (hK : K (a.put o.dst v') w') : if Region.wanted o (yielded ops a.tmps) = true then Oper.wp P o a w K Q else E := by
  have hw : Region.wanted o (yielded ops a.tmps) = true := by simp [Region.wanted, hg]
  rw [if_pos hw]
  unfold Oper.wp
  simp [execOp, hop, resolve, invoke, builtin, hs, hx, hr, Result.andThen]
  exact hK
/-- A column: the type of its elements, and what is there. -/
def colE : List (TypeId × List Value) → List Value → List Ent
  | p :: cs, v :: us => ⟨p.1, 1, v, p.2.length, p.2⟩ :: colE cs us
  | _, _ => []
theorem colE_len : ∀ (cs : List (TypeId × List Value)) (us : List Value), us.length = cs.length → (colE cs us).length = cs.length
  | [], _, _ => by simp [colE]
  | p :: cs, [], h => by simp at h
  | p :: cs, v :: us, h => by simp [colE, colE_len cs us (by simpa using h)]
theorem colE_get : ∀ (cs : List (TypeId × List Value)) (us : List Value) (h : us.length = cs.length) (j : Nat) (hj : j < cs.length), (colE cs us)[j]'(by rw [colE_len cs us h]; exact hj) = ⟨cs[j].1, 1, us[j], cs[j].2.length, cs[j].2⟩
  | [], _, _, j, hj => absurd hj (Nat.not_lt_zero _)
  | p :: cs, [], h, _, _ => by simp at h
  | p :: cs, v :: us, h, 0, _ => by simp [colE]
  | p :: cs, v :: us, h, j + 1, hj => by
    simp only [colE, List.getElem_cons_succ]
    exact colE_get cs us (by simpa using h) j (by simpa using hj)
theorem colE_set : ∀ (cs : List (TypeId × List Value)) (us : List Value) (h : us.length = cs.length) (j : Nat) (t : TypeId) (xs : List Value) (v : Value), colE (cs.set j (t, xs)) (us.set j v) = (colE cs us).set j ⟨t, 1, v, xs.length, xs⟩
  | [], us, h, j, t, xs, v => by simp [colE]
  | p :: cs, [], h, _, _, _, _ => by simp at h
  | p :: cs, u :: us, h, 0, t, xs, v => by simp [colE]
  | p :: cs, u :: us, h, j + 1, t, xs, v => by
    simp only [List.set_cons_succ, colE]
    rw [colE_set cs us (by simpa using h) j t xs v]
structure FSu (w1 : World) (B g : Nat) (us : List Value) (cs : List (TypeId × List Value)) (rows : List Ent) (W : World) : Prop where
  bel : Below B w1 W
  bz : B ≤ W.heap.size
  len : us.length = cs.length
  frm : ∀ v ∈ us, ∃ a n c, v = .slice a n c
  own : Own W B (bx 32 7 g us :: (colE cs us ++ rows))
theorem FSu.still {w1 W W' : World} {B g : Nat} {us : List Value} {cs : List (TypeId × List Value)} {rows : List Ent} (h : FSu w1 B g us cs rows W) (hb : Below W.heap.size W W') : FSu w1 B g us cs rows W' :=
  ⟨h.bel.trans (hb.mono h.bz), Nat.le_trans h.bz hb.size, h.len, h.frm, h.own.still hb⟩
theorem FSu.at {w1 W : World} {B g : Nat} {us : List Value} {cs : List (TypeId × List Value)} {rows : List Ent} (h : FSu w1 B g us cs rows W) {j : Nat} (hj : j < us.length) : W.cell? ⟨g, j, none⟩ = some us[j] :=
  bx_cell (h.own.ok _ (List.mem_cons_self ..)) (List.getElem?_eq_getElem hj)
/-- A row more, that lies beyond. -/
theorem FSu.add {w1 W W' : World} {B g : Nat} {us : List Value} {cs : List (TypeId × List Value)} {rows : List Ent} (h : FSu w1 B g us cs rows W) (hb : Below W.heap.size W W') {e : Ent} (ho : e.ok W' W.heap.size) : FSu w1 B g us cs (e :: rows) W' := by
  have h2 := h.still hb
  refine ⟨h2.bel, h2.bz, h2.len, h2.frm, ?_⟩
  have ho' : e.ok W' B := by
    obtain ⟨h3, h4⟩ := ho
    refine ⟨h3, ?_⟩
    rcases h4 with h4 | ⟨g', cap, cur, e1, e2, e3⟩
    · exact .inl h4
    · exact .inr ⟨g', cap, cur, e1, Nat.le_trans h.bz e2, e3⟩
  have h5 := h.own.add hb ho' (fun q hq => (ho.lt q hq).1)
  refine h5.perm ?_
  refine (List.Perm.swap _ _ _).trans (List.Perm.cons _ ?_)
  exact List.perm_middle.symm
theorem FSu.push {w1 W : World} {B g : Nat} {us : List Value} {cs : List (TypeId × List Value)} {rows : List Ent} (h : FSu w1 B g us cs rows W) (j : Nat) (hj : j < cs.length) (t T : TypeId) (xs : List Value) (hc : cs[j] = (t, xs)) (i : TypeInfo) (z : Value) (bytes : Nat) (ht : Tryd.prog.underlying T = some (.slice t)) (hi : Tryd.prog.info? t = some i) (hz : i.zero = some z) (hsize : i.size = 1) (hby : i.bytes = bytes) (hzs : z.cells.size = 1) (hbb : bytes ≤ 24)
    (N : Nat) (x : Value) (hx : x.oneCell' = true) (hN : W.heap.size = N) (hn : xs.length ≤ 100000) (u : Value) (hu : us[j]? = some u) :
    ∃ a' c' n' w', (Builtin.append_ #[T, T] T #[u, .slice (some ⟨N, 0, none⟩) 1 1]).run Tryd.prog (W.alloc (.cells #[x] t)) = .ok (.slice a' n' c') w' ∧ (∃ y, w'.cell? ⟨g, j, none⟩ = some y) ∧ w'.frozen? ⟨g, j, none⟩ = false ∧ FSu w1 B g (us.set j (.slice a' n' c')) (cs.set j (t, xs ++ [x])) rows (w'.setCell ⟨g, j, none⟩ (.slice a' n' c')) ∧ Below B w1 w' := by
  have hju : j < us.length := by rw [h.len]; exact hj
  have hjc : j < (colE cs us).length := by rw [colE_len cs us h.len]; exact hj
  have hue : us[j] = u := by rw [List.getElem?_eq_getElem hju] at hu; injection hu
  obtain ⟨a, n, c, e1⟩ := h.frm us[j] (List.getElem_mem hju)
  have e2 := colE_get cs us h.len j hj
  rw [hc, e1] at e2
  have hok : (colE cs us)[j].ok W B := h.own.ok _ (List.mem_cons_of_mem _ (List.mem_append_left _ (List.getElem_mem hjc)))
  have hnx : n = xs.length := by
    have h3 := hok
    rw [e2] at h3
    obtain ⟨_, _, _, e3, _⟩ := own_cell (show W.ownsRow B t 1 (.slice a n c) xs.length xs from h3)
    injection e3
  subst hnx
  obtain ⟨a', c', w', h1, h2, h3, h4, h5, h6, h7⟩ := Go.Proofs.YtjpjjfgdgieapaaDoor.push (fs := (colE cs us).eraseIdx j ++ rows) (a := a) (c := c) (n := xs.length) (cs := xs) t T i z bytes ht hi hz hsize hby hzs hbb j N (xs.length + 1) x hx h.own (by
    have := perm_out (colE cs us) rows j hjc
    rw [e2] at this
    exact this) h.bel h.bz hN rfl hn hju
  rw [hue] at e1
  rw [e1]
  refine ⟨a', c', xs.length + 1, w', h1, h2, h3, ⟨h5, h6, by rw [List.length_set, List.length_set]; exact h.len, fun v hv => ?_, ?_⟩, h7⟩
  · rcases List.mem_or_eq_of_mem_set hv with hv | rfl
    · exact h.frm v hv
    · exact ⟨_, _, _, rfl⟩
  · rw [colE_set cs us h.len]
    have := h4.perm (List.Perm.cons _ (perm_in (colE cs us) rows j hjc _))
    have hl : (xs ++ [x]).length = xs.length + 1 := by simp
    rw [hl]
    exact this
theorem info4i : (Tryd.prog.info? 4).map (fun i => (i.zero, i.size, i.bytes)) = some (some (.bool false), 1, 1) := by kernel_rfl
theorem FSu.push4 {w1 W : World} {B g : Nat} {us : List Value} {cs : List (TypeId × List Value)} {rows : List Ent} (h : FSu w1 B g us cs rows W) (j : Nat) (hj : j < cs.length) (xs : List Value) (hc : cs[j] = (4, xs)) (N : Nat) (x : Bool) (hN : W.heap.size = N) (hn : xs.length ≤ 100000) (u : Value) (hu : us[j]? = some u) :
    ∃ a' c' n' w', (Builtin.append_ #[28, 28] 28 #[u, .slice (some ⟨N, 0, none⟩) 1 1]).run Tryd.prog (W.alloc (.cells #[.bool x] 4)) = .ok (.slice a' n' c') w' ∧ (∃ y, w'.cell? ⟨g, j, none⟩ = some y) ∧ w'.frozen? ⟨g, j, none⟩ = false ∧ FSu w1 B g (us.set j (.slice a' n' c')) (cs.set j (4, xs ++ [.bool x])) rows (w'.setCell ⟨g, j, none⟩ (.slice a' n' c')) ∧ Below B w1 w' := by
  obtain ⟨i, hi, hzz⟩ := Option.map_eq_some_iff.1 info4i
  simp only [Prod.mk.injEq] at hzz
  obtain ⟨hz0, hz1, hz2⟩ := hzz
  exact h.push j hj 4 28 xs hc i _ 1 Tryd.underlying28 hi hz0 hz1 hz2 rfl (by omega) N _ rfl hN hn u hu
theorem FSu.push3 {w1 W : World} {B g : Nat} {us : List Value} {cs : List (TypeId × List Value)} {rows : List Ent} (h : FSu w1 B g us cs rows W) (j : Nat) (hj : j < cs.length) (xs : List Value) (hc : cs[j] = (3, xs)) (N : Nat) (x : Int) (hN : W.heap.size = N) (hn : xs.length ≤ 100000) (u : Value) (hu : us[j]? = some u) :
    ∃ a' c' n' w', (Builtin.append_ #[29, 29] 29 #[u, .slice (some ⟨N, 0, none⟩) 1 1]).run Tryd.prog (W.alloc (.cells #[.int .i64 x] 3)) = .ok (.slice a' n' c') w' ∧ (∃ y, w'.cell? ⟨g, j, none⟩ = some y) ∧ w'.frozen? ⟨g, j, none⟩ = false ∧ FSu w1 B g (us.set j (.slice a' n' c')) (cs.set j (3, xs ++ [.int .i64 x])) rows (w'.setCell ⟨g, j, none⟩ (.slice a' n' c')) ∧ Below B w1 w' := by
  obtain ⟨i, hi, hzz⟩ := Option.map_eq_some_iff.1 info3i
  simp only [Prod.mk.injEq] at hzz
  obtain ⟨hz0, hz1, hz2⟩ := hzz
  exact h.push j hj 3 29 xs hc i _ 8 Tryd.underlying29 hi hz0 hz1 hz2 rfl (by omega) N _ rfl hN hn u hu
theorem FSu.push29 {w1 W : World} {B g : Nat} {us : List Value} {cs : List (TypeId × List Value)} {rows : List Ent} (h : FSu w1 B g us cs rows W) (j : Nat) (hj : j < cs.length) (xs : List Value) (hc : cs[j] = (29, xs)) (N : Nat) (xa : Option Addr) (xn xc : Nat) (hN : W.heap.size = N) (hn : xs.length ≤ 100000) (u : Value) (hu : us[j]? = some u) :
    ∃ a' c' n' w', (Builtin.append_ #[30, 30] 30 #[u, .slice (some ⟨N, 0, none⟩) 1 1]).run Tryd.prog (W.alloc (.cells #[.slice xa xn xc] 29)) = .ok (.slice a' n' c') w' ∧ (∃ y, w'.cell? ⟨g, j, none⟩ = some y) ∧ w'.frozen? ⟨g, j, none⟩ = false ∧ FSu w1 B g (us.set j (.slice a' n' c')) (cs.set j (29, xs ++ [.slice xa xn xc])) rows (w'.setCell ⟨g, j, none⟩ (.slice a' n' c')) ∧ Below B w1 w' := by
  obtain ⟨i, hi, hzz⟩ := Option.map_eq_some_iff.1 info29
  simp only [Prod.mk.injEq] at hzz
  obtain ⟨hz0, hz1, hz2⟩ := hzz
  exact h.push j hj 29 30 xs hc i _ 24 Tryd.underlying30 hi hz0 hz1 hz2 rfl (by omega) N _ rfl hN hn u hu
/-- Empty, in a box that is made now. -/
theorem FSu.new (w1 : World) (cs : List (TypeId × List Value)) (hcs : cs.length = 7) (h0 : ∀ p ∈ cs, p.2 = []) : FSu w1 w1.heap.size w1.heap.size (List.replicate 7 (.slice none 0 0)) cs [] (w1.alloc (.cells #[.slice none 0 0, .slice none 0 0, .slice none 0 0, .slice none 0 0, .slice none 0 0, .slice none 0 0, .slice none 0 0] 32)) := by
  refine ⟨bel_alloc _ _, by simp, by rw [hcs]; rfl, fun v hv => ⟨none, 0, 0, List.eq_of_mem_replicate hv⟩, ?_⟩
  have hb : Own w1 w1.heap.size (colE cs (List.replicate 7 (.slice none 0 0)) ++ []) := by
    have key : ∀ (cs : List (TypeId × List Value)) (m : Nat), (∀ p ∈ cs, p.2 = []) → Own w1 w1.heap.size (colE cs (List.replicate m (.slice none 0 0))) := by
      intro cs
      induction cs with
      | nil => intro m _; cases m <;> exact Own.nil _ _
      | cons p cs ih =>
        intro m hp
        cases m with
        | zero => exact Own.nil _ _
        | succ m =>
          have h1 := ih m (fun q hq => hp q (List.mem_cons_of_mem _ hq))
          refine h1.add (Below.refl _ _) ?_ (fun k hk => by simp [Value.ownBlock] at hk)
          show World.ownsRow _ _ _ _ _ _ _
          rw [hp p (List.mem_cons_self ..)]
          exact World.ownsRow_nil _ _ _ _
    rw [List.append_nil]
    exact key cs 7 h0
  exact hb.box _ (Nat.le_refl _) (by rfl)
end Go.Proofs.YtjpjjfgdgieapaaDoor

/-! The program: facts, the gathering. -/
namespace Go.Proofs.YtjpjjfgdgieapaaDoor
open Go.RowKit Go.Deep
set_option linter.unusedVariables false
set_option maxRecDepth 100000
set_option linter.unusedSimpArgs false

theorem FSu.rperm {w1 W : World} {B g : Nat} {us : List Value} {cs : List (TypeId × List Value)} {rows rows' : List Ent} (h : FSu w1 B g us cs rows W) (hp : rows.Perm rows') : FSu w1 B g us cs rows' W :=
  ⟨h.bel, h.bz, h.len, h.frm, h.own.perm (List.Perm.cons _ (List.Perm.append_left _ hp))⟩
/-- What is gathered of the first k Nons. -/
def colF (d : Bn) (L : List Int) (Rr WB : List Nat) (k : Nat) (RF RO : List (Value × List Int)) : List (TypeId × List Value) :=
  [(4, (List.range k).map (fun i => Value.bool (Lf L (d.terms.length + i) == 0))), (4, (List.range k).map (fun i => Value.bool (Lf L (d.terms.length + i) != -1))), (4, (List.range k).map (fun i => Value.bool (mem Rr 0 (d.terms.length + i)))), (4, (List.range k).map (fun i => Value.bool (mem WB (d.terms.length + i) (d.terms.length + i)))), (3, (List.range k).map (fun i => Value.int .i64 (Lf L (d.terms.length + i)))), (29, RF.map (·.1)), (29, RO.map (·.1))]
/-- What lies ahead of the gathering. -/
structure GaH (d : Bn) (L : List Int) (N gs bs tb bB bF bO : Nat) (v0 v1 vo v3 : Value) (Rr WB WF WO : List Nat) (wA : World) : Prop where
  st : St wA gs bs v0 v1 vo v3 L
  hL : L.length = N
  hN : N = d.terms.length + d.nons.length
  n160 : N ≤ 160
  rr : WRow wA tb Rr
  rrl : Rr.length = 3
  rrt : ∀ i, Rr.getD i 0 < 2 ^ 64
  wb : WRow wA bB WB
  wbl : WB.length = N * 3
  wbt : ∀ i, WB.getD i 0 < 2 ^ 64
  wf : WRow wA bF WF
  wfl : WF.length = N * 3
  wft : ∀ i, WF.getD i 0 < 2 ^ 64
  wo : WRow wA bO WO
  wol : WO.length = N * 3
  wot : ∀ i, WO.getD i 0 < 2 ^ 64
  tz : Tz wA
theorem GaH.keep {d : Bn} {L : List Int} {N gs bs tb bB bF bO : Nat} {v0 v1 vo v3 : Value} {Rr WB WF WO : List Nat} {wA W : World} (h : GaH d L N gs bs tb bB bF bO v0 v1 vo v3 Rr WB WF WO wA) (hb : ∀ q, q < wA.heap.size → W.heap[q]? = wA.heap[q]?) : GaH d L N gs bs tb bB bF bO v0 v1 vo v3 Rr WB WF WO W :=
  ⟨⟨h.st.box.keep (hb _ h.st.box.lt), World.rowIs.of_block h.st.row (hb _ (World.rowIs.lt h.st.row)), h.st.ne⟩, h.hL, h.hN, h.n160, World.rowIs.of_block h.rr (hb _ (World.rowIs.lt h.rr)), h.rrl, h.rrt, World.rowIs.of_block h.wb (hb _ (World.rowIs.lt h.wb)), h.wbl, h.wbt, World.rowIs.of_block h.wf (hb _ (World.rowIs.lt h.wf)), h.wfl, h.wft, World.rowIs.of_block h.wo (hb _ (World.rowIs.lt h.wo)), h.wol, h.wot, fun j hj => (World.cell?_of_block (hb _ h.tz.lt)).trans (h.tz j hj)⟩
theorem has_row {w : World} {b l y : Nat} {W : List Nat} (h : WRow w b W) (hl : l * 3 + 3 ≤ W.length) (hW : ∀ i, W.getD i 0 < 2 ^ 64) (hy : y < 192) : Calls Tryd.prog 71 #[.pointer (some ⟨b, l * 3, none⟩), .int .i64 (y : Nat)] w fun e w' => e = .returned (.bool (mem W l y)) ∧ w' = w := by
  have h1 := has_any b (l * 3) (fun i => W.getD (l * 3 + i) 0) (y / 64) (y % 64) (by omega) (Nat.mod_lt _ (by omega)) w (fun i hi => by
    rw [getD_lt W 0 (by omega)]
    exact h.cell (by omega)) (fun i => hW _)
  rw [Nat.div_add_mod] at h1
  exact h1
set_option maxHeartbeats 25600000 in
theorem gather (d : Bn) (L : List Int) (N gs bs tb bB bF bO : Nat) (v0 v1 vo v3 : Value) (Rr WB WF WO : List Nat) (wA : World) (hG : GaH d L N gs bs tb bB bF bO v0 v1 vo v3 Rr WB WF WO wA) : True := by
  trivial
end Go.Proofs.YtjpjjfgdgieapaaDoor
