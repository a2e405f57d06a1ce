import Derived.Deep.RegionHeld3
import Derived.Test.YtledclkmeikgdaaKc
import Derived.Test.YtledclkmeikgdaaXDs
/-! Scopes drawn: what stands while a Sg grows. -/
namespace Go.Proofs.Ytledclkmeikgdaa
open Go.RowKit Go.Deep
set_option linter.unusedVariables false
set_option maxRecDepth 100000
set_option linter.unusedSimpArgs false

theorem tkH {P : Program} {ops : Array Oper} {Q : Exit → Act → World → Prop} {md : Region.Mode} {S : World → Prop} {i : Nat} {oi : Oper} {v : Value} {fuel : Nat} {listed : Array Bool} {a : Act} {w : World} (hy : ∀ w, S w → (execOp a.eval oi).run P w = .ok (.value v) w) (hS : S w)
    (h : wpAnyH P md ops Q S fuel (listed.setIfInBounds i true) (a.put oi.dst v) w) (hi : ops[i]? = some oi := by rfl) (hw : Region.wanted oi (yielded ops a.tmps) = true := by rfl) (hs : Region.noSelect ops = true := by kernel_rfl) (hf : Region.free md ops listed i = true := by kernel_rfl) (hr : (Region.ready md ops listed).contains i = true := by kernel_rfl)
    (hQ : ∀ c a w, Q (.panic c) (a.put oi.dst v) w → Q (.panic c) a w := by exact fun _ _ _ h => h) : wpAnyH P md ops Q S (fuel + 1) listed a w :=
  wpAnyH_take hi hs hf hr hQ (.inl ⟨hw, hy⟩) hS h
abbrev TOut (c : Nat) (w w' : World) : Prop := T.Out c (c + 1) w w'
section
variable {cs : List UInt8} {a : Option Addr} {cap b off c : Nat}
theorem pickE {s : Nat × Nat} (n : Nat) (w : World) (h : T.Cur w cs a cap b off c s) (hn : n ≤ 1048576) :
    Calls Try.prog 30 #[.pointer (some ⟨c, 0, none⟩), .int .i64 (n : Nat)] w fun e w' => ∃ (q : Nat) (s' : Nat × Nat), e = .returned (.int .i64 (q : Nat)) ∧ (0 < n → q < n) ∧ T.Out c (c + 1) w w' ∧ T.Cur w' cs a cap b off c s' := by
  refine (T.pick_any n w h hn).mono ?_
  rintro e w' ⟨rfl, ho, _, hc⟩
  exact ⟨_, _, rfl, fun h => T.cPick_lt cs n s h, ho, hc⟩
/-- As a call that draws a Sg stands. -/
structure AtS (cs : List UInt8) (a : Option Addr) (cap b off c : Nat) (w W : World) : Prop where
  out : T.Out c (c + 1) w W
  bx : Box W w.heap.size 27 [.int .i64 0, .slice none 0 0, .slice none 0 0, .slice none 0 0]
  cu : ∃ s, T.Cur W cs a cap b off c s
variable {w W W' : World}
theorem AtS.new {s : Nat × Nat} (h : T.Cur w cs a cap b off c s) : AtS cs a cap b off c w (w.alloc (.cells #[.int .i64 0, .slice none 0 0, .slice none 0 0, .slice none 0 0] 27)) :=
  ⟨T.Out.of_below (bel_alloc _ _), Box.new w 27 [.int .i64 0, .slice none 0 0, .slice none 0 0, .slice none 0 0], s, h.still (bel_alloc _ _)⟩
theorem AtS.size (h : AtS cs a cap b off c w W) : w.heap.size + 1 ≤ W.heap.size := h.bx.lt
theorem AtS.still (h : AtS cs a cap b off c w W) (hb : Below W.heap.size W W') : AtS cs a cap b off c w W' := by
  obtain ⟨s, hs⟩ := h.cu
  exact ⟨h.out.trans (T.Out.of_below hb), h.bx.still hb, s, hs.still hb⟩
theorem AtS.pick {s : Nat × Nat} (h : AtS cs a cap b off c w W) (hlt : c < w.heap.size) (ho : T.Out c (c + 1) W W') (hc : T.Cur W' cs a cap b off c s) : AtS cs a cap b off c w W' :=
  ⟨h.out.trans ho, h.bx.keep (ho.2.2.2.2 _ h.bx.lt (by omega)), s, hc⟩
theorem AtS.put (h : AtS cs a cap b off c w W) (hlt : c < w.heap.size) {g : Nat} (hg : w.heap.size < g) (o : Nat) (u : Value) : AtS cs a cap b off c w (W.setCell ⟨g, o, none⟩ u) := by
  obtain ⟨s, hs⟩ := h.cu
  exact ⟨⟨h.out.1, h.out.2.1, h.out.2.2.1, by have := h.out.2.2.2.1; simp [World.setCell]; omega, fun k hk hn => (blk_setCell_other _ _ _ _ (by show k ≠ g; omega)).trans (h.out.2.2.2.2 k hk hn)⟩, h.bx.past (by omega), s, hs.keep (fun k hk => blk_setCell_other _ _ _ _ (by show k ≠ g; omega))⟩
theorem AtS.grown (h : AtS cs a cap b off c w W) (hlt : c < w.heap.size) {r : Option Nat} (hg : W.grownBy W' r) (hr : ∀ k, r = some k → w.heap.size < k) : AtS cs a cap b off c w W' := by
  obtain ⟨s, hs⟩ := h.cu
  have hz := h.size
  have hb : ∀ k, k ≤ w.heap.size → W'.heap[k]? = W.heap[k]? := fun k hk => hg.block k (by omega) (fun e => by have := hr k e.symm; omega)
  exact ⟨⟨hg.os.trans h.out.1, hg.tape.trans h.out.2.1, hg.output.trans h.out.2.2.1, Nat.le_trans h.out.2.2.2.1 hg.size, fun k hk hn => (hb k (by omega)).trans (h.out.2.2.2.2 k hk hn)⟩, h.bx.keep (hb _ (Nat.le_refl _)), s, hs.keep (fun k hk => hb k (by omega))⟩
end
theorem edC_app (l : List DSEdge) (x : DSEdge) : edC (l ++ [x]) = edC l ++ [.int .i64 x.from_, .int .i64 x.to_, .int .i64 x.kind] := by simp [edC]
theorem spC_app (l : List DSpot) (x : DSpot) : spC (l ++ [x]) = spC l ++ [.int .i64 x.scope, .string x.name] := by simp [spC]
/-- A Sg that grows: its rows are owned. -/
structure Gro (B : Nat) (W : World) (T : DSg) (v1 v2 v3 : Value) : Prop where
  e : W.ownsRow B 74 3 v1 T.edges.length (edC T.edges)
  d : W.ownsRow B 33 2 v2 T.decls.length (spC T.decls)
  r : W.ownsRow B 33 2 v3 T.refs.length (spC T.refs)
  dis : ∀ k, v2.ownBlock = some k → v3.ownBlock ≠ some k
  dn : ∀ x ∈ T.decls, x.name.size ≤ 1000
  rn : ∀ x ∈ T.refs, x.name.size ≤ 1000
  le : T.edges.length ≤ 1000 ∧ T.decls.length ≤ 1000 ∧ T.refs.length ≤ 1000
theorem Gro.nil (B : Nat) (W : World) (n : Int) : Gro B W ⟨n, [], [], []⟩ (.slice none 0 0) (.slice none 0 0) (.slice none 0 0) :=
  ⟨⟨by simp [edC], .inl ⟨rfl, rfl⟩⟩, ⟨by simp [spC], .inl ⟨rfl, rfl⟩⟩, ⟨by simp [spC], .inl ⟨rfl, rfl⟩⟩, fun k hk => (by cases hk), fun x hx => (by cases hx), fun x hx => (by cases hx), ⟨Nat.zero_le _, Nat.zero_le _, Nat.zero_le _⟩⟩
section
variable {B : Nat} {W W' : World} {T : DSg} {v1 v2 v3 : Value}
theorem Gro.keep (h : Gro B W T v1 v2 v3) (hb : ∀ k, B ≤ k → k < W.heap.size → v1.ownBlock = some k ∨ v2.ownBlock = some k ∨ v3.ownBlock = some k → W'.heap[k]? = W.heap[k]?) : Gro B W' T v1 v2 v3 :=
  ⟨own_keep1 h.e (fun k hk => hb k (World.ownsRow.lt h.e k hk).1 (World.ownsRow.lt h.e k hk).2 (.inl hk)), own_keep1 h.d (fun k hk => hb k (World.ownsRow.lt h.d k hk).1 (World.ownsRow.lt h.d k hk).2 (.inr (.inl hk))), own_keep1 h.r (fun k hk => hb k (World.ownsRow.lt h.r k hk).1 (World.ownsRow.lt h.r k hk).2 (.inr (.inr hk))), h.dis, h.dn, h.rn, h.le⟩
theorem Gro.still (h : Gro B W T v1 v2 v3) (hb : Below W.heap.size W W') : Gro B W' T v1 v2 v3 := h.keep (fun k _ hk _ => hb.block k hk)
theorem Gro.out {c : Nat} (h : Gro B W T v1 v2 v3) (ho : TOut c W W') (hc : c < B) : Gro B W' T v1 v2 v3 := h.keep (fun k h1 h2 _ => ho.2.2.2.2 k h2 (by omega))
theorem Gro.past {g ty o : Nat} {cs : List Value} {u : Value} (h : Gro B W T v1 v2 v3) (hb : Box W g ty cs) (h1 : 74 ≠ ty) (h2 : 33 ≠ ty) : Gro B (W.setCell ⟨g, o, none⟩ u) T v1 v2 v3 :=
  h.keep (fun k _ _ hk => blk_setCell_other _ _ _ _ (by
    show k ≠ g
    rcases hk with hk | hk | hk
    · exact own_box h.e hb h1 hk
    · exact own_box h.d hb h2 hk
    · exact own_box h.r hb h2 hk))
theorem Gro.low {B' : Nat} (h : Gro B W T v1 v2 v3) (hB : B' ≤ B) : Gro B' W T v1 v2 v3 := ⟨own_lowK h.e hB, own_lowK h.d hB, own_lowK h.r hB, h.dis, h.dn, h.rn, h.le⟩
theorem Gro.sc (h : Gro B W T v1 v2 v3) (n : Int) : Gro B W ⟨n, T.edges, T.decls, T.refs⟩ v1 v2 v3 := ⟨h.e, h.d, h.r, h.dis, h.dn, h.rn, h.le⟩
theorem Gro.rd (h : Gro B W T v1 v2 v3) : RdG W T v1 v2 v3 :=
  ⟨SrcR.of_own h.e, SrcR.of_own h.d, SrcR.of_own h.r, fun i hi => Nat.le_trans (h.dn _ (List.getElem_mem hi)) (by unfold maxLen; omega), fun i hi => Nat.le_trans (h.rn _ (List.getElem_mem hi)) (by unfold maxLen; omega)⟩
theorem Gro.pushE {v' : Value} (h : Gro B W T v1 v2 v3) (x : DSEdge) (ho : W'.ownsRow B 74 3 v' (T.edges.length + 1) (edC T.edges ++ [.int .i64 x.from_, .int .i64 x.to_, .int .i64 x.kind])) (hg : W.grownBy W' v1.ownBlock) (hl : T.edges.length < 1000) :
    Gro B W' ⟨T.scopes, T.edges ++ [x], T.decls, T.refs⟩ v' v2 v3 := by
  refine ⟨by rw [edC_app, List.length_append]; exact ho, own_keep1 h.d (fun k hk => hg.block k (World.ownsRow.lt h.d k hk).2 (fun e => own_apart h.d h.e (by decide) e.symm hk)), own_keep1 h.r (fun k hk => hg.block k (World.ownsRow.lt h.r k hk).2 (fun e => own_apart h.r h.e (by decide) e.symm hk)), h.dis, h.dn, h.rn, ?_⟩
  have := h.le
  simp only [List.length_append, List.length_singleton]
  omega
theorem Gro.pushD {v' : Value} (h : Gro B W T v1 v2 v3) (x : DSpot) (hx : x.name.size ≤ 1000) (ho : W'.ownsRow B 33 2 v' (T.decls.length + 1) (spC T.decls ++ [.int .i64 x.scope, .string x.name])) (hg : W.grownBy W' v2.ownBlock) (hat : v'.ownBlock = v2.ownBlock ∨ v'.ownBlock = some W.heap.size) (hl : T.decls.length < 1000) :
    Gro B W' ⟨T.scopes, T.edges, T.decls ++ [x], T.refs⟩ v1 v' v3 := by
  refine ⟨own_keep1 h.e (fun k hk => hg.block k (World.ownsRow.lt h.e k hk).2 (fun e => own_apart h.e h.d (by decide) e.symm hk)), by rw [spC_app, List.length_append]; exact ho, own_keep1 h.r (fun k hk => hg.block k (World.ownsRow.lt h.r k hk).2 (fun e => h.dis k e.symm hk)), fun k hk hk3 => ?_, fun y hy => ?_, h.rn, ?_⟩
  · have := (World.ownsRow.lt h.r k hk3).2
    rcases hat with e | e
    · rw [hk] at e; exact h.dis k e.symm hk3
    · rw [hk] at e; injection e with e; omega
  · rcases List.mem_append.1 hy with hy | hy
    · exact h.dn y hy
    · rw [List.mem_singleton] at hy; subst hy; exact hx
  · have := h.le
    simp only [List.length_append, List.length_singleton]
    omega
theorem Gro.pushR {v' : Value} (h : Gro B W T v1 v2 v3) (x : DSpot) (hx : x.name.size ≤ 1000) (ho : W'.ownsRow B 33 2 v' (T.refs.length + 1) (spC T.refs ++ [.int .i64 x.scope, .string x.name])) (hg : W.grownBy W' v3.ownBlock) (hat : v'.ownBlock = v3.ownBlock ∨ v'.ownBlock = some W.heap.size) (hl : T.refs.length < 1000) :
    Gro B W' ⟨T.scopes, T.edges, T.decls, T.refs ++ [x]⟩ v1 v2 v' := by
  refine ⟨own_keep1 h.e (fun k hk => hg.block k (World.ownsRow.lt h.e k hk).2 (fun e => own_apart h.e h.r (by decide) e.symm hk)), own_keep1 h.d (fun k hk => hg.block k (World.ownsRow.lt h.d k hk).2 (fun e => h.dis k hk e.symm)), by rw [spC_app, List.length_append]; exact ho, fun k hk hk3 => ?_, h.dn, fun y hy => ?_, ?_⟩
  · have := (World.ownsRow.lt h.d k hk).2
    rcases hat with e | e
    · rw [hk3] at e; exact h.dis k hk e.symm
    · rw [hk3] at e; injection e with e; omega
  · rcases List.mem_append.1 hy with hy | hy
    · exact h.rn y hy
    · rw [List.mem_singleton] at hy; subst hy; exact hx
  · have := h.le
    simp only [List.length_append, List.length_singleton]
    omega
theorem Gro.forms (h : Gro B W T v1 v2 v3) : ∃ a1 p1 a2 p2 a3 p3, v1 = .slice a1 T.edges.length p1 ∧ v2 = .slice a2 T.decls.length p2 ∧ v3 = .slice a3 T.refs.length p3 := by
  obtain ⟨a1, p1, e1⟩ := (SrcR.of_own h.e).form
  obtain ⟨a2, p2, e2⟩ := (SrcR.of_own h.d).form
  obtain ⟨a3, p3, e3⟩ := (SrcR.of_own h.r).form
  exact ⟨a1, p1, a2, p2, a3, p3, e1, e2, e3⟩
end
/-- Three cells, two cells, just made: a row of one. -/
theorem Rw.box3 (w : World) (e : Nat) (c0 c1 c2 : Value) : Rw (w.alloc (.cells #[c0, c1, c2] e)) e 3 w.heap.size 1 1 [c0, c1, c2] :=
  ⟨rfl, Nat.le_refl _, by unfold maxLen; omega, fun i => [c0, c1, c2].getD i .nilFunc, ⟨_, blk_alloc_new _ _, rfl, fun i hi => by
    match i, hi with
    | 0, _ => rfl
    | 1, _ => rfl
    | 2, _ => rfl⟩, fun i hi => by
    match i, hi with
    | 0, _ => rfl
    | 1, _ => rfl
    | 2, _ => rfl⟩
theorem Rw.box2 (w : World) (e : Nat) (c0 c1 : Value) : Rw (w.alloc (.cells #[c0, c1] e)) e 2 w.heap.size 1 1 [c0, c1] :=
  ⟨rfl, Nat.le_refl _, by unfold maxLen; omega, fun i => [c0, c1].getD i .nilFunc, ⟨_, blk_alloc_new _ _, rfl, fun i hi => by
    match i, hi with
    | 0, _ => rfl
    | 1, _ => rfl⟩, fun i hi => by
    match i, hi with
    | 0, _ => rfl
    | 1, _ => rfl⟩
theorem src3 (w : World) (e : Nat) (c0 c1 c2 : Value) : SrcR (w.alloc (.cells #[c0, c1, c2] e)) e 3 (.slice (some ⟨w.heap.size, 0, none⟩) 1 1) 1 [c0, c1, c2] := .inr ⟨_, _, rfl, Rw.box3 w e c0 c1 c2⟩
theorem src2 (w : World) (e : Nat) (c0 c1 : Value) : SrcR (w.alloc (.cells #[c0, c1] e)) e 2 (.slice (some ⟨w.heap.size, 0, none⟩) 1 1) 1 [c0, c1] := .inr ⟨_, _, rfl, Rw.box2 w e c0 c1⟩
theorem stepE {B : Nat} {W : World} {ops : Array Oper} {o : Oper} {a : Act} {K : Act → World → Prop} {Q : Exit → Act → World → Prop} {E : Prop} (w : World) (hgd : o.guard = none) (s x : Operand) (ho : o.op = .call { callee := .builtin .append, args := #[s, x], argTypes := #[24, 24] })
    {v : Value} {n : Nat} {xs : List Value} (hs : a.eval s = v) (hown : W.ownsRow B 74 3 v n xs) {vx : Value} {c0 c1 c2 : Int} (hx : a.eval x = vx) (hsrc : SrcR W 74 3 vx 1 [.int .i64 c0, .int .i64 c1, .int .i64 c2]) (hn : n ≤ 1000) (hB : B ≤ W.heap.size)
    (h : ∀ aN pN w', w'.ownsRow B 74 3 (.slice aN (n + 1) pN) (n + 1) (xs ++ [.int .i64 c0, .int .i64 c1, .int .i64 c2]) → W.grownBy w' v.ownBlock → ((Value.slice aN (n + 1) pN).ownBlock = v.ownBlock ∨ (Value.slice aN (n + 1) pN).ownBlock = some W.heap.size) → K (a.put o.dst (.slice aN (n + 1) pN)) w') (hw : w = W := by rfl) :
    if Region.wanted o (yielded ops a.tmps) = true then Oper.wp Try.prog o a w K Q else E := by
  subst hw
  obtain ⟨i74, hi74, hzz⟩ := Option.map_eq_some_iff.1 info74
  simp only [Prod.mk.injEq] at hzz
  obtain ⟨hy0, hy1, hy2⟩ := hzz
  refine step_appG _ hgd s x 24 ho B 74 i74 _ 3 24 Try.underlying24 hi74 hy0 hy1 hy2 rfl (by decide) _ n xs hs hown _ 1 _ hx hsrc (by intro u hu; simp at hu; rcases hu with rfl | rfl | rfl <;> rfl) (by unfold maxLen; omega) (by omega) hB ?_
  intro vN wN hown hgr hnil hat
  obtain ⟨aN, pN, eN, _⟩ := own_ne hown
  subst eN
  exact h aN pN wN hown hgr hat
theorem stepS {B : Nat} {W : World} {ops : Array Oper} {o : Oper} {a : Act} {K : Act → World → Prop} {Q : Exit → Act → World → Prop} {E : Prop} (w : World) (hgd : o.guard = none) (s x : Operand) (ho : o.op = .call { callee := .builtin .append, args := #[s, x], argTypes := #[25, 25] })
    {v : Value} {n : Nat} {xs : List Value} (hs : a.eval s = v) (hown : W.ownsRow B 33 2 v n xs) {vx : Value} {c0 : Int} {y : ByteArray} (hx : a.eval x = vx) (hsrc : SrcR W 33 2 vx 1 [.int .i64 c0, .string y]) (hn : n ≤ 1000) (hB : B ≤ W.heap.size)
    (h : ∀ aN pN w', w'.ownsRow B 33 2 (.slice aN (n + 1) pN) (n + 1) (xs ++ [.int .i64 c0, .string y]) → W.grownBy w' v.ownBlock → ((Value.slice aN (n + 1) pN).ownBlock = v.ownBlock ∨ (Value.slice aN (n + 1) pN).ownBlock = some W.heap.size) → K (a.put o.dst (.slice aN (n + 1) pN)) w') (hw : w = W := by rfl) :
    if Region.wanted o (yielded ops a.tmps) = true then Oper.wp Try.prog o a w K Q else E := by
  subst hw
  obtain ⟨i33, hi33, hzz⟩ := Option.map_eq_some_iff.1 info33
  simp only [Prod.mk.injEq] at hzz
  obtain ⟨hy0, hy1, hy2⟩ := hzz
  refine step_appG _ hgd s x 25 ho B 33 i33 _ 2 24 Try.underlying25 hi33 hy0 hy1 hy2 rfl (by decide) _ n xs hs hown _ 1 _ hx hsrc (by intro u hu; simp at hu; rcases hu with rfl | rfl <;> rfl) (by unfold maxLen; omega) (by omega) hB ?_
  intro vN wN hown hgr hnil hat
  obtain ⟨aN, pN, eN, _⟩ := own_ne hown
  subst eN
  exact h aN pN wN hown hgr hat
section
variable {cs : List UInt8} {a : Option Addr} {cap b off c g B : Nat} {w W W' : World} {L : List Value} {G : DSg} {v1 v2 v3 v' : Value}
theorem hBoxG {ty e z n gn : Nat} {v : Value} {xs : List Value} (h : Hid (Box W gn ty L)) (ho : W.ownsRow B e z v n xs) (hg : W.grownBy W' v.ownBlock) (hne : e ≠ ty) : Hid (Box W' gn ty L) := h.out.keep (hg.block _ h.out.lt (fun h2 => own_box ho h.out hne h2.symm rfl))
theorem hBoxP {ty q o gn : Nat} {u : Value} (h : Hid (Box W gn ty L)) (hne : gn ≠ q) : Hid (Box (W.setCell ⟨q, o, none⟩ u) gn ty L) := h.out.past hne
theorem ap1 (hlt : c < w.heap.size) (h1 : Hid (AtS cs a cap b off c w W)) (h2 : Hid (Box W g 27 L)) (h3 : Hid (Gro (w.heap.size + 1) W G v1 v2 v3)) (x : DSEdge) (ho : W'.ownsRow (w.heap.size + 1) 74 3 v' (G.edges.length + 1) (edC G.edges ++ [.int .i64 x.from_, .int .i64 x.to_, .int .i64 x.kind])) (hg : W.grownBy W' v1.ownBlock) (hl : G.edges.length < 1000) :
    Hid (AtS cs a cap b off c w W') ∧ Hid (Box W' g 27 L) ∧ Hid (Gro (w.heap.size + 1) W' ⟨G.scopes, G.edges ++ [x], G.decls, G.refs⟩ v' v2 v3) :=
  ⟨h1.out.grown hlt hg (fun k hk => (World.ownsRow.lt h3.out.e k hk).1), hBoxG h2 h3.out.e hg (by decide), h3.out.pushE x ho hg hl⟩
theorem ap2 (hlt : c < w.heap.size) (h1 : Hid (AtS cs a cap b off c w W)) (h2 : Hid (Box W g 27 L)) (h3 : Hid (Gro (w.heap.size + 1) W G v1 v2 v3)) (x : DSpot) (hx : x.name.size ≤ 1000) (ho : W'.ownsRow (w.heap.size + 1) 33 2 v' (G.decls.length + 1) (spC G.decls ++ [.int .i64 x.scope, .string x.name])) (hg : W.grownBy W' v2.ownBlock) (hat : v'.ownBlock = v2.ownBlock ∨ v'.ownBlock = some W.heap.size) (hl : G.decls.length < 1000) :
    Hid (AtS cs a cap b off c w W') ∧ Hid (Box W' g 27 L) ∧ Hid (Gro (w.heap.size + 1) W' ⟨G.scopes, G.edges, G.decls ++ [x], G.refs⟩ v1 v' v3) :=
  ⟨h1.out.grown hlt hg (fun k hk => (World.ownsRow.lt h3.out.d k hk).1), hBoxG h2 h3.out.d hg (by decide), h3.out.pushD x hx ho hg hat hl⟩
theorem ap3 (hlt : c < w.heap.size) (h1 : Hid (AtS cs a cap b off c w W)) (h2 : Hid (Box W g 27 L)) (h3 : Hid (Gro (w.heap.size + 1) W G v1 v2 v3)) (x : DSpot) (hx : x.name.size ≤ 1000) (ho : W'.ownsRow (w.heap.size + 1) 33 2 v' (G.refs.length + 1) (spC G.refs ++ [.int .i64 x.scope, .string x.name])) (hg : W.grownBy W' v3.ownBlock) (hat : v'.ownBlock = v3.ownBlock ∨ v'.ownBlock = some W.heap.size) (hl : G.refs.length < 1000) :
    Hid (AtS cs a cap b off c w W') ∧ Hid (Box W' g 27 L) ∧ Hid (Gro (w.heap.size + 1) W' ⟨G.scopes, G.edges, G.decls, G.refs ++ [x]⟩ v1 v2 v') :=
  ⟨h1.out.grown hlt hg (fun k hk => (World.ownsRow.lt h3.out.r k hk).1), hBoxG h2 h3.out.r hg (by decide), h3.out.pushR x hx ho hg hat hl⟩
variable {c0 c1 c2 c3 : Value}
theorem so1 (u : Value) (hlt : c < w.heap.size) (hg : w.heap.size < g) (h1 : Hid (AtS cs a cap b off c w W)) (h2 : Hid (Box W g 27 [c0, c1, c2, c3])) (h3 : Hid (Gro B W G v1 v2 v3)) : Hid (AtS cs a cap b off c w (W.setCell ⟨g, 1, none⟩ u)) ∧ Hid (Box (W.setCell ⟨g, 1, none⟩ u) g 27 [c0, u, c2, c3]) ∧ Hid (Gro B (W.setCell ⟨g, 1, none⟩ u) G v1 v2 v3) :=
  ⟨h1.out.put hlt hg 1 u, h2.out.set 1 u, h3.out.past h2.out (by decide) (by decide)⟩
theorem so2 (u : Value) (hlt : c < w.heap.size) (hg : w.heap.size < g) (h1 : Hid (AtS cs a cap b off c w W)) (h2 : Hid (Box W g 27 [c0, c1, c2, c3])) (h3 : Hid (Gro B W G v1 v2 v3)) : Hid (AtS cs a cap b off c w (W.setCell ⟨g, 2, none⟩ u)) ∧ Hid (Box (W.setCell ⟨g, 2, none⟩ u) g 27 [c0, c1, u, c3]) ∧ Hid (Gro B (W.setCell ⟨g, 2, none⟩ u) G v1 v2 v3) :=
  ⟨h1.out.put hlt hg 2 u, h2.out.set 2 u, h3.out.past h2.out (by decide) (by decide)⟩
theorem so3 (u : Value) (hlt : c < w.heap.size) (hg : w.heap.size < g) (h1 : Hid (AtS cs a cap b off c w W)) (h2 : Hid (Box W g 27 [c0, c1, c2, c3])) (h3 : Hid (Gro B W G v1 v2 v3)) : Hid (AtS cs a cap b off c w (W.setCell ⟨g, 3, none⟩ u)) ∧ Hid (Box (W.setCell ⟨g, 3, none⟩ u) g 27 [c0, c1, c2, u]) ∧ Hid (Gro B (W.setCell ⟨g, 3, none⟩ u) G v1 v2 v3) :=
  ⟨h1.out.put hlt hg 3 u, h2.out.set 3 u, h3.out.past h2.out (by decide) (by decide)⟩
end
end Go.Proofs.Ytledclkmeikgdaa
