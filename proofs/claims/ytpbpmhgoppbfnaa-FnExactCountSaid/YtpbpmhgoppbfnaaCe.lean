import Derived.Test.YtpbpmhgoppbfnaaCd
import Derived.Deep.RegionHeld3
/-! The program: the ways of the rest of a Right. -/
namespace Go.Proofs.Ytpbpmhgoppbfnaa
open Go.RowKit Go.Deep Go.Shelf
set_option linter.unusedVariables false
set_option maxRecDepth 100000
set_option linter.unusedSimpArgs false
attribute [local go_sem] Oper.semAt_some

/-- What does not turn a block of the counter leaves it as it is. -/
theorem WC.grow {c : Cx} {B : Nat} {w w' : World} {row : Option Nat} (h : WC c w) (hg : w.grownBy w' row) (hr : ∀ r, row = some r → B ≤ r) (h0 : c.W0.heap.size ≤ B) (h1 : c.gc < B) (h2 : c.gs < B) (h3 : c.bs < B) (h4 : c.bn < B) (h5 : c.br < B) : WC c w' := by
  have hb : ∀ k, k < B → k < w.heap.size → w'.heap[k]? = w.heap[k]? := fun k hk hlt => hg.block k hlt (fun e => by have := hr k e.symm; omega)
  exact ⟨⟨hg.os.trans h.bel.os, hg.tape.trans h.bel.tape, hg.output.trans h.bel.output, Nat.le_trans h.bel.size hg.size, fun k hk => (hb k (by omega) (Nat.lt_of_lt_of_le hk h.bel.size)).trans (h.bel.block k hk)⟩,
    h.st.keep (hb _ h2 h.st.box.lt) (hb _ h3 (World.rowIs.lt h.st.row)), h.box.keep (hb _ h1 h.box.lt), h.nons.keep (hb _ h4 h.nons.lt), h.rests.keep (hb _ h5 h.rests.lt)⟩
theorem Kq.grow {a b B : Nat} {x y z : World} {row : Option Nat} (h : Kq a b x y) (hg : y.grownBy z row) (hr : ∀ r, row = some r → B ≤ r) (hB : x.heap.size ≤ B) : Kq a b x z :=
  ⟨hg.os.trans h.os, hg.tape.trans h.tape, hg.output.trans h.output, Nat.le_trans h.size hg.size, fun k hk h1 h2 => (hg.block k (Nat.lt_of_lt_of_le hk h.size) (fun e => by have := hr k e.symm; omega)).trans (h.block k hk h1 h2)⟩
theorem Kq.keepsFrom {a b B : Nat} {x y : World} (h : Kq a b x y) (ha : a < B) (hb : b < B) : KeepsFrom B x y :=
  ⟨h.size, fun k o hB hk _ => (h.block k (Array.getElem?_eq_some_iff.1 hk).1 (by omega) (by omega)).trans hk⟩
/-- What a share adds. -/
def fS (V : Nat → Nat → Nat → Nat) (y : Nat) (r : List Nat) (i j t : Nat) : Nat := V y i (i + t) * LF V r (i + t) j
theorem sum_snoc {Q : Nat → Prop} (f : Nat → Nat) (pre : List {s : Nat // Q s}) (x : {s : Nat // Q s}) : ((pre ++ [x]).unattach.map f).sum = (pre.unattach.map f).sum + f x.1 := by
  show (((pre ++ [x]).map (·.1)).map f).sum = ((pre.map (·.1)).map f).sum + f x.1
  rw [List.map_append, List.map_append, List.sum_append]
  simp only [List.map_cons, List.map_nil, List.sum_cons, List.sum_nil, Nat.add_zero]
theorem sm_range (f : Nat → Nat) (a : Nat) : ∀ k, sm f (a + k) = sm f a + ((List.range' a k).map f).sum := by
  intro k
  induction k with
  | zero => simp
  | succ k ih =>
    rw [range_snoc, List.map_append, List.sum_append, ← Nat.add_assoc, ← Nat.add_assoc]
    show sm f (a + k) + f (a + k) = _
    rw [ih]
    simp
/-- What the shares that are told add up to. -/
theorem LF_shares {d : Bn} {W L : List Int} {V : Nat → Nat → Nat → Nat} (hV : Cn d W V) (hs : Snd d.terms.length (bps d) (Lf L)) (hq : ∀ p ∈ bps d, lnew (Lf L) p = false) (y : Nat) (r : List Nat) (i j : Nat) (hij : i ≤ j) (hj : j - i ≤ 900) :
    LF V (y :: r) i j = ((shl (Lf L y) (lof (Lf L) r) (j - i)).map (fS V y r i j)).sum := by
  have hz : ∀ t, t ≤ j - i → fS V y r i j t ≠ 0 → Lf L y ≠ -1 ∧ lof (Lf L) r ≠ -1 ∧ (Lf L y).toNat ≤ t ∧ t + (lof (Lf L) r).toNat ≤ j - i := by
    intro t ht hne
    unfold fS at hne
    have h1 : V y i (i + t) ≠ 0 := fun e => hne (by rw [e, Nat.zero_mul])
    have h2 : LF V r (i + t) j ≠ 0 := fun e => hne (by rw [e, Nat.mul_zero])
    have g1 := (hV.made _ _ _ h1).2 (by omega)
    rw [Nat.add_sub_cancel_left] at g1
    have g2 := (LF_ne hV.made _ _ _ h2).2 (by omega)
    obtain ⟨s1, a1, a2, a3⟩ := hs.all hq _ _ g1
    obtain ⟨s2, b1, b2, b3⟩ := hs.all hq _ _ g2
    have hly := hs.low y
    rw [lsum] at a1
    by_cases e : Lf L y = -1
    · rw [if_pos e] at a1; cases a1
    · rw [if_neg e] at a1
      simp [lsum] at a1
      unfold lof
      rw [b1]
      dsimp only
      refine ⟨e, by omega, by omega, by omega⟩
  show sm (fS V y r i j) (j + 1 - i) = _
  by_cases hno : Lf L y = -1 ∨ lof (Lf L) r = -1
  · unfold shl
    rw [if_pos hno, sm_zero]
    · rfl
    · intro t ht
      exact Decidable.byContradiction fun e => by
        have := hz t (by omega) e
        rcases hno with h | h
        · exact this.1 h
        · exact this.2.1 h
  · unfold shl
    rw [if_neg hno]
    have z1 : sm (fS V y r i j) (Lf L y).toNat = 0 ∨ (j + 1 - i) ≤ (Lf L y).toNat := by
      by_cases h : (j + 1 - i) ≤ (Lf L y).toNat
      · exact .inr h
      · exact .inl (sm_zero fun t ht => Decidable.byContradiction fun e => by have := hz t (by omega) e; omega)
    by_cases hle : (Lf L y).toNat + (lof (Lf L) r).toNat ≤ j - i
    · rw [sm_mid (b := (Lf L y).toNat + (j - i + 1 - ((Lf L y).toNat + (lof (Lf L) r).toNat))) (by omega) (fun t h1 h2 => Decidable.byContradiction fun e => by have := hz t (by omega) e; omega), sm_range]
      rcases z1 with h | h
      · rw [h, Nat.zero_add]
      · omega
    · rw [show j - i + 1 - ((Lf L y).toNat + (lof (Lf L) r).toNat) = 0 by omega, sm_zero]
      · rfl
      · intro t ht
        exact Decidable.byContradiction fun e => by have := hz t (by omega) e; omega
/-- Of a share that is told. -/
def Qs (L : List Int) (y : Nat) (r : List Nat) (n s : Nat) : Prop := Lf L y ≠ -1 ∧ lof (Lf L) r ≠ -1 ∧ (Lf L y).toNat ≤ s ∧ s + (lof (Lf L) r).toNat ≤ n
/-- In a round an operation that is no defer statement goes as everywhere. -/
theorem op_round {P : Program} {o : Oper} {a : Act} {w : World} {K : Act → World → Prop} {Q : Exit → Act → World → Prop} {l n : Nat} (hd : ∀ c, o.op ≠ .defer c) (h : o.wp P a w K Q) : o.wpIn (Fence.wide.inRound l) n P a w K Q := by
  unfold Oper.wp at h
  unfold Oper.wpIn
  refine ⟨fun _ _ => trivial, ?_⟩
  rw [Oper.semAt_eq _ _ _ hd]
  generalize (execOp a.eval o).run P w = r at *
  cases r with
  | ok x w' =>
    cases x <;> simp only [Oper.upon, Oper.uponIn] at h ⊢ <;> first
      | exact h
      | exact ⟨fun h0 => absurd h0 (by simp [Fence.wide]), CallsIn.inRound l (callsIn_wide.2 h)⟩
      | exact ⟨fun h0 => absurd h0 (by simp [Fence.wide]), fun c cs _ => (h c cs).elim fun v h2 => h2.elim fun w2 h3 => ⟨v, w2, h3.1, stepsIn_wide.2 h3.2⟩⟩
  | halt x w' => cases x <;> exact h
theorem any_round {P : Program} {md : Region.Mode} {ops : Array Oper} {Q : Exit → Act → World → Prop} {l n : Nat} (hl : ¬ LetsOut Q) (hd : ∀ (i : Nat) (o : Oper), ops[i]? = some o → ∀ c, o.op ≠ .defer c) : ∀ (fuel : Nat) (listed : Array Bool) (a : Act) (w : World), wpAny P md ops Q fuel listed a w → wpAnyIn (Fence.wide.inRound l) n P md ops Q fuel listed a w := by
  intro fuel
  induction fuel with
  | zero => intro listed a w h; exact h
  | succ fuel ih =>
    intro listed a w h
    refine ⟨h.1, fun i hi => ?_⟩
    have h2 := h.2 i hi
    unfold wpOp at h2
    unfold wpOpIn
    cases ho : ops[i]? with
    | none =>
      simp only [ho] at h2
      exact ih _ _ _ h2
    | some o =>
      simp only [ho] at h2 ⊢
      by_cases hw : Region.wanted o (yielded ops a.tmps) = true
      · rw [if_pos hw] at h2 ⊢
        rcases h2 with h2 | h2
        · exact op_round (hd i o ho) (Oper.wp_mono (ih _) h2)
        · exact absurd h2.2 hl
      · rw [if_neg hw] at h2 ⊢
        exact ⟨fun _ _ => trivial, ih _ _ _ h2⟩
/-- Nothing but to go on. -/
def OnlyN (Q : Exit → Act → World → Prop) : Exit → Act → World → Prop
  | .normal, a, w => Q .normal a w
  | _, _, _ => False
theorem region_round {P : Program} {ops : Array Oper} {Q : Exit → Act → World → Prop} {l n id : Nat} {a : Act} {w : World} (S : World → Prop) (hm : P.follows .mixedOrders = true) (hd : ∀ (i : Nat) (o : Oper), ops[i]? = some o → ∀ c, o.op ≠ .defer c) (hS : S w.drew)
    (h : S w.drew → wpAnyH P .any ops (OnlyN Q) S ops.size (Array.replicate ops.size false) a w.drew) : (Code.region id ops true).wpIn (Fence.wide.inRound l) n P Q a w :=
  wpIn_mono (wpIn_region_any hm (any_round (Q := OnlyN Q) (fun h0 => by obtain ⟨_, _, h1⟩ := h0; exact h1) hd _ _ _ _ (wpAny_of_held _ _ _ _ (h hS)))) (fun e a w h1 => by
    cases e <;> first | exact h1 | exact h1.elim)
theorem no_defer {ops : Array Oper} (h : ops.toList.all (fun o => match o.op with | .defer _ => false | _ => true) = true) : ∀ (i : Nat) (o : Oper), ops[i]? = some o → ∀ c, o.op ≠ .defer c := by
  intro i o ho c hc
  have h1 := List.all_eq_true.1 h o (by
    have := Array.mem_of_getElem? ho
    simpa using this)
  rw [hc] at h1
  cases h1
theorem Box.set1 {W : World} {g T : Nat} {v : Value} (h : Box W g T [v]) (u : Value) : Box (W.setCell ⟨g, 0, none⟩ u) g T [u] := by
  obtain ⟨cs, h1, h2, h3⟩ := World.rowIs.set h.ex 0 u
  refine ⟨⟨cs, h1, h2, fun q hq => ?_⟩⟩
  have := h3 q hq
  simp only [List.length_singleton] at hq
  obtain rfl : q = 0 := by omega
  simpa using this
theorem Box.grow {w w' : World} {g T : Nat} {cs : List Value} {row : Option Nat} (h : Box w g T cs) (hg : w.grownBy w' row) (hr : ∀ r, row = some r → ∃ o : Obj, w.heap[r]? = some o ∧ o.isCells = false) : Box w' g T cs := by
  refine h.keep (hg.block g h.lt (fun e => ?_))
  obtain ⟨o, h1, h2⟩ := hr g e.symm
  obtain ⟨c, h3, _⟩ := h.ex
  rw [h1] at h3
  injection h3 with h3
  subst h3
  cases h2
set_option maxHeartbeats 6400000 in
theorem clo97 {S : Nat → Prop} (c : Cx) (hc : CxOK S c) (k p i j : Nat) (y : Nat) (r : List Int) (hy : y < c.L.length) (hrin : ∀ q (hq : q < r.length), 0 ≤ r[q] ∧ r[q] < c.L.length) (hrl : r.length ≤ 100) (hdrop : (pAt (bps c.d) k).2.drop p = y :: nats r) (hnext : (pAt (bps c.d) k).2.drop (p + 1) = nats r) (hk : k ≤ 1000) (hp : p ≤ 1000) (hij : i ≤ j) (hj : j ≤ c.W.length)
    (hPS : ∀ s, Qs c.L y (nats r) (j - i) s → PS c y i (i + s)) (hPR : ∀ s, Qs c.L y (nats r) (j - i) s → c.V y i (i + s) ≠ 0 → PR c k (p + 1) (i + s) j)
    (b0 b1 b2 b3 b4 b5 : Nat) (vr : Value) (w : World) (hw : WC c w) (hr : Ints c.W0 S ((y : Int) :: r) vr)
    (m0 : b0 ≠ c.bn ∧ b0 ≠ c.br) (m1 : b1 ≠ c.bn ∧ b1 ≠ c.br) (m2 : b2 ≠ c.bn ∧ b2 ≠ c.br) (m3 : b3 ≠ c.bn ∧ b3 ≠ c.br) (m4 : b4 ≠ c.bn ∧ b4 ≠ c.br) (m5 : b5 ≠ c.bn ∧ b5 ≠ c.br)
    (e0 : w.cell? ⟨b0, 0, none⟩ = some (.pointer (some ⟨c.gc, 0, none⟩))) (e1 : w.cell? ⟨b1, 0, none⟩ = some vr) (e2 : w.cell? ⟨b2, 0, none⟩ = some (.int .i64 j)) (e3 : w.cell? ⟨b3, 0, none⟩ = some (.int .i64 i)) (e4 : w.cell? ⟨b4, 0, none⟩ = some (.int .i64 k)) (e5 : w.cell? ⟨b5, 0, none⟩ = some (.int .i64 p)) :
    Calls Try.prog 97 #[.pointer (some ⟨b0, 0, none⟩), .pointer (some ⟨b1, 0, none⟩), .pointer (some ⟨b2, 0, none⟩), .pointer (some ⟨b3, 0, none⟩), .pointer (some ⟨b4, 0, none⟩), .pointer (some ⟨b5, 0, none⟩)] w (Rt c (LF c.V ((pAt (bps c.d) k).2.drop p) i j) w) := by
  have hwl := hc.wlen
  have HLF := (show Hid _ from LF_shares hc.cn hc.snd hc.quiet y (nats r) i j hij (by omega))
  rw [hdrop]
  obtain ⟨ar, cr, hvr, hrm⟩ := hr.form
  subst hvr
  have HR := (show Hid (Ints c.W0 S ((y : Int) :: r) (.slice ar ((y : Int) :: r).length cr)) from hr)
  have HWC := (show Hid _ from hw)
  have HCE := (show Hid (∀ wr, Kq c.bn c.br w wr → wr.cell? ⟨b0, 0, none⟩ = some (.pointer (some ⟨c.gc, 0, none⟩)) ∧ wr.cell? ⟨b1, 0, none⟩ = some (.slice ar ((y : Int) :: r).length cr) ∧ wr.cell? ⟨b2, 0, none⟩ = some (.int .i64 j) ∧ wr.cell? ⟨b3, 0, none⟩ = some (.int .i64 i) ∧ wr.cell? ⟨b4, 0, none⟩ = some (.int .i64 k) ∧ wr.cell? ⟨b5, 0, none⟩ = some (.int .i64 p)) from fun wr hk => ⟨hk.cell e0 m0.1 m0.2, hk.cell e1 m1.1 m1.2, hk.cell e2 m2.1 m2.2, hk.cell e3 m3.1 m3.2, hk.cell e4 m4.1 m4.2, hk.cell e5 m5.1 m5.2⟩)
  have HPS := (show Hid _ from hPS)
  have HPR := (show Hid _ from hPR)
  have HCX := (show Hid _ from hc)
  have HZ := (show Hid (c.W0.heap.size ≤ w.heap.size ∧ c.gc < w.heap.size ∧ c.gs < w.heap.size ∧ c.bs < w.heap.size ∧ c.bn < w.heap.size ∧ c.br < w.heap.size) from ⟨hw.bel.size, hw.box.lt, hw.st.box.lt, World.rowIs.lt hw.st.row, hw.nons.lt, hw.rests.lt⟩)
  have HLB := (show Hid (b0 ≠ w.heap.size ∧ b2 ≠ w.heap.size ∧ b3 ≠ w.heap.size ∧ b4 ≠ w.heap.size ∧ b5 ≠ w.heap.size) from by have h0 := lt_of_cell e0; have h2 := lt_of_cell e2; have h3 := lt_of_cell e3; have h4 := lt_of_cell e4; have h5 := lt_of_cell e5; dsimp only at h0 h2 h3 h4 h5; exact ⟨by omega, by omega, by omega, by omega, by omega⟩)
  clear e0 e1 e2 e3 e4 e5 m0 m1 m2 m3 m4 m5 hPS hPR hdrop
  have hbw := bel_alloc w (.cells #[.int .i64 0] 3)
  obtain ⟨e0, e1, e2, e3, e4, e5⟩ := HCE.out _ (Kq.of_below hbw)
  have g0 : (w.alloc (.cells #[.int .i64 0] 3)).cell? ⟨c.gc, 0, none⟩ = some (.pointer (some ⟨c.gs, 0, none⟩)) := (hw.still hbw).box.cell 0 (by simp)
  clear hw hr hc
  refine (callsIn_wide (n := 5)).1 ?_
  refine callsIn_of_wp_marks Try.func97 rfl trivial ?_ rfl
  simp only [Try.ntmps97, List.size_toArray, List.length_cons, List.length_nil, Nat.reduceAdd, Nat.reduceSub, Array.replicate_succ, Array.replicate_zero, List.push_toArray, List.append_toArray, List.nil_append, List.cons_append]
  refine wpIn_wide.2 ?_
  have HJI := (show Hid (((j : Int) - (i : Int)) = ((j - i : Nat) : Int)) from by show ((j : Int) - (i : Int)) = ((j - i : Nat) : Int); omega)
  have HBW := (show Hid _ from hbw); clear hbw
  have kw : IntKind.i64.wrap ((j : Int) - (i : Int)) = (j : Int) - (i : Int) := by simp [IntKind.wrap, IntKind.bits, IntKind.signed]; omega
  go_wp2_with fail
  generalize hw1 : w.alloc (.cells #[.int .i64 0] 3) = w1 at *
  go_cut [18] from 10 to 17 (fun v wx => ∃ n3 : Nat, v = .func (.func 103) #[] #[.pointer (some ⟨n3, 0, none⟩), .pointer (some ⟨n3 + 1, 0, none⟩), .pointer (some ⟨n3 + 1 + 1, 0, none⟩)] ∧ Hid (w1.heap.size ≤ n3 ∧ Below w1.heap.size w1 wx ∧ n3 + 1 + 1 < wx.heap.size ∧ wx.cell? ⟨n3, 0, none⟩ = some (.pointer (some ⟨c.gs, 0, none⟩)) ∧ wx.cell? ⟨n3 + 1, 0, none⟩ = some (.slice ar (r.length + 1) cr) ∧ wx.cell? ⟨n3 + 1 + 1, 0, none⟩ = some (.int .i64 ((j : Int) - (i : Int)))))
  case first =>
    have HSH := (show Hid _ from fun (wq : World) => shares98 c.gs ar (r.length + 1) cr ((j : Int) - (i : Int)) wq)
    have HC5 := (show Hid (∀ wq, Below w1.heap.size w1 wq → wq.cell? ⟨b0, 0, none⟩ = some (.pointer (some ⟨c.gc, 0, none⟩)) ∧ wq.cell? ⟨c.gc, 0, none⟩ = some (.pointer (some ⟨c.gs, 0, none⟩)) ∧ wq.cell? ⟨b1, 0, none⟩ = some (.slice ar (r.length + 1) cr) ∧ wq.cell? ⟨b2, 0, none⟩ = some (.int .i64 j) ∧ wq.cell? ⟨b3, 0, none⟩ = some (.int .i64 i)) from fun wq hb => ⟨(hb.cell (lt_of_cell e0)).trans e0, (hb.cell (lt_of_cell g0)).trans g0, (hb.cell (lt_of_cell e1)).trans e1, (hb.cell (lt_of_cell e2)).trans e2, (hb.cell (lt_of_cell e3)).trans e3⟩)
    have hbd := (Below.refl w1.heap.size w1).drew
    have hS0 := HC5.out _ hbd
    have hb3 : Below w1.heap.size w1 (((w1.drew.alloc (.cells #[.pointer (some ⟨c.gs, 0, none⟩)] 65)).alloc (.cells #[.slice ar (r.length + 1) cr] 28)).alloc (.cells #[.int .i64 ((j : Int) - (i : Int))] 3)) := ((hbd.alloc (Nat.le_refl _) _).alloc (by simp) _).alloc (by simp; omega) _
    have hS1 := HC5.out _ hb3
    clear e0 e1 e2 e3 e4 e5 g0
    go_region_held3 (fun w' => w'.cell? ⟨b0, 0, none⟩ = some (.pointer (some ⟨c.gc, 0, none⟩)) ∧ w'.cell? ⟨c.gc, 0, none⟩ = some (.pointer (some ⟨c.gs, 0, none⟩)) ∧ w'.cell? ⟨b1, 0, none⟩ = some (.slice ar (r.length + 1) cr) ∧ w'.cell? ⟨b2, 0, none⟩ = some (.int .i64 j) ∧ w'.cell? ⟨b3, 0, none⟩ = some (.int .i64 i)) (first | exact hS0 | exact hS1) ((go_at_call 98; refine Calls.mono (HSH.out _) ?_; rintro e w2 ⟨rfl, rfl⟩))
    all_goals go_wp2_with fail
    all_goals go_meet
    exact ⟨_, rfl, Nat.le_refl _, ((((Below.refl _ _).alloc (Nat.le_refl _) _).alloc (by simp) _).alloc (by simp; omega) _).drew, by simp, by simp [go_sem], by simp [go_sem], by simp [go_sem]⟩
  case rest =>
    obtain ⟨n3, rfl, HX⟩ := hcut
    clear e0 e1 e2 e3 e4 e5 g0
    have hBc : Below w.heap.size w wc := bel_trans HBW.out HX.out.2.1
    have HWC1 := (show Hid _ from HWC.out.still hBc)
    have HBX := (show Hid (Box wc w.heap.size 3 [.int .i64 0]) from (by rw [← hw1] at HX; exact (Box.new w 3 [.int .i64 0]).still HX.out.2.1))
    have HB := (show Hid (w.heap.size < w1.heap.size ∧ w1.heap.size ≤ wc.heap.size ∧ w1.heap.size ≤ n3 ∧ n3 + 1 + 1 < wc.heap.size) from ⟨by rw [← hw1]; simp, HX.out.2.1.size, HX.out.1, HX.out.2.2.1⟩)
    have HIJ := (show Hid _ from HX.out.2.2.2)
    rw [HJI.out] at HIJ
    have HBC := (show Hid _ from hBc); clear hBc
    go_wp2_with fail
    refine (wpIn_wide (n := 5)).1 ?_
    refine wpIn_rangeFunc_ownG (α := {s : Nat // Qs c.L y (nats r) (j - i) s}) rfl (by omega) (gf := 103) (lb := #[.pointer (some ⟨n3, 0, none⟩), .pointer (some ⟨n3 + 1, 0, none⟩), .pointer (some ⟨n3 + 1 + 1, 0, none⟩)]) rfl trivial (enters_of Try.func103 (by kernel_rfl) rfl)
      (shares_stops (Qs c.L y (nats r) (j - i)) c.gs c.bs n3 (n3 + 1) (n3 + 1 + 1) _ _ _ _ _ c.L (y : Int) r (j - i) wc HWC1.out.st (Ints.still HR.out HWC1.out.bel) ?hin ?hlo ?hto (by omega) ?hLl (by omega) HIJ.out.1 HIJ.out.2.1 HIJ.out.2.2 ?hQ _ (by omega)) ?hKt ?hKb (Below.refl _ _) (fun _ => rfl)
      (fun pre W => Box W w.heap.size 3 [.int .i64 (cp ((pre.unattach.map (fS c.V y (nats r) i j)).sum) : Nat)] ∧ WC c W ∧ Kq c.bn c.br w W)
      (fun _ _ _ => False) ?hI (fun _ _ _ _ _ hs _ _ => hs) ?h0 (fun x => { tmps := #[.pointer (some ⟨b0, 0, none⟩), .pointer (some ⟨b1, 0, none⟩), .pointer (some ⟨b2, 0, none⟩), .pointer (some ⟨b3, 0, none⟩), .pointer (some ⟨b4, 0, none⟩), .pointer (some ⟨b5, 0, none⟩), .int .i64 0, .pointer (some ⟨w.heap.size, 0, none⟩), .int .i64 (x.1 : Nat), undef, u10, u11, u12, u13, u14, u15, u16, u17, .func (.func 103) #[] #[.pointer (some ⟨n3, 0, none⟩), .pointer (some ⟨n3 + 1, 0, none⟩), .pointer (some ⟨n3 + 1 + 1, 0, none⟩)], .int .i64 (x.1 : Nat), undef, undef, undef, undef, undef, undef, undef, undef, undef, undef, undef, undef, undef, undef, undef, undef, undef, undef, undef, undef, undef, undef, undef, undef, undef, undef], defers := [] }) ?assign ?body ?done ?stop
    case hin =>
      intro q hq
      cases q with
      | zero => simp; omega
      | succ q => simpa using hrin q (by simpa using hq)
    case hlo => exact HCX.out.snd.low
    case hto => exact HCX.out.snd.top
    case hLl => have h1 := HCX.out.len; have h2 := HCX.out.hok.nt; have h3 := HCX.out.hok.nn; omega
    case hQ => exact fun s h1 h2 h3 h4 => ⟨by simpa using h1, h2, by simpa using h3, h4⟩
    case hKt => exact fun h k e => k (h e)
    case hKb => exact fun W l o o' hl ho h1 h2 e => cell_kept e (grownBy_putObj' W l o') (fun r e => by cases e; exact ⟨o, ho, h1⟩)
    case hI =>
      intro s A B row hs hg hr
      have hb := HB.out
      have hz := HZ.out
      exact ⟨hs.1.grow hg (fun r e => (hr r e).2), hs.2.1.grow hg (fun r e => (hr r e).1) (by omega) (by omega) (by omega) (by omega) (by omega) (by omega), hs.2.2.grow hg (fun r e => (hr r e).1) (by omega)⟩
    case h0 => exact ⟨HBX.out, HWC1.out, Kq.of_below HBC.out⟩
    case assign =>
      intro l x W K hK
      gi_wp2
      exact hK
    case body =>
      rintro l pre x W ⟨hbx, hwc, hkq⟩ hlt
      obtain ⟨a9, c9, b9, o9, h9, _, _, h10, h11⟩ := HR.out
      simp only [Value.slice.injEq] at h9
      obtain ⟨rfl, _, rfl⟩ := h9
      obtain ⟨rfl, hSb⟩ := h10 (by simp)
      have y0 := h11 0 (by simp)
      simp only [List.getElem_cons_zero, Nat.add_zero] at y0
      have hx4 := x.2.2.2.2
      have kx : IntKind.i64.wrap ((i : Int) + (x.1 : Int)) = (i : Int) + (x.1 : Int) := by simp [IntKind.wrap, IntKind.bits, IntKind.signed]; omega
      clear h11 h10
      have HS4 := (show Hid (∀ wq, Kq c.bn c.br W wq → wq.cell? ⟨b0, 0, none⟩ = some (.pointer (some ⟨c.gc, 0, none⟩)) ∧ wq.cell? ⟨b1, 0, none⟩ = some (.slice (some ⟨b9, o9, none⟩) (r.length + 1) cr) ∧ wq.cell? ⟨b3, 0, none⟩ = some (.int .i64 i) ∧ wq.cell? ⟨b9, o9, none⟩ = some (.int .i64 y)) from fun wq hb => ⟨(HCE.out wq (hkq.trans hb)).1, (HCE.out wq (hkq.trans hb)).2.1, (HCE.out wq (hkq.trans hb)).2.2.2.1, ((hwc.bel.trans (hb.below HCX.out.s1 HCX.out.s2 hwc.bel.size)).cell (lt_of_cell y0)).trans y0⟩)
      have hK0 : Kq c.bn c.br W W.drew := Kq.of_below (Below.refl _ _).drew
      have hS0 := HS4.out _ hK0
      have HWD := (show Hid _ from hwc.still (Below.refl _ _).drew)
      have hp1 := HPS.out x.1 x.2 _ HWD.out
      rw [Int.natCast_add] at hp1
      have HP1 := (show Hid _ from hp1); clear hp1
      have hp2 := HPR.out x.1 x.2
      have HP2 := (show Hid _ from hp2); clear hp2
      have hz := HZ.out
      have hb := HB.out
      have HNE := (show Hid (w.heap.size ≠ c.bn ∧ w.heap.size ≠ c.br ∧ b0 ≠ w.heap.size ∧ b2 ≠ w.heap.size ∧ b3 ≠ w.heap.size ∧ b4 ≠ w.heap.size ∧ b5 ≠ w.heap.size) from ⟨by omega, by omega, HLB.out⟩)
      have HBX1 := (show Hid _ from hbx)
      have HKQ := (show Hid _ from hkq)
      have HWC2 := (show Hid _ from hwc)
      clear y0 hz hb hbx hkq hwc hSb
      gi_wp2
      refine region_round (fun w' => w'.cell? ⟨b0, 0, none⟩ = some (.pointer (some ⟨c.gc, 0, none⟩)) ∧ w'.cell? ⟨b1, 0, none⟩ = some (.slice (some ⟨b9, o9, none⟩) (r.length + 1) cr) ∧ w'.cell? ⟨b3, 0, none⟩ = some (.int .i64 i) ∧ w'.cell? ⟨b9, o9, none⟩ = some (.int .i64 y)) (by kernel_rfl) (no_defer (by kernel_rfl)) hS0 (fun hHeld => ?_)
      refine wpAnyH_take (i := 0) (oi := { dst := some 20, op := Go.Op.load 81 (Go.Operand.tmp 0), type := 81, pos := "l04_facts.go:463", after := #[], guard := none }) (v := ?v1) rfl (by kernel_rfl) (by kernel_rfl) (by kernel_rfl) (fun _ _ _ h => h) (Or.inl ⟨by rfl, ?h1⟩) hHeld ?r1
      case h1 => (intro w hSw; (try dsimp only at hSw); go_simp; try with_reducible rfl)
      try simp only [Act.put, List.setIfInBounds_toArray, List.set_cons_zero, List.set_cons_succ]
      refine wpAnyH_take (i := 1) (oi := { dst := some 21, op := Go.Op.load 28 (Go.Operand.tmp 1), type := 28, pos := "l04_facts.go:463", after := #[], guard := none }) (v := ?v2) rfl (by kernel_rfl) (by kernel_rfl) (by kernel_rfl) (fun _ _ _ h => h) (Or.inl ⟨by rfl, ?h2⟩) hHeld ?r2
      case h2 => (intro w hSw; (try dsimp only at hSw); go_simp; try with_reducible rfl)
      try simp only [Act.put, List.setIfInBounds_toArray, List.set_cons_zero, List.set_cons_succ]
      refine wpAnyH_take (i := 2) (oi := { dst := some 22, op := Go.Op.indexAddr 28 (Go.Operand.tmp 21) (Go.Operand.const (Go.Value.int Go.IntKind.i64 0)), type := 0, pos := "l04_facts.go:463", after := #[{ on := 1, ground := Go.Ground.data }], guard := none }) (v := ?v3) rfl (by kernel_rfl) (by kernel_rfl) (by kernel_rfl) (fun _ _ _ h => h) (Or.inl ⟨by rfl, ?h3⟩) hHeld ?r3
      case h3 => (intro w hSw; (try dsimp only at hSw); go_simp; try with_reducible rfl)
      try simp only [Act.put, List.setIfInBounds_toArray, List.set_cons_zero, List.set_cons_succ]
      refine wpAnyH_take (i := 3) (oi := { dst := some 23, op := Go.Op.load 3 (Go.Operand.tmp 22), type := 3, pos := "l04_facts.go:463", after := #[{ on := 2, ground := Go.Ground.data }], guard := none }) (v := ?v4) rfl (by kernel_rfl) (by kernel_rfl) (by kernel_rfl) (fun _ _ _ h => h) (Or.inl ⟨by rfl, ?h4⟩) hHeld ?r4
      case h4 => (intro w hSw; (try dsimp only at hSw); go_simp; try with_reducible rfl)
      try simp only [Act.put, List.setIfInBounds_toArray, List.set_cons_zero, List.set_cons_succ]
      refine wpAnyH_take (i := 4) (oi := { dst := some 24, op := Go.Op.load 3 (Go.Operand.tmp 3), type := 3, pos := "l04_facts.go:463", after := #[], guard := none }) (v := ?v5) rfl (by kernel_rfl) (by kernel_rfl) (by kernel_rfl) (fun _ _ _ h => h) (Or.inl ⟨by rfl, ?h5⟩) hHeld ?r5
      case h5 => (intro w hSw; (try dsimp only at hSw); go_simp; try with_reducible rfl)
      try simp only [Act.put, List.setIfInBounds_toArray, List.set_cons_zero, List.set_cons_succ]
      refine wpAnyH_take (i := 5) (oi := { dst := some 25, op := Go.Op.load 3 (Go.Operand.tmp 3), type := 3, pos := "l04_facts.go:463", after := #[], guard := none }) (v := ?v6) rfl (by kernel_rfl) (by kernel_rfl) (by kernel_rfl) (fun _ _ _ h => h) (Or.inl ⟨by rfl, ?h6⟩) hHeld ?r6
      case h6 => (intro w hSw; (try dsimp only at hSw); go_simp; try with_reducible rfl)
      try simp only [Act.put, List.setIfInBounds_toArray, List.set_cons_zero, List.set_cons_succ]
      refine wpAnyH_take (i := 6) (oi := { dst := some 26, op := Go.Op.move (Go.Operand.tmp 8), type := 3, pos := "l04_facts.go:463", after := #[], guard := none }) (v := ?v7) rfl (by kernel_rfl) (by kernel_rfl) (by kernel_rfl) (fun _ _ _ h => h) (Or.inl ⟨by rfl, ?h7⟩) hHeld ?r7
      case h7 => (intro w hSw; (try dsimp only at hSw); go_simp; try with_reducible rfl)
      try simp only [Act.put, List.setIfInBounds_toArray, List.set_cons_zero, List.set_cons_succ]
      refine wpAnyH_take (i := 7) (oi := { dst := some 27, op := Go.Op.binOp Go.BinOp.add 3 (Go.Operand.tmp 25) (Go.Operand.tmp 26) 3, type := 3, pos := "l04_facts.go:463", after := #[{ on := 5, ground := Go.Ground.data }, { on := 6, ground := Go.Ground.data }], guard := none }) (v := ?v8) rfl (by kernel_rfl) (by kernel_rfl) (by kernel_rfl) (fun _ _ _ h => h) (Or.inl ⟨by rfl, ?h8⟩) hHeld ?r8
      case h8 => (intro w hSw; (try dsimp only at hSw); go_simp; try with_reducible rfl)
      try simp only [Act.put, List.setIfInBounds_toArray, List.set_cons_zero, List.set_cons_succ]
      refine wpAnyH_ready (rs := [8]) (by kernel_rfl) (by simp) ?_
      refine AllReadyH.cons (o := { dst := some 28, op := Go.Op.call { callee := Go.Callee.value (Go.Operand.func 50), args := #[Go.Operand.tmp 20, Go.Operand.tmp 23, Go.Operand.tmp 24, Go.Operand.tmp 27], argTypes := #[81, 3, 3, 3] }, type := 3, pos := "l04_facts.go:463", after := #[{ on := 0, ground := Go.Ground.data }, { on := 3, ground := Go.Ground.data }, { on := 4, ground := Go.Ground.data }, { on := 7, ground := Go.Ground.data }], guard := none }) rfl (fun K hK => ?_) AllReadyH.nil
      go_wp2_with fail
      go_at_call 50
      refine Calls.mono HP1.out ?_
      rintro e w2 ⟨rfl, hw2, hk2⟩
      have hS2 := HS4.out _ (hK0.trans hk2)
      have HW2 := (show Hid _ from (⟨hw2, HKQ.out.trans (hK0.trans hk2), hK0.trans hk2⟩ : WC c w2 ∧ Kq c.bn c.br w w2 ∧ Kq c.bn c.br W w2))
      clear hw2 hk2
      clear hHeld
      refine hK.out _ _ hS2 (fun hHeld => ?_)
      clear hK K
      try simp only [Act.put, List.setIfInBounds_toArray, List.set_cons_zero, List.set_cons_succ]
      refine wpAnyH_take (i := 9) (oi := { dst := some 9, op := Go.Op.assign (Go.Operand.tmp 28), type := 3, pos := "l04_facts.go:463", after := #[{ on := 8, ground := Go.Ground.data }, { on := 8, ground := Go.Ground.chain }, { on := 0, ground := Go.Ground.phase }, { on := 1, ground := Go.Ground.phase }, { on := 2, ground := Go.Ground.phase }, { on := 3, ground := Go.Ground.phase }, { on := 4, ground := Go.Ground.phase }, { on := 5, ground := Go.Ground.phase }, { on := 6, ground := Go.Ground.phase }, { on := 7, ground := Go.Ground.phase }, { on := 8, ground := Go.Ground.phase }], guard := none }) (v := ?v9) rfl (by kernel_rfl) (by kernel_rfl) (by kernel_rfl) (fun _ _ _ h => h) (Or.inl ⟨by rfl, ?h9⟩) hHeld ?r9
      case h9 => (intro w hSw; (try dsimp only at hSw); go_simp; try with_reducible rfl)
      try simp only [Act.put, List.setIfInBounds_toArray, List.set_cons_zero, List.set_cons_succ]
      refine wpAnyH_done (by kernel_rfl) ?_ _
      dsimp only [OnlyN]
      clear hHeld hS2 hS0 HS4
      have hs1 := cp_le (c.V y i (i + x.1))
      have HCZ := (show Hid _ from @cp_zero (c.V y i (i + x.1)))
      generalize hs1e : cp (c.V y i (i + x.1)) = s1 at *
      have HS1 := (show Hid _ from hs1e); clear hs1e
      by_cases hs10 : s1 = 0
      · subst hs10
        gi_wp2
        have hv0 : c.V y i (i + x.1) = 0 := HCZ.out.1 (by first | trivial | rfl)
        have hz := HZ.out
        have hb := HB.out
        refine ⟨HW2.out.2.2.keepsFrom (by omega) (by omega), fun e => HW2.out.2.2.cell e (by dsimp only; omega) (by dsimp only; omega), ?_, HW2.out.1, HW2.out.2.1⟩
        have hbx2 : Box w2 w.heap.size 3 [.int .i64 (cp ((pre.unattach.map (fS c.V y (nats r) i j)).sum) : Nat)] := Box.keep HBX1.out (HW2.out.2.2.block _ (Box.lt HBX1.out) (by omega) (by omega))
        have e1 : ((pre ++ [x]).unattach.map (fS c.V y (nats r) i j)).sum = (pre.unattach.map (fS c.V y (nats r) i j)).sum := by
          rw [sum_snoc]
          unfold fS
          rw [hv0, Nat.zero_mul, Nat.add_zero]
        rw [e1]
        exact hbx2
      have hs1p : (0 : Int) < (s1 : Int) := by omega
      have hz := HZ.out
      have hb := HB.out
      have hbx2 : Box w2 w.heap.size 3 [.int .i64 (cp ((pre.unattach.map (fS c.V y (nats r) i j)).sum) : Nat)] := Box.keep HBX1.out (HW2.out.2.2.block _ (Box.lt HBX1.out) (by omega) (by omega))
      have hs0 := cp_le ((pre.unattach.map (fS c.V y (nats r) i j)).sum)
      have hs2 := cp_le (LF c.V (nats r) (i + x.1) j)
      have hvn : c.V y i (i + x.1) ≠ 0 := fun e => hs10 (HCZ.out.2 e)
      have hbd2 := (Below.refl w2.heap.size w2).drew
      have hp3 := HP2.out hvn _ (HW2.out.1.still hbd2)
      rw [show ((p + 1 : Nat) : Int) = (p : Int) + 1 by omega, show ((i + x.1 : Nat) : Int) = (i : Int) + (x.1 : Int) by omega, hnext] at hp3
      have HSM := (show Hid (cp (((pre ++ [x]).unattach.map (fS c.V y (nats r) i j)).sum) = cp (cp ((pre.unattach.map (fS c.V y (nats r) i j)).sum) + cp (c.V y i (i + x.1)) * cp (LF c.V (nats r) (i + x.1) j))) from (by rw [sum_snoc, cp_step]; rfl))
      rw [HS1.out] at HSM
      unfold Rt at hp3
      generalize hs0e : cp ((pre.unattach.map (fS c.V y (nats r) i j)).sum) = s0 at *
      generalize hs2e : cp (LF c.V (nats r) (i + x.1) j) = s2 at *
      have hmu : s1 * s2 ≤ 1000000 * 1000000 := Nat.mul_le_mul hs1 hs2
      obtain ⟨mm, hmm⟩ : ∃ mm, s1 * s2 = mm := ⟨_, rfl⟩
      rw [hmm] at hmu HSM
      have km : IntKind.i64.wrap ((s1 : Int) * (s2 : Int)) = (mm : Int) := by rw [show (s1 : Int) * (s2 : Int) = (mm : Int) by rw [← hmm, Int.natCast_mul]]; simp [IntKind.wrap, IntKind.bits, IntKind.signed]; omega
      have ka : IntKind.i64.wrap ((s0 : Int) + (mm : Int)) = (s0 : Int) + (mm : Int) := by simp [IntKind.wrap, IntKind.bits, IntKind.signed]; omega
      clear hmm
      have kp1 : IntKind.i64.wrap ((p : Int) + 1) = (p : Int) + 1 := by simp [IntKind.wrap, IntKind.bits, IntKind.signed]; omega
      have HP3 := (show Hid _ from hp3)
      have HK2 := (show Hid (∀ wq, Kq c.bn c.br w2 wq → (wq.cell? ⟨b0, 0, none⟩ = some (.pointer (some ⟨c.gc, 0, none⟩)) ∧ wq.cell? ⟨b4, 0, none⟩ = some (.int .i64 k) ∧ wq.cell? ⟨b5, 0, none⟩ = some (.int .i64 p) ∧ wq.cell? ⟨b3, 0, none⟩ = some (.int .i64 i) ∧ wq.cell? ⟨b2, 0, none⟩ = some (.int .i64 j)) ∧ Box wq w.heap.size 3 [.int .i64 (s0 : Nat)]) from fun wq hq => ⟨⟨(HCE.out wq (HW2.out.2.1.trans hq)).1, (HCE.out wq (HW2.out.2.1.trans hq)).2.2.2.2.1, (HCE.out wq (HW2.out.2.1.trans hq)).2.2.2.2.2, (HCE.out wq (HW2.out.2.1.trans hq)).2.2.2.1, (HCE.out wq (HW2.out.2.1.trans hq)).2.2.1⟩, hbx2.keep (hq.block _ hbx2.lt (by omega) (by omega))⟩)
      have hkd : Kq c.bn c.br w2 w2.drew := Kq.of_below hbd2
      have hS6 := (HK2.out _ hkd).1
      have q7 : w2.drew.cell? ⟨w.heap.size, 0, none⟩ = some (.int .i64 (s0 : Nat)) := (HK2.out _ hkd).2.cell 0 (by simp)
      have hSET := (show Hid (∀ (wq : World) (u : Value), (wq.cell? ⟨b0, 0, none⟩ = some (.pointer (some ⟨c.gc, 0, none⟩)) ∧ wq.cell? ⟨b4, 0, none⟩ = some (.int .i64 k) ∧ wq.cell? ⟨b5, 0, none⟩ = some (.int .i64 p) ∧ wq.cell? ⟨b3, 0, none⟩ = some (.int .i64 i) ∧ wq.cell? ⟨b2, 0, none⟩ = some (.int .i64 j)) → ((wq.setCell ⟨w.heap.size, 0, none⟩ u).cell? ⟨b0, 0, none⟩ = some (.pointer (some ⟨c.gc, 0, none⟩)) ∧ (wq.setCell ⟨w.heap.size, 0, none⟩ u).cell? ⟨b4, 0, none⟩ = some (.int .i64 k) ∧ (wq.setCell ⟨w.heap.size, 0, none⟩ u).cell? ⟨b5, 0, none⟩ = some (.int .i64 p) ∧ (wq.setCell ⟨w.heap.size, 0, none⟩ u).cell? ⟨b3, 0, none⟩ = some (.int .i64 i) ∧ (wq.setCell ⟨w.heap.size, 0, none⟩ u).cell? ⟨b2, 0, none⟩ = some (.int .i64 j))) from fun wq u h => by
        have hn := HNE.out
        have hc : ∀ q v, q ≠ w.heap.size → wq.cell? ⟨q, 0, none⟩ = some v → (wq.setCell ⟨w.heap.size, 0, none⟩ u).cell? ⟨q, 0, none⟩ = some v := fun q v hq h1 => (World.cell?_of_block (w := wq) (blk_setCell_other _ _ _ _ (by exact hq))).trans h1
        exact ⟨hc _ _ hn.2.2.1 h.1, hc _ _ hn.2.2.2.2.2.1 h.2.1, hc _ _ hn.2.2.2.2.2.2 h.2.2.1, hc _ _ hn.2.2.2.2.1 h.2.2.2.1, hc _ _ hn.2.2.2.1 h.2.2.2.2⟩)
      have HEND := (show Hid (∀ (w3 : World), WC c w3 → Kq c.bn c.br w2 w3 → Box w3 w.heap.size 3 [.int .i64 (s0 : Nat)] → KeepsFrom wc.heap.size W (w3.setCell ⟨w.heap.size, 0, none⟩ (.int .i64 (min ((s0 : Int) + (mm : Int)) 1000000))) ∧ (W.cell? ⟨n3 + 1 + 1, 0, none⟩ = some (.int .i64 ((j - i : Nat) : Int)) → (w3.setCell ⟨w.heap.size, 0, none⟩ (.int .i64 (min ((s0 : Int) + (mm : Int)) 1000000))).cell? ⟨n3 + 1 + 1, 0, none⟩ = some (.int .i64 ((j - i : Nat) : Int))) ∧ Box (w3.setCell ⟨w.heap.size, 0, none⟩ (.int .i64 (min ((s0 : Int) + (mm : Int)) 1000000))) w.heap.size 3 [.int .i64 (cp (((pre ++ [x]).unattach.map (fS c.V y (nats r) i j)).sum) : Nat)] ∧ WC c (w3.setCell ⟨w.heap.size, 0, none⟩ (.int .i64 (min ((s0 : Int) + (mm : Int)) 1000000))) ∧ Kq c.bn c.br w (w3.setCell ⟨w.heap.size, 0, none⟩ (.int .i64 (min ((s0 : Int) + (mm : Int)) 1000000)))) from fun w3 h1 h2 h3 => by
        have hkW := HW2.out.2.2.trans h2
        have hg : w3.grownBy (w3.setCell ⟨w.heap.size, 0, none⟩ (.int .i64 (min ((s0 : Int) + (mm : Int)) 1000000))) (some w.heap.size) := ⟨rfl, rfl, rfl, by simp [World.setCell], fun k _ hne => blk_setCell_other _ _ _ _ (by show k ≠ w.heap.size; intro e; exact hne (by rw [e]))⟩
        refine ⟨(hkW.keepsFrom (by omega) (by omega)).trans ((KeepsOthers.setCell _ _ _).from _), fun e => (World.cell?_of_block (w := w3) (blk_setCell_other _ _ _ _ (by show n3 + 1 + 1 ≠ w.heap.size; omega))).trans (hkW.cell e (by dsimp only; omega) (by dsimp only; omega)), ?_, h1.grow hg (B := w.heap.size) (fun r e => by cases e; exact Nat.le_refl _) (by omega) (by omega) (by omega) (by omega) (by omega) (by omega), (HW2.out.2.1.trans h2).grow hg (B := w.heap.size) (fun r e => by cases e; exact Nat.le_refl _) (Nat.le_refl _)⟩
        rw [HSM.out]
        have e1 : min ((s0 : Int) + (mm : Int)) 1000000 = ((cp (s0 + mm) : Nat) : Int) := by unfold cp; omega
        rw [e1]
        exact h3.set1 _)
      clear hz hb hbx2 hs0e hs2e hvn hp3 HP2 HP1
      gi_wp2
      refine region_round (fun w' => w'.cell? ⟨b0, 0, none⟩ = some (.pointer (some ⟨c.gc, 0, none⟩)) ∧ w'.cell? ⟨b4, 0, none⟩ = some (.int .i64 k) ∧ w'.cell? ⟨b5, 0, none⟩ = some (.int .i64 p) ∧ w'.cell? ⟨b3, 0, none⟩ = some (.int .i64 i) ∧ w'.cell? ⟨b2, 0, none⟩ = some (.int .i64 j)) (by kernel_rfl) (no_defer (by kernel_rfl)) hS6 (fun hHeld => ?_)
      refine wpAnyH_take (i := 1) (oi := { dst := some 32, op := Go.Op.move (Go.Operand.tmp 9), type := 3, pos := "l04_facts.go:464", after := #[], guard := none }) (v := ?v10) rfl (by kernel_rfl) (by kernel_rfl) (by kernel_rfl) (fun _ _ _ h => h) (Or.inl ⟨by rfl, ?h10⟩) hHeld ?r10
      case h10 => (intro w hSw; (try dsimp only at hSw); go_simp; try with_reducible rfl)
      try simp only [Act.put, List.setIfInBounds_toArray, List.set_cons_zero, List.set_cons_succ]
      refine wpAnyH_take (i := 2) (oi := { dst := some 33, op := Go.Op.load 81 (Go.Operand.tmp 0), type := 81, pos := "l04_facts.go:464", after := #[], guard := none }) (v := ?v11) rfl (by kernel_rfl) (by kernel_rfl) (by kernel_rfl) (fun _ _ _ h => h) (Or.inl ⟨by rfl, ?h11⟩) hHeld ?r11
      case h11 => (intro w hSw; (try dsimp only at hSw); go_simp; try with_reducible rfl)
      try simp only [Act.put, List.setIfInBounds_toArray, List.set_cons_zero, List.set_cons_succ]
      refine wpAnyH_take (i := 3) (oi := { dst := some 34, op := Go.Op.load 3 (Go.Operand.tmp 4), type := 3, pos := "l04_facts.go:464", after := #[], guard := none }) (v := ?v12) rfl (by kernel_rfl) (by kernel_rfl) (by kernel_rfl) (fun _ _ _ h => h) (Or.inl ⟨by rfl, ?h12⟩) hHeld ?r12
      case h12 => (intro w hSw; (try dsimp only at hSw); go_simp; try with_reducible rfl)
      try simp only [Act.put, List.setIfInBounds_toArray, List.set_cons_zero, List.set_cons_succ]
      refine wpAnyH_take (i := 4) (oi := { dst := some 35, op := Go.Op.load 3 (Go.Operand.tmp 5), type := 3, pos := "l04_facts.go:464", after := #[], guard := none }) (v := ?v13) rfl (by kernel_rfl) (by kernel_rfl) (by kernel_rfl) (fun _ _ _ h => h) (Or.inl ⟨by rfl, ?h13⟩) hHeld ?r13
      case h13 => (intro w hSw; (try dsimp only at hSw); go_simp; try with_reducible rfl)
      try simp only [Act.put, List.setIfInBounds_toArray, List.set_cons_zero, List.set_cons_succ]
      refine wpAnyH_take (i := 5) (oi := { dst := some 36, op := Go.Op.binOp Go.BinOp.add 3 (Go.Operand.tmp 35) (Go.Operand.const (Go.Value.int Go.IntKind.i64 1)) 3, type := 3, pos := "l04_facts.go:464", after := #[{ on := 4, ground := Go.Ground.data }], guard := none }) (v := ?v14) rfl (by kernel_rfl) (by kernel_rfl) (by kernel_rfl) (fun _ _ _ h => h) (Or.inl ⟨by rfl, ?h14⟩) hHeld ?r14
      case h14 => (intro w hSw; (try dsimp only at hSw); go_simp; try with_reducible rfl)
      try simp only [Act.put, List.setIfInBounds_toArray, List.set_cons_zero, List.set_cons_succ]
      refine wpAnyH_take (i := 6) (oi := { dst := some 37, op := Go.Op.load 3 (Go.Operand.tmp 3), type := 3, pos := "l04_facts.go:464", after := #[], guard := none }) (v := ?v15) rfl (by kernel_rfl) (by kernel_rfl) (by kernel_rfl) (fun _ _ _ h => h) (Or.inl ⟨by rfl, ?h15⟩) hHeld ?r15
      case h15 => (intro w hSw; (try dsimp only at hSw); go_simp; try with_reducible rfl)
      try simp only [Act.put, List.setIfInBounds_toArray, List.set_cons_zero, List.set_cons_succ]
      refine wpAnyH_take (i := 7) (oi := { dst := some 38, op := Go.Op.move (Go.Operand.tmp 8), type := 3, pos := "l04_facts.go:464", after := #[], guard := none }) (v := ?v16) rfl (by kernel_rfl) (by kernel_rfl) (by kernel_rfl) (fun _ _ _ h => h) (Or.inl ⟨by rfl, ?h16⟩) hHeld ?r16
      case h16 => (intro w hSw; (try dsimp only at hSw); go_simp; try with_reducible rfl)
      try simp only [Act.put, List.setIfInBounds_toArray, List.set_cons_zero, List.set_cons_succ]
      refine wpAnyH_take (i := 8) (oi := { dst := some 39, op := Go.Op.binOp Go.BinOp.add 3 (Go.Operand.tmp 37) (Go.Operand.tmp 38) 3, type := 3, pos := "l04_facts.go:464", after := #[{ on := 6, ground := Go.Ground.data }, { on := 7, ground := Go.Ground.data }], guard := none }) (v := ?v17) rfl (by kernel_rfl) (by kernel_rfl) (by kernel_rfl) (fun _ _ _ h => h) (Or.inl ⟨by rfl, ?h17⟩) hHeld ?r17
      case h17 => (intro w hSw; (try dsimp only at hSw); go_simp; try with_reducible rfl)
      try simp only [Act.put, List.setIfInBounds_toArray, List.set_cons_zero, List.set_cons_succ]
      refine wpAnyH_take (i := 9) (oi := { dst := some 40, op := Go.Op.load 3 (Go.Operand.tmp 2), type := 3, pos := "l04_facts.go:464", after := #[], guard := none }) (v := ?v18) rfl (by kernel_rfl) (by kernel_rfl) (by kernel_rfl) (fun _ _ _ h => h) (Or.inl ⟨by rfl, ?h18⟩) hHeld ?r18
      case h18 => (intro w hSw; (try dsimp only at hSw); go_simp; try with_reducible rfl)
      try simp only [Act.put, List.setIfInBounds_toArray, List.set_cons_zero, List.set_cons_succ]
      refine wpAnyH_ready (rs := [0, 10]) (by kernel_rfl) (by simp) ?_
      refine AllReadyH.cons (o := { dst := some 31, op := Go.Op.load 3 (Go.Operand.tmp 7), type := 3, pos := "l04_facts.go:464", after := #[], guard := none }) rfl (fun K hK => ?_) (AllReadyH.cons (o := { dst := some 41, op := Go.Op.call { callee := Go.Callee.value (Go.Operand.func 84), args := #[Go.Operand.tmp 33, Go.Operand.tmp 34, Go.Operand.tmp 36, Go.Operand.tmp 39, Go.Operand.tmp 40], argTypes := #[81, 3, 3, 3, 3] }, type := 3, pos := "l04_facts.go:464", after := #[{ on := 2, ground := Go.Ground.data }, { on := 3, ground := Go.Ground.data }, { on := 5, ground := Go.Ground.data }, { on := 8, ground := Go.Ground.data }, { on := 9, ground := Go.Ground.data }], guard := none }) rfl (fun K hK => ?_) AllReadyH.nil)
      · go_simp
        clear hHeld
        refine hK.out _ _ hS6 (fun hHeld => ?_)
        clear hK K
        try simp only [Act.put, List.setIfInBounds_toArray, List.set_cons_zero, List.set_cons_succ]
        refine wpAnyH_ready (rs := [10]) (by kernel_rfl) (by simp) ?_
        refine AllReadyH.cons (o := { dst := some 41, op := Go.Op.call { callee := Go.Callee.value (Go.Operand.func 84), args := #[Go.Operand.tmp 33, Go.Operand.tmp 34, Go.Operand.tmp 36, Go.Operand.tmp 39, Go.Operand.tmp 40], argTypes := #[81, 3, 3, 3, 3] }, type := 3, pos := "l04_facts.go:464", after := #[{ on := 2, ground := Go.Ground.data }, { on := 3, ground := Go.Ground.data }, { on := 5, ground := Go.Ground.data }, { on := 8, ground := Go.Ground.data }, { on := 9, ground := Go.Ground.data }], guard := none }) rfl (fun K hK => ?_) AllReadyH.nil
        go_wp2_with fail
        go_at_call 84
        refine Calls.mono HP3.out ?_
        rintro e w3 ⟨rfl, hw3, hk3⟩
        have hkk := hkd.trans hk3
        have hS7 := (HK2.out _ hkk).1
        have hB7 := (HK2.out _ hkk).2
        have HW3 := (show Hid _ from (⟨hw3, hkk, hB7⟩ : _ ∧ _ ∧ _))
        have q8 : w3.cell? ⟨w.heap.size, 0, none⟩ = some (.int .i64 (s0 : Nat)) := hB7.cell 0 (by simp)
        have z8 := hB7.frozen 0
        clear hw3 hk3 hkk hB7
        clear hHeld
        refine hK.out _ _ hS7 (fun hHeld => ?_)
        clear hK K
        try simp only [Act.put, List.setIfInBounds_toArray, List.set_cons_zero, List.set_cons_succ]
        refine wpAnyH_take (i := 11) (oi := { dst := some 42, op := Go.Op.binOp Go.BinOp.mul 3 (Go.Operand.tmp 32) (Go.Operand.tmp 41) 3, type := 3, pos := "l04_facts.go:464", after := #[{ on := 1, ground := Go.Ground.data }, { on := 10, ground := Go.Ground.data }], guard := none }) (v := ?v19) rfl (by kernel_rfl) (by kernel_rfl) (by kernel_rfl) (fun _ _ _ h => h) (Or.inl ⟨by rfl, ?h19⟩) hHeld ?r19
        case h19 => (intro w hSw; (try dsimp only at hSw); go_simp; try with_reducible rfl)
        try simp only [Act.put, List.setIfInBounds_toArray, List.set_cons_zero, List.set_cons_succ]
        refine wpAnyH_take (i := 12) (oi := { dst := some 43, op := Go.Op.binOp Go.BinOp.add 3 (Go.Operand.tmp 31) (Go.Operand.tmp 42) 3, type := 3, pos := "l04_facts.go:464", after := #[{ on := 0, ground := Go.Ground.data }, { on := 11, ground := Go.Ground.data }], guard := none }) (v := ?v20) rfl (by kernel_rfl) (by kernel_rfl) (by kernel_rfl) (fun _ _ _ h => h) (Or.inl ⟨by rfl, ?h20⟩) hHeld ?r20
        case h20 => (intro w hSw; (try dsimp only at hSw); go_simp; try with_reducible rfl)
        try simp only [Act.put, List.setIfInBounds_toArray, List.set_cons_zero, List.set_cons_succ]
        refine wpAnyH_ready (rs := [13]) (by kernel_rfl) (by simp) ?_
        refine AllReadyH.cons (o := { dst := some 44, op := Go.Op.call { callee := Go.Callee.builtin Go.Builtin.min, args := #[Go.Operand.tmp 43, Go.Operand.const (Go.Value.int Go.IntKind.i64 1000000)], argTypes := #[3, 3] }, type := 3, pos := "l04_facts.go:464", after := #[{ on := 12, ground := Go.Ground.data }], guard := none }) rfl (fun K hK => ?_) AllReadyH.nil
        go_simp
        clear hHeld
        refine hK.out _ _ hS7 (fun hHeld => ?_)
        clear hK K
        try simp only [Act.put, List.setIfInBounds_toArray, List.set_cons_zero, List.set_cons_succ]
        refine wpAnyH_ready (rs := [14]) (by kernel_rfl) (by simp) ?_
        refine AllReadyH.cons (o := { dst := none, op := Go.Op.store 3 (Go.Operand.tmp 7) (Go.Operand.tmp 44), type := 0, pos := "l04_facts.go:464", after := #[{ on := 13, ground := Go.Ground.data }, { on := 10, ground := Go.Ground.chain }, { on := 0, ground := Go.Ground.phase }, { on := 1, ground := Go.Ground.phase }, { on := 2, ground := Go.Ground.phase }, { on := 3, ground := Go.Ground.phase }, { on := 4, ground := Go.Ground.phase }, { on := 5, ground := Go.Ground.phase }, { on := 6, ground := Go.Ground.phase }, { on := 7, ground := Go.Ground.phase }, { on := 8, ground := Go.Ground.phase }, { on := 9, ground := Go.Ground.phase }, { on := 10, ground := Go.Ground.phase }, { on := 11, ground := Go.Ground.phase }, { on := 12, ground := Go.Ground.phase }, { on := 13, ground := Go.Ground.phase }], guard := none }) rfl (fun K hK => ?_) AllReadyH.nil
        go_simp
        clear hHeld
        refine hK.out _ _ (hSET.out w3 _ hS7) (fun hHeld => ?_)
        clear hK K
        try simp only [Act.put, List.setIfInBounds_toArray, List.set_cons_zero, List.set_cons_succ]
        refine wpAnyH_done (by kernel_rfl) ?_ _
        dsimp only [OnlyN]
        clear hHeld hS6 hS7 q7 q8 z8 kx km ka kp1
        gi_wp2
        exact HEND.out w3 HW3.out.1 HW3.out.2.1 HW3.out.2.2
      · go_wp2_with fail
        go_at_call 84
        refine Calls.mono HP3.out ?_
        rintro e w3 ⟨rfl, hw3, hk3⟩
        have hkk := hkd.trans hk3
        have hS7 := (HK2.out _ hkk).1
        have hB7 := (HK2.out _ hkk).2
        have HW3 := (show Hid _ from (⟨hw3, hkk, hB7⟩ : _ ∧ _ ∧ _))
        have q8 : w3.cell? ⟨w.heap.size, 0, none⟩ = some (.int .i64 (s0 : Nat)) := hB7.cell 0 (by simp)
        have z8 := hB7.frozen 0
        clear hw3 hk3 hkk hB7
        clear hHeld
        refine hK.out _ _ hS7 (fun hHeld => ?_)
        clear hK K
        try simp only [Act.put, List.setIfInBounds_toArray, List.set_cons_zero, List.set_cons_succ]
        refine wpAnyH_take (i := 11) (oi := { dst := some 42, op := Go.Op.binOp Go.BinOp.mul 3 (Go.Operand.tmp 32) (Go.Operand.tmp 41) 3, type := 3, pos := "l04_facts.go:464", after := #[{ on := 1, ground := Go.Ground.data }, { on := 10, ground := Go.Ground.data }], guard := none }) (v := ?v21) rfl (by kernel_rfl) (by kernel_rfl) (by kernel_rfl) (fun _ _ _ h => h) (Or.inl ⟨by rfl, ?h21⟩) hHeld ?r21
        case h21 => (intro w hSw; (try dsimp only at hSw); go_simp; try with_reducible rfl)
        try simp only [Act.put, List.setIfInBounds_toArray, List.set_cons_zero, List.set_cons_succ]
        refine wpAnyH_ready (rs := [0]) (by kernel_rfl) (by simp) ?_
        refine AllReadyH.cons (o := { dst := some 31, op := Go.Op.load 3 (Go.Operand.tmp 7), type := 3, pos := "l04_facts.go:464", after := #[], guard := none }) rfl (fun K hK => ?_) AllReadyH.nil
        go_simp
        clear hHeld
        refine hK.out _ _ hS7 (fun hHeld => ?_)
        clear hK K
        try simp only [Act.put, List.setIfInBounds_toArray, List.set_cons_zero, List.set_cons_succ]
        refine wpAnyH_take (i := 12) (oi := { dst := some 43, op := Go.Op.binOp Go.BinOp.add 3 (Go.Operand.tmp 31) (Go.Operand.tmp 42) 3, type := 3, pos := "l04_facts.go:464", after := #[{ on := 0, ground := Go.Ground.data }, { on := 11, ground := Go.Ground.data }], guard := none }) (v := ?v22) rfl (by kernel_rfl) (by kernel_rfl) (by kernel_rfl) (fun _ _ _ h => h) (Or.inl ⟨by rfl, ?h22⟩) hHeld ?r22
        case h22 => (intro w hSw; (try dsimp only at hSw); go_simp; try with_reducible rfl)
        try simp only [Act.put, List.setIfInBounds_toArray, List.set_cons_zero, List.set_cons_succ]
        refine wpAnyH_ready (rs := [13]) (by kernel_rfl) (by simp) ?_
        refine AllReadyH.cons (o := { dst := some 44, op := Go.Op.call { callee := Go.Callee.builtin Go.Builtin.min, args := #[Go.Operand.tmp 43, Go.Operand.const (Go.Value.int Go.IntKind.i64 1000000)], argTypes := #[3, 3] }, type := 3, pos := "l04_facts.go:464", after := #[{ on := 12, ground := Go.Ground.data }], guard := none }) rfl (fun K hK => ?_) AllReadyH.nil
        go_simp
        clear hHeld
        refine hK.out _ _ hS7 (fun hHeld => ?_)
        clear hK K
        try simp only [Act.put, List.setIfInBounds_toArray, List.set_cons_zero, List.set_cons_succ]
        refine wpAnyH_ready (rs := [14]) (by kernel_rfl) (by simp) ?_
        refine AllReadyH.cons (o := { dst := none, op := Go.Op.store 3 (Go.Operand.tmp 7) (Go.Operand.tmp 44), type := 0, pos := "l04_facts.go:464", after := #[{ on := 13, ground := Go.Ground.data }, { on := 10, ground := Go.Ground.chain }, { on := 0, ground := Go.Ground.phase }, { on := 1, ground := Go.Ground.phase }, { on := 2, ground := Go.Ground.phase }, { on := 3, ground := Go.Ground.phase }, { on := 4, ground := Go.Ground.phase }, { on := 5, ground := Go.Ground.phase }, { on := 6, ground := Go.Ground.phase }, { on := 7, ground := Go.Ground.phase }, { on := 8, ground := Go.Ground.phase }, { on := 9, ground := Go.Ground.phase }, { on := 10, ground := Go.Ground.phase }, { on := 11, ground := Go.Ground.phase }, { on := 12, ground := Go.Ground.phase }, { on := 13, ground := Go.Ground.phase }], guard := none }) rfl (fun K hK => ?_) AllReadyH.nil
        go_simp
        clear hHeld
        refine hK.out _ _ (hSET.out w3 _ hS7) (fun hHeld => ?_)
        clear hK K
        try simp only [Act.put, List.setIfInBounds_toArray, List.set_cons_zero, List.set_cons_succ]
        refine wpAnyH_done (by kernel_rfl) ?_ _
        dsimp only [OnlyN]
        clear hHeld hS6 hS7 q7 q8 z8 kx km ka kp1
        gi_wp2
        exact HEND.out w3 HW3.out.1 HW3.out.2.1 HW3.out.2.2
    case done =>
      rintro D xs W hD hS ⟨hbx, hwc, hkq⟩ hK
      have q7 : W.cell? ⟨w.heap.size, 0, none⟩ = some (.int .i64 (cp ((xs.unattach.map (fS c.V y (nats r) i j)).sum) : Nat)) := hbx.cell 0 (by simp)
      have HE : Hid (cp ((xs.unattach.map (fS c.V y (nats r) i j)).sum) = cp (LF c.V (y :: nats r) i j) ∧ WC c (W.putObj D (.deferred none)) ∧ Kq c.bn c.br w (W.putObj D (.deferred none))) := by
        have hb := HB.out
        have hz := HZ.out
        have hg := grownBy_putObj' W D (.deferred none)
        refine ⟨?_, hwc.grow hg (B := w.heap.size) (fun r e => by cases e; omega) (by omega) (by omega) (by omega) (by omega) (by omega) (by omega), hkq.grow hg (B := w.heap.size) (fun r e => by cases e; omega) (Nat.le_refl _)⟩
        have e1 : xs.unattach = xs.map (·.1) := rfl
        rw [e1, hS, HLF.out]
        rfl
      clear hbx hwc hkq hS
      go_wp2_with fail
      refine ⟨by simp, .inl ⟨_, _, rfl, run_takeDeferred hK, ?_⟩⟩
      exact ⟨_, results_tmp rfl _ _ _, by rw [HE.out.1]; rfl, HE.out.2.1, HE.out.2.2⟩
    case stop =>
      rintro D c pre W _ _ h _
      exact h.elim
end Go.Proofs.Ytpbpmhgoppbfnaa
