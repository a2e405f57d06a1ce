import Derived.Test.YtjpjjfgdgieapaaDoorUd
import Derived.Deep.RegionHeld3
/-! The program: what follows, one Prod. -/
namespace Go.Proofs.YtjpjjfgdgieapaaDoor
open Go.RowKit Go.Deep Go.Shelf
set_option linter.unusedVariables false
set_option maxRecDepth 100000
set_option linter.unusedSimpArgs false
attribute [local go_sem] Oper.semAt_some

/-- In a round an operation that is no defer statement goes as everywhere. -/
theorem op_round {P : Program} {o : Oper} {a : Act} {w : World} {K : Act → World → Prop} {Q : Exit → Act → World → Prop} {l n : Nat} (hd : ∀ c, o.op ≠ .defer c) (h : o.wp P a w K Q) : o.wpIn (Fence.wide.inRound l) n P a w K Q := by
  unfold Oper.wp at h
  unfold Oper.wpIn
  refine ⟨fun _ _ => trivial, ?_⟩
  rw [Oper.semAt_eq _ _ _ hd]
  generalize (execOp a.eval o).run P w = r at *
  cases r with
  | ok x w' =>
    cases x <;> simp only [Oper.upon, Oper.uponIn] at h ⊢ <;> first
      | exact h
      | exact ⟨fun h0 => absurd h0 (by simp [Fence.wide]), CallsIn.inRound l (callsIn_wide.2 h)⟩
      | exact ⟨fun h0 => absurd h0 (by simp [Fence.wide]), fun c cs _ => (h c cs).elim fun v h2 => h2.elim fun w2 h3 => ⟨v, w2, h3.1, stepsIn_wide.2 h3.2⟩⟩
  | halt x w' => cases x <;> exact h
theorem any_round {P : Program} {md : Region.Mode} {ops : Array Oper} {Q : Exit → Act → World → Prop} {l n : Nat} (hl : ¬ LetsOut Q) (hd : ∀ (i : Nat) (o : Oper), ops[i]? = some o → ∀ c, o.op ≠ .defer c) : ∀ (fuel : Nat) (listed : Array Bool) (a : Act) (w : World), wpAny P md ops Q fuel listed a w → wpAnyIn (Fence.wide.inRound l) n P md ops Q fuel listed a w := by
  intro fuel
  induction fuel with
  | zero => intro listed a w h; exact h
  | succ fuel ih =>
    intro listed a w h
    refine ⟨h.1, fun i hi => ?_⟩
    have h2 := h.2 i hi
    unfold wpOp at h2
    unfold wpOpIn
    cases ho : ops[i]? with
    | none =>
      simp only [ho] at h2
      exact ih _ _ _ h2
    | some o =>
      simp only [ho] at h2 ⊢
      by_cases hw : Region.wanted o (yielded ops a.tmps) = true
      · rw [if_pos hw] at h2 ⊢
        rcases h2 with h2 | h2
        · exact op_round (hd i o ho) (Oper.wp_mono (ih _) h2)
        · exact absurd h2.2 hl
      · rw [if_neg hw] at h2 ⊢
        exact ⟨fun _ _ => trivial, ih _ _ _ h2⟩
/-- Nothing but to go on. -/
def OnlyN (Q : Exit → Act → World → Prop) : Exit → Act → World → Prop
  | .normal, a, w => Q .normal a w
  | _, _, _ => False
theorem region_round {P : Program} {ops : Array Oper} {Q : Exit → Act → World → Prop} {l n id : Nat} {a : Act} {w : World} (S : World → Prop) (hm : P.follows .mixedOrders = true) (hd : ∀ (i : Nat) (o : Oper), ops[i]? = some o → ∀ c, o.op ≠ .defer c) (hS : S w.drew)
    (h : S w.drew → wpAnyH P .any ops (OnlyN Q) S ops.size (Array.replicate ops.size false) a w.drew) : (Code.region id ops true).wpIn (Fence.wide.inRound l) n P Q a w :=
  wpIn_mono (wpIn_region_any hm (any_round (Q := OnlyN Q) (fun h0 => by obtain ⟨_, _, h1⟩ := h0; exact h1) hd _ _ _ _ (wpAny_of_held _ _ _ _ (h hS)))) (fun e a w h1 => by
    cases e <;> first | exact h1 | exact h1.elim)
theorem no_defer {ops : Array Oper} (h : ops.toList.all (fun o => match o.op with | .defer _ => false | _ => true) = true) : ∀ (i : Nat) (o : Oper), ops[i]? = some o → ∀ c, o.op ≠ .defer c := by
  intro i o ho c hc
  have h1 := List.all_eq_true.1 h o (by
    have := Array.mem_of_getElem? ho
    simpa using this)
  rw [hc] at h1
  cases h1
/-- All blocks but three are as they were. -/
structure B3 (g h k : Nat) (w w' : World) : Prop where
  os : w'.os = w.os
  tape : w'.tape = w.tape
  output : w'.output = w.output
  size : w.heap.size ≤ w'.heap.size
  block : ∀ q, q < w.heap.size → q ≠ g → q ≠ h → q ≠ k → w'.heap[q]? = w.heap[q]?
theorem B3.of {g h k b : Nat} {w w' : World} (hb : Bt b w w') (e : b = g ∨ b = h ∨ b = k) : B3 g h k w w' :=
  ⟨hb.os, hb.tape, hb.output, hb.size, fun q h0 h1 h2 h3 => hb.block q h0 (fun e2 => by subst e2; rcases e with e | e | e; exact h1 e; exact h2 e; exact h3 e)⟩
theorem B3.refl (g h k : Nat) (w : World) : B3 g h k w w := ⟨rfl, rfl, rfl, Nat.le_refl _, fun _ _ _ _ _ => rfl⟩
theorem B3.trans {g h k : Nat} {a b c : World} (x : B3 g h k a b) (y : B3 g h k b c) : B3 g h k a c :=
  ⟨y.os.trans x.os, y.tape.trans x.tape, y.output.trans x.output, Nat.le_trans x.size y.size, fun q h0 h1 h2 h3 => (y.block q (Nat.lt_of_lt_of_le h0 x.size) h1 h2 h3).trans (x.block q h0 h1 h2 h3)⟩
/-- What stands while one goes from the last symbol to the first. -/
structure StO (w3 : World) (L : Nat → Int) (Wf V0 F : List Nat) (r : List Int) (bf gv gi : Nat) (pre : List Nat) (W : World) : Prop where
  b3 : B3 bf gv gi w3 W
  fol : WRow W bf (fl L Wf V0 F (r.drop (r.length - pre.length))).1
  beh : WRow W gv (vb L Wf V0 (r.drop (r.length - pre.length)))
  new : Box W gi 4 [.bool (fl L Wf V0 F (r.drop (r.length - pre.length))).2]
def TO (bf gv gi : Nat) (W : World) (q : Nat) : Prop := q = bf ∨ q = gv ∨ q = gi
theorem StO.bears {w3 : World} {L : Nat → Int} {Wf V0 F : List Nat} {r : List Int} {bf gv gi : Nat} : BearsT w3.heap.size (TO bf gv gi) (StO w3 L Wf V0 F r bf gv gi) := fun s W W' row h hg hr => by
  refine ⟨⟨⟨hg.os.trans h.b3.os, hg.tape.trans h.b3.tape, hg.output.trans h.b3.output, Nat.le_trans h.b3.size hg.size, fun q h0 h1 h2 h3 => (hg.block q (Nat.lt_of_lt_of_le h0 h.b3.size) (fun e => by have := (hr q e.symm).1; omega)).trans (h.b3.block q h0 h1 h2 h3)⟩, ?_, ?_, ?_⟩, fun q hq => hq⟩
  · exact World.rowIs.of_block h.fol (hg.block bf (World.rowIs.lt h.fol) (fun e => (hr bf e.symm).2 (.inl rfl)))
  · exact World.rowIs.of_block h.beh (hg.block gv (World.rowIs.lt h.beh) (fun e => (hr gv e.symm).2 (.inr (.inl rfl))))
  · exact h.new.keep (hg.block gi h.new.lt (fun e => (hr gi e.symm).2 (.inr (.inr rfl))))
theorem orW_row (V Wf : List Nat) (s : Nat) : orW V 0 (fun i => Wf.getD (s * 3 + i) 0) 3 = orR V 0 (rowS Wf s) := by
  simp [orR, orW, rowS]
theorem back95n {l bp c : Nat} {a : Option Addr} (J : List Nat → World → Prop) (m : Nat) (W : World) (hbox : Box W bp 29 [.slice a 0 c]) (hJ : J [] W) :
    CallsIn Fence.wide m Tryd.prog 95 #[.func (.yield l) #[] #[], .pointer (some ⟨bp, 0, none⟩)] W fun e W' => (∃ u, e = .returned u) ∧ ∃ xs, xs = bkL 0 0 ∧ J xs W' := by
  have c0 : W.cell? ⟨bp, 0, none⟩ = some (.slice a 0 c) := hbox.cell 0 (by simp)
  have HJ := (show Hid _ from hJ)
  clear hbox hJ
  refine callsIn_of_wp Tryd.func95 rfl trivial ?_ rfl
  simp only [Tryd.ntmps95, List.size_toArray, List.length_cons, List.length_nil, Nat.reduceAdd, Nat.reduceSub, Array.replicate_succ, Array.replicate_zero, List.push_toArray, List.append_toArray, List.nil_append, List.cons_append]
  refine wpIn_wide.2 ?_
  go_wp2_with fail
  go_loopw [3] (fun i wr => i = .int .i64 (-1) ∧ Hid (J [] wr)) (fun i _ => 0)
  case atStart => exact ⟨rfl, HJ.out⟩
  case round =>
    obtain ⟨rfl, HQ⟩ := hrel
    go_wp2_with fail
    go_end0
    exact ⟨⟨_, rfl⟩, _, rfl, HQ.out⟩
set_option maxHeartbeats 12800000 in
theorem follows88 (w : World) (gs bs gF g2 g3 bf bq N : Nat) (v0 v1 vo v3 : Value) (L : List Int) (Wf F : List Nat) (p : Pd) (v : Value)
    (hS : St w gs bs v0 v1 vo v3 L) (hLN : L.length = N) (hN : N ≤ 160) (hG : Box w gF 103 [.slice (some ⟨bf, 0, none⟩) N N]) (hG2 : Box w g2 58 [.pointer (some ⟨gs, 0, none⟩)]) (hG3 : Box w g3 103 [.slice (some ⟨bq, 0, none⟩) N N])
    (hW : WRow w bf F) (hWN : F.length = N * 3) (hWl : ∀ i, F.getD i 0 < 2 ^ 64) (hQ : WRow w bq Wf) (hQN : Wf.length = N * 3) (hQl : ∀ i, Wf.getD i 0 < 2 ^ 64)
    (n1 : gs ≠ bf) (n2 : bs ≠ bf) (n3 : gF ≠ bf) (n4 : g2 ≠ bf) (n5 : g3 ≠ bf) (n6 : bq ≠ bf) (hr : Ints w (fun c => c ≠ bf) p.right v) (hin : ∀ i (hi : i < p.right.length), 0 ≤ p.right[i] ∧ p.right[i] < N) (hl0 : 0 ≤ p.left) (hl1 : p.left < N) (hlen : p.right.length ≤ 12) :
    Calls Tryd.prog 88 #[.agg #[.int .i64 p.left, v, .string p.label, .int .i64 p.lev, .int .i64 p.asc], .pointer (some ⟨gF, 0, none⟩), .pointer (some ⟨g2, 0, none⟩), .pointer (some ⟨g3, 0, none⟩)] w fun e w' => e = .returned (.bool (fl (Lf L) Wf (rowS F p.left.toNat) F p.right).2) ∧ WRow w' bf (fl (Lf L) Wf (rowS F p.left.toNat) F p.right).1 ∧ Bt bf w w' := by
  obtain ⟨l, hl⟩ : ∃ l : Nat, p.left = l := ⟨p.left.toNat, by omega⟩
  rw [hl] at hl0 hl1 ⊢
  rw [Int.toNat_natCast]
  obtain ⟨ai, ci, pb, po, ei, hci, hcm, hai, hcelli⟩ := hr
  rw [ei]
  have HCI := (show Hid _ from hcelli); clear hcelli
  have HAI := (show Hid _ from hai); clear hai
  have HCM := (show Hid (ci ≤ maxLen) from hcm)
  unfold maxLen at hcm
  have HIN := (show Hid _ from hin); clear hin
  have hbl := World.rowIs.lt hW
  have hql := World.rowIs.lt hQ
  have hll : l * 3 + 3 ≤ F.length := by omega
  obtain ⟨V0, hV0⟩ : ∃ V0, rowS F l = V0 := ⟨_, rfl⟩
  have hV0l : V0.length = 3 := by rw [← hV0]; rfl
  have hV0t : ∀ i, V0.getD i 0 < 2 ^ 64 := by rw [← hV0]; exact rowS_lt hWl l
  rw [hV0]
  have C0 := hW.cell (i := l * 3) (by omega)
  have C1 := hW.cell (i := l * 3 + 1) (by omega)
  have C2 := hW.cell (i := l * 3 + 2) (by omega)
  rw [← getD_lt F 0 (i := l * 3) (by omega)] at C0
  rw [← getD_lt F 0 (i := l * 3 + 1) (by omega)] at C1
  rw [← getD_lt F 0 (i := l * 3 + 2) (by omega)] at C2
  obtain ⟨P1, hP1⟩ : ∃ o : Obj, o = .cells #[.int .i64 l, .slice ai p.right.length ci, .string p.label, .int .i64 p.lev, .int .i64 p.asc] 82 := ⟨_, rfl⟩
  obtain ⟨P2, hP2⟩ : ∃ o : Obj, o = .cells #[.bool false] 4 := ⟨_, rfl⟩
  obtain ⟨P3, hP3⟩ : ∃ o : Obj, o = .cells #[.int .u64 (F.getD (l * 3) 0 : Nat), .int .u64 (F.getD (l * 3 + 1) 0 : Nat), .int .u64 (F.getD (l * 3 + 2) 0 : Nat)] 102 := ⟨_, rfl⟩
  have hb1 := bel_alloc w P1
  have hb2 := bel_trans hb1 (bel_alloc (w.alloc P1) P2)
  have hb3 := bel_trans hb2 (bel_alloc ((w.alloc P1).alloc P2) P3)
  have hb4 := bel_trans hb3 (bel_alloc (((w.alloc P1).alloc P2).alloc P3) (.cells #[.slice ai p.right.length ci] 29))
  have G0 : w.cell? ⟨gF, 0, none⟩ = some (.slice (some ⟨bf, 0, none⟩) N N) := hG.cell 0 (by simp)
  have G1 : (w.alloc P1).cell? ⟨gF, 0, none⟩ = some (.slice (some ⟨bf, 0, none⟩) N N) := (hG.still hb1).cell 0 (by simp)
  have G2 : ((w.alloc P1).alloc P2).cell? ⟨gF, 0, none⟩ = some (.slice (some ⟨bf, 0, none⟩) N N) := (hG.still hb2).cell 0 (by simp)
  have D0 := C0
  have D1 := C1
  have D2 := C2
  rw [← hb2.cell (lt_of_cell C0)] at D0
  rw [← hb2.cell (lt_of_cell C1)] at D1
  rw [← hb2.cell (lt_of_cell C2)] at D2
  clear C0 C1 C2
  obtain ⟨w3, hw3⟩ : ∃ w3, (((w.alloc P1).alloc P2).alloc P3).alloc (.cells #[.slice ai p.right.length ci] 29) = w3 := ⟨_, rfl⟩
  have hsz3 : w3.heap.size = w.heap.size + 1 + 1 + 1 + 1 := by rw [← hw3]; simp
  have hx2 : Box w3 (w.heap.size + 1) 4 [.bool false] := by
    have := Box.new (w.alloc P1) 4 [.bool false]
    rw [World.size_alloc] at this
    rw [← hw3, hP2]
    exact (this.still (bel_alloc _ _)).still (bel_alloc _ _)
  have hx3 : WRow w3 (w.heap.size + 1 + 1) V0 := by
    have h1 := Box.new ((w.alloc P1).alloc P2) 102 [.int .u64 (F.getD (l * 3) 0 : Nat), .int .u64 (F.getD (l * 3 + 1) 0 : Nat), .int .u64 (F.getD (l * 3 + 2) 0 : Nat)]
    rw [World.size_alloc, World.size_alloc] at h1
    have h2 := (h1.still (bel_alloc _ (.cells #[.slice ai p.right.length ci] 29))).ex
    rw [← hw3, hP3, ← hV0]
    obtain ⟨c, q1, q2, q3⟩ := h2
    refine ⟨c, q1, q2, fun i hi => ?_⟩
    have hi3 : i < 3 := hi
    rw [q3 i hi]
    have : i = 0 ∨ i = 1 ∨ i = 2 := by omega
    rcases this with rfl | rfl | rfl <;> rfl
  have hx4 : Box w3 (w.heap.size + 1 + 1 + 1) 29 [.slice ai p.right.length ci] := by
    have := Box.new (((w.alloc P1).alloc P2).alloc P3) 29 [.slice ai p.right.length ci]
    rw [World.size_alloc, World.size_alloc, World.size_alloc] at this
    rw [← hw3]
    exact this
  rw [hw3] at hb4
  have hx1 : Box ((w.alloc P1).alloc P2) w.heap.size 82 [.int .i64 l, .slice ai p.right.length ci, .string p.label, .int .i64 p.lev, .int .i64 p.asc] := by
    rw [hP1]
    exact (Box.new w 82 [.int .i64 l, .slice ai p.right.length ci, .string p.label, .int .i64 p.lev, .int .i64 p.asc]).still (bel_alloc _ _)
  have R0 : ((w.alloc P1).alloc P2).cell? ⟨w.heap.size, 0, none⟩ = some (.int .i64 l) := hx1.cell 0 (by simp)
  have R1 : (((w.alloc P1).alloc P2).alloc P3).cell? ⟨w.heap.size, 1, none⟩ = some (.slice ai p.right.length ci) := (hx1.still (bel_alloc _ _)).cell 1 (by simp)
  have H3 : Hid (Below w.heap.size w w3 ∧ St w3 gs bs v0 v1 vo v3 L ∧ Box w3 gF 103 [.slice (some ⟨bf, 0, none⟩) N N] ∧ Box w3 g2 58 [.pointer (some ⟨gs, 0, none⟩)] ∧ Box w3 g3 103 [.slice (some ⟨bq, 0, none⟩) N N] ∧ WRow w3 bf F ∧ WRow w3 bq Wf ∧ Box w3 (w.heap.size + 1 + 1 + 1) 29 [.slice ai p.right.length ci]) :=
    ⟨hb4, hS.still hb4, hG.still hb4, hG2.still hb4, hG3.still hb4, hW.still hb4, hQ.still hb4, hx4⟩
  have HLT := (show Hid (gs < w.heap.size ∧ bs < w.heap.size ∧ gF < w.heap.size ∧ g2 < w.heap.size ∧ g3 < w.heap.size) from ⟨hS.box.lt, World.rowIs.lt hS.row, hG.lt, hG2.lt, hG3.lt⟩)
  have HB89 := (show Hid _ from back89 ai p.right.length ci (((w.alloc P1).alloc P2).alloc P3))
  have H0 : Hid (StO w3 (Lf L) Wf V0 F p.right bf (w.heap.size + 1 + 1) (w.heap.size + 1) [] w3) := by
    have e : p.right.drop (p.right.length - ([] : List Nat).length) = [] := List.drop_eq_nil_of_le (by simp)
    refine ⟨B3.refl _ _ _ _, ?_, ?_, ?_⟩
    · rw [e]; exact hW.still hb4
    · rw [e]; exact hx3
    · rw [e]; exact hx2
  have HS3 := (show Hid (w3.heap.size = w.heap.size + 1 + 1 + 1 + 1) from hsz3)
  have HNE := (show Hid (gs ≠ bf ∧ bs ≠ bf ∧ gF ≠ bf ∧ g2 ≠ bf ∧ g3 ≠ bf ∧ bq ≠ bf) from ⟨n1, n2, n3, n4, n5, n6⟩)
  have HIV := (show Hid (V0.length = 3 ∧ (∀ i, V0.getD i 0 < 2 ^ 64) ∧ F.length = N * 3 ∧ (∀ i, F.getD i 0 < 2 ^ 64) ∧ Wf.length = N * 3 ∧ (∀ i, Wf.getD i 0 < 2 ^ 64) ∧ L.length = N ∧ bf < w.heap.size ∧ bq < w.heap.size) from ⟨hV0l, hV0t, hWN, hWl, hQN, hQl, hLN, hbl, hql⟩)
  have HR0 := (show Hid (∀ w', Bt bf w w' → WRow w' bf (fl (Lf L) Wf V0 F p.right).1 → True) from fun _ _ _ => trivial)
  have HW3 := (show Hid _ from hw3)
  clear hV0 hV0l hV0t hWl hQl hS hG hG2 hG3 hW hQ hb1 hb2 hb3 hb4 hx1 hx2 hx3 hx4 hsz3 n1 n2 n3 n4 n5 n6 hbl hql hWN hQN hLN hw3 HR0
  generalize hq0 : F.getD (l * 3) 0 = q0 at *
  generalize hq1 : F.getD (l * 3 + 1) 0 = q1 at *
  generalize hq2 : F.getD (l * 3 + 2) 0 = q2 at *
  clear hq0 hq1 hq2 hl
  refine (callsIn_wide (n := 5)).1 ?_
  refine callsIn_of_wp_marks Tryd.func88 rfl trivial ?_ rfl
  simp only [Tryd.ntmps88, List.size_toArray, List.length_cons, List.length_nil, Nat.reduceAdd, Nat.reduceSub, Array.replicate_succ, Array.replicate_zero, List.push_toArray, List.append_toArray, List.nil_append, List.cons_append]
  refine wpIn_wide.2 ?_
  subst hP1 hP2 hP3
  go_wp2_with fail
  refine Calls.mono HB89.out ?_
  rintro e w4 ⟨rfl, hw4⟩
  rw [HW3.out] at hw4
  subst hw4
  clear HW3 HB89 G0 G1 G2 D0 D1 D2 R0 R1
  go_wp2_with fail
  refine (wpIn_wide (n := 5)).1 ?_
  refine wpIn_rangeD (α := Nat) rfl (by omega) (gf := 95) (lb := #[.pointer (some ⟨w.heap.size + 1 + 1 + 1, 0, none⟩)]) rfl trivial (enters_of Tryd.func95 (by kernel_rfl) rfl) (encs := bkE p.right) (fun _ => rfl) (TO bf (w.heap.size + 1 + 1) (w.heap.size + 1)) (BkX p.right.length) (StO w4 (Lf L) Wf V0 F p.right bf (w.heap.size + 1 + 1) (w.heap.size + 1)) StO.bears ?hT H0.out (S := fun xs => xs = bkL p.right.length p.right.length) ?hseq ?hround ?hdone
  case hT =>
    intro s W q h ht
    have hz := HS3.out
    have := HIV.out.2.2.2.2.2.2.2.1
    rcases ht with rfl | rfl | rfl <;> omega
  case hseq =>
    intro J W hbW hsz hJI hJb hY hJ0
    have hz := HS3.out
    have hbf := HIV.out.2.2.2.2.2.2.2.1
    have hbx := H3.out.2.2.2.2.2.2.2.still hbW
    by_cases h1 : 1 ≤ p.right.length
    · obtain ⟨rfl, hpb⟩ := HAI.out (by omega)
      have hpw := lt_of_cell (HCI.out 0 (by omega))
      have hpw' : pb < w.heap.size := hpw
      exact back95 (B0 := w4.heap.size + 2) (off := po) (cap := ci) (bp := w.heap.size + 1 + 1 + 1) (b := pb) p.right (TO bf (w.heap.size + 1 + 1) (w.heap.size + 1)) J (fun s V q hj ht => by
        rcases ht with rfl | rfl | rfl
        · exact ⟨fun e => hpb e.symm, by omega⟩
        · constructor <;> omega
        · constructor <;> omega) (by omega) (by omega) (fun m pre x W1 hj hx => yield_any (hY pre x W1 hj hx)) _ W (fun i hi => by
        have hc := HCI.out i hi
        rw [hbW.cell (by have := H3.out.1.size; show pb < _; omega), H3.out.1.cell (by show pb < _; omega)]
        exact hc) hbx hJ0 (by omega) h1 hci HCM.out
    · have e0 : p.right.length = 0 := by omega
      rw [e0] at hbx ⊢
      exact back95n J _ W hbx hJ0
  case hround =>
    intro pre x W hi hx hsz
    have hpl := hx.1
    have hxl : x < p.right.length := by have := hx.2.1; omega
    have HXI := (show Hid (x = p.right.length - 1 - pre.length) from hx.2.1)
    clear hx
    have hz := HS3.out
    simp only [bkE]
    rw [getD_lt _ _ hxl]
    gi_wp2
    refine ⟨Below.refl _ _, fun o hIo => ?_⟩
    obtain ⟨Wb, hWb⟩ : ∃ Wb : World, W.putObj (w4.heap.size + 1) o = Wb := ⟨_, rfl⟩
    rw [hWb] at hIo ⊢
    have hWz : w4.heap.size + 2 ≤ Wb.heap.size := by rw [← hWb]; simpa using hsz
    have e1 : p.right.length - pre.length = x + 1 := by have := HXI.out; omega
    have e2 : p.right.length - (pre ++ [x]).length = x := by have := HXI.out; rw [List.length_append]; simp; omega
    obtain ⟨hb3, hfol, hbeh, hnew⟩ := hIo
    rw [e1] at hfol hbeh hnew
    have edrop : p.right.drop x = p.right[x] :: p.right.drop (x + 1) := List.drop_eq_getElem_cons hxl
    obtain ⟨s1, s2⟩ := HIN.out x hxl
    obtain ⟨s, hs⟩ : ∃ s : Nat, p.right[x] = (s : Int) := ⟨p.right[x].toNat, by omega⟩
    rw [hs] at edrop s1 s2 ⊢
    have hsN : s < N := by omega
    obtain ⟨i1, i2, i3, i4, i5, i6, i7, i8, i9⟩ := HIV.out
    have fl1 : (fl (Lf L) Wf V0 F (p.right.drop x)).1 = orR (fl (Lf L) Wf V0 F (p.right.drop (x + 1))).1 s (vb (Lf L) Wf V0 (p.right.drop (x + 1))) := by rw [edrop]; rfl
    have fl2 : (fl (Lf L) Wf V0 F (p.right.drop x)).2 = ((fl (Lf L) Wf V0 F (p.right.drop (x + 1))).2 || grewO (orR (fl (Lf L) Wf V0 F (p.right.drop (x + 1))).1 s (vb (Lf L) Wf V0 (p.right.drop (x + 1)))) (fl (Lf L) Wf V0 F (p.right.drop (x + 1))).1 (s * 3)) := by rw [edrop]; rfl
    have fl3 : vb (Lf L) Wf V0 (p.right.drop x) = orR (if Lf L s = 0 then vb (Lf L) Wf V0 (p.right.drop (x + 1)) else [0, 0, 0]) 0 (rowS Wf s) := by rw [edrop]; rfl
    have hVl := vb_len (L := Lf L) (Wf := Wf) i1 (p.right.drop (x + 1))
    have hVt := vb_lt (L := Lf L) i2 i6 (p.right.drop (x + 1))
    have hFl := fl_len (L := Lf L) (Wf := Wf) (V0 := V0) (F := F) (p.right.drop (x + 1))
    have hFt := fl_lt (L := Lf L) i2 i6 i4 (p.right.drop (x + 1))
    have HEND := (show Hid (∀ (W' : World) (a' : Act), B3 bf (w.heap.size + 1 + 1) (w.heap.size + 1) Wb W' → WRow W' bf (fl (Lf L) Wf V0 F (p.right.drop x)).1 → WRow W' (w.heap.size + 1 + 1) (vb (Lf L) Wf V0 (p.right.drop x)) → Box W' (w.heap.size + 1) 4 [.bool (fl (Lf L) Wf V0 F (p.right.drop x)).2] → rgPostD (TO bf (w.heap.size + 1 + 1) (w.heap.size + 1)) (w4.heap.size + 1) (StO w4 (Lf L) Wf V0 F p.right bf (w.heap.size + 1 + 1) (w.heap.size + 1)) (pre ++ [x]) Wb .normal a' W') from fun W' a' k1 k2 k3 k4 => by
      refine ⟨⟨⟨k1.os, k1.tape, k1.output, k1.size, fun q h1 h2 h3 => k1.block q h1 (fun e => h3 (.inl e)) (fun e => h3 (.inr (.inl e))) (fun e => h3 (.inr (.inr e))), fun q hq => .inl hq⟩, k1.block _ (by omega) (by omega) (by omega) (by omega)⟩, ⟨hb3.trans k1, ?_, ?_, ?_⟩⟩
      · rw [e2]; exact k2
      · rw [e2]; exact k3
      · rw [e2]; exact k4)
    rw [fl1, fl2, fl3] at HEND
    clear fl1 fl2 fl3 edrop
    generalize vb (Lf L) Wf V0 (p.right.drop (x + 1)) = V at *
    generalize (fl (Lf L) Wf V0 F (p.right.drop (x + 1))).1 = Fj at *
    generalize (fl (Lf L) Wf V0 F (p.right.drop (x + 1))).2 = nj at *
    obtain ⟨t1, t2, t3, t4, t5⟩ := HLT.out
    obtain ⟨m1, m2, m3, m4, m5, m6⟩ := HNE.out
    -- what is read in any world that is reached
    have HLOW := (show Hid (∀ W', B3 bf (w.heap.size + 1 + 1) (w.heap.size + 1) Wb W' → St W' gs bs v0 v1 vo v3 L ∧ Box W' gF 103 [.slice (some ⟨bf, 0, none⟩) N N] ∧ Box W' g2 58 [.pointer (some ⟨gs, 0, none⟩)] ∧ Box W' g3 103 [.slice (some ⟨bq, 0, none⟩) N N] ∧ WRow W' bq Wf) from fun W' k1 => by
      have k2 := hb3.trans k1
      obtain ⟨_, z1, z2, z3, z4, _, z6, _⟩ := H3.out
      exact ⟨⟨z1.box.keep (k2.block _ (by omega) m1 (by omega) (by omega)), World.rowIs.of_block z1.row (k2.block _ (by omega) m2 (by omega) (by omega)), z1.ne⟩, z2.keep (k2.block _ (by omega) m3 (by omega) (by omega)), z3.keep (k2.block _ (by omega) m4 (by omega) (by omega)), z4.keep (k2.block _ (by omega) m5 (by omega) (by omega)), World.rowIs.of_block z6 (k2.block _ (by omega) m6 (by omega) (by omega))⟩)
    obtain ⟨u0x, hu0⟩ : ∃ u, V.getD 0 0 = u := ⟨_, rfl⟩
    obtain ⟨u1x, hu1⟩ : ∃ u, V.getD 1 0 = u := ⟨_, rfl⟩
    obtain ⟨u2x, hu2⟩ : ∃ u, V.getD 2 0 = u := ⟨_, rfl⟩
    have hS0 : Wb.drew.cell? ⟨gF, 0, none⟩ = some (.slice (some ⟨bf, 0, none⟩) N N) ∧ Wb.drew.cell? ⟨w.heap.size + 1 + 1, 0, none⟩ = some (.int .u64 (u0x : Nat)) ∧ Wb.drew.cell? ⟨w.heap.size + 1 + 1, 1, none⟩ = some (.int .u64 (u1x : Nat)) ∧ Wb.drew.cell? ⟨w.heap.size + 1 + 1, 2, none⟩ = some (.int .u64 (u2x : Nat)) := by
      have hd : Below Wb.heap.size Wb Wb.drew := (Below.refl Wb.heap.size Wb).drew
      have hv := hbeh.still hd
      have h1 := (HLOW.out Wb (B3.refl _ _ _ _)).2.1.still hd
      refine ⟨h1.cell 0 (by simp), ?_, ?_, ?_⟩
      · rw [← hu0, getD_lt V 0 (by omega)]; exact hv.cell (by omega)
      · rw [← hu1, getD_lt V 0 (by omega)]; exact hv.cell (by omega)
      · rw [← hu2, getD_lt V 0 (by omega)]; exact hv.cell (by omega)
    have HA1 := (show Hid (Calls Tryd.prog 87 #[.pointer (some ⟨bf, s * 3, none⟩), .agg #[.int .u64 (u0x : Nat), .int .u64 (u1x : Nat), .int .u64 (u2x : Nat)]] Wb.drew fun e w' => e = .returned (.bool (grewO (orR Fj s V) Fj (s * 3))) ∧ WRow w' bf (orR Fj s V) ∧ Bt bf Wb.drew w') from by
      show Calls Tryd.prog 87 _ Wb.drew _
      rw [← hu0, ← hu1, ← hu2]
      exact addAllB bf (s * 3) Fj (fun i => V.getD i 0) Wb.drew (hfol.still ((Below.refl Wb.heap.size Wb).drew)) (by omega) hFt hVt)
    generalize hG1 : grewO (orR Fj s V) Fj (s * 3) = Gb at *
    have HV := (show Hid (WRow Wb (w.heap.size + 1 + 1) V ∧ Box Wb (w.heap.size + 1) 4 [.bool nj] ∧ V.length = 3 ∧ (∀ i, V.getD i 0 < 2 ^ 64) ∧ bf < Wb.heap.size) from ⟨hbeh, hnew, hVl, hVt, World.rowIs.lt hfol⟩)
    have hnb1 : w.heap.size + 1 + 1 ≠ bf := by omega
    have hnb2 : w.heap.size + 1 ≠ bf := by omega
    have hnb3 : w.heap.size + 1 + 1 ≠ w.heap.size + 1 := by omega
    have HCS := (show Hid (∀ W', B3 bf (w.heap.size + 1 + 1) (w.heap.size + 1) Wb W' → W'.cell? ⟨bs, s, none⟩ = some (.int .i64 (Lf L s))) from fun W' k1 => by
      have h1 : s < L.length := by omega
      rw [Lf_lt h1]
      exact (HLOW.out W' k1).1.cell s h1)
    obtain ⟨Ls, hLs⟩ : ∃ Ls, Lf L s = Ls := ⟨_, rfl⟩
    rw [hLs] at HCS HEND
    have hsL : s < L.length := by omega
    have HU := (show Hid (V.getD 0 0 = u0x ∧ V.getD 1 0 = u1x ∧ V.getD 2 0 = u2x) from ⟨hu0, hu1, hu2⟩)
    clear hu0 hu1 hu2 hVl
    clear hG1 hfol hbeh hnew hb3 hWb hi hsz e1 e2 HXI hpl hs s1 s2 hLs hz
    gi_wp2
    refine region_round (fun w' => w'.cell? ⟨gF, 0, none⟩ = some (.slice (some ⟨bf, 0, none⟩) N N) ∧ w'.cell? ⟨w.heap.size + 1 + 1, 0, none⟩ = some (.int .u64 (u0x : Nat)) ∧ w'.cell? ⟨w.heap.size + 1 + 1, 1, none⟩ = some (.int .u64 (u1x : Nat)) ∧ w'.cell? ⟨w.heap.size + 1 + 1, 2, none⟩ = some (.int .u64 (u2x : Nat))) (by kernel_rfl) (no_defer (by kernel_rfl)) hS0 (fun hHeld => ?_)
    refine wpAnyH_take (i := 0) (oi := { dst := some 20, op := Go.Op.load 103 (Go.Operand.tmp 1), type := 103, pos := "l04_facts.go:336", after := #[], guard := none }) (v := ?v0) rfl (by kernel_rfl) (by kernel_rfl) (by kernel_rfl) (fun _ _ _ h => h) (Or.inl ⟨by rfl, ?h0⟩) hHeld ?r0
    case h0 => (intro w hSw; (try dsimp only at hSw); go_simp; try with_reducible rfl)
    try simp only [Act.put, List.setIfInBounds_toArray, List.set_cons_zero, List.set_cons_succ]
    refine wpAnyH_take (i := 1) (oi := { dst := some 21, op := Go.Op.move (Go.Operand.tmp 9), type := 3, pos := "l04_facts.go:336", after := #[], guard := none }) (v := ?v1) rfl (by kernel_rfl) (by kernel_rfl) (by kernel_rfl) (fun _ _ _ h => h) (Or.inl ⟨by rfl, ?h1⟩) hHeld ?r1
    case h1 => (intro w hSw; (try dsimp only at hSw); go_simp; try with_reducible rfl)
    try simp only [Act.put, List.setIfInBounds_toArray, List.set_cons_zero, List.set_cons_succ]
    refine wpAnyH_take (i := 2) (oi := { dst := some 22, op := Go.Op.indexAddr 103 (Go.Operand.tmp 20) (Go.Operand.tmp 21), type := 0, pos := "l04_facts.go:336", after := #[{ on := 0, ground := Go.Ground.data }, { on := 1, ground := Go.Ground.data }], guard := none }) (v := ?v2) rfl (by kernel_rfl) (by kernel_rfl) (by kernel_rfl) (fun _ _ _ h => h) (Or.inl ⟨by rfl, ?h2⟩) hHeld ?r2
    case h2 => (intro w hSw; (try dsimp only at hSw); go_simp; try with_reducible rfl)
    try simp only [Act.put, List.setIfInBounds_toArray, List.set_cons_zero, List.set_cons_succ]
    refine wpAnyH_take (i := 3) (oi := { dst := some 23, op := Go.Op.load 102 (Go.Operand.tmp 7), type := 102, pos := "l04_facts.go:336", after := #[], guard := none }) (v := ?v3) rfl (by kernel_rfl) (by kernel_rfl) (by kernel_rfl) (fun _ _ _ h => h) (Or.inl ⟨by rfl, ?h3⟩) hHeld ?r3
    case h3 => (intro w hSw; (try dsimp only at hSw); go_simp; try with_reducible rfl)
    try simp only [Act.put, List.setIfInBounds_toArray, List.set_cons_zero, List.set_cons_succ]
    refine wpAnyH_ready (rs := [4]) (by kernel_rfl) (by simp) ?_
    refine (AllReadyH.cons (o := { dst := some 24, op := Go.Op.call { callee := Go.Callee.value (Go.Operand.func 87), args := #[Go.Operand.tmp 22, Go.Operand.tmp 23], argTypes := #[102, 102] }, type := 4, pos := "l04_facts.go:336", after := #[{ on := 2, ground := Go.Ground.data }, { on := 3, ground := Go.Ground.data }], guard := none }) rfl (fun K hK => ?_) AllReadyH.nil)
    go_simp
    refine Calls.mono HA1.out ?_
    rintro e w5 ⟨rfl, hw5, hbt5⟩
    have hb5 : Bt bf Wb w5 := (Bt.of_below (Below.refl Wb.heap.size Wb).drew).trans hbt5
    have h35 : B3 bf (w.heap.size + 1 + 1) (w.heap.size + 1) Wb w5 := B3.of hb5 (.inl rfl)
    obtain ⟨zS, zF, z2, z3, zQ⟩ := HLOW.out w5 h35
    have hv5 : WRow w5 (w.heap.size + 1 + 1) V := World.rowIs.of_block HV.out.1 (hb5.block _ (World.rowIs.lt HV.out.1) hnb1)
    have hn5 : Box w5 (w.heap.size + 1) 4 [.bool nj] := HV.out.2.1.keep (hb5.block _ HV.out.2.1.lt hnb2)
    have hvl := HV.out.2.2.1
    have HS5 : Hid (w5.cell? ⟨gF, 0, none⟩ = some (.slice (some ⟨bf, 0, none⟩) N N) ∧ w5.cell? ⟨w.heap.size + 1 + 1, 0, none⟩ = some (.int .u64 (u0x : Nat)) ∧ w5.cell? ⟨w.heap.size + 1 + 1, 1, none⟩ = some (.int .u64 (u1x : Nat)) ∧ w5.cell? ⟨w.heap.size + 1 + 1, 2, none⟩ = some (.int .u64 (u2x : Nat))) := by
      obtain ⟨hu0, hu1, hu2⟩ := HU.out
      refine ⟨zF.cell 0 (by simp), ?_, ?_, ?_⟩
      · rw [← hu0, getD_lt V 0 (by omega)]; exact hv5.cell (by omega)
      · rw [← hu1, getD_lt V 0 (by omega)]; exact hv5.cell (by omega)
      · rw [← hu2, getD_lt V 0 (by omega)]; exact hv5.cell (by omega)
    have H5 := (show Hid (B3 bf (w.heap.size + 1 + 1) (w.heap.size + 1) Wb w5 ∧ WRow w5 bf (orR Fj s V) ∧ WRow w5 (w.heap.size + 1 + 1) V ∧ Box w5 (w.heap.size + 1) 4 [.bool nj]) from ⟨h35, hw5, hv5, hn5⟩)
    have hn0 : w5.cell? ⟨w.heap.size + 1, 0, none⟩ = some (.bool nj) := hn5.cell 0 (by simp)
    have hnf : w5.frozen? ⟨w.heap.size + 1, 0, none⟩ = false := hn5.frozen 0
    clear zS zF z2 z3 zQ hv5 hn5 h35 hb5 hbt5 hw5 hS0 HA1 hvl
    dsimp only
    clear hHeld
    refine hK.out _ _ HS5.out (fun hHeld => ?_)
    clear hK K HS5
    try simp only [Act.put, List.setIfInBounds_toArray, List.set_cons_zero, List.set_cons_succ]
    refine wpAnyH_done (by kernel_rfl) ?_ _
    clear hHeld
    simp only [OnlyN]
    obtain ⟨f0x, hf0⟩ : ∃ u, Wf.getD (s * 3) 0 = u := ⟨_, rfl⟩
    obtain ⟨f1x, hf1⟩ : ∃ u, Wf.getD (s * 3 + 1) 0 = u := ⟨_, rfl⟩
    obtain ⟨f2x, hf2⟩ : ∃ u, Wf.getD (s * 3 + 2) 0 = u := ⟨_, rfl⟩
    have HFIN := (show Hid (∀ (W7 : World) (V' : List Nat) (nj' : Bool), B3 bf (w.heap.size + 1 + 1) (w.heap.size + 1) Wb W7 → WRow W7 bf (orR Fj s V) → WRow W7 (w.heap.size + 1 + 1) V' → V'.length = 3 → (∀ i, V'.getD i 0 < 2 ^ 64) → V' = (if Ls = 0 then V else [0, 0, 0]) → Box W7 (w.heap.size + 1) 4 [.bool nj'] → nj' = (nj || Gb) → W7.cell? ⟨g3, 0, none⟩ = some (.slice (some ⟨bq, 0, none⟩) N N) ∧ W7.cell? ⟨bq, s * 3, none⟩ = some (.int .u64 (f0x : Nat)) ∧ W7.cell? ⟨bq, s * 3 + 1, none⟩ = some (.int .u64 (f1x : Nat)) ∧ W7.cell? ⟨bq, s * 3 + 2, none⟩ = some (.int .u64 (f2x : Nat)) ∧ Calls Tryd.prog 87 #[.pointer (some ⟨w.heap.size + 1 + 1, 0, none⟩), .agg #[.int .u64 (f0x : Nat), .int .u64 (f1x : Nat), .int .u64 (f2x : Nat)]] W7 fun e w' => (∃ B, e = .returned (.bool B)) ∧ ∀ a', rgPostD (TO bf (w.heap.size + 1 + 1) (w.heap.size + 1)) (w4.heap.size + 1) (StO w4 (Lf L) Wf V0 F p.right bf (w.heap.size + 1 + 1) (w.heap.size + 1)) (pre ++ [x]) Wb .normal a' w') from fun W7 V' nj' k1 k2 k3 k4 k5 k6 k7 k8 => by
      obtain ⟨_, _, _, y3, y4⟩ := HLOW.out W7 k1
      refine ⟨y3.cell 0 (by simp), ?_, ?_, ?_, ?_⟩
      · rw [← hf0, getD_lt Wf 0 (by omega)]; exact y4.cell (by omega)
      · rw [← hf1, getD_lt Wf 0 (by omega)]; exact y4.cell (by omega)
      · rw [← hf2, getD_lt Wf 0 (by omega)]; exact y4.cell (by omega)
      · have h1 := addAllB (w.heap.size + 1 + 1) 0 V' (fun i => Wf.getD (s * 3 + i) 0) W7 k3 (by omega) k5 (fun i => i6 _)
        rw [orW_row] at h1
        rw [← hf0, ← hf1, ← hf2]
        refine Calls.mono h1 ?_
        rintro e w' ⟨rfl, h2, h3⟩
        refine ⟨⟨_, rfl⟩, fun a' => HEND.out w' a' (k1.trans (B3.of h3 (.inr (.inl rfl)))) (World.rowIs.of_block k2 (h3.block _ (World.rowIs.lt k2) (fun e => hnb1 e.symm))) ?_ ?_⟩
        · rw [← k6]; exact h2
        · rw [← k8]; exact k7.keep (h3.block _ k7.lt (fun e => hnb3 e.symm)))
    clear hf0 hf1 hf2
    have HQ0 := (show Hid _ from i6)
    clear i1 i2 i3 i4 i5 i6 i7 i8 i9 m1 m2 m3 m4 m5 m6 t1 t2 t3 t4 t5 HEND hFl hFt hVt
    cases Gb
    · have h36 : B3 bf (w.heap.size + 1 + 1) (w.heap.size + 1) Wb w5 := H5.out.1
      have hf6 : WRow w5 bf (orR Fj s V) := H5.out.2.1
      have hv6 : WRow w5 (w.heap.size + 1 + 1) V := H5.out.2.2.1
      have hn6 : Box w5 (w.heap.size + 1) 4 [.bool nj] := H5.out.2.2.2
      clear hn0 hnf
      obtain ⟨zS, _, z2, z3, zQ⟩ := HLOW.out w5 h36
      have c2 : w5.cell? ⟨g2, 0, none⟩ = some (.pointer (some ⟨gs, 0, none⟩)) := z2.cell 0 (by simp)
      have c4 : w5.cell? ⟨gs, 4, none⟩ = some (.slice (some ⟨bs, 0, none⟩) L.length L.length) := zS.box.cell 4 (by simp)
      have c5 := HCS.out w5 h36
      have v0c : w5.cell? ⟨w.heap.size + 1 + 1, 0, none⟩ = some (.int .u64 (u0x : Nat)) := by have hvl := HV.out.2.2.1; rw [← HU.out.1, getD_lt V 0 (by omega)]; exact hv6.cell (by omega)
      have v1c : w5.cell? ⟨w.heap.size + 1 + 1, 1, none⟩ = some (.int .u64 (u1x : Nat)) := by have hvl := HV.out.2.2.1; rw [← HU.out.2.1, getD_lt V 0 (by omega)]; exact hv6.cell (by omega)
      have v2c : w5.cell? ⟨w.heap.size + 1 + 1, 2, none⟩ = some (.int .u64 (u2x : Nat)) := by have hvl := HV.out.2.2.1; rw [← HU.out.2.2, getD_lt V 0 (by omega)]; exact hv6.cell (by omega)
      have v0f := World.rowIs.frozen hv6 0
      have v1f := World.rowIs.frozen hv6 1
      have v2f := World.rowIs.frozen hv6 2
      have hvl := HV.out.2.2.1
      have hvt := HV.out.2.2.2.1
      clear zS z2 z3 zQ
      by_cases hz0 : Ls = 0
      · obtain ⟨d3, d0, d1, d2, hcc⟩ := HFIN.out w5 V nj h36 hf6 hv6 hvl hvt (by rw [if_pos hz0]) hn6 (by simp)
        have HCC := (show Hid _ from hcc)
        subst hz0
        clear hcc HFIN hv6 hf6 hn6 h36 hvl hvt
        gi_wp2_with (refine ⟨trivial, ?_⟩; gi_at_call 87; refine (CallsIn.inRound _ (callsIn_wide.2 HCC.out)).mono ?_; rintro e w8 ⟨⟨B8, rfl⟩, hE8⟩)
        exact hE8 _
      · have hbt7 : Bt (w.heap.size + 1 + 1) w5 (((w5.setCell ⟨w.heap.size + 1 + 1, 0, none⟩ (.int .u64 0)).setCell ⟨w.heap.size + 1 + 1, 1, none⟩ (.int .u64 0)).setCell ⟨w.heap.size + 1 + 1, 2, none⟩ (.int .u64 0)) := ((Bt.set _ _).trans (Bt.set _ _)).trans (Bt.set _ _)
        have hv7 : WRow (((w5.setCell ⟨w.heap.size + 1 + 1, 0, none⟩ (.int .u64 0)).setCell ⟨w.heap.size + 1 + 1, 1, none⟩ (.int .u64 0)).setCell ⟨w.heap.size + 1 + 1, 2, none⟩ (.int .u64 0)) (w.heap.size + 1 + 1) [0, 0, 0] := by
          have h1 := ((hv6.set (x := 0) (by omega) 0).set (x := 1) (by rw [List.length_set]; omega) 0).set (x := 2) (by rw [List.length_set, List.length_set]; omega) 0
          have h2 : ((V.set 0 0).set 1 0).set 2 0 = [0, 0, 0] := by
            match V, hvl with
            | [_, _, _], _ => rfl
          rw [h2] at h1
          exact h1
        obtain ⟨d3, d0, d1, d2, hcc⟩ := HFIN.out (((w5.setCell ⟨w.heap.size + 1 + 1, 0, none⟩ (.int .u64 0)).setCell ⟨w.heap.size + 1 + 1, 1, none⟩ (.int .u64 0)).setCell ⟨w.heap.size + 1 + 1, 2, none⟩ (.int .u64 0)) [0, 0, 0] nj (h36.trans (B3.of hbt7 (.inr (.inl rfl)))) (World.rowIs.of_block hf6 (hbt7.block _ (World.rowIs.lt hf6) (fun e => hnb1 e.symm))) hv7 rfl (fun i => by rcases i with _ | _ | _ | i <;> simp) (by rw [if_neg hz0]) (hn6.keep (hbt7.block _ hn6.lt (fun e => hnb3 e.symm))) (by simp)
        have HCC := (show Hid _ from hcc)
        have hz1 : (Ls != 0) = true := by simp [hz0]
        have hz2 : (Ls == 0) = false := by simp [hz0]
        clear hcc HFIN hv6 hf6 hn6 h36 hvl hvt hv7 hbt7 hz0
        gi_wp2_with (refine ⟨trivial, ?_⟩; gi_at_call 87; refine (CallsIn.inRound _ (callsIn_wide.2 HCC.out)).mono ?_; rintro e w8 ⟨⟨B8, rfl⟩, hE8⟩)
        exact hE8 _
    · have hbt6 : Bt (w.heap.size + 1) w5 (w5.setCell ⟨w.heap.size + 1, 0, none⟩ (.bool true)) := Bt.set _ _
      have h36 : B3 bf (w.heap.size + 1 + 1) (w.heap.size + 1) Wb (w5.setCell ⟨w.heap.size + 1, 0, none⟩ (.bool true)) := H5.out.1.trans (B3.of hbt6 (.inr (.inr rfl)))
      have hf6 : WRow (w5.setCell ⟨w.heap.size + 1, 0, none⟩ (.bool true)) bf (orR Fj s V) := World.rowIs.of_block H5.out.2.1 (hbt6.block _ (World.rowIs.lt H5.out.2.1) (fun e => hnb2 e.symm))
      have hv6 : WRow (w5.setCell ⟨w.heap.size + 1, 0, none⟩ (.bool true)) (w.heap.size + 1 + 1) V := World.rowIs.of_block H5.out.2.2.1 (hbt6.block _ (World.rowIs.lt H5.out.2.2.1) hnb3)
      have hn6 : Box (w5.setCell ⟨w.heap.size + 1, 0, none⟩ (.bool true)) (w.heap.size + 1) 4 [.bool true] := by
        obtain ⟨cs, h1, h2, h3⟩ := World.rowIs.set H5.out.2.2.2.ex 0 (.bool true)
        refine ⟨⟨cs, h1, h2, fun q hq => ?_⟩⟩
        have := h3 q hq
        simp only [List.length_singleton] at hq
        obtain rfl : q = 0 := by omega
        simpa using this
      obtain ⟨zS, _, z2, z3, zQ⟩ := HLOW.out (w5.setCell ⟨w.heap.size + 1, 0, none⟩ (.bool true)) h36
      have c2 : (w5.setCell ⟨w.heap.size + 1, 0, none⟩ (.bool true)).cell? ⟨g2, 0, none⟩ = some (.pointer (some ⟨gs, 0, none⟩)) := z2.cell 0 (by simp)
      have c4 : (w5.setCell ⟨w.heap.size + 1, 0, none⟩ (.bool true)).cell? ⟨gs, 4, none⟩ = some (.slice (some ⟨bs, 0, none⟩) L.length L.length) := zS.box.cell 4 (by simp)
      have c5 := HCS.out (w5.setCell ⟨w.heap.size + 1, 0, none⟩ (.bool true)) h36
      have v0c : (w5.setCell ⟨w.heap.size + 1, 0, none⟩ (.bool true)).cell? ⟨w.heap.size + 1 + 1, 0, none⟩ = some (.int .u64 (u0x : Nat)) := by have hvl := HV.out.2.2.1; rw [← HU.out.1, getD_lt V 0 (by omega)]; exact hv6.cell (by omega)
      have v1c : (w5.setCell ⟨w.heap.size + 1, 0, none⟩ (.bool true)).cell? ⟨w.heap.size + 1 + 1, 1, none⟩ = some (.int .u64 (u1x : Nat)) := by have hvl := HV.out.2.2.1; rw [← HU.out.2.1, getD_lt V 0 (by omega)]; exact hv6.cell (by omega)
      have v2c : (w5.setCell ⟨w.heap.size + 1, 0, none⟩ (.bool true)).cell? ⟨w.heap.size + 1 + 1, 2, none⟩ = some (.int .u64 (u2x : Nat)) := by have hvl := HV.out.2.2.1; rw [← HU.out.2.2, getD_lt V 0 (by omega)]; exact hv6.cell (by omega)
      have v0f := World.rowIs.frozen hv6 0
      have v1f := World.rowIs.frozen hv6 1
      have v2f := World.rowIs.frozen hv6 2
      have hvl := HV.out.2.2.1
      have hvt := HV.out.2.2.2.1
      clear zS z2 z3 zQ
      by_cases hz0 : Ls = 0
      · obtain ⟨d3, d0, d1, d2, hcc⟩ := HFIN.out (w5.setCell ⟨w.heap.size + 1, 0, none⟩ (.bool true)) V true h36 hf6 hv6 hvl hvt (by rw [if_pos hz0]) hn6 (by simp)
        have HCC := (show Hid _ from hcc)
        subst hz0
        clear hcc HFIN hv6 hf6 hn6 h36 hvl hvt
        gi_wp2_with (refine ⟨trivial, ?_⟩; gi_at_call 87; refine (CallsIn.inRound _ (callsIn_wide.2 HCC.out)).mono ?_; rintro e w8 ⟨⟨B8, rfl⟩, hE8⟩)
        exact hE8 _
      · have hbt7 : Bt (w.heap.size + 1 + 1) (w5.setCell ⟨w.heap.size + 1, 0, none⟩ (.bool true)) ((((w5.setCell ⟨w.heap.size + 1, 0, none⟩ (.bool true)).setCell ⟨w.heap.size + 1 + 1, 0, none⟩ (.int .u64 0)).setCell ⟨w.heap.size + 1 + 1, 1, none⟩ (.int .u64 0)).setCell ⟨w.heap.size + 1 + 1, 2, none⟩ (.int .u64 0)) := ((Bt.set _ _).trans (Bt.set _ _)).trans (Bt.set _ _)
        have hv7 : WRow ((((w5.setCell ⟨w.heap.size + 1, 0, none⟩ (.bool true)).setCell ⟨w.heap.size + 1 + 1, 0, none⟩ (.int .u64 0)).setCell ⟨w.heap.size + 1 + 1, 1, none⟩ (.int .u64 0)).setCell ⟨w.heap.size + 1 + 1, 2, none⟩ (.int .u64 0)) (w.heap.size + 1 + 1) [0, 0, 0] := by
          have h1 := ((hv6.set (x := 0) (by omega) 0).set (x := 1) (by rw [List.length_set]; omega) 0).set (x := 2) (by rw [List.length_set, List.length_set]; omega) 0
          have h2 : ((V.set 0 0).set 1 0).set 2 0 = [0, 0, 0] := by
            match V, hvl with
            | [_, _, _], _ => rfl
          rw [h2] at h1
          exact h1
        obtain ⟨d3, d0, d1, d2, hcc⟩ := HFIN.out ((((w5.setCell ⟨w.heap.size + 1, 0, none⟩ (.bool true)).setCell ⟨w.heap.size + 1 + 1, 0, none⟩ (.int .u64 0)).setCell ⟨w.heap.size + 1 + 1, 1, none⟩ (.int .u64 0)).setCell ⟨w.heap.size + 1 + 1, 2, none⟩ (.int .u64 0)) [0, 0, 0] true (h36.trans (B3.of hbt7 (.inr (.inl rfl)))) (World.rowIs.of_block hf6 (hbt7.block _ (World.rowIs.lt hf6) (fun e => hnb1 e.symm))) hv7 rfl (fun i => by rcases i with _ | _ | _ | i <;> simp) (by rw [if_neg hz0]) (hn6.keep (hbt7.block _ hn6.lt (fun e => hnb3 e.symm))) (by simp)
        have HCC := (show Hid _ from hcc)
        have hz1 : (Ls != 0) = true := by simp [hz0]
        have hz2 : (Ls == 0) = false := by simp [hz0]
        clear hcc HFIN hv6 hf6 hn6 h36 hvl hvt hv7 hbt7 hz0
        gi_wp2_with (refine ⟨trivial, ?_⟩; gi_at_call 87; refine (CallsIn.inRound _ (callsIn_wide.2 HCC.out)).mono ?_; rintro e w8 ⟨⟨B8, rfl⟩, hE8⟩)
        exact hE8 _
  case hdone =>
    rintro xs W hS hI hD
    have hz := HS3.out
    have hxl : xs.length = p.right.length := by rw [hS, bkL_len]
    obtain ⟨hb3, hfol, hbeh, hnew⟩ := hI
    have e0 : p.right.drop (p.right.length - xs.length) = p.right := by rw [hxl, Nat.sub_self]; rfl
    rw [e0] at hfol hnew
    have c0 : W.cell? ⟨w.heap.size + 1, 0, none⟩ = some (.bool (fl (Lf L) Wf V0 F p.right).2) := hnew.cell 0 (by simp)
    have hbf := HIV.out.2.2.2.2.2.2.2.1
    have HFIN := (show Hid (WRow (W.putObj w4.heap.size (.deferred none)) bf (fl (Lf L) Wf V0 F p.right).1 ∧ Bt bf w (W.putObj w4.heap.size (.deferred none))) from by
      refine ⟨World.rowIs.of_block hfol (World.putObj_heap_other (by omega)), ?_⟩
      have hb := H3.out.1
      refine ⟨hb3.os.trans hb.os, hb3.tape.trans hb.tape, hb3.output.trans hb.output, ?_, fun q h1 h2 => ?_⟩
      · have h1 := hb.size
        have h2 := hb3.size
        simp
        omega
      · rw [World.putObj_heap_other (by omega), hb3.block q (by omega) h2 (by omega) (by omega), hb.block q h1])
    clear hfol hbeh hnew hb3 hS hxl H3 H0 e0 HIV HLT HNE hz hbf HIN HAI HCI HCM HS3
    go_wp2_with fail
    refine ⟨by simp, .inl ⟨_, _, rfl, run_takeDeferred hD, ?_⟩⟩
    exact ⟨.bool (fl (Lf L) Wf V0 F p.right).2, by simp [results, Tryd.results88, go_sem], rfl, HFIN.out⟩
end Go.Proofs.YtjpjjfgdgieapaaDoor
