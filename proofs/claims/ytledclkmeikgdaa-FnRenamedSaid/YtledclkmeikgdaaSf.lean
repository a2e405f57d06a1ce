import Derived.Test.YtledclkmeikgdaaSd
/-! What is gathered: what stands behind an append, ahead of the store and behind it. -/
namespace Go.Proofs.Ytledclkmeikgdaa
open Go.RowKit Go.Deep Go.Lib
set_option linter.unusedVariables false
set_option maxRecDepth 100000
set_option linter.unusedSimpArgs false

/-- Behind an append to what lies in cell i, ahead of the store and behind it: v was there, u is stored. -/
structure Up (w : World) (q i : Nat) (B : Nat → Prop) (v u : Value) (w7 : World) : Prop where
  cell : w7.cell? ⟨q, i, none⟩ = some v
  froz : w7.frozen? ⟨q, i, none⟩ = false
  size : w.heap.size ≤ w7.heap.size
  old : ∀ b, b < w.heap.size → ¬ B b → w7.heap[b]? = w.heap[b]? ∧ (w7.setCell ⟨q, i, none⟩ u).heap[b]? = w.heap[b]?
theorem Up.keepC {w w7 : World} {q i : Nat} {B : Nat → Prop} {v u x : Value} {a : Addr} (h : Up w q i B v u w7) (hc : w.cell? a = some x) (hn : ¬ B a.block) : w7.cell? a = some x ∧ (w7.setCell ⟨q, i, none⟩ u).cell? a = some x := by
  obtain ⟨h1, h2⟩ := h.old a.block (lt_of_cell hc) hn
  exact ⟨(World.cell?_of_block (w := w) h1).trans hc, (World.cell?_of_block (w := w) h2).trans hc⟩
theorem up_of {w w1 w7 : World} {A q ty i e z n : Nat} {s : Sw} {c : CV} {v u : Value} {xs : List Value} (h : Co w A q ty s c) (hi : i < 6) (hv : [Value.int .i64 (s.n : Nat), c.v1, c.v2, c.v3, c.v4, c.v5].getD i .nilFunc = v) (ho : w.ownsRow A e z v n xs) (hty : ty ≠ e) (hb : Below w.heap.size w w1) (hg : w1.grownBy w7 v.ownBlock) (hB : ∀ b, v.ownBlock = some b → c.B q s b) : Up w q i (c.B q s) v u w7 := by
  have hs1 := hb.size
  have hs2 := hg.size
  have hvq : v.ownBlock ≠ some q := fun e => own_box ho h.bx (fun e => hty e.symm) e rfl
  have hql := h.bx.lt
  have hbx : Box w7 q ty [.int .i64 s.n, c.v1, c.v2, c.v3, c.v4, c.v5] := h.bx.keep ((hg.block q (by omega) (fun e => hvq e.symm)).trans (hb.block q hql))
  have hk : ∀ b, b < w.heap.size → ¬ c.B q s b → w7.heap[b]? = w.heap[b]? := fun b h1 h2 => (hg.block b (by omega) (fun e => h2 (hB b e.symm))).trans (hb.block b h1)
  refine ⟨by rw [← hv]; exact hbx.cell i (by simpa using hi), hbx.frozen i, by omega, fun b h1 h2 => ⟨hk b h1 h2, (blk_setCell_other _ _ _ _ (by show b ≠ q; exact fun e => h2 (.inl e))).trans (hk b h1 h2)⟩⟩
theorem Co.upE {w w1 w7 : World} {A q ty g cp : Nat} {s : Sw} {c : CV} (h : Co w A q ty s c) (x : DSEdge) (hb : Below w.heap.size w w1) (ho : w7.ownsRow A 74 3 (.slice (some ⟨g, 0, none⟩) (s.es.length + 1) cp) (s.es.length + 1) (edL s.es ++ [.int .i64 x.from_, .int .i64 x.to_, .int .i64 x.kind]))
    (hg : w1.grownBy w7 c.v1.ownBlock) (hat : c.v1.ownBlock = some g ∨ g = w1.heap.size) :
    Up w q 1 (c.B q s) c.v1 (.slice (some ⟨g, 0, none⟩) (s.es.length + 1) cp) w7 ∧ St A q ty w s c (w7.setCell ⟨q, 1, none⟩ (.slice (some ⟨g, 0, none⟩) (s.es.length + 1) cp)) { s with es := s.es ++ [x] } { c with v1 := .slice (some ⟨g, 0, none⟩) (s.es.length + 1) cp } (fun _ => False) (fun _ => False) :=
  ⟨up_of h (by decide) rfl h.e h.ty.1 hb hg (fun b e => .inr (.inl e)), h.pushE x hb ho hg (hat.imp id (fun e => by have := hb.size; omega))⟩
theorem Co.upD {w w1 w7 : World} {A q ty g cp : Nat} {s : Sw} {c : CV} (h : Co w A q ty s c) (x : DSpot) (hb : Below w.heap.size w w1) (ho : w7.ownsRow A 33 2 (.slice (some ⟨g, 0, none⟩) (s.ds.length + 1) cp) (s.ds.length + 1) (spL s.ds ++ [.int .i64 x.scope, .string x.name]))
    (hg : w1.grownBy w7 c.v2.ownBlock) (hat : c.v2.ownBlock = some g ∨ g = w1.heap.size) :
    Up w q 2 (c.B q s) c.v2 (.slice (some ⟨g, 0, none⟩) (s.ds.length + 1) cp) w7 ∧ St A q ty w s c (w7.setCell ⟨q, 2, none⟩ (.slice (some ⟨g, 0, none⟩) (s.ds.length + 1) cp)) { s with ds := s.ds ++ [x] } { c with v2 := .slice (some ⟨g, 0, none⟩) (s.ds.length + 1) cp } (fun _ => False) (fun _ => False) :=
  ⟨up_of h (by decide) rfl h.d h.ty.2.1 hb hg (fun b e => .inr (.inr (.inl e))), h.pushD x hb ho hg (hat.imp id (fun e => by have := hb.size; omega))⟩
theorem Co.upR {w w1 w7 : World} {A q ty g cp : Nat} {s : Sw} {c : CV} (h : Co w A q ty s c) (x : DSpot) (hb : Below w.heap.size w w1) (ho : w7.ownsRow A 33 2 (.slice (some ⟨g, 0, none⟩) (s.rs.length + 1) cp) (s.rs.length + 1) (spL s.rs ++ [.int .i64 x.scope, .string x.name]))
    (hg : w1.grownBy w7 c.v3.ownBlock) (hat : c.v3.ownBlock = some g ∨ g = w1.heap.size) :
    Up w q 3 (c.B q s) c.v3 (.slice (some ⟨g, 0, none⟩) (s.rs.length + 1) cp) w7 ∧ St A q ty w s c (w7.setCell ⟨q, 3, none⟩ (.slice (some ⟨g, 0, none⟩) (s.rs.length + 1) cp)) { s with rs := s.rs ++ [x] } { c with v3 := .slice (some ⟨g, 0, none⟩) (s.rs.length + 1) cp } (fun _ => False) (fun _ => False) :=
  ⟨up_of h (by decide) rfl h.r h.ty.2.1 hb hg (fun b e => .inr (.inr (.inr (.inl e)))), h.pushR x hb ho hg (hat.imp id (fun e => by have := hb.size; omega))⟩
theorem Co.upDp {w w1 w7 : World} {A q ty g cp : Nat} {s : Sw} {c : CV} {u : Value} {xs : List Nat} (h : Co w A q ty s c) (hb : Below w.heap.size w w1) (hu : w1.ownsRow A 3 1 u xs.length (nums xs)) (hnew : ∀ b, u.ownBlock = some b → ¬ c.B q s b)
    (ho : w7.ownsRow A 34 1 (.slice (some ⟨g, 0, none⟩) (s.dp.length + 1) cp) (s.dp.length + 1) (slv c.D s.dp.length ++ [u])) (hg : w1.grownBy w7 c.v4.ownBlock) (hat : c.v4.ownBlock = some g ∨ g = w1.heap.size) :
    Up w q 4 (c.B q s) c.v4 (.slice (some ⟨g, 0, none⟩) (s.dp.length + 1) cp) w7 ∧ St A q ty w s c (w7.setCell ⟨q, 4, none⟩ (.slice (some ⟨g, 0, none⟩) (s.dp.length + 1) cp)) { s with dp := s.dp ++ [xs] } { c with v4 := .slice (some ⟨g, 0, none⟩) (s.dp.length + 1) cp, D := fun i => if i = s.dp.length then u else c.D i } (fun _ => False) (fun b => u.ownBlock = some b) :=
  ⟨up_of h (by decide) rfl h.dp.out h.ty.2.2.1 hb hg (fun b e => .inr (.inr (.inr (.inr (.inl e))))), h.pushDp hb hu hnew ho hg (hat.imp id (fun e => by have := hb.size; omega))⟩
theorem Co.upRp {w w1 w7 : World} {A q ty g cp : Nat} {s : Sw} {c : CV} {u : Value} {xs : List Nat} (h : Co w A q ty s c) (hb : Below w.heap.size w w1) (hu : w1.ownsRow A 3 1 u xs.length (nums xs)) (hnew : ∀ b, u.ownBlock = some b → ¬ c.B q s b)
    (ho : w7.ownsRow A 34 1 (.slice (some ⟨g, 0, none⟩) (s.rp.length + 1) cp) (s.rp.length + 1) (slv c.R s.rp.length ++ [u])) (hg : w1.grownBy w7 c.v5.ownBlock) (hat : c.v5.ownBlock = some g ∨ g = w1.heap.size) :
    Up w q 5 (c.B q s) c.v5 (.slice (some ⟨g, 0, none⟩) (s.rp.length + 1) cp) w7 ∧ St A q ty w s c (w7.setCell ⟨q, 5, none⟩ (.slice (some ⟨g, 0, none⟩) (s.rp.length + 1) cp)) { s with rp := s.rp ++ [xs] } { c with v5 := .slice (some ⟨g, 0, none⟩) (s.rp.length + 1) cp, R := fun i => if i = s.rp.length then u else c.R i } (fun _ => False) (fun b => u.ownBlock = some b) :=
  ⟨up_of h (by decide) rfl h.rp.out h.ty.2.2.1 hb hg (fun b e => .inr (.inr (.inr (.inr (.inr (.inl e)))))), h.pushRp hb hu hnew ho hg (hat.imp id (fun e => by have := hb.size; omega))⟩
theorem info74s : (Try.prog.info? 74).map (fun i => (i.zero, i.size, i.bytes)) = some (some (.agg #[.int .i64 0, .int .i64 0, .int .i64 0]), 3, 24) := by kernel_rfl
theorem info33s : (Try.prog.info? 33).map (fun i => (i.zero, i.size, i.bytes)) = some (some (.agg #[.int .i64 0, .string ByteArray.empty]), 2, 24) := by kernel_rfl
theorem info34s : (Try.prog.info? 34).map (fun i => (i.zero, i.size, i.bytes)) = some (some (.slice none 0 0), 1, 24) := by kernel_rfl
/-- What a contract leaves of the world. -/
theorem Co.form {w : World} {A q ty : Nat} {s : Sw} {c : CV} (h : Co w A q ty s c) : (∃ a p, c.v1 = .slice a s.es.length p) ∧ (∃ a p, c.v2 = .slice a s.ds.length p) ∧ (∃ a p, c.v3 = .slice a s.rs.length p) ∧ (∃ a p, c.v4 = .slice a s.dp.length p) ∧ (∃ a p, c.v5 = .slice a s.rp.length p) := by
  obtain ⟨a1, p1, e1, _⟩ := own_ne h.e
  obtain ⟨a2, p2, e2, _⟩ := own_ne h.d
  obtain ⟨a3, p3, e3, _⟩ := own_ne h.r
  obtain ⟨a4, p4, e4, _⟩ := own_ne h.dp.out
  obtain ⟨a5, p5, e5, _⟩ := own_ne h.rp.out
  exact ⟨⟨a1, p1, e1⟩, ⟨a2, p2, e2⟩, ⟨a3, p3, e3⟩, ⟨a4, p4, e4⟩, ⟨a5, p5, e5⟩⟩
end Go.Proofs.Ytledclkmeikgdaa

/-! The specification: l12Down. -/
namespace Go.Proofs.Ytledclkmeikgdaa
open Go.RowKit Go.Deep Go.Lib
set_option linter.unusedVariables false
set_option maxRecDepth 100000
set_option linter.unusedSimpArgs false

theorem own_baseS {W : World} {B B' e k n : Nat} {v : Value} {xs : List Value} (h : W.ownsRow B e k v n xs) (hB : B' ≤ B) : W.ownsRow B' e k v n xs := by
  refine ⟨h.1, ?_⟩
  rcases h.2 with h0 | ⟨g, cp, cur, r1, r2, r3⟩
  · exact .inl h0
  · exact .inr ⟨g, cp, cur, r1, by omega, r3⟩
theorem grown_belS {w w0 w' : World} {o : Option Nat} (hb : Below w.heap.size w w0) (hg : w0.grownBy w' o) (ho : ∀ k, o = some k → w.heap.size ≤ k) : Below w.heap.size w w' := by
  refine ⟨hg.os.trans hb.os, hg.tape.trans hb.tape, hg.output.trans hb.output, Nat.le_trans hb.size hg.size, fun k hk => ?_⟩
  refine (hg.block k (Nat.lt_of_lt_of_le hk hb.size) (fun e => ?_)).trans (hb.block k hk)
  have := ho k e.symm
  omega
set_option maxHeartbeats 1600000 in
theorem down95 {A : Nat} (p : List Nat) (g cp k : Nat) (w : World) (h : w.ownsRow A 3 1 (.slice (some ⟨g, 0, none⟩) p.length cp) p.length (nums p)) (hl : p.length ≤ 1000000) :
    Calls Try.prog 95 #[.slice (some ⟨g, 0, none⟩) p.length cp, .int .i64 (k : Nat)] w fun e w' => ∃ g' c', e = .returned (.slice (some ⟨g', 0, none⟩) (p.length + 1) c') ∧ Below w.heap.size w w' ∧ w'.ownsRow w.heap.size 3 1 (.slice (some ⟨g', 0, none⟩) (p.length + 1) c') (p.length + 1) (nums (p ++ [k])) := by
  obtain ⟨i3, hi3, hzz⟩ := Option.map_eq_some_iff.1 info3s
  simp only [Prod.mk.injEq] at hzz
  obtain ⟨hz0, hz1, hz2⟩ := hzz
  have hb0 := bel_alloc w (.cells #[] 3)
  have HO : Hid ((w.alloc (.cells #[] 3)).ownsRow w.heap.size 3 1 (.slice (some ⟨w.heap.size, 0, none⟩) 0 0) 0 []) := World.ownsRow_lit (base := w.heap.size) (e := 3) (size := 1) w #[] 0 (Nat.le_refl _) (Nat.zero_le _) rfl
  have h1 := own_keep1 h (fun q hq => hb0.block q (World.ownsRow.lt h q hq).2)
  have HNW := (show Hid (∀ j u, (nums p)[j]? = some u → (w.alloc (.cells #[] 3)).cell? ((⟨g, 0, none⟩ : Addr).add j) = some u) from h1.cells (g := g) rfl)
  have HB0 := (show Hid (Below w.heap.size w (w.alloc (.cells #[] 3))) from hb0)
  have HNL := (show Hid ((nums p).length = p.length * 1) from by show (nums p).length = p.length * 1; simp [nums])
  have HNA := (show Hid (nums (p ++ [k]) = nums p ++ [.int .i64 (k : Nat)]) from nums_app p k)
  clear h h1 hb0
  go_enter Try.func95, Try.ntmps95
  go_wp2_with (at_builtin; refine wpList_append_own_at _ rfl (.tmp 5) (.tmp 6) 34 rfl w.heap.size 3 i3 _ 1 8 Try.underlying34 hi3 hz0 hz1 hz2 rfl (by decide) (.slice (some ⟨w.heap.size, 0, none⟩) 0 0) 0 [] rfl HO.out ⟨g, 0, none⟩ p.length cp (nums p) rfl HNL.out HNW.out (nums_one p) ?c3 (by omega) ?c4 ?nx)
  case c3 => unfold maxLen; omega
  case c4 => simp
  case nx =>
    intro v8 w8 hown8 hgr8 hnil8 hat8
    obtain ⟨g8, c8, rfl⟩ : ∃ g8 c8, v8 = .slice (some ⟨g8, 0, none⟩) p.length c8 := own_some hown8 (by simpa using hnil8)
    have HB8 := (show Hid (Below w.heap.size w w8) from grown_belS HB0.out hgr8 (fun b hb => by
      have hb' : w.heap.size = b := by simpa [Value.ownBlock] using hb
      omega))
    have hb9 := bel_alloc w8 (.cells #[.int .i64 (k : Nat)] 3)
    have HO9 := (show Hid ((w8.alloc (.cells #[.int .i64 (k : Nat)] 3)).ownsRow w.heap.size 3 1 (.slice (some ⟨g8, 0, none⟩) p.length c8) p.length (nums p)) from own_keep1 hown8 (fun q hq => hb9.block q (World.ownsRow.lt hown8 q hq).2))
    have HB9 := (show Hid (Below w.heap.size w (w8.alloc (.cells #[.int .i64 (k : Nat)] 3))) from bel_trans HB8.out hb9)
    have HNB := (show Hid _ from World.news_of_block (blk_alloc_new w8 (.cells #[.int .i64 (k : Nat)] 3)))
    have hs9 := HB9.out.size
    have hg8 := (World.ownsRow.lt hown8 g8 rfl).1
    clear hown8 hgr8 hnil8 hat8 hb9
    go_wp2_with (at_builtin; refine wpList_append_lies _ rfl (.tmp 7) (.tmp 9) 34 rfl w.heap.size 3 i3 _ 1 8 Try.underlying34 hi3 hz0 hz1 hz2 rfl (by decide) (.slice (some ⟨g8, 0, none⟩) p.length c8) p.length _ rfl HO9.out ⟨w8.heap.size, 0, none⟩ 1 1 [.int .i64 (k : Nat)] rfl rfl HNB.out (by intro u hu; simp at hu; subst hu; rfl) (by decide) (by unfold maxLen; omega) (by omega) hs9 _ rfl ?_; intro g10 cap10 w10 hown10 hgr10 hat10 hlt10)
    have HF := (show Hid (Below w.heap.size w w10 ∧ w10.ownsRow w.heap.size 3 1 (.slice (some ⟨g10, 0, none⟩) (p.length + 1) cap10) (p.length + 1) (nums (p ++ [k]))) from ⟨grown_belS HB9.out hgr10 (fun b hb => by
      have hb' : g8 = b := by simpa [Value.ownBlock] using hb
      omega), by rw [HNA.out]; exact hown10⟩)
    clear hown10 hgr10 hat10 hlt10
    go_wp2_with fail
    go_ret
    exact ⟨g10, cap10, rfl, HF.out⟩
end Go.Proofs.Ytledclkmeikgdaa
