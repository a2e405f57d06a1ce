import Derived.Test.YtledclkmeikgdaaSf
import Derived.Deep.RegionHeld3
import Derived.Deep.CutRange
/-! The specification: a term is gone through. -/
namespace Go.Proofs.Ytledclkmeikgdaa
open Go.RowKit Go.Deep Go.Lib
open Go.Proofs.Ytledclkmeikgdaa.T (Tr)
set_option linter.unusedVariables false
set_option maxRecDepth 100000
set_option linter.unusedSimpArgs false
abbrev qSg0 : Oper := { dst := some 20, op := Go.Op.load 25 (Go.Operand.tmp 19), type := 25, pos := "l12_names.go:199", after := #[{ on := 4, ground := Go.Ground.data }], guard := none }
abbrev qSg1 : Oper := { dst := some 25, op := Go.Op.buildSlice 25 1 #[(0, Go.Operand.tmp 24)], type := 25, pos := "l12_names.go:199", after := #[{ on := 9, ground := Go.Ground.data }], guard := none }
abbrev qSg2 : Oper := { dst := some 26, op := Go.Op.call { callee := Go.Callee.builtin Go.Builtin.append, args := #[Go.Operand.tmp 20, Go.Operand.tmp 25], argTypes := #[25, 25] }, type := 25, pos := "l12_names.go:199", after := #[{ on := 5, ground := Go.Ground.data }, { on := 10, ground := Go.Ground.data }], guard := none }
abbrev qSg3 : Oper := { dst := some 27, op := Go.Op.nilCheck (Go.Operand.tmp 15), type := 0, pos := "l12_names.go:199", after := #[{ on := 0, ground := Go.Ground.data }, { on := 0, ground := Go.Ground.phase }, { on := 1, ground := Go.Ground.phase }, { on := 2, ground := Go.Ground.phase }, { on := 3, ground := Go.Ground.phase }, { on := 4, ground := Go.Ground.phase }, { on := 5, ground := Go.Ground.phase }, { on := 6, ground := Go.Ground.phase }, { on := 7, ground := Go.Ground.phase }, { on := 8, ground := Go.Ground.phase }, { on := 9, ground := Go.Ground.phase }, { on := 10, ground := Go.Ground.phase }, { on := 11, ground := Go.Ground.phase }], guard := none }
abbrev qSg4 : Oper := { dst := some 28, op := Go.Op.fieldAddr 85 (Go.Operand.tmp 27) 0, type := 0, pos := "l12_names.go:199", after := #[{ on := 12, ground := Go.Ground.data }, { on := 0, ground := Go.Ground.phase }, { on := 1, ground := Go.Ground.phase }, { on := 2, ground := Go.Ground.phase }, { on := 3, ground := Go.Ground.phase }, { on := 4, ground := Go.Ground.phase }, { on := 5, ground := Go.Ground.phase }, { on := 6, ground := Go.Ground.phase }, { on := 7, ground := Go.Ground.phase }, { on := 8, ground := Go.Ground.phase }, { on := 9, ground := Go.Ground.phase }, { on := 10, ground := Go.Ground.phase }, { on := 11, ground := Go.Ground.phase }], guard := none }
abbrev qSg5 : Oper := { dst := some 29, op := Go.Op.fieldAddr 27 (Go.Operand.tmp 28) 3, type := 0, pos := "l12_names.go:199", after := #[{ on := 13, ground := Go.Ground.data }, { on := 0, ground := Go.Ground.phase }, { on := 1, ground := Go.Ground.phase }, { on := 2, ground := Go.Ground.phase }, { on := 3, ground := Go.Ground.phase }, { on := 4, ground := Go.Ground.phase }, { on := 5, ground := Go.Ground.phase }, { on := 6, ground := Go.Ground.phase }, { on := 7, ground := Go.Ground.phase }, { on := 8, ground := Go.Ground.phase }, { on := 9, ground := Go.Ground.phase }, { on := 10, ground := Go.Ground.phase }, { on := 11, ground := Go.Ground.phase }], guard := none }
abbrev qSg6 : Oper := { dst := none, op := Go.Op.store 25 (Go.Operand.tmp 29) (Go.Operand.tmp 26), type := 0, pos := "l12_names.go:199", after := #[{ on := 14, ground := Go.Ground.data }, { on := 11, ground := Go.Ground.data }, { on := 11, ground := Go.Ground.chain }, { on := 0, ground := Go.Ground.phase }, { on := 1, ground := Go.Ground.phase }, { on := 2, ground := Go.Ground.phase }, { on := 3, ground := Go.Ground.phase }, { on := 4, ground := Go.Ground.phase }, { on := 5, ground := Go.Ground.phase }, { on := 6, ground := Go.Ground.phase }, { on := 7, ground := Go.Ground.phase }, { on := 8, ground := Go.Ground.phase }, { on := 9, ground := Go.Ground.phase }, { on := 10, ground := Go.Ground.phase }, { on := 11, ground := Go.Ground.phase }], guard := none }

/-- What it leaves. -/
def WkA (A q : Nat) (t : Tr) (sc : Nat) (p : List Nat) (s : Sw) (c : CV) (g : Nat) (w : World) (e : Ending) (w' : World) : Prop :=
  e = .returned (.tuple #[]) ∧ ∃ c', St A q 85 w s c w' (sw t sc p s) c' (fun _ => False) (fun b => b = g)
/-- The contract. -/
def WkC (A q : Nat) (t : Tr) : Prop := ∀ (v : Value) (sc : Nat) (p : List Nat) (g cp : Nat) (s : Sw) (c : CV) (w : World), Co w A q 85 s c → w.ownsRow A 3 1 (.slice (some ⟨g, 0, none⟩) p.length cp) p.length (nums p) → ¬ c.B q s g → T.Lies w (fun b => b < A) t v →
  s.sz + 4 * t.cnt ≤ 100000 → p.length + t.deep ≤ 100000 → sc ≤ 100000 → T.tm t = true →
  Calls Try.prog 50 #[.pointer (some ⟨q, 0, none⟩), t.val v, .slice (some ⟨g, 0, none⟩) p.length cp, .int .i64 (sc : Nat)] w (WkA A q t sc p s c g w)
set_option maxHeartbeats 6400000 in
/-- A reference. -/
theorem walk50_ref {A q : Nat} (n x : ByteArray) (k : List Tr) (hid : (n.toList == ([73, 100] : List UInt8)) = true) (a : Option Addr) (cap sc : Nat) (p : List Nat) (g cp : Nat) (s : Sw) (c : CV) (w : World) (h : Co w A q 85 s c) (hp : w.ownsRow A 3 1 (.slice (some ⟨g, 0, none⟩) p.length cp) p.length (nums p)) (hg : ¬ c.B q s g) (hsz : s.sz + 4 ≤ 100000) (hsc : sc ≤ 100000) :
    Calls Try.prog 50 #[.pointer (some ⟨q, 0, none⟩), .agg #[.string n, .string x, .bool true, .slice a k.length cap], .slice (some ⟨g, 0, none⟩) p.length cp, .int .i64 (sc : Nat)] w fun e w' => e = .returned (.tuple #[]) ∧ ∃ c', St A q 85 w s c w' (s.ref sc x p) c' (fun _ => False) (fun b => b = g) := by
  obtain ⟨i33, hi33, hyy⟩ := Option.map_eq_some_iff.1 info33s
  simp only [Prod.mk.injEq] at hyy
  obtain ⟨hy0, hy1, hy2⟩ := hyy
  obtain ⟨i34, hi34, hzz⟩ := Option.map_eq_some_iff.1 info34s
  simp only [Prod.mk.injEq] at hzz
  obtain ⟨hz0, hz1, hz2⟩ := hzz
  have hql := h.bx.lt
  have hb0 := bel_alloc w (.cells #[.string n, .string x, .bool true, .slice a k.length cap] 40)
  have hb1 : Below (w.alloc (.cells #[.string n, .string x, .bool true, .slice a k.length cap] 40)).heap.size (w.alloc (.cells #[.string n, .string x, .bool true, .slice a k.length cap] 40)) ((w.alloc (.cells #[.string n, .string x, .bool true, .slice a k.length cap] 40)).drew.alloc (.cells #[.int .i64 (sc : Nat), .string x] 33)) := bel_trans (Below.drew (Below.refl _ _)) (bel_alloc _ _)
  have H0 := (show Hid (Co (w.alloc (.cells #[.string n, .string x, .bool true, .slice a k.length cap] 40)) A q 85 s c) from h.still hb0)
  have HB0 := (show Hid (Below w.heap.size w (w.alloc (.cells #[.string n, .string x, .bool true, .slice a k.length cap] 40))) from hb0)
  have HP := (show Hid (w.ownsRow A 3 1 (.slice (some ⟨g, 0, none⟩) p.length cp) p.length (nums p)) from hp)
  have HG := (show Hid (¬ c.B q s g) from hg)
  have HC := (show Hid (Co w A q 85 s c) from h)
  obtain ⟨_, _, ⟨a3, p3, e3⟩, _, _⟩ := h.form
  have hxb : (w.alloc (.cells #[.string n, .string x, .bool true, .slice a k.length cap] 40)).cell? ⟨w.heap.size, 1, none⟩ = some (.string x) := by simp [go_sem]
  have cL : (w.alloc (.cells #[.string n, .string x, .bool true, .slice a k.length cap] 40)).cell? ⟨q, 3, none⟩ = some (.slice a3 s.rs.length p3) := by
    have := (h.bx.still hb0).cell 3 (by simp)
    rw [← e3]
    exact this
  have HO5 := (show Hid (((w.alloc (.cells #[.string n, .string x, .bool true, .slice a k.length cap] 40)).drew.alloc (.cells #[.int .i64 (sc : Nat), .string x] 33)).ownsRow A 33 2 (.slice a3 s.rs.length p3) s.rs.length (spL s.rs)) from by
    have := own_keep1 H0.out.r (fun b e => hb1.block b (World.ownsRow.lt H0.out.r b e).2)
    rw [e3] at this
    exact this)
  have HNB := (show Hid (∀ j u, ([.int .i64 (sc : Nat), .string x] : List Value)[j]? = some u → ((w.alloc (.cells #[.string n, .string x, .bool true, .slice a k.length cap] 40)).drew.alloc (.cells #[.int .i64 (sc : Nat), .string x] 33)).cell? ((⟨w.heap.size + 1, 0, none⟩ : Addr).add j) = some u) from by
    have := World.news_of_block (cs := #[.int .i64 (sc : Nat), .string x]) (blk_alloc_new (w.alloc (.cells #[.string n, .string x, .bool true, .slice a k.length cap] 40)).drew (.cells #[.int .i64 (sc : Nat), .string x] 33))
    show ∀ j u, _
    simpa using this)
  have HZ5 := (show Hid (A ≤ ((w.alloc (.cells #[.string n, .string x, .bool true, .slice a k.length cap] 40)).drew.alloc (.cells #[.int .i64 (sc : Nat), .string x] 33)).heap.size) from by
    show A ≤ _
    have := h.hq
    simp
    omega)
  have HZ6 := (show Hid (((w.alloc (.cells #[.string n, .string x, .bool true, .slice a k.length cap] 40)).drew.alloc (.cells #[.int .i64 (sc : Nat), .string x] 33)).heap.size = w.heap.size + 1 + 1) from by show _ = _; simp)
  have hcb : ¬ c.B q s w.heap.size := fun e => by have := (h.lt _ e).2; omega
  have HUP := (show Hid (∀ (g7 cap7 : Nat) (w7 : World), w7.ownsRow A 33 2 (.slice (some ⟨g7, 0, none⟩) (s.rs.length + 1) cap7) (s.rs.length + 1) (spL s.rs ++ [.int .i64 (sc : Nat), .string x]) → ((w.alloc (.cells #[.string n, .string x, .bool true, .slice a k.length cap] 40)).drew.alloc (.cells #[.int .i64 (sc : Nat), .string x] 33)).grownBy w7 (Value.slice a3 s.rs.length p3).ownBlock → ((Value.slice a3 s.rs.length p3).ownBlock = some g7 ∨ g7 = w.heap.size + 1 + 1) →
    w7.cell? ⟨w.heap.size, 1, none⟩ = some (.string x) ∧ w7.cell? ⟨q, 3, none⟩ = some (.slice a3 s.rs.length p3) ∧ w7.frozen? ⟨q, 3, none⟩ = false ∧ (w7.setCell ⟨q, 3, none⟩ (.slice (some ⟨g7, 0, none⟩) (s.rs.length + 1) cap7)).cell? ⟨w.heap.size, 1, none⟩ = some (.string x) ∧
    Hid (St A q 85 (w.alloc (.cells #[.string n, .string x, .bool true, .slice a k.length cap] 40)) s c (w7.setCell ⟨q, 3, none⟩ (.slice (some ⟨g7, 0, none⟩) (s.rs.length + 1) cap7)) { s with rs := s.rs ++ [⟨sc, x⟩] } { c with v3 := .slice (some ⟨g7, 0, none⟩) (s.rs.length + 1) cap7 } (fun _ => False) (fun _ => False))) from fun g7 cap7 w7 h1 h2 h3 => by
    rw [← e3] at h2 h3
    obtain ⟨u, st⟩ := H0.out.upR ⟨sc, x⟩ hb1 h1 h2 (h3.imp id (fun e => by rw [e]; exact HZ6.out.symm))
    obtain ⟨u1, u2⟩ := u.keepC hxb hcb
    exact ⟨u1, by rw [← e3]; exact u.cell, u.froz, u2, st⟩)
  have hS0 : (fun wq => wq.cell? ⟨w.heap.size, 1, none⟩ = some (.string x)) (w.alloc (.cells #[.string n, .string x, .bool true, .slice a k.length cap] 40)).drew := hxb
  have hS1 : (fun wq => wq.cell? ⟨w.heap.size, 1, none⟩ = some (.string x)) ((w.alloc (.cells #[.string n, .string x, .bool true, .slice a k.length cap] 40)).drew.alloc (.cells #[.int .i64 (sc : Nat), .string x] 33)) := (hb1.cell (lt_of_cell hxb)).trans hxb
  have cL2 : ((w.alloc (.cells #[.string n, .string x, .bool true, .slice a k.length cap] 40)).drew.alloc (.cells #[.int .i64 (sc : Nat), .string x] 33)).cell? ⟨q, 3, none⟩ = some (.slice a3 s.rs.length p3) := (hb1.cell (lt_of_cell cL)).trans cL
  have hnl : s.rs.length ≤ 100000 := by unfold Sw.sz at hsz; omega
  clear h hp hg hb0 hb1 hcb
  go_enter Try.func50, Try.ntmps50
  go_wp2_with fail
  go_cut [] from 15 to 29 (fun wx => ∃ g7 cap7, Hid (St A q 85 (w.alloc (.cells #[.string n, .string x, .bool true, .slice a k.length cap] 40)) s c wx { s with rs := s.rs ++ [⟨sc, x⟩] } { c with v3 := .slice (some ⟨g7, 0, none⟩) (s.rs.length + 1) cap7 } (fun _ => False) (fun _ => False)))
  case first =>
    refine wp_region_held_drew (S := (fun wq => wq.cell? ⟨w.heap.size, 1, none⟩ = some (.string x))) (by kernel_rfl) hS0 (fun hHeld => ?_)
    refine wpAnyH_take (i := 0) (oi := { dst := some 15, op := Go.Op.move (Go.Operand.tmp 0), type := 83, pos := "l12_names.go:199", after := #[], guard := none }) (v := ?v1) rfl (by kernel_rfl) (by kernel_rfl) (by kernel_rfl) (fun _ _ _ h => h) (Or.inl ⟨by rfl, ?h1⟩) hHeld ?r1
    case h1 => (intro w hSw; (try dsimp only at hSw); go_simp; try with_reducible rfl)
    refine wpAnyH_take (i := 1) (oi := { dst := some 16, op := Go.Op.move (Go.Operand.tmp 0), type := 83, pos := "l12_names.go:199", after := #[], guard := none }) (v := ?v2) rfl (by kernel_rfl) (by kernel_rfl) (by kernel_rfl) (fun _ _ _ h => h) (Or.inl ⟨by rfl, ?h2⟩) hHeld ?r2
    case h2 => (intro w hSw; (try dsimp only at hSw); go_simp; try with_reducible rfl)
    refine wpAnyH_take (i := 2) (oi := { dst := some 17, op := Go.Op.nilCheck (Go.Operand.tmp 16), type := 0, pos := "l12_names.go:199", after := #[{ on := 1, ground := Go.Ground.data }], guard := none }) (v := ?v3) rfl (by kernel_rfl) (by kernel_rfl) (by kernel_rfl) (fun _ _ _ h => h) (Or.inl ⟨by rfl, ?h3⟩) hHeld ?r3
    case h3 => (intro w hSw; (try dsimp only at hSw); go_simp; try with_reducible rfl)
    refine wpAnyH_take (i := 3) (oi := { dst := some 18, op := Go.Op.fieldAddr 85 (Go.Operand.tmp 17) 0, type := 0, pos := "l12_names.go:199", after := #[{ on := 2, ground := Go.Ground.data }], guard := none }) (v := ?v4) rfl (by kernel_rfl) (by kernel_rfl) (by kernel_rfl) (fun _ _ _ h => h) (Or.inl ⟨by rfl, ?h4⟩) hHeld ?r4
    case h4 => (intro w hSw; (try dsimp only at hSw); go_simp; try with_reducible rfl)
    refine wpAnyH_take (i := 4) (oi := { dst := some 19, op := Go.Op.fieldAddr 27 (Go.Operand.tmp 18) 3, type := 0, pos := "l12_names.go:199", after := #[{ on := 3, ground := Go.Ground.data }], guard := none }) (v := ?v5) rfl (by kernel_rfl) (by kernel_rfl) (by kernel_rfl) (fun _ _ _ h => h) (Or.inl ⟨by rfl, ?h5⟩) hHeld ?r5
    case h5 => (intro w hSw; (try dsimp only at hSw); go_simp; try with_reducible rfl)
    refine wpAnyH_take (i := 6) (oi := { dst := some 21, op := Go.Op.move (Go.Operand.tmp 3), type := 3, pos := "l12_names.go:199", after := #[], guard := none }) (v := ?v6) rfl (by kernel_rfl) (by kernel_rfl) (by kernel_rfl) (fun _ _ _ h => h) (Or.inl ⟨by rfl, ?h6⟩) hHeld ?r6
    case h6 => (intro w hSw; (try dsimp only at hSw); go_simp; try with_reducible rfl)
    refine wpAnyH_take (i := 7) (oi := { dst := some 22, op := Go.Op.fieldAddr 40 (Go.Operand.tmp 5) 1, type := 0, pos := "l12_names.go:199", after := #[], guard := none }) (v := ?v7) rfl (by kernel_rfl) (by kernel_rfl) (by kernel_rfl) (fun _ _ _ h => h) (Or.inl ⟨by rfl, ?h7⟩) hHeld ?r7
    case h7 => (intro w hSw; (try dsimp only at hSw); go_simp; try with_reducible rfl)
    refine wpAnyH_take (i := 8) (oi := { dst := some 23, op := Go.Op.load 9 (Go.Operand.tmp 22), type := 9, pos := "l12_names.go:199", after := #[{ on := 7, ground := Go.Ground.data }], guard := none }) (v := ?v8) rfl (by kernel_rfl) (by kernel_rfl) (by kernel_rfl) (fun _ _ _ h => h) (Or.inl ⟨by rfl, ?h8⟩) hHeld ?r8
    case h8 => (intro w hSw; (try dsimp only at hSw); go_simp; try with_reducible rfl)
    refine wpAnyH_take (i := 9) (oi := { dst := some 24, op := Go.Op.build 33 #[(0, Go.Operand.tmp 21), (1, Go.Operand.tmp 23)], type := 33, pos := "l12_names.go:199", after := #[{ on := 6, ground := Go.Ground.data }, { on := 8, ground := Go.Ground.data }], guard := none }) (v := ?v9) rfl (by kernel_rfl) (by kernel_rfl) (by kernel_rfl) (fun _ _ _ h => h) (Or.inl ⟨by rfl, ?h9⟩) hHeld ?r9
    case h9 => (intro w hSw; (try dsimp only at hSw); go_simp; try with_reducible rfl)
    refine wpAnyH_ready (rs := [5, 10]) (by kernel_rfl) (by simp) ?_
    refine (AllReadyH.cons (o := qSg0) rfl (fun K hK => ?_) (AllReadyH.cons (o := qSg1) rfl (fun K hK => ?_) AllReadyH.nil))
    · go_simp
      clear hHeld
      refine hK.out _ _ hS0 (fun hHeld => ?_)
      clear hK K
      refine wpAnyH_ready (rs := [10]) (by kernel_rfl) (by simp) ?_
      refine (AllReadyH.cons (o := qSg1) rfl (fun K hK => ?_) AllReadyH.nil)
      go_simp
      clear hHeld
      refine hK.out _ _ hS1 (fun hHeld => ?_)
      clear hK K
      refine wpAnyH_ready (rs := [11]) (by kernel_rfl) (by simp) ?_
      refine (AllReadyH.cons (o := qSg2) rfl (fun K hK => ?_) AllReadyH.nil)
      (refine step_append_lies _ rfl (.tmp 20) (.tmp 25) 25 rfl A 33 i33 _ 2 24 Try.underlying25 hi33 hy0 hy1 hy2 rfl (by decide) (.slice a3 s.rs.length p3) s.rs.length (spL s.rs) (by simp [Act.eval, Act.put]) HO5.out ⟨w.heap.size + 1, 0, none⟩ 1 1 [.int .i64 (sc : Nat), .string x] (by simp [Act.eval, Act.put]) rfl HNB.out (by intro y hy; simp at hy; rcases hy with rfl | rfl <;> rfl) (by decide) (by unfold maxLen; omega) (by omega) HZ5.out _ HZ6.out ?_; intro g7 cap7 w7 hown7 hgr7 hat7 hlt7; obtain ⟨hS7, f7, f8, hS8, HE7⟩ := HUP.out g7 cap7 w7 hown7 hgr7 hat7; clear hown7 hgr7 hat7 hlt7)
      clear hHeld
      refine hK.out _ _ hS7 (fun hHeld => ?_)
      clear hK K
      refine wpAnyH_take (i := 12) (oi := qSg3) (v := ?v10) rfl (by kernel_rfl) (by kernel_rfl) (by kernel_rfl) (fun _ _ _ h => h) (Or.inl ⟨by rfl, ?h10⟩) hHeld ?r10
      case h10 => (intro w hSw; (try dsimp only at hSw); go_simp; try with_reducible rfl)
      refine wpAnyH_take (i := 13) (oi := qSg4) (v := ?v11) rfl (by kernel_rfl) (by kernel_rfl) (by kernel_rfl) (fun _ _ _ h => h) (Or.inl ⟨by rfl, ?h11⟩) hHeld ?r11
      case h11 => (intro w hSw; (try dsimp only at hSw); go_simp; try with_reducible rfl)
      refine wpAnyH_take (i := 14) (oi := qSg5) (v := ?v12) rfl (by kernel_rfl) (by kernel_rfl) (by kernel_rfl) (fun _ _ _ h => h) (Or.inl ⟨by rfl, ?h12⟩) hHeld ?r12
      case h12 => (intro w hSw; (try dsimp only at hSw); go_simp; try with_reducible rfl)
      refine wpAnyH_ready (rs := [15]) (by kernel_rfl) (by simp) ?_
      refine (AllReadyH.cons (o := qSg6) rfl (fun K hK => ?_) AllReadyH.nil)
      go_simp
      clear hHeld
      refine hK.out _ _ hS8 (fun hHeld => ?_)
      clear hK K
      refine wpAnyH_done (by kernel_rfl) ?_ _
      clear f7 f8 hS7 hS8 hS0 hS1 hHeld
      go_wp2_with fail
      go_meet
      exact ⟨g7, cap7, HE7.out⟩
    · go_simp
      clear hHeld
      refine hK.out _ _ hS1 (fun hHeld => ?_)
      clear hK K
      refine wpAnyH_ready (rs := [5]) (by kernel_rfl) (by simp) ?_
      refine (AllReadyH.cons (o := qSg0) rfl (fun K hK => ?_) AllReadyH.nil)
      go_simp
      clear hHeld
      refine hK.out _ _ hS1 (fun hHeld => ?_)
      clear hK K
      refine wpAnyH_ready (rs := [11]) (by kernel_rfl) (by simp) ?_
      refine (AllReadyH.cons (o := qSg2) rfl (fun K hK => ?_) AllReadyH.nil)
      (refine step_append_lies _ rfl (.tmp 20) (.tmp 25) 25 rfl A 33 i33 _ 2 24 Try.underlying25 hi33 hy0 hy1 hy2 rfl (by decide) (.slice a3 s.rs.length p3) s.rs.length (spL s.rs) (by simp [Act.eval, Act.put]) HO5.out ⟨w.heap.size + 1, 0, none⟩ 1 1 [.int .i64 (sc : Nat), .string x] (by simp [Act.eval, Act.put]) rfl HNB.out (by intro y hy; simp at hy; rcases hy with rfl | rfl <;> rfl) (by decide) (by unfold maxLen; omega) (by omega) HZ5.out _ HZ6.out ?_; intro g7 cap7 w7 hown7 hgr7 hat7 hlt7; obtain ⟨hS7, f7, f8, hS8, HE7⟩ := HUP.out g7 cap7 w7 hown7 hgr7 hat7; clear hown7 hgr7 hat7 hlt7)
      clear hHeld
      refine hK.out _ _ hS7 (fun hHeld => ?_)
      clear hK K
      refine wpAnyH_take (i := 12) (oi := qSg3) (v := ?v13) rfl (by kernel_rfl) (by kernel_rfl) (by kernel_rfl) (fun _ _ _ h => h) (Or.inl ⟨by rfl, ?h13⟩) hHeld ?r13
      case h13 => (intro w hSw; (try dsimp only at hSw); go_simp; try with_reducible rfl)
      refine wpAnyH_take (i := 13) (oi := qSg4) (v := ?v14) rfl (by kernel_rfl) (by kernel_rfl) (by kernel_rfl) (fun _ _ _ h => h) (Or.inl ⟨by rfl, ?h14⟩) hHeld ?r14
      case h14 => (intro w hSw; (try dsimp only at hSw); go_simp; try with_reducible rfl)
      refine wpAnyH_take (i := 14) (oi := qSg5) (v := ?v15) rfl (by kernel_rfl) (by kernel_rfl) (by kernel_rfl) (fun _ _ _ h => h) (Or.inl ⟨by rfl, ?h15⟩) hHeld ?r15
      case h15 => (intro w hSw; (try dsimp only at hSw); go_simp; try with_reducible rfl)
      refine wpAnyH_ready (rs := [15]) (by kernel_rfl) (by simp) ?_
      refine (AllReadyH.cons (o := qSg6) rfl (fun K hK => ?_) AllReadyH.nil)
      go_simp
      clear hHeld
      refine hK.out _ _ hS8 (fun hHeld => ?_)
      clear hK K
      refine wpAnyH_done (by kernel_rfl) ?_ _
      clear f7 f8 hS7 hS8 hS0 hS1 hHeld
      go_wp2_with fail
      go_meet
      exact ⟨g7, cap7, HE7.out⟩
  case rest =>
    obtain ⟨g7, cap7, HC7⟩ := hcut
    have HC8 := (show Hid (Co wc A q 85 { s with rs := s.rs ++ [⟨sc, x⟩] } { c with v3 := .slice (some ⟨g7, 0, none⟩) (s.rs.length + 1) cap7 }) from HC7.out.co)
    obtain ⟨_, _, _, _, ⟨a5, p5, e5⟩⟩ := HC8.out.form
    dsimp only at e5
    have c5 : wc.cell? ⟨q, 5, none⟩ = some (.slice a5 s.rp.length p5) := by
      have := HC8.out.bx.cell 5 (by simp)
      rw [← e5]
      exact this
    have hb2 := bel_alloc wc (.cells #[.slice (some ⟨g, 0, none⟩) p.length cp] 34)
    have HO6 := (show Hid ((wc.alloc (.cells #[.slice (some ⟨g, 0, none⟩) p.length cp] 34)).ownsRow A 34 1 (.slice a5 s.rp.length p5) s.rp.length (slv c.R s.rp.length)) from by
      have := own_keep1 HC8.out.rp.out (fun b e => hb2.block b (World.ownsRow.lt HC8.out.rp.out b e).2)
      dsimp only at this
      rw [e5] at this
      exact this)
    have HNB2 := (show Hid _ from World.news_of_block (blk_alloc_new wc (.cells #[.slice (some ⟨g, 0, none⟩) p.length cp] 34)))
    have hz9 : A ≤ (wc.alloc (.cells #[.slice (some ⟨g, 0, none⟩) p.length cp] 34)).heap.size := by
      have h1 := HC8.out.hq
      have h2 := HC8.out.bx.lt
      have h3 := hb2.size
      omega
    have hnr : s.rp.length ≤ 100000 := by unfold Sw.sz at hsz; omega
    have hgw : g < w.heap.size := (World.ownsRow.lt HP.out g rfl).2
    have HPC := (show Hid (wc.ownsRow A 3 1 (.slice (some ⟨g, 0, none⟩) p.length cp) p.length (nums p)) from own_keep1 HP.out (fun b e => by
      have e : g = b := by simpa [Value.ownBlock] using e
      subst e
      exact (HC7.out.fm.block g (by simp; omega) (fun e => e.elim HG.out id)).trans (HB0.out.block g hgw)))
    have HUP2 := (show Hid (∀ (g8 cap8 : Nat) (w8 : World), w8.ownsRow A 34 1 (.slice (some ⟨g8, 0, none⟩) (s.rp.length + 1) cap8) (s.rp.length + 1) (slv c.R s.rp.length ++ [.slice (some ⟨g, 0, none⟩) p.length cp]) → (wc.alloc (.cells #[.slice (some ⟨g, 0, none⟩) p.length cp] 34)).grownBy w8 (Value.slice a5 s.rp.length p5).ownBlock → ((Value.slice a5 s.rp.length p5).ownBlock = some g8 ∨ g8 = (wc.alloc (.cells #[.slice (some ⟨g, 0, none⟩) p.length cp] 34)).heap.size) →
      w8.cell? ⟨q, 5, none⟩ = some (.slice a5 s.rp.length p5) ∧ w8.frozen? ⟨q, 5, none⟩ = false ∧
      Hid (∃ c', St A q 85 w s c (w8.setCell ⟨q, 5, none⟩ (.slice (some ⟨g8, 0, none⟩) (s.rp.length + 1) cap8)) (s.ref sc x p) c' (fun _ => False) (fun b => b = g))) from fun g8 cap8 w8 h1 h2 h3 => by
      have hng : ∀ b, (Value.slice (some ⟨g, 0, none⟩) p.length cp).ownBlock = some b → ¬ CV.B { c with v3 := .slice (some ⟨g7, 0, none⟩) (s.rs.length + 1) cap7 } q { s with rs := s.rs ++ [⟨sc, x⟩] } b := fun b e e2 => by
        have e : g = b := by simpa [Value.ownBlock] using e
        subst e
        rcases HC7.out.nb g e2 with e3 | e3 | e3
        · exact HG.out e3
        · exact e3
        · simp at e3
          omega
      rw [← e5] at h2 h3
      obtain ⟨u, st⟩ := HC8.out.upRp hb2 (own_keep1 HPC.out (fun b e => hb2.block b (World.ownsRow.lt HPC.out b e).2)) hng h1 h2 h3
      refine ⟨by rw [← e5]; exact u.cell, u.froz, _, (((St.below (T := fun _ => False) (N := fun _ => False) HC.out HB0.out).trans (T'' := fun _ => False) (N'' := fun _ => False) HC7.out (fun _ _ e => e) (fun _ _ e => e.elim) (fun _ _ e => e) (fun _ _ e => e)).trans st (fun _ _ e => e) (fun _ _ e => e.elim) (fun _ _ e => e) (fun b _ e => by
        have e : g = b := by simpa [Value.ownBlock] using e
        exact e.symm))⟩)
    clear hb2
    go_wp2_with (at_builtin; refine wpList_append_lies _ rfl (.tmp 34) (.tmp 36) 42 rfl A 34 i34 _ 1 24 Try.underlying42 hi34 hz0 hz1 hz2 rfl (by decide) (.slice a5 s.rp.length p5) s.rp.length _ rfl HO6.out ⟨wc.heap.size, 0, none⟩ 1 1 [.slice (some ⟨g, 0, none⟩) p.length cp] rfl rfl HNB2.out (by intro u hu; simp at hu; subst hu; rfl) (by decide) (by unfold maxLen; omega) (by omega) hz9 _ rfl ?_; intro g8 cap8 w8 hown8 hgr8 hat8 hlt8; obtain ⟨z0, zf, HF8⟩ := HUP2.out g8 cap8 w8 hown8 hgr8 hat8; clear hown8 hgr8 hat8 hlt8)
    refine bodyPost_ret (v := .tuple #[]) (by simp [results, Try.results50, go_sem]) rfl ?_
    exact ⟨rfl, HF8.out⟩
end Go.Proofs.Ytledclkmeikgdaa
