import Derived.Test.YtledclkmeikgdaaSh
/-! The specification: a term is gone through, what declares. -/
namespace Go.Proofs.Ytledclkmeikgdaa
open Go.RowKit Go.Deep Go.Lib
open Go.Proofs.Ytledclkmeikgdaa.T (Tr)
set_option linter.unusedVariables false
set_option maxRecDepth 100000
set_option linter.unusedSimpArgs false
abbrev qSj0 : Oper := { dst := some 99, op := Go.Op.load 25 (Go.Operand.tmp 98), type := 25, pos := "l12_names.go:213", after := #[{ on := 4, ground := Go.Ground.data }], guard := none }
abbrev qSj1 : Oper := { dst := some 107, op := Go.Op.buildSlice 25 1 #[(0, Go.Operand.tmp 106)], type := 25, pos := "l12_names.go:213", after := #[{ on := 12, ground := Go.Ground.data }], guard := none }
abbrev qSj2 : Oper := { dst := some 108, op := Go.Op.call { callee := Go.Callee.builtin Go.Builtin.append, args := #[Go.Operand.tmp 99, Go.Operand.tmp 107], argTypes := #[25, 25] }, type := 25, pos := "l12_names.go:213", after := #[{ on := 5, ground := Go.Ground.data }, { on := 13, ground := Go.Ground.data }], guard := none }
abbrev qSj3 : Oper := { dst := some 109, op := Go.Op.nilCheck (Go.Operand.tmp 94), type := 0, pos := "l12_names.go:213", after := #[{ on := 0, ground := Go.Ground.data }, { on := 0, ground := Go.Ground.phase }, { on := 1, ground := Go.Ground.phase }, { on := 2, ground := Go.Ground.phase }, { on := 3, ground := Go.Ground.phase }, { on := 4, ground := Go.Ground.phase }, { on := 5, ground := Go.Ground.phase }, { on := 6, ground := Go.Ground.phase }, { on := 7, ground := Go.Ground.phase }, { on := 8, ground := Go.Ground.phase }, { on := 9, ground := Go.Ground.phase }, { on := 10, ground := Go.Ground.phase }, { on := 11, ground := Go.Ground.phase }, { on := 12, ground := Go.Ground.phase }, { on := 13, ground := Go.Ground.phase }, { on := 14, ground := Go.Ground.phase }], guard := none }
abbrev qSj4 : Oper := { dst := some 110, op := Go.Op.fieldAddr 85 (Go.Operand.tmp 109) 0, type := 0, pos := "l12_names.go:213", after := #[{ on := 15, ground := Go.Ground.data }, { on := 0, ground := Go.Ground.phase }, { on := 1, ground := Go.Ground.phase }, { on := 2, ground := Go.Ground.phase }, { on := 3, ground := Go.Ground.phase }, { on := 4, ground := Go.Ground.phase }, { on := 5, ground := Go.Ground.phase }, { on := 6, ground := Go.Ground.phase }, { on := 7, ground := Go.Ground.phase }, { on := 8, ground := Go.Ground.phase }, { on := 9, ground := Go.Ground.phase }, { on := 10, ground := Go.Ground.phase }, { on := 11, ground := Go.Ground.phase }, { on := 12, ground := Go.Ground.phase }, { on := 13, ground := Go.Ground.phase }, { on := 14, ground := Go.Ground.phase }], guard := none }
abbrev qSj5 : Oper := { dst := some 111, op := Go.Op.fieldAddr 27 (Go.Operand.tmp 110) 2, type := 0, pos := "l12_names.go:213", after := #[{ on := 16, ground := Go.Ground.data }, { on := 0, ground := Go.Ground.phase }, { on := 1, ground := Go.Ground.phase }, { on := 2, ground := Go.Ground.phase }, { on := 3, ground := Go.Ground.phase }, { on := 4, ground := Go.Ground.phase }, { on := 5, ground := Go.Ground.phase }, { on := 6, ground := Go.Ground.phase }, { on := 7, ground := Go.Ground.phase }, { on := 8, ground := Go.Ground.phase }, { on := 9, ground := Go.Ground.phase }, { on := 10, ground := Go.Ground.phase }, { on := 11, ground := Go.Ground.phase }, { on := 12, ground := Go.Ground.phase }, { on := 13, ground := Go.Ground.phase }, { on := 14, ground := Go.Ground.phase }], guard := none }
abbrev qSj6 : Oper := { dst := none, op := Go.Op.store 25 (Go.Operand.tmp 111) (Go.Operand.tmp 108), type := 0, pos := "l12_names.go:213", after := #[{ on := 17, ground := Go.Ground.data }, { on := 14, ground := Go.Ground.data }, { on := 14, ground := Go.Ground.chain }, { on := 0, ground := Go.Ground.phase }, { on := 1, ground := Go.Ground.phase }, { on := 2, ground := Go.Ground.phase }, { on := 3, ground := Go.Ground.phase }, { on := 4, ground := Go.Ground.phase }, { on := 5, ground := Go.Ground.phase }, { on := 6, ground := Go.Ground.phase }, { on := 7, ground := Go.Ground.phase }, { on := 8, ground := Go.Ground.phase }, { on := 9, ground := Go.Ground.phase }, { on := 10, ground := Go.Ground.phase }, { on := 11, ground := Go.Ground.phase }, { on := 12, ground := Go.Ground.phase }, { on := 13, ground := Go.Ground.phase }, { on := 14, ground := Go.Ground.phase }], guard := none }
abbrev qSj7 : Oper := { dst := some 116, op := Go.Op.load 42 (Go.Operand.tmp 115), type := 42, pos := "l12_names.go:214", after := #[{ on := 3, ground := Go.Ground.data }], guard := none }
abbrev qSj8 : Oper := { dst := some 118, op := Go.Op.call { callee := Go.Callee.value (Go.Operand.func 95), args := #[Go.Operand.tmp 117, Go.Operand.const (Go.Value.int Go.IntKind.i64 0)], argTypes := #[34, 3] }, type := 34, pos := "l12_names.go:214", after := #[{ on := 5, ground := Go.Ground.data }], guard := none }
abbrev qSj9 : Oper := { dst := some 119, op := Go.Op.buildSlice 42 1 #[(0, Go.Operand.tmp 118)], type := 42, pos := "l12_names.go:214", after := #[{ on := 6, ground := Go.Ground.data }], guard := none }
abbrev qSj10 : Oper := { dst := some 120, op := Go.Op.call { callee := Go.Callee.builtin Go.Builtin.append, args := #[Go.Operand.tmp 116, Go.Operand.tmp 119], argTypes := #[42, 42] }, type := 42, pos := "l12_names.go:214", after := #[{ on := 4, ground := Go.Ground.data }, { on := 7, ground := Go.Ground.data }, { on := 6, ground := Go.Ground.chain }], guard := none }
abbrev qSj11 : Oper := { dst := some 121, op := Go.Op.nilCheck (Go.Operand.tmp 112), type := 0, pos := "l12_names.go:214", after := #[{ on := 0, ground := Go.Ground.data }, { on := 0, ground := Go.Ground.phase }, { on := 1, ground := Go.Ground.phase }, { on := 2, ground := Go.Ground.phase }, { on := 3, ground := Go.Ground.phase }, { on := 4, ground := Go.Ground.phase }, { on := 5, ground := Go.Ground.phase }, { on := 6, ground := Go.Ground.phase }, { on := 7, ground := Go.Ground.phase }, { on := 8, ground := Go.Ground.phase }], guard := none }
abbrev qSj12 : Oper := { dst := some 122, op := Go.Op.fieldAddr 85 (Go.Operand.tmp 121) 1, type := 0, pos := "l12_names.go:214", after := #[{ on := 9, ground := Go.Ground.data }, { on := 0, ground := Go.Ground.phase }, { on := 1, ground := Go.Ground.phase }, { on := 2, ground := Go.Ground.phase }, { on := 3, ground := Go.Ground.phase }, { on := 4, ground := Go.Ground.phase }, { on := 5, ground := Go.Ground.phase }, { on := 6, ground := Go.Ground.phase }, { on := 7, ground := Go.Ground.phase }, { on := 8, ground := Go.Ground.phase }], guard := none }
abbrev qSj13 : Oper := { dst := none, op := Go.Op.store 42 (Go.Operand.tmp 122) (Go.Operand.tmp 120), type := 0, pos := "l12_names.go:214", after := #[{ on := 10, ground := Go.Ground.data }, { on := 8, ground := Go.Ground.data }, { on := 8, ground := Go.Ground.chain }, { on := 0, ground := Go.Ground.phase }, { on := 1, ground := Go.Ground.phase }, { on := 2, ground := Go.Ground.phase }, { on := 3, ground := Go.Ground.phase }, { on := 4, ground := Go.Ground.phase }, { on := 5, ground := Go.Ground.phase }, { on := 6, ground := Go.Ground.phase }, { on := 7, ground := Go.Ground.phase }, { on := 8, ground := Go.Ground.phase }], guard := none }

set_option maxHeartbeats 12800000 in
theorem walk50_let {A q : Nat} (n x : ByteArray) (k : List Tr) (hm : k.length = 3) (ih : ∀ i (hi : i < k.length), WkC A q k[i]) (hN : (n.toList == ([76, 101, 116] : List UInt8)) = true) (hN2 : (n.toList == ([76, 97, 109] : List UInt8)) = false) (v : Value) (sc : Nat) (p : List Nat) (g cp : Nat) (s : Sw) (c : CV) (w : World) (h : Co w A q 85 s c) (hp : w.ownsRow A 3 1 (.slice (some ⟨g, 0, none⟩) p.length cp) p.length (nums p)) (hg : ¬ c.B q s g) (hlies : T.Lies w (fun b => b < A) ⟨n, x, false, k⟩ v)
    (hsz : s.sz + 4 + 4 * T.Tr.cntL k ≤ 100000) (hdp : p.length + 1 + T.Tr.deepL k ≤ 100000) (hsc : sc ≤ 100000) (htm : ∀ i (hi : i < k.length), T.tm k[i] = true) :
    Calls Try.prog 50 #[.pointer (some ⟨q, 0, none⟩), T.Tr.val ⟨n, x, false, k⟩ v, .slice (some ⟨g, 0, none⟩) p.length cp, .int .i64 (sc : Nat)] w fun e w' => e = .returned (.tuple #[]) ∧ ∃ c', St A q 85 w s c w' (swJ true sc s.n p k k.length (s.dcl (nm0 k) sc p)) c' (fun _ => False) (fun b => b = g) := by
  obtain ⟨i74, hi74, hxx⟩ := Option.map_eq_some_iff.1 info74s
  simp only [Prod.mk.injEq] at hxx
  obtain ⟨hx0, hx1, hx2⟩ := hxx
  obtain ⟨i33, hi33, hyy⟩ := Option.map_eq_some_iff.1 info33s
  simp only [Prod.mk.injEq] at hyy
  obtain ⟨hy0, hy1, hy2⟩ := hyy
  obtain ⟨i34, hi34, hzz⟩ := Option.map_eq_some_iff.1 info34s
  simp only [Prod.mk.injEq] at hzz
  obtain ⟨hz0, hz1, hz2⟩ := hzz
  obtain ⟨a, cap, b, off, sv, rfl, hn, hx, hc, hmx, ha, hcell, hk⟩ := hlies.out
  dsimp only at hn hx hc ha hcell hk ⊢
  obtain ⟨rfl, hbA⟩ := ha (by omega)
  have hnm : nm0 k = (k[0]'(by omega)).text := by
    unfold nm0
    cases k with
    | nil => simp at hm
    | cons t k => rfl
  obtain ⟨x0, hx0e⟩ : ∃ x0, (k[0]'(by omega)).text = x0 := ⟨_, rfl⟩
  rw [hnm, hx0e]
  rw [hm] at hc
  simp only [T.Tr.val, hm]
  have hb0 := bel_alloc w (.cells #[.string n, .string x, .bool false, .slice (some ⟨b, off, none⟩) 3 cap] 40)
  have hql := h.bx.lt
  have hA : A ≤ w.heap.size := by have := h.hq; omega
  obtain ⟨W0, hW0⟩ : ∃ W0, w.alloc (.cells #[.string n, .string x, .bool false, .slice (some ⟨b, off, none⟩) 3 cap] 40) = W0 := ⟨_, rfl⟩
  have hz0w : W0.heap.size = w.heap.size + 1 := by rw [← hW0]; simp
  have hb0' : Below w.heap.size w W0 := by rw [← hW0]; exact hb0
  have H0 := (show Hid (Co W0 A q 85 s c) from h.still hb0')
  have HB0 := (show Hid (Below w.heap.size w W0) from hb0')
  have hcb : ¬ c.B q s w.heap.size := fun e => by have := (h.lt _ e).2; omega
  have hgw : g < w.heap.size := (World.ownsRow.lt hp g rfl).2
  have hw3 : W0.cell? ⟨w.heap.size, 3, none⟩ = some (.slice (some ⟨b, off, none⟩) 3 cap) := by rw [← hW0]; simp [go_sem]
  have hwn : W0.cell? ⟨w.heap.size, 0, none⟩ = some (.string n) := by rw [← hW0]; simp [go_sem]
  have hw2 : W0.cell? ⟨w.heap.size, 2, none⟩ = some (.bool false) := by rw [← hW0]; simp [go_sem]
  have HPW := (show Hid (∀ (wr : World) (sj : Sw) (cj : CV), St A q 85 W0 s c wr sj cj (fun _ => False) (fun _ => False) → wr.ownsRow A 3 1 (.slice (some ⟨g, 0, none⟩) p.length cp) p.length (nums p) ∧ wr.cell? ⟨w.heap.size, 3, none⟩ = some (.slice (some ⟨b, off, none⟩) 3 cap) ∧ wr.cell? ⟨w.heap.size, 0, none⟩ = some (.string n) ∧ Below A W0 wr) from fun wr sj cj hst => ⟨own_keep1 hp (fun b' e => by
      have e : g = b' := by simpa [Value.ownBlock] using e
      subst e
      exact (hst.fm.block g (by omega) (fun e => e.elim hg id)).trans (hb0'.block g hgw)), (World.cell?_of_block (w := W0) (hst.fm.block w.heap.size (by omega) (fun e => e.elim hcb id))).trans hw3, (World.cell?_of_block (w := W0) (hst.fm.block w.heap.size (by omega) (fun e => e.elim hcb id))).trans hwn, hst.low H0.out⟩)
  have HAZ := (show Hid (∀ (wr : World) (sj : Sw) (cj : CV), St A q 85 W0 s c wr sj cj (fun _ => False) (fun _ => False) → A ≤ wr.heap.size) from fun wr sj cj hst => by have h1 := hst.co.hq; have h2 := hst.co.bx.lt; omega)
  have hx0c : ∀ W, Below A W0 W → W.cell? ⟨b, off + 1, none⟩ = some (.string x0) := fun W hW => by
    have := (hcell 0 (by omega)).2.1
    rw [hx0e] at this
    simp only [Nat.zero_mul, Nat.add_zero] at this
    exact (World.cell?_of_block (w := w) ((hW.block b hbA).trans (hb0'.block b (by omega)))).trans this
  have HX0 := (show Hid (∀ W, Below A W0 W → W.cell? ⟨b, off + 1, none⟩ = some (.string x0)) from hx0c)
  obtain ⟨k1a, k1b, k1c, hkf1⟩ := (hk 1 (by omega)).form
  obtain ⟨k1n, hk1n⟩ : ∃ y, (k[1]'(by omega)).name = y := ⟨_, rfl⟩
  obtain ⟨k1x, hk1x⟩ : ∃ y, (k[1]'(by omega)).text = y := ⟨_, rfl⟩
  obtain ⟨k1l, hk1l⟩ : ∃ y, (k[1]'(by omega)).leaf = y := ⟨_, rfl⟩
  have HK1 := (show Hid (∀ wq, Below A W0 wq → (wq.cell? ⟨b, off + 4, none⟩ = some (.string k1n) ∧ wq.cell? ⟨b, off + 4 + 1, none⟩ = some (.string k1x) ∧ wq.cell? ⟨b, off + 4 + 2, none⟩ = some (.bool k1l) ∧ wq.cell? ⟨b, off + 4 + 3, none⟩ = some (.slice k1a k1b k1c))) from fun wq hW => by
    obtain ⟨c0, c1, c2, c3⟩ := hcell 1 (by omega)
    rw [hk1n] at c0
    rw [hk1x] at c1
    rw [hk1l] at c2
    rw [hkf1] at c3
    have hkp : ∀ {o : Nat} {u : Value}, w.cell? ⟨b, o, none⟩ = some u → wq.cell? ⟨b, o, none⟩ = some u := fun {o u} hcu => (World.cell?_of_block (w := w) ((hW.block b hbA).trans (hb0'.block b (by omega)))).trans hcu
    exact ⟨hkp c0, hkp c1, hkp c2, hkp c3⟩)
  have HQ1 := (show Hid (∀ (wr : World) (cj : CV), St A q 85 W0 s c wr (swJ true sc s.n p k 1 (s.dcl x0 sc p)) cj (fun _ => False) (fun _ => False) → ∀ (w7 : World) (g7 cp7 : Nat), Below wr.heap.size wr w7 → w7.ownsRow wr.heap.size 3 1 (.slice (some ⟨g7, 0, none⟩) (p.length + 1) cp7) (p.length + 1) (nums (p ++ [1])) → Calls Try.prog 50 #[.pointer (some ⟨q, 0, none⟩), .agg #[.string k1n, .string k1x, .bool k1l, .slice k1a k1b k1c], .slice (some ⟨g7, 0, none⟩) (p.length + 1) cp7, .int .i64 (sc : Nat)] w7 fun e w8 => e = .returned (.tuple #[]) ∧ ∃ c8, St A q 85 W0 s c w8 (swJ true sc s.n p k 2 (s.dcl x0 sc p)) c8 (fun _ => False) (fun _ => False)) from fun wr cj hst w7 g7 cp7 hb7 ho => by
    have hd := T.Tr.deepL_take_succ k 1 (by omega)
    have hd2 := T.Tr.deepL_take_le k (1 + 1)
    have hct := T.Tr.cntL_take_succ k 1 (by omega)
    have hct2 := T.Tr.cntL_take_le k (1 + 1)
    have hsj := swJ_sz true sc s.n p k (s.dcl x0 sc p) 1 (by omega)
    rw [dcl_sz] at hsj
    have hsn : s.n ≤ 100000 := by unfold Sw.sz at hsz; omega
    have hL : (p ++ [1]).length = p.length + 1 := by simp
    have := kid_up (scj := sc) (p7 := p ++ [1]) (g7 := g7) (cp7 := cp7) (ih 1 (by omega)) H0.out hst ((hk 1 (by omega)).still hb0') hb7 (by rw [hL]; exact ho) (by omega) (by rw [hL]; omega) (by omega) (htm 1 (by omega))
    rw [swJ_succ (by omega) (by simp), if_neg (by omega)]
    rw [hL] at this
    simp only [T.Tr.val, hkf1, hk1n, hk1x, hk1l] at this
    exact this)
  obtain ⟨k2a, k2b, k2c, hkf2⟩ := (hk 2 (by omega)).form
  obtain ⟨k2n, hk2n⟩ : ∃ y, (k[2]'(by omega)).name = y := ⟨_, rfl⟩
  obtain ⟨k2x, hk2x⟩ : ∃ y, (k[2]'(by omega)).text = y := ⟨_, rfl⟩
  obtain ⟨k2l, hk2l⟩ : ∃ y, (k[2]'(by omega)).leaf = y := ⟨_, rfl⟩
  have HK2 := (show Hid (∀ wq, Below A W0 wq → (wq.cell? ⟨b, off + 8, none⟩ = some (.string k2n) ∧ wq.cell? ⟨b, off + 8 + 1, none⟩ = some (.string k2x) ∧ wq.cell? ⟨b, off + 8 + 2, none⟩ = some (.bool k2l) ∧ wq.cell? ⟨b, off + 8 + 3, none⟩ = some (.slice k2a k2b k2c))) from fun wq hW => by
    obtain ⟨c0, c1, c2, c3⟩ := hcell 2 (by omega)
    rw [hk2n] at c0
    rw [hk2x] at c1
    rw [hk2l] at c2
    rw [hkf2] at c3
    have hkp : ∀ {o : Nat} {u : Value}, w.cell? ⟨b, o, none⟩ = some u → wq.cell? ⟨b, o, none⟩ = some u := fun {o u} hcu => (World.cell?_of_block (w := w) ((hW.block b hbA).trans (hb0'.block b (by omega)))).trans hcu
    exact ⟨hkp c0, hkp c1, hkp c2, hkp c3⟩)
  have HQ2 := (show Hid (∀ (wr : World) (cj : CV), St A q 85 W0 s c wr (swJ true sc s.n p k 2 (s.dcl x0 sc p)) cj (fun _ => False) (fun _ => False) → ∀ (w7 : World) (g7 cp7 : Nat), Below wr.heap.size wr w7 → w7.ownsRow wr.heap.size 3 1 (.slice (some ⟨g7, 0, none⟩) (p.length + 1) cp7) (p.length + 1) (nums (p ++ [2])) → Calls Try.prog 50 #[.pointer (some ⟨q, 0, none⟩), .agg #[.string k2n, .string k2x, .bool k2l, .slice k2a k2b k2c], .slice (some ⟨g7, 0, none⟩) (p.length + 1) cp7, .int .i64 (s.n : Nat)] w7 fun e w8 => e = .returned (.tuple #[]) ∧ ∃ c8, St A q 85 W0 s c w8 (swJ true sc s.n p k 3 (s.dcl x0 sc p)) c8 (fun _ => False) (fun _ => False)) from fun wr cj hst w7 g7 cp7 hb7 ho => by
    have hd := T.Tr.deepL_take_succ k 2 (by omega)
    have hd2 := T.Tr.deepL_take_le k (2 + 1)
    have hct := T.Tr.cntL_take_succ k 2 (by omega)
    have hct2 := T.Tr.cntL_take_le k (2 + 1)
    have hsj := swJ_sz true sc s.n p k (s.dcl x0 sc p) 2 (by omega)
    rw [dcl_sz] at hsj
    have hsn : s.n ≤ 100000 := by unfold Sw.sz at hsz; omega
    have hL : (p ++ [2]).length = p.length + 1 := by simp
    have := kid_up (scj := s.n) (p7 := p ++ [2]) (g7 := g7) (cp7 := cp7) (ih 2 (by omega)) H0.out hst ((hk 2 (by omega)).still hb0') hb7 (by rw [hL]; exact ho) (by omega) (by rw [hL]; omega) (by omega) (htm 2 (by omega))
    rw [swJ_succ (by omega) (by simp), if_pos ⟨rfl, by omega⟩]
    rw [hL] at this
    simp only [T.Tr.val, hkf2, hk2n, hk2x, hk2l] at this
    exact this)
  have HBA := (show Hid (b < A) from hbA)
  have HCB := (show Hid (¬ c.B q s w.heap.size) from hcb)
  have HFI := (show Hid (∀ (wr : World) (sj : Sw) (cj : CV), St A q 85 W0 s c wr sj cj (fun _ => False) (fun _ => False) → St A q 85 w s c wr sj cj (fun _ => False) (fun b => b = g)) from fun wr sj cj hst => (St.below (T := (fun _ => False)) (N := (fun _ => False)) h hb0').trans hst (fun _ _ e => e) (fun _ _ e => e.elim) (fun _ _ e => e) (fun _ _ e => e.elim))
  have hne : s.es.length ≤ 100000 ∧ s.ds.length ≤ 100000 ∧ s.dp.length ≤ 100000 ∧ s.n ≤ 100000 := by unfold Sw.sz at hsz; omega
  obtain ⟨hne, hnd, hnp, hnn⟩ := hne
  have hpl : p.length ≤ 100000 := by omega
  have kw3 : IntKind.i64.wrap (((3 : Nat) : Int) - 1) = 2 := by rw [IntKind.wrap_i64] <;> omega
  have kw4 : IntKind.i64.wrap (2 : Int) = 2 := by rw [IntKind.wrap_i64] <;> omega
  have kw5 : (0 : Int) ≤ (2 : Int) := by omega
  have kw6 : (2 : Int) < ((3 : Nat) : Int) := by omega
  obtain ⟨⟨a1, p1, e1⟩, ⟨a2, p2, e2⟩, _, ⟨a4, p4, e4⟩, _⟩ := h.form
  have kw : IntKind.i64.wrap ((s.n : Int) + 1) = (s.n : Int) + 1 := by rw [IntKind.wrap_i64]; omega
  obtain ⟨W1, hW1⟩ : ∃ W1, W0.setCell ⟨q, 0, none⟩ (.int .i64 ((s.n : Int) + 1)) = W1 := ⟨_, rfl⟩
  have st1 : St A q 85 W0 s c W1 { s with n := s.n + 1 } c (fun _ => False) (fun _ => False) := by
    rw [← hW1]
    exact H0.out.setN (s.n + 1)
  have HST1 := (show Hid (St A q 85 W0 s c W1 { s with n := s.n + 1 } c (fun _ => False) (fun _ => False)) from st1)
  have d0 : W0.cell? ⟨q, 0, none⟩ = some (.int .i64 (s.n : Nat)) := H0.out.bx.cell 0 (by simp)
  have d0f : W0.frozen? ⟨q, 0, none⟩ = false := H0.out.bx.frozen 0
  have d1 : W1.cell? ⟨q, 1, none⟩ = some (.slice a1 s.es.length p1) := by
    have := st1.co.bx.cell 1 (by simp)
    rw [← e1]
    exact this
  have hbe := bel_alloc W1 (.cells #[.int .i64 (s.n : Nat), .int .i64 (sc : Nat), .int .i64 1] 74)
  have HO1 := (show Hid ((W1.alloc (.cells #[.int .i64 (s.n : Nat), .int .i64 (sc : Nat), .int .i64 1] 74)).ownsRow A 74 3 (.slice a1 s.es.length p1) s.es.length (edL s.es)) from by
    have := own_keep1 st1.co.e (fun b' e => hbe.block b' (World.ownsRow.lt st1.co.e b' e).2)
    rw [e1] at this
    exact this)
  have HNB1 := (show Hid _ from World.news_of_block (cs := #[.int .i64 (s.n : Nat), .int .i64 (sc : Nat), .int .i64 1]) (blk_alloc_new W1 (.cells #[.int .i64 (s.n : Nat), .int .i64 (sc : Nat), .int .i64 1] 74)))
  have hzz1 : A ≤ (W1.alloc (.cells #[.int .i64 (s.n : Nat), .int .i64 (sc : Nat), .int .i64 1] 74)).heap.size := by
    have h1 := HAZ.out W1 _ _ st1
    have h3 := hbe.size
    omega
  have HUP1 := (show Hid (∀ (g1 cap1 : Nat) (w1 : World), w1.ownsRow A 74 3 (.slice (some ⟨g1, 0, none⟩) (s.es.length + 1) cap1) (s.es.length + 1) (edL s.es ++ [.int .i64 (s.n : Nat), .int .i64 (sc : Nat), .int .i64 1]) → (W1.alloc (.cells #[.int .i64 (s.n : Nat), .int .i64 (sc : Nat), .int .i64 1] 74)).grownBy w1 (Value.slice a1 s.es.length p1).ownBlock → ((Value.slice a1 s.es.length p1).ownBlock = some g1 ∨ g1 = (W1.alloc (.cells #[.int .i64 (s.n : Nat), .int .i64 (sc : Nat), .int .i64 1] 74)).heap.size) →
    w1.cell? ⟨q, 1, none⟩ = some (.slice a1 s.es.length p1) ∧ w1.frozen? ⟨q, 1, none⟩ = false ∧ Hid (St A q 85 W0 s c (w1.setCell ⟨q, 1, none⟩ (.slice (some ⟨g1, 0, none⟩) (s.es.length + 1) cap1)) { s with n := s.n + 1, es := s.es ++ [⟨s.n, sc, 1⟩] } { c with v1 := .slice (some ⟨g1, 0, none⟩) (s.es.length + 1) cap1 } (fun _ => False) (fun _ => False))) from fun g1 cap1 w1 h1 h2 h3 => by
    rw [← e1] at h2 h3
    obtain ⟨u, st⟩ := HST1.out.co.upE ⟨s.n, sc, 1⟩ hbe h1 h2 h3
    exact ⟨by rw [← e1]; exact u.cell, u.froz, HST1.out.trans st (fun _ _ e => e) (fun _ _ e => e.elim) (fun _ _ e => e) (fun _ _ e => e)⟩)
  clear ih hcell hk hlies hn hx h hp hg hb0 hb0' hcb htm hdp hsz hbe st1 hx0c
  go_enter Try.func50, Try.ntmps50
  go_wp2_with (at_builtin; refine wpList_append_lies _ rfl (.tmp 85) (.tmp 89) 24 rfl A 74 i74 _ 3 24 Try.underlying24 hi74 hx0 hx1 hx2 rfl (by decide) (.slice a1 s.es.length p1) s.es.length _ rfl HO1.out ⟨W1.heap.size, 0, none⟩ 1 1 [.int .i64 (s.n : Nat), .int .i64 (sc : Nat), .int .i64 1] rfl rfl HNB1.out (by intro u hu; simp at hu; rcases hu with rfl | rfl | rfl <;> rfl) (by decide) (by unfold maxLen; omega) (by omega) hzz1 _ rfl ?_; intro g1 cap1 w1 hown1 hgr1 hat1 hlt1; obtain ⟨z1, zf1, HF1⟩ := HUP1.out g1 cap1 w1 hown1 hgr1 hat1; clear hown1 hgr1 hat1 hlt1)
  clear z1 zf1 d0 d0f d1 HO1 HNB1 hzz1 HUP1 HST1 hw2
  clear hW1
  generalize w1.setCell ⟨q, 1, none⟩ (.slice (some ⟨g1, 0, none⟩) (s.es.length + 1) cap1) = W2 at *
  have HC2 := (show Hid (Co W2 A q 85 { s with n := s.n + 1, es := s.es ++ [⟨s.n, sc, 1⟩] } { c with v1 := .slice (some ⟨g1, 0, none⟩) (s.es.length + 1) cap1 }) from HF1.out.co)
  have hbf : Below W2.heap.size W2 (W2.drew.alloc (.cells #[.int .i64 (s.n : Nat), .string x0] 33)) := bel_trans (Below.drew (Below.refl _ _)) (bel_alloc _ _)
  obtain ⟨_, h23, _, hlow2⟩ := HPW.out W2 _ _ HF1.out
  have hxt := HX0.out W2 hlow2
  have cL : W2.cell? ⟨q, 2, none⟩ = some (.slice a2 s.ds.length p2) := by
    have := HC2.out.bx.cell 2 (by simp)
    rw [← e2]
    exact this
  have HO5 := (show Hid ((W2.drew.alloc (.cells #[.int .i64 (s.n : Nat), .string x0] 33)).ownsRow A 33 2 (.slice a2 s.ds.length p2) s.ds.length (spL s.ds)) from by
    have := own_keep1 HC2.out.d (fun b' e => hbf.block b' (World.ownsRow.lt HC2.out.d b' e).2)
    dsimp only at this
    rw [e2] at this
    exact this)
  have HNB := (show Hid (∀ j u, ([.int .i64 (s.n : Nat), .string x0] : List Value)[j]? = some u → (W2.drew.alloc (.cells #[.int .i64 (s.n : Nat), .string x0] 33)).cell? ((⟨W2.heap.size, 0, none⟩ : Addr).add j) = some u) from by
    have := World.news_of_block (cs := #[.int .i64 (s.n : Nat), .string x0]) (blk_alloc_new W2.drew (.cells #[.int .i64 (s.n : Nat), .string x0] 33))
    show ∀ j u, _
    simpa using this)
  have HZ5 := (show Hid (A ≤ (W2.drew.alloc (.cells #[.int .i64 (s.n : Nat), .string x0] 33)).heap.size) from by
    show A ≤ _
    have := HAZ.out W2 _ _ HF1.out
    simp
    omega)
  have HZ6 := (show Hid ((W2.drew.alloc (.cells #[.int .i64 (s.n : Nat), .string x0] 33)).heap.size = W2.heap.size + 1) from by show _ = _; simp)
  have hBx : ∀ b', b' < A → ¬ CV.B { c with v1 := .slice (some ⟨g1, 0, none⟩) (s.es.length + 1) cap1 } q { s with n := s.n + 1, es := s.es ++ [⟨s.n, sc, 1⟩] } b' := fun b' hb' e => by have := (HC2.out.lt b' e).1; omega
  have hBw : ¬ CV.B { c with v1 := .slice (some ⟨g1, 0, none⟩) (s.es.length + 1) cap1 } q { s with n := s.n + 1, es := s.es ++ [⟨s.n, sc, 1⟩] } w.heap.size := fun e => by
    rcases HF1.out.nb _ e with e | e | e
    · exact HCB.out e
    · exact e
    · omega
  have HUP := (show Hid (∀ (g7 cap7 : Nat) (w7 : World), w7.ownsRow A 33 2 (.slice (some ⟨g7, 0, none⟩) (s.ds.length + 1) cap7) (s.ds.length + 1) (spL s.ds ++ [.int .i64 (s.n : Nat), .string x0]) → (W2.drew.alloc (.cells #[.int .i64 (s.n : Nat), .string x0] 33)).grownBy w7 (Value.slice a2 s.ds.length p2).ownBlock → ((Value.slice a2 s.ds.length p2).ownBlock = some g7 ∨ g7 = W2.heap.size + 1) →
    (fun wq => wq.cell? ⟨w.heap.size, 3, none⟩ = some (.slice (some ⟨b, off, none⟩) 3 cap) ∧ wq.cell? ⟨b, off + 1, none⟩ = some (.string x0)) w7 ∧ w7.cell? ⟨q, 2, none⟩ = some (.slice a2 s.ds.length p2) ∧ w7.frozen? ⟨q, 2, none⟩ = false ∧ (fun wq => wq.cell? ⟨w.heap.size, 3, none⟩ = some (.slice (some ⟨b, off, none⟩) 3 cap) ∧ wq.cell? ⟨b, off + 1, none⟩ = some (.string x0)) (w7.setCell ⟨q, 2, none⟩ (.slice (some ⟨g7, 0, none⟩) (s.ds.length + 1) cap7)) ∧
    Hid (St A q 85 W0 s c (w7.setCell ⟨q, 2, none⟩ (.slice (some ⟨g7, 0, none⟩) (s.ds.length + 1) cap7)) { s with n := s.n + 1, es := s.es ++ [⟨s.n, sc, 1⟩], ds := s.ds ++ [⟨s.n, x0⟩] } { c with v1 := .slice (some ⟨g1, 0, none⟩) (s.es.length + 1) cap1, v2 := .slice (some ⟨g7, 0, none⟩) (s.ds.length + 1) cap7 } (fun _ => False) (fun _ => False))) from fun g7 cap7 w7 h1 h2 h3 => by
    rw [← e2] at h2 h3
    obtain ⟨u, st⟩ := HC2.out.upD ⟨s.n, x0⟩ hbf h1 h2 (h3.imp id (fun e => by rw [e]; exact HZ6.out.symm))
    obtain ⟨u1, u2⟩ := u.keepC h23 hBw
    obtain ⟨u3, u4⟩ := u.keepC hxt (hBx b HBA.out)
    exact ⟨⟨u1, u3⟩, by rw [← e2]; exact u.cell, u.froz, ⟨u2, u4⟩, HF1.out.trans st (fun _ _ e => e) (fun _ _ e => e.elim) (fun _ _ e => e) (fun _ _ e => e)⟩)
  have hS0 : (fun wq => wq.cell? ⟨w.heap.size, 3, none⟩ = some (.slice (some ⟨b, off, none⟩) 3 cap) ∧ wq.cell? ⟨b, off + 1, none⟩ = some (.string x0)) W2.drew := ⟨h23, hxt⟩
  have hS1 : (fun wq => wq.cell? ⟨w.heap.size, 3, none⟩ = some (.slice (some ⟨b, off, none⟩) 3 cap) ∧ wq.cell? ⟨b, off + 1, none⟩ = some (.string x0)) (W2.drew.alloc (.cells #[.int .i64 (s.n : Nat), .string x0] 33)) := ⟨(hbf.cell (lt_of_cell h23)).trans h23, (hbf.cell (lt_of_cell hxt)).trans hxt⟩
  have cL2 : (W2.drew.alloc (.cells #[.int .i64 (s.n : Nat), .string x0] 33)).cell? ⟨q, 2, none⟩ = some (.slice a2 s.ds.length p2) := (hbf.cell (lt_of_cell cL)).trans cL
  have cL3 : (W2.alloc (.cells #[.int .i64 (s.n : Nat), .string x0] 33)).cell? ⟨q, 2, none⟩ = some (.slice a2 s.ds.length p2) := cL2
  clear hbf hlow2 hBx hBw h23 hxt
  go_cut [] from 94 to 111 (fun wx => ∃ g7 cap7, Hid (St A q 85 W0 s c wx { s with n := s.n + 1, es := s.es ++ [⟨s.n, sc, 1⟩], ds := s.ds ++ [⟨s.n, x0⟩] } { c with v1 := .slice (some ⟨g1, 0, none⟩) (s.es.length + 1) cap1, v2 := .slice (some ⟨g7, 0, none⟩) (s.ds.length + 1) cap7 } (fun _ => False) (fun _ => False)))
  case first =>
    refine wp_region_held_drew (S := (fun wq => wq.cell? ⟨w.heap.size, 3, none⟩ = some (.slice (some ⟨b, off, none⟩) 3 cap) ∧ wq.cell? ⟨b, off + 1, none⟩ = some (.string x0))) (by kernel_rfl) hS0 (fun hHeld => ?_)
    refine wpAnyH_take (i := 0) (oi := { dst := some 94, op := Go.Op.move (Go.Operand.tmp 0), type := 83, pos := "l12_names.go:213", after := #[], guard := none }) (v := ?v1) rfl (by kernel_rfl) (by kernel_rfl) (by kernel_rfl) (fun _ _ _ h => h) (Or.inl ⟨by rfl, ?h1⟩) hHeld ?r1
    case h1 => (intro w hSw; (try dsimp only at hSw); go_simp; try with_reducible rfl)
    refine wpAnyH_take (i := 1) (oi := { dst := some 95, op := Go.Op.move (Go.Operand.tmp 0), type := 83, pos := "l12_names.go:213", after := #[], guard := none }) (v := ?v2) rfl (by kernel_rfl) (by kernel_rfl) (by kernel_rfl) (fun _ _ _ h => h) (Or.inl ⟨by rfl, ?h2⟩) hHeld ?r2
    case h2 => (intro w hSw; (try dsimp only at hSw); go_simp; try with_reducible rfl)
    refine wpAnyH_take (i := 2) (oi := { dst := some 96, op := Go.Op.nilCheck (Go.Operand.tmp 95), type := 0, pos := "l12_names.go:213", after := #[{ on := 1, ground := Go.Ground.data }], guard := none }) (v := ?v3) rfl (by kernel_rfl) (by kernel_rfl) (by kernel_rfl) (fun _ _ _ h => h) (Or.inl ⟨by rfl, ?h3⟩) hHeld ?r3
    case h3 => (intro w hSw; (try dsimp only at hSw); go_simp; try with_reducible rfl)
    refine wpAnyH_take (i := 3) (oi := { dst := some 97, op := Go.Op.fieldAddr 85 (Go.Operand.tmp 96) 0, type := 0, pos := "l12_names.go:213", after := #[{ on := 2, ground := Go.Ground.data }], guard := none }) (v := ?v4) rfl (by kernel_rfl) (by kernel_rfl) (by kernel_rfl) (fun _ _ _ h => h) (Or.inl ⟨by rfl, ?h4⟩) hHeld ?r4
    case h4 => (intro w hSw; (try dsimp only at hSw); go_simp; try with_reducible rfl)
    refine wpAnyH_take (i := 4) (oi := { dst := some 98, op := Go.Op.fieldAddr 27 (Go.Operand.tmp 97) 2, type := 0, pos := "l12_names.go:213", after := #[{ on := 3, ground := Go.Ground.data }], guard := none }) (v := ?v5) rfl (by kernel_rfl) (by kernel_rfl) (by kernel_rfl) (fun _ _ _ h => h) (Or.inl ⟨by rfl, ?h5⟩) hHeld ?r5
    case h5 => (intro w hSw; (try dsimp only at hSw); go_simp; try with_reducible rfl)
    refine wpAnyH_take (i := 6) (oi := { dst := some 100, op := Go.Op.move (Go.Operand.tmp 9), type := 3, pos := "l12_names.go:213", after := #[], guard := none }) (v := ?v6) rfl (by kernel_rfl) (by kernel_rfl) (by kernel_rfl) (fun _ _ _ h => h) (Or.inl ⟨by rfl, ?h6⟩) hHeld ?r6
    case h6 => (intro w hSw; (try dsimp only at hSw); go_simp; try with_reducible rfl)
    refine wpAnyH_take (i := 7) (oi := { dst := some 101, op := Go.Op.fieldAddr 40 (Go.Operand.tmp 5) 3, type := 0, pos := "l12_names.go:213", after := #[], guard := none }) (v := ?v7) rfl (by kernel_rfl) (by kernel_rfl) (by kernel_rfl) (fun _ _ _ h => h) (Or.inl ⟨by rfl, ?h7⟩) hHeld ?r7
    case h7 => (intro w hSw; (try dsimp only at hSw); go_simp; try with_reducible rfl)
    refine wpAnyH_take (i := 8) (oi := { dst := some 102, op := Go.Op.load 38 (Go.Operand.tmp 101), type := 38, pos := "l12_names.go:213", after := #[{ on := 7, ground := Go.Ground.data }], guard := none }) (v := ?v8) rfl (by kernel_rfl) (by kernel_rfl) (by kernel_rfl) (fun _ _ _ h => h) (Or.inl ⟨by rfl, ?h8⟩) hHeld ?r8
    case h8 => (intro w hSw; (try dsimp only at hSw); go_simp; try with_reducible rfl)
    refine wpAnyH_take (i := 9) (oi := { dst := some 103, op := Go.Op.indexAddr 38 (Go.Operand.tmp 102) (Go.Operand.const (Go.Value.int Go.IntKind.i64 0)), type := 0, pos := "l12_names.go:213", after := #[{ on := 8, ground := Go.Ground.data }], guard := none }) (v := ?v9) rfl (by kernel_rfl) (by kernel_rfl) (by kernel_rfl) (fun _ _ _ h => h) (Or.inl ⟨by rfl, ?h9⟩) hHeld ?r9
    case h9 => (intro w hSw; (try dsimp only at hSw); go_simp; try with_reducible rfl)
    refine wpAnyH_take (i := 10) (oi := { dst := some 104, op := Go.Op.fieldAddr 40 (Go.Operand.tmp 103) 1, type := 0, pos := "l12_names.go:213", after := #[{ on := 9, ground := Go.Ground.data }], guard := none }) (v := ?v10) rfl (by kernel_rfl) (by kernel_rfl) (by kernel_rfl) (fun _ _ _ h => h) (Or.inl ⟨by rfl, ?h10⟩) hHeld ?r10
    case h10 => (intro w hSw; (try dsimp only at hSw); go_simp; try with_reducible rfl)
    refine wpAnyH_take (i := 11) (oi := { dst := some 105, op := Go.Op.load 9 (Go.Operand.tmp 104), type := 9, pos := "l12_names.go:213", after := #[{ on := 10, ground := Go.Ground.data }], guard := none }) (v := ?v11) rfl (by kernel_rfl) (by kernel_rfl) (by kernel_rfl) (fun _ _ _ h => h) (Or.inl ⟨by rfl, ?h11⟩) hHeld ?r11
    case h11 => (intro w hSw; (try dsimp only at hSw); go_simp; try with_reducible rfl)
    refine wpAnyH_take (i := 12) (oi := { dst := some 106, op := Go.Op.build 33 #[(0, Go.Operand.tmp 100), (1, Go.Operand.tmp 105)], type := 33, pos := "l12_names.go:213", after := #[{ on := 6, ground := Go.Ground.data }, { on := 11, ground := Go.Ground.data }], guard := none }) (v := ?v12) rfl (by kernel_rfl) (by kernel_rfl) (by kernel_rfl) (fun _ _ _ h => h) (Or.inl ⟨by rfl, ?h12⟩) hHeld ?r12
    case h12 => (intro w hSw; (try dsimp only at hSw); go_simp; try with_reducible rfl)
    refine wpAnyH_ready (rs := [5, 13]) (by kernel_rfl) (by simp) ?_
    refine (AllReadyH.cons (o := qSj0) rfl (fun K hK => ?_) (AllReadyH.cons (o := qSj1) rfl (fun K hK => ?_) AllReadyH.nil))
    · go_simp
      clear hHeld
      refine hK.out _ _ hS0 (fun hHeld => ?_)
      clear hK K
      refine wpAnyH_ready (rs := [13]) (by kernel_rfl) (by simp) ?_
      refine (AllReadyH.cons (o := qSj1) rfl (fun K hK => ?_) AllReadyH.nil)
      go_simp
      clear hHeld
      refine hK.out _ _ hS1 (fun hHeld => ?_)
      clear hK K
      refine wpAnyH_ready (rs := [14]) (by kernel_rfl) (by simp) ?_
      refine (AllReadyH.cons (o := qSj2) rfl (fun K hK => ?_) AllReadyH.nil)
      (refine step_append_lies _ rfl (.tmp 99) (.tmp 107) 25 rfl A 33 i33 _ 2 24 Try.underlying25 hi33 hy0 hy1 hy2 rfl (by decide) (.slice a2 s.ds.length p2) s.ds.length (spL s.ds) (by simp [Act.eval, Act.put]) HO5.out ⟨W2.heap.size, 0, none⟩ 1 1 [.int .i64 (s.n : Nat), .string x0] (by simp [Act.eval, Act.put]) rfl HNB.out (by intro y hy; simp at hy; rcases hy with rfl | rfl <;> rfl) (by decide) (by unfold maxLen; omega) (by omega) HZ5.out _ HZ6.out ?_; intro g7 cap7 w7 hown7 hgr7 hat7 hlt7; obtain ⟨hS7, f7, f8, hS8, HE7⟩ := HUP.out g7 cap7 w7 hown7 hgr7 hat7; clear hown7 hgr7 hat7 hlt7)
      clear hHeld
      refine hK.out _ _ hS7 (fun hHeld => ?_)
      clear hK K
      refine wpAnyH_take (i := 15) (oi := qSj3) (v := ?v13) rfl (by kernel_rfl) (by kernel_rfl) (by kernel_rfl) (fun _ _ _ h => h) (Or.inl ⟨by rfl, ?h13⟩) hHeld ?r13
      case h13 => (intro w hSw; (try dsimp only at hSw); go_simp; try with_reducible rfl)
      refine wpAnyH_take (i := 16) (oi := qSj4) (v := ?v14) rfl (by kernel_rfl) (by kernel_rfl) (by kernel_rfl) (fun _ _ _ h => h) (Or.inl ⟨by rfl, ?h14⟩) hHeld ?r14
      case h14 => (intro w hSw; (try dsimp only at hSw); go_simp; try with_reducible rfl)
      refine wpAnyH_take (i := 17) (oi := qSj5) (v := ?v15) rfl (by kernel_rfl) (by kernel_rfl) (by kernel_rfl) (fun _ _ _ h => h) (Or.inl ⟨by rfl, ?h15⟩) hHeld ?r15
      case h15 => (intro w hSw; (try dsimp only at hSw); go_simp; try with_reducible rfl)
      refine wpAnyH_ready (rs := [18]) (by kernel_rfl) (by simp) ?_
      refine (AllReadyH.cons (o := qSj6) rfl (fun K hK => ?_) AllReadyH.nil)
      go_simp
      clear hHeld
      refine hK.out _ _ hS8 (fun hHeld => ?_)
      clear hK K
      refine wpAnyH_done (by kernel_rfl) ?_ _
      clear f7 f8 hS7 hS8 hS0 hS1 hHeld
      go_wp2_with fail
      go_meet
      exact ⟨g7, cap7, HE7.out⟩
    · go_simp
      clear hHeld
      refine hK.out _ _ hS1 (fun hHeld => ?_)
      clear hK K
      refine wpAnyH_ready (rs := [5]) (by kernel_rfl) (by simp) ?_
      refine (AllReadyH.cons (o := qSj0) rfl (fun K hK => ?_) AllReadyH.nil)
      go_simp
      clear hHeld
      refine hK.out _ _ hS1 (fun hHeld => ?_)
      clear hK K
      refine wpAnyH_ready (rs := [14]) (by kernel_rfl) (by simp) ?_
      refine (AllReadyH.cons (o := qSj2) rfl (fun K hK => ?_) AllReadyH.nil)
      (refine step_append_lies _ rfl (.tmp 99) (.tmp 107) 25 rfl A 33 i33 _ 2 24 Try.underlying25 hi33 hy0 hy1 hy2 rfl (by decide) (.slice a2 s.ds.length p2) s.ds.length (spL s.ds) (by simp [Act.eval, Act.put]) HO5.out ⟨W2.heap.size, 0, none⟩ 1 1 [.int .i64 (s.n : Nat), .string x0] (by simp [Act.eval, Act.put]) rfl HNB.out (by intro y hy; simp at hy; rcases hy with rfl | rfl <;> rfl) (by decide) (by unfold maxLen; omega) (by omega) HZ5.out _ HZ6.out ?_; intro g7 cap7 w7 hown7 hgr7 hat7 hlt7; obtain ⟨hS7, f7, f8, hS8, HE7⟩ := HUP.out g7 cap7 w7 hown7 hgr7 hat7; clear hown7 hgr7 hat7 hlt7)
      clear hHeld
      refine hK.out _ _ hS7 (fun hHeld => ?_)
      clear hK K
      refine wpAnyH_take (i := 15) (oi := qSj3) (v := ?v16) rfl (by kernel_rfl) (by kernel_rfl) (by kernel_rfl) (fun _ _ _ h => h) (Or.inl ⟨by rfl, ?h16⟩) hHeld ?r16
      case h16 => (intro w hSw; (try dsimp only at hSw); go_simp; try with_reducible rfl)
      refine wpAnyH_take (i := 16) (oi := qSj4) (v := ?v17) rfl (by kernel_rfl) (by kernel_rfl) (by kernel_rfl) (fun _ _ _ h => h) (Or.inl ⟨by rfl, ?h17⟩) hHeld ?r17
      case h17 => (intro w hSw; (try dsimp only at hSw); go_simp; try with_reducible rfl)
      refine wpAnyH_take (i := 17) (oi := qSj5) (v := ?v18) rfl (by kernel_rfl) (by kernel_rfl) (by kernel_rfl) (fun _ _ _ h => h) (Or.inl ⟨by rfl, ?h18⟩) hHeld ?r18
      case h18 => (intro w hSw; (try dsimp only at hSw); go_simp; try with_reducible rfl)
      refine wpAnyH_ready (rs := [18]) (by kernel_rfl) (by simp) ?_
      refine (AllReadyH.cons (o := qSj6) rfl (fun K hK => ?_) AllReadyH.nil)
      go_simp
      clear hHeld
      refine hK.out _ _ hS8 (fun hHeld => ?_)
      clear hK K
      refine wpAnyH_done (by kernel_rfl) ?_ _
      clear f7 f8 hS7 hS8 hS0 hS1 hHeld
      go_wp2_with fail
      go_meet
      exact ⟨g7, cap7, HE7.out⟩
  case rest =>
    obtain ⟨g3, cap3, HF3⟩ := hcut
    obtain ⟨W3, rfl⟩ : ∃ W3, W3 = wc := ⟨_, rfl⟩
    clear HUP hS0 hS1 cL2 cL3 cL HO5 HNB HZ5 HZ6 HC2 HF1
    obtain ⟨c3, hc3⟩ : ∃ c3 : CV, { c with v1 := .slice (some ⟨g1, 0, none⟩) (s.es.length + 1) cap1, v2 := .slice (some ⟨g3, 0, none⟩) (s.ds.length + 1) cap3 } = c3 := ⟨_, rfl⟩
    have hv4 : c3.v4 = .slice a4 s.dp.length p4 := by rw [← hc3]; exact e4
    have hvD : c3.D = c.D := by rw [← hc3]
    rw [hc3] at HF3
    have HC3 := (show Hid (Co W3 A q 85 { s with n := s.n + 1, es := s.es ++ [⟨s.n, sc, 1⟩], ds := s.ds ++ [⟨s.n, x0⟩] } c3) from HF3.out.co)
    obtain ⟨hpw3, _, _, hlow3⟩ := HPW.out W3 _ _ HF3.out
    have cL : W3.cell? ⟨q, 4, none⟩ = some (.slice a4 s.dp.length p4) := by
      have := HC3.out.bx.cell 4 (by simp)
      rw [← hv4]
      exact this
    have hbd3 := (Below.refl W3.heap.size W3).drew
    have HDN := (show Hid (Calls Try.prog 95 #[.slice (some ⟨g, 0, none⟩) p.length cp, .int .i64 0] W3.drew fun e w' => ∃ g' c', e = .returned (.slice (some ⟨g', 0, none⟩) (p.length + 1) c') ∧ Below W3.drew.heap.size W3.drew w' ∧ w'.ownsRow W3.drew.heap.size 3 1 (.slice (some ⟨g', 0, none⟩) (p.length + 1) c') (p.length + 1) (nums (p ++ [0]))) from down95 p g cp 0 W3.drew (own_keep1 hpw3 (fun b' e => hbd3.block b' (World.ownsRow.lt hpw3 b' e).2)) (by omega))
    have HUQ := (show Hid (∀ (w7 : World) (g7 cp7 : Nat), Below W3.drew.heap.size W3.drew w7 → w7.ownsRow W3.drew.heap.size 3 1 (.slice (some ⟨g7, 0, none⟩) (p.length + 1) cp7) (p.length + 1) (nums (p ++ [0])) → w7.cell? ⟨q, 4, none⟩ = some (.slice a4 s.dp.length p4) ∧ (w7.alloc (.cells #[.slice (some ⟨g7, 0, none⟩) (p.length + 1) cp7] 34)).cell? ⟨q, 4, none⟩ = some (.slice a4 s.dp.length p4) ∧
      Hid ((w7.alloc (.cells #[.slice (some ⟨g7, 0, none⟩) (p.length + 1) cp7] 34)).ownsRow A 34 1 (.slice a4 s.dp.length p4) s.dp.length (slv c.D s.dp.length)) ∧ Hid (∀ j u, ([.slice (some ⟨g7, 0, none⟩) (p.length + 1) cp7] : List Value)[j]? = some u → (w7.alloc (.cells #[.slice (some ⟨g7, 0, none⟩) (p.length + 1) cp7] 34)).cell? ((⟨w7.heap.size, 0, none⟩ : Addr).add j) = some u) ∧ Hid (A ≤ (w7.alloc (.cells #[.slice (some ⟨g7, 0, none⟩) (p.length + 1) cp7] 34)).heap.size) ∧ Hid ((w7.alloc (.cells #[.slice (some ⟨g7, 0, none⟩) (p.length + 1) cp7] 34)).heap.size = w7.heap.size + 1) ∧
      Hid (∀ (g8 cap8 : Nat) (w8 : World), w8.ownsRow A 34 1 (.slice (some ⟨g8, 0, none⟩) (s.dp.length + 1) cap8) (s.dp.length + 1) (slv c.D s.dp.length ++ [.slice (some ⟨g7, 0, none⟩) (p.length + 1) cp7]) → (w7.alloc (.cells #[.slice (some ⟨g7, 0, none⟩) (p.length + 1) cp7] 34)).grownBy w8 (Value.slice a4 s.dp.length p4).ownBlock → ((Value.slice a4 s.dp.length p4).ownBlock = some g8 ∨ g8 = w7.heap.size + 1) →
        w8.cell? ⟨q, 4, none⟩ = some (.slice a4 s.dp.length p4) ∧ w8.frozen? ⟨q, 4, none⟩ = false ∧ Hid (∃ c', St A q 85 W0 s c (w8.setCell ⟨q, 4, none⟩ (.slice (some ⟨g8, 0, none⟩) (s.dp.length + 1) cap8)) (s.dcl x0 sc p) c' (fun _ => False) (fun _ => False)))) from fun w7 g7 cp7 hb7 ho7 => by
      have hbA := bel_alloc w7 (.cells #[.slice (some ⟨g7, 0, none⟩) (p.length + 1) cp7] 34)
      have hb3 : Below W3.heap.size W3 (w7.alloc (.cells #[.slice (some ⟨g7, 0, none⟩) (p.length + 1) cp7] 34)) := (hbd3.trans (hb7.mono (Nat.le_refl _))).trans (hbA.mono hb7.size)
      have hz3 := HAZ.out W3 _ _ HF3.out
      have hsz3 := hb3.size
      have h7 := (hbd3.trans (hb7.mono (Nat.le_refl _)))
      refine ⟨(h7.cell (lt_of_cell cL)).trans cL, (hb3.cell (lt_of_cell cL)).trans cL, ?_, World.news_of_block (blk_alloc_new w7 _), (show A ≤ _ from by omega), (show _ = _ from by simp), fun g8 cap8 w8 h1 h2 h3 => ?_⟩
      · have := own_keep1 HC3.out.dp.out (fun b' e => hb3.block b' (World.ownsRow.lt HC3.out.dp.out b' e).2)
        rw [hv4, hvD] at this
        exact this
      · rw [← hv4] at h2 h3
        rw [← hvD] at h1
        have hu := own_baseS (own_keep1 ho7 (fun b' e => hbA.block b' (World.ownsRow.lt ho7 b' e).2)) hz3
        have hL : (p ++ [0]).length = p.length + 1 := by simp
        have hgn := (World.ownsRow.lt ho7 g7 rfl).1
        obtain ⟨u, st⟩ := HC3.out.upDp (xs := p ++ [0]) hb3 (by rw [hL]; exact hu) (fun b' e e2 => by
          have e : g7 = b' := by simpa [Value.ownBlock] using e
          subst e
          have := (HC3.out.lt g7 e2).2
          have hgn' : W3.heap.size ≤ g7 := hgn
          omega) h1 h2 (h3.imp id (fun e => by rw [e]; simp))
        refine ⟨by rw [← hv4]; exact u.cell, u.froz, _, HF3.out.trans (N'' := (fun _ => False)) st (fun _ _ e => e) (fun _ _ e => e.elim) (fun _ _ e => e) (fun b' hb' e => ?_)⟩
        have e : g7 = b' := by simpa [Value.ownBlock] using e
        subst e
        have hgn' : W3.heap.size ≤ g7 := hgn
        have := HF3.out.fm.size
        omega)
    clear hpw3 hlow3 hbd3 hc3 hv4 hvD HC3
    go_wp2_with fail
    go_cut [] from 112 to 122 (fun wx => Hid (∃ c', St A q 85 W0 s c wx (s.dcl x0 sc p) c' (fun _ => False) (fun _ => False)))
    case first =>
      refine wp_region_held_drew (S := (fun _ => True)) (by kernel_rfl) trivial (fun hHeld => ?_)
      refine wpAnyH_take (i := 0) (oi := { dst := some 112, op := Go.Op.move (Go.Operand.tmp 0), type := 83, pos := "l12_names.go:214", after := #[], guard := none }) (v := ?v19) rfl (by kernel_rfl) (by kernel_rfl) (by kernel_rfl) (fun _ _ _ h => h) (Or.inl ⟨by rfl, ?h19⟩) hHeld ?r19
      case h19 => (intro w hSw; (try dsimp only at hSw); go_simp; try with_reducible rfl)
      refine wpAnyH_take (i := 1) (oi := { dst := some 113, op := Go.Op.move (Go.Operand.tmp 0), type := 83, pos := "l12_names.go:214", after := #[], guard := none }) (v := ?v20) rfl (by kernel_rfl) (by kernel_rfl) (by kernel_rfl) (fun _ _ _ h => h) (Or.inl ⟨by rfl, ?h20⟩) hHeld ?r20
      case h20 => (intro w hSw; (try dsimp only at hSw); go_simp; try with_reducible rfl)
      refine wpAnyH_take (i := 2) (oi := { dst := some 114, op := Go.Op.nilCheck (Go.Operand.tmp 113), type := 0, pos := "l12_names.go:214", after := #[{ on := 1, ground := Go.Ground.data }], guard := none }) (v := ?v21) rfl (by kernel_rfl) (by kernel_rfl) (by kernel_rfl) (fun _ _ _ h => h) (Or.inl ⟨by rfl, ?h21⟩) hHeld ?r21
      case h21 => (intro w hSw; (try dsimp only at hSw); go_simp; try with_reducible rfl)
      refine wpAnyH_take (i := 3) (oi := { dst := some 115, op := Go.Op.fieldAddr 85 (Go.Operand.tmp 114) 1, type := 0, pos := "l12_names.go:214", after := #[{ on := 2, ground := Go.Ground.data }], guard := none }) (v := ?v22) rfl (by kernel_rfl) (by kernel_rfl) (by kernel_rfl) (fun _ _ _ h => h) (Or.inl ⟨by rfl, ?h22⟩) hHeld ?r22
      case h22 => (intro w hSw; (try dsimp only at hSw); go_simp; try with_reducible rfl)
      refine wpAnyH_take (i := 5) (oi := { dst := some 117, op := Go.Op.move (Go.Operand.tmp 2), type := 34, pos := "l12_names.go:214", after := #[], guard := none }) (v := ?v23) rfl (by kernel_rfl) (by kernel_rfl) (by kernel_rfl) (fun _ _ _ h => h) (Or.inl ⟨by rfl, ?h23⟩) hHeld ?r23
      case h23 => (intro w hSw; (try dsimp only at hSw); go_simp; try with_reducible rfl)
      refine wpAnyH_ready (rs := [4, 6]) (by kernel_rfl) (by simp) ?_
      refine (AllReadyH.cons (o := qSj7) rfl (fun K hK => ?_) (AllReadyH.cons (o := qSj8) rfl (fun K hK => ?_) AllReadyH.nil))
      · go_simp
        clear hHeld
        refine hK.out _ _ trivial (fun hHeld => ?_)
        clear hK K
        refine wpAnyH_ready (rs := [6]) (by kernel_rfl) (by simp) ?_
        refine (AllReadyH.cons (o := qSj8) rfl (fun K hK => ?_) AllReadyH.nil)
        go_simp
        go_at_call 95
        refine Calls.mono HDN.out ?_
        rintro e w7 ⟨g7, cp7, rfl, hb7, ho7⟩
        dsimp only
        obtain ⟨cQ, cQ2, HOQ, HNQ, HZQ, HZR, HUR⟩ := HUQ.out w7 g7 cp7 hb7 ho7
        clear hb7 ho7
        clear hHeld
        refine hK.out _ _ trivial (fun hHeld => ?_)
        clear hK K
        refine wpAnyH_ready (rs := [7]) (by kernel_rfl) (by simp) ?_
        refine (AllReadyH.cons (o := qSj9) rfl (fun K hK => ?_) AllReadyH.nil)
        go_simp
        clear hHeld
        refine hK.out _ _ trivial (fun hHeld => ?_)
        clear hK K
        refine wpAnyH_ready (rs := [8]) (by kernel_rfl) (by simp) ?_
        refine (AllReadyH.cons (o := qSj10) rfl (fun K hK => ?_) AllReadyH.nil)
        (refine step_append_lies _ rfl (.tmp 116) (.tmp 119) 42 rfl A 34 i34 _ 1 24 Try.underlying42 hi34 hz0 hz1 hz2 rfl (by decide) (.slice a4 s.dp.length p4) s.dp.length (slv c.D s.dp.length) (by simp [Act.eval, Act.put]) HOQ.out ⟨w7.heap.size, 0, none⟩ 1 1 [.slice (some ⟨g7, 0, none⟩) (p.length + 1) cp7] (by simp [Act.eval, Act.put]) rfl HNQ.out (by intro y hy; simp at hy; subst hy; rfl) (by decide) (by unfold maxLen; omega) (by omega) HZQ.out _ HZR.out ?_; intro g8 cap8 w8 hown8 hgr8 hat8 hlt8; obtain ⟨f7, f8, HE8⟩ := HUR.out g8 cap8 w8 hown8 hgr8 hat8; clear hown8 hgr8 hat8 hlt8)
        clear hHeld
        refine hK.out _ _ trivial (fun hHeld => ?_)
        clear hK K
        refine wpAnyH_take (i := 9) (oi := qSj11) (v := ?v24) rfl (by kernel_rfl) (by kernel_rfl) (by kernel_rfl) (fun _ _ _ h => h) (Or.inl ⟨by rfl, ?h24⟩) hHeld ?r24
        case h24 => (intro w hSw; (try dsimp only at hSw); go_simp; try with_reducible rfl)
        refine wpAnyH_take (i := 10) (oi := qSj12) (v := ?v25) rfl (by kernel_rfl) (by kernel_rfl) (by kernel_rfl) (fun _ _ _ h => h) (Or.inl ⟨by rfl, ?h25⟩) hHeld ?r25
        case h25 => (intro w hSw; (try dsimp only at hSw); go_simp; try with_reducible rfl)
        refine wpAnyH_ready (rs := [11]) (by kernel_rfl) (by simp) ?_
        refine (AllReadyH.cons (o := qSj13) rfl (fun K hK => ?_) AllReadyH.nil)
        go_simp
        clear hHeld
        refine hK.out _ _ trivial (fun hHeld => ?_)
        clear hK K
        refine wpAnyH_done (by kernel_rfl) ?_ _
        clear f7 f8 hHeld cQ cQ2
        go_wp2_with fail
        go_meet
        exact HE8.out
      · skip
        go_simp
        go_at_call 95
        refine Calls.mono HDN.out ?_
        rintro e w7 ⟨g7, cp7, rfl, hb7, ho7⟩
        dsimp only
        obtain ⟨cQ, cQ2, HOQ, HNQ, HZQ, HZR, HUR⟩ := HUQ.out w7 g7 cp7 hb7 ho7
        clear hb7 ho7
        clear hHeld
        refine hK.out _ _ trivial (fun hHeld => ?_)
        clear hK K
        refine wpAnyH_ready (rs := [4, 7]) (by kernel_rfl) (by simp) ?_
        refine (AllReadyH.cons (o := qSj7) rfl (fun K hK => ?_) (AllReadyH.cons (o := qSj9) rfl (fun K hK => ?_) AllReadyH.nil))
        · go_simp
          clear hHeld
          refine hK.out _ _ trivial (fun hHeld => ?_)
          clear hK K
          refine wpAnyH_ready (rs := [7]) (by kernel_rfl) (by simp) ?_
          refine (AllReadyH.cons (o := qSj9) rfl (fun K hK => ?_) AllReadyH.nil)
          go_simp
          clear hHeld
          refine hK.out _ _ trivial (fun hHeld => ?_)
          clear hK K
          refine wpAnyH_ready (rs := [8]) (by kernel_rfl) (by simp) ?_
          refine (AllReadyH.cons (o := qSj10) rfl (fun K hK => ?_) AllReadyH.nil)
          (refine step_append_lies _ rfl (.tmp 116) (.tmp 119) 42 rfl A 34 i34 _ 1 24 Try.underlying42 hi34 hz0 hz1 hz2 rfl (by decide) (.slice a4 s.dp.length p4) s.dp.length (slv c.D s.dp.length) (by simp [Act.eval, Act.put]) HOQ.out ⟨w7.heap.size, 0, none⟩ 1 1 [.slice (some ⟨g7, 0, none⟩) (p.length + 1) cp7] (by simp [Act.eval, Act.put]) rfl HNQ.out (by intro y hy; simp at hy; subst hy; rfl) (by decide) (by unfold maxLen; omega) (by omega) HZQ.out _ HZR.out ?_; intro g8 cap8 w8 hown8 hgr8 hat8 hlt8; obtain ⟨f7, f8, HE8⟩ := HUR.out g8 cap8 w8 hown8 hgr8 hat8; clear hown8 hgr8 hat8 hlt8)
          clear hHeld
          refine hK.out _ _ trivial (fun hHeld => ?_)
          clear hK K
          refine wpAnyH_take (i := 9) (oi := qSj11) (v := ?v26) rfl (by kernel_rfl) (by kernel_rfl) (by kernel_rfl) (fun _ _ _ h => h) (Or.inl ⟨by rfl, ?h26⟩) hHeld ?r26
          case h26 => (intro w hSw; (try dsimp only at hSw); go_simp; try with_reducible rfl)
          refine wpAnyH_take (i := 10) (oi := qSj12) (v := ?v27) rfl (by kernel_rfl) (by kernel_rfl) (by kernel_rfl) (fun _ _ _ h => h) (Or.inl ⟨by rfl, ?h27⟩) hHeld ?r27
          case h27 => (intro w hSw; (try dsimp only at hSw); go_simp; try with_reducible rfl)
          refine wpAnyH_ready (rs := [11]) (by kernel_rfl) (by simp) ?_
          refine (AllReadyH.cons (o := qSj13) rfl (fun K hK => ?_) AllReadyH.nil)
          go_simp
          clear hHeld
          refine hK.out _ _ trivial (fun hHeld => ?_)
          clear hK K
          refine wpAnyH_done (by kernel_rfl) ?_ _
          clear f7 f8 hHeld cQ cQ2
          go_wp2_with fail
          go_meet
          exact HE8.out
        · go_simp
          clear hHeld
          refine hK.out _ _ trivial (fun hHeld => ?_)
          clear hK K
          refine wpAnyH_ready (rs := [4]) (by kernel_rfl) (by simp) ?_
          refine (AllReadyH.cons (o := qSj7) rfl (fun K hK => ?_) AllReadyH.nil)
          go_simp
          clear hHeld
          refine hK.out _ _ trivial (fun hHeld => ?_)
          clear hK K
          refine wpAnyH_ready (rs := [8]) (by kernel_rfl) (by simp) ?_
          refine (AllReadyH.cons (o := qSj10) rfl (fun K hK => ?_) AllReadyH.nil)
          (refine step_append_lies _ rfl (.tmp 116) (.tmp 119) 42 rfl A 34 i34 _ 1 24 Try.underlying42 hi34 hz0 hz1 hz2 rfl (by decide) (.slice a4 s.dp.length p4) s.dp.length (slv c.D s.dp.length) (by simp [Act.eval, Act.put]) HOQ.out ⟨w7.heap.size, 0, none⟩ 1 1 [.slice (some ⟨g7, 0, none⟩) (p.length + 1) cp7] (by simp [Act.eval, Act.put]) rfl HNQ.out (by intro y hy; simp at hy; subst hy; rfl) (by decide) (by unfold maxLen; omega) (by omega) HZQ.out _ HZR.out ?_; intro g8 cap8 w8 hown8 hgr8 hat8 hlt8; obtain ⟨f7, f8, HE8⟩ := HUR.out g8 cap8 w8 hown8 hgr8 hat8; clear hown8 hgr8 hat8 hlt8)
          clear hHeld
          refine hK.out _ _ trivial (fun hHeld => ?_)
          clear hK K
          refine wpAnyH_take (i := 9) (oi := qSj11) (v := ?v28) rfl (by kernel_rfl) (by kernel_rfl) (by kernel_rfl) (fun _ _ _ h => h) (Or.inl ⟨by rfl, ?h28⟩) hHeld ?r28
          case h28 => (intro w hSw; (try dsimp only at hSw); go_simp; try with_reducible rfl)
          refine wpAnyH_take (i := 10) (oi := qSj12) (v := ?v29) rfl (by kernel_rfl) (by kernel_rfl) (by kernel_rfl) (fun _ _ _ h => h) (Or.inl ⟨by rfl, ?h29⟩) hHeld ?r29
          case h29 => (intro w hSw; (try dsimp only at hSw); go_simp; try with_reducible rfl)
          refine wpAnyH_ready (rs := [11]) (by kernel_rfl) (by simp) ?_
          refine (AllReadyH.cons (o := qSj13) rfl (fun K hK => ?_) AllReadyH.nil)
          go_simp
          clear hHeld
          refine hK.out _ _ trivial (fun hHeld => ?_)
          clear hK K
          refine wpAnyH_done (by kernel_rfl) ?_ _
          clear f7 f8 hHeld cQ cQ2
          go_wp2_with fail
          go_meet
          exact HE8.out
    case rest =>
    obtain ⟨c4, hst4⟩ := hcut.out
    obtain ⟨W4, rfl⟩ : ∃ W4, W4 = wc := ⟨_, rfl⟩
    have HW4 := (show Hid (St A q 85 W0 s c W4 (swJ true sc s.n p k 1 (s.dcl x0 sc p)) c4 (fun _ => False) (fun _ => False)) from by rw [swJ_one]; exact hst4)
    obtain ⟨_, h43, h4n, _⟩ := HPW.out W4 _ _ hst4
    clear HUQ HDN cL hst4 hcut HF3
    go_wp2_with fail
    have hbd1 := (Below.refl W4.heap.size W4).drew
    obtain ⟨hpw1, hcw1, hcn1, hlw1⟩ := HPW.out W4 _ _ HW4.out
    have HBL1 := (show Hid (∀ wq, Below W4.heap.size W4 wq → wq.cell? ⟨w.heap.size, 3, none⟩ = some (.slice (some ⟨b, off, none⟩) 3 cap) ∧ (wq.cell? ⟨b, off + 4, none⟩ = some (.string k1n) ∧ wq.cell? ⟨b, off + 4 + 1, none⟩ = some (.string k1x) ∧ wq.cell? ⟨b, off + 4 + 2, none⟩ = some (.bool k1l) ∧ wq.cell? ⟨b, off + 4 + 3, none⟩ = some (.slice k1a k1b k1c))) from fun wq hb => ⟨(hb.cell (lt_of_cell hcw1)).trans hcw1, HK1.out wq (hlw1.trans (hb.mono (HAZ.out W4 _ _ HW4.out)))⟩)
    have hS10 := HBL1.out _ hbd1
    have HD1 := (show Hid (Calls Try.prog 95 #[.slice (some ⟨g, 0, none⟩) p.length cp, .int .i64 1] W4.drew fun e w' => ∃ g' c', e = .returned (.slice (some ⟨g', 0, none⟩) (p.length + 1) c') ∧ Below W4.drew.heap.size W4.drew w' ∧ w'.ownsRow W4.drew.heap.size 3 1 (.slice (some ⟨g', 0, none⟩) (p.length + 1) c') (p.length + 1) (nums (p ++ [1]))) from down95 p g cp 1 W4.drew (own_keep1 hpw1 (fun b' e => hbd1.block b' (World.ownsRow.lt hpw1 b' e).2)) (by omega))
    have HKW1 := (show Hid (∀ (w7 : World) (g7 cp7 : Nat), Below W4.drew.heap.size W4.drew w7 → w7.ownsRow W4.drew.heap.size 3 1 (.slice (some ⟨g7, 0, none⟩) (p.length + 1) cp7) (p.length + 1) (nums (p ++ [1])) → Calls Try.prog 50 #[.pointer (some ⟨q, 0, none⟩), .agg #[.string k1n, .string k1x, .bool k1l, .slice k1a k1b k1c], .slice (some ⟨g7, 0, none⟩) (p.length + 1) cp7, .int .i64 (sc : Nat)] w7 fun e w8 => e = .returned (.tuple #[]) ∧ (w8.cell? ⟨w.heap.size, 3, none⟩ = some (.slice (some ⟨b, off, none⟩) 3 cap) ∧ (w8.cell? ⟨b, off + 4, none⟩ = some (.string k1n) ∧ w8.cell? ⟨b, off + 4 + 1, none⟩ = some (.string k1x) ∧ w8.cell? ⟨b, off + 4 + 2, none⟩ = some (.bool k1l) ∧ w8.cell? ⟨b, off + 4 + 3, none⟩ = some (.slice k1a k1b k1c))) ∧ Hid (∃ c8, St A q 85 W0 s c w8 (swJ true sc s.n p k 2 (s.dcl x0 sc p)) c8 (fun _ => False) (fun _ => False))) from fun w7 g7 cp7 hb7 ho => by
      refine Calls.mono (HQ1.out W4 _ HW4.out w7 g7 cp7 (hbd1.trans (hb7.mono (Nat.le_refl _))) ho) ?_
      rintro e w8 ⟨rfl, c8, st8⟩
      obtain ⟨_, r2, _, r3⟩ := HPW.out w8 _ c8 st8
      exact ⟨rfl, ⟨r2, HK1.out w8 r3⟩, c8, st8⟩)
    clear hpw1 hcw1 hcn1 hlw1
    go_region_held3 (fun wq => wq.cell? ⟨w.heap.size, 3, none⟩ = some (.slice (some ⟨b, off, none⟩) 3 cap) ∧ (wq.cell? ⟨b, off + 4, none⟩ = some (.string k1n) ∧ wq.cell? ⟨b, off + 4 + 1, none⟩ = some (.string k1x) ∧ wq.cell? ⟨b, off + 4 + 2, none⟩ = some (.bool k1l) ∧ wq.cell? ⟨b, off + 4 + 3, none⟩ = some (.slice k1a k1b k1c))) (first | with_reducible exact hS10 | with_reducible exact hS11 | with_reducible exact hS12)
      (first
      | (go_at_call 50; refine Calls.mono (HKW1.out _ _ _ hb7 ho7) ?_; rintro e w5 ⟨rfl, hS12, HF1⟩)
      | (go_at_call 95; refine Calls.mono HD1.out ?_; rintro e w7 ⟨g7, cp7, rfl, hb7, ho7⟩; have hS11 := HBL1.out w7 (hbd1.trans (hb7.mono (Nat.le_refl _)))))
    clear hS10 hS11 hS12 hb7 ho7 hbd1
    clear h43 h4n
    obtain ⟨c5, hst5⟩ := HF1.out
    have HW5 := (show Hid (St A q 85 W0 s c w5 (swJ true sc s.n p k 2 (s.dcl x0 sc p)) c5 (fun _ => False) (fun _ => False)) from hst5)
    obtain ⟨_, h53, h5n, _⟩ := HPW.out w5 _ _ hst5
    clear hst5
    go_wp2_with fail
    have hbd2 := (Below.refl w5.heap.size w5).drew
    obtain ⟨hpw2, hcw2, hcn2, hlw2⟩ := HPW.out w5 _ _ HW5.out
    have HBL2 := (show Hid (∀ wq, Below w5.heap.size w5 wq → wq.cell? ⟨w.heap.size, 3, none⟩ = some (.slice (some ⟨b, off, none⟩) 3 cap) ∧ (wq.cell? ⟨b, off + 8, none⟩ = some (.string k2n) ∧ wq.cell? ⟨b, off + 8 + 1, none⟩ = some (.string k2x) ∧ wq.cell? ⟨b, off + 8 + 2, none⟩ = some (.bool k2l) ∧ wq.cell? ⟨b, off + 8 + 3, none⟩ = some (.slice k2a k2b k2c))) from fun wq hb => ⟨(hb.cell (lt_of_cell hcw2)).trans hcw2, HK2.out wq (hlw2.trans (hb.mono (HAZ.out w5 _ _ HW5.out)))⟩)
    have hS20 := HBL2.out _ hbd2
    have HD2 := (show Hid (Calls Try.prog 95 #[.slice (some ⟨g, 0, none⟩) p.length cp, .int .i64 2] w5.drew fun e w' => ∃ g' c', e = .returned (.slice (some ⟨g', 0, none⟩) (p.length + 1) c') ∧ Below w5.drew.heap.size w5.drew w' ∧ w'.ownsRow w5.drew.heap.size 3 1 (.slice (some ⟨g', 0, none⟩) (p.length + 1) c') (p.length + 1) (nums (p ++ [2]))) from down95 p g cp 2 w5.drew (own_keep1 hpw2 (fun b' e => hbd2.block b' (World.ownsRow.lt hpw2 b' e).2)) (by omega))
    have HKW2 := (show Hid (∀ (w7 : World) (g7 cp7 : Nat), Below w5.drew.heap.size w5.drew w7 → w7.ownsRow w5.drew.heap.size 3 1 (.slice (some ⟨g7, 0, none⟩) (p.length + 1) cp7) (p.length + 1) (nums (p ++ [2])) → Calls Try.prog 50 #[.pointer (some ⟨q, 0, none⟩), .agg #[.string k2n, .string k2x, .bool k2l, .slice k2a k2b k2c], .slice (some ⟨g7, 0, none⟩) (p.length + 1) cp7, .int .i64 (s.n : Nat)] w7 fun e w8 => e = .returned (.tuple #[]) ∧ (w8.cell? ⟨w.heap.size, 3, none⟩ = some (.slice (some ⟨b, off, none⟩) 3 cap) ∧ (w8.cell? ⟨b, off + 8, none⟩ = some (.string k2n) ∧ w8.cell? ⟨b, off + 8 + 1, none⟩ = some (.string k2x) ∧ w8.cell? ⟨b, off + 8 + 2, none⟩ = some (.bool k2l) ∧ w8.cell? ⟨b, off + 8 + 3, none⟩ = some (.slice k2a k2b k2c))) ∧ Hid (∃ c8, St A q 85 W0 s c w8 (swJ true sc s.n p k 3 (s.dcl x0 sc p)) c8 (fun _ => False) (fun _ => False))) from fun w7 g7 cp7 hb7 ho => by
      refine Calls.mono (HQ2.out w5 _ HW5.out w7 g7 cp7 (hbd2.trans (hb7.mono (Nat.le_refl _))) ho) ?_
      rintro e w8 ⟨rfl, c8, st8⟩
      obtain ⟨_, r2, _, r3⟩ := HPW.out w8 _ c8 st8
      exact ⟨rfl, ⟨r2, HK2.out w8 r3⟩, c8, st8⟩)
    clear hpw2 hcw2 hcn2 hlw2
    go_region_held3 (fun wq => wq.cell? ⟨w.heap.size, 3, none⟩ = some (.slice (some ⟨b, off, none⟩) 3 cap) ∧ (wq.cell? ⟨b, off + 8, none⟩ = some (.string k2n) ∧ wq.cell? ⟨b, off + 8 + 1, none⟩ = some (.string k2x) ∧ wq.cell? ⟨b, off + 8 + 2, none⟩ = some (.bool k2l) ∧ wq.cell? ⟨b, off + 8 + 3, none⟩ = some (.slice k2a k2b k2c))) (first | with_reducible exact hS20 | with_reducible exact hS21 | with_reducible exact hS22)
      (first
      | (go_at_call 50; refine Calls.mono (HKW2.out _ _ _ hb7 ho7) ?_; rintro e w8 ⟨rfl, hS22, HF2⟩)
      | (go_at_call 95; refine Calls.mono HD2.out ?_; rintro e w7 ⟨g7, cp7, rfl, hb7, ho7⟩; have hS21 := HBL2.out w7 (hbd2.trans (hb7.mono (Nat.le_refl _)))))
    clear hS20 hS21 hS22 hb7 ho7 hbd2
    clear h53 h5n
    go_wp2_with fail
    refine bodyPost_end (v := .tuple #[]) (by simp [results, Try.results50]) rfl ?_
    obtain ⟨c8, st8⟩ := HF2.out
    exact ⟨rfl, c8, HFI.out _ _ _ st8⟩

end Go.Proofs.Ytledclkmeikgdaa
