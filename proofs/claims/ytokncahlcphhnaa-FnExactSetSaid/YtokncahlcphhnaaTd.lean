import Derived.Test.YtokncahlcphhnaaTc
import Derived.Deep.RegionHeld3
import Derived.BigQuiet
/-! A layout as text: the specification's node. -/
namespace Go.Proofs.Ytokncahlcphhnaa
open Go.RowKit Go.Deep Go.Lib
set_option linter.unusedVariables false
set_option maxRecDepth 100000
set_option linter.unusedSimpArgs false

theorem step_conv {P : Program} (w : World) {ops : Array Oper} {o : Oper} {a : Act} {K : Act → World → Prop} {Q : Exit → Act → World → Prop} {E : Prop} (hgd : o.guard = none) (x : Operand) (s t : TypeId)
    (ho : o.op = .convert s t x) {xv v : Value} {w' : World} (hx : a.eval x = xv) (hr : (convert s t xv).run P w = .ok v w') (h : K (a.put o.dst v) w') :
    if Region.wanted o (yielded ops a.tmps) = true then Oper.wp P o a w K Q else E := by
  have hw : Region.wanted o (yielded ops a.tmps) = true := by simp [Region.wanted, hgd]
  rw [if_pos hw]
  unfold Oper.wp
  simp [execOp, ho, hx, hr, Result.andThen]
  exact h
theorem step_append_blk {P : Program} (w : World) {ops : Array Oper} {o : Oper} {a : Act} {K : Act → World → Prop} {Q : Exit → Act → World → Prop} {E : Prop} (hgd : o.guard = none) (s x : Operand) (t : TypeId)
    (ho : o.op = .call { callee := .builtin .append, args := #[s, x], argTypes := #[t, t] })
    (base : Nat) (e : TypeId) (i : TypeInfo) (z : Value) (size bytes : Nat) (ht : P.underlying t = some (.slice e)) (hi : P.info? e = some i) (hz : i.zero = some z)
    (hsize : i.size = size) (hby : i.bytes = bytes) (hzs : z.cells.size = size) (hsz : 0 < size)
    (v : Value) (n : Nat) (xs : List Value) (hs : a.eval s = v) (hown : w.ownsRow base e size v n xs)
    (ad : Addr) (m c : Nat) (news : List Value) (hx : a.eval x = .slice (some ad) m c) (hl : news.length = m * size) (hnews : ∀ j u, news[j]? = some u → w.cell? (ad.add j) = some u) (h1 : ∀ u ∈ news, u.oneCell' = true)
    (h63 : n + m ≤ maxLen) (hbytes : (n + m) * bytes ≤ 140737488355328) (hbase : base ≤ w.heap.size)
    (h : ∀ a' cap w', w'.ownsRow base e size (.slice a' (n + m) cap) (n + m) (xs ++ news) → w.grownBy w' v.ownBlock → ((Value.slice a' (n + m) cap).ownBlock = v.ownBlock ∨ (Value.slice a' (n + m) cap).ownBlock = some w.heap.size) → K (a.put o.dst (.slice a' (n + m) cap)) w') :
    if Region.wanted o (yielded ops a.tmps) = true then Oper.wp P o a w K Q else E := by
  have hw : Region.wanted o (yielded ops a.tmps) = true := by simp [Region.wanted, hgd]
  rw [if_pos hw]
  obtain ⟨v', w', hr, h2, h3, _, h5⟩ := run_append_own_at (P := P) w base t o.type e i z size bytes ht hi hz hsize hby hzs hsz v n xs hown ad m c news hl hnews h1 h63 hbytes hbase
  have hf : ∃ a' c', v' = .slice a' (n + m) c' := by
    rcases h2.2 with ⟨e1, e2⟩ | ⟨g, cap, _, e1, _⟩
    · exact ⟨none, 0, by rw [e1, e2]⟩
    · exact ⟨_, _, e1⟩
  obtain ⟨a', c', rfl⟩ := hf
  unfold Oper.wp execOp
  simp only [ho, resolve, invoke, builtin, Sem.run_bind, Sem.run_pure, Result.andThen_ok, List.map_toArray, List.map_cons, List.map_nil, hs, hx, hr]
  exact h a' c' w' h2 h3 h5
abbrev oA0 : Oper := { dst := some 21, op := Go.Op.move (Go.Operand.tmp 0), type := 68, pos := "l14_layouts.go:72", after := #[], guard := none }
abbrev oA1 : Oper := { dst := some 22, op := Go.Op.move (Go.Operand.tmp 0), type := 68, pos := "l14_layouts.go:72", after := #[], guard := none }
abbrev oA2 : Oper := { dst := some 23, op := Go.Op.nilCheck (Go.Operand.tmp 22), type := 0, pos := "l14_layouts.go:72", after := #[{ on := 1, ground := Go.Ground.data }], guard := none }
abbrev oA3 : Oper := { dst := some 24, op := Go.Op.fieldAddr 71 (Go.Operand.tmp 23) 2, type := 0, pos := "l14_layouts.go:72", after := #[{ on := 2, ground := Go.Ground.data }], guard := none }
abbrev oA4 : Oper := { dst := some 25, op := Go.Op.load 69 (Go.Operand.tmp 24), type := 69, pos := "l14_layouts.go:72", after := #[{ on := 3, ground := Go.Ground.data }], guard := none }
abbrev oA5 : Oper := { dst := some 26, op := Go.Op.fieldAddr 44 (Go.Operand.tmp 8) 1, type := 0, pos := "l14_layouts.go:72", after := #[], guard := none }
abbrev oA6 : Oper := { dst := some 27, op := Go.Op.load 9 (Go.Operand.tmp 26), type := 9, pos := "l14_layouts.go:72", after := #[{ on := 5, ground := Go.Ground.data }], guard := none }
abbrev oA7 : Oper := { dst := some 28, op := Go.Op.convert 9 69 (Go.Operand.tmp 27), type := 69, pos := "l14_layouts.go:72", after := #[{ on := 6, ground := Go.Ground.data }], guard := none }
abbrev oA8 : Oper := { dst := some 29, op := Go.Op.call { callee := Go.Callee.builtin Go.Builtin.append, args := #[Go.Operand.tmp 25, Go.Operand.tmp 28], argTypes := #[69, 69] }, type := 69, pos := "l14_layouts.go:72", after := #[{ on := 4, ground := Go.Ground.data }, { on := 7, ground := Go.Ground.data }], guard := none }
abbrev oA9 : Oper := { dst := some 30, op := Go.Op.nilCheck (Go.Operand.tmp 21), type := 0, pos := "l14_layouts.go:72", after := #[{ on := 0, ground := Go.Ground.data }, { on := 0, ground := Go.Ground.phase }, { on := 1, ground := Go.Ground.phase }, { on := 2, ground := Go.Ground.phase }, { on := 3, ground := Go.Ground.phase }, { on := 4, ground := Go.Ground.phase }, { on := 5, ground := Go.Ground.phase }, { on := 6, ground := Go.Ground.phase }, { on := 7, ground := Go.Ground.phase }, { on := 8, ground := Go.Ground.phase }], guard := none }
abbrev oA10 : Oper := { dst := some 31, op := Go.Op.fieldAddr 71 (Go.Operand.tmp 30) 2, type := 0, pos := "l14_layouts.go:72", after := #[{ on := 9, ground := Go.Ground.data }, { on := 0, ground := Go.Ground.phase }, { on := 1, ground := Go.Ground.phase }, { on := 2, ground := Go.Ground.phase }, { on := 3, ground := Go.Ground.phase }, { on := 4, ground := Go.Ground.phase }, { on := 5, ground := Go.Ground.phase }, { on := 6, ground := Go.Ground.phase }, { on := 7, ground := Go.Ground.phase }, { on := 8, ground := Go.Ground.phase }], guard := none }
abbrev oA11 : Oper := { dst := none, op := Go.Op.store 69 (Go.Operand.tmp 31) (Go.Operand.tmp 29), type := 0, pos := "l14_layouts.go:72", after := #[{ on := 10, ground := Go.Ground.data }, { on := 8, ground := Go.Ground.data }, { on := 8, ground := Go.Ground.chain }, { on := 0, ground := Go.Ground.phase }, { on := 1, ground := Go.Ground.phase }, { on := 2, ground := Go.Ground.phase }, { on := 3, ground := Go.Ground.phase }, { on := 4, ground := Go.Ground.phase }, { on := 5, ground := Go.Ground.phase }, { on := 6, ground := Go.Ground.phase }, { on := 7, ground := Go.Ground.phase }, { on := 8, ground := Go.Ground.phase }], guard := none }
abbrev oB0 : Oper := { dst := some 59, op := Go.Op.move (Go.Operand.tmp 0), type := 68, pos := "l14_layouts.go:82", after := #[], guard := none }
abbrev oB1 : Oper := { dst := some 60, op := Go.Op.fieldAddr 44 (Go.Operand.tmp 8) 3, type := 0, pos := "l14_layouts.go:82", after := #[], guard := none }
abbrev oB2 : Oper := { dst := some 61, op := Go.Op.load 39 (Go.Operand.tmp 60), type := 39, pos := "l14_layouts.go:82", after := #[{ on := 1, ground := Go.Ground.data }], guard := none }
abbrev oB3 : Oper := { dst := some 62, op := Go.Op.indexAddr 39 (Go.Operand.tmp 61) (Go.Operand.const (Go.Value.int Go.IntKind.i64 0)), type := 0, pos := "l14_layouts.go:82", after := #[{ on := 2, ground := Go.Ground.data }], guard := none }
abbrev oB4 : Oper := { dst := some 63, op := Go.Op.load 3 (Go.Operand.tmp 62), type := 3, pos := "l14_layouts.go:82", after := #[{ on := 3, ground := Go.Ground.data }], guard := none }
abbrev oB5 : Oper := { dst := some 64, op := Go.Op.move (Go.Operand.tmp 2), type := 3, pos := "l14_layouts.go:82", after := #[], guard := none }
abbrev oB6 : Oper := { dst := some 65, op := Go.Op.fieldAddr 44 (Go.Operand.tmp 8) 2, type := 0, pos := "l14_layouts.go:82", after := #[], guard := none }
abbrev oB7 : Oper := { dst := some 66, op := Go.Op.load 3 (Go.Operand.tmp 65), type := 3, pos := "l14_layouts.go:82", after := #[{ on := 6, ground := Go.Ground.data }], guard := none }
abbrev oB8 : Oper := { dst := some 67, op := Go.Op.binOp Go.BinOp.add 3 (Go.Operand.tmp 64) (Go.Operand.tmp 66) 3, type := 3, pos := "l14_layouts.go:82", after := #[{ on := 5, ground := Go.Ground.data }, { on := 7, ground := Go.Ground.data }], guard := none }
abbrev oB9 : Oper := { dst := some 68, op := Go.Op.move (Go.Operand.tmp 3), type := 4, pos := "l14_layouts.go:82", after := #[], guard := none }
abbrev oB10 : Oper := { dst := some 69, op := Go.Op.call { callee := Go.Callee.value (Go.Operand.func 38), args := #[Go.Operand.tmp 59, Go.Operand.tmp 63, Go.Operand.tmp 67, Go.Operand.tmp 68], argTypes := #[68, 3, 3, 4] }, type := 0, pos := "l14_layouts.go:82", after := #[{ on := 0, ground := Go.Ground.data }, { on := 4, ground := Go.Ground.data }, { on := 8, ground := Go.Ground.data }, { on := 9, ground := Go.Ground.data }], guard := none }
abbrev oC0 : Oper := { dst := some 72, op := Go.Op.move (Go.Operand.tmp 0), type := 68, pos := "l14_layouts.go:84", after := #[], guard := none }
abbrev oC1 : Oper := { dst := some 73, op := Go.Op.fieldAddr 44 (Go.Operand.tmp 8) 3, type := 0, pos := "l14_layouts.go:84", after := #[], guard := none }
abbrev oC2 : Oper := { dst := some 74, op := Go.Op.load 39 (Go.Operand.tmp 73), type := 39, pos := "l14_layouts.go:84", after := #[{ on := 1, ground := Go.Ground.data }], guard := none }
abbrev oC3 : Oper := { dst := some 75, op := Go.Op.indexAddr 39 (Go.Operand.tmp 74) (Go.Operand.const (Go.Value.int Go.IntKind.i64 0)), type := 0, pos := "l14_layouts.go:84", after := #[{ on := 2, ground := Go.Ground.data }], guard := none }
abbrev oC4 : Oper := { dst := some 76, op := Go.Op.load 3 (Go.Operand.tmp 75), type := 3, pos := "l14_layouts.go:84", after := #[{ on := 3, ground := Go.Ground.data }], guard := none }
abbrev oC5 : Oper := { dst := some 77, op := Go.Op.move (Go.Operand.tmp 2), type := 3, pos := "l14_layouts.go:84", after := #[], guard := none }
abbrev oC6 : Oper := { dst := some 78, op := Go.Op.move (Go.Operand.tmp 3), type := 4, pos := "l14_layouts.go:84", after := #[], guard := none }
abbrev oC7 : Oper := { dst := some 79, op := Go.Op.move (Go.Operand.tmp 78), type := 4, pos := "l14_layouts.go:84", after := #[{ on := 6, ground := Go.Ground.data }], guard := none }
abbrev oC8 : Oper := { dst := some 80, op := Go.Op.move (Go.Operand.tmp 0), type := 68, pos := "l14_layouts.go:84", after := #[{ on := 7, ground := Go.Ground.guard }], guard := some (7, false) }
abbrev oC9 : Oper := { dst := some 81, op := Go.Op.nilCheck (Go.Operand.tmp 80), type := 0, pos := "l14_layouts.go:84", after := #[{ on := 8, ground := Go.Ground.data }, { on := 7, ground := Go.Ground.guard }], guard := some (7, false) }
abbrev oC10 : Oper := { dst := some 82, op := Go.Op.fieldAddr 71 (Go.Operand.tmp 81) 1, type := 0, pos := "l14_layouts.go:84", after := #[{ on := 9, ground := Go.Ground.data }, { on := 7, ground := Go.Ground.guard }], guard := some (7, false) }
abbrev oC11 : Oper := { dst := some 83, op := Go.Op.load 29 (Go.Operand.tmp 82), type := 29, pos := "l14_layouts.go:84", after := #[{ on := 10, ground := Go.Ground.data }, { on := 7, ground := Go.Ground.guard }], guard := some (7, false) }
abbrev oC12 : Oper := { dst := some 84, op := Go.Op.move (Go.Operand.tmp 0), type := 68, pos := "l14_layouts.go:84", after := #[{ on := 7, ground := Go.Ground.guard }], guard := some (7, false) }
abbrev oC13 : Oper := { dst := some 85, op := Go.Op.move (Go.Operand.tmp 1), type := 3, pos := "l14_layouts.go:84", after := #[{ on := 7, ground := Go.Ground.guard }], guard := some (7, false) }
abbrev oC14 : Oper := { dst := some 86, op := Go.Op.call { callee := Go.Callee.value (Go.Operand.func 50), args := #[Go.Operand.tmp 84, Go.Operand.tmp 85], argTypes := #[68, 3] }, type := 3, pos := "l14_layouts.go:84", after := #[{ on := 12, ground := Go.Ground.data }, { on := 13, ground := Go.Ground.data }, { on := 7, ground := Go.Ground.chain }, { on := 7, ground := Go.Ground.guard }], guard := some (7, false) }
abbrev oC15 : Oper := { dst := some 87, op := Go.Op.indexAddr 29 (Go.Operand.tmp 83) (Go.Operand.tmp 86), type := 0, pos := "l14_layouts.go:84", after := #[{ on := 11, ground := Go.Ground.data }, { on := 14, ground := Go.Ground.data }, { on := 7, ground := Go.Ground.guard }], guard := some (7, false) }
abbrev oC16 : Oper := { dst := some 88, op := Go.Op.load 4 (Go.Operand.tmp 87), type := 4, pos := "l14_layouts.go:84", after := #[{ on := 15, ground := Go.Ground.data }, { on := 7, ground := Go.Ground.guard }], guard := some (7, false) }
abbrev oC17 : Oper := { dst := some 89, op := Go.Op.unOp Go.UnOp.not 4 (Go.Operand.tmp 88), type := 4, pos := "l14_layouts.go:84", after := #[{ on := 16, ground := Go.Ground.data }, { on := 7, ground := Go.Ground.guard }], guard := some (7, false) }
abbrev oC18 : Oper := { dst := some 90, op := Go.Op.pick (Go.Operand.tmp 79) (Go.Operand.const (Go.Value.bool true)) (Go.Operand.tmp 89), type := 4, pos := "l14_layouts.go:84", after := #[{ on := 7, ground := Go.Ground.data }, { on := 17, ground := Go.Ground.data }], guard := none }
abbrev oC19 : Oper := { dst := some 91, op := Go.Op.call { callee := Go.Callee.value (Go.Operand.func 38), args := #[Go.Operand.tmp 72, Go.Operand.tmp 76, Go.Operand.tmp 77, Go.Operand.tmp 90], argTypes := #[68, 3, 3, 4] }, type := 0, pos := "l14_layouts.go:84", after := #[{ on := 0, ground := Go.Ground.data }, { on := 4, ground := Go.Ground.data }, { on := 5, ground := Go.Ground.data }, { on := 18, ground := Go.Ground.data }, { on := 14, ground := Go.Ground.chain }], guard := none }
theorem tx_leaf {l : List DLNode} {br : List Bool} {f i ind : Nat} {flat : Bool} (hi : i < l.length) (h0 : l[i].kids.length = 0) : tx l br (f + 1) i ind flat = ownT l[i] ind flat := by
  rw [tx_succ hi, h0]; simp [txK]
theorem tx_one {l : List DLNode} {br : List Bool} {f i ind : Nat} {flat : Bool} {k : Int} (hi : i < l.length) (h1 : l[i].kids = [k]) (ho : ownT l[i] ind flat = []) : tx l br (f + 1) i ind flat = tx l br f k.toNat (inT l[i] ind) (flT l br i flat) := by
  rw [tx, getZ hi, ho, h1]
  simp
/-- What the node of the specification does. -/
def NdC (l : List DLNode) (br : List Bool) (w0 : World) (dv bv : Value) (f : Nat) : Prop := ∀ (i ind : Nat) (flat : Bool) (xs : List UInt8) (g : Option Nat) (a : Option Addr) (c : Nat) (w : World), i < l.length → i < f → ind + 20 * i ≤ 6000 → xs.length + (tx l br f i ind flat).length ≤ 1000000000 → Below w0.heap.size w0 w → St w w0.heap.size 71 [dv, bv] xs g a c →
    Calls Try.prog 38 #[.pointer (some ⟨w0.heap.size, 0, none⟩), .int .i64 i, .int .i64 ind, .bool flat] w (Wr w0.heap.size 71 [dv, bv] xs (tx l br f i ind flat) g w)
set_option maxHeartbeats 25600000 in
theorem node38 {S S' : Nat → Prop} (l : List DLNode) (br : List Bool) (b off cap : Nat) (bv : Value) (w0 : World) (hl : LoP l) (hd : LNodeR w0 S l (.slice (some ⟨b, off, none⟩) l.length cap)) (hbr : Bls w0 S' br bv) (hbl : br.length = (gpl l l.length).length) :
    ∀ f, NdC l br w0 (.slice (some ⟨b, off, none⟩) l.length cap) bv f := by
  obtain ⟨i5, hi5, hzz⟩ := Option.map_eq_some_iff.1 info5
  simp only [Prod.mk.injEq] at hzz
  obtain ⟨hz0, hz1, hz2⟩ := hzz
  have HGR := (show Hid (∀ (wq : World) (i : Nat), Below w0.heap.size w0 wq → i < l.length → wq.cell? ⟨w0.heap.size, 0, none⟩ = some (.slice (some ⟨b, off, none⟩) l.length cap) → Calls Try.prog 50 #[.pointer (some ⟨w0.heap.size, 0, none⟩), .int .i64 i] wq fun e w' => e = .returned (.int .i64 (gpl l i).length) ∧ w' = wq) from fun wq i hb hi q => group50 l b off cap w0.heap.size i bv bv wq (hd.still hb) hi q)
  have hcap : l.length ≤ cap ∧ cap ≤ maxLen := by obtain ⟨a, cap', b', off', s3, hv, hc, hm, _⟩ := hd; injection hv with _ _ e; omega
  obtain ⟨s3, hcell, r3⟩ : ∃ s3 : Nat → Value, (∀ i (hi : i < l.length), w0.cell? ⟨b, off + i * 4, none⟩ = some (.int .i64 l[i].kind) ∧ w0.cell? ⟨b, off + i * 4 + 1, none⟩ = some (.string l[i].s) ∧ w0.cell? ⟨b, off + i * 4 + 2, none⟩ = some (.int .i64 l[i].n) ∧ w0.cell? ⟨b, off + i * 4 + 3, none⟩ = some (s3 i) ∧ l[i].s.size ≤ maxLen) ∧ (∀ i (hi : i < l.length), Ints w0 S l[i].kids (s3 i)) := by
    obtain ⟨a, cap', b', off', s3, hv, hc, hm, ha, h1, h2⟩ := hd
    have e1 : a = some ⟨b, off, none⟩ := by injection hv with e _ _; exact e.symm
    obtain ⟨e2, _⟩ := ha hl.n1
    rw [e1] at e2
    injection e2 with e2
    injection e2 with e3 e4
    subst e3 e4
    exact ⟨s3, h1, h2⟩
  obtain ⟨ab, cb, bb, ob, rfl, hbc, hbm, hba, hbcell⟩ := hbr
  have HC := (show Hid _ from hcell); clear hcell
  have HR3 := (show Hid _ from r3); clear r3
  have HBA := (show Hid _ from hba); clear hba
  have HBC := (show Hid _ from hbcell); clear hbcell hd
  obtain ⟨hcap1, hcap2⟩ := hcap
  unfold maxLen at hcap2 hbm
  have hn2 := hl.n2
  have HBL := (show Hid _ from hbl); clear hbl
  intro f
  induction f with
  | zero => intro i ind flat xs g a c w hi hif; omega
  | succ f ih =>
    have HIH := (show Hid (NdC l br w0 (.slice (some ⟨b, off, none⟩) l.length cap) (.slice ab br.length cb) f) from ih); clear ih
    intro i ind flat xs g a c w hi hif hind hlen hB hS
    obtain ⟨c0, c1, c2, c3, z1⟩ := HC.out i hi
    rw [← hB.cell (lt_of_cell c0)] at c0
    rw [← hB.cell (lt_of_cell c1)] at c1
    rw [← hB.cell (lt_of_cell c2)] at c2
    rw [← hB.cell (lt_of_cell c3)] at c3
    obtain ⟨ak, ck, bk, ok, ek, hck, hmk, hak, hkc⟩ := HR3.out i hi
    rw [ek] at c3
    clear ek
    have HAK := (show Hid _ from hak); clear hak
    have HKC := (show Hid _ from hkc); clear hkc
    unfold maxLen at hmk z1
    have hnd := hl.nd i hi
    have HKD := (show Hid (∀ k ∈ l[i].kids, 0 ≤ k ∧ k < (i : Int)) from hl.kd i hi)
    have HIT := (show Hid _ from inT_le hl (ind := ind) hi)
    have HLN := (show Hid _ from hlen); clear hlen
    have HBW := (show Hid (Below w0.heap.size w0 w) from hB); clear hB
    have HSt0 := (show Hid (St w w0.heap.size 71 [.slice (some ⟨b, off, none⟩) l.length cap, .slice ab br.length cb] xs g a c) from hS); clear hS
    have HGP := (show Hid (l[i].kind = 6 → (gpl l i).length < br.length) from fun h => by rw [HBL.out]; exact gpl_lt hi h)
    have HFL := (show Hid (flT l br i flat = if l[i].kind = 6 then flat || !(br.getD (gpl l i).length false) else flat) from by show _ = _; unfold flT; rw [getZ hi])
    have HIN := (show Hid (inT l[i] ind = if l[i].kind = 5 then ind + l[i].n.toNat else ind) from rfl)
    have HOW := (show Hid (ownT l[i] ind flat = if l[i].kind = 1 then l[i].s.data.toList else if l[i].kind = 2 ∨ l[i].kind = 3 then lnT l[i].kind ind flat else if l[i].kind = 4 then fdT ind else []) from rfl)
    have HTL := (show Hid (l[i].kids.length = 0 → tx l br (f + 1) i ind flat = ownT l[i] ind flat) from fun h => tx_leaf hi h)
    have HTO := (show Hid (∀ k, l[i].kids = [k] → ownT l[i] ind flat = [] → tx l br (f + 1) i ind flat = tx l br f k.toNat (inT l[i] ind) (flT l br i flat)) from fun k h1 h2 => tx_one hi h1 h2)
    have HTS := (show Hid (tx l br (f + 1) i ind flat = ownT l[i] ind flat ++ txK l br f i ind flat l[i].kids.length) from tx_succ hi)
    have hpw := HSt0.out.lt.1
    have qd : w.cell? ⟨w0.heap.size, 0, none⟩ = some (.slice (some ⟨b, off, none⟩) l.length cap) := HSt0.out.box.cell 0 (by simp)
    have hkk : l[i].kind = 1 ∨ l[i].kind = 2 ∨ l[i].kind = 3 ∨ l[i].kind = 4 ∨ l[i].kind = 5 ∨ l[i].kind = 6 ∨ l[i].kind = 7 := by
      refine Classical.byContradiction fun hn => ?_
      unfold ndB at hnd
      rw [if_neg (by omega), if_neg (by omega), if_neg (by omega), if_neg (by omega), if_neg (by omega)] at hnd
      cases hnd
    have hK0 : l[i].kind ≤ 4 → l[i].kids.length = 0 ∧ (l[i].kind = 1 → l[i].s.size ≤ 200) := fun h => by
      unfold ndB at hnd
      by_cases h1 : l[i].kind = 1
      · rw [if_pos h1] at hnd
        simp only [Bool.and_eq_true, decide_eq_true_eq] at hnd
        exact ⟨hnd.2.2.2, fun _ => hnd.1⟩
      · rw [if_neg h1, if_pos (by omega)] at hnd
        simp only [Bool.and_eq_true, decide_eq_true_eq] at hnd
        exact ⟨hnd.2.2, fun h2 => absurd h2 h1⟩
    have hK1 : l[i].kind = 5 ∨ l[i].kind = 6 → l[i].kids.length = 1 ∧ (l[i].kind = 5 → 0 ≤ l[i].n ∧ l[i].n ≤ 20) := fun h => by
      unfold ndB at hnd
      rcases h with h | h
      · rw [if_neg (by omega), if_neg (by omega), if_pos h] at hnd
        simp only [Bool.and_eq_true, decide_eq_true_eq] at hnd
        exact ⟨hnd.2.2.2, fun _ => ⟨hnd.2.1, hnd.2.2.1⟩⟩
      · rw [if_neg (by omega), if_neg (by omega), if_neg (by omega), if_pos h] at hnd
        simp only [Bool.and_eq_true, decide_eq_true_eq] at hnd
        exact ⟨hnd.2.2, fun h2 => by omega⟩
    clear hnd
    obtain ⟨kd, hkd⟩ : ∃ kd, l[i].kind = kd := ⟨_, rfl⟩
    obtain ⟨y1, hy1⟩ : ∃ y1, l[i].s = y1 := ⟨_, rfl⟩
    obtain ⟨y2, hy2⟩ : ∃ y2, l[i].n = y2 := ⟨_, rfl⟩
    rw [hkd] at hkk hK0 hK1 c0 HGP HFL HIN HOW
    rw [hy1] at hK0 c1 z1 HOW
    rw [hy2] at hK1 c2 HIN
    clear hkd hy1 hy2
    rcases hkk with rfl | rfl | rfl | rfl | rfl | rfl | rfl
    · obtain ⟨hk0, hs0⟩ := hK0 (by omega)
      have HT := (show Hid (tx l br (f + 1) i ind flat = y1.data.toList) from by show _ = _; rw [HTL.out hk0, HOW.out]; rfl)
      clear hk0 hK0 hK1 HTL HTO HTS HFL HIN HOW HGP HIT HIH HKC HAK HKD
      have hbW := bel_alloc w (.cells #[.int .i64 1, .string y1, .int .i64 y2, .slice ak l[i].kids.length ck] 44)
      have HMW := (show Hid (Mv w0.heap.size g w g (w.alloc (.cells #[.int .i64 1, .string y1, .int .i64 y2, .slice ak l[i].kids.length ck] 44))) from Mv.bel hbW)
      have HSt := (show Hid (St (w.alloc (.cells #[.int .i64 1, .string y1, .int .i64 y2, .slice ak l[i].kids.length ck] 44)) w0.heap.size 71 [.slice (some ⟨b, off, none⟩) l.length cap, .slice ab br.length cb] xs g a c) from HSt0.out.still hbW)
      have hn : ∃ n, xs.length = n := ⟨_, rfl⟩
      obtain ⟨n, hn⟩ := hn
      have HN := (show Hid _ from hn)
      have hs200 := hs0 rfl
      have hnl : n ≤ 1000000000 := by have := HLN.out; omega
      have HSt := (show Hid (St (w.alloc (.cells #[.int .i64 1, .string y1, .int .i64 y2, .slice ak l[i].kids.length ck] 44)).drew w0.heap.size 71 [.slice (some ⟨b, off, none⟩) l.length cap, .slice ab br.length cb] xs g a c) from HSt.out.keep rfl (fun _ _ => rfl))
      have HMW := (show Hid (Mv w0.heap.size g w g (w.alloc (.cells #[.int .i64 1, .string y1, .int .i64 y2, .slice ak l[i].kids.length ck] 44)).drew) from ⟨HMW.out.fr, HMW.out.gto⟩)
      have HQ0 := (show Hid ((w.alloc (.cells #[.int .i64 1, .string y1, .int .i64 y2, .slice ak l[i].kids.length ck] 44)).drew.cell? ⟨w.heap.size, 1, none⟩ = some (.string y1)) from (Box.new w 44 [.int .i64 1, .string y1, .int .i64 y2, .slice ak l[i].kids.length ck]).cell 1 (by simp))
      have HQ1 := (show Hid ((w.alloc (.cells #[.int .i64 1, .string y1, .int .i64 y2, .slice ak l[i].kids.length ck] 44)).drew.cell? ⟨w0.heap.size, 2, none⟩ = some (.slice a n c)) from by show _ = _; rw [← hn]; exact HSt.out.cell.1)
      have HKP := (show Hid (∀ (WB U : World) (v : Value), Below (w.alloc (.cells #[.int .i64 1, .string y1, .int .i64 y2, .slice ak l[i].kids.length ck] 44)).drew.heap.size (w.alloc (.cells #[.int .i64 1, .string y1, .int .i64 y2, .slice ak l[i].kids.length ck] 44)).drew WB → WB.grownBy U (Value.slice a n c).ownBlock → U.cell? ⟨w.heap.size, 1, none⟩ = some (.string y1) ∧ (U.setCell ⟨w0.heap.size, 2, none⟩ v).cell? ⟨w.heap.size, 1, none⟩ = some (.string y1)) from fun WB U v h1 h2 => by
        have e0 := HQ0.out
        have hlt := lt_of_cell e0
        have e1 : U.heap[w.heap.size]? = (w.alloc (.cells #[.int .i64 1, .string y1, .int .i64 y2, .slice ak l[i].kids.length ck] 44)).drew.heap[w.heap.size]? := by
          rw [h2.block w.heap.size (by have := h1.size; exact Nat.lt_of_lt_of_le hlt this) (fun e => by
            have h3 := HSt0.out.lt.2 w.heap.size (by rw [← HSt0.out.blk, HN.out]; exact e.symm)
            omega)]
          exact h1.block _ hlt
        have e2 : U.cell? ⟨w.heap.size, 1, none⟩ = some (.string y1) := (World.cell?_of_block (w := (w.alloc (.cells #[.int .i64 1, .string y1, .int .i64 y2, .slice ak l[i].kids.length ck] 44)).drew) e1).trans e0
        exact ⟨e2, (World.cell?_of_block (w := U) (blk_setCell_other _ _ _ _ (by show w.heap.size ≠ w0.heap.size; omega))).trans e2⟩)
      clear hbW
      go_enter Try.func38, Try.ntmps38
      go_wp2_with fail
      refine wp_region_held_drew (S := fun wq => wq.cell? ⟨w.heap.size, 1, none⟩ = some (.string y1)) (by kernel_rfl) HQ0.out (fun hHeld => ?_)
      refine wpAnyH_take (i := 0) (oi := oA0) (v := ?v1) rfl (by kernel_rfl) (by kernel_rfl) (by kernel_rfl) (fun _ _ _ h => h) (Or.inl ⟨by rfl, ?h1⟩) hHeld ?r1
      case h1 => (intro w hSw; (try dsimp only at hSw); go_simp; try with_reducible rfl)
      try simp only [Act.put, List.setIfInBounds_toArray, List.set_cons_zero, List.set_cons_succ]
      refine wpAnyH_take (i := 1) (oi := oA1) (v := ?v2) rfl (by kernel_rfl) (by kernel_rfl) (by kernel_rfl) (fun _ _ _ h => h) (Or.inl ⟨by rfl, ?h2⟩) hHeld ?r2
      case h2 => (intro w hSw; (try dsimp only at hSw); go_simp; try with_reducible rfl)
      try simp only [Act.put, List.setIfInBounds_toArray, List.set_cons_zero, List.set_cons_succ]
      refine wpAnyH_take (i := 2) (oi := oA2) (v := ?v3) rfl (by kernel_rfl) (by kernel_rfl) (by kernel_rfl) (fun _ _ _ h => h) (Or.inl ⟨by rfl, ?h3⟩) hHeld ?r3
      case h3 => (intro w hSw; (try dsimp only at hSw); go_simp; try with_reducible rfl)
      try simp only [Act.put, List.setIfInBounds_toArray, List.set_cons_zero, List.set_cons_succ]
      refine wpAnyH_take (i := 3) (oi := oA3) (v := ?v4) rfl (by kernel_rfl) (by kernel_rfl) (by kernel_rfl) (fun _ _ _ h => h) (Or.inl ⟨by rfl, ?h4⟩) hHeld ?r4
      case h4 => (intro w hSw; (try dsimp only at hSw); go_simp; try with_reducible rfl)
      try simp only [Act.put, List.setIfInBounds_toArray, List.set_cons_zero, List.set_cons_succ]
      refine wpAnyH_take (i := 5) (oi := oA5) (v := ?v5) rfl (by kernel_rfl) (by kernel_rfl) (by kernel_rfl) (fun _ _ _ h => h) (Or.inl ⟨by rfl, ?h5⟩) hHeld ?r5
      case h5 => (intro w hSw; (try dsimp only at hSw); go_simp; try with_reducible rfl)
      try simp only [Act.put, List.setIfInBounds_toArray, List.set_cons_zero, List.set_cons_succ]
      refine wpAnyH_take (i := 6) (oi := oA6) (v := ?v6) rfl (by kernel_rfl) (by kernel_rfl) (by kernel_rfl) (fun _ _ _ h => h) (Or.inl ⟨by rfl, ?h6⟩) hHeld ?r6
      case h6 => (intro w hSw; (try dsimp only at hSw); go_simp; try with_reducible rfl)
      try simp only [Act.put, List.setIfInBounds_toArray, List.set_cons_zero, List.set_cons_succ]
      refine wpAnyH_ready (rs := [4, 7]) (by kernel_rfl) (by simp) ?_
      refine (AllReadyH.cons (o := oA4) rfl (fun K hK => ?yc8) (AllReadyH.cons (o := oA7) rfl (fun K hK => ?yc7) AllReadyH.nil))
      case yc8 =>
        have q2 := HQ1.out
        go_simp
        clear hHeld
        refine hK.out _ _ (HQ0.out) (fun hHeld => ?_)
        clear hK K
        try simp only [Act.put, List.setIfInBounds_toArray, List.set_cons_zero, List.set_cons_succ]
        refine wpAnyH_ready (rs := [7]) (by kernel_rfl) (by simp) ?_
        refine (AllReadyH.cons (o := oA7) rfl (fun K hK => ?_) AllReadyH.nil)
        obtain ⟨cp, WB, hcv, hbWB, hszWB, hnew⟩ := conv_bytes ((w.alloc (.cells #[.int .i64 1, .string y1, .int .i64 y2, .slice ak l[i].kids.length ck] 44)).drew) y1
        rw [show ((w.alloc (.cells #[.int .i64 1, .string y1, .int .i64 y2, .slice ak l[i].kids.length ck] 44)).drew).heap.size = w.heap.size + 1 from by simp] at hcv hnew
        refine step_conv (P := Try.prog) _ rfl _ 9 69 rfl rfl hcv ?_
        clear hHeld
        refine hK.out _ _ ((hbWB.cell (lt_of_cell HQ0.out)).trans HQ0.out) (fun hHeld => ?_)
        clear hK K
        try simp only [Act.put, List.setIfInBounds_toArray, List.set_cons_zero, List.set_cons_succ]
        have ho := al_still HSt.out.own hbWB
        rw [HN.out] at ho
        refine wpAnyH_ready (rs := [8]) (by kernel_rfl) (by simp) ?_
        refine (AllReadyH.cons (o := oA8) rfl (fun K hK => ?_) AllReadyH.nil)
        refine step_append_blk (P := Try.prog) _ rfl _ _ 69 rfl (w0.heap.size + 1) 5 i5 _ 1 1 Try.underlying69 hi5 hz0 hz1 hz2 rfl (by decide) _ n _ rfl ho ⟨w.heap.size + 1, 0, none⟩ y1.size cp (u8 y1.data.toList) rfl (by rw [u8_len]; exact (Nat.mul_one _).symm) hnew (u8_one _) (by unfold maxLen; omega) (by omega) (by rw [hszWB]; have := HSt.out.lt.1; omega) ?_
        intro a2 c2 U hown2 hgr2 hat2
        obtain ⟨⟨z2, z3⟩, g2, hst, hmv⟩ := HSt.out.app (ys := y1.data.toList) HN.out hbWB hgr2 rfl hown2 (hat2.elim .inl (fun e => .inr ⟨_, e, by rw [hszWB]; omega⟩))
        have HQ2 := (show Hid (U.cell? ⟨w.heap.size, 1, none⟩ = some (.string y1) ∧ (U.setCell ⟨w0.heap.size, 2, none⟩ (.slice a2 (n + y1.data.toList.length) c2)).cell? ⟨w.heap.size, 1, none⟩ = some (.string y1)) from HKP.out WB U _ hbWB hgr2)
        have z2' : U.cell? ⟨w0.heap.size, 2, none⟩ = some (.slice a n c) := z2
        have z3' : U.frozen? ⟨w0.heap.size, 2, none⟩ = false := z3
        clear hHeld
        refine hK.out _ _ (HQ2.out.1) (fun hHeld => ?_)
        clear hK K
        try simp only [Act.put, List.setIfInBounds_toArray, List.set_cons_zero, List.set_cons_succ]
        refine wpAnyH_take (i := 9) (oi := oA9) (v := ?v9) rfl (by kernel_rfl) (by kernel_rfl) (by kernel_rfl) (fun _ _ _ h => h) (Or.inl ⟨by rfl, ?h9⟩) hHeld ?r9
        case h9 => (intro w hSw; (try dsimp only at hSw); go_simp; try with_reducible rfl)
        try simp only [Act.put, List.setIfInBounds_toArray, List.set_cons_zero, List.set_cons_succ]
        refine wpAnyH_take (i := 10) (oi := oA10) (v := ?v10) rfl (by kernel_rfl) (by kernel_rfl) (by kernel_rfl) (fun _ _ _ h => h) (Or.inl ⟨by rfl, ?h10⟩) hHeld ?r10
        case h10 => (intro w hSw; (try dsimp only at hSw); go_simp; try with_reducible rfl)
        try simp only [Act.put, List.setIfInBounds_toArray, List.set_cons_zero, List.set_cons_succ]
        refine wpAnyH_ready (rs := [11]) (by kernel_rfl) (by simp) ?_
        refine (AllReadyH.cons (o := oA11) rfl (fun K hK => ?_) AllReadyH.nil)
        go_simp
        clear hHeld
        refine hK.out _ _ (HQ2.out.2) (fun hHeld => ?_)
        clear hK K
        try simp only [Act.put, List.setIfInBounds_toArray, List.set_cons_zero, List.set_cons_succ]
        refine wpAnyH_done (by kernel_rfl) ?_ _
        (try refine NoPanic.normal ?_)
        go_wp2_with fail
        refine bodyPost_end (v := .tuple #[]) (by simp [results, Try.results38]) rfl ?_
        exact ⟨rfl, _, _, _, by rw [HT.out]; exact hst, HMW.out.trans hmv⟩
      case yc7 =>
        obtain ⟨cp, WB, hcv, hbWB, hszWB, hnew⟩ := conv_bytes ((w.alloc (.cells #[.int .i64 1, .string y1, .int .i64 y2, .slice ak l[i].kids.length ck] 44)).drew) y1
        rw [show ((w.alloc (.cells #[.int .i64 1, .string y1, .int .i64 y2, .slice ak l[i].kids.length ck] 44)).drew).heap.size = w.heap.size + 1 from by simp] at hcv hnew
        refine step_conv (P := Try.prog) _ rfl _ 9 69 rfl rfl hcv ?_
        clear hHeld
        refine hK.out _ _ ((hbWB.cell (lt_of_cell HQ0.out)).trans HQ0.out) (fun hHeld => ?_)
        clear hK K
        try simp only [Act.put, List.setIfInBounds_toArray, List.set_cons_zero, List.set_cons_succ]
        refine wpAnyH_ready (rs := [4]) (by kernel_rfl) (by simp) ?_
        refine (AllReadyH.cons (o := oA4) rfl (fun K hK => ?_) AllReadyH.nil)
        have q2 := (hbWB.cell (lt_of_cell HQ1.out)).trans HQ1.out
        go_simp
        clear hHeld
        refine hK.out _ _ ((hbWB.cell (lt_of_cell HQ0.out)).trans HQ0.out) (fun hHeld => ?_)
        clear hK K
        try simp only [Act.put, List.setIfInBounds_toArray, List.set_cons_zero, List.set_cons_succ]
        have ho := al_still HSt.out.own hbWB
        rw [HN.out] at ho
        refine wpAnyH_ready (rs := [8]) (by kernel_rfl) (by simp) ?_
        refine (AllReadyH.cons (o := oA8) rfl (fun K hK => ?_) AllReadyH.nil)
        refine step_append_blk (P := Try.prog) _ rfl _ _ 69 rfl (w0.heap.size + 1) 5 i5 _ 1 1 Try.underlying69 hi5 hz0 hz1 hz2 rfl (by decide) _ n _ rfl ho ⟨w.heap.size + 1, 0, none⟩ y1.size cp (u8 y1.data.toList) rfl (by rw [u8_len]; exact (Nat.mul_one _).symm) hnew (u8_one _) (by unfold maxLen; omega) (by omega) (by rw [hszWB]; have := HSt.out.lt.1; omega) ?_
        intro a2 c2 U hown2 hgr2 hat2
        obtain ⟨⟨z2, z3⟩, g2, hst, hmv⟩ := HSt.out.app (ys := y1.data.toList) HN.out hbWB hgr2 rfl hown2 (hat2.elim .inl (fun e => .inr ⟨_, e, by rw [hszWB]; omega⟩))
        have HQ2 := (show Hid (U.cell? ⟨w.heap.size, 1, none⟩ = some (.string y1) ∧ (U.setCell ⟨w0.heap.size, 2, none⟩ (.slice a2 (n + y1.data.toList.length) c2)).cell? ⟨w.heap.size, 1, none⟩ = some (.string y1)) from HKP.out WB U _ hbWB hgr2)
        have z2' : U.cell? ⟨w0.heap.size, 2, none⟩ = some (.slice a n c) := z2
        have z3' : U.frozen? ⟨w0.heap.size, 2, none⟩ = false := z3
        clear hHeld
        refine hK.out _ _ (HQ2.out.1) (fun hHeld => ?_)
        clear hK K
        try simp only [Act.put, List.setIfInBounds_toArray, List.set_cons_zero, List.set_cons_succ]
        refine wpAnyH_take (i := 9) (oi := oA9) (v := ?v11) rfl (by kernel_rfl) (by kernel_rfl) (by kernel_rfl) (fun _ _ _ h => h) (Or.inl ⟨by rfl, ?h11⟩) hHeld ?r11
        case h11 => (intro w hSw; (try dsimp only at hSw); go_simp; try with_reducible rfl)
        try simp only [Act.put, List.setIfInBounds_toArray, List.set_cons_zero, List.set_cons_succ]
        refine wpAnyH_take (i := 10) (oi := oA10) (v := ?v12) rfl (by kernel_rfl) (by kernel_rfl) (by kernel_rfl) (fun _ _ _ h => h) (Or.inl ⟨by rfl, ?h12⟩) hHeld ?r12
        case h12 => (intro w hSw; (try dsimp only at hSw); go_simp; try with_reducible rfl)
        try simp only [Act.put, List.setIfInBounds_toArray, List.set_cons_zero, List.set_cons_succ]
        refine wpAnyH_ready (rs := [11]) (by kernel_rfl) (by simp) ?_
        refine (AllReadyH.cons (o := oA11) rfl (fun K hK => ?_) AllReadyH.nil)
        go_simp
        clear hHeld
        refine hK.out _ _ (HQ2.out.2) (fun hHeld => ?_)
        clear hK K
        try simp only [Act.put, List.setIfInBounds_toArray, List.set_cons_zero, List.set_cons_succ]
        refine wpAnyH_done (by kernel_rfl) ?_ _
        (try refine NoPanic.normal ?_)
        go_wp2_with fail
        refine bodyPost_end (v := .tuple #[]) (by simp [results, Try.results38]) rfl ?_
        exact ⟨rfl, _, _, _, by rw [HT.out]; exact hst, HMW.out.trans hmv⟩
    · cases flat
      · obtain ⟨hk0, hs0⟩ := hK0 (by omega)
        have HT := (show Hid (tx l br (f + 1) i ind false = fdT ind) from by show _ = _; rw [HTL.out hk0, HOW.out]; rfl)
        clear hk0 hK0 hK1 HTL HTO HTS HFL HIN HOW HGP HIT HIH HKC HAK HKD
        have hbW := bel_alloc w (.cells #[.int .i64 2, .string y1, .int .i64 y2, .slice ak l[i].kids.length ck] 44)
        have HMW := (show Hid (Mv w0.heap.size g w g (w.alloc (.cells #[.int .i64 2, .string y1, .int .i64 y2, .slice ak l[i].kids.length ck] 44))) from Mv.bel hbW)
        have HSt := (show Hid (St (w.alloc (.cells #[.int .i64 2, .string y1, .int .i64 y2, .slice ak l[i].kids.length ck] 44)) w0.heap.size 71 [.slice (some ⟨b, off, none⟩) l.length cap, .slice ab br.length cb] xs g a c) from HSt0.out.still hbW)
        have HF := (show Hid _ from feed49 ind w0.heap.size (.slice (some ⟨b, off, none⟩) l.length cap) (.slice ab br.length cb) xs g a c _ HSt.out (by omega) (by
          have h1 := HLN.out
          rw [HT.out] at h1
          have : (fdT ind).length = ind + 1 := by unfold fdT; simp
          omega))
        clear HSt hbW
        go_enter Try.func38, Try.ntmps38
        go_wp2_with fail
        refine Calls.mono HF.out ?_
        rintro e w1 ⟨rfl, g1, a1, c1, hst, hmv⟩
        have HR := (show Hid (_ ∧ _) from ⟨hst, HMW.out.trans hmv⟩)
        clear hst hmv
        go_wp2_with fail
        refine bodyPost_end (v := .tuple #[]) (by simp [results, Try.results38]) rfl ?_
        exact ⟨rfl, _, _, _, by rw [HT.out]; exact HR.out.1, HR.out.2⟩
      · obtain ⟨hk0, hs0⟩ := hK0 (by omega)
        have HT := (show Hid (tx l br (f + 1) i ind true = [32]) from by show _ = _; rw [HTL.out hk0, HOW.out]; rfl)
        clear hk0 hK0 hK1 HTL HTO HTS HFL HIN HOW HGP HIT HIH HKC HAK HKD
        have hbW := bel_alloc w (.cells #[.int .i64 2, .string y1, .int .i64 y2, .slice ak l[i].kids.length ck] 44)
        have HMW := (show Hid (Mv w0.heap.size g w g (w.alloc (.cells #[.int .i64 2, .string y1, .int .i64 y2, .slice ak l[i].kids.length ck] 44))) from Mv.bel hbW)
        have HSt := (show Hid (St (w.alloc (.cells #[.int .i64 2, .string y1, .int .i64 y2, .slice ak l[i].kids.length ck] 44)) w0.heap.size 71 [.slice (some ⟨b, off, none⟩) l.length cap, .slice ab br.length cb] xs g a c) from HSt0.out.still hbW)
        have hn : ∃ n, xs.length = n := ⟨_, rfl⟩
        obtain ⟨n, hn⟩ := hn
        have q2 : (w.alloc (.cells #[.int .i64 2, .string y1, .int .i64 y2, .slice ak l[i].kids.length ck] 44)).cell? ⟨w0.heap.size, 2, none⟩ = some (.slice a n c) := by rw [← hn]; exact HSt.out.cell.1
        have hb2 := bel_alloc (w.alloc (.cells #[.int .i64 2, .string y1, .int .i64 y2, .slice ak l[i].kids.length ck] 44)) (.cells #[.int .u8 32] 5)
        have ho := al_still HSt.out.own hb2
        rw [hn] at ho
        have HO := (show Hid _ from ho); clear ho
        have HB2 := (show Hid _ from hb2); clear hb2
        have HN := (show Hid _ from hn)
        have hnl : n ≤ 1000000000 := by have := HLN.out; omega
        clear hn hbW
        go_enter Try.func38, Try.ntmps38
        go_wp2_with (at_builtin; refine wpList_append_lies _ rfl (.tmp 47) (.tmp 48) 69 rfl (w0.heap.size + 1) 5 i5 _ 1 1 Try.underlying69 hi5 hz0 hz1 hz2 rfl (by decide) _ n _ rfl HO.out ⟨w.heap.size + 1, 0, none⟩ 1 1 [.int .u8 32] rfl rfl (al_box2 _ _ _ _) (by intro u hu; simp at hu; subst hu; rfl) (by decide) ?c1 ?c2 ?c3 _ rfl ?nx)
        case c1 => unfold maxLen; omega
        case c2 => omega
        case c3 => first | omega | (simp; omega)
        case nx =>
          intro g2 cap2 U hown2 hgr2 hat2 hlt2
          obtain ⟨⟨z2, z3⟩, g', hst, hmv⟩ := HSt.out.app (ys := [32]) HN.out HB2.out hgr2 rfl hown2 (hat2.elim (fun e => .inl e.symm) (fun e => .inr ⟨g2, rfl, by rw [e]; simp⟩))
          have HST := (show Hid (_ ∧ _) from ⟨hst, HMW.out.trans hmv⟩)
          have z2' : U.cell? ⟨w0.heap.size, 2, none⟩ = some (.slice a n c) := z2
          have z3' : U.frozen? ⟨w0.heap.size, 2, none⟩ = false := z3
          clear hst hmv hown2 hgr2 hat2 hlt2 HO HB2 q2 z2 z3
          go_wp2_with fail
          refine bodyPost_end (v := .tuple #[]) (by simp [results, Try.results38]) rfl ?_
          exact ⟨rfl, _, _, _, by rw [HT.out]; exact HST.out.1, HST.out.2⟩
    · cases flat
      · obtain ⟨hk0, hs0⟩ := hK0 (by omega)
        have HT := (show Hid (tx l br (f + 1) i ind false = fdT ind) from by show _ = _; rw [HTL.out hk0, HOW.out]; rfl)
        clear hk0 hK0 hK1 HTL HTO HTS HFL HIN HOW HGP HIT HIH HKC HAK HKD
        have hbW := bel_alloc w (.cells #[.int .i64 3, .string y1, .int .i64 y2, .slice ak l[i].kids.length ck] 44)
        have HMW := (show Hid (Mv w0.heap.size g w g (w.alloc (.cells #[.int .i64 3, .string y1, .int .i64 y2, .slice ak l[i].kids.length ck] 44))) from Mv.bel hbW)
        have HSt := (show Hid (St (w.alloc (.cells #[.int .i64 3, .string y1, .int .i64 y2, .slice ak l[i].kids.length ck] 44)) w0.heap.size 71 [.slice (some ⟨b, off, none⟩) l.length cap, .slice ab br.length cb] xs g a c) from HSt0.out.still hbW)
        have HF := (show Hid _ from feed49 ind w0.heap.size (.slice (some ⟨b, off, none⟩) l.length cap) (.slice ab br.length cb) xs g a c _ HSt.out (by omega) (by
          have h1 := HLN.out
          rw [HT.out] at h1
          have : (fdT ind).length = ind + 1 := by unfold fdT; simp
          omega))
        clear HSt hbW
        go_enter Try.func38, Try.ntmps38
        go_wp2_with fail
        refine Calls.mono HF.out ?_
        rintro e w1 ⟨rfl, g1, a1, c1, hst, hmv⟩
        have HR := (show Hid (_ ∧ _) from ⟨hst, HMW.out.trans hmv⟩)
        clear hst hmv
        go_wp2_with fail
        refine bodyPost_end (v := .tuple #[]) (by simp [results, Try.results38]) rfl ?_
        exact ⟨rfl, _, _, _, by rw [HT.out]; exact HR.out.1, HR.out.2⟩
      · obtain ⟨hk0, hs0⟩ := hK0 (by omega)
        have HT := (show Hid (tx l br (f + 1) i ind true = []) from by show _ = _; rw [HTL.out hk0, HOW.out]; rfl)
        clear hk0 hK0 hK1 HTL HTO HTS HFL HIN HOW HGP HIT HIH HKC HAK HKD
        have hbW := bel_alloc w (.cells #[.int .i64 3, .string y1, .int .i64 y2, .slice ak l[i].kids.length ck] 44)
        have HMW := (show Hid (Mv w0.heap.size g w g (w.alloc (.cells #[.int .i64 3, .string y1, .int .i64 y2, .slice ak l[i].kids.length ck] 44))) from Mv.bel hbW)
        have HSt := (show Hid (St (w.alloc (.cells #[.int .i64 3, .string y1, .int .i64 y2, .slice ak l[i].kids.length ck] 44)) w0.heap.size 71 [.slice (some ⟨b, off, none⟩) l.length cap, .slice ab br.length cb] xs g a c) from HSt0.out.still hbW)
        go_enter Try.func38, Try.ntmps38
        go_wp2_with fail
        refine bodyPost_end (v := .tuple #[]) (by simp [results, Try.results38]) rfl ?_
        exact ⟨rfl, _, _, _, by rw [HT.out, List.append_nil]; exact HSt.out, HMW.out⟩
    · obtain ⟨hk0, hs0⟩ := hK0 (by omega)
      have HT := (show Hid (tx l br (f + 1) i ind flat = fdT ind) from by show _ = _; rw [HTL.out hk0, HOW.out]; rfl)
      clear hk0 hK0 hK1 HTL HTO HTS HFL HIN HOW HGP HIT HIH HKC HAK HKD
      have hbW := bel_alloc w (.cells #[.int .i64 4, .string y1, .int .i64 y2, .slice ak l[i].kids.length ck] 44)
      have HMW := (show Hid (Mv w0.heap.size g w g (w.alloc (.cells #[.int .i64 4, .string y1, .int .i64 y2, .slice ak l[i].kids.length ck] 44))) from Mv.bel hbW)
      have HSt := (show Hid (St (w.alloc (.cells #[.int .i64 4, .string y1, .int .i64 y2, .slice ak l[i].kids.length ck] 44)) w0.heap.size 71 [.slice (some ⟨b, off, none⟩) l.length cap, .slice ab br.length cb] xs g a c) from HSt0.out.still hbW)
      have HF := (show Hid _ from feed49 ind w0.heap.size (.slice (some ⟨b, off, none⟩) l.length cap) (.slice ab br.length cb) xs g a c _ HSt.out (by omega) (by
        have h1 := HLN.out
        rw [HT.out] at h1
        have : (fdT ind).length = ind + 1 := by unfold fdT; simp
        omega))
      clear HSt hbW
      go_enter Try.func38, Try.ntmps38
      go_wp2_with fail
      refine Calls.mono HF.out ?_
      rintro e w1 ⟨rfl, g1, a1, c1, hst, hmv⟩
      have HR := (show Hid (_ ∧ _) from ⟨hst, HMW.out.trans hmv⟩)
      clear hst hmv
      go_wp2_with fail
      refine bodyPost_end (v := .tuple #[]) (by simp [results, Try.results38]) rfl ?_
      exact ⟨rfl, _, _, _, by rw [HT.out]; exact HR.out.1, HR.out.2⟩
    · obtain ⟨hk1, hnn⟩ := hK1 (by omega)
      obtain ⟨hn0, hn20⟩ := hnn rfl
      obtain ⟨m, rfl⟩ : ∃ m : Nat, y2 = (m : Int) := ⟨y2.toNat, by omega⟩
      clear hnn
      obtain ⟨k, hkk⟩ : ∃ k, l[i].kids = [k] := List.length_eq_one_iff.1 hk1
      obtain ⟨hkd0, hkd1⟩ := HKD.out k (by rw [hkk]; simp)
      obtain ⟨kn, rfl⟩ : ∃ kn : Nat, k = (kn : Int) := ⟨k.toNat, by omega⟩
      obtain ⟨hak, _⟩ := HAK.out (by omega)
      have k0 := HKC.out 0 (by omega)
      rw [show l[i].kids[0]'(by omega) = (kn : Int) from by simp [hkk], Nat.add_zero] at k0
      have HT := (show Hid (tx l br (f + 1) i ind flat = tx l br f kn (ind + m) flat) from by
        show _ = _
        rw [HTO.out _ hkk (by rw [HOW.out]; rfl), HIN.out, HFL.out]
        rfl)
      have hln := HLN.out
      rw [HT.out] at hln
      have hlt := HSt0.out.lt
      have HG := (show Hid (∀ k, g = some k → w0.heap.size + 1 ≤ k ∧ k < w.heap.size) from hlt.2)
      have hbW : Below w.heap.size w (w.alloc (.cells #[.int .i64 5, .string y1, .int .i64 (m : Int), .slice ak l[i].kids.length ck] 44)).drew := (bel_alloc w (.cells #[.int .i64 5, .string y1, .int .i64 (m : Int), .slice ak l[i].kids.length ck] 44)).drew
      have HMW := (show Hid (Mv w0.heap.size g w g (w.alloc (.cells #[.int .i64 5, .string y1, .int .i64 (m : Int), .slice ak l[i].kids.length ck] 44)).drew) from Mv.bel hbW)
      have HSt := (show Hid (St (w.alloc (.cells #[.int .i64 5, .string y1, .int .i64 (m : Int), .slice ak l[i].kids.length ck] 44)).drew w0.heap.size 71 [.slice (some ⟨b, off, none⟩) l.length cap, .slice ab br.length cb] xs g a c) from HSt0.out.still hbW)
      have HBx := (show Hid (Box (w.alloc (.cells #[.int .i64 5, .string y1, .int .i64 (m : Int), .slice ak l[i].kids.length ck] 44)).drew w.heap.size 44 [.int .i64 5, .string y1, .int .i64 (m : Int), .slice ak l[i].kids.length ck]) from (Box.new w 44 [.int .i64 5, .string y1, .int .i64 (m : Int), .slice ak l[i].kids.length ck]).keep rfl)
      have HBD := (show Hid (Below w0.heap.size w0 (w.alloc (.cells #[.int .i64 5, .string y1, .int .i64 (m : Int), .slice ak l[i].kids.length ck] 44)).drew) from HBW.out.trans (hbW.mono HBW.out.size))
      have HCL : Hid (Calls Try.prog 38 #[.pointer (some ⟨w0.heap.size, 0, none⟩), .int .i64 kn, .int .i64 ((ind : Int) + (m : Int)), .bool flat] (w.alloc (.cells #[.int .i64 5, .string y1, .int .i64 (m : Int), .slice ak l[i].kids.length ck] 44)).drew (Wr w0.heap.size 71 [.slice (some ⟨b, off, none⟩) l.length cap, .slice ab br.length cb] xs (tx l br f kn (ind + m) flat) g (w.alloc (.cells #[.int .i64 5, .string y1, .int .i64 (m : Int), .slice ak l[i].kids.length ck] 44)).drew)) := by
        have := HIH.out kn (ind + m) flat xs g a c _ (by omega) (by omega) (by omega) hln HBD.out HSt.out
        rw [show (((ind + m : Nat)) : Int) = (ind : Int) + (m : Int) from by omega] at this
        exact this
      rw [hk1] at HBx HCL HSt HMW HBD
      have k0' := (HBD.out.cell (lt_of_cell k0)).trans k0
      have hbk := lt_of_cell k0
      have HKQ := (show Hid (∀ (g' : Option Nat) (w' : World) {xs' : List UInt8} {a' : Option Addr} {c' : Nat}, St w' w0.heap.size 71 [.slice (some ⟨b, off, none⟩) l.length cap, .slice ab br.length cb] xs' g' a' c' → Mv w0.heap.size g (w.alloc (.cells #[.int .i64 5, .string y1, .int .i64 (m : Int), .slice ak 1 ck] 44)).drew g' w' → w'.cell? ⟨w.heap.size, 2, none⟩ = some (.int .i64 (m : Int)) ∧ w'.cell? ⟨w.heap.size, 3, none⟩ = some (.slice ak 1 ck) ∧ w'.cell? ⟨bk, ok, none⟩ = some (.int .i64 (kn : Int))) from fun g' w' {xs' a' c'} hst' hmv' => by
        have hb := HBx.out.keep (hmv'.fr.2.2.2.2 w.heap.size HBx.out.lt (by omega) (fun e => by have := HG.out _ e; omega))
        have hbl := (hmv'.below (B := w0.heap.size) (Nat.le_refl _) (fun k e => by have := HG.out k e; omega) HBD.out.size).cell (p := ⟨bk, ok, none⟩) hbk
        exact ⟨hb.cell 2 (by simp), hb.cell 3 (by simp), hbl.trans k0'⟩)
      have HQ0 := (show Hid ((w.alloc (.cells #[.int .i64 5, .string y1, .int .i64 (m : Int), .slice ak 1 ck] 44)).drew.cell? ⟨w.heap.size, 2, none⟩ = some (.int .i64 (m : Int)) ∧ (w.alloc (.cells #[.int .i64 5, .string y1, .int .i64 (m : Int), .slice ak 1 ck] 44)).drew.cell? ⟨w.heap.size, 3, none⟩ = some (.slice ak 1 ck) ∧ (w.alloc (.cells #[.int .i64 5, .string y1, .int .i64 (m : Int), .slice ak 1 ck] 44)).drew.cell? ⟨bk, ok, none⟩ = some (.int .i64 (kn : Int))) from ⟨HBx.out.cell 2 (by simp), HBx.out.cell 3 (by simp), k0'⟩)
      have hwr : IntKind.i64.wrap ((ind : Int) + (m : Int)) = (ind : Int) + (m : Int) := by rw [IntKind.wrap_i64]; omega
      subst hak
      clear hkk k0 hlt hK0 hK1 HTL HTO HTS HFL HIN HOW HGP HIT HIH HKC HAK HKD hbW hln HBx
      rw [hk1] at c3
      clear hk1
      go_enter Try.func38, Try.ntmps38
      go_wp2_with fail
      refine wp_region_held_drew (S := fun wq => wq.cell? ⟨w.heap.size, 2, none⟩ = some (.int .i64 (m : Int)) ∧ wq.cell? ⟨w.heap.size, 3, none⟩ = some (.slice (some ⟨bk, ok, none⟩) 1 ck) ∧ wq.cell? ⟨bk, ok, none⟩ = some (.int .i64 (kn : Int))) (by kernel_rfl) HQ0.out (fun hHeld => ?_)
      refine wpAnyH_take (i := 0) (oi := oB0) (v := ?v13) rfl (by kernel_rfl) (by kernel_rfl) (by kernel_rfl) (fun _ _ _ h => h) (Or.inl ⟨by rfl, ?h13⟩) hHeld ?r13
      case h13 => (intro w hSw; (try dsimp only at hSw); go_simp; try with_reducible rfl)
      try simp only [Act.put, List.setIfInBounds_toArray, List.set_cons_zero, List.set_cons_succ]
      refine wpAnyH_take (i := 1) (oi := oB1) (v := ?v14) rfl (by kernel_rfl) (by kernel_rfl) (by kernel_rfl) (fun _ _ _ h => h) (Or.inl ⟨by rfl, ?h14⟩) hHeld ?r14
      case h14 => (intro w hSw; (try dsimp only at hSw); go_simp; try with_reducible rfl)
      try simp only [Act.put, List.setIfInBounds_toArray, List.set_cons_zero, List.set_cons_succ]
      refine wpAnyH_take (i := 2) (oi := oB2) (v := ?v15) rfl (by kernel_rfl) (by kernel_rfl) (by kernel_rfl) (fun _ _ _ h => h) (Or.inl ⟨by rfl, ?h15⟩) hHeld ?r15
      case h15 => (intro w hSw; (try dsimp only at hSw); go_simp; try with_reducible rfl)
      try simp only [Act.put, List.setIfInBounds_toArray, List.set_cons_zero, List.set_cons_succ]
      refine wpAnyH_take (i := 3) (oi := oB3) (v := ?v16) rfl (by kernel_rfl) (by kernel_rfl) (by kernel_rfl) (fun _ _ _ h => h) (Or.inl ⟨by rfl, ?h16⟩) hHeld ?r16
      case h16 => (intro w hSw; (try dsimp only at hSw); go_simp; try with_reducible rfl)
      try simp only [Act.put, List.setIfInBounds_toArray, List.set_cons_zero, List.set_cons_succ]
      refine wpAnyH_take (i := 4) (oi := oB4) (v := ?v17) rfl (by kernel_rfl) (by kernel_rfl) (by kernel_rfl) (fun _ _ _ h => h) (Or.inl ⟨by rfl, ?h17⟩) hHeld ?r17
      case h17 => (intro w hSw; (try dsimp only at hSw); go_simp; try with_reducible rfl)
      try simp only [Act.put, List.setIfInBounds_toArray, List.set_cons_zero, List.set_cons_succ]
      refine wpAnyH_take (i := 5) (oi := oB5) (v := ?v18) rfl (by kernel_rfl) (by kernel_rfl) (by kernel_rfl) (fun _ _ _ h => h) (Or.inl ⟨by rfl, ?h18⟩) hHeld ?r18
      case h18 => (intro w hSw; (try dsimp only at hSw); go_simp; try with_reducible rfl)
      try simp only [Act.put, List.setIfInBounds_toArray, List.set_cons_zero, List.set_cons_succ]
      refine wpAnyH_take (i := 6) (oi := oB6) (v := ?v19) rfl (by kernel_rfl) (by kernel_rfl) (by kernel_rfl) (fun _ _ _ h => h) (Or.inl ⟨by rfl, ?h19⟩) hHeld ?r19
      case h19 => (intro w hSw; (try dsimp only at hSw); go_simp; try with_reducible rfl)
      try simp only [Act.put, List.setIfInBounds_toArray, List.set_cons_zero, List.set_cons_succ]
      refine wpAnyH_take (i := 7) (oi := oB7) (v := ?v20) rfl (by kernel_rfl) (by kernel_rfl) (by kernel_rfl) (fun _ _ _ h => h) (Or.inl ⟨by rfl, ?h20⟩) hHeld ?r20
      case h20 => (intro w hSw; (try dsimp only at hSw); go_simp; try with_reducible rfl)
      try simp only [Act.put, List.setIfInBounds_toArray, List.set_cons_zero, List.set_cons_succ]
      refine wpAnyH_take (i := 8) (oi := oB8) (v := ?v21) rfl (by kernel_rfl) (by kernel_rfl) (by kernel_rfl) (fun _ _ _ h => h) (Or.inl ⟨by rfl, ?h21⟩) hHeld ?r21
      case h21 => (intro w hSw; (try dsimp only at hSw); go_simp; try with_reducible rfl)
      try simp only [Act.put, List.setIfInBounds_toArray, List.set_cons_zero, List.set_cons_succ]
      refine wpAnyH_take (i := 9) (oi := oB9) (v := ?v22) rfl (by kernel_rfl) (by kernel_rfl) (by kernel_rfl) (fun _ _ _ h => h) (Or.inl ⟨by rfl, ?h22⟩) hHeld ?r22
      case h22 => (intro w hSw; (try dsimp only at hSw); go_simp; try with_reducible rfl)
      try simp only [Act.put, List.setIfInBounds_toArray, List.set_cons_zero, List.set_cons_succ]
      refine wpAnyH_ready (rs := [10]) (by kernel_rfl) (by simp) ?_
      refine (AllReadyH.cons (o := oB10) rfl (fun K hK => ?_) AllReadyH.nil)
      go_simp
      refine Calls.mono HCL.out ?_
      rintro e w' ⟨rfl, g1, a1, c1, hst, hmv⟩
      dsimp only
      clear hHeld
      refine hK.out _ _ (HKQ.out _ _ hst hmv) (fun hHeld => ?_)
      clear hK K
      try simp only [Act.put, List.setIfInBounds_toArray, List.set_cons_zero, List.set_cons_succ]
      refine wpAnyH_done (by kernel_rfl) ?_ _
      (try refine NoPanic.normal ?_)
      go_wp2_with fail
      refine bodyPost_end (v := .tuple #[]) (by simp [results, Try.results38]) rfl ?_
      exact ⟨rfl, _, _, _, by rw [HT.out]; exact hst, HMW.out.trans hmv⟩
    · cases flat
      · obtain ⟨hk1, _⟩ := hK1 (by omega)
        have hG := HGP.out rfl
        obtain ⟨hab, _⟩ := HBA.out (by omega)
        have hbG := HBC.out (gpl l i).length hG
        have hGD : br.getD (gpl l i).length false = br[(gpl l i).length] := getD_lt _ _ hG
        have HGC0 := (show Hid _ from fun (wq : World) (hb : Below w0.heap.size w0 wq) (q : wq.cell? ⟨w0.heap.size, 0, none⟩ = some (.slice (some ⟨b, off, none⟩) l.length cap)) => HGR.out wq i hb hi q)
        rw [hGD] at HFL
        clear hGD
        generalize br[(gpl l i).length] = B at *
        generalize (gpl l i).length = G at *
        subst hab
        cases B
        · skip
          obtain ⟨k, hkk⟩ : ∃ k, l[i].kids = [k] := List.length_eq_one_iff.1 hk1
          obtain ⟨hkd0, hkd1⟩ := HKD.out k (by rw [hkk]; simp)
          obtain ⟨kn, rfl⟩ : ∃ kn : Nat, k = (kn : Int) := ⟨k.toNat, by omega⟩
          obtain ⟨hak, _⟩ := HAK.out (by omega)
          have k0 := HKC.out 0 (by omega)
          rw [show l[i].kids[0]'(by omega) = (kn : Int) from by simp [hkk], Nat.add_zero] at k0
          have HT := (show Hid (tx l br (f + 1) i ind false = tx l br f kn ind true) from by
            show _ = _
            rw [HTO.out _ hkk (by rw [HOW.out]; rfl), HIN.out, HFL.out]
            rfl)
          have hln := HLN.out
          rw [HT.out] at hln
          have hlt := HSt0.out.lt
          have HG := (show Hid (∀ k, g = some k → w0.heap.size + 1 ≤ k ∧ k < w.heap.size) from hlt.2)
          have hbW : Below w.heap.size w (w.alloc (.cells #[.int .i64 6, .string y1, .int .i64 y2, .slice ak l[i].kids.length ck] 44)).drew := (bel_alloc w (.cells #[.int .i64 6, .string y1, .int .i64 y2, .slice ak l[i].kids.length ck] 44)).drew
          have HMW := (show Hid (Mv w0.heap.size g w g (w.alloc (.cells #[.int .i64 6, .string y1, .int .i64 y2, .slice ak l[i].kids.length ck] 44)).drew) from Mv.bel hbW)
          have HSt := (show Hid (St (w.alloc (.cells #[.int .i64 6, .string y1, .int .i64 y2, .slice ak l[i].kids.length ck] 44)).drew w0.heap.size 71 [.slice (some ⟨b, off, none⟩) l.length cap, .slice (some ⟨bb, ob, none⟩) br.length cb] xs g a c) from HSt0.out.still hbW)
          have HBx := (show Hid (Box (w.alloc (.cells #[.int .i64 6, .string y1, .int .i64 y2, .slice ak l[i].kids.length ck] 44)).drew w.heap.size 44 [.int .i64 6, .string y1, .int .i64 y2, .slice ak l[i].kids.length ck]) from (Box.new w 44 [.int .i64 6, .string y1, .int .i64 y2, .slice ak l[i].kids.length ck]).keep rfl)
          have HBD := (show Hid (Below w0.heap.size w0 (w.alloc (.cells #[.int .i64 6, .string y1, .int .i64 y2, .slice ak l[i].kids.length ck] 44)).drew) from HBW.out.trans (hbW.mono HBW.out.size))
          have HCL : Hid (Calls Try.prog 38 #[.pointer (some ⟨w0.heap.size, 0, none⟩), .int .i64 kn, .int .i64 (ind : Int), .bool true] (w.alloc (.cells #[.int .i64 6, .string y1, .int .i64 y2, .slice ak l[i].kids.length ck] 44)).drew (Wr w0.heap.size 71 [.slice (some ⟨b, off, none⟩) l.length cap, .slice (some ⟨bb, ob, none⟩) br.length cb] xs (tx l br f kn ind true) g (w.alloc (.cells #[.int .i64 6, .string y1, .int .i64 y2, .slice ak l[i].kids.length ck] 44)).drew)) := by
            have := HIH.out kn ind true xs g a c _ (by omega) (by omega) (by omega) hln HBD.out HSt.out
            skip
            exact this
          rw [hk1] at HBx HCL HSt HMW HBD
          have k0' := (HBD.out.cell (lt_of_cell k0)).trans k0
          have hbG' := (HBD.out.cell (lt_of_cell hbG)).trans hbG
          have hbk := lt_of_cell k0
          have HKQ := (show Hid (∀ (g' : Option Nat) (w' : World) {xs' : List UInt8} {a' : Option Addr} {c' : Nat}, St w' w0.heap.size 71 [.slice (some ⟨b, off, none⟩) l.length cap, .slice (some ⟨bb, ob, none⟩) br.length cb] xs' g' a' c' → Mv w0.heap.size g (w.alloc (.cells #[.int .i64 6, .string y1, .int .i64 y2, .slice ak 1 ck] 44)).drew g' w' → w'.cell? ⟨w.heap.size, 3, none⟩ = some (.slice ak 1 ck) ∧ w'.cell? ⟨bk, ok, none⟩ = some (.int .i64 (kn : Int)) ∧ w'.cell? ⟨w0.heap.size, 1, none⟩ = some (.slice (some ⟨bb, ob, none⟩) br.length cb) ∧ w'.cell? ⟨bb, ob + G, none⟩ = some (.bool false)) from fun g' w' {xs' a' c'} hst' hmv' => by
            have hb := HBx.out.keep (hmv'.fr.2.2.2.2 w.heap.size HBx.out.lt (by omega) (fun e => by have := HG.out _ e; omega))
            have hbl := (hmv'.below (B := w0.heap.size) (Nat.le_refl _) (fun k e => by have := HG.out k e; omega) HBD.out.size).cell (p := ⟨bk, ok, none⟩) hbk
            exact ⟨hb.cell 3 (by simp), hbl.trans k0', hst'.box.cell 1 (by simp), (hmv'.below (B := w0.heap.size) (Nat.le_refl _) (fun k e => by have := HG.out k e; omega) HBD.out.size).cell (p := ⟨bb, ob + G, none⟩) (lt_of_cell hbG) |>.trans hbG'⟩)
          have HQ0 := (show Hid ((w.alloc (.cells #[.int .i64 6, .string y1, .int .i64 y2, .slice ak 1 ck] 44)).drew.cell? ⟨w.heap.size, 3, none⟩ = some (.slice ak 1 ck) ∧ (w.alloc (.cells #[.int .i64 6, .string y1, .int .i64 y2, .slice ak 1 ck] 44)).drew.cell? ⟨bk, ok, none⟩ = some (.int .i64 (kn : Int)) ∧ (w.alloc (.cells #[.int .i64 6, .string y1, .int .i64 y2, .slice ak 1 ck] 44)).drew.cell? ⟨w0.heap.size, 1, none⟩ = some (.slice (some ⟨bb, ob, none⟩) br.length cb) ∧ (w.alloc (.cells #[.int .i64 6, .string y1, .int .i64 y2, .slice ak 1 ck] 44)).drew.cell? ⟨bb, ob + G, none⟩ = some (.bool false)) from ⟨HBx.out.cell 3 (by simp), k0', HSt.out.box.cell 1 (by simp), hbG'⟩)
          have HGC := (show Hid _ from HGC0.out _ HBD.out (HSt.out.box.cell 0 (by simp)))
          have hGi : (G : Int) < (br.length : Int) := by omega
          subst hak
          clear hkk k0 hlt hK0 hK1 HTL HTO HTS HFL HIN HOW HGP HIT HIH HKC HAK HKD hbW hln HBx
          rw [hk1] at c3
          clear hk1
          go_enter Try.func38, Try.ntmps38
          go_wp2_with fail
          refine wp_region_held_drew (S := fun wq => wq.cell? ⟨w.heap.size, 3, none⟩ = some (.slice (some ⟨bk, ok, none⟩) 1 ck) ∧ wq.cell? ⟨bk, ok, none⟩ = some (.int .i64 (kn : Int)) ∧ wq.cell? ⟨w0.heap.size, 1, none⟩ = some (.slice (some ⟨bb, ob, none⟩) br.length cb) ∧ wq.cell? ⟨bb, ob + G, none⟩ = some (.bool false)) (by kernel_rfl) HQ0.out (fun hHeld => ?_)
          refine wpAnyH_take (i := 0) (oi := oC0) (v := ?v32) rfl (by kernel_rfl) (by kernel_rfl) (by kernel_rfl) (fun _ _ _ h => h) (Or.inl ⟨by rfl, ?h32⟩) hHeld ?r32
          case h32 => (intro w hSw; (try dsimp only at hSw); go_simp; try with_reducible rfl)
          try simp only [Act.put, List.setIfInBounds_toArray, List.set_cons_zero, List.set_cons_succ]
          refine wpAnyH_take (i := 1) (oi := oC1) (v := ?v33) rfl (by kernel_rfl) (by kernel_rfl) (by kernel_rfl) (fun _ _ _ h => h) (Or.inl ⟨by rfl, ?h33⟩) hHeld ?r33
          case h33 => (intro w hSw; (try dsimp only at hSw); go_simp; try with_reducible rfl)
          try simp only [Act.put, List.setIfInBounds_toArray, List.set_cons_zero, List.set_cons_succ]
          refine wpAnyH_take (i := 2) (oi := oC2) (v := ?v34) rfl (by kernel_rfl) (by kernel_rfl) (by kernel_rfl) (fun _ _ _ h => h) (Or.inl ⟨by rfl, ?h34⟩) hHeld ?r34
          case h34 => (intro w hSw; (try dsimp only at hSw); go_simp; try with_reducible rfl)
          try simp only [Act.put, List.setIfInBounds_toArray, List.set_cons_zero, List.set_cons_succ]
          refine wpAnyH_take (i := 3) (oi := oC3) (v := ?v35) rfl (by kernel_rfl) (by kernel_rfl) (by kernel_rfl) (fun _ _ _ h => h) (Or.inl ⟨by rfl, ?h35⟩) hHeld ?r35
          case h35 => (intro w hSw; (try dsimp only at hSw); go_simp; try with_reducible rfl)
          try simp only [Act.put, List.setIfInBounds_toArray, List.set_cons_zero, List.set_cons_succ]
          refine wpAnyH_take (i := 4) (oi := oC4) (v := ?v36) rfl (by kernel_rfl) (by kernel_rfl) (by kernel_rfl) (fun _ _ _ h => h) (Or.inl ⟨by rfl, ?h36⟩) hHeld ?r36
          case h36 => (intro w hSw; (try dsimp only at hSw); go_simp; try with_reducible rfl)
          try simp only [Act.put, List.setIfInBounds_toArray, List.set_cons_zero, List.set_cons_succ]
          refine wpAnyH_take (i := 5) (oi := oC5) (v := ?v37) rfl (by kernel_rfl) (by kernel_rfl) (by kernel_rfl) (fun _ _ _ h => h) (Or.inl ⟨by rfl, ?h37⟩) hHeld ?r37
          case h37 => (intro w hSw; (try dsimp only at hSw); go_simp; try with_reducible rfl)
          try simp only [Act.put, List.setIfInBounds_toArray, List.set_cons_zero, List.set_cons_succ]
          refine wpAnyH_take (i := 6) (oi := oC6) (v := ?v38) rfl (by kernel_rfl) (by kernel_rfl) (by kernel_rfl) (fun _ _ _ h => h) (Or.inl ⟨by rfl, ?h38⟩) hHeld ?r38
          case h38 => (intro w hSw; (try dsimp only at hSw); go_simp; try with_reducible rfl)
          try simp only [Act.put, List.setIfInBounds_toArray, List.set_cons_zero, List.set_cons_succ]
          refine wpAnyH_take (i := 7) (oi := oC7) (v := ?v39) rfl (by kernel_rfl) (by kernel_rfl) (by kernel_rfl) (fun _ _ _ h => h) (Or.inl ⟨by rfl, ?h39⟩) hHeld ?r39
          case h39 => (intro w hSw; (try dsimp only at hSw); go_simp; try with_reducible rfl)
          try simp only [Act.put, List.setIfInBounds_toArray, List.set_cons_zero, List.set_cons_succ]
          refine wpAnyH_take (i := 8) (oi := oC8) (v := ?v40) rfl (by kernel_rfl) (by kernel_rfl) (by kernel_rfl) (fun _ _ _ h => h) (Or.inl ⟨by rfl, ?h40⟩) hHeld ?r40
          case h40 => (intro w hSw; (try dsimp only at hSw); go_simp; try with_reducible rfl)
          try simp only [Act.put, List.setIfInBounds_toArray, List.set_cons_zero, List.set_cons_succ]
          refine wpAnyH_take (i := 9) (oi := oC9) (v := ?v41) rfl (by kernel_rfl) (by kernel_rfl) (by kernel_rfl) (fun _ _ _ h => h) (Or.inl ⟨by rfl, ?h41⟩) hHeld ?r41
          case h41 => (intro w hSw; (try dsimp only at hSw); go_simp; try with_reducible rfl)
          try simp only [Act.put, List.setIfInBounds_toArray, List.set_cons_zero, List.set_cons_succ]
          refine wpAnyH_take (i := 10) (oi := oC10) (v := ?v42) rfl (by kernel_rfl) (by kernel_rfl) (by kernel_rfl) (fun _ _ _ h => h) (Or.inl ⟨by rfl, ?h42⟩) hHeld ?r42
          case h42 => (intro w hSw; (try dsimp only at hSw); go_simp; try with_reducible rfl)
          try simp only [Act.put, List.setIfInBounds_toArray, List.set_cons_zero, List.set_cons_succ]
          refine wpAnyH_take (i := 11) (oi := oC11) (v := ?v43) rfl (by kernel_rfl) (by kernel_rfl) (by kernel_rfl) (fun _ _ _ h => h) (Or.inl ⟨by rfl, ?h43⟩) hHeld ?r43
          case h43 => (intro w hSw; (try dsimp only at hSw); go_simp; try with_reducible rfl)
          try simp only [Act.put, List.setIfInBounds_toArray, List.set_cons_zero, List.set_cons_succ]
          refine wpAnyH_take (i := 12) (oi := oC12) (v := ?v44) rfl (by kernel_rfl) (by kernel_rfl) (by kernel_rfl) (fun _ _ _ h => h) (Or.inl ⟨by rfl, ?h44⟩) hHeld ?r44
          case h44 => (intro w hSw; (try dsimp only at hSw); go_simp; try with_reducible rfl)
          try simp only [Act.put, List.setIfInBounds_toArray, List.set_cons_zero, List.set_cons_succ]
          refine wpAnyH_take (i := 13) (oi := oC13) (v := ?v45) rfl (by kernel_rfl) (by kernel_rfl) (by kernel_rfl) (fun _ _ _ h => h) (Or.inl ⟨by rfl, ?h45⟩) hHeld ?r45
          case h45 => (intro w hSw; (try dsimp only at hSw); go_simp; try with_reducible rfl)
          try simp only [Act.put, List.setIfInBounds_toArray, List.set_cons_zero, List.set_cons_succ]
          refine wpAnyH_ready (rs := [14]) (by kernel_rfl) (by simp) ?_
          refine (AllReadyH.cons (o := oC14) rfl (fun K hK => ?_) AllReadyH.nil)
          go_simp
          refine Calls.mono HGC.out ?_
          rintro e wg ⟨rfl, rfl⟩
          dsimp only
          clear hHeld
          refine hK.out _ _ (HQ0.out) (fun hHeld => ?_)
          clear hK K
          try simp only [Act.put, List.setIfInBounds_toArray, List.set_cons_zero, List.set_cons_succ]
          refine wpAnyH_take (i := 15) (oi := oC15) (v := ?v46) rfl (by kernel_rfl) (by kernel_rfl) (by kernel_rfl) (fun _ _ _ h => h) (Or.inl ⟨by rfl, ?h46⟩) hHeld ?r46
          case h46 => (intro w hSw; (try dsimp only at hSw); go_simp; try with_reducible rfl)
          try simp only [Act.put, List.setIfInBounds_toArray, List.set_cons_zero, List.set_cons_succ]
          refine wpAnyH_take (i := 16) (oi := oC16) (v := ?v47) rfl (by kernel_rfl) (by kernel_rfl) (by kernel_rfl) (fun _ _ _ h => h) (Or.inl ⟨by rfl, ?h47⟩) hHeld ?r47
          case h47 => (intro w hSw; (try dsimp only at hSw); go_simp; try with_reducible rfl)
          try simp only [Act.put, List.setIfInBounds_toArray, List.set_cons_zero, List.set_cons_succ]
          refine wpAnyH_take (i := 17) (oi := oC17) (v := ?v48) rfl (by kernel_rfl) (by kernel_rfl) (by kernel_rfl) (fun _ _ _ h => h) (Or.inl ⟨by rfl, ?h48⟩) hHeld ?r48
          case h48 => (intro w hSw; (try dsimp only at hSw); go_simp; try with_reducible rfl)
          try simp only [Act.put, List.setIfInBounds_toArray, List.set_cons_zero, List.set_cons_succ]
          refine wpAnyH_take (i := 18) (oi := oC18) (v := ?v49) rfl (by kernel_rfl) (by kernel_rfl) (by kernel_rfl) (fun _ _ _ h => h) (Or.inl ⟨by rfl, ?h49⟩) hHeld ?r49
          case h49 => (intro w hSw; (try dsimp only at hSw); go_simp; try with_reducible rfl)
          try simp only [Act.put, List.setIfInBounds_toArray, List.set_cons_zero, List.set_cons_succ]
          refine wpAnyH_ready (rs := [19]) (by kernel_rfl) (by simp) ?_
          refine (AllReadyH.cons (o := oC19) rfl (fun K hK => ?_) AllReadyH.nil)
          go_simp
          refine Calls.mono HCL.out ?_
          rintro e w' ⟨rfl, g1, a1, c1, hst, hmv⟩
          dsimp only
          clear hHeld
          refine hK.out _ _ (HKQ.out _ _ hst hmv) (fun hHeld => ?_)
          clear hK K
          try simp only [Act.put, List.setIfInBounds_toArray, List.set_cons_zero, List.set_cons_succ]
          refine wpAnyH_done (by kernel_rfl) ?_ _
          (try refine NoPanic.normal ?_)
          go_wp2_with fail
          refine bodyPost_end (v := .tuple #[]) (by simp [results, Try.results38]) rfl ?_
          exact ⟨rfl, _, _, _, by rw [HT.out]; exact hst, HMW.out.trans hmv⟩
        · skip
          obtain ⟨k, hkk⟩ : ∃ k, l[i].kids = [k] := List.length_eq_one_iff.1 hk1
          obtain ⟨hkd0, hkd1⟩ := HKD.out k (by rw [hkk]; simp)
          obtain ⟨kn, rfl⟩ : ∃ kn : Nat, k = (kn : Int) := ⟨k.toNat, by omega⟩
          obtain ⟨hak, _⟩ := HAK.out (by omega)
          have k0 := HKC.out 0 (by omega)
          rw [show l[i].kids[0]'(by omega) = (kn : Int) from by simp [hkk], Nat.add_zero] at k0
          have HT := (show Hid (tx l br (f + 1) i ind false = tx l br f kn ind false) from by
            show _ = _
            rw [HTO.out _ hkk (by rw [HOW.out]; rfl), HIN.out, HFL.out]
            rfl)
          have hln := HLN.out
          rw [HT.out] at hln
          have hlt := HSt0.out.lt
          have HG := (show Hid (∀ k, g = some k → w0.heap.size + 1 ≤ k ∧ k < w.heap.size) from hlt.2)
          have hbW : Below w.heap.size w (w.alloc (.cells #[.int .i64 6, .string y1, .int .i64 y2, .slice ak l[i].kids.length ck] 44)).drew := (bel_alloc w (.cells #[.int .i64 6, .string y1, .int .i64 y2, .slice ak l[i].kids.length ck] 44)).drew
          have HMW := (show Hid (Mv w0.heap.size g w g (w.alloc (.cells #[.int .i64 6, .string y1, .int .i64 y2, .slice ak l[i].kids.length ck] 44)).drew) from Mv.bel hbW)
          have HSt := (show Hid (St (w.alloc (.cells #[.int .i64 6, .string y1, .int .i64 y2, .slice ak l[i].kids.length ck] 44)).drew w0.heap.size 71 [.slice (some ⟨b, off, none⟩) l.length cap, .slice (some ⟨bb, ob, none⟩) br.length cb] xs g a c) from HSt0.out.still hbW)
          have HBx := (show Hid (Box (w.alloc (.cells #[.int .i64 6, .string y1, .int .i64 y2, .slice ak l[i].kids.length ck] 44)).drew w.heap.size 44 [.int .i64 6, .string y1, .int .i64 y2, .slice ak l[i].kids.length ck]) from (Box.new w 44 [.int .i64 6, .string y1, .int .i64 y2, .slice ak l[i].kids.length ck]).keep rfl)
          have HBD := (show Hid (Below w0.heap.size w0 (w.alloc (.cells #[.int .i64 6, .string y1, .int .i64 y2, .slice ak l[i].kids.length ck] 44)).drew) from HBW.out.trans (hbW.mono HBW.out.size))
          have HCL : Hid (Calls Try.prog 38 #[.pointer (some ⟨w0.heap.size, 0, none⟩), .int .i64 kn, .int .i64 (ind : Int), .bool false] (w.alloc (.cells #[.int .i64 6, .string y1, .int .i64 y2, .slice ak l[i].kids.length ck] 44)).drew (Wr w0.heap.size 71 [.slice (some ⟨b, off, none⟩) l.length cap, .slice (some ⟨bb, ob, none⟩) br.length cb] xs (tx l br f kn ind false) g (w.alloc (.cells #[.int .i64 6, .string y1, .int .i64 y2, .slice ak l[i].kids.length ck] 44)).drew)) := by
            have := HIH.out kn ind false xs g a c _ (by omega) (by omega) (by omega) hln HBD.out HSt.out
            skip
            exact this
          rw [hk1] at HBx HCL HSt HMW HBD
          have k0' := (HBD.out.cell (lt_of_cell k0)).trans k0
          have hbG' := (HBD.out.cell (lt_of_cell hbG)).trans hbG
          have hbk := lt_of_cell k0
          have HKQ := (show Hid (∀ (g' : Option Nat) (w' : World) {xs' : List UInt8} {a' : Option Addr} {c' : Nat}, St w' w0.heap.size 71 [.slice (some ⟨b, off, none⟩) l.length cap, .slice (some ⟨bb, ob, none⟩) br.length cb] xs' g' a' c' → Mv w0.heap.size g (w.alloc (.cells #[.int .i64 6, .string y1, .int .i64 y2, .slice ak 1 ck] 44)).drew g' w' → w'.cell? ⟨w.heap.size, 3, none⟩ = some (.slice ak 1 ck) ∧ w'.cell? ⟨bk, ok, none⟩ = some (.int .i64 (kn : Int)) ∧ w'.cell? ⟨w0.heap.size, 1, none⟩ = some (.slice (some ⟨bb, ob, none⟩) br.length cb) ∧ w'.cell? ⟨bb, ob + G, none⟩ = some (.bool true)) from fun g' w' {xs' a' c'} hst' hmv' => by
            have hb := HBx.out.keep (hmv'.fr.2.2.2.2 w.heap.size HBx.out.lt (by omega) (fun e => by have := HG.out _ e; omega))
            have hbl := (hmv'.below (B := w0.heap.size) (Nat.le_refl _) (fun k e => by have := HG.out k e; omega) HBD.out.size).cell (p := ⟨bk, ok, none⟩) hbk
            exact ⟨hb.cell 3 (by simp), hbl.trans k0', hst'.box.cell 1 (by simp), (hmv'.below (B := w0.heap.size) (Nat.le_refl _) (fun k e => by have := HG.out k e; omega) HBD.out.size).cell (p := ⟨bb, ob + G, none⟩) (lt_of_cell hbG) |>.trans hbG'⟩)
          have HQ0 := (show Hid ((w.alloc (.cells #[.int .i64 6, .string y1, .int .i64 y2, .slice ak 1 ck] 44)).drew.cell? ⟨w.heap.size, 3, none⟩ = some (.slice ak 1 ck) ∧ (w.alloc (.cells #[.int .i64 6, .string y1, .int .i64 y2, .slice ak 1 ck] 44)).drew.cell? ⟨bk, ok, none⟩ = some (.int .i64 (kn : Int)) ∧ (w.alloc (.cells #[.int .i64 6, .string y1, .int .i64 y2, .slice ak 1 ck] 44)).drew.cell? ⟨w0.heap.size, 1, none⟩ = some (.slice (some ⟨bb, ob, none⟩) br.length cb) ∧ (w.alloc (.cells #[.int .i64 6, .string y1, .int .i64 y2, .slice ak 1 ck] 44)).drew.cell? ⟨bb, ob + G, none⟩ = some (.bool true)) from ⟨HBx.out.cell 3 (by simp), k0', HSt.out.box.cell 1 (by simp), hbG'⟩)
          have HGC := (show Hid _ from HGC0.out _ HBD.out (HSt.out.box.cell 0 (by simp)))
          have hGi : (G : Int) < (br.length : Int) := by omega
          subst hak
          clear hkk k0 hlt hK0 hK1 HTL HTO HTS HFL HIN HOW HGP HIT HIH HKC HAK HKD hbW hln HBx
          rw [hk1] at c3
          clear hk1
          go_enter Try.func38, Try.ntmps38
          go_wp2_with fail
          refine wp_region_held_drew (S := fun wq => wq.cell? ⟨w.heap.size, 3, none⟩ = some (.slice (some ⟨bk, ok, none⟩) 1 ck) ∧ wq.cell? ⟨bk, ok, none⟩ = some (.int .i64 (kn : Int)) ∧ wq.cell? ⟨w0.heap.size, 1, none⟩ = some (.slice (some ⟨bb, ob, none⟩) br.length cb) ∧ wq.cell? ⟨bb, ob + G, none⟩ = some (.bool true)) (by kernel_rfl) HQ0.out (fun hHeld => ?_)
          refine wpAnyH_take (i := 0) (oi := oC0) (v := ?v50) rfl (by kernel_rfl) (by kernel_rfl) (by kernel_rfl) (fun _ _ _ h => h) (Or.inl ⟨by rfl, ?h50⟩) hHeld ?r50
          case h50 => (intro w hSw; (try dsimp only at hSw); go_simp; try with_reducible rfl)
          try simp only [Act.put, List.setIfInBounds_toArray, List.set_cons_zero, List.set_cons_succ]
          refine wpAnyH_take (i := 1) (oi := oC1) (v := ?v51) rfl (by kernel_rfl) (by kernel_rfl) (by kernel_rfl) (fun _ _ _ h => h) (Or.inl ⟨by rfl, ?h51⟩) hHeld ?r51
          case h51 => (intro w hSw; (try dsimp only at hSw); go_simp; try with_reducible rfl)
          try simp only [Act.put, List.setIfInBounds_toArray, List.set_cons_zero, List.set_cons_succ]
          refine wpAnyH_take (i := 2) (oi := oC2) (v := ?v52) rfl (by kernel_rfl) (by kernel_rfl) (by kernel_rfl) (fun _ _ _ h => h) (Or.inl ⟨by rfl, ?h52⟩) hHeld ?r52
          case h52 => (intro w hSw; (try dsimp only at hSw); go_simp; try with_reducible rfl)
          try simp only [Act.put, List.setIfInBounds_toArray, List.set_cons_zero, List.set_cons_succ]
          refine wpAnyH_take (i := 3) (oi := oC3) (v := ?v53) rfl (by kernel_rfl) (by kernel_rfl) (by kernel_rfl) (fun _ _ _ h => h) (Or.inl ⟨by rfl, ?h53⟩) hHeld ?r53
          case h53 => (intro w hSw; (try dsimp only at hSw); go_simp; try with_reducible rfl)
          try simp only [Act.put, List.setIfInBounds_toArray, List.set_cons_zero, List.set_cons_succ]
          refine wpAnyH_take (i := 4) (oi := oC4) (v := ?v54) rfl (by kernel_rfl) (by kernel_rfl) (by kernel_rfl) (fun _ _ _ h => h) (Or.inl ⟨by rfl, ?h54⟩) hHeld ?r54
          case h54 => (intro w hSw; (try dsimp only at hSw); go_simp; try with_reducible rfl)
          try simp only [Act.put, List.setIfInBounds_toArray, List.set_cons_zero, List.set_cons_succ]
          refine wpAnyH_take (i := 5) (oi := oC5) (v := ?v55) rfl (by kernel_rfl) (by kernel_rfl) (by kernel_rfl) (fun _ _ _ h => h) (Or.inl ⟨by rfl, ?h55⟩) hHeld ?r55
          case h55 => (intro w hSw; (try dsimp only at hSw); go_simp; try with_reducible rfl)
          try simp only [Act.put, List.setIfInBounds_toArray, List.set_cons_zero, List.set_cons_succ]
          refine wpAnyH_take (i := 6) (oi := oC6) (v := ?v56) rfl (by kernel_rfl) (by kernel_rfl) (by kernel_rfl) (fun _ _ _ h => h) (Or.inl ⟨by rfl, ?h56⟩) hHeld ?r56
          case h56 => (intro w hSw; (try dsimp only at hSw); go_simp; try with_reducible rfl)
          try simp only [Act.put, List.setIfInBounds_toArray, List.set_cons_zero, List.set_cons_succ]
          refine wpAnyH_take (i := 7) (oi := oC7) (v := ?v57) rfl (by kernel_rfl) (by kernel_rfl) (by kernel_rfl) (fun _ _ _ h => h) (Or.inl ⟨by rfl, ?h57⟩) hHeld ?r57
          case h57 => (intro w hSw; (try dsimp only at hSw); go_simp; try with_reducible rfl)
          try simp only [Act.put, List.setIfInBounds_toArray, List.set_cons_zero, List.set_cons_succ]
          refine wpAnyH_take (i := 8) (oi := oC8) (v := ?v58) rfl (by kernel_rfl) (by kernel_rfl) (by kernel_rfl) (fun _ _ _ h => h) (Or.inl ⟨by rfl, ?h58⟩) hHeld ?r58
          case h58 => (intro w hSw; (try dsimp only at hSw); go_simp; try with_reducible rfl)
          try simp only [Act.put, List.setIfInBounds_toArray, List.set_cons_zero, List.set_cons_succ]
          refine wpAnyH_take (i := 9) (oi := oC9) (v := ?v59) rfl (by kernel_rfl) (by kernel_rfl) (by kernel_rfl) (fun _ _ _ h => h) (Or.inl ⟨by rfl, ?h59⟩) hHeld ?r59
          case h59 => (intro w hSw; (try dsimp only at hSw); go_simp; try with_reducible rfl)
          try simp only [Act.put, List.setIfInBounds_toArray, List.set_cons_zero, List.set_cons_succ]
          refine wpAnyH_take (i := 10) (oi := oC10) (v := ?v60) rfl (by kernel_rfl) (by kernel_rfl) (by kernel_rfl) (fun _ _ _ h => h) (Or.inl ⟨by rfl, ?h60⟩) hHeld ?r60
          case h60 => (intro w hSw; (try dsimp only at hSw); go_simp; try with_reducible rfl)
          try simp only [Act.put, List.setIfInBounds_toArray, List.set_cons_zero, List.set_cons_succ]
          refine wpAnyH_take (i := 11) (oi := oC11) (v := ?v61) rfl (by kernel_rfl) (by kernel_rfl) (by kernel_rfl) (fun _ _ _ h => h) (Or.inl ⟨by rfl, ?h61⟩) hHeld ?r61
          case h61 => (intro w hSw; (try dsimp only at hSw); go_simp; try with_reducible rfl)
          try simp only [Act.put, List.setIfInBounds_toArray, List.set_cons_zero, List.set_cons_succ]
          refine wpAnyH_take (i := 12) (oi := oC12) (v := ?v62) rfl (by kernel_rfl) (by kernel_rfl) (by kernel_rfl) (fun _ _ _ h => h) (Or.inl ⟨by rfl, ?h62⟩) hHeld ?r62
          case h62 => (intro w hSw; (try dsimp only at hSw); go_simp; try with_reducible rfl)
          try simp only [Act.put, List.setIfInBounds_toArray, List.set_cons_zero, List.set_cons_succ]
          refine wpAnyH_take (i := 13) (oi := oC13) (v := ?v63) rfl (by kernel_rfl) (by kernel_rfl) (by kernel_rfl) (fun _ _ _ h => h) (Or.inl ⟨by rfl, ?h63⟩) hHeld ?r63
          case h63 => (intro w hSw; (try dsimp only at hSw); go_simp; try with_reducible rfl)
          try simp only [Act.put, List.setIfInBounds_toArray, List.set_cons_zero, List.set_cons_succ]
          refine wpAnyH_ready (rs := [14]) (by kernel_rfl) (by simp) ?_
          refine (AllReadyH.cons (o := oC14) rfl (fun K hK => ?_) AllReadyH.nil)
          go_simp
          refine Calls.mono HGC.out ?_
          rintro e wg ⟨rfl, rfl⟩
          dsimp only
          clear hHeld
          refine hK.out _ _ (HQ0.out) (fun hHeld => ?_)
          clear hK K
          try simp only [Act.put, List.setIfInBounds_toArray, List.set_cons_zero, List.set_cons_succ]
          refine wpAnyH_take (i := 15) (oi := oC15) (v := ?v64) rfl (by kernel_rfl) (by kernel_rfl) (by kernel_rfl) (fun _ _ _ h => h) (Or.inl ⟨by rfl, ?h64⟩) hHeld ?r64
          case h64 => (intro w hSw; (try dsimp only at hSw); go_simp; try with_reducible rfl)
          try simp only [Act.put, List.setIfInBounds_toArray, List.set_cons_zero, List.set_cons_succ]
          refine wpAnyH_take (i := 16) (oi := oC16) (v := ?v65) rfl (by kernel_rfl) (by kernel_rfl) (by kernel_rfl) (fun _ _ _ h => h) (Or.inl ⟨by rfl, ?h65⟩) hHeld ?r65
          case h65 => (intro w hSw; (try dsimp only at hSw); go_simp; try with_reducible rfl)
          try simp only [Act.put, List.setIfInBounds_toArray, List.set_cons_zero, List.set_cons_succ]
          refine wpAnyH_take (i := 17) (oi := oC17) (v := ?v66) rfl (by kernel_rfl) (by kernel_rfl) (by kernel_rfl) (fun _ _ _ h => h) (Or.inl ⟨by rfl, ?h66⟩) hHeld ?r66
          case h66 => (intro w hSw; (try dsimp only at hSw); go_simp; try with_reducible rfl)
          try simp only [Act.put, List.setIfInBounds_toArray, List.set_cons_zero, List.set_cons_succ]
          refine wpAnyH_take (i := 18) (oi := oC18) (v := ?v67) rfl (by kernel_rfl) (by kernel_rfl) (by kernel_rfl) (fun _ _ _ h => h) (Or.inl ⟨by rfl, ?h67⟩) hHeld ?r67
          case h67 => (intro w hSw; (try dsimp only at hSw); go_simp; try with_reducible rfl)
          try simp only [Act.put, List.setIfInBounds_toArray, List.set_cons_zero, List.set_cons_succ]
          refine wpAnyH_ready (rs := [19]) (by kernel_rfl) (by simp) ?_
          refine (AllReadyH.cons (o := oC19) rfl (fun K hK => ?_) AllReadyH.nil)
          go_simp
          refine Calls.mono HCL.out ?_
          rintro e w' ⟨rfl, g1, a1, c1, hst, hmv⟩
          dsimp only
          clear hHeld
          refine hK.out _ _ (HKQ.out _ _ hst hmv) (fun hHeld => ?_)
          clear hK K
          try simp only [Act.put, List.setIfInBounds_toArray, List.set_cons_zero, List.set_cons_succ]
          refine wpAnyH_done (by kernel_rfl) ?_ _
          (try refine NoPanic.normal ?_)
          go_wp2_with fail
          refine bodyPost_end (v := .tuple #[]) (by simp [results, Try.results38]) rfl ?_
          exact ⟨rfl, _, _, _, by rw [HT.out]; exact hst, HMW.out.trans hmv⟩
      · obtain ⟨hk1, _⟩ := hK1 (by omega)
        obtain ⟨k, hkk⟩ : ∃ k, l[i].kids = [k] := List.length_eq_one_iff.1 hk1
        obtain ⟨hkd0, hkd1⟩ := HKD.out k (by rw [hkk]; simp)
        obtain ⟨kn, rfl⟩ : ∃ kn : Nat, k = (kn : Int) := ⟨k.toNat, by omega⟩
        obtain ⟨hak, _⟩ := HAK.out (by omega)
        have k0 := HKC.out 0 (by omega)
        rw [show l[i].kids[0]'(by omega) = (kn : Int) from by simp [hkk], Nat.add_zero] at k0
        have HT := (show Hid (tx l br (f + 1) i ind true = tx l br f kn ind true) from by
          show _ = _
          rw [HTO.out _ hkk (by rw [HOW.out]; rfl), HIN.out, HFL.out]
          rfl)
        have hln := HLN.out
        rw [HT.out] at hln
        have hlt := HSt0.out.lt
        have HG := (show Hid (∀ k, g = some k → w0.heap.size + 1 ≤ k ∧ k < w.heap.size) from hlt.2)
        have hbW : Below w.heap.size w (w.alloc (.cells #[.int .i64 6, .string y1, .int .i64 y2, .slice ak l[i].kids.length ck] 44)).drew := (bel_alloc w (.cells #[.int .i64 6, .string y1, .int .i64 y2, .slice ak l[i].kids.length ck] 44)).drew
        have HMW := (show Hid (Mv w0.heap.size g w g (w.alloc (.cells #[.int .i64 6, .string y1, .int .i64 y2, .slice ak l[i].kids.length ck] 44)).drew) from Mv.bel hbW)
        have HSt := (show Hid (St (w.alloc (.cells #[.int .i64 6, .string y1, .int .i64 y2, .slice ak l[i].kids.length ck] 44)).drew w0.heap.size 71 [.slice (some ⟨b, off, none⟩) l.length cap, .slice ab br.length cb] xs g a c) from HSt0.out.still hbW)
        have HBx := (show Hid (Box (w.alloc (.cells #[.int .i64 6, .string y1, .int .i64 y2, .slice ak l[i].kids.length ck] 44)).drew w.heap.size 44 [.int .i64 6, .string y1, .int .i64 y2, .slice ak l[i].kids.length ck]) from (Box.new w 44 [.int .i64 6, .string y1, .int .i64 y2, .slice ak l[i].kids.length ck]).keep rfl)
        have HBD := (show Hid (Below w0.heap.size w0 (w.alloc (.cells #[.int .i64 6, .string y1, .int .i64 y2, .slice ak l[i].kids.length ck] 44)).drew) from HBW.out.trans (hbW.mono HBW.out.size))
        have HCL : Hid (Calls Try.prog 38 #[.pointer (some ⟨w0.heap.size, 0, none⟩), .int .i64 kn, .int .i64 (ind : Int), .bool true] (w.alloc (.cells #[.int .i64 6, .string y1, .int .i64 y2, .slice ak l[i].kids.length ck] 44)).drew (Wr w0.heap.size 71 [.slice (some ⟨b, off, none⟩) l.length cap, .slice ab br.length cb] xs (tx l br f kn ind true) g (w.alloc (.cells #[.int .i64 6, .string y1, .int .i64 y2, .slice ak l[i].kids.length ck] 44)).drew)) := by
          have := HIH.out kn ind true xs g a c _ (by omega) (by omega) (by omega) hln HBD.out HSt.out
          skip
          exact this
        rw [hk1] at HBx HCL HSt HMW HBD
        have k0' := (HBD.out.cell (lt_of_cell k0)).trans k0
        have hbk := lt_of_cell k0
        have HKQ := (show Hid (∀ (g' : Option Nat) (w' : World) {xs' : List UInt8} {a' : Option Addr} {c' : Nat}, St w' w0.heap.size 71 [.slice (some ⟨b, off, none⟩) l.length cap, .slice ab br.length cb] xs' g' a' c' → Mv w0.heap.size g (w.alloc (.cells #[.int .i64 6, .string y1, .int .i64 y2, .slice ak 1 ck] 44)).drew g' w' → w'.cell? ⟨w.heap.size, 3, none⟩ = some (.slice ak 1 ck) ∧ w'.cell? ⟨bk, ok, none⟩ = some (.int .i64 (kn : Int))) from fun g' w' {xs' a' c'} hst' hmv' => by
          have hb := HBx.out.keep (hmv'.fr.2.2.2.2 w.heap.size HBx.out.lt (by omega) (fun e => by have := HG.out _ e; omega))
          have hbl := (hmv'.below (B := w0.heap.size) (Nat.le_refl _) (fun k e => by have := HG.out k e; omega) HBD.out.size).cell (p := ⟨bk, ok, none⟩) hbk
          exact ⟨hb.cell 3 (by simp), hbl.trans k0'⟩)
        have HQ0 := (show Hid ((w.alloc (.cells #[.int .i64 6, .string y1, .int .i64 y2, .slice ak 1 ck] 44)).drew.cell? ⟨w.heap.size, 3, none⟩ = some (.slice ak 1 ck) ∧ (w.alloc (.cells #[.int .i64 6, .string y1, .int .i64 y2, .slice ak 1 ck] 44)).drew.cell? ⟨bk, ok, none⟩ = some (.int .i64 (kn : Int))) from ⟨HBx.out.cell 3 (by simp), k0'⟩)
        subst hak
        clear hkk k0 hlt hK0 hK1 HTL HTO HTS HFL HIN HOW HGP HIT HIH HKC HAK HKD hbW hln HBx
        rw [hk1] at c3
        clear hk1
        go_enter Try.func38, Try.ntmps38
        go_wp2_with fail
        refine wp_region_held_drew (S := fun wq => wq.cell? ⟨w.heap.size, 3, none⟩ = some (.slice (some ⟨bk, ok, none⟩) 1 ck) ∧ wq.cell? ⟨bk, ok, none⟩ = some (.int .i64 (kn : Int))) (by kernel_rfl) HQ0.out (fun hHeld => ?_)
        refine wpAnyH_take (i := 0) (oi := oC0) (v := ?v23) rfl (by kernel_rfl) (by kernel_rfl) (by kernel_rfl) (fun _ _ _ h => h) (Or.inl ⟨by rfl, ?h23⟩) hHeld ?r23
        case h23 => (intro w hSw; (try dsimp only at hSw); go_simp; try with_reducible rfl)
        try simp only [Act.put, List.setIfInBounds_toArray, List.set_cons_zero, List.set_cons_succ]
        refine wpAnyH_take (i := 1) (oi := oC1) (v := ?v24) rfl (by kernel_rfl) (by kernel_rfl) (by kernel_rfl) (fun _ _ _ h => h) (Or.inl ⟨by rfl, ?h24⟩) hHeld ?r24
        case h24 => (intro w hSw; (try dsimp only at hSw); go_simp; try with_reducible rfl)
        try simp only [Act.put, List.setIfInBounds_toArray, List.set_cons_zero, List.set_cons_succ]
        refine wpAnyH_take (i := 2) (oi := oC2) (v := ?v25) rfl (by kernel_rfl) (by kernel_rfl) (by kernel_rfl) (fun _ _ _ h => h) (Or.inl ⟨by rfl, ?h25⟩) hHeld ?r25
        case h25 => (intro w hSw; (try dsimp only at hSw); go_simp; try with_reducible rfl)
        try simp only [Act.put, List.setIfInBounds_toArray, List.set_cons_zero, List.set_cons_succ]
        refine wpAnyH_take (i := 3) (oi := oC3) (v := ?v26) rfl (by kernel_rfl) (by kernel_rfl) (by kernel_rfl) (fun _ _ _ h => h) (Or.inl ⟨by rfl, ?h26⟩) hHeld ?r26
        case h26 => (intro w hSw; (try dsimp only at hSw); go_simp; try with_reducible rfl)
        try simp only [Act.put, List.setIfInBounds_toArray, List.set_cons_zero, List.set_cons_succ]
        refine wpAnyH_take (i := 4) (oi := oC4) (v := ?v27) rfl (by kernel_rfl) (by kernel_rfl) (by kernel_rfl) (fun _ _ _ h => h) (Or.inl ⟨by rfl, ?h27⟩) hHeld ?r27
        case h27 => (intro w hSw; (try dsimp only at hSw); go_simp; try with_reducible rfl)
        try simp only [Act.put, List.setIfInBounds_toArray, List.set_cons_zero, List.set_cons_succ]
        refine wpAnyH_take (i := 5) (oi := oC5) (v := ?v28) rfl (by kernel_rfl) (by kernel_rfl) (by kernel_rfl) (fun _ _ _ h => h) (Or.inl ⟨by rfl, ?h28⟩) hHeld ?r28
        case h28 => (intro w hSw; (try dsimp only at hSw); go_simp; try with_reducible rfl)
        try simp only [Act.put, List.setIfInBounds_toArray, List.set_cons_zero, List.set_cons_succ]
        refine wpAnyH_take (i := 6) (oi := oC6) (v := ?v29) rfl (by kernel_rfl) (by kernel_rfl) (by kernel_rfl) (fun _ _ _ h => h) (Or.inl ⟨by rfl, ?h29⟩) hHeld ?r29
        case h29 => (intro w hSw; (try dsimp only at hSw); go_simp; try with_reducible rfl)
        try simp only [Act.put, List.setIfInBounds_toArray, List.set_cons_zero, List.set_cons_succ]
        refine wpAnyH_take (i := 7) (oi := oC7) (v := ?v30) rfl (by kernel_rfl) (by kernel_rfl) (by kernel_rfl) (fun _ _ _ h => h) (Or.inl ⟨by rfl, ?h30⟩) hHeld ?r30
        case h30 => (intro w hSw; (try dsimp only at hSw); go_simp; try with_reducible rfl)
        try simp only [Act.put, List.setIfInBounds_toArray, List.set_cons_zero, List.set_cons_succ]
        refine wpAnyH_take (i := 8) (oi := oC8) (v := undef) rfl (by kernel_rfl) (by kernel_rfl) (by kernel_rfl) (fun _ _ _ h => h) (Or.inr ⟨by rfl, rfl⟩) hHeld ?_
        try simp only [Act.put, List.setIfInBounds_toArray, List.set_cons_zero, List.set_cons_succ]
        refine wpAnyH_take (i := 9) (oi := oC9) (v := undef) rfl (by kernel_rfl) (by kernel_rfl) (by kernel_rfl) (fun _ _ _ h => h) (Or.inr ⟨by rfl, rfl⟩) hHeld ?_
        try simp only [Act.put, List.setIfInBounds_toArray, List.set_cons_zero, List.set_cons_succ]
        refine wpAnyH_take (i := 10) (oi := oC10) (v := undef) rfl (by kernel_rfl) (by kernel_rfl) (by kernel_rfl) (fun _ _ _ h => h) (Or.inr ⟨by rfl, rfl⟩) hHeld ?_
        try simp only [Act.put, List.setIfInBounds_toArray, List.set_cons_zero, List.set_cons_succ]
        refine wpAnyH_take (i := 11) (oi := oC11) (v := undef) rfl (by kernel_rfl) (by kernel_rfl) (by kernel_rfl) (fun _ _ _ h => h) (Or.inr ⟨by rfl, rfl⟩) hHeld ?_
        try simp only [Act.put, List.setIfInBounds_toArray, List.set_cons_zero, List.set_cons_succ]
        refine wpAnyH_take (i := 12) (oi := oC12) (v := undef) rfl (by kernel_rfl) (by kernel_rfl) (by kernel_rfl) (fun _ _ _ h => h) (Or.inr ⟨by rfl, rfl⟩) hHeld ?_
        try simp only [Act.put, List.setIfInBounds_toArray, List.set_cons_zero, List.set_cons_succ]
        refine wpAnyH_take (i := 13) (oi := oC13) (v := undef) rfl (by kernel_rfl) (by kernel_rfl) (by kernel_rfl) (fun _ _ _ h => h) (Or.inr ⟨by rfl, rfl⟩) hHeld ?_
        try simp only [Act.put, List.setIfInBounds_toArray, List.set_cons_zero, List.set_cons_succ]
        refine wpAnyH_take (i := 14) (oi := oC14) (v := undef) rfl (by kernel_rfl) (by kernel_rfl) (by kernel_rfl) (fun _ _ _ h => h) (Or.inr ⟨by rfl, rfl⟩) hHeld ?_
        try simp only [Act.put, List.setIfInBounds_toArray, List.set_cons_zero, List.set_cons_succ]
        refine wpAnyH_take (i := 15) (oi := oC15) (v := undef) rfl (by kernel_rfl) (by kernel_rfl) (by kernel_rfl) (fun _ _ _ h => h) (Or.inr ⟨by rfl, rfl⟩) hHeld ?_
        try simp only [Act.put, List.setIfInBounds_toArray, List.set_cons_zero, List.set_cons_succ]
        refine wpAnyH_take (i := 16) (oi := oC16) (v := undef) rfl (by kernel_rfl) (by kernel_rfl) (by kernel_rfl) (fun _ _ _ h => h) (Or.inr ⟨by rfl, rfl⟩) hHeld ?_
        try simp only [Act.put, List.setIfInBounds_toArray, List.set_cons_zero, List.set_cons_succ]
        refine wpAnyH_take (i := 17) (oi := oC17) (v := undef) rfl (by kernel_rfl) (by kernel_rfl) (by kernel_rfl) (fun _ _ _ h => h) (Or.inr ⟨by rfl, rfl⟩) hHeld ?_
        try simp only [Act.put, List.setIfInBounds_toArray, List.set_cons_zero, List.set_cons_succ]
        refine wpAnyH_take (i := 18) (oi := oC18) (v := ?v31) rfl (by kernel_rfl) (by kernel_rfl) (by kernel_rfl) (fun _ _ _ h => h) (Or.inl ⟨by rfl, ?h31⟩) hHeld ?r31
        case h31 => (intro w hSw; (try dsimp only at hSw); go_simp; try with_reducible rfl)
        try simp only [Act.put, List.setIfInBounds_toArray, List.set_cons_zero, List.set_cons_succ]
        refine wpAnyH_ready (rs := [19]) (by kernel_rfl) (by simp) ?_
        refine (AllReadyH.cons (o := oC19) rfl (fun K hK => ?_) AllReadyH.nil)
        go_simp
        refine Calls.mono HCL.out ?_
        rintro e w' ⟨rfl, g1, a1, c1, hst, hmv⟩
        dsimp only
        clear hHeld
        refine hK.out _ _ (HKQ.out _ _ hst hmv) (fun hHeld => ?_)
        clear hK K
        try simp only [Act.put, List.setIfInBounds_toArray, List.set_cons_zero, List.set_cons_succ]
        refine wpAnyH_done (by kernel_rfl) ?_ _
        (try refine NoPanic.normal ?_)
        go_wp2_with fail
        refine bodyPost_end (v := .tuple #[]) (by simp [results, Try.results38]) rfl ?_
        exact ⟨rfl, _, _, _, by rw [HT.out]; exact hst, HMW.out.trans hmv⟩
    · have HT := (show Hid (tx l br (f + 1) i ind flat = txK l br f i ind flat l[i].kids.length) from by show _ = _; rw [HTS.out, HOW.out]; rfl)
      have HKN := (show Hid (∀ q (hq : q < l[i].kids.length), txK l br f i ind flat (q + 1) = txK l br f i ind flat q ++ tx l br f l[i].kids[q].toNat ind flat) from fun q hq => by rw [txK_next hi hq, HIN.out, HFL.out]; rfl)
      have HKL := (show Hid (∀ q, q ≤ l[i].kids.length → xs.length + (txK l br f i ind flat q).length ≤ 1000000000) from fun q hq => by
        have h1 := HLN.out
        rw [HT.out] at h1
        have h2 := txK_le (l := l) (br := br) (f := f) (ind := ind) (q := q) (flat := flat) hi
        omega)
      have hlt := HSt0.out.lt
      have hbW := bel_alloc w (.cells #[.int .i64 7, .string y1, .int .i64 y2, .slice ak l[i].kids.length ck] 44)
      have H0 := (show Hid (St (w.alloc (.cells #[.int .i64 7, .string y1, .int .i64 y2, .slice ak l[i].kids.length ck] 44)) w0.heap.size 71 [.slice (some ⟨b, off, none⟩) l.length cap, .slice ab br.length cb] (xs ++ txK l br f i ind flat 0) g a c ∧ Mv w0.heap.size g w g (w.alloc (.cells #[.int .i64 7, .string y1, .int .i64 y2, .slice ak l[i].kids.length ck] 44)) ∧ Box (w.alloc (.cells #[.int .i64 7, .string y1, .int .i64 y2, .slice ak l[i].kids.length ck] 44)) w.heap.size 44 [.int .i64 7, .string y1, .int .i64 y2, .slice ak l[i].kids.length ck] ∧ g ≠ some w.heap.size) from
        ⟨by simpa [txK] using HSt0.out.still hbW, Mv.bel hbW, Box.new w 44 [.int .i64 7, .string y1, .int .i64 y2, .slice ak l[i].kids.length ck], fun e => by have := hlt.2 _ e; omega⟩)
      have HG := (show Hid (∀ k, g = some k → w0.heap.size ≤ k) from fun k e => by have := hlt.2 k e; omega)
      clear hK0 hK1 HTL HTO HTS HFL HIN HOW HGP HIT hlt hbW
      go_enter Try.func38, Try.ntmps38
      go_wp2_with fail
      go_loopw [9] (fun i' wx => ∃ q : Nat, i' = .int .i64 q ∧ q ≤ l[i].kids.length ∧ ∃ g1 a1 c1, Hid (St wx w0.heap.size 71 [.slice (some ⟨b, off, none⟩) l.length cap, .slice ab br.length cb] (xs ++ txK l br f i ind flat q) g1 a1 c1 ∧ Mv w0.heap.size g w g1 wx ∧ Box wx w.heap.size 44 [.int .i64 7, .string y1, .int .i64 y2, .slice ak l[i].kids.length ck] ∧ g1 ≠ some w.heap.size)) (fun i' _ => l[i].kids.length - (intOf i').toNat)
      case atStart => exact ⟨0, rfl, Nat.zero_le _, _, _, _, H0⟩
      case round =>
        clear H0 c0 c1 c2 c3
        obtain ⟨q, rfl, hq, g1, a1, c1, HV⟩ := hrel
        by_cases hql : q < l[i].kids.length
        · obtain ⟨hak, _⟩ := HAK.out (by omega)
          obtain ⟨hkd0, hkd1⟩ := HKD.out l[i].kids[q] (List.getElem_mem hql)
          have k0 := HKC.out q hql
          have hkn := HKN.out q hql
          have hkl := HKL.out (q + 1) hql
          rw [hkn, List.length_append] at hkl
          obtain ⟨k, hk⟩ : ∃ k, l[i].kids[q] = k := ⟨_, rfl⟩
          rw [hk] at hkd0 hkd1 k0 hkn hkl
          clear hk
          obtain ⟨kn, rfl⟩ : ∃ kn : Nat, k = (kn : Int) := ⟨k.toNat, by omega⟩
          rw [Int.toNat_natCast] at hkn hkl
          have hbd : Below w0.heap.size w0 wr := HBW.out.trans (HV.out.2.1.below (Nat.le_refl _) HG.out HBW.out.size)
          rw [← hbd.cell (lt_of_cell k0)] at k0
          have HCL := (show Hid _ from HIH.out kn ind flat (xs ++ txK l br f i ind flat q) g1 a1 c1 wr (by omega) (by omega) (by omega) (by rw [List.length_append]; omega) hbd HV.out.1)
          have HKN2 := (show Hid _ from hkn)
          have x3 := HV.out.2.2.1.cell 3 (by simp)
          simp only [List.getD_cons_succ, List.getD_cons_zero] at x3
          have HWS := (show Hid (w.heap.size < wr.heap.size) from HV.out.2.2.1.lt)
          clear hkl hkn hbd
          subst hak
          go_wp2_with fail
          refine Calls.mono HCL.out ?_
          rintro e w' ⟨rfl, g2, a2, c2, hst, hmv⟩
          have HN := (show Hid (St w' w0.heap.size 71 [.slice (some ⟨b, off, none⟩) l.length cap, .slice ab br.length cb] (xs ++ txK l br f i ind flat (q + 1)) g2 a2 c2 ∧ Mv w0.heap.size g w g2 w' ∧ Box w' w.heap.size 44 [.int .i64 7, .string y1, .int .i64 y2, .slice (some ⟨bk, ok, none⟩) l[i].kids.length ck] ∧ g2 ≠ some w.heap.size) from
            ⟨by rw [HKN2.out, ← List.append_assoc]; exact hst, HV.out.2.1.trans hmv, HV.out.2.2.1.keep (hmv.fr.2.2.2.2 _ HV.out.2.2.1.lt (by omega) HV.out.2.2.2), fun e => by
              rcases hmv.gto with h1 | ⟨x, h1, h2⟩
              · rw [h1] at e; exact HV.out.2.2.2 e
              · rw [h1] at e; injection e with e; have := HWS.out; omega⟩)
          clear hst hmv HV HCL HKN2 k0 x3
          go_wp2_with fail
          exact ⟨⟨q + 1, by go_num, by omega, _, _, _, HN⟩, by simp [intOf]; omega⟩
        · obtain rfl : q = l[i].kids.length := by omega
          have x3 := HV.out.2.2.1.cell 3 (by simp)
          simp only [List.getD_cons_succ, List.getD_cons_zero] at x3
          go_wp2_with fail
          refine bodyPost_end (v := .tuple #[]) (by simp [results, Try.results38]) rfl ?_
          exact ⟨rfl, _, _, _, by rw [HT.out]; exact HV.out.1, HV.out.2.1⟩
end Go.Proofs.Ytokncahlcphhnaa
