import Derived.Test.YtledclkmeikgdaaKd
import Derived.Deep.RegionHeld3
/-! A Sg drawn. -/
namespace Go.Proofs.Ytledclkmeikgdaa
open Go.RowKit Go.Deep
set_option linter.unusedVariables false
set_option maxRecDepth 100000
set_option linter.unusedSimpArgs false
theorem cellsX {w : World} {b ty : Nat} {c0 c1 c2 c3 : Value} (h : Box w b ty [c0, c1, c2, c3]) : w.cell? ⟨b, 0, none⟩ = some c0 ∧ w.cell? ⟨b, 1, none⟩ = some c1 ∧ w.cell? ⟨b, 2, none⟩ = some c2 ∧ w.cell? ⟨b, 3, none⟩ = some c3 :=
  ⟨h.cell 0 (by simp), h.cell 1 (by simp), h.cell 2 (by simp), h.cell 3 (by simp)⟩
def xyzQ (q : Nat) : ByteArray := if q = 0 then ⟨#[120]⟩ else if q = 1 then ⟨#[121]⟩ else ⟨#[122]⟩
theorem xyzQ_size (q : Nat) : (xyzQ q).size ≤ 1000 := by
  unfold xyzQ
  split
  · decide
  · split <;> decide
theorem xyzQ_at {w : World} {gn : Nat} (h : Box w gn 9 [.string ⟨#[120]⟩, .string ⟨#[121]⟩, .string ⟨#[122]⟩]) {q : Nat} (hq : q < 3) : w.cell? ⟨gn, q, none⟩ = some (.string (xyzQ q)) := by
  have h1 := h.cell q hq
  rw [h1]
  match q, hq with
  | 0, _ => rfl
  | 1, _ => rfl
  | 2, _ => rfl
theorem st3 {cs : List UInt8} {a : Option Addr} {cap b off c g B : Nat} {w W W' : World} {L : List Value} {G : DSg} {v1 v2 v3 : Value} (h1 : Hid (AtS cs a cap b off c w W)) (h2 : Hid (Box W g 27 L)) (h3 : Hid (Gro B W G v1 v2 v3)) (hb : Below W.heap.size W W') : Hid (AtS cs a cap b off c w W') ∧ Hid (Box W' g 27 L) ∧ Hid (Gro B W' G v1 v2 v3) := ⟨h1.out.still hb, h2.out.still hb, h3.out.still hb⟩
theorem pk3 {cs : List UInt8} {a : Option Addr} {cap b off c g : Nat} {w W W' : World} {L : List Value} {G : DSg} {v1 v2 v3 : Value} {s : Nat × Nat} (hlt : c < w.heap.size) (h1 : Hid (AtS cs a cap b off c w W)) (h2 : Hid (Box W g 27 L)) (h3 : Hid (Gro (w.heap.size + 1) W G v1 v2 v3)) (hO : T.Out c (c + 1) W W') (hC : T.Cur W' cs a cap b off c s) (hg : c < g) : Hid (AtS cs a cap b off c w W') ∧ Hid (Box W' g 27 L) ∧ Hid (Gro (w.heap.size + 1) W' G v1 v2 v3) := ⟨h1.out.pick hlt hO hC, h2.out.keep (hO.2.2.2.2 _ h2.out.lt (.inr (by omega))), h3.out.out hO (by omega)⟩
theorem hBox {W W' : World} {g ty : Nat} {L : List Value} (h : Hid (Box W g ty L)) (hb : Below W.heap.size W W') : Hid (Box W' g ty L) := h.out.still hb
theorem hBoxO {c : Nat} {W W' : World} {g ty : Nat} {L : List Value} (h : Hid (Box W g ty L)) (hO : T.Out c (c + 1) W W') (hg : c < g) : Hid (Box W' g ty L) := h.out.keep (hO.2.2.2.2 _ h.out.lt (.inr (by omega)))
abbrev o74_8_0 : Oper := { dst := some 22, op := Go.Op.fieldAddr 27 (Go.Operand.tmp 3) 1, type := 0, pos := "l12_names.go:397", after := #[], guard := none }
abbrev o74_8_1 : Oper := { dst := some 23, op := Go.Op.load 24 (Go.Operand.tmp 22), type := 24, pos := "l12_names.go:397", after := #[{ on := 0, ground := Go.Ground.data }], guard := none }
abbrev o74_8_2 : Oper := { dst := some 24, op := Go.Op.move (Go.Operand.tmp 0), type := 61, pos := "l12_names.go:397", after := #[], guard := none }
abbrev o74_8_3 : Oper := { dst := some 25, op := Go.Op.fieldAddr 27 (Go.Operand.tmp 3) 0, type := 0, pos := "l12_names.go:397", after := #[], guard := none }
abbrev o74_8_4 : Oper := { dst := some 26, op := Go.Op.load 3 (Go.Operand.tmp 25), type := 3, pos := "l12_names.go:397", after := #[{ on := 3, ground := Go.Ground.data }], guard := none }
abbrev o74_8_5 : Oper := { dst := some 27, op := Go.Op.call { callee := Go.Callee.value (Go.Operand.func 30), args := #[Go.Operand.tmp 24, Go.Operand.tmp 26], argTypes := #[61, 3] }, type := 3, pos := "l12_names.go:397", after := #[{ on := 2, ground := Go.Ground.data }, { on := 4, ground := Go.Ground.data }], guard := none }
abbrev o74_8_6 : Oper := { dst := some 28, op := Go.Op.move (Go.Operand.tmp 0), type := 61, pos := "l12_names.go:397", after := #[], guard := none }
abbrev o74_8_7 : Oper := { dst := some 29, op := Go.Op.fieldAddr 27 (Go.Operand.tmp 3) 0, type := 0, pos := "l12_names.go:397", after := #[], guard := none }
abbrev o74_8_8 : Oper := { dst := some 30, op := Go.Op.load 3 (Go.Operand.tmp 29), type := 3, pos := "l12_names.go:397", after := #[{ on := 7, ground := Go.Ground.data }], guard := none }
abbrev o74_8_9 : Oper := { dst := some 31, op := Go.Op.call { callee := Go.Callee.value (Go.Operand.func 30), args := #[Go.Operand.tmp 28, Go.Operand.tmp 30], argTypes := #[61, 3] }, type := 3, pos := "l12_names.go:397", after := #[{ on := 6, ground := Go.Ground.data }, { on := 8, ground := Go.Ground.data }, { on := 5, ground := Go.Ground.chain }], guard := none }
abbrev o74_8_10 : Oper := { dst := some 32, op := Go.Op.move (Go.Operand.tmp 5), type := 3, pos := "l12_names.go:397", after := #[], guard := none }
abbrev o74_8_11 : Oper := { dst := some 33, op := Go.Op.build 74 #[(0, Go.Operand.tmp 27), (1, Go.Operand.tmp 31), (2, Go.Operand.tmp 32)], type := 74, pos := "l12_names.go:397", after := #[{ on := 5, ground := Go.Ground.data }, { on := 9, ground := Go.Ground.data }, { on := 10, ground := Go.Ground.data }], guard := none }
abbrev o74_8_12 : Oper := { dst := some 34, op := Go.Op.buildSlice 24 1 #[(0, Go.Operand.tmp 33)], type := 24, pos := "l12_names.go:397", after := #[{ on := 11, ground := Go.Ground.data }], guard := none }
abbrev o74_8_13 : Oper := { dst := some 35, op := Go.Op.call { callee := Go.Callee.builtin Go.Builtin.append, args := #[Go.Operand.tmp 23, Go.Operand.tmp 34], argTypes := #[24, 24] }, type := 24, pos := "l12_names.go:397", after := #[{ on := 1, ground := Go.Ground.data }, { on := 12, ground := Go.Ground.data }, { on := 9, ground := Go.Ground.chain }], guard := none }
abbrev o74_8_14 : Oper := { dst := some 36, op := Go.Op.fieldAddr 27 (Go.Operand.tmp 3) 1, type := 0, pos := "l12_names.go:397", after := #[{ on := 0, ground := Go.Ground.phase }, { on := 1, ground := Go.Ground.phase }, { on := 2, ground := Go.Ground.phase }, { on := 3, ground := Go.Ground.phase }, { on := 4, ground := Go.Ground.phase }, { on := 5, ground := Go.Ground.phase }, { on := 6, ground := Go.Ground.phase }, { on := 7, ground := Go.Ground.phase }, { on := 8, ground := Go.Ground.phase }, { on := 9, ground := Go.Ground.phase }, { on := 10, ground := Go.Ground.phase }, { on := 11, ground := Go.Ground.phase }, { on := 12, ground := Go.Ground.phase }, { on := 13, ground := Go.Ground.phase }], guard := none }
abbrev o74_8_15 : Oper := { dst := none, op := Go.Op.store 24 (Go.Operand.tmp 36) (Go.Operand.tmp 35), type := 0, pos := "l12_names.go:397", after := #[{ on := 14, ground := Go.Ground.data }, { on := 13, ground := Go.Ground.data }, { on := 13, ground := Go.Ground.chain }, { on := 0, ground := Go.Ground.phase }, { on := 1, ground := Go.Ground.phase }, { on := 2, ground := Go.Ground.phase }, { on := 3, ground := Go.Ground.phase }, { on := 4, ground := Go.Ground.phase }, { on := 5, ground := Go.Ground.phase }, { on := 6, ground := Go.Ground.phase }, { on := 7, ground := Go.Ground.phase }, { on := 8, ground := Go.Ground.phase }, { on := 9, ground := Go.Ground.phase }, { on := 10, ground := Go.Ground.phase }, { on := 11, ground := Go.Ground.phase }, { on := 12, ground := Go.Ground.phase }, { on := 13, ground := Go.Ground.phase }], guard := none }
abbrev o74_13_0 : Oper := { dst := some 44, op := Go.Op.fieldAddr 27 (Go.Operand.tmp 3) 2, type := 0, pos := "l12_names.go:401", after := #[], guard := none }
abbrev o74_13_1 : Oper := { dst := some 45, op := Go.Op.load 25 (Go.Operand.tmp 44), type := 25, pos := "l12_names.go:401", after := #[{ on := 0, ground := Go.Ground.data }], guard := none }
abbrev o74_13_2 : Oper := { dst := some 46, op := Go.Op.move (Go.Operand.tmp 0), type := 61, pos := "l12_names.go:401", after := #[], guard := none }
abbrev o74_13_3 : Oper := { dst := some 47, op := Go.Op.fieldAddr 27 (Go.Operand.tmp 3) 0, type := 0, pos := "l12_names.go:401", after := #[], guard := none }
abbrev o74_13_4 : Oper := { dst := some 48, op := Go.Op.load 3 (Go.Operand.tmp 47), type := 3, pos := "l12_names.go:401", after := #[{ on := 3, ground := Go.Ground.data }], guard := none }
abbrev o74_13_5 : Oper := { dst := some 49, op := Go.Op.call { callee := Go.Callee.value (Go.Operand.func 30), args := #[Go.Operand.tmp 46, Go.Operand.tmp 48], argTypes := #[61, 3] }, type := 3, pos := "l12_names.go:401", after := #[{ on := 2, ground := Go.Ground.data }, { on := 4, ground := Go.Ground.data }], guard := none }
abbrev o74_13_6 : Oper := { dst := some 50, op := Go.Op.move (Go.Operand.tmp 6), type := 66, pos := "l12_names.go:401", after := #[], guard := none }
abbrev o74_13_7 : Oper := { dst := some 51, op := Go.Op.move (Go.Operand.tmp 0), type := 61, pos := "l12_names.go:401", after := #[], guard := none }
abbrev o74_13_8 : Oper := { dst := some 52, op := Go.Op.call { callee := Go.Callee.value (Go.Operand.func 30), args := #[Go.Operand.tmp 51, Go.Operand.const (Go.Value.int Go.IntKind.i64 3)], argTypes := #[61, 3] }, type := 3, pos := "l12_names.go:401", after := #[{ on := 7, ground := Go.Ground.data }, { on := 5, ground := Go.Ground.chain }], guard := none }
abbrev o74_13_9 : Oper := { dst := some 53, op := Go.Op.indexAddr 66 (Go.Operand.tmp 50) (Go.Operand.tmp 52), type := 0, pos := "l12_names.go:401", after := #[{ on := 6, ground := Go.Ground.data }, { on := 8, ground := Go.Ground.data }], guard := none }
abbrev o74_13_10 : Oper := { dst := some 54, op := Go.Op.load 9 (Go.Operand.tmp 53), type := 9, pos := "l12_names.go:401", after := #[{ on := 9, ground := Go.Ground.data }], guard := none }
abbrev o74_13_11 : Oper := { dst := some 55, op := Go.Op.build 33 #[(0, Go.Operand.tmp 49), (1, Go.Operand.tmp 54)], type := 33, pos := "l12_names.go:401", after := #[{ on := 5, ground := Go.Ground.data }, { on := 10, ground := Go.Ground.data }], guard := none }
abbrev o74_13_12 : Oper := { dst := some 56, op := Go.Op.buildSlice 25 1 #[(0, Go.Operand.tmp 55)], type := 25, pos := "l12_names.go:401", after := #[{ on := 11, ground := Go.Ground.data }], guard := none }
abbrev o74_13_13 : Oper := { dst := some 57, op := Go.Op.call { callee := Go.Callee.builtin Go.Builtin.append, args := #[Go.Operand.tmp 45, Go.Operand.tmp 56], argTypes := #[25, 25] }, type := 25, pos := "l12_names.go:401", after := #[{ on := 1, ground := Go.Ground.data }, { on := 12, ground := Go.Ground.data }, { on := 8, ground := Go.Ground.chain }], guard := none }
abbrev o74_13_14 : Oper := { dst := some 58, op := Go.Op.fieldAddr 27 (Go.Operand.tmp 3) 2, type := 0, pos := "l12_names.go:401", after := #[{ on := 0, ground := Go.Ground.phase }, { on := 1, ground := Go.Ground.phase }, { on := 2, ground := Go.Ground.phase }, { on := 3, ground := Go.Ground.phase }, { on := 4, ground := Go.Ground.phase }, { on := 5, ground := Go.Ground.phase }, { on := 6, ground := Go.Ground.phase }, { on := 7, ground := Go.Ground.phase }, { on := 8, ground := Go.Ground.phase }, { on := 9, ground := Go.Ground.phase }, { on := 10, ground := Go.Ground.phase }, { on := 11, ground := Go.Ground.phase }, { on := 12, ground := Go.Ground.phase }, { on := 13, ground := Go.Ground.phase }], guard := none }
abbrev o74_13_15 : Oper := { dst := none, op := Go.Op.store 25 (Go.Operand.tmp 58) (Go.Operand.tmp 57), type := 0, pos := "l12_names.go:401", after := #[{ on := 14, ground := Go.Ground.data }, { on := 13, ground := Go.Ground.data }, { on := 13, ground := Go.Ground.chain }, { on := 0, ground := Go.Ground.phase }, { on := 1, ground := Go.Ground.phase }, { on := 2, ground := Go.Ground.phase }, { on := 3, ground := Go.Ground.phase }, { on := 4, ground := Go.Ground.phase }, { on := 5, ground := Go.Ground.phase }, { on := 6, ground := Go.Ground.phase }, { on := 7, ground := Go.Ground.phase }, { on := 8, ground := Go.Ground.phase }, { on := 9, ground := Go.Ground.phase }, { on := 10, ground := Go.Ground.phase }, { on := 11, ground := Go.Ground.phase }, { on := 12, ground := Go.Ground.phase }, { on := 13, ground := Go.Ground.phase }], guard := none }
abbrev o74_17_0 : Oper := { dst := some 65, op := Go.Op.fieldAddr 27 (Go.Operand.tmp 3) 3, type := 0, pos := "l12_names.go:404", after := #[], guard := none }
abbrev o74_17_1 : Oper := { dst := some 66, op := Go.Op.load 25 (Go.Operand.tmp 65), type := 25, pos := "l12_names.go:404", after := #[{ on := 0, ground := Go.Ground.data }], guard := none }
abbrev o74_17_2 : Oper := { dst := some 67, op := Go.Op.move (Go.Operand.tmp 0), type := 61, pos := "l12_names.go:404", after := #[], guard := none }
abbrev o74_17_3 : Oper := { dst := some 68, op := Go.Op.fieldAddr 27 (Go.Operand.tmp 3) 0, type := 0, pos := "l12_names.go:404", after := #[], guard := none }
abbrev o74_17_4 : Oper := { dst := some 69, op := Go.Op.load 3 (Go.Operand.tmp 68), type := 3, pos := "l12_names.go:404", after := #[{ on := 3, ground := Go.Ground.data }], guard := none }
abbrev o74_17_5 : Oper := { dst := some 70, op := Go.Op.call { callee := Go.Callee.value (Go.Operand.func 30), args := #[Go.Operand.tmp 67, Go.Operand.tmp 69], argTypes := #[61, 3] }, type := 3, pos := "l12_names.go:404", after := #[{ on := 2, ground := Go.Ground.data }, { on := 4, ground := Go.Ground.data }], guard := none }
abbrev o74_17_6 : Oper := { dst := some 71, op := Go.Op.move (Go.Operand.tmp 6), type := 66, pos := "l12_names.go:404", after := #[], guard := none }
abbrev o74_17_7 : Oper := { dst := some 72, op := Go.Op.move (Go.Operand.tmp 0), type := 61, pos := "l12_names.go:404", after := #[], guard := none }
abbrev o74_17_8 : Oper := { dst := some 73, op := Go.Op.call { callee := Go.Callee.value (Go.Operand.func 30), args := #[Go.Operand.tmp 72, Go.Operand.const (Go.Value.int Go.IntKind.i64 3)], argTypes := #[61, 3] }, type := 3, pos := "l12_names.go:404", after := #[{ on := 7, ground := Go.Ground.data }, { on := 5, ground := Go.Ground.chain }], guard := none }
abbrev o74_17_9 : Oper := { dst := some 74, op := Go.Op.indexAddr 66 (Go.Operand.tmp 71) (Go.Operand.tmp 73), type := 0, pos := "l12_names.go:404", after := #[{ on := 6, ground := Go.Ground.data }, { on := 8, ground := Go.Ground.data }], guard := none }
abbrev o74_17_10 : Oper := { dst := some 75, op := Go.Op.load 9 (Go.Operand.tmp 74), type := 9, pos := "l12_names.go:404", after := #[{ on := 9, ground := Go.Ground.data }], guard := none }
abbrev o74_17_11 : Oper := { dst := some 76, op := Go.Op.build 33 #[(0, Go.Operand.tmp 70), (1, Go.Operand.tmp 75)], type := 33, pos := "l12_names.go:404", after := #[{ on := 5, ground := Go.Ground.data }, { on := 10, ground := Go.Ground.data }], guard := none }
abbrev o74_17_12 : Oper := { dst := some 77, op := Go.Op.buildSlice 25 1 #[(0, Go.Operand.tmp 76)], type := 25, pos := "l12_names.go:404", after := #[{ on := 11, ground := Go.Ground.data }], guard := none }
abbrev o74_17_13 : Oper := { dst := some 78, op := Go.Op.call { callee := Go.Callee.builtin Go.Builtin.append, args := #[Go.Operand.tmp 66, Go.Operand.tmp 77], argTypes := #[25, 25] }, type := 25, pos := "l12_names.go:404", after := #[{ on := 1, ground := Go.Ground.data }, { on := 12, ground := Go.Ground.data }, { on := 8, ground := Go.Ground.chain }], guard := none }
abbrev o74_17_14 : Oper := { dst := some 79, op := Go.Op.fieldAddr 27 (Go.Operand.tmp 3) 3, type := 0, pos := "l12_names.go:404", after := #[{ on := 0, ground := Go.Ground.phase }, { on := 1, ground := Go.Ground.phase }, { on := 2, ground := Go.Ground.phase }, { on := 3, ground := Go.Ground.phase }, { on := 4, ground := Go.Ground.phase }, { on := 5, ground := Go.Ground.phase }, { on := 6, ground := Go.Ground.phase }, { on := 7, ground := Go.Ground.phase }, { on := 8, ground := Go.Ground.phase }, { on := 9, ground := Go.Ground.phase }, { on := 10, ground := Go.Ground.phase }, { on := 11, ground := Go.Ground.phase }, { on := 12, ground := Go.Ground.phase }, { on := 13, ground := Go.Ground.phase }], guard := none }
abbrev o74_17_15 : Oper := { dst := none, op := Go.Op.store 25 (Go.Operand.tmp 79) (Go.Operand.tmp 78), type := 0, pos := "l12_names.go:404", after := #[{ on := 14, ground := Go.Ground.data }, { on := 13, ground := Go.Ground.data }, { on := 13, ground := Go.Ground.chain }, { on := 0, ground := Go.Ground.phase }, { on := 1, ground := Go.Ground.phase }, { on := 2, ground := Go.Ground.phase }, { on := 3, ground := Go.Ground.phase }, { on := 4, ground := Go.Ground.phase }, { on := 5, ground := Go.Ground.phase }, { on := 6, ground := Go.Ground.phase }, { on := 7, ground := Go.Ground.phase }, { on := 8, ground := Go.Ground.phase }, { on := 9, ground := Go.Ground.phase }, { on := 10, ground := Go.Ground.phase }, { on := 11, ground := Go.Ground.phase }, { on := 12, ground := Go.Ground.phase }, { on := 13, ground := Go.Ground.phase }], guard := none }
/-- A Sg drawn: some one, its rows owned. -/
def DrewG (N : Nat) (cs : List UInt8) (a : Option Addr) (cap b off c : Nat) (w : World) (e : Ending) (w' : World) : Prop :=
  ∃ (G : DSg) (v1 v2 v3 : Value), e = .returned (.agg #[.int .i64 G.scopes, v1, v2, v3]) ∧ TOut c w w' ∧ (∃ s, T.Cur w' cs a cap b off c s) ∧ Gro w.heap.size w' G v1 v2 v3 ∧ G.edges.length ≤ N ∧ G.decls.length ≤ N ∧ G.refs.length ≤ N
theorem AtS.done {N : Nat} {cs : List UInt8} {a : Option Addr} {cap b off c : Nat} {w W : World} {G : DSg} {v1 v2 v3 : Value} (h : AtS cs a cap b off c w W) (hlt : c < w.heap.size) (hg : Gro (w.heap.size + 1) W G v1 v2 v3) (hl : G.edges.length ≤ N ∧ G.decls.length ≤ N ∧ G.refs.length ≤ N) :
    DrewG N cs a cap b off c w (.returned (.agg #[.int .i64 G.scopes, v1, v2, v3])) (set4 W w.heap.size (.int .i64 G.scopes) v1 v2 v3) := by
  obtain ⟨s, hs⟩ := h.cu
  have hz := set4_size W w.heap.size (.int .i64 G.scopes) v1 v2 v3
  refine ⟨G, v1, v2, v3, rfl, ⟨h.out.1, h.out.2.1, h.out.2.2.1, by rw [hz]; exact h.out.2.2.2.1, fun k hk hn => (set4_block _ _ _ _ _ _ (by omega)).trans (h.out.2.2.2.2 k hk hn)⟩, ⟨s, hs.keep (fun k hk => set4_block _ _ _ _ _ _ (by omega))⟩, (hg.keep (fun k hk _ _ => set4_block _ _ _ _ _ _ (by omega))).low (Nat.le_succ _), hl⟩
set_option maxHeartbeats 25600000 in
theorem drawSg {cs : List UInt8} {a : Option Addr} {cap b off c : Nat} (s : Nat × Nat) (w : World) (hc : T.Cur w cs a cap b off c s) :
    Calls Try.prog 74 #[.pointer (some ⟨c, 0, none⟩)] w fun e w' => DrewG 100 cs a cap b off c w e w' := by
  have hlt := hc.2.2.2.2.2.2.2.2.lt
  obtain ⟨i74, hi74, hzz⟩ := Option.map_eq_some_iff.1 info74
  simp only [Prod.mk.injEq] at hzz
  obtain ⟨hy0, hy1, hy2⟩ := hzz
  obtain ⟨i33, hi33, hzz⟩ := Option.map_eq_some_iff.1 info33
  simp only [Prod.mk.injEq] at hzz
  obtain ⟨hz0, hz1, hz2⟩ := hzz
  have HA := (show Hid (AtS cs a cap b off c w (w.alloc (.cells #[.int .i64 0, .slice none 0 0, .slice none 0 0, .slice none 0 0] 27))) from AtS.new hc)
  obtain ⟨s0, hs0⟩ := HA.out.cu
  have HCL := (show Hid _ from pickE 6 _ hs0 (by decide))
  clear hs0 hc
  go_enter Try.func74, Try.ntmps74
  go_wp2_with fail
  refine Calls.mono HCL.out ?_
  rintro e w1 ⟨q, s1, rfl, hq, hO, hC⟩
  have hq6 : q < 6 := hq (by omega)
  have hqi : (q : Int) < 6 := by omega
  have HA1 := (show Hid (AtS cs a cap b off c w w1) from HA.out.pick hlt hO hC)
  have hsz1 := HA1.out.size
  have hb := bel_alloc w1 (.cells #[.int .i64 (1 + (q : Int)), .slice none 0 0, .slice none 0 0, .slice none 0 0] 27)
  have HA2 := (show Hid (AtS cs a cap b off c w (w1.alloc (.cells #[.int .i64 (1 + (q : Int)), .slice none 0 0, .slice none 0 0, .slice none 0 0] 27))) from HA1.out.still hb)
  have HX2 := (show Hid (Box (w1.alloc (.cells #[.int .i64 (1 + (q : Int)), .slice none 0 0, .slice none 0 0, .slice none 0 0] 27)) w1.heap.size 27 [.int .i64 (1 + (q : Int)), .slice none 0 0, .slice none 0 0, .slice none 0 0]) from Box.new w1 27 _)
  have HG2 := (show Hid (Gro (w.heap.size + 1) (w1.alloc (.cells #[.int .i64 (1 + (q : Int)), .slice none 0 0, .slice none 0 0, .slice none 0 0] 27)) ⟨1 + (q : Int), [], [], []⟩ (.slice none 0 0) (.slice none 0 0) (.slice none 0 0)) from Gro.nil _ _ _)
  have HPN := (show Hid (∀ (W : World) (s : Nat × Nat), T.Cur W cs a cap b off c s → Calls Try.prog 30 #[.pointer (some ⟨c, 0, none⟩), .int .i64 (1 + (q : Int))] W fun e w' => ∃ (r : Nat) (s' : Nat × Nat), e = .returned (.int .i64 (r : Nat)) ∧ (0 < 1 + q → r < 1 + q) ∧ T.Out c (c + 1) W w' ∧ T.Cur w' cs a cap b off c s') from fun W s h => by
    have := pickE (1 + q) W h (by omega)
    rwa [show ((1 + q : Nat) : Int) = 1 + (q : Int) from by omega] at this)
  clear HA HA1 HCL hO hC hb hq
  obtain ⟨s2, hs2⟩ := HA2.out.cu
  have HCL := (show Hid _ from pickE 8 _ hs2 (by decide))
  clear hs2
  have hg0 : w.heap.size < w1.heap.size := by omega
  go_wp2_with fail
  refine Calls.mono HCL.out ?_
  rintro e w2 ⟨k1, s3, rfl, hk1, hO, hC⟩
  have hk1 : k1 < 8 := hk1 (by omega)
  obtain ⟨HA3, HX3, HG3⟩ := pk3 hlt HA2 HX2 HG2 hO hC (by omega)
  clear HCL hO hC HA2 HX2 HG2
  go_wp2_with fail
  go_loopw [4] (fun i wr => ∃ (m : Nat) (G : DSg) (v1 v2 v3 : Value), i = .int .i64 (m : Nat) ∧ G.scopes = 1 + (q : Int) ∧ G.edges.length + m ≤ 8 ∧ G.edges.length ≤ 8 ∧ G.decls.length ≤ 0 ∧ G.refs.length ≤ 0 ∧ Hid (AtS cs a cap b off c w wr) ∧ Hid (Box wr w1.heap.size 27 [.int .i64 (1 + (q : Int)), v1, v2, v3]) ∧ Hid (Gro (w.heap.size + 1) wr G v1 v2 v3)) (fun i _ => (intOf i).toNat)
  case atStart => exact ⟨k1, ⟨1 + (q : Int), [], [], []⟩, _, _, _, rfl, rfl, by simp; omega, by simp, by simp, by simp, HA3.out, HX3.out, HG3.out⟩
  case round =>
    obtain ⟨m, G, v1, v2, v3, rfl, hsc, hm, hm1, hm2, hm3, HA5, HX5, HG5⟩ := hrel
    by_cases hpos : 0 < m
    case pos =>
      have hpos' : (0 : Int) < (m : Int) := by omega
      have hmi : (m : Int) ≤ 8 := by omega
      have hsub : (m : Int) - 1 = ((m - 1 : Nat) : Int) := by omega
      obtain ⟨s6, hs6⟩ := HA5.out.cu
      have HCL := (show Hid _ from pickE 3 _ hs6 (by decide))
      clear hs6
      go_wp2_with fail
      refine Calls.mono HCL.out ?_
      rintro e w6 ⟨kz, s7, rfl, hkz, hO, hC⟩
      obtain ⟨HA6, HX6, HG6⟩ := pk3 hlt HA5 HX5 HG5 hO hC (by omega)
      clear HCL hO hC hkz HA5 HX5 HG5
      by_cases hkd : kz = 0
      case pos =>
        subst hkd
        go_wp2_with fail
        have hb : Below w6.heap.size w6 w6.drew := (Below.refl _ _).drew
        obtain ⟨HA7, HX7, HG7⟩ := st3 HA6 HX6 HG6 hb
        clear hb HA6 HX6 HG6
        have hS := (cellsX HX7.out).1
        refine wp_region_held_drew (S := (fun wq => wq.cell? ⟨w1.heap.size, 0, none⟩ = some (.int .i64 (1 + (q : Int))))) (by kernel_rfl) hS (fun hHeld => ?_)
        clear hS
        generalize w6.drew = WR at *
        refine tkH (i := 0) (oi := o74_8_0) (v := ?v1) ?h1 hHeld ?r1
        case h1 => (intro w hSw; (try dsimp only at hSw); go_simp; try with_reducible rfl)
        try simp only [Act.put, List.setIfInBounds_toArray, List.set_cons_zero, List.set_cons_succ]
        refine tkH (i := 2) (oi := o74_8_2) (v := ?v2) ?h2 hHeld ?r2
        case h2 => (intro w hSw; (try dsimp only at hSw); go_simp; try with_reducible rfl)
        try simp only [Act.put, List.setIfInBounds_toArray, List.set_cons_zero, List.set_cons_succ]
        refine tkH (i := 3) (oi := o74_8_3) (v := ?v3) ?h3 hHeld ?r3
        case h3 => (intro w hSw; (try dsimp only at hSw); go_simp; try with_reducible rfl)
        try simp only [Act.put, List.setIfInBounds_toArray, List.set_cons_zero, List.set_cons_succ]
        refine tkH (i := 4) (oi := o74_8_4) (v := ?v4) ?h4 hHeld ?r4
        case h4 => (intro w hSw; (try dsimp only at hSw); go_simp; try with_reducible rfl)
        try simp only [Act.put, List.setIfInBounds_toArray, List.set_cons_zero, List.set_cons_succ]
        refine tkH (i := 6) (oi := o74_8_6) (v := ?v5) ?h5 hHeld ?r5
        case h5 => (intro w hSw; (try dsimp only at hSw); go_simp; try with_reducible rfl)
        try simp only [Act.put, List.setIfInBounds_toArray, List.set_cons_zero, List.set_cons_succ]
        refine tkH (i := 7) (oi := o74_8_7) (v := ?v6) ?h6 hHeld ?r6
        case h6 => (intro w hSw; (try dsimp only at hSw); go_simp; try with_reducible rfl)
        try simp only [Act.put, List.setIfInBounds_toArray, List.set_cons_zero, List.set_cons_succ]
        refine tkH (i := 8) (oi := o74_8_8) (v := ?v7) ?h7 hHeld ?r7
        case h7 => (intro w hSw; (try dsimp only at hSw); go_simp; try with_reducible rfl)
        try simp only [Act.put, List.setIfInBounds_toArray, List.set_cons_zero, List.set_cons_succ]
        refine tkH (i := 10) (oi := o74_8_10) (v := ?v8) ?h8 hHeld ?r8
        case h8 => (intro w hSw; (try dsimp only at hSw); go_simp; try with_reducible rfl)
        try simp only [Act.put, List.setIfInBounds_toArray, List.set_cons_zero, List.set_cons_succ]
        refine wpAnyH_ready (rs := [1, 5]) (by kernel_rfl) (by simp) ?_
        refine (AllReadyH.cons (o := o74_8_1) rfl (fun K hK => ?_) (AllReadyH.cons (o := o74_8_5) rfl (fun K hK => ?_) AllReadyH.nil))
        ·
         obtain ⟨q0', q1', q2', q3'⟩ := cellsX HX7.out
         go_simp
         clear q0' q1' q2' q3'
         have hS := (cellsX HX7.out).1
         clear hHeld
         refine hK.out _ _ hS (fun hHeld => ?_)
         clear hK K
         try simp only [Act.put, List.setIfInBounds_toArray, List.set_cons_zero, List.set_cons_succ]
         clear hS
         refine wpAnyH_ready (rs := [5]) (by kernel_rfl) (by simp) ?_
         refine (AllReadyH.cons (o := o74_8_5) rfl (fun K hK => ?_) AllReadyH.nil)
         obtain ⟨s8, hs8⟩ := HA7.out.cu
         go_simp
         go_at_call 30
         refine Calls.mono (HPN.out _ s8 hs8) ?_
         rintro e v8 ⟨r1, t8, rfl, hr1, hO, hC⟩
         obtain ⟨HA8, HX8, HG8⟩ := pk3 hlt HA7 HX7 HG7 hO hC (by omega)
         clear hO hC hs8 HA7 HX7 HG7
         have hS := (cellsX HX8.out).1
         clear hHeld
         refine hK.out _ _ hS (fun hHeld => ?_)
         clear hK K
         try simp only [Act.put, List.setIfInBounds_toArray, List.set_cons_zero, List.set_cons_succ]
         clear hS
         refine wpAnyH_ready (rs := [9]) (by kernel_rfl) (by simp) ?_
         refine (AllReadyH.cons (o := o74_8_9) rfl (fun K hK => ?_) AllReadyH.nil)
         obtain ⟨s9, hs9⟩ := HA8.out.cu
         go_simp
         go_at_call 30
         refine Calls.mono (HPN.out _ s9 hs9) ?_
         rintro e v9 ⟨r2, t9, rfl, hr2, hO, hC⟩
         obtain ⟨HA9, HX9, HG9⟩ := pk3 hlt HA8 HX8 HG8 hO hC (by omega)
         clear hO hC hs9 HA8 HX8 HG8
         have hS := (cellsX HX9.out).1
         clear hHeld
         refine hK.out _ _ hS (fun hHeld => ?_)
         clear hK K
         try simp only [Act.put, List.setIfInBounds_toArray, List.set_cons_zero, List.set_cons_succ]
         clear hS
         refine tkH (i := 11) (oi := o74_8_11) (v := ?v9) ?h9 hHeld ?r9
         case h9 => (intro w hSw; (try dsimp only at hSw); go_simp; try with_reducible rfl)
         try simp only [Act.put, List.setIfInBounds_toArray, List.set_cons_zero, List.set_cons_succ]
         refine wpAnyH_ready (rs := [12]) (by kernel_rfl) (by simp) ?_
         refine (AllReadyH.cons (o := o74_8_12) rfl (fun K hK => ?_) AllReadyH.nil)
         go_simp
         have hb := bel_alloc (v9) (.cells #[.int .i64 (r1 : Nat), .int .i64 (r2 : Nat), .int .i64 2] 74)
         obtain ⟨HA10, HX10, HG10⟩ := st3 HA9 HX9 HG9 hb
         have HS := (show Hid (SrcR ((v9).alloc (.cells #[.int .i64 (r1 : Nat), .int .i64 (r2 : Nat), .int .i64 2] 74)) 74 3 (.slice (some ⟨(v9).heap.size, 0, none⟩) 1 1) 1 [.int .i64 (r1 : Nat), .int .i64 (r2 : Nat), .int .i64 2]) from src3 _ _ _ _ _)
         clear hb HA9 HX9 HG9
         have hS := (cellsX HX10.out).1
         clear hHeld
         refine hK.out _ _ hS (fun hHeld => ?_)
         clear hK K
         try simp only [Act.put, List.setIfInBounds_toArray, List.set_cons_zero, List.set_cons_succ]
         clear hS
         generalize (v9).alloc (.cells #[.int .i64 (r1 : Nat), .int .i64 (r2 : Nat), .int .i64 2] 74) = W10 at *
         generalize hga : (v9).heap.size = ga at *
         clear hga
         refine wpAnyH_ready (rs := [13]) (by kernel_rfl) (by simp) ?_
         refine (AllReadyH.cons (o := o74_8_13) rfl (fun K hK => ?_) AllReadyH.nil)
         refine stepE _ rfl (.tmp 23) (.tmp 34) rfl (by simp [Act.eval, Act.put]) HG10.out.e (by simp [Act.eval, Act.put]) HS.out (by omega) HA10.out.size ?_
         intro aN pN wN hown hgr hat
         obtain ⟨HA11, HX11, HG11⟩ := ap1 hlt HA10 HX10 HG10 ⟨(r1 : Nat), (r2 : Nat), 2⟩ hown hgr (by omega)
         clear HS hown hgr hat HA10 HX10 HG10
         have hS := (cellsX HX11.out).1
         clear hHeld
         refine hK.out _ _ hS (fun hHeld => ?_)
         clear hK K
         try simp only [Act.put, List.setIfInBounds_toArray, List.set_cons_zero, List.set_cons_succ]
         clear hS
         refine tkH (i := 14) (oi := o74_8_14) (v := ?v10) ?h10 hHeld ?r10
         case h10 => (intro w hSw; (try dsimp only at hSw); go_simp; try with_reducible rfl)
         try simp only [Act.put, List.setIfInBounds_toArray, List.set_cons_zero, List.set_cons_succ]
         refine wpAnyH_ready (rs := [15]) (by kernel_rfl) (by simp) ?_
         refine (AllReadyH.cons (o := o74_8_15) rfl (fun K hK => ?_) AllReadyH.nil)
         obtain ⟨q0', q1', q2', q3'⟩ := cellsX HX11.out
         have f1 := HX11.out.frozen 1
         obtain ⟨HA12, HX12, HG12⟩ := so1 (.slice aN (G.edges.length + 1) pN) hlt (by omega) HA11 HX11 HG11
         go_simp
         clear q0' q1' q2' q3' f1
         clear  HA11 HX11 HG11
         have hS := (cellsX HX12.out).1
         clear hHeld
         refine hK.out _ _ hS (fun hHeld => ?_)
         clear hK K
         try simp only [Act.put, List.setIfInBounds_toArray, List.set_cons_zero, List.set_cons_succ]
         refine wpAnyH_done (by kernel_rfl) ?_ _
         clear hS hHeld
         go_wp2_with fail
         exact ⟨⟨m - 1, ⟨G.scopes, G.edges ++ [⟨(r1 : Nat), (r2 : Nat), 2⟩], G.decls, G.refs⟩, (.slice aN (G.edges.length + 1) pN), v2, v3, by first | go_num | (rw [hsub]), hsc, by (simp only [List.length_append, List.length_singleton]; omega), by (first | omega | (simp only [List.length_append, List.length_singleton]; omega)), by (first | omega | (simp only [List.length_append, List.length_singleton]; omega)), by (first | omega | (simp only [List.length_append, List.length_singleton]; omega)), HA12, HX12, HG12⟩, by simp [intOf]; omega⟩
        ·
         obtain ⟨s8, hs8⟩ := HA7.out.cu
         go_simp
         go_at_call 30
         refine Calls.mono (HPN.out _ s8 hs8) ?_
         rintro e v8 ⟨r1, t8, rfl, hr1, hO, hC⟩
         obtain ⟨HA8, HX8, HG8⟩ := pk3 hlt HA7 HX7 HG7 hO hC (by omega)
         clear hO hC hs8 HA7 HX7 HG7
         have hS := (cellsX HX8.out).1
         clear hHeld
         refine hK.out _ _ hS (fun hHeld => ?_)
         clear hK K
         try simp only [Act.put, List.setIfInBounds_toArray, List.set_cons_zero, List.set_cons_succ]
         clear hS
         refine wpAnyH_ready (rs := [1, 9]) (by kernel_rfl) (by simp) ?_
         refine (AllReadyH.cons (o := o74_8_1) rfl (fun K hK => ?_) (AllReadyH.cons (o := o74_8_9) rfl (fun K hK => ?_) AllReadyH.nil))
         ·
          obtain ⟨q0', q1', q2', q3'⟩ := cellsX HX8.out
          go_simp
          clear q0' q1' q2' q3'
          have hS := (cellsX HX8.out).1
          clear hHeld
          refine hK.out _ _ hS (fun hHeld => ?_)
          clear hK K
          try simp only [Act.put, List.setIfInBounds_toArray, List.set_cons_zero, List.set_cons_succ]
          clear hS
          refine wpAnyH_ready (rs := [9]) (by kernel_rfl) (by simp) ?_
          refine (AllReadyH.cons (o := o74_8_9) rfl (fun K hK => ?_) AllReadyH.nil)
          obtain ⟨s9, hs9⟩ := HA8.out.cu
          go_simp
          go_at_call 30
          refine Calls.mono (HPN.out _ s9 hs9) ?_
          rintro e v9 ⟨r2, t9, rfl, hr2, hO, hC⟩
          obtain ⟨HA9, HX9, HG9⟩ := pk3 hlt HA8 HX8 HG8 hO hC (by omega)
          clear hO hC hs9 HA8 HX8 HG8
          have hS := (cellsX HX9.out).1
          clear hHeld
          refine hK.out _ _ hS (fun hHeld => ?_)
          clear hK K
          try simp only [Act.put, List.setIfInBounds_toArray, List.set_cons_zero, List.set_cons_succ]
          clear hS
          refine tkH (i := 11) (oi := o74_8_11) (v := ?v11) ?h11 hHeld ?r11
          case h11 => (intro w hSw; (try dsimp only at hSw); go_simp; try with_reducible rfl)
          try simp only [Act.put, List.setIfInBounds_toArray, List.set_cons_zero, List.set_cons_succ]
          refine wpAnyH_ready (rs := [12]) (by kernel_rfl) (by simp) ?_
          refine (AllReadyH.cons (o := o74_8_12) rfl (fun K hK => ?_) AllReadyH.nil)
          go_simp
          have hb := bel_alloc (v9) (.cells #[.int .i64 (r1 : Nat), .int .i64 (r2 : Nat), .int .i64 2] 74)
          obtain ⟨HA10, HX10, HG10⟩ := st3 HA9 HX9 HG9 hb
          have HS := (show Hid (SrcR ((v9).alloc (.cells #[.int .i64 (r1 : Nat), .int .i64 (r2 : Nat), .int .i64 2] 74)) 74 3 (.slice (some ⟨(v9).heap.size, 0, none⟩) 1 1) 1 [.int .i64 (r1 : Nat), .int .i64 (r2 : Nat), .int .i64 2]) from src3 _ _ _ _ _)
          clear hb HA9 HX9 HG9
          have hS := (cellsX HX10.out).1
          clear hHeld
          refine hK.out _ _ hS (fun hHeld => ?_)
          clear hK K
          try simp only [Act.put, List.setIfInBounds_toArray, List.set_cons_zero, List.set_cons_succ]
          clear hS
          generalize (v9).alloc (.cells #[.int .i64 (r1 : Nat), .int .i64 (r2 : Nat), .int .i64 2] 74) = W10 at *
          generalize hga : (v9).heap.size = ga at *
          clear hga
          refine wpAnyH_ready (rs := [13]) (by kernel_rfl) (by simp) ?_
          refine (AllReadyH.cons (o := o74_8_13) rfl (fun K hK => ?_) AllReadyH.nil)
          refine stepE _ rfl (.tmp 23) (.tmp 34) rfl (by simp [Act.eval, Act.put]) HG10.out.e (by simp [Act.eval, Act.put]) HS.out (by omega) HA10.out.size ?_
          intro aN pN wN hown hgr hat
          obtain ⟨HA11, HX11, HG11⟩ := ap1 hlt HA10 HX10 HG10 ⟨(r1 : Nat), (r2 : Nat), 2⟩ hown hgr (by omega)
          clear HS hown hgr hat HA10 HX10 HG10
          have hS := (cellsX HX11.out).1
          clear hHeld
          refine hK.out _ _ hS (fun hHeld => ?_)
          clear hK K
          try simp only [Act.put, List.setIfInBounds_toArray, List.set_cons_zero, List.set_cons_succ]
          clear hS
          refine tkH (i := 14) (oi := o74_8_14) (v := ?v12) ?h12 hHeld ?r12
          case h12 => (intro w hSw; (try dsimp only at hSw); go_simp; try with_reducible rfl)
          try simp only [Act.put, List.setIfInBounds_toArray, List.set_cons_zero, List.set_cons_succ]
          refine wpAnyH_ready (rs := [15]) (by kernel_rfl) (by simp) ?_
          refine (AllReadyH.cons (o := o74_8_15) rfl (fun K hK => ?_) AllReadyH.nil)
          obtain ⟨q0', q1', q2', q3'⟩ := cellsX HX11.out
          have f1 := HX11.out.frozen 1
          obtain ⟨HA12, HX12, HG12⟩ := so1 (.slice aN (G.edges.length + 1) pN) hlt (by omega) HA11 HX11 HG11
          go_simp
          clear q0' q1' q2' q3' f1
          clear  HA11 HX11 HG11
          have hS := (cellsX HX12.out).1
          clear hHeld
          refine hK.out _ _ hS (fun hHeld => ?_)
          clear hK K
          try simp only [Act.put, List.setIfInBounds_toArray, List.set_cons_zero, List.set_cons_succ]
          refine wpAnyH_done (by kernel_rfl) ?_ _
          clear hS hHeld
          go_wp2_with fail
          exact ⟨⟨m - 1, ⟨G.scopes, G.edges ++ [⟨(r1 : Nat), (r2 : Nat), 2⟩], G.decls, G.refs⟩, (.slice aN (G.edges.length + 1) pN), v2, v3, by first | go_num | (rw [hsub]), hsc, by (simp only [List.length_append, List.length_singleton]; omega), by (first | omega | (simp only [List.length_append, List.length_singleton]; omega)), by (first | omega | (simp only [List.length_append, List.length_singleton]; omega)), by (first | omega | (simp only [List.length_append, List.length_singleton]; omega)), HA12, HX12, HG12⟩, by simp [intOf]; omega⟩
         ·
          obtain ⟨s9, hs9⟩ := HA8.out.cu
          go_simp
          go_at_call 30
          refine Calls.mono (HPN.out _ s9 hs9) ?_
          rintro e v9 ⟨r2, t9, rfl, hr2, hO, hC⟩
          obtain ⟨HA9, HX9, HG9⟩ := pk3 hlt HA8 HX8 HG8 hO hC (by omega)
          clear hO hC hs9 HA8 HX8 HG8
          have hS := (cellsX HX9.out).1
          clear hHeld
          refine hK.out _ _ hS (fun hHeld => ?_)
          clear hK K
          try simp only [Act.put, List.setIfInBounds_toArray, List.set_cons_zero, List.set_cons_succ]
          clear hS
          refine tkH (i := 11) (oi := o74_8_11) (v := ?v13) ?h13 hHeld ?r13
          case h13 => (intro w hSw; (try dsimp only at hSw); go_simp; try with_reducible rfl)
          try simp only [Act.put, List.setIfInBounds_toArray, List.set_cons_zero, List.set_cons_succ]
          refine wpAnyH_ready (rs := [1, 12]) (by kernel_rfl) (by simp) ?_
          refine (AllReadyH.cons (o := o74_8_1) rfl (fun K hK => ?_) (AllReadyH.cons (o := o74_8_12) rfl (fun K hK => ?_) AllReadyH.nil))
          ·
           obtain ⟨q0', q1', q2', q3'⟩ := cellsX HX9.out
           go_simp
           clear q0' q1' q2' q3'
           have hS := (cellsX HX9.out).1
           clear hHeld
           refine hK.out _ _ hS (fun hHeld => ?_)
           clear hK K
           try simp only [Act.put, List.setIfInBounds_toArray, List.set_cons_zero, List.set_cons_succ]
           clear hS
           refine wpAnyH_ready (rs := [12]) (by kernel_rfl) (by simp) ?_
           refine (AllReadyH.cons (o := o74_8_12) rfl (fun K hK => ?_) AllReadyH.nil)
           go_simp
           have hb := bel_alloc (v9) (.cells #[.int .i64 (r1 : Nat), .int .i64 (r2 : Nat), .int .i64 2] 74)
           obtain ⟨HA10, HX10, HG10⟩ := st3 HA9 HX9 HG9 hb
           have HS := (show Hid (SrcR ((v9).alloc (.cells #[.int .i64 (r1 : Nat), .int .i64 (r2 : Nat), .int .i64 2] 74)) 74 3 (.slice (some ⟨(v9).heap.size, 0, none⟩) 1 1) 1 [.int .i64 (r1 : Nat), .int .i64 (r2 : Nat), .int .i64 2]) from src3 _ _ _ _ _)
           clear hb HA9 HX9 HG9
           have hS := (cellsX HX10.out).1
           clear hHeld
           refine hK.out _ _ hS (fun hHeld => ?_)
           clear hK K
           try simp only [Act.put, List.setIfInBounds_toArray, List.set_cons_zero, List.set_cons_succ]
           clear hS
           generalize (v9).alloc (.cells #[.int .i64 (r1 : Nat), .int .i64 (r2 : Nat), .int .i64 2] 74) = W10 at *
           generalize hga : (v9).heap.size = ga at *
           clear hga
           refine wpAnyH_ready (rs := [13]) (by kernel_rfl) (by simp) ?_
           refine (AllReadyH.cons (o := o74_8_13) rfl (fun K hK => ?_) AllReadyH.nil)
           refine stepE _ rfl (.tmp 23) (.tmp 34) rfl (by simp [Act.eval, Act.put]) HG10.out.e (by simp [Act.eval, Act.put]) HS.out (by omega) HA10.out.size ?_
           intro aN pN wN hown hgr hat
           obtain ⟨HA11, HX11, HG11⟩ := ap1 hlt HA10 HX10 HG10 ⟨(r1 : Nat), (r2 : Nat), 2⟩ hown hgr (by omega)
           clear HS hown hgr hat HA10 HX10 HG10
           have hS := (cellsX HX11.out).1
           clear hHeld
           refine hK.out _ _ hS (fun hHeld => ?_)
           clear hK K
           try simp only [Act.put, List.setIfInBounds_toArray, List.set_cons_zero, List.set_cons_succ]
           clear hS
           refine tkH (i := 14) (oi := o74_8_14) (v := ?v14) ?h14 hHeld ?r14
           case h14 => (intro w hSw; (try dsimp only at hSw); go_simp; try with_reducible rfl)
           try simp only [Act.put, List.setIfInBounds_toArray, List.set_cons_zero, List.set_cons_succ]
           refine wpAnyH_ready (rs := [15]) (by kernel_rfl) (by simp) ?_
           refine (AllReadyH.cons (o := o74_8_15) rfl (fun K hK => ?_) AllReadyH.nil)
           obtain ⟨q0', q1', q2', q3'⟩ := cellsX HX11.out
           have f1 := HX11.out.frozen 1
           obtain ⟨HA12, HX12, HG12⟩ := so1 (.slice aN (G.edges.length + 1) pN) hlt (by omega) HA11 HX11 HG11
           go_simp
           clear q0' q1' q2' q3' f1
           clear  HA11 HX11 HG11
           have hS := (cellsX HX12.out).1
           clear hHeld
           refine hK.out _ _ hS (fun hHeld => ?_)
           clear hK K
           try simp only [Act.put, List.setIfInBounds_toArray, List.set_cons_zero, List.set_cons_succ]
           refine wpAnyH_done (by kernel_rfl) ?_ _
           clear hS hHeld
           go_wp2_with fail
           exact ⟨⟨m - 1, ⟨G.scopes, G.edges ++ [⟨(r1 : Nat), (r2 : Nat), 2⟩], G.decls, G.refs⟩, (.slice aN (G.edges.length + 1) pN), v2, v3, by first | go_num | (rw [hsub]), hsc, by (simp only [List.length_append, List.length_singleton]; omega), by (first | omega | (simp only [List.length_append, List.length_singleton]; omega)), by (first | omega | (simp only [List.length_append, List.length_singleton]; omega)), by (first | omega | (simp only [List.length_append, List.length_singleton]; omega)), HA12, HX12, HG12⟩, by simp [intOf]; omega⟩
          ·
           go_simp
           have hb := bel_alloc (v9) (.cells #[.int .i64 (r1 : Nat), .int .i64 (r2 : Nat), .int .i64 2] 74)
           obtain ⟨HA10, HX10, HG10⟩ := st3 HA9 HX9 HG9 hb
           have HS := (show Hid (SrcR ((v9).alloc (.cells #[.int .i64 (r1 : Nat), .int .i64 (r2 : Nat), .int .i64 2] 74)) 74 3 (.slice (some ⟨(v9).heap.size, 0, none⟩) 1 1) 1 [.int .i64 (r1 : Nat), .int .i64 (r2 : Nat), .int .i64 2]) from src3 _ _ _ _ _)
           clear hb HA9 HX9 HG9
           have hS := (cellsX HX10.out).1
           clear hHeld
           refine hK.out _ _ hS (fun hHeld => ?_)
           clear hK K
           try simp only [Act.put, List.setIfInBounds_toArray, List.set_cons_zero, List.set_cons_succ]
           clear hS
           generalize (v9).alloc (.cells #[.int .i64 (r1 : Nat), .int .i64 (r2 : Nat), .int .i64 2] 74) = W10 at *
           generalize hga : (v9).heap.size = ga at *
           clear hga
           refine wpAnyH_ready (rs := [1]) (by kernel_rfl) (by simp) ?_
           refine (AllReadyH.cons (o := o74_8_1) rfl (fun K hK => ?_) AllReadyH.nil)
           obtain ⟨q0', q1', q2', q3'⟩ := cellsX HX10.out
           go_simp
           clear q0' q1' q2' q3'
           have hS := (cellsX HX10.out).1
           clear hHeld
           refine hK.out _ _ hS (fun hHeld => ?_)
           clear hK K
           try simp only [Act.put, List.setIfInBounds_toArray, List.set_cons_zero, List.set_cons_succ]
           clear hS
           refine wpAnyH_ready (rs := [13]) (by kernel_rfl) (by simp) ?_
           refine (AllReadyH.cons (o := o74_8_13) rfl (fun K hK => ?_) AllReadyH.nil)
           refine stepE _ rfl (.tmp 23) (.tmp 34) rfl (by simp [Act.eval, Act.put]) HG10.out.e (by simp [Act.eval, Act.put]) HS.out (by omega) HA10.out.size ?_
           intro aN pN wN hown hgr hat
           obtain ⟨HA11, HX11, HG11⟩ := ap1 hlt HA10 HX10 HG10 ⟨(r1 : Nat), (r2 : Nat), 2⟩ hown hgr (by omega)
           clear HS hown hgr hat HA10 HX10 HG10
           have hS := (cellsX HX11.out).1
           clear hHeld
           refine hK.out _ _ hS (fun hHeld => ?_)
           clear hK K
           try simp only [Act.put, List.setIfInBounds_toArray, List.set_cons_zero, List.set_cons_succ]
           clear hS
           refine tkH (i := 14) (oi := o74_8_14) (v := ?v15) ?h15 hHeld ?r15
           case h15 => (intro w hSw; (try dsimp only at hSw); go_simp; try with_reducible rfl)
           try simp only [Act.put, List.setIfInBounds_toArray, List.set_cons_zero, List.set_cons_succ]
           refine wpAnyH_ready (rs := [15]) (by kernel_rfl) (by simp) ?_
           refine (AllReadyH.cons (o := o74_8_15) rfl (fun K hK => ?_) AllReadyH.nil)
           obtain ⟨q0', q1', q2', q3'⟩ := cellsX HX11.out
           have f1 := HX11.out.frozen 1
           obtain ⟨HA12, HX12, HG12⟩ := so1 (.slice aN (G.edges.length + 1) pN) hlt (by omega) HA11 HX11 HG11
           go_simp
           clear q0' q1' q2' q3' f1
           clear  HA11 HX11 HG11
           have hS := (cellsX HX12.out).1
           clear hHeld
           refine hK.out _ _ hS (fun hHeld => ?_)
           clear hK K
           try simp only [Act.put, List.setIfInBounds_toArray, List.set_cons_zero, List.set_cons_succ]
           refine wpAnyH_done (by kernel_rfl) ?_ _
           clear hS hHeld
           go_wp2_with fail
           exact ⟨⟨m - 1, ⟨G.scopes, G.edges ++ [⟨(r1 : Nat), (r2 : Nat), 2⟩], G.decls, G.refs⟩, (.slice aN (G.edges.length + 1) pN), v2, v3, by first | go_num | (rw [hsub]), hsc, by (simp only [List.length_append, List.length_singleton]; omega), by (first | omega | (simp only [List.length_append, List.length_singleton]; omega)), by (first | omega | (simp only [List.length_append, List.length_singleton]; omega)), by (first | omega | (simp only [List.length_append, List.length_singleton]; omega)), HA12, HX12, HG12⟩, by simp [intOf]; omega⟩
      case neg =>
        have hk0 : ((kz : Int) == 0) = false := by simp; omega
        go_wp2_with fail
        have hb : Below w6.heap.size w6 w6.drew := (Below.refl _ _).drew
        obtain ⟨HA7, HX7, HG7⟩ := st3 HA6 HX6 HG6 hb
        clear hb HA6 HX6 HG6
        have hS := (cellsX HX7.out).1
        refine wp_region_held_drew (S := (fun wq => wq.cell? ⟨w1.heap.size, 0, none⟩ = some (.int .i64 (1 + (q : Int))))) (by kernel_rfl) hS (fun hHeld => ?_)
        clear hS
        generalize w6.drew = WR at *
        refine tkH (i := 0) (oi := o74_8_0) (v := ?v16) ?h16 hHeld ?r16
        case h16 => (intro w hSw; (try dsimp only at hSw); go_simp; try with_reducible rfl)
        try simp only [Act.put, List.setIfInBounds_toArray, List.set_cons_zero, List.set_cons_succ]
        refine tkH (i := 2) (oi := o74_8_2) (v := ?v17) ?h17 hHeld ?r17
        case h17 => (intro w hSw; (try dsimp only at hSw); go_simp; try with_reducible rfl)
        try simp only [Act.put, List.setIfInBounds_toArray, List.set_cons_zero, List.set_cons_succ]
        refine tkH (i := 3) (oi := o74_8_3) (v := ?v18) ?h18 hHeld ?r18
        case h18 => (intro w hSw; (try dsimp only at hSw); go_simp; try with_reducible rfl)
        try simp only [Act.put, List.setIfInBounds_toArray, List.set_cons_zero, List.set_cons_succ]
        refine tkH (i := 4) (oi := o74_8_4) (v := ?v19) ?h19 hHeld ?r19
        case h19 => (intro w hSw; (try dsimp only at hSw); go_simp; try with_reducible rfl)
        try simp only [Act.put, List.setIfInBounds_toArray, List.set_cons_zero, List.set_cons_succ]
        refine tkH (i := 6) (oi := o74_8_6) (v := ?v20) ?h20 hHeld ?r20
        case h20 => (intro w hSw; (try dsimp only at hSw); go_simp; try with_reducible rfl)
        try simp only [Act.put, List.setIfInBounds_toArray, List.set_cons_zero, List.set_cons_succ]
        refine tkH (i := 7) (oi := o74_8_7) (v := ?v21) ?h21 hHeld ?r21
        case h21 => (intro w hSw; (try dsimp only at hSw); go_simp; try with_reducible rfl)
        try simp only [Act.put, List.setIfInBounds_toArray, List.set_cons_zero, List.set_cons_succ]
        refine tkH (i := 8) (oi := o74_8_8) (v := ?v22) ?h22 hHeld ?r22
        case h22 => (intro w hSw; (try dsimp only at hSw); go_simp; try with_reducible rfl)
        try simp only [Act.put, List.setIfInBounds_toArray, List.set_cons_zero, List.set_cons_succ]
        refine tkH (i := 10) (oi := o74_8_10) (v := ?v23) ?h23 hHeld ?r23
        case h23 => (intro w hSw; (try dsimp only at hSw); go_simp; try with_reducible rfl)
        try simp only [Act.put, List.setIfInBounds_toArray, List.set_cons_zero, List.set_cons_succ]
        refine wpAnyH_ready (rs := [1, 5]) (by kernel_rfl) (by simp) ?_
        refine (AllReadyH.cons (o := o74_8_1) rfl (fun K hK => ?_) (AllReadyH.cons (o := o74_8_5) rfl (fun K hK => ?_) AllReadyH.nil))
        ·
         obtain ⟨q0', q1', q2', q3'⟩ := cellsX HX7.out
         go_simp
         clear q0' q1' q2' q3'
         have hS := (cellsX HX7.out).1
         clear hHeld
         refine hK.out _ _ hS (fun hHeld => ?_)
         clear hK K
         try simp only [Act.put, List.setIfInBounds_toArray, List.set_cons_zero, List.set_cons_succ]
         clear hS
         refine wpAnyH_ready (rs := [5]) (by kernel_rfl) (by simp) ?_
         refine (AllReadyH.cons (o := o74_8_5) rfl (fun K hK => ?_) AllReadyH.nil)
         obtain ⟨s8, hs8⟩ := HA7.out.cu
         go_simp
         go_at_call 30
         refine Calls.mono (HPN.out _ s8 hs8) ?_
         rintro e v8 ⟨r1, t8, rfl, hr1, hO, hC⟩
         obtain ⟨HA8, HX8, HG8⟩ := pk3 hlt HA7 HX7 HG7 hO hC (by omega)
         clear hO hC hs8 HA7 HX7 HG7
         have hS := (cellsX HX8.out).1
         clear hHeld
         refine hK.out _ _ hS (fun hHeld => ?_)
         clear hK K
         try simp only [Act.put, List.setIfInBounds_toArray, List.set_cons_zero, List.set_cons_succ]
         clear hS
         refine wpAnyH_ready (rs := [9]) (by kernel_rfl) (by simp) ?_
         refine (AllReadyH.cons (o := o74_8_9) rfl (fun K hK => ?_) AllReadyH.nil)
         obtain ⟨s9, hs9⟩ := HA8.out.cu
         go_simp
         go_at_call 30
         refine Calls.mono (HPN.out _ s9 hs9) ?_
         rintro e v9 ⟨r2, t9, rfl, hr2, hO, hC⟩
         obtain ⟨HA9, HX9, HG9⟩ := pk3 hlt HA8 HX8 HG8 hO hC (by omega)
         clear hO hC hs9 HA8 HX8 HG8
         have hS := (cellsX HX9.out).1
         clear hHeld
         refine hK.out _ _ hS (fun hHeld => ?_)
         clear hK K
         try simp only [Act.put, List.setIfInBounds_toArray, List.set_cons_zero, List.set_cons_succ]
         clear hS
         refine tkH (i := 11) (oi := o74_8_11) (v := ?v24) ?h24 hHeld ?r24
         case h24 => (intro w hSw; (try dsimp only at hSw); go_simp; try with_reducible rfl)
         try simp only [Act.put, List.setIfInBounds_toArray, List.set_cons_zero, List.set_cons_succ]
         refine wpAnyH_ready (rs := [12]) (by kernel_rfl) (by simp) ?_
         refine (AllReadyH.cons (o := o74_8_12) rfl (fun K hK => ?_) AllReadyH.nil)
         go_simp
         have hb := bel_alloc (v9) (.cells #[.int .i64 (r1 : Nat), .int .i64 (r2 : Nat), .int .i64 1] 74)
         obtain ⟨HA10, HX10, HG10⟩ := st3 HA9 HX9 HG9 hb
         have HS := (show Hid (SrcR ((v9).alloc (.cells #[.int .i64 (r1 : Nat), .int .i64 (r2 : Nat), .int .i64 1] 74)) 74 3 (.slice (some ⟨(v9).heap.size, 0, none⟩) 1 1) 1 [.int .i64 (r1 : Nat), .int .i64 (r2 : Nat), .int .i64 1]) from src3 _ _ _ _ _)
         clear hb HA9 HX9 HG9
         have hS := (cellsX HX10.out).1
         clear hHeld
         refine hK.out _ _ hS (fun hHeld => ?_)
         clear hK K
         try simp only [Act.put, List.setIfInBounds_toArray, List.set_cons_zero, List.set_cons_succ]
         clear hS
         generalize (v9).alloc (.cells #[.int .i64 (r1 : Nat), .int .i64 (r2 : Nat), .int .i64 1] 74) = W10 at *
         generalize hga : (v9).heap.size = ga at *
         clear hga
         refine wpAnyH_ready (rs := [13]) (by kernel_rfl) (by simp) ?_
         refine (AllReadyH.cons (o := o74_8_13) rfl (fun K hK => ?_) AllReadyH.nil)
         refine stepE _ rfl (.tmp 23) (.tmp 34) rfl (by simp [Act.eval, Act.put]) HG10.out.e (by simp [Act.eval, Act.put]) HS.out (by omega) HA10.out.size ?_
         intro aN pN wN hown hgr hat
         obtain ⟨HA11, HX11, HG11⟩ := ap1 hlt HA10 HX10 HG10 ⟨(r1 : Nat), (r2 : Nat), 1⟩ hown hgr (by omega)
         clear HS hown hgr hat HA10 HX10 HG10
         have hS := (cellsX HX11.out).1
         clear hHeld
         refine hK.out _ _ hS (fun hHeld => ?_)
         clear hK K
         try simp only [Act.put, List.setIfInBounds_toArray, List.set_cons_zero, List.set_cons_succ]
         clear hS
         refine tkH (i := 14) (oi := o74_8_14) (v := ?v25) ?h25 hHeld ?r25
         case h25 => (intro w hSw; (try dsimp only at hSw); go_simp; try with_reducible rfl)
         try simp only [Act.put, List.setIfInBounds_toArray, List.set_cons_zero, List.set_cons_succ]
         refine wpAnyH_ready (rs := [15]) (by kernel_rfl) (by simp) ?_
         refine (AllReadyH.cons (o := o74_8_15) rfl (fun K hK => ?_) AllReadyH.nil)
         obtain ⟨q0', q1', q2', q3'⟩ := cellsX HX11.out
         have f1 := HX11.out.frozen 1
         obtain ⟨HA12, HX12, HG12⟩ := so1 (.slice aN (G.edges.length + 1) pN) hlt (by omega) HA11 HX11 HG11
         go_simp
         clear q0' q1' q2' q3' f1
         clear  HA11 HX11 HG11
         have hS := (cellsX HX12.out).1
         clear hHeld
         refine hK.out _ _ hS (fun hHeld => ?_)
         clear hK K
         try simp only [Act.put, List.setIfInBounds_toArray, List.set_cons_zero, List.set_cons_succ]
         refine wpAnyH_done (by kernel_rfl) ?_ _
         clear hS hHeld
         go_wp2_with fail
         exact ⟨⟨m - 1, ⟨G.scopes, G.edges ++ [⟨(r1 : Nat), (r2 : Nat), 1⟩], G.decls, G.refs⟩, (.slice aN (G.edges.length + 1) pN), v2, v3, by first | go_num | (rw [hsub]), hsc, by (simp only [List.length_append, List.length_singleton]; omega), by (first | omega | (simp only [List.length_append, List.length_singleton]; omega)), by (first | omega | (simp only [List.length_append, List.length_singleton]; omega)), by (first | omega | (simp only [List.length_append, List.length_singleton]; omega)), HA12, HX12, HG12⟩, by simp [intOf]; omega⟩
        ·
         obtain ⟨s8, hs8⟩ := HA7.out.cu
         go_simp
         go_at_call 30
         refine Calls.mono (HPN.out _ s8 hs8) ?_
         rintro e v8 ⟨r1, t8, rfl, hr1, hO, hC⟩
         obtain ⟨HA8, HX8, HG8⟩ := pk3 hlt HA7 HX7 HG7 hO hC (by omega)
         clear hO hC hs8 HA7 HX7 HG7
         have hS := (cellsX HX8.out).1
         clear hHeld
         refine hK.out _ _ hS (fun hHeld => ?_)
         clear hK K
         try simp only [Act.put, List.setIfInBounds_toArray, List.set_cons_zero, List.set_cons_succ]
         clear hS
         refine wpAnyH_ready (rs := [1, 9]) (by kernel_rfl) (by simp) ?_
         refine (AllReadyH.cons (o := o74_8_1) rfl (fun K hK => ?_) (AllReadyH.cons (o := o74_8_9) rfl (fun K hK => ?_) AllReadyH.nil))
         ·
          obtain ⟨q0', q1', q2', q3'⟩ := cellsX HX8.out
          go_simp
          clear q0' q1' q2' q3'
          have hS := (cellsX HX8.out).1
          clear hHeld
          refine hK.out _ _ hS (fun hHeld => ?_)
          clear hK K
          try simp only [Act.put, List.setIfInBounds_toArray, List.set_cons_zero, List.set_cons_succ]
          clear hS
          refine wpAnyH_ready (rs := [9]) (by kernel_rfl) (by simp) ?_
          refine (AllReadyH.cons (o := o74_8_9) rfl (fun K hK => ?_) AllReadyH.nil)
          obtain ⟨s9, hs9⟩ := HA8.out.cu
          go_simp
          go_at_call 30
          refine Calls.mono (HPN.out _ s9 hs9) ?_
          rintro e v9 ⟨r2, t9, rfl, hr2, hO, hC⟩
          obtain ⟨HA9, HX9, HG9⟩ := pk3 hlt HA8 HX8 HG8 hO hC (by omega)
          clear hO hC hs9 HA8 HX8 HG8
          have hS := (cellsX HX9.out).1
          clear hHeld
          refine hK.out _ _ hS (fun hHeld => ?_)
          clear hK K
          try simp only [Act.put, List.setIfInBounds_toArray, List.set_cons_zero, List.set_cons_succ]
          clear hS
          refine tkH (i := 11) (oi := o74_8_11) (v := ?v26) ?h26 hHeld ?r26
          case h26 => (intro w hSw; (try dsimp only at hSw); go_simp; try with_reducible rfl)
          try simp only [Act.put, List.setIfInBounds_toArray, List.set_cons_zero, List.set_cons_succ]
          refine wpAnyH_ready (rs := [12]) (by kernel_rfl) (by simp) ?_
          refine (AllReadyH.cons (o := o74_8_12) rfl (fun K hK => ?_) AllReadyH.nil)
          go_simp
          have hb := bel_alloc (v9) (.cells #[.int .i64 (r1 : Nat), .int .i64 (r2 : Nat), .int .i64 1] 74)
          obtain ⟨HA10, HX10, HG10⟩ := st3 HA9 HX9 HG9 hb
          have HS := (show Hid (SrcR ((v9).alloc (.cells #[.int .i64 (r1 : Nat), .int .i64 (r2 : Nat), .int .i64 1] 74)) 74 3 (.slice (some ⟨(v9).heap.size, 0, none⟩) 1 1) 1 [.int .i64 (r1 : Nat), .int .i64 (r2 : Nat), .int .i64 1]) from src3 _ _ _ _ _)
          clear hb HA9 HX9 HG9
          have hS := (cellsX HX10.out).1
          clear hHeld
          refine hK.out _ _ hS (fun hHeld => ?_)
          clear hK K
          try simp only [Act.put, List.setIfInBounds_toArray, List.set_cons_zero, List.set_cons_succ]
          clear hS
          generalize (v9).alloc (.cells #[.int .i64 (r1 : Nat), .int .i64 (r2 : Nat), .int .i64 1] 74) = W10 at *
          generalize hga : (v9).heap.size = ga at *
          clear hga
          refine wpAnyH_ready (rs := [13]) (by kernel_rfl) (by simp) ?_
          refine (AllReadyH.cons (o := o74_8_13) rfl (fun K hK => ?_) AllReadyH.nil)
          refine stepE _ rfl (.tmp 23) (.tmp 34) rfl (by simp [Act.eval, Act.put]) HG10.out.e (by simp [Act.eval, Act.put]) HS.out (by omega) HA10.out.size ?_
          intro aN pN wN hown hgr hat
          obtain ⟨HA11, HX11, HG11⟩ := ap1 hlt HA10 HX10 HG10 ⟨(r1 : Nat), (r2 : Nat), 1⟩ hown hgr (by omega)
          clear HS hown hgr hat HA10 HX10 HG10
          have hS := (cellsX HX11.out).1
          clear hHeld
          refine hK.out _ _ hS (fun hHeld => ?_)
          clear hK K
          try simp only [Act.put, List.setIfInBounds_toArray, List.set_cons_zero, List.set_cons_succ]
          clear hS
          refine tkH (i := 14) (oi := o74_8_14) (v := ?v27) ?h27 hHeld ?r27
          case h27 => (intro w hSw; (try dsimp only at hSw); go_simp; try with_reducible rfl)
          try simp only [Act.put, List.setIfInBounds_toArray, List.set_cons_zero, List.set_cons_succ]
          refine wpAnyH_ready (rs := [15]) (by kernel_rfl) (by simp) ?_
          refine (AllReadyH.cons (o := o74_8_15) rfl (fun K hK => ?_) AllReadyH.nil)
          obtain ⟨q0', q1', q2', q3'⟩ := cellsX HX11.out
          have f1 := HX11.out.frozen 1
          obtain ⟨HA12, HX12, HG12⟩ := so1 (.slice aN (G.edges.length + 1) pN) hlt (by omega) HA11 HX11 HG11
          go_simp
          clear q0' q1' q2' q3' f1
          clear  HA11 HX11 HG11
          have hS := (cellsX HX12.out).1
          clear hHeld
          refine hK.out _ _ hS (fun hHeld => ?_)
          clear hK K
          try simp only [Act.put, List.setIfInBounds_toArray, List.set_cons_zero, List.set_cons_succ]
          refine wpAnyH_done (by kernel_rfl) ?_ _
          clear hS hHeld
          go_wp2_with fail
          exact ⟨⟨m - 1, ⟨G.scopes, G.edges ++ [⟨(r1 : Nat), (r2 : Nat), 1⟩], G.decls, G.refs⟩, (.slice aN (G.edges.length + 1) pN), v2, v3, by first | go_num | (rw [hsub]), hsc, by (simp only [List.length_append, List.length_singleton]; omega), by (first | omega | (simp only [List.length_append, List.length_singleton]; omega)), by (first | omega | (simp only [List.length_append, List.length_singleton]; omega)), by (first | omega | (simp only [List.length_append, List.length_singleton]; omega)), HA12, HX12, HG12⟩, by simp [intOf]; omega⟩
         ·
          obtain ⟨s9, hs9⟩ := HA8.out.cu
          go_simp
          go_at_call 30
          refine Calls.mono (HPN.out _ s9 hs9) ?_
          rintro e v9 ⟨r2, t9, rfl, hr2, hO, hC⟩
          obtain ⟨HA9, HX9, HG9⟩ := pk3 hlt HA8 HX8 HG8 hO hC (by omega)
          clear hO hC hs9 HA8 HX8 HG8
          have hS := (cellsX HX9.out).1
          clear hHeld
          refine hK.out _ _ hS (fun hHeld => ?_)
          clear hK K
          try simp only [Act.put, List.setIfInBounds_toArray, List.set_cons_zero, List.set_cons_succ]
          clear hS
          refine tkH (i := 11) (oi := o74_8_11) (v := ?v28) ?h28 hHeld ?r28
          case h28 => (intro w hSw; (try dsimp only at hSw); go_simp; try with_reducible rfl)
          try simp only [Act.put, List.setIfInBounds_toArray, List.set_cons_zero, List.set_cons_succ]
          refine wpAnyH_ready (rs := [1, 12]) (by kernel_rfl) (by simp) ?_
          refine (AllReadyH.cons (o := o74_8_1) rfl (fun K hK => ?_) (AllReadyH.cons (o := o74_8_12) rfl (fun K hK => ?_) AllReadyH.nil))
          ·
           obtain ⟨q0', q1', q2', q3'⟩ := cellsX HX9.out
           go_simp
           clear q0' q1' q2' q3'
           have hS := (cellsX HX9.out).1
           clear hHeld
           refine hK.out _ _ hS (fun hHeld => ?_)
           clear hK K
           try simp only [Act.put, List.setIfInBounds_toArray, List.set_cons_zero, List.set_cons_succ]
           clear hS
           refine wpAnyH_ready (rs := [12]) (by kernel_rfl) (by simp) ?_
           refine (AllReadyH.cons (o := o74_8_12) rfl (fun K hK => ?_) AllReadyH.nil)
           go_simp
           have hb := bel_alloc (v9) (.cells #[.int .i64 (r1 : Nat), .int .i64 (r2 : Nat), .int .i64 1] 74)
           obtain ⟨HA10, HX10, HG10⟩ := st3 HA9 HX9 HG9 hb
           have HS := (show Hid (SrcR ((v9).alloc (.cells #[.int .i64 (r1 : Nat), .int .i64 (r2 : Nat), .int .i64 1] 74)) 74 3 (.slice (some ⟨(v9).heap.size, 0, none⟩) 1 1) 1 [.int .i64 (r1 : Nat), .int .i64 (r2 : Nat), .int .i64 1]) from src3 _ _ _ _ _)
           clear hb HA9 HX9 HG9
           have hS := (cellsX HX10.out).1
           clear hHeld
           refine hK.out _ _ hS (fun hHeld => ?_)
           clear hK K
           try simp only [Act.put, List.setIfInBounds_toArray, List.set_cons_zero, List.set_cons_succ]
           clear hS
           generalize (v9).alloc (.cells #[.int .i64 (r1 : Nat), .int .i64 (r2 : Nat), .int .i64 1] 74) = W10 at *
           generalize hga : (v9).heap.size = ga at *
           clear hga
           refine wpAnyH_ready (rs := [13]) (by kernel_rfl) (by simp) ?_
           refine (AllReadyH.cons (o := o74_8_13) rfl (fun K hK => ?_) AllReadyH.nil)
           refine stepE _ rfl (.tmp 23) (.tmp 34) rfl (by simp [Act.eval, Act.put]) HG10.out.e (by simp [Act.eval, Act.put]) HS.out (by omega) HA10.out.size ?_
           intro aN pN wN hown hgr hat
           obtain ⟨HA11, HX11, HG11⟩ := ap1 hlt HA10 HX10 HG10 ⟨(r1 : Nat), (r2 : Nat), 1⟩ hown hgr (by omega)
           clear HS hown hgr hat HA10 HX10 HG10
           have hS := (cellsX HX11.out).1
           clear hHeld
           refine hK.out _ _ hS (fun hHeld => ?_)
           clear hK K
           try simp only [Act.put, List.setIfInBounds_toArray, List.set_cons_zero, List.set_cons_succ]
           clear hS
           refine tkH (i := 14) (oi := o74_8_14) (v := ?v29) ?h29 hHeld ?r29
           case h29 => (intro w hSw; (try dsimp only at hSw); go_simp; try with_reducible rfl)
           try simp only [Act.put, List.setIfInBounds_toArray, List.set_cons_zero, List.set_cons_succ]
           refine wpAnyH_ready (rs := [15]) (by kernel_rfl) (by simp) ?_
           refine (AllReadyH.cons (o := o74_8_15) rfl (fun K hK => ?_) AllReadyH.nil)
           obtain ⟨q0', q1', q2', q3'⟩ := cellsX HX11.out
           have f1 := HX11.out.frozen 1
           obtain ⟨HA12, HX12, HG12⟩ := so1 (.slice aN (G.edges.length + 1) pN) hlt (by omega) HA11 HX11 HG11
           go_simp
           clear q0' q1' q2' q3' f1
           clear  HA11 HX11 HG11
           have hS := (cellsX HX12.out).1
           clear hHeld
           refine hK.out _ _ hS (fun hHeld => ?_)
           clear hK K
           try simp only [Act.put, List.setIfInBounds_toArray, List.set_cons_zero, List.set_cons_succ]
           refine wpAnyH_done (by kernel_rfl) ?_ _
           clear hS hHeld
           go_wp2_with fail
           exact ⟨⟨m - 1, ⟨G.scopes, G.edges ++ [⟨(r1 : Nat), (r2 : Nat), 1⟩], G.decls, G.refs⟩, (.slice aN (G.edges.length + 1) pN), v2, v3, by first | go_num | (rw [hsub]), hsc, by (simp only [List.length_append, List.length_singleton]; omega), by (first | omega | (simp only [List.length_append, List.length_singleton]; omega)), by (first | omega | (simp only [List.length_append, List.length_singleton]; omega)), by (first | omega | (simp only [List.length_append, List.length_singleton]; omega)), HA12, HX12, HG12⟩, by simp [intOf]; omega⟩
          ·
           go_simp
           have hb := bel_alloc (v9) (.cells #[.int .i64 (r1 : Nat), .int .i64 (r2 : Nat), .int .i64 1] 74)
           obtain ⟨HA10, HX10, HG10⟩ := st3 HA9 HX9 HG9 hb
           have HS := (show Hid (SrcR ((v9).alloc (.cells #[.int .i64 (r1 : Nat), .int .i64 (r2 : Nat), .int .i64 1] 74)) 74 3 (.slice (some ⟨(v9).heap.size, 0, none⟩) 1 1) 1 [.int .i64 (r1 : Nat), .int .i64 (r2 : Nat), .int .i64 1]) from src3 _ _ _ _ _)
           clear hb HA9 HX9 HG9
           have hS := (cellsX HX10.out).1
           clear hHeld
           refine hK.out _ _ hS (fun hHeld => ?_)
           clear hK K
           try simp only [Act.put, List.setIfInBounds_toArray, List.set_cons_zero, List.set_cons_succ]
           clear hS
           generalize (v9).alloc (.cells #[.int .i64 (r1 : Nat), .int .i64 (r2 : Nat), .int .i64 1] 74) = W10 at *
           generalize hga : (v9).heap.size = ga at *
           clear hga
           refine wpAnyH_ready (rs := [1]) (by kernel_rfl) (by simp) ?_
           refine (AllReadyH.cons (o := o74_8_1) rfl (fun K hK => ?_) AllReadyH.nil)
           obtain ⟨q0', q1', q2', q3'⟩ := cellsX HX10.out
           go_simp
           clear q0' q1' q2' q3'
           have hS := (cellsX HX10.out).1
           clear hHeld
           refine hK.out _ _ hS (fun hHeld => ?_)
           clear hK K
           try simp only [Act.put, List.setIfInBounds_toArray, List.set_cons_zero, List.set_cons_succ]
           clear hS
           refine wpAnyH_ready (rs := [13]) (by kernel_rfl) (by simp) ?_
           refine (AllReadyH.cons (o := o74_8_13) rfl (fun K hK => ?_) AllReadyH.nil)
           refine stepE _ rfl (.tmp 23) (.tmp 34) rfl (by simp [Act.eval, Act.put]) HG10.out.e (by simp [Act.eval, Act.put]) HS.out (by omega) HA10.out.size ?_
           intro aN pN wN hown hgr hat
           obtain ⟨HA11, HX11, HG11⟩ := ap1 hlt HA10 HX10 HG10 ⟨(r1 : Nat), (r2 : Nat), 1⟩ hown hgr (by omega)
           clear HS hown hgr hat HA10 HX10 HG10
           have hS := (cellsX HX11.out).1
           clear hHeld
           refine hK.out _ _ hS (fun hHeld => ?_)
           clear hK K
           try simp only [Act.put, List.setIfInBounds_toArray, List.set_cons_zero, List.set_cons_succ]
           clear hS
           refine tkH (i := 14) (oi := o74_8_14) (v := ?v30) ?h30 hHeld ?r30
           case h30 => (intro w hSw; (try dsimp only at hSw); go_simp; try with_reducible rfl)
           try simp only [Act.put, List.setIfInBounds_toArray, List.set_cons_zero, List.set_cons_succ]
           refine wpAnyH_ready (rs := [15]) (by kernel_rfl) (by simp) ?_
           refine (AllReadyH.cons (o := o74_8_15) rfl (fun K hK => ?_) AllReadyH.nil)
           obtain ⟨q0', q1', q2', q3'⟩ := cellsX HX11.out
           have f1 := HX11.out.frozen 1
           obtain ⟨HA12, HX12, HG12⟩ := so1 (.slice aN (G.edges.length + 1) pN) hlt (by omega) HA11 HX11 HG11
           go_simp
           clear q0' q1' q2' q3' f1
           clear  HA11 HX11 HG11
           have hS := (cellsX HX12.out).1
           clear hHeld
           refine hK.out _ _ hS (fun hHeld => ?_)
           clear hK K
           try simp only [Act.put, List.setIfInBounds_toArray, List.set_cons_zero, List.set_cons_succ]
           refine wpAnyH_done (by kernel_rfl) ?_ _
           clear hS hHeld
           go_wp2_with fail
           exact ⟨⟨m - 1, ⟨G.scopes, G.edges ++ [⟨(r1 : Nat), (r2 : Nat), 1⟩], G.decls, G.refs⟩, (.slice aN (G.edges.length + 1) pN), v2, v3, by first | go_num | (rw [hsub]), hsc, by (simp only [List.length_append, List.length_singleton]; omega), by (first | omega | (simp only [List.length_append, List.length_singleton]; omega)), by (first | omega | (simp only [List.length_append, List.length_singleton]; omega)), by (first | omega | (simp only [List.length_append, List.length_singleton]; omega)), HA12, HX12, HG12⟩, by simp [intOf]; omega⟩
    case neg =>
      obtain rfl : m = 0 := by omega
      have hb := bel_alloc wr (.cells #[.string ⟨#[120]⟩, .string ⟨#[121]⟩, .string ⟨#[122]⟩] 9)
      obtain ⟨s6, hs6⟩ := (HA5.out.still hb).cu
      have HCL := (show Hid _ from pickE 8 _ hs6 (by decide))
      clear hs6
      obtain ⟨HA6, HX6, HG6⟩ := st3 HA5 HX5 HG5 hb
      have HN6 := (show Hid (Box (wr.alloc (.cells #[.string ⟨#[120]⟩, .string ⟨#[121]⟩, .string ⟨#[122]⟩] 9)) wr.heap.size 9 [.string ⟨#[120]⟩, .string ⟨#[121]⟩, .string ⟨#[122]⟩]) from Box.new wr 9 [.string ⟨#[120]⟩, .string ⟨#[121]⟩, .string ⟨#[122]⟩])
      have hgn : w1.heap.size < wr.heap.size := HX5.out.lt
      clear HA5 HX5 HG5 hb HA3 HX3 HG3
      go_wp2_with fail
      refine Calls.mono HCL.out ?_
      rintro e w7 ⟨k2, s7, rfl, hk2, hO, hC⟩
      have hk2 : k2 < 8 := hk2 (by omega)
      obtain ⟨HA7, HX7, HG7⟩ := pk3 hlt HA6 HX6 HG6 hO hC (by omega)
      have HN7 := hBoxO HN6 hO (by omega)
      clear HCL hO hC HA6 HX6 HG6 HN6
      generalize hgn0 : wr.heap.size = gn at *
      clear hgn0
      obtain ⟨L1, hL1⟩ : ∃ L1, L1 = G := ⟨_, rfl⟩
      clear hL1
      go_wp2_with fail
      go_loopw [7] (fun i wr => ∃ (m : Nat) (G : DSg) (v1 v2 v3 : Value), i = .int .i64 (m : Nat) ∧ G.scopes = 1 + (q : Int) ∧ G.decls.length + m ≤ 8 ∧ G.edges.length ≤ 8 ∧ G.decls.length ≤ 8 ∧ G.refs.length ≤ 0 ∧ Hid (AtS cs a cap b off c w wr) ∧ Hid (Box wr w1.heap.size 27 [.int .i64 (1 + (q : Int)), v1, v2, v3]) ∧ Hid (Gro (w.heap.size + 1) wr G v1 v2 v3) ∧ Hid (Box wr gn 9 [.string ⟨#[120]⟩, .string ⟨#[121]⟩, .string ⟨#[122]⟩])) (fun i _ => (intOf i).toNat)
      case atStart => exact ⟨k2, G, v1, v2, v3, rfl, hsc, by omega, by omega, by omega, by omega, HA7.out, HX7.out, HG7.out, HN7.out⟩
      case round =>
        obtain ⟨m, G, v1, v2, v3, rfl, hsc, hm, hm1, hm2, hm3, HA5, HX5, HG5, HN5⟩ := hrel
        by_cases hpos : 0 < m
        case pos =>
          have hpos' : (0 : Int) < (m : Int) := by omega
          have hmi : (m : Int) ≤ 8 := by omega
          have hsub : (m : Int) - 1 = ((m - 1 : Nat) : Int) := by omega
          go_wp2_with fail
          have hb : Below wr.heap.size wr wr.drew := (Below.refl _ _).drew
          obtain ⟨HA6, HX6, HG6⟩ := st3 HA5 HX5 HG5 hb
          have HN6 := hBox HN5 hb
          clear hb HA5 HX5 HG5 HN5
          have hS := (cellsX HX6.out).1
          refine wp_region_held_drew (S := (fun wq => wq.cell? ⟨w1.heap.size, 0, none⟩ = some (.int .i64 (1 + (q : Int))))) (by kernel_rfl) hS (fun hHeld => ?_)
          clear hS
          generalize wr.drew = WR at *
          refine tkH (i := 0) (oi := o74_13_0) (v := ?v31) ?h31 hHeld ?r31
          case h31 => (intro w hSw; (try dsimp only at hSw); go_simp; try with_reducible rfl)
          try simp only [Act.put, List.setIfInBounds_toArray, List.set_cons_zero, List.set_cons_succ]
          refine tkH (i := 2) (oi := o74_13_2) (v := ?v32) ?h32 hHeld ?r32
          case h32 => (intro w hSw; (try dsimp only at hSw); go_simp; try with_reducible rfl)
          try simp only [Act.put, List.setIfInBounds_toArray, List.set_cons_zero, List.set_cons_succ]
          refine tkH (i := 3) (oi := o74_13_3) (v := ?v33) ?h33 hHeld ?r33
          case h33 => (intro w hSw; (try dsimp only at hSw); go_simp; try with_reducible rfl)
          try simp only [Act.put, List.setIfInBounds_toArray, List.set_cons_zero, List.set_cons_succ]
          refine tkH (i := 4) (oi := o74_13_4) (v := ?v34) ?h34 hHeld ?r34
          case h34 => (intro w hSw; (try dsimp only at hSw); go_simp; try with_reducible rfl)
          try simp only [Act.put, List.setIfInBounds_toArray, List.set_cons_zero, List.set_cons_succ]
          refine tkH (i := 6) (oi := o74_13_6) (v := ?v35) ?h35 hHeld ?r35
          case h35 => (intro w hSw; (try dsimp only at hSw); go_simp; try with_reducible rfl)
          try simp only [Act.put, List.setIfInBounds_toArray, List.set_cons_zero, List.set_cons_succ]
          refine tkH (i := 7) (oi := o74_13_7) (v := ?v36) ?h36 hHeld ?r36
          case h36 => (intro w hSw; (try dsimp only at hSw); go_simp; try with_reducible rfl)
          try simp only [Act.put, List.setIfInBounds_toArray, List.set_cons_zero, List.set_cons_succ]
          refine wpAnyH_ready (rs := [1, 5]) (by kernel_rfl) (by simp) ?_
          refine (AllReadyH.cons (o := o74_13_1) rfl (fun K hK => ?_) (AllReadyH.cons (o := o74_13_5) rfl (fun K hK => ?_) AllReadyH.nil))
          ·
           obtain ⟨q0', q1', q2', q3'⟩ := cellsX HX6.out
           go_simp
           clear q0' q1' q2' q3'
           have hS := (cellsX HX6.out).1
           clear hHeld
           refine hK.out _ _ hS (fun hHeld => ?_)
           clear hK K
           try simp only [Act.put, List.setIfInBounds_toArray, List.set_cons_zero, List.set_cons_succ]
           clear hS
           refine wpAnyH_ready (rs := [5]) (by kernel_rfl) (by simp) ?_
           refine (AllReadyH.cons (o := o74_13_5) rfl (fun K hK => ?_) AllReadyH.nil)
           obtain ⟨s7, hs7⟩ := HA6.out.cu
           go_simp
           go_at_call 30
           refine Calls.mono (HPN.out _ s7 hs7) ?_
           rintro e v7 ⟨r1, t7, rfl, hr1, hO, hC⟩
           obtain ⟨HA7, HX7, HG7⟩ := pk3 hlt HA6 HX6 HG6 hO hC (by omega)
           have HN7 := hBoxO HN6 hO (by omega)
           clear hO hC hs7 HA6 HX6 HG6 HN6
           have hS := (cellsX HX7.out).1
           clear hHeld
           refine hK.out _ _ hS (fun hHeld => ?_)
           clear hK K
           try simp only [Act.put, List.setIfInBounds_toArray, List.set_cons_zero, List.set_cons_succ]
           clear hS
           refine wpAnyH_ready (rs := [8]) (by kernel_rfl) (by simp) ?_
           refine (AllReadyH.cons (o := o74_13_8) rfl (fun K hK => ?_) AllReadyH.nil)
           obtain ⟨s8, hs8⟩ := HA7.out.cu
           go_simp
           go_at_call 30
           refine Calls.mono (pickE 3 _ hs8 (by decide)) ?_
           rintro e v8 ⟨r2, t8, rfl, hr2, hO, hC⟩
           obtain ⟨HA8, HX8, HG8⟩ := pk3 hlt HA7 HX7 HG7 hO hC (by omega)
           have HN8 := hBoxO HN7 hO (by omega)
           clear hO hC hs8 HA7 HX7 HG7 HN7
           have hr2 : r2 < 3 := hr2 (by omega)
           have hr2i : (r2 : Int) < 3 := by omega
           have hS := (cellsX HX8.out).1
           clear hHeld
           refine hK.out _ _ hS (fun hHeld => ?_)
           clear hK K
           try simp only [Act.put, List.setIfInBounds_toArray, List.set_cons_zero, List.set_cons_succ]
           clear hS
           refine tkH (i := 9) (oi := o74_13_9) (v := ?v37) ?h37 hHeld ?r37
           case h37 => (intro w hSw; (try dsimp only at hSw); go_simp; try with_reducible rfl)
           try simp only [Act.put, List.setIfInBounds_toArray, List.set_cons_zero, List.set_cons_succ]
           refine wpAnyH_ready (rs := [10]) (by kernel_rfl) (by simp) ?_
           refine (AllReadyH.cons (o := o74_13_10) rfl (fun K hK => ?_) AllReadyH.nil)
           have x5 := xyzQ_at HN8.out hr2
           go_simp
           clear x5
           have hS := (cellsX HX8.out).1
           clear hHeld
           refine hK.out _ _ hS (fun hHeld => ?_)
           clear hK K
           try simp only [Act.put, List.setIfInBounds_toArray, List.set_cons_zero, List.set_cons_succ]
           clear hS
           refine tkH (i := 11) (oi := o74_13_11) (v := ?v38) ?h38 hHeld ?r38
           case h38 => (intro w hSw; (try dsimp only at hSw); go_simp; try with_reducible rfl)
           try simp only [Act.put, List.setIfInBounds_toArray, List.set_cons_zero, List.set_cons_succ]
           refine wpAnyH_ready (rs := [12]) (by kernel_rfl) (by simp) ?_
           refine (AllReadyH.cons (o := o74_13_12) rfl (fun K hK => ?_) AllReadyH.nil)
           go_simp
           have hb := bel_alloc (v8) (.cells #[.int .i64 (r1 : Nat), .string (xyzQ r2)] 33)
           obtain ⟨HA9, HX9, HG9⟩ := st3 HA8 HX8 HG8 hb
           have HN9 := hBox HN8 hb
           have HS := (show Hid (SrcR ((v8).alloc (.cells #[.int .i64 (r1 : Nat), .string (xyzQ r2)] 33)) 33 2 (.slice (some ⟨(v8).heap.size, 0, none⟩) 1 1) 1 [.int .i64 (r1 : Nat), .string (xyzQ r2)]) from src2 _ _ _ _)
           clear hb HA8 HX8 HG8 HN8
           have hS := (cellsX HX9.out).1
           clear hHeld
           refine hK.out _ _ hS (fun hHeld => ?_)
           clear hK K
           try simp only [Act.put, List.setIfInBounds_toArray, List.set_cons_zero, List.set_cons_succ]
           clear hS
           generalize (v8).alloc (.cells #[.int .i64 (r1 : Nat), .string (xyzQ r2)] 33) = W9 at *
           generalize hga : (v8).heap.size = ga at *
           clear hga
           refine wpAnyH_ready (rs := [13]) (by kernel_rfl) (by simp) ?_
           refine (AllReadyH.cons (o := o74_13_13) rfl (fun K hK => ?_) AllReadyH.nil)
           refine stepS _ rfl (.tmp 45) (.tmp 56) rfl (by simp [Act.eval, Act.put]) HG9.out.d (by simp [Act.eval, Act.put]) HS.out (by omega) HA9.out.size ?_
           intro aN pN wN hown hgr hat
           obtain ⟨HA10, HX10, HG10⟩ := ap2 hlt HA9 HX9 HG9 ⟨(r1 : Nat), xyzQ r2⟩ (xyzQ_size _) hown hgr hat (by omega)
           have HN10 := hBoxG HN9 HG9.out.d hgr (by decide)
           clear HS hown hgr hat HA9 HX9 HG9 HN9
           have hS := (cellsX HX10.out).1
           clear hHeld
           refine hK.out _ _ hS (fun hHeld => ?_)
           clear hK K
           try simp only [Act.put, List.setIfInBounds_toArray, List.set_cons_zero, List.set_cons_succ]
           clear hS
           refine tkH (i := 14) (oi := o74_13_14) (v := ?v39) ?h39 hHeld ?r39
           case h39 => (intro w hSw; (try dsimp only at hSw); go_simp; try with_reducible rfl)
           try simp only [Act.put, List.setIfInBounds_toArray, List.set_cons_zero, List.set_cons_succ]
           refine wpAnyH_ready (rs := [15]) (by kernel_rfl) (by simp) ?_
           refine (AllReadyH.cons (o := o74_13_15) rfl (fun K hK => ?_) AllReadyH.nil)
           obtain ⟨q0', q1', q2', q3'⟩ := cellsX HX10.out
           have f2 := HX10.out.frozen 2
           obtain ⟨HA11, HX11, HG11⟩ := so2 (.slice aN (G.decls.length + 1) pN) hlt (by omega) HA10 HX10 HG10
           have HN11 := hBoxP (o := 2) (u := (.slice aN (G.decls.length + 1) pN)) (q := w1.heap.size) HN10 (by omega)
           go_simp
           clear q0' q1' q2' q3' f2
           clear  HA10 HX10 HG10 HN10
           have hS := (cellsX HX11.out).1
           clear hHeld
           refine hK.out _ _ hS (fun hHeld => ?_)
           clear hK K
           try simp only [Act.put, List.setIfInBounds_toArray, List.set_cons_zero, List.set_cons_succ]
           refine wpAnyH_done (by kernel_rfl) ?_ _
           clear hS hHeld
           go_wp2_with fail
           exact ⟨⟨m - 1, ⟨G.scopes, G.edges, G.decls ++ [⟨(r1 : Nat), xyzQ r2⟩], G.refs⟩, v1, (.slice aN (G.decls.length + 1) pN), v3, by first | go_num | (rw [hsub]), hsc, by (simp only [List.length_append, List.length_singleton]; omega), by (first | omega | (simp only [List.length_append, List.length_singleton]; omega)), by (first | omega | (simp only [List.length_append, List.length_singleton]; omega)), by (first | omega | (simp only [List.length_append, List.length_singleton]; omega)), HA11, HX11, HG11, HN11⟩, by simp [intOf]; omega⟩
          ·
           obtain ⟨s7, hs7⟩ := HA6.out.cu
           go_simp
           go_at_call 30
           refine Calls.mono (HPN.out _ s7 hs7) ?_
           rintro e v7 ⟨r1, t7, rfl, hr1, hO, hC⟩
           obtain ⟨HA7, HX7, HG7⟩ := pk3 hlt HA6 HX6 HG6 hO hC (by omega)
           have HN7 := hBoxO HN6 hO (by omega)
           clear hO hC hs7 HA6 HX6 HG6 HN6
           have hS := (cellsX HX7.out).1
           clear hHeld
           refine hK.out _ _ hS (fun hHeld => ?_)
           clear hK K
           try simp only [Act.put, List.setIfInBounds_toArray, List.set_cons_zero, List.set_cons_succ]
           clear hS
           refine wpAnyH_ready (rs := [1, 8]) (by kernel_rfl) (by simp) ?_
           refine (AllReadyH.cons (o := o74_13_1) rfl (fun K hK => ?_) (AllReadyH.cons (o := o74_13_8) rfl (fun K hK => ?_) AllReadyH.nil))
           ·
            obtain ⟨q0', q1', q2', q3'⟩ := cellsX HX7.out
            go_simp
            clear q0' q1' q2' q3'
            have hS := (cellsX HX7.out).1
            clear hHeld
            refine hK.out _ _ hS (fun hHeld => ?_)
            clear hK K
            try simp only [Act.put, List.setIfInBounds_toArray, List.set_cons_zero, List.set_cons_succ]
            clear hS
            refine wpAnyH_ready (rs := [8]) (by kernel_rfl) (by simp) ?_
            refine (AllReadyH.cons (o := o74_13_8) rfl (fun K hK => ?_) AllReadyH.nil)
            obtain ⟨s8, hs8⟩ := HA7.out.cu
            go_simp
            go_at_call 30
            refine Calls.mono (pickE 3 _ hs8 (by decide)) ?_
            rintro e v8 ⟨r2, t8, rfl, hr2, hO, hC⟩
            obtain ⟨HA8, HX8, HG8⟩ := pk3 hlt HA7 HX7 HG7 hO hC (by omega)
            have HN8 := hBoxO HN7 hO (by omega)
            clear hO hC hs8 HA7 HX7 HG7 HN7
            have hr2 : r2 < 3 := hr2 (by omega)
            have hr2i : (r2 : Int) < 3 := by omega
            have hS := (cellsX HX8.out).1
            clear hHeld
            refine hK.out _ _ hS (fun hHeld => ?_)
            clear hK K
            try simp only [Act.put, List.setIfInBounds_toArray, List.set_cons_zero, List.set_cons_succ]
            clear hS
            refine tkH (i := 9) (oi := o74_13_9) (v := ?v40) ?h40 hHeld ?r40
            case h40 => (intro w hSw; (try dsimp only at hSw); go_simp; try with_reducible rfl)
            try simp only [Act.put, List.setIfInBounds_toArray, List.set_cons_zero, List.set_cons_succ]
            refine wpAnyH_ready (rs := [10]) (by kernel_rfl) (by simp) ?_
            refine (AllReadyH.cons (o := o74_13_10) rfl (fun K hK => ?_) AllReadyH.nil)
            have x5 := xyzQ_at HN8.out hr2
            go_simp
            clear x5
            have hS := (cellsX HX8.out).1
            clear hHeld
            refine hK.out _ _ hS (fun hHeld => ?_)
            clear hK K
            try simp only [Act.put, List.setIfInBounds_toArray, List.set_cons_zero, List.set_cons_succ]
            clear hS
            refine tkH (i := 11) (oi := o74_13_11) (v := ?v41) ?h41 hHeld ?r41
            case h41 => (intro w hSw; (try dsimp only at hSw); go_simp; try with_reducible rfl)
            try simp only [Act.put, List.setIfInBounds_toArray, List.set_cons_zero, List.set_cons_succ]
            refine wpAnyH_ready (rs := [12]) (by kernel_rfl) (by simp) ?_
            refine (AllReadyH.cons (o := o74_13_12) rfl (fun K hK => ?_) AllReadyH.nil)
            go_simp
            have hb := bel_alloc (v8) (.cells #[.int .i64 (r1 : Nat), .string (xyzQ r2)] 33)
            obtain ⟨HA9, HX9, HG9⟩ := st3 HA8 HX8 HG8 hb
            have HN9 := hBox HN8 hb
            have HS := (show Hid (SrcR ((v8).alloc (.cells #[.int .i64 (r1 : Nat), .string (xyzQ r2)] 33)) 33 2 (.slice (some ⟨(v8).heap.size, 0, none⟩) 1 1) 1 [.int .i64 (r1 : Nat), .string (xyzQ r2)]) from src2 _ _ _ _)
            clear hb HA8 HX8 HG8 HN8
            have hS := (cellsX HX9.out).1
            clear hHeld
            refine hK.out _ _ hS (fun hHeld => ?_)
            clear hK K
            try simp only [Act.put, List.setIfInBounds_toArray, List.set_cons_zero, List.set_cons_succ]
            clear hS
            generalize (v8).alloc (.cells #[.int .i64 (r1 : Nat), .string (xyzQ r2)] 33) = W9 at *
            generalize hga : (v8).heap.size = ga at *
            clear hga
            refine wpAnyH_ready (rs := [13]) (by kernel_rfl) (by simp) ?_
            refine (AllReadyH.cons (o := o74_13_13) rfl (fun K hK => ?_) AllReadyH.nil)
            refine stepS _ rfl (.tmp 45) (.tmp 56) rfl (by simp [Act.eval, Act.put]) HG9.out.d (by simp [Act.eval, Act.put]) HS.out (by omega) HA9.out.size ?_
            intro aN pN wN hown hgr hat
            obtain ⟨HA10, HX10, HG10⟩ := ap2 hlt HA9 HX9 HG9 ⟨(r1 : Nat), xyzQ r2⟩ (xyzQ_size _) hown hgr hat (by omega)
            have HN10 := hBoxG HN9 HG9.out.d hgr (by decide)
            clear HS hown hgr hat HA9 HX9 HG9 HN9
            have hS := (cellsX HX10.out).1
            clear hHeld
            refine hK.out _ _ hS (fun hHeld => ?_)
            clear hK K
            try simp only [Act.put, List.setIfInBounds_toArray, List.set_cons_zero, List.set_cons_succ]
            clear hS
            refine tkH (i := 14) (oi := o74_13_14) (v := ?v42) ?h42 hHeld ?r42
            case h42 => (intro w hSw; (try dsimp only at hSw); go_simp; try with_reducible rfl)
            try simp only [Act.put, List.setIfInBounds_toArray, List.set_cons_zero, List.set_cons_succ]
            refine wpAnyH_ready (rs := [15]) (by kernel_rfl) (by simp) ?_
            refine (AllReadyH.cons (o := o74_13_15) rfl (fun K hK => ?_) AllReadyH.nil)
            obtain ⟨q0', q1', q2', q3'⟩ := cellsX HX10.out
            have f2 := HX10.out.frozen 2
            obtain ⟨HA11, HX11, HG11⟩ := so2 (.slice aN (G.decls.length + 1) pN) hlt (by omega) HA10 HX10 HG10
            have HN11 := hBoxP (o := 2) (u := (.slice aN (G.decls.length + 1) pN)) (q := w1.heap.size) HN10 (by omega)
            go_simp
            clear q0' q1' q2' q3' f2
            clear  HA10 HX10 HG10 HN10
            have hS := (cellsX HX11.out).1
            clear hHeld
            refine hK.out _ _ hS (fun hHeld => ?_)
            clear hK K
            try simp only [Act.put, List.setIfInBounds_toArray, List.set_cons_zero, List.set_cons_succ]
            refine wpAnyH_done (by kernel_rfl) ?_ _
            clear hS hHeld
            go_wp2_with fail
            exact ⟨⟨m - 1, ⟨G.scopes, G.edges, G.decls ++ [⟨(r1 : Nat), xyzQ r2⟩], G.refs⟩, v1, (.slice aN (G.decls.length + 1) pN), v3, by first | go_num | (rw [hsub]), hsc, by (simp only [List.length_append, List.length_singleton]; omega), by (first | omega | (simp only [List.length_append, List.length_singleton]; omega)), by (first | omega | (simp only [List.length_append, List.length_singleton]; omega)), by (first | omega | (simp only [List.length_append, List.length_singleton]; omega)), HA11, HX11, HG11, HN11⟩, by simp [intOf]; omega⟩
           ·
            obtain ⟨s8, hs8⟩ := HA7.out.cu
            go_simp
            go_at_call 30
            refine Calls.mono (pickE 3 _ hs8 (by decide)) ?_
            rintro e v8 ⟨r2, t8, rfl, hr2, hO, hC⟩
            obtain ⟨HA8, HX8, HG8⟩ := pk3 hlt HA7 HX7 HG7 hO hC (by omega)
            have HN8 := hBoxO HN7 hO (by omega)
            clear hO hC hs8 HA7 HX7 HG7 HN7
            have hr2 : r2 < 3 := hr2 (by omega)
            have hr2i : (r2 : Int) < 3 := by omega
            have hS := (cellsX HX8.out).1
            clear hHeld
            refine hK.out _ _ hS (fun hHeld => ?_)
            clear hK K
            try simp only [Act.put, List.setIfInBounds_toArray, List.set_cons_zero, List.set_cons_succ]
            clear hS
            refine tkH (i := 9) (oi := o74_13_9) (v := ?v43) ?h43 hHeld ?r43
            case h43 => (intro w hSw; (try dsimp only at hSw); go_simp; try with_reducible rfl)
            try simp only [Act.put, List.setIfInBounds_toArray, List.set_cons_zero, List.set_cons_succ]
            refine wpAnyH_ready (rs := [1, 10]) (by kernel_rfl) (by simp) ?_
            refine (AllReadyH.cons (o := o74_13_1) rfl (fun K hK => ?_) (AllReadyH.cons (o := o74_13_10) rfl (fun K hK => ?_) AllReadyH.nil))
            ·
             obtain ⟨q0', q1', q2', q3'⟩ := cellsX HX8.out
             go_simp
             clear q0' q1' q2' q3'
             have hS := (cellsX HX8.out).1
             clear hHeld
             refine hK.out _ _ hS (fun hHeld => ?_)
             clear hK K
             try simp only [Act.put, List.setIfInBounds_toArray, List.set_cons_zero, List.set_cons_succ]
             clear hS
             refine wpAnyH_ready (rs := [10]) (by kernel_rfl) (by simp) ?_
             refine (AllReadyH.cons (o := o74_13_10) rfl (fun K hK => ?_) AllReadyH.nil)
             have x5 := xyzQ_at HN8.out hr2
             go_simp
             clear x5
             have hS := (cellsX HX8.out).1
             clear hHeld
             refine hK.out _ _ hS (fun hHeld => ?_)
             clear hK K
             try simp only [Act.put, List.setIfInBounds_toArray, List.set_cons_zero, List.set_cons_succ]
             clear hS
             refine tkH (i := 11) (oi := o74_13_11) (v := ?v44) ?h44 hHeld ?r44
             case h44 => (intro w hSw; (try dsimp only at hSw); go_simp; try with_reducible rfl)
             try simp only [Act.put, List.setIfInBounds_toArray, List.set_cons_zero, List.set_cons_succ]
             refine wpAnyH_ready (rs := [12]) (by kernel_rfl) (by simp) ?_
             refine (AllReadyH.cons (o := o74_13_12) rfl (fun K hK => ?_) AllReadyH.nil)
             go_simp
             have hb := bel_alloc (v8) (.cells #[.int .i64 (r1 : Nat), .string (xyzQ r2)] 33)
             obtain ⟨HA9, HX9, HG9⟩ := st3 HA8 HX8 HG8 hb
             have HN9 := hBox HN8 hb
             have HS := (show Hid (SrcR ((v8).alloc (.cells #[.int .i64 (r1 : Nat), .string (xyzQ r2)] 33)) 33 2 (.slice (some ⟨(v8).heap.size, 0, none⟩) 1 1) 1 [.int .i64 (r1 : Nat), .string (xyzQ r2)]) from src2 _ _ _ _)
             clear hb HA8 HX8 HG8 HN8
             have hS := (cellsX HX9.out).1
             clear hHeld
             refine hK.out _ _ hS (fun hHeld => ?_)
             clear hK K
             try simp only [Act.put, List.setIfInBounds_toArray, List.set_cons_zero, List.set_cons_succ]
             clear hS
             generalize (v8).alloc (.cells #[.int .i64 (r1 : Nat), .string (xyzQ r2)] 33) = W9 at *
             generalize hga : (v8).heap.size = ga at *
             clear hga
             refine wpAnyH_ready (rs := [13]) (by kernel_rfl) (by simp) ?_
             refine (AllReadyH.cons (o := o74_13_13) rfl (fun K hK => ?_) AllReadyH.nil)
             refine stepS _ rfl (.tmp 45) (.tmp 56) rfl (by simp [Act.eval, Act.put]) HG9.out.d (by simp [Act.eval, Act.put]) HS.out (by omega) HA9.out.size ?_
             intro aN pN wN hown hgr hat
             obtain ⟨HA10, HX10, HG10⟩ := ap2 hlt HA9 HX9 HG9 ⟨(r1 : Nat), xyzQ r2⟩ (xyzQ_size _) hown hgr hat (by omega)
             have HN10 := hBoxG HN9 HG9.out.d hgr (by decide)
             clear HS hown hgr hat HA9 HX9 HG9 HN9
             have hS := (cellsX HX10.out).1
             clear hHeld
             refine hK.out _ _ hS (fun hHeld => ?_)
             clear hK K
             try simp only [Act.put, List.setIfInBounds_toArray, List.set_cons_zero, List.set_cons_succ]
             clear hS
             refine tkH (i := 14) (oi := o74_13_14) (v := ?v45) ?h45 hHeld ?r45
             case h45 => (intro w hSw; (try dsimp only at hSw); go_simp; try with_reducible rfl)
             try simp only [Act.put, List.setIfInBounds_toArray, List.set_cons_zero, List.set_cons_succ]
             refine wpAnyH_ready (rs := [15]) (by kernel_rfl) (by simp) ?_
             refine (AllReadyH.cons (o := o74_13_15) rfl (fun K hK => ?_) AllReadyH.nil)
             obtain ⟨q0', q1', q2', q3'⟩ := cellsX HX10.out
             have f2 := HX10.out.frozen 2
             obtain ⟨HA11, HX11, HG11⟩ := so2 (.slice aN (G.decls.length + 1) pN) hlt (by omega) HA10 HX10 HG10
             have HN11 := hBoxP (o := 2) (u := (.slice aN (G.decls.length + 1) pN)) (q := w1.heap.size) HN10 (by omega)
             go_simp
             clear q0' q1' q2' q3' f2
             clear  HA10 HX10 HG10 HN10
             have hS := (cellsX HX11.out).1
             clear hHeld
             refine hK.out _ _ hS (fun hHeld => ?_)
             clear hK K
             try simp only [Act.put, List.setIfInBounds_toArray, List.set_cons_zero, List.set_cons_succ]
             refine wpAnyH_done (by kernel_rfl) ?_ _
             clear hS hHeld
             go_wp2_with fail
             exact ⟨⟨m - 1, ⟨G.scopes, G.edges, G.decls ++ [⟨(r1 : Nat), xyzQ r2⟩], G.refs⟩, v1, (.slice aN (G.decls.length + 1) pN), v3, by first | go_num | (rw [hsub]), hsc, by (simp only [List.length_append, List.length_singleton]; omega), by (first | omega | (simp only [List.length_append, List.length_singleton]; omega)), by (first | omega | (simp only [List.length_append, List.length_singleton]; omega)), by (first | omega | (simp only [List.length_append, List.length_singleton]; omega)), HA11, HX11, HG11, HN11⟩, by simp [intOf]; omega⟩
            ·
             have x5 := xyzQ_at HN8.out hr2
             go_simp
             clear x5
             have hS := (cellsX HX8.out).1
             clear hHeld
             refine hK.out _ _ hS (fun hHeld => ?_)
             clear hK K
             try simp only [Act.put, List.setIfInBounds_toArray, List.set_cons_zero, List.set_cons_succ]
             clear hS
             refine tkH (i := 11) (oi := o74_13_11) (v := ?v46) ?h46 hHeld ?r46
             case h46 => (intro w hSw; (try dsimp only at hSw); go_simp; try with_reducible rfl)
             try simp only [Act.put, List.setIfInBounds_toArray, List.set_cons_zero, List.set_cons_succ]
             refine wpAnyH_ready (rs := [1, 12]) (by kernel_rfl) (by simp) ?_
             refine (AllReadyH.cons (o := o74_13_1) rfl (fun K hK => ?_) (AllReadyH.cons (o := o74_13_12) rfl (fun K hK => ?_) AllReadyH.nil))
             ·
              obtain ⟨q0', q1', q2', q3'⟩ := cellsX HX8.out
              go_simp
              clear q0' q1' q2' q3'
              have hS := (cellsX HX8.out).1
              clear hHeld
              refine hK.out _ _ hS (fun hHeld => ?_)
              clear hK K
              try simp only [Act.put, List.setIfInBounds_toArray, List.set_cons_zero, List.set_cons_succ]
              clear hS
              refine wpAnyH_ready (rs := [12]) (by kernel_rfl) (by simp) ?_
              refine (AllReadyH.cons (o := o74_13_12) rfl (fun K hK => ?_) AllReadyH.nil)
              go_simp
              have hb := bel_alloc (v8) (.cells #[.int .i64 (r1 : Nat), .string (xyzQ r2)] 33)
              obtain ⟨HA9, HX9, HG9⟩ := st3 HA8 HX8 HG8 hb
              have HN9 := hBox HN8 hb
              have HS := (show Hid (SrcR ((v8).alloc (.cells #[.int .i64 (r1 : Nat), .string (xyzQ r2)] 33)) 33 2 (.slice (some ⟨(v8).heap.size, 0, none⟩) 1 1) 1 [.int .i64 (r1 : Nat), .string (xyzQ r2)]) from src2 _ _ _ _)
              clear hb HA8 HX8 HG8 HN8
              have hS := (cellsX HX9.out).1
              clear hHeld
              refine hK.out _ _ hS (fun hHeld => ?_)
              clear hK K
              try simp only [Act.put, List.setIfInBounds_toArray, List.set_cons_zero, List.set_cons_succ]
              clear hS
              generalize (v8).alloc (.cells #[.int .i64 (r1 : Nat), .string (xyzQ r2)] 33) = W9 at *
              generalize hga : (v8).heap.size = ga at *
              clear hga
              refine wpAnyH_ready (rs := [13]) (by kernel_rfl) (by simp) ?_
              refine (AllReadyH.cons (o := o74_13_13) rfl (fun K hK => ?_) AllReadyH.nil)
              refine stepS _ rfl (.tmp 45) (.tmp 56) rfl (by simp [Act.eval, Act.put]) HG9.out.d (by simp [Act.eval, Act.put]) HS.out (by omega) HA9.out.size ?_
              intro aN pN wN hown hgr hat
              obtain ⟨HA10, HX10, HG10⟩ := ap2 hlt HA9 HX9 HG9 ⟨(r1 : Nat), xyzQ r2⟩ (xyzQ_size _) hown hgr hat (by omega)
              have HN10 := hBoxG HN9 HG9.out.d hgr (by decide)
              clear HS hown hgr hat HA9 HX9 HG9 HN9
              have hS := (cellsX HX10.out).1
              clear hHeld
              refine hK.out _ _ hS (fun hHeld => ?_)
              clear hK K
              try simp only [Act.put, List.setIfInBounds_toArray, List.set_cons_zero, List.set_cons_succ]
              clear hS
              refine tkH (i := 14) (oi := o74_13_14) (v := ?v47) ?h47 hHeld ?r47
              case h47 => (intro w hSw; (try dsimp only at hSw); go_simp; try with_reducible rfl)
              try simp only [Act.put, List.setIfInBounds_toArray, List.set_cons_zero, List.set_cons_succ]
              refine wpAnyH_ready (rs := [15]) (by kernel_rfl) (by simp) ?_
              refine (AllReadyH.cons (o := o74_13_15) rfl (fun K hK => ?_) AllReadyH.nil)
              obtain ⟨q0', q1', q2', q3'⟩ := cellsX HX10.out
              have f2 := HX10.out.frozen 2
              obtain ⟨HA11, HX11, HG11⟩ := so2 (.slice aN (G.decls.length + 1) pN) hlt (by omega) HA10 HX10 HG10
              have HN11 := hBoxP (o := 2) (u := (.slice aN (G.decls.length + 1) pN)) (q := w1.heap.size) HN10 (by omega)
              go_simp
              clear q0' q1' q2' q3' f2
              clear  HA10 HX10 HG10 HN10
              have hS := (cellsX HX11.out).1
              clear hHeld
              refine hK.out _ _ hS (fun hHeld => ?_)
              clear hK K
              try simp only [Act.put, List.setIfInBounds_toArray, List.set_cons_zero, List.set_cons_succ]
              refine wpAnyH_done (by kernel_rfl) ?_ _
              clear hS hHeld
              go_wp2_with fail
              exact ⟨⟨m - 1, ⟨G.scopes, G.edges, G.decls ++ [⟨(r1 : Nat), xyzQ r2⟩], G.refs⟩, v1, (.slice aN (G.decls.length + 1) pN), v3, by first | go_num | (rw [hsub]), hsc, by (simp only [List.length_append, List.length_singleton]; omega), by (first | omega | (simp only [List.length_append, List.length_singleton]; omega)), by (first | omega | (simp only [List.length_append, List.length_singleton]; omega)), by (first | omega | (simp only [List.length_append, List.length_singleton]; omega)), HA11, HX11, HG11, HN11⟩, by simp [intOf]; omega⟩
             ·
              go_simp
              have hb := bel_alloc (v8) (.cells #[.int .i64 (r1 : Nat), .string (xyzQ r2)] 33)
              obtain ⟨HA9, HX9, HG9⟩ := st3 HA8 HX8 HG8 hb
              have HN9 := hBox HN8 hb
              have HS := (show Hid (SrcR ((v8).alloc (.cells #[.int .i64 (r1 : Nat), .string (xyzQ r2)] 33)) 33 2 (.slice (some ⟨(v8).heap.size, 0, none⟩) 1 1) 1 [.int .i64 (r1 : Nat), .string (xyzQ r2)]) from src2 _ _ _ _)
              clear hb HA8 HX8 HG8 HN8
              have hS := (cellsX HX9.out).1
              clear hHeld
              refine hK.out _ _ hS (fun hHeld => ?_)
              clear hK K
              try simp only [Act.put, List.setIfInBounds_toArray, List.set_cons_zero, List.set_cons_succ]
              clear hS
              generalize (v8).alloc (.cells #[.int .i64 (r1 : Nat), .string (xyzQ r2)] 33) = W9 at *
              generalize hga : (v8).heap.size = ga at *
              clear hga
              refine wpAnyH_ready (rs := [1]) (by kernel_rfl) (by simp) ?_
              refine (AllReadyH.cons (o := o74_13_1) rfl (fun K hK => ?_) AllReadyH.nil)
              obtain ⟨q0', q1', q2', q3'⟩ := cellsX HX9.out
              go_simp
              clear q0' q1' q2' q3'
              have hS := (cellsX HX9.out).1
              clear hHeld
              refine hK.out _ _ hS (fun hHeld => ?_)
              clear hK K
              try simp only [Act.put, List.setIfInBounds_toArray, List.set_cons_zero, List.set_cons_succ]
              clear hS
              refine wpAnyH_ready (rs := [13]) (by kernel_rfl) (by simp) ?_
              refine (AllReadyH.cons (o := o74_13_13) rfl (fun K hK => ?_) AllReadyH.nil)
              refine stepS _ rfl (.tmp 45) (.tmp 56) rfl (by simp [Act.eval, Act.put]) HG9.out.d (by simp [Act.eval, Act.put]) HS.out (by omega) HA9.out.size ?_
              intro aN pN wN hown hgr hat
              obtain ⟨HA10, HX10, HG10⟩ := ap2 hlt HA9 HX9 HG9 ⟨(r1 : Nat), xyzQ r2⟩ (xyzQ_size _) hown hgr hat (by omega)
              have HN10 := hBoxG HN9 HG9.out.d hgr (by decide)
              clear HS hown hgr hat HA9 HX9 HG9 HN9
              have hS := (cellsX HX10.out).1
              clear hHeld
              refine hK.out _ _ hS (fun hHeld => ?_)
              clear hK K
              try simp only [Act.put, List.setIfInBounds_toArray, List.set_cons_zero, List.set_cons_succ]
              clear hS
              refine tkH (i := 14) (oi := o74_13_14) (v := ?v48) ?h48 hHeld ?r48
              case h48 => (intro w hSw; (try dsimp only at hSw); go_simp; try with_reducible rfl)
              try simp only [Act.put, List.setIfInBounds_toArray, List.set_cons_zero, List.set_cons_succ]
              refine wpAnyH_ready (rs := [15]) (by kernel_rfl) (by simp) ?_
              refine (AllReadyH.cons (o := o74_13_15) rfl (fun K hK => ?_) AllReadyH.nil)
              obtain ⟨q0', q1', q2', q3'⟩ := cellsX HX10.out
              have f2 := HX10.out.frozen 2
              obtain ⟨HA11, HX11, HG11⟩ := so2 (.slice aN (G.decls.length + 1) pN) hlt (by omega) HA10 HX10 HG10
              have HN11 := hBoxP (o := 2) (u := (.slice aN (G.decls.length + 1) pN)) (q := w1.heap.size) HN10 (by omega)
              go_simp
              clear q0' q1' q2' q3' f2
              clear  HA10 HX10 HG10 HN10
              have hS := (cellsX HX11.out).1
              clear hHeld
              refine hK.out _ _ hS (fun hHeld => ?_)
              clear hK K
              try simp only [Act.put, List.setIfInBounds_toArray, List.set_cons_zero, List.set_cons_succ]
              refine wpAnyH_done (by kernel_rfl) ?_ _
              clear hS hHeld
              go_wp2_with fail
              exact ⟨⟨m - 1, ⟨G.scopes, G.edges, G.decls ++ [⟨(r1 : Nat), xyzQ r2⟩], G.refs⟩, v1, (.slice aN (G.decls.length + 1) pN), v3, by first | go_num | (rw [hsub]), hsc, by (simp only [List.length_append, List.length_singleton]; omega), by (first | omega | (simp only [List.length_append, List.length_singleton]; omega)), by (first | omega | (simp only [List.length_append, List.length_singleton]; omega)), by (first | omega | (simp only [List.length_append, List.length_singleton]; omega)), HA11, HX11, HG11, HN11⟩, by simp [intOf]; omega⟩
        case neg =>
          obtain rfl : m = 0 := by omega
          obtain ⟨s8, hs8⟩ := HA5.out.cu
          have HCL := (show Hid _ from pickE 8 _ hs8 (by decide))
          clear hs8 HA7 HX7 HG7 HN7
          go_wp2_with fail
          refine Calls.mono HCL.out ?_
          rintro e w8 ⟨k3, s9, rfl, hk3, hO, hC⟩
          have hk3 : k3 < 8 := hk3 (by omega)
          obtain ⟨HA8, HX8, HG8⟩ := pk3 hlt HA5 HX5 HG5 hO hC (by omega)
          have HN8 := hBoxO HN5 hO (by omega)
          clear HCL hO hC HA5 HX5 HG5 HN5
          go_wp2_with fail
          go_loopw [8] (fun i wr => ∃ (m : Nat) (G : DSg) (v1 v2 v3 : Value), i = .int .i64 (m : Nat) ∧ G.scopes = 1 + (q : Int) ∧ G.refs.length + m ≤ 8 ∧ G.edges.length ≤ 8 ∧ G.decls.length ≤ 8 ∧ G.refs.length ≤ 8 ∧ Hid (AtS cs a cap b off c w wr) ∧ Hid (Box wr w1.heap.size 27 [.int .i64 (1 + (q : Int)), v1, v2, v3]) ∧ Hid (Gro (w.heap.size + 1) wr G v1 v2 v3) ∧ Hid (Box wr gn 9 [.string ⟨#[120]⟩, .string ⟨#[121]⟩, .string ⟨#[122]⟩])) (fun i _ => (intOf i).toNat)
          case atStart => exact ⟨k3, G, v1, v2, v3, rfl, hsc, by omega, by omega, by omega, by omega, HA8.out, HX8.out, HG8.out, HN8.out⟩
          case round =>
            obtain ⟨m, G, v1, v2, v3, rfl, hsc, hm, hm1, hm2, hm3, HA5, HX5, HG5, HN5⟩ := hrel
            by_cases hpos : 0 < m
            case pos =>
              have hpos' : (0 : Int) < (m : Int) := by omega
              have hmi : (m : Int) ≤ 8 := by omega
              have hsub : (m : Int) - 1 = ((m - 1 : Nat) : Int) := by omega
              go_wp2_with fail
              have hb : Below wr.heap.size wr wr.drew := (Below.refl _ _).drew
              obtain ⟨HA6, HX6, HG6⟩ := st3 HA5 HX5 HG5 hb
              have HN6 := hBox HN5 hb
              clear hb HA5 HX5 HG5 HN5
              have hS := (cellsX HX6.out).1
              refine wp_region_held_drew (S := (fun wq => wq.cell? ⟨w1.heap.size, 0, none⟩ = some (.int .i64 (1 + (q : Int))))) (by kernel_rfl) hS (fun hHeld => ?_)
              clear hS
              generalize wr.drew = WR at *
              refine tkH (i := 0) (oi := o74_17_0) (v := ?v49) ?h49 hHeld ?r49
              case h49 => (intro w hSw; (try dsimp only at hSw); go_simp; try with_reducible rfl)
              try simp only [Act.put, List.setIfInBounds_toArray, List.set_cons_zero, List.set_cons_succ]
              refine tkH (i := 2) (oi := o74_17_2) (v := ?v50) ?h50 hHeld ?r50
              case h50 => (intro w hSw; (try dsimp only at hSw); go_simp; try with_reducible rfl)
              try simp only [Act.put, List.setIfInBounds_toArray, List.set_cons_zero, List.set_cons_succ]
              refine tkH (i := 3) (oi := o74_17_3) (v := ?v51) ?h51 hHeld ?r51
              case h51 => (intro w hSw; (try dsimp only at hSw); go_simp; try with_reducible rfl)
              try simp only [Act.put, List.setIfInBounds_toArray, List.set_cons_zero, List.set_cons_succ]
              refine tkH (i := 4) (oi := o74_17_4) (v := ?v52) ?h52 hHeld ?r52
              case h52 => (intro w hSw; (try dsimp only at hSw); go_simp; try with_reducible rfl)
              try simp only [Act.put, List.setIfInBounds_toArray, List.set_cons_zero, List.set_cons_succ]
              refine tkH (i := 6) (oi := o74_17_6) (v := ?v53) ?h53 hHeld ?r53
              case h53 => (intro w hSw; (try dsimp only at hSw); go_simp; try with_reducible rfl)
              try simp only [Act.put, List.setIfInBounds_toArray, List.set_cons_zero, List.set_cons_succ]
              refine tkH (i := 7) (oi := o74_17_7) (v := ?v54) ?h54 hHeld ?r54
              case h54 => (intro w hSw; (try dsimp only at hSw); go_simp; try with_reducible rfl)
              try simp only [Act.put, List.setIfInBounds_toArray, List.set_cons_zero, List.set_cons_succ]
              refine wpAnyH_ready (rs := [1, 5]) (by kernel_rfl) (by simp) ?_
              refine (AllReadyH.cons (o := o74_17_1) rfl (fun K hK => ?_) (AllReadyH.cons (o := o74_17_5) rfl (fun K hK => ?_) AllReadyH.nil))
              ·
               obtain ⟨q0', q1', q2', q3'⟩ := cellsX HX6.out
               go_simp
               clear q0' q1' q2' q3'
               have hS := (cellsX HX6.out).1
               clear hHeld
               refine hK.out _ _ hS (fun hHeld => ?_)
               clear hK K
               try simp only [Act.put, List.setIfInBounds_toArray, List.set_cons_zero, List.set_cons_succ]
               clear hS
               refine wpAnyH_ready (rs := [5]) (by kernel_rfl) (by simp) ?_
               refine (AllReadyH.cons (o := o74_17_5) rfl (fun K hK => ?_) AllReadyH.nil)
               obtain ⟨s7, hs7⟩ := HA6.out.cu
               go_simp
               go_at_call 30
               refine Calls.mono (HPN.out _ s7 hs7) ?_
               rintro e v7 ⟨r1, t7, rfl, hr1, hO, hC⟩
               obtain ⟨HA7, HX7, HG7⟩ := pk3 hlt HA6 HX6 HG6 hO hC (by omega)
               have HN7 := hBoxO HN6 hO (by omega)
               clear hO hC hs7 HA6 HX6 HG6 HN6
               have hS := (cellsX HX7.out).1
               clear hHeld
               refine hK.out _ _ hS (fun hHeld => ?_)
               clear hK K
               try simp only [Act.put, List.setIfInBounds_toArray, List.set_cons_zero, List.set_cons_succ]
               clear hS
               refine wpAnyH_ready (rs := [8]) (by kernel_rfl) (by simp) ?_
               refine (AllReadyH.cons (o := o74_17_8) rfl (fun K hK => ?_) AllReadyH.nil)
               obtain ⟨s8, hs8⟩ := HA7.out.cu
               go_simp
               go_at_call 30
               refine Calls.mono (pickE 3 _ hs8 (by decide)) ?_
               rintro e v8 ⟨r2, t8, rfl, hr2, hO, hC⟩
               obtain ⟨HA8, HX8, HG8⟩ := pk3 hlt HA7 HX7 HG7 hO hC (by omega)
               have HN8 := hBoxO HN7 hO (by omega)
               clear hO hC hs8 HA7 HX7 HG7 HN7
               have hr2 : r2 < 3 := hr2 (by omega)
               have hr2i : (r2 : Int) < 3 := by omega
               have hS := (cellsX HX8.out).1
               clear hHeld
               refine hK.out _ _ hS (fun hHeld => ?_)
               clear hK K
               try simp only [Act.put, List.setIfInBounds_toArray, List.set_cons_zero, List.set_cons_succ]
               clear hS
               refine tkH (i := 9) (oi := o74_17_9) (v := ?v55) ?h55 hHeld ?r55
               case h55 => (intro w hSw; (try dsimp only at hSw); go_simp; try with_reducible rfl)
               try simp only [Act.put, List.setIfInBounds_toArray, List.set_cons_zero, List.set_cons_succ]
               refine wpAnyH_ready (rs := [10]) (by kernel_rfl) (by simp) ?_
               refine (AllReadyH.cons (o := o74_17_10) rfl (fun K hK => ?_) AllReadyH.nil)
               have x5 := xyzQ_at HN8.out hr2
               go_simp
               clear x5
               have hS := (cellsX HX8.out).1
               clear hHeld
               refine hK.out _ _ hS (fun hHeld => ?_)
               clear hK K
               try simp only [Act.put, List.setIfInBounds_toArray, List.set_cons_zero, List.set_cons_succ]
               clear hS
               refine tkH (i := 11) (oi := o74_17_11) (v := ?v56) ?h56 hHeld ?r56
               case h56 => (intro w hSw; (try dsimp only at hSw); go_simp; try with_reducible rfl)
               try simp only [Act.put, List.setIfInBounds_toArray, List.set_cons_zero, List.set_cons_succ]
               refine wpAnyH_ready (rs := [12]) (by kernel_rfl) (by simp) ?_
               refine (AllReadyH.cons (o := o74_17_12) rfl (fun K hK => ?_) AllReadyH.nil)
               go_simp
               have hb := bel_alloc (v8) (.cells #[.int .i64 (r1 : Nat), .string (xyzQ r2)] 33)
               obtain ⟨HA9, HX9, HG9⟩ := st3 HA8 HX8 HG8 hb
               have HN9 := hBox HN8 hb
               have HS := (show Hid (SrcR ((v8).alloc (.cells #[.int .i64 (r1 : Nat), .string (xyzQ r2)] 33)) 33 2 (.slice (some ⟨(v8).heap.size, 0, none⟩) 1 1) 1 [.int .i64 (r1 : Nat), .string (xyzQ r2)]) from src2 _ _ _ _)
               clear hb HA8 HX8 HG8 HN8
               have hS := (cellsX HX9.out).1
               clear hHeld
               refine hK.out _ _ hS (fun hHeld => ?_)
               clear hK K
               try simp only [Act.put, List.setIfInBounds_toArray, List.set_cons_zero, List.set_cons_succ]
               clear hS
               generalize (v8).alloc (.cells #[.int .i64 (r1 : Nat), .string (xyzQ r2)] 33) = W9 at *
               generalize hga : (v8).heap.size = ga at *
               clear hga
               refine wpAnyH_ready (rs := [13]) (by kernel_rfl) (by simp) ?_
               refine (AllReadyH.cons (o := o74_17_13) rfl (fun K hK => ?_) AllReadyH.nil)
               refine stepS _ rfl (.tmp 66) (.tmp 77) rfl (by simp [Act.eval, Act.put]) HG9.out.r (by simp [Act.eval, Act.put]) HS.out (by omega) HA9.out.size ?_
               intro aN pN wN hown hgr hat
               obtain ⟨HA10, HX10, HG10⟩ := ap3 hlt HA9 HX9 HG9 ⟨(r1 : Nat), xyzQ r2⟩ (xyzQ_size _) hown hgr hat (by omega)
               have HN10 := hBoxG HN9 HG9.out.r hgr (by decide)
               clear HS hown hgr hat HA9 HX9 HG9 HN9
               have hS := (cellsX HX10.out).1
               clear hHeld
               refine hK.out _ _ hS (fun hHeld => ?_)
               clear hK K
               try simp only [Act.put, List.setIfInBounds_toArray, List.set_cons_zero, List.set_cons_succ]
               clear hS
               refine tkH (i := 14) (oi := o74_17_14) (v := ?v57) ?h57 hHeld ?r57
               case h57 => (intro w hSw; (try dsimp only at hSw); go_simp; try with_reducible rfl)
               try simp only [Act.put, List.setIfInBounds_toArray, List.set_cons_zero, List.set_cons_succ]
               refine wpAnyH_ready (rs := [15]) (by kernel_rfl) (by simp) ?_
               refine (AllReadyH.cons (o := o74_17_15) rfl (fun K hK => ?_) AllReadyH.nil)
               obtain ⟨q0', q1', q2', q3'⟩ := cellsX HX10.out
               have f3 := HX10.out.frozen 3
               obtain ⟨HA11, HX11, HG11⟩ := so3 (.slice aN (G.refs.length + 1) pN) hlt (by omega) HA10 HX10 HG10
               have HN11 := hBoxP (o := 3) (u := (.slice aN (G.refs.length + 1) pN)) (q := w1.heap.size) HN10 (by omega)
               go_simp
               clear q0' q1' q2' q3' f3
               clear  HA10 HX10 HG10 HN10
               have hS := (cellsX HX11.out).1
               clear hHeld
               refine hK.out _ _ hS (fun hHeld => ?_)
               clear hK K
               try simp only [Act.put, List.setIfInBounds_toArray, List.set_cons_zero, List.set_cons_succ]
               refine wpAnyH_done (by kernel_rfl) ?_ _
               clear hS hHeld
               go_wp2_with fail
               exact ⟨⟨m - 1, ⟨G.scopes, G.edges, G.decls, G.refs ++ [⟨(r1 : Nat), xyzQ r2⟩]⟩, v1, v2, (.slice aN (G.refs.length + 1) pN), by first | go_num | (rw [hsub]), hsc, by (simp only [List.length_append, List.length_singleton]; omega), by (first | omega | (simp only [List.length_append, List.length_singleton]; omega)), by (first | omega | (simp only [List.length_append, List.length_singleton]; omega)), by (first | omega | (simp only [List.length_append, List.length_singleton]; omega)), HA11, HX11, HG11, HN11⟩, by simp [intOf]; omega⟩
              ·
               obtain ⟨s7, hs7⟩ := HA6.out.cu
               go_simp
               go_at_call 30
               refine Calls.mono (HPN.out _ s7 hs7) ?_
               rintro e v7 ⟨r1, t7, rfl, hr1, hO, hC⟩
               obtain ⟨HA7, HX7, HG7⟩ := pk3 hlt HA6 HX6 HG6 hO hC (by omega)
               have HN7 := hBoxO HN6 hO (by omega)
               clear hO hC hs7 HA6 HX6 HG6 HN6
               have hS := (cellsX HX7.out).1
               clear hHeld
               refine hK.out _ _ hS (fun hHeld => ?_)
               clear hK K
               try simp only [Act.put, List.setIfInBounds_toArray, List.set_cons_zero, List.set_cons_succ]
               clear hS
               refine wpAnyH_ready (rs := [1, 8]) (by kernel_rfl) (by simp) ?_
               refine (AllReadyH.cons (o := o74_17_1) rfl (fun K hK => ?_) (AllReadyH.cons (o := o74_17_8) rfl (fun K hK => ?_) AllReadyH.nil))
               ·
                obtain ⟨q0', q1', q2', q3'⟩ := cellsX HX7.out
                go_simp
                clear q0' q1' q2' q3'
                have hS := (cellsX HX7.out).1
                clear hHeld
                refine hK.out _ _ hS (fun hHeld => ?_)
                clear hK K
                try simp only [Act.put, List.setIfInBounds_toArray, List.set_cons_zero, List.set_cons_succ]
                clear hS
                refine wpAnyH_ready (rs := [8]) (by kernel_rfl) (by simp) ?_
                refine (AllReadyH.cons (o := o74_17_8) rfl (fun K hK => ?_) AllReadyH.nil)
                obtain ⟨s8, hs8⟩ := HA7.out.cu
                go_simp
                go_at_call 30
                refine Calls.mono (pickE 3 _ hs8 (by decide)) ?_
                rintro e v8 ⟨r2, t8, rfl, hr2, hO, hC⟩
                obtain ⟨HA8, HX8, HG8⟩ := pk3 hlt HA7 HX7 HG7 hO hC (by omega)
                have HN8 := hBoxO HN7 hO (by omega)
                clear hO hC hs8 HA7 HX7 HG7 HN7
                have hr2 : r2 < 3 := hr2 (by omega)
                have hr2i : (r2 : Int) < 3 := by omega
                have hS := (cellsX HX8.out).1
                clear hHeld
                refine hK.out _ _ hS (fun hHeld => ?_)
                clear hK K
                try simp only [Act.put, List.setIfInBounds_toArray, List.set_cons_zero, List.set_cons_succ]
                clear hS
                refine tkH (i := 9) (oi := o74_17_9) (v := ?v58) ?h58 hHeld ?r58
                case h58 => (intro w hSw; (try dsimp only at hSw); go_simp; try with_reducible rfl)
                try simp only [Act.put, List.setIfInBounds_toArray, List.set_cons_zero, List.set_cons_succ]
                refine wpAnyH_ready (rs := [10]) (by kernel_rfl) (by simp) ?_
                refine (AllReadyH.cons (o := o74_17_10) rfl (fun K hK => ?_) AllReadyH.nil)
                have x5 := xyzQ_at HN8.out hr2
                go_simp
                clear x5
                have hS := (cellsX HX8.out).1
                clear hHeld
                refine hK.out _ _ hS (fun hHeld => ?_)
                clear hK K
                try simp only [Act.put, List.setIfInBounds_toArray, List.set_cons_zero, List.set_cons_succ]
                clear hS
                refine tkH (i := 11) (oi := o74_17_11) (v := ?v59) ?h59 hHeld ?r59
                case h59 => (intro w hSw; (try dsimp only at hSw); go_simp; try with_reducible rfl)
                try simp only [Act.put, List.setIfInBounds_toArray, List.set_cons_zero, List.set_cons_succ]
                refine wpAnyH_ready (rs := [12]) (by kernel_rfl) (by simp) ?_
                refine (AllReadyH.cons (o := o74_17_12) rfl (fun K hK => ?_) AllReadyH.nil)
                go_simp
                have hb := bel_alloc (v8) (.cells #[.int .i64 (r1 : Nat), .string (xyzQ r2)] 33)
                obtain ⟨HA9, HX9, HG9⟩ := st3 HA8 HX8 HG8 hb
                have HN9 := hBox HN8 hb
                have HS := (show Hid (SrcR ((v8).alloc (.cells #[.int .i64 (r1 : Nat), .string (xyzQ r2)] 33)) 33 2 (.slice (some ⟨(v8).heap.size, 0, none⟩) 1 1) 1 [.int .i64 (r1 : Nat), .string (xyzQ r2)]) from src2 _ _ _ _)
                clear hb HA8 HX8 HG8 HN8
                have hS := (cellsX HX9.out).1
                clear hHeld
                refine hK.out _ _ hS (fun hHeld => ?_)
                clear hK K
                try simp only [Act.put, List.setIfInBounds_toArray, List.set_cons_zero, List.set_cons_succ]
                clear hS
                generalize (v8).alloc (.cells #[.int .i64 (r1 : Nat), .string (xyzQ r2)] 33) = W9 at *
                generalize hga : (v8).heap.size = ga at *
                clear hga
                refine wpAnyH_ready (rs := [13]) (by kernel_rfl) (by simp) ?_
                refine (AllReadyH.cons (o := o74_17_13) rfl (fun K hK => ?_) AllReadyH.nil)
                refine stepS _ rfl (.tmp 66) (.tmp 77) rfl (by simp [Act.eval, Act.put]) HG9.out.r (by simp [Act.eval, Act.put]) HS.out (by omega) HA9.out.size ?_
                intro aN pN wN hown hgr hat
                obtain ⟨HA10, HX10, HG10⟩ := ap3 hlt HA9 HX9 HG9 ⟨(r1 : Nat), xyzQ r2⟩ (xyzQ_size _) hown hgr hat (by omega)
                have HN10 := hBoxG HN9 HG9.out.r hgr (by decide)
                clear HS hown hgr hat HA9 HX9 HG9 HN9
                have hS := (cellsX HX10.out).1
                clear hHeld
                refine hK.out _ _ hS (fun hHeld => ?_)
                clear hK K
                try simp only [Act.put, List.setIfInBounds_toArray, List.set_cons_zero, List.set_cons_succ]
                clear hS
                refine tkH (i := 14) (oi := o74_17_14) (v := ?v60) ?h60 hHeld ?r60
                case h60 => (intro w hSw; (try dsimp only at hSw); go_simp; try with_reducible rfl)
                try simp only [Act.put, List.setIfInBounds_toArray, List.set_cons_zero, List.set_cons_succ]
                refine wpAnyH_ready (rs := [15]) (by kernel_rfl) (by simp) ?_
                refine (AllReadyH.cons (o := o74_17_15) rfl (fun K hK => ?_) AllReadyH.nil)
                obtain ⟨q0', q1', q2', q3'⟩ := cellsX HX10.out
                have f3 := HX10.out.frozen 3
                obtain ⟨HA11, HX11, HG11⟩ := so3 (.slice aN (G.refs.length + 1) pN) hlt (by omega) HA10 HX10 HG10
                have HN11 := hBoxP (o := 3) (u := (.slice aN (G.refs.length + 1) pN)) (q := w1.heap.size) HN10 (by omega)
                go_simp
                clear q0' q1' q2' q3' f3
                clear  HA10 HX10 HG10 HN10
                have hS := (cellsX HX11.out).1
                clear hHeld
                refine hK.out _ _ hS (fun hHeld => ?_)
                clear hK K
                try simp only [Act.put, List.setIfInBounds_toArray, List.set_cons_zero, List.set_cons_succ]
                refine wpAnyH_done (by kernel_rfl) ?_ _
                clear hS hHeld
                go_wp2_with fail
                exact ⟨⟨m - 1, ⟨G.scopes, G.edges, G.decls, G.refs ++ [⟨(r1 : Nat), xyzQ r2⟩]⟩, v1, v2, (.slice aN (G.refs.length + 1) pN), by first | go_num | (rw [hsub]), hsc, by (simp only [List.length_append, List.length_singleton]; omega), by (first | omega | (simp only [List.length_append, List.length_singleton]; omega)), by (first | omega | (simp only [List.length_append, List.length_singleton]; omega)), by (first | omega | (simp only [List.length_append, List.length_singleton]; omega)), HA11, HX11, HG11, HN11⟩, by simp [intOf]; omega⟩
               ·
                obtain ⟨s8, hs8⟩ := HA7.out.cu
                go_simp
                go_at_call 30
                refine Calls.mono (pickE 3 _ hs8 (by decide)) ?_
                rintro e v8 ⟨r2, t8, rfl, hr2, hO, hC⟩
                obtain ⟨HA8, HX8, HG8⟩ := pk3 hlt HA7 HX7 HG7 hO hC (by omega)
                have HN8 := hBoxO HN7 hO (by omega)
                clear hO hC hs8 HA7 HX7 HG7 HN7
                have hr2 : r2 < 3 := hr2 (by omega)
                have hr2i : (r2 : Int) < 3 := by omega
                have hS := (cellsX HX8.out).1
                clear hHeld
                refine hK.out _ _ hS (fun hHeld => ?_)
                clear hK K
                try simp only [Act.put, List.setIfInBounds_toArray, List.set_cons_zero, List.set_cons_succ]
                clear hS
                refine tkH (i := 9) (oi := o74_17_9) (v := ?v61) ?h61 hHeld ?r61
                case h61 => (intro w hSw; (try dsimp only at hSw); go_simp; try with_reducible rfl)
                try simp only [Act.put, List.setIfInBounds_toArray, List.set_cons_zero, List.set_cons_succ]
                refine wpAnyH_ready (rs := [1, 10]) (by kernel_rfl) (by simp) ?_
                refine (AllReadyH.cons (o := o74_17_1) rfl (fun K hK => ?_) (AllReadyH.cons (o := o74_17_10) rfl (fun K hK => ?_) AllReadyH.nil))
                ·
                 obtain ⟨q0', q1', q2', q3'⟩ := cellsX HX8.out
                 go_simp
                 clear q0' q1' q2' q3'
                 have hS := (cellsX HX8.out).1
                 clear hHeld
                 refine hK.out _ _ hS (fun hHeld => ?_)
                 clear hK K
                 try simp only [Act.put, List.setIfInBounds_toArray, List.set_cons_zero, List.set_cons_succ]
                 clear hS
                 refine wpAnyH_ready (rs := [10]) (by kernel_rfl) (by simp) ?_
                 refine (AllReadyH.cons (o := o74_17_10) rfl (fun K hK => ?_) AllReadyH.nil)
                 have x5 := xyzQ_at HN8.out hr2
                 go_simp
                 clear x5
                 have hS := (cellsX HX8.out).1
                 clear hHeld
                 refine hK.out _ _ hS (fun hHeld => ?_)
                 clear hK K
                 try simp only [Act.put, List.setIfInBounds_toArray, List.set_cons_zero, List.set_cons_succ]
                 clear hS
                 refine tkH (i := 11) (oi := o74_17_11) (v := ?v62) ?h62 hHeld ?r62
                 case h62 => (intro w hSw; (try dsimp only at hSw); go_simp; try with_reducible rfl)
                 try simp only [Act.put, List.setIfInBounds_toArray, List.set_cons_zero, List.set_cons_succ]
                 refine wpAnyH_ready (rs := [12]) (by kernel_rfl) (by simp) ?_
                 refine (AllReadyH.cons (o := o74_17_12) rfl (fun K hK => ?_) AllReadyH.nil)
                 go_simp
                 have hb := bel_alloc (v8) (.cells #[.int .i64 (r1 : Nat), .string (xyzQ r2)] 33)
                 obtain ⟨HA9, HX9, HG9⟩ := st3 HA8 HX8 HG8 hb
                 have HN9 := hBox HN8 hb
                 have HS := (show Hid (SrcR ((v8).alloc (.cells #[.int .i64 (r1 : Nat), .string (xyzQ r2)] 33)) 33 2 (.slice (some ⟨(v8).heap.size, 0, none⟩) 1 1) 1 [.int .i64 (r1 : Nat), .string (xyzQ r2)]) from src2 _ _ _ _)
                 clear hb HA8 HX8 HG8 HN8
                 have hS := (cellsX HX9.out).1
                 clear hHeld
                 refine hK.out _ _ hS (fun hHeld => ?_)
                 clear hK K
                 try simp only [Act.put, List.setIfInBounds_toArray, List.set_cons_zero, List.set_cons_succ]
                 clear hS
                 generalize (v8).alloc (.cells #[.int .i64 (r1 : Nat), .string (xyzQ r2)] 33) = W9 at *
                 generalize hga : (v8).heap.size = ga at *
                 clear hga
                 refine wpAnyH_ready (rs := [13]) (by kernel_rfl) (by simp) ?_
                 refine (AllReadyH.cons (o := o74_17_13) rfl (fun K hK => ?_) AllReadyH.nil)
                 refine stepS _ rfl (.tmp 66) (.tmp 77) rfl (by simp [Act.eval, Act.put]) HG9.out.r (by simp [Act.eval, Act.put]) HS.out (by omega) HA9.out.size ?_
                 intro aN pN wN hown hgr hat
                 obtain ⟨HA10, HX10, HG10⟩ := ap3 hlt HA9 HX9 HG9 ⟨(r1 : Nat), xyzQ r2⟩ (xyzQ_size _) hown hgr hat (by omega)
                 have HN10 := hBoxG HN9 HG9.out.r hgr (by decide)
                 clear HS hown hgr hat HA9 HX9 HG9 HN9
                 have hS := (cellsX HX10.out).1
                 clear hHeld
                 refine hK.out _ _ hS (fun hHeld => ?_)
                 clear hK K
                 try simp only [Act.put, List.setIfInBounds_toArray, List.set_cons_zero, List.set_cons_succ]
                 clear hS
                 refine tkH (i := 14) (oi := o74_17_14) (v := ?v63) ?h63 hHeld ?r63
                 case h63 => (intro w hSw; (try dsimp only at hSw); go_simp; try with_reducible rfl)
                 try simp only [Act.put, List.setIfInBounds_toArray, List.set_cons_zero, List.set_cons_succ]
                 refine wpAnyH_ready (rs := [15]) (by kernel_rfl) (by simp) ?_
                 refine (AllReadyH.cons (o := o74_17_15) rfl (fun K hK => ?_) AllReadyH.nil)
                 obtain ⟨q0', q1', q2', q3'⟩ := cellsX HX10.out
                 have f3 := HX10.out.frozen 3
                 obtain ⟨HA11, HX11, HG11⟩ := so3 (.slice aN (G.refs.length + 1) pN) hlt (by omega) HA10 HX10 HG10
                 have HN11 := hBoxP (o := 3) (u := (.slice aN (G.refs.length + 1) pN)) (q := w1.heap.size) HN10 (by omega)
                 go_simp
                 clear q0' q1' q2' q3' f3
                 clear  HA10 HX10 HG10 HN10
                 have hS := (cellsX HX11.out).1
                 clear hHeld
                 refine hK.out _ _ hS (fun hHeld => ?_)
                 clear hK K
                 try simp only [Act.put, List.setIfInBounds_toArray, List.set_cons_zero, List.set_cons_succ]
                 refine wpAnyH_done (by kernel_rfl) ?_ _
                 clear hS hHeld
                 go_wp2_with fail
                 exact ⟨⟨m - 1, ⟨G.scopes, G.edges, G.decls, G.refs ++ [⟨(r1 : Nat), xyzQ r2⟩]⟩, v1, v2, (.slice aN (G.refs.length + 1) pN), by first | go_num | (rw [hsub]), hsc, by (simp only [List.length_append, List.length_singleton]; omega), by (first | omega | (simp only [List.length_append, List.length_singleton]; omega)), by (first | omega | (simp only [List.length_append, List.length_singleton]; omega)), by (first | omega | (simp only [List.length_append, List.length_singleton]; omega)), HA11, HX11, HG11, HN11⟩, by simp [intOf]; omega⟩
                ·
                 have x5 := xyzQ_at HN8.out hr2
                 go_simp
                 clear x5
                 have hS := (cellsX HX8.out).1
                 clear hHeld
                 refine hK.out _ _ hS (fun hHeld => ?_)
                 clear hK K
                 try simp only [Act.put, List.setIfInBounds_toArray, List.set_cons_zero, List.set_cons_succ]
                 clear hS
                 refine tkH (i := 11) (oi := o74_17_11) (v := ?v64) ?h64 hHeld ?r64
                 case h64 => (intro w hSw; (try dsimp only at hSw); go_simp; try with_reducible rfl)
                 try simp only [Act.put, List.setIfInBounds_toArray, List.set_cons_zero, List.set_cons_succ]
                 refine wpAnyH_ready (rs := [1, 12]) (by kernel_rfl) (by simp) ?_
                 refine (AllReadyH.cons (o := o74_17_1) rfl (fun K hK => ?_) (AllReadyH.cons (o := o74_17_12) rfl (fun K hK => ?_) AllReadyH.nil))
                 ·
                  obtain ⟨q0', q1', q2', q3'⟩ := cellsX HX8.out
                  go_simp
                  clear q0' q1' q2' q3'
                  have hS := (cellsX HX8.out).1
                  clear hHeld
                  refine hK.out _ _ hS (fun hHeld => ?_)
                  clear hK K
                  try simp only [Act.put, List.setIfInBounds_toArray, List.set_cons_zero, List.set_cons_succ]
                  clear hS
                  refine wpAnyH_ready (rs := [12]) (by kernel_rfl) (by simp) ?_
                  refine (AllReadyH.cons (o := o74_17_12) rfl (fun K hK => ?_) AllReadyH.nil)
                  go_simp
                  have hb := bel_alloc (v8) (.cells #[.int .i64 (r1 : Nat), .string (xyzQ r2)] 33)
                  obtain ⟨HA9, HX9, HG9⟩ := st3 HA8 HX8 HG8 hb
                  have HN9 := hBox HN8 hb
                  have HS := (show Hid (SrcR ((v8).alloc (.cells #[.int .i64 (r1 : Nat), .string (xyzQ r2)] 33)) 33 2 (.slice (some ⟨(v8).heap.size, 0, none⟩) 1 1) 1 [.int .i64 (r1 : Nat), .string (xyzQ r2)]) from src2 _ _ _ _)
                  clear hb HA8 HX8 HG8 HN8
                  have hS := (cellsX HX9.out).1
                  clear hHeld
                  refine hK.out _ _ hS (fun hHeld => ?_)
                  clear hK K
                  try simp only [Act.put, List.setIfInBounds_toArray, List.set_cons_zero, List.set_cons_succ]
                  clear hS
                  generalize (v8).alloc (.cells #[.int .i64 (r1 : Nat), .string (xyzQ r2)] 33) = W9 at *
                  generalize hga : (v8).heap.size = ga at *
                  clear hga
                  refine wpAnyH_ready (rs := [13]) (by kernel_rfl) (by simp) ?_
                  refine (AllReadyH.cons (o := o74_17_13) rfl (fun K hK => ?_) AllReadyH.nil)
                  refine stepS _ rfl (.tmp 66) (.tmp 77) rfl (by simp [Act.eval, Act.put]) HG9.out.r (by simp [Act.eval, Act.put]) HS.out (by omega) HA9.out.size ?_
                  intro aN pN wN hown hgr hat
                  obtain ⟨HA10, HX10, HG10⟩ := ap3 hlt HA9 HX9 HG9 ⟨(r1 : Nat), xyzQ r2⟩ (xyzQ_size _) hown hgr hat (by omega)
                  have HN10 := hBoxG HN9 HG9.out.r hgr (by decide)
                  clear HS hown hgr hat HA9 HX9 HG9 HN9
                  have hS := (cellsX HX10.out).1
                  clear hHeld
                  refine hK.out _ _ hS (fun hHeld => ?_)
                  clear hK K
                  try simp only [Act.put, List.setIfInBounds_toArray, List.set_cons_zero, List.set_cons_succ]
                  clear hS
                  refine tkH (i := 14) (oi := o74_17_14) (v := ?v65) ?h65 hHeld ?r65
                  case h65 => (intro w hSw; (try dsimp only at hSw); go_simp; try with_reducible rfl)
                  try simp only [Act.put, List.setIfInBounds_toArray, List.set_cons_zero, List.set_cons_succ]
                  refine wpAnyH_ready (rs := [15]) (by kernel_rfl) (by simp) ?_
                  refine (AllReadyH.cons (o := o74_17_15) rfl (fun K hK => ?_) AllReadyH.nil)
                  obtain ⟨q0', q1', q2', q3'⟩ := cellsX HX10.out
                  have f3 := HX10.out.frozen 3
                  obtain ⟨HA11, HX11, HG11⟩ := so3 (.slice aN (G.refs.length + 1) pN) hlt (by omega) HA10 HX10 HG10
                  have HN11 := hBoxP (o := 3) (u := (.slice aN (G.refs.length + 1) pN)) (q := w1.heap.size) HN10 (by omega)
                  go_simp
                  clear q0' q1' q2' q3' f3
                  clear  HA10 HX10 HG10 HN10
                  have hS := (cellsX HX11.out).1
                  clear hHeld
                  refine hK.out _ _ hS (fun hHeld => ?_)
                  clear hK K
                  try simp only [Act.put, List.setIfInBounds_toArray, List.set_cons_zero, List.set_cons_succ]
                  refine wpAnyH_done (by kernel_rfl) ?_ _
                  clear hS hHeld
                  go_wp2_with fail
                  exact ⟨⟨m - 1, ⟨G.scopes, G.edges, G.decls, G.refs ++ [⟨(r1 : Nat), xyzQ r2⟩]⟩, v1, v2, (.slice aN (G.refs.length + 1) pN), by first | go_num | (rw [hsub]), hsc, by (simp only [List.length_append, List.length_singleton]; omega), by (first | omega | (simp only [List.length_append, List.length_singleton]; omega)), by (first | omega | (simp only [List.length_append, List.length_singleton]; omega)), by (first | omega | (simp only [List.length_append, List.length_singleton]; omega)), HA11, HX11, HG11, HN11⟩, by simp [intOf]; omega⟩
                 ·
                  go_simp
                  have hb := bel_alloc (v8) (.cells #[.int .i64 (r1 : Nat), .string (xyzQ r2)] 33)
                  obtain ⟨HA9, HX9, HG9⟩ := st3 HA8 HX8 HG8 hb
                  have HN9 := hBox HN8 hb
                  have HS := (show Hid (SrcR ((v8).alloc (.cells #[.int .i64 (r1 : Nat), .string (xyzQ r2)] 33)) 33 2 (.slice (some ⟨(v8).heap.size, 0, none⟩) 1 1) 1 [.int .i64 (r1 : Nat), .string (xyzQ r2)]) from src2 _ _ _ _)
                  clear hb HA8 HX8 HG8 HN8
                  have hS := (cellsX HX9.out).1
                  clear hHeld
                  refine hK.out _ _ hS (fun hHeld => ?_)
                  clear hK K
                  try simp only [Act.put, List.setIfInBounds_toArray, List.set_cons_zero, List.set_cons_succ]
                  clear hS
                  generalize (v8).alloc (.cells #[.int .i64 (r1 : Nat), .string (xyzQ r2)] 33) = W9 at *
                  generalize hga : (v8).heap.size = ga at *
                  clear hga
                  refine wpAnyH_ready (rs := [1]) (by kernel_rfl) (by simp) ?_
                  refine (AllReadyH.cons (o := o74_17_1) rfl (fun K hK => ?_) AllReadyH.nil)
                  obtain ⟨q0', q1', q2', q3'⟩ := cellsX HX9.out
                  go_simp
                  clear q0' q1' q2' q3'
                  have hS := (cellsX HX9.out).1
                  clear hHeld
                  refine hK.out _ _ hS (fun hHeld => ?_)
                  clear hK K
                  try simp only [Act.put, List.setIfInBounds_toArray, List.set_cons_zero, List.set_cons_succ]
                  clear hS
                  refine wpAnyH_ready (rs := [13]) (by kernel_rfl) (by simp) ?_
                  refine (AllReadyH.cons (o := o74_17_13) rfl (fun K hK => ?_) AllReadyH.nil)
                  refine stepS _ rfl (.tmp 66) (.tmp 77) rfl (by simp [Act.eval, Act.put]) HG9.out.r (by simp [Act.eval, Act.put]) HS.out (by omega) HA9.out.size ?_
                  intro aN pN wN hown hgr hat
                  obtain ⟨HA10, HX10, HG10⟩ := ap3 hlt HA9 HX9 HG9 ⟨(r1 : Nat), xyzQ r2⟩ (xyzQ_size _) hown hgr hat (by omega)
                  have HN10 := hBoxG HN9 HG9.out.r hgr (by decide)
                  clear HS hown hgr hat HA9 HX9 HG9 HN9
                  have hS := (cellsX HX10.out).1
                  clear hHeld
                  refine hK.out _ _ hS (fun hHeld => ?_)
                  clear hK K
                  try simp only [Act.put, List.setIfInBounds_toArray, List.set_cons_zero, List.set_cons_succ]
                  clear hS
                  refine tkH (i := 14) (oi := o74_17_14) (v := ?v66) ?h66 hHeld ?r66
                  case h66 => (intro w hSw; (try dsimp only at hSw); go_simp; try with_reducible rfl)
                  try simp only [Act.put, List.setIfInBounds_toArray, List.set_cons_zero, List.set_cons_succ]
                  refine wpAnyH_ready (rs := [15]) (by kernel_rfl) (by simp) ?_
                  refine (AllReadyH.cons (o := o74_17_15) rfl (fun K hK => ?_) AllReadyH.nil)
                  obtain ⟨q0', q1', q2', q3'⟩ := cellsX HX10.out
                  have f3 := HX10.out.frozen 3
                  obtain ⟨HA11, HX11, HG11⟩ := so3 (.slice aN (G.refs.length + 1) pN) hlt (by omega) HA10 HX10 HG10
                  have HN11 := hBoxP (o := 3) (u := (.slice aN (G.refs.length + 1) pN)) (q := w1.heap.size) HN10 (by omega)
                  go_simp
                  clear q0' q1' q2' q3' f3
                  clear  HA10 HX10 HG10 HN10
                  have hS := (cellsX HX11.out).1
                  clear hHeld
                  refine hK.out _ _ hS (fun hHeld => ?_)
                  clear hK K
                  try simp only [Act.put, List.setIfInBounds_toArray, List.set_cons_zero, List.set_cons_succ]
                  refine wpAnyH_done (by kernel_rfl) ?_ _
                  clear hS hHeld
                  go_wp2_with fail
                  exact ⟨⟨m - 1, ⟨G.scopes, G.edges, G.decls, G.refs ++ [⟨(r1 : Nat), xyzQ r2⟩]⟩, v1, v2, (.slice aN (G.refs.length + 1) pN), by first | go_num | (rw [hsub]), hsc, by (simp only [List.length_append, List.length_singleton]; omega), by (first | omega | (simp only [List.length_append, List.length_singleton]; omega)), by (first | omega | (simp only [List.length_append, List.length_singleton]; omega)), by (first | omega | (simp only [List.length_append, List.length_singleton]; omega)), HA11, HX11, HG11, HN11⟩, by simp [intOf]; omega⟩
            case neg =>
              obtain rfl : m = 0 := by omega
              obtain ⟨q0, q1, q2, q3⟩ := cellsX HX5.out
              obtain ⟨a1, p1, a2, p2, a3, p3, e1, e2, e3⟩ := Gro.forms HG5.out
              subst e1 e2 e3
              obtain ⟨z0, z1, z2, z3⟩ := cellsX HA5.out.bx
              have y0 := HA5.out.bx.frozen 0
              have y1 := HA5.out.bx.frozen 1
              have y2 := HA5.out.bx.frozen 2
              have y3 := HA5.out.bx.frozen 3
              have hz := HA5.out.size
              go_wp2_with fail
              refine bodyPost_ret (v := .agg #[.int .i64 (1 + (q : Int)), .slice a1 G.edges.length p1, .slice a2 G.decls.length p2, .slice a3 G.refs.length p3]) (by simp [results, Try.results74, go_sem, z0, z1, z2, z3, y0, y1, y2, y3]) rfl ?_
              rw [← hsc]
              exact HA5.out.done hlt HG5.out ⟨by omega, by omega, by omega⟩
end Go.Proofs.Ytledclkmeikgdaa
