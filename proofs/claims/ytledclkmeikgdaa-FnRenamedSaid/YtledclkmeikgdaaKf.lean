import Derived.Test.YtledclkmeikgdaaKe
/-! A Sg drawn, that may be spoilt. -/
namespace Go.Proofs.Ytledclkmeikgdaa
open Go.RowKit Go.Deep
set_option linter.unusedVariables false
set_option maxRecDepth 100000
set_option linter.unusedSimpArgs false

def xeQ (q : Nat) : ByteArray := if q = 0 then ⟨#[120]⟩ else ⟨#[]⟩
theorem xeQ_size (q : Nat) : (xeQ q).size ≤ 1000 := by
  unfold xeQ
  split <;> decide
theorem xeQ_at {w : World} {gn : Nat} (h : Box w gn 9 [.string ⟨#[120]⟩, .string ⟨#[]⟩]) {q : Nat} (hq : q < 2) : w.cell? ⟨gn, q, none⟩ = some (.string (xeQ q)) := by
  have h1 := h.cell q hq
  rw [h1]
  match q, hq with
  | 0, _ => rfl
  | 1, _ => rfl
def scQ (q : Nat) : Int := if q = 0 then 0 else if q = 1 then 60 else 61
theorem scQ_at (w : World) {q : Nat} (hq : q < 3) : (w.alloc (.cells #[.int .i64 0, .int .i64 60, .int .i64 61] 3)).cell? ⟨w.heap.size, q, none⟩ = some (.int .i64 (scQ q)) := by
  match q, hq with
  | 0, _ => simp [go_sem, scQ]
  | 1, _ => simp [go_sem, scQ]
  | 2, _ => simp [go_sem, scQ]
def lenAt (w : World) (g : Nat) : Nat := match w.cell? ⟨g, 2, none⟩ with | some (.slice _ n _) => n | _ => 0
theorem lenAt_of {w : World} {g ty n p : Nat} {c0 c1 c3 : Value} {a : Option Addr} (h : Box w g ty [c0, c1, .slice a n p, c3]) : lenAt w g = n := by
  unfold lenAt
  rw [(cellsX h).2.2.1]
abbrev o29_6_0 : Oper := { dst := some 18, op := Go.Op.fieldAddr 27 (Go.Operand.tmp 3) 1, type := 0, pos := "l12_names.go:415", after := #[], guard := none }
abbrev o29_6_1 : Oper := { dst := some 19, op := Go.Op.load 24 (Go.Operand.tmp 18), type := 24, pos := "l12_names.go:415", after := #[{ on := 0, ground := Go.Ground.data }], guard := none }
abbrev o29_6_2 : Oper := { dst := some 20, op := Go.Op.move (Go.Operand.tmp 0), type := 61, pos := "l12_names.go:415", after := #[], guard := none }
abbrev o29_6_3 : Oper := { dst := some 21, op := Go.Op.call { callee := Go.Callee.value (Go.Operand.func 30), args := #[Go.Operand.tmp 20, Go.Operand.const (Go.Value.int Go.IntKind.i64 9)], argTypes := #[61, 3] }, type := 3, pos := "l12_names.go:415", after := #[{ on := 2, ground := Go.Ground.data }], guard := none }
abbrev o29_6_4 : Oper := { dst := some 22, op := Go.Op.binOp Go.BinOp.sub 3 (Go.Operand.tmp 21) (Go.Operand.const (Go.Value.int Go.IntKind.i64 1)) 3, type := 3, pos := "l12_names.go:415", after := #[{ on := 3, ground := Go.Ground.data }], guard := none }
abbrev o29_6_5 : Oper := { dst := some 23, op := Go.Op.move (Go.Operand.tmp 0), type := 61, pos := "l12_names.go:415", after := #[], guard := none }
abbrev o29_6_6 : Oper := { dst := some 24, op := Go.Op.call { callee := Go.Callee.value (Go.Operand.func 30), args := #[Go.Operand.tmp 23, Go.Operand.const (Go.Value.int Go.IntKind.i64 9)], argTypes := #[61, 3] }, type := 3, pos := "l12_names.go:415", after := #[{ on := 5, ground := Go.Ground.data }, { on := 3, ground := Go.Ground.chain }], guard := none }
abbrev o29_6_7 : Oper := { dst := some 25, op := Go.Op.binOp Go.BinOp.sub 3 (Go.Operand.tmp 24) (Go.Operand.const (Go.Value.int Go.IntKind.i64 1)) 3, type := 3, pos := "l12_names.go:415", after := #[{ on := 6, ground := Go.Ground.data }], guard := none }
abbrev o29_6_8 : Oper := { dst := some 26, op := Go.Op.move (Go.Operand.tmp 0), type := 61, pos := "l12_names.go:415", after := #[], guard := none }
abbrev o29_6_9 : Oper := { dst := some 27, op := Go.Op.call { callee := Go.Callee.value (Go.Operand.func 30), args := #[Go.Operand.tmp 26, Go.Operand.const (Go.Value.int Go.IntKind.i64 4)], argTypes := #[61, 3] }, type := 3, pos := "l12_names.go:415", after := #[{ on := 8, ground := Go.Ground.data }, { on := 6, ground := Go.Ground.chain }], guard := none }
abbrev o29_6_10 : Oper := { dst := some 28, op := Go.Op.build 74 #[(0, Go.Operand.tmp 22), (1, Go.Operand.tmp 25), (2, Go.Operand.tmp 27)], type := 74, pos := "l12_names.go:415", after := #[{ on := 4, ground := Go.Ground.data }, { on := 7, ground := Go.Ground.data }, { on := 9, ground := Go.Ground.data }], guard := none }
abbrev o29_6_11 : Oper := { dst := some 29, op := Go.Op.buildSlice 24 1 #[(0, Go.Operand.tmp 28)], type := 24, pos := "l12_names.go:415", after := #[{ on := 10, ground := Go.Ground.data }], guard := none }
abbrev o29_6_12 : Oper := { dst := some 30, op := Go.Op.call { callee := Go.Callee.builtin Go.Builtin.append, args := #[Go.Operand.tmp 19, Go.Operand.tmp 29], argTypes := #[24, 24] }, type := 24, pos := "l12_names.go:415", after := #[{ on := 1, ground := Go.Ground.data }, { on := 11, ground := Go.Ground.data }, { on := 9, ground := Go.Ground.chain }], guard := none }
abbrev o29_6_13 : Oper := { dst := some 31, op := Go.Op.fieldAddr 27 (Go.Operand.tmp 3) 1, type := 0, pos := "l12_names.go:415", after := #[{ on := 0, ground := Go.Ground.phase }, { on := 1, ground := Go.Ground.phase }, { on := 2, ground := Go.Ground.phase }, { on := 3, ground := Go.Ground.phase }, { on := 4, ground := Go.Ground.phase }, { on := 5, ground := Go.Ground.phase }, { on := 6, ground := Go.Ground.phase }, { on := 7, ground := Go.Ground.phase }, { on := 8, ground := Go.Ground.phase }, { on := 9, ground := Go.Ground.phase }, { on := 10, ground := Go.Ground.phase }, { on := 11, ground := Go.Ground.phase }, { on := 12, ground := Go.Ground.phase }], guard := none }
abbrev o29_6_14 : Oper := { dst := none, op := Go.Op.store 24 (Go.Operand.tmp 31) (Go.Operand.tmp 30), type := 0, pos := "l12_names.go:415", after := #[{ on := 13, ground := Go.Ground.data }, { on := 12, ground := Go.Ground.data }, { on := 12, ground := Go.Ground.chain }, { on := 0, ground := Go.Ground.phase }, { on := 1, ground := Go.Ground.phase }, { on := 2, ground := Go.Ground.phase }, { on := 3, ground := Go.Ground.phase }, { on := 4, ground := Go.Ground.phase }, { on := 5, ground := Go.Ground.phase }, { on := 6, ground := Go.Ground.phase }, { on := 7, ground := Go.Ground.phase }, { on := 8, ground := Go.Ground.phase }, { on := 9, ground := Go.Ground.phase }, { on := 10, ground := Go.Ground.phase }, { on := 11, ground := Go.Ground.phase }, { on := 12, ground := Go.Ground.phase }], guard := none }
abbrev o29_8_0 : Oper := { dst := some 34, op := Go.Op.fieldAddr 27 (Go.Operand.tmp 3) 3, type := 0, pos := "l12_names.go:417", after := #[], guard := none }
abbrev o29_8_1 : Oper := { dst := some 35, op := Go.Op.load 25 (Go.Operand.tmp 34), type := 25, pos := "l12_names.go:417", after := #[{ on := 0, ground := Go.Ground.data }], guard := none }
abbrev o29_8_2 : Oper := { dst := some 36, op := Go.Op.move (Go.Operand.tmp 0), type := 61, pos := "l12_names.go:417", after := #[], guard := none }
abbrev o29_8_3 : Oper := { dst := some 37, op := Go.Op.call { callee := Go.Callee.value (Go.Operand.func 30), args := #[Go.Operand.tmp 36, Go.Operand.const (Go.Value.int Go.IntKind.i64 9)], argTypes := #[61, 3] }, type := 3, pos := "l12_names.go:417", after := #[{ on := 2, ground := Go.Ground.data }], guard := none }
abbrev o29_8_4 : Oper := { dst := some 38, op := Go.Op.binOp Go.BinOp.sub 3 (Go.Operand.tmp 37) (Go.Operand.const (Go.Value.int Go.IntKind.i64 1)) 3, type := 3, pos := "l12_names.go:417", after := #[{ on := 3, ground := Go.Ground.data }], guard := none }
abbrev o29_8_5 : Oper := { dst := some 39, op := Go.Op.buildSlice 66 2 #[(0, Go.Operand.const (Go.Value.string { data := #[120] })), (1, Go.Operand.const (Go.Value.string { data := #[] }))], type := 66, pos := "l12_names.go:417", after := #[], guard := none }
abbrev o29_8_6 : Oper := { dst := some 40, op := Go.Op.move (Go.Operand.tmp 0), type := 61, pos := "l12_names.go:417", after := #[], guard := none }
abbrev o29_8_7 : Oper := { dst := some 41, op := Go.Op.call { callee := Go.Callee.value (Go.Operand.func 30), args := #[Go.Operand.tmp 40, Go.Operand.const (Go.Value.int Go.IntKind.i64 2)], argTypes := #[61, 3] }, type := 3, pos := "l12_names.go:417", after := #[{ on := 6, ground := Go.Ground.data }, { on := 3, ground := Go.Ground.chain }], guard := none }
abbrev o29_8_8 : Oper := { dst := some 42, op := Go.Op.indexAddr 66 (Go.Operand.tmp 39) (Go.Operand.tmp 41), type := 0, pos := "l12_names.go:417", after := #[{ on := 5, ground := Go.Ground.data }, { on := 7, ground := Go.Ground.data }], guard := none }
abbrev o29_8_9 : Oper := { dst := some 43, op := Go.Op.load 9 (Go.Operand.tmp 42), type := 9, pos := "l12_names.go:417", after := #[{ on := 8, ground := Go.Ground.data }], guard := none }
abbrev o29_8_10 : Oper := { dst := some 44, op := Go.Op.build 33 #[(0, Go.Operand.tmp 38), (1, Go.Operand.tmp 43)], type := 33, pos := "l12_names.go:417", after := #[{ on := 4, ground := Go.Ground.data }, { on := 9, ground := Go.Ground.data }], guard := none }
abbrev o29_8_11 : Oper := { dst := some 45, op := Go.Op.buildSlice 25 1 #[(0, Go.Operand.tmp 44)], type := 25, pos := "l12_names.go:417", after := #[{ on := 10, ground := Go.Ground.data }], guard := none }
abbrev o29_8_12 : Oper := { dst := some 46, op := Go.Op.call { callee := Go.Callee.builtin Go.Builtin.append, args := #[Go.Operand.tmp 35, Go.Operand.tmp 45], argTypes := #[25, 25] }, type := 25, pos := "l12_names.go:417", after := #[{ on := 1, ground := Go.Ground.data }, { on := 11, ground := Go.Ground.data }, { on := 7, ground := Go.Ground.chain }], guard := none }
abbrev o29_8_13 : Oper := { dst := some 47, op := Go.Op.fieldAddr 27 (Go.Operand.tmp 3) 3, type := 0, pos := "l12_names.go:417", after := #[{ on := 0, ground := Go.Ground.phase }, { on := 1, ground := Go.Ground.phase }, { on := 2, ground := Go.Ground.phase }, { on := 3, ground := Go.Ground.phase }, { on := 4, ground := Go.Ground.phase }, { on := 5, ground := Go.Ground.phase }, { on := 6, ground := Go.Ground.phase }, { on := 7, ground := Go.Ground.phase }, { on := 8, ground := Go.Ground.phase }, { on := 9, ground := Go.Ground.phase }, { on := 10, ground := Go.Ground.phase }, { on := 11, ground := Go.Ground.phase }, { on := 12, ground := Go.Ground.phase }], guard := none }
abbrev o29_8_14 : Oper := { dst := none, op := Go.Op.store 25 (Go.Operand.tmp 47) (Go.Operand.tmp 46), type := 0, pos := "l12_names.go:417", after := #[{ on := 13, ground := Go.Ground.data }, { on := 12, ground := Go.Ground.data }, { on := 12, ground := Go.Ground.chain }, { on := 0, ground := Go.Ground.phase }, { on := 1, ground := Go.Ground.phase }, { on := 2, ground := Go.Ground.phase }, { on := 3, ground := Go.Ground.phase }, { on := 4, ground := Go.Ground.phase }, { on := 5, ground := Go.Ground.phase }, { on := 6, ground := Go.Ground.phase }, { on := 7, ground := Go.Ground.phase }, { on := 8, ground := Go.Ground.phase }, { on := 9, ground := Go.Ground.phase }, { on := 10, ground := Go.Ground.phase }, { on := 11, ground := Go.Ground.phase }, { on := 12, ground := Go.Ground.phase }], guard := none }
abbrev o29_10_0 : Oper := { dst := some 50, op := Go.Op.fieldAddr 27 (Go.Operand.tmp 3) 2, type := 0, pos := "l12_names.go:419", after := #[], guard := none }
abbrev o29_10_1 : Oper := { dst := some 51, op := Go.Op.load 25 (Go.Operand.tmp 50), type := 25, pos := "l12_names.go:419", after := #[{ on := 0, ground := Go.Ground.data }], guard := none }
abbrev o29_10_2 : Oper := { dst := some 52, op := Go.Op.call { callee := Go.Callee.builtin Go.Builtin.len, args := #[Go.Operand.tmp 51], argTypes := #[25] }, type := 3, pos := "l12_names.go:419", after := #[{ on := 1, ground := Go.Ground.data }], guard := none }
abbrev o29_10_3 : Oper := { dst := some 53, op := Go.Op.move (Go.Operand.tmp 0), type := 61, pos := "l12_names.go:419", after := #[], guard := none }
abbrev o29_10_4 : Oper := { dst := some 54, op := Go.Op.call { callee := Go.Callee.value (Go.Operand.func 30), args := #[Go.Operand.tmp 53, Go.Operand.const (Go.Value.int Go.IntKind.i64 2)], argTypes := #[61, 3] }, type := 3, pos := "l12_names.go:419", after := #[{ on := 3, ground := Go.Ground.data }], guard := none }
abbrev o29_10_5 : Oper := { dst := some 55, op := Go.Op.binOp Go.BinOp.add 3 (Go.Operand.const (Go.Value.int Go.IntKind.i64 120)) (Go.Operand.tmp 54) 3, type := 3, pos := "l12_names.go:419", after := #[{ on := 4, ground := Go.Ground.data }], guard := none }
abbrev o29_10_6 : Oper := { dst := some 56, op := Go.Op.binOp Go.BinOp.lss 3 (Go.Operand.tmp 52) (Go.Operand.tmp 55) 3, type := 4, pos := "l12_names.go:419", after := #[{ on := 2, ground := Go.Ground.data }, { on := 5, ground := Go.Ground.data }], guard := none }
set_option maxHeartbeats 25600000 in
theorem drawAnySg {cs : List UInt8} {a : Option Addr} {cap b off c : Nat} (s : Nat × Nat) (w : World) (hc : T.Cur w cs a cap b off c s) :
    Calls Try.prog 29 #[.pointer (some ⟨c, 0, none⟩)] w fun e w' => DrewG 500 cs a cap b off c w e w' := by
  have hlt := hc.2.2.2.2.2.2.2.2.lt
  obtain ⟨i74, hi74, hzz⟩ := Option.map_eq_some_iff.1 info74
  simp only [Prod.mk.injEq] at hzz
  obtain ⟨hy0, hy1, hy2⟩ := hzz
  obtain ⟨i33, hi33, hzz⟩ := Option.map_eq_some_iff.1 info33
  simp only [Prod.mk.injEq] at hzz
  obtain ⟨hz0, hz1, hz2⟩ := hzz
  have HA := (show Hid (AtS cs a cap b off c w (w.alloc (.cells #[.int .i64 0, .slice none 0 0, .slice none 0 0, .slice none 0 0] 27))) from AtS.new hc)
  obtain ⟨s0, hs0⟩ := HA.out.cu
  have HCL := (show Hid _ from drawSg s0 _ hs0)
  clear hs0 hc
  go_enter Try.func29, Try.ntmps29
  go_wp2_with fail
  refine Calls.mono HCL.out ?_
  rintro e w1 ⟨G, v1, v2, v3, rfl, hO, ⟨s1, hC⟩, hG, hl1, hl2, hl3⟩
  obtain ⟨a1, p1, a2, p2, a3, p3, e1, e2, e3⟩ := Gro.forms hG
  subst e1 e2 e3
  have HA1 := (show Hid (AtS cs a cap b off c w w1) from HA.out.pick hlt hO hC)
  have hsz1 := HA1.out.size
  have HG1 := (show Hid (Gro (w.heap.size + 1) w1 G (.slice a1 G.edges.length p1) (.slice a2 G.decls.length p2) (.slice a3 G.refs.length p3)) from hG.low (by simp))
  obtain ⟨sc, hsc⟩ : ∃ sc, sc = G.scopes := ⟨_, rfl⟩
  rw [← hsc]
  have HSC := (show Hid (sc = G.scopes) from hsc); clear hsc
  have hb := bel_alloc w1 (.cells #[.int .i64 sc, .slice a1 G.edges.length p1, .slice a2 G.decls.length p2, .slice a3 G.refs.length p3] 27)
  have HA2 := (show Hid (AtS cs a cap b off c w (w1.alloc (.cells #[.int .i64 sc, .slice a1 G.edges.length p1, .slice a2 G.decls.length p2, .slice a3 G.refs.length p3] 27))) from HA1.out.still hb)
  have HX2 := (show Hid (Box (w1.alloc (.cells #[.int .i64 sc, .slice a1 G.edges.length p1, .slice a2 G.decls.length p2, .slice a3 G.refs.length p3] 27)) w1.heap.size 27 [.int .i64 sc, .slice a1 G.edges.length p1, .slice a2 G.decls.length p2, .slice a3 G.refs.length p3]) from Box.new w1 27 _)
  have HG2 := (show Hid (Gro (w.heap.size + 1) (w1.alloc (.cells #[.int .i64 sc, .slice a1 G.edges.length p1, .slice a2 G.decls.length p2, .slice a3 G.refs.length p3] 27)) G (.slice a1 G.edges.length p1) (.slice a2 G.decls.length p2) (.slice a3 G.refs.length p3)) from HG1.out.still hb)
  clear HA HA1 HG1 HCL hO hC hb hG
  obtain ⟨s2, hs2⟩ := HA2.out.cu
  have HCL := (show Hid _ from pickE 20 _ hs2 (by decide))
  clear hs2
  have hg0 : w.heap.size < w1.heap.size := by omega
  go_wp2_with fail
  refine Calls.mono HCL.out ?_
  rintro e w2 ⟨k, s3, rfl, hk, hO, hC⟩
  have hk20 : k < 20 := hk (by omega)
  obtain ⟨HA3, HX3, HG3⟩ := pk3 hlt HA2 HX2 HG2 hO hC (by omega)
  clear HCL hO hC hk HA2 HX2 HG2
  by_cases h4 : 4 ≤ k
  case pos =>
    have k0 : ((k : Int) == 0) = false := by simp; omega
    have k1 : ((k : Int) == 1) = false := by simp; omega
    have k2 : ((k : Int) == 2) = false := by simp; omega
    have k3 : ((k : Int) == 3) = false := by simp; omega
    obtain ⟨q0, q1, q2, q3⟩ := cellsX HX3.out
    obtain ⟨z0, z1, z2, z3⟩ := cellsX HA3.out.bx
    have y0 := HA3.out.bx.frozen 0
    have y1 := HA3.out.bx.frozen 1
    have y2 := HA3.out.bx.frozen 2
    have y3 := HA3.out.bx.frozen 3
    have hz := HA3.out.size
    go_wp2_with fail
    refine bodyPost_ret (v := .agg #[.int .i64 sc, (.slice a1 G.edges.length p1), (.slice a2 G.decls.length p2), (.slice a3 G.refs.length p3)]) (by simp [results, Try.results29, go_sem, z0, z1, z2, z3, y0, y1, y2, y3]) rfl ?_
    rw [HSC.out]
    exact AtS.done (G := G) HA3.out hlt HG3.out ⟨by omega, by omega, by omega⟩
  case neg =>
    have hk : k = 0 ∨ k = 1 ∨ k = 2 ∨ k = 3 := by omega
    rcases hk with rfl | rfl | rfl | rfl
    · skip
      have hb := bel_alloc w2 (.cells #[.int .i64 0, .int .i64 60, .int .i64 61] 3)
      obtain ⟨HA4, HX4, HG4⟩ := st3 HA3 HX3 HG3 hb
      obtain ⟨s4, hs4⟩ := HA4.out.cu
      have HCL := (show Hid _ from pickE 3 _ hs4 (by decide))
      have hgx : w1.heap.size < w2.heap.size := HX3.out.lt
      have HQ := (show Hid (∀ q, q < 3 → (w2.alloc (.cells #[.int .i64 0, .int .i64 60, .int .i64 61] 3)).cell? ⟨w2.heap.size, q, none⟩ = some (.int .i64 (scQ q))) from fun q hq => scQ_at w2 hq)
      have hsz2 := HA3.out.size
      clear hs4 hb HA3 HX3 HG3
      go_wp2_with fail
      refine Calls.mono HCL.out ?_
      rintro e w5 ⟨r1, s5, rfl, hr1, hO, hC⟩
      have hr1 : r1 < 3 := hr1 (by omega)
      have hr1i : (r1 : Int) < 3 := by omega
      have x5 : w5.cell? ⟨w2.heap.size, r1, none⟩ = some (.int .i64 (scQ r1)) := T.Out.cell hO (HQ.out r1 hr1) (.inr (by omega))
      obtain ⟨HA5, HX5, HG5⟩ := pk3 hlt HA4 HX4 HG4 hO hC (by omega)
      clear HCL hO hC HQ HA4 HX4 HG4
      obtain ⟨q0', q1', q2', q3'⟩ := cellsX HX5.out
      have f0 := HX5.out.frozen 0
      have HA6 := (show Hid (AtS cs a cap b off c w (w5.setCell ⟨w1.heap.size, 0, none⟩ (.int .i64 (scQ r1)))) from HA5.out.put hlt (by omega) 0 _)
      have HX6 := (show Hid (Box (w5.setCell ⟨w1.heap.size, 0, none⟩ (.int .i64 (scQ r1))) w1.heap.size 27 [.int .i64 (scQ r1), .slice a1 G.edges.length p1, .slice a2 G.decls.length p2, .slice a3 G.refs.length p3]) from HX5.out.set 0 _)
      have HG6 := (show Hid (Gro (w.heap.size + 1) (w5.setCell ⟨w1.heap.size, 0, none⟩ (.int .i64 (scQ r1))) ⟨scQ r1, G.edges, G.decls, G.refs⟩ (.slice a1 G.edges.length p1) (.slice a2 G.decls.length p2) (.slice a3 G.refs.length p3)) from (HG5.out.past HX5.out (by decide) (by decide)).sc _)
      clear HA5 HX5 HG5
      obtain ⟨q0, q1, q2, q3⟩ := cellsX HX6.out
      obtain ⟨z0, z1, z2, z3⟩ := cellsX HA6.out.bx
      have y0 := HA6.out.bx.frozen 0
      have y1 := HA6.out.bx.frozen 1
      have y2 := HA6.out.bx.frozen 2
      have y3 := HA6.out.bx.frozen 3
      have hz := HA6.out.size
      go_wp2_with fail
      refine bodyPost_ret (v := .agg #[.int .i64 (scQ r1), (.slice a1 G.edges.length p1), (.slice a2 G.decls.length p2), (.slice a3 G.refs.length p3)]) (by simp [results, Try.results29, go_sem, z0, z1, z2, z3, y0, y1, y2, y3]) rfl ?_
      skip
      exact AtS.done (G := ⟨scQ r1, G.edges, G.decls, G.refs⟩) HA6.out hlt HG6.out ⟨by show G.edges.length ≤ 500; omega, by show G.decls.length ≤ 500; omega, by show G.refs.length ≤ 500; omega⟩
    · skip
      go_wp2_with fail
      have hb : Below w2.heap.size w2 w2.drew := (Below.refl _ _).drew
      obtain ⟨HA4, HX4, HG4⟩ := st3 HA3 HX3 HG3 hb
      clear hb HA3 HX3 HG3
      have hS := (cellsX HX4.out).1
      refine wp_region_held_drew (S := (fun wq => wq.cell? ⟨w1.heap.size, 0, none⟩ = some (.int .i64 sc))) (by kernel_rfl) hS (fun hHeld => ?_)
      clear hS
      generalize w2.drew = WR at *
      refine tkH (i := 0) (oi := o29_6_0) (v := ?v1) ?h1 hHeld ?r1
      case h1 => (intro w hSw; (try dsimp only at hSw); go_simp; try with_reducible rfl)
      try simp only [Act.put, List.setIfInBounds_toArray, List.set_cons_zero, List.set_cons_succ]
      refine tkH (i := 2) (oi := o29_6_2) (v := ?v2) ?h2 hHeld ?r2
      case h2 => (intro w hSw; (try dsimp only at hSw); go_simp; try with_reducible rfl)
      try simp only [Act.put, List.setIfInBounds_toArray, List.set_cons_zero, List.set_cons_succ]
      refine tkH (i := 5) (oi := o29_6_5) (v := ?v3) ?h3 hHeld ?r3
      case h3 => (intro w hSw; (try dsimp only at hSw); go_simp; try with_reducible rfl)
      try simp only [Act.put, List.setIfInBounds_toArray, List.set_cons_zero, List.set_cons_succ]
      refine tkH (i := 8) (oi := o29_6_8) (v := ?v4) ?h4 hHeld ?r4
      case h4 => (intro w hSw; (try dsimp only at hSw); go_simp; try with_reducible rfl)
      try simp only [Act.put, List.setIfInBounds_toArray, List.set_cons_zero, List.set_cons_succ]
      refine wpAnyH_ready (rs := [1, 3]) (by kernel_rfl) (by simp) ?_
      refine (AllReadyH.cons (o := o29_6_1) rfl (fun K hK => ?_) (AllReadyH.cons (o := o29_6_3) rfl (fun K hK => ?_) AllReadyH.nil))
      ·
       obtain ⟨q0', q1', q2', q3'⟩ := cellsX HX4.out
       go_simp
       clear q0' q1' q2' q3'
       have hS := (cellsX HX4.out).1
       clear hHeld
       refine hK.out _ _ hS (fun hHeld => ?_)
       clear hK K
       try simp only [Act.put, List.setIfInBounds_toArray, List.set_cons_zero, List.set_cons_succ]
       clear hS
       refine wpAnyH_ready (rs := [3]) (by kernel_rfl) (by simp) ?_
       refine (AllReadyH.cons (o := o29_6_3) rfl (fun K hK => ?_) AllReadyH.nil)
       obtain ⟨s5, hs5⟩ := HA4.out.cu
       go_simp
       go_at_call 30
       refine Calls.mono (pickE 9 _ hs5 (by decide)) ?_
       rintro e v5 ⟨r1, t5, rfl, hr1, hO, hC⟩
       obtain ⟨HA5, HX5, HG5⟩ := pk3 hlt HA4 HX4 HG4 hO hC (by omega)
       clear hO hC hs5 HA4 HX4 HG4
       have hr1 : r1 < 9 := hr1 (by omega)
       have hr1i : (r1 : Int) < 9 := by omega
       have hwr1 : IntKind.i64.wrap ((r1 : Int) - 1) = (r1 : Int) - 1 := by simp [IntKind.wrap, IntKind.bits, IntKind.signed]; omega
       have hS := (cellsX HX5.out).1
       clear hHeld
       refine hK.out _ _ hS (fun hHeld => ?_)
       clear hK K
       try simp only [Act.put, List.setIfInBounds_toArray, List.set_cons_zero, List.set_cons_succ]
       clear hS
       refine tkH (i := 4) (oi := o29_6_4) (v := ?v5) ?h5 hHeld ?r5
       case h5 => (intro w hSw; (try dsimp only at hSw); go_simp; try with_reducible rfl)
       try simp only [Act.put, List.setIfInBounds_toArray, List.set_cons_zero, List.set_cons_succ]
       refine wpAnyH_ready (rs := [6]) (by kernel_rfl) (by simp) ?_
       refine (AllReadyH.cons (o := o29_6_6) rfl (fun K hK => ?_) AllReadyH.nil)
       obtain ⟨s6, hs6⟩ := HA5.out.cu
       go_simp
       go_at_call 30
       refine Calls.mono (pickE 9 _ hs6 (by decide)) ?_
       rintro e v6 ⟨r2, t6, rfl, hr2, hO, hC⟩
       obtain ⟨HA6, HX6, HG6⟩ := pk3 hlt HA5 HX5 HG5 hO hC (by omega)
       clear hO hC hs6 HA5 HX5 HG5
       have hr2 : r2 < 9 := hr2 (by omega)
       have hr2i : (r2 : Int) < 9 := by omega
       have hwr2 : IntKind.i64.wrap ((r2 : Int) - 1) = (r2 : Int) - 1 := by simp [IntKind.wrap, IntKind.bits, IntKind.signed]; omega
       have hS := (cellsX HX6.out).1
       clear hHeld
       refine hK.out _ _ hS (fun hHeld => ?_)
       clear hK K
       try simp only [Act.put, List.setIfInBounds_toArray, List.set_cons_zero, List.set_cons_succ]
       clear hS
       refine tkH (i := 7) (oi := o29_6_7) (v := ?v6) ?h6 hHeld ?r6
       case h6 => (intro w hSw; (try dsimp only at hSw); go_simp; try with_reducible rfl)
       try simp only [Act.put, List.setIfInBounds_toArray, List.set_cons_zero, List.set_cons_succ]
       refine wpAnyH_ready (rs := [9]) (by kernel_rfl) (by simp) ?_
       refine (AllReadyH.cons (o := o29_6_9) rfl (fun K hK => ?_) AllReadyH.nil)
       obtain ⟨s7, hs7⟩ := HA6.out.cu
       go_simp
       go_at_call 30
       refine Calls.mono (pickE 4 _ hs7 (by decide)) ?_
       rintro e v7 ⟨r3, t7, rfl, hr3, hO, hC⟩
       obtain ⟨HA7, HX7, HG7⟩ := pk3 hlt HA6 HX6 HG6 hO hC (by omega)
       clear hO hC hs7 HA6 HX6 HG6
       have hr3 : r3 < 4 := hr3 (by omega)
       have hr3i : (r3 : Int) < 4 := by omega
       have hS := (cellsX HX7.out).1
       clear hHeld
       refine hK.out _ _ hS (fun hHeld => ?_)
       clear hK K
       try simp only [Act.put, List.setIfInBounds_toArray, List.set_cons_zero, List.set_cons_succ]
       clear hS
       refine tkH (i := 10) (oi := o29_6_10) (v := ?v7) ?h7 hHeld ?r7
       case h7 => (intro w hSw; (try dsimp only at hSw); go_simp; try with_reducible rfl)
       try simp only [Act.put, List.setIfInBounds_toArray, List.set_cons_zero, List.set_cons_succ]
       refine wpAnyH_ready (rs := [11]) (by kernel_rfl) (by simp) ?_
       refine (AllReadyH.cons (o := o29_6_11) rfl (fun K hK => ?_) AllReadyH.nil)
       go_simp
       have hb := bel_alloc (v7) (.cells #[.int .i64 ((r1 : Int) - 1), .int .i64 ((r2 : Int) - 1), .int .i64 (r3 : Nat)] 74)
       obtain ⟨HA8, HX8, HG8⟩ := st3 HA7 HX7 HG7 hb
       have HS := (show Hid (SrcR ((v7).alloc (.cells #[.int .i64 ((r1 : Int) - 1), .int .i64 ((r2 : Int) - 1), .int .i64 (r3 : Nat)] 74)) 74 3 (.slice (some ⟨(v7).heap.size, 0, none⟩) 1 1) 1 [.int .i64 ((r1 : Int) - 1), .int .i64 ((r2 : Int) - 1), .int .i64 (r3 : Nat)]) from src3 _ _ _ _ _)
       clear hb HA7 HX7 HG7
       have hS := (cellsX HX8.out).1
       clear hHeld
       refine hK.out _ _ hS (fun hHeld => ?_)
       clear hK K
       try simp only [Act.put, List.setIfInBounds_toArray, List.set_cons_zero, List.set_cons_succ]
       clear hS
       generalize (v7).alloc (.cells #[.int .i64 ((r1 : Int) - 1), .int .i64 ((r2 : Int) - 1), .int .i64 (r3 : Nat)] 74) = W8 at *
       generalize hga : (v7).heap.size = ga at *
       clear hga
       refine wpAnyH_ready (rs := [12]) (by kernel_rfl) (by simp) ?_
       refine (AllReadyH.cons (o := o29_6_12) rfl (fun K hK => ?_) AllReadyH.nil)
       refine stepE _ rfl (.tmp 19) (.tmp 29) rfl (by simp [Act.eval, Act.put]) HG8.out.e (by simp [Act.eval, Act.put]) HS.out (by omega) HA8.out.size ?_
       intro aN pN wN hown hgr hat
       obtain ⟨HA9, HX9, HG9⟩ := ap1 hlt HA8 HX8 HG8 ⟨(r1 : Int) - 1, (r2 : Int) - 1, (r3 : Nat)⟩ hown hgr (by omega)
       clear HS hown hgr hat HA8 HX8 HG8
       have hS := (cellsX HX9.out).1
       clear hHeld
       refine hK.out _ _ hS (fun hHeld => ?_)
       clear hK K
       try simp only [Act.put, List.setIfInBounds_toArray, List.set_cons_zero, List.set_cons_succ]
       clear hS
       refine tkH (i := 13) (oi := o29_6_13) (v := ?v8) ?h8 hHeld ?r8
       case h8 => (intro w hSw; (try dsimp only at hSw); go_simp; try with_reducible rfl)
       try simp only [Act.put, List.setIfInBounds_toArray, List.set_cons_zero, List.set_cons_succ]
       refine wpAnyH_ready (rs := [14]) (by kernel_rfl) (by simp) ?_
       refine (AllReadyH.cons (o := o29_6_14) rfl (fun K hK => ?_) AllReadyH.nil)
       obtain ⟨q0', q1', q2', q3'⟩ := cellsX HX9.out
       have f1 := HX9.out.frozen 1
       obtain ⟨HA10, HX10, HG10⟩ := so1 (.slice aN (G.edges.length + 1) pN) hlt (by omega) HA9 HX9 HG9
       go_simp
       clear q0' q1' q2' q3' f1
       clear  HA9 HX9 HG9
       have hS := (cellsX HX10.out).1
       clear hHeld
       refine hK.out _ _ hS (fun hHeld => ?_)
       clear hK K
       try simp only [Act.put, List.setIfInBounds_toArray, List.set_cons_zero, List.set_cons_succ]
       refine wpAnyH_done (by kernel_rfl) ?_ _
       clear hS hHeld
       obtain ⟨q0, q1, q2, q3⟩ := cellsX HX10.out
       obtain ⟨z0, z1, z2, z3⟩ := cellsX HA10.out.bx
       have y0 := HA10.out.bx.frozen 0
       have y1 := HA10.out.bx.frozen 1
       have y2 := HA10.out.bx.frozen 2
       have y3 := HA10.out.bx.frozen 3
       have hz := HA10.out.size
       go_wp2_with fail
       refine bodyPost_ret (v := .agg #[.int .i64 sc, (.slice aN (G.edges.length + 1) pN), (.slice a2 G.decls.length p2), (.slice a3 G.refs.length p3)]) (by simp [results, Try.results29, go_sem, z0, z1, z2, z3, y0, y1, y2, y3]) rfl ?_
       rw [HSC.out]
       exact AtS.done (G := ⟨G.scopes, G.edges ++ [⟨(r1 : Int) - 1, (r2 : Int) - 1, (r3 : Nat)⟩], G.decls, G.refs⟩) HA10.out hlt HG10.out ⟨by (first | omega | (simp only [List.length_append, List.length_singleton]; omega)), by (first | omega | (simp only [List.length_append, List.length_singleton]; omega)), by (first | omega | (simp only [List.length_append, List.length_singleton]; omega))⟩
      ·
       obtain ⟨s5, hs5⟩ := HA4.out.cu
       go_simp
       go_at_call 30
       refine Calls.mono (pickE 9 _ hs5 (by decide)) ?_
       rintro e v5 ⟨r1, t5, rfl, hr1, hO, hC⟩
       obtain ⟨HA5, HX5, HG5⟩ := pk3 hlt HA4 HX4 HG4 hO hC (by omega)
       clear hO hC hs5 HA4 HX4 HG4
       have hr1 : r1 < 9 := hr1 (by omega)
       have hr1i : (r1 : Int) < 9 := by omega
       have hwr1 : IntKind.i64.wrap ((r1 : Int) - 1) = (r1 : Int) - 1 := by simp [IntKind.wrap, IntKind.bits, IntKind.signed]; omega
       have hS := (cellsX HX5.out).1
       clear hHeld
       refine hK.out _ _ hS (fun hHeld => ?_)
       clear hK K
       try simp only [Act.put, List.setIfInBounds_toArray, List.set_cons_zero, List.set_cons_succ]
       clear hS
       refine tkH (i := 4) (oi := o29_6_4) (v := ?v9) ?h9 hHeld ?r9
       case h9 => (intro w hSw; (try dsimp only at hSw); go_simp; try with_reducible rfl)
       try simp only [Act.put, List.setIfInBounds_toArray, List.set_cons_zero, List.set_cons_succ]
       refine wpAnyH_ready (rs := [1, 6]) (by kernel_rfl) (by simp) ?_
       refine (AllReadyH.cons (o := o29_6_1) rfl (fun K hK => ?_) (AllReadyH.cons (o := o29_6_6) rfl (fun K hK => ?_) AllReadyH.nil))
       ·
        obtain ⟨q0', q1', q2', q3'⟩ := cellsX HX5.out
        go_simp
        clear q0' q1' q2' q3'
        have hS := (cellsX HX5.out).1
        clear hHeld
        refine hK.out _ _ hS (fun hHeld => ?_)
        clear hK K
        try simp only [Act.put, List.setIfInBounds_toArray, List.set_cons_zero, List.set_cons_succ]
        clear hS
        refine wpAnyH_ready (rs := [6]) (by kernel_rfl) (by simp) ?_
        refine (AllReadyH.cons (o := o29_6_6) rfl (fun K hK => ?_) AllReadyH.nil)
        obtain ⟨s6, hs6⟩ := HA5.out.cu
        go_simp
        go_at_call 30
        refine Calls.mono (pickE 9 _ hs6 (by decide)) ?_
        rintro e v6 ⟨r2, t6, rfl, hr2, hO, hC⟩
        obtain ⟨HA6, HX6, HG6⟩ := pk3 hlt HA5 HX5 HG5 hO hC (by omega)
        clear hO hC hs6 HA5 HX5 HG5
        have hr2 : r2 < 9 := hr2 (by omega)
        have hr2i : (r2 : Int) < 9 := by omega
        have hwr2 : IntKind.i64.wrap ((r2 : Int) - 1) = (r2 : Int) - 1 := by simp [IntKind.wrap, IntKind.bits, IntKind.signed]; omega
        have hS := (cellsX HX6.out).1
        clear hHeld
        refine hK.out _ _ hS (fun hHeld => ?_)
        clear hK K
        try simp only [Act.put, List.setIfInBounds_toArray, List.set_cons_zero, List.set_cons_succ]
        clear hS
        refine tkH (i := 7) (oi := o29_6_7) (v := ?v10) ?h10 hHeld ?r10
        case h10 => (intro w hSw; (try dsimp only at hSw); go_simp; try with_reducible rfl)
        try simp only [Act.put, List.setIfInBounds_toArray, List.set_cons_zero, List.set_cons_succ]
        refine wpAnyH_ready (rs := [9]) (by kernel_rfl) (by simp) ?_
        refine (AllReadyH.cons (o := o29_6_9) rfl (fun K hK => ?_) AllReadyH.nil)
        obtain ⟨s7, hs7⟩ := HA6.out.cu
        go_simp
        go_at_call 30
        refine Calls.mono (pickE 4 _ hs7 (by decide)) ?_
        rintro e v7 ⟨r3, t7, rfl, hr3, hO, hC⟩
        obtain ⟨HA7, HX7, HG7⟩ := pk3 hlt HA6 HX6 HG6 hO hC (by omega)
        clear hO hC hs7 HA6 HX6 HG6
        have hr3 : r3 < 4 := hr3 (by omega)
        have hr3i : (r3 : Int) < 4 := by omega
        have hS := (cellsX HX7.out).1
        clear hHeld
        refine hK.out _ _ hS (fun hHeld => ?_)
        clear hK K
        try simp only [Act.put, List.setIfInBounds_toArray, List.set_cons_zero, List.set_cons_succ]
        clear hS
        refine tkH (i := 10) (oi := o29_6_10) (v := ?v11) ?h11 hHeld ?r11
        case h11 => (intro w hSw; (try dsimp only at hSw); go_simp; try with_reducible rfl)
        try simp only [Act.put, List.setIfInBounds_toArray, List.set_cons_zero, List.set_cons_succ]
        refine wpAnyH_ready (rs := [11]) (by kernel_rfl) (by simp) ?_
        refine (AllReadyH.cons (o := o29_6_11) rfl (fun K hK => ?_) AllReadyH.nil)
        go_simp
        have hb := bel_alloc (v7) (.cells #[.int .i64 ((r1 : Int) - 1), .int .i64 ((r2 : Int) - 1), .int .i64 (r3 : Nat)] 74)
        obtain ⟨HA8, HX8, HG8⟩ := st3 HA7 HX7 HG7 hb
        have HS := (show Hid (SrcR ((v7).alloc (.cells #[.int .i64 ((r1 : Int) - 1), .int .i64 ((r2 : Int) - 1), .int .i64 (r3 : Nat)] 74)) 74 3 (.slice (some ⟨(v7).heap.size, 0, none⟩) 1 1) 1 [.int .i64 ((r1 : Int) - 1), .int .i64 ((r2 : Int) - 1), .int .i64 (r3 : Nat)]) from src3 _ _ _ _ _)
        clear hb HA7 HX7 HG7
        have hS := (cellsX HX8.out).1
        clear hHeld
        refine hK.out _ _ hS (fun hHeld => ?_)
        clear hK K
        try simp only [Act.put, List.setIfInBounds_toArray, List.set_cons_zero, List.set_cons_succ]
        clear hS
        generalize (v7).alloc (.cells #[.int .i64 ((r1 : Int) - 1), .int .i64 ((r2 : Int) - 1), .int .i64 (r3 : Nat)] 74) = W8 at *
        generalize hga : (v7).heap.size = ga at *
        clear hga
        refine wpAnyH_ready (rs := [12]) (by kernel_rfl) (by simp) ?_
        refine (AllReadyH.cons (o := o29_6_12) rfl (fun K hK => ?_) AllReadyH.nil)
        refine stepE _ rfl (.tmp 19) (.tmp 29) rfl (by simp [Act.eval, Act.put]) HG8.out.e (by simp [Act.eval, Act.put]) HS.out (by omega) HA8.out.size ?_
        intro aN pN wN hown hgr hat
        obtain ⟨HA9, HX9, HG9⟩ := ap1 hlt HA8 HX8 HG8 ⟨(r1 : Int) - 1, (r2 : Int) - 1, (r3 : Nat)⟩ hown hgr (by omega)
        clear HS hown hgr hat HA8 HX8 HG8
        have hS := (cellsX HX9.out).1
        clear hHeld
        refine hK.out _ _ hS (fun hHeld => ?_)
        clear hK K
        try simp only [Act.put, List.setIfInBounds_toArray, List.set_cons_zero, List.set_cons_succ]
        clear hS
        refine tkH (i := 13) (oi := o29_6_13) (v := ?v12) ?h12 hHeld ?r12
        case h12 => (intro w hSw; (try dsimp only at hSw); go_simp; try with_reducible rfl)
        try simp only [Act.put, List.setIfInBounds_toArray, List.set_cons_zero, List.set_cons_succ]
        refine wpAnyH_ready (rs := [14]) (by kernel_rfl) (by simp) ?_
        refine (AllReadyH.cons (o := o29_6_14) rfl (fun K hK => ?_) AllReadyH.nil)
        obtain ⟨q0', q1', q2', q3'⟩ := cellsX HX9.out
        have f1 := HX9.out.frozen 1
        obtain ⟨HA10, HX10, HG10⟩ := so1 (.slice aN (G.edges.length + 1) pN) hlt (by omega) HA9 HX9 HG9
        go_simp
        clear q0' q1' q2' q3' f1
        clear  HA9 HX9 HG9
        have hS := (cellsX HX10.out).1
        clear hHeld
        refine hK.out _ _ hS (fun hHeld => ?_)
        clear hK K
        try simp only [Act.put, List.setIfInBounds_toArray, List.set_cons_zero, List.set_cons_succ]
        refine wpAnyH_done (by kernel_rfl) ?_ _
        clear hS hHeld
        obtain ⟨q0, q1, q2, q3⟩ := cellsX HX10.out
        obtain ⟨z0, z1, z2, z3⟩ := cellsX HA10.out.bx
        have y0 := HA10.out.bx.frozen 0
        have y1 := HA10.out.bx.frozen 1
        have y2 := HA10.out.bx.frozen 2
        have y3 := HA10.out.bx.frozen 3
        have hz := HA10.out.size
        go_wp2_with fail
        refine bodyPost_ret (v := .agg #[.int .i64 sc, (.slice aN (G.edges.length + 1) pN), (.slice a2 G.decls.length p2), (.slice a3 G.refs.length p3)]) (by simp [results, Try.results29, go_sem, z0, z1, z2, z3, y0, y1, y2, y3]) rfl ?_
        rw [HSC.out]
        exact AtS.done (G := ⟨G.scopes, G.edges ++ [⟨(r1 : Int) - 1, (r2 : Int) - 1, (r3 : Nat)⟩], G.decls, G.refs⟩) HA10.out hlt HG10.out ⟨by (first | omega | (simp only [List.length_append, List.length_singleton]; omega)), by (first | omega | (simp only [List.length_append, List.length_singleton]; omega)), by (first | omega | (simp only [List.length_append, List.length_singleton]; omega))⟩
       ·
        obtain ⟨s6, hs6⟩ := HA5.out.cu
        go_simp
        go_at_call 30
        refine Calls.mono (pickE 9 _ hs6 (by decide)) ?_
        rintro e v6 ⟨r2, t6, rfl, hr2, hO, hC⟩
        obtain ⟨HA6, HX6, HG6⟩ := pk3 hlt HA5 HX5 HG5 hO hC (by omega)
        clear hO hC hs6 HA5 HX5 HG5
        have hr2 : r2 < 9 := hr2 (by omega)
        have hr2i : (r2 : Int) < 9 := by omega
        have hwr2 : IntKind.i64.wrap ((r2 : Int) - 1) = (r2 : Int) - 1 := by simp [IntKind.wrap, IntKind.bits, IntKind.signed]; omega
        have hS := (cellsX HX6.out).1
        clear hHeld
        refine hK.out _ _ hS (fun hHeld => ?_)
        clear hK K
        try simp only [Act.put, List.setIfInBounds_toArray, List.set_cons_zero, List.set_cons_succ]
        clear hS
        refine tkH (i := 7) (oi := o29_6_7) (v := ?v13) ?h13 hHeld ?r13
        case h13 => (intro w hSw; (try dsimp only at hSw); go_simp; try with_reducible rfl)
        try simp only [Act.put, List.setIfInBounds_toArray, List.set_cons_zero, List.set_cons_succ]
        refine wpAnyH_ready (rs := [1, 9]) (by kernel_rfl) (by simp) ?_
        refine (AllReadyH.cons (o := o29_6_1) rfl (fun K hK => ?_) (AllReadyH.cons (o := o29_6_9) rfl (fun K hK => ?_) AllReadyH.nil))
        ·
         obtain ⟨q0', q1', q2', q3'⟩ := cellsX HX6.out
         go_simp
         clear q0' q1' q2' q3'
         have hS := (cellsX HX6.out).1
         clear hHeld
         refine hK.out _ _ hS (fun hHeld => ?_)
         clear hK K
         try simp only [Act.put, List.setIfInBounds_toArray, List.set_cons_zero, List.set_cons_succ]
         clear hS
         refine wpAnyH_ready (rs := [9]) (by kernel_rfl) (by simp) ?_
         refine (AllReadyH.cons (o := o29_6_9) rfl (fun K hK => ?_) AllReadyH.nil)
         obtain ⟨s7, hs7⟩ := HA6.out.cu
         go_simp
         go_at_call 30
         refine Calls.mono (pickE 4 _ hs7 (by decide)) ?_
         rintro e v7 ⟨r3, t7, rfl, hr3, hO, hC⟩
         obtain ⟨HA7, HX7, HG7⟩ := pk3 hlt HA6 HX6 HG6 hO hC (by omega)
         clear hO hC hs7 HA6 HX6 HG6
         have hr3 : r3 < 4 := hr3 (by omega)
         have hr3i : (r3 : Int) < 4 := by omega
         have hS := (cellsX HX7.out).1
         clear hHeld
         refine hK.out _ _ hS (fun hHeld => ?_)
         clear hK K
         try simp only [Act.put, List.setIfInBounds_toArray, List.set_cons_zero, List.set_cons_succ]
         clear hS
         refine tkH (i := 10) (oi := o29_6_10) (v := ?v14) ?h14 hHeld ?r14
         case h14 => (intro w hSw; (try dsimp only at hSw); go_simp; try with_reducible rfl)
         try simp only [Act.put, List.setIfInBounds_toArray, List.set_cons_zero, List.set_cons_succ]
         refine wpAnyH_ready (rs := [11]) (by kernel_rfl) (by simp) ?_
         refine (AllReadyH.cons (o := o29_6_11) rfl (fun K hK => ?_) AllReadyH.nil)
         go_simp
         have hb := bel_alloc (v7) (.cells #[.int .i64 ((r1 : Int) - 1), .int .i64 ((r2 : Int) - 1), .int .i64 (r3 : Nat)] 74)
         obtain ⟨HA8, HX8, HG8⟩ := st3 HA7 HX7 HG7 hb
         have HS := (show Hid (SrcR ((v7).alloc (.cells #[.int .i64 ((r1 : Int) - 1), .int .i64 ((r2 : Int) - 1), .int .i64 (r3 : Nat)] 74)) 74 3 (.slice (some ⟨(v7).heap.size, 0, none⟩) 1 1) 1 [.int .i64 ((r1 : Int) - 1), .int .i64 ((r2 : Int) - 1), .int .i64 (r3 : Nat)]) from src3 _ _ _ _ _)
         clear hb HA7 HX7 HG7
         have hS := (cellsX HX8.out).1
         clear hHeld
         refine hK.out _ _ hS (fun hHeld => ?_)
         clear hK K
         try simp only [Act.put, List.setIfInBounds_toArray, List.set_cons_zero, List.set_cons_succ]
         clear hS
         generalize (v7).alloc (.cells #[.int .i64 ((r1 : Int) - 1), .int .i64 ((r2 : Int) - 1), .int .i64 (r3 : Nat)] 74) = W8 at *
         generalize hga : (v7).heap.size = ga at *
         clear hga
         refine wpAnyH_ready (rs := [12]) (by kernel_rfl) (by simp) ?_
         refine (AllReadyH.cons (o := o29_6_12) rfl (fun K hK => ?_) AllReadyH.nil)
         refine stepE _ rfl (.tmp 19) (.tmp 29) rfl (by simp [Act.eval, Act.put]) HG8.out.e (by simp [Act.eval, Act.put]) HS.out (by omega) HA8.out.size ?_
         intro aN pN wN hown hgr hat
         obtain ⟨HA9, HX9, HG9⟩ := ap1 hlt HA8 HX8 HG8 ⟨(r1 : Int) - 1, (r2 : Int) - 1, (r3 : Nat)⟩ hown hgr (by omega)
         clear HS hown hgr hat HA8 HX8 HG8
         have hS := (cellsX HX9.out).1
         clear hHeld
         refine hK.out _ _ hS (fun hHeld => ?_)
         clear hK K
         try simp only [Act.put, List.setIfInBounds_toArray, List.set_cons_zero, List.set_cons_succ]
         clear hS
         refine tkH (i := 13) (oi := o29_6_13) (v := ?v15) ?h15 hHeld ?r15
         case h15 => (intro w hSw; (try dsimp only at hSw); go_simp; try with_reducible rfl)
         try simp only [Act.put, List.setIfInBounds_toArray, List.set_cons_zero, List.set_cons_succ]
         refine wpAnyH_ready (rs := [14]) (by kernel_rfl) (by simp) ?_
         refine (AllReadyH.cons (o := o29_6_14) rfl (fun K hK => ?_) AllReadyH.nil)
         obtain ⟨q0', q1', q2', q3'⟩ := cellsX HX9.out
         have f1 := HX9.out.frozen 1
         obtain ⟨HA10, HX10, HG10⟩ := so1 (.slice aN (G.edges.length + 1) pN) hlt (by omega) HA9 HX9 HG9
         go_simp
         clear q0' q1' q2' q3' f1
         clear  HA9 HX9 HG9
         have hS := (cellsX HX10.out).1
         clear hHeld
         refine hK.out _ _ hS (fun hHeld => ?_)
         clear hK K
         try simp only [Act.put, List.setIfInBounds_toArray, List.set_cons_zero, List.set_cons_succ]
         refine wpAnyH_done (by kernel_rfl) ?_ _
         clear hS hHeld
         obtain ⟨q0, q1, q2, q3⟩ := cellsX HX10.out
         obtain ⟨z0, z1, z2, z3⟩ := cellsX HA10.out.bx
         have y0 := HA10.out.bx.frozen 0
         have y1 := HA10.out.bx.frozen 1
         have y2 := HA10.out.bx.frozen 2
         have y3 := HA10.out.bx.frozen 3
         have hz := HA10.out.size
         go_wp2_with fail
         refine bodyPost_ret (v := .agg #[.int .i64 sc, (.slice aN (G.edges.length + 1) pN), (.slice a2 G.decls.length p2), (.slice a3 G.refs.length p3)]) (by simp [results, Try.results29, go_sem, z0, z1, z2, z3, y0, y1, y2, y3]) rfl ?_
         rw [HSC.out]
         exact AtS.done (G := ⟨G.scopes, G.edges ++ [⟨(r1 : Int) - 1, (r2 : Int) - 1, (r3 : Nat)⟩], G.decls, G.refs⟩) HA10.out hlt HG10.out ⟨by (first | omega | (simp only [List.length_append, List.length_singleton]; omega)), by (first | omega | (simp only [List.length_append, List.length_singleton]; omega)), by (first | omega | (simp only [List.length_append, List.length_singleton]; omega))⟩
        ·
         obtain ⟨s7, hs7⟩ := HA6.out.cu
         go_simp
         go_at_call 30
         refine Calls.mono (pickE 4 _ hs7 (by decide)) ?_
         rintro e v7 ⟨r3, t7, rfl, hr3, hO, hC⟩
         obtain ⟨HA7, HX7, HG7⟩ := pk3 hlt HA6 HX6 HG6 hO hC (by omega)
         clear hO hC hs7 HA6 HX6 HG6
         have hr3 : r3 < 4 := hr3 (by omega)
         have hr3i : (r3 : Int) < 4 := by omega
         have hS := (cellsX HX7.out).1
         clear hHeld
         refine hK.out _ _ hS (fun hHeld => ?_)
         clear hK K
         try simp only [Act.put, List.setIfInBounds_toArray, List.set_cons_zero, List.set_cons_succ]
         clear hS
         refine tkH (i := 10) (oi := o29_6_10) (v := ?v16) ?h16 hHeld ?r16
         case h16 => (intro w hSw; (try dsimp only at hSw); go_simp; try with_reducible rfl)
         try simp only [Act.put, List.setIfInBounds_toArray, List.set_cons_zero, List.set_cons_succ]
         refine wpAnyH_ready (rs := [1, 11]) (by kernel_rfl) (by simp) ?_
         refine (AllReadyH.cons (o := o29_6_1) rfl (fun K hK => ?_) (AllReadyH.cons (o := o29_6_11) rfl (fun K hK => ?_) AllReadyH.nil))
         ·
          obtain ⟨q0', q1', q2', q3'⟩ := cellsX HX7.out
          go_simp
          clear q0' q1' q2' q3'
          have hS := (cellsX HX7.out).1
          clear hHeld
          refine hK.out _ _ hS (fun hHeld => ?_)
          clear hK K
          try simp only [Act.put, List.setIfInBounds_toArray, List.set_cons_zero, List.set_cons_succ]
          clear hS
          refine wpAnyH_ready (rs := [11]) (by kernel_rfl) (by simp) ?_
          refine (AllReadyH.cons (o := o29_6_11) rfl (fun K hK => ?_) AllReadyH.nil)
          go_simp
          have hb := bel_alloc (v7) (.cells #[.int .i64 ((r1 : Int) - 1), .int .i64 ((r2 : Int) - 1), .int .i64 (r3 : Nat)] 74)
          obtain ⟨HA8, HX8, HG8⟩ := st3 HA7 HX7 HG7 hb
          have HS := (show Hid (SrcR ((v7).alloc (.cells #[.int .i64 ((r1 : Int) - 1), .int .i64 ((r2 : Int) - 1), .int .i64 (r3 : Nat)] 74)) 74 3 (.slice (some ⟨(v7).heap.size, 0, none⟩) 1 1) 1 [.int .i64 ((r1 : Int) - 1), .int .i64 ((r2 : Int) - 1), .int .i64 (r3 : Nat)]) from src3 _ _ _ _ _)
          clear hb HA7 HX7 HG7
          have hS := (cellsX HX8.out).1
          clear hHeld
          refine hK.out _ _ hS (fun hHeld => ?_)
          clear hK K
          try simp only [Act.put, List.setIfInBounds_toArray, List.set_cons_zero, List.set_cons_succ]
          clear hS
          generalize (v7).alloc (.cells #[.int .i64 ((r1 : Int) - 1), .int .i64 ((r2 : Int) - 1), .int .i64 (r3 : Nat)] 74) = W8 at *
          generalize hga : (v7).heap.size = ga at *
          clear hga
          refine wpAnyH_ready (rs := [12]) (by kernel_rfl) (by simp) ?_
          refine (AllReadyH.cons (o := o29_6_12) rfl (fun K hK => ?_) AllReadyH.nil)
          refine stepE _ rfl (.tmp 19) (.tmp 29) rfl (by simp [Act.eval, Act.put]) HG8.out.e (by simp [Act.eval, Act.put]) HS.out (by omega) HA8.out.size ?_
          intro aN pN wN hown hgr hat
          obtain ⟨HA9, HX9, HG9⟩ := ap1 hlt HA8 HX8 HG8 ⟨(r1 : Int) - 1, (r2 : Int) - 1, (r3 : Nat)⟩ hown hgr (by omega)
          clear HS hown hgr hat HA8 HX8 HG8
          have hS := (cellsX HX9.out).1
          clear hHeld
          refine hK.out _ _ hS (fun hHeld => ?_)
          clear hK K
          try simp only [Act.put, List.setIfInBounds_toArray, List.set_cons_zero, List.set_cons_succ]
          clear hS
          refine tkH (i := 13) (oi := o29_6_13) (v := ?v17) ?h17 hHeld ?r17
          case h17 => (intro w hSw; (try dsimp only at hSw); go_simp; try with_reducible rfl)
          try simp only [Act.put, List.setIfInBounds_toArray, List.set_cons_zero, List.set_cons_succ]
          refine wpAnyH_ready (rs := [14]) (by kernel_rfl) (by simp) ?_
          refine (AllReadyH.cons (o := o29_6_14) rfl (fun K hK => ?_) AllReadyH.nil)
          obtain ⟨q0', q1', q2', q3'⟩ := cellsX HX9.out
          have f1 := HX9.out.frozen 1
          obtain ⟨HA10, HX10, HG10⟩ := so1 (.slice aN (G.edges.length + 1) pN) hlt (by omega) HA9 HX9 HG9
          go_simp
          clear q0' q1' q2' q3' f1
          clear  HA9 HX9 HG9
          have hS := (cellsX HX10.out).1
          clear hHeld
          refine hK.out _ _ hS (fun hHeld => ?_)
          clear hK K
          try simp only [Act.put, List.setIfInBounds_toArray, List.set_cons_zero, List.set_cons_succ]
          refine wpAnyH_done (by kernel_rfl) ?_ _
          clear hS hHeld
          obtain ⟨q0, q1, q2, q3⟩ := cellsX HX10.out
          obtain ⟨z0, z1, z2, z3⟩ := cellsX HA10.out.bx
          have y0 := HA10.out.bx.frozen 0
          have y1 := HA10.out.bx.frozen 1
          have y2 := HA10.out.bx.frozen 2
          have y3 := HA10.out.bx.frozen 3
          have hz := HA10.out.size
          go_wp2_with fail
          refine bodyPost_ret (v := .agg #[.int .i64 sc, (.slice aN (G.edges.length + 1) pN), (.slice a2 G.decls.length p2), (.slice a3 G.refs.length p3)]) (by simp [results, Try.results29, go_sem, z0, z1, z2, z3, y0, y1, y2, y3]) rfl ?_
          rw [HSC.out]
          exact AtS.done (G := ⟨G.scopes, G.edges ++ [⟨(r1 : Int) - 1, (r2 : Int) - 1, (r3 : Nat)⟩], G.decls, G.refs⟩) HA10.out hlt HG10.out ⟨by (first | omega | (simp only [List.length_append, List.length_singleton]; omega)), by (first | omega | (simp only [List.length_append, List.length_singleton]; omega)), by (first | omega | (simp only [List.length_append, List.length_singleton]; omega))⟩
         ·
          go_simp
          have hb := bel_alloc (v7) (.cells #[.int .i64 ((r1 : Int) - 1), .int .i64 ((r2 : Int) - 1), .int .i64 (r3 : Nat)] 74)
          obtain ⟨HA8, HX8, HG8⟩ := st3 HA7 HX7 HG7 hb
          have HS := (show Hid (SrcR ((v7).alloc (.cells #[.int .i64 ((r1 : Int) - 1), .int .i64 ((r2 : Int) - 1), .int .i64 (r3 : Nat)] 74)) 74 3 (.slice (some ⟨(v7).heap.size, 0, none⟩) 1 1) 1 [.int .i64 ((r1 : Int) - 1), .int .i64 ((r2 : Int) - 1), .int .i64 (r3 : Nat)]) from src3 _ _ _ _ _)
          clear hb HA7 HX7 HG7
          have hS := (cellsX HX8.out).1
          clear hHeld
          refine hK.out _ _ hS (fun hHeld => ?_)
          clear hK K
          try simp only [Act.put, List.setIfInBounds_toArray, List.set_cons_zero, List.set_cons_succ]
          clear hS
          generalize (v7).alloc (.cells #[.int .i64 ((r1 : Int) - 1), .int .i64 ((r2 : Int) - 1), .int .i64 (r3 : Nat)] 74) = W8 at *
          generalize hga : (v7).heap.size = ga at *
          clear hga
          refine wpAnyH_ready (rs := [1]) (by kernel_rfl) (by simp) ?_
          refine (AllReadyH.cons (o := o29_6_1) rfl (fun K hK => ?_) AllReadyH.nil)
          obtain ⟨q0', q1', q2', q3'⟩ := cellsX HX8.out
          go_simp
          clear q0' q1' q2' q3'
          have hS := (cellsX HX8.out).1
          clear hHeld
          refine hK.out _ _ hS (fun hHeld => ?_)
          clear hK K
          try simp only [Act.put, List.setIfInBounds_toArray, List.set_cons_zero, List.set_cons_succ]
          clear hS
          refine wpAnyH_ready (rs := [12]) (by kernel_rfl) (by simp) ?_
          refine (AllReadyH.cons (o := o29_6_12) rfl (fun K hK => ?_) AllReadyH.nil)
          refine stepE _ rfl (.tmp 19) (.tmp 29) rfl (by simp [Act.eval, Act.put]) HG8.out.e (by simp [Act.eval, Act.put]) HS.out (by omega) HA8.out.size ?_
          intro aN pN wN hown hgr hat
          obtain ⟨HA9, HX9, HG9⟩ := ap1 hlt HA8 HX8 HG8 ⟨(r1 : Int) - 1, (r2 : Int) - 1, (r3 : Nat)⟩ hown hgr (by omega)
          clear HS hown hgr hat HA8 HX8 HG8
          have hS := (cellsX HX9.out).1
          clear hHeld
          refine hK.out _ _ hS (fun hHeld => ?_)
          clear hK K
          try simp only [Act.put, List.setIfInBounds_toArray, List.set_cons_zero, List.set_cons_succ]
          clear hS
          refine tkH (i := 13) (oi := o29_6_13) (v := ?v18) ?h18 hHeld ?r18
          case h18 => (intro w hSw; (try dsimp only at hSw); go_simp; try with_reducible rfl)
          try simp only [Act.put, List.setIfInBounds_toArray, List.set_cons_zero, List.set_cons_succ]
          refine wpAnyH_ready (rs := [14]) (by kernel_rfl) (by simp) ?_
          refine (AllReadyH.cons (o := o29_6_14) rfl (fun K hK => ?_) AllReadyH.nil)
          obtain ⟨q0', q1', q2', q3'⟩ := cellsX HX9.out
          have f1 := HX9.out.frozen 1
          obtain ⟨HA10, HX10, HG10⟩ := so1 (.slice aN (G.edges.length + 1) pN) hlt (by omega) HA9 HX9 HG9
          go_simp
          clear q0' q1' q2' q3' f1
          clear  HA9 HX9 HG9
          have hS := (cellsX HX10.out).1
          clear hHeld
          refine hK.out _ _ hS (fun hHeld => ?_)
          clear hK K
          try simp only [Act.put, List.setIfInBounds_toArray, List.set_cons_zero, List.set_cons_succ]
          refine wpAnyH_done (by kernel_rfl) ?_ _
          clear hS hHeld
          obtain ⟨q0, q1, q2, q3⟩ := cellsX HX10.out
          obtain ⟨z0, z1, z2, z3⟩ := cellsX HA10.out.bx
          have y0 := HA10.out.bx.frozen 0
          have y1 := HA10.out.bx.frozen 1
          have y2 := HA10.out.bx.frozen 2
          have y3 := HA10.out.bx.frozen 3
          have hz := HA10.out.size
          go_wp2_with fail
          refine bodyPost_ret (v := .agg #[.int .i64 sc, (.slice aN (G.edges.length + 1) pN), (.slice a2 G.decls.length p2), (.slice a3 G.refs.length p3)]) (by simp [results, Try.results29, go_sem, z0, z1, z2, z3, y0, y1, y2, y3]) rfl ?_
          rw [HSC.out]
          exact AtS.done (G := ⟨G.scopes, G.edges ++ [⟨(r1 : Int) - 1, (r2 : Int) - 1, (r3 : Nat)⟩], G.decls, G.refs⟩) HA10.out hlt HG10.out ⟨by (first | omega | (simp only [List.length_append, List.length_singleton]; omega)), by (first | omega | (simp only [List.length_append, List.length_singleton]; omega)), by (first | omega | (simp only [List.length_append, List.length_singleton]; omega))⟩
    · skip
      go_wp2_with fail
      have hb : Below w2.heap.size w2 w2.drew := (Below.refl _ _).drew
      obtain ⟨HA4, HX4, HG4⟩ := st3 HA3 HX3 HG3 hb
      clear hb HA3 HX3 HG3
      have hS := (cellsX HX4.out).1
      refine wp_region_held_drew (S := (fun wq => wq.cell? ⟨w1.heap.size, 0, none⟩ = some (.int .i64 sc))) (by kernel_rfl) hS (fun hHeld => ?_)
      clear hS
      generalize w2.drew = WR at *
      refine tkH (i := 0) (oi := o29_8_0) (v := ?v19) ?h19 hHeld ?r19
      case h19 => (intro w hSw; (try dsimp only at hSw); go_simp; try with_reducible rfl)
      try simp only [Act.put, List.setIfInBounds_toArray, List.set_cons_zero, List.set_cons_succ]
      refine tkH (i := 2) (oi := o29_8_2) (v := ?v20) ?h20 hHeld ?r20
      case h20 => (intro w hSw; (try dsimp only at hSw); go_simp; try with_reducible rfl)
      try simp only [Act.put, List.setIfInBounds_toArray, List.set_cons_zero, List.set_cons_succ]
      refine tkH (i := 6) (oi := o29_8_6) (v := ?v21) ?h21 hHeld ?r21
      case h21 => (intro w hSw; (try dsimp only at hSw); go_simp; try with_reducible rfl)
      try simp only [Act.put, List.setIfInBounds_toArray, List.set_cons_zero, List.set_cons_succ]
      refine wpAnyH_ready (rs := [1, 3, 5]) (by kernel_rfl) (by simp) ?_
      refine (AllReadyH.cons (o := o29_8_1) rfl (fun K hK => ?_) (AllReadyH.cons (o := o29_8_3) rfl (fun K hK => ?_) (AllReadyH.cons (o := o29_8_5) rfl (fun K hK => ?_) AllReadyH.nil)))
      ·
       obtain ⟨q0', q1', q2', q3'⟩ := cellsX HX4.out
       go_simp
       clear q0' q1' q2' q3'
       have hS := (cellsX HX4.out).1
       clear hHeld
       refine hK.out _ _ hS (fun hHeld => ?_)
       clear hK K
       try simp only [Act.put, List.setIfInBounds_toArray, List.set_cons_zero, List.set_cons_succ]
       clear hS
       refine wpAnyH_ready (rs := [3, 5]) (by kernel_rfl) (by simp) ?_
       refine (AllReadyH.cons (o := o29_8_3) rfl (fun K hK => ?_) (AllReadyH.cons (o := o29_8_5) rfl (fun K hK => ?_) AllReadyH.nil))
       ·
        obtain ⟨s5, hs5⟩ := HA4.out.cu
        go_simp
        go_at_call 30
        refine Calls.mono (pickE 9 _ hs5 (by decide)) ?_
        rintro e v5 ⟨r1, t5, rfl, hr1, hO, hC⟩
        obtain ⟨HA5, HX5, HG5⟩ := pk3 hlt HA4 HX4 HG4 hO hC (by omega)
        clear hO hC hs5 HA4 HX4 HG4
        have hr1 : r1 < 9 := hr1 (by omega)
        have hr1i : (r1 : Int) < 9 := by omega
        have hwr1 : IntKind.i64.wrap ((r1 : Int) - 1) = (r1 : Int) - 1 := by simp [IntKind.wrap, IntKind.bits, IntKind.signed]; omega
        have hS := (cellsX HX5.out).1
        clear hHeld
        refine hK.out _ _ hS (fun hHeld => ?_)
        clear hK K
        try simp only [Act.put, List.setIfInBounds_toArray, List.set_cons_zero, List.set_cons_succ]
        clear hS
        refine tkH (i := 4) (oi := o29_8_4) (v := ?v22) ?h22 hHeld ?r22
        case h22 => (intro w hSw; (try dsimp only at hSw); go_simp; try with_reducible rfl)
        try simp only [Act.put, List.setIfInBounds_toArray, List.set_cons_zero, List.set_cons_succ]
        refine wpAnyH_ready (rs := [5, 7]) (by kernel_rfl) (by simp) ?_
        refine (AllReadyH.cons (o := o29_8_5) rfl (fun K hK => ?_) (AllReadyH.cons (o := o29_8_7) rfl (fun K hK => ?_) AllReadyH.nil))
        ·
         go_simp
         have hb := bel_alloc (v5) (.cells #[.string ⟨#[120]⟩, .string ⟨#[]⟩] 9)
         obtain ⟨HA6, HX6, HG6⟩ := st3 HA5 HX5 HG5 hb
         have HT := (show Hid (Box ((v5).alloc (.cells #[.string ⟨#[120]⟩, .string ⟨#[]⟩] 9)) (v5).heap.size 9 [.string ⟨#[120]⟩, .string ⟨#[]⟩]) from Box.new _ 9 [.string ⟨#[120]⟩, .string ⟨#[]⟩])
         have hgn : w.heap.size + 1 ≤ (v5).heap.size := HA5.out.size
         have hgx : w1.heap.size < (v5).heap.size := HX5.out.lt
         clear hb HA5 HX5 HG5
         have hS := (cellsX HX6.out).1
         clear hHeld
         refine hK.out _ _ hS (fun hHeld => ?_)
         clear hK K
         try simp only [Act.put, List.setIfInBounds_toArray, List.set_cons_zero, List.set_cons_succ]
         clear hS
         generalize (v5).alloc (.cells #[.string ⟨#[120]⟩, .string ⟨#[]⟩] 9) = W6 at *
         generalize hgn0 : (v5).heap.size = gn at *
         clear hgn0
         have HN6 := HT
         clear HT
         refine wpAnyH_ready (rs := [7]) (by kernel_rfl) (by simp) ?_
         refine (AllReadyH.cons (o := o29_8_7) rfl (fun K hK => ?_) AllReadyH.nil)
         obtain ⟨s7, hs7⟩ := HA6.out.cu
         go_simp
         go_at_call 30
         refine Calls.mono (pickE 2 _ hs7 (by decide)) ?_
         rintro e v7 ⟨r2, t7, rfl, hr2, hO, hC⟩
         obtain ⟨HA7, HX7, HG7⟩ := pk3 hlt HA6 HX6 HG6 hO hC (by omega)
         have HN7 := hBoxO HN6 hO (by omega)
         clear hO hC hs7 HA6 HX6 HG6 HN6
         have hr2 : r2 < 2 := hr2 (by omega)
         have hr2i : (r2 : Int) < 2 := by omega
         have hS := (cellsX HX7.out).1
         clear hHeld
         refine hK.out _ _ hS (fun hHeld => ?_)
         clear hK K
         try simp only [Act.put, List.setIfInBounds_toArray, List.set_cons_zero, List.set_cons_succ]
         clear hS
         refine tkH (i := 8) (oi := o29_8_8) (v := ?v23) ?h23 hHeld ?r23
         case h23 => (intro w hSw; (try dsimp only at hSw); go_simp; try with_reducible rfl)
         try simp only [Act.put, List.setIfInBounds_toArray, List.set_cons_zero, List.set_cons_succ]
         refine wpAnyH_ready (rs := [9]) (by kernel_rfl) (by simp) ?_
         refine (AllReadyH.cons (o := o29_8_9) rfl (fun K hK => ?_) AllReadyH.nil)
         have x5 := xeQ_at HN7.out hr2
         go_simp
         clear x5
         have hS := (cellsX HX7.out).1
         clear hHeld
         refine hK.out _ _ hS (fun hHeld => ?_)
         clear hK K
         try simp only [Act.put, List.setIfInBounds_toArray, List.set_cons_zero, List.set_cons_succ]
         clear hS
         refine tkH (i := 10) (oi := o29_8_10) (v := ?v24) ?h24 hHeld ?r24
         case h24 => (intro w hSw; (try dsimp only at hSw); go_simp; try with_reducible rfl)
         try simp only [Act.put, List.setIfInBounds_toArray, List.set_cons_zero, List.set_cons_succ]
         refine wpAnyH_ready (rs := [11]) (by kernel_rfl) (by simp) ?_
         refine (AllReadyH.cons (o := o29_8_11) rfl (fun K hK => ?_) AllReadyH.nil)
         go_simp
         have hb := bel_alloc (v7) (.cells #[.int .i64 ((r1 : Int) - 1), .string (xeQ r2)] 33)
         obtain ⟨HA8, HX8, HG8⟩ := st3 HA7 HX7 HG7 hb
         have HN8 := hBox HN7 hb
         have HS := (show Hid (SrcR ((v7).alloc (.cells #[.int .i64 ((r1 : Int) - 1), .string (xeQ r2)] 33)) 33 2 (.slice (some ⟨(v7).heap.size, 0, none⟩) 1 1) 1 [.int .i64 ((r1 : Int) - 1), .string (xeQ r2)]) from src2 _ _ _ _)
         clear hb HA7 HX7 HG7 HN7
         have hS := (cellsX HX8.out).1
         clear hHeld
         refine hK.out _ _ hS (fun hHeld => ?_)
         clear hK K
         try simp only [Act.put, List.setIfInBounds_toArray, List.set_cons_zero, List.set_cons_succ]
         clear hS
         generalize (v7).alloc (.cells #[.int .i64 ((r1 : Int) - 1), .string (xeQ r2)] 33) = W8 at *
         generalize hga : (v7).heap.size = ga at *
         clear hga
         refine wpAnyH_ready (rs := [12]) (by kernel_rfl) (by simp) ?_
         refine (AllReadyH.cons (o := o29_8_12) rfl (fun K hK => ?_) AllReadyH.nil)
         refine stepS _ rfl (.tmp 35) (.tmp 45) rfl (by simp [Act.eval, Act.put]) HG8.out.r (by simp [Act.eval, Act.put]) HS.out (by omega) HA8.out.size ?_
         intro aN pN wN hown hgr hat
         obtain ⟨HA9, HX9, HG9⟩ := ap3 hlt HA8 HX8 HG8 ⟨(r1 : Int) - 1, xeQ r2⟩ (xeQ_size _) hown hgr hat (by omega)
         have HN9 := hBoxG HN8 HG8.out.r hgr (by decide)
         clear HS hown hgr hat HA8 HX8 HG8 HN8
         have hS := (cellsX HX9.out).1
         clear hHeld
         refine hK.out _ _ hS (fun hHeld => ?_)
         clear hK K
         try simp only [Act.put, List.setIfInBounds_toArray, List.set_cons_zero, List.set_cons_succ]
         clear hS
         refine tkH (i := 13) (oi := o29_8_13) (v := ?v25) ?h25 hHeld ?r25
         case h25 => (intro w hSw; (try dsimp only at hSw); go_simp; try with_reducible rfl)
         try simp only [Act.put, List.setIfInBounds_toArray, List.set_cons_zero, List.set_cons_succ]
         refine wpAnyH_ready (rs := [14]) (by kernel_rfl) (by simp) ?_
         refine (AllReadyH.cons (o := o29_8_14) rfl (fun K hK => ?_) AllReadyH.nil)
         obtain ⟨q0', q1', q2', q3'⟩ := cellsX HX9.out
         have f3 := HX9.out.frozen 3
         obtain ⟨HA10, HX10, HG10⟩ := so3 (.slice aN (G.refs.length + 1) pN) hlt (by omega) HA9 HX9 HG9
         have HN10 := hBoxP (o := 3) (u := (.slice aN (G.refs.length + 1) pN)) (q := w1.heap.size) HN9 (by omega)
         go_simp
         clear q0' q1' q2' q3' f3
         clear  HA9 HX9 HG9 HN9
         have hS := (cellsX HX10.out).1
         clear hHeld
         refine hK.out _ _ hS (fun hHeld => ?_)
         clear hK K
         try simp only [Act.put, List.setIfInBounds_toArray, List.set_cons_zero, List.set_cons_succ]
         refine wpAnyH_done (by kernel_rfl) ?_ _
         clear hS hHeld
         obtain ⟨q0, q1, q2, q3⟩ := cellsX HX10.out
         obtain ⟨z0, z1, z2, z3⟩ := cellsX HA10.out.bx
         have y0 := HA10.out.bx.frozen 0
         have y1 := HA10.out.bx.frozen 1
         have y2 := HA10.out.bx.frozen 2
         have y3 := HA10.out.bx.frozen 3
         have hz := HA10.out.size
         go_wp2_with fail
         refine bodyPost_ret (v := .agg #[.int .i64 sc, (.slice a1 G.edges.length p1), (.slice a2 G.decls.length p2), (.slice aN (G.refs.length + 1) pN)]) (by simp [results, Try.results29, go_sem, z0, z1, z2, z3, y0, y1, y2, y3]) rfl ?_
         rw [HSC.out]
         exact AtS.done (G := ⟨G.scopes, G.edges, G.decls, G.refs ++ [⟨(r1 : Int) - 1, xeQ r2⟩]⟩) HA10.out hlt HG10.out ⟨by (first | omega | (simp only [List.length_append, List.length_singleton]; omega)), by (first | omega | (simp only [List.length_append, List.length_singleton]; omega)), by (first | omega | (simp only [List.length_append, List.length_singleton]; omega))⟩
        ·
         obtain ⟨s6, hs6⟩ := HA5.out.cu
         go_simp
         go_at_call 30
         refine Calls.mono (pickE 2 _ hs6 (by decide)) ?_
         rintro e v6 ⟨r2, t6, rfl, hr2, hO, hC⟩
         obtain ⟨HA6, HX6, HG6⟩ := pk3 hlt HA5 HX5 HG5 hO hC (by omega)
         clear hO hC hs6 HA5 HX5 HG5
         have hr2 : r2 < 2 := hr2 (by omega)
         have hr2i : (r2 : Int) < 2 := by omega
         have hS := (cellsX HX6.out).1
         clear hHeld
         refine hK.out _ _ hS (fun hHeld => ?_)
         clear hK K
         try simp only [Act.put, List.setIfInBounds_toArray, List.set_cons_zero, List.set_cons_succ]
         clear hS
         refine wpAnyH_ready (rs := [5]) (by kernel_rfl) (by simp) ?_
         refine (AllReadyH.cons (o := o29_8_5) rfl (fun K hK => ?_) AllReadyH.nil)
         go_simp
         have hb := bel_alloc (v6) (.cells #[.string ⟨#[120]⟩, .string ⟨#[]⟩] 9)
         obtain ⟨HA7, HX7, HG7⟩ := st3 HA6 HX6 HG6 hb
         have HT := (show Hid (Box ((v6).alloc (.cells #[.string ⟨#[120]⟩, .string ⟨#[]⟩] 9)) (v6).heap.size 9 [.string ⟨#[120]⟩, .string ⟨#[]⟩]) from Box.new _ 9 [.string ⟨#[120]⟩, .string ⟨#[]⟩])
         have hgn : w.heap.size + 1 ≤ (v6).heap.size := HA6.out.size
         have hgx : w1.heap.size < (v6).heap.size := HX6.out.lt
         clear hb HA6 HX6 HG6
         have hS := (cellsX HX7.out).1
         clear hHeld
         refine hK.out _ _ hS (fun hHeld => ?_)
         clear hK K
         try simp only [Act.put, List.setIfInBounds_toArray, List.set_cons_zero, List.set_cons_succ]
         clear hS
         generalize (v6).alloc (.cells #[.string ⟨#[120]⟩, .string ⟨#[]⟩] 9) = W7 at *
         generalize hgn0 : (v6).heap.size = gn at *
         clear hgn0
         have HN7 := HT
         clear HT
         refine tkH (i := 8) (oi := o29_8_8) (v := ?v26) ?h26 hHeld ?r26
         case h26 => (intro w hSw; (try dsimp only at hSw); go_simp; try with_reducible rfl)
         try simp only [Act.put, List.setIfInBounds_toArray, List.set_cons_zero, List.set_cons_succ]
         refine wpAnyH_ready (rs := [9]) (by kernel_rfl) (by simp) ?_
         refine (AllReadyH.cons (o := o29_8_9) rfl (fun K hK => ?_) AllReadyH.nil)
         have x5 := xeQ_at HN7.out hr2
         go_simp
         clear x5
         have hS := (cellsX HX7.out).1
         clear hHeld
         refine hK.out _ _ hS (fun hHeld => ?_)
         clear hK K
         try simp only [Act.put, List.setIfInBounds_toArray, List.set_cons_zero, List.set_cons_succ]
         clear hS
         refine tkH (i := 10) (oi := o29_8_10) (v := ?v27) ?h27 hHeld ?r27
         case h27 => (intro w hSw; (try dsimp only at hSw); go_simp; try with_reducible rfl)
         try simp only [Act.put, List.setIfInBounds_toArray, List.set_cons_zero, List.set_cons_succ]
         refine wpAnyH_ready (rs := [11]) (by kernel_rfl) (by simp) ?_
         refine (AllReadyH.cons (o := o29_8_11) rfl (fun K hK => ?_) AllReadyH.nil)
         go_simp
         have hb := bel_alloc (W7) (.cells #[.int .i64 ((r1 : Int) - 1), .string (xeQ r2)] 33)
         obtain ⟨HA8, HX8, HG8⟩ := st3 HA7 HX7 HG7 hb
         have HN8 := hBox HN7 hb
         have HS := (show Hid (SrcR ((W7).alloc (.cells #[.int .i64 ((r1 : Int) - 1), .string (xeQ r2)] 33)) 33 2 (.slice (some ⟨(W7).heap.size, 0, none⟩) 1 1) 1 [.int .i64 ((r1 : Int) - 1), .string (xeQ r2)]) from src2 _ _ _ _)
         clear hb HA7 HX7 HG7 HN7
         have hS := (cellsX HX8.out).1
         clear hHeld
         refine hK.out _ _ hS (fun hHeld => ?_)
         clear hK K
         try simp only [Act.put, List.setIfInBounds_toArray, List.set_cons_zero, List.set_cons_succ]
         clear hS
         generalize (W7).alloc (.cells #[.int .i64 ((r1 : Int) - 1), .string (xeQ r2)] 33) = W8 at *
         generalize hga : (W7).heap.size = ga at *
         clear hga
         refine wpAnyH_ready (rs := [12]) (by kernel_rfl) (by simp) ?_
         refine (AllReadyH.cons (o := o29_8_12) rfl (fun K hK => ?_) AllReadyH.nil)
         refine stepS _ rfl (.tmp 35) (.tmp 45) rfl (by simp [Act.eval, Act.put]) HG8.out.r (by simp [Act.eval, Act.put]) HS.out (by omega) HA8.out.size ?_
         intro aN pN wN hown hgr hat
         obtain ⟨HA9, HX9, HG9⟩ := ap3 hlt HA8 HX8 HG8 ⟨(r1 : Int) - 1, xeQ r2⟩ (xeQ_size _) hown hgr hat (by omega)
         have HN9 := hBoxG HN8 HG8.out.r hgr (by decide)
         clear HS hown hgr hat HA8 HX8 HG8 HN8
         have hS := (cellsX HX9.out).1
         clear hHeld
         refine hK.out _ _ hS (fun hHeld => ?_)
         clear hK K
         try simp only [Act.put, List.setIfInBounds_toArray, List.set_cons_zero, List.set_cons_succ]
         clear hS
         refine tkH (i := 13) (oi := o29_8_13) (v := ?v28) ?h28 hHeld ?r28
         case h28 => (intro w hSw; (try dsimp only at hSw); go_simp; try with_reducible rfl)
         try simp only [Act.put, List.setIfInBounds_toArray, List.set_cons_zero, List.set_cons_succ]
         refine wpAnyH_ready (rs := [14]) (by kernel_rfl) (by simp) ?_
         refine (AllReadyH.cons (o := o29_8_14) rfl (fun K hK => ?_) AllReadyH.nil)
         obtain ⟨q0', q1', q2', q3'⟩ := cellsX HX9.out
         have f3 := HX9.out.frozen 3
         obtain ⟨HA10, HX10, HG10⟩ := so3 (.slice aN (G.refs.length + 1) pN) hlt (by omega) HA9 HX9 HG9
         have HN10 := hBoxP (o := 3) (u := (.slice aN (G.refs.length + 1) pN)) (q := w1.heap.size) HN9 (by omega)
         go_simp
         clear q0' q1' q2' q3' f3
         clear  HA9 HX9 HG9 HN9
         have hS := (cellsX HX10.out).1
         clear hHeld
         refine hK.out _ _ hS (fun hHeld => ?_)
         clear hK K
         try simp only [Act.put, List.setIfInBounds_toArray, List.set_cons_zero, List.set_cons_succ]
         refine wpAnyH_done (by kernel_rfl) ?_ _
         clear hS hHeld
         obtain ⟨q0, q1, q2, q3⟩ := cellsX HX10.out
         obtain ⟨z0, z1, z2, z3⟩ := cellsX HA10.out.bx
         have y0 := HA10.out.bx.frozen 0
         have y1 := HA10.out.bx.frozen 1
         have y2 := HA10.out.bx.frozen 2
         have y3 := HA10.out.bx.frozen 3
         have hz := HA10.out.size
         go_wp2_with fail
         refine bodyPost_ret (v := .agg #[.int .i64 sc, (.slice a1 G.edges.length p1), (.slice a2 G.decls.length p2), (.slice aN (G.refs.length + 1) pN)]) (by simp [results, Try.results29, go_sem, z0, z1, z2, z3, y0, y1, y2, y3]) rfl ?_
         rw [HSC.out]
         exact AtS.done (G := ⟨G.scopes, G.edges, G.decls, G.refs ++ [⟨(r1 : Int) - 1, xeQ r2⟩]⟩) HA10.out hlt HG10.out ⟨by (first | omega | (simp only [List.length_append, List.length_singleton]; omega)), by (first | omega | (simp only [List.length_append, List.length_singleton]; omega)), by (first | omega | (simp only [List.length_append, List.length_singleton]; omega))⟩
       ·
        go_simp
        have hb := bel_alloc (WR) (.cells #[.string ⟨#[120]⟩, .string ⟨#[]⟩] 9)
        obtain ⟨HA5, HX5, HG5⟩ := st3 HA4 HX4 HG4 hb
        have HT := (show Hid (Box ((WR).alloc (.cells #[.string ⟨#[120]⟩, .string ⟨#[]⟩] 9)) (WR).heap.size 9 [.string ⟨#[120]⟩, .string ⟨#[]⟩]) from Box.new _ 9 [.string ⟨#[120]⟩, .string ⟨#[]⟩])
        have hgn : w.heap.size + 1 ≤ (WR).heap.size := HA4.out.size
        have hgx : w1.heap.size < (WR).heap.size := HX4.out.lt
        clear hb HA4 HX4 HG4
        have hS := (cellsX HX5.out).1
        clear hHeld
        refine hK.out _ _ hS (fun hHeld => ?_)
        clear hK K
        try simp only [Act.put, List.setIfInBounds_toArray, List.set_cons_zero, List.set_cons_succ]
        clear hS
        generalize (WR).alloc (.cells #[.string ⟨#[120]⟩, .string ⟨#[]⟩] 9) = W5 at *
        generalize hgn0 : (WR).heap.size = gn at *
        clear hgn0
        have HN5 := HT
        clear HT
        refine wpAnyH_ready (rs := [3]) (by kernel_rfl) (by simp) ?_
        refine (AllReadyH.cons (o := o29_8_3) rfl (fun K hK => ?_) AllReadyH.nil)
        obtain ⟨s6, hs6⟩ := HA5.out.cu
        go_simp
        go_at_call 30
        refine Calls.mono (pickE 9 _ hs6 (by decide)) ?_
        rintro e v6 ⟨r1, t6, rfl, hr1, hO, hC⟩
        obtain ⟨HA6, HX6, HG6⟩ := pk3 hlt HA5 HX5 HG5 hO hC (by omega)
        have HN6 := hBoxO HN5 hO (by omega)
        clear hO hC hs6 HA5 HX5 HG5 HN5
        have hr1 : r1 < 9 := hr1 (by omega)
        have hr1i : (r1 : Int) < 9 := by omega
        have hwr1 : IntKind.i64.wrap ((r1 : Int) - 1) = (r1 : Int) - 1 := by simp [IntKind.wrap, IntKind.bits, IntKind.signed]; omega
        have hS := (cellsX HX6.out).1
        clear hHeld
        refine hK.out _ _ hS (fun hHeld => ?_)
        clear hK K
        try simp only [Act.put, List.setIfInBounds_toArray, List.set_cons_zero, List.set_cons_succ]
        clear hS
        refine tkH (i := 4) (oi := o29_8_4) (v := ?v29) ?h29 hHeld ?r29
        case h29 => (intro w hSw; (try dsimp only at hSw); go_simp; try with_reducible rfl)
        try simp only [Act.put, List.setIfInBounds_toArray, List.set_cons_zero, List.set_cons_succ]
        refine wpAnyH_ready (rs := [7]) (by kernel_rfl) (by simp) ?_
        refine (AllReadyH.cons (o := o29_8_7) rfl (fun K hK => ?_) AllReadyH.nil)
        obtain ⟨s7, hs7⟩ := HA6.out.cu
        go_simp
        go_at_call 30
        refine Calls.mono (pickE 2 _ hs7 (by decide)) ?_
        rintro e v7 ⟨r2, t7, rfl, hr2, hO, hC⟩
        obtain ⟨HA7, HX7, HG7⟩ := pk3 hlt HA6 HX6 HG6 hO hC (by omega)
        have HN7 := hBoxO HN6 hO (by omega)
        clear hO hC hs7 HA6 HX6 HG6 HN6
        have hr2 : r2 < 2 := hr2 (by omega)
        have hr2i : (r2 : Int) < 2 := by omega
        have hS := (cellsX HX7.out).1
        clear hHeld
        refine hK.out _ _ hS (fun hHeld => ?_)
        clear hK K
        try simp only [Act.put, List.setIfInBounds_toArray, List.set_cons_zero, List.set_cons_succ]
        clear hS
        refine tkH (i := 8) (oi := o29_8_8) (v := ?v30) ?h30 hHeld ?r30
        case h30 => (intro w hSw; (try dsimp only at hSw); go_simp; try with_reducible rfl)
        try simp only [Act.put, List.setIfInBounds_toArray, List.set_cons_zero, List.set_cons_succ]
        refine wpAnyH_ready (rs := [9]) (by kernel_rfl) (by simp) ?_
        refine (AllReadyH.cons (o := o29_8_9) rfl (fun K hK => ?_) AllReadyH.nil)
        have x5 := xeQ_at HN7.out hr2
        go_simp
        clear x5
        have hS := (cellsX HX7.out).1
        clear hHeld
        refine hK.out _ _ hS (fun hHeld => ?_)
        clear hK K
        try simp only [Act.put, List.setIfInBounds_toArray, List.set_cons_zero, List.set_cons_succ]
        clear hS
        refine tkH (i := 10) (oi := o29_8_10) (v := ?v31) ?h31 hHeld ?r31
        case h31 => (intro w hSw; (try dsimp only at hSw); go_simp; try with_reducible rfl)
        try simp only [Act.put, List.setIfInBounds_toArray, List.set_cons_zero, List.set_cons_succ]
        refine wpAnyH_ready (rs := [11]) (by kernel_rfl) (by simp) ?_
        refine (AllReadyH.cons (o := o29_8_11) rfl (fun K hK => ?_) AllReadyH.nil)
        go_simp
        have hb := bel_alloc (v7) (.cells #[.int .i64 ((r1 : Int) - 1), .string (xeQ r2)] 33)
        obtain ⟨HA8, HX8, HG8⟩ := st3 HA7 HX7 HG7 hb
        have HN8 := hBox HN7 hb
        have HS := (show Hid (SrcR ((v7).alloc (.cells #[.int .i64 ((r1 : Int) - 1), .string (xeQ r2)] 33)) 33 2 (.slice (some ⟨(v7).heap.size, 0, none⟩) 1 1) 1 [.int .i64 ((r1 : Int) - 1), .string (xeQ r2)]) from src2 _ _ _ _)
        clear hb HA7 HX7 HG7 HN7
        have hS := (cellsX HX8.out).1
        clear hHeld
        refine hK.out _ _ hS (fun hHeld => ?_)
        clear hK K
        try simp only [Act.put, List.setIfInBounds_toArray, List.set_cons_zero, List.set_cons_succ]
        clear hS
        generalize (v7).alloc (.cells #[.int .i64 ((r1 : Int) - 1), .string (xeQ r2)] 33) = W8 at *
        generalize hga : (v7).heap.size = ga at *
        clear hga
        refine wpAnyH_ready (rs := [12]) (by kernel_rfl) (by simp) ?_
        refine (AllReadyH.cons (o := o29_8_12) rfl (fun K hK => ?_) AllReadyH.nil)
        refine stepS _ rfl (.tmp 35) (.tmp 45) rfl (by simp [Act.eval, Act.put]) HG8.out.r (by simp [Act.eval, Act.put]) HS.out (by omega) HA8.out.size ?_
        intro aN pN wN hown hgr hat
        obtain ⟨HA9, HX9, HG9⟩ := ap3 hlt HA8 HX8 HG8 ⟨(r1 : Int) - 1, xeQ r2⟩ (xeQ_size _) hown hgr hat (by omega)
        have HN9 := hBoxG HN8 HG8.out.r hgr (by decide)
        clear HS hown hgr hat HA8 HX8 HG8 HN8
        have hS := (cellsX HX9.out).1
        clear hHeld
        refine hK.out _ _ hS (fun hHeld => ?_)
        clear hK K
        try simp only [Act.put, List.setIfInBounds_toArray, List.set_cons_zero, List.set_cons_succ]
        clear hS
        refine tkH (i := 13) (oi := o29_8_13) (v := ?v32) ?h32 hHeld ?r32
        case h32 => (intro w hSw; (try dsimp only at hSw); go_simp; try with_reducible rfl)
        try simp only [Act.put, List.setIfInBounds_toArray, List.set_cons_zero, List.set_cons_succ]
        refine wpAnyH_ready (rs := [14]) (by kernel_rfl) (by simp) ?_
        refine (AllReadyH.cons (o := o29_8_14) rfl (fun K hK => ?_) AllReadyH.nil)
        obtain ⟨q0', q1', q2', q3'⟩ := cellsX HX9.out
        have f3 := HX9.out.frozen 3
        obtain ⟨HA10, HX10, HG10⟩ := so3 (.slice aN (G.refs.length + 1) pN) hlt (by omega) HA9 HX9 HG9
        have HN10 := hBoxP (o := 3) (u := (.slice aN (G.refs.length + 1) pN)) (q := w1.heap.size) HN9 (by omega)
        go_simp
        clear q0' q1' q2' q3' f3
        clear  HA9 HX9 HG9 HN9
        have hS := (cellsX HX10.out).1
        clear hHeld
        refine hK.out _ _ hS (fun hHeld => ?_)
        clear hK K
        try simp only [Act.put, List.setIfInBounds_toArray, List.set_cons_zero, List.set_cons_succ]
        refine wpAnyH_done (by kernel_rfl) ?_ _
        clear hS hHeld
        obtain ⟨q0, q1, q2, q3⟩ := cellsX HX10.out
        obtain ⟨z0, z1, z2, z3⟩ := cellsX HA10.out.bx
        have y0 := HA10.out.bx.frozen 0
        have y1 := HA10.out.bx.frozen 1
        have y2 := HA10.out.bx.frozen 2
        have y3 := HA10.out.bx.frozen 3
        have hz := HA10.out.size
        go_wp2_with fail
        refine bodyPost_ret (v := .agg #[.int .i64 sc, (.slice a1 G.edges.length p1), (.slice a2 G.decls.length p2), (.slice aN (G.refs.length + 1) pN)]) (by simp [results, Try.results29, go_sem, z0, z1, z2, z3, y0, y1, y2, y3]) rfl ?_
        rw [HSC.out]
        exact AtS.done (G := ⟨G.scopes, G.edges, G.decls, G.refs ++ [⟨(r1 : Int) - 1, xeQ r2⟩]⟩) HA10.out hlt HG10.out ⟨by (first | omega | (simp only [List.length_append, List.length_singleton]; omega)), by (first | omega | (simp only [List.length_append, List.length_singleton]; omega)), by (first | omega | (simp only [List.length_append, List.length_singleton]; omega))⟩
      ·
       obtain ⟨s5, hs5⟩ := HA4.out.cu
       go_simp
       go_at_call 30
       refine Calls.mono (pickE 9 _ hs5 (by decide)) ?_
       rintro e v5 ⟨r1, t5, rfl, hr1, hO, hC⟩
       obtain ⟨HA5, HX5, HG5⟩ := pk3 hlt HA4 HX4 HG4 hO hC (by omega)
       clear hO hC hs5 HA4 HX4 HG4
       have hr1 : r1 < 9 := hr1 (by omega)
       have hr1i : (r1 : Int) < 9 := by omega
       have hwr1 : IntKind.i64.wrap ((r1 : Int) - 1) = (r1 : Int) - 1 := by simp [IntKind.wrap, IntKind.bits, IntKind.signed]; omega
       have hS := (cellsX HX5.out).1
       clear hHeld
       refine hK.out _ _ hS (fun hHeld => ?_)
       clear hK K
       try simp only [Act.put, List.setIfInBounds_toArray, List.set_cons_zero, List.set_cons_succ]
       clear hS
       refine tkH (i := 4) (oi := o29_8_4) (v := ?v33) ?h33 hHeld ?r33
       case h33 => (intro w hSw; (try dsimp only at hSw); go_simp; try with_reducible rfl)
       try simp only [Act.put, List.setIfInBounds_toArray, List.set_cons_zero, List.set_cons_succ]
       refine wpAnyH_ready (rs := [1, 5, 7]) (by kernel_rfl) (by simp) ?_
       refine (AllReadyH.cons (o := o29_8_1) rfl (fun K hK => ?_) (AllReadyH.cons (o := o29_8_5) rfl (fun K hK => ?_) (AllReadyH.cons (o := o29_8_7) rfl (fun K hK => ?_) AllReadyH.nil)))
       ·
        obtain ⟨q0', q1', q2', q3'⟩ := cellsX HX5.out
        go_simp
        clear q0' q1' q2' q3'
        have hS := (cellsX HX5.out).1
        clear hHeld
        refine hK.out _ _ hS (fun hHeld => ?_)
        clear hK K
        try simp only [Act.put, List.setIfInBounds_toArray, List.set_cons_zero, List.set_cons_succ]
        clear hS
        refine wpAnyH_ready (rs := [5, 7]) (by kernel_rfl) (by simp) ?_
        refine (AllReadyH.cons (o := o29_8_5) rfl (fun K hK => ?_) (AllReadyH.cons (o := o29_8_7) rfl (fun K hK => ?_) AllReadyH.nil))
        ·
         go_simp
         have hb := bel_alloc (v5) (.cells #[.string ⟨#[120]⟩, .string ⟨#[]⟩] 9)
         obtain ⟨HA6, HX6, HG6⟩ := st3 HA5 HX5 HG5 hb
         have HT := (show Hid (Box ((v5).alloc (.cells #[.string ⟨#[120]⟩, .string ⟨#[]⟩] 9)) (v5).heap.size 9 [.string ⟨#[120]⟩, .string ⟨#[]⟩]) from Box.new _ 9 [.string ⟨#[120]⟩, .string ⟨#[]⟩])
         have hgn : w.heap.size + 1 ≤ (v5).heap.size := HA5.out.size
         have hgx : w1.heap.size < (v5).heap.size := HX5.out.lt
         clear hb HA5 HX5 HG5
         have hS := (cellsX HX6.out).1
         clear hHeld
         refine hK.out _ _ hS (fun hHeld => ?_)
         clear hK K
         try simp only [Act.put, List.setIfInBounds_toArray, List.set_cons_zero, List.set_cons_succ]
         clear hS
         generalize (v5).alloc (.cells #[.string ⟨#[120]⟩, .string ⟨#[]⟩] 9) = W6 at *
         generalize hgn0 : (v5).heap.size = gn at *
         clear hgn0
         have HN6 := HT
         clear HT
         refine wpAnyH_ready (rs := [7]) (by kernel_rfl) (by simp) ?_
         refine (AllReadyH.cons (o := o29_8_7) rfl (fun K hK => ?_) AllReadyH.nil)
         obtain ⟨s7, hs7⟩ := HA6.out.cu
         go_simp
         go_at_call 30
         refine Calls.mono (pickE 2 _ hs7 (by decide)) ?_
         rintro e v7 ⟨r2, t7, rfl, hr2, hO, hC⟩
         obtain ⟨HA7, HX7, HG7⟩ := pk3 hlt HA6 HX6 HG6 hO hC (by omega)
         have HN7 := hBoxO HN6 hO (by omega)
         clear hO hC hs7 HA6 HX6 HG6 HN6
         have hr2 : r2 < 2 := hr2 (by omega)
         have hr2i : (r2 : Int) < 2 := by omega
         have hS := (cellsX HX7.out).1
         clear hHeld
         refine hK.out _ _ hS (fun hHeld => ?_)
         clear hK K
         try simp only [Act.put, List.setIfInBounds_toArray, List.set_cons_zero, List.set_cons_succ]
         clear hS
         refine tkH (i := 8) (oi := o29_8_8) (v := ?v34) ?h34 hHeld ?r34
         case h34 => (intro w hSw; (try dsimp only at hSw); go_simp; try with_reducible rfl)
         try simp only [Act.put, List.setIfInBounds_toArray, List.set_cons_zero, List.set_cons_succ]
         refine wpAnyH_ready (rs := [9]) (by kernel_rfl) (by simp) ?_
         refine (AllReadyH.cons (o := o29_8_9) rfl (fun K hK => ?_) AllReadyH.nil)
         have x5 := xeQ_at HN7.out hr2
         go_simp
         clear x5
         have hS := (cellsX HX7.out).1
         clear hHeld
         refine hK.out _ _ hS (fun hHeld => ?_)
         clear hK K
         try simp only [Act.put, List.setIfInBounds_toArray, List.set_cons_zero, List.set_cons_succ]
         clear hS
         refine tkH (i := 10) (oi := o29_8_10) (v := ?v35) ?h35 hHeld ?r35
         case h35 => (intro w hSw; (try dsimp only at hSw); go_simp; try with_reducible rfl)
         try simp only [Act.put, List.setIfInBounds_toArray, List.set_cons_zero, List.set_cons_succ]
         refine wpAnyH_ready (rs := [11]) (by kernel_rfl) (by simp) ?_
         refine (AllReadyH.cons (o := o29_8_11) rfl (fun K hK => ?_) AllReadyH.nil)
         go_simp
         have hb := bel_alloc (v7) (.cells #[.int .i64 ((r1 : Int) - 1), .string (xeQ r2)] 33)
         obtain ⟨HA8, HX8, HG8⟩ := st3 HA7 HX7 HG7 hb
         have HN8 := hBox HN7 hb
         have HS := (show Hid (SrcR ((v7).alloc (.cells #[.int .i64 ((r1 : Int) - 1), .string (xeQ r2)] 33)) 33 2 (.slice (some ⟨(v7).heap.size, 0, none⟩) 1 1) 1 [.int .i64 ((r1 : Int) - 1), .string (xeQ r2)]) from src2 _ _ _ _)
         clear hb HA7 HX7 HG7 HN7
         have hS := (cellsX HX8.out).1
         clear hHeld
         refine hK.out _ _ hS (fun hHeld => ?_)
         clear hK K
         try simp only [Act.put, List.setIfInBounds_toArray, List.set_cons_zero, List.set_cons_succ]
         clear hS
         generalize (v7).alloc (.cells #[.int .i64 ((r1 : Int) - 1), .string (xeQ r2)] 33) = W8 at *
         generalize hga : (v7).heap.size = ga at *
         clear hga
         refine wpAnyH_ready (rs := [12]) (by kernel_rfl) (by simp) ?_
         refine (AllReadyH.cons (o := o29_8_12) rfl (fun K hK => ?_) AllReadyH.nil)
         refine stepS _ rfl (.tmp 35) (.tmp 45) rfl (by simp [Act.eval, Act.put]) HG8.out.r (by simp [Act.eval, Act.put]) HS.out (by omega) HA8.out.size ?_
         intro aN pN wN hown hgr hat
         obtain ⟨HA9, HX9, HG9⟩ := ap3 hlt HA8 HX8 HG8 ⟨(r1 : Int) - 1, xeQ r2⟩ (xeQ_size _) hown hgr hat (by omega)
         have HN9 := hBoxG HN8 HG8.out.r hgr (by decide)
         clear HS hown hgr hat HA8 HX8 HG8 HN8
         have hS := (cellsX HX9.out).1
         clear hHeld
         refine hK.out _ _ hS (fun hHeld => ?_)
         clear hK K
         try simp only [Act.put, List.setIfInBounds_toArray, List.set_cons_zero, List.set_cons_succ]
         clear hS
         refine tkH (i := 13) (oi := o29_8_13) (v := ?v36) ?h36 hHeld ?r36
         case h36 => (intro w hSw; (try dsimp only at hSw); go_simp; try with_reducible rfl)
         try simp only [Act.put, List.setIfInBounds_toArray, List.set_cons_zero, List.set_cons_succ]
         refine wpAnyH_ready (rs := [14]) (by kernel_rfl) (by simp) ?_
         refine (AllReadyH.cons (o := o29_8_14) rfl (fun K hK => ?_) AllReadyH.nil)
         obtain ⟨q0', q1', q2', q3'⟩ := cellsX HX9.out
         have f3 := HX9.out.frozen 3
         obtain ⟨HA10, HX10, HG10⟩ := so3 (.slice aN (G.refs.length + 1) pN) hlt (by omega) HA9 HX9 HG9
         have HN10 := hBoxP (o := 3) (u := (.slice aN (G.refs.length + 1) pN)) (q := w1.heap.size) HN9 (by omega)
         go_simp
         clear q0' q1' q2' q3' f3
         clear  HA9 HX9 HG9 HN9
         have hS := (cellsX HX10.out).1
         clear hHeld
         refine hK.out _ _ hS (fun hHeld => ?_)
         clear hK K
         try simp only [Act.put, List.setIfInBounds_toArray, List.set_cons_zero, List.set_cons_succ]
         refine wpAnyH_done (by kernel_rfl) ?_ _
         clear hS hHeld
         obtain ⟨q0, q1, q2, q3⟩ := cellsX HX10.out
         obtain ⟨z0, z1, z2, z3⟩ := cellsX HA10.out.bx
         have y0 := HA10.out.bx.frozen 0
         have y1 := HA10.out.bx.frozen 1
         have y2 := HA10.out.bx.frozen 2
         have y3 := HA10.out.bx.frozen 3
         have hz := HA10.out.size
         go_wp2_with fail
         refine bodyPost_ret (v := .agg #[.int .i64 sc, (.slice a1 G.edges.length p1), (.slice a2 G.decls.length p2), (.slice aN (G.refs.length + 1) pN)]) (by simp [results, Try.results29, go_sem, z0, z1, z2, z3, y0, y1, y2, y3]) rfl ?_
         rw [HSC.out]
         exact AtS.done (G := ⟨G.scopes, G.edges, G.decls, G.refs ++ [⟨(r1 : Int) - 1, xeQ r2⟩]⟩) HA10.out hlt HG10.out ⟨by (first | omega | (simp only [List.length_append, List.length_singleton]; omega)), by (first | omega | (simp only [List.length_append, List.length_singleton]; omega)), by (first | omega | (simp only [List.length_append, List.length_singleton]; omega))⟩
        ·
         obtain ⟨s6, hs6⟩ := HA5.out.cu
         go_simp
         go_at_call 30
         refine Calls.mono (pickE 2 _ hs6 (by decide)) ?_
         rintro e v6 ⟨r2, t6, rfl, hr2, hO, hC⟩
         obtain ⟨HA6, HX6, HG6⟩ := pk3 hlt HA5 HX5 HG5 hO hC (by omega)
         clear hO hC hs6 HA5 HX5 HG5
         have hr2 : r2 < 2 := hr2 (by omega)
         have hr2i : (r2 : Int) < 2 := by omega
         have hS := (cellsX HX6.out).1
         clear hHeld
         refine hK.out _ _ hS (fun hHeld => ?_)
         clear hK K
         try simp only [Act.put, List.setIfInBounds_toArray, List.set_cons_zero, List.set_cons_succ]
         clear hS
         refine wpAnyH_ready (rs := [5]) (by kernel_rfl) (by simp) ?_
         refine (AllReadyH.cons (o := o29_8_5) rfl (fun K hK => ?_) AllReadyH.nil)
         go_simp
         have hb := bel_alloc (v6) (.cells #[.string ⟨#[120]⟩, .string ⟨#[]⟩] 9)
         obtain ⟨HA7, HX7, HG7⟩ := st3 HA6 HX6 HG6 hb
         have HT := (show Hid (Box ((v6).alloc (.cells #[.string ⟨#[120]⟩, .string ⟨#[]⟩] 9)) (v6).heap.size 9 [.string ⟨#[120]⟩, .string ⟨#[]⟩]) from Box.new _ 9 [.string ⟨#[120]⟩, .string ⟨#[]⟩])
         have hgn : w.heap.size + 1 ≤ (v6).heap.size := HA6.out.size
         have hgx : w1.heap.size < (v6).heap.size := HX6.out.lt
         clear hb HA6 HX6 HG6
         have hS := (cellsX HX7.out).1
         clear hHeld
         refine hK.out _ _ hS (fun hHeld => ?_)
         clear hK K
         try simp only [Act.put, List.setIfInBounds_toArray, List.set_cons_zero, List.set_cons_succ]
         clear hS
         generalize (v6).alloc (.cells #[.string ⟨#[120]⟩, .string ⟨#[]⟩] 9) = W7 at *
         generalize hgn0 : (v6).heap.size = gn at *
         clear hgn0
         have HN7 := HT
         clear HT
         refine tkH (i := 8) (oi := o29_8_8) (v := ?v37) ?h37 hHeld ?r37
         case h37 => (intro w hSw; (try dsimp only at hSw); go_simp; try with_reducible rfl)
         try simp only [Act.put, List.setIfInBounds_toArray, List.set_cons_zero, List.set_cons_succ]
         refine wpAnyH_ready (rs := [9]) (by kernel_rfl) (by simp) ?_
         refine (AllReadyH.cons (o := o29_8_9) rfl (fun K hK => ?_) AllReadyH.nil)
         have x5 := xeQ_at HN7.out hr2
         go_simp
         clear x5
         have hS := (cellsX HX7.out).1
         clear hHeld
         refine hK.out _ _ hS (fun hHeld => ?_)
         clear hK K
         try simp only [Act.put, List.setIfInBounds_toArray, List.set_cons_zero, List.set_cons_succ]
         clear hS
         refine tkH (i := 10) (oi := o29_8_10) (v := ?v38) ?h38 hHeld ?r38
         case h38 => (intro w hSw; (try dsimp only at hSw); go_simp; try with_reducible rfl)
         try simp only [Act.put, List.setIfInBounds_toArray, List.set_cons_zero, List.set_cons_succ]
         refine wpAnyH_ready (rs := [11]) (by kernel_rfl) (by simp) ?_
         refine (AllReadyH.cons (o := o29_8_11) rfl (fun K hK => ?_) AllReadyH.nil)
         go_simp
         have hb := bel_alloc (W7) (.cells #[.int .i64 ((r1 : Int) - 1), .string (xeQ r2)] 33)
         obtain ⟨HA8, HX8, HG8⟩ := st3 HA7 HX7 HG7 hb
         have HN8 := hBox HN7 hb
         have HS := (show Hid (SrcR ((W7).alloc (.cells #[.int .i64 ((r1 : Int) - 1), .string (xeQ r2)] 33)) 33 2 (.slice (some ⟨(W7).heap.size, 0, none⟩) 1 1) 1 [.int .i64 ((r1 : Int) - 1), .string (xeQ r2)]) from src2 _ _ _ _)
         clear hb HA7 HX7 HG7 HN7
         have hS := (cellsX HX8.out).1
         clear hHeld
         refine hK.out _ _ hS (fun hHeld => ?_)
         clear hK K
         try simp only [Act.put, List.setIfInBounds_toArray, List.set_cons_zero, List.set_cons_succ]
         clear hS
         generalize (W7).alloc (.cells #[.int .i64 ((r1 : Int) - 1), .string (xeQ r2)] 33) = W8 at *
         generalize hga : (W7).heap.size = ga at *
         clear hga
         refine wpAnyH_ready (rs := [12]) (by kernel_rfl) (by simp) ?_
         refine (AllReadyH.cons (o := o29_8_12) rfl (fun K hK => ?_) AllReadyH.nil)
         refine stepS _ rfl (.tmp 35) (.tmp 45) rfl (by simp [Act.eval, Act.put]) HG8.out.r (by simp [Act.eval, Act.put]) HS.out (by omega) HA8.out.size ?_
         intro aN pN wN hown hgr hat
         obtain ⟨HA9, HX9, HG9⟩ := ap3 hlt HA8 HX8 HG8 ⟨(r1 : Int) - 1, xeQ r2⟩ (xeQ_size _) hown hgr hat (by omega)
         have HN9 := hBoxG HN8 HG8.out.r hgr (by decide)
         clear HS hown hgr hat HA8 HX8 HG8 HN8
         have hS := (cellsX HX9.out).1
         clear hHeld
         refine hK.out _ _ hS (fun hHeld => ?_)
         clear hK K
         try simp only [Act.put, List.setIfInBounds_toArray, List.set_cons_zero, List.set_cons_succ]
         clear hS
         refine tkH (i := 13) (oi := o29_8_13) (v := ?v39) ?h39 hHeld ?r39
         case h39 => (intro w hSw; (try dsimp only at hSw); go_simp; try with_reducible rfl)
         try simp only [Act.put, List.setIfInBounds_toArray, List.set_cons_zero, List.set_cons_succ]
         refine wpAnyH_ready (rs := [14]) (by kernel_rfl) (by simp) ?_
         refine (AllReadyH.cons (o := o29_8_14) rfl (fun K hK => ?_) AllReadyH.nil)
         obtain ⟨q0', q1', q2', q3'⟩ := cellsX HX9.out
         have f3 := HX9.out.frozen 3
         obtain ⟨HA10, HX10, HG10⟩ := so3 (.slice aN (G.refs.length + 1) pN) hlt (by omega) HA9 HX9 HG9
         have HN10 := hBoxP (o := 3) (u := (.slice aN (G.refs.length + 1) pN)) (q := w1.heap.size) HN9 (by omega)
         go_simp
         clear q0' q1' q2' q3' f3
         clear  HA9 HX9 HG9 HN9
         have hS := (cellsX HX10.out).1
         clear hHeld
         refine hK.out _ _ hS (fun hHeld => ?_)
         clear hK K
         try simp only [Act.put, List.setIfInBounds_toArray, List.set_cons_zero, List.set_cons_succ]
         refine wpAnyH_done (by kernel_rfl) ?_ _
         clear hS hHeld
         obtain ⟨q0, q1, q2, q3⟩ := cellsX HX10.out
         obtain ⟨z0, z1, z2, z3⟩ := cellsX HA10.out.bx
         have y0 := HA10.out.bx.frozen 0
         have y1 := HA10.out.bx.frozen 1
         have y2 := HA10.out.bx.frozen 2
         have y3 := HA10.out.bx.frozen 3
         have hz := HA10.out.size
         go_wp2_with fail
         refine bodyPost_ret (v := .agg #[.int .i64 sc, (.slice a1 G.edges.length p1), (.slice a2 G.decls.length p2), (.slice aN (G.refs.length + 1) pN)]) (by simp [results, Try.results29, go_sem, z0, z1, z2, z3, y0, y1, y2, y3]) rfl ?_
         rw [HSC.out]
         exact AtS.done (G := ⟨G.scopes, G.edges, G.decls, G.refs ++ [⟨(r1 : Int) - 1, xeQ r2⟩]⟩) HA10.out hlt HG10.out ⟨by (first | omega | (simp only [List.length_append, List.length_singleton]; omega)), by (first | omega | (simp only [List.length_append, List.length_singleton]; omega)), by (first | omega | (simp only [List.length_append, List.length_singleton]; omega))⟩
       ·
        go_simp
        have hb := bel_alloc (v5) (.cells #[.string ⟨#[120]⟩, .string ⟨#[]⟩] 9)
        obtain ⟨HA6, HX6, HG6⟩ := st3 HA5 HX5 HG5 hb
        have HT := (show Hid (Box ((v5).alloc (.cells #[.string ⟨#[120]⟩, .string ⟨#[]⟩] 9)) (v5).heap.size 9 [.string ⟨#[120]⟩, .string ⟨#[]⟩]) from Box.new _ 9 [.string ⟨#[120]⟩, .string ⟨#[]⟩])
        have hgn : w.heap.size + 1 ≤ (v5).heap.size := HA5.out.size
        have hgx : w1.heap.size < (v5).heap.size := HX5.out.lt
        clear hb HA5 HX5 HG5
        have hS := (cellsX HX6.out).1
        clear hHeld
        refine hK.out _ _ hS (fun hHeld => ?_)
        clear hK K
        try simp only [Act.put, List.setIfInBounds_toArray, List.set_cons_zero, List.set_cons_succ]
        clear hS
        generalize (v5).alloc (.cells #[.string ⟨#[120]⟩, .string ⟨#[]⟩] 9) = W6 at *
        generalize hgn0 : (v5).heap.size = gn at *
        clear hgn0
        have HN6 := HT
        clear HT
        refine wpAnyH_ready (rs := [1, 7]) (by kernel_rfl) (by simp) ?_
        refine (AllReadyH.cons (o := o29_8_1) rfl (fun K hK => ?_) (AllReadyH.cons (o := o29_8_7) rfl (fun K hK => ?_) AllReadyH.nil))
        ·
         obtain ⟨q0', q1', q2', q3'⟩ := cellsX HX6.out
         go_simp
         clear q0' q1' q2' q3'
         have hS := (cellsX HX6.out).1
         clear hHeld
         refine hK.out _ _ hS (fun hHeld => ?_)
         clear hK K
         try simp only [Act.put, List.setIfInBounds_toArray, List.set_cons_zero, List.set_cons_succ]
         clear hS
         refine wpAnyH_ready (rs := [7]) (by kernel_rfl) (by simp) ?_
         refine (AllReadyH.cons (o := o29_8_7) rfl (fun K hK => ?_) AllReadyH.nil)
         obtain ⟨s7, hs7⟩ := HA6.out.cu
         go_simp
         go_at_call 30
         refine Calls.mono (pickE 2 _ hs7 (by decide)) ?_
         rintro e v7 ⟨r2, t7, rfl, hr2, hO, hC⟩
         obtain ⟨HA7, HX7, HG7⟩ := pk3 hlt HA6 HX6 HG6 hO hC (by omega)
         have HN7 := hBoxO HN6 hO (by omega)
         clear hO hC hs7 HA6 HX6 HG6 HN6
         have hr2 : r2 < 2 := hr2 (by omega)
         have hr2i : (r2 : Int) < 2 := by omega
         have hS := (cellsX HX7.out).1
         clear hHeld
         refine hK.out _ _ hS (fun hHeld => ?_)
         clear hK K
         try simp only [Act.put, List.setIfInBounds_toArray, List.set_cons_zero, List.set_cons_succ]
         clear hS
         refine tkH (i := 8) (oi := o29_8_8) (v := ?v40) ?h40 hHeld ?r40
         case h40 => (intro w hSw; (try dsimp only at hSw); go_simp; try with_reducible rfl)
         try simp only [Act.put, List.setIfInBounds_toArray, List.set_cons_zero, List.set_cons_succ]
         refine wpAnyH_ready (rs := [9]) (by kernel_rfl) (by simp) ?_
         refine (AllReadyH.cons (o := o29_8_9) rfl (fun K hK => ?_) AllReadyH.nil)
         have x5 := xeQ_at HN7.out hr2
         go_simp
         clear x5
         have hS := (cellsX HX7.out).1
         clear hHeld
         refine hK.out _ _ hS (fun hHeld => ?_)
         clear hK K
         try simp only [Act.put, List.setIfInBounds_toArray, List.set_cons_zero, List.set_cons_succ]
         clear hS
         refine tkH (i := 10) (oi := o29_8_10) (v := ?v41) ?h41 hHeld ?r41
         case h41 => (intro w hSw; (try dsimp only at hSw); go_simp; try with_reducible rfl)
         try simp only [Act.put, List.setIfInBounds_toArray, List.set_cons_zero, List.set_cons_succ]
         refine wpAnyH_ready (rs := [11]) (by kernel_rfl) (by simp) ?_
         refine (AllReadyH.cons (o := o29_8_11) rfl (fun K hK => ?_) AllReadyH.nil)
         go_simp
         have hb := bel_alloc (v7) (.cells #[.int .i64 ((r1 : Int) - 1), .string (xeQ r2)] 33)
         obtain ⟨HA8, HX8, HG8⟩ := st3 HA7 HX7 HG7 hb
         have HN8 := hBox HN7 hb
         have HS := (show Hid (SrcR ((v7).alloc (.cells #[.int .i64 ((r1 : Int) - 1), .string (xeQ r2)] 33)) 33 2 (.slice (some ⟨(v7).heap.size, 0, none⟩) 1 1) 1 [.int .i64 ((r1 : Int) - 1), .string (xeQ r2)]) from src2 _ _ _ _)
         clear hb HA7 HX7 HG7 HN7
         have hS := (cellsX HX8.out).1
         clear hHeld
         refine hK.out _ _ hS (fun hHeld => ?_)
         clear hK K
         try simp only [Act.put, List.setIfInBounds_toArray, List.set_cons_zero, List.set_cons_succ]
         clear hS
         generalize (v7).alloc (.cells #[.int .i64 ((r1 : Int) - 1), .string (xeQ r2)] 33) = W8 at *
         generalize hga : (v7).heap.size = ga at *
         clear hga
         refine wpAnyH_ready (rs := [12]) (by kernel_rfl) (by simp) ?_
         refine (AllReadyH.cons (o := o29_8_12) rfl (fun K hK => ?_) AllReadyH.nil)
         refine stepS _ rfl (.tmp 35) (.tmp 45) rfl (by simp [Act.eval, Act.put]) HG8.out.r (by simp [Act.eval, Act.put]) HS.out (by omega) HA8.out.size ?_
         intro aN pN wN hown hgr hat
         obtain ⟨HA9, HX9, HG9⟩ := ap3 hlt HA8 HX8 HG8 ⟨(r1 : Int) - 1, xeQ r2⟩ (xeQ_size _) hown hgr hat (by omega)
         have HN9 := hBoxG HN8 HG8.out.r hgr (by decide)
         clear HS hown hgr hat HA8 HX8 HG8 HN8
         have hS := (cellsX HX9.out).1
         clear hHeld
         refine hK.out _ _ hS (fun hHeld => ?_)
         clear hK K
         try simp only [Act.put, List.setIfInBounds_toArray, List.set_cons_zero, List.set_cons_succ]
         clear hS
         refine tkH (i := 13) (oi := o29_8_13) (v := ?v42) ?h42 hHeld ?r42
         case h42 => (intro w hSw; (try dsimp only at hSw); go_simp; try with_reducible rfl)
         try simp only [Act.put, List.setIfInBounds_toArray, List.set_cons_zero, List.set_cons_succ]
         refine wpAnyH_ready (rs := [14]) (by kernel_rfl) (by simp) ?_
         refine (AllReadyH.cons (o := o29_8_14) rfl (fun K hK => ?_) AllReadyH.nil)
         obtain ⟨q0', q1', q2', q3'⟩ := cellsX HX9.out
         have f3 := HX9.out.frozen 3
         obtain ⟨HA10, HX10, HG10⟩ := so3 (.slice aN (G.refs.length + 1) pN) hlt (by omega) HA9 HX9 HG9
         have HN10 := hBoxP (o := 3) (u := (.slice aN (G.refs.length + 1) pN)) (q := w1.heap.size) HN9 (by omega)
         go_simp
         clear q0' q1' q2' q3' f3
         clear  HA9 HX9 HG9 HN9
         have hS := (cellsX HX10.out).1
         clear hHeld
         refine hK.out _ _ hS (fun hHeld => ?_)
         clear hK K
         try simp only [Act.put, List.setIfInBounds_toArray, List.set_cons_zero, List.set_cons_succ]
         refine wpAnyH_done (by kernel_rfl) ?_ _
         clear hS hHeld
         obtain ⟨q0, q1, q2, q3⟩ := cellsX HX10.out
         obtain ⟨z0, z1, z2, z3⟩ := cellsX HA10.out.bx
         have y0 := HA10.out.bx.frozen 0
         have y1 := HA10.out.bx.frozen 1
         have y2 := HA10.out.bx.frozen 2
         have y3 := HA10.out.bx.frozen 3
         have hz := HA10.out.size
         go_wp2_with fail
         refine bodyPost_ret (v := .agg #[.int .i64 sc, (.slice a1 G.edges.length p1), (.slice a2 G.decls.length p2), (.slice aN (G.refs.length + 1) pN)]) (by simp [results, Try.results29, go_sem, z0, z1, z2, z3, y0, y1, y2, y3]) rfl ?_
         rw [HSC.out]
         exact AtS.done (G := ⟨G.scopes, G.edges, G.decls, G.refs ++ [⟨(r1 : Int) - 1, xeQ r2⟩]⟩) HA10.out hlt HG10.out ⟨by (first | omega | (simp only [List.length_append, List.length_singleton]; omega)), by (first | omega | (simp only [List.length_append, List.length_singleton]; omega)), by (first | omega | (simp only [List.length_append, List.length_singleton]; omega))⟩
        ·
         obtain ⟨s7, hs7⟩ := HA6.out.cu
         go_simp
         go_at_call 30
         refine Calls.mono (pickE 2 _ hs7 (by decide)) ?_
         rintro e v7 ⟨r2, t7, rfl, hr2, hO, hC⟩
         obtain ⟨HA7, HX7, HG7⟩ := pk3 hlt HA6 HX6 HG6 hO hC (by omega)
         have HN7 := hBoxO HN6 hO (by omega)
         clear hO hC hs7 HA6 HX6 HG6 HN6
         have hr2 : r2 < 2 := hr2 (by omega)
         have hr2i : (r2 : Int) < 2 := by omega
         have hS := (cellsX HX7.out).1
         clear hHeld
         refine hK.out _ _ hS (fun hHeld => ?_)
         clear hK K
         try simp only [Act.put, List.setIfInBounds_toArray, List.set_cons_zero, List.set_cons_succ]
         clear hS
         refine tkH (i := 8) (oi := o29_8_8) (v := ?v43) ?h43 hHeld ?r43
         case h43 => (intro w hSw; (try dsimp only at hSw); go_simp; try with_reducible rfl)
         try simp only [Act.put, List.setIfInBounds_toArray, List.set_cons_zero, List.set_cons_succ]
         refine wpAnyH_ready (rs := [1, 9]) (by kernel_rfl) (by simp) ?_
         refine (AllReadyH.cons (o := o29_8_1) rfl (fun K hK => ?_) (AllReadyH.cons (o := o29_8_9) rfl (fun K hK => ?_) AllReadyH.nil))
         ·
          obtain ⟨q0', q1', q2', q3'⟩ := cellsX HX7.out
          go_simp
          clear q0' q1' q2' q3'
          have hS := (cellsX HX7.out).1
          clear hHeld
          refine hK.out _ _ hS (fun hHeld => ?_)
          clear hK K
          try simp only [Act.put, List.setIfInBounds_toArray, List.set_cons_zero, List.set_cons_succ]
          clear hS
          refine wpAnyH_ready (rs := [9]) (by kernel_rfl) (by simp) ?_
          refine (AllReadyH.cons (o := o29_8_9) rfl (fun K hK => ?_) AllReadyH.nil)
          have x5 := xeQ_at HN7.out hr2
          go_simp
          clear x5
          have hS := (cellsX HX7.out).1
          clear hHeld
          refine hK.out _ _ hS (fun hHeld => ?_)
          clear hK K
          try simp only [Act.put, List.setIfInBounds_toArray, List.set_cons_zero, List.set_cons_succ]
          clear hS
          refine tkH (i := 10) (oi := o29_8_10) (v := ?v44) ?h44 hHeld ?r44
          case h44 => (intro w hSw; (try dsimp only at hSw); go_simp; try with_reducible rfl)
          try simp only [Act.put, List.setIfInBounds_toArray, List.set_cons_zero, List.set_cons_succ]
          refine wpAnyH_ready (rs := [11]) (by kernel_rfl) (by simp) ?_
          refine (AllReadyH.cons (o := o29_8_11) rfl (fun K hK => ?_) AllReadyH.nil)
          go_simp
          have hb := bel_alloc (v7) (.cells #[.int .i64 ((r1 : Int) - 1), .string (xeQ r2)] 33)
          obtain ⟨HA8, HX8, HG8⟩ := st3 HA7 HX7 HG7 hb
          have HN8 := hBox HN7 hb
          have HS := (show Hid (SrcR ((v7).alloc (.cells #[.int .i64 ((r1 : Int) - 1), .string (xeQ r2)] 33)) 33 2 (.slice (some ⟨(v7).heap.size, 0, none⟩) 1 1) 1 [.int .i64 ((r1 : Int) - 1), .string (xeQ r2)]) from src2 _ _ _ _)
          clear hb HA7 HX7 HG7 HN7
          have hS := (cellsX HX8.out).1
          clear hHeld
          refine hK.out _ _ hS (fun hHeld => ?_)
          clear hK K
          try simp only [Act.put, List.setIfInBounds_toArray, List.set_cons_zero, List.set_cons_succ]
          clear hS
          generalize (v7).alloc (.cells #[.int .i64 ((r1 : Int) - 1), .string (xeQ r2)] 33) = W8 at *
          generalize hga : (v7).heap.size = ga at *
          clear hga
          refine wpAnyH_ready (rs := [12]) (by kernel_rfl) (by simp) ?_
          refine (AllReadyH.cons (o := o29_8_12) rfl (fun K hK => ?_) AllReadyH.nil)
          refine stepS _ rfl (.tmp 35) (.tmp 45) rfl (by simp [Act.eval, Act.put]) HG8.out.r (by simp [Act.eval, Act.put]) HS.out (by omega) HA8.out.size ?_
          intro aN pN wN hown hgr hat
          obtain ⟨HA9, HX9, HG9⟩ := ap3 hlt HA8 HX8 HG8 ⟨(r1 : Int) - 1, xeQ r2⟩ (xeQ_size _) hown hgr hat (by omega)
          have HN9 := hBoxG HN8 HG8.out.r hgr (by decide)
          clear HS hown hgr hat HA8 HX8 HG8 HN8
          have hS := (cellsX HX9.out).1
          clear hHeld
          refine hK.out _ _ hS (fun hHeld => ?_)
          clear hK K
          try simp only [Act.put, List.setIfInBounds_toArray, List.set_cons_zero, List.set_cons_succ]
          clear hS
          refine tkH (i := 13) (oi := o29_8_13) (v := ?v45) ?h45 hHeld ?r45
          case h45 => (intro w hSw; (try dsimp only at hSw); go_simp; try with_reducible rfl)
          try simp only [Act.put, List.setIfInBounds_toArray, List.set_cons_zero, List.set_cons_succ]
          refine wpAnyH_ready (rs := [14]) (by kernel_rfl) (by simp) ?_
          refine (AllReadyH.cons (o := o29_8_14) rfl (fun K hK => ?_) AllReadyH.nil)
          obtain ⟨q0', q1', q2', q3'⟩ := cellsX HX9.out
          have f3 := HX9.out.frozen 3
          obtain ⟨HA10, HX10, HG10⟩ := so3 (.slice aN (G.refs.length + 1) pN) hlt (by omega) HA9 HX9 HG9
          have HN10 := hBoxP (o := 3) (u := (.slice aN (G.refs.length + 1) pN)) (q := w1.heap.size) HN9 (by omega)
          go_simp
          clear q0' q1' q2' q3' f3
          clear  HA9 HX9 HG9 HN9
          have hS := (cellsX HX10.out).1
          clear hHeld
          refine hK.out _ _ hS (fun hHeld => ?_)
          clear hK K
          try simp only [Act.put, List.setIfInBounds_toArray, List.set_cons_zero, List.set_cons_succ]
          refine wpAnyH_done (by kernel_rfl) ?_ _
          clear hS hHeld
          obtain ⟨q0, q1, q2, q3⟩ := cellsX HX10.out
          obtain ⟨z0, z1, z2, z3⟩ := cellsX HA10.out.bx
          have y0 := HA10.out.bx.frozen 0
          have y1 := HA10.out.bx.frozen 1
          have y2 := HA10.out.bx.frozen 2
          have y3 := HA10.out.bx.frozen 3
          have hz := HA10.out.size
          go_wp2_with fail
          refine bodyPost_ret (v := .agg #[.int .i64 sc, (.slice a1 G.edges.length p1), (.slice a2 G.decls.length p2), (.slice aN (G.refs.length + 1) pN)]) (by simp [results, Try.results29, go_sem, z0, z1, z2, z3, y0, y1, y2, y3]) rfl ?_
          rw [HSC.out]
          exact AtS.done (G := ⟨G.scopes, G.edges, G.decls, G.refs ++ [⟨(r1 : Int) - 1, xeQ r2⟩]⟩) HA10.out hlt HG10.out ⟨by (first | omega | (simp only [List.length_append, List.length_singleton]; omega)), by (first | omega | (simp only [List.length_append, List.length_singleton]; omega)), by (first | omega | (simp only [List.length_append, List.length_singleton]; omega))⟩
         ·
          have x5 := xeQ_at HN7.out hr2
          go_simp
          clear x5
          have hS := (cellsX HX7.out).1
          clear hHeld
          refine hK.out _ _ hS (fun hHeld => ?_)
          clear hK K
          try simp only [Act.put, List.setIfInBounds_toArray, List.set_cons_zero, List.set_cons_succ]
          clear hS
          refine tkH (i := 10) (oi := o29_8_10) (v := ?v46) ?h46 hHeld ?r46
          case h46 => (intro w hSw; (try dsimp only at hSw); go_simp; try with_reducible rfl)
          try simp only [Act.put, List.setIfInBounds_toArray, List.set_cons_zero, List.set_cons_succ]
          refine wpAnyH_ready (rs := [1, 11]) (by kernel_rfl) (by simp) ?_
          refine (AllReadyH.cons (o := o29_8_1) rfl (fun K hK => ?_) (AllReadyH.cons (o := o29_8_11) rfl (fun K hK => ?_) AllReadyH.nil))
          ·
           obtain ⟨q0', q1', q2', q3'⟩ := cellsX HX7.out
           go_simp
           clear q0' q1' q2' q3'
           have hS := (cellsX HX7.out).1
           clear hHeld
           refine hK.out _ _ hS (fun hHeld => ?_)
           clear hK K
           try simp only [Act.put, List.setIfInBounds_toArray, List.set_cons_zero, List.set_cons_succ]
           clear hS
           refine wpAnyH_ready (rs := [11]) (by kernel_rfl) (by simp) ?_
           refine (AllReadyH.cons (o := o29_8_11) rfl (fun K hK => ?_) AllReadyH.nil)
           go_simp
           have hb := bel_alloc (v7) (.cells #[.int .i64 ((r1 : Int) - 1), .string (xeQ r2)] 33)
           obtain ⟨HA8, HX8, HG8⟩ := st3 HA7 HX7 HG7 hb
           have HN8 := hBox HN7 hb
           have HS := (show Hid (SrcR ((v7).alloc (.cells #[.int .i64 ((r1 : Int) - 1), .string (xeQ r2)] 33)) 33 2 (.slice (some ⟨(v7).heap.size, 0, none⟩) 1 1) 1 [.int .i64 ((r1 : Int) - 1), .string (xeQ r2)]) from src2 _ _ _ _)
           clear hb HA7 HX7 HG7 HN7
           have hS := (cellsX HX8.out).1
           clear hHeld
           refine hK.out _ _ hS (fun hHeld => ?_)
           clear hK K
           try simp only [Act.put, List.setIfInBounds_toArray, List.set_cons_zero, List.set_cons_succ]
           clear hS
           generalize (v7).alloc (.cells #[.int .i64 ((r1 : Int) - 1), .string (xeQ r2)] 33) = W8 at *
           generalize hga : (v7).heap.size = ga at *
           clear hga
           refine wpAnyH_ready (rs := [12]) (by kernel_rfl) (by simp) ?_
           refine (AllReadyH.cons (o := o29_8_12) rfl (fun K hK => ?_) AllReadyH.nil)
           refine stepS _ rfl (.tmp 35) (.tmp 45) rfl (by simp [Act.eval, Act.put]) HG8.out.r (by simp [Act.eval, Act.put]) HS.out (by omega) HA8.out.size ?_
           intro aN pN wN hown hgr hat
           obtain ⟨HA9, HX9, HG9⟩ := ap3 hlt HA8 HX8 HG8 ⟨(r1 : Int) - 1, xeQ r2⟩ (xeQ_size _) hown hgr hat (by omega)
           have HN9 := hBoxG HN8 HG8.out.r hgr (by decide)
           clear HS hown hgr hat HA8 HX8 HG8 HN8
           have hS := (cellsX HX9.out).1
           clear hHeld
           refine hK.out _ _ hS (fun hHeld => ?_)
           clear hK K
           try simp only [Act.put, List.setIfInBounds_toArray, List.set_cons_zero, List.set_cons_succ]
           clear hS
           refine tkH (i := 13) (oi := o29_8_13) (v := ?v47) ?h47 hHeld ?r47
           case h47 => (intro w hSw; (try dsimp only at hSw); go_simp; try with_reducible rfl)
           try simp only [Act.put, List.setIfInBounds_toArray, List.set_cons_zero, List.set_cons_succ]
           refine wpAnyH_ready (rs := [14]) (by kernel_rfl) (by simp) ?_
           refine (AllReadyH.cons (o := o29_8_14) rfl (fun K hK => ?_) AllReadyH.nil)
           obtain ⟨q0', q1', q2', q3'⟩ := cellsX HX9.out
           have f3 := HX9.out.frozen 3
           obtain ⟨HA10, HX10, HG10⟩ := so3 (.slice aN (G.refs.length + 1) pN) hlt (by omega) HA9 HX9 HG9
           have HN10 := hBoxP (o := 3) (u := (.slice aN (G.refs.length + 1) pN)) (q := w1.heap.size) HN9 (by omega)
           go_simp
           clear q0' q1' q2' q3' f3
           clear  HA9 HX9 HG9 HN9
           have hS := (cellsX HX10.out).1
           clear hHeld
           refine hK.out _ _ hS (fun hHeld => ?_)
           clear hK K
           try simp only [Act.put, List.setIfInBounds_toArray, List.set_cons_zero, List.set_cons_succ]
           refine wpAnyH_done (by kernel_rfl) ?_ _
           clear hS hHeld
           obtain ⟨q0, q1, q2, q3⟩ := cellsX HX10.out
           obtain ⟨z0, z1, z2, z3⟩ := cellsX HA10.out.bx
           have y0 := HA10.out.bx.frozen 0
           have y1 := HA10.out.bx.frozen 1
           have y2 := HA10.out.bx.frozen 2
           have y3 := HA10.out.bx.frozen 3
           have hz := HA10.out.size
           go_wp2_with fail
           refine bodyPost_ret (v := .agg #[.int .i64 sc, (.slice a1 G.edges.length p1), (.slice a2 G.decls.length p2), (.slice aN (G.refs.length + 1) pN)]) (by simp [results, Try.results29, go_sem, z0, z1, z2, z3, y0, y1, y2, y3]) rfl ?_
           rw [HSC.out]
           exact AtS.done (G := ⟨G.scopes, G.edges, G.decls, G.refs ++ [⟨(r1 : Int) - 1, xeQ r2⟩]⟩) HA10.out hlt HG10.out ⟨by (first | omega | (simp only [List.length_append, List.length_singleton]; omega)), by (first | omega | (simp only [List.length_append, List.length_singleton]; omega)), by (first | omega | (simp only [List.length_append, List.length_singleton]; omega))⟩
          ·
           go_simp
           have hb := bel_alloc (v7) (.cells #[.int .i64 ((r1 : Int) - 1), .string (xeQ r2)] 33)
           obtain ⟨HA8, HX8, HG8⟩ := st3 HA7 HX7 HG7 hb
           have HN8 := hBox HN7 hb
           have HS := (show Hid (SrcR ((v7).alloc (.cells #[.int .i64 ((r1 : Int) - 1), .string (xeQ r2)] 33)) 33 2 (.slice (some ⟨(v7).heap.size, 0, none⟩) 1 1) 1 [.int .i64 ((r1 : Int) - 1), .string (xeQ r2)]) from src2 _ _ _ _)
           clear hb HA7 HX7 HG7 HN7
           have hS := (cellsX HX8.out).1
           clear hHeld
           refine hK.out _ _ hS (fun hHeld => ?_)
           clear hK K
           try simp only [Act.put, List.setIfInBounds_toArray, List.set_cons_zero, List.set_cons_succ]
           clear hS
           generalize (v7).alloc (.cells #[.int .i64 ((r1 : Int) - 1), .string (xeQ r2)] 33) = W8 at *
           generalize hga : (v7).heap.size = ga at *
           clear hga
           refine wpAnyH_ready (rs := [1]) (by kernel_rfl) (by simp) ?_
           refine (AllReadyH.cons (o := o29_8_1) rfl (fun K hK => ?_) AllReadyH.nil)
           obtain ⟨q0', q1', q2', q3'⟩ := cellsX HX8.out
           go_simp
           clear q0' q1' q2' q3'
           have hS := (cellsX HX8.out).1
           clear hHeld
           refine hK.out _ _ hS (fun hHeld => ?_)
           clear hK K
           try simp only [Act.put, List.setIfInBounds_toArray, List.set_cons_zero, List.set_cons_succ]
           clear hS
           refine wpAnyH_ready (rs := [12]) (by kernel_rfl) (by simp) ?_
           refine (AllReadyH.cons (o := o29_8_12) rfl (fun K hK => ?_) AllReadyH.nil)
           refine stepS _ rfl (.tmp 35) (.tmp 45) rfl (by simp [Act.eval, Act.put]) HG8.out.r (by simp [Act.eval, Act.put]) HS.out (by omega) HA8.out.size ?_
           intro aN pN wN hown hgr hat
           obtain ⟨HA9, HX9, HG9⟩ := ap3 hlt HA8 HX8 HG8 ⟨(r1 : Int) - 1, xeQ r2⟩ (xeQ_size _) hown hgr hat (by omega)
           have HN9 := hBoxG HN8 HG8.out.r hgr (by decide)
           clear HS hown hgr hat HA8 HX8 HG8 HN8
           have hS := (cellsX HX9.out).1
           clear hHeld
           refine hK.out _ _ hS (fun hHeld => ?_)
           clear hK K
           try simp only [Act.put, List.setIfInBounds_toArray, List.set_cons_zero, List.set_cons_succ]
           clear hS
           refine tkH (i := 13) (oi := o29_8_13) (v := ?v48) ?h48 hHeld ?r48
           case h48 => (intro w hSw; (try dsimp only at hSw); go_simp; try with_reducible rfl)
           try simp only [Act.put, List.setIfInBounds_toArray, List.set_cons_zero, List.set_cons_succ]
           refine wpAnyH_ready (rs := [14]) (by kernel_rfl) (by simp) ?_
           refine (AllReadyH.cons (o := o29_8_14) rfl (fun K hK => ?_) AllReadyH.nil)
           obtain ⟨q0', q1', q2', q3'⟩ := cellsX HX9.out
           have f3 := HX9.out.frozen 3
           obtain ⟨HA10, HX10, HG10⟩ := so3 (.slice aN (G.refs.length + 1) pN) hlt (by omega) HA9 HX9 HG9
           have HN10 := hBoxP (o := 3) (u := (.slice aN (G.refs.length + 1) pN)) (q := w1.heap.size) HN9 (by omega)
           go_simp
           clear q0' q1' q2' q3' f3
           clear  HA9 HX9 HG9 HN9
           have hS := (cellsX HX10.out).1
           clear hHeld
           refine hK.out _ _ hS (fun hHeld => ?_)
           clear hK K
           try simp only [Act.put, List.setIfInBounds_toArray, List.set_cons_zero, List.set_cons_succ]
           refine wpAnyH_done (by kernel_rfl) ?_ _
           clear hS hHeld
           obtain ⟨q0, q1, q2, q3⟩ := cellsX HX10.out
           obtain ⟨z0, z1, z2, z3⟩ := cellsX HA10.out.bx
           have y0 := HA10.out.bx.frozen 0
           have y1 := HA10.out.bx.frozen 1
           have y2 := HA10.out.bx.frozen 2
           have y3 := HA10.out.bx.frozen 3
           have hz := HA10.out.size
           go_wp2_with fail
           refine bodyPost_ret (v := .agg #[.int .i64 sc, (.slice a1 G.edges.length p1), (.slice a2 G.decls.length p2), (.slice aN (G.refs.length + 1) pN)]) (by simp [results, Try.results29, go_sem, z0, z1, z2, z3, y0, y1, y2, y3]) rfl ?_
           rw [HSC.out]
           exact AtS.done (G := ⟨G.scopes, G.edges, G.decls, G.refs ++ [⟨(r1 : Int) - 1, xeQ r2⟩]⟩) HA10.out hlt HG10.out ⟨by (first | omega | (simp only [List.length_append, List.length_singleton]; omega)), by (first | omega | (simp only [List.length_append, List.length_singleton]; omega)), by (first | omega | (simp only [List.length_append, List.length_singleton]; omega))⟩
       ·
        obtain ⟨s6, hs6⟩ := HA5.out.cu
        go_simp
        go_at_call 30
        refine Calls.mono (pickE 2 _ hs6 (by decide)) ?_
        rintro e v6 ⟨r2, t6, rfl, hr2, hO, hC⟩
        obtain ⟨HA6, HX6, HG6⟩ := pk3 hlt HA5 HX5 HG5 hO hC (by omega)
        clear hO hC hs6 HA5 HX5 HG5
        have hr2 : r2 < 2 := hr2 (by omega)
        have hr2i : (r2 : Int) < 2 := by omega
        have hS := (cellsX HX6.out).1
        clear hHeld
        refine hK.out _ _ hS (fun hHeld => ?_)
        clear hK K
        try simp only [Act.put, List.setIfInBounds_toArray, List.set_cons_zero, List.set_cons_succ]
        clear hS
        refine wpAnyH_ready (rs := [1, 5]) (by kernel_rfl) (by simp) ?_
        refine (AllReadyH.cons (o := o29_8_1) rfl (fun K hK => ?_) (AllReadyH.cons (o := o29_8_5) rfl (fun K hK => ?_) AllReadyH.nil))
        ·
         obtain ⟨q0', q1', q2', q3'⟩ := cellsX HX6.out
         go_simp
         clear q0' q1' q2' q3'
         have hS := (cellsX HX6.out).1
         clear hHeld
         refine hK.out _ _ hS (fun hHeld => ?_)
         clear hK K
         try simp only [Act.put, List.setIfInBounds_toArray, List.set_cons_zero, List.set_cons_succ]
         clear hS
         refine wpAnyH_ready (rs := [5]) (by kernel_rfl) (by simp) ?_
         refine (AllReadyH.cons (o := o29_8_5) rfl (fun K hK => ?_) AllReadyH.nil)
         go_simp
         have hb := bel_alloc (v6) (.cells #[.string ⟨#[120]⟩, .string ⟨#[]⟩] 9)
         obtain ⟨HA7, HX7, HG7⟩ := st3 HA6 HX6 HG6 hb
         have HT := (show Hid (Box ((v6).alloc (.cells #[.string ⟨#[120]⟩, .string ⟨#[]⟩] 9)) (v6).heap.size 9 [.string ⟨#[120]⟩, .string ⟨#[]⟩]) from Box.new _ 9 [.string ⟨#[120]⟩, .string ⟨#[]⟩])
         have hgn : w.heap.size + 1 ≤ (v6).heap.size := HA6.out.size
         have hgx : w1.heap.size < (v6).heap.size := HX6.out.lt
         clear hb HA6 HX6 HG6
         have hS := (cellsX HX7.out).1
         clear hHeld
         refine hK.out _ _ hS (fun hHeld => ?_)
         clear hK K
         try simp only [Act.put, List.setIfInBounds_toArray, List.set_cons_zero, List.set_cons_succ]
         clear hS
         generalize (v6).alloc (.cells #[.string ⟨#[120]⟩, .string ⟨#[]⟩] 9) = W7 at *
         generalize hgn0 : (v6).heap.size = gn at *
         clear hgn0
         have HN7 := HT
         clear HT
         refine tkH (i := 8) (oi := o29_8_8) (v := ?v49) ?h49 hHeld ?r49
         case h49 => (intro w hSw; (try dsimp only at hSw); go_simp; try with_reducible rfl)
         try simp only [Act.put, List.setIfInBounds_toArray, List.set_cons_zero, List.set_cons_succ]
         refine wpAnyH_ready (rs := [9]) (by kernel_rfl) (by simp) ?_
         refine (AllReadyH.cons (o := o29_8_9) rfl (fun K hK => ?_) AllReadyH.nil)
         have x5 := xeQ_at HN7.out hr2
         go_simp
         clear x5
         have hS := (cellsX HX7.out).1
         clear hHeld
         refine hK.out _ _ hS (fun hHeld => ?_)
         clear hK K
         try simp only [Act.put, List.setIfInBounds_toArray, List.set_cons_zero, List.set_cons_succ]
         clear hS
         refine tkH (i := 10) (oi := o29_8_10) (v := ?v50) ?h50 hHeld ?r50
         case h50 => (intro w hSw; (try dsimp only at hSw); go_simp; try with_reducible rfl)
         try simp only [Act.put, List.setIfInBounds_toArray, List.set_cons_zero, List.set_cons_succ]
         refine wpAnyH_ready (rs := [11]) (by kernel_rfl) (by simp) ?_
         refine (AllReadyH.cons (o := o29_8_11) rfl (fun K hK => ?_) AllReadyH.nil)
         go_simp
         have hb := bel_alloc (W7) (.cells #[.int .i64 ((r1 : Int) - 1), .string (xeQ r2)] 33)
         obtain ⟨HA8, HX8, HG8⟩ := st3 HA7 HX7 HG7 hb
         have HN8 := hBox HN7 hb
         have HS := (show Hid (SrcR ((W7).alloc (.cells #[.int .i64 ((r1 : Int) - 1), .string (xeQ r2)] 33)) 33 2 (.slice (some ⟨(W7).heap.size, 0, none⟩) 1 1) 1 [.int .i64 ((r1 : Int) - 1), .string (xeQ r2)]) from src2 _ _ _ _)
         clear hb HA7 HX7 HG7 HN7
         have hS := (cellsX HX8.out).1
         clear hHeld
         refine hK.out _ _ hS (fun hHeld => ?_)
         clear hK K
         try simp only [Act.put, List.setIfInBounds_toArray, List.set_cons_zero, List.set_cons_succ]
         clear hS
         generalize (W7).alloc (.cells #[.int .i64 ((r1 : Int) - 1), .string (xeQ r2)] 33) = W8 at *
         generalize hga : (W7).heap.size = ga at *
         clear hga
         refine wpAnyH_ready (rs := [12]) (by kernel_rfl) (by simp) ?_
         refine (AllReadyH.cons (o := o29_8_12) rfl (fun K hK => ?_) AllReadyH.nil)
         refine stepS _ rfl (.tmp 35) (.tmp 45) rfl (by simp [Act.eval, Act.put]) HG8.out.r (by simp [Act.eval, Act.put]) HS.out (by omega) HA8.out.size ?_
         intro aN pN wN hown hgr hat
         obtain ⟨HA9, HX9, HG9⟩ := ap3 hlt HA8 HX8 HG8 ⟨(r1 : Int) - 1, xeQ r2⟩ (xeQ_size _) hown hgr hat (by omega)
         have HN9 := hBoxG HN8 HG8.out.r hgr (by decide)
         clear HS hown hgr hat HA8 HX8 HG8 HN8
         have hS := (cellsX HX9.out).1
         clear hHeld
         refine hK.out _ _ hS (fun hHeld => ?_)
         clear hK K
         try simp only [Act.put, List.setIfInBounds_toArray, List.set_cons_zero, List.set_cons_succ]
         clear hS
         refine tkH (i := 13) (oi := o29_8_13) (v := ?v51) ?h51 hHeld ?r51
         case h51 => (intro w hSw; (try dsimp only at hSw); go_simp; try with_reducible rfl)
         try simp only [Act.put, List.setIfInBounds_toArray, List.set_cons_zero, List.set_cons_succ]
         refine wpAnyH_ready (rs := [14]) (by kernel_rfl) (by simp) ?_
         refine (AllReadyH.cons (o := o29_8_14) rfl (fun K hK => ?_) AllReadyH.nil)
         obtain ⟨q0', q1', q2', q3'⟩ := cellsX HX9.out
         have f3 := HX9.out.frozen 3
         obtain ⟨HA10, HX10, HG10⟩ := so3 (.slice aN (G.refs.length + 1) pN) hlt (by omega) HA9 HX9 HG9
         have HN10 := hBoxP (o := 3) (u := (.slice aN (G.refs.length + 1) pN)) (q := w1.heap.size) HN9 (by omega)
         go_simp
         clear q0' q1' q2' q3' f3
         clear  HA9 HX9 HG9 HN9
         have hS := (cellsX HX10.out).1
         clear hHeld
         refine hK.out _ _ hS (fun hHeld => ?_)
         clear hK K
         try simp only [Act.put, List.setIfInBounds_toArray, List.set_cons_zero, List.set_cons_succ]
         refine wpAnyH_done (by kernel_rfl) ?_ _
         clear hS hHeld
         obtain ⟨q0, q1, q2, q3⟩ := cellsX HX10.out
         obtain ⟨z0, z1, z2, z3⟩ := cellsX HA10.out.bx
         have y0 := HA10.out.bx.frozen 0
         have y1 := HA10.out.bx.frozen 1
         have y2 := HA10.out.bx.frozen 2
         have y3 := HA10.out.bx.frozen 3
         have hz := HA10.out.size
         go_wp2_with fail
         refine bodyPost_ret (v := .agg #[.int .i64 sc, (.slice a1 G.edges.length p1), (.slice a2 G.decls.length p2), (.slice aN (G.refs.length + 1) pN)]) (by simp [results, Try.results29, go_sem, z0, z1, z2, z3, y0, y1, y2, y3]) rfl ?_
         rw [HSC.out]
         exact AtS.done (G := ⟨G.scopes, G.edges, G.decls, G.refs ++ [⟨(r1 : Int) - 1, xeQ r2⟩]⟩) HA10.out hlt HG10.out ⟨by (first | omega | (simp only [List.length_append, List.length_singleton]; omega)), by (first | omega | (simp only [List.length_append, List.length_singleton]; omega)), by (first | omega | (simp only [List.length_append, List.length_singleton]; omega))⟩
        ·
         go_simp
         have hb := bel_alloc (v6) (.cells #[.string ⟨#[120]⟩, .string ⟨#[]⟩] 9)
         obtain ⟨HA7, HX7, HG7⟩ := st3 HA6 HX6 HG6 hb
         have HT := (show Hid (Box ((v6).alloc (.cells #[.string ⟨#[120]⟩, .string ⟨#[]⟩] 9)) (v6).heap.size 9 [.string ⟨#[120]⟩, .string ⟨#[]⟩]) from Box.new _ 9 [.string ⟨#[120]⟩, .string ⟨#[]⟩])
         have hgn : w.heap.size + 1 ≤ (v6).heap.size := HA6.out.size
         have hgx : w1.heap.size < (v6).heap.size := HX6.out.lt
         clear hb HA6 HX6 HG6
         have hS := (cellsX HX7.out).1
         clear hHeld
         refine hK.out _ _ hS (fun hHeld => ?_)
         clear hK K
         try simp only [Act.put, List.setIfInBounds_toArray, List.set_cons_zero, List.set_cons_succ]
         clear hS
         generalize (v6).alloc (.cells #[.string ⟨#[120]⟩, .string ⟨#[]⟩] 9) = W7 at *
         generalize hgn0 : (v6).heap.size = gn at *
         clear hgn0
         have HN7 := HT
         clear HT
         refine tkH (i := 8) (oi := o29_8_8) (v := ?v52) ?h52 hHeld ?r52
         case h52 => (intro w hSw; (try dsimp only at hSw); go_simp; try with_reducible rfl)
         try simp only [Act.put, List.setIfInBounds_toArray, List.set_cons_zero, List.set_cons_succ]
         refine wpAnyH_ready (rs := [1, 9]) (by kernel_rfl) (by simp) ?_
         refine (AllReadyH.cons (o := o29_8_1) rfl (fun K hK => ?_) (AllReadyH.cons (o := o29_8_9) rfl (fun K hK => ?_) AllReadyH.nil))
         ·
          obtain ⟨q0', q1', q2', q3'⟩ := cellsX HX7.out
          go_simp
          clear q0' q1' q2' q3'
          have hS := (cellsX HX7.out).1
          clear hHeld
          refine hK.out _ _ hS (fun hHeld => ?_)
          clear hK K
          try simp only [Act.put, List.setIfInBounds_toArray, List.set_cons_zero, List.set_cons_succ]
          clear hS
          refine wpAnyH_ready (rs := [9]) (by kernel_rfl) (by simp) ?_
          refine (AllReadyH.cons (o := o29_8_9) rfl (fun K hK => ?_) AllReadyH.nil)
          have x5 := xeQ_at HN7.out hr2
          go_simp
          clear x5
          have hS := (cellsX HX7.out).1
          clear hHeld
          refine hK.out _ _ hS (fun hHeld => ?_)
          clear hK K
          try simp only [Act.put, List.setIfInBounds_toArray, List.set_cons_zero, List.set_cons_succ]
          clear hS
          refine tkH (i := 10) (oi := o29_8_10) (v := ?v53) ?h53 hHeld ?r53
          case h53 => (intro w hSw; (try dsimp only at hSw); go_simp; try with_reducible rfl)
          try simp only [Act.put, List.setIfInBounds_toArray, List.set_cons_zero, List.set_cons_succ]
          refine wpAnyH_ready (rs := [11]) (by kernel_rfl) (by simp) ?_
          refine (AllReadyH.cons (o := o29_8_11) rfl (fun K hK => ?_) AllReadyH.nil)
          go_simp
          have hb := bel_alloc (W7) (.cells #[.int .i64 ((r1 : Int) - 1), .string (xeQ r2)] 33)
          obtain ⟨HA8, HX8, HG8⟩ := st3 HA7 HX7 HG7 hb
          have HN8 := hBox HN7 hb
          have HS := (show Hid (SrcR ((W7).alloc (.cells #[.int .i64 ((r1 : Int) - 1), .string (xeQ r2)] 33)) 33 2 (.slice (some ⟨(W7).heap.size, 0, none⟩) 1 1) 1 [.int .i64 ((r1 : Int) - 1), .string (xeQ r2)]) from src2 _ _ _ _)
          clear hb HA7 HX7 HG7 HN7
          have hS := (cellsX HX8.out).1
          clear hHeld
          refine hK.out _ _ hS (fun hHeld => ?_)
          clear hK K
          try simp only [Act.put, List.setIfInBounds_toArray, List.set_cons_zero, List.set_cons_succ]
          clear hS
          generalize (W7).alloc (.cells #[.int .i64 ((r1 : Int) - 1), .string (xeQ r2)] 33) = W8 at *
          generalize hga : (W7).heap.size = ga at *
          clear hga
          refine wpAnyH_ready (rs := [12]) (by kernel_rfl) (by simp) ?_
          refine (AllReadyH.cons (o := o29_8_12) rfl (fun K hK => ?_) AllReadyH.nil)
          refine stepS _ rfl (.tmp 35) (.tmp 45) rfl (by simp [Act.eval, Act.put]) HG8.out.r (by simp [Act.eval, Act.put]) HS.out (by omega) HA8.out.size ?_
          intro aN pN wN hown hgr hat
          obtain ⟨HA9, HX9, HG9⟩ := ap3 hlt HA8 HX8 HG8 ⟨(r1 : Int) - 1, xeQ r2⟩ (xeQ_size _) hown hgr hat (by omega)
          have HN9 := hBoxG HN8 HG8.out.r hgr (by decide)
          clear HS hown hgr hat HA8 HX8 HG8 HN8
          have hS := (cellsX HX9.out).1
          clear hHeld
          refine hK.out _ _ hS (fun hHeld => ?_)
          clear hK K
          try simp only [Act.put, List.setIfInBounds_toArray, List.set_cons_zero, List.set_cons_succ]
          clear hS
          refine tkH (i := 13) (oi := o29_8_13) (v := ?v54) ?h54 hHeld ?r54
          case h54 => (intro w hSw; (try dsimp only at hSw); go_simp; try with_reducible rfl)
          try simp only [Act.put, List.setIfInBounds_toArray, List.set_cons_zero, List.set_cons_succ]
          refine wpAnyH_ready (rs := [14]) (by kernel_rfl) (by simp) ?_
          refine (AllReadyH.cons (o := o29_8_14) rfl (fun K hK => ?_) AllReadyH.nil)
          obtain ⟨q0', q1', q2', q3'⟩ := cellsX HX9.out
          have f3 := HX9.out.frozen 3
          obtain ⟨HA10, HX10, HG10⟩ := so3 (.slice aN (G.refs.length + 1) pN) hlt (by omega) HA9 HX9 HG9
          have HN10 := hBoxP (o := 3) (u := (.slice aN (G.refs.length + 1) pN)) (q := w1.heap.size) HN9 (by omega)
          go_simp
          clear q0' q1' q2' q3' f3
          clear  HA9 HX9 HG9 HN9
          have hS := (cellsX HX10.out).1
          clear hHeld
          refine hK.out _ _ hS (fun hHeld => ?_)
          clear hK K
          try simp only [Act.put, List.setIfInBounds_toArray, List.set_cons_zero, List.set_cons_succ]
          refine wpAnyH_done (by kernel_rfl) ?_ _
          clear hS hHeld
          obtain ⟨q0, q1, q2, q3⟩ := cellsX HX10.out
          obtain ⟨z0, z1, z2, z3⟩ := cellsX HA10.out.bx
          have y0 := HA10.out.bx.frozen 0
          have y1 := HA10.out.bx.frozen 1
          have y2 := HA10.out.bx.frozen 2
          have y3 := HA10.out.bx.frozen 3
          have hz := HA10.out.size
          go_wp2_with fail
          refine bodyPost_ret (v := .agg #[.int .i64 sc, (.slice a1 G.edges.length p1), (.slice a2 G.decls.length p2), (.slice aN (G.refs.length + 1) pN)]) (by simp [results, Try.results29, go_sem, z0, z1, z2, z3, y0, y1, y2, y3]) rfl ?_
          rw [HSC.out]
          exact AtS.done (G := ⟨G.scopes, G.edges, G.decls, G.refs ++ [⟨(r1 : Int) - 1, xeQ r2⟩]⟩) HA10.out hlt HG10.out ⟨by (first | omega | (simp only [List.length_append, List.length_singleton]; omega)), by (first | omega | (simp only [List.length_append, List.length_singleton]; omega)), by (first | omega | (simp only [List.length_append, List.length_singleton]; omega))⟩
         ·
          have x5 := xeQ_at HN7.out hr2
          go_simp
          clear x5
          have hS := (cellsX HX7.out).1
          clear hHeld
          refine hK.out _ _ hS (fun hHeld => ?_)
          clear hK K
          try simp only [Act.put, List.setIfInBounds_toArray, List.set_cons_zero, List.set_cons_succ]
          clear hS
          refine tkH (i := 10) (oi := o29_8_10) (v := ?v55) ?h55 hHeld ?r55
          case h55 => (intro w hSw; (try dsimp only at hSw); go_simp; try with_reducible rfl)
          try simp only [Act.put, List.setIfInBounds_toArray, List.set_cons_zero, List.set_cons_succ]
          refine wpAnyH_ready (rs := [1, 11]) (by kernel_rfl) (by simp) ?_
          refine (AllReadyH.cons (o := o29_8_1) rfl (fun K hK => ?_) (AllReadyH.cons (o := o29_8_11) rfl (fun K hK => ?_) AllReadyH.nil))
          ·
           obtain ⟨q0', q1', q2', q3'⟩ := cellsX HX7.out
           go_simp
           clear q0' q1' q2' q3'
           have hS := (cellsX HX7.out).1
           clear hHeld
           refine hK.out _ _ hS (fun hHeld => ?_)
           clear hK K
           try simp only [Act.put, List.setIfInBounds_toArray, List.set_cons_zero, List.set_cons_succ]
           clear hS
           refine wpAnyH_ready (rs := [11]) (by kernel_rfl) (by simp) ?_
           refine (AllReadyH.cons (o := o29_8_11) rfl (fun K hK => ?_) AllReadyH.nil)
           go_simp
           have hb := bel_alloc (W7) (.cells #[.int .i64 ((r1 : Int) - 1), .string (xeQ r2)] 33)
           obtain ⟨HA8, HX8, HG8⟩ := st3 HA7 HX7 HG7 hb
           have HN8 := hBox HN7 hb
           have HS := (show Hid (SrcR ((W7).alloc (.cells #[.int .i64 ((r1 : Int) - 1), .string (xeQ r2)] 33)) 33 2 (.slice (some ⟨(W7).heap.size, 0, none⟩) 1 1) 1 [.int .i64 ((r1 : Int) - 1), .string (xeQ r2)]) from src2 _ _ _ _)
           clear hb HA7 HX7 HG7 HN7
           have hS := (cellsX HX8.out).1
           clear hHeld
           refine hK.out _ _ hS (fun hHeld => ?_)
           clear hK K
           try simp only [Act.put, List.setIfInBounds_toArray, List.set_cons_zero, List.set_cons_succ]
           clear hS
           generalize (W7).alloc (.cells #[.int .i64 ((r1 : Int) - 1), .string (xeQ r2)] 33) = W8 at *
           generalize hga : (W7).heap.size = ga at *
           clear hga
           refine wpAnyH_ready (rs := [12]) (by kernel_rfl) (by simp) ?_
           refine (AllReadyH.cons (o := o29_8_12) rfl (fun K hK => ?_) AllReadyH.nil)
           refine stepS _ rfl (.tmp 35) (.tmp 45) rfl (by simp [Act.eval, Act.put]) HG8.out.r (by simp [Act.eval, Act.put]) HS.out (by omega) HA8.out.size ?_
           intro aN pN wN hown hgr hat
           obtain ⟨HA9, HX9, HG9⟩ := ap3 hlt HA8 HX8 HG8 ⟨(r1 : Int) - 1, xeQ r2⟩ (xeQ_size _) hown hgr hat (by omega)
           have HN9 := hBoxG HN8 HG8.out.r hgr (by decide)
           clear HS hown hgr hat HA8 HX8 HG8 HN8
           have hS := (cellsX HX9.out).1
           clear hHeld
           refine hK.out _ _ hS (fun hHeld => ?_)
           clear hK K
           try simp only [Act.put, List.setIfInBounds_toArray, List.set_cons_zero, List.set_cons_succ]
           clear hS
           refine tkH (i := 13) (oi := o29_8_13) (v := ?v56) ?h56 hHeld ?r56
           case h56 => (intro w hSw; (try dsimp only at hSw); go_simp; try with_reducible rfl)
           try simp only [Act.put, List.setIfInBounds_toArray, List.set_cons_zero, List.set_cons_succ]
           refine wpAnyH_ready (rs := [14]) (by kernel_rfl) (by simp) ?_
           refine (AllReadyH.cons (o := o29_8_14) rfl (fun K hK => ?_) AllReadyH.nil)
           obtain ⟨q0', q1', q2', q3'⟩ := cellsX HX9.out
           have f3 := HX9.out.frozen 3
           obtain ⟨HA10, HX10, HG10⟩ := so3 (.slice aN (G.refs.length + 1) pN) hlt (by omega) HA9 HX9 HG9
           have HN10 := hBoxP (o := 3) (u := (.slice aN (G.refs.length + 1) pN)) (q := w1.heap.size) HN9 (by omega)
           go_simp
           clear q0' q1' q2' q3' f3
           clear  HA9 HX9 HG9 HN9
           have hS := (cellsX HX10.out).1
           clear hHeld
           refine hK.out _ _ hS (fun hHeld => ?_)
           clear hK K
           try simp only [Act.put, List.setIfInBounds_toArray, List.set_cons_zero, List.set_cons_succ]
           refine wpAnyH_done (by kernel_rfl) ?_ _
           clear hS hHeld
           obtain ⟨q0, q1, q2, q3⟩ := cellsX HX10.out
           obtain ⟨z0, z1, z2, z3⟩ := cellsX HA10.out.bx
           have y0 := HA10.out.bx.frozen 0
           have y1 := HA10.out.bx.frozen 1
           have y2 := HA10.out.bx.frozen 2
           have y3 := HA10.out.bx.frozen 3
           have hz := HA10.out.size
           go_wp2_with fail
           refine bodyPost_ret (v := .agg #[.int .i64 sc, (.slice a1 G.edges.length p1), (.slice a2 G.decls.length p2), (.slice aN (G.refs.length + 1) pN)]) (by simp [results, Try.results29, go_sem, z0, z1, z2, z3, y0, y1, y2, y3]) rfl ?_
           rw [HSC.out]
           exact AtS.done (G := ⟨G.scopes, G.edges, G.decls, G.refs ++ [⟨(r1 : Int) - 1, xeQ r2⟩]⟩) HA10.out hlt HG10.out ⟨by (first | omega | (simp only [List.length_append, List.length_singleton]; omega)), by (first | omega | (simp only [List.length_append, List.length_singleton]; omega)), by (first | omega | (simp only [List.length_append, List.length_singleton]; omega))⟩
          ·
           go_simp
           have hb := bel_alloc (W7) (.cells #[.int .i64 ((r1 : Int) - 1), .string (xeQ r2)] 33)
           obtain ⟨HA8, HX8, HG8⟩ := st3 HA7 HX7 HG7 hb
           have HN8 := hBox HN7 hb
           have HS := (show Hid (SrcR ((W7).alloc (.cells #[.int .i64 ((r1 : Int) - 1), .string (xeQ r2)] 33)) 33 2 (.slice (some ⟨(W7).heap.size, 0, none⟩) 1 1) 1 [.int .i64 ((r1 : Int) - 1), .string (xeQ r2)]) from src2 _ _ _ _)
           clear hb HA7 HX7 HG7 HN7
           have hS := (cellsX HX8.out).1
           clear hHeld
           refine hK.out _ _ hS (fun hHeld => ?_)
           clear hK K
           try simp only [Act.put, List.setIfInBounds_toArray, List.set_cons_zero, List.set_cons_succ]
           clear hS
           generalize (W7).alloc (.cells #[.int .i64 ((r1 : Int) - 1), .string (xeQ r2)] 33) = W8 at *
           generalize hga : (W7).heap.size = ga at *
           clear hga
           refine wpAnyH_ready (rs := [1]) (by kernel_rfl) (by simp) ?_
           refine (AllReadyH.cons (o := o29_8_1) rfl (fun K hK => ?_) AllReadyH.nil)
           obtain ⟨q0', q1', q2', q3'⟩ := cellsX HX8.out
           go_simp
           clear q0' q1' q2' q3'
           have hS := (cellsX HX8.out).1
           clear hHeld
           refine hK.out _ _ hS (fun hHeld => ?_)
           clear hK K
           try simp only [Act.put, List.setIfInBounds_toArray, List.set_cons_zero, List.set_cons_succ]
           clear hS
           refine wpAnyH_ready (rs := [12]) (by kernel_rfl) (by simp) ?_
           refine (AllReadyH.cons (o := o29_8_12) rfl (fun K hK => ?_) AllReadyH.nil)
           refine stepS _ rfl (.tmp 35) (.tmp 45) rfl (by simp [Act.eval, Act.put]) HG8.out.r (by simp [Act.eval, Act.put]) HS.out (by omega) HA8.out.size ?_
           intro aN pN wN hown hgr hat
           obtain ⟨HA9, HX9, HG9⟩ := ap3 hlt HA8 HX8 HG8 ⟨(r1 : Int) - 1, xeQ r2⟩ (xeQ_size _) hown hgr hat (by omega)
           have HN9 := hBoxG HN8 HG8.out.r hgr (by decide)
           clear HS hown hgr hat HA8 HX8 HG8 HN8
           have hS := (cellsX HX9.out).1
           clear hHeld
           refine hK.out _ _ hS (fun hHeld => ?_)
           clear hK K
           try simp only [Act.put, List.setIfInBounds_toArray, List.set_cons_zero, List.set_cons_succ]
           clear hS
           refine tkH (i := 13) (oi := o29_8_13) (v := ?v57) ?h57 hHeld ?r57
           case h57 => (intro w hSw; (try dsimp only at hSw); go_simp; try with_reducible rfl)
           try simp only [Act.put, List.setIfInBounds_toArray, List.set_cons_zero, List.set_cons_succ]
           refine wpAnyH_ready (rs := [14]) (by kernel_rfl) (by simp) ?_
           refine (AllReadyH.cons (o := o29_8_14) rfl (fun K hK => ?_) AllReadyH.nil)
           obtain ⟨q0', q1', q2', q3'⟩ := cellsX HX9.out
           have f3 := HX9.out.frozen 3
           obtain ⟨HA10, HX10, HG10⟩ := so3 (.slice aN (G.refs.length + 1) pN) hlt (by omega) HA9 HX9 HG9
           have HN10 := hBoxP (o := 3) (u := (.slice aN (G.refs.length + 1) pN)) (q := w1.heap.size) HN9 (by omega)
           go_simp
           clear q0' q1' q2' q3' f3
           clear  HA9 HX9 HG9 HN9
           have hS := (cellsX HX10.out).1
           clear hHeld
           refine hK.out _ _ hS (fun hHeld => ?_)
           clear hK K
           try simp only [Act.put, List.setIfInBounds_toArray, List.set_cons_zero, List.set_cons_succ]
           refine wpAnyH_done (by kernel_rfl) ?_ _
           clear hS hHeld
           obtain ⟨q0, q1, q2, q3⟩ := cellsX HX10.out
           obtain ⟨z0, z1, z2, z3⟩ := cellsX HA10.out.bx
           have y0 := HA10.out.bx.frozen 0
           have y1 := HA10.out.bx.frozen 1
           have y2 := HA10.out.bx.frozen 2
           have y3 := HA10.out.bx.frozen 3
           have hz := HA10.out.size
           go_wp2_with fail
           refine bodyPost_ret (v := .agg #[.int .i64 sc, (.slice a1 G.edges.length p1), (.slice a2 G.decls.length p2), (.slice aN (G.refs.length + 1) pN)]) (by simp [results, Try.results29, go_sem, z0, z1, z2, z3, y0, y1, y2, y3]) rfl ?_
           rw [HSC.out]
           exact AtS.done (G := ⟨G.scopes, G.edges, G.decls, G.refs ++ [⟨(r1 : Int) - 1, xeQ r2⟩]⟩) HA10.out hlt HG10.out ⟨by (first | omega | (simp only [List.length_append, List.length_singleton]; omega)), by (first | omega | (simp only [List.length_append, List.length_singleton]; omega)), by (first | omega | (simp only [List.length_append, List.length_singleton]; omega))⟩
      ·
       go_simp
       have hb := bel_alloc (WR) (.cells #[.string ⟨#[120]⟩, .string ⟨#[]⟩] 9)
       obtain ⟨HA5, HX5, HG5⟩ := st3 HA4 HX4 HG4 hb
       have HT := (show Hid (Box ((WR).alloc (.cells #[.string ⟨#[120]⟩, .string ⟨#[]⟩] 9)) (WR).heap.size 9 [.string ⟨#[120]⟩, .string ⟨#[]⟩]) from Box.new _ 9 [.string ⟨#[120]⟩, .string ⟨#[]⟩])
       have hgn : w.heap.size + 1 ≤ (WR).heap.size := HA4.out.size
       have hgx : w1.heap.size < (WR).heap.size := HX4.out.lt
       clear hb HA4 HX4 HG4
       have hS := (cellsX HX5.out).1
       clear hHeld
       refine hK.out _ _ hS (fun hHeld => ?_)
       clear hK K
       try simp only [Act.put, List.setIfInBounds_toArray, List.set_cons_zero, List.set_cons_succ]
       clear hS
       generalize (WR).alloc (.cells #[.string ⟨#[120]⟩, .string ⟨#[]⟩] 9) = W5 at *
       generalize hgn0 : (WR).heap.size = gn at *
       clear hgn0
       have HN5 := HT
       clear HT
       refine wpAnyH_ready (rs := [1, 3]) (by kernel_rfl) (by simp) ?_
       refine (AllReadyH.cons (o := o29_8_1) rfl (fun K hK => ?_) (AllReadyH.cons (o := o29_8_3) rfl (fun K hK => ?_) AllReadyH.nil))
       ·
        obtain ⟨q0', q1', q2', q3'⟩ := cellsX HX5.out
        go_simp
        clear q0' q1' q2' q3'
        have hS := (cellsX HX5.out).1
        clear hHeld
        refine hK.out _ _ hS (fun hHeld => ?_)
        clear hK K
        try simp only [Act.put, List.setIfInBounds_toArray, List.set_cons_zero, List.set_cons_succ]
        clear hS
        refine wpAnyH_ready (rs := [3]) (by kernel_rfl) (by simp) ?_
        refine (AllReadyH.cons (o := o29_8_3) rfl (fun K hK => ?_) AllReadyH.nil)
        obtain ⟨s6, hs6⟩ := HA5.out.cu
        go_simp
        go_at_call 30
        refine Calls.mono (pickE 9 _ hs6 (by decide)) ?_
        rintro e v6 ⟨r1, t6, rfl, hr1, hO, hC⟩
        obtain ⟨HA6, HX6, HG6⟩ := pk3 hlt HA5 HX5 HG5 hO hC (by omega)
        have HN6 := hBoxO HN5 hO (by omega)
        clear hO hC hs6 HA5 HX5 HG5 HN5
        have hr1 : r1 < 9 := hr1 (by omega)
        have hr1i : (r1 : Int) < 9 := by omega
        have hwr1 : IntKind.i64.wrap ((r1 : Int) - 1) = (r1 : Int) - 1 := by simp [IntKind.wrap, IntKind.bits, IntKind.signed]; omega
        have hS := (cellsX HX6.out).1
        clear hHeld
        refine hK.out _ _ hS (fun hHeld => ?_)
        clear hK K
        try simp only [Act.put, List.setIfInBounds_toArray, List.set_cons_zero, List.set_cons_succ]
        clear hS
        refine tkH (i := 4) (oi := o29_8_4) (v := ?v58) ?h58 hHeld ?r58
        case h58 => (intro w hSw; (try dsimp only at hSw); go_simp; try with_reducible rfl)
        try simp only [Act.put, List.setIfInBounds_toArray, List.set_cons_zero, List.set_cons_succ]
        refine wpAnyH_ready (rs := [7]) (by kernel_rfl) (by simp) ?_
        refine (AllReadyH.cons (o := o29_8_7) rfl (fun K hK => ?_) AllReadyH.nil)
        obtain ⟨s7, hs7⟩ := HA6.out.cu
        go_simp
        go_at_call 30
        refine Calls.mono (pickE 2 _ hs7 (by decide)) ?_
        rintro e v7 ⟨r2, t7, rfl, hr2, hO, hC⟩
        obtain ⟨HA7, HX7, HG7⟩ := pk3 hlt HA6 HX6 HG6 hO hC (by omega)
        have HN7 := hBoxO HN6 hO (by omega)
        clear hO hC hs7 HA6 HX6 HG6 HN6
        have hr2 : r2 < 2 := hr2 (by omega)
        have hr2i : (r2 : Int) < 2 := by omega
        have hS := (cellsX HX7.out).1
        clear hHeld
        refine hK.out _ _ hS (fun hHeld => ?_)
        clear hK K
        try simp only [Act.put, List.setIfInBounds_toArray, List.set_cons_zero, List.set_cons_succ]
        clear hS
        refine tkH (i := 8) (oi := o29_8_8) (v := ?v59) ?h59 hHeld ?r59
        case h59 => (intro w hSw; (try dsimp only at hSw); go_simp; try with_reducible rfl)
        try simp only [Act.put, List.setIfInBounds_toArray, List.set_cons_zero, List.set_cons_succ]
        refine wpAnyH_ready (rs := [9]) (by kernel_rfl) (by simp) ?_
        refine (AllReadyH.cons (o := o29_8_9) rfl (fun K hK => ?_) AllReadyH.nil)
        have x5 := xeQ_at HN7.out hr2
        go_simp
        clear x5
        have hS := (cellsX HX7.out).1
        clear hHeld
        refine hK.out _ _ hS (fun hHeld => ?_)
        clear hK K
        try simp only [Act.put, List.setIfInBounds_toArray, List.set_cons_zero, List.set_cons_succ]
        clear hS
        refine tkH (i := 10) (oi := o29_8_10) (v := ?v60) ?h60 hHeld ?r60
        case h60 => (intro w hSw; (try dsimp only at hSw); go_simp; try with_reducible rfl)
        try simp only [Act.put, List.setIfInBounds_toArray, List.set_cons_zero, List.set_cons_succ]
        refine wpAnyH_ready (rs := [11]) (by kernel_rfl) (by simp) ?_
        refine (AllReadyH.cons (o := o29_8_11) rfl (fun K hK => ?_) AllReadyH.nil)
        go_simp
        have hb := bel_alloc (v7) (.cells #[.int .i64 ((r1 : Int) - 1), .string (xeQ r2)] 33)
        obtain ⟨HA8, HX8, HG8⟩ := st3 HA7 HX7 HG7 hb
        have HN8 := hBox HN7 hb
        have HS := (show Hid (SrcR ((v7).alloc (.cells #[.int .i64 ((r1 : Int) - 1), .string (xeQ r2)] 33)) 33 2 (.slice (some ⟨(v7).heap.size, 0, none⟩) 1 1) 1 [.int .i64 ((r1 : Int) - 1), .string (xeQ r2)]) from src2 _ _ _ _)
        clear hb HA7 HX7 HG7 HN7
        have hS := (cellsX HX8.out).1
        clear hHeld
        refine hK.out _ _ hS (fun hHeld => ?_)
        clear hK K
        try simp only [Act.put, List.setIfInBounds_toArray, List.set_cons_zero, List.set_cons_succ]
        clear hS
        generalize (v7).alloc (.cells #[.int .i64 ((r1 : Int) - 1), .string (xeQ r2)] 33) = W8 at *
        generalize hga : (v7).heap.size = ga at *
        clear hga
        refine wpAnyH_ready (rs := [12]) (by kernel_rfl) (by simp) ?_
        refine (AllReadyH.cons (o := o29_8_12) rfl (fun K hK => ?_) AllReadyH.nil)
        refine stepS _ rfl (.tmp 35) (.tmp 45) rfl (by simp [Act.eval, Act.put]) HG8.out.r (by simp [Act.eval, Act.put]) HS.out (by omega) HA8.out.size ?_
        intro aN pN wN hown hgr hat
        obtain ⟨HA9, HX9, HG9⟩ := ap3 hlt HA8 HX8 HG8 ⟨(r1 : Int) - 1, xeQ r2⟩ (xeQ_size _) hown hgr hat (by omega)
        have HN9 := hBoxG HN8 HG8.out.r hgr (by decide)
        clear HS hown hgr hat HA8 HX8 HG8 HN8
        have hS := (cellsX HX9.out).1
        clear hHeld
        refine hK.out _ _ hS (fun hHeld => ?_)
        clear hK K
        try simp only [Act.put, List.setIfInBounds_toArray, List.set_cons_zero, List.set_cons_succ]
        clear hS
        refine tkH (i := 13) (oi := o29_8_13) (v := ?v61) ?h61 hHeld ?r61
        case h61 => (intro w hSw; (try dsimp only at hSw); go_simp; try with_reducible rfl)
        try simp only [Act.put, List.setIfInBounds_toArray, List.set_cons_zero, List.set_cons_succ]
        refine wpAnyH_ready (rs := [14]) (by kernel_rfl) (by simp) ?_
        refine (AllReadyH.cons (o := o29_8_14) rfl (fun K hK => ?_) AllReadyH.nil)
        obtain ⟨q0', q1', q2', q3'⟩ := cellsX HX9.out
        have f3 := HX9.out.frozen 3
        obtain ⟨HA10, HX10, HG10⟩ := so3 (.slice aN (G.refs.length + 1) pN) hlt (by omega) HA9 HX9 HG9
        have HN10 := hBoxP (o := 3) (u := (.slice aN (G.refs.length + 1) pN)) (q := w1.heap.size) HN9 (by omega)
        go_simp
        clear q0' q1' q2' q3' f3
        clear  HA9 HX9 HG9 HN9
        have hS := (cellsX HX10.out).1
        clear hHeld
        refine hK.out _ _ hS (fun hHeld => ?_)
        clear hK K
        try simp only [Act.put, List.setIfInBounds_toArray, List.set_cons_zero, List.set_cons_succ]
        refine wpAnyH_done (by kernel_rfl) ?_ _
        clear hS hHeld
        obtain ⟨q0, q1, q2, q3⟩ := cellsX HX10.out
        obtain ⟨z0, z1, z2, z3⟩ := cellsX HA10.out.bx
        have y0 := HA10.out.bx.frozen 0
        have y1 := HA10.out.bx.frozen 1
        have y2 := HA10.out.bx.frozen 2
        have y3 := HA10.out.bx.frozen 3
        have hz := HA10.out.size
        go_wp2_with fail
        refine bodyPost_ret (v := .agg #[.int .i64 sc, (.slice a1 G.edges.length p1), (.slice a2 G.decls.length p2), (.slice aN (G.refs.length + 1) pN)]) (by simp [results, Try.results29, go_sem, z0, z1, z2, z3, y0, y1, y2, y3]) rfl ?_
        rw [HSC.out]
        exact AtS.done (G := ⟨G.scopes, G.edges, G.decls, G.refs ++ [⟨(r1 : Int) - 1, xeQ r2⟩]⟩) HA10.out hlt HG10.out ⟨by (first | omega | (simp only [List.length_append, List.length_singleton]; omega)), by (first | omega | (simp only [List.length_append, List.length_singleton]; omega)), by (first | omega | (simp only [List.length_append, List.length_singleton]; omega))⟩
       ·
        obtain ⟨s6, hs6⟩ := HA5.out.cu
        go_simp
        go_at_call 30
        refine Calls.mono (pickE 9 _ hs6 (by decide)) ?_
        rintro e v6 ⟨r1, t6, rfl, hr1, hO, hC⟩
        obtain ⟨HA6, HX6, HG6⟩ := pk3 hlt HA5 HX5 HG5 hO hC (by omega)
        have HN6 := hBoxO HN5 hO (by omega)
        clear hO hC hs6 HA5 HX5 HG5 HN5
        have hr1 : r1 < 9 := hr1 (by omega)
        have hr1i : (r1 : Int) < 9 := by omega
        have hwr1 : IntKind.i64.wrap ((r1 : Int) - 1) = (r1 : Int) - 1 := by simp [IntKind.wrap, IntKind.bits, IntKind.signed]; omega
        have hS := (cellsX HX6.out).1
        clear hHeld
        refine hK.out _ _ hS (fun hHeld => ?_)
        clear hK K
        try simp only [Act.put, List.setIfInBounds_toArray, List.set_cons_zero, List.set_cons_succ]
        clear hS
        refine tkH (i := 4) (oi := o29_8_4) (v := ?v62) ?h62 hHeld ?r62
        case h62 => (intro w hSw; (try dsimp only at hSw); go_simp; try with_reducible rfl)
        try simp only [Act.put, List.setIfInBounds_toArray, List.set_cons_zero, List.set_cons_succ]
        refine wpAnyH_ready (rs := [1, 7]) (by kernel_rfl) (by simp) ?_
        refine (AllReadyH.cons (o := o29_8_1) rfl (fun K hK => ?_) (AllReadyH.cons (o := o29_8_7) rfl (fun K hK => ?_) AllReadyH.nil))
        ·
         obtain ⟨q0', q1', q2', q3'⟩ := cellsX HX6.out
         go_simp
         clear q0' q1' q2' q3'
         have hS := (cellsX HX6.out).1
         clear hHeld
         refine hK.out _ _ hS (fun hHeld => ?_)
         clear hK K
         try simp only [Act.put, List.setIfInBounds_toArray, List.set_cons_zero, List.set_cons_succ]
         clear hS
         refine wpAnyH_ready (rs := [7]) (by kernel_rfl) (by simp) ?_
         refine (AllReadyH.cons (o := o29_8_7) rfl (fun K hK => ?_) AllReadyH.nil)
         obtain ⟨s7, hs7⟩ := HA6.out.cu
         go_simp
         go_at_call 30
         refine Calls.mono (pickE 2 _ hs7 (by decide)) ?_
         rintro e v7 ⟨r2, t7, rfl, hr2, hO, hC⟩
         obtain ⟨HA7, HX7, HG7⟩ := pk3 hlt HA6 HX6 HG6 hO hC (by omega)
         have HN7 := hBoxO HN6 hO (by omega)
         clear hO hC hs7 HA6 HX6 HG6 HN6
         have hr2 : r2 < 2 := hr2 (by omega)
         have hr2i : (r2 : Int) < 2 := by omega
         have hS := (cellsX HX7.out).1
         clear hHeld
         refine hK.out _ _ hS (fun hHeld => ?_)
         clear hK K
         try simp only [Act.put, List.setIfInBounds_toArray, List.set_cons_zero, List.set_cons_succ]
         clear hS
         refine tkH (i := 8) (oi := o29_8_8) (v := ?v63) ?h63 hHeld ?r63
         case h63 => (intro w hSw; (try dsimp only at hSw); go_simp; try with_reducible rfl)
         try simp only [Act.put, List.setIfInBounds_toArray, List.set_cons_zero, List.set_cons_succ]
         refine wpAnyH_ready (rs := [9]) (by kernel_rfl) (by simp) ?_
         refine (AllReadyH.cons (o := o29_8_9) rfl (fun K hK => ?_) AllReadyH.nil)
         have x5 := xeQ_at HN7.out hr2
         go_simp
         clear x5
         have hS := (cellsX HX7.out).1
         clear hHeld
         refine hK.out _ _ hS (fun hHeld => ?_)
         clear hK K
         try simp only [Act.put, List.setIfInBounds_toArray, List.set_cons_zero, List.set_cons_succ]
         clear hS
         refine tkH (i := 10) (oi := o29_8_10) (v := ?v64) ?h64 hHeld ?r64
         case h64 => (intro w hSw; (try dsimp only at hSw); go_simp; try with_reducible rfl)
         try simp only [Act.put, List.setIfInBounds_toArray, List.set_cons_zero, List.set_cons_succ]
         refine wpAnyH_ready (rs := [11]) (by kernel_rfl) (by simp) ?_
         refine (AllReadyH.cons (o := o29_8_11) rfl (fun K hK => ?_) AllReadyH.nil)
         go_simp
         have hb := bel_alloc (v7) (.cells #[.int .i64 ((r1 : Int) - 1), .string (xeQ r2)] 33)
         obtain ⟨HA8, HX8, HG8⟩ := st3 HA7 HX7 HG7 hb
         have HN8 := hBox HN7 hb
         have HS := (show Hid (SrcR ((v7).alloc (.cells #[.int .i64 ((r1 : Int) - 1), .string (xeQ r2)] 33)) 33 2 (.slice (some ⟨(v7).heap.size, 0, none⟩) 1 1) 1 [.int .i64 ((r1 : Int) - 1), .string (xeQ r2)]) from src2 _ _ _ _)
         clear hb HA7 HX7 HG7 HN7
         have hS := (cellsX HX8.out).1
         clear hHeld
         refine hK.out _ _ hS (fun hHeld => ?_)
         clear hK K
         try simp only [Act.put, List.setIfInBounds_toArray, List.set_cons_zero, List.set_cons_succ]
         clear hS
         generalize (v7).alloc (.cells #[.int .i64 ((r1 : Int) - 1), .string (xeQ r2)] 33) = W8 at *
         generalize hga : (v7).heap.size = ga at *
         clear hga
         refine wpAnyH_ready (rs := [12]) (by kernel_rfl) (by simp) ?_
         refine (AllReadyH.cons (o := o29_8_12) rfl (fun K hK => ?_) AllReadyH.nil)
         refine stepS _ rfl (.tmp 35) (.tmp 45) rfl (by simp [Act.eval, Act.put]) HG8.out.r (by simp [Act.eval, Act.put]) HS.out (by omega) HA8.out.size ?_
         intro aN pN wN hown hgr hat
         obtain ⟨HA9, HX9, HG9⟩ := ap3 hlt HA8 HX8 HG8 ⟨(r1 : Int) - 1, xeQ r2⟩ (xeQ_size _) hown hgr hat (by omega)
         have HN9 := hBoxG HN8 HG8.out.r hgr (by decide)
         clear HS hown hgr hat HA8 HX8 HG8 HN8
         have hS := (cellsX HX9.out).1
         clear hHeld
         refine hK.out _ _ hS (fun hHeld => ?_)
         clear hK K
         try simp only [Act.put, List.setIfInBounds_toArray, List.set_cons_zero, List.set_cons_succ]
         clear hS
         refine tkH (i := 13) (oi := o29_8_13) (v := ?v65) ?h65 hHeld ?r65
         case h65 => (intro w hSw; (try dsimp only at hSw); go_simp; try with_reducible rfl)
         try simp only [Act.put, List.setIfInBounds_toArray, List.set_cons_zero, List.set_cons_succ]
         refine wpAnyH_ready (rs := [14]) (by kernel_rfl) (by simp) ?_
         refine (AllReadyH.cons (o := o29_8_14) rfl (fun K hK => ?_) AllReadyH.nil)
         obtain ⟨q0', q1', q2', q3'⟩ := cellsX HX9.out
         have f3 := HX9.out.frozen 3
         obtain ⟨HA10, HX10, HG10⟩ := so3 (.slice aN (G.refs.length + 1) pN) hlt (by omega) HA9 HX9 HG9
         have HN10 := hBoxP (o := 3) (u := (.slice aN (G.refs.length + 1) pN)) (q := w1.heap.size) HN9 (by omega)
         go_simp
         clear q0' q1' q2' q3' f3
         clear  HA9 HX9 HG9 HN9
         have hS := (cellsX HX10.out).1
         clear hHeld
         refine hK.out _ _ hS (fun hHeld => ?_)
         clear hK K
         try simp only [Act.put, List.setIfInBounds_toArray, List.set_cons_zero, List.set_cons_succ]
         refine wpAnyH_done (by kernel_rfl) ?_ _
         clear hS hHeld
         obtain ⟨q0, q1, q2, q3⟩ := cellsX HX10.out
         obtain ⟨z0, z1, z2, z3⟩ := cellsX HA10.out.bx
         have y0 := HA10.out.bx.frozen 0
         have y1 := HA10.out.bx.frozen 1
         have y2 := HA10.out.bx.frozen 2
         have y3 := HA10.out.bx.frozen 3
         have hz := HA10.out.size
         go_wp2_with fail
         refine bodyPost_ret (v := .agg #[.int .i64 sc, (.slice a1 G.edges.length p1), (.slice a2 G.decls.length p2), (.slice aN (G.refs.length + 1) pN)]) (by simp [results, Try.results29, go_sem, z0, z1, z2, z3, y0, y1, y2, y3]) rfl ?_
         rw [HSC.out]
         exact AtS.done (G := ⟨G.scopes, G.edges, G.decls, G.refs ++ [⟨(r1 : Int) - 1, xeQ r2⟩]⟩) HA10.out hlt HG10.out ⟨by (first | omega | (simp only [List.length_append, List.length_singleton]; omega)), by (first | omega | (simp only [List.length_append, List.length_singleton]; omega)), by (first | omega | (simp only [List.length_append, List.length_singleton]; omega))⟩
        ·
         obtain ⟨s7, hs7⟩ := HA6.out.cu
         go_simp
         go_at_call 30
         refine Calls.mono (pickE 2 _ hs7 (by decide)) ?_
         rintro e v7 ⟨r2, t7, rfl, hr2, hO, hC⟩
         obtain ⟨HA7, HX7, HG7⟩ := pk3 hlt HA6 HX6 HG6 hO hC (by omega)
         have HN7 := hBoxO HN6 hO (by omega)
         clear hO hC hs7 HA6 HX6 HG6 HN6
         have hr2 : r2 < 2 := hr2 (by omega)
         have hr2i : (r2 : Int) < 2 := by omega
         have hS := (cellsX HX7.out).1
         clear hHeld
         refine hK.out _ _ hS (fun hHeld => ?_)
         clear hK K
         try simp only [Act.put, List.setIfInBounds_toArray, List.set_cons_zero, List.set_cons_succ]
         clear hS
         refine tkH (i := 8) (oi := o29_8_8) (v := ?v66) ?h66 hHeld ?r66
         case h66 => (intro w hSw; (try dsimp only at hSw); go_simp; try with_reducible rfl)
         try simp only [Act.put, List.setIfInBounds_toArray, List.set_cons_zero, List.set_cons_succ]
         refine wpAnyH_ready (rs := [1, 9]) (by kernel_rfl) (by simp) ?_
         refine (AllReadyH.cons (o := o29_8_1) rfl (fun K hK => ?_) (AllReadyH.cons (o := o29_8_9) rfl (fun K hK => ?_) AllReadyH.nil))
         ·
          obtain ⟨q0', q1', q2', q3'⟩ := cellsX HX7.out
          go_simp
          clear q0' q1' q2' q3'
          have hS := (cellsX HX7.out).1
          clear hHeld
          refine hK.out _ _ hS (fun hHeld => ?_)
          clear hK K
          try simp only [Act.put, List.setIfInBounds_toArray, List.set_cons_zero, List.set_cons_succ]
          clear hS
          refine wpAnyH_ready (rs := [9]) (by kernel_rfl) (by simp) ?_
          refine (AllReadyH.cons (o := o29_8_9) rfl (fun K hK => ?_) AllReadyH.nil)
          have x5 := xeQ_at HN7.out hr2
          go_simp
          clear x5
          have hS := (cellsX HX7.out).1
          clear hHeld
          refine hK.out _ _ hS (fun hHeld => ?_)
          clear hK K
          try simp only [Act.put, List.setIfInBounds_toArray, List.set_cons_zero, List.set_cons_succ]
          clear hS
          refine tkH (i := 10) (oi := o29_8_10) (v := ?v67) ?h67 hHeld ?r67
          case h67 => (intro w hSw; (try dsimp only at hSw); go_simp; try with_reducible rfl)
          try simp only [Act.put, List.setIfInBounds_toArray, List.set_cons_zero, List.set_cons_succ]
          refine wpAnyH_ready (rs := [11]) (by kernel_rfl) (by simp) ?_
          refine (AllReadyH.cons (o := o29_8_11) rfl (fun K hK => ?_) AllReadyH.nil)
          go_simp
          have hb := bel_alloc (v7) (.cells #[.int .i64 ((r1 : Int) - 1), .string (xeQ r2)] 33)
          obtain ⟨HA8, HX8, HG8⟩ := st3 HA7 HX7 HG7 hb
          have HN8 := hBox HN7 hb
          have HS := (show Hid (SrcR ((v7).alloc (.cells #[.int .i64 ((r1 : Int) - 1), .string (xeQ r2)] 33)) 33 2 (.slice (some ⟨(v7).heap.size, 0, none⟩) 1 1) 1 [.int .i64 ((r1 : Int) - 1), .string (xeQ r2)]) from src2 _ _ _ _)
          clear hb HA7 HX7 HG7 HN7
          have hS := (cellsX HX8.out).1
          clear hHeld
          refine hK.out _ _ hS (fun hHeld => ?_)
          clear hK K
          try simp only [Act.put, List.setIfInBounds_toArray, List.set_cons_zero, List.set_cons_succ]
          clear hS
          generalize (v7).alloc (.cells #[.int .i64 ((r1 : Int) - 1), .string (xeQ r2)] 33) = W8 at *
          generalize hga : (v7).heap.size = ga at *
          clear hga
          refine wpAnyH_ready (rs := [12]) (by kernel_rfl) (by simp) ?_
          refine (AllReadyH.cons (o := o29_8_12) rfl (fun K hK => ?_) AllReadyH.nil)
          refine stepS _ rfl (.tmp 35) (.tmp 45) rfl (by simp [Act.eval, Act.put]) HG8.out.r (by simp [Act.eval, Act.put]) HS.out (by omega) HA8.out.size ?_
          intro aN pN wN hown hgr hat
          obtain ⟨HA9, HX9, HG9⟩ := ap3 hlt HA8 HX8 HG8 ⟨(r1 : Int) - 1, xeQ r2⟩ (xeQ_size _) hown hgr hat (by omega)
          have HN9 := hBoxG HN8 HG8.out.r hgr (by decide)
          clear HS hown hgr hat HA8 HX8 HG8 HN8
          have hS := (cellsX HX9.out).1
          clear hHeld
          refine hK.out _ _ hS (fun hHeld => ?_)
          clear hK K
          try simp only [Act.put, List.setIfInBounds_toArray, List.set_cons_zero, List.set_cons_succ]
          clear hS
          refine tkH (i := 13) (oi := o29_8_13) (v := ?v68) ?h68 hHeld ?r68
          case h68 => (intro w hSw; (try dsimp only at hSw); go_simp; try with_reducible rfl)
          try simp only [Act.put, List.setIfInBounds_toArray, List.set_cons_zero, List.set_cons_succ]
          refine wpAnyH_ready (rs := [14]) (by kernel_rfl) (by simp) ?_
          refine (AllReadyH.cons (o := o29_8_14) rfl (fun K hK => ?_) AllReadyH.nil)
          obtain ⟨q0', q1', q2', q3'⟩ := cellsX HX9.out
          have f3 := HX9.out.frozen 3
          obtain ⟨HA10, HX10, HG10⟩ := so3 (.slice aN (G.refs.length + 1) pN) hlt (by omega) HA9 HX9 HG9
          have HN10 := hBoxP (o := 3) (u := (.slice aN (G.refs.length + 1) pN)) (q := w1.heap.size) HN9 (by omega)
          go_simp
          clear q0' q1' q2' q3' f3
          clear  HA9 HX9 HG9 HN9
          have hS := (cellsX HX10.out).1
          clear hHeld
          refine hK.out _ _ hS (fun hHeld => ?_)
          clear hK K
          try simp only [Act.put, List.setIfInBounds_toArray, List.set_cons_zero, List.set_cons_succ]
          refine wpAnyH_done (by kernel_rfl) ?_ _
          clear hS hHeld
          obtain ⟨q0, q1, q2, q3⟩ := cellsX HX10.out
          obtain ⟨z0, z1, z2, z3⟩ := cellsX HA10.out.bx
          have y0 := HA10.out.bx.frozen 0
          have y1 := HA10.out.bx.frozen 1
          have y2 := HA10.out.bx.frozen 2
          have y3 := HA10.out.bx.frozen 3
          have hz := HA10.out.size
          go_wp2_with fail
          refine bodyPost_ret (v := .agg #[.int .i64 sc, (.slice a1 G.edges.length p1), (.slice a2 G.decls.length p2), (.slice aN (G.refs.length + 1) pN)]) (by simp [results, Try.results29, go_sem, z0, z1, z2, z3, y0, y1, y2, y3]) rfl ?_
          rw [HSC.out]
          exact AtS.done (G := ⟨G.scopes, G.edges, G.decls, G.refs ++ [⟨(r1 : Int) - 1, xeQ r2⟩]⟩) HA10.out hlt HG10.out ⟨by (first | omega | (simp only [List.length_append, List.length_singleton]; omega)), by (first | omega | (simp only [List.length_append, List.length_singleton]; omega)), by (first | omega | (simp only [List.length_append, List.length_singleton]; omega))⟩
         ·
          have x5 := xeQ_at HN7.out hr2
          go_simp
          clear x5
          have hS := (cellsX HX7.out).1
          clear hHeld
          refine hK.out _ _ hS (fun hHeld => ?_)
          clear hK K
          try simp only [Act.put, List.setIfInBounds_toArray, List.set_cons_zero, List.set_cons_succ]
          clear hS
          refine tkH (i := 10) (oi := o29_8_10) (v := ?v69) ?h69 hHeld ?r69
          case h69 => (intro w hSw; (try dsimp only at hSw); go_simp; try with_reducible rfl)
          try simp only [Act.put, List.setIfInBounds_toArray, List.set_cons_zero, List.set_cons_succ]
          refine wpAnyH_ready (rs := [1, 11]) (by kernel_rfl) (by simp) ?_
          refine (AllReadyH.cons (o := o29_8_1) rfl (fun K hK => ?_) (AllReadyH.cons (o := o29_8_11) rfl (fun K hK => ?_) AllReadyH.nil))
          ·
           obtain ⟨q0', q1', q2', q3'⟩ := cellsX HX7.out
           go_simp
           clear q0' q1' q2' q3'
           have hS := (cellsX HX7.out).1
           clear hHeld
           refine hK.out _ _ hS (fun hHeld => ?_)
           clear hK K
           try simp only [Act.put, List.setIfInBounds_toArray, List.set_cons_zero, List.set_cons_succ]
           clear hS
           refine wpAnyH_ready (rs := [11]) (by kernel_rfl) (by simp) ?_
           refine (AllReadyH.cons (o := o29_8_11) rfl (fun K hK => ?_) AllReadyH.nil)
           go_simp
           have hb := bel_alloc (v7) (.cells #[.int .i64 ((r1 : Int) - 1), .string (xeQ r2)] 33)
           obtain ⟨HA8, HX8, HG8⟩ := st3 HA7 HX7 HG7 hb
           have HN8 := hBox HN7 hb
           have HS := (show Hid (SrcR ((v7).alloc (.cells #[.int .i64 ((r1 : Int) - 1), .string (xeQ r2)] 33)) 33 2 (.slice (some ⟨(v7).heap.size, 0, none⟩) 1 1) 1 [.int .i64 ((r1 : Int) - 1), .string (xeQ r2)]) from src2 _ _ _ _)
           clear hb HA7 HX7 HG7 HN7
           have hS := (cellsX HX8.out).1
           clear hHeld
           refine hK.out _ _ hS (fun hHeld => ?_)
           clear hK K
           try simp only [Act.put, List.setIfInBounds_toArray, List.set_cons_zero, List.set_cons_succ]
           clear hS
           generalize (v7).alloc (.cells #[.int .i64 ((r1 : Int) - 1), .string (xeQ r2)] 33) = W8 at *
           generalize hga : (v7).heap.size = ga at *
           clear hga
           refine wpAnyH_ready (rs := [12]) (by kernel_rfl) (by simp) ?_
           refine (AllReadyH.cons (o := o29_8_12) rfl (fun K hK => ?_) AllReadyH.nil)
           refine stepS _ rfl (.tmp 35) (.tmp 45) rfl (by simp [Act.eval, Act.put]) HG8.out.r (by simp [Act.eval, Act.put]) HS.out (by omega) HA8.out.size ?_
           intro aN pN wN hown hgr hat
           obtain ⟨HA9, HX9, HG9⟩ := ap3 hlt HA8 HX8 HG8 ⟨(r1 : Int) - 1, xeQ r2⟩ (xeQ_size _) hown hgr hat (by omega)
           have HN9 := hBoxG HN8 HG8.out.r hgr (by decide)
           clear HS hown hgr hat HA8 HX8 HG8 HN8
           have hS := (cellsX HX9.out).1
           clear hHeld
           refine hK.out _ _ hS (fun hHeld => ?_)
           clear hK K
           try simp only [Act.put, List.setIfInBounds_toArray, List.set_cons_zero, List.set_cons_succ]
           clear hS
           refine tkH (i := 13) (oi := o29_8_13) (v := ?v70) ?h70 hHeld ?r70
           case h70 => (intro w hSw; (try dsimp only at hSw); go_simp; try with_reducible rfl)
           try simp only [Act.put, List.setIfInBounds_toArray, List.set_cons_zero, List.set_cons_succ]
           refine wpAnyH_ready (rs := [14]) (by kernel_rfl) (by simp) ?_
           refine (AllReadyH.cons (o := o29_8_14) rfl (fun K hK => ?_) AllReadyH.nil)
           obtain ⟨q0', q1', q2', q3'⟩ := cellsX HX9.out
           have f3 := HX9.out.frozen 3
           obtain ⟨HA10, HX10, HG10⟩ := so3 (.slice aN (G.refs.length + 1) pN) hlt (by omega) HA9 HX9 HG9
           have HN10 := hBoxP (o := 3) (u := (.slice aN (G.refs.length + 1) pN)) (q := w1.heap.size) HN9 (by omega)
           go_simp
           clear q0' q1' q2' q3' f3
           clear  HA9 HX9 HG9 HN9
           have hS := (cellsX HX10.out).1
           clear hHeld
           refine hK.out _ _ hS (fun hHeld => ?_)
           clear hK K
           try simp only [Act.put, List.setIfInBounds_toArray, List.set_cons_zero, List.set_cons_succ]
           refine wpAnyH_done (by kernel_rfl) ?_ _
           clear hS hHeld
           obtain ⟨q0, q1, q2, q3⟩ := cellsX HX10.out
           obtain ⟨z0, z1, z2, z3⟩ := cellsX HA10.out.bx
           have y0 := HA10.out.bx.frozen 0
           have y1 := HA10.out.bx.frozen 1
           have y2 := HA10.out.bx.frozen 2
           have y3 := HA10.out.bx.frozen 3
           have hz := HA10.out.size
           go_wp2_with fail
           refine bodyPost_ret (v := .agg #[.int .i64 sc, (.slice a1 G.edges.length p1), (.slice a2 G.decls.length p2), (.slice aN (G.refs.length + 1) pN)]) (by simp [results, Try.results29, go_sem, z0, z1, z2, z3, y0, y1, y2, y3]) rfl ?_
           rw [HSC.out]
           exact AtS.done (G := ⟨G.scopes, G.edges, G.decls, G.refs ++ [⟨(r1 : Int) - 1, xeQ r2⟩]⟩) HA10.out hlt HG10.out ⟨by (first | omega | (simp only [List.length_append, List.length_singleton]; omega)), by (first | omega | (simp only [List.length_append, List.length_singleton]; omega)), by (first | omega | (simp only [List.length_append, List.length_singleton]; omega))⟩
          ·
           go_simp
           have hb := bel_alloc (v7) (.cells #[.int .i64 ((r1 : Int) - 1), .string (xeQ r2)] 33)
           obtain ⟨HA8, HX8, HG8⟩ := st3 HA7 HX7 HG7 hb
           have HN8 := hBox HN7 hb
           have HS := (show Hid (SrcR ((v7).alloc (.cells #[.int .i64 ((r1 : Int) - 1), .string (xeQ r2)] 33)) 33 2 (.slice (some ⟨(v7).heap.size, 0, none⟩) 1 1) 1 [.int .i64 ((r1 : Int) - 1), .string (xeQ r2)]) from src2 _ _ _ _)
           clear hb HA7 HX7 HG7 HN7
           have hS := (cellsX HX8.out).1
           clear hHeld
           refine hK.out _ _ hS (fun hHeld => ?_)
           clear hK K
           try simp only [Act.put, List.setIfInBounds_toArray, List.set_cons_zero, List.set_cons_succ]
           clear hS
           generalize (v7).alloc (.cells #[.int .i64 ((r1 : Int) - 1), .string (xeQ r2)] 33) = W8 at *
           generalize hga : (v7).heap.size = ga at *
           clear hga
           refine wpAnyH_ready (rs := [1]) (by kernel_rfl) (by simp) ?_
           refine (AllReadyH.cons (o := o29_8_1) rfl (fun K hK => ?_) AllReadyH.nil)
           obtain ⟨q0', q1', q2', q3'⟩ := cellsX HX8.out
           go_simp
           clear q0' q1' q2' q3'
           have hS := (cellsX HX8.out).1
           clear hHeld
           refine hK.out _ _ hS (fun hHeld => ?_)
           clear hK K
           try simp only [Act.put, List.setIfInBounds_toArray, List.set_cons_zero, List.set_cons_succ]
           clear hS
           refine wpAnyH_ready (rs := [12]) (by kernel_rfl) (by simp) ?_
           refine (AllReadyH.cons (o := o29_8_12) rfl (fun K hK => ?_) AllReadyH.nil)
           refine stepS _ rfl (.tmp 35) (.tmp 45) rfl (by simp [Act.eval, Act.put]) HG8.out.r (by simp [Act.eval, Act.put]) HS.out (by omega) HA8.out.size ?_
           intro aN pN wN hown hgr hat
           obtain ⟨HA9, HX9, HG9⟩ := ap3 hlt HA8 HX8 HG8 ⟨(r1 : Int) - 1, xeQ r2⟩ (xeQ_size _) hown hgr hat (by omega)
           have HN9 := hBoxG HN8 HG8.out.r hgr (by decide)
           clear HS hown hgr hat HA8 HX8 HG8 HN8
           have hS := (cellsX HX9.out).1
           clear hHeld
           refine hK.out _ _ hS (fun hHeld => ?_)
           clear hK K
           try simp only [Act.put, List.setIfInBounds_toArray, List.set_cons_zero, List.set_cons_succ]
           clear hS
           refine tkH (i := 13) (oi := o29_8_13) (v := ?v71) ?h71 hHeld ?r71
           case h71 => (intro w hSw; (try dsimp only at hSw); go_simp; try with_reducible rfl)
           try simp only [Act.put, List.setIfInBounds_toArray, List.set_cons_zero, List.set_cons_succ]
           refine wpAnyH_ready (rs := [14]) (by kernel_rfl) (by simp) ?_
           refine (AllReadyH.cons (o := o29_8_14) rfl (fun K hK => ?_) AllReadyH.nil)
           obtain ⟨q0', q1', q2', q3'⟩ := cellsX HX9.out
           have f3 := HX9.out.frozen 3
           obtain ⟨HA10, HX10, HG10⟩ := so3 (.slice aN (G.refs.length + 1) pN) hlt (by omega) HA9 HX9 HG9
           have HN10 := hBoxP (o := 3) (u := (.slice aN (G.refs.length + 1) pN)) (q := w1.heap.size) HN9 (by omega)
           go_simp
           clear q0' q1' q2' q3' f3
           clear  HA9 HX9 HG9 HN9
           have hS := (cellsX HX10.out).1
           clear hHeld
           refine hK.out _ _ hS (fun hHeld => ?_)
           clear hK K
           try simp only [Act.put, List.setIfInBounds_toArray, List.set_cons_zero, List.set_cons_succ]
           refine wpAnyH_done (by kernel_rfl) ?_ _
           clear hS hHeld
           obtain ⟨q0, q1, q2, q3⟩ := cellsX HX10.out
           obtain ⟨z0, z1, z2, z3⟩ := cellsX HA10.out.bx
           have y0 := HA10.out.bx.frozen 0
           have y1 := HA10.out.bx.frozen 1
           have y2 := HA10.out.bx.frozen 2
           have y3 := HA10.out.bx.frozen 3
           have hz := HA10.out.size
           go_wp2_with fail
           refine bodyPost_ret (v := .agg #[.int .i64 sc, (.slice a1 G.edges.length p1), (.slice a2 G.decls.length p2), (.slice aN (G.refs.length + 1) pN)]) (by simp [results, Try.results29, go_sem, z0, z1, z2, z3, y0, y1, y2, y3]) rfl ?_
           rw [HSC.out]
           exact AtS.done (G := ⟨G.scopes, G.edges, G.decls, G.refs ++ [⟨(r1 : Int) - 1, xeQ r2⟩]⟩) HA10.out hlt HG10.out ⟨by (first | omega | (simp only [List.length_append, List.length_singleton]; omega)), by (first | omega | (simp only [List.length_append, List.length_singleton]; omega)), by (first | omega | (simp only [List.length_append, List.length_singleton]; omega))⟩
    · skip
      go_wp2_with fail
      go_loopw [] (fun wr => ∃ (D : List DSpot) (a2 : Option Addr) (p2 : Nat), D.length ≤ 500 ∧ Hid (AtS cs a cap b off c w wr) ∧ Hid (Box wr w1.heap.size 27 [.int .i64 sc, .slice a1 G.edges.length p1, .slice a2 D.length p2, .slice a3 G.refs.length p3]) ∧ Hid (Gro (w.heap.size + 1) wr ⟨G.scopes, G.edges, D, G.refs⟩ (.slice a1 G.edges.length p1) (.slice a2 D.length p2) (.slice a3 G.refs.length p3))) (fun wr => 2000 - lenAt wr w1.heap.size)
      case atStart => exact ⟨G.decls, a2, p2, by omega, HA3, HX3, HG3⟩
      case round =>
        obtain ⟨Ds, b2, pb, hDl, HA4, HX4, HG4⟩ := hrel
        have hDi : (Ds.length : Int) ≤ 500 := by omega
        go_wp2_with fail
        have hb : Below wr.heap.size wr wr.drew := (Below.refl _ _).drew
        obtain ⟨HA5, HX5, HG5⟩ := st3 HA4 HX4 HG4 hb
        have hme : lenAt wr w1.heap.size = Ds.length := lenAt_of HX4.out
        clear hb HA4 HX4 HG4
        have hS := (cellsX HX5.out).2.2.1
        refine wp_region_held_drew (S := (fun wq => wq.cell? ⟨w1.heap.size, 2, none⟩ = some (.slice b2 Ds.length pb))) (by kernel_rfl) hS (fun hHeld => ?_)
        refine tkH (i := 0) (oi := o29_10_0) (v := ?v72) ?h72 hHeld ?r72
        case h72 => (intro w hSw; (try dsimp only at hSw); go_simp; try with_reducible rfl)
        try simp only [Act.put, List.setIfInBounds_toArray, List.set_cons_zero, List.set_cons_succ]
        refine tkH (i := 1) (oi := o29_10_1) (v := ?v73) ?h73 hHeld ?r73
        case h73 => (intro w hSw; (try dsimp only at hSw); go_simp; try with_reducible rfl)
        try simp only [Act.put, List.setIfInBounds_toArray, List.set_cons_zero, List.set_cons_succ]
        refine tkH (i := 2) (oi := o29_10_2) (v := ?v74) ?h74 hHeld ?r74
        case h74 => (intro w hSw; (try dsimp only at hSw); go_simp; try with_reducible rfl)
        try simp only [Act.put, List.setIfInBounds_toArray, List.set_cons_zero, List.set_cons_succ]
        refine tkH (i := 3) (oi := o29_10_3) (v := ?v75) ?h75 hHeld ?r75
        case h75 => (intro w hSw; (try dsimp only at hSw); go_simp; try with_reducible rfl)
        try simp only [Act.put, List.setIfInBounds_toArray, List.set_cons_zero, List.set_cons_succ]
        refine wpAnyH_ready (rs := [4]) (by kernel_rfl) (by simp) ?_
        refine (AllReadyH.cons (o := o29_10_4) rfl (fun K hK => ?_) AllReadyH.nil)
        clear hS
        obtain ⟨s6, hs6⟩ := HA5.out.cu
        go_simp
        go_at_call 30
        refine Calls.mono (pickE 2 _ hs6 (by decide)) ?_
        rintro e w6 ⟨r1, s7, rfl, hr1, hO, hC⟩
        have hr1 : r1 < 2 := hr1 (by omega)
        have hr1i : (r1 : Int) < 2 := by omega
        have hw120 : IntKind.i64.wrap (120 + (r1 : Int)) = 120 + (r1 : Int) := by simp [IntKind.wrap, IntKind.bits, IntKind.signed]; omega
        obtain ⟨HA6, HX6, HG6⟩ := pk3 hlt HA5 HX5 HG5 hO hC (by omega)
        clear hO hC hs6 HA5 HX5 HG5
        have hS := (cellsX HX6.out).2.2.1
        clear hHeld
        refine hK.out _ _ hS (fun hHeld => ?_)
        clear hK K
        try simp only [Act.put, List.setIfInBounds_toArray, List.set_cons_zero, List.set_cons_succ]
        refine tkH (i := 5) (oi := o29_10_5) (v := ?v76) ?h76 hHeld ?r76
        case h76 => (intro w hSw; (try dsimp only at hSw); go_simp; try with_reducible rfl)
        try simp only [Act.put, List.setIfInBounds_toArray, List.set_cons_zero, List.set_cons_succ]
        refine tkH (i := 6) (oi := o29_10_6) (v := ?v77) ?h77 hHeld ?r77
        case h77 => (intro w hSw; (try dsimp only at hSw); go_simp; try with_reducible rfl)
        try simp only [Act.put, List.setIfInBounds_toArray, List.set_cons_zero, List.set_cons_succ]
        refine wpAnyH_done (by kernel_rfl) ?_ _
        clear hHeld hS
        by_cases hjp : (Ds.length : Int) < 120 + (r1 : Int)
        case pos =>
          have hD2 : Ds.length < 500 := by omega
          have hsz6 := HA6.out.size
          have hb := bel_alloc w6 (.cells #[.int .i64 0, .string ⟨#[113]⟩] 33)
          obtain ⟨q0', q1', q2', q3'⟩ := cellsX HX6.out
          obtain ⟨HA7, HX7, HG7⟩ := st3 HA6 HX6 HG6 hb
          have HS := (show Hid (SrcR (w6.alloc (.cells #[.int .i64 0, .string ⟨#[113]⟩] 33)) 33 2 (.slice (some ⟨w6.heap.size, 0, none⟩) 1 1) 1 [.int .i64 0, .string ⟨#[113]⟩]) from src2 _ _ _ _)
          have HO := (show Hid _ from HG7.out.d)
          have HNW := (show Hid _ from Rw.news (Rw.box2 w6 33 (.int .i64 0) (.string ⟨#[113]⟩)))
          have H1C := (show Hid (∀ u ∈ [Value.int .i64 0, .string ⟨#[113]⟩], u.oneCell' = true) from by intro u hu; simp at hu; rcases hu with rfl | rfl <;> rfl)
          have hle := HG7.out.le
          clear hb HA6 HX6 HG6
          go_wp2_with (at_builtin; refine wpList_append_own_at _ rfl (.tmp 58) (.tmp 60) 25 rfl (w.heap.size + 1) 33 i33 _ 2 24 Try.underlying25 hi33 hz0 hz1 hz2 rfl (by decide) _ Ds.length (spC Ds) rfl HO.out ⟨w6.heap.size, 0, none⟩ 1 1 [.int .i64 0, .string ⟨#[113]⟩] rfl rfl HNW.out H1C.out ?c3 ?c4 ?c5 ?nx)
          case c3 => unfold maxLen; omega
          case c4 => omega
          case c5 => omega
          case nx =>
            intro vN wN hown hgr hnil hat
            obtain ⟨aN, pN, eN, _⟩ := own_ne hown
            subst eN
            have hrb : ∀ k, (Value.slice b2 Ds.length pb).ownBlock = some k → w.heap.size < k := fun k hk => (World.ownsRow.lt HO.out k hk).1
            have HA8 := (show Hid (AtS cs a cap b off c w wN) from HA7.out.grown hlt hgr hrb)
            have HX8 := (show Hid (Box wN w1.heap.size 27 [.int .i64 sc, .slice a1 G.edges.length p1, .slice b2 Ds.length pb, .slice a3 G.refs.length p3]) from HX7.out.keep (hgr.block _ HX7.out.lt (fun h => own_box HO.out HX7.out (by decide) h.symm rfl)))
            have HG8 := (show Hid (Gro (w.heap.size + 1) wN ⟨G.scopes, G.edges, Ds ++ [⟨0, ⟨#[113]⟩⟩], G.refs⟩ (.slice a1 G.edges.length p1) (.slice aN (Ds.length + 1) pN) (.slice a3 G.refs.length p3)) from HG7.out.pushD ⟨0, ⟨#[113]⟩⟩ (by decide) hown hgr (by rw [World.size_alloc]; exact hat) (by show Ds.length < 1000; omega))
            clear HO HS hrb hown hgr hnil hat hle HA7 HX7 HG7 q0' q1' q2' q3'
            obtain ⟨q0', q1', q2', q3'⟩ := cellsX HX8.out
            have f2 := HX8.out.frozen 2
            have HA9 := (show Hid (AtS cs a cap b off c w (wN.setCell ⟨w1.heap.size, 2, none⟩ (.slice aN (Ds.length + 1) pN))) from HA8.out.put hlt (by omega) 2 _)
            have HX9 := (show Hid (Box (wN.setCell ⟨w1.heap.size, 2, none⟩ (.slice aN (Ds.length + 1) pN)) w1.heap.size 27 [.int .i64 sc, .slice a1 G.edges.length p1, .slice aN (Ds.length + 1) pN, .slice a3 G.refs.length p3]) from HX8.out.set 2 _)
            have HG9 := (show Hid (Gro (w.heap.size + 1) (wN.setCell ⟨w1.heap.size, 2, none⟩ (.slice aN (Ds.length + 1) pN)) ⟨G.scopes, G.edges, Ds ++ [⟨0, ⟨#[113]⟩⟩], G.refs⟩ (.slice a1 G.edges.length p1) (.slice aN (Ds.length + 1) pN) (.slice a3 G.refs.length p3)) from HG8.out.past HX8.out (by decide) (by decide))
            have hme2 : lenAt (wN.setCell ⟨w1.heap.size, 2, none⟩ (.slice aN (Ds.length + 1) pN)) w1.heap.size = Ds.length + 1 := lenAt_of HX9.out
            clear HA8 HX8 HG8
            have hl9 : (Ds ++ [(⟨0, ⟨#[113]⟩⟩ : DSpot)]).length = Ds.length + 1 := by simp
            go_wp2_with fail
            refine ⟨⟨Ds ++ [⟨0, ⟨#[113]⟩⟩], aN, pN, by omega, HA9, by rw [hl9]; exact HX9, by rw [hl9]; exact HG9⟩, ?_⟩
            rw [hme, hme2]; omega
        case neg =>
          obtain ⟨q0, q1, q2, q3⟩ := cellsX HX6.out
          obtain ⟨z0, z1, z2, z3⟩ := cellsX HA6.out.bx
          have y0 := HA6.out.bx.frozen 0
          have y1 := HA6.out.bx.frozen 1
          have y2 := HA6.out.bx.frozen 2
          have y3 := HA6.out.bx.frozen 3
          have hz := HA6.out.size
          go_wp2_with fail
          refine bodyPost_ret (v := .agg #[.int .i64 sc, (.slice a1 G.edges.length p1), (.slice b2 Ds.length pb), (.slice a3 G.refs.length p3)]) (by simp [results, Try.results29, go_sem, z0, z1, z2, z3, y0, y1, y2, y3]) rfl ?_
          rw [HSC.out]
          exact AtS.done (G := ⟨G.scopes, G.edges, Ds, G.refs⟩) HA6.out hlt HG6.out ⟨by show G.edges.length ≤ 500; omega, hDl, by show G.refs.length ≤ 500; omega⟩
end Go.Proofs.Ytledclkmeikgdaa
