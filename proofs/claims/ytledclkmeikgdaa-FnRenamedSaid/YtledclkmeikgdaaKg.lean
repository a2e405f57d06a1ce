import Derived.Test.YtledclkmeikgdaaKf
import Derived.Test.YtledclkmeikgdaaXDc
import Derived.Test.YtledclkmeikgdaaSm
import Derived.Test.YtledclkmeikgdaaHg
/-! What is drawn for Rename; numbers that are the same. -/
namespace Go.Proofs.Ytledclkmeikgdaa
open Go.RowKit Go.Deep
set_option linter.unusedVariables false
set_option maxRecDepth 100000
set_option linter.unusedSimpArgs false

abbrev oR7_0 : Oper := { dst := some 31, op := Go.Op.load 27 (Go.Operand.tmp 6), type := 27, pos := "l12_names.go:446", after := #[], guard := none }
abbrev oR7_1 : Oper := { dst := some 32, op := Go.Op.move (Go.Operand.tmp 5), type := 61, pos := "l12_names.go:446", after := #[], guard := none }
abbrev oR7_2 : Oper := { dst := some 33, op := Go.Op.fieldAddr 27 (Go.Operand.tmp 6) 2, type := 0, pos := "l12_names.go:446", after := #[], guard := none }
abbrev oR7_3 : Oper := { dst := some 34, op := Go.Op.load 25 (Go.Operand.tmp 33), type := 25, pos := "l12_names.go:446", after := #[{ on := 2, ground := Go.Ground.data }], guard := none }
abbrev oR7_4 : Oper := { dst := some 35, op := Go.Op.call { callee := Go.Callee.builtin Go.Builtin.len, args := #[Go.Operand.tmp 34], argTypes := #[25] }, type := 3, pos := "l12_names.go:446", after := #[{ on := 3, ground := Go.Ground.data }], guard := none }
abbrev oR7_5 : Oper := { dst := some 36, op := Go.Op.binOp Go.BinOp.add 3 (Go.Operand.tmp 35) (Go.Operand.const (Go.Value.int Go.IntKind.i64 2)) 3, type := 3, pos := "l12_names.go:446", after := #[{ on := 4, ground := Go.Ground.data }], guard := none }
abbrev oR7_6 : Oper := { dst := some 37, op := Go.Op.call { callee := Go.Callee.value (Go.Operand.func 30), args := #[Go.Operand.tmp 32, Go.Operand.tmp 36], argTypes := #[61, 3] }, type := 3, pos := "l12_names.go:446", after := #[{ on := 1, ground := Go.Ground.data }, { on := 5, ground := Go.Ground.data }], guard := none }
abbrev oR7_7 : Oper := { dst := some 38, op := Go.Op.move (Go.Operand.tmp 5), type := 61, pos := "l12_names.go:446", after := #[], guard := none }
abbrev oR7_8 : Oper := { dst := some 39, op := Go.Op.call { callee := Go.Callee.value (Go.Operand.func 30), args := #[Go.Operand.tmp 38, Go.Operand.const (Go.Value.int Go.IntKind.i64 2)], argTypes := #[61, 3] }, type := 3, pos := "l12_names.go:446", after := #[{ on := 7, ground := Go.Ground.data }, { on := 6, ground := Go.Ground.chain }], guard := none }
abbrev oR7_9 : Oper := { dst := some 40, op := Go.Op.binOp Go.BinOp.sub 3 (Go.Operand.tmp 37) (Go.Operand.tmp 39) 3, type := 3, pos := "l12_names.go:446", after := #[{ on := 6, ground := Go.Ground.data }, { on := 8, ground := Go.Ground.data }, { on := 15, ground := Go.Ground.gcOnly Go.Departure.lateStores }], guard := none }
abbrev oR7_10 : Oper := { dst := some 41, op := Go.Op.buildSlice 66 6 #[(0, Go.Operand.const (Go.Value.string { data := #[120] })), (1, Go.Operand.const (Go.Value.string { data := #[121] })), (2, Go.Operand.const (Go.Value.string { data := #[122] })), (3, Go.Operand.const (Go.Value.string { data := #[110, 101, 119] })), (4, Go.Operand.const (Go.Value.string { data := #[102] })), (5, Go.Operand.const (Go.Value.string { data := #[] }))], type := 66, pos := "l12_names.go:446", after := #[{ on := 16, ground := Go.Ground.gcOnly Go.Departure.lateStores }], guard := none }
abbrev oR7_11 : Oper := { dst := some 42, op := Go.Op.move (Go.Operand.tmp 5), type := 61, pos := "l12_names.go:446", after := #[], guard := none }
abbrev oR7_12 : Oper := { dst := some 43, op := Go.Op.call { callee := Go.Callee.value (Go.Operand.func 30), args := #[Go.Operand.tmp 42, Go.Operand.const (Go.Value.int Go.IntKind.i64 6)], argTypes := #[61, 3] }, type := 3, pos := "l12_names.go:446", after := #[{ on := 11, ground := Go.Ground.data }, { on := 8, ground := Go.Ground.chain }], guard := none }
abbrev oR7_13 : Oper := { dst := some 44, op := Go.Op.indexAddr 66 (Go.Operand.tmp 41) (Go.Operand.tmp 43), type := 0, pos := "l12_names.go:446", after := #[{ on := 10, ground := Go.Ground.data }, { on := 12, ground := Go.Ground.data }, { on := 16, ground := Go.Ground.gcOnly Go.Departure.lateStores }], guard := none }
abbrev oR7_14 : Oper := { dst := some 45, op := Go.Op.load 9 (Go.Operand.tmp 44), type := 9, pos := "l12_names.go:446", after := #[{ on := 13, ground := Go.Ground.data }, { on := 16, ground := Go.Ground.gcOnly Go.Departure.lateStores }], guard := none }
abbrev oR7_15 : Oper := { dst := none, op := Go.Op.store 27 (Go.Operand.tmp 2) (Go.Operand.tmp 31), type := 0, pos := "l12_names.go:446", after := #[{ on := 0, ground := Go.Ground.data }, { on := 12, ground := Go.Ground.chain }, { on := 0, ground := Go.Ground.phase }, { on := 1, ground := Go.Ground.textOnly Go.Departure.lateStores }, { on := 2, ground := Go.Ground.textOnly Go.Departure.lateStores }, { on := 3, ground := Go.Ground.textOnly Go.Departure.lateStores }, { on := 4, ground := Go.Ground.textOnly Go.Departure.lateStoresUnsure }, { on := 5, ground := Go.Ground.textOnly Go.Departure.lateStores }, { on := 6, ground := Go.Ground.textOnly Go.Departure.lateStoresUnsure }, { on := 7, ground := Go.Ground.textOnly Go.Departure.lateStores }, { on := 8, ground := Go.Ground.textOnly Go.Departure.lateStoresUnsure }, { on := 9, ground := Go.Ground.textOnly Go.Departure.lateStores }, { on := 10, ground := Go.Ground.textOnly Go.Departure.lateStores }, { on := 11, ground := Go.Ground.textOnly Go.Departure.lateStores }, { on := 12, ground := Go.Ground.textOnly Go.Departure.lateStoresUnsure }, { on := 13, ground := Go.Ground.textOnly Go.Departure.lateStores }, { on := 14, ground := Go.Ground.textOnly Go.Departure.lateStores }], guard := none }
abbrev oR7_16 : Oper := { dst := some 3, op := Go.Op.assign (Go.Operand.tmp 40), type := 3, pos := "l12_names.go:446", after := #[{ on := 9, ground := Go.Ground.data }, { on := 15, ground := Go.Ground.chain }, { on := 0, ground := Go.Ground.phase }, { on := 1, ground := Go.Ground.phase }, { on := 2, ground := Go.Ground.phase }, { on := 3, ground := Go.Ground.phase }, { on := 4, ground := Go.Ground.phase }, { on := 5, ground := Go.Ground.phase }, { on := 6, ground := Go.Ground.phase }, { on := 7, ground := Go.Ground.phase }, { on := 8, ground := Go.Ground.phase }, { on := 9, ground := Go.Ground.phase }, { on := 10, ground := Go.Ground.textOnly Go.Departure.lateStores }, { on := 11, ground := Go.Ground.textOnly Go.Departure.lateStores }, { on := 12, ground := Go.Ground.textOnly Go.Departure.lateStoresUnsure }, { on := 13, ground := Go.Ground.textOnly Go.Departure.lateStores }, { on := 14, ground := Go.Ground.textOnly Go.Departure.lateStores }, { on := 15, ground := Go.Ground.phase }], guard := none }
abbrev oR7_17 : Oper := { dst := some 4, op := Go.Op.assign (Go.Operand.tmp 45), type := 9, pos := "l12_names.go:446", after := #[{ on := 14, ground := Go.Ground.data }, { on := 16, ground := Go.Ground.chain }, { on := 0, ground := Go.Ground.phase }, { on := 1, ground := Go.Ground.phase }, { on := 2, ground := Go.Ground.phase }, { on := 3, ground := Go.Ground.phase }, { on := 4, ground := Go.Ground.phase }, { on := 5, ground := Go.Ground.phase }, { on := 6, ground := Go.Ground.phase }, { on := 7, ground := Go.Ground.phase }, { on := 8, ground := Go.Ground.phase }, { on := 9, ground := Go.Ground.phase }, { on := 10, ground := Go.Ground.phase }, { on := 11, ground := Go.Ground.phase }, { on := 12, ground := Go.Ground.phase }, { on := 13, ground := Go.Ground.phase }, { on := 14, ground := Go.Ground.phase }, { on := 15, ground := Go.Ground.phase }, { on := 16, ground := Go.Ground.phase }], guard := none }
set_option maxHeartbeats 1600000 in
theorem same11 {S S' : Nat → Prop} (l l' : List Int) (v v' : Value) (w : World) (h : Ints w S l v) (h' : Ints w S' l' v') :
    Calls Try.prog 11 #[v, v'] w fun e w' => e = .returned (.bool (decide (l = l'))) ∧ Below w.heap.size w w' := by
  obtain ⟨a, cap, b, off, rfl, hc, hm, ha, hcell⟩ := h
  obtain ⟨a', cap', b', off', rfl, hc', hm', ha', hcell'⟩ := h'
  have HC := (show Hid _ from hcell); clear hcell
  have HA := (show Hid _ from ha); clear ha
  have HC' := (show Hid _ from hcell'); clear hcell'
  have HA' := (show Hid _ from ha'); clear ha'
  unfold maxLen at hm hm'
  by_cases hlen : l.length = l'.length
  case neg =>
    have hq : ((l.length : Int) != (l'.length : Int)) = true := by simp; omega
    rw [decide_eq_false (fun e => hlen (by rw [e]))]
    clear hlen
    go_enter Try.func11, Try.ntmps11
    go_wp2_with fail
    go_ret
    exact ⟨rfl, Below.refl _ _⟩
  have hq : ((l.length : Int) != (l'.length : Int)) = false := by simp; omega
  have HLE := (show Hid _ from hlen); clear hlen
  generalize hR : decide (l = l') = R
  have HR := (show Hid _ from hR); clear hR
  go_enter Try.func11, Try.ntmps11
  go_wp2_with fail
  go_loopw [5] (fun i wr => ∃ j : Nat, i = .int .i64 j ∧ j ≤ l.length ∧ Hid (∀ i (hi : i < l.length) (hi' : i < l'.length), i < j → l[i] = l'[i]) ∧ Hid (Below w.heap.size w wr)) (fun i _ => l.length - (intOf i).toNat)
  case atStart => exact ⟨0, rfl, Nat.zero_le _, fun i hi hi' h0 => absurd h0 (Nat.not_lt_zero _), Below.refl _ _⟩
  case round =>
    obtain ⟨j, rfl, hj, HJ, HB⟩ := hrel
    by_cases hjl : j < l.length
    · have hjl' : j < l'.length := by have := HLE.out; omega
      obtain ⟨rfl, _⟩ := HA.out (by omega)
      obtain ⟨rfl, _⟩ := HA'.out (by omega)
      have c0 := HC.out j hjl
      have c1 := HC'.out j hjl'
      rw [← HB.out.cell (lt_of_cell c0)] at c0
      rw [← HB.out.cell (lt_of_cell c1)] at c1
      by_cases he : l[j] = l'[j]
      · have HN := (show Hid (∀ i (hi : i < l.length) (hi' : i < l'.length), i < j + 1 → l[i] = l'[i]) from fun i hi hi' hij => by
          by_cases e : i = j
          · subst e; exact he
          · exact HJ.out i hi hi' (by omega))
        rw [he] at c0
        have hz : (l'[j] != l'[j]) = false := by simp
        generalize l'[j] = y at *
        clear he
        go_wp2_with fail
        go_quiet (fail)
        go_wp2_with fail
        exact ⟨⟨j + 1, by go_num, by omega, HN, belDrewN HB.out _⟩, by simp [intOf]; omega⟩
      · have HF := (show Hid (R = false) from by
          show R = false
          rw [← HR.out]
          refine decide_eq_false (fun e => he ?_)
          subst e; rfl)
        have hz : (l[j] != l'[j]) = true := by simpa using he
        generalize l[j] = x at *
        generalize l'[j] = y at *
        clear he
        go_wp2_with fail
        go_quiet (fail)
        go_wp2_with fail
        go_ret
        exact ⟨ret_bool HF.out.symm, belDrewN HB.out _⟩
    · have HF := (show Hid (R = true) from by
        show R = true
        rw [← HR.out]
        refine decide_eq_true (List.ext_getElem HLE.out (fun i h1 h2 => HJ.out i h1 h2 (by omega))))
      go_wp2_with fail
      go_ret
      exact ⟨ret_bool HF.out.symm, HB.out⟩
theorem nm_size24 {x : ByteArray} (h : T.nmB x = true) : x.size ≤ 24 := by
  obtain ⟨_, h2, _⟩ := T.nmB_iff.1 h
  exact h2
def nlQ (q : Nat) : ByteArray := if q = 0 then ⟨#[120]⟩ else if q = 1 then ⟨#[121]⟩ else if q = 2 then ⟨#[122]⟩ else if q = 3 then ⟨#[110, 101, 119]⟩ else if q = 4 then ⟨#[102]⟩ else ⟨#[]⟩
theorem nlQ_size (q : Nat) : (nlQ q).size ≤ 1000 := by
  unfold nlQ
  (repeat' split) <;> decide
theorem nlQ_at {w : World} {gn : Nat} (h : Box w gn 9 [.string ⟨#[120]⟩, .string ⟨#[121]⟩, .string ⟨#[122]⟩, .string ⟨#[110, 101, 119]⟩, .string ⟨#[102]⟩, .string ⟨#[]⟩]) {q : Nat} (hq : q < 6) : w.cell? ⟨gn, q, none⟩ = some (.string (nlQ q)) := by
  have h1 := h.cell q hq
  rw [h1]
  match q, hq with
  | 0, _ => rfl
  | 1, _ => rfl
  | 2, _ => rfl
  | 3, _ => rfl
  | 4, _ => rfl
  | 5, _ => rfl
/-- What ScopesOf answers, as a Sg that grows. -/
theorem Gro.of_ow {w : World} {A : Nat} {s : Sw} {c : CV} (h : Ow w A s c) (hn : s.Nm) (hl : s.es.length ≤ 1000 ∧ s.ds.length ≤ 1000 ∧ s.rs.length ≤ 1000) : Gro A w (sgW s) c.v1 c.v2 c.v3 :=
  ⟨h.e, h.d, h.r, h.dr, fun x hx => Nat.le_trans (nm_size24 (hn.1 x hx)) (by decide), fun x hx => Nat.le_trans (nm_size24 (hn.2 x hx)) (by decide), hl⟩
/-- As the call stands: its answer's box, the cursor, and a Sg in a box. -/
structure DrR (z : Bool) (cs : List UInt8) (a : Option Addr) (cap b off : Nat) (w : World) (R : List Value) (g : Nat) (G : DSg) (v1 v2 v3 : Value) (W : World) : Prop where
  bel : Below w.heap.size w W
  bx : Box W w.heap.size 27 R
  cu : z = true → ∃ s, T.Cur W cs a cap b off (w.heap.size + 1) s
  bg : Box W g 27 [.int .i64 G.scopes, v1, v2, v3]
  gr : Gro (w.heap.size + 2) W G v1 v2 v3
  hg : w.heap.size + 1 < g
section
variable {z : Bool} {cs : List UInt8} {a : Option Addr} {cap b off g : Nat} {w W W' : World} {R : List Value} {G : DSg} {v1 v2 v3 : Value}
theorem DrR.still (h : DrR z cs a cap b off w R g G v1 v2 v3 W) (hb : Below W.heap.size W W') : DrR z cs a cap b off w R g G v1 v2 v3 W' := by
  exact ⟨h.bel.trans (hb.mono h.bel.size), h.bx.still hb, fun hz => (h.cu hz).imp (fun s hs => hs.still hb), h.bg.still hb, h.gr.still hb, h.hg⟩
theorem DrR.size (h : DrR z cs a cap b off w R g G v1 v2 v3 W) : w.heap.size + 2 ≤ W.heap.size := by have := h.bg.lt; have := h.hg; omega
theorem DrR.pick {s : Nat × Nat} (h : DrR z cs a cap b off w R g G v1 v2 v3 W) (ho : TOut (w.heap.size + 1) W W') (hc : T.Cur W' cs a cap b off (w.heap.size + 1) s) : DrR z cs a cap b off w R g G v1 v2 v3 W' := by
  have hz := h.size
  have hk := ho.2.2.2.2
  exact ⟨⟨ho.1.trans h.bel.os, ho.2.1.trans h.bel.tape, ho.2.2.1.trans h.bel.output, Nat.le_trans h.bel.size ho.2.2.2.1, fun k hk2 => (hk k (by omega) (.inl (by omega))).trans (h.bel.block k hk2)⟩, h.bx.keep (hk _ h.bx.lt (.inl (by omega))), fun _ => ⟨s, hc⟩, h.bg.keep (hk _ h.bg.lt (.inr (by have := h.hg; omega))), h.gr.out ho (by omega), h.hg⟩
theorem DrR.store (h : DrR z cs a cap b off w [.int .i64 0, .slice none 0 0, .slice none 0 0, .slice none 0 0] g G v1 v2 v3 W) : DrR false cs a cap b off w [.int .i64 G.scopes, v1, v2, v3] g G v1 v2 v3 (set4 W w.heap.size (.int .i64 G.scopes) v1 v2 v3) := by
  have hg := h.hg
  exact ⟨set4_bel h.bel (Nat.le_refl _) _ _ _ _, (((h.bx.set 0 _).set 1 _).set 2 _).set 3 _, fun hz => (by cases hz), h.bg.keep (set4_block _ _ _ _ _ _ (by omega)), h.gr.keep (fun k hk _ _ => set4_block _ _ _ _ _ _ (by omega)), hg⟩
theorem hDr (h : Hid (DrR z cs a cap b off w R g G v1 v2 v3 W)) (hb : Below W.heap.size W W') : Hid (DrR z cs a cap b off w R g G v1 v2 v3 W') := h.out.still hb
theorem hDrO {s : Nat × Nat} (h : Hid (DrR z cs a cap b off w R g G v1 v2 v3 W)) (ho : T.Out (w.heap.size + 1) (w.heap.size + 1 + 1) W W') (hc : T.Cur W' cs a cap b off (w.heap.size + 1) s) : Hid (DrR z cs a cap b off w R g G v1 v2 v3 W') := h.out.pick ho hc
end
set_option maxHeartbeats 25600000 in
theorem drawRename {cs : List UInt8} {a : Option Addr} {cap b off : Nat} (w : World) (h2 : cs.length ≤ 1048576) (h3 : cs.length ≤ cap) (h4 : cap ≤ 2 ^ 63 - 1) (hb : 0 < cs.length → b < w.heap.size) (h6 : 0 < cs.length → a = some ⟨b, off, none⟩) (h7 : T.Byts w cs b off) :
    Calls Try.prog 7 #[.slice a cs.length cap] w fun e w' => ∃ (G : DSg) (v1 v2 v3 : Value) (d : Int) (nm : ByteArray), e = .returned (.tuple #[.agg #[.int .i64 G.scopes, v1, v2, v3], .int .i64 d, .string nm]) ∧ Below w.heap.size w w' ∧ RdG w' G v1 v2 v3 ∧ nm.size ≤ 1000 := by
  have hb0 := bel_alloc w (.cells #[.int .i64 0, .slice none 0 0, .slice none 0 0, .slice none 0 0] 27)
  have hs0 : (w.alloc (.cells #[.int .i64 0, .slice none 0 0, .slice none 0 0, .slice none 0 0] 27)).heap.size = w.heap.size + 1 := by simp
  have hdc := T.drawCur_any (cs := cs) (a := a) (cap := cap) (b := b) (off := off) (w.alloc (.cells #[.int .i64 0, .slice none 0 0, .slice none 0 0, .slice none 0 0] 27)) h2 h3 h4 (fun h => by have := hb h; omega) h6 (fun i hi => (hb0.cell (lt_of_cell (h7 i hi))).trans (h7 i hi))
  rw [hs0] at hdc
  have HDC := (show Hid _ from hdc); clear hdc
  have HZ := (show Hid (Box (w.alloc (.cells #[.int .i64 0, .slice none 0 0, .slice none 0 0, .slice none 0 0] 27)) w.heap.size 27 [.int .i64 0, .slice none 0 0, .slice none 0 0, .slice none 0 0]) from Box.new w 27 [.int .i64 0, .slice none 0 0, .slice none 0 0, .slice none 0 0])
  have HB0 := (show Hid (Below w.heap.size w (w.alloc (.cells #[.int .i64 0, .slice none 0 0, .slice none 0 0, .slice none 0 0] 27))) from hb0)
  clear hb0 hs0 h7 h6 hb h3 h4
  go_enter Try.func7, Try.ntmps7
  go_wp2_with fail
  refine Calls.mono HDC.out ?_
  rintro e wa ⟨rfl, hba, hsa, hca⟩
  have hba' : Below (w.alloc (.cells #[.int .i64 0, .slice none 0 0, .slice none 0 0, .slice none 0 0] 27)).heap.size (w.alloc (.cells #[.int .i64 0, .slice none 0 0, .slice none 0 0, .slice none 0 0] 27)) wa := by rw [World.size_alloc]; exact hba
  have HBa := (show Hid (Below w.heap.size w wa) from bel_trans HB0.out hba')
  have HZa := (show Hid (Box wa w.heap.size 27 [.int .i64 0, .slice none 0 0, .slice none 0 0, .slice none 0 0]) from HZ.out.still hba')
  have hsza : wa.heap.size = w.heap.size + 2 := by simpa using hsa
  have HCL := (show Hid _ from drawAnySg _ wa hca)
  clear HDC HB0 HZ hba hba' hca hsa
  go_wp2_with fail
  refine Calls.mono HCL.out ?_
  rintro e w1 ⟨G, v1, v2, v3, rfl, hO, ⟨s1, hC⟩, hG, hl1, hl2, hl3⟩
  obtain ⟨a1, p1, a2, p2, a3, p3, e1, e2, e3⟩ := Gro.forms hG
  subst e1 e2 e3
  have hsz1 : w.heap.size + 2 ≤ w1.heap.size := by have := hO.2.2.2.1; omega
  have hb := bel_alloc w1 (.cells #[.int .i64 G.scopes, .slice a1 G.edges.length p1, .slice a2 G.decls.length p2, .slice a3 G.refs.length p3] 27)
  have HD1 := (show Hid (DrR true cs a cap b off w [.int .i64 0, .slice none 0 0, .slice none 0 0, .slice none 0 0] w1.heap.size G (.slice a1 G.edges.length p1) (.slice a2 G.decls.length p2) (.slice a3 G.refs.length p3) (w1.alloc (.cells #[.int .i64 G.scopes, .slice a1 G.edges.length p1, .slice a2 G.decls.length p2, .slice a3 G.refs.length p3] 27))) from by
    have hk := hO.2.2.2.2
    have hbw : Below w.heap.size w w1 := ⟨hO.1.trans HBa.out.os, hO.2.1.trans HBa.out.tape, hO.2.2.1.trans HBa.out.output, by omega, fun k hk2 => (hk k (by omega) (.inl (by omega))).trans (HBa.out.block k hk2)⟩
    exact ⟨bel_trans hbw hb, (HZa.out.keep (hk _ HZa.out.lt (.inl (by omega)))).still hb, fun _ => ⟨s1, hC.still hb⟩, Box.new w1 27 _, (hG.low (by omega)).still hb, by omega⟩)
  obtain ⟨s2, hs2⟩ := HD1.out.cu rfl
  have HC2 := (show Hid _ from pickE 2 _ hs2 (by decide))
  clear hs2 hO hC hG HCL HBa HZa hb hsza
  have HGB := (show Hid (G.edges.length ≤ 1000 ∧ G.decls.length ≤ 1000 ∧ G.refs.length ≤ 1000) from ⟨by omega, by omega, by omega⟩)
  clear hl1 hl2 hl3
  go_wp2_with fail
  refine Calls.mono HC2.out ?_
  rintro e w2 ⟨k, s3, rfl, hk, hO, hC⟩
  go_upto_if 18 with fail
  have HD2 := (show Hid (DrR true cs a cap b off w [.int .i64 0, .slice none 0 0, .slice none 0 0, .slice none 0 0] w1.heap.size G (.slice a1 G.edges.length p1) (.slice a2 G.decls.length p2) (.slice a3 G.refs.length p3) w2) from HD1.out.pick hO hC)
  clear HD1 HC2 hO hC hk
  go_cut [] from 7 to 30 (fun wx => ∃ (G : DSg) (a1 a2 a3 : Option Addr) (p1 p2 p3 : Nat), Hid (DrR true cs a cap b off w [.int .i64 0, .slice none 0 0, .slice none 0 0, .slice none 0 0] w1.heap.size G (.slice a1 G.edges.length p1) (.slice a2 G.decls.length p2) (.slice a3 G.refs.length p3) wx))
  case first =>
    by_cases hk0 : k = 0
    case neg =>
      have hk00 : ((k : Int) == 0) = false := by simp; omega
      go_wp2_with fail
      go_meet
      exact ⟨G, a1, a2, a3, p1, p2, p3, HD2⟩
    case pos =>
      subst hk0
      obtain ⟨s4, hs4⟩ := HD2.out.cu rfl
      have HC4 := (show Hid _ from T.drawTm_any 4 s4 w2 hs4 (by decide))
      clear hs4
      go_wp2_with fail
      refine Calls.mono HC4.out ?_
      rintro e w3 ⟨xa, xm, xc, rfl, hO, hC, hL⟩
      generalize T.cTm cs 4 s4 = r at *
      obtain ⟨t, s5⟩ := r
      try dsimp only at hC hL
      have HD3 := (show Hid (DrR true cs a cap b off w [.int .i64 0, .slice none 0 0, .slice none 0 0, .slice none 0 0] w1.heap.size G (.slice a1 G.edges.length p1) (.slice a2 G.decls.length p2) (.slice a3 G.refs.length p3) w3) from HD2.out.pick hO hC)
      have hb := bel_alloc w3 (.cells #[.string t.name, .string t.text, .bool t.leaf, .slice xa xm xc] 40)
      have HD4 := (show Hid (DrR true cs a cap b off w [.int .i64 0, .slice none 0 0, .slice none 0 0, .slice none 0 0] w1.heap.size G (.slice a1 G.edges.length p1) (.slice a2 G.decls.length p2) (.slice a3 G.refs.length p3) (w3.alloc (.cells #[.string t.name, .string t.text, .bool t.leaf, .slice xa xm xc] 40))) from HD3.out.still hb)
      have HT4 := (show Hid (Box (w3.alloc (.cells #[.string t.name, .string t.text, .bool t.leaf, .slice xa xm xc] 40)) w3.heap.size 40 [.string t.name, .string t.text, .bool t.leaf, .slice xa xm xc]) from Box.new w3 40 _)
      have hl4 := (T.Lies.still hL hb).lt
      have HC5 := (show Hid _ from sc13 t (.slice xa xm xc) _ (hl4.mono (fun q hq => hq.2)))
      have hpu := scR_nm t
      have hok : (scR t).2 = 0 → sgB (sgW (scR t).1) = true := by
        unfold scR
        split
        · intro h; cases h
        · split
          · intro h; cases h
          · rename_i h2
            intro _; simpa using h2
      generalize scR t = R at *
      obtain ⟨s, cd⟩ := R
      try dsimp only at hpu hok
      have HPU := (show Hid _ from hpu)
      have HOK := (show Hid _ from hok)
      simp only [T.Tr.val] at HC5
      clear HD2 HC4 hO hC hL hb HD3 hl4 hpu hok
      obtain ⟨j0, j1, j2, j3⟩ := cellsX HT4.out
      go_wp2_with fail
      clear j0 j1 j2 j3
      refine Calls.mono HC5.out ?_
      intro e w5 hsc
      obtain ⟨A, c5, he, hA, hb5, ho5⟩ := hsc
      obtain ⟨u1, u2, u3, u4, u5, D5, R5⟩ := c5
      obtain ⟨b1, q1, e1, _⟩ := own_ne ho5.e
      obtain ⟨b2, q2, e2, _⟩ := own_ne ho5.d
      obtain ⟨b3, q3, e3, _⟩ := own_ne ho5.r
      obtain ⟨b4, q4, e4, _⟩ := own_ne ho5.dp.out
      obtain ⟨b5, q5, e5, _⟩ := own_ne ho5.rp.out
      dsimp only at e1 e2 e3 e4 e5
      subst e1 e2 e3 e4 e5
      subst he
      have HA := (show Hid (w.heap.size + 2 ≤ A) from Nat.le_trans HD4.out.size hA)
      have hb := bel_alloc w5 (.cells #[.int .i64 (s.n : Nat), .slice b1 s.es.length q1, .slice b2 s.ds.length q2, .slice b3 s.rs.length q3] 27)
      have HD6 := (show Hid (DrR true cs a cap b off w [.int .i64 0, .slice none 0 0, .slice none 0 0, .slice none 0 0] w1.heap.size G (.slice a1 G.edges.length p1) (.slice a2 G.decls.length p2) (.slice a3 G.refs.length p3) (w5.alloc (.cells #[.int .i64 (s.n : Nat), .slice b1 s.es.length q1, .slice b2 s.ds.length q2, .slice b3 s.rs.length q3] 27))) from (HD4.out.still hb5).still hb)
      have HOW := (show Hid (Ow w5 A s ⟨.slice b1 s.es.length q1, .slice b2 s.ds.length q2, .slice b3 s.rs.length q3, .slice b4 s.dp.length q4, .slice b5 s.rp.length q5, D5, R5⟩) from ho5)
      have HD5 := (show Hid (DrR true cs a cap b off w [.int .i64 0, .slice none 0 0, .slice none 0 0, .slice none 0 0] w1.heap.size G (.slice a1 G.edges.length p1) (.slice a2 G.decls.length p2) (.slice a3 G.refs.length p3) w5) from HD4.out.still hb5)
      have hx6 := Box.new w5 27 [.int .i64 (s.n : Nat), .slice b1 s.es.length q1, .slice b2 s.ds.length q2, .slice b3 s.rs.length q3]
      have HX6 := (show Hid (Box (w5.alloc (.cells #[.int .i64 (s.n : Nat), .slice b1 s.es.length q1, .slice b2 s.ds.length q2, .slice b3 s.rs.length q3] 27)) w5.heap.size 27 [.int .i64 (s.n : Nat), .slice b1 s.es.length q1, .slice b2 s.ds.length q2, .slice b3 s.rs.length q3]) from hx6)
      have hl51 : w1.heap.size < w5.heap.size := (HD4.out.still hb5).bg.lt
      have HI5 := (show Hid _ from cellsX (HD4.out.still hb5).bg)
      have HF5 := (show Hid (∀ i, w5.frozen? ⟨w1.heap.size, i, none⟩ = false) from fun i => (HD4.out.still hb5).bg.frozen i)
      clear HD4 HT4 HC5 hA hb5 ho5 hb hx6
      by_cases hcd : cd = 0
      case neg =>
        have hcd0 : (cd == 0) = false := by simpa using hcd
        go_wp2_with fail
        go_meet
        exact ⟨G, a1, a2, a3, p1, p2, p3, HD6⟩
      case pos =>
        subst hcd
        have hsg := HOK.out rfl
        have hle : s.es.length ≤ 1000 ∧ s.ds.length ≤ 1000 ∧ s.rs.length ≤ 1000 := by
          unfold sgB spsB at hsg
          simp only [Bool.and_eq_true, decide_eq_true_eq] at hsg
          have h1 : s.es.length ≤ 120 := hsg.2.1
          have h2 : s.ds.length ≤ 120 := hsg.2.2.1.1
          have h3 : s.rs.length ≤ 120 := hsg.2.2.2.1.1
          omega
        have HGR := (show Hid (Gro (w.heap.size + 2) w5 (sgW s) (.slice b1 s.es.length q1) (.slice b2 s.ds.length q2) (.slice b3 s.rs.length q3)) from (Gro.of_ow HOW.out HPU.out hle).low HA.out)
        clear hsg hle HOW HPU HOK
        obtain ⟨j0, j1, j2, j3⟩ := cellsX HX6.out
        obtain ⟨i0, i1, i2, i3⟩ := cellsX HD6.out.bg
        obtain ⟨l0, l1, l2, l3⟩ := HI5.out
        have g0 := HF5.out 0
        have g1 := HF5.out 1
        have g2 := HF5.out 2
        have g3 := HF5.out 3
        have f0 := HD6.out.bg.frozen 0
        have f1 := HD6.out.bg.frozen 1
        have f2 := HD6.out.bg.frozen 2
        have f3 := HD6.out.bg.frozen 3
        have HD7 := (show Hid (DrR true cs a cap b off w [.int .i64 0, .slice none 0 0, .slice none 0 0, .slice none 0 0] w1.heap.size (sgW s) (.slice b1 s.es.length q1) (.slice b2 s.ds.length q2) (.slice b3 s.rs.length q3) ((set4 w5 w1.heap.size (.int .i64 (s.n : Nat)) (.slice b1 s.es.length q1) (.slice b2 s.ds.length q2) (.slice b3 s.rs.length q3)).alloc (.cells #[.int .i64 (s.n : Nat), (.slice b1 s.es.length q1), (.slice b2 s.ds.length q2), (.slice b3 s.rs.length q3)] 27))) from by
          have h := HD5.out
          obtain ⟨s9, hs9⟩ := h.cu rfl
          have hg := h.hg
          refine DrR.still (W := set4 w5 w1.heap.size (.int .i64 (s.n : Nat)) (.slice b1 s.es.length q1) (.slice b2 s.ds.length q2) (.slice b3 s.rs.length q3)) ?_ (bel_alloc _ _)
          exact ⟨set4_bel h.bel (by omega) _ _ _ _, h.bx.keep (set4_block _ _ _ _ _ _ (by omega)), fun _ => ⟨s9, hs9.keep (fun k hk => set4_block _ _ _ _ _ _ (by omega))⟩, (((h.bg.set 0 _).set 1 _).set 2 _).set 3 _, HGR.out.keep (fun k hk _ ho => set4_block _ _ _ _ _ _ (by
            rcases ho with ho | ho | ho
            · exact own_box HGR.out.e h.bg (by decide) ho
            · exact own_box HGR.out.d h.bg (by decide) ho
            · exact own_box HGR.out.r h.bg (by decide) ho)), hg⟩)
        unfold set4 at HD7
        clear HD6 HD5 HGR HX6
        go_wp2_with fail
        go_meet
        exact ⟨sgW s, b1, b2, b3, q1, q2, q3, HD7⟩
  case rest =>
    obtain ⟨G, a1, a2, a3, p1, p2, p3, HD9⟩ := hcut
    clear HD2
    obtain ⟨W9, hW9⟩ : ∃ W9, W9 = wc := ⟨_, rfl⟩
    rw [← hW9] at HD9 ⊢
    clear hW9
    have hle2 : G.decls.length ≤ 1000 := HD9.out.gr.le.2.1
    have hle2i : ((G.decls.length : Nat) : Int) ≤ 1000 := by omega
    have hwl : IntKind.i64.wrap (((G.decls.length : Nat) : Int) + 2) = ((G.decls.length : Nat) : Int) + 2 := by simp [IntKind.wrap, IntKind.bits, IntKind.signed]; omega
    have HPN := (show Hid (∀ (W : World) (sq : Nat × Nat), T.Cur W cs a cap b off (w.heap.size + 1) sq → Calls Try.prog 30 #[.pointer (some ⟨w.heap.size + 1, 0, none⟩), .int .i64 (((G.decls.length : Nat) : Int) + 2)] W fun e w' => ∃ (r : Nat) (s' : Nat × Nat), e = .returned (.int .i64 (r : Nat)) ∧ (0 < G.decls.length + 2 → r < G.decls.length + 2) ∧ T.Out (w.heap.size + 1) (w.heap.size + 1 + 1) W w' ∧ T.Cur w' cs a cap b off (w.heap.size + 1) s') from fun W sq h => by
      have := pickE (G.decls.length + 2) W h (by omega)
      rwa [show ((G.decls.length + 2 : Nat) : Int) = ((G.decls.length : Nat) : Int) + 2 from by omega] at this)
    go_wp2_with fail
    have hb : Below (W9).heap.size (W9) (W9).drew := (Below.refl _ _).drew
    have HE3 := (show Hid (DrR true cs a cap b off w [.int .i64 0, .slice none 0 0, .slice none 0 0, .slice none 0 0] w1.heap.size G (.slice a1 G.edges.length p1) (.slice a2 G.decls.length p2) (.slice a3 G.refs.length p3) ((W9).drew)) from HD9.out.still hb)
    clear hb HD9
    have hS := cellsX HE3.out.bg
    refine wp_region_held_drew (S := (fun wq => wq.cell? ⟨w1.heap.size, 0, none⟩ = some (.int .i64 G.scopes) ∧ wq.cell? ⟨w1.heap.size, 1, none⟩ = some (.slice a1 G.edges.length p1) ∧ wq.cell? ⟨w1.heap.size, 2, none⟩ = some (.slice a2 G.decls.length p2) ∧ wq.cell? ⟨w1.heap.size, 3, none⟩ = some (.slice a3 G.refs.length p3))) (by kernel_rfl) hS (fun hHeld => ?_)
    clear hS
    generalize (W9).drew = WR at *
    refine tkH (i := 0) (oi := oR7_0) (v := ?v1) ?h1 hHeld ?r1
    case h1 => (intro w hSw; (try dsimp only at hSw); go_simp; try with_reducible rfl)
    try simp only [Act.put, List.setIfInBounds_toArray, List.set_cons_zero, List.set_cons_succ]
    refine tkH (i := 1) (oi := oR7_1) (v := ?v2) ?h2 hHeld ?r2
    case h2 => (intro w hSw; (try dsimp only at hSw); go_simp; try with_reducible rfl)
    try simp only [Act.put, List.setIfInBounds_toArray, List.set_cons_zero, List.set_cons_succ]
    refine tkH (i := 2) (oi := oR7_2) (v := ?v3) ?h3 hHeld ?r3
    case h3 => (intro w hSw; (try dsimp only at hSw); go_simp; try with_reducible rfl)
    try simp only [Act.put, List.setIfInBounds_toArray, List.set_cons_zero, List.set_cons_succ]
    refine tkH (i := 3) (oi := oR7_3) (v := ?v4) ?h4 hHeld ?r4
    case h4 => (intro w hSw; (try dsimp only at hSw); go_simp; try with_reducible rfl)
    try simp only [Act.put, List.setIfInBounds_toArray, List.set_cons_zero, List.set_cons_succ]
    refine tkH (i := 4) (oi := oR7_4) (v := ?v5) ?h5 hHeld ?r5
    case h5 => (intro w hSw; (try dsimp only at hSw); go_simp; try with_reducible rfl)
    try simp only [Act.put, List.setIfInBounds_toArray, List.set_cons_zero, List.set_cons_succ]
    refine tkH (i := 5) (oi := oR7_5) (v := ?v6) ?h6 hHeld ?r6
    case h6 => (intro w hSw; (try dsimp only at hSw); go_simp; try with_reducible rfl)
    try simp only [Act.put, List.setIfInBounds_toArray, List.set_cons_zero, List.set_cons_succ]
    refine tkH (i := 7) (oi := oR7_7) (v := ?v7) ?h7 hHeld ?r7
    case h7 => (intro w hSw; (try dsimp only at hSw); go_simp; try with_reducible rfl)
    try simp only [Act.put, List.setIfInBounds_toArray, List.set_cons_zero, List.set_cons_succ]
    refine tkH (i := 11) (oi := oR7_11) (v := ?v8) ?h8 hHeld ?r8
    case h8 => (intro w hSw; (try dsimp only at hSw); go_simp; try with_reducible rfl)
    try simp only [Act.put, List.setIfInBounds_toArray, List.set_cons_zero, List.set_cons_succ]
    refine wpAnyH_ready (rs := [6, 10]) (by kernel_rfl) (by simp) ?_
    refine (AllReadyH.cons (o := oR7_6) rfl (fun K hK => ?_) (AllReadyH.cons (o := oR7_10) rfl (fun K hK => ?_) AllReadyH.nil))
    ·
     obtain ⟨s4, hs4⟩ := HE3.out.cu rfl
     go_simp
     go_at_call 30
     refine Calls.mono (HPN.out _ s4 hs4) ?_
     rintro e v4 ⟨r1, t4, rfl, hr1, hO, hC⟩
     have HE4 := hDrO HE3 hO hC
     clear hO hC hs4 HE3
     have hr1 : r1 < G.decls.length + 2 := hr1 (by omega)
     have hr1i : (r1 : Int) < 2000 := by omega
     have hS := cellsX HE4.out.bg
     clear hHeld
     refine hK.out _ _ hS (fun hHeld => ?_)
     clear hK K
     try simp only [Act.put, List.setIfInBounds_toArray, List.set_cons_zero, List.set_cons_succ]
     clear hS
     refine wpAnyH_ready (rs := [8, 10]) (by kernel_rfl) (by simp) ?_
     refine (AllReadyH.cons (o := oR7_8) rfl (fun K hK => ?_) (AllReadyH.cons (o := oR7_10) rfl (fun K hK => ?_) AllReadyH.nil))
     ·
      obtain ⟨s5, hs5⟩ := HE4.out.cu rfl
      go_simp
      go_at_call 30
      refine Calls.mono (pickE 2 _ hs5 (by decide)) ?_
      rintro e v5 ⟨r2, t5, rfl, hr2, hO, hC⟩
      have HE5 := hDrO HE4 hO hC
      clear hO hC hs5 HE4
      have hr2 : r2 < 2 := hr2 (by omega)
      have hr2i : (r2 : Int) < 2 := by omega
      have hwr : IntKind.i64.wrap ((r1 : Int) - (r2 : Int)) = (r1 : Int) - (r2 : Int) := by simp [IntKind.wrap, IntKind.bits, IntKind.signed]; omega
      have hS := cellsX HE5.out.bg
      clear hHeld
      refine hK.out _ _ hS (fun hHeld => ?_)
      clear hK K
      try simp only [Act.put, List.setIfInBounds_toArray, List.set_cons_zero, List.set_cons_succ]
      clear hS
      refine tkH (i := 9) (oi := oR7_9) (v := ?v9) ?h9 hHeld ?r9
      case h9 => (intro w hSw; (try dsimp only at hSw); go_simp; try with_reducible rfl)
      try simp only [Act.put, List.setIfInBounds_toArray, List.set_cons_zero, List.set_cons_succ]
      refine wpAnyH_ready (rs := [10, 12]) (by kernel_rfl) (by simp) ?_
      refine (AllReadyH.cons (o := oR7_10) rfl (fun K hK => ?_) (AllReadyH.cons (o := oR7_12) rfl (fun K hK => ?_) AllReadyH.nil))
      ·
       go_simp
       have hb := bel_alloc (v5) (.cells #[.string ⟨#[120]⟩, .string ⟨#[121]⟩, .string ⟨#[122]⟩, .string ⟨#[110, 101, 119]⟩, .string ⟨#[102]⟩, .string ⟨#[]⟩] 9)
       have HE6 := hDr HE5 hb
       have HN6 := (show Hid (Box ((v5).alloc (.cells #[.string ⟨#[120]⟩, .string ⟨#[121]⟩, .string ⟨#[122]⟩, .string ⟨#[110, 101, 119]⟩, .string ⟨#[102]⟩, .string ⟨#[]⟩] 9)) (v5).heap.size 9 [.string ⟨#[120]⟩, .string ⟨#[121]⟩, .string ⟨#[122]⟩, .string ⟨#[110, 101, 119]⟩, .string ⟨#[102]⟩, .string ⟨#[]⟩]) from Box.new _ 9 [.string ⟨#[120]⟩, .string ⟨#[121]⟩, .string ⟨#[122]⟩, .string ⟨#[110, 101, 119]⟩, .string ⟨#[102]⟩, .string ⟨#[]⟩])
       have hgn : w.heap.size + 2 ≤ (v5).heap.size := HE5.out.size
       clear hb HE5
       have hS := cellsX HE6.out.bg
       clear hHeld
       refine hK.out _ _ hS (fun hHeld => ?_)
       clear hK K
       try simp only [Act.put, List.setIfInBounds_toArray, List.set_cons_zero, List.set_cons_succ]
       clear hS
       generalize (v5).alloc (.cells #[.string ⟨#[120]⟩, .string ⟨#[121]⟩, .string ⟨#[122]⟩, .string ⟨#[110, 101, 119]⟩, .string ⟨#[102]⟩, .string ⟨#[]⟩] 9) = W6 at *
       generalize hgn0 : (v5).heap.size = gn at *
       clear hgn0
       refine wpAnyH_ready (rs := [12]) (by kernel_rfl) (by simp) ?_
       refine (AllReadyH.cons (o := oR7_12) rfl (fun K hK => ?_) AllReadyH.nil)
       obtain ⟨s7, hs7⟩ := HE6.out.cu rfl
       go_simp
       go_at_call 30
       refine Calls.mono (pickE 6 _ hs7 (by decide)) ?_
       rintro e v7 ⟨r3, t7, rfl, hr3, hO, hC⟩
       have HE7 := hDrO HE6 hO hC
       have HN7 := (show Hid (Box v7 gn 9 [.string ⟨#[120]⟩, .string ⟨#[121]⟩, .string ⟨#[122]⟩, .string ⟨#[110, 101, 119]⟩, .string ⟨#[102]⟩, .string ⟨#[]⟩]) from HN6.out.keep (hO.2.2.2.2 _ HN6.out.lt (by omega)))
       clear hO hC hs7 HE6 HN6
       have hr3 : r3 < 6 := hr3 (by omega)
       have hr3i : (r3 : Int) < 6 := by omega
       have hS := cellsX HE7.out.bg
       clear hHeld
       refine hK.out _ _ hS (fun hHeld => ?_)
       clear hK K
       try simp only [Act.put, List.setIfInBounds_toArray, List.set_cons_zero, List.set_cons_succ]
       clear hS
       refine tkH (i := 13) (oi := oR7_13) (v := ?v10) ?h10 hHeld ?r10
       case h10 => (intro w hSw; (try dsimp only at hSw); go_simp; try with_reducible rfl)
       try simp only [Act.put, List.setIfInBounds_toArray, List.set_cons_zero, List.set_cons_succ]
       refine wpAnyH_ready (rs := [14, 15]) (by kernel_rfl) (by simp) ?_
       refine (AllReadyH.cons (o := oR7_14) rfl (fun K hK => ?_) (AllReadyH.cons (o := oR7_15) rfl (fun K hK => ?_) AllReadyH.nil))
       ·
        have x5 := nlQ_at HN7.out hr3
        go_simp
        clear x5
        have hS := cellsX HE7.out.bg
        clear hHeld
        refine hK.out _ _ hS (fun hHeld => ?_)
        clear hK K
        try simp only [Act.put, List.setIfInBounds_toArray, List.set_cons_zero, List.set_cons_succ]
        clear hS
        refine wpAnyH_ready (rs := [15]) (by kernel_rfl) (by simp) ?_
        refine (AllReadyH.cons (o := oR7_15) rfl (fun K hK => ?_) AllReadyH.nil)
        obtain ⟨z0, z1, z2, z3⟩ := cellsX HE7.out.bx
        have y0 := HE7.out.bx.frozen 0
        have y1 := HE7.out.bx.frozen 1
        have y2 := HE7.out.bx.frozen 2
        have y3 := HE7.out.bx.frozen 3
        have HE8 := (show Hid (DrR false cs a cap b off w [.int .i64 G.scopes, (.slice a1 G.edges.length p1), (.slice a2 G.decls.length p2), (.slice a3 G.refs.length p3)] w1.heap.size G (.slice a1 G.edges.length p1) (.slice a2 G.decls.length p2) (.slice a3 G.refs.length p3) (set4 (v7) w.heap.size (.int .i64 G.scopes) (.slice a1 G.edges.length p1) (.slice a2 G.decls.length p2) (.slice a3 G.refs.length p3))) from HE7.out.store)
        have HN8 := (show Hid (Box (set4 (v7) w.heap.size (.int .i64 G.scopes) (.slice a1 G.edges.length p1) (.slice a2 G.decls.length p2) (.slice a3 G.refs.length p3)) gn 9 [.string ⟨#[120]⟩, .string ⟨#[121]⟩, .string ⟨#[122]⟩, .string ⟨#[110, 101, 119]⟩, .string ⟨#[102]⟩, .string ⟨#[]⟩]) from HN7.out.keep (set4_block _ _ _ _ _ _ (by omega)))
        go_simp
        clear z0 z1 z2 z3 y0 y1 y2 y3 HE7 HN7
        have hS := cellsX HE8.out.bg
        clear hHeld
        refine hK.out _ _ hS (fun hHeld => ?_)
        clear hK K
        try simp only [Act.put, List.setIfInBounds_toArray, List.set_cons_zero, List.set_cons_succ]
        clear hS
        unfold set4 at HE8 HN8
        generalize ((((v7).setCell ⟨w.heap.size, 0, none⟩ (.int .i64 G.scopes)).setCell ⟨w.heap.size, 1, none⟩ (.slice a1 G.edges.length p1)).setCell ⟨w.heap.size, 2, none⟩ (.slice a2 G.decls.length p2)).setCell ⟨w.heap.size, 3, none⟩ (.slice a3 G.refs.length p3) = W8 at *
        refine tkH (i := 16) (oi := oR7_16) (v := ?v11) ?h11 hHeld ?r11
        case h11 => (intro w hSw; (try dsimp only at hSw); go_simp; try with_reducible rfl)
        try simp only [Act.put, List.setIfInBounds_toArray, List.set_cons_zero, List.set_cons_succ]
        refine tkH (i := 17) (oi := oR7_17) (v := ?v12) ?h12 hHeld ?r12
        case h12 => (intro w hSw; (try dsimp only at hSw); go_simp; try with_reducible rfl)
        try simp only [Act.put, List.setIfInBounds_toArray, List.set_cons_zero, List.set_cons_succ]
        refine wpAnyH_done (by kernel_rfl) ?_ _
        clear hHeld
        obtain ⟨z0, z1, z2, z3⟩ := cellsX HE8.out.bx
        have y0 := HE8.out.bx.frozen 0
        have y1 := HE8.out.bx.frozen 1
        have y2 := HE8.out.bx.frozen 2
        have y3 := HE8.out.bx.frozen 3
        go_wp2_with fail
        refine bodyPost_ret (v := .tuple #[.agg #[.int .i64 G.scopes, (.slice a1 G.edges.length p1), (.slice a2 G.decls.length p2), (.slice a3 G.refs.length p3)], .int .i64 ((r1 : Int) - (r2 : Int)), .string (nlQ r3)]) (by simp [results, Try.results7, go_sem, z0, z1, z2, z3, y0, y1, y2, y3]) rfl ?_
        exact ⟨G, _, _, _, _, _, rfl, HE8.out.bel, HE8.out.gr.rd, nlQ_size _⟩
       ·
        obtain ⟨z0, z1, z2, z3⟩ := cellsX HE7.out.bx
        have y0 := HE7.out.bx.frozen 0
        have y1 := HE7.out.bx.frozen 1
        have y2 := HE7.out.bx.frozen 2
        have y3 := HE7.out.bx.frozen 3
        have HE8 := (show Hid (DrR false cs a cap b off w [.int .i64 G.scopes, (.slice a1 G.edges.length p1), (.slice a2 G.decls.length p2), (.slice a3 G.refs.length p3)] w1.heap.size G (.slice a1 G.edges.length p1) (.slice a2 G.decls.length p2) (.slice a3 G.refs.length p3) (set4 (v7) w.heap.size (.int .i64 G.scopes) (.slice a1 G.edges.length p1) (.slice a2 G.decls.length p2) (.slice a3 G.refs.length p3))) from HE7.out.store)
        have HN8 := (show Hid (Box (set4 (v7) w.heap.size (.int .i64 G.scopes) (.slice a1 G.edges.length p1) (.slice a2 G.decls.length p2) (.slice a3 G.refs.length p3)) gn 9 [.string ⟨#[120]⟩, .string ⟨#[121]⟩, .string ⟨#[122]⟩, .string ⟨#[110, 101, 119]⟩, .string ⟨#[102]⟩, .string ⟨#[]⟩]) from HN7.out.keep (set4_block _ _ _ _ _ _ (by omega)))
        go_simp
        clear z0 z1 z2 z3 y0 y1 y2 y3 HE7 HN7
        have hS := cellsX HE8.out.bg
        clear hHeld
        refine hK.out _ _ hS (fun hHeld => ?_)
        clear hK K
        try simp only [Act.put, List.setIfInBounds_toArray, List.set_cons_zero, List.set_cons_succ]
        clear hS
        unfold set4 at HE8 HN8
        generalize ((((v7).setCell ⟨w.heap.size, 0, none⟩ (.int .i64 G.scopes)).setCell ⟨w.heap.size, 1, none⟩ (.slice a1 G.edges.length p1)).setCell ⟨w.heap.size, 2, none⟩ (.slice a2 G.decls.length p2)).setCell ⟨w.heap.size, 3, none⟩ (.slice a3 G.refs.length p3) = W8 at *
        refine tkH (i := 16) (oi := oR7_16) (v := ?v13) ?h13 hHeld ?r13
        case h13 => (intro w hSw; (try dsimp only at hSw); go_simp; try with_reducible rfl)
        try simp only [Act.put, List.setIfInBounds_toArray, List.set_cons_zero, List.set_cons_succ]
        refine wpAnyH_ready (rs := [14]) (by kernel_rfl) (by simp) ?_
        refine (AllReadyH.cons (o := oR7_14) rfl (fun K hK => ?_) AllReadyH.nil)
        have x5 := nlQ_at HN8.out hr3
        go_simp
        clear x5
        have hS := cellsX HE8.out.bg
        clear hHeld
        refine hK.out _ _ hS (fun hHeld => ?_)
        clear hK K
        try simp only [Act.put, List.setIfInBounds_toArray, List.set_cons_zero, List.set_cons_succ]
        clear hS
        refine tkH (i := 17) (oi := oR7_17) (v := ?v14) ?h14 hHeld ?r14
        case h14 => (intro w hSw; (try dsimp only at hSw); go_simp; try with_reducible rfl)
        try simp only [Act.put, List.setIfInBounds_toArray, List.set_cons_zero, List.set_cons_succ]
        refine wpAnyH_done (by kernel_rfl) ?_ _
        clear hHeld
        obtain ⟨z0, z1, z2, z3⟩ := cellsX HE8.out.bx
        have y0 := HE8.out.bx.frozen 0
        have y1 := HE8.out.bx.frozen 1
        have y2 := HE8.out.bx.frozen 2
        have y3 := HE8.out.bx.frozen 3
        go_wp2_with fail
        refine bodyPost_ret (v := .tuple #[.agg #[.int .i64 G.scopes, (.slice a1 G.edges.length p1), (.slice a2 G.decls.length p2), (.slice a3 G.refs.length p3)], .int .i64 ((r1 : Int) - (r2 : Int)), .string (nlQ r3)]) (by simp [results, Try.results7, go_sem, z0, z1, z2, z3, y0, y1, y2, y3]) rfl ?_
        exact ⟨G, _, _, _, _, _, rfl, HE8.out.bel, HE8.out.gr.rd, nlQ_size _⟩
      ·
       obtain ⟨s6, hs6⟩ := HE5.out.cu rfl
       go_simp
       go_at_call 30
       refine Calls.mono (pickE 6 _ hs6 (by decide)) ?_
       rintro e v6 ⟨r3, t6, rfl, hr3, hO, hC⟩
       have HE6 := hDrO HE5 hO hC
       clear hO hC hs6 HE5
       have hr3 : r3 < 6 := hr3 (by omega)
       have hr3i : (r3 : Int) < 6 := by omega
       have hS := cellsX HE6.out.bg
       clear hHeld
       refine hK.out _ _ hS (fun hHeld => ?_)
       clear hK K
       try simp only [Act.put, List.setIfInBounds_toArray, List.set_cons_zero, List.set_cons_succ]
       clear hS
       refine wpAnyH_ready (rs := [10, 15]) (by kernel_rfl) (by simp) ?_
       refine (AllReadyH.cons (o := oR7_10) rfl (fun K hK => ?_) (AllReadyH.cons (o := oR7_15) rfl (fun K hK => ?_) AllReadyH.nil))
       ·
        go_simp
        have hb := bel_alloc (v6) (.cells #[.string ⟨#[120]⟩, .string ⟨#[121]⟩, .string ⟨#[122]⟩, .string ⟨#[110, 101, 119]⟩, .string ⟨#[102]⟩, .string ⟨#[]⟩] 9)
        have HE7 := hDr HE6 hb
        have HN7 := (show Hid (Box ((v6).alloc (.cells #[.string ⟨#[120]⟩, .string ⟨#[121]⟩, .string ⟨#[122]⟩, .string ⟨#[110, 101, 119]⟩, .string ⟨#[102]⟩, .string ⟨#[]⟩] 9)) (v6).heap.size 9 [.string ⟨#[120]⟩, .string ⟨#[121]⟩, .string ⟨#[122]⟩, .string ⟨#[110, 101, 119]⟩, .string ⟨#[102]⟩, .string ⟨#[]⟩]) from Box.new _ 9 [.string ⟨#[120]⟩, .string ⟨#[121]⟩, .string ⟨#[122]⟩, .string ⟨#[110, 101, 119]⟩, .string ⟨#[102]⟩, .string ⟨#[]⟩])
        have hgn : w.heap.size + 2 ≤ (v6).heap.size := HE6.out.size
        clear hb HE6
        have hS := cellsX HE7.out.bg
        clear hHeld
        refine hK.out _ _ hS (fun hHeld => ?_)
        clear hK K
        try simp only [Act.put, List.setIfInBounds_toArray, List.set_cons_zero, List.set_cons_succ]
        clear hS
        generalize (v6).alloc (.cells #[.string ⟨#[120]⟩, .string ⟨#[121]⟩, .string ⟨#[122]⟩, .string ⟨#[110, 101, 119]⟩, .string ⟨#[102]⟩, .string ⟨#[]⟩] 9) = W7 at *
        generalize hgn0 : (v6).heap.size = gn at *
        clear hgn0
        refine tkH (i := 13) (oi := oR7_13) (v := ?v15) ?h15 hHeld ?r15
        case h15 => (intro w hSw; (try dsimp only at hSw); go_simp; try with_reducible rfl)
        try simp only [Act.put, List.setIfInBounds_toArray, List.set_cons_zero, List.set_cons_succ]
        refine wpAnyH_ready (rs := [14, 15]) (by kernel_rfl) (by simp) ?_
        refine (AllReadyH.cons (o := oR7_14) rfl (fun K hK => ?_) (AllReadyH.cons (o := oR7_15) rfl (fun K hK => ?_) AllReadyH.nil))
        ·
         have x5 := nlQ_at HN7.out hr3
         go_simp
         clear x5
         have hS := cellsX HE7.out.bg
         clear hHeld
         refine hK.out _ _ hS (fun hHeld => ?_)
         clear hK K
         try simp only [Act.put, List.setIfInBounds_toArray, List.set_cons_zero, List.set_cons_succ]
         clear hS
         refine wpAnyH_ready (rs := [15]) (by kernel_rfl) (by simp) ?_
         refine (AllReadyH.cons (o := oR7_15) rfl (fun K hK => ?_) AllReadyH.nil)
         obtain ⟨z0, z1, z2, z3⟩ := cellsX HE7.out.bx
         have y0 := HE7.out.bx.frozen 0
         have y1 := HE7.out.bx.frozen 1
         have y2 := HE7.out.bx.frozen 2
         have y3 := HE7.out.bx.frozen 3
         have HE8 := (show Hid (DrR false cs a cap b off w [.int .i64 G.scopes, (.slice a1 G.edges.length p1), (.slice a2 G.decls.length p2), (.slice a3 G.refs.length p3)] w1.heap.size G (.slice a1 G.edges.length p1) (.slice a2 G.decls.length p2) (.slice a3 G.refs.length p3) (set4 (W7) w.heap.size (.int .i64 G.scopes) (.slice a1 G.edges.length p1) (.slice a2 G.decls.length p2) (.slice a3 G.refs.length p3))) from HE7.out.store)
         have HN8 := (show Hid (Box (set4 (W7) w.heap.size (.int .i64 G.scopes) (.slice a1 G.edges.length p1) (.slice a2 G.decls.length p2) (.slice a3 G.refs.length p3)) gn 9 [.string ⟨#[120]⟩, .string ⟨#[121]⟩, .string ⟨#[122]⟩, .string ⟨#[110, 101, 119]⟩, .string ⟨#[102]⟩, .string ⟨#[]⟩]) from HN7.out.keep (set4_block _ _ _ _ _ _ (by omega)))
         go_simp
         clear z0 z1 z2 z3 y0 y1 y2 y3 HE7 HN7
         have hS := cellsX HE8.out.bg
         clear hHeld
         refine hK.out _ _ hS (fun hHeld => ?_)
         clear hK K
         try simp only [Act.put, List.setIfInBounds_toArray, List.set_cons_zero, List.set_cons_succ]
         clear hS
         unfold set4 at HE8 HN8
         generalize ((((W7).setCell ⟨w.heap.size, 0, none⟩ (.int .i64 G.scopes)).setCell ⟨w.heap.size, 1, none⟩ (.slice a1 G.edges.length p1)).setCell ⟨w.heap.size, 2, none⟩ (.slice a2 G.decls.length p2)).setCell ⟨w.heap.size, 3, none⟩ (.slice a3 G.refs.length p3) = W8 at *
         refine tkH (i := 16) (oi := oR7_16) (v := ?v16) ?h16 hHeld ?r16
         case h16 => (intro w hSw; (try dsimp only at hSw); go_simp; try with_reducible rfl)
         try simp only [Act.put, List.setIfInBounds_toArray, List.set_cons_zero, List.set_cons_succ]
         refine tkH (i := 17) (oi := oR7_17) (v := ?v17) ?h17 hHeld ?r17
         case h17 => (intro w hSw; (try dsimp only at hSw); go_simp; try with_reducible rfl)
         try simp only [Act.put, List.setIfInBounds_toArray, List.set_cons_zero, List.set_cons_succ]
         refine wpAnyH_done (by kernel_rfl) ?_ _
         clear hHeld
         obtain ⟨z0, z1, z2, z3⟩ := cellsX HE8.out.bx
         have y0 := HE8.out.bx.frozen 0
         have y1 := HE8.out.bx.frozen 1
         have y2 := HE8.out.bx.frozen 2
         have y3 := HE8.out.bx.frozen 3
         go_wp2_with fail
         refine bodyPost_ret (v := .tuple #[.agg #[.int .i64 G.scopes, (.slice a1 G.edges.length p1), (.slice a2 G.decls.length p2), (.slice a3 G.refs.length p3)], .int .i64 ((r1 : Int) - (r2 : Int)), .string (nlQ r3)]) (by simp [results, Try.results7, go_sem, z0, z1, z2, z3, y0, y1, y2, y3]) rfl ?_
         exact ⟨G, _, _, _, _, _, rfl, HE8.out.bel, HE8.out.gr.rd, nlQ_size _⟩
        ·
         obtain ⟨z0, z1, z2, z3⟩ := cellsX HE7.out.bx
         have y0 := HE7.out.bx.frozen 0
         have y1 := HE7.out.bx.frozen 1
         have y2 := HE7.out.bx.frozen 2
         have y3 := HE7.out.bx.frozen 3
         have HE8 := (show Hid (DrR false cs a cap b off w [.int .i64 G.scopes, (.slice a1 G.edges.length p1), (.slice a2 G.decls.length p2), (.slice a3 G.refs.length p3)] w1.heap.size G (.slice a1 G.edges.length p1) (.slice a2 G.decls.length p2) (.slice a3 G.refs.length p3) (set4 (W7) w.heap.size (.int .i64 G.scopes) (.slice a1 G.edges.length p1) (.slice a2 G.decls.length p2) (.slice a3 G.refs.length p3))) from HE7.out.store)
         have HN8 := (show Hid (Box (set4 (W7) w.heap.size (.int .i64 G.scopes) (.slice a1 G.edges.length p1) (.slice a2 G.decls.length p2) (.slice a3 G.refs.length p3)) gn 9 [.string ⟨#[120]⟩, .string ⟨#[121]⟩, .string ⟨#[122]⟩, .string ⟨#[110, 101, 119]⟩, .string ⟨#[102]⟩, .string ⟨#[]⟩]) from HN7.out.keep (set4_block _ _ _ _ _ _ (by omega)))
         go_simp
         clear z0 z1 z2 z3 y0 y1 y2 y3 HE7 HN7
         have hS := cellsX HE8.out.bg
         clear hHeld
         refine hK.out _ _ hS (fun hHeld => ?_)
         clear hK K
         try simp only [Act.put, List.setIfInBounds_toArray, List.set_cons_zero, List.set_cons_succ]
         clear hS
         unfold set4 at HE8 HN8
         generalize ((((W7).setCell ⟨w.heap.size, 0, none⟩ (.int .i64 G.scopes)).setCell ⟨w.heap.size, 1, none⟩ (.slice a1 G.edges.length p1)).setCell ⟨w.heap.size, 2, none⟩ (.slice a2 G.decls.length p2)).setCell ⟨w.heap.size, 3, none⟩ (.slice a3 G.refs.length p3) = W8 at *
         refine tkH (i := 16) (oi := oR7_16) (v := ?v18) ?h18 hHeld ?r18
         case h18 => (intro w hSw; (try dsimp only at hSw); go_simp; try with_reducible rfl)
         try simp only [Act.put, List.setIfInBounds_toArray, List.set_cons_zero, List.set_cons_succ]
         refine wpAnyH_ready (rs := [14]) (by kernel_rfl) (by simp) ?_
         refine (AllReadyH.cons (o := oR7_14) rfl (fun K hK => ?_) AllReadyH.nil)
         have x5 := nlQ_at HN8.out hr3
         go_simp
         clear x5
         have hS := cellsX HE8.out.bg
         clear hHeld
         refine hK.out _ _ hS (fun hHeld => ?_)
         clear hK K
         try simp only [Act.put, List.setIfInBounds_toArray, List.set_cons_zero, List.set_cons_succ]
         clear hS
         refine tkH (i := 17) (oi := oR7_17) (v := ?v19) ?h19 hHeld ?r19
         case h19 => (intro w hSw; (try dsimp only at hSw); go_simp; try with_reducible rfl)
         try simp only [Act.put, List.setIfInBounds_toArray, List.set_cons_zero, List.set_cons_succ]
         refine wpAnyH_done (by kernel_rfl) ?_ _
         clear hHeld
         obtain ⟨z0, z1, z2, z3⟩ := cellsX HE8.out.bx
         have y0 := HE8.out.bx.frozen 0
         have y1 := HE8.out.bx.frozen 1
         have y2 := HE8.out.bx.frozen 2
         have y3 := HE8.out.bx.frozen 3
         go_wp2_with fail
         refine bodyPost_ret (v := .tuple #[.agg #[.int .i64 G.scopes, (.slice a1 G.edges.length p1), (.slice a2 G.decls.length p2), (.slice a3 G.refs.length p3)], .int .i64 ((r1 : Int) - (r2 : Int)), .string (nlQ r3)]) (by simp [results, Try.results7, go_sem, z0, z1, z2, z3, y0, y1, y2, y3]) rfl ?_
         exact ⟨G, _, _, _, _, _, rfl, HE8.out.bel, HE8.out.gr.rd, nlQ_size _⟩
       ·
        obtain ⟨z0, z1, z2, z3⟩ := cellsX HE6.out.bx
        have y0 := HE6.out.bx.frozen 0
        have y1 := HE6.out.bx.frozen 1
        have y2 := HE6.out.bx.frozen 2
        have y3 := HE6.out.bx.frozen 3
        have HE7 := (show Hid (DrR false cs a cap b off w [.int .i64 G.scopes, (.slice a1 G.edges.length p1), (.slice a2 G.decls.length p2), (.slice a3 G.refs.length p3)] w1.heap.size G (.slice a1 G.edges.length p1) (.slice a2 G.decls.length p2) (.slice a3 G.refs.length p3) (set4 (v6) w.heap.size (.int .i64 G.scopes) (.slice a1 G.edges.length p1) (.slice a2 G.decls.length p2) (.slice a3 G.refs.length p3))) from HE6.out.store)
        go_simp
        clear z0 z1 z2 z3 y0 y1 y2 y3 HE6
        have hS := cellsX HE7.out.bg
        clear hHeld
        refine hK.out _ _ hS (fun hHeld => ?_)
        clear hK K
        try simp only [Act.put, List.setIfInBounds_toArray, List.set_cons_zero, List.set_cons_succ]
        clear hS
        unfold set4 at HE7
        generalize ((((v6).setCell ⟨w.heap.size, 0, none⟩ (.int .i64 G.scopes)).setCell ⟨w.heap.size, 1, none⟩ (.slice a1 G.edges.length p1)).setCell ⟨w.heap.size, 2, none⟩ (.slice a2 G.decls.length p2)).setCell ⟨w.heap.size, 3, none⟩ (.slice a3 G.refs.length p3) = W7 at *
        refine tkH (i := 16) (oi := oR7_16) (v := ?v20) ?h20 hHeld ?r20
        case h20 => (intro w hSw; (try dsimp only at hSw); go_simp; try with_reducible rfl)
        try simp only [Act.put, List.setIfInBounds_toArray, List.set_cons_zero, List.set_cons_succ]
        refine wpAnyH_ready (rs := [10]) (by kernel_rfl) (by simp) ?_
        refine (AllReadyH.cons (o := oR7_10) rfl (fun K hK => ?_) AllReadyH.nil)
        go_simp
        have hb := bel_alloc (W7) (.cells #[.string ⟨#[120]⟩, .string ⟨#[121]⟩, .string ⟨#[122]⟩, .string ⟨#[110, 101, 119]⟩, .string ⟨#[102]⟩, .string ⟨#[]⟩] 9)
        have HE8 := hDr HE7 hb
        have HN8 := (show Hid (Box ((W7).alloc (.cells #[.string ⟨#[120]⟩, .string ⟨#[121]⟩, .string ⟨#[122]⟩, .string ⟨#[110, 101, 119]⟩, .string ⟨#[102]⟩, .string ⟨#[]⟩] 9)) (W7).heap.size 9 [.string ⟨#[120]⟩, .string ⟨#[121]⟩, .string ⟨#[122]⟩, .string ⟨#[110, 101, 119]⟩, .string ⟨#[102]⟩, .string ⟨#[]⟩]) from Box.new _ 9 [.string ⟨#[120]⟩, .string ⟨#[121]⟩, .string ⟨#[122]⟩, .string ⟨#[110, 101, 119]⟩, .string ⟨#[102]⟩, .string ⟨#[]⟩])
        have hgn : w.heap.size + 2 ≤ (W7).heap.size := HE7.out.size
        clear hb HE7
        have hS := cellsX HE8.out.bg
        clear hHeld
        refine hK.out _ _ hS (fun hHeld => ?_)
        clear hK K
        try simp only [Act.put, List.setIfInBounds_toArray, List.set_cons_zero, List.set_cons_succ]
        clear hS
        generalize (W7).alloc (.cells #[.string ⟨#[120]⟩, .string ⟨#[121]⟩, .string ⟨#[122]⟩, .string ⟨#[110, 101, 119]⟩, .string ⟨#[102]⟩, .string ⟨#[]⟩] 9) = W8 at *
        generalize hgn0 : (W7).heap.size = gn at *
        clear hgn0
        refine tkH (i := 13) (oi := oR7_13) (v := ?v21) ?h21 hHeld ?r21
        case h21 => (intro w hSw; (try dsimp only at hSw); go_simp; try with_reducible rfl)
        try simp only [Act.put, List.setIfInBounds_toArray, List.set_cons_zero, List.set_cons_succ]
        refine wpAnyH_ready (rs := [14]) (by kernel_rfl) (by simp) ?_
        refine (AllReadyH.cons (o := oR7_14) rfl (fun K hK => ?_) AllReadyH.nil)
        have x5 := nlQ_at HN8.out hr3
        go_simp
        clear x5
        have hS := cellsX HE8.out.bg
        clear hHeld
        refine hK.out _ _ hS (fun hHeld => ?_)
        clear hK K
        try simp only [Act.put, List.setIfInBounds_toArray, List.set_cons_zero, List.set_cons_succ]
        clear hS
        refine tkH (i := 17) (oi := oR7_17) (v := ?v22) ?h22 hHeld ?r22
        case h22 => (intro w hSw; (try dsimp only at hSw); go_simp; try with_reducible rfl)
        try simp only [Act.put, List.setIfInBounds_toArray, List.set_cons_zero, List.set_cons_succ]
        refine wpAnyH_done (by kernel_rfl) ?_ _
        clear hHeld
        obtain ⟨z0, z1, z2, z3⟩ := cellsX HE8.out.bx
        have y0 := HE8.out.bx.frozen 0
        have y1 := HE8.out.bx.frozen 1
        have y2 := HE8.out.bx.frozen 2
        have y3 := HE8.out.bx.frozen 3
        go_wp2_with fail
        refine bodyPost_ret (v := .tuple #[.agg #[.int .i64 G.scopes, (.slice a1 G.edges.length p1), (.slice a2 G.decls.length p2), (.slice a3 G.refs.length p3)], .int .i64 ((r1 : Int) - (r2 : Int)), .string (nlQ r3)]) (by simp [results, Try.results7, go_sem, z0, z1, z2, z3, y0, y1, y2, y3]) rfl ?_
        exact ⟨G, _, _, _, _, _, rfl, HE8.out.bel, HE8.out.gr.rd, nlQ_size _⟩
     ·
      go_simp
      have hb := bel_alloc (v4) (.cells #[.string ⟨#[120]⟩, .string ⟨#[121]⟩, .string ⟨#[122]⟩, .string ⟨#[110, 101, 119]⟩, .string ⟨#[102]⟩, .string ⟨#[]⟩] 9)
      have HE5 := hDr HE4 hb
      have HN5 := (show Hid (Box ((v4).alloc (.cells #[.string ⟨#[120]⟩, .string ⟨#[121]⟩, .string ⟨#[122]⟩, .string ⟨#[110, 101, 119]⟩, .string ⟨#[102]⟩, .string ⟨#[]⟩] 9)) (v4).heap.size 9 [.string ⟨#[120]⟩, .string ⟨#[121]⟩, .string ⟨#[122]⟩, .string ⟨#[110, 101, 119]⟩, .string ⟨#[102]⟩, .string ⟨#[]⟩]) from Box.new _ 9 [.string ⟨#[120]⟩, .string ⟨#[121]⟩, .string ⟨#[122]⟩, .string ⟨#[110, 101, 119]⟩, .string ⟨#[102]⟩, .string ⟨#[]⟩])
      have hgn : w.heap.size + 2 ≤ (v4).heap.size := HE4.out.size
      clear hb HE4
      have hS := cellsX HE5.out.bg
      clear hHeld
      refine hK.out _ _ hS (fun hHeld => ?_)
      clear hK K
      try simp only [Act.put, List.setIfInBounds_toArray, List.set_cons_zero, List.set_cons_succ]
      clear hS
      generalize (v4).alloc (.cells #[.string ⟨#[120]⟩, .string ⟨#[121]⟩, .string ⟨#[122]⟩, .string ⟨#[110, 101, 119]⟩, .string ⟨#[102]⟩, .string ⟨#[]⟩] 9) = W5 at *
      generalize hgn0 : (v4).heap.size = gn at *
      clear hgn0
      refine wpAnyH_ready (rs := [8]) (by kernel_rfl) (by simp) ?_
      refine (AllReadyH.cons (o := oR7_8) rfl (fun K hK => ?_) AllReadyH.nil)
      obtain ⟨s6, hs6⟩ := HE5.out.cu rfl
      go_simp
      go_at_call 30
      refine Calls.mono (pickE 2 _ hs6 (by decide)) ?_
      rintro e v6 ⟨r2, t6, rfl, hr2, hO, hC⟩
      have HE6 := hDrO HE5 hO hC
      have HN6 := (show Hid (Box v6 gn 9 [.string ⟨#[120]⟩, .string ⟨#[121]⟩, .string ⟨#[122]⟩, .string ⟨#[110, 101, 119]⟩, .string ⟨#[102]⟩, .string ⟨#[]⟩]) from HN5.out.keep (hO.2.2.2.2 _ HN5.out.lt (by omega)))
      clear hO hC hs6 HE5 HN5
      have hr2 : r2 < 2 := hr2 (by omega)
      have hr2i : (r2 : Int) < 2 := by omega
      have hwr : IntKind.i64.wrap ((r1 : Int) - (r2 : Int)) = (r1 : Int) - (r2 : Int) := by simp [IntKind.wrap, IntKind.bits, IntKind.signed]; omega
      have hS := cellsX HE6.out.bg
      clear hHeld
      refine hK.out _ _ hS (fun hHeld => ?_)
      clear hK K
      try simp only [Act.put, List.setIfInBounds_toArray, List.set_cons_zero, List.set_cons_succ]
      clear hS
      refine tkH (i := 9) (oi := oR7_9) (v := ?v23) ?h23 hHeld ?r23
      case h23 => (intro w hSw; (try dsimp only at hSw); go_simp; try with_reducible rfl)
      try simp only [Act.put, List.setIfInBounds_toArray, List.set_cons_zero, List.set_cons_succ]
      refine wpAnyH_ready (rs := [12]) (by kernel_rfl) (by simp) ?_
      refine (AllReadyH.cons (o := oR7_12) rfl (fun K hK => ?_) AllReadyH.nil)
      obtain ⟨s7, hs7⟩ := HE6.out.cu rfl
      go_simp
      go_at_call 30
      refine Calls.mono (pickE 6 _ hs7 (by decide)) ?_
      rintro e v7 ⟨r3, t7, rfl, hr3, hO, hC⟩
      have HE7 := hDrO HE6 hO hC
      have HN7 := (show Hid (Box v7 gn 9 [.string ⟨#[120]⟩, .string ⟨#[121]⟩, .string ⟨#[122]⟩, .string ⟨#[110, 101, 119]⟩, .string ⟨#[102]⟩, .string ⟨#[]⟩]) from HN6.out.keep (hO.2.2.2.2 _ HN6.out.lt (by omega)))
      clear hO hC hs7 HE6 HN6
      have hr3 : r3 < 6 := hr3 (by omega)
      have hr3i : (r3 : Int) < 6 := by omega
      have hS := cellsX HE7.out.bg
      clear hHeld
      refine hK.out _ _ hS (fun hHeld => ?_)
      clear hK K
      try simp only [Act.put, List.setIfInBounds_toArray, List.set_cons_zero, List.set_cons_succ]
      clear hS
      refine tkH (i := 13) (oi := oR7_13) (v := ?v24) ?h24 hHeld ?r24
      case h24 => (intro w hSw; (try dsimp only at hSw); go_simp; try with_reducible rfl)
      try simp only [Act.put, List.setIfInBounds_toArray, List.set_cons_zero, List.set_cons_succ]
      refine wpAnyH_ready (rs := [14, 15]) (by kernel_rfl) (by simp) ?_
      refine (AllReadyH.cons (o := oR7_14) rfl (fun K hK => ?_) (AllReadyH.cons (o := oR7_15) rfl (fun K hK => ?_) AllReadyH.nil))
      ·
       have x5 := nlQ_at HN7.out hr3
       go_simp
       clear x5
       have hS := cellsX HE7.out.bg
       clear hHeld
       refine hK.out _ _ hS (fun hHeld => ?_)
       clear hK K
       try simp only [Act.put, List.setIfInBounds_toArray, List.set_cons_zero, List.set_cons_succ]
       clear hS
       refine wpAnyH_ready (rs := [15]) (by kernel_rfl) (by simp) ?_
       refine (AllReadyH.cons (o := oR7_15) rfl (fun K hK => ?_) AllReadyH.nil)
       obtain ⟨z0, z1, z2, z3⟩ := cellsX HE7.out.bx
       have y0 := HE7.out.bx.frozen 0
       have y1 := HE7.out.bx.frozen 1
       have y2 := HE7.out.bx.frozen 2
       have y3 := HE7.out.bx.frozen 3
       have HE8 := (show Hid (DrR false cs a cap b off w [.int .i64 G.scopes, (.slice a1 G.edges.length p1), (.slice a2 G.decls.length p2), (.slice a3 G.refs.length p3)] w1.heap.size G (.slice a1 G.edges.length p1) (.slice a2 G.decls.length p2) (.slice a3 G.refs.length p3) (set4 (v7) w.heap.size (.int .i64 G.scopes) (.slice a1 G.edges.length p1) (.slice a2 G.decls.length p2) (.slice a3 G.refs.length p3))) from HE7.out.store)
       have HN8 := (show Hid (Box (set4 (v7) w.heap.size (.int .i64 G.scopes) (.slice a1 G.edges.length p1) (.slice a2 G.decls.length p2) (.slice a3 G.refs.length p3)) gn 9 [.string ⟨#[120]⟩, .string ⟨#[121]⟩, .string ⟨#[122]⟩, .string ⟨#[110, 101, 119]⟩, .string ⟨#[102]⟩, .string ⟨#[]⟩]) from HN7.out.keep (set4_block _ _ _ _ _ _ (by omega)))
       go_simp
       clear z0 z1 z2 z3 y0 y1 y2 y3 HE7 HN7
       have hS := cellsX HE8.out.bg
       clear hHeld
       refine hK.out _ _ hS (fun hHeld => ?_)
       clear hK K
       try simp only [Act.put, List.setIfInBounds_toArray, List.set_cons_zero, List.set_cons_succ]
       clear hS
       unfold set4 at HE8 HN8
       generalize ((((v7).setCell ⟨w.heap.size, 0, none⟩ (.int .i64 G.scopes)).setCell ⟨w.heap.size, 1, none⟩ (.slice a1 G.edges.length p1)).setCell ⟨w.heap.size, 2, none⟩ (.slice a2 G.decls.length p2)).setCell ⟨w.heap.size, 3, none⟩ (.slice a3 G.refs.length p3) = W8 at *
       refine tkH (i := 16) (oi := oR7_16) (v := ?v25) ?h25 hHeld ?r25
       case h25 => (intro w hSw; (try dsimp only at hSw); go_simp; try with_reducible rfl)
       try simp only [Act.put, List.setIfInBounds_toArray, List.set_cons_zero, List.set_cons_succ]
       refine tkH (i := 17) (oi := oR7_17) (v := ?v26) ?h26 hHeld ?r26
       case h26 => (intro w hSw; (try dsimp only at hSw); go_simp; try with_reducible rfl)
       try simp only [Act.put, List.setIfInBounds_toArray, List.set_cons_zero, List.set_cons_succ]
       refine wpAnyH_done (by kernel_rfl) ?_ _
       clear hHeld
       obtain ⟨z0, z1, z2, z3⟩ := cellsX HE8.out.bx
       have y0 := HE8.out.bx.frozen 0
       have y1 := HE8.out.bx.frozen 1
       have y2 := HE8.out.bx.frozen 2
       have y3 := HE8.out.bx.frozen 3
       go_wp2_with fail
       refine bodyPost_ret (v := .tuple #[.agg #[.int .i64 G.scopes, (.slice a1 G.edges.length p1), (.slice a2 G.decls.length p2), (.slice a3 G.refs.length p3)], .int .i64 ((r1 : Int) - (r2 : Int)), .string (nlQ r3)]) (by simp [results, Try.results7, go_sem, z0, z1, z2, z3, y0, y1, y2, y3]) rfl ?_
       exact ⟨G, _, _, _, _, _, rfl, HE8.out.bel, HE8.out.gr.rd, nlQ_size _⟩
      ·
       obtain ⟨z0, z1, z2, z3⟩ := cellsX HE7.out.bx
       have y0 := HE7.out.bx.frozen 0
       have y1 := HE7.out.bx.frozen 1
       have y2 := HE7.out.bx.frozen 2
       have y3 := HE7.out.bx.frozen 3
       have HE8 := (show Hid (DrR false cs a cap b off w [.int .i64 G.scopes, (.slice a1 G.edges.length p1), (.slice a2 G.decls.length p2), (.slice a3 G.refs.length p3)] w1.heap.size G (.slice a1 G.edges.length p1) (.slice a2 G.decls.length p2) (.slice a3 G.refs.length p3) (set4 (v7) w.heap.size (.int .i64 G.scopes) (.slice a1 G.edges.length p1) (.slice a2 G.decls.length p2) (.slice a3 G.refs.length p3))) from HE7.out.store)
       have HN8 := (show Hid (Box (set4 (v7) w.heap.size (.int .i64 G.scopes) (.slice a1 G.edges.length p1) (.slice a2 G.decls.length p2) (.slice a3 G.refs.length p3)) gn 9 [.string ⟨#[120]⟩, .string ⟨#[121]⟩, .string ⟨#[122]⟩, .string ⟨#[110, 101, 119]⟩, .string ⟨#[102]⟩, .string ⟨#[]⟩]) from HN7.out.keep (set4_block _ _ _ _ _ _ (by omega)))
       go_simp
       clear z0 z1 z2 z3 y0 y1 y2 y3 HE7 HN7
       have hS := cellsX HE8.out.bg
       clear hHeld
       refine hK.out _ _ hS (fun hHeld => ?_)
       clear hK K
       try simp only [Act.put, List.setIfInBounds_toArray, List.set_cons_zero, List.set_cons_succ]
       clear hS
       unfold set4 at HE8 HN8
       generalize ((((v7).setCell ⟨w.heap.size, 0, none⟩ (.int .i64 G.scopes)).setCell ⟨w.heap.size, 1, none⟩ (.slice a1 G.edges.length p1)).setCell ⟨w.heap.size, 2, none⟩ (.slice a2 G.decls.length p2)).setCell ⟨w.heap.size, 3, none⟩ (.slice a3 G.refs.length p3) = W8 at *
       refine tkH (i := 16) (oi := oR7_16) (v := ?v27) ?h27 hHeld ?r27
       case h27 => (intro w hSw; (try dsimp only at hSw); go_simp; try with_reducible rfl)
       try simp only [Act.put, List.setIfInBounds_toArray, List.set_cons_zero, List.set_cons_succ]
       refine wpAnyH_ready (rs := [14]) (by kernel_rfl) (by simp) ?_
       refine (AllReadyH.cons (o := oR7_14) rfl (fun K hK => ?_) AllReadyH.nil)
       have x5 := nlQ_at HN8.out hr3
       go_simp
       clear x5
       have hS := cellsX HE8.out.bg
       clear hHeld
       refine hK.out _ _ hS (fun hHeld => ?_)
       clear hK K
       try simp only [Act.put, List.setIfInBounds_toArray, List.set_cons_zero, List.set_cons_succ]
       clear hS
       refine tkH (i := 17) (oi := oR7_17) (v := ?v28) ?h28 hHeld ?r28
       case h28 => (intro w hSw; (try dsimp only at hSw); go_simp; try with_reducible rfl)
       try simp only [Act.put, List.setIfInBounds_toArray, List.set_cons_zero, List.set_cons_succ]
       refine wpAnyH_done (by kernel_rfl) ?_ _
       clear hHeld
       obtain ⟨z0, z1, z2, z3⟩ := cellsX HE8.out.bx
       have y0 := HE8.out.bx.frozen 0
       have y1 := HE8.out.bx.frozen 1
       have y2 := HE8.out.bx.frozen 2
       have y3 := HE8.out.bx.frozen 3
       go_wp2_with fail
       refine bodyPost_ret (v := .tuple #[.agg #[.int .i64 G.scopes, (.slice a1 G.edges.length p1), (.slice a2 G.decls.length p2), (.slice a3 G.refs.length p3)], .int .i64 ((r1 : Int) - (r2 : Int)), .string (nlQ r3)]) (by simp [results, Try.results7, go_sem, z0, z1, z2, z3, y0, y1, y2, y3]) rfl ?_
       exact ⟨G, _, _, _, _, _, rfl, HE8.out.bel, HE8.out.gr.rd, nlQ_size _⟩
    ·
     go_simp
     have hb := bel_alloc (WR) (.cells #[.string ⟨#[120]⟩, .string ⟨#[121]⟩, .string ⟨#[122]⟩, .string ⟨#[110, 101, 119]⟩, .string ⟨#[102]⟩, .string ⟨#[]⟩] 9)
     have HE4 := hDr HE3 hb
     have HN4 := (show Hid (Box ((WR).alloc (.cells #[.string ⟨#[120]⟩, .string ⟨#[121]⟩, .string ⟨#[122]⟩, .string ⟨#[110, 101, 119]⟩, .string ⟨#[102]⟩, .string ⟨#[]⟩] 9)) (WR).heap.size 9 [.string ⟨#[120]⟩, .string ⟨#[121]⟩, .string ⟨#[122]⟩, .string ⟨#[110, 101, 119]⟩, .string ⟨#[102]⟩, .string ⟨#[]⟩]) from Box.new _ 9 [.string ⟨#[120]⟩, .string ⟨#[121]⟩, .string ⟨#[122]⟩, .string ⟨#[110, 101, 119]⟩, .string ⟨#[102]⟩, .string ⟨#[]⟩])
     have hgn : w.heap.size + 2 ≤ (WR).heap.size := HE3.out.size
     clear hb HE3
     have hS := cellsX HE4.out.bg
     clear hHeld
     refine hK.out _ _ hS (fun hHeld => ?_)
     clear hK K
     try simp only [Act.put, List.setIfInBounds_toArray, List.set_cons_zero, List.set_cons_succ]
     clear hS
     generalize (WR).alloc (.cells #[.string ⟨#[120]⟩, .string ⟨#[121]⟩, .string ⟨#[122]⟩, .string ⟨#[110, 101, 119]⟩, .string ⟨#[102]⟩, .string ⟨#[]⟩] 9) = W4 at *
     generalize hgn0 : (WR).heap.size = gn at *
     clear hgn0
     refine wpAnyH_ready (rs := [6]) (by kernel_rfl) (by simp) ?_
     refine (AllReadyH.cons (o := oR7_6) rfl (fun K hK => ?_) AllReadyH.nil)
     obtain ⟨s5, hs5⟩ := HE4.out.cu rfl
     go_simp
     go_at_call 30
     refine Calls.mono (HPN.out _ s5 hs5) ?_
     rintro e v5 ⟨r1, t5, rfl, hr1, hO, hC⟩
     have HE5 := hDrO HE4 hO hC
     have HN5 := (show Hid (Box v5 gn 9 [.string ⟨#[120]⟩, .string ⟨#[121]⟩, .string ⟨#[122]⟩, .string ⟨#[110, 101, 119]⟩, .string ⟨#[102]⟩, .string ⟨#[]⟩]) from HN4.out.keep (hO.2.2.2.2 _ HN4.out.lt (by omega)))
     clear hO hC hs5 HE4 HN4
     have hr1 : r1 < G.decls.length + 2 := hr1 (by omega)
     have hr1i : (r1 : Int) < 2000 := by omega
     have hS := cellsX HE5.out.bg
     clear hHeld
     refine hK.out _ _ hS (fun hHeld => ?_)
     clear hK K
     try simp only [Act.put, List.setIfInBounds_toArray, List.set_cons_zero, List.set_cons_succ]
     clear hS
     refine wpAnyH_ready (rs := [8]) (by kernel_rfl) (by simp) ?_
     refine (AllReadyH.cons (o := oR7_8) rfl (fun K hK => ?_) AllReadyH.nil)
     obtain ⟨s6, hs6⟩ := HE5.out.cu rfl
     go_simp
     go_at_call 30
     refine Calls.mono (pickE 2 _ hs6 (by decide)) ?_
     rintro e v6 ⟨r2, t6, rfl, hr2, hO, hC⟩
     have HE6 := hDrO HE5 hO hC
     have HN6 := (show Hid (Box v6 gn 9 [.string ⟨#[120]⟩, .string ⟨#[121]⟩, .string ⟨#[122]⟩, .string ⟨#[110, 101, 119]⟩, .string ⟨#[102]⟩, .string ⟨#[]⟩]) from HN5.out.keep (hO.2.2.2.2 _ HN5.out.lt (by omega)))
     clear hO hC hs6 HE5 HN5
     have hr2 : r2 < 2 := hr2 (by omega)
     have hr2i : (r2 : Int) < 2 := by omega
     have hwr : IntKind.i64.wrap ((r1 : Int) - (r2 : Int)) = (r1 : Int) - (r2 : Int) := by simp [IntKind.wrap, IntKind.bits, IntKind.signed]; omega
     have hS := cellsX HE6.out.bg
     clear hHeld
     refine hK.out _ _ hS (fun hHeld => ?_)
     clear hK K
     try simp only [Act.put, List.setIfInBounds_toArray, List.set_cons_zero, List.set_cons_succ]
     clear hS
     refine tkH (i := 9) (oi := oR7_9) (v := ?v29) ?h29 hHeld ?r29
     case h29 => (intro w hSw; (try dsimp only at hSw); go_simp; try with_reducible rfl)
     try simp only [Act.put, List.setIfInBounds_toArray, List.set_cons_zero, List.set_cons_succ]
     refine wpAnyH_ready (rs := [12]) (by kernel_rfl) (by simp) ?_
     refine (AllReadyH.cons (o := oR7_12) rfl (fun K hK => ?_) AllReadyH.nil)
     obtain ⟨s7, hs7⟩ := HE6.out.cu rfl
     go_simp
     go_at_call 30
     refine Calls.mono (pickE 6 _ hs7 (by decide)) ?_
     rintro e v7 ⟨r3, t7, rfl, hr3, hO, hC⟩
     have HE7 := hDrO HE6 hO hC
     have HN7 := (show Hid (Box v7 gn 9 [.string ⟨#[120]⟩, .string ⟨#[121]⟩, .string ⟨#[122]⟩, .string ⟨#[110, 101, 119]⟩, .string ⟨#[102]⟩, .string ⟨#[]⟩]) from HN6.out.keep (hO.2.2.2.2 _ HN6.out.lt (by omega)))
     clear hO hC hs7 HE6 HN6
     have hr3 : r3 < 6 := hr3 (by omega)
     have hr3i : (r3 : Int) < 6 := by omega
     have hS := cellsX HE7.out.bg
     clear hHeld
     refine hK.out _ _ hS (fun hHeld => ?_)
     clear hK K
     try simp only [Act.put, List.setIfInBounds_toArray, List.set_cons_zero, List.set_cons_succ]
     clear hS
     refine tkH (i := 13) (oi := oR7_13) (v := ?v30) ?h30 hHeld ?r30
     case h30 => (intro w hSw; (try dsimp only at hSw); go_simp; try with_reducible rfl)
     try simp only [Act.put, List.setIfInBounds_toArray, List.set_cons_zero, List.set_cons_succ]
     refine wpAnyH_ready (rs := [14, 15]) (by kernel_rfl) (by simp) ?_
     refine (AllReadyH.cons (o := oR7_14) rfl (fun K hK => ?_) (AllReadyH.cons (o := oR7_15) rfl (fun K hK => ?_) AllReadyH.nil))
     ·
      have x5 := nlQ_at HN7.out hr3
      go_simp
      clear x5
      have hS := cellsX HE7.out.bg
      clear hHeld
      refine hK.out _ _ hS (fun hHeld => ?_)
      clear hK K
      try simp only [Act.put, List.setIfInBounds_toArray, List.set_cons_zero, List.set_cons_succ]
      clear hS
      refine wpAnyH_ready (rs := [15]) (by kernel_rfl) (by simp) ?_
      refine (AllReadyH.cons (o := oR7_15) rfl (fun K hK => ?_) AllReadyH.nil)
      obtain ⟨z0, z1, z2, z3⟩ := cellsX HE7.out.bx
      have y0 := HE7.out.bx.frozen 0
      have y1 := HE7.out.bx.frozen 1
      have y2 := HE7.out.bx.frozen 2
      have y3 := HE7.out.bx.frozen 3
      have HE8 := (show Hid (DrR false cs a cap b off w [.int .i64 G.scopes, (.slice a1 G.edges.length p1), (.slice a2 G.decls.length p2), (.slice a3 G.refs.length p3)] w1.heap.size G (.slice a1 G.edges.length p1) (.slice a2 G.decls.length p2) (.slice a3 G.refs.length p3) (set4 (v7) w.heap.size (.int .i64 G.scopes) (.slice a1 G.edges.length p1) (.slice a2 G.decls.length p2) (.slice a3 G.refs.length p3))) from HE7.out.store)
      have HN8 := (show Hid (Box (set4 (v7) w.heap.size (.int .i64 G.scopes) (.slice a1 G.edges.length p1) (.slice a2 G.decls.length p2) (.slice a3 G.refs.length p3)) gn 9 [.string ⟨#[120]⟩, .string ⟨#[121]⟩, .string ⟨#[122]⟩, .string ⟨#[110, 101, 119]⟩, .string ⟨#[102]⟩, .string ⟨#[]⟩]) from HN7.out.keep (set4_block _ _ _ _ _ _ (by omega)))
      go_simp
      clear z0 z1 z2 z3 y0 y1 y2 y3 HE7 HN7
      have hS := cellsX HE8.out.bg
      clear hHeld
      refine hK.out _ _ hS (fun hHeld => ?_)
      clear hK K
      try simp only [Act.put, List.setIfInBounds_toArray, List.set_cons_zero, List.set_cons_succ]
      clear hS
      unfold set4 at HE8 HN8
      generalize ((((v7).setCell ⟨w.heap.size, 0, none⟩ (.int .i64 G.scopes)).setCell ⟨w.heap.size, 1, none⟩ (.slice a1 G.edges.length p1)).setCell ⟨w.heap.size, 2, none⟩ (.slice a2 G.decls.length p2)).setCell ⟨w.heap.size, 3, none⟩ (.slice a3 G.refs.length p3) = W8 at *
      refine tkH (i := 16) (oi := oR7_16) (v := ?v31) ?h31 hHeld ?r31
      case h31 => (intro w hSw; (try dsimp only at hSw); go_simp; try with_reducible rfl)
      try simp only [Act.put, List.setIfInBounds_toArray, List.set_cons_zero, List.set_cons_succ]
      refine tkH (i := 17) (oi := oR7_17) (v := ?v32) ?h32 hHeld ?r32
      case h32 => (intro w hSw; (try dsimp only at hSw); go_simp; try with_reducible rfl)
      try simp only [Act.put, List.setIfInBounds_toArray, List.set_cons_zero, List.set_cons_succ]
      refine wpAnyH_done (by kernel_rfl) ?_ _
      clear hHeld
      obtain ⟨z0, z1, z2, z3⟩ := cellsX HE8.out.bx
      have y0 := HE8.out.bx.frozen 0
      have y1 := HE8.out.bx.frozen 1
      have y2 := HE8.out.bx.frozen 2
      have y3 := HE8.out.bx.frozen 3
      go_wp2_with fail
      refine bodyPost_ret (v := .tuple #[.agg #[.int .i64 G.scopes, (.slice a1 G.edges.length p1), (.slice a2 G.decls.length p2), (.slice a3 G.refs.length p3)], .int .i64 ((r1 : Int) - (r2 : Int)), .string (nlQ r3)]) (by simp [results, Try.results7, go_sem, z0, z1, z2, z3, y0, y1, y2, y3]) rfl ?_
      exact ⟨G, _, _, _, _, _, rfl, HE8.out.bel, HE8.out.gr.rd, nlQ_size _⟩
     ·
      obtain ⟨z0, z1, z2, z3⟩ := cellsX HE7.out.bx
      have y0 := HE7.out.bx.frozen 0
      have y1 := HE7.out.bx.frozen 1
      have y2 := HE7.out.bx.frozen 2
      have y3 := HE7.out.bx.frozen 3
      have HE8 := (show Hid (DrR false cs a cap b off w [.int .i64 G.scopes, (.slice a1 G.edges.length p1), (.slice a2 G.decls.length p2), (.slice a3 G.refs.length p3)] w1.heap.size G (.slice a1 G.edges.length p1) (.slice a2 G.decls.length p2) (.slice a3 G.refs.length p3) (set4 (v7) w.heap.size (.int .i64 G.scopes) (.slice a1 G.edges.length p1) (.slice a2 G.decls.length p2) (.slice a3 G.refs.length p3))) from HE7.out.store)
      have HN8 := (show Hid (Box (set4 (v7) w.heap.size (.int .i64 G.scopes) (.slice a1 G.edges.length p1) (.slice a2 G.decls.length p2) (.slice a3 G.refs.length p3)) gn 9 [.string ⟨#[120]⟩, .string ⟨#[121]⟩, .string ⟨#[122]⟩, .string ⟨#[110, 101, 119]⟩, .string ⟨#[102]⟩, .string ⟨#[]⟩]) from HN7.out.keep (set4_block _ _ _ _ _ _ (by omega)))
      go_simp
      clear z0 z1 z2 z3 y0 y1 y2 y3 HE7 HN7
      have hS := cellsX HE8.out.bg
      clear hHeld
      refine hK.out _ _ hS (fun hHeld => ?_)
      clear hK K
      try simp only [Act.put, List.setIfInBounds_toArray, List.set_cons_zero, List.set_cons_succ]
      clear hS
      unfold set4 at HE8 HN8
      generalize ((((v7).setCell ⟨w.heap.size, 0, none⟩ (.int .i64 G.scopes)).setCell ⟨w.heap.size, 1, none⟩ (.slice a1 G.edges.length p1)).setCell ⟨w.heap.size, 2, none⟩ (.slice a2 G.decls.length p2)).setCell ⟨w.heap.size, 3, none⟩ (.slice a3 G.refs.length p3) = W8 at *
      refine tkH (i := 16) (oi := oR7_16) (v := ?v33) ?h33 hHeld ?r33
      case h33 => (intro w hSw; (try dsimp only at hSw); go_simp; try with_reducible rfl)
      try simp only [Act.put, List.setIfInBounds_toArray, List.set_cons_zero, List.set_cons_succ]
      refine wpAnyH_ready (rs := [14]) (by kernel_rfl) (by simp) ?_
      refine (AllReadyH.cons (o := oR7_14) rfl (fun K hK => ?_) AllReadyH.nil)
      have x5 := nlQ_at HN8.out hr3
      go_simp
      clear x5
      have hS := cellsX HE8.out.bg
      clear hHeld
      refine hK.out _ _ hS (fun hHeld => ?_)
      clear hK K
      try simp only [Act.put, List.setIfInBounds_toArray, List.set_cons_zero, List.set_cons_succ]
      clear hS
      refine tkH (i := 17) (oi := oR7_17) (v := ?v34) ?h34 hHeld ?r34
      case h34 => (intro w hSw; (try dsimp only at hSw); go_simp; try with_reducible rfl)
      try simp only [Act.put, List.setIfInBounds_toArray, List.set_cons_zero, List.set_cons_succ]
      refine wpAnyH_done (by kernel_rfl) ?_ _
      clear hHeld
      obtain ⟨z0, z1, z2, z3⟩ := cellsX HE8.out.bx
      have y0 := HE8.out.bx.frozen 0
      have y1 := HE8.out.bx.frozen 1
      have y2 := HE8.out.bx.frozen 2
      have y3 := HE8.out.bx.frozen 3
      go_wp2_with fail
      refine bodyPost_ret (v := .tuple #[.agg #[.int .i64 G.scopes, (.slice a1 G.edges.length p1), (.slice a2 G.decls.length p2), (.slice a3 G.refs.length p3)], .int .i64 ((r1 : Int) - (r2 : Int)), .string (nlQ r3)]) (by simp [results, Try.results7, go_sem, z0, z1, z2, z3, y0, y1, y2, y3]) rfl ?_
      exact ⟨G, _, _, _, _, _, rfl, HE8.out.bel, HE8.out.gr.rd, nlQ_size _⟩
end Go.Proofs.Ytledclkmeikgdaa
