import Derived.Test.YtboffildchoelaaXa
import Derived.Test.YtboffildchoelaaMn
import Derived.Test.YtboffildchoelaaPs
import Derived.Laws.OwnMore
/-! The program: the reader of patterns as it lies; a variable gets its number. -/
namespace Go.Proofs.Ytboffildchoelaa
open Go.RowKit Go.Deep Go.Maps Go.WideMaps Go.ChangeMaps Go.Lib
set_option linter.unusedVariables false
set_option maxRecDepth 100000
set_option linter.unusedSimpArgs false

/-- All but what T says is as it was. -/
structure Fm (T : Nat → Prop) (w w' : World) : Prop where
  os : w'.os = w.os
  tape : w'.tape = w.tape
  output : w'.output = w.output
  size : w.heap.size ≤ w'.heap.size
  block : ∀ q, q < w.heap.size → ¬ T q → w'.heap[q]? = w.heap[q]?
theorem Fm.of_below {T : Nat → Prop} {w w' : World} (h : Below w.heap.size w w') : Fm T w w' := ⟨h.os, h.tape, h.output, h.size, fun q hq _ => h.block q hq⟩
theorem Fm.refl (T : Nat → Prop) (w : World) : Fm T w w := Fm.of_below (Below.refl _ _)
theorem Fm.trans {T T' : Nat → Prop} {a b c : World} (h : Fm T a b) (k : Fm T' b c) (hT : ∀ q, q < a.heap.size → T' q → T q) : Fm T a c :=
  ⟨k.os.trans h.os, k.tape.trans h.tape, k.output.trans h.output, Nat.le_trans h.size k.size, fun q hq hn => (k.block q (Nat.lt_of_lt_of_le hq h.size) (fun e => hn (hT q hq e))).trans (h.block q hq hn)⟩
theorem Fm.still {T : Nat → Prop} {a b c : World} (h : Fm T a b) (k : Below b.heap.size b c) : Fm T a c := h.trans (T' := T) (Fm.of_below k) (fun _ _ e => e)
theorem Fm.set {T : Nat → Prop} {b o : Nat} {w : World} {u : Value} (h : T b) : Fm T w (w.setCell ⟨b, o, none⟩ u) :=
  ⟨rfl, rfl, rfl, by simp [World.setCell], fun q _ hn => blk_setCell_other _ _ _ _ (by show q ≠ b; exact fun e => hn (e ▸ h))⟩
theorem Fm.of_k1 {T : Nat → Prop} {b : Nat} {w w' : World} (h : K1 b w w') (hT : T b) : Fm T w w' := ⟨h.os, h.tape, h.output, h.size, fun q hq hn => h.block q hq (fun e => hn (e ▸ hT))⟩
theorem Fm.of_grown {T : Nat → Prop} {v : Value} {w w' : World} (h : w.grownBy w' v.ownBlock) (hT : ∀ q, v.ownBlock = some q → T q) : Fm T w w' := ⟨h.os, h.tape, h.output, h.size, fun q hq hn => h.block q hq (fun e => hn (hT q e.symm))⟩
theorem Fm.below {T : Nat → Prop} {B : Nat} {w w' : World} (h : Fm T w w') (hT : ∀ q, T q → B ≤ q) (hB : B ≤ w.heap.size) : Below B w w' :=
  ⟨h.os, h.tape, h.output, h.size, fun q hq => h.block q (by omega) (fun e => by have := hT q e; omega)⟩
theorem Fm.drew {T : Nat → Prop} {w w' : World} (h : Fm T w w') : Fm T w w'.drew := h.still ((Below.refl _ _).drew)
theorem Box.fm {T : Nat → Prop} {w w' : World} {g ty : Nat} {cs : List Value} (h : Box w g ty cs) (hf : Fm T w w') (hn : ¬ T g) : Box w' g ty cs := h.keep (hf.block g h.lt hn)
/-- A list of truth values. -/
def allB (bs : List Value) : Prop := ∀ x, x ∈ bs → ∃ c : Bool, x = .bool c
/-- The reader as it lies. -/
structure Rs (w : World) (B b m : Nat) (ks : List ByteArray) (hn : Nat) (f : Bool) (uv uh : Value) : Prop where
  bx : Box w b 112 [.map (some m), uv, uh, .bool f]
  mp : Mn w m 9 (strs ks)
  rv : ∃ bs : List Value, allB bs ∧ w.ownsRow B 4 1 uv ks.length bs
  rh : ∃ hs : List Value, w.ownsRow B 138 1 uh hn hs
  hb : B ≤ b
  hm : B ≤ m
  n1 : b ≠ m
  n2 : ∀ q, uv.ownBlock = some q → q ≠ b ∧ q ≠ m
  n3 : ∀ q, uh.ownBlock = some q → q ≠ b ∧ q ≠ m ∧ uv.ownBlock ≠ some q
theorem Rs.keep {w w' : World} {B b m : Nat} {ks : List ByteArray} {hn : Nat} {f : Bool} {uv uh : Value} (h : Rs w B b m ks hn f uv uh) (hb : ∀ q, q < w.heap.size → w'.heap[q]? = w.heap[q]?) : Rs w' B b m ks hn f uv uh := by
  obtain ⟨bs, h1, h2⟩ := h.rv
  obtain ⟨hs, h3⟩ := h.rh
  exact ⟨h.bx.keep (hb _ h.bx.lt), h.mp.keep (hb _ h.mp.lt), ⟨bs, h1, own_keep1 h2 (fun q hq => hb q (h2.lt q hq).2)⟩, ⟨hs, own_keep1 h3 (fun q hq => hb q (h3.lt q hq).2)⟩, h.hb, h.hm, h.n1, h.n2, h.n3⟩
theorem Rs.still {w w' : World} {B b m : Nat} {ks : List ByteArray} {hn : Nat} {f : Bool} {uv uh : Value} (h : Rs w B b m ks hn f uv uh) (hb : Below w.heap.size w w') : Rs w' B b m ks hn f uv uh := h.keep (fun q hq => hb.block q hq)
/-- What may be written into while a pattern is read. -/
def To (b m : Nat) (uv uh pvv : Value) (q : Nat) : Prop := q = b ∨ q = m ∨ uv.ownBlock = some q ∨ uh.ownBlock = some q ∨ pvv.ownBlock = some q
/-- A row is where it was, or in a new block. -/
def At1 (H : Nat) (u u' : Value) : Prop := u'.ownBlock = u.ownBlock ∨ ∃ q, u'.ownBlock = some q ∧ H ≤ q
theorem At1.refl (H : Nat) (u : Value) : At1 H u u := .inl rfl
theorem At1.trans {H H' : Nat} {u u1 u2 : Value} (h : At1 H u u1) (k : At1 H' u1 u2) (hH : H ≤ H') : At1 H u u2 := by
  rcases k with e | ⟨q, e, hq⟩
  · rcases h with e2 | ⟨q, e2, hq⟩
    · exact .inl (e.trans e2)
    · exact .inr ⟨q, e.trans e2, hq⟩
  · exact .inr ⟨q, e, by omega⟩
theorem Rs.f {w : World} {B b m : Nat} {ks : List ByteArray} {hn : Nat} {f f' : Bool} {uv uh : Value} (h : Rs w B b m ks hn f uv uh) : Rs (w.setCell ⟨b, 3, none⟩ (.bool f')) B b m ks hn f' uv uh := by
  obtain ⟨bs, h1, h2⟩ := h.rv
  obtain ⟨hs, h3⟩ := h.rh
  have hk : ∀ q, q ≠ b → (w.setCell ⟨b, 3, none⟩ (.bool f')).heap[q]? = w.heap[q]? := fun q hq => blk_setCell_other _ _ _ _ (by show q ≠ b; exact hq)
  exact ⟨h.bx.set 3 _, h.mp.keep (hk _ (Ne.symm h.n1)), ⟨bs, h1, own_keep1 h2 (fun q hq => hk q (h.n2 q hq).1)⟩, ⟨hs, own_keep1 h3 (fun q hq => hk q (h.n3 q hq).1)⟩, h.hb, h.hm, h.n1, h.n2, h.n3⟩
theorem info4s : (Try.prog.info? 4).map (fun i => (i.zero, i.size, i.bytes)) = some (some (.bool false), 1, 1) := by kernel_rfl
theorem allB_set {bs : List Value} (h : allB bs) (j : Nat) (c : Bool) : allB (bs.set j (.bool c)) := by
  intro x hx
  rcases List.mem_or_eq_of_mem_set hx with e | e
  · exact h x e
  · exact ⟨c, e⟩
theorem strs_app (ks : List ByteArray) (x : ByteArray) : strs ks ++ [.string x] = strs (ks ++ [x]) := by simp [strs]
theorem strs_mem {ks : List ByteArray} {x : ByteArray} : Value.string x ∈ strs ks ↔ x ∈ ks := by
  unfold strs
  rw [List.mem_map]
  constructor
  · rintro ⟨y, h1, h2⟩
    injection h2 with h2
    subst h2
    exact h1
  · intro h
    exact ⟨x, h, rfl⟩
/-- What a variable's number leaves. -/
def VaA (B b m : Nat) (ks : List ByteArray) (hn : Nat) (f : Bool) (uv uh : Value) (x : ByteArray) (w : World) (e : Ending) (w' : World) : Prop :=
  ∃ (num : Nat) (uv' : Value), e = .returned (.int .i64 (num : Nat)) ∧ Rs w' B b m (adS ks x) hn (f || !(nmB x)) uv' uh ∧ Fm (fun q => q = b ∨ q = m ∨ uv.ownBlock = some q) w w' ∧ At1 w.heap.size uv uv' ∧ num < (adS ks x).length
abbrev o71_0 : Oper := { dst := some 42, op := Go.Op.move (Go.Operand.tmp 0), type := 122, pos := "l16_meanings.go:458", after := #[], guard := none }
abbrev o71_1 : Oper := { dst := some 43, op := Go.Op.nilCheck (Go.Operand.tmp 42), type := 0, pos := "l16_meanings.go:458", after := #[{ on := 0, ground := Go.Ground.data }], guard := none }
abbrev o71_2 : Oper := { dst := some 44, op := Go.Op.fieldAddr 112 (Go.Operand.tmp 43) 1, type := 0, pos := "l16_meanings.go:458", after := #[{ on := 1, ground := Go.Ground.data }], guard := none }
abbrev o71_3 : Oper := { dst := some 45, op := Go.Op.load 84 (Go.Operand.tmp 44), type := 84, pos := "l16_meanings.go:458", after := #[{ on := 2, ground := Go.Ground.data }], guard := none }
abbrev o71_4 : Oper := { dst := some 46, op := Go.Op.move (Go.Operand.tmp 5), type := 3, pos := "l16_meanings.go:458", after := #[], guard := none }
abbrev o71_5 : Oper := { dst := some 47, op := Go.Op.move (Go.Operand.tmp 0), type := 122, pos := "l16_meanings.go:458", after := #[], guard := none }
abbrev o71_6 : Oper := { dst := some 48, op := Go.Op.nilCheck (Go.Operand.tmp 47), type := 0, pos := "l16_meanings.go:458", after := #[{ on := 5, ground := Go.Ground.data }], guard := none }
abbrev o71_7 : Oper := { dst := some 49, op := Go.Op.fieldAddr 112 (Go.Operand.tmp 48) 1, type := 0, pos := "l16_meanings.go:458", after := #[{ on := 6, ground := Go.Ground.data }], guard := none }
abbrev o71_8 : Oper := { dst := some 50, op := Go.Op.load 84 (Go.Operand.tmp 49), type := 84, pos := "l16_meanings.go:458", after := #[{ on := 7, ground := Go.Ground.data }], guard := none }
abbrev o71_9 : Oper := { dst := some 51, op := Go.Op.move (Go.Operand.tmp 5), type := 3, pos := "l16_meanings.go:458", after := #[], guard := none }
abbrev o71_10 : Oper := { dst := some 52, op := Go.Op.indexAddr 84 (Go.Operand.tmp 50) (Go.Operand.tmp 51), type := 0, pos := "l16_meanings.go:458", after := #[{ on := 8, ground := Go.Ground.data }, { on := 9, ground := Go.Ground.data }], guard := none }
abbrev o71_11 : Oper := { dst := some 53, op := Go.Op.load 4 (Go.Operand.tmp 52), type := 4, pos := "l16_meanings.go:458", after := #[{ on := 10, ground := Go.Ground.data }], guard := none }
abbrev o71_12 : Oper := { dst := some 54, op := Go.Op.move (Go.Operand.tmp 53), type := 4, pos := "l16_meanings.go:458", after := #[{ on := 11, ground := Go.Ground.data }], guard := none }
abbrev o71_13 : Oper := { dst := some 55, op := Go.Op.fieldAddr 42 (Go.Operand.tmp 3) 0, type := 0, pos := "l16_meanings.go:458", after := #[{ on := 12, ground := Go.Ground.guard }], guard := some (12, false) }
abbrev o71_14 : Oper := { dst := some 56, op := Go.Op.load 9 (Go.Operand.tmp 55), type := 9, pos := "l16_meanings.go:458", after := #[{ on := 13, ground := Go.Ground.data }, { on := 12, ground := Go.Ground.guard }], guard := some (12, false) }
abbrev o71_15 : Oper := { dst := some 57, op := Go.Op.binOp Go.BinOp.eql 9 (Go.Operand.tmp 56) (Go.Operand.const (Go.Value.string { data := #[86, 97, 108] })) 9, type := 4, pos := "l16_meanings.go:458", after := #[{ on := 14, ground := Go.Ground.data }, { on := 12, ground := Go.Ground.guard }], guard := some (12, false) }
abbrev o71_16 : Oper := { dst := some 58, op := Go.Op.pick (Go.Operand.tmp 54) (Go.Operand.const (Go.Value.bool true)) (Go.Operand.tmp 57), type := 4, pos := "l16_meanings.go:458", after := #[{ on := 12, ground := Go.Ground.data }, { on := 15, ground := Go.Ground.data }], guard := none }
abbrev o71_17 : Oper := { dst := some 59, op := Go.Op.indexAddr 84 (Go.Operand.tmp 45) (Go.Operand.tmp 46), type := 0, pos := "l16_meanings.go:458", after := #[{ on := 3, ground := Go.Ground.data }, { on := 4, ground := Go.Ground.data }, { on := 0, ground := Go.Ground.phase }, { on := 1, ground := Go.Ground.phase }, { on := 2, ground := Go.Ground.phase }, { on := 3, ground := Go.Ground.phase }, { on := 4, ground := Go.Ground.phase }, { on := 5, ground := Go.Ground.phase }, { on := 6, ground := Go.Ground.phase }, { on := 7, ground := Go.Ground.phase }, { on := 8, ground := Go.Ground.phase }, { on := 9, ground := Go.Ground.phase }, { on := 10, ground := Go.Ground.phase }, { on := 11, ground := Go.Ground.phase }, { on := 12, ground := Go.Ground.phase }, { on := 13, ground := Go.Ground.phase }, { on := 14, ground := Go.Ground.phase }, { on := 15, ground := Go.Ground.phase }, { on := 16, ground := Go.Ground.phase }], guard := none }
abbrev o71_18 : Oper := { dst := none, op := Go.Op.store 4 (Go.Operand.tmp 59) (Go.Operand.tmp 58), type := 0, pos := "l16_meanings.go:458", after := #[{ on := 17, ground := Go.Ground.data }, { on := 16, ground := Go.Ground.data }, { on := 12, ground := Go.Ground.chain }, { on := 0, ground := Go.Ground.phase }, { on := 1, ground := Go.Ground.phase }, { on := 2, ground := Go.Ground.phase }, { on := 3, ground := Go.Ground.phase }, { on := 4, ground := Go.Ground.phase }, { on := 5, ground := Go.Ground.phase }, { on := 6, ground := Go.Ground.phase }, { on := 7, ground := Go.Ground.phase }, { on := 8, ground := Go.Ground.phase }, { on := 9, ground := Go.Ground.phase }, { on := 10, ground := Go.Ground.phase }, { on := 11, ground := Go.Ground.phase }, { on := 12, ground := Go.Ground.phase }, { on := 13, ground := Go.Ground.phase }, { on := 14, ground := Go.Ground.phase }, { on := 15, ground := Go.Ground.phase }, { on := 16, ground := Go.Ground.phase }], guard := none }
set_option maxHeartbeats 6400000 in
theorem vari71 (B b m : Nat) (ks : List ByteArray) (hn : Nat) (f : Bool) (uv uh : Value) (n x : ByteArray) (lf : Bool) (kv : Value) (w : World) (hR : Rs w B b m ks hn f uv uh) (hx : x.size ≤ maxLen) (hkv : kv.oneCell' = true) (hB : B ≤ w.heap.size) (hks : ks.length ≤ 100000) :
    Calls Try.prog 71 #[.pointer (some ⟨b, 0, none⟩), .agg #[.string n, .string x, .bool lf, kv]] w (VaA B b m ks hn f uv uh x w) := by
  have hR0 := hR.still (bel_alloc w (.cells #[.string n, .string x, .bool lf, kv] 42))
  have HR0 := (show Hid _ from hR)
  have hbw : b < w.heap.size := hR.bx.lt
  have hmw : m < w.heap.size := hR.mp.lt
  have hrv0 : ∀ q, uv.ownBlock = some q → q < w.heap.size := fun q hq => by
    obtain ⟨_, _, h⟩ := hR.rv
    exact (h.lt q hq).2
  have C0 : (w.alloc (.cells #[.string n, .string x, .bool lf, kv] 42)).cell? ⟨b, 0, none⟩ = some (.map (some m)) := hR0.bx.cell 0 (by simp)
  have C3 : (w.alloc (.cells #[.string n, .string x, .bool lf, kv] 42)).cell? ⟨b, 3, none⟩ = some (.bool f) := hR0.bx.cell 3 (by simp)
  have Z3 : (w.alloc (.cells #[.string n, .string x, .bool lf, kv] 42)).frozen? ⟨b, 3, none⟩ = false := hR0.bx.frozen 3
  have HNM := (show Hid (∀ wq : World, Calls Try.prog 53 #[.string x] wq fun e w' => e = .returned (.bool (nmB x)) ∧ w' = wq) from fun wq => iName x hx wq)
  obtain ⟨i4, hi4, hz0, hz1, hz2⟩ := info_parts info4s
  clear hR hR0
  cases f
  case true =>
    have HR1 := (show Hid (Rs ((w.setCell ⟨b, 3, none⟩ (.bool (true))).alloc (.cells #[.string n, .string x, .bool lf, kv] 42)) B b m ks hn (true) uv uh) from (HR0.out.f).still (bel_alloc _ _))
    have HF1 := (show Hid (Fm (fun q => q = b ∨ q = m ∨ uv.ownBlock = some q) w ((w.setCell ⟨b, 3, none⟩ (.bool (true))).alloc (.cells #[.string n, .string x, .bool lf, kv] 42))) from (Fm.set (T := fun q => q = b ∨ q = m ∨ uv.ownBlock = some q) (.inl rfl)).still (bel_alloc _ _))
    have HX1 := (show Hid (Box ((w.setCell ⟨b, 3, none⟩ (.bool (true))).alloc (.cells #[.string n, .string x, .bool lf, kv] 42)) w.heap.size 42 [.string n, .string x, .bool lf, kv]) from (show Box _ _ _ _ from (by have h := Box.new (w.setCell ⟨b, 3, none⟩ (.bool (true))) 42 [.string n, .string x, .bool lf, kv]; simpa using h)))
    have HNU := (show Hid _ from number81 m (strs ks) x _ ((w.setCell ⟨b, 3, none⟩ (.bool (true))).alloc (.cells #[.string n, .string x, .bool lf, kv] 42)).drew (keyOf_string_mk (P := Try.prog) Try.underlying9 hx) (HR1.out.still ((Below.refl _ _).drew)).mp (by rw [List.length_map]; omega))
    have hS0 : ((w.setCell ⟨b, 3, none⟩ (.bool (true))).alloc (.cells #[.string n, .string x, .bool lf, kv] 42)).drew.cell? ⟨b, 0, none⟩ = some (.map (some m)) ∧ ((w.setCell ⟨b, 3, none⟩ (.bool (true))).alloc (.cells #[.string n, .string x, .bool lf, kv] 42)).drew.cell? ⟨w.heap.size, 1, none⟩ = some (.string x) := ⟨HR1.out.bx.cell 0 (by simp), HX1.out.cell 1 (by simp)⟩
    unfold NoR at HNU
    have HSK := (show Hid (∀ w4 : World, K1 m ((w.setCell ⟨b, 3, none⟩ (.bool (true))).alloc (.cells #[.string n, .string x, .bool lf, kv] 42)).drew w4 → w4.cell? ⟨b, 0, none⟩ = some (.map (some m)) ∧ w4.cell? ⟨w.heap.size, 1, none⟩ = some (.string x)) from fun w4 hk => ⟨(World.cell?_of_block (hk.block b HR1.out.bx.lt HR1.out.n1)).trans hS0.1, (World.cell?_of_block (hk.block w.heap.size HX1.out.lt (by omega))).trans hS0.2⟩)
    go_enter Try.func71, Try.ntmps71
    go_wp2_with fail
    go_region_held3 (fun wq => wq.cell? ⟨b, 0, none⟩ = some (.map (some m)) ∧ wq.cell? ⟨w.heap.size, 1, none⟩ = some (.string x)) (first | with_reducible exact hS0 | with_reducible exact hS2) ((first | (go_at_call 73; refine Calls.mono HNU.out ?_; rintro e w4 ⟨num, rfl, hk4, hor⟩; have hS2 := HSK.out w4 hk4)))
    clear hS0 hS2
    have hf4 : Fm (fun q => q = b ∨ q = m ∨ uv.ownBlock = some q) w w4 := (HF1.out.drew).trans (Fm.of_k1 (T := fun q => q = b ∨ q = m ∨ uv.ownBlock = some q) hk4 (.inr (.inl rfl))) (fun _ _ e => e)
    have hx4 : Box w4 w.heap.size 42 [.string n, .string x, .bool lf, kv] := HX1.out.keep (hk4.block _ HX1.out.lt (by omega))
    have hb4 : Box w4 b 112 [.map (some m), uv, uh, .bool (true)] := HR1.out.bx.keep (hk4.block _ HR1.out.bx.lt HR1.out.n1)
    obtain ⟨bs, hab, hrv⟩ := HR1.out.rv
    obtain ⟨hs, hrh⟩ := HR1.out.rh
    have hrv4 : w4.ownsRow B 4 1 uv ks.length bs := own_keep1 hrv (fun q hq => hk4.block q (hrv.lt q hq).2 (HR1.out.n2 q hq).2)
    have hrh4 : w4.ownsRow B 138 1 uh hn hs := own_keep1 hrh (fun q hq => hk4.block q (hrh.lt q hq).2 (HR1.out.n3 q hq).2.1)
    have hbl := hb4.lt
    have hN2 := HR1.out.n2
    have hN3 := HR1.out.n3
    have hN1 := HR1.out.n1
    have hHB := HR1.out.hb
    have hHM := HR1.out.hm
    have hs4 : w.heap.size < w4.heap.size := hx4.lt
    clear hk4 hrv hrh HR1 HF1 HX1 HNU HSK
    rcases hor with ⟨hg1, hmp⟩ | ⟨hg0, hg1, hmp⟩
    · have hnum : num < ks.length := by
        have := (List.getElem?_eq_some_iff.1 hg1).1
        rw [List.length_map] at this
        exact this
      have had : adS ks x = ks := by
        unfold adS
        rw [if_pos (hasS_iff.2 (strs_mem.1 (List.mem_of_getElem? hg1)))]
      obtain ⟨ga, gc, rfl, hga⟩ := own_ne hrv4
      obtain ⟨g, hge⟩ : ∃ g, ga = some ⟨g, 0, none⟩ := by
        rcases hrv4.2 with ⟨e, e0⟩ | ⟨g, cp, cur, e, _⟩
        · omega
        · injection e with e; exact ⟨g, e⟩
      subst hge
      have hbl2 : bs.length = ks.length := by have := hrv4.1; omega
      have hgb := hN2 g rfl
      have hgl := hrv4.lt g rfl
      obtain ⟨c, hc⟩ := hab (bs[num]'(by omega)) (List.getElem_mem _)
      have CC : w4.drew.cell? ⟨g, num, none⟩ = some (.bool c) := by
        have h1 := hrv4.cellAt num (by omega)
        rw [List.getElem?_eq_getElem (by omega), hc] at h1
        exact h1
      have ZC : w4.drew.frozen? ⟨g, num, none⟩ = false := hrv4.frozenAt num
      have B1 : w4.cell? ⟨b, 1, none⟩ = some (.slice (some ⟨g, 0, none⟩) ks.length gc) := hb4.cell 1 (by simp)
      have hS0 : w4.drew.cell? ⟨b, 1, none⟩ = some (.slice (some ⟨g, 0, none⟩) ks.length gc) ∧ w4.drew.cell? ⟨w.heap.size, 0, none⟩ = some (.string n) := ⟨B1, hx4.cell 0 (by simp)⟩
      have hgw : g ≠ w.heap.size := by intro e; have := (hrv0 g rfl); omega
      have hS1 : ∀ u : Value, (w4.drew.setCell ⟨g, num, none⟩ u).cell? ⟨b, 1, none⟩ = some (.slice (some ⟨g, 0, none⟩) ks.length gc) ∧ (w4.drew.setCell ⟨g, num, none⟩ u).cell? ⟨w.heap.size, 0, none⟩ = some (.string n) := fun u => ⟨(World.cell?_setCell_far _ _ _ _ (by show g ≠ b; exact hgb.1)).trans hS0.1, (World.cell?_setCell_far _ _ _ _ (by show g ≠ w.heap.size; exact hgw)).trans hS0.2⟩
      have HFIN := (show Hid (∀ c' : Bool, VaA B b m ks hn true (.slice (some ⟨g, 0, none⟩) ks.length gc) uh x w (.returned (.int .i64 (num : Nat))) (w4.drew.setCell ⟨g, num, none⟩ (.bool c'))) from fun c' => by
        refine ⟨num, _, rfl, ?_, (hf4.drew).trans (Fm.set (T := fun q => q = b ∨ q = m ∨ (Value.slice (some ⟨g, 0, none⟩) ks.length gc).ownBlock = some q) (.inr (.inr rfl))) (fun _ _ e => e), At1.refl _ _, by rw [had]; exact hnum⟩
        rw [had]
        have hkq : ∀ q, q ≠ g → (w4.drew.setCell ⟨g, num, none⟩ (.bool c')).heap[q]? = w4.heap[q]? := fun q hq => blk_setCell_other _ _ _ _ (by show q ≠ g; exact hq)
        exact ⟨by first | exact hb4.keep (hkq _ (Ne.symm hgb.1)) | simpa using hb4.keep (hkq _ (Ne.symm hgb.1)), hmp.keep (hkq _ (Ne.symm hgb.2)), ⟨_, allB_set hab num c', ((hrv4.drew).stored num (.bool c')).1⟩, ⟨hs, own_keep1 hrh4 (fun q hq => hkq q (fun e => (hN3 q hq).2.2 (by rw [e]; rfl)))⟩, hHB, hHM, hN1, hN2, hN3⟩)
      have j0 : (0 : Int) ≤ (num : Int) := by omega
      have j1 : (num : Int) < (ks.length : Int) := by omega
      have j2 : ((num : Int) == (ks.length : Int)) = false := by simp; omega
      clear hrv4 hrh4 hmp hb4 hab hf4 hx4 hg1 hc hN2 hN3 had hgb hgl
      go_wp2_with fail
      cases c
      case false =>
        refine wp_region_held_drew (S := (fun wq => wq.cell? ⟨b, 1, none⟩ = some (.slice (some ⟨g, 0, none⟩) ks.length gc) ∧ wq.cell? ⟨w.heap.size, 0, none⟩ = some (.string n))) (by kernel_rfl) hS0 (fun hHeld => ?_)
        refine wpAnyH_take (i := 0) (oi := o71_0) (v := ?v1) rfl (by kernel_rfl) (by kernel_rfl) (by kernel_rfl) (fun _ _ _ h => h) (Or.inl ⟨by rfl, ?h1⟩) hHeld ?r1
        case h1 => (intro w hSw; (try dsimp only at hSw); go_simp; try with_reducible rfl)
        try simp only [Act.put, List.setIfInBounds_toArray, List.set_cons_zero, List.set_cons_succ]
        refine wpAnyH_take (i := 1) (oi := o71_1) (v := ?v2) rfl (by kernel_rfl) (by kernel_rfl) (by kernel_rfl) (fun _ _ _ h => h) (Or.inl ⟨by rfl, ?h2⟩) hHeld ?r2
        case h2 => (intro w hSw; (try dsimp only at hSw); go_simp; try with_reducible rfl)
        try simp only [Act.put, List.setIfInBounds_toArray, List.set_cons_zero, List.set_cons_succ]
        refine wpAnyH_take (i := 2) (oi := o71_2) (v := ?v3) rfl (by kernel_rfl) (by kernel_rfl) (by kernel_rfl) (fun _ _ _ h => h) (Or.inl ⟨by rfl, ?h3⟩) hHeld ?r3
        case h3 => (intro w hSw; (try dsimp only at hSw); go_simp; try with_reducible rfl)
        try simp only [Act.put, List.setIfInBounds_toArray, List.set_cons_zero, List.set_cons_succ]
        refine wpAnyH_take (i := 3) (oi := o71_3) (v := ?v4) rfl (by kernel_rfl) (by kernel_rfl) (by kernel_rfl) (fun _ _ _ h => h) (Or.inl ⟨by rfl, ?h4⟩) hHeld ?r4
        case h4 => (intro w hSw; (try dsimp only at hSw); go_simp; try with_reducible rfl)
        try simp only [Act.put, List.setIfInBounds_toArray, List.set_cons_zero, List.set_cons_succ]
        refine wpAnyH_take (i := 4) (oi := o71_4) (v := ?v5) rfl (by kernel_rfl) (by kernel_rfl) (by kernel_rfl) (fun _ _ _ h => h) (Or.inl ⟨by rfl, ?h5⟩) hHeld ?r5
        case h5 => (intro w hSw; (try dsimp only at hSw); go_simp; try with_reducible rfl)
        try simp only [Act.put, List.setIfInBounds_toArray, List.set_cons_zero, List.set_cons_succ]
        refine wpAnyH_take (i := 5) (oi := o71_5) (v := ?v6) rfl (by kernel_rfl) (by kernel_rfl) (by kernel_rfl) (fun _ _ _ h => h) (Or.inl ⟨by rfl, ?h6⟩) hHeld ?r6
        case h6 => (intro w hSw; (try dsimp only at hSw); go_simp; try with_reducible rfl)
        try simp only [Act.put, List.setIfInBounds_toArray, List.set_cons_zero, List.set_cons_succ]
        refine wpAnyH_take (i := 6) (oi := o71_6) (v := ?v7) rfl (by kernel_rfl) (by kernel_rfl) (by kernel_rfl) (fun _ _ _ h => h) (Or.inl ⟨by rfl, ?h7⟩) hHeld ?r7
        case h7 => (intro w hSw; (try dsimp only at hSw); go_simp; try with_reducible rfl)
        try simp only [Act.put, List.setIfInBounds_toArray, List.set_cons_zero, List.set_cons_succ]
        refine wpAnyH_take (i := 7) (oi := o71_7) (v := ?v8) rfl (by kernel_rfl) (by kernel_rfl) (by kernel_rfl) (fun _ _ _ h => h) (Or.inl ⟨by rfl, ?h8⟩) hHeld ?r8
        case h8 => (intro w hSw; (try dsimp only at hSw); go_simp; try with_reducible rfl)
        try simp only [Act.put, List.setIfInBounds_toArray, List.set_cons_zero, List.set_cons_succ]
        refine wpAnyH_take (i := 8) (oi := o71_8) (v := ?v9) rfl (by kernel_rfl) (by kernel_rfl) (by kernel_rfl) (fun _ _ _ h => h) (Or.inl ⟨by rfl, ?h9⟩) hHeld ?r9
        case h9 => (intro w hSw; (try dsimp only at hSw); go_simp; try with_reducible rfl)
        try simp only [Act.put, List.setIfInBounds_toArray, List.set_cons_zero, List.set_cons_succ]
        refine wpAnyH_take (i := 9) (oi := o71_9) (v := ?v10) rfl (by kernel_rfl) (by kernel_rfl) (by kernel_rfl) (fun _ _ _ h => h) (Or.inl ⟨by rfl, ?h10⟩) hHeld ?r10
        case h10 => (intro w hSw; (try dsimp only at hSw); go_simp; try with_reducible rfl)
        try simp only [Act.put, List.setIfInBounds_toArray, List.set_cons_zero, List.set_cons_succ]
        refine wpAnyH_take (i := 10) (oi := o71_10) (v := ?v11) rfl (by kernel_rfl) (by kernel_rfl) (by kernel_rfl) (fun _ _ _ h => h) (Or.inl ⟨by rfl, ?h11⟩) hHeld ?r11
        case h11 => (intro w hSw; (try dsimp only at hSw); go_simp; try with_reducible rfl)
        try simp only [Act.put, List.setIfInBounds_toArray, List.set_cons_zero, List.set_cons_succ]
        refine wpAnyH_ready (rs := [11]) (by kernel_rfl) (by simp) ?_
        refine AllReadyH.cons (o := o71_11) rfl (fun K hK => ?_) AllReadyH.nil
        go_simp
        clear hHeld
        refine hK.out _ _ hS0 (fun hHeld => ?_)
        clear hK K
        try simp only [Act.put, List.setIfInBounds_toArray, List.set_cons_zero, List.set_cons_succ]
        refine wpAnyH_take (i := 12) (oi := o71_12) (v := ?v12) rfl (by kernel_rfl) (by kernel_rfl) (by kernel_rfl) (fun _ _ _ h => h) (Or.inl ⟨by rfl, ?h12⟩) hHeld ?r12
        case h12 => (intro w hSw; (try dsimp only at hSw); go_simp; try with_reducible rfl)
        try simp only [Act.put, List.setIfInBounds_toArray, List.set_cons_zero, List.set_cons_succ]
        refine wpAnyH_take (i := 13) (oi := o71_13) (v := ?v13) rfl (by kernel_rfl) (by kernel_rfl) (by kernel_rfl) (fun _ _ _ h => h) (Or.inl ⟨by rfl, ?h13⟩) hHeld ?r13
        case h13 => (intro w hSw; (try dsimp only at hSw); go_simp; try with_reducible rfl)
        try simp only [Act.put, List.setIfInBounds_toArray, List.set_cons_zero, List.set_cons_succ]
        refine wpAnyH_take (i := 14) (oi := o71_14) (v := ?v14) rfl (by kernel_rfl) (by kernel_rfl) (by kernel_rfl) (fun _ _ _ h => h) (Or.inl ⟨by rfl, ?h14⟩) hHeld ?r14
        case h14 => (intro w hSw; (try dsimp only at hSw); go_simp; try with_reducible rfl)
        try simp only [Act.put, List.setIfInBounds_toArray, List.set_cons_zero, List.set_cons_succ]
        refine wpAnyH_take (i := 15) (oi := o71_15) (v := ?v15) rfl (by kernel_rfl) (by kernel_rfl) (by kernel_rfl) (fun _ _ _ h => h) (Or.inl ⟨by rfl, ?h15⟩) hHeld ?r15
        case h15 => (intro w hSw; (try dsimp only at hSw); go_simp; try with_reducible rfl)
        try simp only [Act.put, List.setIfInBounds_toArray, List.set_cons_zero, List.set_cons_succ]
        refine wpAnyH_take (i := 16) (oi := o71_16) (v := ?v16) rfl (by kernel_rfl) (by kernel_rfl) (by kernel_rfl) (fun _ _ _ h => h) (Or.inl ⟨by rfl, ?h16⟩) hHeld ?r16
        case h16 => (intro w hSw; (try dsimp only at hSw); go_simp; try with_reducible rfl)
        try simp only [Act.put, List.setIfInBounds_toArray, List.set_cons_zero, List.set_cons_succ]
        refine wpAnyH_take (i := 17) (oi := o71_17) (v := ?v17) rfl (by kernel_rfl) (by kernel_rfl) (by kernel_rfl) (fun _ _ _ h => h) (Or.inl ⟨by rfl, ?h17⟩) hHeld ?r17
        case h17 => (intro w hSw; (try dsimp only at hSw); go_simp; try with_reducible rfl)
        try simp only [Act.put, List.setIfInBounds_toArray, List.set_cons_zero, List.set_cons_succ]
        refine wpAnyH_ready (rs := [18]) (by kernel_rfl) (by simp) ?_
        refine AllReadyH.cons (o := o71_18) rfl (fun K hK => ?_) AllReadyH.nil
        go_simp
        clear hHeld
        refine hK.out _ _ (hS1 _) (fun hHeld => ?_)
        clear hK K
        try simp only [Act.put, List.setIfInBounds_toArray, List.set_cons_zero, List.set_cons_succ]
        refine wpAnyH_done (by kernel_rfl) ?_ _
        (try refine NoPanic.normal ?_)
        clear hHeld hS0 hS1 CC ZC
        go_wp2_with fail
        go_ret
        exact HFIN.out _
      case true =>
        refine wp_region_held_drew (S := (fun wq => wq.cell? ⟨b, 1, none⟩ = some (.slice (some ⟨g, 0, none⟩) ks.length gc) ∧ wq.cell? ⟨w.heap.size, 0, none⟩ = some (.string n))) (by kernel_rfl) hS0 (fun hHeld => ?_)
        refine wpAnyH_take (i := 0) (oi := o71_0) (v := ?v18) rfl (by kernel_rfl) (by kernel_rfl) (by kernel_rfl) (fun _ _ _ h => h) (Or.inl ⟨by rfl, ?h18⟩) hHeld ?r18
        case h18 => (intro w hSw; (try dsimp only at hSw); go_simp; try with_reducible rfl)
        try simp only [Act.put, List.setIfInBounds_toArray, List.set_cons_zero, List.set_cons_succ]
        refine wpAnyH_take (i := 1) (oi := o71_1) (v := ?v19) rfl (by kernel_rfl) (by kernel_rfl) (by kernel_rfl) (fun _ _ _ h => h) (Or.inl ⟨by rfl, ?h19⟩) hHeld ?r19
        case h19 => (intro w hSw; (try dsimp only at hSw); go_simp; try with_reducible rfl)
        try simp only [Act.put, List.setIfInBounds_toArray, List.set_cons_zero, List.set_cons_succ]
        refine wpAnyH_take (i := 2) (oi := o71_2) (v := ?v20) rfl (by kernel_rfl) (by kernel_rfl) (by kernel_rfl) (fun _ _ _ h => h) (Or.inl ⟨by rfl, ?h20⟩) hHeld ?r20
        case h20 => (intro w hSw; (try dsimp only at hSw); go_simp; try with_reducible rfl)
        try simp only [Act.put, List.setIfInBounds_toArray, List.set_cons_zero, List.set_cons_succ]
        refine wpAnyH_take (i := 3) (oi := o71_3) (v := ?v21) rfl (by kernel_rfl) (by kernel_rfl) (by kernel_rfl) (fun _ _ _ h => h) (Or.inl ⟨by rfl, ?h21⟩) hHeld ?r21
        case h21 => (intro w hSw; (try dsimp only at hSw); go_simp; try with_reducible rfl)
        try simp only [Act.put, List.setIfInBounds_toArray, List.set_cons_zero, List.set_cons_succ]
        refine wpAnyH_take (i := 4) (oi := o71_4) (v := ?v22) rfl (by kernel_rfl) (by kernel_rfl) (by kernel_rfl) (fun _ _ _ h => h) (Or.inl ⟨by rfl, ?h22⟩) hHeld ?r22
        case h22 => (intro w hSw; (try dsimp only at hSw); go_simp; try with_reducible rfl)
        try simp only [Act.put, List.setIfInBounds_toArray, List.set_cons_zero, List.set_cons_succ]
        refine wpAnyH_take (i := 5) (oi := o71_5) (v := ?v23) rfl (by kernel_rfl) (by kernel_rfl) (by kernel_rfl) (fun _ _ _ h => h) (Or.inl ⟨by rfl, ?h23⟩) hHeld ?r23
        case h23 => (intro w hSw; (try dsimp only at hSw); go_simp; try with_reducible rfl)
        try simp only [Act.put, List.setIfInBounds_toArray, List.set_cons_zero, List.set_cons_succ]
        refine wpAnyH_take (i := 6) (oi := o71_6) (v := ?v24) rfl (by kernel_rfl) (by kernel_rfl) (by kernel_rfl) (fun _ _ _ h => h) (Or.inl ⟨by rfl, ?h24⟩) hHeld ?r24
        case h24 => (intro w hSw; (try dsimp only at hSw); go_simp; try with_reducible rfl)
        try simp only [Act.put, List.setIfInBounds_toArray, List.set_cons_zero, List.set_cons_succ]
        refine wpAnyH_take (i := 7) (oi := o71_7) (v := ?v25) rfl (by kernel_rfl) (by kernel_rfl) (by kernel_rfl) (fun _ _ _ h => h) (Or.inl ⟨by rfl, ?h25⟩) hHeld ?r25
        case h25 => (intro w hSw; (try dsimp only at hSw); go_simp; try with_reducible rfl)
        try simp only [Act.put, List.setIfInBounds_toArray, List.set_cons_zero, List.set_cons_succ]
        refine wpAnyH_take (i := 8) (oi := o71_8) (v := ?v26) rfl (by kernel_rfl) (by kernel_rfl) (by kernel_rfl) (fun _ _ _ h => h) (Or.inl ⟨by rfl, ?h26⟩) hHeld ?r26
        case h26 => (intro w hSw; (try dsimp only at hSw); go_simp; try with_reducible rfl)
        try simp only [Act.put, List.setIfInBounds_toArray, List.set_cons_zero, List.set_cons_succ]
        refine wpAnyH_take (i := 9) (oi := o71_9) (v := ?v27) rfl (by kernel_rfl) (by kernel_rfl) (by kernel_rfl) (fun _ _ _ h => h) (Or.inl ⟨by rfl, ?h27⟩) hHeld ?r27
        case h27 => (intro w hSw; (try dsimp only at hSw); go_simp; try with_reducible rfl)
        try simp only [Act.put, List.setIfInBounds_toArray, List.set_cons_zero, List.set_cons_succ]
        refine wpAnyH_take (i := 10) (oi := o71_10) (v := ?v28) rfl (by kernel_rfl) (by kernel_rfl) (by kernel_rfl) (fun _ _ _ h => h) (Or.inl ⟨by rfl, ?h28⟩) hHeld ?r28
        case h28 => (intro w hSw; (try dsimp only at hSw); go_simp; try with_reducible rfl)
        try simp only [Act.put, List.setIfInBounds_toArray, List.set_cons_zero, List.set_cons_succ]
        refine wpAnyH_ready (rs := [11]) (by kernel_rfl) (by simp) ?_
        refine AllReadyH.cons (o := o71_11) rfl (fun K hK => ?_) AllReadyH.nil
        go_simp
        clear hHeld
        refine hK.out _ _ hS0 (fun hHeld => ?_)
        clear hK K
        try simp only [Act.put, List.setIfInBounds_toArray, List.set_cons_zero, List.set_cons_succ]
        refine wpAnyH_take (i := 12) (oi := o71_12) (v := ?v29) rfl (by kernel_rfl) (by kernel_rfl) (by kernel_rfl) (fun _ _ _ h => h) (Or.inl ⟨by rfl, ?h29⟩) hHeld ?r29
        case h29 => (intro w hSw; (try dsimp only at hSw); go_simp; try with_reducible rfl)
        try simp only [Act.put, List.setIfInBounds_toArray, List.set_cons_zero, List.set_cons_succ]
        refine wpAnyH_take (i := 13) (oi := o71_13) (v := undef) rfl (by kernel_rfl) (by kernel_rfl) (by kernel_rfl) (fun _ _ _ h => h) (Or.inr ⟨by rfl, rfl⟩) hHeld ?_
        try simp only [Act.put, List.setIfInBounds_toArray, List.set_cons_zero, List.set_cons_succ]
        refine wpAnyH_take (i := 14) (oi := o71_14) (v := undef) rfl (by kernel_rfl) (by kernel_rfl) (by kernel_rfl) (fun _ _ _ h => h) (Or.inr ⟨by rfl, rfl⟩) hHeld ?_
        try simp only [Act.put, List.setIfInBounds_toArray, List.set_cons_zero, List.set_cons_succ]
        refine wpAnyH_take (i := 15) (oi := o71_15) (v := undef) rfl (by kernel_rfl) (by kernel_rfl) (by kernel_rfl) (fun _ _ _ h => h) (Or.inr ⟨by rfl, rfl⟩) hHeld ?_
        try simp only [Act.put, List.setIfInBounds_toArray, List.set_cons_zero, List.set_cons_succ]
        refine wpAnyH_take (i := 16) (oi := o71_16) (v := ?v30) rfl (by kernel_rfl) (by kernel_rfl) (by kernel_rfl) (fun _ _ _ h => h) (Or.inl ⟨by rfl, ?h30⟩) hHeld ?r30
        case h30 => (intro w hSw; (try dsimp only at hSw); go_simp; try with_reducible rfl)
        try simp only [Act.put, List.setIfInBounds_toArray, List.set_cons_zero, List.set_cons_succ]
        refine wpAnyH_take (i := 17) (oi := o71_17) (v := ?v31) rfl (by kernel_rfl) (by kernel_rfl) (by kernel_rfl) (fun _ _ _ h => h) (Or.inl ⟨by rfl, ?h31⟩) hHeld ?r31
        case h31 => (intro w hSw; (try dsimp only at hSw); go_simp; try with_reducible rfl)
        try simp only [Act.put, List.setIfInBounds_toArray, List.set_cons_zero, List.set_cons_succ]
        refine wpAnyH_ready (rs := [18]) (by kernel_rfl) (by simp) ?_
        refine AllReadyH.cons (o := o71_18) rfl (fun K hK => ?_) AllReadyH.nil
        go_simp
        clear hHeld
        refine hK.out _ _ (hS1 _) (fun hHeld => ?_)
        clear hK K
        try simp only [Act.put, List.setIfInBounds_toArray, List.set_cons_zero, List.set_cons_succ]
        refine wpAnyH_done (by kernel_rfl) ?_ _
        (try refine NoPanic.normal ?_)
        clear hHeld hS0 hS1 CC ZC
        go_wp2_with fail
        go_ret
        exact HFIN.out _
    · have hnum : num = ks.length := by rw [List.length_map] at hg1; exact hg1
      subst hnum
      have had : adS ks x = ks ++ [x] := by
        unfold adS
        rw [if_neg (fun e => hg0 (strs_mem.2 (hasS_iff.1 e)))]
      obtain ⟨ga, gc0, rfl, hga⟩ := own_ne hrv4
      have B1 : w4.cell? ⟨b, 1, none⟩ = some (.slice ga ks.length gc0) := hb4.cell 1 (by simp)
      have HO := (show Hid _ from own_still hrv4 (bel_alloc w4 (.cells #[.bool false] 4)))
      have HZ := (show Hid (B ≤ (w4.alloc (.cells #[.bool false] 4)).heap.size) from (by show _ ≤ _; simp; omega))
      have HUP := (show Hid (∀ (g gc : Nat) (w5 : World), w5.ownsRow B 4 1 (.slice (some ⟨g, 0, none⟩) (ks.length + 1) gc) (ks.length + 1) (bs ++ [.bool false]) → (w4.alloc (.cells #[.bool false] 4)).grownBy w5 (Value.slice ga ks.length gc0).ownBlock → ((Value.slice ga ks.length gc0).ownBlock = some g ∨ g = w4.heap.size + 1) → (w5.cell? ⟨b, 1, none⟩ = some (.slice ga ks.length gc0) ∧ w5.frozen? ⟨b, 1, none⟩ = false) ∧ ((w5.setCell ⟨b, 1, none⟩ (.slice (some ⟨g, 0, none⟩) (ks.length + 1) gc)).drew.cell? ⟨g, ks.length, none⟩ = some (.bool false) ∧ (w5.setCell ⟨b, 1, none⟩ (.slice (some ⟨g, 0, none⟩) (ks.length + 1) gc)).drew.frozen? ⟨g, ks.length, none⟩ = false) ∧ ((w5.setCell ⟨b, 1, none⟩ (.slice (some ⟨g, 0, none⟩) (ks.length + 1) gc)).drew.cell? ⟨b, 1, none⟩ = some (.slice (some ⟨g, 0, none⟩) (ks.length + 1) gc) ∧ (w5.setCell ⟨b, 1, none⟩ (.slice (some ⟨g, 0, none⟩) (ks.length + 1) gc)).drew.cell? ⟨w.heap.size, 0, none⟩ = some (.string n)) ∧ (g ≠ b ∧ g ≠ w.heap.size) ∧ ∀ c' : Bool, VaA B b m ks hn true (.slice ga ks.length gc0) uh x w (.returned (.int .i64 (ks.length : Nat))) ((w5.setCell ⟨b, 1, none⟩ (.slice (some ⟨g, 0, none⟩) (ks.length + 1) gc)).drew.setCell ⟨g, ks.length, none⟩ (.bool c'))) from fun g gc w5 e1 e2 e3 => by
        have hs5 := e2.size
        have hgb : g ≠ b ∧ g ≠ m ∧ g ≠ w.heap.size := by
          rcases e3 with e | e
          · have h1 := hN2 g e
            have h2 := hrv0 g e
            exact ⟨h1.1, h1.2, by omega⟩
          · have := hmp.lt
            exact ⟨by omega, by omega, by omega⟩
        have nb : ∀ q, some q = (Value.slice ga ks.length gc0).ownBlock → q ≠ b ∧ q ≠ m := fun q hq => hN2 q hq.symm
        have hb5 : Box w5 b 112 [.map (some m), .slice ga ks.length gc0, uh, .bool (true)] := (hb4.still (bel_alloc _ _)).keep (e2.block b (by simp; omega) (fun e => (nb b e).1 rfl))
        have hx5 : Box w5 w.heap.size 42 [.string n, .string x, .bool lf, kv] := (hx4.still (bel_alloc _ _)).keep (e2.block _ (by simp; omega) (fun e => by have := hrv0 _ e.symm; omega))
        have hm5 : Mn w5 m 9 (strs (ks ++ [x])) := by
          rw [← strs_app]
          have hml := hmp.lt
          exact (hmp.keep ((bel_alloc w4 (.cells #[.bool false] 4)).block m hml)).keep (e2.block m (by simp; omega) (fun e => (nb m e).2 rfl))
        have hh5 : w5.ownsRow B 138 1 uh hn hs := own_keep1 (own_still hrh4 (bel_alloc w4 (.cells #[.bool false] 4))) (fun q hq => e2.block q (by have := (hrh4.lt q hq).2; simp; omega) (fun e => (hN3 q hq).2.2 e.symm))
        have hF5 : Fm (fun q => q = b ∨ q = m ∨ (Value.slice ga ks.length gc0).ownBlock = some q) w w5 := (hf4.still (bel_alloc w4 (.cells #[.bool false] 4))).trans (Fm.of_grown (T := fun q => q = b ∨ q = m ∨ (Value.slice ga ks.length gc0).ownBlock = some q) e2 (fun q hq => .inr (.inr hq))) (fun _ _ e => e)
        have hk6 : ∀ q, q ≠ b → (w5.setCell ⟨b, 1, none⟩ (.slice (some ⟨g, 0, none⟩) (ks.length + 1) gc)).drew.heap[q]? = w5.heap[q]? := fun q hq => blk_setCell_other _ _ _ _ (by show q ≠ b; exact hq)
        have hb6 : Box (w5.setCell ⟨b, 1, none⟩ (.slice (some ⟨g, 0, none⟩) (ks.length + 1) gc)).drew b 112 [.map (some m), .slice (some ⟨g, 0, none⟩) (ks.length + 1) gc, uh, .bool (true)] := (hb5.set 1 _).still ((Below.refl _ _).drew)
        have hv6 : (w5.setCell ⟨b, 1, none⟩ (.slice (some ⟨g, 0, none⟩) (ks.length + 1) gc)).drew.ownsRow B 4 1 (.slice (some ⟨g, 0, none⟩) (ks.length + 1) gc) (ks.length + 1) (bs ++ [.bool false]) := own_keep1 e1 (fun q hq => hk6 q (fun e => hgb.1 ((show g = q from (by simpa [Value.ownBlock] using hq)).trans e)))
        have hbsl : bs.length = ks.length := by have := hrv4.1; omega
        refine ⟨⟨hb5.cell 1 (by simp), hb5.frozen 1⟩, ⟨?_, hv6.frozenAt _⟩, ⟨hb6.cell 1 (by simp), ?_⟩, ⟨hgb.1, hgb.2.2⟩, fun c' => ?_⟩
        · rw [hv6.cellAt ks.length (by omega), List.getElem?_append_right (by omega)]
          simp [hbsl]
        · exact (hx5.keep (hk6 _ (by omega))).cell 0 (by simp)
        · have hk7 : ∀ q, q ≠ g → ((w5.setCell ⟨b, 1, none⟩ (.slice (some ⟨g, 0, none⟩) (ks.length + 1) gc)).drew.setCell ⟨g, ks.length, none⟩ (.bool c')).heap[q]? = (w5.setCell ⟨b, 1, none⟩ (.slice (some ⟨g, 0, none⟩) (ks.length + 1) gc)).drew.heap[q]? := fun q hq => blk_setCell_other _ _ _ _ (by show q ≠ g; exact hq)
          refine ⟨ks.length, .slice (some ⟨g, 0, none⟩) (ks.length + 1) gc, rfl, ?_, ?_, ?_, by rw [had]; simp⟩
          · rw [had]
            refine ⟨by simpa using hb6.keep (hk7 _ (Ne.symm hgb.1)), (hm5.keep (hk6 _ (Ne.symm hN1))).keep (hk7 _ (Ne.symm hgb.2.1)), ⟨(bs ++ [Value.bool false]).set ks.length (Value.bool c'), allB_set (fun y hy => ?_) _ _, ?_⟩, ⟨hs, own_keep1 (own_keep1 hh5 (fun q hq => hk6 q (hN3 q hq).1)) (fun q hq => hk7 q (fun e => ?_))⟩, hHB, hHM, hN1, fun q hq => ?_, fun q hq => ⟨(hN3 q hq).1, (hN3 q hq).2.1, fun e => ?_⟩⟩
            · rcases List.mem_append.1 hy with h | h
              · exact hab y h
              · rw [List.mem_singleton] at h; exact ⟨false, h⟩
            · rw [List.length_append]
              exact (hv6.stored ks.length (.bool c')).1
            · subst e
              rcases e3 with e | e
              · exact (hN3 q hq).2.2 e
              · have := (hrh4.lt q hq).2; omega
            · have : g = q := by simpa [Value.ownBlock] using hq
              subst this
              exact ⟨hgb.1, hgb.2.1⟩
            · have : g = q := by simpa [Value.ownBlock] using e
              subst this
              rcases e3 with e | e
              · exact (hN3 g hq).2.2 e
              · have := (hrh4.lt g hq).2; omega
          · refine ((hF5.trans (Fm.set (T := fun q => q = b ∨ q = m ∨ (Value.slice ga ks.length gc0).ownBlock = some q) (.inl rfl)) (fun _ _ e => e)).drew).trans (T' := fun q => q = g) (Fm.set rfl) (fun q hq e => ?_)
            subst e
            rcases e3 with e | e
            · exact .inr (.inr e)
            · omega
          · rcases e3 with e | e
            · exact .inl e.symm
            · exact .inr ⟨g, rfl, by omega⟩)
      have j2 : ((ks.length : Int) == (ks.length : Int)) = true := by simp
      have hgi : ks.length ≤ 100000 := by omega
      clear hrv4 hrh4 hmp hb4 hab hf4 hx4 hg1 hg0 hN2 hN3 had
      go_wp2_with (at_builtin; refine wpList_append_lies _ rfl (.tmp 37) (.tmp 38) 84 rfl B 4 i4 _ 1 1 Try.underlying84 hi4 hz0 hz1 hz2 rfl (by decide) _ ks.length bs rfl HO.out ⟨w4.heap.size, 0, none⟩ 1 1 [.bool false] rfl rfl ?c1 ?c2 (by decide) ?c3 (by omega) ?c5 _ rfl ?nx)
      case c1 => exact World.news_of_block (cs := #[.bool false]) (blk_alloc_new _ _)
      case c2 => intro u hu; simp at hu; subst hu; rfl
      case c3 => unfold maxLen; omega
      case c5 => exact HZ.out
      case nx =>
        intro g gc w5 hown5 hgr5 hat5 hlt5
        obtain ⟨⟨B5, Z5⟩, ⟨CC, ZC⟩, hS0, ⟨hgb, hgw⟩, hfin⟩ := HUP.out g gc w5 hown5 hgr5 (by simpa using hat5)
        have HFIN := (show Hid _ from hfin)
        have hS1 : ∀ u : Value, ((w5.setCell ⟨b, 1, none⟩ (.slice (some ⟨g, 0, none⟩) (ks.length + 1) gc)).drew.setCell ⟨g, ks.length, none⟩ u).cell? ⟨b, 1, none⟩ = some (.slice (some ⟨g, 0, none⟩) (ks.length + 1) gc) ∧ ((w5.setCell ⟨b, 1, none⟩ (.slice (some ⟨g, 0, none⟩) (ks.length + 1) gc)).drew.setCell ⟨g, ks.length, none⟩ u).cell? ⟨w.heap.size, 0, none⟩ = some (.string n) := fun u => ⟨(World.cell?_setCell_far _ _ _ _ (by show g ≠ b; exact hgb)).trans hS0.1, (World.cell?_setCell_far _ _ _ _ (by show g ≠ w.heap.size; exact hgw)).trans hS0.2⟩
        have j0 : (0 : Int) ≤ (ks.length : Int) := by omega
        have j1 : (ks.length : Int) < (ks.length : Int) + 1 := by omega
        clear hown5 hgr5 hat5 hlt5 HUP HO HZ hfin B1
        go_wp2_with fail
        refine wp_region_held_drew (S := (fun wq => wq.cell? ⟨b, 1, none⟩ = some (.slice (some ⟨g, 0, none⟩) (ks.length + 1) gc) ∧ wq.cell? ⟨w.heap.size, 0, none⟩ = some (.string n))) (by kernel_rfl) hS0 (fun hHeld => ?_)
        refine wpAnyH_take (i := 0) (oi := o71_0) (v := ?v32) rfl (by kernel_rfl) (by kernel_rfl) (by kernel_rfl) (fun _ _ _ h => h) (Or.inl ⟨by rfl, ?h32⟩) hHeld ?r32
        case h32 => (intro w hSw; (try dsimp only at hSw); go_simp; try with_reducible rfl)
        try simp only [Act.put, List.setIfInBounds_toArray, List.set_cons_zero, List.set_cons_succ]
        refine wpAnyH_take (i := 1) (oi := o71_1) (v := ?v33) rfl (by kernel_rfl) (by kernel_rfl) (by kernel_rfl) (fun _ _ _ h => h) (Or.inl ⟨by rfl, ?h33⟩) hHeld ?r33
        case h33 => (intro w hSw; (try dsimp only at hSw); go_simp; try with_reducible rfl)
        try simp only [Act.put, List.setIfInBounds_toArray, List.set_cons_zero, List.set_cons_succ]
        refine wpAnyH_take (i := 2) (oi := o71_2) (v := ?v34) rfl (by kernel_rfl) (by kernel_rfl) (by kernel_rfl) (fun _ _ _ h => h) (Or.inl ⟨by rfl, ?h34⟩) hHeld ?r34
        case h34 => (intro w hSw; (try dsimp only at hSw); go_simp; try with_reducible rfl)
        try simp only [Act.put, List.setIfInBounds_toArray, List.set_cons_zero, List.set_cons_succ]
        refine wpAnyH_take (i := 3) (oi := o71_3) (v := ?v35) rfl (by kernel_rfl) (by kernel_rfl) (by kernel_rfl) (fun _ _ _ h => h) (Or.inl ⟨by rfl, ?h35⟩) hHeld ?r35
        case h35 => (intro w hSw; (try dsimp only at hSw); go_simp; try with_reducible rfl)
        try simp only [Act.put, List.setIfInBounds_toArray, List.set_cons_zero, List.set_cons_succ]
        refine wpAnyH_take (i := 4) (oi := o71_4) (v := ?v36) rfl (by kernel_rfl) (by kernel_rfl) (by kernel_rfl) (fun _ _ _ h => h) (Or.inl ⟨by rfl, ?h36⟩) hHeld ?r36
        case h36 => (intro w hSw; (try dsimp only at hSw); go_simp; try with_reducible rfl)
        try simp only [Act.put, List.setIfInBounds_toArray, List.set_cons_zero, List.set_cons_succ]
        refine wpAnyH_take (i := 5) (oi := o71_5) (v := ?v37) rfl (by kernel_rfl) (by kernel_rfl) (by kernel_rfl) (fun _ _ _ h => h) (Or.inl ⟨by rfl, ?h37⟩) hHeld ?r37
        case h37 => (intro w hSw; (try dsimp only at hSw); go_simp; try with_reducible rfl)
        try simp only [Act.put, List.setIfInBounds_toArray, List.set_cons_zero, List.set_cons_succ]
        refine wpAnyH_take (i := 6) (oi := o71_6) (v := ?v38) rfl (by kernel_rfl) (by kernel_rfl) (by kernel_rfl) (fun _ _ _ h => h) (Or.inl ⟨by rfl, ?h38⟩) hHeld ?r38
        case h38 => (intro w hSw; (try dsimp only at hSw); go_simp; try with_reducible rfl)
        try simp only [Act.put, List.setIfInBounds_toArray, List.set_cons_zero, List.set_cons_succ]
        refine wpAnyH_take (i := 7) (oi := o71_7) (v := ?v39) rfl (by kernel_rfl) (by kernel_rfl) (by kernel_rfl) (fun _ _ _ h => h) (Or.inl ⟨by rfl, ?h39⟩) hHeld ?r39
        case h39 => (intro w hSw; (try dsimp only at hSw); go_simp; try with_reducible rfl)
        try simp only [Act.put, List.setIfInBounds_toArray, List.set_cons_zero, List.set_cons_succ]
        refine wpAnyH_take (i := 8) (oi := o71_8) (v := ?v40) rfl (by kernel_rfl) (by kernel_rfl) (by kernel_rfl) (fun _ _ _ h => h) (Or.inl ⟨by rfl, ?h40⟩) hHeld ?r40
        case h40 => (intro w hSw; (try dsimp only at hSw); go_simp; try with_reducible rfl)
        try simp only [Act.put, List.setIfInBounds_toArray, List.set_cons_zero, List.set_cons_succ]
        refine wpAnyH_take (i := 9) (oi := o71_9) (v := ?v41) rfl (by kernel_rfl) (by kernel_rfl) (by kernel_rfl) (fun _ _ _ h => h) (Or.inl ⟨by rfl, ?h41⟩) hHeld ?r41
        case h41 => (intro w hSw; (try dsimp only at hSw); go_simp; try with_reducible rfl)
        try simp only [Act.put, List.setIfInBounds_toArray, List.set_cons_zero, List.set_cons_succ]
        refine wpAnyH_take (i := 10) (oi := o71_10) (v := ?v42) rfl (by kernel_rfl) (by kernel_rfl) (by kernel_rfl) (fun _ _ _ h => h) (Or.inl ⟨by rfl, ?h42⟩) hHeld ?r42
        case h42 => (intro w hSw; (try dsimp only at hSw); go_simp; try with_reducible rfl)
        try simp only [Act.put, List.setIfInBounds_toArray, List.set_cons_zero, List.set_cons_succ]
        refine wpAnyH_ready (rs := [11]) (by kernel_rfl) (by simp) ?_
        refine AllReadyH.cons (o := o71_11) rfl (fun K hK => ?_) AllReadyH.nil
        go_simp
        clear hHeld
        refine hK.out _ _ hS0 (fun hHeld => ?_)
        clear hK K
        try simp only [Act.put, List.setIfInBounds_toArray, List.set_cons_zero, List.set_cons_succ]
        refine wpAnyH_take (i := 12) (oi := o71_12) (v := ?v43) rfl (by kernel_rfl) (by kernel_rfl) (by kernel_rfl) (fun _ _ _ h => h) (Or.inl ⟨by rfl, ?h43⟩) hHeld ?r43
        case h43 => (intro w hSw; (try dsimp only at hSw); go_simp; try with_reducible rfl)
        try simp only [Act.put, List.setIfInBounds_toArray, List.set_cons_zero, List.set_cons_succ]
        refine wpAnyH_take (i := 13) (oi := o71_13) (v := ?v44) rfl (by kernel_rfl) (by kernel_rfl) (by kernel_rfl) (fun _ _ _ h => h) (Or.inl ⟨by rfl, ?h44⟩) hHeld ?r44
        case h44 => (intro w hSw; (try dsimp only at hSw); go_simp; try with_reducible rfl)
        try simp only [Act.put, List.setIfInBounds_toArray, List.set_cons_zero, List.set_cons_succ]
        refine wpAnyH_take (i := 14) (oi := o71_14) (v := ?v45) rfl (by kernel_rfl) (by kernel_rfl) (by kernel_rfl) (fun _ _ _ h => h) (Or.inl ⟨by rfl, ?h45⟩) hHeld ?r45
        case h45 => (intro w hSw; (try dsimp only at hSw); go_simp; try with_reducible rfl)
        try simp only [Act.put, List.setIfInBounds_toArray, List.set_cons_zero, List.set_cons_succ]
        refine wpAnyH_take (i := 15) (oi := o71_15) (v := ?v46) rfl (by kernel_rfl) (by kernel_rfl) (by kernel_rfl) (fun _ _ _ h => h) (Or.inl ⟨by rfl, ?h46⟩) hHeld ?r46
        case h46 => (intro w hSw; (try dsimp only at hSw); go_simp; try with_reducible rfl)
        try simp only [Act.put, List.setIfInBounds_toArray, List.set_cons_zero, List.set_cons_succ]
        refine wpAnyH_take (i := 16) (oi := o71_16) (v := ?v47) rfl (by kernel_rfl) (by kernel_rfl) (by kernel_rfl) (fun _ _ _ h => h) (Or.inl ⟨by rfl, ?h47⟩) hHeld ?r47
        case h47 => (intro w hSw; (try dsimp only at hSw); go_simp; try with_reducible rfl)
        try simp only [Act.put, List.setIfInBounds_toArray, List.set_cons_zero, List.set_cons_succ]
        refine wpAnyH_take (i := 17) (oi := o71_17) (v := ?v48) rfl (by kernel_rfl) (by kernel_rfl) (by kernel_rfl) (fun _ _ _ h => h) (Or.inl ⟨by rfl, ?h48⟩) hHeld ?r48
        case h48 => (intro w hSw; (try dsimp only at hSw); go_simp; try with_reducible rfl)
        try simp only [Act.put, List.setIfInBounds_toArray, List.set_cons_zero, List.set_cons_succ]
        refine wpAnyH_ready (rs := [18]) (by kernel_rfl) (by simp) ?_
        refine AllReadyH.cons (o := o71_18) rfl (fun K hK => ?_) AllReadyH.nil
        go_simp
        clear hHeld
        refine hK.out _ _ (hS1 _) (fun hHeld => ?_)
        clear hK K
        try simp only [Act.put, List.setIfInBounds_toArray, List.set_cons_zero, List.set_cons_succ]
        refine wpAnyH_done (by kernel_rfl) ?_ _
        (try refine NoPanic.normal ?_)
        clear hHeld hS0 hS1 CC ZC
        go_wp2_with fail
        go_ret
        exact HFIN.out _
  case false =>
    have HR1 := (show Hid (Rs ((w.setCell ⟨b, 3, none⟩ (.bool (!(nmB x)))).alloc (.cells #[.string n, .string x, .bool lf, kv] 42)) B b m ks hn (!(nmB x)) uv uh) from (HR0.out.f).still (bel_alloc _ _))
    have HF1 := (show Hid (Fm (fun q => q = b ∨ q = m ∨ uv.ownBlock = some q) w ((w.setCell ⟨b, 3, none⟩ (.bool (!(nmB x)))).alloc (.cells #[.string n, .string x, .bool lf, kv] 42))) from (Fm.set (T := fun q => q = b ∨ q = m ∨ uv.ownBlock = some q) (.inl rfl)).still (bel_alloc _ _))
    have HX1 := (show Hid (Box ((w.setCell ⟨b, 3, none⟩ (.bool (!(nmB x)))).alloc (.cells #[.string n, .string x, .bool lf, kv] 42)) w.heap.size 42 [.string n, .string x, .bool lf, kv]) from (show Box _ _ _ _ from (by have h := Box.new (w.setCell ⟨b, 3, none⟩ (.bool (!(nmB x)))) 42 [.string n, .string x, .bool lf, kv]; simpa using h)))
    have HNU := (show Hid _ from number81 m (strs ks) x _ ((w.setCell ⟨b, 3, none⟩ (.bool (!(nmB x)))).alloc (.cells #[.string n, .string x, .bool lf, kv] 42)).drew (keyOf_string_mk (P := Try.prog) Try.underlying9 hx) (HR1.out.still ((Below.refl _ _).drew)).mp (by rw [List.length_map]; omega))
    have hS0 : ((w.setCell ⟨b, 3, none⟩ (.bool (!(nmB x)))).alloc (.cells #[.string n, .string x, .bool lf, kv] 42)).drew.cell? ⟨b, 0, none⟩ = some (.map (some m)) ∧ ((w.setCell ⟨b, 3, none⟩ (.bool (!(nmB x)))).alloc (.cells #[.string n, .string x, .bool lf, kv] 42)).drew.cell? ⟨w.heap.size, 1, none⟩ = some (.string x) := ⟨HR1.out.bx.cell 0 (by simp), HX1.out.cell 1 (by simp)⟩
    unfold NoR at HNU
    have HSK := (show Hid (∀ w4 : World, K1 m ((w.setCell ⟨b, 3, none⟩ (.bool (!(nmB x)))).alloc (.cells #[.string n, .string x, .bool lf, kv] 42)).drew w4 → w4.cell? ⟨b, 0, none⟩ = some (.map (some m)) ∧ w4.cell? ⟨w.heap.size, 1, none⟩ = some (.string x)) from fun w4 hk => ⟨(World.cell?_of_block (hk.block b HR1.out.bx.lt HR1.out.n1)).trans hS0.1, (World.cell?_of_block (hk.block w.heap.size HX1.out.lt (by omega))).trans hS0.2⟩)
    go_enter Try.func71, Try.ntmps71
    go_wp2_with fail
    refine Calls.mono (HNM.out _) ?_
    rintro e wn ⟨rfl, rfl⟩
    go_wp2_with fail
    go_region_held3 (fun wq => wq.cell? ⟨b, 0, none⟩ = some (.map (some m)) ∧ wq.cell? ⟨w.heap.size, 1, none⟩ = some (.string x)) (first | with_reducible exact hS0 | with_reducible exact hS2) ((first | (go_at_call 73; refine Calls.mono HNU.out ?_; rintro e w4 ⟨num, rfl, hk4, hor⟩; have hS2 := HSK.out w4 hk4)))
    clear hS0 hS2
    have hf4 : Fm (fun q => q = b ∨ q = m ∨ uv.ownBlock = some q) w w4 := (HF1.out.drew).trans (Fm.of_k1 (T := fun q => q = b ∨ q = m ∨ uv.ownBlock = some q) hk4 (.inr (.inl rfl))) (fun _ _ e => e)
    have hx4 : Box w4 w.heap.size 42 [.string n, .string x, .bool lf, kv] := HX1.out.keep (hk4.block _ HX1.out.lt (by omega))
    have hb4 : Box w4 b 112 [.map (some m), uv, uh, .bool (!(nmB x))] := HR1.out.bx.keep (hk4.block _ HR1.out.bx.lt HR1.out.n1)
    obtain ⟨bs, hab, hrv⟩ := HR1.out.rv
    obtain ⟨hs, hrh⟩ := HR1.out.rh
    have hrv4 : w4.ownsRow B 4 1 uv ks.length bs := own_keep1 hrv (fun q hq => hk4.block q (hrv.lt q hq).2 (HR1.out.n2 q hq).2)
    have hrh4 : w4.ownsRow B 138 1 uh hn hs := own_keep1 hrh (fun q hq => hk4.block q (hrh.lt q hq).2 (HR1.out.n3 q hq).2.1)
    have hbl := hb4.lt
    have hN2 := HR1.out.n2
    have hN3 := HR1.out.n3
    have hN1 := HR1.out.n1
    have hHB := HR1.out.hb
    have hHM := HR1.out.hm
    have hs4 : w.heap.size < w4.heap.size := hx4.lt
    clear hk4 hrv hrh HR1 HF1 HX1 HNU HSK
    rcases hor with ⟨hg1, hmp⟩ | ⟨hg0, hg1, hmp⟩
    · have hnum : num < ks.length := by
        have := (List.getElem?_eq_some_iff.1 hg1).1
        rw [List.length_map] at this
        exact this
      have had : adS ks x = ks := by
        unfold adS
        rw [if_pos (hasS_iff.2 (strs_mem.1 (List.mem_of_getElem? hg1)))]
      obtain ⟨ga, gc, rfl, hga⟩ := own_ne hrv4
      obtain ⟨g, hge⟩ : ∃ g, ga = some ⟨g, 0, none⟩ := by
        rcases hrv4.2 with ⟨e, e0⟩ | ⟨g, cp, cur, e, _⟩
        · omega
        · injection e with e; exact ⟨g, e⟩
      subst hge
      have hbl2 : bs.length = ks.length := by have := hrv4.1; omega
      have hgb := hN2 g rfl
      have hgl := hrv4.lt g rfl
      obtain ⟨c, hc⟩ := hab (bs[num]'(by omega)) (List.getElem_mem _)
      have CC : w4.drew.cell? ⟨g, num, none⟩ = some (.bool c) := by
        have h1 := hrv4.cellAt num (by omega)
        rw [List.getElem?_eq_getElem (by omega), hc] at h1
        exact h1
      have ZC : w4.drew.frozen? ⟨g, num, none⟩ = false := hrv4.frozenAt num
      have B1 : w4.cell? ⟨b, 1, none⟩ = some (.slice (some ⟨g, 0, none⟩) ks.length gc) := hb4.cell 1 (by simp)
      have hS0 : w4.drew.cell? ⟨b, 1, none⟩ = some (.slice (some ⟨g, 0, none⟩) ks.length gc) ∧ w4.drew.cell? ⟨w.heap.size, 0, none⟩ = some (.string n) := ⟨B1, hx4.cell 0 (by simp)⟩
      have hgw : g ≠ w.heap.size := by intro e; have := (hrv0 g rfl); omega
      have hS1 : ∀ u : Value, (w4.drew.setCell ⟨g, num, none⟩ u).cell? ⟨b, 1, none⟩ = some (.slice (some ⟨g, 0, none⟩) ks.length gc) ∧ (w4.drew.setCell ⟨g, num, none⟩ u).cell? ⟨w.heap.size, 0, none⟩ = some (.string n) := fun u => ⟨(World.cell?_setCell_far _ _ _ _ (by show g ≠ b; exact hgb.1)).trans hS0.1, (World.cell?_setCell_far _ _ _ _ (by show g ≠ w.heap.size; exact hgw)).trans hS0.2⟩
      have HFIN := (show Hid (∀ c' : Bool, VaA B b m ks hn false (.slice (some ⟨g, 0, none⟩) ks.length gc) uh x w (.returned (.int .i64 (num : Nat))) (w4.drew.setCell ⟨g, num, none⟩ (.bool c'))) from fun c' => by
        refine ⟨num, _, rfl, ?_, (hf4.drew).trans (Fm.set (T := fun q => q = b ∨ q = m ∨ (Value.slice (some ⟨g, 0, none⟩) ks.length gc).ownBlock = some q) (.inr (.inr rfl))) (fun _ _ e => e), At1.refl _ _, by rw [had]; exact hnum⟩
        rw [had]
        have hkq : ∀ q, q ≠ g → (w4.drew.setCell ⟨g, num, none⟩ (.bool c')).heap[q]? = w4.heap[q]? := fun q hq => blk_setCell_other _ _ _ _ (by show q ≠ g; exact hq)
        exact ⟨by first | exact hb4.keep (hkq _ (Ne.symm hgb.1)) | simpa using hb4.keep (hkq _ (Ne.symm hgb.1)), hmp.keep (hkq _ (Ne.symm hgb.2)), ⟨_, allB_set hab num c', ((hrv4.drew).stored num (.bool c')).1⟩, ⟨hs, own_keep1 hrh4 (fun q hq => hkq q (fun e => (hN3 q hq).2.2 (by rw [e]; rfl)))⟩, hHB, hHM, hN1, hN2, hN3⟩)
      have j0 : (0 : Int) ≤ (num : Int) := by omega
      have j1 : (num : Int) < (ks.length : Int) := by omega
      have j2 : ((num : Int) == (ks.length : Int)) = false := by simp; omega
      clear hrv4 hrh4 hmp hb4 hab hf4 hx4 hg1 hc hN2 hN3 had hgb hgl
      go_wp2_with fail
      cases c
      case false =>
        refine wp_region_held_drew (S := (fun wq => wq.cell? ⟨b, 1, none⟩ = some (.slice (some ⟨g, 0, none⟩) ks.length gc) ∧ wq.cell? ⟨w.heap.size, 0, none⟩ = some (.string n))) (by kernel_rfl) hS0 (fun hHeld => ?_)
        refine wpAnyH_take (i := 0) (oi := o71_0) (v := ?v49) rfl (by kernel_rfl) (by kernel_rfl) (by kernel_rfl) (fun _ _ _ h => h) (Or.inl ⟨by rfl, ?h49⟩) hHeld ?r49
        case h49 => (intro w hSw; (try dsimp only at hSw); go_simp; try with_reducible rfl)
        try simp only [Act.put, List.setIfInBounds_toArray, List.set_cons_zero, List.set_cons_succ]
        refine wpAnyH_take (i := 1) (oi := o71_1) (v := ?v50) rfl (by kernel_rfl) (by kernel_rfl) (by kernel_rfl) (fun _ _ _ h => h) (Or.inl ⟨by rfl, ?h50⟩) hHeld ?r50
        case h50 => (intro w hSw; (try dsimp only at hSw); go_simp; try with_reducible rfl)
        try simp only [Act.put, List.setIfInBounds_toArray, List.set_cons_zero, List.set_cons_succ]
        refine wpAnyH_take (i := 2) (oi := o71_2) (v := ?v51) rfl (by kernel_rfl) (by kernel_rfl) (by kernel_rfl) (fun _ _ _ h => h) (Or.inl ⟨by rfl, ?h51⟩) hHeld ?r51
        case h51 => (intro w hSw; (try dsimp only at hSw); go_simp; try with_reducible rfl)
        try simp only [Act.put, List.setIfInBounds_toArray, List.set_cons_zero, List.set_cons_succ]
        refine wpAnyH_take (i := 3) (oi := o71_3) (v := ?v52) rfl (by kernel_rfl) (by kernel_rfl) (by kernel_rfl) (fun _ _ _ h => h) (Or.inl ⟨by rfl, ?h52⟩) hHeld ?r52
        case h52 => (intro w hSw; (try dsimp only at hSw); go_simp; try with_reducible rfl)
        try simp only [Act.put, List.setIfInBounds_toArray, List.set_cons_zero, List.set_cons_succ]
        refine wpAnyH_take (i := 4) (oi := o71_4) (v := ?v53) rfl (by kernel_rfl) (by kernel_rfl) (by kernel_rfl) (fun _ _ _ h => h) (Or.inl ⟨by rfl, ?h53⟩) hHeld ?r53
        case h53 => (intro w hSw; (try dsimp only at hSw); go_simp; try with_reducible rfl)
        try simp only [Act.put, List.setIfInBounds_toArray, List.set_cons_zero, List.set_cons_succ]
        refine wpAnyH_take (i := 5) (oi := o71_5) (v := ?v54) rfl (by kernel_rfl) (by kernel_rfl) (by kernel_rfl) (fun _ _ _ h => h) (Or.inl ⟨by rfl, ?h54⟩) hHeld ?r54
        case h54 => (intro w hSw; (try dsimp only at hSw); go_simp; try with_reducible rfl)
        try simp only [Act.put, List.setIfInBounds_toArray, List.set_cons_zero, List.set_cons_succ]
        refine wpAnyH_take (i := 6) (oi := o71_6) (v := ?v55) rfl (by kernel_rfl) (by kernel_rfl) (by kernel_rfl) (fun _ _ _ h => h) (Or.inl ⟨by rfl, ?h55⟩) hHeld ?r55
        case h55 => (intro w hSw; (try dsimp only at hSw); go_simp; try with_reducible rfl)
        try simp only [Act.put, List.setIfInBounds_toArray, List.set_cons_zero, List.set_cons_succ]
        refine wpAnyH_take (i := 7) (oi := o71_7) (v := ?v56) rfl (by kernel_rfl) (by kernel_rfl) (by kernel_rfl) (fun _ _ _ h => h) (Or.inl ⟨by rfl, ?h56⟩) hHeld ?r56
        case h56 => (intro w hSw; (try dsimp only at hSw); go_simp; try with_reducible rfl)
        try simp only [Act.put, List.setIfInBounds_toArray, List.set_cons_zero, List.set_cons_succ]
        refine wpAnyH_take (i := 8) (oi := o71_8) (v := ?v57) rfl (by kernel_rfl) (by kernel_rfl) (by kernel_rfl) (fun _ _ _ h => h) (Or.inl ⟨by rfl, ?h57⟩) hHeld ?r57
        case h57 => (intro w hSw; (try dsimp only at hSw); go_simp; try with_reducible rfl)
        try simp only [Act.put, List.setIfInBounds_toArray, List.set_cons_zero, List.set_cons_succ]
        refine wpAnyH_take (i := 9) (oi := o71_9) (v := ?v58) rfl (by kernel_rfl) (by kernel_rfl) (by kernel_rfl) (fun _ _ _ h => h) (Or.inl ⟨by rfl, ?h58⟩) hHeld ?r58
        case h58 => (intro w hSw; (try dsimp only at hSw); go_simp; try with_reducible rfl)
        try simp only [Act.put, List.setIfInBounds_toArray, List.set_cons_zero, List.set_cons_succ]
        refine wpAnyH_take (i := 10) (oi := o71_10) (v := ?v59) rfl (by kernel_rfl) (by kernel_rfl) (by kernel_rfl) (fun _ _ _ h => h) (Or.inl ⟨by rfl, ?h59⟩) hHeld ?r59
        case h59 => (intro w hSw; (try dsimp only at hSw); go_simp; try with_reducible rfl)
        try simp only [Act.put, List.setIfInBounds_toArray, List.set_cons_zero, List.set_cons_succ]
        refine wpAnyH_ready (rs := [11]) (by kernel_rfl) (by simp) ?_
        refine AllReadyH.cons (o := o71_11) rfl (fun K hK => ?_) AllReadyH.nil
        go_simp
        clear hHeld
        refine hK.out _ _ hS0 (fun hHeld => ?_)
        clear hK K
        try simp only [Act.put, List.setIfInBounds_toArray, List.set_cons_zero, List.set_cons_succ]
        refine wpAnyH_take (i := 12) (oi := o71_12) (v := ?v60) rfl (by kernel_rfl) (by kernel_rfl) (by kernel_rfl) (fun _ _ _ h => h) (Or.inl ⟨by rfl, ?h60⟩) hHeld ?r60
        case h60 => (intro w hSw; (try dsimp only at hSw); go_simp; try with_reducible rfl)
        try simp only [Act.put, List.setIfInBounds_toArray, List.set_cons_zero, List.set_cons_succ]
        refine wpAnyH_take (i := 13) (oi := o71_13) (v := ?v61) rfl (by kernel_rfl) (by kernel_rfl) (by kernel_rfl) (fun _ _ _ h => h) (Or.inl ⟨by rfl, ?h61⟩) hHeld ?r61
        case h61 => (intro w hSw; (try dsimp only at hSw); go_simp; try with_reducible rfl)
        try simp only [Act.put, List.setIfInBounds_toArray, List.set_cons_zero, List.set_cons_succ]
        refine wpAnyH_take (i := 14) (oi := o71_14) (v := ?v62) rfl (by kernel_rfl) (by kernel_rfl) (by kernel_rfl) (fun _ _ _ h => h) (Or.inl ⟨by rfl, ?h62⟩) hHeld ?r62
        case h62 => (intro w hSw; (try dsimp only at hSw); go_simp; try with_reducible rfl)
        try simp only [Act.put, List.setIfInBounds_toArray, List.set_cons_zero, List.set_cons_succ]
        refine wpAnyH_take (i := 15) (oi := o71_15) (v := ?v63) rfl (by kernel_rfl) (by kernel_rfl) (by kernel_rfl) (fun _ _ _ h => h) (Or.inl ⟨by rfl, ?h63⟩) hHeld ?r63
        case h63 => (intro w hSw; (try dsimp only at hSw); go_simp; try with_reducible rfl)
        try simp only [Act.put, List.setIfInBounds_toArray, List.set_cons_zero, List.set_cons_succ]
        refine wpAnyH_take (i := 16) (oi := o71_16) (v := ?v64) rfl (by kernel_rfl) (by kernel_rfl) (by kernel_rfl) (fun _ _ _ h => h) (Or.inl ⟨by rfl, ?h64⟩) hHeld ?r64
        case h64 => (intro w hSw; (try dsimp only at hSw); go_simp; try with_reducible rfl)
        try simp only [Act.put, List.setIfInBounds_toArray, List.set_cons_zero, List.set_cons_succ]
        refine wpAnyH_take (i := 17) (oi := o71_17) (v := ?v65) rfl (by kernel_rfl) (by kernel_rfl) (by kernel_rfl) (fun _ _ _ h => h) (Or.inl ⟨by rfl, ?h65⟩) hHeld ?r65
        case h65 => (intro w hSw; (try dsimp only at hSw); go_simp; try with_reducible rfl)
        try simp only [Act.put, List.setIfInBounds_toArray, List.set_cons_zero, List.set_cons_succ]
        refine wpAnyH_ready (rs := [18]) (by kernel_rfl) (by simp) ?_
        refine AllReadyH.cons (o := o71_18) rfl (fun K hK => ?_) AllReadyH.nil
        go_simp
        clear hHeld
        refine hK.out _ _ (hS1 _) (fun hHeld => ?_)
        clear hK K
        try simp only [Act.put, List.setIfInBounds_toArray, List.set_cons_zero, List.set_cons_succ]
        refine wpAnyH_done (by kernel_rfl) ?_ _
        (try refine NoPanic.normal ?_)
        clear hHeld hS0 hS1 CC ZC
        go_wp2_with fail
        go_ret
        exact HFIN.out _
      case true =>
        refine wp_region_held_drew (S := (fun wq => wq.cell? ⟨b, 1, none⟩ = some (.slice (some ⟨g, 0, none⟩) ks.length gc) ∧ wq.cell? ⟨w.heap.size, 0, none⟩ = some (.string n))) (by kernel_rfl) hS0 (fun hHeld => ?_)
        refine wpAnyH_take (i := 0) (oi := o71_0) (v := ?v66) rfl (by kernel_rfl) (by kernel_rfl) (by kernel_rfl) (fun _ _ _ h => h) (Or.inl ⟨by rfl, ?h66⟩) hHeld ?r66
        case h66 => (intro w hSw; (try dsimp only at hSw); go_simp; try with_reducible rfl)
        try simp only [Act.put, List.setIfInBounds_toArray, List.set_cons_zero, List.set_cons_succ]
        refine wpAnyH_take (i := 1) (oi := o71_1) (v := ?v67) rfl (by kernel_rfl) (by kernel_rfl) (by kernel_rfl) (fun _ _ _ h => h) (Or.inl ⟨by rfl, ?h67⟩) hHeld ?r67
        case h67 => (intro w hSw; (try dsimp only at hSw); go_simp; try with_reducible rfl)
        try simp only [Act.put, List.setIfInBounds_toArray, List.set_cons_zero, List.set_cons_succ]
        refine wpAnyH_take (i := 2) (oi := o71_2) (v := ?v68) rfl (by kernel_rfl) (by kernel_rfl) (by kernel_rfl) (fun _ _ _ h => h) (Or.inl ⟨by rfl, ?h68⟩) hHeld ?r68
        case h68 => (intro w hSw; (try dsimp only at hSw); go_simp; try with_reducible rfl)
        try simp only [Act.put, List.setIfInBounds_toArray, List.set_cons_zero, List.set_cons_succ]
        refine wpAnyH_take (i := 3) (oi := o71_3) (v := ?v69) rfl (by kernel_rfl) (by kernel_rfl) (by kernel_rfl) (fun _ _ _ h => h) (Or.inl ⟨by rfl, ?h69⟩) hHeld ?r69
        case h69 => (intro w hSw; (try dsimp only at hSw); go_simp; try with_reducible rfl)
        try simp only [Act.put, List.setIfInBounds_toArray, List.set_cons_zero, List.set_cons_succ]
        refine wpAnyH_take (i := 4) (oi := o71_4) (v := ?v70) rfl (by kernel_rfl) (by kernel_rfl) (by kernel_rfl) (fun _ _ _ h => h) (Or.inl ⟨by rfl, ?h70⟩) hHeld ?r70
        case h70 => (intro w hSw; (try dsimp only at hSw); go_simp; try with_reducible rfl)
        try simp only [Act.put, List.setIfInBounds_toArray, List.set_cons_zero, List.set_cons_succ]
        refine wpAnyH_take (i := 5) (oi := o71_5) (v := ?v71) rfl (by kernel_rfl) (by kernel_rfl) (by kernel_rfl) (fun _ _ _ h => h) (Or.inl ⟨by rfl, ?h71⟩) hHeld ?r71
        case h71 => (intro w hSw; (try dsimp only at hSw); go_simp; try with_reducible rfl)
        try simp only [Act.put, List.setIfInBounds_toArray, List.set_cons_zero, List.set_cons_succ]
        refine wpAnyH_take (i := 6) (oi := o71_6) (v := ?v72) rfl (by kernel_rfl) (by kernel_rfl) (by kernel_rfl) (fun _ _ _ h => h) (Or.inl ⟨by rfl, ?h72⟩) hHeld ?r72
        case h72 => (intro w hSw; (try dsimp only at hSw); go_simp; try with_reducible rfl)
        try simp only [Act.put, List.setIfInBounds_toArray, List.set_cons_zero, List.set_cons_succ]
        refine wpAnyH_take (i := 7) (oi := o71_7) (v := ?v73) rfl (by kernel_rfl) (by kernel_rfl) (by kernel_rfl) (fun _ _ _ h => h) (Or.inl ⟨by rfl, ?h73⟩) hHeld ?r73
        case h73 => (intro w hSw; (try dsimp only at hSw); go_simp; try with_reducible rfl)
        try simp only [Act.put, List.setIfInBounds_toArray, List.set_cons_zero, List.set_cons_succ]
        refine wpAnyH_take (i := 8) (oi := o71_8) (v := ?v74) rfl (by kernel_rfl) (by kernel_rfl) (by kernel_rfl) (fun _ _ _ h => h) (Or.inl ⟨by rfl, ?h74⟩) hHeld ?r74
        case h74 => (intro w hSw; (try dsimp only at hSw); go_simp; try with_reducible rfl)
        try simp only [Act.put, List.setIfInBounds_toArray, List.set_cons_zero, List.set_cons_succ]
        refine wpAnyH_take (i := 9) (oi := o71_9) (v := ?v75) rfl (by kernel_rfl) (by kernel_rfl) (by kernel_rfl) (fun _ _ _ h => h) (Or.inl ⟨by rfl, ?h75⟩) hHeld ?r75
        case h75 => (intro w hSw; (try dsimp only at hSw); go_simp; try with_reducible rfl)
        try simp only [Act.put, List.setIfInBounds_toArray, List.set_cons_zero, List.set_cons_succ]
        refine wpAnyH_take (i := 10) (oi := o71_10) (v := ?v76) rfl (by kernel_rfl) (by kernel_rfl) (by kernel_rfl) (fun _ _ _ h => h) (Or.inl ⟨by rfl, ?h76⟩) hHeld ?r76
        case h76 => (intro w hSw; (try dsimp only at hSw); go_simp; try with_reducible rfl)
        try simp only [Act.put, List.setIfInBounds_toArray, List.set_cons_zero, List.set_cons_succ]
        refine wpAnyH_ready (rs := [11]) (by kernel_rfl) (by simp) ?_
        refine AllReadyH.cons (o := o71_11) rfl (fun K hK => ?_) AllReadyH.nil
        go_simp
        clear hHeld
        refine hK.out _ _ hS0 (fun hHeld => ?_)
        clear hK K
        try simp only [Act.put, List.setIfInBounds_toArray, List.set_cons_zero, List.set_cons_succ]
        refine wpAnyH_take (i := 12) (oi := o71_12) (v := ?v77) rfl (by kernel_rfl) (by kernel_rfl) (by kernel_rfl) (fun _ _ _ h => h) (Or.inl ⟨by rfl, ?h77⟩) hHeld ?r77
        case h77 => (intro w hSw; (try dsimp only at hSw); go_simp; try with_reducible rfl)
        try simp only [Act.put, List.setIfInBounds_toArray, List.set_cons_zero, List.set_cons_succ]
        refine wpAnyH_take (i := 13) (oi := o71_13) (v := undef) rfl (by kernel_rfl) (by kernel_rfl) (by kernel_rfl) (fun _ _ _ h => h) (Or.inr ⟨by rfl, rfl⟩) hHeld ?_
        try simp only [Act.put, List.setIfInBounds_toArray, List.set_cons_zero, List.set_cons_succ]
        refine wpAnyH_take (i := 14) (oi := o71_14) (v := undef) rfl (by kernel_rfl) (by kernel_rfl) (by kernel_rfl) (fun _ _ _ h => h) (Or.inr ⟨by rfl, rfl⟩) hHeld ?_
        try simp only [Act.put, List.setIfInBounds_toArray, List.set_cons_zero, List.set_cons_succ]
        refine wpAnyH_take (i := 15) (oi := o71_15) (v := undef) rfl (by kernel_rfl) (by kernel_rfl) (by kernel_rfl) (fun _ _ _ h => h) (Or.inr ⟨by rfl, rfl⟩) hHeld ?_
        try simp only [Act.put, List.setIfInBounds_toArray, List.set_cons_zero, List.set_cons_succ]
        refine wpAnyH_take (i := 16) (oi := o71_16) (v := ?v78) rfl (by kernel_rfl) (by kernel_rfl) (by kernel_rfl) (fun _ _ _ h => h) (Or.inl ⟨by rfl, ?h78⟩) hHeld ?r78
        case h78 => (intro w hSw; (try dsimp only at hSw); go_simp; try with_reducible rfl)
        try simp only [Act.put, List.setIfInBounds_toArray, List.set_cons_zero, List.set_cons_succ]
        refine wpAnyH_take (i := 17) (oi := o71_17) (v := ?v79) rfl (by kernel_rfl) (by kernel_rfl) (by kernel_rfl) (fun _ _ _ h => h) (Or.inl ⟨by rfl, ?h79⟩) hHeld ?r79
        case h79 => (intro w hSw; (try dsimp only at hSw); go_simp; try with_reducible rfl)
        try simp only [Act.put, List.setIfInBounds_toArray, List.set_cons_zero, List.set_cons_succ]
        refine wpAnyH_ready (rs := [18]) (by kernel_rfl) (by simp) ?_
        refine AllReadyH.cons (o := o71_18) rfl (fun K hK => ?_) AllReadyH.nil
        go_simp
        clear hHeld
        refine hK.out _ _ (hS1 _) (fun hHeld => ?_)
        clear hK K
        try simp only [Act.put, List.setIfInBounds_toArray, List.set_cons_zero, List.set_cons_succ]
        refine wpAnyH_done (by kernel_rfl) ?_ _
        (try refine NoPanic.normal ?_)
        clear hHeld hS0 hS1 CC ZC
        go_wp2_with fail
        go_ret
        exact HFIN.out _
    · have hnum : num = ks.length := by rw [List.length_map] at hg1; exact hg1
      subst hnum
      have had : adS ks x = ks ++ [x] := by
        unfold adS
        rw [if_neg (fun e => hg0 (strs_mem.2 (hasS_iff.1 e)))]
      obtain ⟨ga, gc0, rfl, hga⟩ := own_ne hrv4
      have B1 : w4.cell? ⟨b, 1, none⟩ = some (.slice ga ks.length gc0) := hb4.cell 1 (by simp)
      have HO := (show Hid _ from own_still hrv4 (bel_alloc w4 (.cells #[.bool false] 4)))
      have HZ := (show Hid (B ≤ (w4.alloc (.cells #[.bool false] 4)).heap.size) from (by show _ ≤ _; simp; omega))
      have HUP := (show Hid (∀ (g gc : Nat) (w5 : World), w5.ownsRow B 4 1 (.slice (some ⟨g, 0, none⟩) (ks.length + 1) gc) (ks.length + 1) (bs ++ [.bool false]) → (w4.alloc (.cells #[.bool false] 4)).grownBy w5 (Value.slice ga ks.length gc0).ownBlock → ((Value.slice ga ks.length gc0).ownBlock = some g ∨ g = w4.heap.size + 1) → (w5.cell? ⟨b, 1, none⟩ = some (.slice ga ks.length gc0) ∧ w5.frozen? ⟨b, 1, none⟩ = false) ∧ ((w5.setCell ⟨b, 1, none⟩ (.slice (some ⟨g, 0, none⟩) (ks.length + 1) gc)).drew.cell? ⟨g, ks.length, none⟩ = some (.bool false) ∧ (w5.setCell ⟨b, 1, none⟩ (.slice (some ⟨g, 0, none⟩) (ks.length + 1) gc)).drew.frozen? ⟨g, ks.length, none⟩ = false) ∧ ((w5.setCell ⟨b, 1, none⟩ (.slice (some ⟨g, 0, none⟩) (ks.length + 1) gc)).drew.cell? ⟨b, 1, none⟩ = some (.slice (some ⟨g, 0, none⟩) (ks.length + 1) gc) ∧ (w5.setCell ⟨b, 1, none⟩ (.slice (some ⟨g, 0, none⟩) (ks.length + 1) gc)).drew.cell? ⟨w.heap.size, 0, none⟩ = some (.string n)) ∧ (g ≠ b ∧ g ≠ w.heap.size) ∧ ∀ c' : Bool, VaA B b m ks hn false (.slice ga ks.length gc0) uh x w (.returned (.int .i64 (ks.length : Nat))) ((w5.setCell ⟨b, 1, none⟩ (.slice (some ⟨g, 0, none⟩) (ks.length + 1) gc)).drew.setCell ⟨g, ks.length, none⟩ (.bool c'))) from fun g gc w5 e1 e2 e3 => by
        have hs5 := e2.size
        have hgb : g ≠ b ∧ g ≠ m ∧ g ≠ w.heap.size := by
          rcases e3 with e | e
          · have h1 := hN2 g e
            have h2 := hrv0 g e
            exact ⟨h1.1, h1.2, by omega⟩
          · have := hmp.lt
            exact ⟨by omega, by omega, by omega⟩
        have nb : ∀ q, some q = (Value.slice ga ks.length gc0).ownBlock → q ≠ b ∧ q ≠ m := fun q hq => hN2 q hq.symm
        have hb5 : Box w5 b 112 [.map (some m), .slice ga ks.length gc0, uh, .bool (!(nmB x))] := (hb4.still (bel_alloc _ _)).keep (e2.block b (by simp; omega) (fun e => (nb b e).1 rfl))
        have hx5 : Box w5 w.heap.size 42 [.string n, .string x, .bool lf, kv] := (hx4.still (bel_alloc _ _)).keep (e2.block _ (by simp; omega) (fun e => by have := hrv0 _ e.symm; omega))
        have hm5 : Mn w5 m 9 (strs (ks ++ [x])) := by
          rw [← strs_app]
          have hml := hmp.lt
          exact (hmp.keep ((bel_alloc w4 (.cells #[.bool false] 4)).block m hml)).keep (e2.block m (by simp; omega) (fun e => (nb m e).2 rfl))
        have hh5 : w5.ownsRow B 138 1 uh hn hs := own_keep1 (own_still hrh4 (bel_alloc w4 (.cells #[.bool false] 4))) (fun q hq => e2.block q (by have := (hrh4.lt q hq).2; simp; omega) (fun e => (hN3 q hq).2.2 e.symm))
        have hF5 : Fm (fun q => q = b ∨ q = m ∨ (Value.slice ga ks.length gc0).ownBlock = some q) w w5 := (hf4.still (bel_alloc w4 (.cells #[.bool false] 4))).trans (Fm.of_grown (T := fun q => q = b ∨ q = m ∨ (Value.slice ga ks.length gc0).ownBlock = some q) e2 (fun q hq => .inr (.inr hq))) (fun _ _ e => e)
        have hk6 : ∀ q, q ≠ b → (w5.setCell ⟨b, 1, none⟩ (.slice (some ⟨g, 0, none⟩) (ks.length + 1) gc)).drew.heap[q]? = w5.heap[q]? := fun q hq => blk_setCell_other _ _ _ _ (by show q ≠ b; exact hq)
        have hb6 : Box (w5.setCell ⟨b, 1, none⟩ (.slice (some ⟨g, 0, none⟩) (ks.length + 1) gc)).drew b 112 [.map (some m), .slice (some ⟨g, 0, none⟩) (ks.length + 1) gc, uh, .bool (!(nmB x))] := (hb5.set 1 _).still ((Below.refl _ _).drew)
        have hv6 : (w5.setCell ⟨b, 1, none⟩ (.slice (some ⟨g, 0, none⟩) (ks.length + 1) gc)).drew.ownsRow B 4 1 (.slice (some ⟨g, 0, none⟩) (ks.length + 1) gc) (ks.length + 1) (bs ++ [.bool false]) := own_keep1 e1 (fun q hq => hk6 q (fun e => hgb.1 ((show g = q from (by simpa [Value.ownBlock] using hq)).trans e)))
        have hbsl : bs.length = ks.length := by have := hrv4.1; omega
        refine ⟨⟨hb5.cell 1 (by simp), hb5.frozen 1⟩, ⟨?_, hv6.frozenAt _⟩, ⟨hb6.cell 1 (by simp), ?_⟩, ⟨hgb.1, hgb.2.2⟩, fun c' => ?_⟩
        · rw [hv6.cellAt ks.length (by omega), List.getElem?_append_right (by omega)]
          simp [hbsl]
        · exact (hx5.keep (hk6 _ (by omega))).cell 0 (by simp)
        · have hk7 : ∀ q, q ≠ g → ((w5.setCell ⟨b, 1, none⟩ (.slice (some ⟨g, 0, none⟩) (ks.length + 1) gc)).drew.setCell ⟨g, ks.length, none⟩ (.bool c')).heap[q]? = (w5.setCell ⟨b, 1, none⟩ (.slice (some ⟨g, 0, none⟩) (ks.length + 1) gc)).drew.heap[q]? := fun q hq => blk_setCell_other _ _ _ _ (by show q ≠ g; exact hq)
          refine ⟨ks.length, .slice (some ⟨g, 0, none⟩) (ks.length + 1) gc, rfl, ?_, ?_, ?_, by rw [had]; simp⟩
          · rw [had]
            refine ⟨by simpa using hb6.keep (hk7 _ (Ne.symm hgb.1)), (hm5.keep (hk6 _ (Ne.symm hN1))).keep (hk7 _ (Ne.symm hgb.2.1)), ⟨(bs ++ [Value.bool false]).set ks.length (Value.bool c'), allB_set (fun y hy => ?_) _ _, ?_⟩, ⟨hs, own_keep1 (own_keep1 hh5 (fun q hq => hk6 q (hN3 q hq).1)) (fun q hq => hk7 q (fun e => ?_))⟩, hHB, hHM, hN1, fun q hq => ?_, fun q hq => ⟨(hN3 q hq).1, (hN3 q hq).2.1, fun e => ?_⟩⟩
            · rcases List.mem_append.1 hy with h | h
              · exact hab y h
              · rw [List.mem_singleton] at h; exact ⟨false, h⟩
            · rw [List.length_append]
              exact (hv6.stored ks.length (.bool c')).1
            · subst e
              rcases e3 with e | e
              · exact (hN3 q hq).2.2 e
              · have := (hrh4.lt q hq).2; omega
            · have : g = q := by simpa [Value.ownBlock] using hq
              subst this
              exact ⟨hgb.1, hgb.2.1⟩
            · have : g = q := by simpa [Value.ownBlock] using e
              subst this
              rcases e3 with e | e
              · exact (hN3 g hq).2.2 e
              · have := (hrh4.lt g hq).2; omega
          · refine ((hF5.trans (Fm.set (T := fun q => q = b ∨ q = m ∨ (Value.slice ga ks.length gc0).ownBlock = some q) (.inl rfl)) (fun _ _ e => e)).drew).trans (T' := fun q => q = g) (Fm.set rfl) (fun q hq e => ?_)
            subst e
            rcases e3 with e | e
            · exact .inr (.inr e)
            · omega
          · rcases e3 with e | e
            · exact .inl e.symm
            · exact .inr ⟨g, rfl, by omega⟩)
      have j2 : ((ks.length : Int) == (ks.length : Int)) = true := by simp
      have hgi : ks.length ≤ 100000 := by omega
      clear hrv4 hrh4 hmp hb4 hab hf4 hx4 hg1 hg0 hN2 hN3 had
      go_wp2_with (at_builtin; refine wpList_append_lies _ rfl (.tmp 37) (.tmp 38) 84 rfl B 4 i4 _ 1 1 Try.underlying84 hi4 hz0 hz1 hz2 rfl (by decide) _ ks.length bs rfl HO.out ⟨w4.heap.size, 0, none⟩ 1 1 [.bool false] rfl rfl ?c1 ?c2 (by decide) ?c3 (by omega) ?c5 _ rfl ?nx)
      case c1 => exact World.news_of_block (cs := #[.bool false]) (blk_alloc_new _ _)
      case c2 => intro u hu; simp at hu; subst hu; rfl
      case c3 => unfold maxLen; omega
      case c5 => exact HZ.out
      case nx =>
        intro g gc w5 hown5 hgr5 hat5 hlt5
        obtain ⟨⟨B5, Z5⟩, ⟨CC, ZC⟩, hS0, ⟨hgb, hgw⟩, hfin⟩ := HUP.out g gc w5 hown5 hgr5 (by simpa using hat5)
        have HFIN := (show Hid _ from hfin)
        have hS1 : ∀ u : Value, ((w5.setCell ⟨b, 1, none⟩ (.slice (some ⟨g, 0, none⟩) (ks.length + 1) gc)).drew.setCell ⟨g, ks.length, none⟩ u).cell? ⟨b, 1, none⟩ = some (.slice (some ⟨g, 0, none⟩) (ks.length + 1) gc) ∧ ((w5.setCell ⟨b, 1, none⟩ (.slice (some ⟨g, 0, none⟩) (ks.length + 1) gc)).drew.setCell ⟨g, ks.length, none⟩ u).cell? ⟨w.heap.size, 0, none⟩ = some (.string n) := fun u => ⟨(World.cell?_setCell_far _ _ _ _ (by show g ≠ b; exact hgb)).trans hS0.1, (World.cell?_setCell_far _ _ _ _ (by show g ≠ w.heap.size; exact hgw)).trans hS0.2⟩
        have j0 : (0 : Int) ≤ (ks.length : Int) := by omega
        have j1 : (ks.length : Int) < (ks.length : Int) + 1 := by omega
        clear hown5 hgr5 hat5 hlt5 HUP HO HZ hfin B1
        go_wp2_with fail
        refine wp_region_held_drew (S := (fun wq => wq.cell? ⟨b, 1, none⟩ = some (.slice (some ⟨g, 0, none⟩) (ks.length + 1) gc) ∧ wq.cell? ⟨w.heap.size, 0, none⟩ = some (.string n))) (by kernel_rfl) hS0 (fun hHeld => ?_)
        refine wpAnyH_take (i := 0) (oi := o71_0) (v := ?v80) rfl (by kernel_rfl) (by kernel_rfl) (by kernel_rfl) (fun _ _ _ h => h) (Or.inl ⟨by rfl, ?h80⟩) hHeld ?r80
        case h80 => (intro w hSw; (try dsimp only at hSw); go_simp; try with_reducible rfl)
        try simp only [Act.put, List.setIfInBounds_toArray, List.set_cons_zero, List.set_cons_succ]
        refine wpAnyH_take (i := 1) (oi := o71_1) (v := ?v81) rfl (by kernel_rfl) (by kernel_rfl) (by kernel_rfl) (fun _ _ _ h => h) (Or.inl ⟨by rfl, ?h81⟩) hHeld ?r81
        case h81 => (intro w hSw; (try dsimp only at hSw); go_simp; try with_reducible rfl)
        try simp only [Act.put, List.setIfInBounds_toArray, List.set_cons_zero, List.set_cons_succ]
        refine wpAnyH_take (i := 2) (oi := o71_2) (v := ?v82) rfl (by kernel_rfl) (by kernel_rfl) (by kernel_rfl) (fun _ _ _ h => h) (Or.inl ⟨by rfl, ?h82⟩) hHeld ?r82
        case h82 => (intro w hSw; (try dsimp only at hSw); go_simp; try with_reducible rfl)
        try simp only [Act.put, List.setIfInBounds_toArray, List.set_cons_zero, List.set_cons_succ]
        refine wpAnyH_take (i := 3) (oi := o71_3) (v := ?v83) rfl (by kernel_rfl) (by kernel_rfl) (by kernel_rfl) (fun _ _ _ h => h) (Or.inl ⟨by rfl, ?h83⟩) hHeld ?r83
        case h83 => (intro w hSw; (try dsimp only at hSw); go_simp; try with_reducible rfl)
        try simp only [Act.put, List.setIfInBounds_toArray, List.set_cons_zero, List.set_cons_succ]
        refine wpAnyH_take (i := 4) (oi := o71_4) (v := ?v84) rfl (by kernel_rfl) (by kernel_rfl) (by kernel_rfl) (fun _ _ _ h => h) (Or.inl ⟨by rfl, ?h84⟩) hHeld ?r84
        case h84 => (intro w hSw; (try dsimp only at hSw); go_simp; try with_reducible rfl)
        try simp only [Act.put, List.setIfInBounds_toArray, List.set_cons_zero, List.set_cons_succ]
        refine wpAnyH_take (i := 5) (oi := o71_5) (v := ?v85) rfl (by kernel_rfl) (by kernel_rfl) (by kernel_rfl) (fun _ _ _ h => h) (Or.inl ⟨by rfl, ?h85⟩) hHeld ?r85
        case h85 => (intro w hSw; (try dsimp only at hSw); go_simp; try with_reducible rfl)
        try simp only [Act.put, List.setIfInBounds_toArray, List.set_cons_zero, List.set_cons_succ]
        refine wpAnyH_take (i := 6) (oi := o71_6) (v := ?v86) rfl (by kernel_rfl) (by kernel_rfl) (by kernel_rfl) (fun _ _ _ h => h) (Or.inl ⟨by rfl, ?h86⟩) hHeld ?r86
        case h86 => (intro w hSw; (try dsimp only at hSw); go_simp; try with_reducible rfl)
        try simp only [Act.put, List.setIfInBounds_toArray, List.set_cons_zero, List.set_cons_succ]
        refine wpAnyH_take (i := 7) (oi := o71_7) (v := ?v87) rfl (by kernel_rfl) (by kernel_rfl) (by kernel_rfl) (fun _ _ _ h => h) (Or.inl ⟨by rfl, ?h87⟩) hHeld ?r87
        case h87 => (intro w hSw; (try dsimp only at hSw); go_simp; try with_reducible rfl)
        try simp only [Act.put, List.setIfInBounds_toArray, List.set_cons_zero, List.set_cons_succ]
        refine wpAnyH_take (i := 8) (oi := o71_8) (v := ?v88) rfl (by kernel_rfl) (by kernel_rfl) (by kernel_rfl) (fun _ _ _ h => h) (Or.inl ⟨by rfl, ?h88⟩) hHeld ?r88
        case h88 => (intro w hSw; (try dsimp only at hSw); go_simp; try with_reducible rfl)
        try simp only [Act.put, List.setIfInBounds_toArray, List.set_cons_zero, List.set_cons_succ]
        refine wpAnyH_take (i := 9) (oi := o71_9) (v := ?v89) rfl (by kernel_rfl) (by kernel_rfl) (by kernel_rfl) (fun _ _ _ h => h) (Or.inl ⟨by rfl, ?h89⟩) hHeld ?r89
        case h89 => (intro w hSw; (try dsimp only at hSw); go_simp; try with_reducible rfl)
        try simp only [Act.put, List.setIfInBounds_toArray, List.set_cons_zero, List.set_cons_succ]
        refine wpAnyH_take (i := 10) (oi := o71_10) (v := ?v90) rfl (by kernel_rfl) (by kernel_rfl) (by kernel_rfl) (fun _ _ _ h => h) (Or.inl ⟨by rfl, ?h90⟩) hHeld ?r90
        case h90 => (intro w hSw; (try dsimp only at hSw); go_simp; try with_reducible rfl)
        try simp only [Act.put, List.setIfInBounds_toArray, List.set_cons_zero, List.set_cons_succ]
        refine wpAnyH_ready (rs := [11]) (by kernel_rfl) (by simp) ?_
        refine AllReadyH.cons (o := o71_11) rfl (fun K hK => ?_) AllReadyH.nil
        go_simp
        clear hHeld
        refine hK.out _ _ hS0 (fun hHeld => ?_)
        clear hK K
        try simp only [Act.put, List.setIfInBounds_toArray, List.set_cons_zero, List.set_cons_succ]
        refine wpAnyH_take (i := 12) (oi := o71_12) (v := ?v91) rfl (by kernel_rfl) (by kernel_rfl) (by kernel_rfl) (fun _ _ _ h => h) (Or.inl ⟨by rfl, ?h91⟩) hHeld ?r91
        case h91 => (intro w hSw; (try dsimp only at hSw); go_simp; try with_reducible rfl)
        try simp only [Act.put, List.setIfInBounds_toArray, List.set_cons_zero, List.set_cons_succ]
        refine wpAnyH_take (i := 13) (oi := o71_13) (v := ?v92) rfl (by kernel_rfl) (by kernel_rfl) (by kernel_rfl) (fun _ _ _ h => h) (Or.inl ⟨by rfl, ?h92⟩) hHeld ?r92
        case h92 => (intro w hSw; (try dsimp only at hSw); go_simp; try with_reducible rfl)
        try simp only [Act.put, List.setIfInBounds_toArray, List.set_cons_zero, List.set_cons_succ]
        refine wpAnyH_take (i := 14) (oi := o71_14) (v := ?v93) rfl (by kernel_rfl) (by kernel_rfl) (by kernel_rfl) (fun _ _ _ h => h) (Or.inl ⟨by rfl, ?h93⟩) hHeld ?r93
        case h93 => (intro w hSw; (try dsimp only at hSw); go_simp; try with_reducible rfl)
        try simp only [Act.put, List.setIfInBounds_toArray, List.set_cons_zero, List.set_cons_succ]
        refine wpAnyH_take (i := 15) (oi := o71_15) (v := ?v94) rfl (by kernel_rfl) (by kernel_rfl) (by kernel_rfl) (fun _ _ _ h => h) (Or.inl ⟨by rfl, ?h94⟩) hHeld ?r94
        case h94 => (intro w hSw; (try dsimp only at hSw); go_simp; try with_reducible rfl)
        try simp only [Act.put, List.setIfInBounds_toArray, List.set_cons_zero, List.set_cons_succ]
        refine wpAnyH_take (i := 16) (oi := o71_16) (v := ?v95) rfl (by kernel_rfl) (by kernel_rfl) (by kernel_rfl) (fun _ _ _ h => h) (Or.inl ⟨by rfl, ?h95⟩) hHeld ?r95
        case h95 => (intro w hSw; (try dsimp only at hSw); go_simp; try with_reducible rfl)
        try simp only [Act.put, List.setIfInBounds_toArray, List.set_cons_zero, List.set_cons_succ]
        refine wpAnyH_take (i := 17) (oi := o71_17) (v := ?v96) rfl (by kernel_rfl) (by kernel_rfl) (by kernel_rfl) (fun _ _ _ h => h) (Or.inl ⟨by rfl, ?h96⟩) hHeld ?r96
        case h96 => (intro w hSw; (try dsimp only at hSw); go_simp; try with_reducible rfl)
        try simp only [Act.put, List.setIfInBounds_toArray, List.set_cons_zero, List.set_cons_succ]
        refine wpAnyH_ready (rs := [18]) (by kernel_rfl) (by simp) ?_
        refine AllReadyH.cons (o := o71_18) rfl (fun K hK => ?_) AllReadyH.nil
        go_simp
        clear hHeld
        refine hK.out _ _ (hS1 _) (fun hHeld => ?_)
        clear hK K
        try simp only [Act.put, List.setIfInBounds_toArray, List.set_cons_zero, List.set_cons_succ]
        refine wpAnyH_done (by kernel_rfl) ?_ _
        (try refine NoPanic.normal ?_)
        clear hHeld hS0 hS1 CC ZC
        go_wp2_with fail
        go_ret
        exact HFIN.out _
end Go.Proofs.Ytboffildchoelaa
