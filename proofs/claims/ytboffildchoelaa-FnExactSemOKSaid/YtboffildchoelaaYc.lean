import Derived.Test.YtboffildchoelaaYb
/-! The program: a part of a pattern is read (what stands in the loop). -/
namespace Go.Proofs.Ytboffildchoelaa
open Go.RowKit Go.Deep Go.Maps Go.WideMaps Go.ChangeMaps Go.Lib
set_option linter.unusedVariables false
set_option maxRecDepth 100000
set_option linter.unusedSimpArgs false

theorem Rs.fm {T : Nat → Prop} {w w' : World} {B b m : Nat} {ks : List ByteArray} {hn : Nat} {f : Bool} {uv uh : Value} (h : Rs w B b m ks hn f uv uh) (hf : Fm T w w') (h1 : ¬ T b) (h2 : ¬ T m) (h3 : ∀ q, uv.ownBlock = some q → ¬ T q) (h4 : ∀ q, uh.ownBlock = some q → ¬ T q) : Rs w' B b m ks hn f uv uh := by
  obtain ⟨bs, g1, g2⟩ := h.rv
  obtain ⟨hs, g3⟩ := h.rh
  exact ⟨h.bx.keep (hf.block _ h.bx.lt h1), h.mp.keep (hf.block _ h.mp.lt h2), ⟨bs, g1, own_keep1 g2 (fun q hq => hf.block q (g2.lt q hq).2 (h3 q hq))⟩, ⟨hs, own_keep1 g3 (fun q hq => hf.block q (g3.lt q hq).2 (h4 q hq))⟩, h.hb, h.hm, h.n1, h.n2, h.n3⟩
theorem Rs.uvl {w : World} {B b m : Nat} {ks : List ByteArray} {hn : Nat} {f : Bool} {uv uh : Value} (h : Rs w B b m ks hn f uv uh) : ∀ q, uv.ownBlock = some q → B ≤ q ∧ q < w.heap.size := fun q hq => by
  obtain ⟨bs, g1, g2⟩ := h.rv
  exact g2.lt q hq
theorem Rs.uhl {w : World} {B b m : Nat} {ks : List ByteArray} {hn : Nat} {f : Bool} {uv uh : Value} (h : Rs w B b m ks hn f uv uh) : ∀ q, uh.ownBlock = some q → B ≤ q ∧ q < w.heap.size := fun q hq => by
  obtain ⟨hs, g3⟩ := h.rh
  exact g3.lt q hq
def kd (n : ByteArray) (l : Bool) : Int := if hoB n l = true then 2 else if v6B n l = true then 1 else 0
/-- What a part leaves. -/
def PaA (B b m : Nat) (ks : List ByteArray) (hn : Nat) (f : Bool) (uv uh pvv : Value) (pn : Nat) (xs : List Value) (t : Tr) (w : World) (e : Ending) (w' : World) : Prop :=
  ∃ (q : Nat) (uv' uh' : Value) (s1 s2 : ByteArray) (l : Bool) (num : Int) (kv : Value), e = .returned (.pointer (some ⟨q, 0, none⟩)) ∧ w.heap.size ≤ q ∧
    Box w' q 129 [.string s1, .string s2, .bool l, .int .i64 (kd t.name t.leaf), .int .i64 num, kv] ∧ Rs w' B b m (pv t ks) (hn + ph t) (f || pf t) uv' uh' ∧ Fm (To b m uv uh pvv) w w' ∧ w'.ownsRow B 3 1 pvv pn xs ∧
    At1 w.heap.size uv uv' ∧ At1 w.heap.size uh uh' ∧ uv'.ownBlock ≠ some q ∧ uh'.ownBlock ≠ some q
/-- The path is none of the reader's rows. -/
def Pd (b m : Nat) (uv uh pvv : Value) : Prop := ∀ q, pvv.ownBlock = some q → q ≠ b ∧ q ≠ m ∧ uv.ownBlock ≠ some q ∧ uh.ownBlock ≠ some q
/-- The contract. -/
def PaC (B b m : Nat) (t : Tr) (v : Value) : Prop := ∀ (ks : List ByteArray) (hn : Nat) (f : Bool) (uv uh pvv : Value) (pn : Nat) (xs : List Value) (w : World),
  Rs w B b m ks hn f uv uh → w.ownsRow B 3 1 pvv pn xs → Pd b m uv uh pvv → (∀ u ∈ xs, u.oneCell' = true) → B ≤ w.heap.size → Lies w (fun q => q < B) t v → ks.length + t.cnt ≤ 100000 → hn + t.cnt ≤ 100000 → pn + t.deep ≤ 100000 →
  Calls Try.prog 63 #[.pointer (some ⟨b, 0, none⟩), t.val v, pvv] w (PaA B b m ks hn f uv uh pvv pn xs t w)
/-- What stays while a node's Kids are read. -/
structure PX where
  B : Nat
  b : Nat
  m : Nat
  ks : List ByteArray
  hn : Nat
  f : Bool
  uv : Value
  uh : Value
  pvv : Value
  pn : Nat
  xs : List Value
  w : World
  n : ByteArray
  x : ByteArray
  lf : Bool
  kc : Value
  p : Nat
structure PI (X : PX) (k : List Tr) (j : Nat) (uvj uhj kvj : Value) (wr : World) : Prop where
  rs : Rs wr X.B X.b X.m (pvK ((k.take j).map pv) X.ks) (X.hn + phL (k.take j)) (X.f || (k.take j).any pf) uvj uhj
  fm : Fm (To X.b X.m X.uv X.uh X.pvv) X.w wr
  pw : wr.ownsRow X.B 3 1 X.pvv X.pn X.xs
  a1 : At1 X.w.heap.size X.uv uvj
  a2 : At1 X.w.heap.size X.uh uhj
  bt : Box wr X.w.heap.size 42 [.string X.n, .string X.x, .bool X.lf, X.kc]
  bp : Box wr X.p 129 [.string X.n, .string X.x, .bool X.lf, .int .i64 0, .int .i64 0, kvj]
  kr : ∃ ys : List Value, wr.ownsRow X.w.heap.size 83 1 kvj j ys
  hp : X.w.heap.size < X.p
  d1 : uvj.ownBlock ≠ some X.p ∧ uvj.ownBlock ≠ some X.w.heap.size
  d2 : uhj.ownBlock ≠ some X.p ∧ uhj.ownBlock ≠ some X.w.heap.size
  d3 : ∀ q, kvj.ownBlock = some q → q ≠ X.p ∧ q ≠ X.w.heap.size ∧ uvj.ownBlock ≠ some q ∧ uhj.ownBlock ≠ some q
/-- What is known from the beginning. -/
structure PB (X : PX) : Prop where
  rs : Rs X.w X.B X.b X.m X.ks X.hn X.f X.uv X.uh
  pw : X.w.ownsRow X.B 3 1 X.pvv X.pn X.xs
  pd : Pd X.b X.m X.uv X.uh X.pvv
  one : ∀ u ∈ X.xs, u.oneCell' = true
  hB : X.B ≤ X.w.heap.size
theorem at1_old {H : Nat} {u u' : Value} {q : Nat} (h : At1 H u u') (e : u'.ownBlock = some q) (hq : q < H) : u.ownBlock = some q := by
  rcases h with e1 | ⟨q', e1, hq'⟩
  · rw [← e1]; exact e
  · rw [e1] at e
    injection e with e
    omega
abbrev kidB (t : Tr) (v : Value) : Obj := .cells #[.string t.name, .string t.text, .bool t.leaf, v] 42
abbrev wK (wr : World) (t : Tr) (v : Value) : World := (wr.alloc (kidB t v)).drew
abbrev wP (wr : World) (t : Tr) (v : Value) (j : Nat) : World := (wK wr t v).alloc (.cells #[.int .i64 (j : Int)] 3)
def Sc (c0 : Nat) (t : Tr) (v : Value) (wq : World) : Prop := wq.cell? ⟨c0, 0, none⟩ = some (.string t.name) ∧ wq.cell? ⟨c0, 1, none⟩ = some (.string t.text) ∧ wq.cell? ⟨c0, 2, none⟩ = some (.bool t.leaf) ∧ wq.cell? ⟨c0, 3, none⟩ = some v
theorem sc_box {c0 : Nat} {t : Tr} {v : Value} {wq : World} (h : Box wq c0 42 [.string t.name, .string t.text, .bool t.leaf, v]) : Sc c0 t v wq := ⟨h.cell 0 (by simp), h.cell 1 (by simp), h.cell 2 (by simp), h.cell 3 (by simp)⟩
/-- Behind the Kid. -/
def P8 (X : PX) (k : List Tr) (j : Nat) (t : Tr) (v kvj : Value) (c0 : Nat) (w8 : World) (q8 : Nat) : Prop :=
  Sc c0 t v w8 ∧ w8.cell? ⟨X.p, 5, none⟩ = some kvj ∧ (w8.alloc (.cells #[.pointer (some ⟨q8, 0, none⟩)] 83)).cell? ⟨X.p, 5, none⟩ = some kvj ∧ Sc c0 t v (w8.alloc (.cells #[.pointer (some ⟨q8, 0, none⟩)] 83)) ∧ X.w.heap.size ≤ (w8.alloc (.cells #[.pointer (some ⟨q8, 0, none⟩)] 83)).heap.size ∧
  ∃ ys : List Value, (w8.alloc (.cells #[.pointer (some ⟨q8, 0, none⟩)] 83)).ownsRow X.w.heap.size 83 1 kvj j ys ∧
  ∀ (g9 c9 : Nat) (w9 : World), w9.ownsRow X.w.heap.size 83 1 (.slice (some ⟨g9, 0, none⟩) (j + 1) c9) (j + 1) (ys ++ [.pointer (some ⟨q8, 0, none⟩)]) → (w8.alloc (.cells #[.pointer (some ⟨q8, 0, none⟩)] 83)).grownBy w9 kvj.ownBlock → (kvj.ownBlock = some g9 ∨ g9 = w8.heap.size + 1) →
    Sc c0 t v w9 ∧ (w9.cell? ⟨X.p, 5, none⟩ = some kvj ∧ w9.frozen? ⟨X.p, 5, none⟩ = false) ∧ Sc c0 t v (w9.setCell ⟨X.p, 5, none⟩ (.slice (some ⟨g9, 0, none⟩) (j + 1) c9)) ∧ ∃ uv9 uh9, PI X k (j + 1) uv9 uh9 (.slice (some ⟨g9, 0, none⟩) (j + 1) c9) (w9.setCell ⟨X.p, 5, none⟩ (.slice (some ⟨g9, 0, none⟩) (j + 1) c9))
set_option maxHeartbeats 1600000 in
theorem pi_up {X : PX} (hX : PB X) {k : List Tr} {j : Nat} (hj : j < k.length) {uvj uhj kvj v : Value} {wr : World} (h : PI X k j uvj uhj kvj wr) (hc : PaC X.B X.b X.m k[j] v) (hl : Lies X.w (fun q => q < X.B) k[j] v) (h1 : X.ks.length + Tr.cntL k + 1 ≤ 100000) (h2 : X.hn + Tr.cntL k + 1 ≤ 100000) (h3 : X.pn + Tr.deepL k + 1 ≤ 100000) :
    ∀ (v7 : Value) (w7 : World), OneMore X.B X.pvv v7 X.pn X.xs (.int .i64 (j : Int)) (wP wr k[j] v j) w7 →
      Sc wr.heap.size k[j] v w7 ∧ w7.cell? ⟨X.p, 5, none⟩ = some kvj ∧ Calls Try.prog 63 #[.pointer (some ⟨X.b, 0, none⟩), k[j].val v, v7] w7 fun e w8 => ∃ q8, e = .returned (.pointer (some ⟨q8, 0, none⟩)) ∧ P8 X k j k[j] v kvj wr.heap.size w8 q8 := by
  intro v7 w7 hom
  obtain ⟨o1, ⟨g7, c7, rfl⟩, o3, o4⟩ := hom
  have hwz := h.fm.size
  have hbw : X.b < X.w.heap.size := hX.rs.bx.lt
  have hmw : X.m < X.w.heap.size := hX.rs.mp.lt
  have hpl : X.p < wr.heap.size := h.bp.lt
  have htl : X.w.heap.size < wr.heap.size := h.bt.lt
  have hpw := hX.pw.lt
  -- up to the row of the path
  have bk : Below wr.heap.size wr (wP wr k[j] v j) := (((bel_alloc wr _).drew).trans ((bel_alloc (wK wr k[j] v) _).mono (by simp)))
  have hkb : Box (wP wr k[j] v j) wr.heap.size 42 [.string k[j].name, .string k[j].text, .bool k[j].leaf, v] := ((Box.new wr 42 [.string k[j].name, .string k[j].text, .bool k[j].leaf, v]).still ((Below.refl _ _).drew)).still (bel_alloc _ _)
  have hzP : (wP wr k[j] v j).heap.size = wr.heap.size + 2 := by simp
  have hz7 := o3.size
  -- who may be the path's block
  have v7b : ∀ q, (Value.slice (some ⟨g7, 0, none⟩) (X.pn + 1) c7).ownBlock = some q → (X.pvv.ownBlock = some q) ∨ q = wr.heap.size + 2 := by
    intro q hq
    rcases o4 with ⟨e, _⟩ | ⟨e, _⟩
    · exact .inl (by rw [← e]; exact hq)
    · rw [e] at hq
      injection hq with hq
      right
      omega
  have f7 : Fm (fun q => X.pvv.ownBlock = some q) wr w7 := (Fm.of_below bk).trans (Fm.of_grown (T := fun q => X.pvv.ownBlock = some q) o3 (fun q hq => hq)) (fun _ _ e => e)
  have nP : ∀ q, X.w.heap.size ≤ q → ¬ (X.pvv.ownBlock = some q) := fun q hq e => by have := (hpw q e).2; omega
  have uvn : ∀ q, uvj.ownBlock = some q → ¬ (X.pvv.ownBlock = some q) := fun q hq e => by
    have := (hpw q e).2
    exact (hX.pd q e).2.2.1 (at1_old h.a1 hq this)
  have uhn : ∀ q, uhj.ownBlock = some q → ¬ (X.pvv.ownBlock = some q) := fun q hq e => by
    have := (hpw q e).2
    exact (hX.pd q e).2.2.2 (at1_old h.a2 hq this)
  have rs7 : Rs w7 X.B X.b X.m (pvK ((k.take j).map pv) X.ks) (X.hn + phL (k.take j)) (X.f || (k.take j).any pf) uvj uhj := h.rs.fm f7 (fun e => (hX.pd _ e).1 rfl) (fun e => (hX.pd _ e).2.1 rfl) uvn uhn
  have bt7 := h.bt.fm f7 (nP _ (Nat.le_refl _))
  have bp7 := h.bp.fm f7 (nP _ (by have := h.hp; omega))
  have kb7 : Box w7 wr.heap.size 42 [.string k[j].name, .string k[j].text, .bool k[j].leaf, v] := hkb.keep (o3.block _ (by omega) (fun e => nP _ (by omega) e.symm))
  obtain ⟨ys, hys⟩ := h.kr
  have kr7 : w7.ownsRow X.w.heap.size 83 1 kvj j ys := own_keep1 hys (fun q hq => f7.block q (hys.lt q hq).2 (nP q (hys.lt q hq).1))
  have fmW7 : Fm (To X.b X.m X.uv X.uh X.pvv) X.w w7 := h.fm.trans f7 (fun q hq e => .inr (.inr (.inr (.inr e))))
  have hTB : ∀ q, To X.b X.m X.uv X.uh X.pvv q → X.B ≤ q := by
    rintro q (e | e | e | e | e)
    · rw [e]; exact hX.rs.hb
    · rw [e]; exact hX.rs.hm
    · exact (hX.rs.uvl q e).1
    · exact (hX.rs.uhl q e).1
    · exact (hpw q e).1
  have bel7 : Below X.B X.w w7 := fmW7.below hTB hX.hB
  have pd7 : Pd X.b X.m uvj uhj (.slice (some ⟨g7, 0, none⟩) (X.pn + 1) c7) := by
    intro q hq
    rcases v7b q hq with e | e
    · have := hX.pd q e
      exact ⟨this.1, this.2.1, fun e2 => uvn q e2 e, fun e2 => uhn q e2 e⟩
    · refine ⟨by omega, by omega, fun e2 => ?_, fun e2 => ?_⟩
      · have := (h.rs.uvl q e2).2; omega
      · have := (h.rs.uhl q e2).2; omega
  have hcd := Tr.cntL_drop k j hj
  have hca := Tr.cntL_append (k.take j) (k.drop j)
  rw [List.take_append_drop] at hca
  have hpl2 := pvK_len (k.take j) X.ks (fun i hi l => pv_few _ l)
  have hph2 := phL_le (k.take j) (fun i hi => ph_few _)
  have hdp : k[j].deep ≤ Tr.deepL k := by
    have e1 := Tr.deepL_take_succ k j hj
    have e2 := Tr.deepL_take_le k (j + 1)
    omega
  have hcl := hc _ _ (X.f || (k.take j).any pf) uvj uhj (.slice (some ⟨g7, 0, none⟩) (X.pn + 1) c7) (X.pn + 1) (X.xs ++ [.int .i64 (j : Int)]) w7 rs7 o1 pd7 (fun u hu => by
    rcases List.mem_append.1 hu with h | h
    · exact hX.one u h
    · rw [List.mem_singleton] at h; subst h; rfl) (by have := hX.hB; omega) (hl.keep (fun q hq => bel7.block q hq)) (by omega) (by omega) (by omega)
  refine ⟨sc_box kb7, bp7.cell 5 (by simp), Calls.mono hcl ?_⟩
  rintro e w8 ⟨q8, uv8, uh8, s1, s2, l8, num8, kv8, rfl, hq8, hbx8, rs8, fm8, pw8, a18, a28, n8, n8'⟩
  refine ⟨q8, rfl, ?_⟩
  have hz8 := fm8.size
  -- the Kid's reading leaves what is ours
  have nT : ∀ q, X.w.heap.size ≤ q → q < wr.heap.size + 2 → uvj.ownBlock ≠ some q → uhj.ownBlock ≠ some q → ¬ To X.b X.m uvj uhj (.slice (some ⟨g7, 0, none⟩) (X.pn + 1) c7) q := by
    rintro q g1 g2 g3 g4 (e | e | e | e | e)
    · omega
    · omega
    · exact g3 e
    · exact g4 e
    · rcases v7b q e with e2 | e2
      · exact nP q g1 e2
      · omega
  have uvr : ∀ q, uvj.ownBlock = some q → q < wr.heap.size := fun q e => (h.rs.uvl q e).2
  have uhr : ∀ q, uhj.ownBlock = some q → q < wr.heap.size := fun q e => (h.rs.uhl q e).2
  have bt8 := bt7.fm fm8 (nT _ (Nat.le_refl _) (by omega) h.d1.2 h.d2.2)
  have bp8 := bp7.fm fm8 (nT _ (by have := h.hp; omega) (by omega) h.d1.1 h.d2.1)
  have kb8 := kb7.fm fm8 (nT _ (by omega) (by omega) (fun e => by have := uvr _ e; omega) (fun e => by have := uhr _ e; omega))
  have kr8 : w8.ownsRow X.w.heap.size 83 1 kvj j ys := own_keep1 kr7 (fun q hq => fm8.block q (kr7.lt q hq).2 (nT q (kr7.lt q hq).1 (by have := (hys.lt q hq).2; omega) (h.d3 q hq).2.2.1 (h.d3 q hq).2.2.2))
  have pwX : w8.ownsRow X.B 3 1 X.pvv X.pn X.xs := by
    rcases o4 with ⟨_, e⟩ | ⟨e, eg⟩
    · exact e w8 pw8
    · have p7 : w7.ownsRow X.B 3 1 X.pvv X.pn X.xs := own_keep1 (own_keep1 h.pw (fun q hq => bk.block q (h.pw.lt q hq).2)) (fun q hq => eg.block q (by have := (h.pw.lt q hq).2; omega) (fun e2 => by cases e2))
      refine own_keep1 p7 (fun q hq => fm8.block q (p7.lt q hq).2 ?_)
      rintro (e2 | e2 | e2 | e2 | e2)
      · exact (hX.pd q hq).1 e2
      · exact (hX.pd q hq).2.1 e2
      · exact uvn q e2 hq
      · exact uhn q e2 hq
      · rw [e] at e2
        injection e2 with e2
        have := (hpw q hq).2
        omega
  have fmW8 : Fm (To X.b X.m X.uv X.uh X.pvv) X.w w8 := fmW7.trans fm8 (by
    rintro q hq (e | e | e | e | e)
    · exact .inl e
    · exact .inr (.inl e)
    · exact .inr (.inr (.inl (at1_old h.a1 e hq)))
    · exact .inr (.inr (.inr (.inl (at1_old h.a2 e hq))))
    · rcases v7b q e with e2 | e2
      · exact .inr (.inr (.inr (.inr e2)))
      · omega)
  have bA := bel_alloc w8 (.cells #[.pointer (some ⟨q8, 0, none⟩)] 83)
  have ks9 : pvK ((k.take (j + 1)).map pv) X.ks = pv k[j] (pvK ((k.take j).map pv) X.ks) := pvK_take hj X.ks
  have hn9 : X.hn + phL (k.take (j + 1)) = X.hn + phL (k.take j) + ph k[j] := by rw [phL_take k j hj]; omega
  have f9 : (X.f || (k.take (j + 1)).any pf) = (X.f || (k.take j).any pf || pf k[j]) := by rw [pfL_take k j hj, Bool.or_assoc]
  refine ⟨sc_box kb8, bp8.cell 5 (by simp), (bp8.still bA).cell 5 (by simp), sc_box (kb8.still bA), by simp; omega, ys, own_still kr8 bA, fun g9 c9 w9 e1 e2 e3 => ?_⟩
  have hz9 := e2.size
  have hzA : (w8.alloc (.cells #[.pointer (some ⟨q8, 0, none⟩)] 83)).heap.size = w8.heap.size + 1 := by simp
  have nk : ∀ q, (X.B ≤ q ∧ q < X.w.heap.size) ∨ q = X.w.heap.size ∨ q = X.p ∨ q = wr.heap.size ∨ uv8.ownBlock = some q ∨ uh8.ownBlock = some q → some q ≠ kvj.ownBlock := by
    intro q hq e
    have e' := e.symm
    have hlt := hys.lt q e'
    have hd := h.d3 q e'
    rcases hq with g | g | g | g | g | g
    · omega
    · exact hd.2.1 g
    · exact hd.1 g
    · omega
    · exact hd.2.2.1 (by
        rcases a18 with g1 | ⟨q', g1, g2⟩
        · rw [← g1]; exact g
        · rw [g1] at g; injection g with g; omega)
    · exact hd.2.2.2 (by
        rcases a28 with g1 | ⟨q', g1, g2⟩
        · rw [← g1]; exact g
        · rw [g1] at g; injection g with g; omega)
  have f9' : Fm (fun q => kvj.ownBlock = some q) w8 w9 := (Fm.of_below bA).trans (Fm.of_grown (T := fun q => kvj.ownBlock = some q) e2 (fun q hq => hq)) (fun _ _ e => e)
  have bt9 := bt8.fm f9' (fun e => nk _ (.inr (.inl rfl)) e.symm)
  have bp9 := bp8.fm f9' (fun e => nk _ (.inr (.inr (.inl rfl))) e.symm)
  have kb9 := kb8.fm f9' (fun e => nk _ (.inr (.inr (.inr (.inl rfl)))) e.symm)
  have rs9 := rs8.fm f9' (fun e => nk _ (.inl ⟨hX.rs.hb, hbw⟩) e.symm) (fun e => nk _ (.inl ⟨hX.rs.hm, hmw⟩) e.symm) (fun q hq e => nk _ (.inr (.inr (.inr (.inr (.inl hq))))) e.symm) (fun q hq e => nk _ (.inr (.inr (.inr (.inr (.inr hq))))) e.symm)
  have pw9 : w9.ownsRow X.B 3 1 X.pvv X.pn X.xs := own_keep1 pwX (fun q hq => f9'.block q (pwX.lt q hq).2 (fun e => nk q (.inl (hpw q hq)) e.symm))
  have hpp := h.hp
  have u8p : uv8.ownBlock ≠ some X.p ∧ uv8.ownBlock ≠ some X.w.heap.size ∧ (∀ q, uv8.ownBlock = some q → q < w8.heap.size) := by
    refine ⟨fun e => ?_, fun e => ?_, fun q e => (rs8.uvl q e).2⟩
    · rcases a18 with g1 | ⟨q', g1, g2⟩
      · exact h.d1.1 (by rw [← g1]; exact e)
      · rw [g1] at e; injection e with e; omega
    · rcases a18 with g1 | ⟨q', g1, g2⟩
      · exact h.d1.2 (by rw [← g1]; exact e)
      · rw [g1] at e; injection e with e; omega
  have u8q : uh8.ownBlock ≠ some X.p ∧ uh8.ownBlock ≠ some X.w.heap.size ∧ (∀ q, uh8.ownBlock = some q → q < w8.heap.size) := by
    refine ⟨fun e => ?_, fun e => ?_, fun q e => (rs8.uhl q e).2⟩
    · rcases a28 with g1 | ⟨q', g1, g2⟩
      · exact h.d2.1 (by rw [← g1]; exact e)
      · rw [g1] at e; injection e with e; omega
    · rcases a28 with g1 | ⟨q', g1, g2⟩
      · exact h.d2.2 (by rw [← g1]; exact e)
      · rw [g1] at e; injection e with e; omega
  have hg9 : g9 ≠ X.p ∧ g9 ≠ X.w.heap.size ∧ uv8.ownBlock ≠ some g9 ∧ uh8.ownBlock ≠ some g9 := by
    rcases e3 with e | e
    · refine ⟨(h.d3 g9 e).1, (h.d3 g9 e).2.1, fun e2 => ?_, fun e2 => ?_⟩
      · exact nk g9 (.inr (.inr (.inr (.inr (.inl e2))))) e.symm
      · exact nk g9 (.inr (.inr (.inr (.inr (.inr e2))))) e.symm
    · refine ⟨by omega, by omega, fun e2 => ?_, fun e2 => ?_⟩
      · have := u8p.2.2 g9 e2; omega
      · have := u8q.2.2 g9 e2; omega
  have kS : ∀ q, q ≠ X.p → (w9.setCell ⟨X.p, 5, none⟩ (.slice (some ⟨g9, 0, none⟩) (j + 1) c9)).heap[q]? = w9.heap[q]? := fun q hq => blk_setCell_other _ _ _ _ (by show q ≠ X.p; exact hq)
  have fS : Fm (fun q => q = X.p) w9 (w9.setCell ⟨X.p, 5, none⟩ (.slice (some ⟨g9, 0, none⟩) (j + 1) c9)) := Fm.set rfl
  refine ⟨sc_box kb9, ⟨bp9.cell 5 (by simp), bp9.frozen 5⟩, sc_box (kb9.keep (kS _ (by omega))), uv8, uh8, ?_⟩
  refine ⟨?_, ?_, own_keep1 pw9 (fun q hq => kS q (by have := (hpw q hq).2; omega)), h.a1.trans a18 (by omega), h.a2.trans a28 (by omega), bt9.keep (kS _ (by omega)), by simpa using bp9.set 5 (.slice (some ⟨g9, 0, none⟩) (j + 1) c9), ⟨_, own_keep1 e1 (fun q hq => kS q (fun e => by
    have : g9 = q := by simpa [Value.ownBlock] using hq
    exact hg9.1 (this.trans e)))⟩, hpp, ⟨u8p.1, u8p.2.1⟩, ⟨u8q.1, u8q.2.1⟩, fun q hq => ?_⟩
  · rw [ks9, hn9, f9]
    exact rs9.fm fS (by show ¬ X.b = X.p; omega) (by show ¬ X.m = X.p; omega) (fun q hq e => u8p.1 (by rw [hq]; exact congrArg some e)) (fun q hq e => u8q.1 (by rw [hq]; exact congrArg some e))
  · refine (fmW8.trans f9' (fun q hq e => ?_)).trans fS (fun q hq e => ?_)
    · have := (hys.lt q e).1
      omega
    · have e' : q = X.p := e
      omega
  · have : g9 = q := by simpa [Value.ownBlock] using hq
    subst this
    exact hg9
end Go.Proofs.Ytboffildchoelaa
