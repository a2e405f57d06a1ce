import Derived.Test.YtblfeifedcddnaaVm
/-! The program: patchKids. -/
namespace Go.Proofs.Ytblfeifedcddnaa
open Go.RowKit Go.Deep Go.Lib
set_option linter.unusedVariables false
set_option maxRecDepth 100000
set_option linter.unusedSimpArgs false

theorem FGr.stepB {k : List Tr} {C B j g cap gb : Nat} {v u : Value} {wr w2 w3 : World} {fs : Nat → Value} (hown : wr.ownsRow B 51 4 v j (kc k fs j)) (hls : ∀ i, i < j → Lies wr (fun q => v.ownBlock ≠ some q ∧ (q < C ∨ B ≤ q)) (nth k i) (fs i))
    (hC : C ≤ B) (hB : B ≤ wr.heap.size) (h1 : C ≤ gb) (h2 : gb < B) (hb : But gb wr w2) (hu : Lies w2 (fun q => q < C ∨ wr.heap.size ≤ q) (nth k j) u)
    (hown3 : w3.ownsRow B 51 4 (.slice (some ⟨g, 0, none⟩) (j + 1) cap) (j + 1) (kc k fs j ++ [.string (nth k j).name, .string (nth k j).text, .bool (nth k j).leaf, u]))
    (hgr : w2.grownBy w3 v.ownBlock) (hat : v.ownBlock = some g ∨ g = w2.heap.size) : FGr k C B (j + 1) (.slice (some ⟨g, 0, none⟩) (j + 1) cap) w3 := by
  have hs := hb.size
  have hs3 := hgr.size
  have hvl := hown.lt
  have key : ∀ q, q < w2.heap.size → v.ownBlock ≠ some q → (Value.slice (some ⟨g, 0, none⟩) (j + 1) cap).ownBlock ≠ some q := by
    intro q hq hne e
    simp [Value.ownBlock] at e
    subst e
    rcases hat with h | h
    · exact hne h
    · omega
  refine ⟨fun i => if i = j then u else fs i, ?_, fun i hi => ?_⟩
  · rw [kc, kc_congr k (fs := fun i => if i = j then u else fs i) (gs := fs) j (fun i hi => if_neg (by omega))]
    simp only [if_true]
    exact hown3
  · by_cases e : i = j
    · subst e
      simp only [if_true]
      refine Lies.carry (w := w2) (S := fun q => q < C ∨ wr.heap.size ≤ q) (fun q h1 h2 => ?_) (fun q o h1 h2 => ?_) (fun _ _ _ h => lt_of_cell h) hu
      · refine ⟨key q h2 (fun e => ?_), ?_⟩
        · have := hvl q e; omega
        · omega
      · refine World.cell?_of_block (w := w2) (hgr.block q h2 (fun e => ?_))
        have := hvl q e.symm; omega
    · simp only [if_neg e]
      have h0 := (hls i (by omega)).lt
      have h1 : Lies w2 (fun q => v.ownBlock ≠ some q ∧ (q < C ∨ B ≤ q)) (nth k i) (fs i) := (h0.keep (fun q hq => hb.block hq.2 (by omega))).mono (fun q hq => hq.1)
      refine Lies.carry (w := w2) (S := fun q => v.ownBlock ≠ some q ∧ (q < C ∨ B ≤ q)) (fun q h1 h2 => ⟨key q h2 h1.1, h1.2⟩) (fun q o h1 h2 => World.cell?_of_block (w := w2) (hgr.block q h2 (fun e => h1.1 e.symm))) (fun _ _ _ h => lt_of_cell h) h1
theorem De.exN (d : De) : ∃ c t k, d = De.mk c t k := by cases d; exact ⟨_, _, _, rfl⟩
/-- What stands while the Kids are gone through. -/
structure IkI (C gb : Nat) (w wr : World) (n : Nat) (ch : Value) (m : List Tr) : Prop where
  but : But gb w wr
  box : Box wr gb 119 [.int .i64 n]
  fg : FGr m C w.heap.size m.length ch wr
theorem IkI.still {C gb n : Nat} {w wr w2 : World} {ch : Value} {m : List Tr} (h : IkI C gb w wr n ch m) (hb : Below wr.heap.size wr w2) : IkI C gb w w2 n ch m := ⟨h.but.still hb, h.box.still hb, h.fg.still hb⟩
theorem bel_but {W0 w wr : World} {gb : Nat} (hB : Below W0.heap.size W0 w) (hb : But gb w wr) (hg : W0.heap.size ≤ gb) : Below W0.heap.size W0 wr := by
  have := hB.size
  exact ⟨hb.1.trans hB.os, hb.2.1.trans hB.tape, hb.2.2.1.trans hB.output, Nat.le_trans hB.size hb.size, fun q hq => (hb.block (by omega) (by omega)).trans (hB.block q hq)⟩
/-- What patch leaves. -/
def IpA (C gb n0 D : Nat) (r : Option Tr) (w : World) (e : Ending) (w' : World) : Prop :=
  ∃ (T' : Tr) (u : Value) (B : Bool) (n' : Nat), e = .returned (.tuple #[T'.val u, .bool B]) ∧ But gb w w' ∧ Box w' gb 119 [.int .i64 n'] ∧ Lies w' (fun q => q < C ∨ w.heap.size ≤ q) T' u ∧ n' ≤ n0 + D ∧ (B = true → ∃ T, r = some T ∧ QT n0 n' T T') ∧ (B = false → r = none)
/-- What patchKids leaves. -/
def PkA (C gb n0 : Nat) (k : List De) (ks : List Tr) (w : World) (e : Ending) (w' : World) : Prop :=
  ∃ (ua : Option Addr) (up : Nat) (m' : List Tr) (B : Bool) (n' : Nat), e = .returned (.tuple #[.slice ua m'.length up, .bool B]) ∧ IkI C gb w w' n' (.slice ua m'.length up) m' ∧ n' ≤ n0 + (k.length + De.wtL k) ∧ (B = true → ∃ s, paJ k ks k.length = some s ∧ s.2 = ks.length ∧ QL n0 n' s.1 m') ∧ (B = false → ∀ s, paJ k ks k.length = some s → s.2 ≠ ks.length)
theorem PkA.no {C gb n0 n : Nat} {k : List De} {ks : List Tr} {w wr : World} {ch : Value} {m : List Tr} (h : IkI C gb w wr n ch m) (hn : n ≤ n0 + (k.length + De.wtL k)) (hno : paJ k ks k.length = none) : PkA C gb n0 k ks w (.returned (.tuple #[.slice none 0 0, .bool false])) wr :=
  ⟨none, 0, [], false, n, rfl, ⟨h.but, h.box, FGr.nil _ _ (own_nil _ _ _ _)⟩, hn, fun h => absurd h (by simp), fun _ s hs => by rw [hno] at hs; cases hs⟩
theorem own_but {wd w1 : World} {B e z n gb : Nat} {v : Value} {xs : List Value} (h : wd.ownsRow B e z v n xs) (hb : But gb wd w1) (hg : gb < B) : w1.ownsRow B e z v n xs :=
  own_keep1 h (fun q hq => hb.block (h.lt q hq).2 (by have := (h.lt q hq).1; omega))
theorem IkI.call {C gb n n2 : Nat} {w wd w1 : World} {ch : Value} {m : List Tr} (h : IkI C gb w wd n ch m) (hb : But gb wd w1) (bx : Box w1 gb 119 [.int .i64 n2]) (h1 : C ≤ gb) (h2 : gb < w.heap.size) : IkI C gb w w1 n2 ch m :=
  ⟨h.but.trans hb, bx, h.fg.but h1 h2 hb⟩
theorem IkI.next {C gb n n2 g cap : Nat} {w wd w2 w3 : World} {ch x : Value} {m : List Tr} {T : Tr} {fs : Nat → Value} (h : IkI C gb w wd n ch m) (h1 : C ≤ gb) (h2 : gb < w.heap.size) (hb : But gb wd w2) (bx : Box w2 gb 119 [.int .i64 n2])
    (hl : Lies w2 (fun q => q < C ∨ wd.heap.size ≤ q) T x) (hown : wd.ownsRow w.heap.size 51 4 ch m.length (kc m fs m.length)) (hls : ∀ i, i < m.length → Lies wd (fun q => ch.ownBlock ≠ some q ∧ (q < C ∨ w.heap.size ≤ q)) (nth m i) (fs i))
    (hown3 : w3.ownsRow w.heap.size 51 4 (.slice (some ⟨g, 0, none⟩) (m.length + 1) cap) (m.length + 1) (kc m fs m.length ++ [.string T.name, .string T.text, .bool T.leaf, x]))
    (hgr : w2.grownBy w3 ch.ownBlock) (hat : ch.ownBlock = some g ∨ g = w2.heap.size) : IkI C gb w w3 n2 (.slice (some ⟨g, 0, none⟩) (m.length + 1) cap) (m ++ [T]) := by
  have hrow := hown.lt
  have hs := h.but.size
  have hs2 := hb.size
  have hG : FGr (m ++ [T]) C w.heap.size (m.length + 1) (.slice (some ⟨g, 0, none⟩) (m.length + 1) cap) w3 := by
    refine FGr.stepB (k := m ++ [T]) (fs := fs) (u := x) (wr := wd) (w2 := w2) (v := ch) (gb := gb) ?_ (fun i hi => by rw [nth_app hi]; exact hls i hi) (by omega) hs h1 h2 hb (by rw [nth_last]; exact hl) ?_ hgr hat
    · rw [kc_app _ _ _ _ (Nat.le_refl _)]; exact hown
    · rw [kc_app _ _ _ _ (Nat.le_refl _), nth_last]; exact hown3
  refine ⟨?_, bx.keep (hgr.block gb bx.lt (fun e => by have := (hrow gb e.symm).1; omega)), by rw [List.length_append]; exact hG⟩
  have hb2 := h.but.trans hb
  exact ⟨hgr.os.trans hb2.1, hgr.tape.trans hb2.2.1, hgr.output.trans hb2.2.2.1, Nat.le_trans hb2.size hgr.size, fun q hq hp => (hgr.block q (by omega) (fun e => by have := (hrow q e.symm).1; omega)).trans (hb2.block hq hp)⟩
abbrev o110_5_0 : Oper := { dst := some 20, op := Go.Op.move (Go.Operand.tmp 0), type := 168, pos := "l15_merging.go:243", after := #[], guard := none }
abbrev o110_5_1 : Oper := { dst := some 21, op := Go.Op.move (Go.Operand.tmp 1), type := 30, pos := "l15_merging.go:243", after := #[], guard := none }
abbrev o110_5_2 : Oper := { dst := some 22, op := Go.Op.indexAddr 30 (Go.Operand.tmp 21) (Go.Operand.const (Go.Value.int Go.IntKind.i64 0)), type := 0, pos := "l15_merging.go:243", after := #[{ on := 1, ground := Go.Ground.data }], guard := none }
abbrev o110_5_3 : Oper := { dst := some 23, op := Go.Op.load 51 (Go.Operand.tmp 22), type := 51, pos := "l15_merging.go:243", after := #[{ on := 2, ground := Go.Ground.data }], guard := none }
abbrev o110_5_4 : Oper := { dst := some 24, op := Go.Op.load 57 (Go.Operand.tmp 10), type := 57, pos := "l15_merging.go:243", after := #[], guard := none }
abbrev o110_5_5 : Oper := { dst := some 25, op := Go.Op.call { callee := Go.Callee.value (Go.Operand.func 82), args := #[Go.Operand.tmp 20, Go.Operand.tmp 23, Go.Operand.tmp 24], argTypes := #[168, 51, 57] }, type := 114, pos := "l15_merging.go:243", after := #[{ on := 0, ground := Go.Ground.data }, { on := 3, ground := Go.Ground.data }, { on := 4, ground := Go.Ground.data }], guard := none }
abbrev o110_5_6 : Oper := { dst := some 19, op := Go.Op.move (Go.Operand.tmp 25), type := 114, pos := "l15_merging.go:243", after := #[{ on := 5, ground := Go.Ground.data }], guard := none }
abbrev o110_5_7 : Oper := { dst := some 26, op := Go.Op.extract (Go.Operand.tmp 19) 0, type := 51, pos := "l15_merging.go:243", after := #[{ on := 6, ground := Go.Ground.data }], guard := none }
abbrev o110_5_8 : Oper := { dst := some 27, op := Go.Op.extract (Go.Operand.tmp 19) 1, type := 4, pos := "l15_merging.go:243", after := #[{ on := 6, ground := Go.Ground.data }, { on := 10, ground := Go.Ground.gcOnly Go.Departure.lateStores }], guard := none }
abbrev o110_5_9 : Oper := { dst := some 11, op := Go.Op.alloc 51, type := 0, pos := "l15_merging.go:243", after := #[], guard := none }
abbrev o110_5_10 : Oper := { dst := none, op := Go.Op.store 51 (Go.Operand.tmp 11) (Go.Operand.tmp 26), type := 0, pos := "l15_merging.go:243", after := #[{ on := 9, ground := Go.Ground.data }, { on := 7, ground := Go.Ground.data }, { on := 5, ground := Go.Ground.chain }, { on := 0, ground := Go.Ground.phase }, { on := 1, ground := Go.Ground.phase }, { on := 2, ground := Go.Ground.phase }, { on := 3, ground := Go.Ground.phase }, { on := 4, ground := Go.Ground.phase }, { on := 5, ground := Go.Ground.phase }, { on := 6, ground := Go.Ground.phase }, { on := 7, ground := Go.Ground.phase }, { on := 8, ground := Go.Ground.textOnly Go.Departure.lateStores }, { on := 9, ground := Go.Ground.phase }], guard := none }
abbrev o110_5_11 : Oper := { dst := some 12, op := Go.Op.assign (Go.Operand.tmp 27), type := 4, pos := "l15_merging.go:243", after := #[{ on := 8, ground := Go.Ground.data }, { on := 10, ground := Go.Ground.chain }, { on := 0, ground := Go.Ground.phase }, { on := 1, ground := Go.Ground.phase }, { on := 2, ground := Go.Ground.phase }, { on := 3, ground := Go.Ground.phase }, { on := 4, ground := Go.Ground.phase }, { on := 5, ground := Go.Ground.phase }, { on := 6, ground := Go.Ground.phase }, { on := 7, ground := Go.Ground.phase }, { on := 8, ground := Go.Ground.phase }, { on := 9, ground := Go.Ground.phase }, { on := 10, ground := Go.Ground.phase }], guard := none }
set_option maxHeartbeats 6400000 in
theorem pkids110 (W0 : World) (k : List De) (ks : List Tr) (ka : Option Addr) (kp kb koff : Nat) (kts kks : Nat → Value) (aa : Option Addr) (acap ab aoff : Nat) (asv : Nat → Value) (w : World) (gb n0 : Nat)
    (hkc : k.length ≤ kp) (hkm : kp ≤ maxLen) (hka : 0 < k.length → ka = some ⟨kb, koff, none⟩) (hkcell : ∀ i (hi : i < k.length), C6 W0 kb (koff + i * 6) k[i] (kts i) (kks i)) (hkkid : ∀ i (hi : i < k.length), DLies W0 (fun _ => True) k[i] (kts i) (kks i))
    (hac : ks.length ≤ acap) (ham : acap ≤ maxLen) (haa : 0 < ks.length → aa = some ⟨ab, aoff, none⟩) (hacell : ∀ i (hi : i < ks.length), W0.cell? ⟨ab, aoff + i * 4, none⟩ = some (.string ks[i].name) ∧ W0.cell? ⟨ab, aoff + i * 4 + 1, none⟩ = some (.string ks[i].text) ∧ W0.cell? ⟨ab, aoff + i * 4 + 2, none⟩ = some (.bool ks[i].leaf) ∧ W0.cell? ⟨ab, aoff + i * 4 + 3, none⟩ = some (asv i)) (hakid : ∀ i (hi : i < ks.length), Lies W0 (fun _ => True) ks[i] (asv i))
    (hb : Below W0.heap.size W0 w) (hg : W0.heap.size ≤ gb) (hbx : Box w gb 119 [.int .i64 n0]) (hn0 : n0 + (k.length + De.wtL k) ≤ 1099511627776) (hkw : k.length + De.wtL k ≤ 1048576)
    (ih : ∀ i (hi : i < k.length) (a : Tr) (v tv kv : Value) (w : World) (gb n : Nat), Lies W0 (fun _ => True) a v → DLies W0 (fun _ => True) k[i] tv kv → Below W0.heap.size W0 w → W0.heap.size ≤ gb → Box w gb 119 [.int .i64 n] → n + k[i].wt ≤ 1099511627776 → k[i].wt ≤ 1048576 → Calls Try.prog 82 #[.pointer (some ⟨gb, 0, none⟩), a.val v, k[i].val tv kv] w (IpA W0.heap.size gb n k[i].wt (pa k[i] a) w)) :
    Calls Try.prog 110 #[.pointer (some ⟨gb, 0, none⟩), .slice aa ks.length acap, .slice ka k.length kp] w (PkA W0.heap.size gb n0 k ks w) := by
  have hgl := hbx.lt
  have hC := hb.size
  have HB := (show Hid _ from hb)
  have HI := (show Hid _ from ih); clear ih
  have HAC := (show Hid _ from (⟨haa, hacell, hakid⟩ : _ ∧ _ ∧ _))
  have HKC := (show Hid _ from (⟨hka, hkcell, hkkid⟩ : _ ∧ _ ∧ _))
  have HS0 := (show Hid (IkI W0.heap.size gb w w n0 (.slice none 0 0) []) from ⟨But.refl _ _, hbx, FGr.nil _ _ (own_nil _ _ _ _)⟩)
  unfold maxLen at ham hkm
  clear hb haa hacell hakid hka hkcell hkkid hbx
  obtain ⟨i51, hi51, hzz⟩ := Option.map_eq_some_iff.1 info51
  simp only [Prod.mk.injEq] at hzz
  obtain ⟨hz0, hz1, hz2⟩ := hzz
  go_enter Try.func110, Try.ntmps110
  go_wp2_with fail
  go_loopw [1, 8, 15] (fun q ch i wr => ∃ (j : Nat) (s : List Tr × Nat) (a' : Option Addr) (ua : Option Addr) (up : Nat) (m' : List Tr) (n : Nat), i = .int .i64 j ∧ q = .slice a' (ks.length - s.2) (acap - s.2) ∧ ch = .slice ua m'.length up ∧ j ≤ k.length ∧ s.2 ≤ ks.length ∧ m'.length ≤ j ∧ Hid (s.2 < ks.length → a' = some ⟨ab, aoff + s.2 * 4, none⟩) ∧ Hid (paJ k ks j = some s) ∧ Hid (QL n0 n s.1 m') ∧ Hid (n ≤ n0 + (j + De.wtL (k.take j))) ∧ Hid (IkI W0.heap.size gb w wr n (.slice ua m'.length up) m')) (fun _ _ i _ => k.length - (intOf i).toNat)
  case atStart => exact ⟨0, ([], 0), aa, none, 0, [], n0, rfl, rfl, rfl, Nat.zero_le _, Nat.zero_le _, Nat.le_refl _, fun h => (by have := HAC.out.1 h; rw [this]; simp), paJ_zero _ _, QL.nil _, (by show _ ≤ _; omega), HS0⟩
  case round =>
    obtain ⟨j, s, a', ua, up, m', n, rfl, rfl, rfl, hj, hsa, hml, HA', HJ, HQ, HN, HKR⟩ := hrel
    clear HS0
    by_cases hlt : j < k.length
    · obtain rfl := HKC.out.1 (by omega)
      have hbw : Below W0.heap.size W0 wr := bel_but HB.out HKR.out.but hg
      obtain ⟨c', t', k', hkj⟩ : ∃ c' t' k', k[j] = De.mk c' t' k' := De.exN _
      have h6 := C6.still (HKC.out.2.1 j hlt) hbw (HKC.out.2.1 j hlt).lt
      have hkid := HKC.out.2.2 j hlt
      have hst := paJ_succ (ks := ks) hlt
      rw [HJ.out] at hst
      have hij := HI.out j hlt
      have hw1 := De.wtL_take_succ k j hlt
      have hw2 := De.wtL_take_le k (j + 1)
      have hwl := De.wtL_take_le k j
      rw [hkj] at h6 hkid hst hij hw1
      obtain ⟨⟨xa, xl, xp, hxv⟩, ya, yp, hyv⟩ := hkid.form
      rw [hxv, hyv] at h6 hkid
      have hktree := hkid.tree
      dsimp only at hktree
      have hk'm : k'.length ≤ 2 ^ 63 - 1 := by
        obtain ⟨_, _, _, _, _, _, _, _, hc, hm, _⟩ := hkid.out
        unfold maxLen at hm
        dsimp only at hc
        omega
      have HNN := (show Hid (n ≤ n0 + (k.length + De.wtL k)) from (by have := HN.out; show _ ≤ _; omega))
      have hnb : n ≤ 1099511627776 := by have := HNN.out; omega
      have HNW := (show Hid (∀ n2, n2 ≤ n + (De.mk c' t' k').wt → n2 ≤ n0 + ((j + 1) + De.wtL (k.take (j + 1))) ∧ n2 ≤ n0 + (k.length + De.wtL k)) from fun n2 h => by have := HN.out; omega)
      have HN1 := (show Hid (n + 1 ≤ n0 + ((j + 1) + De.wtL (k.take (j + 1)))) from (by have := HN.out; show _ ≤ _; omega))
      have HND := (show Hid (n ≤ n0 + ((j + 1) + De.wtL (k.take (j + 1)))) from (by have := HN.out; show _ ≤ _; omega))
      have HTX := (show Hid (∀ wq, Below wr.heap.size wr wq → Lies wq (fun q => q < W0.heap.size) t' (.slice xa xl xp)) from fun wq h => by
        have hq := hbw.trans (h.mono hbw.size)
        exact (hktree.lt.keep (fun q hq' => hq.block q hq'.2)).mono (fun q hq' => hq'.2))
      have HST := (show Hid (paJ k ks (j + 1) = paS ks ⟨c', t', k'⟩ (pa ⟨c', t', k'⟩) s) from hst)
      have HPS := (show Hid (paS ks ⟨c', t', k'⟩ (pa ⟨c', t', k'⟩) s = none → paJ k ks k.length = none) from fun h => paJ_none (by omega : j + 1 ≤ k.length) (hst.trans h))
      have HDX := (show Hid (∀ wq, Below wr.heap.size wr wq → DLies wq (fun _ => True) ⟨c', t', k'⟩ (.slice xa xl xp) (.slice ya k'.length yp)) from fun wq h => by
        have hq := hbw.trans (h.mono hbw.size)
        exact (hkid.lt.keep (fun q hq' => hq.block q hq'.2)).mono (fun q hq' => trivial))
      have HCL := (show Hid (∀ (A : Tr) (vA : Value) (wq : World), Lies W0 (fun _ => True) A vA → Below W0.heap.size W0 wq → Box wq gb 119 [.int .i64 n] → Calls Try.prog 82 #[.pointer (some ⟨gb, 0, none⟩), A.val vA, .agg #[.int .i64 c', .string t'.name, .string t'.text, .bool t'.leaf, .slice xa xl xp, .slice ya k'.length yp]] wq (IpA W0.heap.size gb n (De.mk c' t' k').wt (pa ⟨c', t', k'⟩ A) wq)) from fun A vA wq h1 h2 h3 => hij A vA _ _ wq gb n h1 hkid h2 hg h3 (by have := HN.out; omega) (by omega))
      obtain ⟨c0, c1, c2, c3, c4, c5⟩ := h6
      dsimp only at c0 c1 c2 c3 c4 c5
      clear hst hkid hktree hij hkj hxv hyv hw1 hw2 hwl
      have XB := (show Hid _ from Box.new wr 57 [.int .i64 c', .string t'.name, .string t'.text, .bool t'.leaf, .slice xa xl xp, .slice ya k'.length yp])
      have HAW := (show Hid _ from bel_alloc wr (.cells #[.int .i64 c', .string t'.name, .string t'.text, .bool t'.leaf, .slice xa xl xp, .slice ya k'.length yp] 57))
      have HBWR := (show Hid _ from hbw)
      have HRT := (show Hid _ from right109 (De.mk c' t' k') _ _ (wr.alloc (.cells #[.int .i64 c', .string t'.name, .string t'.text, .bool t'.leaf, .slice xa xl xp, .slice ya k'.length yp] 57)) (HDX.out _ HAW.out))
      simp only [De.val] at HRT
      have HAR := (show Hid (arB ⟨c', t', k'⟩ = ((if c' = 2 ∨ c' = 5 then t'.ok else zeB t') && (decide (c' = 3) || k'.isEmpty))) from rfl)
      clear hbw HDX
      obtain ⟨L, hL⟩ : ∃ L, L = ks.length - s.2 := ⟨_, rfl⟩
      obtain ⟨Cp, hCp⟩ : ∃ Cp, Cp = acap - s.2 := ⟨_, rfl⟩
      rw [← hL, ← hCp]
      have hLC : L ≤ Cp := by omega
      have hCm : Cp ≤ 2 ^ 63 - 1 := by omega
      have HLL := (show Hid (L = ks.length - s.2 ∧ Cp = acap - s.2) from ⟨hL, hCp⟩)
      clear hL hCp
      by_cases e5 : c' = 5
      · subst e5
        have HP5 := (show Hid (paS ks ⟨5, t', k'⟩ (pa ⟨5, t', k'⟩) s = if (t'.ok && k'.isEmpty) = true then some (s.1 ++ [t'], s.2) else none) from (by show _ = _; unfold paS; rw [if_pos rfl]))
        have HA5 := (show Hid (arB ⟨5, t', k'⟩ = (t'.ok && k'.isEmpty)) from HAR.out.trans (by simp))
        rw [HA5.out] at HRT
        cases hr : (t'.ok && k'.isEmpty)
        · rw [hr] at HRT HP5
          have HNE := (show Hid (∀ q, pa ⟨5, t', k'⟩ q = none) from fun q => by rw [pa_mk]; rfl)
          clear HA5 hr HAR
          go_wp2_with fail
          refine Calls.mono HRT.out ?_
          rintro e w1 ⟨rfl, hb1⟩
          have HBD := (show Hid (Below wr.heap.size wr w1) from bel_trans HAW.out hb1)
          have XBD := (show Hid _ from XB.out.still hb1)
          clear hb1 HRT c0 c1 c2 c3 c4 c5 HAW XB
          by_cases hat : s.2 < ks.length
          · have hL0 : ¬ L = 0 := by have := HLL.out.1; omega
            obtain rfl := HA'.out hat
            have HPC := (show Hid (paS ks ⟨5, t', k'⟩ (pa ⟨5, t', k'⟩) s = (pa ⟨5, t', k'⟩ ks[s.2]).map fun t => (s.1 ++ [t], s.2 + 1)) from HP5.out.trans (by rw [HNE.out]; rfl))
            clear HP5
            have hkd := HAC.out.2.2 s.2 hat
            obtain ⟨d0, d1, d2, d3⟩ := HAC.out.2.1 s.2 hat
            obtain ⟨qa, ql, qp, hqv⟩ := hkd.form
            rw [hqv] at d3 hkd
            generalize ks[s.2] = q at *
            have HKD := (show Hid _ from HKR.out.still HBD.out)
            have hBW : Below W0.heap.size W0 w1 := HBWR.out.trans (HBD.out.mono HBWR.out.size)
            have HCQ := (show Hid (∀ wq, Below w1.heap.size w1 wq → Calls Try.prog 82 #[.pointer (some ⟨gb, 0, none⟩), .agg #[.string q.name, .string q.text, .bool q.leaf, .slice qa ql qp], .agg #[.int .i64 5, .string t'.name, .string t'.text, .bool t'.leaf, .slice xa xl xp, .slice ya k'.length yp]] wq (IpA W0.heap.size gb n (De.mk 5 t' k').wt (pa ⟨5, t', k'⟩ q) wq)) from fun wq h => HCL.out q _ wq hkd (hBW.trans (h.mono hBW.size)) (HKD.out.box.still h))
            have HSX := (show Hid (∀ wq, But gb w1 wq → (wq.cell? ⟨ab, aoff + s.2 * 4, none⟩ = some (.string q.name) ∧ wq.cell? ⟨ab, aoff + s.2 * 4 + 1, none⟩ = some (.string q.text) ∧ wq.cell? ⟨ab, aoff + s.2 * 4 + 2, none⟩ = some (.bool q.leaf) ∧ wq.cell? ⟨ab, aoff + s.2 * 4 + 3, none⟩ = some (.slice qa ql qp)) ∧ wq.cell? ⟨wr.heap.size, 0, none⟩ = some (.int .i64 5) ∧ wq.cell? ⟨wr.heap.size, 1, none⟩ = some (.string t'.name) ∧ wq.cell? ⟨wr.heap.size, 2, none⟩ = some (.string t'.text) ∧ wq.cell? ⟨wr.heap.size, 3, none⟩ = some (.bool t'.leaf) ∧ wq.cell? ⟨wr.heap.size, 4, none⟩ = some (.slice xa xl xp) ∧ wq.cell? ⟨wr.heap.size, 5, none⟩ = some (.slice ya k'.length yp)) from fun wq h => by
              have hq := bel_but hBW h hg
              have y := XBD.out.keep (h.block XBD.out.lt (by have := HKR.out.but.size; omega))
              exact ⟨⟨(hq.cell (lt_of_cell d0)).trans d0, (hq.cell (lt_of_cell d1)).trans d1, (hq.cell (lt_of_cell d2)).trans d2, (hq.cell (lt_of_cell d3)).trans d3⟩, y.cell 0 (by simp), y.cell 1 (by simp), y.cell 2 (by simp), y.cell 3 (by simp), y.cell 4 (by simp), y.cell 5 (by simp)⟩)
            have HNP := (show Hid (pa ⟨5, t', k'⟩ q = none → paJ k ks k.length = none) from fun h => HPS.out (HPC.out.trans (by rw [h]; rfl)))
            have HSP := (show Hid (∀ T, pa ⟨5, t', k'⟩ q = some T → paJ k ks (j + 1) = some (s.1 ++ [T], s.2 + 1)) from fun T h => HST.out.trans (HPC.out.trans (by rw [h]; rfl)))
            have q1 : 0 < L := by omega
            have X0d : w1.cell? ⟨wr.heap.size, 0, none⟩ = some (.int .i64 5) := XBD.out.cell 0 (by simp)
            have hB0 := (Below.refl w1.heap.size w1).drew
            have hS0 := HSX.out _ (But.of_below hB0)
            have hBA : Below w1.heap.size w1 (w1.drew.alloc (.cells #[.string ⟨#[]⟩, .string ⟨#[]⟩, .bool false, .slice none 0 0] 51)) := hB0.alloc (Nat.le_refl _) _
            have hBA2 : Below w1.heap.size w1 (w1.alloc (.cells #[.string ⟨#[]⟩, .string ⟨#[]⟩, .bool false, .slice none 0 0] 51)).drew := (bel_alloc _ _).drew
            have hszD := HBD.out.size
            clear HST HPS HPC HCL hkd hqv d0 d1 d2 d3 HTX HBD XBD hBW 
            go_wp2_with fail
            refine wp_region_held_drew (S := (fun wq => (wq.cell? ⟨ab, aoff + s.2 * 4, none⟩ = some (.string q.name) ∧ wq.cell? ⟨ab, aoff + s.2 * 4 + 1, none⟩ = some (.string q.text) ∧ wq.cell? ⟨ab, aoff + s.2 * 4 + 2, none⟩ = some (.bool q.leaf) ∧ wq.cell? ⟨ab, aoff + s.2 * 4 + 3, none⟩ = some (.slice qa ql qp)) ∧ wq.cell? ⟨wr.heap.size, 0, none⟩ = some (.int .i64 5) ∧ wq.cell? ⟨wr.heap.size, 1, none⟩ = some (.string t'.name) ∧ wq.cell? ⟨wr.heap.size, 2, none⟩ = some (.string t'.text) ∧ wq.cell? ⟨wr.heap.size, 3, none⟩ = some (.bool t'.leaf) ∧ wq.cell? ⟨wr.heap.size, 4, none⟩ = some (.slice xa xl xp) ∧ wq.cell? ⟨wr.heap.size, 5, none⟩ = some (.slice ya k'.length yp))) (by kernel_rfl) hS0 (fun hHeld => ?_)
            refine wpAnyH_take (i := 0) (oi := o110_5_0) (v := ?v1) rfl (by kernel_rfl) (by kernel_rfl) (by kernel_rfl) (fun _ _ _ h => h) (Or.inl ⟨by rfl, ?h1⟩) hHeld ?r1
            case h1 => (intro w hSw; (try dsimp only at hSw); go_simp; try with_reducible rfl)
            try simp only [Act.put, List.setIfInBounds_toArray, List.set_cons_zero, List.set_cons_succ]
            refine wpAnyH_take (i := 1) (oi := o110_5_1) (v := ?v2) rfl (by kernel_rfl) (by kernel_rfl) (by kernel_rfl) (fun _ _ _ h => h) (Or.inl ⟨by rfl, ?h2⟩) hHeld ?r2
            case h2 => (intro w hSw; (try dsimp only at hSw); go_simp; try with_reducible rfl)
            try simp only [Act.put, List.setIfInBounds_toArray, List.set_cons_zero, List.set_cons_succ]
            refine wpAnyH_take (i := 2) (oi := o110_5_2) (v := ?v3) rfl (by kernel_rfl) (by kernel_rfl) (by kernel_rfl) (fun _ _ _ h => h) (Or.inl ⟨by rfl, ?h3⟩) hHeld ?r3
            case h3 => (intro w hSw; (try dsimp only at hSw); go_simp; try with_reducible rfl)
            try simp only [Act.put, List.setIfInBounds_toArray, List.set_cons_zero, List.set_cons_succ]
            refine wpAnyH_take (i := 3) (oi := o110_5_3) (v := ?v4) rfl (by kernel_rfl) (by kernel_rfl) (by kernel_rfl) (fun _ _ _ h => h) (Or.inl ⟨by rfl, ?h4⟩) hHeld ?r4
            case h4 => (intro w hSw; (try dsimp only at hSw); go_simp; try with_reducible rfl)
            try simp only [Act.put, List.setIfInBounds_toArray, List.set_cons_zero, List.set_cons_succ]
            refine wpAnyH_take (i := 4) (oi := o110_5_4) (v := ?v5) rfl (by kernel_rfl) (by kernel_rfl) (by kernel_rfl) (fun _ _ _ h => h) (Or.inl ⟨by rfl, ?h5⟩) hHeld ?r5
            case h5 => (intro w hSw; (try dsimp only at hSw); go_simp; try with_reducible rfl)
            try simp only [Act.put, List.setIfInBounds_toArray, List.set_cons_zero, List.set_cons_succ]
            refine wpAnyH_ready (rs := [5, 9]) (by kernel_rfl) (by simp) ?_
            refine (AllReadyH.cons (o := o110_5_5) rfl (fun K hK => ?_) (AllReadyH.cons (o := o110_5_9) rfl (fun K hK => ?_) AllReadyH.nil))
            · go_simp
              refine Calls.mono (HCQ.out _ hB0) ?_
              rintro e w3 ⟨T, u1, B, n2, rfl, hb3, hx3, hl3, hn3, h3, h4⟩
              obtain ⟨x1, x2, x3, rfl⟩ := hl3.form
              simp only [Tr.val]
              have hB1 : But gb w1 w3 := (But.of_below hB0).trans hb3
              clear hHeld
              refine hK.out _ _ (HSX.out _ hB1) (fun hHeld => ?_)
              clear hK K
              try simp only [Act.put, List.setIfInBounds_toArray, List.set_cons_zero, List.set_cons_succ]
              refine wpAnyH_take (i := 6) (oi := o110_5_6) (v := ?v6) rfl (by kernel_rfl) (by kernel_rfl) (by kernel_rfl) (fun _ _ _ h => h) (Or.inl ⟨by rfl, ?h6⟩) hHeld ?r6
              case h6 => (intro w hSw; (try dsimp only at hSw); go_simp; try with_reducible rfl)
              try simp only [Act.put, List.setIfInBounds_toArray, List.set_cons_zero, List.set_cons_succ]
              refine wpAnyH_take (i := 7) (oi := o110_5_7) (v := ?v7) rfl (by kernel_rfl) (by kernel_rfl) (by kernel_rfl) (fun _ _ _ h => h) (Or.inl ⟨by rfl, ?h7⟩) hHeld ?r7
              case h7 => (intro w hSw; (try dsimp only at hSw); go_simp; try with_reducible rfl)
              try simp only [Act.put, List.setIfInBounds_toArray, List.set_cons_zero, List.set_cons_succ]
              refine wpAnyH_take (i := 8) (oi := o110_5_8) (v := ?v8) rfl (by kernel_rfl) (by kernel_rfl) (by kernel_rfl) (fun _ _ _ h => h) (Or.inl ⟨by rfl, ?h8⟩) hHeld ?r8
              case h8 => (intro w hSw; (try dsimp only at hSw); go_simp; try with_reducible rfl)
              try simp only [Act.put, List.setIfInBounds_toArray, List.set_cons_zero, List.set_cons_succ]
              refine wpAnyH_ready (rs := [9]) (by kernel_rfl) (by simp) ?_
              refine (AllReadyH.cons (o := o110_5_9) rfl (fun K hK => ?_) AllReadyH.nil)
              go_simp
              clear hHeld
              refine hK.out _ _ (HSX.out _ (hB1.trans (But.of_below (bel_alloc _ _)))) (fun hHeld => ?_)
              clear hK K
              try simp only [Act.put, List.setIfInBounds_toArray, List.set_cons_zero, List.set_cons_succ]
              refine wpAnyH_ready (rs := [10]) (by kernel_rfl) (by simp) ?_
              refine (AllReadyH.cons (o := o110_5_10) rfl (fun K hK => ?_) AllReadyH.nil)
              go_simp
              clear hHeld
              refine hK.out _ _ (HSX.out _ (hB1.trans (But.of_below (bel_alloc _ _)))) (fun hHeld => ?_)
              clear hK K
              try simp only [Act.put, List.setIfInBounds_toArray, List.set_cons_zero, List.set_cons_succ]
              refine wpAnyH_ready (rs := [11]) (by kernel_rfl) (by simp) ?_
              refine (AllReadyH.cons (o := o110_5_11) rfl (fun K hK => ?_) AllReadyH.nil)
              go_simp
              clear hHeld
              refine hK.out _ _ (HSX.out _ (hB1.trans (But.of_below (bel_alloc _ _)))) (fun hHeld => ?_)
              clear hK K
              try simp only [Act.put, List.setIfInBounds_toArray, List.set_cons_zero, List.set_cons_succ]
              refine wpAnyH_done (by kernel_rfl) ?_ _
              have HBZ := (show Hid (But gb w1 (w3.alloc (.cells #[.string T.name, .string T.text, .bool T.leaf, .slice x1 x2 x3] 51))) from hB1.trans (But.of_below (bel_alloc _ _)))
              have HBY := (show Hid (Box (w3.alloc (.cells #[.string T.name, .string T.text, .bool T.leaf, .slice x1 x2 x3] 51)) gb 119 [.int .i64 n2]) from hx3.still (bel_alloc _ _))
              have HLZ := (show Hid (Lies (w3.alloc (.cells #[.string T.name, .string T.text, .bool T.leaf, .slice x1 x2 x3] 51)) (fun q => q < W0.heap.size ∨ w1.heap.size ≤ q) T (.slice x1 x2 x3)) from (hl3.mono (fun q h => h)).still (bel_alloc _ _))
              clear hb3 hl3 hx3 hB1 hB0 hS0 hBA hBA2 hHeld
              cases B
              · have HNO := (show Hid (paJ k ks k.length = none) from HNP.out (h4 rfl))
                have HNN := (show Hid (n2 ≤ n0 + (k.length + De.wtL k)) from (HNW.out n2 hn3).2)
                have HKZ := (show Hid (IkI W0.heap.size gb w (w3.alloc (.cells #[.string T.name, .string T.text, .bool T.leaf, .slice x1 x2 x3] 51)) n2 (.slice ua m'.length up) m') from HKD.out.call HBZ.out HBY.out hg hgl)
                clear h3 h4 HNP HSP HBZ HBY HLZ HCQ HSX HKD HKR
                have HE := (show Hid _ from PkA.no (k := k) (ks := ks) HKZ.out HNN.out HNO.out)
                clear HKZ HNO
                go_wp2_with fail
                refine bodyPost_ret (v := .tuple #[.slice none 0 0, .bool false]) (by simp [results, Try.results110, go_sem]) rfl ?_
                exact HE.out
              · obtain ⟨T0, hT0, _⟩ := h3 rfl
                rw [HNE.out] at hT0
                cases hT0
            · go_simp
              clear hHeld
              refine hK.out _ _ (HSX.out _ (But.of_below (by first | exact hBA | exact hBA2))) (fun hHeld => ?_)
              clear hK K
              try simp only [Act.put, List.setIfInBounds_toArray, List.set_cons_zero, List.set_cons_succ]
              refine wpAnyH_ready (rs := [5]) (by kernel_rfl) (by simp) ?_
              refine (AllReadyH.cons (o := o110_5_5) rfl (fun K hK => ?_) AllReadyH.nil)
              go_simp
              refine Calls.mono (HCQ.out _ hBA) ?_
              rintro e w3 ⟨T, u1, B, n2, rfl, hb3, hx3, hl3, hn3, h3, h4⟩
              obtain ⟨x1, x2, x3, rfl⟩ := hl3.form
              simp only [Tr.val]
              have hB1 : But gb w1 w3 := (But.of_below hBA).trans hb3
              have hbz : Box w3 (w1.heap.size) 51 [.string ⟨#[]⟩, .string ⟨#[]⟩, .bool false, .slice none 0 0] := by
                have h0 := Box.new w1.drew 51 [.string ⟨#[]⟩, .string ⟨#[]⟩, .bool false, .slice none 0 0]
                have h1 := h0.keep (w' := w3) (hb3.block h0.lt (by have := HKR.out.but.size; show w1.drew.heap.size ≠ gb; have := hszD; show w1.heap.size ≠ gb; omega))
                simpa using h1
              have z0 : w3.cell? ⟨w1.heap.size, 0, none⟩ = some (.string ⟨#[]⟩) := hbz.cell 0 (by simp)
              have z1 : w3.cell? ⟨w1.heap.size, 1, none⟩ = some (.string ⟨#[]⟩) := hbz.cell 1 (by simp)
              have z2 : w3.cell? ⟨w1.heap.size, 2, none⟩ = some (.bool false) := hbz.cell 2 (by simp)
              have z3 : w3.cell? ⟨w1.heap.size, 3, none⟩ = some (.slice none 0 0) := hbz.cell 3 (by simp)
              have y0 := hbz.frozen 0
              have y1 := hbz.frozen 1
              have y2 := hbz.frozen 2
              have y3 := hbz.frozen 3
              clear hbz
              clear hHeld
              refine hK.out _ _ (HSX.out _ hB1) (fun hHeld => ?_)
              clear hK K
              try simp only [Act.put, List.setIfInBounds_toArray, List.set_cons_zero, List.set_cons_succ]
              refine wpAnyH_take (i := 6) (oi := o110_5_6) (v := ?v9) rfl (by kernel_rfl) (by kernel_rfl) (by kernel_rfl) (fun _ _ _ h => h) (Or.inl ⟨by rfl, ?h9⟩) hHeld ?r9
              case h9 => (intro w hSw; (try dsimp only at hSw); go_simp; try with_reducible rfl)
              try simp only [Act.put, List.setIfInBounds_toArray, List.set_cons_zero, List.set_cons_succ]
              refine wpAnyH_take (i := 7) (oi := o110_5_7) (v := ?v10) rfl (by kernel_rfl) (by kernel_rfl) (by kernel_rfl) (fun _ _ _ h => h) (Or.inl ⟨by rfl, ?h10⟩) hHeld ?r10
              case h10 => (intro w hSw; (try dsimp only at hSw); go_simp; try with_reducible rfl)
              try simp only [Act.put, List.setIfInBounds_toArray, List.set_cons_zero, List.set_cons_succ]
              refine wpAnyH_take (i := 8) (oi := o110_5_8) (v := ?v11) rfl (by kernel_rfl) (by kernel_rfl) (by kernel_rfl) (fun _ _ _ h => h) (Or.inl ⟨by rfl, ?h11⟩) hHeld ?r11
              case h11 => (intro w hSw; (try dsimp only at hSw); go_simp; try with_reducible rfl)
              try simp only [Act.put, List.setIfInBounds_toArray, List.set_cons_zero, List.set_cons_succ]
              have hB2 : But gb w1 ((((w3.setCell ⟨w1.heap.size, 0, none⟩ (.string T.name)).setCell ⟨w1.heap.size, 1, none⟩ (.string T.text)).setCell ⟨w1.heap.size, 2, none⟩ (.bool T.leaf)).setCell ⟨w1.heap.size, 3, none⟩ (.slice x1 x2 x3)) := (((hB1.setNew (by simp) _).setNew (by simp) _).setNew (by simp) _).setNew (by simp) _
              refine wpAnyH_ready (rs := [10]) (by kernel_rfl) (by simp) ?_
              refine (AllReadyH.cons (o := o110_5_10) rfl (fun K hK => ?_) AllReadyH.nil)
              go_simp
              clear hHeld
              refine hK.out _ _ (HSX.out _ hB2) (fun hHeld => ?_)
              clear hK K
              try simp only [Act.put, List.setIfInBounds_toArray, List.set_cons_zero, List.set_cons_succ]
              refine wpAnyH_ready (rs := [11]) (by kernel_rfl) (by simp) ?_
              refine (AllReadyH.cons (o := o110_5_11) rfl (fun K hK => ?_) AllReadyH.nil)
              go_simp
              clear hHeld
              refine hK.out _ _ (HSX.out _ hB2) (fun hHeld => ?_)
              clear hK K
              try simp only [Act.put, List.setIfInBounds_toArray, List.set_cons_zero, List.set_cons_succ]
              refine wpAnyH_done (by kernel_rfl) ?_ _
              have HBZ := (show Hid (But gb w1 ((((w3.setCell ⟨w1.heap.size, 0, none⟩ (.string T.name)).setCell ⟨w1.heap.size, 1, none⟩ (.string T.text)).setCell ⟨w1.heap.size, 2, none⟩ (.bool T.leaf)).setCell ⟨w1.heap.size, 3, none⟩ (.slice x1 x2 x3))) from hB2)
              have hgz : gb ≠ w1.heap.size := by have := HKR.out.but.size; have h7 := hszD; (try simp at h7); omega
              have HBY := (show Hid (Box ((((w3.setCell ⟨w1.heap.size, 0, none⟩ (.string T.name)).setCell ⟨w1.heap.size, 1, none⟩ (.string T.text)).setCell ⟨w1.heap.size, 2, none⟩ (.bool T.leaf)).setCell ⟨w1.heap.size, 3, none⟩ (.slice x1 x2 x3)) gb 119 [.int .i64 n2]) from (((hx3.past hgz).past hgz).past hgz).past hgz)
              have HLZ := (show Hid (Lies ((((w3.setCell ⟨w1.heap.size, 0, none⟩ (.string T.name)).setCell ⟨w1.heap.size, 1, none⟩ (.string T.text)).setCell ⟨w1.heap.size, 2, none⟩ (.bool T.leaf)).setCell ⟨w1.heap.size, 3, none⟩ (.slice x1 x2 x3)) (fun q => q < W0.heap.size ∨ w1.heap.size ≤ q) T (.slice x1 x2 x3)) from (Lies.keep (fun q hq => by
                have hC3 := HBWR.out.size
                have hC4 := hszD
                have hq2 : q < W0.heap.size ∨ w1.heap.size + 1 ≤ q := by simpa using hq
                (try simp at hC4)
                have e2 : q ≠ w1.heap.size := by omega
                exact (blk_setCell_other _ _ _ _ e2).trans ((blk_setCell_other _ _ _ _ e2).trans ((blk_setCell_other _ _ _ _ e2).trans (blk_setCell_other _ _ _ _ e2)))) hl3).mono (fun q h => by
                have hq2 : q < W0.heap.size ∨ w1.heap.size + 1 ≤ q := by simpa using h
                (try simp)
                omega))
              clear hb3 hl3 hx3 hB1 hB0 hS0 hBA hBA2 hHeld hB2 hgz
              cases B
              · have HNO := (show Hid (paJ k ks k.length = none) from HNP.out (h4 rfl))
                have HNN := (show Hid (n2 ≤ n0 + (k.length + De.wtL k)) from (HNW.out n2 hn3).2)
                have HKZ := (show Hid (IkI W0.heap.size gb w ((((w3.setCell ⟨w1.heap.size, 0, none⟩ (.string T.name)).setCell ⟨w1.heap.size, 1, none⟩ (.string T.text)).setCell ⟨w1.heap.size, 2, none⟩ (.bool T.leaf)).setCell ⟨w1.heap.size, 3, none⟩ (.slice x1 x2 x3)) n2 (.slice ua m'.length up) m') from HKD.out.call HBZ.out HBY.out hg hgl)
                clear h3 h4 HNP HSP HBZ HBY HLZ HCQ HSX HKD HKR
                have HE := (show Hid _ from PkA.no (k := k) (ks := ks) HKZ.out HNN.out HNO.out)
                clear HKZ HNO
                go_wp2_with fail
                refine bodyPost_ret (v := .tuple #[.slice none 0 0, .bool false]) (by simp [results, Try.results110, go_sem]) rfl ?_
                exact HE.out
              · obtain ⟨T0, hT0, _⟩ := h3 rfl
                rw [HNE.out] at hT0
                cases hT0
          · have hL0 : L = 0 := by have := HLL.out.1; omega
            have HNO := (show Hid (paJ k ks k.length = none) from HPS.out (HP5.out.trans rfl))
            have HKZ := (show Hid _ from HKR.out.still HBD.out)
            subst hL0
            clear HST HPS HTX XBD HBD HCL HKR HP5
            have HE := (show Hid _ from PkA.no (k := k) (ks := ks) HKZ.out HNN.out HNO.out)
            clear HKZ HNO
            go_wp2_with fail
            refine bodyPost_ret (v := .tuple #[.slice none 0 0, .bool false]) (by simp [results, Try.results110, go_sem]) rfl ?_
            exact HE.out
        · rw [hr] at HRT HP5
          have HNX := (show Hid (paJ k ks (j + 1) = some (s.1 ++ [t'], s.2)) from HST.out.trans HP5.out)
          clear HST HPS HP5 HA5 hr HCL HAR
          go_wp2_with fail
          refine Calls.mono HRT.out ?_
          rintro e w1 ⟨rfl, hb1⟩
          have HBZ := (show Hid (Below wr.heap.size wr w1) from bel_trans HAW.out hb1)
          have hxb := XB.out.still hb1
          have X1 : w1.cell? ⟨wr.heap.size, 1, none⟩ = some (.string t'.name) := hxb.cell 1 (by simp)
          have X2 : w1.cell? ⟨wr.heap.size, 2, none⟩ = some (.string t'.text) := hxb.cell 2 (by simp)
          have X3 : w1.cell? ⟨wr.heap.size, 3, none⟩ = some (.bool t'.leaf) := hxb.cell 3 (by simp)
          have X4 : w1.cell? ⟨wr.heap.size, 4, none⟩ = some (.slice xa xl xp) := hxb.cell 4 (by simp)
          have HK1 := (show Hid _ from HKR.out.still HBZ.out)
          have HMR := (show Hid _ from more127 gb n W0.heap.size w.heap.size m' t' ua up (.slice xa xl xp) w1 HK1.out.box HK1.out.fg (HTX.out w1 HBZ.out) hg hgl HK1.out.but.size hnb (by omega))
          simp only [Tr.val] at HMR
          clear hb1 hxb HRT c0 c1 c2 c3 c4 c5 XB HTX HAW HBZ
          go_wp2_with fail
          refine Calls.mono HMR.out ?_
          rintro e w2 ⟨ua2, up2, m2, hm2, rfl, hbt, hbx2, hfg2⟩
          have HN2 := (show Hid (IkI W0.heap.size gb w w2 (n + 1) (.slice ua2 m2.length up2) m2) from ⟨hbt.but HK1.out.but (fun q hq => by obtain ⟨fs, h1, h2⟩ := HK1.out.fg; exact (h1.lt q hq).1), hbx2, hfg2⟩)
          have HQ2 := (show Hid (QL n0 (n + 1) (s.1 ++ [t']) m2) from (by rw [hm2]; exact HQ.out.one t'))
          have hm2l : m2.length ≤ j + 1 := by rw [hm2]; split <;> (try simp) <;> omega
          clear hbt hbx2 hfg2 hm2 HK1 HMR HQ HKR
          go_wp2_with fail
          exact ⟨⟨j + 1, (s.1 ++ [t'], s.2), a', ua2, up2, m2, n + 1, by go_num, by rw [HLL.out.1, HLL.out.2], rfl, by omega, hsa, hm2l, HA', HNX, HQ2, HN1, HN2⟩, by simp [intOf]; omega⟩
      · have i5 : (c' == 5) = false := by simpa using e5
        by_cases hat : s.2 < ks.length
        · have hL0 : ¬ L = 0 := by have := HLL.out.1; omega
          obtain rfl := HA'.out hat
          have HAN := (show Hid (s.2 + 1 < ks.length → (if Cp = 1 then (some ⟨ab, aoff + s.2 * 4, none⟩ : Option Addr) else some ⟨ab, aoff + s.2 * 4 + 4, none⟩) = some ⟨ab, aoff + (s.2 + 1) * 4, none⟩) from fun h => by rw [if_neg (by have := HLL.out.2; omega), show aoff + (s.2 + 1) * 4 = aoff + s.2 * 4 + 4 by omega])
          by_cases e4 : c' = 4
          · subst e4
            have HP4 := (show Hid (paS ks ⟨4, t', k'⟩ (pa ⟨4, t', k'⟩) s = if (zeB t' && k'.isEmpty) = true then some (s.1, s.2 + 1) else none) from (by show _ = _; unfold paS; rw [if_neg (show ¬ ((4 : Int) = 5) by decide), dif_pos hat, if_pos rfl]))
            have HA4 := (show Hid (arB ⟨4, t', k'⟩ = (zeB t' && k'.isEmpty)) from HAR.out.trans (by simp))
            rw [HA4.out] at HRT
            cases hr : (zeB t' && k'.isEmpty)
            · rw [hr] at HRT HP4
              have HNE := (show Hid (∀ q, pa ⟨4, t', k'⟩ q = none) from fun q => by rw [pa_mk]; rfl)
              have HPC := (show Hid (paS ks ⟨4, t', k'⟩ (pa ⟨4, t', k'⟩) s = (pa ⟨4, t', k'⟩ ks[s.2]).map fun t => (s.1 ++ [t], s.2 + 1)) from HP4.out.trans (by rw [HNE.out]; rfl))
              clear HP4 HA4 hr HAR
              go_wp2_with fail
              refine Calls.mono HRT.out ?_
              rintro e w1 ⟨rfl, hb1⟩
              have HBD := (show Hid (Below wr.heap.size wr w1) from bel_trans HAW.out hb1)
              have XBD := (show Hid _ from XB.out.still hb1)
              clear hb1 HRT c0 c1 c2 c3 c4 c5 HAW XB
              have hkd := HAC.out.2.2 s.2 hat
              obtain ⟨d0, d1, d2, d3⟩ := HAC.out.2.1 s.2 hat
              obtain ⟨qa, ql, qp, hqv⟩ := hkd.form
              rw [hqv] at d3 hkd
              generalize ks[s.2] = q at *
              have HKD := (show Hid _ from HKR.out.still HBD.out)
              have hBW : Below W0.heap.size W0 w1 := HBWR.out.trans (HBD.out.mono HBWR.out.size)
              have HCQ := (show Hid (∀ wq, Below w1.heap.size w1 wq → Calls Try.prog 82 #[.pointer (some ⟨gb, 0, none⟩), .agg #[.string q.name, .string q.text, .bool q.leaf, .slice qa ql qp], .agg #[.int .i64 4, .string t'.name, .string t'.text, .bool t'.leaf, .slice xa xl xp, .slice ya k'.length yp]] wq (IpA W0.heap.size gb n (De.mk 4 t' k').wt (pa ⟨4, t', k'⟩ q) wq)) from fun wq h => HCL.out q _ wq hkd (hBW.trans (h.mono hBW.size)) (HKD.out.box.still h))
              have HSX := (show Hid (∀ wq, But gb w1 wq → (wq.cell? ⟨ab, aoff + s.2 * 4, none⟩ = some (.string q.name) ∧ wq.cell? ⟨ab, aoff + s.2 * 4 + 1, none⟩ = some (.string q.text) ∧ wq.cell? ⟨ab, aoff + s.2 * 4 + 2, none⟩ = some (.bool q.leaf) ∧ wq.cell? ⟨ab, aoff + s.2 * 4 + 3, none⟩ = some (.slice qa ql qp)) ∧ wq.cell? ⟨wr.heap.size, 0, none⟩ = some (.int .i64 4) ∧ wq.cell? ⟨wr.heap.size, 1, none⟩ = some (.string t'.name) ∧ wq.cell? ⟨wr.heap.size, 2, none⟩ = some (.string t'.text) ∧ wq.cell? ⟨wr.heap.size, 3, none⟩ = some (.bool t'.leaf) ∧ wq.cell? ⟨wr.heap.size, 4, none⟩ = some (.slice xa xl xp) ∧ wq.cell? ⟨wr.heap.size, 5, none⟩ = some (.slice ya k'.length yp)) from fun wq h => by
                have hq := bel_but hBW h hg
                have y := XBD.out.keep (h.block XBD.out.lt (by have := HKR.out.but.size; omega))
                exact ⟨⟨(hq.cell (lt_of_cell d0)).trans d0, (hq.cell (lt_of_cell d1)).trans d1, (hq.cell (lt_of_cell d2)).trans d2, (hq.cell (lt_of_cell d3)).trans d3⟩, y.cell 0 (by simp), y.cell 1 (by simp), y.cell 2 (by simp), y.cell 3 (by simp), y.cell 4 (by simp), y.cell 5 (by simp)⟩)
              have HNP := (show Hid (pa ⟨4, t', k'⟩ q = none → paJ k ks k.length = none) from fun h => HPS.out (HPC.out.trans (by rw [h]; rfl)))
              have HSP := (show Hid (∀ T, pa ⟨4, t', k'⟩ q = some T → paJ k ks (j + 1) = some (s.1 ++ [T], s.2 + 1)) from fun T h => HST.out.trans (HPC.out.trans (by rw [h]; rfl)))
              have q1 : 0 < L := by omega
              have X0d : w1.cell? ⟨wr.heap.size, 0, none⟩ = some (.int .i64 4) := XBD.out.cell 0 (by simp)
              have hB0 := (Below.refl w1.heap.size w1).drew
              have hS0 := HSX.out _ (But.of_below hB0)
              have hBA : Below w1.heap.size w1 (w1.drew.alloc (.cells #[.string ⟨#[]⟩, .string ⟨#[]⟩, .bool false, .slice none 0 0] 51)) := hB0.alloc (Nat.le_refl _) _
              have hBA2 : Below w1.heap.size w1 (w1.alloc (.cells #[.string ⟨#[]⟩, .string ⟨#[]⟩, .bool false, .slice none 0 0] 51)).drew := (bel_alloc _ _).drew
              have hszD := HBD.out.size
              clear HST HPS HPC HCL hkd hqv d0 d1 d2 d3 HTX HBD XBD hBW 
              go_wp2_with fail
              refine wp_region_held_drew (S := (fun wq => (wq.cell? ⟨ab, aoff + s.2 * 4, none⟩ = some (.string q.name) ∧ wq.cell? ⟨ab, aoff + s.2 * 4 + 1, none⟩ = some (.string q.text) ∧ wq.cell? ⟨ab, aoff + s.2 * 4 + 2, none⟩ = some (.bool q.leaf) ∧ wq.cell? ⟨ab, aoff + s.2 * 4 + 3, none⟩ = some (.slice qa ql qp)) ∧ wq.cell? ⟨wr.heap.size, 0, none⟩ = some (.int .i64 4) ∧ wq.cell? ⟨wr.heap.size, 1, none⟩ = some (.string t'.name) ∧ wq.cell? ⟨wr.heap.size, 2, none⟩ = some (.string t'.text) ∧ wq.cell? ⟨wr.heap.size, 3, none⟩ = some (.bool t'.leaf) ∧ wq.cell? ⟨wr.heap.size, 4, none⟩ = some (.slice xa xl xp) ∧ wq.cell? ⟨wr.heap.size, 5, none⟩ = some (.slice ya k'.length yp))) (by kernel_rfl) hS0 (fun hHeld => ?_)
              refine wpAnyH_take (i := 0) (oi := o110_5_0) (v := ?v12) rfl (by kernel_rfl) (by kernel_rfl) (by kernel_rfl) (fun _ _ _ h => h) (Or.inl ⟨by rfl, ?h12⟩) hHeld ?r12
              case h12 => (intro w hSw; (try dsimp only at hSw); go_simp; try with_reducible rfl)
              try simp only [Act.put, List.setIfInBounds_toArray, List.set_cons_zero, List.set_cons_succ]
              refine wpAnyH_take (i := 1) (oi := o110_5_1) (v := ?v13) rfl (by kernel_rfl) (by kernel_rfl) (by kernel_rfl) (fun _ _ _ h => h) (Or.inl ⟨by rfl, ?h13⟩) hHeld ?r13
              case h13 => (intro w hSw; (try dsimp only at hSw); go_simp; try with_reducible rfl)
              try simp only [Act.put, List.setIfInBounds_toArray, List.set_cons_zero, List.set_cons_succ]
              refine wpAnyH_take (i := 2) (oi := o110_5_2) (v := ?v14) rfl (by kernel_rfl) (by kernel_rfl) (by kernel_rfl) (fun _ _ _ h => h) (Or.inl ⟨by rfl, ?h14⟩) hHeld ?r14
              case h14 => (intro w hSw; (try dsimp only at hSw); go_simp; try with_reducible rfl)
              try simp only [Act.put, List.setIfInBounds_toArray, List.set_cons_zero, List.set_cons_succ]
              refine wpAnyH_take (i := 3) (oi := o110_5_3) (v := ?v15) rfl (by kernel_rfl) (by kernel_rfl) (by kernel_rfl) (fun _ _ _ h => h) (Or.inl ⟨by rfl, ?h15⟩) hHeld ?r15
              case h15 => (intro w hSw; (try dsimp only at hSw); go_simp; try with_reducible rfl)
              try simp only [Act.put, List.setIfInBounds_toArray, List.set_cons_zero, List.set_cons_succ]
              refine wpAnyH_take (i := 4) (oi := o110_5_4) (v := ?v16) rfl (by kernel_rfl) (by kernel_rfl) (by kernel_rfl) (fun _ _ _ h => h) (Or.inl ⟨by rfl, ?h16⟩) hHeld ?r16
              case h16 => (intro w hSw; (try dsimp only at hSw); go_simp; try with_reducible rfl)
              try simp only [Act.put, List.setIfInBounds_toArray, List.set_cons_zero, List.set_cons_succ]
              refine wpAnyH_ready (rs := [5, 9]) (by kernel_rfl) (by simp) ?_
              refine (AllReadyH.cons (o := o110_5_5) rfl (fun K hK => ?_) (AllReadyH.cons (o := o110_5_9) rfl (fun K hK => ?_) AllReadyH.nil))
              · go_simp
                refine Calls.mono (HCQ.out _ hB0) ?_
                rintro e w3 ⟨T, u1, B, n2, rfl, hb3, hx3, hl3, hn3, h3, h4⟩
                obtain ⟨x1, x2, x3, rfl⟩ := hl3.form
                simp only [Tr.val]
                have hB1 : But gb w1 w3 := (But.of_below hB0).trans hb3
                clear hHeld
                refine hK.out _ _ (HSX.out _ hB1) (fun hHeld => ?_)
                clear hK K
                try simp only [Act.put, List.setIfInBounds_toArray, List.set_cons_zero, List.set_cons_succ]
                refine wpAnyH_take (i := 6) (oi := o110_5_6) (v := ?v17) rfl (by kernel_rfl) (by kernel_rfl) (by kernel_rfl) (fun _ _ _ h => h) (Or.inl ⟨by rfl, ?h17⟩) hHeld ?r17
                case h17 => (intro w hSw; (try dsimp only at hSw); go_simp; try with_reducible rfl)
                try simp only [Act.put, List.setIfInBounds_toArray, List.set_cons_zero, List.set_cons_succ]
                refine wpAnyH_take (i := 7) (oi := o110_5_7) (v := ?v18) rfl (by kernel_rfl) (by kernel_rfl) (by kernel_rfl) (fun _ _ _ h => h) (Or.inl ⟨by rfl, ?h18⟩) hHeld ?r18
                case h18 => (intro w hSw; (try dsimp only at hSw); go_simp; try with_reducible rfl)
                try simp only [Act.put, List.setIfInBounds_toArray, List.set_cons_zero, List.set_cons_succ]
                refine wpAnyH_take (i := 8) (oi := o110_5_8) (v := ?v19) rfl (by kernel_rfl) (by kernel_rfl) (by kernel_rfl) (fun _ _ _ h => h) (Or.inl ⟨by rfl, ?h19⟩) hHeld ?r19
                case h19 => (intro w hSw; (try dsimp only at hSw); go_simp; try with_reducible rfl)
                try simp only [Act.put, List.setIfInBounds_toArray, List.set_cons_zero, List.set_cons_succ]
                refine wpAnyH_ready (rs := [9]) (by kernel_rfl) (by simp) ?_
                refine (AllReadyH.cons (o := o110_5_9) rfl (fun K hK => ?_) AllReadyH.nil)
                go_simp
                clear hHeld
                refine hK.out _ _ (HSX.out _ (hB1.trans (But.of_below (bel_alloc _ _)))) (fun hHeld => ?_)
                clear hK K
                try simp only [Act.put, List.setIfInBounds_toArray, List.set_cons_zero, List.set_cons_succ]
                refine wpAnyH_ready (rs := [10]) (by kernel_rfl) (by simp) ?_
                refine (AllReadyH.cons (o := o110_5_10) rfl (fun K hK => ?_) AllReadyH.nil)
                go_simp
                clear hHeld
                refine hK.out _ _ (HSX.out _ (hB1.trans (But.of_below (bel_alloc _ _)))) (fun hHeld => ?_)
                clear hK K
                try simp only [Act.put, List.setIfInBounds_toArray, List.set_cons_zero, List.set_cons_succ]
                refine wpAnyH_ready (rs := [11]) (by kernel_rfl) (by simp) ?_
                refine (AllReadyH.cons (o := o110_5_11) rfl (fun K hK => ?_) AllReadyH.nil)
                go_simp
                clear hHeld
                refine hK.out _ _ (HSX.out _ (hB1.trans (But.of_below (bel_alloc _ _)))) (fun hHeld => ?_)
                clear hK K
                try simp only [Act.put, List.setIfInBounds_toArray, List.set_cons_zero, List.set_cons_succ]
                refine wpAnyH_done (by kernel_rfl) ?_ _
                have HBZ := (show Hid (But gb w1 (w3.alloc (.cells #[.string T.name, .string T.text, .bool T.leaf, .slice x1 x2 x3] 51))) from hB1.trans (But.of_below (bel_alloc _ _)))
                have HBY := (show Hid (Box (w3.alloc (.cells #[.string T.name, .string T.text, .bool T.leaf, .slice x1 x2 x3] 51)) gb 119 [.int .i64 n2]) from hx3.still (bel_alloc _ _))
                have HLZ := (show Hid (Lies (w3.alloc (.cells #[.string T.name, .string T.text, .bool T.leaf, .slice x1 x2 x3] 51)) (fun q => q < W0.heap.size ∨ w1.heap.size ≤ q) T (.slice x1 x2 x3)) from (hl3.mono (fun q h => h)).still (bel_alloc _ _))
                clear hb3 hl3 hx3 hB1 hB0 hS0 hBA hBA2 hHeld
                cases B
                · have HNO := (show Hid (paJ k ks k.length = none) from HNP.out (h4 rfl))
                  have HNN := (show Hid (n2 ≤ n0 + (k.length + De.wtL k)) from (HNW.out n2 hn3).2)
                  have HKZ := (show Hid (IkI W0.heap.size gb w (w3.alloc (.cells #[.string T.name, .string T.text, .bool T.leaf, .slice x1 x2 x3] 51)) n2 (.slice ua m'.length up) m') from HKD.out.call HBZ.out HBY.out hg hgl)
                  clear h3 h4 HNP HSP HBZ HBY HLZ HCQ HSX HKD HKR
                  have HE := (show Hid _ from PkA.no (k := k) (ks := ks) HKZ.out HNN.out HNO.out)
                  clear HKZ HNO
                  go_wp2_with fail
                  refine bodyPost_ret (v := .tuple #[.slice none 0 0, .bool false]) (by simp [results, Try.results110, go_sem]) rfl ?_
                  exact HE.out
                · obtain ⟨T0, hT0, _⟩ := h3 rfl
                  rw [HNE.out] at hT0
                  cases hT0
              · go_simp
                clear hHeld
                refine hK.out _ _ (HSX.out _ (But.of_below (by first | exact hBA | exact hBA2))) (fun hHeld => ?_)
                clear hK K
                try simp only [Act.put, List.setIfInBounds_toArray, List.set_cons_zero, List.set_cons_succ]
                refine wpAnyH_ready (rs := [5]) (by kernel_rfl) (by simp) ?_
                refine (AllReadyH.cons (o := o110_5_5) rfl (fun K hK => ?_) AllReadyH.nil)
                go_simp
                refine Calls.mono (HCQ.out _ hBA) ?_
                rintro e w3 ⟨T, u1, B, n2, rfl, hb3, hx3, hl3, hn3, h3, h4⟩
                obtain ⟨x1, x2, x3, rfl⟩ := hl3.form
                simp only [Tr.val]
                have hB1 : But gb w1 w3 := (But.of_below hBA).trans hb3
                have hbz : Box w3 (w1.heap.size) 51 [.string ⟨#[]⟩, .string ⟨#[]⟩, .bool false, .slice none 0 0] := by
                  have h0 := Box.new w1.drew 51 [.string ⟨#[]⟩, .string ⟨#[]⟩, .bool false, .slice none 0 0]
                  have h1 := h0.keep (w' := w3) (hb3.block h0.lt (by have := HKR.out.but.size; show w1.drew.heap.size ≠ gb; have := hszD; show w1.heap.size ≠ gb; omega))
                  simpa using h1
                have z0 : w3.cell? ⟨w1.heap.size, 0, none⟩ = some (.string ⟨#[]⟩) := hbz.cell 0 (by simp)
                have z1 : w3.cell? ⟨w1.heap.size, 1, none⟩ = some (.string ⟨#[]⟩) := hbz.cell 1 (by simp)
                have z2 : w3.cell? ⟨w1.heap.size, 2, none⟩ = some (.bool false) := hbz.cell 2 (by simp)
                have z3 : w3.cell? ⟨w1.heap.size, 3, none⟩ = some (.slice none 0 0) := hbz.cell 3 (by simp)
                have y0 := hbz.frozen 0
                have y1 := hbz.frozen 1
                have y2 := hbz.frozen 2
                have y3 := hbz.frozen 3
                clear hbz
                clear hHeld
                refine hK.out _ _ (HSX.out _ hB1) (fun hHeld => ?_)
                clear hK K
                try simp only [Act.put, List.setIfInBounds_toArray, List.set_cons_zero, List.set_cons_succ]
                refine wpAnyH_take (i := 6) (oi := o110_5_6) (v := ?v20) rfl (by kernel_rfl) (by kernel_rfl) (by kernel_rfl) (fun _ _ _ h => h) (Or.inl ⟨by rfl, ?h20⟩) hHeld ?r20
                case h20 => (intro w hSw; (try dsimp only at hSw); go_simp; try with_reducible rfl)
                try simp only [Act.put, List.setIfInBounds_toArray, List.set_cons_zero, List.set_cons_succ]
                refine wpAnyH_take (i := 7) (oi := o110_5_7) (v := ?v21) rfl (by kernel_rfl) (by kernel_rfl) (by kernel_rfl) (fun _ _ _ h => h) (Or.inl ⟨by rfl, ?h21⟩) hHeld ?r21
                case h21 => (intro w hSw; (try dsimp only at hSw); go_simp; try with_reducible rfl)
                try simp only [Act.put, List.setIfInBounds_toArray, List.set_cons_zero, List.set_cons_succ]
                refine wpAnyH_take (i := 8) (oi := o110_5_8) (v := ?v22) rfl (by kernel_rfl) (by kernel_rfl) (by kernel_rfl) (fun _ _ _ h => h) (Or.inl ⟨by rfl, ?h22⟩) hHeld ?r22
                case h22 => (intro w hSw; (try dsimp only at hSw); go_simp; try with_reducible rfl)
                try simp only [Act.put, List.setIfInBounds_toArray, List.set_cons_zero, List.set_cons_succ]
                have hB2 : But gb w1 ((((w3.setCell ⟨w1.heap.size, 0, none⟩ (.string T.name)).setCell ⟨w1.heap.size, 1, none⟩ (.string T.text)).setCell ⟨w1.heap.size, 2, none⟩ (.bool T.leaf)).setCell ⟨w1.heap.size, 3, none⟩ (.slice x1 x2 x3)) := (((hB1.setNew (by simp) _).setNew (by simp) _).setNew (by simp) _).setNew (by simp) _
                refine wpAnyH_ready (rs := [10]) (by kernel_rfl) (by simp) ?_
                refine (AllReadyH.cons (o := o110_5_10) rfl (fun K hK => ?_) AllReadyH.nil)
                go_simp
                clear hHeld
                refine hK.out _ _ (HSX.out _ hB2) (fun hHeld => ?_)
                clear hK K
                try simp only [Act.put, List.setIfInBounds_toArray, List.set_cons_zero, List.set_cons_succ]
                refine wpAnyH_ready (rs := [11]) (by kernel_rfl) (by simp) ?_
                refine (AllReadyH.cons (o := o110_5_11) rfl (fun K hK => ?_) AllReadyH.nil)
                go_simp
                clear hHeld
                refine hK.out _ _ (HSX.out _ hB2) (fun hHeld => ?_)
                clear hK K
                try simp only [Act.put, List.setIfInBounds_toArray, List.set_cons_zero, List.set_cons_succ]
                refine wpAnyH_done (by kernel_rfl) ?_ _
                have HBZ := (show Hid (But gb w1 ((((w3.setCell ⟨w1.heap.size, 0, none⟩ (.string T.name)).setCell ⟨w1.heap.size, 1, none⟩ (.string T.text)).setCell ⟨w1.heap.size, 2, none⟩ (.bool T.leaf)).setCell ⟨w1.heap.size, 3, none⟩ (.slice x1 x2 x3))) from hB2)
                have hgz : gb ≠ w1.heap.size := by have := HKR.out.but.size; have h7 := hszD; (try simp at h7); omega
                have HBY := (show Hid (Box ((((w3.setCell ⟨w1.heap.size, 0, none⟩ (.string T.name)).setCell ⟨w1.heap.size, 1, none⟩ (.string T.text)).setCell ⟨w1.heap.size, 2, none⟩ (.bool T.leaf)).setCell ⟨w1.heap.size, 3, none⟩ (.slice x1 x2 x3)) gb 119 [.int .i64 n2]) from (((hx3.past hgz).past hgz).past hgz).past hgz)
                have HLZ := (show Hid (Lies ((((w3.setCell ⟨w1.heap.size, 0, none⟩ (.string T.name)).setCell ⟨w1.heap.size, 1, none⟩ (.string T.text)).setCell ⟨w1.heap.size, 2, none⟩ (.bool T.leaf)).setCell ⟨w1.heap.size, 3, none⟩ (.slice x1 x2 x3)) (fun q => q < W0.heap.size ∨ w1.heap.size ≤ q) T (.slice x1 x2 x3)) from (Lies.keep (fun q hq => by
                  have hC3 := HBWR.out.size
                  have hC4 := hszD
                  have hq2 : q < W0.heap.size ∨ w1.heap.size + 1 ≤ q := by simpa using hq
                  (try simp at hC4)
                  have e2 : q ≠ w1.heap.size := by omega
                  exact (blk_setCell_other _ _ _ _ e2).trans ((blk_setCell_other _ _ _ _ e2).trans ((blk_setCell_other _ _ _ _ e2).trans (blk_setCell_other _ _ _ _ e2)))) hl3).mono (fun q h => by
                  have hq2 : q < W0.heap.size ∨ w1.heap.size + 1 ≤ q := by simpa using h
                  (try simp)
                  omega))
                clear hb3 hl3 hx3 hB1 hB0 hS0 hBA hBA2 hHeld hB2 hgz
                cases B
                · have HNO := (show Hid (paJ k ks k.length = none) from HNP.out (h4 rfl))
                  have HNN := (show Hid (n2 ≤ n0 + (k.length + De.wtL k)) from (HNW.out n2 hn3).2)
                  have HKZ := (show Hid (IkI W0.heap.size gb w ((((w3.setCell ⟨w1.heap.size, 0, none⟩ (.string T.name)).setCell ⟨w1.heap.size, 1, none⟩ (.string T.text)).setCell ⟨w1.heap.size, 2, none⟩ (.bool T.leaf)).setCell ⟨w1.heap.size, 3, none⟩ (.slice x1 x2 x3)) n2 (.slice ua m'.length up) m') from HKD.out.call HBZ.out HBY.out hg hgl)
                  clear h3 h4 HNP HSP HBZ HBY HLZ HCQ HSX HKD HKR
                  have HE := (show Hid _ from PkA.no (k := k) (ks := ks) HKZ.out HNN.out HNO.out)
                  clear HKZ HNO
                  go_wp2_with fail
                  refine bodyPost_ret (v := .tuple #[.slice none 0 0, .bool false]) (by simp [results, Try.results110, go_sem]) rfl ?_
                  exact HE.out
                · obtain ⟨T0, hT0, _⟩ := h3 rfl
                  rw [HNE.out] at hT0
                  cases hT0
            · rw [hr] at HRT HP4
              have HNX := (show Hid (paJ k ks (j + 1) = some (s.1, s.2 + 1)) from HST.out.trans HP4.out)
              clear HST HPS HP4 HA4 hr HCL HAR
              go_wp2_with fail
              refine Calls.mono HRT.out ?_
              rintro e w1 ⟨rfl, hb1⟩
              have HK1 := (show Hid _ from HKR.out.still (bel_trans HAW.out hb1))
              clear hb1 HRT c0 c1 c2 c3 c4 c5 XB HTX HAW HKR
              go_wp2_with fail
              exact ⟨⟨j + 1, (s.1, s.2 + 1), (if Cp = 1 then (some ⟨ab, aoff + s.2 * 4, none⟩ : Option Addr) else some ⟨ab, aoff + s.2 * 4 + 4, none⟩), ua, up, m', n, by go_num, by (obtain ⟨h1, h2⟩ := HLL.out; rw [h1, h2, Nat.sub_sub, Nat.sub_sub]), rfl, by omega, by (dsimp only; omega), by omega, HAN, HNX, HQ, HND, HK1⟩, by simp [intOf]; omega⟩
          · have i4 : (c' == 4) = false := by simpa using e4
            have HPC := (show Hid (paS ks ⟨c', t', k'⟩ (pa ⟨c', t', k'⟩) s = (pa ⟨c', t', k'⟩ ks[s.2]).map fun t => (s.1 ++ [t], s.2 + 1)) from (by show _ = _; unfold paS; rw [if_neg e5, dif_pos hat, if_neg e4]))
            have HBD := (show Hid (Below wr.heap.size wr (wr.alloc (.cells #[.int .i64 c', .string t'.name, .string t'.text, .bool t'.leaf, .slice xa xl xp, .slice ya k'.length yp] 57))) from HAW.out)
            have XBD := (show Hid _ from XB.out)
            clear HRT HAR HAW XB
            have hkd := HAC.out.2.2 s.2 hat
            obtain ⟨d0, d1, d2, d3⟩ := HAC.out.2.1 s.2 hat
            obtain ⟨qa, ql, qp, hqv⟩ := hkd.form
            rw [hqv] at d3 hkd
            generalize ks[s.2] = q at *
            have HKD := (show Hid _ from HKR.out.still HBD.out)
            have hBW : Below W0.heap.size W0 (wr.alloc (.cells #[.int .i64 c', .string t'.name, .string t'.text, .bool t'.leaf, .slice xa xl xp, .slice ya k'.length yp] 57)) := HBWR.out.trans (HBD.out.mono HBWR.out.size)
            have HCQ := (show Hid (∀ wq, Below (wr.alloc (.cells #[.int .i64 c', .string t'.name, .string t'.text, .bool t'.leaf, .slice xa xl xp, .slice ya k'.length yp] 57)).heap.size (wr.alloc (.cells #[.int .i64 c', .string t'.name, .string t'.text, .bool t'.leaf, .slice xa xl xp, .slice ya k'.length yp] 57)) wq → Calls Try.prog 82 #[.pointer (some ⟨gb, 0, none⟩), .agg #[.string q.name, .string q.text, .bool q.leaf, .slice qa ql qp], .agg #[.int .i64 c', .string t'.name, .string t'.text, .bool t'.leaf, .slice xa xl xp, .slice ya k'.length yp]] wq (IpA W0.heap.size gb n (De.mk c' t' k').wt (pa ⟨c', t', k'⟩ q) wq)) from fun wq h => HCL.out q _ wq hkd (hBW.trans (h.mono hBW.size)) (HKD.out.box.still h))
            have HSX := (show Hid (∀ wq, But gb (wr.alloc (.cells #[.int .i64 c', .string t'.name, .string t'.text, .bool t'.leaf, .slice xa xl xp, .slice ya k'.length yp] 57)) wq → (wq.cell? ⟨ab, aoff + s.2 * 4, none⟩ = some (.string q.name) ∧ wq.cell? ⟨ab, aoff + s.2 * 4 + 1, none⟩ = some (.string q.text) ∧ wq.cell? ⟨ab, aoff + s.2 * 4 + 2, none⟩ = some (.bool q.leaf) ∧ wq.cell? ⟨ab, aoff + s.2 * 4 + 3, none⟩ = some (.slice qa ql qp)) ∧ wq.cell? ⟨wr.heap.size, 0, none⟩ = some (.int .i64 c') ∧ wq.cell? ⟨wr.heap.size, 1, none⟩ = some (.string t'.name) ∧ wq.cell? ⟨wr.heap.size, 2, none⟩ = some (.string t'.text) ∧ wq.cell? ⟨wr.heap.size, 3, none⟩ = some (.bool t'.leaf) ∧ wq.cell? ⟨wr.heap.size, 4, none⟩ = some (.slice xa xl xp) ∧ wq.cell? ⟨wr.heap.size, 5, none⟩ = some (.slice ya k'.length yp)) from fun wq h => by
              have hq := bel_but hBW h hg
              have y := XBD.out.keep (h.block XBD.out.lt (by have := HKR.out.but.size; omega))
              exact ⟨⟨(hq.cell (lt_of_cell d0)).trans d0, (hq.cell (lt_of_cell d1)).trans d1, (hq.cell (lt_of_cell d2)).trans d2, (hq.cell (lt_of_cell d3)).trans d3⟩, y.cell 0 (by simp), y.cell 1 (by simp), y.cell 2 (by simp), y.cell 3 (by simp), y.cell 4 (by simp), y.cell 5 (by simp)⟩)
            have HNP := (show Hid (pa ⟨c', t', k'⟩ q = none → paJ k ks k.length = none) from fun h => HPS.out (HPC.out.trans (by rw [h]; rfl)))
            have HSP := (show Hid (∀ T, pa ⟨c', t', k'⟩ q = some T → paJ k ks (j + 1) = some (s.1 ++ [T], s.2 + 1)) from fun T h => HST.out.trans (HPC.out.trans (by rw [h]; rfl)))
            have q1 : 0 < L := by omega
            have X0d : (wr.alloc (.cells #[.int .i64 c', .string t'.name, .string t'.text, .bool t'.leaf, .slice xa xl xp, .slice ya k'.length yp] 57)).cell? ⟨wr.heap.size, 0, none⟩ = some (.int .i64 c') := XBD.out.cell 0 (by simp)
            have hB0 := (Below.refl (wr.alloc (.cells #[.int .i64 c', .string t'.name, .string t'.text, .bool t'.leaf, .slice xa xl xp, .slice ya k'.length yp] 57)).heap.size (wr.alloc (.cells #[.int .i64 c', .string t'.name, .string t'.text, .bool t'.leaf, .slice xa xl xp, .slice ya k'.length yp] 57))).drew
            have hS0 := HSX.out _ (But.of_below hB0)
            have hBA : Below (wr.alloc (.cells #[.int .i64 c', .string t'.name, .string t'.text, .bool t'.leaf, .slice xa xl xp, .slice ya k'.length yp] 57)).heap.size (wr.alloc (.cells #[.int .i64 c', .string t'.name, .string t'.text, .bool t'.leaf, .slice xa xl xp, .slice ya k'.length yp] 57)) ((wr.alloc (.cells #[.int .i64 c', .string t'.name, .string t'.text, .bool t'.leaf, .slice xa xl xp, .slice ya k'.length yp] 57)).drew.alloc (.cells #[.string ⟨#[]⟩, .string ⟨#[]⟩, .bool false, .slice none 0 0] 51)) := hB0.alloc (Nat.le_refl _) _
            have hBA2 : Below (wr.alloc (.cells #[.int .i64 c', .string t'.name, .string t'.text, .bool t'.leaf, .slice xa xl xp, .slice ya k'.length yp] 57)).heap.size (wr.alloc (.cells #[.int .i64 c', .string t'.name, .string t'.text, .bool t'.leaf, .slice xa xl xp, .slice ya k'.length yp] 57)) ((wr.alloc (.cells #[.int .i64 c', .string t'.name, .string t'.text, .bool t'.leaf, .slice xa xl xp, .slice ya k'.length yp] 57)).alloc (.cells #[.string ⟨#[]⟩, .string ⟨#[]⟩, .bool false, .slice none 0 0] 51)).drew := (bel_alloc _ _).drew
            have hszD := HBD.out.size
            clear HST HPS HPC HCL hkd hqv d0 d1 d2 d3 HTX HBD XBD hBW e4 e5
            go_wp2_with fail
            refine wp_region_held_drew (S := (fun wq => (wq.cell? ⟨ab, aoff + s.2 * 4, none⟩ = some (.string q.name) ∧ wq.cell? ⟨ab, aoff + s.2 * 4 + 1, none⟩ = some (.string q.text) ∧ wq.cell? ⟨ab, aoff + s.2 * 4 + 2, none⟩ = some (.bool q.leaf) ∧ wq.cell? ⟨ab, aoff + s.2 * 4 + 3, none⟩ = some (.slice qa ql qp)) ∧ wq.cell? ⟨wr.heap.size, 0, none⟩ = some (.int .i64 c') ∧ wq.cell? ⟨wr.heap.size, 1, none⟩ = some (.string t'.name) ∧ wq.cell? ⟨wr.heap.size, 2, none⟩ = some (.string t'.text) ∧ wq.cell? ⟨wr.heap.size, 3, none⟩ = some (.bool t'.leaf) ∧ wq.cell? ⟨wr.heap.size, 4, none⟩ = some (.slice xa xl xp) ∧ wq.cell? ⟨wr.heap.size, 5, none⟩ = some (.slice ya k'.length yp))) (by kernel_rfl) hS0 (fun hHeld => ?_)
            refine wpAnyH_take (i := 0) (oi := o110_5_0) (v := ?v23) rfl (by kernel_rfl) (by kernel_rfl) (by kernel_rfl) (fun _ _ _ h => h) (Or.inl ⟨by rfl, ?h23⟩) hHeld ?r23
            case h23 => (intro w hSw; (try dsimp only at hSw); go_simp; try with_reducible rfl)
            try simp only [Act.put, List.setIfInBounds_toArray, List.set_cons_zero, List.set_cons_succ]
            refine wpAnyH_take (i := 1) (oi := o110_5_1) (v := ?v24) rfl (by kernel_rfl) (by kernel_rfl) (by kernel_rfl) (fun _ _ _ h => h) (Or.inl ⟨by rfl, ?h24⟩) hHeld ?r24
            case h24 => (intro w hSw; (try dsimp only at hSw); go_simp; try with_reducible rfl)
            try simp only [Act.put, List.setIfInBounds_toArray, List.set_cons_zero, List.set_cons_succ]
            refine wpAnyH_take (i := 2) (oi := o110_5_2) (v := ?v25) rfl (by kernel_rfl) (by kernel_rfl) (by kernel_rfl) (fun _ _ _ h => h) (Or.inl ⟨by rfl, ?h25⟩) hHeld ?r25
            case h25 => (intro w hSw; (try dsimp only at hSw); go_simp; try with_reducible rfl)
            try simp only [Act.put, List.setIfInBounds_toArray, List.set_cons_zero, List.set_cons_succ]
            refine wpAnyH_take (i := 3) (oi := o110_5_3) (v := ?v26) rfl (by kernel_rfl) (by kernel_rfl) (by kernel_rfl) (fun _ _ _ h => h) (Or.inl ⟨by rfl, ?h26⟩) hHeld ?r26
            case h26 => (intro w hSw; (try dsimp only at hSw); go_simp; try with_reducible rfl)
            try simp only [Act.put, List.setIfInBounds_toArray, List.set_cons_zero, List.set_cons_succ]
            refine wpAnyH_take (i := 4) (oi := o110_5_4) (v := ?v27) rfl (by kernel_rfl) (by kernel_rfl) (by kernel_rfl) (fun _ _ _ h => h) (Or.inl ⟨by rfl, ?h27⟩) hHeld ?r27
            case h27 => (intro w hSw; (try dsimp only at hSw); go_simp; try with_reducible rfl)
            try simp only [Act.put, List.setIfInBounds_toArray, List.set_cons_zero, List.set_cons_succ]
            refine wpAnyH_ready (rs := [5, 9]) (by kernel_rfl) (by simp) ?_
            refine (AllReadyH.cons (o := o110_5_5) rfl (fun K hK => ?_) (AllReadyH.cons (o := o110_5_9) rfl (fun K hK => ?_) AllReadyH.nil))
            · go_simp
              refine Calls.mono (HCQ.out _ hB0) ?_
              rintro e w3 ⟨T, u1, B, n2, rfl, hb3, hx3, hl3, hn3, h3, h4⟩
              obtain ⟨x1, x2, x3, rfl⟩ := hl3.form
              simp only [Tr.val]
              have hB1 : But gb (wr.alloc (.cells #[.int .i64 c', .string t'.name, .string t'.text, .bool t'.leaf, .slice xa xl xp, .slice ya k'.length yp] 57)) w3 := (But.of_below hB0).trans hb3
              clear hHeld
              refine hK.out _ _ (HSX.out _ hB1) (fun hHeld => ?_)
              clear hK K
              try simp only [Act.put, List.setIfInBounds_toArray, List.set_cons_zero, List.set_cons_succ]
              refine wpAnyH_take (i := 6) (oi := o110_5_6) (v := ?v28) rfl (by kernel_rfl) (by kernel_rfl) (by kernel_rfl) (fun _ _ _ h => h) (Or.inl ⟨by rfl, ?h28⟩) hHeld ?r28
              case h28 => (intro w hSw; (try dsimp only at hSw); go_simp; try with_reducible rfl)
              try simp only [Act.put, List.setIfInBounds_toArray, List.set_cons_zero, List.set_cons_succ]
              refine wpAnyH_take (i := 7) (oi := o110_5_7) (v := ?v29) rfl (by kernel_rfl) (by kernel_rfl) (by kernel_rfl) (fun _ _ _ h => h) (Or.inl ⟨by rfl, ?h29⟩) hHeld ?r29
              case h29 => (intro w hSw; (try dsimp only at hSw); go_simp; try with_reducible rfl)
              try simp only [Act.put, List.setIfInBounds_toArray, List.set_cons_zero, List.set_cons_succ]
              refine wpAnyH_take (i := 8) (oi := o110_5_8) (v := ?v30) rfl (by kernel_rfl) (by kernel_rfl) (by kernel_rfl) (fun _ _ _ h => h) (Or.inl ⟨by rfl, ?h30⟩) hHeld ?r30
              case h30 => (intro w hSw; (try dsimp only at hSw); go_simp; try with_reducible rfl)
              try simp only [Act.put, List.setIfInBounds_toArray, List.set_cons_zero, List.set_cons_succ]
              refine wpAnyH_ready (rs := [9]) (by kernel_rfl) (by simp) ?_
              refine (AllReadyH.cons (o := o110_5_9) rfl (fun K hK => ?_) AllReadyH.nil)
              go_simp
              clear hHeld
              refine hK.out _ _ (HSX.out _ (hB1.trans (But.of_below (bel_alloc _ _)))) (fun hHeld => ?_)
              clear hK K
              try simp only [Act.put, List.setIfInBounds_toArray, List.set_cons_zero, List.set_cons_succ]
              refine wpAnyH_ready (rs := [10]) (by kernel_rfl) (by simp) ?_
              refine (AllReadyH.cons (o := o110_5_10) rfl (fun K hK => ?_) AllReadyH.nil)
              go_simp
              clear hHeld
              refine hK.out _ _ (HSX.out _ (hB1.trans (But.of_below (bel_alloc _ _)))) (fun hHeld => ?_)
              clear hK K
              try simp only [Act.put, List.setIfInBounds_toArray, List.set_cons_zero, List.set_cons_succ]
              refine wpAnyH_ready (rs := [11]) (by kernel_rfl) (by simp) ?_
              refine (AllReadyH.cons (o := o110_5_11) rfl (fun K hK => ?_) AllReadyH.nil)
              go_simp
              clear hHeld
              refine hK.out _ _ (HSX.out _ (hB1.trans (But.of_below (bel_alloc _ _)))) (fun hHeld => ?_)
              clear hK K
              try simp only [Act.put, List.setIfInBounds_toArray, List.set_cons_zero, List.set_cons_succ]
              refine wpAnyH_done (by kernel_rfl) ?_ _
              have HBZ := (show Hid (But gb (wr.alloc (.cells #[.int .i64 c', .string t'.name, .string t'.text, .bool t'.leaf, .slice xa xl xp, .slice ya k'.length yp] 57)) (w3.alloc (.cells #[.string T.name, .string T.text, .bool T.leaf, .slice x1 x2 x3] 51))) from hB1.trans (But.of_below (bel_alloc _ _)))
              have HBY := (show Hid (Box (w3.alloc (.cells #[.string T.name, .string T.text, .bool T.leaf, .slice x1 x2 x3] 51)) gb 119 [.int .i64 n2]) from hx3.still (bel_alloc _ _))
              have HLZ := (show Hid (Lies (w3.alloc (.cells #[.string T.name, .string T.text, .bool T.leaf, .slice x1 x2 x3] 51)) (fun q => q < W0.heap.size ∨ (wr.alloc (.cells #[.int .i64 c', .string t'.name, .string t'.text, .bool t'.leaf, .slice xa xl xp, .slice ya k'.length yp] 57)).heap.size ≤ q) T (.slice x1 x2 x3)) from (hl3.mono (fun q h => h)).still (bel_alloc _ _))
              clear hb3 hl3 hx3 hB1 hB0 hS0 hBA hBA2 hHeld
              cases B
              · have HNO := (show Hid (paJ k ks k.length = none) from HNP.out (h4 rfl))
                have HNN := (show Hid (n2 ≤ n0 + (k.length + De.wtL k)) from (HNW.out n2 hn3).2)
                have HKZ := (show Hid (IkI W0.heap.size gb w (w3.alloc (.cells #[.string T.name, .string T.text, .bool T.leaf, .slice x1 x2 x3] 51)) n2 (.slice ua m'.length up) m') from HKD.out.call HBZ.out HBY.out hg hgl)
                clear h3 h4 HNP HSP HBZ HBY HLZ HCQ HSX HKD HKR
                have HE := (show Hid _ from PkA.no (k := k) (ks := ks) HKZ.out HNN.out HNO.out)
                clear HKZ HNO
                go_wp2_with fail
                refine bodyPost_ret (v := .tuple #[.slice none 0 0, .bool false]) (by simp [results, Try.results110, go_sem]) rfl ?_
                exact HE.out
              · obtain ⟨T0, hT0, hQT⟩ := h3 rfl
                have HNX := (show Hid (paJ k ks (j + 1) = some (s.1 ++ [T0], s.2 + 1)) from HSP.out T0 hT0)
                have HQ2 := (show Hid (QL n0 n2 (s.1 ++ [T0]) (m' ++ [T])) from HQ.out.kid hQT)
                have HN2 := (show Hid (n2 ≤ n0 + ((j + 1) + De.wtL (k.take (j + 1)))) from (HNW.out n2 hn3).1)
                clear h3 h4 HNP HSP HCQ HSX HQ HNN HNW HN1 HND hT0 hQT hn3
                obtain ⟨fs, hown, hls⟩ := HKD.out.fg
                have HO2 := (show Hid _ from own_still (own_but hown HBZ.out hgl) (bel_alloc (w3.alloc (.cells #[.string T.name, .string T.text, .bool T.leaf, .slice x1 x2 x3] 51)) (.cells #[.string T.name, .string T.text, .bool T.leaf, .slice x1 x2 x3] 51)))
                have HFG := (show Hid _ from (⟨hown, hls⟩ : _ ∧ _))
                clear hown hls
                have hwz : w.heap.size ≤ ((w3.alloc (.cells #[.string T.name, .string T.text, .bool T.leaf, .slice x1 x2 x3] 51))).heap.size := by have := HKD.out.but.size; have := HBZ.out.size; omega
                try simp only [World.size_alloc, World.size_setCell] at hwz
                go_wp2_with (at_builtin; refine wpList_append_lies _ rfl (.tmp 30) (.tmp 32) 30 rfl w.heap.size 51 i51 _ 4 64 Try.underlying30 hi51 hz0 hz1 hz2 rfl (by decide) _ m'.length (kc m' fs m'.length) rfl HO2.out ⟨w3.heap.size + 1, 0, none⟩ 1 1 [.string T.name, .string T.text, .bool T.leaf, .slice x1 x2 x3] rfl rfl ?cc1 ?cc2 (by decide) ?cc3 (by omega) (by simp; omega) _ rfl ?nx)
                case cc1 => (have hc := cell_four_box (w3.alloc (.cells #[.string T.name, .string T.text, .bool T.leaf, .slice x1 x2 x3] 51)) (.string T.name) (.string T.text) (.bool T.leaf) (.slice x1 x2 x3) 51; first | exact hc | (simp only [World.size_alloc, World.size_setCell] at hc; exact hc))
                case cc2 => intro u hu; simp at hu; rcases hu with rfl | rfl | rfl | rfl <;> rfl
                case cc3 => unfold maxLen; omega
                case nx =>
                  intro g3 cap3 w9 hown9 hgr9 hat9 hlt9
                  have HN := (show Hid (IkI W0.heap.size gb w w9 n2 (.slice (some ⟨g3, 0, none⟩) (m'.length + 1) cap3) (m' ++ [T])) from IkI.next HKD.out hg hgl (HBZ.out.trans (But.of_below (bel_alloc _ _))) (HBY.out.still (bel_alloc _ _)) (HLZ.out.still (bel_alloc _ _)) HFG.out.1 HFG.out.2 hown9 hgr9 (by simp only [World.size_alloc, World.size_setCell] at hat9 ⊢; exact hat9))
                  clear hown9 hgr9 hat9 hlt9 HFG HO2 HKR HBZ HLZ HBY HKD
                  go_wp2_with fail
                  exact ⟨⟨j + 1, (s.1 ++ [T0], s.2 + 1), (if Cp = 1 then (some ⟨ab, aoff + s.2 * 4, none⟩ : Option Addr) else some ⟨ab, aoff + s.2 * 4 + 4, none⟩), some ⟨g3, 0, none⟩, cap3, m' ++ [T], n2, by go_num, by (obtain ⟨h1, h2⟩ := HLL.out; rw [h1, h2, Nat.sub_sub, Nat.sub_sub]), by simp, by omega, by (dsimp only; omega), by (simp; omega), HAN, HNX, HQ2, HN2, by simpa using HN⟩, by simp [intOf]; omega⟩
            · go_simp
              clear hHeld
              refine hK.out _ _ (HSX.out _ (But.of_below (by first | exact hBA | exact hBA2))) (fun hHeld => ?_)
              clear hK K
              try simp only [Act.put, List.setIfInBounds_toArray, List.set_cons_zero, List.set_cons_succ]
              refine wpAnyH_ready (rs := [5]) (by kernel_rfl) (by simp) ?_
              refine (AllReadyH.cons (o := o110_5_5) rfl (fun K hK => ?_) AllReadyH.nil)
              go_simp
              refine Calls.mono (HCQ.out _ hBA) ?_
              rintro e w3 ⟨T, u1, B, n2, rfl, hb3, hx3, hl3, hn3, h3, h4⟩
              obtain ⟨x1, x2, x3, rfl⟩ := hl3.form
              simp only [Tr.val]
              have hB1 : But gb (wr.alloc (.cells #[.int .i64 c', .string t'.name, .string t'.text, .bool t'.leaf, .slice xa xl xp, .slice ya k'.length yp] 57)) w3 := (But.of_below hBA).trans hb3
              have hbz : Box w3 (wr.heap.size + 1) 51 [.string ⟨#[]⟩, .string ⟨#[]⟩, .bool false, .slice none 0 0] := by
                have h0 := Box.new (wr.alloc (.cells #[.int .i64 c', .string t'.name, .string t'.text, .bool t'.leaf, .slice xa xl xp, .slice ya k'.length yp] 57)).drew 51 [.string ⟨#[]⟩, .string ⟨#[]⟩, .bool false, .slice none 0 0]
                have h1 := h0.keep (w' := w3) (hb3.block h0.lt (by have := HKR.out.but.size; show (wr.alloc (.cells #[.int .i64 c', .string t'.name, .string t'.text, .bool t'.leaf, .slice xa xl xp, .slice ya k'.length yp] 57)).drew.heap.size ≠ gb; have := hszD; show (wr.alloc (.cells #[.int .i64 c', .string t'.name, .string t'.text, .bool t'.leaf, .slice xa xl xp, .slice ya k'.length yp] 57)).heap.size ≠ gb; omega))
                simpa using h1
              have z0 : w3.cell? ⟨wr.heap.size + 1, 0, none⟩ = some (.string ⟨#[]⟩) := hbz.cell 0 (by simp)
              have z1 : w3.cell? ⟨wr.heap.size + 1, 1, none⟩ = some (.string ⟨#[]⟩) := hbz.cell 1 (by simp)
              have z2 : w3.cell? ⟨wr.heap.size + 1, 2, none⟩ = some (.bool false) := hbz.cell 2 (by simp)
              have z3 : w3.cell? ⟨wr.heap.size + 1, 3, none⟩ = some (.slice none 0 0) := hbz.cell 3 (by simp)
              have y0 := hbz.frozen 0
              have y1 := hbz.frozen 1
              have y2 := hbz.frozen 2
              have y3 := hbz.frozen 3
              clear hbz
              clear hHeld
              refine hK.out _ _ (HSX.out _ hB1) (fun hHeld => ?_)
              clear hK K
              try simp only [Act.put, List.setIfInBounds_toArray, List.set_cons_zero, List.set_cons_succ]
              refine wpAnyH_take (i := 6) (oi := o110_5_6) (v := ?v31) rfl (by kernel_rfl) (by kernel_rfl) (by kernel_rfl) (fun _ _ _ h => h) (Or.inl ⟨by rfl, ?h31⟩) hHeld ?r31
              case h31 => (intro w hSw; (try dsimp only at hSw); go_simp; try with_reducible rfl)
              try simp only [Act.put, List.setIfInBounds_toArray, List.set_cons_zero, List.set_cons_succ]
              refine wpAnyH_take (i := 7) (oi := o110_5_7) (v := ?v32) rfl (by kernel_rfl) (by kernel_rfl) (by kernel_rfl) (fun _ _ _ h => h) (Or.inl ⟨by rfl, ?h32⟩) hHeld ?r32
              case h32 => (intro w hSw; (try dsimp only at hSw); go_simp; try with_reducible rfl)
              try simp only [Act.put, List.setIfInBounds_toArray, List.set_cons_zero, List.set_cons_succ]
              refine wpAnyH_take (i := 8) (oi := o110_5_8) (v := ?v33) rfl (by kernel_rfl) (by kernel_rfl) (by kernel_rfl) (fun _ _ _ h => h) (Or.inl ⟨by rfl, ?h33⟩) hHeld ?r33
              case h33 => (intro w hSw; (try dsimp only at hSw); go_simp; try with_reducible rfl)
              try simp only [Act.put, List.setIfInBounds_toArray, List.set_cons_zero, List.set_cons_succ]
              have hB2 : But gb (wr.alloc (.cells #[.int .i64 c', .string t'.name, .string t'.text, .bool t'.leaf, .slice xa xl xp, .slice ya k'.length yp] 57)) ((((w3.setCell ⟨wr.heap.size + 1, 0, none⟩ (.string T.name)).setCell ⟨wr.heap.size + 1, 1, none⟩ (.string T.text)).setCell ⟨wr.heap.size + 1, 2, none⟩ (.bool T.leaf)).setCell ⟨wr.heap.size + 1, 3, none⟩ (.slice x1 x2 x3)) := (((hB1.setNew (by simp) _).setNew (by simp) _).setNew (by simp) _).setNew (by simp) _
              refine wpAnyH_ready (rs := [10]) (by kernel_rfl) (by simp) ?_
              refine (AllReadyH.cons (o := o110_5_10) rfl (fun K hK => ?_) AllReadyH.nil)
              go_simp
              clear hHeld
              refine hK.out _ _ (HSX.out _ hB2) (fun hHeld => ?_)
              clear hK K
              try simp only [Act.put, List.setIfInBounds_toArray, List.set_cons_zero, List.set_cons_succ]
              refine wpAnyH_ready (rs := [11]) (by kernel_rfl) (by simp) ?_
              refine (AllReadyH.cons (o := o110_5_11) rfl (fun K hK => ?_) AllReadyH.nil)
              go_simp
              clear hHeld
              refine hK.out _ _ (HSX.out _ hB2) (fun hHeld => ?_)
              clear hK K
              try simp only [Act.put, List.setIfInBounds_toArray, List.set_cons_zero, List.set_cons_succ]
              refine wpAnyH_done (by kernel_rfl) ?_ _
              have HBZ := (show Hid (But gb (wr.alloc (.cells #[.int .i64 c', .string t'.name, .string t'.text, .bool t'.leaf, .slice xa xl xp, .slice ya k'.length yp] 57)) ((((w3.setCell ⟨wr.heap.size + 1, 0, none⟩ (.string T.name)).setCell ⟨wr.heap.size + 1, 1, none⟩ (.string T.text)).setCell ⟨wr.heap.size + 1, 2, none⟩ (.bool T.leaf)).setCell ⟨wr.heap.size + 1, 3, none⟩ (.slice x1 x2 x3))) from hB2)
              have hgz : gb ≠ wr.heap.size + 1 := by have := HKR.out.but.size; have h7 := hszD; (try simp at h7); omega
              have HBY := (show Hid (Box ((((w3.setCell ⟨wr.heap.size + 1, 0, none⟩ (.string T.name)).setCell ⟨wr.heap.size + 1, 1, none⟩ (.string T.text)).setCell ⟨wr.heap.size + 1, 2, none⟩ (.bool T.leaf)).setCell ⟨wr.heap.size + 1, 3, none⟩ (.slice x1 x2 x3)) gb 119 [.int .i64 n2]) from (((hx3.past hgz).past hgz).past hgz).past hgz)
              have HLZ := (show Hid (Lies ((((w3.setCell ⟨wr.heap.size + 1, 0, none⟩ (.string T.name)).setCell ⟨wr.heap.size + 1, 1, none⟩ (.string T.text)).setCell ⟨wr.heap.size + 1, 2, none⟩ (.bool T.leaf)).setCell ⟨wr.heap.size + 1, 3, none⟩ (.slice x1 x2 x3)) (fun q => q < W0.heap.size ∨ (wr.alloc (.cells #[.int .i64 c', .string t'.name, .string t'.text, .bool t'.leaf, .slice xa xl xp, .slice ya k'.length yp] 57)).heap.size ≤ q) T (.slice x1 x2 x3)) from (Lies.keep (fun q hq => by
                have hC3 := HBWR.out.size
                have hC4 := hszD
                have hq2 : q < W0.heap.size ∨ wr.heap.size + 1 + 1 ≤ q := by simpa using hq
                (try simp at hC4)
                have e2 : q ≠ wr.heap.size + 1 := by omega
                exact (blk_setCell_other _ _ _ _ e2).trans ((blk_setCell_other _ _ _ _ e2).trans ((blk_setCell_other _ _ _ _ e2).trans (blk_setCell_other _ _ _ _ e2)))) hl3).mono (fun q h => by
                have hq2 : q < W0.heap.size ∨ wr.heap.size + 1 + 1 ≤ q := by simpa using h
                (try simp)
                omega))
              clear hb3 hl3 hx3 hB1 hB0 hS0 hBA hBA2 hHeld hB2 hgz
              cases B
              · have HNO := (show Hid (paJ k ks k.length = none) from HNP.out (h4 rfl))
                have HNN := (show Hid (n2 ≤ n0 + (k.length + De.wtL k)) from (HNW.out n2 hn3).2)
                have HKZ := (show Hid (IkI W0.heap.size gb w ((((w3.setCell ⟨wr.heap.size + 1, 0, none⟩ (.string T.name)).setCell ⟨wr.heap.size + 1, 1, none⟩ (.string T.text)).setCell ⟨wr.heap.size + 1, 2, none⟩ (.bool T.leaf)).setCell ⟨wr.heap.size + 1, 3, none⟩ (.slice x1 x2 x3)) n2 (.slice ua m'.length up) m') from HKD.out.call HBZ.out HBY.out hg hgl)
                clear h3 h4 HNP HSP HBZ HBY HLZ HCQ HSX HKD HKR
                have HE := (show Hid _ from PkA.no (k := k) (ks := ks) HKZ.out HNN.out HNO.out)
                clear HKZ HNO
                go_wp2_with fail
                refine bodyPost_ret (v := .tuple #[.slice none 0 0, .bool false]) (by simp [results, Try.results110, go_sem]) rfl ?_
                exact HE.out
              · obtain ⟨T0, hT0, hQT⟩ := h3 rfl
                have HNX := (show Hid (paJ k ks (j + 1) = some (s.1 ++ [T0], s.2 + 1)) from HSP.out T0 hT0)
                have HQ2 := (show Hid (QL n0 n2 (s.1 ++ [T0]) (m' ++ [T])) from HQ.out.kid hQT)
                have HN2 := (show Hid (n2 ≤ n0 + ((j + 1) + De.wtL (k.take (j + 1)))) from (HNW.out n2 hn3).1)
                clear h3 h4 HNP HSP HCQ HSX HQ HNN HNW HN1 HND hT0 hQT hn3
                obtain ⟨fs, hown, hls⟩ := HKD.out.fg
                have HO2 := (show Hid _ from own_still (own_but hown HBZ.out hgl) (bel_alloc ((((w3.setCell ⟨wr.heap.size + 1, 0, none⟩ (.string T.name)).setCell ⟨wr.heap.size + 1, 1, none⟩ (.string T.text)).setCell ⟨wr.heap.size + 1, 2, none⟩ (.bool T.leaf)).setCell ⟨wr.heap.size + 1, 3, none⟩ (.slice x1 x2 x3)) (.cells #[.string T.name, .string T.text, .bool T.leaf, .slice x1 x2 x3] 51)))
                have HFG := (show Hid _ from (⟨hown, hls⟩ : _ ∧ _))
                clear hown hls
                have hwz : w.heap.size ≤ (((((w3.setCell ⟨wr.heap.size + 1, 0, none⟩ (.string T.name)).setCell ⟨wr.heap.size + 1, 1, none⟩ (.string T.text)).setCell ⟨wr.heap.size + 1, 2, none⟩ (.bool T.leaf)).setCell ⟨wr.heap.size + 1, 3, none⟩ (.slice x1 x2 x3))).heap.size := by have := HKD.out.but.size; have := HBZ.out.size; omega
                try simp only [World.size_alloc, World.size_setCell] at hwz
                go_wp2_with (at_builtin; refine wpList_append_lies _ rfl (.tmp 30) (.tmp 32) 30 rfl w.heap.size 51 i51 _ 4 64 Try.underlying30 hi51 hz0 hz1 hz2 rfl (by decide) _ m'.length (kc m' fs m'.length) rfl HO2.out ⟨w3.heap.size, 0, none⟩ 1 1 [.string T.name, .string T.text, .bool T.leaf, .slice x1 x2 x3] rfl rfl ?cc1 ?cc2 (by decide) ?cc3 (by omega) (by simp; omega) _ rfl ?nx)
                case cc1 => (have hc := cell_four_box ((((w3.setCell ⟨wr.heap.size + 1, 0, none⟩ (.string T.name)).setCell ⟨wr.heap.size + 1, 1, none⟩ (.string T.text)).setCell ⟨wr.heap.size + 1, 2, none⟩ (.bool T.leaf)).setCell ⟨wr.heap.size + 1, 3, none⟩ (.slice x1 x2 x3)) (.string T.name) (.string T.text) (.bool T.leaf) (.slice x1 x2 x3) 51; first | exact hc | (simp only [World.size_alloc, World.size_setCell] at hc; exact hc))
                case cc2 => intro u hu; simp at hu; rcases hu with rfl | rfl | rfl | rfl <;> rfl
                case cc3 => unfold maxLen; omega
                case nx =>
                  intro g3 cap3 w9 hown9 hgr9 hat9 hlt9
                  have HN := (show Hid (IkI W0.heap.size gb w w9 n2 (.slice (some ⟨g3, 0, none⟩) (m'.length + 1) cap3) (m' ++ [T])) from IkI.next HKD.out hg hgl (HBZ.out.trans (But.of_below (bel_alloc _ _))) (HBY.out.still (bel_alloc _ _)) (HLZ.out.still (bel_alloc _ _)) HFG.out.1 HFG.out.2 hown9 hgr9 (by simp only [World.size_alloc, World.size_setCell] at hat9 ⊢; exact hat9))
                  clear hown9 hgr9 hat9 hlt9 HFG HO2 HKR HBZ HLZ HBY HKD
                  go_wp2_with fail
                  exact ⟨⟨j + 1, (s.1 ++ [T0], s.2 + 1), (if Cp = 1 then (some ⟨ab, aoff + s.2 * 4, none⟩ : Option Addr) else some ⟨ab, aoff + s.2 * 4 + 4, none⟩), some ⟨g3, 0, none⟩, cap3, m' ++ [T], n2, by go_num, by (obtain ⟨h1, h2⟩ := HLL.out; rw [h1, h2, Nat.sub_sub, Nat.sub_sub]), by simp, by omega, by (dsimp only; omega), by (simp; omega), HAN, HNX, HQ2, HN2, by simpa using HN⟩, by simp [intOf]; omega⟩
        · have hL0 : L = 0 := by have := HLL.out.1; omega
          have HNO := (show Hid (paJ k ks k.length = none) from HPS.out (by unfold paS; rw [if_neg e5, dif_neg hat]))
          have HKZ := (show Hid _ from HKR.out.still HAW.out)
          subst hL0
          clear HST HPS HTX XB HAW HCL HRT HKR
          have HE := (show Hid _ from PkA.no (k := k) (ks := ks) HKZ.out HNN.out HNO.out)
          clear HKZ HNO
          go_wp2_with fail
          refine bodyPost_ret (v := .tuple #[.slice none 0 0, .bool false]) (by simp [results, Try.results110, go_sem]) rfl ?_
          exact HE.out
    · obtain rfl : j = k.length := by omega
      obtain ⟨L, hL⟩ : ∃ L, L = ks.length - s.2 := ⟨_, rfl⟩
      rw [← hL]
      have hLm : L ≤ 2 ^ 63 - 1 := by omega
      have HE := (show Hid (PkA W0.heap.size gb n0 k ks w (.returned (.tuple #[.slice ua m'.length up, .bool ((L : Int) == 0)])) wr) from ⟨ua, up, m', _, n, rfl, HKR.out, by (have := HN.out; rw [List.take_length] at this; exact this), fun h => ⟨s, HJ.out, by (simp at h; omega), HQ.out⟩, fun h s2 hs2 => by (rw [HJ.out] at hs2; injection hs2 with hs2; subst hs2; simp at h; omega)⟩)
      clear HKR HN HQ HJ hL HA' HI HAC HKC HB
      go_wp2_with fail
      refine bodyPost_ret (v := .tuple #[.slice ua m'.length up, .bool ((L : Int) == 0)]) (by simp [results, Try.results110, go_sem]) rfl ?_
      exact HE.out
end Go.Proofs.Ytblfeifedcddnaa
