import Derived.Test.YtofobmdljelmgaaDn
import Derived.Deep.RegionHeld3
import Derived.Deep.CutRange
import Derived.WalkLawsBesides
/-! The specification: l09Put. -/
namespace Go.Proofs.Ytofobmdljelmgaa
open Go.RowKit Go.Deep
set_option linter.unusedVariables false
set_option maxRecDepth 100000
set_option linter.unusedSimpArgs false

theorem info34 : (Try.prog.info? 34).map (fun i => (i.zero, i.size, i.bytes)) = some (some (.agg #[.string ByteArray.empty, .string ByteArray.empty, .bool false, .slice none 0 0]), 4, 64) := by kernel_rfl
/-- While the Kids get their numbers. -/
structure LpI (B g : Nat) (W0 wr : World) (n x : ByteArray) (l : Bool) (v : Value) (k : List Tr) (ns : List Nd) (K Kj : Nat → Prop) (u uj vk : Value) (j : Nat) : Prop where
  bt : Box wr g 39 [.string n, .string x, .bool l, v]
  bn : Box wr (g + 1) 34 [.string n, .string x, .bool l, vk]
  ok : wr.ownsRow (g + 2) 3 1 vk j (iv (ins (pk k j ns).2))
  dn : DN B wr uj (pk k j ns).1 Kj
  gw : GW W0 wr u uj
  kn : ∀ b, Kj b → K b ∨ W0.heap.size ≤ b
  fr : ∀ q, (q = g ∨ q = g + 1 ∨ vk.ownBlock = some q) → ¬ Kj q ∧ uj.ownBlock ≠ some q
  un : (pk k j ns).1 = ns → uj = u ∧ Below W0.heap.size W0 wr
theorem putK_pre : ∀ (k : List Tr) (ns : List Nd), (∀ i (hi : i < k.length) ns, ns <+: (putT k[i] ns).1) → ns <+: (putK (k.map putT) ns).1
  | [], ns, _ => List.prefix_refl _
  | t :: r, ns, h => (h 0 (by simp) ns).trans (putK_pre r (putT t ns).1 (fun i hi ms => h (i + 1) (by simp; omega) ms))
theorem putT_pre (t : Tr) : ∀ ns, ns <+: (putT t ns).1 := by
  refine Tr.ind (P := fun t => ∀ ns, ns <+: (putT t ns).1) ?_ t
  intro n x l k ih ns
  rw [putT_mk]
  exact (putK_pre k ns ih).trans (put1_pre _ _)
theorem pk_pre (k : List Tr) (j : Nat) (ns : List Nd) : ns <+: (pk k j ns).1 := putK_pre _ _ (fun i hi ms => putT_pre _ ms)
theorem pre_eq {α : Type} {a b : List α} (h : a <+: b) (k : b <+: a) : b = a := (h.eq_of_length (Nat.le_antisymm h.length_le k.length_le)).symm
theorem pk_stay {k : List Tr} {j : Nat} {ns : List Nd} (hj : j < k.length) (h : (pk k (j + 1) ns).1 = ns) : (pk k j ns).1 = ns ∧ (putT k[j] (pk k j ns).1).1 = (pk k j ns).1 := by
  rw [pk_succ hj] at h
  have h1 := putT_pre k[j] (pk k j ns).1
  have h' : (putT k[j] (pk k j ns).1).1 = ns := h
  rw [h'] at h1
  have h2 := pre_eq (pk_pre k j ns) h1
  exact ⟨h2, h'.trans h2.symm⟩
section
variable {B g : Nat} {W0 wr w1 w2 : World} {n x : ByteArray} {l : Bool} {v : Value} {k : List Tr} {ns : List Nd} {K Kj K' : Nat → Prop} {u uj vk u' : Value} {j : Nat}
theorem LpI.lt (h : LpI B g W0 wr n x l v k ns K Kj u uj vk j) : ∀ q, (q = g ∨ q = g + 1 ∨ vk.ownBlock = some q) → q < wr.heap.size := fun q hq => by
  rcases hq with rfl | rfl | hq
  · exact h.bt.lt
  · exact h.bn.lt
  · exact (World.ownsRow.lt h.ok q hq).2
theorem LpI.called (h : LpI B g W0 wr n x l v k ns K Kj u uj vk j) (hg : GW wr w1 uj u') (hk : ∀ b, K' b → Kj b ∨ wr.heap.size ≤ b) :
    Box w1 g 39 [.string n, .string x, .bool l, v] ∧ Box w1 (g + 1) 34 [.string n, .string x, .bool l, vk] ∧ w1.ownsRow (g + 2) 3 1 vk j (iv (ins (pk k j ns).2)) ∧ ∀ q, (q = g ∨ q = g + 1 ∨ vk.ownBlock = some q) → ¬ K' q ∧ u'.ownBlock ≠ some q := by
  have hb : ∀ q, (q = g ∨ q = g + 1 ∨ vk.ownBlock = some q) → w1.heap[q]? = wr.heap[q]? := fun q hq => hg.g.block q (h.lt q hq) (fun e => (h.fr q hq).2 e.symm)
  refine ⟨h.bt.keep (hb g (.inl rfl)), h.bn.keep (hb _ (.inr (.inl rfl))), own_keep1 h.ok (fun q hq => hb q (.inr (.inr hq))), fun q hq => ⟨fun e => ?_, fun e => ?_⟩⟩
  · rcases hk q e with e | e
    · exact (h.fr q hq).1 e
    · have := h.lt q hq; omega
  · rcases hg.at' with e1 | ⟨p, e1, hp⟩
    · exact (h.fr q hq).2 (e1 ▸ e)
    · rw [e1] at e
      injection e with e
      have := h.lt q hq
      omega
theorem LpI.next {q cap : Nat} (h : LpI B g W0 wr n x l v k ns K Kj u uj vk j) (hj : j < k.length) (hgz : g = W0.heap.size) (hBg : B ≤ g) (hd : DN B w1 u' (putT k[j] (pk k j ns).1).1 K') (hg : GW wr w1 uj u') (hk : ∀ b, K' b → Kj b ∨ wr.heap.size ≤ b) (hun : (putT k[j] (pk k j ns).1).1 = (pk k j ns).1 → u' = uj ∧ Below wr.heap.size wr w1)
    (o : Obj) (hown : w2.ownsRow (g + 2) 3 1 (.slice (some ⟨q, 0, none⟩) (j + 1) cap) (j + 1) (iv (ins (pk k j ns).2) ++ [.int .i64 ((putT k[j] (pk k j ns).1).2 : Nat)])) (hgr : (w1.alloc o).grownBy w2 vk.ownBlock) (hat : vk.ownBlock = some q ∨ q = (w1.alloc o).heap.size) :
    LpI B g W0 (w2.setCell ⟨g + 1, 3, none⟩ (.slice (some ⟨q, 0, none⟩) (j + 1) cap)) n x l v k ns K K' u u' (.slice (some ⟨q, 0, none⟩) (j + 1) cap) (j + 1) := by
  obtain ⟨c1, c2, c3, c4⟩ := h.called hg hk
  have hs1 := hg.g.size
  have hs0 := h.gw.g.size
  have hsa : (w1.alloc o).heap.size = w1.heap.size + 1 := by simp
  have hs2 := hgr.size
  have hqv : ∀ p, vk.ownBlock = some p → g + 2 ≤ p ∧ p < w1.heap.size := fun p hp => World.ownsRow.lt c3 p hp
  have hblk : ∀ p, p < w1.heap.size → vk.ownBlock ≠ some p → w2.heap[p]? = w1.heap[p]? := fun p hp hne => (hgr.block p (by omega) (fun e => hne e.symm)).trans (blk_alloc_lt _ _ _ hp)
  have hvg : ∀ p, p < g + 2 → vk.ownBlock ≠ some p := fun p hp e => by have := hqv p e; omega
  have e3 := pk_succ hj ns
  have hset : ∀ p, p ≠ g + 1 → (w2.setCell ⟨g + 1, 3, none⟩ (.slice (some ⟨q, 0, none⟩) (j + 1) cap)).heap[p]? = w2.heap[p]? := fun p hp => blk_setCell_other _ _ _ _ hp
  have hss : (w2.setCell ⟨g + 1, 3, none⟩ (.slice (some ⟨q, 0, none⟩) (j + 1) cap)).heap.size = w2.heap.size := by simp
  have hq2 : g + 2 ≤ q ∧ (vk.ownBlock = some q ∨ w1.heap.size < q + 1) := by
    rcases hat with e | e
    · exact ⟨(hqv q e).1, .inl e⟩
    · have := c2.lt; exact ⟨by omega, .inr (by omega)⟩
  refine ⟨(c1.keep (hblk g c1.lt (hvg g (by omega)))).past (by omega), (c2.keep (hblk _ c2.lt (hvg _ (by omega)))).set 3 _, ?_, ?_, ?_, ?_, ?_, fun e0 => ?_⟩
  · rw [e3]
    have e4 : iv (ins ((pk k j ns).2 ++ [(putT k[j] (pk k j ns).1).2])) = iv (ins (pk k j ns).2) ++ [.int .i64 ((putT k[j] (pk k j ns).1).2 : Nat)] := by simp [iv, ins]
    rw [e4]
    exact own_keep1 hown (fun p hp => hset p (by simp [Value.ownBlock] at hp; omega))
  · rw [e3]
    refine hd.keep (by omega) (fun b hb hlt => ?_)
    have hne : ∀ p, (p = g ∨ p = g + 1 ∨ vk.ownBlock = some p) → p ≠ b := fun p hp e => by
      subst e
      rcases hb with hb | hb
      · exact (c4 p hp).1 hb
      · exact (c4 p hp).2 hb
    rw [hset b (fun e => hne (g + 1) (.inr (.inl rfl)) e.symm)]
    exact hblk b hlt (fun e => hne b (.inr (.inr e)) rfl)
  · refine (h.gw.trans hg).over ⟨hgr.os, hgr.tape, hgr.output, by omega, fun p hp => ?_⟩
    rw [hset p (by omega)]
    exact hblk p (by omega) (hvg p (by omega))
  · intro b hb
    rcases hk b hb with e | e
    · exact h.kn b e
    · exact .inr (by omega)
  · intro p hp
    have key : (p = g ∨ p = g + 1 ∨ vk.ownBlock = some p) ∨ w1.heap.size ≤ p := by
      rcases hp with e | e | e
      · exact .inl (.inl e)
      · exact .inl (.inr (.inl e))
      · simp [Value.ownBlock] at e
        subst e
        rcases hq2.2 with e | e
        · exact .inl (.inr (.inr e))
        · exact .inr (by omega)
    rcases key with e | e
    · exact c4 p e
    · exact ⟨fun hb => by have := hd.lt p (.inl hb); omega, fun hb => by have := hd.lt p (.inr hb); omega⟩
  · obtain ⟨g1, g2⟩ := pk_stay hj e0
    obtain ⟨x1, x2⟩ := h.un g1
    obtain ⟨x3, x4⟩ := hun g2
    refine ⟨x3.trans x1, (bel_trans x2 x4).trans ⟨hgr.os, hgr.tape, hgr.output, by omega, fun p hp => ?_⟩⟩
    rw [hset p (by omega)]
    exact hblk p (by omega) (hvg p (by omega))
end
theorem fnd_first {N : Nd} : ∀ {l : List Nd} {j : Nat}, j < l.length → (∀ i, i < j → ndB (nd l i) N = false) → ndB (nd l j) N = true → fnd l N = j
  | [], j, h, _, _ => absurd h (Nat.not_lt_zero _)
  | a :: r, 0, h, _, h2 => by
    have h2' : ndB a N = true := by simpa [nd] using h2
    unfold fnd
    rw [if_pos h2']
  | a :: r, j + 1, h, h1, h2 => by
    have h0 : ndB a N = false := by simpa [nd] using h1 0 (by omega)
    unfold fnd
    rw [if_neg (by rw [h0]; simp), fnd_first (j := j) (by simpa using h) (fun i hi => by simpa [nd] using h1 (i + 1) (by omega)) (by simpa [nd] using h2)]
theorem fnd_none {N : Nd} : ∀ {l : List Nd}, (∀ i, i < l.length → ndB (nd l i) N = false) → fnd l N = l.length
  | [], _ => rfl
  | a :: r, h => by
    have h0 : ndB a N = false := by simpa [nd] using h 0 (by simp)
    unfold fnd
    rw [if_neg (by rw [h0]; simp), fnd_none (l := r) (fun i hi => by simpa [nd] using h (i + 1) (by simpa using hi))]
    rfl
theorem Lies.low {w w' : World} {S : Nat → Prop} {B : Nat} {t : Tr} {v : Value} (h : Lies w S t v) (hS : ∀ q, S q → q < B) (hb : Below B w w') : Lies w' S t v :=
  Lies.carry (S' := S) (fun b hb _ => hb) (fun b o hq hlt => World.cell?_of_block (w := w) (hb.block b (hS b hq))) (fun b o v h => lt_of_cell h) h
theorem own_ne {w : World} {B e z n : Nat} {v : Value} {xs : List Value} (h : w.ownsRow B e z v n xs) : ∃ a cap, v = .slice a n cap ∧ (a = none → n = 0) := by
  rcases h.2 with ⟨rfl, h0⟩ | ⟨g, cp, cur, r1, r2⟩
  · exact ⟨none, 0, by rw [h0], fun _ => h0⟩
  · exact ⟨_, _, r1, fun e => by cases e⟩
theorem len_le_cntL : ∀ k : List Tr, k.length ≤ Tr.cntL k
  | [] => Nat.le_refl _
  | t :: r => by
    have h1 := len_le_cntL r
    have h2 := Tr.cnt_pos t
    simp only [Tr.cntL, List.map_cons, List.sum_cons, List.length_cons] at h1 ⊢
    omega
/-- What l09Put leaves. -/
def PutR (B : Nat) (t : Tr) (ns : List Nd) (K : Nat → Prop) (u : Value) (w : World) (e : Ending) (w' : World) : Prop :=
  ∃ u' K', e = .returned (.tuple #[u', .int .i64 ((putT t ns).2 : Nat)]) ∧ DN B w' u' (putT t ns).1 K' ∧ GW w w' u u' ∧ (∀ b, K' b → K b ∨ w.heap.size ≤ b) ∧ ((putT t ns).1 = ns → u' = u ∧ Below w.heap.size w w')
set_option maxHeartbeats 6400000 in
theorem put57 {S : Nat → Prop} {B : Nat} (hS : ∀ q, S q → q < B) : ∀ (t : Tr) (v u : Value) (ns : List Nd) (K : Nat → Prop) (w : World), Lies w S t v → DN B w u ns K → B ≤ w.heap.size → ns.length + t.cnt ≤ 1000000 →
    Calls Try.prog 55 #[u, t.val v] w (PutR B t ns K u w) := by
  refine Tr.ind (P := fun t => ∀ (v u : Value) (ns : List Nd) (K : Nat → Prop) (w : World), Lies w S t v → DN B w u ns K → B ≤ w.heap.size → ns.length + t.cnt ≤ 1000000 → Calls Try.prog 55 #[u, t.val v] w (PutR B t ns K u w)) ?_
  intro n x l k ih v u ns K w hl hd hB hlen
  have IH := (show Hid _ from ih); clear ih
  obtain ⟨a, cap, b, off, sv, rfl, hn, hx, hc, hm, ha, hcell, hk⟩ := hl.out
  dsimp only at hn hx hc hm ha hcell hk
  have HA := (show Hid _ from ha); clear ha
  have HC := (show Hid _ from hcell); clear hcell
  have HK := (show Hid _ from hk); clear hk hl
  unfold maxLen at hm
  rw [Tr.cnt_mk] at hlen
  have HLEN := (show Hid _ from hlen); clear hlen
  have HB := (show Hid _ from hB); clear hB
  have HS := (show Hid _ from hS)
  have HR := (show Hid (PutR B ⟨n, x, l, k⟩ ns K u w = fun e w' => ∃ u' K', e = .returned (.tuple #[u', .int .i64 ((put1 (pk k k.length ns).1 ⟨n, x, l, (pk k k.length ns).2⟩).2 : Nat)]) ∧ DN B w' u' (put1 (pk k k.length ns).1 ⟨n, x, l, (pk k k.length ns).2⟩).1 K' ∧ GW w w' u u' ∧ (∀ b, K' b → K b ∨ w.heap.size ≤ b) ∧ ((put1 (pk k k.length ns).1 ⟨n, x, l, (pk k k.length ns).2⟩).1 = ns → u' = u ∧ Below w.heap.size w w')) from (by
    show PutR B ⟨n, x, l, k⟩ ns K u w = _
    unfold PutR
    rw [putT_mk, pk_all]))
  have HI0 := (show Hid (LpI B w.heap.size w ((w.alloc (.cells #[.string n, .string x, .bool l, .slice a k.length cap] 39)).alloc (.cells #[.string n, .string x, .bool l, .slice none 0 0] 34)) n x l (.slice a k.length cap) k ns K K u u (.slice none 0 0) 0) from (by
    have hbb : Below w.heap.size w ((w.alloc (.cells #[.string n, .string x, .bool l, .slice a k.length cap] 39)).alloc (.cells #[.string n, .string x, .bool l, .slice none 0 0] 34)) := (bel_alloc _ _).alloc (by simp) _
    refine ⟨(Box.new w 39 [.string n, .string x, .bool l, .slice a k.length cap]).still (bel_alloc _ _), ?_, ?_, ?_, GW.of_below hbb, fun b hb => .inl hb, fun q hq => ?_, fun _ => ⟨rfl, hbb⟩⟩
    · have := Box.new (w.alloc (.cells #[.string n, .string x, .bool l, .slice a k.length cap] 39)) 34 [.string n, .string x, .bool l, .slice none 0 0]
      simpa using this
    · rw [pk_zero]; exact own_nil _ _ _ _
    · rw [pk_zero]; exact hd.still hbb
    · have hq' : w.heap.size ≤ q := by
        rcases hq with e | e | e
        · omega
        · omega
        · cases e
      exact ⟨fun hb => by have := hd.lt q (.inl hb); omega, fun hb => by have := hd.lt q (.inr hb); omega⟩))
  obtain ⟨ua, ucap, rfl, _⟩ := hd.form
  have HD := (show Hid _ from hd); clear hd
  rw [HR.out]; clear HR
  obtain ⟨i3, hi3, hz0, hz1, hz2⟩ := info_parts info3i
  obtain ⟨i8, hi8, hy0, hy1, hy2⟩ := info_parts info34
  generalize hPK : pk k k.length ns = PK
  have HPK := (show Hid _ from hPK); clear hPK
  go_enter Try.func55, Try.ntmps55
  go_wp2_with fail
  go_loopw [0, 7] (fun uj i wr => ∃ (j : Nat) (vk : Value) (Kj : Nat → Prop), i = .int .i64 j ∧ j ≤ k.length ∧ Hid (LpI B w.heap.size w wr n x l (.slice a k.length cap) k ns K Kj (.slice ua ns.length ucap) uj vk j)) (fun _ i _ => k.length - (intOf i).toNat)
  case atStart => exact ⟨0, _, _, rfl, Nat.zero_le _, HI0.out⟩
  case round =>
    obtain ⟨j, vk, Kj, rfl, hj, HJ⟩ := hrel
    have hbel : Below B w wr := HJ.out.gw.below HB.out (fun g hg => (DN.lt HD.out g (.inr hg)).1)
    have HBEL := (show Hid _ from hbel); clear hbel
    by_cases hlt : j < k.length
    · obtain ⟨rfl, hSb⟩ := HA.out (by omega)
      obtain ⟨c0, c1, c2, c3⟩ := HC.out j hlt
      have hbB := HS.out b hSb
      rw [← HBEL.out.cell (by exact hbB)] at c0 c1 c2 c3
      have T3 : wr.cell? ⟨w.heap.size, 3, none⟩ = some (.slice (some ⟨b, off, none⟩) k.length cap) := HJ.out.bt.cell 3 (by simp)
      have hl := HK.out j hlt
      obtain ⟨mm, hmm⟩ : ∃ mm, (putT k[j] (pk k j ns).1).2 = mm := ⟨_, rfl⟩
      have HIH : Hid (Calls Try.prog 55 #[u0, k[j].val (sv j)] wr fun e w' => ∃ u' K', e = .returned (.tuple #[u', .int .i64 (mm : Nat)]) ∧ DN B w' u' (putT k[j] (pk k j ns).1).1 K' ∧ GW wr w' u0 u' ∧ (∀ b, K' b → Kj b ∨ wr.heap.size ≤ b) ∧ ((putT k[j] (pk k j ns).1).1 = (pk k j ns).1 → u' = u0 ∧ Below wr.heap.size wr w')) := by
        have h1 := pk_len k j ns
        have h2 := Tr.cntL_take_succ k j hlt
        have h3 := Tr.cntL_take_le k (j + 1)
        have h4 := HLEN.out
        have := IH.out j hlt (sv j) u0 (pk k j ns).1 Kj wr (hl.low HS.out HBEL.out) HJ.out.dn (Nat.le_trans HB.out HBEL.out.size) (by omega)
        unfold PutR at this
        rw [hmm] at this
        exact this
      have HNX : Hid (∀ (w1 w2 : World) (u' : Value) (K' : Nat → Prop) (q cq : Nat) (o : Obj), DN B w1 u' (putT k[j] (pk k j ns).1).1 K' → GW wr w1 u0 u' → (∀ b, K' b → Kj b ∨ wr.heap.size ≤ b) → ((putT k[j] (pk k j ns).1).1 = (pk k j ns).1 → u' = u0 ∧ Below wr.heap.size wr w1) → w2.ownsRow (w.heap.size + 2) 3 1 (.slice (some ⟨q, 0, none⟩) (j + 1) cq) (j + 1) (iv (ins (pk k j ns).2) ++ [.int .i64 (mm : Nat)]) → (w1.alloc o).grownBy w2 vk.ownBlock → (vk.ownBlock = some q ∨ q = (w1.alloc o).heap.size) → LpI B w.heap.size w (w2.setCell ⟨w.heap.size + 1, 3, none⟩ (.slice (some ⟨q, 0, none⟩) (j + 1) cq)) n x l (.slice (some ⟨b, off, none⟩) k.length cap) k ns K K' (.slice ua ns.length ucap) u' (.slice (some ⟨q, 0, none⟩) (j + 1) cq) (j + 1)) := fun w1 w2 u' K' q cq o e1 e2 e3 e3u e4 e5 e6 => HJ.out.next hlt rfl HB.out e1 e2 e3 e3u o (by rw [hmm]; exact e4) e5 e6
      have hjb : j ≤ 1000000 := by
        have h1 := HLEN.out
        have h2 := len_le_cntL k
        omega
      obtain ⟨a3, l3, p3, e3⟩ := hl.form
      rw [e3] at c3
      rw [e3] at HIH
      simp only [Tr.val] at HIH
      clear e3 hl hmm
      generalize k[j].name = knm at *
      generalize k[j].text = ktx at *
      generalize k[j].leaf = klf at *
      go_wp2_with fail
      refine Calls.mono HIH.out ?_
      rintro e w1 ⟨u1, K1, rfl, hd1, hg1, hk1, hu1⟩
      obtain ⟨q1, q2, q3, q4⟩ := HJ.out.called hg1 hk1
      have HQ := (show Hid _ from (⟨hd1, hg1, hk1, hu1⟩ : _ ∧ _ ∧ _ ∧ _))
      have N3 : w1.cell? ⟨w.heap.size + 1, 3, none⟩ = some vk := q2.cell 3 (by simp)
      have NF := q2.frozen 3
      have hba := bel_alloc w1 (.cells #[.int .i64 (mm : Nat)] 3)
      have HO1 := (show Hid _ from own_keep1 q3 (fun q hq => hba.block q (World.ownsRow.lt q3 q hq).2))
      have HZ1 := (show Hid (w.heap.size + 2 ≤ w1.heap.size) from (by have := q2.lt; show _ ≤ _; omega))
      have HFZ := (show Hid (∀ w2 : World, (w1.alloc (.cells #[.int .i64 (mm : Nat)] 3)).grownBy w2 vk.ownBlock → w2.frozen? ⟨w.heap.size + 1, 3, none⟩ = false ∧ w2.cell? ⟨w.heap.size + 1, 3, none⟩ = some vk) from fun w2 hgr => by
        have hbx := (q2.still hba).keep (hgr.block _ (by have := q2.lt; simp; omega) (fun e => by have := World.ownsRow.lt q3 _ e.symm; omega))
        exact ⟨hbx.frozen 3, hbx.cell 3 (by simp)⟩)
      clear q1 q2 q3 q4 hd1 hg1 hk1 hu1 hba HIH T3 c0 c1 c2 c3
      go_wp2_with (at_builtin; refine wpList_append_lies _ rfl (.tmp 37) (.tmp 39) 25 rfl (w.heap.size + 2) 3 i3 _ 1 8 Try.underlying25 hi3 hz0 hz1 hz2 rfl (by decide) _ j _ rfl HO1.out ⟨w1.heap.size, 0, none⟩ 1 1 [.int .i64 (mm : Nat)] rfl rfl ?c1 ?c2 (by decide) ?c3 ?c5 ?c4 _ rfl ?nx)
      case c1 => exact World.news_of_block (cs := #[.int .i64 (mm : Nat)]) (blk_alloc_new _ _)
      case c2 => intro u hu; simp at hu; subst hu; rfl
      case c3 => unfold maxLen; omega
      case c5 => omega
      case c4 => have := HZ1.out; simp; omega
      case nx =>
        intro g7 cap7 w7 hown7 hgr7 hat7 hlt7
        obtain ⟨f7, n7⟩ := HFZ.out w7 hgr7
        have HF := (show Hid _ from HNX.out w1 w7 u1 K1 g7 cap7 _ HQ.out.1 HQ.out.2.1 HQ.out.2.2.1 HQ.out.2.2.2 hown7 hgr7 (by simpa using hat7))
        clear hown7 hgr7 hat7 hlt7 HFZ HNX HQ HO1
        go_wp2_with fail
        exact ⟨⟨j + 1, _, _, by go_num, by omega, HF⟩, by simp [intOf]; omega⟩
    · obtain rfl : j = k.length := by omega
      have hJ := HJ.out
      obtain ⟨b1, b2, b3, b4, b5, b6, b7, b8⟩ := hJ
      rw [HPK.out] at b3 b4 b8
      have HUN := (show Hid _ from b8); clear b8
      clear HJ HC HA HK IH HI0 HBEL
      obtain ⟨uc, up, rfl, hu1, hu2⟩ := b4.form
      obtain ⟨va, vp, hvk, hvn⟩ := own_ne b3
      have T3 : wr.cell? ⟨w.heap.size, 3, none⟩ = some (.slice a k.length cap) := b1.cell 3 (by simp)
      have HB2 := (show Hid _ from b2); clear b1 b2
      have HB3 := (show Hid _ from b3); clear b3
      have HDN := (show Hid (DN B wr (.slice uc PK.1.length up) PK.1 Kj) from b4)
      have HG := (show Hid _ from (⟨b5, b6⟩ : _ ∧ _)); clear b5 b6
      have HF := (show Hid _ from b7); clear b7 b4
      have hnb : PK.1.length ≤ 1000000 := by
        have h1 := pk_len k k.length ns
        rw [HPK.out, List.take_length] at h1
        have := HLEN.out
        omega
      have HKI := (show Hid (Ints wr (fun _ => True) (ins PK.2) vk) from (by
        have h0 : (ins PK.2).length = k.length := by
          rw [ins_len, ← HPK.out]
          exact pk_num k _ (Nat.le_refl _) ns
        have h1 := HB3.out
        rw [← h0] at h1
        obtain ⟨a, c, q, o, e1, e2, e3, e4, e5⟩ := (own_ints h1).ints
        exact ⟨a, c, q, o, e1, e2, e3, fun hp => ⟨(e4 hp).1, trivial⟩, e5⟩))
      subst hvk
      obtain ⟨wo, rfl⟩ : ∃ wo, wo = wr := ⟨_, rfl⟩
      unfold maxLen at hu2
      go_wp2_with fail
      go_loopw [10] (fun i wr => ∃ m : Nat, i = .int .i64 m ∧ m ≤ PK.1.length ∧ Hid (Below wo.heap.size wo wr ∧ ∀ i, i < m → ndB (nd PK.1 i) ⟨n, x, l, PK.2⟩ = false)) (fun i _ => PK.1.length - (intOf i).toNat)
      case atStart => exact ⟨0, rfl, Nat.zero_le _, Below.refl _ _, fun i hi => absurd hi (Nat.not_lt_zero _)⟩
      case round =>
        obtain ⟨m, rfl, hm2, HM⟩ := hrel
        by_cases hml : m < PK.1.length
        · obtain ⟨g4, c4, v4, e4, hB4, d0, d1, d2, d3, hI4⟩ := (DN.still HDN.out HM.out.1).node hml
          simp only [Value.slice.injEq] at e4
          obtain ⟨rfl, _, rfl⟩ := e4
          obtain ⟨a4, l4, p4, rfl⟩ := hI4.form
          have hbx := HB2.out.still HM.out.1
          have HC8 := (show Hid (∀ wq, Below wr.heap.size wr wq → (wq.cell? ⟨g4, m * 4, none⟩ = some (.string (nd PK.1 m).nm) ∧ wq.cell? ⟨g4, m * 4 + 1, none⟩ = some (.string (nd PK.1 m).tx) ∧ wq.cell? ⟨g4, m * 4 + 2, none⟩ = some (.bool (nd PK.1 m).lf) ∧ wq.cell? ⟨g4, m * 4 + 3, none⟩ = some (.slice a4 l4 p4)) ∧ wq.cell? ⟨w.heap.size + 1, 0, none⟩ = some (.string n) ∧ wq.cell? ⟨w.heap.size + 1, 1, none⟩ = some (.string x) ∧ wq.cell? ⟨w.heap.size + 1, 2, none⟩ = some (.bool l) ∧ wq.cell? ⟨w.heap.size + 1, 3, none⟩ = some (.slice va k.length vp)) from fun wq hb => by
            have hbq := hbx.still hb
            exact ⟨⟨(hb.cell (lt_of_cell d0)).trans d0, (hb.cell (lt_of_cell d1)).trans d1, (hb.cell (lt_of_cell d2)).trans d2, (hb.cell (lt_of_cell d3)).trans d3⟩, hbq.cell 0 (by simp), hbq.cell 1 (by simp), hbq.cell 2 (by simp), hbq.cell 3 (by simp)⟩)
          have HCL := (show Hid (∀ wq, Below wr.heap.size wr wq → Calls Try.prog 91 #[.agg #[.string (nd PK.1 m).nm, .string (nd PK.1 m).tx, .bool (nd PK.1 m).lf, .slice a4 l4 p4], .agg #[.string n, .string x, .bool l, .slice va k.length vp]] wq fun e w' => e = .returned (.bool (ndB (nd PK.1 m) ⟨n, x, l, PK.2⟩)) ∧ Below wq.heap.size wq w') from fun wq hb => sameNode48 (nd PK.1 m) ⟨n, x, l, PK.2⟩ _ _ wq (hI4.still hb) ((HKI.out.still HM.out.1).still hb))
          have HNX := (show Hid (ndB (nd PK.1 m) ⟨n, x, l, PK.2⟩ = false → ∀ i, i < m + 1 → ndB (nd PK.1 i) ⟨n, x, l, PK.2⟩ = false) from fun h i hi => by
            by_cases e : i = m
            · subst e; exact h
            · exact HM.out.2 i (by omega))
          have HFX := (show Hid (ndB (nd PK.1 m) ⟨n, x, l, PK.2⟩ = true → put1 PK.1 ⟨n, x, l, PK.2⟩ = (PK.1, m)) from fun h => by
            show put1 PK.1 ⟨n, x, l, PK.2⟩ = _
            have e := fnd_first hml HM.out.2 h
            unfold put1
            rw [e, if_pos hml])
          have HBM := (show Hid _ from HM.out.1)
          have q1 : (0 : Int) ≤ (m : Int) := by omega
          have q2 : (m : Int) < (PK.1.length : Int) := by omega
          generalize (nd PK.1 m).nm = y0 at *
          generalize (nd PK.1 m).tx = y1 at *
          generalize (nd PK.1 m).lf = y2 at *
          generalize ndB (nd PK.1 m) ⟨n, x, l, PK.2⟩ = R at *
          clear d0 d1 d2 d3 hI4 hbx HM T3 hB4
          go_wp2_with fail
          go_cut [53] from 48 to 52 (fun vv wx => vv = .bool R ∧ Hid (Below wr.heap.size wr wx))
          case first =>
            have hbd := (Below.refl wr.heap.size wr).drew
            have hS0 := HC8.out _ hbd
            go_region_held3 (fun wq => (wq.cell? ⟨g4, m * 4, none⟩ = some (.string y0) ∧ wq.cell? ⟨g4, m * 4 + 1, none⟩ = some (.string y1) ∧ wq.cell? ⟨g4, m * 4 + 2, none⟩ = some (.bool y2) ∧ wq.cell? ⟨g4, m * 4 + 3, none⟩ = some (.slice a4 l4 p4)) ∧ wq.cell? ⟨w.heap.size + 1, 0, none⟩ = some (.string n) ∧ wq.cell? ⟨w.heap.size + 1, 1, none⟩ = some (.string x) ∧ wq.cell? ⟨w.heap.size + 1, 2, none⟩ = some (.bool l) ∧ wq.cell? ⟨w.heap.size + 1, 3, none⟩ = some (.slice va k.length vp)) (first | exact hS0 | exact hS1) ((go_at_call 91; refine Calls.mono (HCL.out _ hbd) ?_; rintro e w3 ⟨rfl, hb3⟩; have hB3 := bel_trans hbd hb3; have hS1 := HC8.out _ hB3))
            all_goals go_wp2_with fail
            all_goals go_meet
            all_goals exact ⟨rfl, hB3⟩
          case rest =>
            obtain ⟨rfl, HX⟩ := hcut
            have HN2 := (show Hid _ from bel_trans HBM.out HX.out)
            clear HX HC8 HCL HBM
            cases R with
            | false =>
              have HN3 := (show Hid _ from HNX.out rfl)
              go_wp2_with fail
              exact ⟨⟨m + 1, by go_num, by omega, HN2.out, HN3.out⟩, by simp [intOf]; omega⟩
            | true =>
              have HP := (show Hid _ from HFX.out rfl)
              have HE := (show Hid _ from (⟨DN.still HDN.out HN2.out, HG.out.1.over (HN2.out.mono HG.out.1.g.size), HG.out.2, fun e0 => ⟨(HUN.out e0).1, bel_trans (HUN.out e0).2 HN2.out⟩⟩ : _ ∧ _ ∧ _ ∧ (PK.1 = ns → _ ∧ _)))
              go_wp2_with fail
              refine bodyPost_ret (v := .tuple #[.slice (some ⟨g4, 0, none⟩) PK.1.length up, .int .i64 (m : Nat)]) (by simp [results, Try.results55, go_sem]) rfl ?_
              exact ⟨.slice (some ⟨g4, 0, none⟩) PK.1.length up, by rw [HP.out], Kj, by rw [HP.out]; exact HE.out.1, HE.out.2.1, HE.out.2.2.1, by rw [HP.out]; exact HE.out.2.2.2⟩
        · obtain rfl : m = PK.1.length := by omega
          have HP := (show Hid (put1 PK.1 ⟨n, x, l, PK.2⟩ = (PK.1 ++ [⟨n, x, l, PK.2⟩], PK.1.length)) from (by
            show put1 PK.1 ⟨n, x, l, PK.2⟩ = _
            have e := fnd_none HM.out.2
            unfold put1
            rw [e, if_neg (Nat.lt_irrefl _)]))
          have hbx := HB2.out.still HM.out.1
          have n0 : wr.cell? ⟨w.heap.size + 1, 0, none⟩ = some (.string n) := hbx.cell 0 (by simp)
          have n1 : wr.cell? ⟨w.heap.size + 1, 1, none⟩ = some (.string x) := hbx.cell 1 (by simp)
          have n2 : wr.cell? ⟨w.heap.size + 1, 2, none⟩ = some (.bool l) := hbx.cell 2 (by simp)
          have n3 : wr.cell? ⟨w.heap.size + 1, 3, none⟩ = some (.slice va k.length vp) := hbx.cell 3 (by simp)
          have hd2 := DN.still HDN.out (bel_trans HM.out.1 (bel_alloc wr (.cells #[.string n, .string x, .bool l, .slice va k.length vp] 34)))
          obtain ⟨kv, kb, hd3⟩ := hd2
          have HO3 := (show Hid _ from hd3.row)
          have HD3 := (show Hid _ from hd3); clear hd3
          have HZ3 := (show Hid (B ≤ wr.heap.size + 1) from (by have h1 := HB.out; have h2 := HG.out.1.g.size; have h3 := HM.out.1.size; show _ ≤ _; omega))
          clear hbx T3
          go_wp2_with (at_builtin; refine wpList_append_lies _ rfl (.tmp 56) (.tmp 58) 24 rfl B 34 i8 _ 4 64 Try.underlying24 hi8 hy0 hy1 hy2 rfl (by decide) _ PK.1.length _ rfl HO3.out ⟨wr.heap.size, 0, none⟩ 1 1 [.string n, .string x, .bool l, .slice va k.length vp] rfl rfl ?c1 ?c2 (by decide) ?c3 ?c5 ?c4 _ rfl ?nx)
          case c1 => exact World.news_of_block (cs := #[.string n, .string x, .bool l, .slice va k.length vp]) (blk_alloc_new _ _)
          case c2 => intro u hu; simp at hu; rcases hu with rfl | rfl | rfl | rfl <;> rfl
          case c3 => unfold maxLen; omega
          case c5 => omega
          case c4 => have := HZ3.out; simp; omega
          case nx =>
            intro g7 cap7 w7 hown7 hgr7 hat7 hlt7
            have HE : Hid (DN B w7 (.slice (some ⟨g7, 0, none⟩) (PK.1.length + 1) cap7) (PK.1 ++ [⟨n, x, l, PK.2⟩]) (fun b => Kj b ∨ (PK.2 ≠ [] ∧ b = (Value.slice va k.length vp).ownBlock.getD 0)) ∧ GW w w7 (.slice ua ns.length ucap) (.slice (some ⟨g7, 0, none⟩) (PK.1.length + 1) cap7) ∧ ∀ b, (Kj b ∨ (PK.2 ≠ [] ∧ b = (Value.slice va k.length vp).ownBlock.getD 0)) → K b ∨ w.heap.size ≤ b) := by
              have h0 : (ins PK.2).length = k.length := by
                rw [ins_len, ← HPK.out]
                exact pk_num k _ (Nat.le_refl _) ns
              have h1 := HB3.out
              have hvq : PK.2 ≠ [] → ∃ q, (Value.slice va k.length vp).ownBlock = some q := fun hne => by
                cases va with
                | none =>
                  have := hvn rfl
                  rw [ins_len] at h0
                  exact absurd (List.eq_nil_of_length_eq_zero (by omega)) hne
                | some q => exact ⟨_, rfl⟩
              have hbA := bel_trans HM.out.1 (bel_alloc wr (.cells #[.string n, .string x, .bool l, .slice va k.length vp] 34))
              have hqs : ∀ q, (Value.slice va k.length vp).ownBlock = some q → w.heap.size + 2 ≤ q ∧ q < wo.heap.size := fun q hq => World.ownsRow.lt h1 q hq
              have hki : OwnI wo ((Value.slice va k.length vp).ownBlock.getD 0) (ins PK.2) (.slice va k.length vp) := own_ints (by rw [h0]; exact h1)
              have hsz := hbA.size
              refine ⟨Dn.add (q := (Value.slice va k.length vp).ownBlock.getD 0) HD3.out (hki.still hbA) (fun hne => ?_) hown7 hgr7 (by simpa using hat7), ?_, fun b hb => ?_⟩
              · obtain ⟨q, hq⟩ := hvq hne
                have h2 := hqs q hq
                have h3 := HF.out q (.inr (.inr hq))
                have h4 := HB.out
                rw [hq]
                exact ⟨by show B ≤ q; omega, by show q < _; omega, h3.1, h3.2⟩
              · exact (HG.out.1.over (hbA.mono HG.out.1.g.size)).trans (GW.step hgr7 hat7 (by simp))
              · rcases hb with hb | ⟨hne, rfl⟩
                · exact HG.out.2 b hb
                · obtain ⟨q, hq⟩ := hvq hne
                  have h2 := hqs q hq
                  rw [hq]
                  exact .inr (by show _ ≤ q; omega)
            clear hown7 hgr7 hat7 hlt7 n0 n1 n2 n3
            go_wp2_with fail
            refine bodyPost_ret (v := .tuple #[.slice (some ⟨g7, 0, none⟩) (PK.1.length + 1) cap7, .int .i64 (PK.1.length : Nat)]) (by simp [results, Try.results55, go_sem]) rfl ?_
            exact ⟨.slice (some ⟨g7, 0, none⟩) (PK.1.length + 1) cap7, _, by rw [HP.out], by rw [HP.out]; exact HE.out.1, HE.out.2.1, HE.out.2.2, by
              rw [HP.out]
              intro e0
              have h1 := (pk_pre k k.length ns).length_le
              rw [HPK.out] at h1
              have h2 : (PK.1 ++ [(⟨n, x, l, PK.2⟩ : Nd)]).length = ns.length := by rw [show PK.1 ++ [(⟨n, x, l, PK.2⟩ : Nd)] = ns from e0]
              rw [List.length_append, List.length_singleton] at h2
              omega⟩
end Go.Proofs.Ytofobmdljelmgaa
