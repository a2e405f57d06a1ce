import Derived.Test.YtkkcdkfmlamgcaaNu
/-! The program's number: its loop's state. -/
namespace Go.Proofs.Ytkkcdkfmlamgcaa
open Go.RowKit Go.Deep
set_option linter.unusedVariables false
set_option maxRecDepth 100000
set_option linter.unusedSimpArgs false

/-- While the Kids get their numbers. -/
structure NuI (B gs b1 b2 g : Nat) (r : Value) (W0 wr : World) (n x : ByteArray) (l : Bool) (v : Value) (k : List Tr) (ns : List Nd) (K Kj : Nat → Prop) (u uj vk : Value) (DL DLj : List (List Nat)) (LL LLj : List (Nat × Nat)) (MMj : List (ByteArray × ByteArray × Bool × Nat)) (j a : Nat) : Prop where
  bt : Box wr g 39 [.string n, .string x, .bool l, v]
  s : NS B gs b1 b2 r wr uj (pk k j ns).1 Kj DLj LLj MMj
  ow : wr.ownsRow (g + 1) 3 1 vk j (iv (ins (pk k j ns).2))
  fn : FN gs b1 b2 W0 wr u uj
  kn : ∀ b, Kj b → K b ∨ W0.heap.size ≤ b
  fr : ∀ q, (q = g ∨ vk.ownBlock = some q) → ¬ Kj q ∧ uj.ownBlock ≠ some q
  pre : DL <+: DLj
  la : DLj[a]? = some (pk k j ns).2
  ll : LLj.length ≤ LL.length + Tr.cntL (k.take j)
/-- .. and behind the call and the append, ahead of the list's number. -/
structure NuJ (B gs b1 b2 g : Nat) (r : Value) (W0 wr : World) (n x : ByteArray) (l : Bool) (v : Value) (k : List Tr) (ns : List Nd) (K Kj : Nat → Prop) (u uj vk : Value) (DL DLj : List (List Nat)) (LL LLj : List (Nat × Nat)) (MMj : List (ByteArray × ByteArray × Bool × Nat)) (j a : Nat) : Prop where
  bt : Box wr g 39 [.string n, .string x, .bool l, v]
  s : NS B gs b1 b2 r wr uj (pk k (j + 1) ns).1 Kj DLj LLj MMj
  ow : wr.ownsRow (g + 1) 3 1 vk (j + 1) (iv (ins (pk k (j + 1) ns).2))
  fn : FN gs b1 b2 W0 wr u uj
  kn : ∀ b, Kj b → K b ∨ W0.heap.size ≤ b
  fr : ∀ q, (q = g ∨ vk.ownBlock = some q) → ¬ Kj q ∧ uj.ownBlock ≠ some q
  pre : DL <+: DLj
  la : DLj[a]? = some (pk k j ns).2
  ll : LLj.length + 1 ≤ LL.length + Tr.cntL (k.take (j + 1))
section
variable {B gs b1 b2 g : Nat} {r : Value} {W0 wr w1 w2 w3 : World} {n x : ByteArray} {l : Bool} {v : Value} {k : List Tr} {ns : List Nd} {K Kj K' : Nat → Prop} {u uj u' vk : Value} {DL DLj DL' : List (List Nat)} {LL LLj LL' : List (Nat × Nat)} {MMj MM' : List (ByteArray × ByteArray × Bool × Nat)} {j a : Nat}
theorem NuI.lt (h : NuI B gs b1 b2 g r W0 wr n x l v k ns K Kj u uj vk DL DLj LL LLj MMj j a) : ∀ q, (q = g ∨ vk.ownBlock = some q) → g ≤ q ∧ q < wr.heap.size := fun q hq => by
  rcases hq with rfl | hq
  · exact ⟨Nat.le_refl _, h.bt.lt⟩
  · have := World.ownsRow.lt h.ow q hq
    omega
theorem NuI.called (h : NuI B gs b1 b2 g r W0 wr n x l v k ns K Kj u uj vk DL DLj LL LLj MMj j a) (hlt : gs < g ∧ b1 < g ∧ b2 < g) (hf : FN gs b1 b2 wr w1 uj u') (hk : ∀ b, K' b → Kj b ∨ wr.heap.size ≤ b) :
    Box w1 g 39 [.string n, .string x, .bool l, v] ∧ w1.ownsRow (g + 1) 3 1 vk j (iv (ins (pk k j ns).2)) ∧ ∀ q, (q = g ∨ vk.ownBlock = some q) → ¬ K' q ∧ u'.ownBlock ≠ some q := by
  have hb : ∀ q, (q = g ∨ vk.ownBlock = some q) → w1.heap[q]? = wr.heap[q]? := fun q hq => by
    have h1 := h.lt q hq
    exact hf.block q h1.2 (by omega) (by omega) (by omega) (h.fr q hq).2
  refine ⟨h.bt.keep (hb g (.inl rfl)), own_keep1 h.ow (fun q hq => hb q (.inr hq)), fun q hq => ⟨fun e => ?_, fun e => ?_⟩⟩
  · rcases hk q e with e | e
    · exact (h.fr q hq).1 e
    · have := h.lt q hq; omega
  · rcases hf.at' with e1 | ⟨p, e1, hp⟩
    · exact (h.fr q hq).2 (e1 ▸ e)
    · rw [e1] at e
      injection e with e
      have := h.lt q hq
      omega
theorem NuI.appended {q cap : Nat} (h : NuI B gs b1 b2 g r W0 wr n x l v k ns K Kj u uj vk DL DLj LL LLj MMj j a) (hj : j < k.length) (hgz : g = W0.heap.size) (hlt : gs < g ∧ b1 < g ∧ b2 < g)
    (hs : NS B gs b1 b2 r w1 u' (putT k[j] (pk k j ns).1).1 K' DL' LL' MM') (hf : FN gs b1 b2 wr w1 uj u') (hk : ∀ b, K' b → Kj b ∨ wr.heap.size ≤ b) (hp : DLj <+: DL') (hll : LL'.length + 1 ≤ LLj.length + Tr.cnt k[j])
    (o : Obj) (hown : w2.ownsRow (g + 1) 3 1 (.slice (some ⟨q, 0, none⟩) (j + 1) cap) (j + 1) (iv (ins (pk k j ns).2) ++ [.int .i64 ((putT k[j] (pk k j ns).1).2 : Nat)])) (hgr : (w1.alloc o).grownBy w2 vk.ownBlock) (hat : vk.ownBlock = some q ∨ q = w1.heap.size + 1) :
    NuJ B gs b1 b2 g r W0 w2 n x l v k ns K K' u u' (.slice (some ⟨q, 0, none⟩) (j + 1) cap) DL DL' LL LL' MM' j a := by
  obtain ⟨c1, c3, c4⟩ := h.called hlt hf hk
  have hs1 := hf.size
  have hs0 := h.fn.size
  have hsa : (w1.alloc o).heap.size = w1.heap.size + 1 := by simp
  have hs2 := hgr.size
  have hqv : ∀ p, vk.ownBlock = some p → g + 1 ≤ p ∧ p < w1.heap.size := fun p hp => World.ownsRow.lt c3 p hp
  have hblk : ∀ p, p < w1.heap.size → vk.ownBlock ≠ some p → w2.heap[p]? = w1.heap[p]? := fun p hp hne => (hgr.block p (by omega) (fun e => hne e.symm)).trans (blk_alloc_lt _ _ _ hp)
  have hvg : ∀ p, p < g + 1 → vk.ownBlock ≠ some p := fun p hp e => by have := hqv p e; omega
  have e3 := pk_succ hj ns
  have hq2 : g + 1 ≤ q ∧ (vk.ownBlock = some q ∨ w1.heap.size < q + 1) := by
    rcases hat with e | e
    · exact ⟨(hqv q e).1, .inl e⟩
    · have := c1.lt; exact ⟨by omega, .inr (by omega)⟩
  refine ⟨c1.keep (hblk g c1.lt (hvg g (by omega))), ?_, ?_, ?_, ?_, ?_, h.pre.trans hp, pre_at hp h.la, ?_⟩
  · rw [e3]
    refine hs.keep (by omega) (fun p hp hlt' => hblk p hlt' (fun e => ?_))
    have h1 := hqv p e
    rcases hp with rfl | rfl | rfl | hp | hp
    · omega
    · omega
    · omega
    · exact (c4 p (.inr e)).1 hp
    · exact (c4 p (.inr e)).2 hp
  · rw [e3]
    have e4 : iv (ins ((pk k j ns).2 ++ [(putT k[j] (pk k j ns).1).2])) = iv (ins (pk k j ns).2) ++ [.int .i64 ((putT k[j] (pk k j ns).1).2 : Nat)] := by simp [iv, ins]
    rw [e4]
    exact hown
  · refine (h.fn.trans hf).over ⟨hgr.os, hgr.tape, hgr.output, by omega, fun p hp => ?_⟩
    exact hblk p (by omega) (hvg p (by omega))
  · intro b hb
    rcases hk b hb with e | e
    · exact h.kn b e
    · exact .inr (by omega)
  · intro p hp
    have key : (p = g ∨ vk.ownBlock = some p) ∨ w1.heap.size ≤ p := by
      rcases hp with e | e
      · exact .inl (.inl e)
      · simp [Value.ownBlock] at e
        subst e
        rcases hq2.2 with e | e
        · exact .inl (.inr e)
        · exact .inr (by omega)
    rcases key with e | e
    · exact c4 p e
    · exact ⟨fun hb => by have := hs.dn.lt p (.inl hb); omega, fun hb => by have := hs.dn.lt p (.inr hb); omega⟩
  · have h1 := Tr.cntL_take_succ k j hj
    have h2 := h.ll
    omega
theorem NuJ.next {m nn : Nat} (h : NuJ B gs b1 b2 g r W0 wr n x l v k ns K Kj u uj vk DL DLj LL LLj MMj j a) (hj : j < k.length) (hlt : gs < g ∧ b1 < g ∧ b2 < g) (hm : m = (putT k[j] (pk k j ns).1).2) (hk1 : K1 b1 wr w3)
    (hn : ((LLj.map encL)[nn]? = some (encL (a, m)) ∧ Mn w3 b1 80 (LLj.map encL)) ∨ (encL (a, m) ∉ LLj.map encL ∧ nn = (LLj.map encL).length ∧ Mn w3 b1 80 (LLj.map encL ++ [encL (a, m)]))) :
    ∃ DL' LL', NuI B gs b1 b2 g r W0 w3 n x l v k ns K Kj u uj vk DL DL' LL LL' MMj (j + 1) (nn + 1) := by
  obtain ⟨DL', LL', e1, e2, e3, e4⟩ := h.s.list hk1 h.la hn
  have hbq : ∀ q, q < wr.heap.size → g ≤ q → w3.heap[q]? = wr.heap[q]? := fun q hq hg => hk1.block q hq (by omega)
  refine ⟨DL', LL', h.bt.keep (hbq _ h.bt.lt (Nat.le_refl _)), e1, own_keep1 h.ow (fun q hq => ?_), h.fn.trans (FN.map1 hk1), h.kn, h.fr, h.pre.trans e2, ?_, ?_⟩
  · have := World.ownsRow.lt h.ow q hq
    exact hbq q this.2 (by omega)
  · rw [e3, hm, pk_succ hj ns]
  · have := h.ll
    omega
end
/-- What number leaves. -/
def NuR (B gs b1 b2 : Nat) (r : Value) (t : Tr) (ns : List Nd) (K : Nat → Prop) (DL : List (List Nat)) (LL : List (Nat × Nat)) (u : Value) (w : World) (e : Ending) (w' : World) : Prop :=
  ∃ u' K' DL' LL' MM', e = .returned (.int .i64 ((putT t ns).2 : Nat)) ∧ NS B gs b1 b2 r w' u' (putT t ns).1 K' DL' LL' MM' ∧ FN gs b1 b2 w w' u u' ∧ (∀ b, K' b → K b ∨ w.heap.size ≤ b) ∧ DL <+: DL' ∧ LL'.length + 1 ≤ LL.length + t.cnt
end Go.Proofs.Ytkkcdkfmlamgcaa
