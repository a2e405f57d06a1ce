import Derived.Test.YtofobmdljelmgaaNw
/-! The program's Share: its loop's state. -/
namespace Go.Proofs.Ytofobmdljelmgaa
open Go.RowKit Go.Deep
set_option linter.unusedVariables false
set_option maxRecDepth 100000
set_option linter.unusedSimpArgs false

structure IsI (g gs b1 b2 : Nat) (W0 wr : World) (k : List Tr) (K : Nat → Prop) (u r : Value) (DL : List (List Nat)) (LL : List (Nat × Nat)) (MM : List (ByteArray × ByteArray × Bool × Nat)) (j : Nat) : Prop where
  br : Box wr g 27 [.slice none 0 0, .slice none 0 0]
  s : NS g gs b1 b2 r wr u (pk k j []).1 K DL LL MM
  rt : wr.ownsRow (g + 1) 3 1 r j (iv (ins (pk k j []).2))
  bel : Below g W0 wr
  fr : ∀ q, (q = g ∨ r.ownBlock = some q) → ¬ K q ∧ u.ownBlock ≠ some q ∧ q ≠ gs ∧ q ≠ b1 ∧ q ≠ b2
  ll : LL.length ≤ Tr.cntL (k.take j)
section
variable {g gs b1 b2 : Nat} {W0 wr w1 w2 : World} {k : List Tr} {K K' : Nat → Prop} {u r u' : Value} {DL DL' : List (List Nat)} {LL LL' : List (Nat × Nat)} {MM MM' : List (ByteArray × ByteArray × Bool × Nat)} {j : Nat}
theorem IsI.lt (h : IsI g gs b1 b2 W0 wr k K u r DL LL MM j) : ∀ q, (q = g ∨ r.ownBlock = some q) → g ≤ q ∧ q < wr.heap.size := fun q hq => by
  rcases hq with rfl | hq
  · exact ⟨Nat.le_refl _, h.br.lt⟩
  · have := World.ownsRow.lt h.rt q hq
    omega
theorem IsI.called (h : IsI g gs b1 b2 W0 wr k K u r DL LL MM j) (hf : FN gs b1 b2 wr w1 u u') (hk : ∀ b, K' b → K b ∨ wr.heap.size ≤ b) :
    Box w1 g 27 [.slice none 0 0, .slice none 0 0] ∧ w1.ownsRow (g + 1) 3 1 r j (iv (ins (pk k j []).2)) ∧ ∀ q, (q = g ∨ r.ownBlock = some q) → ¬ K' q ∧ u'.ownBlock ≠ some q := by
  have hb : ∀ q, (q = g ∨ r.ownBlock = some q) → w1.heap[q]? = wr.heap[q]? := fun q hq => by
    have h1 := h.lt q hq
    have h2 := h.fr q hq
    exact hf.block q h1.2 h2.2.2.1 h2.2.2.2.1 h2.2.2.2.2 h2.2.1
  refine ⟨h.br.keep (hb g (.inl rfl)), own_keep1 h.rt (fun q hq => hb q (.inr hq)), fun q hq => ⟨fun e => ?_, fun e => ?_⟩⟩
  · rcases hk q e with e | e
    · exact (h.fr q hq).1 e
    · have := h.lt q hq; omega
  · rcases hf.at' with e1 | ⟨p, e1, hp⟩
    · exact (h.fr q hq).2.1 (e1 ▸ e)
    · rw [e1] at e
      injection e with e
      have := h.lt q hq
      omega
theorem IsI.next {q cap : Nat} (h : IsI g gs b1 b2 W0 wr k K u r DL LL MM j) (hj : j < k.length)
    (hs : NS g gs b1 b2 r w1 u' (putT k[j] (pk k j []).1).1 K' DL' LL' MM') (hf : FN gs b1 b2 wr w1 u u') (hk : ∀ b, K' b → K b ∨ wr.heap.size ≤ b) (hll : LL'.length + 1 ≤ LL.length + Tr.cnt k[j])
    (o : Obj) (hown : w2.ownsRow (g + 1) 3 1 (.slice (some ⟨q, 0, none⟩) (j + 1) cap) (j + 1) (iv (ins (pk k j []).2) ++ [.int .i64 ((putT k[j] (pk k j []).1).2 : Nat)])) (hgr : (w1.alloc o).grownBy w2 r.ownBlock) (hat : r.ownBlock = some q ∨ q = w1.heap.size + 1) :
    Box w2 gs 73 [.map (some b1), .map (some b2), u', r] ∧ IsI g gs b1 b2 W0 (w2.setCell ⟨gs, 3, none⟩ (.slice (some ⟨q, 0, none⟩) (j + 1) cap)) k K' u' (.slice (some ⟨q, 0, none⟩) (j + 1) cap) DL' LL' MM' (j + 1) := by
  obtain ⟨c1, c3, c4⟩ := h.called hf hk
  have hs1 := hf.size
  have hsa : (w1.alloc o).heap.size = w1.heap.size + 1 := by simp
  have hs2 := hgr.size
  have hqv : ∀ p, r.ownBlock = some p → g + 1 ≤ p ∧ p < w1.heap.size := fun p hp => World.ownsRow.lt c3 p hp
  have hrg : ∀ p, (p = gs ∨ p = b1 ∨ p = b2) → r.ownBlock ≠ some p ∧ p ≠ g := fun p hp => by
    refine ⟨fun e => ?_, fun e => ?_⟩
    · have := h.fr p (.inr e)
      rcases hp with e | e | e
      · exact this.2.2.1 e
      · exact this.2.2.2.1 e
      · exact this.2.2.2.2 e
    · have := h.fr p (.inl e)
      rcases hp with e | e | e
      · exact this.2.2.1 e
      · exact this.2.2.2.1 e
      · exact this.2.2.2.2 e
  have hblk : ∀ p, p < w1.heap.size → r.ownBlock ≠ some p → w2.heap[p]? = w1.heap[p]? := fun p hp hne => (hgr.block p (by omega) (fun e => hne e.symm)).trans (blk_alloc_lt _ _ _ hp)
  have hvg : ∀ p, p < g + 1 → r.ownBlock ≠ some p := fun p hp e => by have := hqv p e; omega
  have e3 := pk_succ hj []
  have hset : ∀ p, p ≠ gs → (w2.setCell ⟨gs, 3, none⟩ (.slice (some ⟨q, 0, none⟩) (j + 1) cap)).heap[p]? = w2.heap[p]? := fun p hp => blk_setCell_other _ _ _ _ hp
  have hss : (w2.setCell ⟨gs, 3, none⟩ (.slice (some ⟨q, 0, none⟩) (j + 1) cap)).heap.size = w2.heap.size := by simp
  have hgl := hs.box.lt
  have hb1l := hs.m1.lt
  have hb2l := hs.m2.lt
  have hq2 : g + 1 ≤ q ∧ (r.ownBlock = some q ∨ w1.heap.size < q + 1) := by
    rcases hat with e | e
    · exact ⟨(hqv q e).1, .inl e⟩
    · have := c1.lt; exact ⟨by omega, .inr (by omega)⟩
  have hqn : ∀ p, (p = gs ∨ p = b1 ∨ p = b2) → q ≠ p := fun p hp e => by
    subst e
    rcases hq2.2 with e | e
    · exact (hrg q hp).1 e
    · rcases hp with e | e | e <;> omega
  have hbx2 := hs.box.keep (hblk _ hgl (hrg _ (.inl rfl)).1)
  have hm1 := (hs.m1.keep (hblk _ hb1l (hrg _ (.inr (.inl rfl))).1)).keep (hset _ (fun e => hs.d12.2.1 e.symm))
  have hm2 := (hs.m2.keep (hblk _ hb2l (hrg _ (.inr (.inr rfl))).1)).keep (hset _ (fun e => hs.d12.2.2 e.symm))
  have hdn := hs.dn.keep (w' := w2.setCell ⟨gs, 3, none⟩ (.slice (some ⟨q, 0, none⟩) (j + 1) cap)) (by omega) (fun b hb hlt => by
    rw [hset b (fun e => by
      subst e
      rcases hb with hb | hb
      · exact (hs.fr _ (.inl rfl)).2.1 hb
      · exact (hs.fr _ (.inl rfl)).2.2 hb)]
    exact hblk b hlt (fun e => by
      rcases hb with hb | hb
      · exact (c4 b (.inr e)).1 hb
      · exact (c4 b (.inr e)).2 hb))
  refine ⟨hbx2, (c1.keep (hblk g c1.lt (hvg g (by omega)))).past (fun e => (hrg gs (.inl rfl)).2 e.symm), ?_, ?_, ?_, ?_, ?_⟩
  · rw [e3]
    exact ⟨hbx2.set 3 _, hm1, hm2, hs.lok, hs.mok, hdn, hs.nod, hs.fr, hs.d12⟩
  · rw [e3]
    have e4 : iv (ins ((pk k j []).2 ++ [(putT k[j] (pk k j []).1).2])) = iv (ins (pk k j []).2) ++ [.int .i64 ((putT k[j] (pk k j []).1).2 : Nat)] := by simp [iv, ins]
    rw [e4]
    exact own_keep1 hown (fun p hp => hset p (by
      simp [Value.ownBlock] at hp
      subst hp
      exact hqn gs (.inl rfl)))
  · have hb1 : Below g wr w1 := h.s.below hf (by have := h.br.lt; omega)
    refine (h.bel.trans hb1).trans ⟨hgr.os, hgr.tape, hgr.output, by omega, fun p hp => ?_⟩
    rw [hset p (by have := (hs.fr gs (.inl rfl)).1; omega)]
    exact hblk p (by have := c1.lt; omega) (hvg p (by omega))
  · intro p hp
    rcases hp with e | e
    · have h1 := c4 p (.inl e)
      have h2 := h.fr p (.inl e)
      exact ⟨h1.1, h1.2, h2.2.2⟩
    · simp [Value.ownBlock] at e
      subst e
      refine ⟨?_, ?_, hqn _ (.inl rfl), hqn _ (.inr (.inl rfl)), hqn _ (.inr (.inr rfl))⟩
      · intro hb
        rcases hq2.2 with e | e
        · exact (c4 q (.inr e)).1 hb
        · have := hs.dn.lt q (.inl hb); omega
      · intro hb
        rcases hq2.2 with e | e
        · exact (c4 q (.inr e)).2 hb
        · have := hs.dn.lt q (.inr hb); omega
  · have h1 := Tr.cntL_take_succ k j hj
    have h2 := h.ll
    omega
end
end Go.Proofs.Ytofobmdljelmgaa
