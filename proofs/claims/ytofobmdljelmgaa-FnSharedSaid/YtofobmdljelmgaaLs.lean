import Derived.Test.YtofobmdljelmgaaLp
/-! The specification: l09Share, Share. -/
namespace Go.Proofs.Ytofobmdljelmgaa
open Go.RowKit Go.Deep
set_option linter.unusedVariables false
set_option maxRecDepth 100000
set_option linter.unusedSimpArgs false

/-- Nodes and roots, as they are answered: each row in blocks of its own. -/
def DgR (B : Nat) (w : World) (ns : List Nd) (rs : List Nat) (u r : Value) : Prop :=
  ∃ K, DN B w u ns K ∧ w.ownsRow B 3 1 r rs.length (iv (ins rs)) ∧ ∀ q, r.ownBlock = some q → ¬ K q ∧ u.ownBlock ≠ some q
theorem DgR.still {B : Nat} {w w' : World} {ns : List Nd} {rs : List Nat} {u r : Value} (h : DgR B w ns rs u r) (hb : Below w.heap.size w w') : DgR B w' ns rs u r := by
  obtain ⟨K, h1, h2, h3⟩ := h
  exact ⟨K, h1.still hb, own_keep1 h2 (fun q hq => hb.block q (World.ownsRow.lt h2 q hq).2), h3⟩
/-- What is left when trees are shared. -/
def ShA (k : List Tr) (w : World) (e : Ending) (w' : World) : Prop :=
  ∃ u r, e = .returned (.agg #[u, r]) ∧ Below w.heap.size w w' ∧ DgR w.heap.size w' (putTs k []).1 (putTs k []).2 u r
structure SsI (g : Nat) (W0 wr : World) (k : List Tr) (K : Nat → Prop) (u r : Value) (j : Nat) : Prop where
  br : Box wr g 27 [.slice none 0 0, .slice none 0 0]
  bd : Box wr (g + 1) 27 [u, r]
  dn : DN g wr u (pk k j []).1 K
  rt : wr.ownsRow (g + 2) 3 1 r j (iv (ins (pk k j []).2))
  bel : Below g W0 wr
  fr : ∀ q, (q = g ∨ q = g + 1 ∨ r.ownBlock = some q) → ¬ K q ∧ u.ownBlock ≠ some q
section
variable {g : Nat} {W0 wr w1 w2 : World} {k : List Tr} {K K' : Nat → Prop} {u r u' : Value} {j : Nat}
theorem SsI.lt (h : SsI g W0 wr k K u r j) : ∀ q, (q = g ∨ q = g + 1 ∨ r.ownBlock = some q) → q < wr.heap.size := fun q hq => by
  rcases hq with rfl | rfl | hq
  · exact h.br.lt
  · exact h.bd.lt
  · exact (World.ownsRow.lt h.rt q hq).2
theorem SsI.called (h : SsI g W0 wr k K u r j) (hg : GW wr w1 u u') (hk : ∀ b, K' b → K b ∨ wr.heap.size ≤ b) :
    Box w1 g 27 [.slice none 0 0, .slice none 0 0] ∧ Box w1 (g + 1) 27 [u, r] ∧ w1.ownsRow (g + 2) 3 1 r j (iv (ins (pk k j []).2)) ∧ ∀ q, (q = g ∨ q = g + 1 ∨ r.ownBlock = some q) → ¬ K' q ∧ u'.ownBlock ≠ some q := by
  have hb : ∀ q, (q = g ∨ q = g + 1 ∨ r.ownBlock = some q) → w1.heap[q]? = wr.heap[q]? := fun q hq => hg.g.block q (h.lt q hq) (fun e => (h.fr q hq).2 e.symm)
  refine ⟨h.br.keep (hb g (.inl rfl)), h.bd.keep (hb _ (.inr (.inl rfl))), own_keep1 h.rt (fun q hq => hb q (.inr (.inr hq))), fun q hq => ⟨fun e => ?_, fun e => ?_⟩⟩
  · rcases hk q e with e | e
    · exact (h.fr q hq).1 e
    · have := h.lt q hq; omega
  · rcases hg.at' with e1 | ⟨p, e1, hp⟩
    · exact (h.fr q hq).2 (e1 ▸ e)
    · rw [e1] at e
      injection e with e
      have := h.lt q hq
      omega
/-- The nodes are there, and are stored; the root is appended, and stored. -/
theorem SsI.next {q cap : Nat} (h : SsI g W0 wr k K u r j) (hj : j < k.length) (hd : DN g w1 u' (putT k[j] (pk k j []).1).1 K') (hg : GW wr w1 u u') (hk : ∀ b, K' b → K b ∨ wr.heap.size ≤ b)
    (o : Obj) (hown : w2.ownsRow (g + 2) 3 1 (.slice (some ⟨q, 0, none⟩) (j + 1) cap) (j + 1) (iv (ins (pk k j []).2) ++ [.int .i64 ((putT k[j] (pk k j []).1).2 : Nat)])) (hgr : ((w1.setCell ⟨g + 1, 0, none⟩ u').alloc o).grownBy w2 r.ownBlock) (hat : r.ownBlock = some q ∨ q = w1.heap.size + 1) :
    SsI g W0 (w2.setCell ⟨g + 1, 1, none⟩ (.slice (some ⟨q, 0, none⟩) (j + 1) cap)) k K' u' (.slice (some ⟨q, 0, none⟩) (j + 1) cap) (j + 1) := by
  obtain ⟨c1, c2, c3, c4⟩ := h.called hg hk
  have hs1 := hg.g.size
  have hsa : ((w1.setCell ⟨g + 1, 0, none⟩ u').alloc o).heap.size = w1.heap.size + 1 := by simp
  have hs2 := hgr.size
  have hg1 := c2.lt
  have hqv : ∀ p, r.ownBlock = some p → g + 2 ≤ p ∧ p < w1.heap.size := fun p hp => World.ownsRow.lt c3 p hp
  have hblk : ∀ p, p < w1.heap.size → r.ownBlock ≠ some p → p ≠ g + 1 → w2.heap[p]? = w1.heap[p]? := fun p hp hne hn => (hgr.block p (by omega) (fun e => hne e.symm)).trans ((blk_alloc_lt _ _ _ (by simpa using hp)).trans (blk_setCell_other _ _ _ _ hn))
  have hvg : ∀ p, p < g + 2 → r.ownBlock ≠ some p := fun p hp e => by have := hqv p e; omega
  have e3 := pk_succ hj []
  have hset : ∀ p, p ≠ g + 1 → (w2.setCell ⟨g + 1, 1, none⟩ (.slice (some ⟨q, 0, none⟩) (j + 1) cap)).heap[p]? = w2.heap[p]? := fun p hp => blk_setCell_other _ _ _ _ hp
  have hss : (w2.setCell ⟨g + 1, 1, none⟩ (.slice (some ⟨q, 0, none⟩) (j + 1) cap)).heap.size = w2.heap.size := by simp
  have hq2 : g + 2 ≤ q ∧ (r.ownBlock = some q ∨ w1.heap.size < q + 1) := by
    rcases hat with e | e
    · exact ⟨(hqv q e).1, .inl e⟩
    · exact ⟨by omega, .inr (by omega)⟩
  refine ⟨(c1.keep (hblk g c1.lt (hvg g (by omega)) (by omega))).past (by omega), ?_, ?_, ?_, ?_, ?_⟩
  · have h1 := (c2.set 0 u').still (bel_alloc _ o)
    exact (h1.keep (hgr.block _ (by omega) (fun e => hvg (g + 1) (by omega) e.symm))).set 1 _
  · rw [e3]
    refine hd.keep (by omega) (fun b hb hlt => ?_)
    have hne : ∀ p, (p = g ∨ p = g + 1 ∨ r.ownBlock = some p) → p ≠ b := fun p hp e => by
      subst e
      rcases hb with hb | hb
      · exact (c4 p hp).1 hb
      · exact (c4 p hp).2 hb
    rw [hset b (fun e => hne (g + 1) (.inr (.inl rfl)) e.symm)]
    exact hblk b hlt (fun e => hne b (.inr (.inr e)) rfl) (fun e => hne (g + 1) (.inr (.inl rfl)) e.symm)
  · rw [e3]
    have e4 : iv (ins ((pk k j []).2 ++ [(putT k[j] (pk k j []).1).2])) = iv (ins (pk k j []).2) ++ [.int .i64 ((putT k[j] (pk k j []).1).2 : Nat)] := by simp [iv, ins]
    rw [e4]
    exact own_keep1 hown (fun p hp => hset p (by simp [Value.ownBlock] at hp; omega))
  · have hb1 : Below g wr w1 := hg.below (by have := h.br.lt; omega) (fun p hp => (h.dn.lt p (.inr hp)).1)
    refine (h.bel.trans hb1).trans ⟨hgr.os, hgr.tape, hgr.output, by omega, fun p hp => ?_⟩
    rw [hset p (by omega)]
    exact hblk p (by omega) (hvg p (by omega)) (by omega)
  · intro p hp
    have key : (p = g ∨ p = g + 1 ∨ r.ownBlock = some p) ∨ w1.heap.size ≤ p := by
      rcases hp with e | e | e
      · exact .inl (.inl e)
      · exact .inl (.inr (.inl e))
      · simp [Value.ownBlock] at e
        subst e
        rcases hq2.2 with e | e
        · exact .inl (.inr (.inr e))
        · exact .inr (by omega)
    rcases key with e | e
    · exact c4 p e
    · exact ⟨fun hb => by have := hd.lt p (.inl hb); omega, fun hb => by have := hd.lt p (.inr hb); omega⟩
end
theorem own_mono {w : World} {B B' e z : Nat} {v : Value} {n : Nat} {xs : List Value} (h : w.ownsRow B e z v n xs) (hb : B' ≤ B) : w.ownsRow B' e z v n xs :=
  ⟨h.1, h.2.imp id (fun ⟨g, cap, cur, r1, r2, r3⟩ => ⟨g, cap, cur, r1, Nat.le_trans hb r2, r3⟩)⟩
theorem pk_putTs (k : List Tr) (ns : List Nd) : pk k k.length ns = putTs k ns := pk_all k ns
theorem Trs.low {w w' : World} {S : Nat → Prop} {B : Nat} {k : List Tr} {v : Value} (h : Trs w S k v) (hS : ∀ q, S q → q < B) (hb : Below B w w') : Trs w' S k v := by
  obtain ⟨a, cap, b, off, sv, hv, hc, hm, ha, hcell, hr⟩ := h
  refine ⟨a, cap, b, off, sv, hv, hc, hm, ha, fun i hi => ?_, fun i hi => (hr i hi).low hS hb⟩
  obtain ⟨c0, c1, c2, c3⟩ := hcell i hi
  have hbB := hS b (ha (by omega)).2
  exact ⟨(hb.cell (by exact hbB)).trans c0, (hb.cell (by exact hbB)).trans c1, (hb.cell (by exact hbB)).trans c2, (hb.cell (by exact hbB)).trans c3⟩
set_option maxHeartbeats 6400000 in
theorem share33 {S : Nat → Prop} (k : List Tr) (v : Value) (w : World) (hS : ∀ q, S q → q < w.heap.size) (h : Trs w S k v) (hlen : Tr.cntL k ≤ 900000) :
    Calls Try.prog 25 #[v] w (ShA k w) := by
  obtain ⟨a, cap, b, off, sv, rfl, hc, hm, ha, hcell, hr⟩ := h
  have HC := (show Hid _ from hcell); clear hcell
  have HA := (show Hid _ from ha); clear ha
  have HR := (show Hid _ from hr); clear hr
  have HS := (show Hid _ from hS); clear hS
  have HLEN := (show Hid _ from hlen); clear hlen
  unfold maxLen at hm
  have hkl : k.length ≤ 900000 := by have := len_le_cntL k; have := HLEN.out; omega
  have HI0 := (show Hid (SsI w.heap.size w ((w.alloc (.cells #[.slice none 0 0, .slice none 0 0] 27)).alloc (.cells #[.slice none 0 0, .slice none 0 0] 27)) k (fun _ => False) (.slice none 0 0) (.slice none 0 0) 0) from (by
    have hbb : Below w.heap.size w ((w.alloc (.cells #[.slice none 0 0, .slice none 0 0] 27)).alloc (.cells #[.slice none 0 0, .slice none 0 0] 27)) := (bel_alloc _ _).alloc (by simp) _
    refine ⟨(Box.new w 27 [.slice none 0 0, .slice none 0 0]).still (bel_alloc _ _), ?_, ?_, ?_, hbb, fun q hq => ⟨fun e => e.elim, fun e => by cases e⟩⟩
    · have := Box.new (w.alloc (.cells #[.slice none 0 0, .slice none 0 0] 27)) 27 [.slice none 0 0, .slice none 0 0]
      simpa using this
    · rw [pk_zero]; exact DN.nil _ _
    · rw [pk_zero]; exact own_nil _ _ _ _))
  obtain ⟨i3, hi3, hz0, hz1, hz2⟩ := info_parts info3i
  go_enter Try.func25, Try.ntmps25
  go_wp2_with fail
  go_loopw [4] (fun i wr => ∃ (j : Nat) (u r : Value) (K : Nat → Prop), i = .int .i64 j ∧ j ≤ k.length ∧ Hid (SsI w.heap.size w wr k K u r j)) (fun i _ => k.length - (intOf i).toNat)
  case atStart => exact ⟨0, _, _, _, rfl, Nat.zero_le _, HI0.out⟩
  case round =>
    obtain ⟨j, u, r, K, rfl, hj, HJ⟩ := hrel
    by_cases hlt : j < k.length
    · obtain ⟨rfl, hSb⟩ := HA.out (by omega)
      obtain ⟨c0, c1, c2, c3⟩ := HC.out j hlt
      have hl := HR.out j hlt
      obtain ⟨mm, hmm⟩ : ∃ mm, (putT k[j] (pk k j []).1).2 = mm := ⟨_, rfl⟩
      have HIH : Hid (∀ wq, Below wr.heap.size wr wq → Calls Try.prog 55 #[u, k[j].val (sv j)] wq fun e w' => ∃ u' K', e = .returned (.tuple #[u', .int .i64 (mm : Nat)]) ∧ DN w.heap.size w' u' (putT k[j] (pk k j []).1).1 K' ∧ GW wq w' u u' ∧ (∀ b, K' b → K b ∨ wq.heap.size ≤ b)) := fun wq hb => by
        have h1 := pk_len k j []
        have h2 := Tr.cntL_take_succ k j hlt
        have h3 := Tr.cntL_take_le k (j + 1)
        have h4 := HLEN.out
        have hbq := HJ.out.bel.trans (hb.mono HJ.out.bel.size)
        have := put57 HS.out k[j] (sv j) u (pk k j []).1 K wq (hl.low HS.out hbq) (HJ.out.dn.still hb) hbq.size (by simp at h1; omega)
        unfold PutR at this
        rw [hmm] at this
        refine Calls.mono this ?_
        rintro e w' ⟨u', K', e1, e2, e3, e4, _⟩
        exact ⟨u', K', e1, e2, e3, e4⟩
      have HC6 := (show Hid (∀ wq, Below w.heap.size wr wq → Box wq (w.heap.size + 1) 27 [u, r] → wq.cell? ⟨w.heap.size + 1, 0, none⟩ = some u ∧ wq.cell? ⟨b, off + j * 4, none⟩ = some (.string k[j].name) ∧ wq.cell? ⟨b, off + j * 4 + 1, none⟩ = some (.string k[j].text) ∧ wq.cell? ⟨b, off + j * 4 + 2, none⟩ = some (.bool k[j].leaf) ∧ wq.cell? ⟨b, off + j * 4 + 3, none⟩ = some (sv j)) from fun wq hb hbx => by
        have hbB := HS.out b hSb
        have hbq := HJ.out.bel.trans hb
        exact ⟨hbx.cell 0 (by simp), (hbq.cell (by exact hbB)).trans c0, (hbq.cell (by exact hbB)).trans c1, (hbq.cell (by exact hbB)).trans c2, (hbq.cell (by exact hbB)).trans c3⟩)
      have HNX : Hid (∀ (wq w1 w2 : World) (u' : Value) (K' : Nat → Prop) (q cq : Nat) (o : Obj), Below wr.heap.size wr wq → DN w.heap.size w1 u' (putT k[j] (pk k j []).1).1 K' → GW wq w1 u u' → (∀ b, K' b → K b ∨ wq.heap.size ≤ b) → w2.ownsRow (w.heap.size + 2) 3 1 (.slice (some ⟨q, 0, none⟩) (j + 1) cq) (j + 1) (iv (ins (pk k j []).2) ++ [.int .i64 (mm : Nat)]) → ((w1.setCell ⟨w.heap.size + 1, 0, none⟩ u').alloc o).grownBy w2 r.ownBlock → (r.ownBlock = some q ∨ q = w1.heap.size + 1) → SsI w.heap.size w (w2.setCell ⟨w.heap.size + 1, 1, none⟩ (.slice (some ⟨q, 0, none⟩) (j + 1) cq)) k K' u' (.slice (some ⟨q, 0, none⟩) (j + 1) cq) (j + 1)) := fun wq w1 w2 u' K' q cq o hb e1 e2 e3 e4 e5 e6 => HJ.out.next hlt e1 ((GW.of_below hb).trans e2) (fun b hb' => by
          have hs := hb.size
          rcases e3 b hb' with e | e
          · exact .inl e
          · exact .inr (by omega)) o (by rw [hmm]; exact e4) e5 e6
      obtain ⟨a3, l3, p3, e3⟩ := hl.form
      rw [e3] at HIH HC6
      simp only [Tr.val] at HIH
      clear e3 hl hmm c0 c1 c2 c3
      generalize k[j].name = knm at *
      generalize k[j].text = ktx at *
      generalize k[j].leaf = klf at *
      have q1 : (0 : Int) ≤ (j : Int) := by omega
      have q2 : (j : Int) < (k.length : Int) := by omega
      go_wp2_with fail
      go_cut [5, 6] from 14 to 23 (fun v5 v6 w1 => ∃ (wq : World) (K' : Nat → Prop), v6 = .int .i64 (mm : Nat) ∧ Hid (Below wr.heap.size wr wq ∧ DN w.heap.size w1 v5 (putT k[j] (pk k j []).1).1 K' ∧ GW wq w1 u v5 ∧ ∀ b, K' b → K b ∨ wq.heap.size ≤ b))
      case first =>
        have hbd := (Below.refl wr.heap.size wr).drew
        have hS0 := HC6.out _ (hbd.mono (by have := HJ.out.br.lt; omega)) (HJ.out.bd.still hbd)
        have HS1 : Hid (∀ (w3 : World) (u3 : Value) (K3 : Nat → Prop), GW wr.drew w3 u u3 → (∀ b, K3 b → K b ∨ wr.drew.heap.size ≤ b) → w3.cell? ⟨w.heap.size + 1, 0, none⟩ = some u ∧ w3.cell? ⟨b, off + j * 4, none⟩ = some (.string knm) ∧ w3.cell? ⟨b, off + j * 4 + 1, none⟩ = some (.string ktx) ∧ w3.cell? ⟨b, off + j * 4 + 2, none⟩ = some (.bool klf) ∧ w3.cell? ⟨b, off + j * 4 + 3, none⟩ = some (.slice a3 l3 p3)) := fun w3 u3 K3 hg3 hk3 => by
          have hz : w.heap.size ≤ wr.heap.size := by have := HJ.out.br.lt; omega
          have hg4 := (GW.of_below hbd).trans hg3
          exact HC6.out w3 (hg4.below hz (fun p hp => (HJ.out.dn.lt p (.inr hp)).1)) (HJ.out.called (K' := K3) hg4 hk3).2.1
        have HI2 := (show Hid _ from HIH.out _ hbd)
        go_region_held3 (fun wq => wq.cell? ⟨w.heap.size + 1, 0, none⟩ = some u ∧ wq.cell? ⟨b, off + j * 4, none⟩ = some (.string knm) ∧ wq.cell? ⟨b, off + j * 4 + 1, none⟩ = some (.string ktx) ∧ wq.cell? ⟨b, off + j * 4 + 2, none⟩ = some (.bool klf) ∧ wq.cell? ⟨b, off + j * 4 + 3, none⟩ = some (.slice a3 l3 p3)) (first | with_reducible exact hS0 | with_reducible exact hS1) ((go_at_call 55; refine Calls.mono HI2.out ?_; rintro e w3 ⟨u3, K3, rfl, hd3, hg3, hk3⟩; have hS1 := HS1.out w3 u3 K3 hg3 hk3))
        all_goals go_wp2_with fail
        all_goals go_meet
        all_goals exact ⟨wr.drew, K3, rfl, hbd, hd3, hg3, hk3⟩
      case rest =>
        obtain ⟨wq, K', rfl, HX⟩ := hcut
        have hs := HX.out.1.size
        obtain ⟨ua5, up5, rfl, _⟩ := DN.form HX.out.2.1
        generalize hN5 : (putT k[j] (pk k j []).1).1.length = N5 at *
        obtain ⟨q1, q2, q3, q4⟩ := HJ.out.called (K' := K') ((GW.of_below HX.out.1).trans HX.out.2.2.1) (fun b hb => by
          rcases HX.out.2.2.2 b hb with e | e
          · exact .inl e
          · exact .inr (by omega))
        have D0 : wc.cell? ⟨w.heap.size + 1, 0, none⟩ = some u := q2.cell 0 (by simp)
        have D2 : wc.cell? ⟨w.heap.size + 1, 1, none⟩ = some r := q2.cell 1 (by simp)
        have F0 := q2.frozen 0
        have hset := q2.set 0 (.slice ua5 N5 up5)
        have D1 : (wc.setCell ⟨w.heap.size + 1, 0, none⟩ (.slice ua5 N5 up5)).cell? ⟨w.heap.size + 1, 1, none⟩ = some r := hset.cell 1 (by simp)
        have hba := bel_alloc (wc.setCell ⟨w.heap.size + 1, 0, none⟩ (.slice ua5 N5 up5)) (.cells #[.int .i64 (mm : Nat)] 3)
        have hq3 : (wc.setCell ⟨w.heap.size + 1, 0, none⟩ (.slice ua5 N5 up5)).ownsRow (w.heap.size + 2) 3 1 r j (iv (ins (pk k j []).2)) := own_keep1 q3 (fun q hq => blk_setCell_other _ _ _ _ (by have := World.ownsRow.lt q3 q hq; show q ≠ w.heap.size + 1; omega))
        have HO1 := (show Hid _ from own_keep1 hq3 (fun q hq => hba.block q (World.ownsRow.lt hq3 q hq).2))
        have HZ1 := (show Hid (w.heap.size + 2 ≤ wc.heap.size) from (by have := q2.lt; show _ ≤ _; omega))
        have HFZ := (show Hid (∀ w2 : World, ((wc.setCell ⟨w.heap.size + 1, 0, none⟩ (.slice ua5 N5 up5)).alloc (.cells #[.int .i64 (mm : Nat)] 3)).grownBy w2 r.ownBlock → w2.frozen? ⟨w.heap.size + 1, 1, none⟩ = false ∧ w2.cell? ⟨w.heap.size + 1, 1, none⟩ = some r) from fun w2 hgr => by
          have hbx := (hset.still hba).keep (hgr.block _ (by have := q2.lt; simp; omega) (fun e => by have := World.ownsRow.lt q3 _ e.symm; omega))
          exact ⟨hbx.frozen 1, hbx.cell 1 (by simp)⟩)
        clear q1 q2 q3 q4 hba hset hq3 HIH HC6 hs
        go_wp2_with (at_builtin; (refine wpList_append_lies _ rfl (.tmp 27) (.tmp 29) 25 rfl (w.heap.size + 2) 3 i3 _ 1 8 Try.underlying25 hi3 hz0 hz1 hz2 rfl (by decide) _ j _ rfl HO1.out _ 1 1 [.int .i64 (mm : Nat)] rfl rfl ?c1 ?c2 (by decide) ?c3 ?c5 ?c4 _ rfl ?nx))
        case c1 =>
          have := World.news_of_block (cs := #[.int .i64 (mm : Nat)]) (blk_alloc_new (wc.setCell ⟨w.heap.size + 1, 0, none⟩ (.slice ua5 N5 up5)) (.cells #[.int .i64 (mm : Nat)] 3))
          simpa using this
        case c2 => intro u hu; simp at hu; subst hu; rfl
        case c3 => unfold maxLen; omega
        case c5 => omega
        case c4 => have := HZ1.out; simp; omega
        case nx =>
          intro g7 cap7 w7 hown7 hgr7 hat7 hlt7
          obtain ⟨f7, n7⟩ := HFZ.out w7 hgr7
          have HF := (show Hid _ from HNX.out wq wc w7 (.slice ua5 N5 up5) K' g7 cap7 _ HX.out.1 HX.out.2.1 HX.out.2.2.1 HX.out.2.2.2 hown7 hgr7 (by simpa using hat7))
          clear hown7 hgr7 hat7 hlt7 HFZ HNX HX HO1
          go_wp2_with fail
          exact ⟨⟨j + 1, _, _, _, by go_num, by omega, HF⟩, by simp [intOf]; omega⟩
    · obtain rfl : j = k.length := by omega
      obtain ⟨b1, b2, b3, b4, b5, b6⟩ := HJ.out
      rw [pk_putTs] at b3 b4
      have T0 : wr.cell? ⟨w.heap.size + 1, 0, none⟩ = some u := b2.cell 0 (by simp)
      have T1 : wr.cell? ⟨w.heap.size + 1, 1, none⟩ = some r := b2.cell 1 (by simp)
      have R0 : wr.cell? ⟨w.heap.size, 0, none⟩ = some (.slice none 0 0) := b1.cell 0 (by simp)
      have R1 : wr.cell? ⟨w.heap.size, 1, none⟩ = some (.slice none 0 0) := b1.cell 1 (by simp)
      have F0 := b1.frozen 0
      have F1 := b1.frozen 1
      obtain ⟨ua, up, rfl, _⟩ := b3.form
      obtain ⟨ra, rp, rfl, _⟩ := own_ne b4
      have hk2 : (putTs k []).2.length = k.length := by
        rw [← pk_putTs]
        exact pk_num k _ (Nat.le_refl _) []
      have HB0 := (show Hid _ from b1)
      have HE := (show Hid (∀ x y, Below w.heap.size w ((wr.setCell ⟨w.heap.size, 0, none⟩ x).setCell ⟨w.heap.size, 1, none⟩ y) ∧ DgR w.heap.size ((wr.setCell ⟨w.heap.size, 0, none⟩ x).setCell ⟨w.heap.size, 1, none⟩ y) (putTs k []).1 (putTs k []).2 (.slice ua (putTs k []).1.length up) (.slice ra k.length rp)) from fun x y => by
        have hblk : ∀ p, p ≠ w.heap.size → ((wr.setCell ⟨w.heap.size, 0, none⟩ x).setCell ⟨w.heap.size, 1, none⟩ y).heap[p]? = wr.heap[p]? := fun p hp => (blk_setCell_other _ _ _ _ hp).trans (blk_setCell_other _ _ _ _ hp)
        refine ⟨(b5.setCell (p := ⟨w.heap.size, 0, none⟩) (Nat.le_refl _) _).setCell (p := ⟨w.heap.size, 1, none⟩) (Nat.le_refl _) _, K, b3.keep (by simp) (fun q hq _ => hblk q (fun e => ?_)), ?_, fun q hq => b6 q (.inr (.inr hq))⟩
        · subst e
          rcases hq with hq | hq
          · exact (b6 _ (.inl rfl)).1 hq
          · exact (b6 _ (.inl rfl)).2 hq
        · rw [hk2]
          have h4 := own_mono b4 (show w.heap.size ≤ w.heap.size + 2 by omega)
          exact own_keep1 h4 (fun q hq => hblk q (by have := World.ownsRow.lt b4 q hq; omega)))
      have HB := (show Hid _ from (⟨b3, b4, b5, b6⟩ : _ ∧ _ ∧ _ ∧ _)); clear b1 b2 b3 b4 b5 b6
      generalize hN : (putTs k []).1.length = N at *
      go_wp2_with fail
      have hX := (Box.mk HB0.out.ex).set 0 (.slice ua N up)
      have hY := hX.set 1 (.slice ra k.length rp)
      have o0 : ((wr.setCell ⟨w.heap.size, 0, none⟩ (.slice ua N up)).setCell ⟨w.heap.size, 1, none⟩ (.slice ra k.length rp)).cell? ⟨w.heap.size, 0, none⟩ = some (.slice ua N up) := hY.cell 0 (by simp)
      have o1 : ((wr.setCell ⟨w.heap.size, 0, none⟩ (.slice ua N up)).setCell ⟨w.heap.size, 1, none⟩ (.slice ra k.length rp)).cell? ⟨w.heap.size, 1, none⟩ = some (.slice ra k.length rp) := hY.cell 1 (by simp)
      refine bodyPost_ret (v := .agg #[.slice ua N up, .slice ra k.length rp]) (by simp [results, Try.results25, go_sem, o0, o1, R0, R1]) rfl ?_
      exact ⟨_, _, rfl, HE.out _ _⟩
theorem DgR.mono {B B' : Nat} {w : World} {ns : List Nd} {rs : List Nat} {u r : Value} (h : DgR B w ns rs u r) (hb : B' ≤ B) : DgR B' w ns rs u r := by
  obtain ⟨K, ⟨kv, kb, h1⟩, h2, h3⟩ := h
  exact ⟨K, ⟨kv, kb, own_mono h1.row hb, h1.kid, h1.ink, h1.inj, fun b hk => ⟨Nat.le_trans hb (h1.lo b hk).1, (h1.lo b hk).2⟩, h1.ne⟩, own_mono h2 hb, h3⟩
theorem DgR.nil (B : Nat) (w : World) : DgR B w [] [] (.slice none 0 0) (.slice none 0 0) := ⟨_, DN.nil _ _, own_nil _ _ _ _, fun q hq => by cases hq⟩
theorem tks_len {k : List Tr} (h : tksB k = true) : Tr.cntL k ≤ 20000 := by
  unfold tksB at h
  rw [Bool.and_eq_true, decide_eq_true_eq, List.all_eq_true] at h
  have key : ∀ l : List Tr, (∀ x ∈ l, x.ok = true) → Tr.cntL l ≤ 1000 * l.length := by
    intro l
    induction l with
    | nil => intro _; simp [Tr.cntL]
    | cons t r ih =>
      intro hl
      have h1 := ih (fun x hx => hl x (by simp [hx]))
      have h2 := hl t (by simp)
      unfold Tr.ok at h2
      simp only [Bool.and_eq_true, decide_eq_true_eq] at h2
      simp only [Tr.cntL, List.map_cons, List.sum_cons, List.length_cons] at h1 ⊢
      omega
  have := key k h.2
  omega
/-- What Share answers. -/
def shN (k : List Tr) : List Nd × List Nat := if tksB k then putTs k [] else ([], [])
def shC (k : List Tr) : Int := if tksB k then 0 else 1
def ShT (k : List Tr) (w : World) (e : Ending) (w' : World) : Prop :=
  ∃ u r, e = .returned (.tuple #[.agg #[u, r], .int .i64 (shC k)]) ∧ Below w.heap.size w w' ∧ DgR w.heap.size w' (shN k).1 (shN k).2 u r
theorem DgR.forms {B : Nat} {w : World} {ns : List Nd} {rs : List Nat} {u r : Value} (h : DgR B w ns rs u r) : ∃ a1 c1 a2 c2, u = .slice a1 ns.length c1 ∧ r = .slice a2 rs.length c2 ∧ ns.length ≤ maxLen ∧ rs.length ≤ maxLen := by
  obtain ⟨K, h1, h2, h3⟩ := h
  obtain ⟨a1, c1, e1, e2, e3⟩ := h1.form
  rcases h2.2 with ⟨e4, e5⟩ | ⟨g, cp, cur, r1, r2, r3, r4, r5, r6⟩
  · exact ⟨a1, c1, none, 0, e1, by rw [e4, e5], by omega, by rw [e5]; exact Nat.zero_le _⟩
  · exact ⟨a1, c1, _, _, e1, r1, by omega, by omega⟩
set_option maxHeartbeats 1600000 in
theorem sShare {S : Nat → Prop} (k : List Tr) (v : Value) (w : World) (hS : ∀ q, S q → q < w.heap.size) (h : Trs w S k v) :
    Calls Try.prog 7 #[v] w (ShT k w) := by
  have hb0 := bel_alloc w (.cells #[.slice none 0 0, .slice none 0 0] 27)
  have hB0 := Box.new w 27 [.slice none 0 0, .slice none 0 0]
  have HB0 := (show Hid (Below w.heap.size w (w.alloc (.cells #[.slice none 0 0, .slice none 0 0] 27)) ∧ Box (w.alloc (.cells #[.slice none 0 0, .slice none 0 0] 27)) w.heap.size 27 [.slice none 0 0, .slice none 0 0]) from ⟨hb0, hB0⟩)
  have HT : Hid (Calls Try.prog 24 #[v] (w.alloc (.cells #[.slice none 0 0, .slice none 0 0] 27)) fun e w' => e = .returned (.bool (tksB k)) ∧ Below (w.alloc (.cells #[.slice none 0 0, .slice none 0 0] 27)).heap.size (w.alloc (.cells #[.slice none 0 0, .slice none 0 0] 27)) w') := treesOK32 k v _ (h.still hb0)
  have HSH := (show Hid (∀ wq, Below (w.alloc (.cells #[.slice none 0 0, .slice none 0 0] 27)).heap.size (w.alloc (.cells #[.slice none 0 0, .slice none 0 0] 27)) wq → tksB k = true → Calls Try.prog 25 #[v] wq (ShA k wq)) from fun wq hb ht => by
    have h2 := bel_trans hb0 hb
    exact share33 k v wq (fun q hq => Nat.lt_of_lt_of_le (hS q hq) h2.size) (h.still h2) (by have := tks_len ht; omega))
  obtain ⟨a, cap, rfl, hm⟩ := h.form
  clear h hS hb0 hB0
  have HRS := (show Hid (∀ wq, Box wq w.heap.size 27 [.slice none 0 0, .slice none 0 0] → ∀ x y, ((wq.setCell ⟨w.heap.size, 0, none⟩ x).setCell ⟨w.heap.size, 1, none⟩ y).cell? ⟨w.heap.size, 0, none⟩ = some x ∧ ((wq.setCell ⟨w.heap.size, 0, none⟩ x).setCell ⟨w.heap.size, 1, none⟩ y).cell? ⟨w.heap.size, 1, none⟩ = some y) from fun wq hb x y => by
    have hY := (hb.set 0 x).set 1 y
    exact ⟨hY.cell 0 (by simp), hY.cell 1 (by simp)⟩)
  cases ht : tksB k with
  | false =>
    rw [ht] at HT
    have HF := (show Hid (shC k = 1 ∧ shN k = ([], [])) from (by unfold shC shN; rw [ht]; exact ⟨rfl, rfl⟩))
    clear HSH ht
    go_enter Try.func7, Try.ntmps7
    go_wp2_with fail
    refine Calls.mono HT.out ?_
    rintro e w1 ⟨rfl, hb1⟩
    have hbx := HB0.out.2.still hb1
    have R0 : w1.cell? ⟨w.heap.size, 0, none⟩ = some (.slice none 0 0) := hbx.cell 0 (by simp)
    have R1 : w1.cell? ⟨w.heap.size, 1, none⟩ = some (.slice none 0 0) := hbx.cell 1 (by simp)
    have F0 := hbx.frozen 0
    have F1 := hbx.frozen 1
    obtain ⟨o0, o1⟩ := HRS.out w1 hbx (.slice none 0 0) (.slice none 0 0)
    have HE := (show Hid _ from ((bel_trans HB0.out.1 hb1).setCell (p := ⟨w.heap.size, 0, none⟩) (Nat.le_refl _) (.slice none 0 0)).setCell (p := ⟨w.heap.size, 1, none⟩) (Nat.le_refl _) (.slice none 0 0))
    clear hbx hb1 HT
    go_wp2_with fail
    refine bodyPost_ret (v := .tuple #[.agg #[.slice none 0 0, .slice none 0 0], .int .i64 1]) (by simp [results, Try.results7, go_sem, o0, o1]) rfl ?_
    exact ⟨.slice none 0 0, .slice none 0 0, by rw [HF.out.1], HE.out, by rw [HF.out.2]; exact DgR.nil _ _⟩
  | true =>
    rw [ht] at HT
    have HF := (show Hid (shC k = 0 ∧ shN k = putTs k []) from (by unfold shC shN; rw [ht]; exact ⟨rfl, rfl⟩))
    have HSH := (show Hid _ from fun wq hb => HSH.out wq hb ht)
    clear ht
    go_enter Try.func7, Try.ntmps7
    go_wp2_with fail
    refine Calls.mono HT.out ?_
    rintro e w1 ⟨rfl, hb1⟩
    have HC2 := (show Hid _ from HSH.out w1 hb1)
    have HB1 := (show Hid (Below w.heap.size w w1 ∧ Box w1 w.heap.size 27 [.slice none 0 0, .slice none 0 0]) from ⟨bel_trans HB0.out.1 hb1, HB0.out.2.still hb1⟩)
    clear HT HSH hb1
    go_wp2_with fail
    refine Calls.mono HC2.out ?_
    rintro e w2 ⟨u, r, rfl, hb2, hd2⟩
    obtain ⟨a1, c1, a2, c2, rfl, rfl, hm1, hm2⟩ := hd2.forms
    have hbx := HB1.out.2.still hb2
    have R0 : w2.cell? ⟨w.heap.size, 0, none⟩ = some (.slice none 0 0) := hbx.cell 0 (by simp)
    have R1 : w2.cell? ⟨w.heap.size, 1, none⟩ = some (.slice none 0 0) := hbx.cell 1 (by simp)
    have F0 := hbx.frozen 0
    have F1 := hbx.frozen 1
    generalize hN1 : (putTs k []).1.length = N1 at *
    generalize hN2 : (putTs k []).2.length = N2 at *
    obtain ⟨o0, o1⟩ := HRS.out w2 hbx (.slice a1 N1 c1) (.slice a2 N2 c2)
    have HE := (show Hid (Below w.heap.size w ((w2.setCell ⟨w.heap.size, 0, none⟩ (.slice a1 N1 c1)).setCell ⟨w.heap.size, 1, none⟩ (.slice a2 N2 c2)) ∧ DgR w.heap.size ((w2.setCell ⟨w.heap.size, 0, none⟩ (.slice a1 N1 c1)).setCell ⟨w.heap.size, 1, none⟩ (.slice a2 N2 c2)) (putTs k []).1 (putTs k []).2 (.slice a1 N1 c1) (.slice a2 N2 c2)) from (by
      have hz := HB1.out.2.lt
      refine ⟨((bel_trans HB1.out.1 hb2).setCell (p := ⟨w.heap.size, 0, none⟩) (Nat.le_refl _) _).setCell (p := ⟨w.heap.size, 1, none⟩) (Nat.le_refl _) _, ?_⟩
      obtain ⟨K, d1, d2, d3⟩ := hd2
      have hblk : ∀ p, p ≠ w.heap.size → ((w2.setCell ⟨w.heap.size, 0, none⟩ (.slice a1 N1 c1)).setCell ⟨w.heap.size, 1, none⟩ (.slice a2 N2 c2)).heap[p]? = w2.heap[p]? := fun p hp => (blk_setCell_other _ _ _ _ hp).trans (blk_setCell_other _ _ _ _ hp)
      refine DgR.mono (B := w1.heap.size) ⟨K, d1.keep (by simp) (fun q hq _ => hblk q (by have := d1.lt q hq; omega)), own_keep1 d2 (fun q hq => hblk q (by have := World.ownsRow.lt d2 q hq; omega)), d3⟩ (by omega)))
    clear hbx hb2 hd2 HC2 HB1 HB0 HRS
    go_wp2_with fail
    refine bodyPost_ret (v := .tuple #[.agg #[.slice a1 N1 c1, .slice a2 N2 c2], .int .i64 0]) (by simp [results, Try.results7, go_sem, o0, o1]) rfl ?_
    exact ⟨.slice a1 N1 c1, .slice a2 N2 c2, by rw [HF.out.1], HE.out.1, by rw [HF.out.2]; exact HE.out.2⟩
end Go.Proofs.Ytofobmdljelmgaa
