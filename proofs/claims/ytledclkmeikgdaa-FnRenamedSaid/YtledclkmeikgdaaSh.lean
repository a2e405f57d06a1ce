import Derived.Test.YtledclkmeikgdaaSg
/-! The specification: a term is gone through, its Kids. -/
namespace Go.Proofs.Ytledclkmeikgdaa
open Go.RowKit Go.Deep Go.Lib
open Go.Proofs.Ytledclkmeikgdaa.T (Tr)
set_option linter.unusedVariables false
set_option maxRecDepth 100000
set_option linter.unusedSimpArgs false

theorem St.low {A q ty : Nat} {w w' : World} {s s' : Sw} {c c' : CV} {N : Nat → Prop} (h : St A q ty w s c w' s' c' (fun _ => False) N) (hc : Co w A q ty s c) : Below A w w' :=
  h.fm.below (fun b hb => hb.elim (fun e => (hc.lt b e).1) (fun e => e.elim)) (by have := hc.hq; have := hc.bx.lt; omega)
/-- A Kid. -/
theorem kid_up {A q : Nat} {W0 wr w7 : World} {s sj : Sw} {c cj : CV} {t : Tr} {v : Value} {scj g7 cp7 : Nat} {p7 : List Nat} (hc : WkC A q t) (h0 : Co W0 A q 85 s c) (hst : St A q 85 W0 s c wr sj cj (fun _ => False) (fun _ => False)) (hl : T.Lies W0 (fun b => b < A) t v) (hb7 : Below wr.heap.size wr w7)
    (ho : w7.ownsRow wr.heap.size 3 1 (.slice (some ⟨g7, 0, none⟩) p7.length cp7) p7.length (nums p7)) (h1 : sj.sz + 4 * t.cnt ≤ 100000) (h2 : p7.length + t.deep ≤ 100000) (h3 : scj ≤ 100000) (ht : T.tm t = true) :
    Calls Try.prog 50 #[.pointer (some ⟨q, 0, none⟩), t.val v, .slice (some ⟨g7, 0, none⟩) p7.length cp7, .int .i64 (scj : Nat)] w7 fun e w8 => e = .returned (.tuple #[]) ∧ ∃ c8, St A q 85 W0 s c w8 (sw t scj p7 sj) c8 (fun _ => False) (fun _ => False) := by
  have hgr := (World.ownsRow.lt ho g7 rfl).1
  have hz : A ≤ wr.heap.size := by have := hst.co.hq; have := hst.co.bx.lt; omega
  have hz0 : A ≤ W0.heap.size := by have := h0.hq; have := h0.bx.lt; omega
  have hlow : Below A W0 w7 := (hst.low h0).trans (hb7.mono hz)
  refine Calls.mono (hc v scj p7 g7 cp7 sj cj w7 (hst.co.still hb7) (own_baseS ho hz) (fun e => by have := (hst.co.lt g7 e).2; omega) (hl.keep (fun b hb => hlow.block b hb)) h1 h2 h3 ht) ?_
  rintro e w8 ⟨rfl, c8, st8⟩
  have hs := hst.fm.size
  exact ⟨rfl, c8, ((hst.trans (T'' := (fun _ => False)) (N'' := (fun _ => False)) (St.below (T := (fun _ => False)) (N := (fun _ => False)) hst.co hb7) (fun _ _ e => e) (fun _ _ e => e.elim) (fun _ _ e => e) (fun _ _ e => e)).trans st8 (fun _ _ e => e) (fun _ _ e => e.elim) (fun _ _ e => e) (fun b hb e => by omega))⟩
set_option maxHeartbeats 6400000 in
/-- A node that declares nothing. -/
theorem walk50_kids {A q : Nat} (n x : ByteArray) (k : List Tr) (ih : ∀ i (hi : i < k.length), WkC A q k[i]) (hl : (n.toList == ([76, 97, 109] : List UInt8)) = false) (he : (n.toList == ([76, 101, 116] : List UInt8)) = false) (v : Value) (sc : Nat) (p : List Nat) (g cp : Nat) (s : Sw) (c : CV) (w : World) (h : Co w A q 85 s c) (hp : w.ownsRow A 3 1 (.slice (some ⟨g, 0, none⟩) p.length cp) p.length (nums p)) (hg : ¬ c.B q s g) (hlies : T.Lies w (fun b => b < A) ⟨n, x, false, k⟩ v)
    (hsz : s.sz + 4 * T.Tr.cntL k ≤ 100000) (hdp : p.length + 1 + T.Tr.deepL k ≤ 100000) (hsc : sc ≤ 100000) (htm : ∀ i (hi : i < k.length), T.tm k[i] = true) :
    Calls Try.prog 50 #[.pointer (some ⟨q, 0, none⟩), T.Tr.val ⟨n, x, false, k⟩ v, .slice (some ⟨g, 0, none⟩) p.length cp, .int .i64 (sc : Nat)] w fun e w' => e = .returned (.tuple #[]) ∧ ∃ c', St A q 85 w s c w' (swJ false sc 0 p k k.length s) c' (fun _ => False) (fun b => b = g) := by
  obtain ⟨a, cap, b, off, sv, rfl, hn, hx, hc, hm, ha, hcell, hk⟩ := hlies.out
  dsimp only at hn hx hc ha hcell hk ⊢
  have hb0 := bel_alloc w (.cells #[.string n, .string x, .bool false, .slice a k.length cap] 40)
  have hql := h.bx.lt
  have hA : A ≤ w.heap.size := by have := h.hq; omega
  have H0 := (show Hid (Co (w.alloc (.cells #[.string n, .string x, .bool false, .slice a k.length cap] 40)) A q 85 s c) from h.still hb0)
  have HB0 := (show Hid (Below w.heap.size w (w.alloc (.cells #[.string n, .string x, .bool false, .slice a k.length cap] 40))) from hb0)
  have HP := (show Hid (w.ownsRow A 3 1 (.slice (some ⟨g, 0, none⟩) p.length cp) p.length (nums p)) from hp)
  have HG := (show Hid (¬ c.B q s g) from hg)
  have HC := (show Hid (Co w A q 85 s c) from h)
  have hcb : ¬ c.B q s w.heap.size := fun e => by have := (h.lt _ e).2; omega
  have hgw : g < w.heap.size := (World.ownsRow.lt hp g rfl).2
  have hwb : (w.alloc (.cells #[.string n, .string x, .bool false, .slice a k.length cap] 40)).cell? ⟨w.heap.size, 3, none⟩ = some (.slice a k.length cap) := by simp [go_sem]
  have HI := (show Hid (∀ j (hj : j < k.length) (wr : World) (cj : CV), St A q 85 (w.alloc (.cells #[.string n, .string x, .bool false, .slice a k.length cap] 40)) s c wr (swJ false sc 0 p k j s) cj (fun _ => False) (fun _ => False) → ∃ (q1 : Option Addr) (q2 q3 : Nat), a = some ⟨b, off, none⟩ ∧ (∀ W, Below A (w.alloc (.cells #[.string n, .string x, .bool false, .slice a k.length cap] 40)) W → (W.cell? ⟨b, off + j * 4, none⟩ = some (.string k[j].name) ∧ W.cell? ⟨b, off + j * 4 + 1, none⟩ = some (.string k[j].text) ∧ W.cell? ⟨b, off + j * 4 + 2, none⟩ = some (.bool k[j].leaf) ∧ W.cell? ⟨b, off + j * 4 + 3, none⟩ = some (.slice q1 q2 q3))) ∧
      ∀ (w7 : World) (g7 cp7 : Nat), Below wr.heap.size wr w7 → w7.ownsRow wr.heap.size 3 1 (.slice (some ⟨g7, 0, none⟩) (p.length + 1) cp7) (p.length + 1) (nums (p ++ [j])) → Calls Try.prog 50 #[.pointer (some ⟨q, 0, none⟩), .agg #[.string k[j].name, .string k[j].text, .bool k[j].leaf, .slice q1 q2 q3], .slice (some ⟨g7, 0, none⟩) (p.length + 1) cp7, .int .i64 (sc : Nat)] w7 fun e w8 => e = .returned (.tuple #[]) ∧ ∃ c8, St A q 85 (w.alloc (.cells #[.string n, .string x, .bool false, .slice a k.length cap] 40)) s c w8 (swJ false sc 0 p k (j + 1) s) c8 (fun _ => False) (fun _ => False)) from fun j hj wr cj hst => by
    obtain ⟨q1, q2, q3, e3⟩ := (hk j hj).form
    obtain ⟨c0, c1, c2, c3⟩ := hcell j hj
    have hbA := (ha (by omega)).2
    rw [e3] at c3
    refine ⟨q1, q2, q3, (ha (by omega)).1, fun W hW => ?_, fun w7 g7 cp7 hb7 ho => ?_⟩
    · have hkp : ∀ {o : Nat} {u : Value}, w.cell? ⟨b, o, none⟩ = some u → W.cell? ⟨b, o, none⟩ = some u := fun {o u} hcu => (World.cell?_of_block (w := w) ((hW.block b hbA).trans (hb0.block b (by omega)))).trans hcu
      exact ⟨hkp c0, hkp c1, hkp c2, hkp c3⟩
    · have hd := T.Tr.deepL_take_succ k j hj
      have hd2 := T.Tr.deepL_take_le k (j + 1)
      have hct := T.Tr.cntL_take_succ k j hj
      have hct2 := T.Tr.cntL_take_le k (j + 1)
      have hsj := swJ_sz false sc 0 p k s j (by omega)
      have hL : (p ++ [j]).length = p.length + 1 := by simp
      have := kid_up (scj := sc) (p7 := p ++ [j]) (g7 := g7) (cp7 := cp7) (ih j hj) H0.out hst ((hk j hj).still hb0) hb7 (by rw [hL]; exact ho) (by omega) (by rw [hL]; omega) hsc (htm j hj)
      rw [swJ_succ hj (by simp)]
      rw [hL] at this
      simp only [T.Tr.val, e3] at this
      simpa using this)
  have HPW := (show Hid (∀ (wr : World) (sj : Sw) (cj : CV), St A q 85 (w.alloc (.cells #[.string n, .string x, .bool false, .slice a k.length cap] 40)) s c wr sj cj (fun _ => False) (fun _ => False) → wr.ownsRow A 3 1 (.slice (some ⟨g, 0, none⟩) p.length cp) p.length (nums p) ∧ wr.cell? ⟨w.heap.size, 3, none⟩ = some (.slice a k.length cap) ∧ Below A (w.alloc (.cells #[.string n, .string x, .bool false, .slice a k.length cap] 40)) wr) from fun wr sj cj hst => ⟨own_keep1 hp (fun b' e => by
      have e : g = b' := by simpa [Value.ownBlock] using e
      subst e
      exact (hst.fm.block g (by simp; omega) (fun e => e.elim hg id)).trans (hb0.block g hgw)), (World.cell?_of_block (w := (w.alloc (.cells #[.string n, .string x, .bool false, .slice a k.length cap] 40))) (hst.fm.block w.heap.size (by simp) (fun e => e.elim hcb id))).trans hwb, hst.low H0.out⟩)
  have HDN := (show Hid (∀ (wr : World) (p' : List Nat) (i : Nat), wr.ownsRow A 3 1 (.slice (some ⟨g, 0, none⟩) p.length cp) p.length (nums p) → Calls Try.prog 95 #[.slice (some ⟨g, 0, none⟩) p.length cp, .int .i64 (i : Nat)] wr fun e w' => ∃ g' c', e = .returned (.slice (some ⟨g', 0, none⟩) (p.length + 1) c') ∧ Below wr.heap.size wr w' ∧ w'.ownsRow wr.heap.size 3 1 (.slice (some ⟨g', 0, none⟩) (p.length + 1) c') (p.length + 1) (nums (p ++ [i]))) from fun wr p' i h => down95 p g cp i wr h (by omega))
  have HS0 := (show Hid (St A q 85 (w.alloc (.cells #[.string n, .string x, .bool false, .slice a k.length cap] 40)) s c (w.alloc (.cells #[.string n, .string x, .bool false, .slice a k.length cap] 40)) (swJ false sc 0 p k 0 s) c (fun _ => False) (fun _ => False)) from St.below H0.out (Below.refl _ _))
  have HFI := (show Hid (∀ (wr : World) (sj : Sw) (cj : CV), St A q 85 (w.alloc (.cells #[.string n, .string x, .bool false, .slice a k.length cap] 40)) s c wr sj cj (fun _ => False) (fun _ => False) → St A q 85 w s c wr sj cj (fun _ => False) (fun b => b = g)) from fun wr sj cj hst => (St.below (T := (fun _ => False)) (N := (fun _ => False)) h hb0).trans hst (fun _ _ e => e) (fun _ _ e => e.elim) (fun _ _ e => e) (fun _ _ e => e.elim))
  unfold maxLen at hm
  simp only [T.Tr.val]
  clear ih hcell hk hlies ha hn hx h hp hg hb0 hcb htm hdp hsz
  go_enter Try.func50, Try.ntmps50
  go_wp2_with fail
  go_loopw [8] (fun i wr => ∃ j : Nat, i = .int .i64 j ∧ j ≤ k.length ∧ Hid (∃ cj, St A q 85 (w.alloc (.cells #[.string n, .string x, .bool false, .slice a k.length cap] 40)) s c wr (swJ false sc 0 p k j s) cj (fun _ => False) (fun _ => False))) (fun i _ => k.length - (intOf i).toNat)
  case atStart => exact ⟨0, rfl, Nat.zero_le _, c, HS0.out⟩
  case round =>
    obtain ⟨j, rfl, hj, HJ⟩ := hrel
    obtain ⟨cj, hst⟩ := HJ.out
    obtain ⟨hpw, hcw, hlw⟩ := HPW.out wr _ cj hst
    by_cases hlt : j < k.length
    · obtain ⟨q1, q2, q3, rfl, hcs, hkid⟩ := HI.out j hlt wr cj hst
      have HCS := (show Hid (∀ W, Below A (w.alloc (.cells #[.string n, .string x, .bool false, .slice (some ⟨b, off, none⟩) k.length cap] 40)) W → (W.cell? ⟨b, off + j * 4, none⟩ = some (.string k[j].name) ∧ W.cell? ⟨b, off + j * 4 + 1, none⟩ = some (.string k[j].text) ∧ W.cell? ⟨b, off + j * 4 + 2, none⟩ = some (.bool k[j].leaf) ∧ W.cell? ⟨b, off + j * 4 + 3, none⟩ = some (.slice q1 q2 q3))) from hcs)
      have HKD := (show Hid _ from hkid)
      have hbd := (Below.refl wr.heap.size wr).drew
      have hA2 : A ≤ wr.heap.size := by have := hst.co.hq; have := hst.co.bx.lt; omega
      have HBL := (show Hid (∀ W, Below wr.heap.size wr W → W.cell? ⟨w.heap.size, 3, none⟩ = some (.slice (some ⟨b, off, none⟩) k.length cap) ∧ (W.cell? ⟨b, off + j * 4, none⟩ = some (.string k[j].name) ∧ W.cell? ⟨b, off + j * 4 + 1, none⟩ = some (.string k[j].text) ∧ W.cell? ⟨b, off + j * 4 + 2, none⟩ = some (.bool k[j].leaf) ∧ W.cell? ⟨b, off + j * 4 + 3, none⟩ = some (.slice q1 q2 q3))) from fun W hb => ⟨(hb.cell (lt_of_cell hcw)).trans hcw, HCS.out W (hlw.trans (hb.mono hA2))⟩)
      have hS0 := HBL.out _ hbd
      have HD5 := (show Hid (Calls Try.prog 95 #[.slice (some ⟨g, 0, none⟩) p.length cp, .int .i64 (j : Nat)] wr.drew fun e w' => ∃ g' c', e = .returned (.slice (some ⟨g', 0, none⟩) (p.length + 1) c') ∧ Below wr.drew.heap.size wr.drew w' ∧ w'.ownsRow wr.drew.heap.size 3 1 (.slice (some ⟨g', 0, none⟩) (p.length + 1) c') (p.length + 1) (nums (p ++ [j]))) from HDN.out wr.drew p j (own_keep1 hpw (fun b' e => hbd.block b' (World.ownsRow.lt hpw b' e).2)))
      have HK7 := (show Hid (∀ (w7 : World) (g7 cp7 : Nat), Below wr.drew.heap.size wr.drew w7 → w7.ownsRow wr.drew.heap.size 3 1 (.slice (some ⟨g7, 0, none⟩) (p.length + 1) cp7) (p.length + 1) (nums (p ++ [j])) → Calls Try.prog 50 #[.pointer (some ⟨q, 0, none⟩), .agg #[.string k[j].name, .string k[j].text, .bool k[j].leaf, .slice q1 q2 q3], .slice (some ⟨g7, 0, none⟩) (p.length + 1) cp7, .int .i64 (sc : Nat)] w7 fun e w8 => e = .returned (.tuple #[]) ∧ (w8.cell? ⟨w.heap.size, 3, none⟩ = some (.slice (some ⟨b, off, none⟩) k.length cap) ∧ (w8.cell? ⟨b, off + j * 4, none⟩ = some (.string k[j].name) ∧ w8.cell? ⟨b, off + j * 4 + 1, none⟩ = some (.string k[j].text) ∧ w8.cell? ⟨b, off + j * 4 + 2, none⟩ = some (.bool k[j].leaf) ∧ w8.cell? ⟨b, off + j * 4 + 3, none⟩ = some (.slice q1 q2 q3))) ∧ Hid (∃ c8, St A q 85 (w.alloc (.cells #[.string n, .string x, .bool false, .slice (some ⟨b, off, none⟩) k.length cap] 40)) s c w8 (swJ false sc 0 p k (j + 1) s) c8 (fun _ => False) (fun _ => False))) from fun w7 g7 cp7 hb7 ho => by
        refine Calls.mono (HKD.out w7 g7 cp7 (hbd.trans (hb7.mono (Nat.le_refl _))) ho) ?_
        rintro e w8 ⟨rfl, c8, st8⟩
        obtain ⟨_, r2, r3⟩ := HPW.out w8 _ c8 st8
        exact ⟨rfl, ⟨r2, HCS.out w8 r3⟩, c8, st8⟩)
      clear hcs hkid hpw hlw hst HJ
      generalize k[j].name = kn at *
      generalize k[j].text = kx at *
      generalize k[j].leaf = kl at *
      go_wp2_with fail
      go_region_held3 (fun wq => wq.cell? ⟨w.heap.size, 3, none⟩ = some (.slice (some ⟨b, off, none⟩) k.length cap) ∧ (wq.cell? ⟨b, off + j * 4, none⟩ = some (.string kn) ∧ wq.cell? ⟨b, off + j * 4 + 1, none⟩ = some (.string kx) ∧ wq.cell? ⟨b, off + j * 4 + 2, none⟩ = some (.bool kl) ∧ wq.cell? ⟨b, off + j * 4 + 3, none⟩ = some (.slice q1 q2 q3))) (first | with_reducible exact hS0 | with_reducible exact hS1 | with_reducible exact hS2)
        (first
        | (go_at_call 50; refine Calls.mono (HK7.out _ _ _ hb7 ho7) ?_; rintro e w8 ⟨rfl, hS2, HF8⟩)
        | (go_at_call 95; refine Calls.mono HD5.out ?_; rintro e w7 ⟨g7, cp7, rfl, hb7, ho7⟩; have hS1 := HBL.out w7 (hbd.trans (hb7.mono (Nat.le_refl _)))))
      all_goals
        clear hS0 hS1 hS2 hb7 ho7 hbd hcw
        go_wp2_with fail
        exact ⟨⟨j + 1, by go_num, by omega, HF8.out⟩, by simp [intOf]; omega⟩
    · obtain rfl : j = k.length := by omega
      have HF := (show Hid (∃ c', St A q 85 w s c wr (swJ false sc 0 p k k.length s) c' (fun _ => False) (fun b => b = g)) from ⟨cj, HFI.out wr _ cj hst⟩)
      clear hst HJ hpw hlw
      go_wp2_with fail
      refine bodyPost_ret (v := .tuple #[]) (by simp [results, Try.results50, go_sem]) rfl ?_
      exact ⟨rfl, HF.out⟩
end Go.Proofs.Ytledclkmeikgdaa
