import Derived.Test.YtblfeifedcddnaaTw
/-! l09Tree, walked. -/
namespace Go.Proofs.Ytblfeifedcddnaa
open Go.RowKit Go.Deep Go.Lib
set_option linter.unusedVariables false
set_option maxRecDepth 100000
set_option linter.unusedSimpArgs false

theorem bel_set4 {w0 w : World} {a b c d : Value} (h : Below w0.heap.size w0 w) : Below w0.heap.size w0 ((((w.setCell ⟨w0.heap.size, 0, none⟩ a).setCell ⟨w0.heap.size, 1, none⟩ b).setCell ⟨w0.heap.size, 2, none⟩ c).setCell ⟨w0.heap.size, 3, none⟩ d) :=
  (((h.setCell (Nat.le_refl _) _).setCell (Nat.le_refl _) _).setCell (Nat.le_refl _) _).setCell (Nat.le_refl _) _
set_option maxHeartbeats 3200000 in
theorem tree46 {S : Nat → Prop} (t : Tr) : ∀ (ns : List Rd) (z room : Int) (nv : Value) (ra : Option Addr) (rl rc : Nat) (w : World), isR t ns z → Rds w S ns nv → 0 ≤ room → room ≤ 1000 →
    Calls Try.prog 59 #[.agg #[nv, .slice ra rl rc], .int .i64 z, .int .i64 room] w fun e w' => ∃ t' r' a' m' c', e = .returned (.tuple #[.agg #[.string t'.name, .string t'.text, .bool t'.leaf, .slice a' m' c'], .int .i64 r']) ∧ Below w.heap.size w w' ∧ Own w' w.heap.size w'.heap.size t' (.slice a' m' c') ∧ TwR t room t' r' := by
  refine Tr.ind (P := fun t => ∀ (ns : List Rd) (z room : Int) (nv : Value) (ra : Option Addr) (rl rc : Nat) (w : World), isR t ns z → Rds w S ns nv → 0 ≤ room → room ≤ 1000 →
    Calls Try.prog 59 #[.agg #[nv, .slice ra rl rc], .int .i64 z, .int .i64 room] w fun e w' => ∃ t' r' a' m' c', e = .returned (.tuple #[.agg #[.string t'.name, .string t'.text, .bool t'.leaf, .slice a' m' c'], .int .i64 r']) ∧ Below w.heap.size w w' ∧ Own w' w.heap.size w'.heap.size t' (.slice a' m' c') ∧ TwR t room t' r') ?_ t
  intro n x l k ih ns z room nv ra rl rc w hR hN h0 h1
  rw [isR_mk] at hR
  obtain ⟨qs, hz0, hzn, hql, hqk⟩ := hR
  have HN := (show Hid _ from hN)
  obtain ⟨a, cap, b, off, sv, rfl, hc, hm, ha, hcell, hzz, hr⟩ := hN
  obtain ⟨hzl, hze⟩ := List.getElem?_eq_some_iff.1 hzn
  obtain ⟨rfl, _⟩ := ha (by omega)
  obtain ⟨c0, c1, c2, c3⟩ := hcell z.toNat hzl
  have hI := hr z.toNat hzl
  have hzs := hzz z.toNat hzl
  rw [hze] at c0 c1 c2 hI hzs
  dsimp only at c0 c1 c2 hI hzs
  obtain ⟨ka, kcap, kb, koff, hkv, hkc, hkm, hka, hkcell⟩ := hI
  rw [hkv] at c3
  clear hcell hr ha hze hkv hzz
  generalize hzN : z.toNat = Z at *
  obtain rfl : z = (Z : Int) := by omega
  have d0 := bel_alloc w (.cells #[.slice (some ⟨b, off, none⟩) ns.length cap, .slice ra rl rc] 27)
  have HI := (show Hid _ from ih); clear ih
  have HQ := (show Hid _ from hqk); clear hqk
  have HZ := (show Hid _ from (⟨hzs, hzn⟩ : _ ∧ _)); clear hzs hzn
  have HKC := (show Hid _ from (⟨hka, hkcell, hql⟩ : _ ∧ _ ∧ _)); clear hka hkcell
  rw [hql] at hkc c3
  clear hql
  unfold maxLen at hkm
  have HC := (show Hid (∀ wq : World, Below w.heap.size w wq → wq.cell? ⟨b, off + Z * 4, none⟩ = some (.string n) ∧ wq.cell? ⟨b, off + Z * 4 + 1, none⟩ = some (.string x) ∧ wq.cell? ⟨b, off + Z * 4 + 2, none⟩ = some (.bool l) ∧ wq.cell? ⟨b, off + Z * 4 + 3, none⟩ = some (.slice ka k.length kcap)) from fun wq hb => ⟨(hb.cell (lt_of_cell c0)).trans c0, (hb.cell (lt_of_cell c1)).trans c1, (hb.cell (lt_of_cell c2)).trans c2, (hb.cell (lt_of_cell c3)).trans c3⟩)
  obtain ⟨e0, e1, e2, e3⟩ := HC.out _ (d0.alloc (by simp) (.cells #[.string ⟨#[]⟩, .string ⟨#[]⟩, .bool false, .slice none 0 0] 51))
  unfold maxLen at hm
  have q1 : (0 : Int) ≤ (Z : Int) := by omega
  have q2 : (Z : Int) < (ns.length : Int) := by omega
  obtain ⟨i59, hi59, hy0, hy1, hy2⟩ := info_parts info51
  have HS0 : Hid (TwI w ((((w.alloc (.cells #[.slice (some ⟨b, off, none⟩) ns.length cap, .slice ra rl rc] 27)).alloc (.cells #[.string ⟨#[]⟩, .string ⟨#[]⟩, .bool false, .slice none 0 0] 51)).alloc (.cells #[.string n, .string x, .bool l, .slice ka k.length kcap] 93)).alloc (.cells #[.string n, .string x, .bool l, .slice none 0 0] 51)) (.slice (some ⟨b, off, none⟩) ns.length cap) (.slice ra rl rc) (.slice ka k.length kcap) (.slice none 0 0) n x l []) := by
    refine ⟨(((Box.new w 27 [_, _]).still (bel_alloc _ _)).still (bel_alloc _ _)).still (bel_alloc _ _), ?_, ?_, ?_, ((d0.alloc (by simp) _).alloc (by simp; omega) _).alloc (by simp; omega) _, ?_⟩
    · have := ((Box.new (w.alloc (.cells #[.slice (some ⟨b, off, none⟩) ns.length cap, .slice ra rl rc] 27)) 51 [.string ⟨#[]⟩, .string ⟨#[]⟩, .bool false, .slice none 0 0]).still (bel_alloc _ (.cells #[.string n, .string x, .bool l, .slice ka k.length kcap] 93))).still (bel_alloc _ (.cells #[.string n, .string x, .bool l, .slice none 0 0] 51))
      rw [World.size_alloc] at this
      exact this
    · have := (Box.new ((w.alloc (.cells #[.slice (some ⟨b, off, none⟩) ns.length cap, .slice ra rl rc] 27)).alloc (.cells #[.string ⟨#[]⟩, .string ⟨#[]⟩, .bool false, .slice none 0 0] 51)) 93 [.string n, .string x, .bool l, .slice ka k.length kcap]).still (bel_alloc _ (.cells #[.string n, .string x, .bool l, .slice none 0 0] 51))
      simpa using this
    · have := Box.new (((w.alloc (.cells #[.slice (some ⟨b, off, none⟩) ns.length cap, .slice ra rl rc] 27)).alloc (.cells #[.string ⟨#[]⟩, .string ⟨#[]⟩, .bool false, .slice none 0 0] 51)).alloc (.cells #[.string n, .string x, .bool l, .slice ka k.length kcap] 93)) 51 [.string n, .string x, .bool l, .slice none 0 0]
      simpa using this
    · exact ⟨fun _ => .bool false, fun _ => 0, fun _ => 0, own_nil _ _ _ _, fun i hi => absurd hi (Nat.not_lt_zero _), fun i hi => absurd hi (Nat.not_lt_zero _), fun i i' _ hi => absurd hi (Nat.not_lt_zero _)⟩
  clear c0 c1 c2 c3 d0
  go_enter Try.func59, Try.ntmps59
  go_wp2_with fail
  clear e0 e1 e2 e3
  go_loopw [2, 10] (fun r i wr => ∃ (j : Nat) (rj : Int) (u : Value) (k' : List Tr), r = .int .i64 rj ∧ i = .int .i64 j ∧ j ≤ k.length ∧ -1 ≤ rj ∧ rj < room ∧ k'.length = j ∧ Hid (TwI w wr (.slice (some ⟨b, off, none⟩) ns.length cap) (.slice ra rl rc) (.slice ka k.length kcap) u n x l k') ∧ Hid ((0 ≤ rj → k' = k.take j ∧ rj = room - 1 - (Tr.cntL (k.take j) : Nat)) ∧ (rj < 0 → room - 1 - ((Tr.cntL (k.take j) : Nat) : Int) < 0))) (fun _ i _ => k.length - (intOf i).toNat)
  case atStart =>
    exact ⟨0, room - 1, _, [], rfl, rfl, Nat.zero_le _, by omega, by omega, rfl, HS0.out, fun _ => ⟨by simp, by rw [List.take_zero]; show _ = room - 1 - ((0 : Nat) : Int); omega⟩, fun _ => by rw [List.take_zero]; show room - 1 - ((0 : Nat) : Int) < 0; omega⟩
  case round =>
    obtain ⟨j, rj, u, k', rfl, rfl, hj, hr1, hr2, hk', HT, HE⟩ := hrel
    clear HS0
    have T3 : wr.cell? ⟨w.heap.size + 1 + 1, 3, none⟩ = some (.slice ka k.length kcap) := HT.out.b2.cell 3 (by simp)
    by_cases hgo : j < k.length ∧ 0 ≤ rj
    · obtain ⟨hlt, hr0⟩ := hgo
      have hqj : j < qs.length := by have := HKC.out.2.2; omega
      obtain ⟨rfl, hSk⟩ := HKC.out.1 (by omega)
      have HB1 := (show Hid _ from HT.out.bel)
      have HCL : Hid (∀ wq, Below wr.heap.size wr wq → Calls Try.prog 59 #[.agg #[.slice (some ⟨b, off, none⟩) ns.length cap, .slice ra rl rc], .int .i64 qs[j], .int .i64 rj] wq fun e w' => ∃ t' r' a' m' c', e = .returned (.tuple #[.agg #[.string t'.name, .string t'.text, .bool t'.leaf, .slice a' m' c'], .int .i64 r']) ∧ Below wq.heap.size wq w' ∧ Own w' wq.heap.size w'.heap.size t' (.slice a' m' c') ∧ TwR k[j] rj t' r') := fun wq hb =>
        HI.out j hlt ns qs[j] rj _ ra rl rc wq (HQ.out j hlt hqj) (Rds.still HN.out (HB1.out.trans (hb.mono HB1.out.size))) hr0 (by omega)
      have hcz := HKC.out.2.1 j hqj
      have HH : Hid (∀ wq, Below wr.heap.size wr wq → wq.cell? ⟨w.heap.size, 0, none⟩ = some (.slice (some ⟨b, off, none⟩) ns.length cap) ∧ wq.cell? ⟨w.heap.size, 1, none⟩ = some (.slice ra rl rc) ∧ wq.cell? ⟨w.heap.size + 1 + 1, 3, none⟩ = some (.slice (some ⟨kb, koff, none⟩) k.length kcap) ∧ wq.cell? ⟨kb, koff + j, none⟩ = some (.int .i64 qs[j])) := fun wq hb =>
        ⟨(HT.out.b0.still hb).cell 0 (by simp), (HT.out.b0.still hb).cell 1 (by simp), (HT.out.b2.still hb).cell 3 (by simp), ((HB1.out.trans (hb.mono HB1.out.size)).cell (lt_of_cell hcz)).trans hcz⟩
      clear hcz
      generalize qs[j] = zj at *
      have q3 : (0 : Int) ≤ (j : Int) := by omega
      have q4 : (j : Int) < (k.length : Int) := by omega
      go_wp2_with fail
      go_cut [11, 12] from 38 to 48 (fun v11 v12 wx => ∃ (B : Nat) (t' : Tr) (r' : Int) (lo hi : Nat) (a' : Option Addr) (m' c' : Nat), v11 = .pointer (some ⟨B, 0, none⟩) ∧ v12 = .int .i64 r' ∧ Hid (Below wr.heap.size wr wx ∧ Box wx B 51 [.string t'.name, .string t'.text, .bool t'.leaf, .slice a' m' c'] ∧ Own wx lo hi t' (.slice a' m' c') ∧ wr.heap.size ≤ lo ∧ hi ≤ wx.heap.size ∧ TwR k[j] rj t' r'))
      case first =>
        have hbd := (Below.refl wr.heap.size wr).drew
        have hS0 := HH.out _ hbd
        go_region_held3 (fun wq => wq.cell? ⟨w.heap.size, 0, none⟩ = some (.slice (some ⟨b, off, none⟩) ns.length cap) ∧ wq.cell? ⟨w.heap.size, 1, none⟩ = some (.slice ra rl rc) ∧ wq.cell? ⟨w.heap.size + 1 + 1, 3, none⟩ = some (.slice (some ⟨kb, koff, none⟩) k.length kcap) ∧ wq.cell? ⟨kb, koff + j, none⟩ = some (.int .i64 zj)) (first | with_reducible exact hS0 | with_reducible exact hS1 | (with_reducible exact HH.out _ (Below.drew (bel_alloc _ _))) | (with_reducible exact HH.out _ (bel_trans hx (bel_alloc _ _))) | (with_reducible exact HH.out _ (bel_set4 hx))) ((go_at_call 59; refine Calls.mono (HCL.out _ ?_) ?_; (first | with_reducible exact hbd | with_reducible exact Below.drew (bel_alloc _ _)); rintro e w3 ⟨t3, r3, a3, m3, c3, rfl, hb3, ho3, hR3⟩; (first | (with_reducible have hx : Below wr.heap.size wr w3 := hbd.trans (hb3.mono (Nat.le_refl _))) | (with_reducible have hx : Below wr.heap.size wr w3 := bel_trans (bel_alloc _ _) (Below.trans ((Below.refl _ _).drew) (hb3.mono (Nat.le_refl _))))); have hS1 := HH.out _ hx; (try (have hBx : Box w3 wr.heap.size 51 [.string ⟨#[]⟩, .string ⟨#[]⟩, .bool false, .slice none 0 0] := Box.still (Box.new wr 51 [.string ⟨#[]⟩, .string ⟨#[]⟩, .bool false, .slice none 0 0]) (Below.trans ((Below.refl _ _).drew) (hb3.mono (Nat.le_refl _))); have y0 := Box.frozen hBx 0; have y1 := Box.frozen hBx 1; have y2 := Box.frozen hBx 2; have y3 := Box.frozen hBx 3; have x0 : w3.cell? ⟨wr.heap.size, 0, none⟩ = some (.string ⟨#[]⟩) := Box.cell hBx 0 (by simp); have x1 : w3.cell? ⟨wr.heap.size, 1, none⟩ = some (.string ⟨#[]⟩) := Box.cell hBx 1 (by simp); have x2 : w3.cell? ⟨wr.heap.size, 2, none⟩ = some (.bool false) := Box.cell hBx 2 (by simp); have x3 : w3.cell? ⟨wr.heap.size, 3, none⟩ = some (.slice none 0 0) := Box.cell hBx 3 (by simp)))))
        all_goals go_wp2_with fail
        all_goals go_meet
        all_goals first
          | exact ⟨_, t3, r3, _, _, a3, m3, c3, rfl, rfl, bel_trans hx (bel_alloc _ _), Box.new _ 51 [_, _, _, _], ho3.still (bel_alloc _ _), Nat.le_refl _, by simp, hR3⟩
          | exact ⟨_, t3, r3, wr.heap.size + 1, w3.heap.size, a3, m3, c3, rfl, rfl, bel_set4 hx, (((hBx.set 0 _).set 1 _).set 2 _).set 3 _, by
              have ho4 : Own w3 (wr.heap.size + 1) w3.heap.size t3 (.slice a3 m3 c3) := by simpa [World.drew] using ho3
              exact (((ho4.past (.inl (by omega))).past (.inl (by omega))).past (.inl (by omega))).past (.inl (by omega)), by omega, by simp, hR3⟩
      case rest =>
        obtain ⟨B, t', r', lo, hi, a', m', c', rfl, rfl, HX⟩ := hcut
        subst hk'
        obtain ⟨fs, ls, hs, hown, hls, hr, hd⟩ := HT.out.grw
        have hbx3 := HT.out.b3.still HX.out.1
        obtain ⟨ua, up, rfl, _⟩ := own_ne hown
        have D3 : wc.cell? ⟨w.heap.size + 1 + 1 + 1, 3, none⟩ = some (.slice ua k'.length up) := hbx3.cell 3 (by simp)
        have K0 : wc.cell? ⟨B, 0, none⟩ = some (.string t'.name) := HX.out.2.1.cell 0 (by simp)
        have K1 : wc.cell? ⟨B, 1, none⟩ = some (.string t'.text) := HX.out.2.1.cell 1 (by simp)
        have K2 : wc.cell? ⟨B, 2, none⟩ = some (.bool t'.leaf) := HX.out.2.1.cell 2 (by simp)
        have K3 : wc.cell? ⟨B, 3, none⟩ = some (.slice a' m' c') := HX.out.2.1.cell 3 (by simp)
        have hba := bel_alloc wc (.cells #[.string t'.name, .string t'.text, .bool t'.leaf, .slice a' m' c'] 51)
        have HO2 := (show Hid _ from own_still (own_still hown HX.out.1) hba)
        have HNX : Hid (∀ (w3 : World) (g cap3 : Nat), w3.ownsRow (w.heap.size + 4) 51 4 (.slice (some ⟨g, 0, none⟩) (k'.length + 1) cap3) (k'.length + 1) (kc k' fs k'.length ++ [.string t'.name, .string t'.text, .bool t'.leaf, .slice a' m' c']) → (wc.alloc (.cells #[.string t'.name, .string t'.text, .bool t'.leaf, .slice a' m' c'] 51)).grownBy w3 (Value.slice ua k'.length up).ownBlock → ((Value.slice ua k'.length up).ownBlock = some g ∨ g = (wc.alloc (.cells #[.string t'.name, .string t'.text, .bool t'.leaf, .slice a' m' c'] 51)).heap.size) →
            (w3.cell? ⟨w.heap.size + 1 + 1 + 1, 3, none⟩ = some (.slice ua k'.length up) ∧ w3.frozen? ⟨w.heap.size + 1 + 1 + 1, 3, none⟩ = false) ∧ TwI w (w3.setCell ⟨w.heap.size + 1 + 1 + 1, 3, none⟩ (.slice (some ⟨g, 0, none⟩) (k'.length + 1) cap3)) (.slice (some ⟨b, off, none⟩) ns.length cap) (.slice ra rl rc) (.slice (some ⟨kb, koff, none⟩) k.length kcap) (.slice (some ⟨g, 0, none⟩) (k'.length + 1) cap3) n x l (k' ++ [t'])) := fun w3 g cap3 g1 g2 g3 => by
          have hbx := (hbx3.still hba).keep (g2.block _ (by have := hbx3.lt; simp; omega) (fun e => by have := World.ownsRow.lt hown _ e.symm; omega))
          have hh := HX.out.2.2.2.2.1
          exact ⟨⟨hbx.cell 3 (by simp), hbx.frozen 3⟩, HT.out.next hown hls hr hd (bel_trans HX.out.1 hba) (HX.out.2.2.1.still hba) HX.out.2.2.2.1 (by simp; omega) g1 g2 g3⟩
        have HZ1 := (show Hid (w.heap.size + 4 ≤ wc.heap.size) from (by have := hbx3.lt; show _ ≤ _; omega))
        obtain ⟨hA1, hA2, hA3, hA4, hA5⟩ := HX.out.2.2.2.2.2
        have HE2 : Hid ((0 ≤ r' → k' ++ [t'] = k.take (k'.length + 1) ∧ r' = room - 1 - (Tr.cntL (k.take (k'.length + 1)) : Nat)) ∧ (r' < 0 → room - 1 - ((Tr.cntL (k.take (k'.length + 1)) : Nat) : Int) < 0)) := by
          obtain ⟨g1, g2⟩ := HE.out.1 hr0
          have g3 := Tr.cntL_take_succ k k'.length hlt
          refine ⟨fun h => ⟨?_, ?_⟩, fun h => ?_⟩
          · rw [List.take_succ_eq_append_getElem hlt, ← g1, hA5 h]
          · have : ((k[k'.length]).cnt : Int) ≤ rj := by
              rcases Int.lt_or_le rj (k[k'.length]).cnt with e | e
              · have := hA4 e; omega
              · exact e
            have := hA3 this
            omega
          · have : rj < ((k[k'.length]).cnt : Int) := by
              rcases Int.lt_or_le rj (k[k'.length]).cnt with e | e
              · exact e
              · have := hA3 e; omega
            omega
        have hk1000 : k'.length ≤ 1000 := by
          obtain ⟨g1, g2⟩ := HE.out.1 hr0
          have := len_le_cntL k'
          rw [← g1] at g2
          omega
        generalize t'.name = knm at *
        generalize t'.text = ktx at *
        generalize t'.leaf = klf at *
        clear hown hls hr hd hbx3 hba HX HCL HH HE HT hA3 hA4 hA5
        go_wp2_with (at_builtin; (refine wpList_append_lies _ rfl (.tmp 51) (.tmp 53) 30 rfl (w.heap.size + 4) 51 i59 _ 4 64 Try.underlying30 hi59 hy0 hy1 hy2 rfl (by decide) _ k'.length _ rfl HO2.out ⟨wc.heap.size, 0, none⟩ 1 1 [.string knm, .string ktx, .bool klf, .slice a' m' c'] rfl rfl ?c1 ?c2 (by decide) ?c3 ?c5 ?c4 _ rfl ?nx))
        case c1 => exact cell_four_box _ _ _ _ _ _
        case c2 => intro u hu; simp at hu; rcases hu with rfl | rfl | rfl | rfl <;> rfl
        case c3 => unfold maxLen; omega
        case c5 => omega
        case c4 => have := HZ1.out; simp; omega
        case nx =>
          intro g7 cap7 w7 hown7 hgr7 hat7 hlt7
          obtain ⟨⟨n7, f7⟩, hI7⟩ := HNX.out w7 g7 cap7 hown7 hgr7 (by simpa using hat7)
          have HF := (show Hid _ from hI7)
          clear hown7 hgr7 hat7 hlt7 HNX HO2 hI7
          go_wp2_with fail
          exact ⟨⟨k'.length + 1, r', _, k' ++ [t'], rfl, by go_num, by omega, by omega, by omega, by simp, HF, HE2⟩, by simp [intOf]; omega⟩
    · subst hk'
      obtain ⟨ua, up, rfl, _⟩ : ∃ a cap, u = .slice a k'.length cap ∧ (a = none → k'.length = 0) := by
        obtain ⟨fs, ls, hs, hown, _⟩ := HT.out.grw
        exact own_ne hown
      have A0 : wr.cell? ⟨w.heap.size + 1 + 1 + 1, 0, none⟩ = some (.string n) := HT.out.b3.cell 0 (by simp)
      have A1 : wr.cell? ⟨w.heap.size + 1 + 1 + 1, 1, none⟩ = some (.string x) := HT.out.b3.cell 1 (by simp)
      have A2 : wr.cell? ⟨w.heap.size + 1 + 1 + 1, 2, none⟩ = some (.bool l) := HT.out.b3.cell 2 (by simp)
      have A3 : wr.cell? ⟨w.heap.size + 1 + 1 + 1, 3, none⟩ = some (.slice ua k'.length up) := HT.out.b3.cell 3 (by simp)
      have Z0 : wr.cell? ⟨w.heap.size + 1, 0, none⟩ = some (.string ByteArray.empty) := HT.out.b1.cell 0 (by simp)
      have Z1 : wr.cell? ⟨w.heap.size + 1, 1, none⟩ = some (.string ByteArray.empty) := HT.out.b1.cell 1 (by simp)
      have Z2 : wr.cell? ⟨w.heap.size + 1, 2, none⟩ = some (.bool false) := HT.out.b1.cell 2 (by simp)
      have Z3 : wr.cell? ⟨w.heap.size + 1, 3, none⟩ = some (.slice none 0 0) := HT.out.b1.cell 3 (by simp)
      have y0 := HT.out.b1.frozen 0
      have y1 := HT.out.b1.frozen 1
      have y2 := HT.out.b1.frozen 2
      have y3 := HT.out.b1.frozen 3
      have HW : Hid (TwR ⟨n, x, l, k⟩ room ⟨n, x, l, k'⟩ rj) := by
        have g3 := Tr.cntL_take_le k k'.length
        refine ⟨hr1, hr2, ?_, ?_, ?_⟩
        · rw [Tr.cnt_mk]
          intro h
          rcases Int.lt_or_le rj 0 with e | e
          · have := HE.out.2 e; omega
          · obtain ⟨g1, g2⟩ := HE.out.1 e
            have : k'.length = k.length := by omega
            rw [this, List.take_length] at g2
            omega
        · rw [Tr.cnt_mk]
          intro h
          rcases Int.lt_or_le rj 0 with e | e
          · exact e
          · obtain ⟨g1, g2⟩ := HE.out.1 e
            have : k'.length = k.length := by omega
            rw [this, List.take_length] at g2
            omega
        · intro e
          obtain ⟨g1, g2⟩ := HE.out.1 e
          have : k'.length = k.length := by omega
          rw [this, List.take_length] at g1
          rw [g1]
      have HD := (show Hid _ from (Grw.done (n := n) (x := x) (le := l) HT.out.grw HZ.out.1.1 HZ.out.1.2))
      have HFN : ∀ wq : World, Hid (wq = (((wr.setCell ⟨w.heap.size + 1, 0, none⟩ (.string n)).setCell ⟨w.heap.size + 1, 1, none⟩ (.string x)).setCell ⟨w.heap.size + 1, 2, none⟩ (.bool l)).setCell ⟨w.heap.size + 1, 3, none⟩ (.slice ua k'.length up)) → Hid (Below w.heap.size w wq ∧ Own wq w.heap.size wq.heap.size ⟨n, x, l, k'⟩ (.slice ua k'.length up) ∧ wq.cell? ⟨w.heap.size + 1, 0, none⟩ = some (.string n) ∧ wq.cell? ⟨w.heap.size + 1, 1, none⟩ = some (.string x) ∧ wq.cell? ⟨w.heap.size + 1, 2, none⟩ = some (.bool l) ∧ wq.cell? ⟨w.heap.size + 1, 3, none⟩ = some (.slice ua k'.length up)) := fun wq he => by
        have he := he.out
        subst he
        have hB : Box ((((wr.setCell ⟨w.heap.size + 1, 0, none⟩ (.string n)).setCell ⟨w.heap.size + 1, 1, none⟩ (.string x)).setCell ⟨w.heap.size + 1, 2, none⟩ (.bool l)).setCell ⟨w.heap.size + 1, 3, none⟩ (.slice ua k'.length up)) (w.heap.size + 1) 51 [.string n, .string x, .bool l, .slice ua k'.length up] := (((HT.out.b1.set 0 (.string n)).set 1 (.string x)).set 2 (.bool l)).set 3 (.slice ua k'.length up)
        have hD : Own wr (w.heap.size + 4) wr.heap.size ⟨n, x, l, k'⟩ (.slice ua k'.length up) := HD.out
        exact ⟨(((HT.out.bel.setCell (p := ⟨w.heap.size + 1, 0, none⟩) (by simp) _).setCell (p := ⟨w.heap.size + 1, 1, none⟩) (by simp) _).setCell (p := ⟨w.heap.size + 1, 2, none⟩) (by simp) _).setCell (p := ⟨w.heap.size + 1, 3, none⟩) (by simp) _, ((((hD.past (.inl (by omega))).past (.inl (by omega))).past (.inl (by omega))).past (.inl (by omega))).keep (by omega) (by simp) (fun _ _ _ _ => rfl), hB.cell 0 (by simp), hB.cell 1 (by simp), hB.cell 2 (by simp), hB.cell 3 (by simp)⟩
      clear HI HQ HC HKC HN HE HT HD
      rcases Nat.lt_or_ge k'.length k.length with hlt | hge
      · have hneg : rj < 0 := by omega
        go_wp2_with fail
        obtain ⟨f1, f2, o0, o1, o2, o3⟩ := (HFN _ rfl).out
        refine bodyPost_ret (v := .tuple #[.agg #[.string n, .string x, .bool l, .slice ua k'.length up], .int .i64 rj]) (by simp [results, Try.results59, go_sem, o0, o1, o2, o3]) rfl ⟨⟨n, x, l, k'⟩, rj, ua, k'.length, up, rfl, f1, f2, HW.out⟩
      · have hnl : ¬ ((k'.length : Int) < (k.length : Int)) := by omega
        go_wp2_with fail
        obtain ⟨f1, f2, o0, o1, o2, o3⟩ := (HFN _ rfl).out
        refine bodyPost_ret (v := .tuple #[.agg #[.string n, .string x, .bool l, .slice ua k'.length up], .int .i64 rj]) (by simp [results, Try.results59, go_sem, o0, o1, o2, o3]) rfl ⟨⟨n, x, l, k'⟩, rj, ua, k'.length, up, rfl, f1, f2, HW.out⟩
end Go.Proofs.Ytblfeifedcddnaa
