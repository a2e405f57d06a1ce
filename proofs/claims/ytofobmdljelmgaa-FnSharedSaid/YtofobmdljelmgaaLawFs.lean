import Derived.Test.YtofobmdljelmgaaFd
import Derived.BigQuiet
import Derived.Deep.RegionHeld3
/-! The law FnShared, walked. -/
namespace Go.Proofs.Ytofobmdljelmgaa
open Go.RowKit Go.Deep Go.Lib
set_option linter.unusedVariables false
set_option maxRecDepth 100000
set_option linter.unusedSimpArgs false

set_option maxHeartbeats 1600000 in
theorem sameInts8 {S S' : Nat → Prop} (l l' : List Int) (v v' : Value) (w : World) (h : Ints w S l v) (h' : Ints w S' l' v') :
    Calls Try.prog 10 #[v, v'] w fun e w' => e = .returned (.bool (decide (l = l'))) ∧ Below w.heap.size w w' := by
  obtain ⟨a, cap, b, off, rfl, hc, hm, ha, hcell⟩ := h
  obtain ⟨a', cap', b', off', rfl, hc', hm', ha', hcell'⟩ := h'
  have HC := (show Hid _ from hcell); clear hcell
  have HC' := (show Hid _ from hcell'); clear hcell'
  have HA := (show Hid _ from ha); clear ha
  have HA' := (show Hid _ from ha'); clear ha'
  unfold maxLen at hm hm'
  by_cases hlen : l.length = l'.length
  case neg =>
    have hd : ((l.length : Int) != (l'.length : Int)) = true := by simp; omega
    have HF := (show Hid (decide (l = l') = false) from decide_eq_false (fun e => hlen (by rw [e])))
    clear hlen
    go_enter Try.func10, Try.ntmps10
    go_wp2_with fail
    go_ret
    exact ⟨by rw [HF.out]; rfl, Below.refl _ _⟩
  have hd : ((l.length : Int) != (l'.length : Int)) = false := by simp; omega
  have hle : l.length ≤ l'.length := by omega
  have hge : l'.length ≤ l.length := by omega
  clear hlen
  generalize hRes : decide (l = l') = R
  have HRes := (show Hid _ from hRes); clear hRes
  go_enter Try.func10, Try.ntmps10
  go_wp2_with fail
  go_loopw [5] (fun i wr => ∃ j : Nat, i = .int .i64 j ∧ j ≤ l.length ∧ Hid (∀ i (hi : i < l.length) (hi' : i < l'.length), i < j → l[i] = l'[i]) ∧ Hid (Below w.heap.size w wr)) (fun i _ => l.length - (intOf i).toNat)
  case atStart => exact ⟨0, rfl, Nat.zero_le _, fun i _ _ h0 => absurd h0 (Nat.not_lt_zero _), Below.refl _ _⟩
  case round =>
    obtain ⟨j, rfl, hj, HJ, HB⟩ := hrel
    by_cases hlt : j < l.length
    · have hlt' : j < l'.length := by omega
      obtain ⟨rfl, _⟩ := HA.out (by omega)
      obtain ⟨rfl, _⟩ := HA'.out (by omega)
      have c1 := HC.out j hlt
      have c2 := HC'.out j hlt'
      rw [← HB.out.cell (lt_of_cell c1)] at c1
      rw [← HB.out.cell (lt_of_cell c2)] at c2
      have HNX := (show Hid (l[j] = l'[j] → ∀ i (hi : i < l.length) (hi' : i < l'.length), i < j + 1 → l[i] = l'[i]) from fun h i hi hi' hij => by
        by_cases e : i = j
        · subst e; exact h
        · exact HJ.out i hi hi' (by omega))
      have HFX := (show Hid (l[j] ≠ l'[j] → R = false) from fun h => by
        rw [← HRes.out]
        refine decide_eq_false (fun e => h ?_)
        subst e
        rfl)
      generalize l[j] = y at *
      generalize l'[j] = y' at *
      have q1 : (0 : Int) ≤ (j : Int) := by omega
      have q2 : (j : Int) < (l.length : Int) := by omega
      have q3 : (j : Int) < (l'.length : Int) := by omega
      by_cases he : y = y'
      · have hb : (y != y') = false := by simp [he]
        have HN := (show Hid _ from HNX.out he)
        clear he
        go_wp2_with fail
        go_quiet (fail)
        go_wp2_with fail
        exact ⟨⟨j + 1, by go_num, by omega, HN, ⟨HB.out.os, HB.out.tape, HB.out.output, HB.out.size, HB.out.block⟩⟩, by simp [intOf]; omega⟩
      · have hb : (y != y') = true := by simp [he]
        have HF := (show Hid _ from HFX.out he)
        clear he
        go_wp2_with fail
        go_quiet (fail)
        go_wp2_with fail
        go_ret
        exact ⟨by rw [HF.out]; rfl, ⟨HB.out.os, HB.out.tape, HB.out.output, HB.out.size, HB.out.block⟩⟩
    · have HF := (show Hid (R = true) from by
        show R = true
        rw [← HRes.out]
        refine decide_eq_true (List.ext_getElem (by omega) (fun i h1 h2 => HJ.out i h1 h2 (by omega)))) 
      go_wp2_with fail
      go_ret
      exact ⟨by rw [HF.out]; rfl, HB.out⟩
theorem Rds.ltF {w : World} {S : Nat → Prop} {ns : List Rd} {v : Value} (h : Rds w S ns v) : Rds w (fun b => b < w.heap.size) ns v := by
  obtain ⟨a, cap, b, off, sv, hv, hc, hm, ha, hcell, hz, hr⟩ := h
  refine ⟨a, cap, b, off, sv, hv, hc, hm, fun h0 => ⟨(ha h0).1, lt_of_cell (hcell 0 h0).1⟩, hcell, hz, fun i hi => ?_⟩
  obtain ⟨a1, c1, b1, o1, e1, e2, e3, e4, e5⟩ := hr i hi
  exact ⟨a1, c1, b1, o1, e1, e2, e3, fun h0 => ⟨(e4 h0).1, lt_of_cell (e5 0 h0)⟩, e5⟩
def DsT (T : List Tr) (w : World) (e : Ending) (w' : World) : Prop :=
  ∃ (xa : Option Addr) (xc : Nat), e = .returned (.slice xa T.length xc) ∧ Below w.heap.size w w' ∧ Trs w' (fun q => q < w'.heap.size) T (.slice xa T.length xc)
/-- The cells of a tree in a row. -/
theorem Trs.at {w : World} {S : Nat → Prop} {k : List Tr} {v : Value} (h : Trs w S k v) : ∃ (a : Option Addr) (cap b off : Nat) (sv : Nat → Value), v = .slice a k.length cap ∧ k.length ≤ maxLen ∧ (0 < k.length → a = some ⟨b, off, none⟩) ∧ ∀ i (hi : i < k.length), (∃ x y z, sv i = .slice x y z) ∧ Lies w S k[i] (sv i) ∧ w.cell? ⟨b, off + i * 4, none⟩ = some (.string k[i].name) ∧ w.cell? ⟨b, off + i * 4 + 1, none⟩ = some (.string k[i].text) ∧ w.cell? ⟨b, off + i * 4 + 2, none⟩ = some (.bool k[i].leaf) ∧ w.cell? ⟨b, off + i * 4 + 3, none⟩ = some (sv i) := by
  obtain ⟨a, cap, b, off, sv, hv, hc, hm, ha, hcell, hr⟩ := h
  exact ⟨a, cap, b, off, sv, hv, by omega, fun h0 => (ha h0).1, fun i hi => ⟨(hr i hi).form, hr i hi, (hcell i hi).1, (hcell i hi).2.1, (hcell i hi).2.2.1, (hcell i hi).2.2.2⟩⟩
/-- What lies there behind both. -/
structure LF (w : World) (ns : List Nd) (rs : List Nat) (p5 : Nat) (u r : Value) (W : World) : Prop where
  bel : Below w.heap.size w W
  b5 : Box W p5 27 [u, r]
  n : Rds W (fun _ => True) (ns.map rd) u
  i : Ints W (fun _ => True) (ins rs) r
theorem LF.still {w : World} {ns : List Nd} {rs : List Nat} {p5 : Nat} {u r : Value} {W W' : World} (h : LF w ns rs p5 u r W) (hb : Below W.heap.size W W') : LF w ns rs p5 u r W' := ⟨bel_trans h.bel hb, h.b5.still hb, h.n.still hb, h.i.still hb⟩
set_option maxHeartbeats 12800000 in
theorem lawFs {cs : List UInt8} {a : Option Addr} {cap b off : Nat} (w : World) (h3 : cs.length ≤ cap) (h4 : cap ≤ 2 ^ 63 - 1) (h6 : 0 < cs.length → a = some ⟨b, off, none⟩) (h7 : Byts w cs b off) :
    Calls Try.prog 3 #[.slice a cs.length cap] w fun e w' => e = .returned (.bool true) ∧ Below w.heap.size w w' := by
  have HBG := (show Hid _ from big_any a cs.length cap w (by omega))
  by_cases h2 : cs.length ≤ 1048576
  case neg =>
    have hd : decide (1048576 < cs.length) = true := by simp; omega
    rw [hd] at HBG
    clear h2 h3 h4 h6 h7 hd
    go_enter Try.func3, Try.ntmps3
    go_wp2_with fail
    refine Calls.mono HBG.out ?_
    rintro e w1 ⟨rfl, rfl⟩
    go_wp2_with fail
    go_ret
    exact ⟨rfl, Below.refl _ _⟩
  have hd : decide (1048576 < cs.length) = false := by simp; omega
  rw [hd] at HBG
  obtain ⟨T, hT⟩ : ∃ T, cShare cs = T := ⟨_, rfl⟩
  have HDS : Hid (∀ w', Below w.heap.size w w' → Calls Try.prog 8 #[.slice a cs.length cap] w' (DsT T w')) := fun w' hb => by
    rw [← hT]
    exact drawShare6 w' h2 h3 h4 (fun h0 => by have := lt_of_cell (h7 0 h0); have := hb.size; dsimp only at *; omega) h6 (fun i hi => (hb.cell (lt_of_cell (h7 i hi))).trans (h7 i hi))
  clear h2 h3 h4 h6 h7 hd hT
  have HSP := (show Hid (∀ (v : Value) (w' : World), Trs w' (fun q => q < w'.heap.size) T v → Calls Try.prog 7 #[v] w' (ShT T w')) from fun v w' h => sShare T v w' (fun q hq => hq) h)
  have HIM := (show Hid (∀ (v : Value) (w' : World), Trs w' (fun q => q < w'.heap.size) T v → Calls Try.prog 9 #[v] w' (ShT T w')) from fun v w' h => iShare T v w' (fun q hq => hq) h)
  have hneC : ((shC T : Int) != shC T) = false := by simp
  go_enter Try.func3, Try.ntmps3
  go_wp2_with fail
  refine Calls.mono HBG.out ?_
  rintro e w0 ⟨rfl, rfl⟩
  clear HBG
  go_wp2_with fail
  refine Calls.mono (HDS.out w0 (Below.refl _ _)) ?_
  rintro e w1 ⟨xa, xc, rfl, hb1, ht1⟩
  have H1 := (show Hid (Below w0.heap.size w0 w1 ∧ Calls Try.prog 7 #[.slice xa T.length xc] w1 (ShT T w1)) from ⟨hb1, HSP.out _ w1 ht1⟩)
  clear hb1 ht1 HSP
  go_wp2_with fail
  refine Calls.mono H1.out.2 ?_
  rintro e w2 ⟨u1, r1, rfl, hb2, hd2⟩
  obtain ⟨a1, c1, a2, c2, eu1, er1, _, _⟩ := hd2.forms
  have hba2 := bel_alloc w2 (.cells #[u1, r1] 27)
  have H2 := (show Hid (Below w0.heap.size w0 (w2.alloc (.cells #[u1, r1] 27)) ∧ Box (w2.alloc (.cells #[u1, r1] 27)) w2.heap.size 27 [u1, r1] ∧ DgR w1.heap.size (w2.alloc (.cells #[u1, r1] 27)) (shN T).1 (shN T).2 u1 r1) from ⟨bel_trans (bel_trans H1.out.1 hb2) hba2, Box.new _ _ _, hd2.still hba2⟩)
  clear hb2 hd2 hba2 H1
  subst eu1 er1
  go_wp2_with fail
  refine Calls.mono (HDS.out _ H2.out.1) ?_
  rintro e w3 ⟨ya, yc, rfl, hb3, ht3⟩
  have H3 := (show Hid (Below w0.heap.size w0 w3 ∧ Box w3 w2.heap.size 27 [.slice a1 (shN T).1.length c1, .slice a2 (shN T).2.length c2] ∧ DgR w1.heap.size w3 (shN T).1 (shN T).2 (.slice a1 (shN T).1.length c1) (.slice a2 (shN T).2.length c2) ∧ Calls Try.prog 9 #[.slice ya T.length yc] w3 (ShT T w3)) from ⟨bel_trans H2.out.1 hb3, H2.out.2.1.still hb3, H2.out.2.2.still hb3, HIM.out _ w3 ht3⟩)
  clear hb3 ht3 HIM H2
  go_wp2_with fail
  refine Calls.mono H3.out.2.2.2 ?_
  rintro e w4 ⟨u2, r2, rfl, hb4, hd4⟩
  obtain ⟨a3, c3, a4, c4, eu2, er2, _, _⟩ := hd4.forms
  have hba4 := bel_alloc w4 (.cells #[u2, r2] 27)
  have H4 := (show Hid (Below w0.heap.size w0 (w4.alloc (.cells #[u2, r2] 27)) ∧ Box (w4.alloc (.cells #[u2, r2] 27)) w2.heap.size 27 [.slice a1 (shN T).1.length c1, .slice a2 (shN T).2.length c2] ∧ Box (w4.alloc (.cells #[u2, r2] 27)) w4.heap.size 27 [u2, r2] ∧ DgR w3.heap.size (w4.alloc (.cells #[u2, r2] 27)) (shN T).1 (shN T).2 u2 r2 ∧ Ints (w4.alloc (.cells #[u2, r2] 27)) (fun _ => True) (ins (shN T).2) r2 ∧ Ints (w4.alloc (.cells #[u2, r2] 27)) (fun _ => True) (ins (shN T).2) (.slice a2 (shN T).2.length c2)) from (by
    have q := bel_trans hb4 hba4
    have d2 := H3.out.2.2.1.still q
    have d4 := hd4.still hba4
    refine ⟨bel_trans H3.out.1 q, H3.out.2.1.still q, Box.new _ _ _, d4, ?_, ?_⟩
    · obtain ⟨K, g1, g2, g3⟩ := d4
      refine own_row_ints (B := w3.heap.size) ?_
      rw [ins_len]
      exact g2
    · obtain ⟨K, g1, g2, g3⟩ := d2
      refine own_row_ints (B := w1.heap.size) ?_
      rw [ins_len]
      exact g2))
  clear hb4 hd4 hba4 H3
  subst eu2 er2
  have t0 : (w4.alloc (.cells #[.slice a3 (shN T).1.length c3, .slice a4 (shN T).2.length c4] 27)).cell? ⟨w2.heap.size, 0, none⟩ = some (.slice a1 (shN T).1.length c1) := H4.out.2.1.cell 0 (by simp)
  have t1 : (w4.alloc (.cells #[.slice a3 (shN T).1.length c3, .slice a4 (shN T).2.length c4] 27)).cell? ⟨w2.heap.size, 1, none⟩ = some (.slice a2 (shN T).2.length c2) := H4.out.2.1.cell 1 (by simp)
  have t2 : (w4.alloc (.cells #[.slice a3 (shN T).1.length c3, .slice a4 (shN T).2.length c4] 27)).cell? ⟨w4.heap.size, 0, none⟩ = some (.slice a3 (shN T).1.length c3) := H4.out.2.2.1.cell 0 (by simp)
  have t3 : (w4.alloc (.cells #[.slice a3 (shN T).1.length c3, .slice a4 (shN T).2.length c4] 27)).cell? ⟨w4.heap.size, 1, none⟩ = some (.slice a4 (shN T).2.length c4) := H4.out.2.2.1.cell 1 (by simp)
  have hneN : (((shN T).1.length : Int) != ((shN T).1.length : Int)) = false := by simp
  have HSI : Hid (Calls Try.prog 10 #[.slice a4 (shN T).2.length c4, .slice a2 (shN T).2.length c2] (w4.alloc (.cells #[.slice a3 (shN T).1.length c3, .slice a4 (shN T).2.length c4] 27)) fun e w' => e = .returned (.bool true) ∧ Below (w4.alloc (.cells #[.slice a3 (shN T).1.length c3, .slice a4 (shN T).2.length c4] 27)).heap.size (w4.alloc (.cells #[.slice a3 (shN T).1.length c3, .slice a4 (shN T).2.length c4] 27)) w') := Calls.mono (sameInts8 _ _ _ _ _ H4.out.2.2.2.2.1 H4.out.2.2.2.2.2) (fun e w' ⟨e1, e2⟩ => ⟨by rw [e1, decide_eq_true rfl], e2⟩)
  go_wp2_with fail
  refine Calls.mono HSI.out ?_
  rintro e w5 ⟨rfl, hb5⟩
  have H5 := (show Hid (Below w0.heap.size w0 w5 ∧ Box w5 w4.heap.size 27 [.slice a3 (shN T).1.length c3, .slice a4 (shN T).2.length c4] ∧ DgR w3.heap.size w5 (shN T).1 (shN T).2 (.slice a3 (shN T).1.length c3) (.slice a4 (shN T).2.length c4) ∧ Ints w5 (fun _ => True) (ins (shN T).2) (.slice a4 (shN T).2.length c4)) from ⟨bel_trans H4.out.1 hb5, H4.out.2.2.1.still hb5, H4.out.2.2.2.1.still hb5, H4.out.2.2.2.2.1.still hb5⟩)
  clear hb5 H4 HSI t0 t1 t2 t3 hneN
  cases htk : tksB T
  · have hsc : shC T = 1 := by unfold shC; rw [htk]; rfl
    have HB := (show Hid _ from H5.out.1)
    rw [hsc]
    clear hsc htk H5 HDS hneC
    go_wp2_with fail
    go_ret
    exact ⟨rfl, HB.out⟩
  have hsc : shC T = 0 := by unfold shC; rw [htk]; rfl
  have hsn : shN T = putTs T [] := by unfold shN; rw [htk]; rfl
  have HL : Hid (LF w0 (putTs T []).1 (putTs T []).2 w4.heap.size (.slice a3 (shN T).1.length c3) (.slice a4 (shN T).2.length c4) w5) := by
    obtain ⟨q1, q2, q3, q4⟩ := H5.out
    rw [hsn] at q2 q3 q4 ⊢
    obtain ⟨K, g1, g2, g3⟩ := q3
    exact ⟨q1, q2, g1.rds (putTs_sz htk), q4⟩
  rw [hsc]
  rw [hsn] at HL ⊢
  clear H5 hneC hsc hsn
  have hnl := putTs_num T
  have HND0 := (show Hid (∀ i k : Nat, k < i → ∀ hi : i < (putTs T []).1.length, ∀ hk : k < (putTs T []).1.length, ¬ ((putTs T []).1[i].nm = (putTs T []).1[k].nm ∧ (putTs T []).1[i].tx = (putTs T []).1[k].tx ∧ (putTs T []).1[i].lf = (putTs T []).1[k].lf ∧ (putTs T []).1[i].ks = (putTs T []).1[k].ks)) from fun i k h hi hk => nodes_differ h hi)
  have HUS := (show Hid (∀ T' c, UnR ((putTs T []).1.map rd) (ins (putTs T []).2) (T', c) → T' = T ∧ c = 0) from fun T' c h => unR_share htk h)
  have HTK := (show Hid (∀ t ∈ T, t.ok = true) from (by
    have h := htk
    unfold tksB at h
    rw [Bool.and_eq_true, List.all_eq_true] at h
    exact h.2))
  clear htk hnl
  generalize (putTs T []).1 = ns at *
  generalize (putTs T []).2 = rs at *
  have HIN := (show Hid (∀ (u r : Value) (w' : World), Rds w' (fun _ => True) (ns.map rd) u → Ints w' (fun _ => True) (ins rs) r → Calls Try.prog 11 #[.agg #[u, r]] w' (UnA (ns.map rd) (ins rs) w')) from fun u r w' g1 g2 => iUnshare (ns.map rd) (ins rs) u r w' (fun q hq => hq) g1.ltF g2)
  obtain ⟨na, ncap, nb, noff, nsv, hnv, hnc, hnm, hna, hncell, hnz, hnr⟩ := HL.out.n
  have hml : (ns.map rd).length = ns.length := by simp
  rw [hml] at hnv hnc hna
  simp only [Value.slice.injEq, true_and] at hnv
  obtain ⟨rfl, rfl⟩ := hnv
  have HNA := (show Hid (0 < ns.length → a3 = some ⟨nb, noff, none⟩) from fun h0 => (hna h0).1)
  have HNC := (show Hid (∀ i (hi : i < ns.length), (∃ x y z, nsv i = .slice x y z) ∧ Ints w5 (fun _ => True) (ins ns[i].ks) (nsv i) ∧ w5.cell? ⟨nb, noff + i * 4, none⟩ = some (.string ns[i].nm) ∧ w5.cell? ⟨nb, noff + i * 4 + 1, none⟩ = some (.string ns[i].tx) ∧ w5.cell? ⟨nb, noff + i * 4 + 2, none⟩ = some (.bool ns[i].lf) ∧ w5.cell? ⟨nb, noff + i * 4 + 3, none⟩ = some (nsv i)) from fun i hi => by
    have h1 := hncell i (by omega)
    have h2 := hnr i (by omega)
    rw [List.getElem_map] at h1 h2
    exact ⟨h2.form, h2, h1.1, h1.2.1, h1.2.2.1, h1.2.2.2⟩)
  clear hncell hnz hnr hna hml
  unfold maxLen at hnm
  generalize hp5 : w4.heap.size = p5 at *
  clear hp5
  go_wp2_with fail
  go_loopw [7] (fun i wr => ∃ j : Nat, i = .int .i64 j ∧ j ≤ ns.length ∧ Hid (Below w5.heap.size w5 wr)) (fun i _ => ns.length - (intOf i).toNat)
  case atStart => exact ⟨0, rfl, Nat.zero_le _, Below.refl _ _⟩
  case round =>
    obtain ⟨j, rfl, hj, HB⟩ := hrel
    have hLr := HL.out.still HB.out
    have B0 : wr.cell? ⟨p5, 0, none⟩ = some (.slice a3 ns.length c3) := hLr.b5.cell 0 (by simp)
    have B1 : wr.cell? ⟨p5, 1, none⟩ = some (.slice a4 rs.length c4) := hLr.b5.cell 1 (by simp)
    by_cases hlt : j < ns.length
    · clear hLr B1
      obtain rfl := HNA.out (by omega)
      go_wp2_with fail
      clear B0
      go_loopw [8] (fun v wq => ∃ q : Nat, v = .int .i64 q ∧ q ≤ j ∧ Hid (Below w5.heap.size w5 wq)) (fun v _ => j - (intOf v).toNat)
      case atStart => exact ⟨0, rfl, Nat.zero_le _, HB.out⟩
      case round =>
        obtain ⟨q, rfl, hq, HQ⟩ := hrel
        clear HB
        by_cases hgo : q < j ∧ j < 200
        · obtain ⟨hqj, hj2⟩ := hgo
          obtain ⟨q, rfl⟩ : ∃ x, q = x := ⟨q, rfl⟩
          have hqn : q < ns.length := by omega
          have HDF := HND0.out j q hqj hlt hqn
          obtain ⟨⟨s1, s2, s3, es⟩, hi1, x0, x1, x2, x3⟩ := HNC.out j hlt
          obtain ⟨⟨r1, r2, r3, er⟩, hi2, y0, y1, y2, y3⟩ := HNC.out q hqn
          rw [es] at x3 hi1
          rw [er] at y3 hi2
          have mv : ∀ {b o : Nat} {v : Value}, w5.cell? ⟨b, o, none⟩ = some v → wr.cell? ⟨b, o, none⟩ = some v := fun h => (HQ.out.cell (lt_of_cell h)).trans h
          have hnlt : nb < wr.heap.size := by have h9 := lt_of_cell (mv x0); exact h9
          replace x0 := mv x0
          replace x1 := mv x1
          replace x2 := mv x2
          replace x3 := mv x3
          replace y0 := mv y0
          replace y1 := mv y1
          replace y2 := mv y2
          replace y3 := mv y3
          have B0 : wr.cell? ⟨p5, 0, none⟩ = some (.slice (some ⟨nb, noff, none⟩) ns.length c3) := (HL.out.still HQ.out).b5.cell 0 (by simp)
          have hp5 : p5 < wr.heap.size := (HL.out.still HQ.out).b5.lt
          have hb2 : Below wr.heap.size wr ((wr.alloc (.cells #[.string ns[j].nm, .string ns[j].tx, .bool ns[j].lf, .slice s1 s2 s3] 34)).alloc (.cells #[.string ns[q].nm, .string ns[q].tx, .bool ns[q].lf, .slice r1 r2 r3] 34)) := (bel_alloc _ _).alloc (by simp) _
          have HB2 := (show Hid (Below w5.heap.size w5 ((wr.alloc (.cells #[.string ns[j].nm, .string ns[j].tx, .bool ns[j].lf, .slice s1 s2 s3] 34)).alloc (.cells #[.string ns[q].nm, .string ns[q].tx, .bool ns[q].lf, .slice r1 r2 r3] 34))) from bel_trans HQ.out hb2)
          have HSI : Hid (Calls Try.prog 10 #[.slice s1 s2 s3, .slice r1 r2 r3] ((wr.alloc (.cells #[.string ns[j].nm, .string ns[j].tx, .bool ns[j].lf, .slice s1 s2 s3] 34)).alloc (.cells #[.string ns[q].nm, .string ns[q].tx, .bool ns[q].lf, .slice r1 r2 r3] 34)) fun e w' => e = .returned (.bool (decide (ins ns[j].ks = ins ns[q].ks))) ∧ Below ((wr.alloc (.cells #[.string ns[j].nm, .string ns[j].tx, .bool ns[j].lf, .slice s1 s2 s3] 34)).alloc (.cells #[.string ns[q].nm, .string ns[q].tx, .bool ns[q].lf, .slice r1 r2 r3] 34)).heap.size ((wr.alloc (.cells #[.string ns[j].nm, .string ns[j].tx, .bool ns[j].lf, .slice s1 s2 s3] 34)).alloc (.cells #[.string ns[q].nm, .string ns[q].tx, .bool ns[q].lf, .slice r1 r2 r3] 34)) w') := sameInts8 _ _ _ _ _ (hi1.still (bel_trans HQ.out hb2)) (hi2.still (bel_trans HQ.out hb2))
          have HKD := (show Hid (ns[j].nm = ns[q].nm → ns[j].tx = ns[q].tx → ns[j].lf = ns[q].lf → decide (ins ns[j].ks = ins ns[q].ks) = false) from fun g1 g2 g3 => decide_eq_false (fun g4 => HDF ⟨g1, g2, g3, ins_inj.1 g4⟩))
          clear mv hi1 hi2 es er HDF hb2
          generalize decide (ins ns[j].ks = ins ns[q].ks) = D at *
          generalize ns[j].nm = n1 at *
          generalize ns[j].tx = n2 at *
          generalize ns[j].lf = n3 at *
          generalize ns[q].nm = m1 at *
          generalize ns[q].tx = m2 at *
          generalize ns[q].lf = m3 at *
          have hqj' : (q : Int) < (j : Int) := by omega
          have hj2' : (j : Int) < 200 := by omega
          have hjn : (j : Int) < (ns.length : Int) := by omega
          have hqn' : (q : Int) < (ns.length : Int) := by omega
          have hdj : decide (q < j) = true := by simp; omega
          have hd2 : decide (j < 200) = true := by simp; omega
          by_cases e1 : n1 = m1
          · subst e1
            by_cases e2 : n2 = m2
            · subst e2
              by_cases e3 : n3 = m3
              · subst e3
                have hD := HKD.out rfl rfl rfl
                rw [hD] at HSI
                clear hD HKD
                go_wp2_with fail
                refine Calls.mono HSI.out ?_
                rintro e w6 ⟨rfl, hb6⟩
                have HB6 := (show Hid _ from bel_trans HB2.out hb6)
                clear hb6 HSI HB2
                go_wp2_with fail
                exact ⟨⟨q + 1, by go_num, by omega, HB6⟩, by simp [intOf]; omega⟩
              · have hd : (n3 == m3) = false := by simpa using e3
                clear HSI HKD
                go_wp2_with fail
                exact ⟨⟨q + 1, by go_num, by omega, HB2⟩, by simp [intOf]; omega⟩
            · have hd := ne_bytes e2
              clear HSI HKD
              go_wp2_with fail
              exact ⟨⟨q + 1, by go_num, by omega, HB2⟩, by simp [intOf]; omega⟩
          · have hd := ne_bytes e1
            clear HSI HKD
            go_wp2_with fail
            exact ⟨⟨q + 1, by go_num, by omega, HB2⟩, by simp [intOf]; omega⟩
        · by_cases hqj : q < j
          · have hj2 : ¬ ((j : Int) < 200) := by omega
            have hd2 : decide (j < 200) = false := by simp; omega
            have hdj : decide (q < j) = true := by simp; omega
            go_wp2_with fail
            exact ⟨⟨j + 1, by go_num, by omega, HQ⟩, by simp [intOf]; omega⟩
          · have hqj' : ¬ ((q : Int) < (j : Int)) := by omega
            have hdj : decide (q < j) = false := by simp; omega
            go_wp2_with fail
            exact ⟨⟨j + 1, by go_num, by omega, HQ⟩, by simp [intOf]; omega⟩
    · have HUC := (show Hid (Calls Try.prog 11 #[.agg #[.slice a3 ns.length c3, .slice a4 rs.length c4]] wr (UnA (ns.map rd) (ins rs) wr)) from HIN.out _ _ wr hLr.n hLr.i)
      have HLR := (show Hid _ from hLr.bel)
      have hnj : ¬ ((j : Int) < (ns.length : Int)) := by omega
      clear hLr HND0 HNC HNA HIN HB HL
      go_wp2_with fail
      refine Calls.mono HUC.out ?_
      rintro e w6 ⟨T', c', ua, um, uc, hR, rfl, hb6, ho6⟩
      obtain ⟨eT, ec⟩ := HUS.out _ _ hR
      subst ec
      rw [eT] at ho6
      have hb6' := bel_trans HLR.out hb6
      have ht6 := (Own.trs ho6)
      clear hR ho6 HUC HUS HLR hb6 B0 B1 eT
      obtain ⟨ta, tcap, tb, toff, tsv, etv, htm, hta, htc⟩ := Trs.at ht6
      simp only [Value.slice.injEq] at etv
      obtain ⟨rfl, rfl, rfl⟩ := etv
      unfold maxLen at htm
      have HT6 := (show Hid _ from htc)
      have HB6 := (show Hid (Below w0.heap.size w0 w6) from hb6')
      have HTA := (show Hid _ from hta)
      clear ht6 htc hb6' hta
      go_wp2_with fail
      refine Calls.mono (HDS.out w6 HB6.out) ?_
      rintro e w7 ⟨fa, fc, rfl, hb7, ht7⟩
      obtain ⟨fa', fcap, fb, foff, fsv, efv, hfm, hfa, hfc⟩ := Trs.at ht7
      simp only [Value.slice.injEq, true_and] at efv
      obtain ⟨rfl, rfl⟩ := efv
      have HT7 := (show Hid (∀ i (hi : i < T.length), ((∃ x y z, tsv i = .slice x y z) ∧ (∃ x y z, fsv i = .slice x y z)) ∧ Lies w7 (fun _ => True) T[i] (tsv i) ∧ Lies w7 (fun _ => True) T[i] (fsv i) ∧ (w7.cell? ⟨tb, toff + i * 4, none⟩ = some (.string T[i].name) ∧ w7.cell? ⟨tb, toff + i * 4 + 1, none⟩ = some (.string T[i].text) ∧ w7.cell? ⟨tb, toff + i * 4 + 2, none⟩ = some (.bool T[i].leaf) ∧ w7.cell? ⟨tb, toff + i * 4 + 3, none⟩ = some (tsv i)) ∧ (w7.cell? ⟨fb, foff + i * 4, none⟩ = some (.string T[i].name) ∧ w7.cell? ⟨fb, foff + i * 4 + 1, none⟩ = some (.string T[i].text) ∧ w7.cell? ⟨fb, foff + i * 4 + 2, none⟩ = some (.bool T[i].leaf) ∧ w7.cell? ⟨fb, foff + i * 4 + 3, none⟩ = some (fsv i))) from fun i hi => by
        obtain ⟨g1, g2, g3, g4, g5, g6⟩ := HT6.out i hi
        obtain ⟨k1, k2, k3⟩ := hfc i hi
        have mv : ∀ {b o : Nat} {v : Value}, w6.cell? ⟨b, o, none⟩ = some v → w7.cell? ⟨b, o, none⟩ = some v := fun h => (hb7.cell (lt_of_cell h)).trans h
        exact ⟨⟨g1, k1⟩, (Lies.still g2 hb7).mono (fun _ _ => trivial), Lies.mono (fun _ _ => trivial) k2, ⟨mv g3, mv g4, mv g5, mv g6⟩, k3⟩)
      have HB7 := (show Hid (Below w0.heap.size w0 w7) from bel_trans HB6.out hb7)
      have HFA := (show Hid _ from hfa)
      clear ht7 hfc hb7 HT6 HB6 HDS hfa hfm
      have hneT : ((T.length : Int) != (T.length : Int)) = false := by simp
      go_wp2_with fail
      clear hneT
      go_loopw [13] (fun i wr => ∃ j : Nat, i = .int .i64 j ∧ j ≤ T.length ∧ Hid (Below w7.heap.size w7 wr)) (fun i _ => T.length - (intOf i).toNat)
      case atStart => exact ⟨0, rfl, Nat.zero_le _, Below.refl _ _⟩
      case round =>
        obtain ⟨j, rfl, hj, HB⟩ := hrel
        by_cases hlt : j < T.length
        · obtain rfl := HTA.out (by omega)
          obtain rfl := HFA.out (by omega)
          obtain ⟨⟨⟨s1, s2, s3, es⟩, r1, r2, r3, er⟩, l1, l2, c1, c2⟩ := HT7.out j hlt
          rw [es] at c1 l1
          rw [er] at c2 l2
          have HCL := (show Hid (∀ wq, Below w7.heap.size w7 wq → Calls Try.prog 12 #[.agg #[.string T[j].name, .string T[j].text, .bool T[j].leaf, .slice s1 s2 s3], .agg #[.string T[j].name, .string T[j].text, .bool T[j].leaf, .slice r1 r2 r3]] wq fun e w' => e = .returned (.bool true) ∧ Below wq.heap.size wq w') from fun wq hb => same_any T[j] _ _ wq (l1.still hb) (l2.still hb))
          have HSS := (show Hid (∀ wq, Below w7.heap.size w7 wq → (wq.cell? ⟨tb, toff + j * 4, none⟩ = some (.string T[j].name) ∧ wq.cell? ⟨tb, toff + j * 4 + 1, none⟩ = some (.string T[j].text) ∧ wq.cell? ⟨tb, toff + j * 4 + 2, none⟩ = some (.bool T[j].leaf) ∧ wq.cell? ⟨tb, toff + j * 4 + 3, none⟩ = some (.slice s1 s2 s3)) ∧ wq.cell? ⟨fb, foff + j * 4, none⟩ = some (.string T[j].name) ∧ wq.cell? ⟨fb, foff + j * 4 + 1, none⟩ = some (.string T[j].text) ∧ wq.cell? ⟨fb, foff + j * 4 + 2, none⟩ = some (.bool T[j].leaf) ∧ wq.cell? ⟨fb, foff + j * 4 + 3, none⟩ = some (.slice r1 r2 r3)) from fun wq hb => by
            have mv : ∀ {b o : Nat} {v : Value}, w7.cell? ⟨b, o, none⟩ = some v → wq.cell? ⟨b, o, none⟩ = some v := fun h => (hb.cell (lt_of_cell h)).trans h
            exact ⟨⟨mv c1.1, mv c1.2.1, mv c1.2.2.1, mv c1.2.2.2⟩, mv c2.1, mv c2.2.1, mv c2.2.2.1, mv c2.2.2.2⟩)
          clear c1 c2 l1 l2 es er
          generalize T[j].name = kn at *
          generalize T[j].text = kx at *
          generalize T[j].leaf = kl at *
          have hdr : Below w7.heap.size w7 wr.drew := HB.out.drew
          have hS0 := HSS.out _ hdr
          have HDR := (show Hid _ from hdr); clear hdr
          have hjl : (j : Int) < (T.length : Int) := by omega
          go_wp2_with fail
          go_region_held3 (fun wq => (wq.cell? ⟨tb, toff + j * 4, none⟩ = some (.string kn) ∧ wq.cell? ⟨tb, toff + j * 4 + 1, none⟩ = some (.string kx) ∧ wq.cell? ⟨tb, toff + j * 4 + 2, none⟩ = some (.bool kl) ∧ wq.cell? ⟨tb, toff + j * 4 + 3, none⟩ = some (.slice s1 s2 s3)) ∧ wq.cell? ⟨fb, foff + j * 4, none⟩ = some (.string kn) ∧ wq.cell? ⟨fb, foff + j * 4 + 1, none⟩ = some (.string kx) ∧ wq.cell? ⟨fb, foff + j * 4 + 2, none⟩ = some (.bool kl) ∧ wq.cell? ⟨fb, foff + j * 4 + 3, none⟩ = some (.slice r1 r2 r3)) (first | with_reducible exact hS0 | with_reducible exact hS1) ((first | (go_at_call 12; refine Calls.mono (HCL.out _ HDR.out) ?_; rintro e w8 ⟨rfl, hb8⟩; have hx8 := HDR.out.trans (hb8.mono HDR.out.size); have hS1 := HSS.out _ hx8)))
          have HB8 := (show Hid (Below w7.heap.size w7 w8) from hx8)
          clear hS0 hS1 hb8 hx8 HCL HSS HDR
          go_wp2_with fail
          exact ⟨⟨j + 1, by go_num, by omega, HB8⟩, by simp [intOf]; omega⟩
        · have hnl : ¬ ((j : Int) < (T.length : Int)) := by omega
          by_cases h0 : T.length = 0
          · have HE := (show Hid _ from bel_trans HB7.out HB.out)
            have he0 : ((T.length : Int) == 0) = true := by simp [h0]
            have hj0 : j = 0 := by omega
            clear HT7 HTK HTA HFA HB7 HB h0
            go_wp2_with fail
            go_ret
            exact ⟨rfl, HE.out⟩
          · have he0 : ((T.length : Int) == 0) = false := by rw [beq_eq_false_iff_ne]; omega
            have hpos : (0 : Int) < (T.length : Int) := by omega
            obtain rfl := HTA.out (by omega)
            obtain rfl := HFA.out (by omega)
            have hlt0 : 0 < T.length := by omega
            obtain ⟨⟨⟨s1, s2, s3, es⟩, r1, r2, r3, er⟩, l1, l2, c1, c2⟩ := HT7.out 0 hlt0
            rw [es] at c1 l1
            rw [er] at c2 l2
            simp only [Nat.zero_mul, Nat.add_zero] at c1 c2
            have hok : T[0].ok = true := HTK.out _ (List.getElem_mem hlt0)
            obtain ⟨hsw, hsc⟩ := swN_self hok
            have HCL := (show Hid (∀ wq, Below w7.heap.size w7 wq → Calls Try.prog 13 #[.agg #[.string T[0].name, .string T[0].text, .bool T[0].leaf, .slice r1 r2 r3], .agg #[.string T[0].name, .string T[0].text, .bool T[0].leaf, .slice s1 s2 s3]] wq fun e w' => e = .returned (.tuple #[.int .i64 (T[0].cnt : Nat), .int .i64 0]) ∧ Below wq.heap.size wq w') from fun wq hb => by
              have := iShared T[0] T[0] _ _ wq (l2.still hb) (l1.still hb)
              unfold SwR at this
              rw [hsw, hsc] at this
              exact this)
            have HSZ := (show Hid (∀ wq, Below w7.heap.size w7 wq → Calls Try.prog 14 #[.agg #[.string T[0].name, .string T[0].text, .bool T[0].leaf, .slice r1 r2 r3]] wq fun e w' => e = .returned (.tuple #[.int .i64 T[0].cnt, .int .i64 T[0].deep, .int .i64 0]) ∧ Below wq.heap.size wq w') from fun wq hb => tsize_yes T[0] _ wq (l2.still hb) hok)
            have HSS := (show Hid (∀ wq, Below w7.heap.size w7 wq → (wq.cell? ⟨tb, toff, none⟩ = some (.string T[0].name) ∧ wq.cell? ⟨tb, toff + 1, none⟩ = some (.string T[0].text) ∧ wq.cell? ⟨tb, toff + 2, none⟩ = some (.bool T[0].leaf) ∧ wq.cell? ⟨tb, toff + 3, none⟩ = some (.slice s1 s2 s3)) ∧ wq.cell? ⟨fb, foff, none⟩ = some (.string T[0].name) ∧ wq.cell? ⟨fb, foff + 1, none⟩ = some (.string T[0].text) ∧ wq.cell? ⟨fb, foff + 2, none⟩ = some (.bool T[0].leaf) ∧ wq.cell? ⟨fb, foff + 3, none⟩ = some (.slice r1 r2 r3)) from fun wq hb => by
              have mv : ∀ {b o : Nat} {v : Value}, w7.cell? ⟨b, o, none⟩ = some v → wq.cell? ⟨b, o, none⟩ = some v := fun h => (hb.cell (lt_of_cell h)).trans h
              exact ⟨⟨mv c1.1, mv c1.2.1, mv c1.2.2.1, mv c1.2.2.2⟩, mv c2.1, mv c2.2.1, mv c2.2.2.1, mv c2.2.2.2⟩)
            clear c1 c2 l1 l2 es er hsw hsc hok HT7 HTK HTA HFA h0
            generalize T[0].name = kn at *
            generalize T[0].text = kx at *
            generalize T[0].leaf = kl at *
            generalize T[0].cnt = kc0 at *
            generalize T[0].deep = kd0 at *
            have hdr : Below w7.heap.size w7 wr.drew := HB.out.drew
            have hS0 := HSS.out _ hdr
            have HDR := (show Hid _ from hdr); clear hdr
            have hcc : ((kc0 : Int) == (kc0 : Int)) = true := by simp
            go_wp2_with fail
            go_region_held3 (fun wq => (wq.cell? ⟨tb, toff, none⟩ = some (.string kn) ∧ wq.cell? ⟨tb, toff + 1, none⟩ = some (.string kx) ∧ wq.cell? ⟨tb, toff + 2, none⟩ = some (.bool kl) ∧ wq.cell? ⟨tb, toff + 3, none⟩ = some (.slice s1 s2 s3)) ∧ wq.cell? ⟨fb, foff, none⟩ = some (.string kn) ∧ wq.cell? ⟨fb, foff + 1, none⟩ = some (.string kx) ∧ wq.cell? ⟨fb, foff + 2, none⟩ = some (.bool kl) ∧ wq.cell? ⟨fb, foff + 3, none⟩ = some (.slice r1 r2 r3)) (first | with_reducible exact hS0 | with_reducible exact hS1) ((first | (go_at_call 13; refine Calls.mono (HCL.out _ HDR.out) ?_; rintro e w8 ⟨rfl, hb8⟩; have hx8 := HDR.out.trans (hb8.mono HDR.out.size); have hS1 := HSS.out _ hx8)))
            have HB8 := (show Hid (Below w7.heap.size w7 w8) from hx8)
            obtain ⟨_, z0, z1, z2, z3⟩ := hS1
            clear hS0 hb8 hx8 HCL HSS HDR
            go_wp2_with fail
            refine Calls.mono (HSZ.out _ HB8.out) ?_
            rintro e w9 ⟨rfl, hb9⟩
            have HE := (show Hid _ from bel_trans HB7.out (bel_trans HB8.out hb9))
            clear hb9 HSZ HB8 z0 z1 z2 z3
            go_wp2_with fail
            go_ret
            exact ⟨by simp, HE.out⟩
end Go.Proofs.Ytofobmdljelmgaa
