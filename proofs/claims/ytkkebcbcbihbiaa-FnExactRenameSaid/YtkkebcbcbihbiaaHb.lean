import Derived.Test.YtkkebcbcbihbiaaHa
import Derived.Test.YtkkebcbcbihbiaaGMk2
/-! Marks of scopes; rows that are answered. -/
namespace Go.Proofs.Ytkkebcbcbihbiaa
open Go.RowKit Go.Deep
set_option linter.unusedVariables false
set_option maxRecDepth 100000
set_option linter.unusedSimpArgs false

set_option maxHeartbeats 1600000 in
theorem mark53 (l b n : Nat) (w : World) (h : ∃ f, w.rowIs b 68 (l * 3) f) (hl : l ≤ 1048576) (h0 : 0 < n) (hn : n + l * 3 ≤ 1125899906842624) :
    Calls Try.prog 53 #[.slice (some ⟨b, 0, none⟩) l l, .int .i64 n] w fun e w' => e = .returned (.int .i64 (n + l * 3 : Nat)) ∧ Out b (b + 1) w w' ∧ ∃ f, w'.rowIs b 68 (l * 3) f := by
  have HR0 := (show Hid _ from h); clear h
  go_enter Try.func53, Try.ntmps53
  go_wp2_with fail
  go_loopw [1, 5] (fun u i wr => ∃ (j : Nat), j ≤ l ∧ i = .int .i64 j ∧ u = .int .i64 (n + j * 3 : Nat) ∧ Out b (b + 1) w wr ∧ Hid (∃ f, wr.rowIs b 68 (l * 3) f)) (fun _ i _ => l - (intOf i).toNat)
  case atStart => exact ⟨0, Nat.zero_le _, rfl, by simp, Out.refl _ _ _, HR0⟩
  case round =>
    obtain ⟨j, hj, rfl, rfl, hout, HM⟩ := hrel
    by_cases hlt : j < l
    · obtain ⟨f, hrow⟩ := HM.out
      clear HM
      have HR := (show Hid _ from hrow); clear hrow
      have e0 := World.rowIs.cell HR.out (i := j * 3) (by omega)
      have z0 := World.rowIs.frozen HR.out (j * 3)
      have e1 := World.rowIs.cell HR.out (i := j * 3 + 1) (by omega)
      have z1 := World.rowIs.frozen HR.out (j * 3 + 1)
      have e2 := World.rowIs.cell HR.out (i := j * 3 + 2) (by omega)
      have z2 := World.rowIs.frozen HR.out (j * 3 + 2)
      have HO0 := (show Hid _ from hout)
      go_wp2_with fail
      exact ⟨⟨j + 1, by omega, by go_num, by go_num, (Out.trans (Out.trans (Out.trans HO0.out (Out.set _ _ (Nat.le_refl _) (by omega))) (Out.set _ _ (Nat.le_refl _) (by omega))) (Out.set _ _ (Nat.le_refl _) (by omega))), _, (World.rowIs.set (World.rowIs.set (World.rowIs.set HR.out (j * 3) _) (j * 3 + 1) _) (j * 3 + 2) _)⟩, by simp [intOf]; omega⟩
    · obtain rfl : j = l := by omega
      go_wp2_with fail
      go_ret
      exact ⟨rfl, hout, HM.out⟩
set_option maxHeartbeats 1600000 in
theorem mark54 (l b n : Nat) (w : World) (h : ∃ f, w.rowIs b 74 (l * 2) f) (hl : l ≤ 1048576) (h0 : 0 < n) (hn : n + l * 2 ≤ 1125899906842624) :
    Calls Try.prog 54 #[.slice (some ⟨b, 0, none⟩) l l, .int .i64 n] w fun e w' => e = .returned (.int .i64 (n + l * 2 : Nat)) ∧ Out b (b + 1) w w' ∧ ∃ f, w'.rowIs b 74 (l * 2) f := by
  have HR0 := (show Hid _ from h); clear h
  go_enter Try.func54, Try.ntmps54
  go_wp2_with fail
  go_loopw [1, 5] (fun u i wr => ∃ (j : Nat), j ≤ l ∧ i = .int .i64 j ∧ u = .int .i64 (n + j * 2 : Nat) ∧ Out b (b + 1) w wr ∧ Hid (∃ f, wr.rowIs b 74 (l * 2) f)) (fun _ i _ => l - (intOf i).toNat)
  case atStart => exact ⟨0, Nat.zero_le _, rfl, by simp, Out.refl _ _ _, HR0⟩
  case round =>
    obtain ⟨j, hj, rfl, rfl, hout, HM⟩ := hrel
    by_cases hlt : j < l
    · obtain ⟨f, hrow⟩ := HM.out
      clear HM
      have HR := (show Hid _ from hrow); clear hrow
      have HT := (show Hid _ from fun (k : Int) (w : World) (h0 : 0 < k) (hk : k ≤ 1125899906842624) => markText_any k w h0 hk)
      have e0 := World.rowIs.cell HR.out (i := j * 2) (by omega)
      have z0 := World.rowIs.frozen HR.out (j * 2)
      have HO0 := (show Hid _ from hout); clear hout
      go_wp2_with fail
      refine Calls.mono (HT.out _ _ (by omega) (by omega)) ?_
      rintro e x0 ⟨s0, rfl, _, hb0⟩
      have HR2 := (show Hid (∃ f, x0.rowIs b 74 (l * 2) f) from ⟨_, World.rowIs.of_block (World.rowIs.set HR.out (j * 2) _) (hb0.block b (Nat.lt_of_lt_of_le (World.rowIs.lt HR.out) (by simp [World.setCell])))⟩)
      obtain ⟨f2, hrow2⟩ := HR2.out
      clear HR2
      have HR2 := (show Hid _ from hrow2); clear hrow2
      have HO1 := (show Hid _ from Out.trans (Out.trans HO0.out (Out.set _ _ (Nat.le_refl _) (Nat.lt_succ_self _))) (Out.of_below hb0)); clear hb0 e0 z0
      have e1 := World.rowIs.cell HR2.out (i := j * 2 + 1) (by omega)
      have z1 := World.rowIs.frozen HR2.out (j * 2 + 1)
      go_wp2_with fail
      exact ⟨⟨j + 1, by omega, by go_num, by go_num, (Out.trans HO1.out (Out.set _ _ (Nat.le_refl _) (Nat.lt_succ_self _))), _, (World.rowIs.set HR2.out (j * 2 + 1) _)⟩, by simp [intOf]; omega⟩
    · obtain rfl : j = l := by omega
      go_wp2_with fail
      go_ret
      exact ⟨rfl, hout, HM.out⟩
theorem rowNe {w : World} {b c t t' n m : Nat} {f g : Nat → Value} (h : w.rowIs b t n f) (h' : w.rowIs c t' m g) (ht : t ≠ t') : b ≠ c := by
  rintro rfl
  obtain ⟨x, h1, _⟩ := h
  obtain ⟨y, h2, _⟩ := h'
  rw [h1] at h2
  injection h2 with h2
  injection h2 with _ h2
  exact ht h2
theorem rowLen {w : World} {b t n m : Nat} {f g : Nat → Value} (h : w.rowIs b t n f) (h' : w.rowIs b t m g) : n = m := by
  obtain ⟨x, h1, h3, _⟩ := h
  obtain ⟨y, h2, h4, _⟩ := h'
  rw [h1] at h2
  injection h2 with h2
  injection h2 with h2 _
  rw [← h3, ← h4, h2]
set_option maxHeartbeats 1600000 in
/-- markSg. -/
theorem mark17 {lo hi : Nat} (t : DSg) (u1 u2 u3 : Value) (n : Nat) (w : World) (h : DSgO w (fun b => lo ≤ b ∧ b < hi) t u1 u2 u3) (h0 : 0 < n) (hn : n ≤ 1048576) :
    Calls Try.prog 17 #[.agg #[.int .i64 t.scopes, u1, u2, u3], .int .i64 n] w fun e w' => (∃ k : Nat, e = .returned (.int .i64 (k : Nat))) ∧ Out lo hi w w' := by
  obtain ⟨b1, f1, rfl, s1, n1, r1, _⟩ := h.edges
  obtain ⟨b2, f2, rfl, s2, n2, r2, _⟩ := h.decls
  obtain ⟨b3, f3, rfl, s3, n3, r3, _⟩ := h.refs
  clear h
  have hb0 := bel_alloc w (.cells #[.int .i64 t.scopes, .slice (some ⟨b1, 0, none⟩) t.edges.length t.edges.length, .slice (some ⟨b2, 0, none⟩) t.decls.length t.decls.length, .slice (some ⟨b3, 0, none⟩) t.refs.length t.refs.length] 31)
  have hg0 := G4.new w t.scopes (.slice (some ⟨b1, 0, none⟩) t.edges.length t.edges.length) (.slice (some ⟨b2, 0, none⟩) t.decls.length t.decls.length) (.slice (some ⟨b3, 0, none⟩) t.refs.length t.refs.length)
  have q1 := rowBel r1 hb0
  have q2 := rowBel r2 hb0
  have q3 := rowBel r3 hb0
  have hlt1 := World.rowIs.lt r1
  have hlt2 := World.rowIs.lt r2
  have hlt3 := World.rowIs.lt r3
  have HC1 := (show Hid _ from mark53 t.edges.length b1 n _ ⟨_, q1⟩ n1 h0 (by omega))
  have HQ := (show Hid _ from (⟨hb0, hg0, q1, q2, q3⟩ : _ ∧ _ ∧ _ ∧ _ ∧ _))
  have HS := (show Hid (b1 < w.heap.size ∧ b2 < w.heap.size ∧ b3 < w.heap.size ∧ (lo ≤ b1 ∧ b1 < hi) ∧ (lo ≤ b2 ∧ b2 < hi) ∧ (lo ≤ b3 ∧ b3 < hi)) from ⟨hlt1, hlt2, hlt3, s1, s2, s3⟩)
  clear hb0 hg0 q1 q2 q3 r1 r2 r3 hlt1 hlt2 hlt3 s1 s2 s3
  generalize t.scopes = sc at *
  go_enter Try.func17, Try.ntmps17
  go_wp2_with fail
  refine Calls.mono HC1.out ?_
  rintro e w1 ⟨rfl, ho1, hr1⟩
  have HO1 := (show Hid (Out b1 (b1 + 1) _ w1) from ho1)
  have hkeep : ∀ {o : Nat} {v : Value}, (w.alloc (.cells #[.int .i64 sc, .slice (some ⟨b1, 0, none⟩) t.edges.length t.edges.length, .slice (some ⟨b2, 0, none⟩) t.decls.length t.decls.length, .slice (some ⟨b3, 0, none⟩) t.refs.length t.refs.length] 31)).cell? ⟨w.heap.size, o, none⟩ = some v → w1.cell? ⟨w.heap.size, o, none⟩ = some v := fun hc => (World.cell?_of_block (a := ⟨w.heap.size, _, none⟩) (ho1.2.2.2.2 w.heap.size (lt_of_cell hc) (by have := HS.out; omega))).trans hc
  have c2 := hkeep HQ.out.2.1.2.2.1
  have c3 := hkeep HQ.out.2.1.2.2.2
  have p2 : w1.rowIs b2 74 (t.decls.length * 2) f2 := World.rowIs.of_block HQ.out.2.2.2.1 (ho1.2.2.2.2 b2 (World.rowIs.lt HQ.out.2.2.2.1) (by have := rowNe HQ.out.2.2.1 HQ.out.2.2.2.1 (by decide); omega))
  have p3 : w1.rowIs b3 74 (t.refs.length * 2) f3 := World.rowIs.of_block HQ.out.2.2.2.2 (ho1.2.2.2.2 b3 (World.rowIs.lt HQ.out.2.2.2.2) (by have := rowNe HQ.out.2.2.1 HQ.out.2.2.2.2 (by decide); omega))
  have HP3 := (show Hid _ from (⟨p2, p3, c3⟩ : _ ∧ _ ∧ _))
  have HC2 := (show Hid _ from mark54 t.decls.length b2 (n + t.edges.length * 3) w1 ⟨_, p2⟩ n2 (by omega) (by omega))
  have hM1 : w.heap.size + 1 ≤ w1.heap.size := by have := ho1.2.2.2.1; simp at this; exact this
  clear ho1 hr1 hkeep p2 p3 c3 HC1
  generalize hK1 : n + t.edges.length * 3 = K1 at *
  have HK1 := (show Hid (K1 ≤ 4194304 ∧ 0 < K1) from by show _ ∧ _; omega)
  clear hK1
  go_wp2_with fail
  refine Calls.mono HC2.out ?_
  rintro e w2 ⟨rfl, ho2, hr2⟩
  have c3 : w2.cell? ⟨w.heap.size, 3, none⟩ = some (.slice (some ⟨b3, 0, none⟩) t.refs.length t.refs.length) := (World.cell?_of_block (a := ⟨w.heap.size, _, none⟩) (ho2.2.2.2.2 w.heap.size (by omega) (by have := HS.out; omega))).trans HP3.out.2.2
  have p3 : ∃ f, w2.rowIs b3 74 (t.refs.length * 2) f := by
    by_cases e : b3 = b2
    · subst e
      have := rowLen HP3.out.1 HP3.out.2.1
      rw [← this]
      exact hr2
    · exact ⟨_, World.rowIs.of_block HP3.out.2.1 (ho2.2.2.2.2 b3 (World.rowIs.lt HP3.out.2.1) (by omega))⟩
  have HC3 := (show Hid _ from mark54 t.refs.length b3 (K1 + t.decls.length * 2) w2 p3 n3 (by have := HK1.out; omega) (by have := HK1.out; omega))
  have HO2 := (show Hid (Out b2 (b2 + 1) w1 w2) from ho2)
  clear ho2 hr2 p3 HC2 c2
  generalize K1 + t.decls.length * 2 = K2 at *
  go_wp2_with fail
  refine Calls.mono HC3.out ?_
  rintro e w3 ⟨rfl, ho3, _⟩
  have HO3 := (show Hid (Out b3 (b3 + 1) w2 w3) from ho3)
  clear ho3 c3 HC3
  generalize K2 + t.refs.length * 2 = K3 at *
  go_wp2_with fail
  go_ret
  have hs := HS.out
  exact ⟨⟨_, rfl⟩, (((Out.of_below HQ.out.1).trans (HO1.out.mono (by omega) (by omega))).trans (HO2.out.mono (by omega) (by omega))).trans (HO3.out.mono (by omega) (by omega))⟩
theorem ownIAny {w : World} {b : Nat} {l : List Int} {v : Value} (h : OwnI w b l v) (h0 : ¬ 0 < l.length) (c : Nat) : OwnI w c l v := by
  obtain ⟨a, cap, f, hv, hc, hm, ha, hf⟩ := h
  exact ⟨a, cap, f, hv, hc, hm, fun h => absurd h h0, hf⟩
theorem own_ints {w : World} {L : Nat} {v : Value} {l : List Int} (h : w.ownsRow L 3 1 v l.length (iv l)) : ∃ b, OwnI w b l v ∧ L ≤ b := by
  rcases h.2 with ⟨rfl, h0⟩ | ⟨g, cap, cur, rfl, hB, hg, hnc, hcm, hcs, htk⟩
  · obtain rfl : l = [] := List.eq_nil_of_length_eq_zero h0
    exact ⟨L, ⟨none, 0, fun _ => .bool false, rfl, Nat.zero_le _, Nat.zero_le _, fun h => absurd h (Nat.not_lt_zero _), fun i hi => absurd hi (Nat.not_lt_zero _)⟩, Nat.le_refl _⟩
  · refine ⟨g, ⟨_, cap, fun i => (cur[i]?).getD .nilFunc, rfl, hnc, hcm, fun _ => ⟨rfl, cur, hg, by omega, fun i hi => ?_⟩, fun i hi => ?_⟩, hB⟩
    · have e : cur[i]? = some cur[i] := Array.getElem?_eq_getElem (by omega)
      simp only [e, Option.getD_some]
    · have e := congrArg (·[i]?) htk
      simp only [Nat.mul_one, List.getElem?_take, if_pos hi, List.getElem?_map, List.getElem?_eq_getElem hi, Option.map_some] at e
      have e2 : cur[i]? = some (.int .i64 l[i]) := by simpa using e
      simp only [e2, Option.getD_some]
end Go.Proofs.Ytkkebcbcbihbiaa
