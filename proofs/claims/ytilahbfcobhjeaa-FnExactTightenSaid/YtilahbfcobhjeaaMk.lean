import Derived.Test.YtilahbfcobhjeaaUd
import Derived.Test.YtilahbfcobhjeaaEq
import Derived.Test.YtilahbfcobhjeaaTop
/-! Marks of programs and numbers; what is answered is owned. -/
namespace Go.Proofs.Ytilahbfcobhjeaa
open Go.RowKit Go.Deep
set_option linter.unusedVariables false
set_option maxRecDepth 100000
set_option linter.unusedSimpArgs false

/-- All blocks that were there, but those of the range, are as they were. -/
def Out (lo hi : Nat) (w w' : World) : Prop := w'.os = w.os ∧ w'.tape = w.tape ∧ w'.output = w.output ∧ w.heap.size ≤ w'.heap.size ∧ ∀ k, k < w.heap.size → (k < lo ∨ hi ≤ k) → w'.heap[k]? = w.heap[k]?
theorem Out.refl (lo hi : Nat) (w : World) : Out lo hi w w := ⟨rfl, rfl, rfl, Nat.le_refl _, fun _ _ _ => rfl⟩
theorem Out.trans {lo hi : Nat} {a b c : World} (h : Out lo hi a b) (g : Out lo hi b c) : Out lo hi a c :=
  ⟨g.1.trans h.1, g.2.1.trans h.2.1, g.2.2.1.trans h.2.2.1, Nat.le_trans h.2.2.2.1 g.2.2.2.1, fun k hk hr => (g.2.2.2.2 k (Nat.lt_of_lt_of_le hk h.2.2.2.1) hr).trans (h.2.2.2.2 k hk hr)⟩
theorem Out.of_below {lo hi : Nat} {a b : World} (h : Below a.heap.size a b) : Out lo hi a b := ⟨h.os, h.tape, h.output, h.size, fun k hk _ => h.block k hk⟩
theorem Out.set {lo hi p o : Nat} (w : World) (u : Value) (h1 : lo ≤ p) (h2 : p < hi) : Out lo hi w (w.setCell ⟨p, o, none⟩ u) :=
  ⟨rfl, rfl, rfl, by simp [World.setCell], fun k _ hr => blk_setCell_other _ _ _ _ (by show k ≠ p; omega)⟩
theorem Out.mono {lo hi lo' hi' : Nat} {w w' : World} (h : Out lo hi w w') (h1 : lo' ≤ lo) (h2 : hi ≤ hi') : Out lo' hi' w w' :=
  ⟨h.1, h.2.1, h.2.2.1, h.2.2.2.1, fun k hk hr => h.2.2.2.2 k hk (by omega)⟩
/-- Numbers in the row b, which may be longer. -/
def OwnI (w : World) (b : Nat) (l : List Int) (v : Value) : Prop :=
  ∃ (a : Option Addr) (cap : Nat) (f : Nat → Value), v = .slice a l.length cap ∧ l.length ≤ cap ∧ cap ≤ maxLen ∧ (0 < l.length → a = some ⟨b, 0, none⟩ ∧ w.rowIs b 3 cap f) ∧ ∀ i (hi : i < l.length), f i = .int .i64 l[i]
theorem OwnI.keep {w w' : World} {b : Nat} {l : List Int} {v : Value} (h : OwnI w b l v) (hb : b < w.heap.size → w'.heap[b]? = w.heap[b]?) : OwnI w' b l v := by
  obtain ⟨a, cap, f, hv, hc, hm, ha, hf⟩ := h
  exact ⟨a, cap, f, hv, hc, hm, fun h0 => ⟨(ha h0).1, World.rowIs.of_block (ha h0).2 (hb (World.rowIs.lt (ha h0).2))⟩, hf⟩
theorem OwnI.still {w w' : World} {b : Nat} {l : List Int} {v : Value} (h : OwnI w b l v) (hb : Below w.heap.size w w') : OwnI w' b l v := h.keep (fun hlt => hb.block b hlt)
theorem OwnI.out {w w' : World} {b lo hi : Nat} {l : List Int} {v : Value} (h : OwnI w b l v) (ho : Out lo hi w w') (hb : b < lo ∨ hi ≤ b) : OwnI w' b l v := h.keep (fun hlt => ho.2.2.2.2 b hlt hb)
theorem OwnI.form {w : World} {b : Nat} {l : List Int} {v : Value} (h : OwnI w b l v) : ∃ a cap, v = .slice a l.length cap ∧ l.length ≤ maxLen := by
  obtain ⟨a, cap, f, hv, hc, hm, _⟩ := h
  exact ⟨_, _, hv, by omega⟩
theorem OwnI.ints {w : World} {b : Nat} {l : List Int} {v : Value} (h : OwnI w b l v) : Ints w (fun c => c = b) l v := by
  obtain ⟨a, cap, f, hv, hc, hm, ha, hf⟩ := h
  refine ⟨a, cap, b, 0, hv, hc, hm, fun h0 => ⟨(ha h0).1, rfl⟩, fun i hi => ?_⟩
  rw [Nat.zero_add, (ha (by omega)).2.cell (by omega), hf i hi]
theorem IRow.own {w : World} {b : Nat} {l : List Int} (h : IRow w b l) (hl : l.length ≤ maxLen) : OwnI w b l (.slice (some ⟨b, 0, none⟩) l.length l.length) :=
  ⟨_, _, _, rfl, Nat.le_refl _, hl, fun _ => ⟨rfl, h⟩, fun i hi => by simp [List.getD_eq_getElem?_getD, hi]⟩
/-- Numbers from n on. -/
def cnt (n m : Nat) : List Int := (List.range m).map fun i => ((n + i : Nat) : Int)
theorem cnt_len (n m : Nat) : (cnt n m).length = m := by simp [cnt]
theorem cnt_get (n m i : Nat) (h : i < (cnt n m).length) : (cnt n m)[i] = ((n + i : Nat) : Int) := by simp [cnt]
set_option maxHeartbeats 800000 in
theorem markInts_any (l : List Int) (b n : Nat) (v : Value) (w : World) (h : OwnI w b l v) (hn : n + l.length ≤ 1125899906842624) :
    Calls Try.prog 18 #[v, .int .i64 n] w fun e w' => e = .returned (.int .i64 (n + l.length : Nat)) ∧ Out b (b + 1) w w' ∧ OwnI w' b (cnt n l.length) v := by
  obtain ⟨a, cap, f0, rfl, hc, hm, ha, hf⟩ := h
  have HA := (show Hid _ from ha); clear ha
  clear hf
  unfold maxLen at hm
  go_enter Try.func18, Try.ntmps18
  go_wp2_with fail
  go_loopw [1, 5] (fun u i wr => ∃ (j : Nat), j ≤ l.length ∧ i = .int .i64 j ∧ u = .int .i64 (n + j : Nat) ∧ Out b (b + 1) w wr ∧ Hid (0 < l.length → ∃ f, wr.rowIs b 3 cap f ∧ ∀ i, i < j → f i = .int .i64 (n + i : Nat))) (fun _ i _ => l.length - (intOf i).toNat)
  case atStart => exact ⟨0, Nat.zero_le _, rfl, rfl, Out.refl _ _ _, fun h0 => ⟨_, (HA.out h0).2, fun i hi => absurd hi (Nat.not_lt_zero _)⟩⟩
  case round =>
    obtain ⟨j, hj, rfl, rfl, hout, HM⟩ := hrel
    by_cases hlt : j < l.length
    · obtain ⟨rfl, _⟩ := HA.out (by omega)
      obtain ⟨f, hrow, hf⟩ := HM.out (by omega)
      have e0 := hrow.cell (i := j) (by omega)
      have z0 := hrow.frozen j
      have HR := (show Hid _ from (⟨hrow, hf⟩ : _ ∧ _)); clear hrow hf
      go_wp2_with fail
      refine ⟨⟨j + 1, by omega, by go_num, by go_num, hout.trans (Out.set _ _ (Nat.le_refl _) (by omega)), fun _ => ⟨_, World.rowIs.set HR.out.1 j _, fun i hi => ?_⟩⟩, by simp [intOf]; omega⟩
      by_cases e : i = j
      · subst e; simp
      · rw [if_neg e]; exact HR.out.2 i (by omega)
    · obtain rfl : j = l.length := by omega
      go_wp2_with fail
      go_ret
      refine ⟨rfl, hout, ?_⟩
      by_cases h0 : 0 < l.length
      · obtain ⟨f, hrow, hf⟩ := HM.out h0
        refine ⟨a, cap, f, by rw [cnt_len], by rw [cnt_len]; exact hc, by unfold maxLen; omega, fun _ => ⟨(HA.out h0).1, hrow⟩, fun i hi => ?_⟩
        rw [cnt_get, hf i (by rw [cnt_len] at hi; exact hi)]
      · refine ⟨a, cap, fun _ => .bool false, by rw [cnt_len], by rw [cnt_len]; exact hc, by unfold maxLen; omega, fun h1 => absurd (by rw [cnt_len] at h1; exact h1) h0, fun i hi => absurd (by rw [cnt_len] at hi; omega) h0⟩
set_option maxHeartbeats 800000 in
theorem heldInts_any (b n m : Nat) (v : Value) (w : World) (h : OwnI w b (cnt n m) v) (hn : n + m ≤ 1125899906842624) :
    Calls Try.prog 19 #[v, .int .i64 n] w fun e w' => e = .returned (.int .i64 (n + m : Nat)) ∧ Below w.heap.size w w' := by
  obtain ⟨a, cap, c, off, hv, hc, hm, ha, hcell⟩ := h.ints
  rw [cnt_len] at hv hc ha
  subst hv
  have HC := (show Hid (∀ i, i < m → w.cell? ⟨c, off + i, none⟩ = some (.int .i64 (n + i : Nat))) from fun i hi => by
    have := hcell i (by rw [cnt_len]; exact hi)
    rw [cnt_get] at this
    exact this)
  clear hcell h
  have HA := (show Hid _ from ha); clear ha
  unfold maxLen at hm
  go_enter Try.func19, Try.ntmps19
  go_wp2_with fail
  go_loopw [1, 5] (fun u i wr => ∃ (j : Nat), j ≤ m ∧ i = .int .i64 j ∧ u = .int .i64 (n + j : Nat) ∧ wr = w) (fun _ i _ => m - (intOf i).toNat)
  case atStart => exact ⟨0, Nat.zero_le _, rfl, rfl, rfl⟩
  case round =>
    obtain ⟨j, hj, rfl, rfl, rfl⟩ := hrel
    by_cases hlt : j < m
    · obtain ⟨rfl, hcb⟩ := HA.out (by omega)
      clear hcb
      have c0 := HC.out j hlt
      have hne : (((n + j : Nat) : Int) != ((n + j : Nat) : Int)) = false := by simp
      go_wp2_with fail
      exact ⟨⟨j + 1, by omega, by go_num, by go_num, trivial⟩, by simp [intOf]; omega⟩
    · obtain rfl : j = m := by omega
      go_wp2_with fail
      go_ret
      exact ⟨rfl, Below.refl _ _⟩
set_option maxHeartbeats 800000 in
theorem markIns_any (l b n : Nat) (w : World) (h : ∃ f, w.rowIs b 57 (l * 3) f) (hl : l ≤ 1048576) (hn : n + l * 3 ≤ 1125899906842624) :
    Calls Try.prog 17 #[.slice (some ⟨b, 0, none⟩) l l, .int .i64 n] w fun e w' => e = .returned (.int .i64 (n + l * 3 : Nat)) ∧ Out b (b + 1) w w' := by
  have HR0 := (show Hid _ from h); clear h
  go_enter Try.func17, Try.ntmps17
  go_wp2_with fail
  go_loopw [1, 5] (fun u i wr => ∃ (j : Nat), j ≤ l ∧ i = .int .i64 j ∧ u = .int .i64 (n + j * 3 : Nat) ∧ Out b (b + 1) w wr ∧ Hid (∃ f, wr.rowIs b 57 (l * 3) f)) (fun _ i _ => l - (intOf i).toNat)
  case atStart => exact ⟨0, Nat.zero_le _, rfl, by simp, Out.refl _ _ _, HR0⟩
  case round =>
    obtain ⟨j, hj, rfl, rfl, hout, HM⟩ := hrel
    by_cases hlt : j < l
    · obtain ⟨f, hrow⟩ := HM.out
      clear HM
      have HR := (show Hid _ from hrow); clear hrow
      have e0 := World.rowIs.cell HR.out (i := j * 3) (by omega)
      have z0 := World.rowIs.frozen HR.out (j * 3)
      have e1 := World.rowIs.cell HR.out (i := j * 3 + 1) (by omega)
      have z1 := World.rowIs.frozen HR.out (j * 3 + 1)
      have e2 := World.rowIs.cell HR.out (i := j * 3 + 2) (by omega)
      have z2 := World.rowIs.frozen HR.out (j * 3 + 2)
      go_wp2_with fail
      exact ⟨⟨j + 1, by omega, by go_num, by go_num, Out.trans (Out.trans (Out.trans hout (Out.set _ _ (Nat.le_refl _) (by omega))) (Out.set _ _ (Nat.le_refl _) (by omega))) (Out.set _ _ (Nat.le_refl _) (by omega)), _, World.rowIs.set (World.rowIs.set (World.rowIs.set HR.out (j * 3) _) (j * 3 + 1) _) (j * 3 + 2) _⟩, by simp [intOf]; omega⟩
    · obtain rfl : j = l := by omega
      go_wp2_with fail
      go_ret
      exact ⟨rfl, hout⟩
theorem OwnI.nil (w : World) (b : Nat) (a : Option Addr) (cap : Nat) (hc : cap ≤ maxLen) : OwnI w b [] (.slice a 0 cap) :=
  ⟨a, cap, fun _ => .bool false, rfl, Nat.zero_le _, hc, fun h => absurd h (Nat.not_lt_zero _), fun i hi => absurd hi (Nat.not_lt_zero _)⟩
theorem own_ints {w : World} {L : Nat} {v : Value} {l : List Int} (h : w.ownsRow L 3 1 v l.length (iv l)) : ∃ b, OwnI w b l v ∧ (0 < l.length → L ≤ b ∧ v.ownBlock = some b) := by
  rcases h.2 with ⟨rfl, h0⟩ | ⟨g, cap, cur, rfl, hB, hg, hnc, hcm, hcs, htk⟩
  · obtain rfl : l = [] := List.eq_nil_of_length_eq_zero h0
    exact ⟨0, OwnI.nil _ _ _ _ (Nat.zero_le _), fun h => absurd h (Nat.not_lt_zero _)⟩
  · refine ⟨g, ⟨_, cap, fun i => (cur[i]?).getD .nilFunc, rfl, hnc, hcm, fun _ => ⟨rfl, cur, hg, by omega, fun i hi => ?_⟩, fun i hi => ?_⟩, fun _ => ⟨hB, rfl⟩⟩
    · have e : cur[i]? = some cur[i] := Array.getElem?_eq_getElem (by omega)
      simp only [e, Option.getD_some]
    · have e := congrArg (·[i]?) htk
      simp only [Nat.mul_one, List.getElem?_take, if_pos hi, List.getElem?_map, List.getElem?_eq_getElem hi, Option.map_some] at e
      have e2 : cur[i]? = some (.int .i64 l[i]) := by simpa using e
      simp only [e2, Option.getD_some]
theorem OwnI.any {w : World} {b : Nat} {l : List Int} {v : Value} (h : OwnI w b l v) (h0 : ¬ 0 < l.length) (c : Nat) : OwnI w c l v := by
  obtain ⟨a, cap, f, hv, hc, hm, ha, hf⟩ := h
  exact ⟨a, cap, f, hv, hc, hm, fun h => absurd h h0, hf⟩
theorem OwnI.lt {w : World} {b : Nat} {l : List Int} {v : Value} (h : OwnI w b l v) (h0 : 0 < l.length) : b < w.heap.size := by
  obtain ⟨a, cap, f, hv, hc, hm, ha, hf⟩ := h
  exact World.rowIs.lt (ha h0).2
theorem out_below {w Z Z' : World} {lo hi B : Nat} (h : Below B w Z) (ho : Out lo hi Z Z') (hB : B ≤ lo) (hz : B ≤ Z.heap.size) : Below B w Z' :=
  ⟨ho.1.trans h.os, ho.2.1.trans h.tape, ho.2.2.1.trans h.output, Nat.le_trans h.size ho.2.2.2.1, fun k hk => (ho.2.2.2.2 k (by omega) (by omega)).trans (h.block k hk)⟩
/-- A program in a row of its own. -/
def XO (w : World) (b : Nat) (l : List DIns) : Prop := InsRO w (fun c => c = b) l (.slice (some ⟨b, 0, none⟩) l.length l.length)
theorem XO.keep {w w' : World} {b : Nat} {l : List DIns} (h : XO w b l) (hb : b < w.heap.size → w'.heap[b]? = w.heap[b]?) : XO w' b l := InsRO.keep h (fun c hc hlt => by have e : c = b := hc; subst e; exact hb hlt)
theorem XO.still {w w' : World} {b : Nat} {l : List DIns} (h : XO w b l) (hb : Below w.heap.size w w') : XO w' b l := h.keep (fun hlt => hb.block b hlt)
theorem XO.out {w w' : World} {b lo hi : Nat} {l : List DIns} (h : XO w b l) (ho : Out lo hi w w') (hb : b < lo ∨ hi ≤ b) : XO w' b l := h.keep (fun hlt => ho.2.2.2.2 b hlt hb)
theorem XO.ins {w : World} {b : Nat} {l : List DIns} (h : XO w b l) : InsR w (fun c => c = b) l (.slice (some ⟨b, 0, none⟩) l.length l.length) := InsRO.lies h
theorem XO.row {w : World} {b : Nat} {l : List DIns} (h : XO w b l) : ∃ f, w.rowIs b 57 (l.length * 3) f := by
  obtain ⟨b', f, hv, hS, hn, hr, _⟩ := h
  obtain rfl : b' = b := hS
  exact ⟨f, hr⟩
theorem toX_any {S : Nat → Prop} (l : List DIns) (v : Value) (w : World) (h : InsR w S l v) (hs : InsR.Sm l) :
    Calls Try.prog 10 #[v] w fun e w' => ∃ b, e = .returned (.slice (some ⟨b, 0, none⟩) l.length l.length) ∧ Below w.heap.size w w' ∧ XO w' b l ∧ w.heap.size ≤ b ∧ b < w'.heap.size :=
  (toInsR_any l v w h hs).mono fun e w' ⟨v', he, hb, ho⟩ => by
    obtain ⟨b, f, hv, hS, hn, hr, hf⟩ := ho
    exact ⟨b, by rw [he, hv], hb, ⟨b, f, rfl, rfl, hn, hr, hf⟩, hS, World.rowIs.lt hr⟩
theorem toI_any {S : Nat → Prop} (l : List Int) (v : Value) (w : World) (h : Ints w S l v) (hs : l.length ≤ 1048576) :
    Calls Try.prog 14 #[v] w fun e w' => ∃ b, e = .returned (.slice (some ⟨b, 0, none⟩) l.length l.length) ∧ Below w.heap.size w w' ∧ OwnI w' b l (.slice (some ⟨b, 0, none⟩) l.length l.length) ∧ w.heap.size ≤ b ∧ b < w'.heap.size :=
  (toInts_any l v w h hs).mono fun e w' ⟨v', he, hb, ho⟩ => by
    obtain ⟨b, f, hv, hS, hn, hr, hf⟩ := ho
    exact ⟨b, by rw [he, hv], hb, ⟨_, _, f, rfl, Nat.le_refl _, by unfold maxLen; omega, fun _ => ⟨rfl, hr⟩, hf⟩, hS, World.rowIs.lt hr⟩
theorem dO_told {wd : List Int} {x : DIns} {r : Rn} (h : r.told.length ≤ 10000) : (dO wd x r).2.told.length ≤ 10000 := by
  have ht : ∀ b, (r.to b x).told.length ≤ 10000 := fun b => by cases b <;> exact h
  unfold dO
  split
  · split <;> exact h
  split
  · split <;> exact h
  split
  · split
    · exact h
    · dsimp only
      simp
      omega
  split
  · split <;> exact h
  split
  · exact ht _
  split
  · exact ht _
  split
  · exact ht _
  split
  · exact ht _
  split <;> exact h
theorem rnF_told {l : List DIns} {wd : List Int} : ∀ (f n : Nat) (r : Rn), r.told.length ≤ 10000 → (rnF l wd f n r).1.length ≤ 10000 := by
  intro f
  induction f with
  | zero => intro n r h; exact h
  | succ f ih =>
    intro n r h
    have h1 : (dO wd (insAt l r.pc) r.nx).2.told.length ≤ 10000 := dO_told h
    unfold rnF
    split
    · exact ih _ _ h1
    · exact h1
theorem reR_told (l : List DIns) (wd : List Int) (fuel : Int) : (reR l wd fuel).1.length ≤ 10000 := by
  unfold reR
  split
  · exact rnF_told _ _ _ (Nat.zero_le _)
  · exact Nat.zero_le _
theorem RuA.high {R : List Int × Int × Nat × Nat} {w w' : World} {e : Ending} (h : RuA R w e w') :
    ∃ v0 b0, e = .returned (.tuple #[v0, .int .i64 R.2.1, .int .i64 (R.2.2.1 : Nat), .int .i64 (R.2.2.2 : Nat)]) ∧ Below w.heap.size w w' ∧ OwnI w' b0 R.1 v0 ∧ w.heap.size ≤ b0 := by
  obtain ⟨u, he, hb, ho⟩ := h
  obtain ⟨b0, h0, k0⟩ := own_ints ho
  by_cases c0 : 0 < R.1.length
  · exact ⟨u, b0, he, hb, h0, (k0 c0).1⟩
  · exact ⟨u, w.heap.size, he, hb, h0.any c0 _, Nat.le_refl _⟩
theorem RuA.low {R : List Int × Int × Nat × Nat} {w w' : World} {e : Ending} (h : RuA R w e w') (c : Nat) (hc : c < w'.heap.size) :
    ∃ v0 b0, e = .returned (.tuple #[v0, .int .i64 R.2.1, .int .i64 (R.2.2.1 : Nat), .int .i64 (R.2.2.2 : Nat)]) ∧ Below w.heap.size w w' ∧ OwnI w' b0 R.1 v0 ∧ b0 < w'.heap.size := by
  obtain ⟨u, he, hb, ho⟩ := h
  obtain ⟨b0, h0, k0⟩ := own_ints ho
  by_cases c0 : 0 < R.1.length
  · exact ⟨u, b0, he, hb, h0, h0.lt c0⟩
  · exact ⟨u, c, he, hb, h0.any c0 _, hc⟩
end Go.Proofs.Ytilahbfcobhjeaa
