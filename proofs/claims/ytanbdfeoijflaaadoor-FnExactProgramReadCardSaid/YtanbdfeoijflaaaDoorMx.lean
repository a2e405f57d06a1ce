import Derived.Test.YtanbdfeoijflaaaDoorMo
import Derived.Test.YtanbdfeoijflaaaDoorEq
/-! Marks of programs that are answered. -/
namespace Go.Proofs.YtanbdfeoijflaaaDoor
open Go.RowKit Go.Deep
set_option linter.unusedVariables false
set_option maxRecDepth 100000
set_option linter.unusedSimpArgs false

/-- All blocks that were there, but those of the range, are as they were. -/
def Out (lo hi : Nat) (w w' : World) : Prop := w'.os = w.os ∧ w'.tape = w.tape ∧ w'.output = w.output ∧ w.heap.size ≤ w'.heap.size ∧ ∀ k, k < w.heap.size → (k < lo ∨ hi ≤ k) → w'.heap[k]? = w.heap[k]?
theorem Out.refl (lo hi : Nat) (w : World) : Out lo hi w w := ⟨rfl, rfl, rfl, Nat.le_refl _, fun _ _ _ => rfl⟩
theorem Out.trans {lo hi : Nat} {a b c : World} (h : Out lo hi a b) (g : Out lo hi b c) : Out lo hi a c :=
  ⟨g.1.trans h.1, g.2.1.trans h.2.1, g.2.2.1.trans h.2.2.1, Nat.le_trans h.2.2.2.1 g.2.2.2.1, fun k hk hr => (g.2.2.2.2 k (Nat.lt_of_lt_of_le hk h.2.2.2.1) hr).trans (h.2.2.2.2 k hk hr)⟩
theorem Out.of_below {lo hi : Nat} {a b : World} (h : Below a.heap.size a b) : Out lo hi a b := ⟨h.os, h.tape, h.output, h.size, fun k hk _ => h.block k hk⟩
theorem Out.set {lo hi p o : Nat} (w : World) (u : Value) (h1 : lo ≤ p) (h2 : p < hi) : Out lo hi w (w.setCell ⟨p, o, none⟩ u) :=
  ⟨rfl, rfl, rfl, by simp [World.setCell], fun k _ hr => blk_setCell_other _ _ _ _ (by show k ≠ p; omega)⟩
theorem Out.mono {lo hi lo' hi' : Nat} {w w' : World} (h : Out lo hi w w') (h1 : lo' ≤ lo) (h2 : hi ≤ hi') : Out lo' hi' w w' :=
  ⟨h.1, h.2.1, h.2.2.1, h.2.2.2.1, fun k hk hr => h.2.2.2.2 k hk (by omega)⟩
theorem out_below {w Z Z' : World} {lo hi B : Nat} (h : Below B w Z) (ho : Out lo hi Z Z') (hB : B ≤ lo) (hz : B ≤ Z.heap.size) : Below B w Z' :=
  ⟨ho.1.trans h.os, ho.2.1.trans h.tape, ho.2.2.1.trans h.output, Nat.le_trans h.size ho.2.2.2.1, fun k hk => (ho.2.2.2.2 k (by omega) (by omega)).trans (h.block k hk)⟩
/-- A program in the row b, which may be longer. -/
def OwnX (w : World) (b : Nat) (l : List DIns) (v : Value) : Prop :=
  ∃ (a : Option Addr) (cap : Nat) (f : Nat → Value), v = .slice a l.length cap ∧ l.length ≤ cap ∧ cap ≤ maxLen ∧ (0 < l.length → a = some ⟨b, 0, none⟩ ∧ w.rowIs b 38 (cap * 3) f) ∧ ∀ i (hi : i < l.length), f (i * 3) = .int .i64 l[i].op ∧ f (i * 3 + 1) = .int .i64 l[i].n ∧ f (i * 3 + 2) = .int .i64 l[i].to_
theorem OwnX.keep {w w' : World} {b : Nat} {l : List DIns} {v : Value} (h : OwnX w b l v) (hb : b < w.heap.size → w'.heap[b]? = w.heap[b]?) : OwnX w' b l v := by
  obtain ⟨a, cap, f, hv, hc, hm, ha, hf⟩ := h
  exact ⟨a, cap, f, hv, hc, hm, fun h0 => ⟨(ha h0).1, World.rowIs.of_block (ha h0).2 (hb (World.rowIs.lt (ha h0).2))⟩, hf⟩
theorem OwnX.still {w w' : World} {b : Nat} {l : List DIns} {v : Value} (h : OwnX w b l v) (hb : Below w.heap.size w w') : OwnX w' b l v := h.keep (fun hlt => hb.block b hlt)
theorem OwnX.out {w w' : World} {b lo hi : Nat} {l : List DIns} {v : Value} (h : OwnX w b l v) (ho : Out lo hi w w') (hb : b < lo ∨ hi ≤ b) : OwnX w' b l v := h.keep (fun hlt => ho.2.2.2.2 b hlt hb)
theorem OwnX.form {w : World} {b : Nat} {l : List DIns} {v : Value} (h : OwnX w b l v) : ∃ a cap, v = .slice a l.length cap ∧ l.length ≤ maxLen := by
  obtain ⟨a, cap, f, hv, hc, hm, _⟩ := h
  exact ⟨_, _, hv, by omega⟩
theorem OwnX.ins {w : World} {b : Nat} {l : List DIns} {v : Value} (h : OwnX w b l v) : InsR w (fun c => c = b) l v := by
  obtain ⟨a, cap, f, hv, hc, hm, ha, hf⟩ := h
  refine ⟨a, cap, b, 0, hv, hc, hm, fun h0 => ⟨(ha h0).1, rfl⟩, fun i hi => ?_⟩
  obtain ⟨g0, g1, g2⟩ := hf i hi
  have hr := (ha (by omega)).2
  exact ⟨by rw [Nat.zero_add, hr.cell (by omega), g0], by rw [Nat.zero_add, hr.cell (by omega), g1], by rw [Nat.zero_add, hr.cell (by omega), g2]⟩
theorem OwnX.any {w : World} {b : Nat} {l : List DIns} {v : Value} (h : OwnX w b l v) (h0 : ¬ 0 < l.length) (c : Nat) : OwnX w c l v := by
  obtain ⟨a, cap, f, hv, hc, hm, ha, hf⟩ := h
  exact ⟨a, cap, f, hv, hc, hm, fun h => absurd h h0, hf⟩
theorem OwnX.lt {w : World} {b : Nat} {l : List DIns} {v : Value} (h : OwnX w b l v) (h0 : 0 < l.length) : b < w.heap.size := by
  obtain ⟨a, cap, f, hv, hc, hm, ha, hf⟩ := h
  exact World.rowIs.lt (ha h0).2
/-- Instructions that count on. -/
def cntX (n m : Nat) : List DIns := (List.range m).map fun i => ⟨((n + i * 3 : Nat) : Int), ((n + i * 3 + 1 : Nat) : Int), ((n + i * 3 + 2 : Nat) : Int)⟩
theorem cntX_len (n m : Nat) : (cntX n m).length = m := by simp [cntX]
theorem cntX_get (n m i : Nat) (h : i < (cntX n m).length) : (cntX n m)[i] = ⟨((n + i * 3 : Nat) : Int), ((n + i * 3 + 1 : Nat) : Int), ((n + i * 3 + 2 : Nat) : Int)⟩ := by simp [cntX]
set_option maxHeartbeats 1600000 in
theorem markX_any (l : List DIns) (b n : Nat) (v : Value) (w : World) (h : OwnX w b l v) (hl : l.length ≤ 1048576) (hn : n ≤ 1125899906842624) :
    Calls Tryd.prog 12 #[v, .int .i64 n] w fun e w' => e = .returned (.int .i64 (n + l.length * 3 : Nat)) ∧ Out b (b + 1) w w' ∧ OwnX w' b (cntX n l.length) v := by
  obtain ⟨a, cap, f0, rfl, hc, hm, ha, hf⟩ := h
  have HA := (show Hid _ from ha); clear ha
  clear hf
  unfold maxLen at hm
  go_enter Tryd.func12, Tryd.ntmps12
  go_wp2_with fail
  go_loopw [1, 5] (fun u i wr => ∃ (j : Nat), j ≤ l.length ∧ i = .int .i64 j ∧ u = .int .i64 (n + j * 3 : Nat) ∧ Out b (b + 1) w wr ∧ Hid (0 < l.length → ∃ f, wr.rowIs b 38 (cap * 3) f ∧ ∀ i, i < j → f (i * 3) = .int .i64 (n + i * 3 : Nat) ∧ f (i * 3 + 1) = .int .i64 (n + i * 3 + 1 : Nat) ∧ f (i * 3 + 2) = .int .i64 (n + i * 3 + 2 : Nat))) (fun _ i _ => l.length - (intOf i).toNat)
  case atStart => exact ⟨0, Nat.zero_le _, rfl, by simp, Out.refl _ _ _, fun h0 => ⟨_, (HA.out h0).2, fun i hi => absurd hi (Nat.not_lt_zero _)⟩⟩
  case round =>
    obtain ⟨j, hj, rfl, rfl, hout, HM⟩ := hrel
    by_cases hlt : j < l.length
    · obtain ⟨rfl, _⟩ := HA.out (by omega)
      obtain ⟨f, hrow, hf⟩ := HM.out (by omega)
      have e0 := hrow.cell (i := j * 3) (by omega)
      have z0 := hrow.frozen (j * 3)
      have e1 := hrow.cell (i := j * 3 + 1) (by omega)
      have z1 := hrow.frozen (j * 3 + 1)
      have e2 := hrow.cell (i := j * 3 + 2) (by omega)
      have z2 := hrow.frozen (j * 3 + 2)
      have HR := (show Hid _ from (⟨hrow, hf⟩ : _ ∧ _)); clear hrow hf
      go_wp2_with fail
      refine ⟨⟨j + 1, by omega, by go_num, by go_num, ((hout.trans (Out.set _ _ (Nat.le_refl _) (by omega))).trans (Out.set _ _ (Nat.le_refl _) (by omega))).trans (Out.set _ _ (Nat.le_refl _) (by omega)), fun _ => ⟨_, World.rowIs.set (World.rowIs.set (World.rowIs.set HR.out.1 (j * 3) _) (j * 3 + 1) _) (j * 3 + 2) _, fun i hi => ?_⟩⟩, by simp [intOf]; omega⟩
      by_cases e : i = j
      · subst e
        refine ⟨?_, ?_, ?_⟩
        · rw [if_neg (by omega), if_neg (by omega), if_pos rfl]; go_num
        · rw [if_neg (by omega), if_pos rfl]; go_num
        · rw [if_pos rfl]; go_num
      · obtain ⟨q0, q1, q2⟩ := HR.out.2 i (by omega)
        exact ⟨by rw [if_neg (by omega), if_neg (by omega), if_neg (by omega)]; exact q0, by rw [if_neg (by omega), if_neg (by omega), if_neg (by omega)]; exact q1, by rw [if_neg (by omega), if_neg (by omega), if_neg (by omega)]; exact q2⟩
    · obtain rfl : j = l.length := by omega
      go_wp2_with fail
      go_ret
      refine ⟨rfl, hout, ?_⟩
      by_cases h0 : 0 < l.length
      · obtain ⟨f, hrow, hf⟩ := HM.out h0
        refine ⟨a, cap, f, by rw [cntX_len], by rw [cntX_len]; exact hc, by unfold maxLen; omega, fun _ => ⟨(HA.out h0).1, hrow⟩, fun i hi => ?_⟩
        rw [cntX_get]
        exact hf i (by rw [cntX_len] at hi; exact hi)
      · refine ⟨a, cap, fun _ => .bool false, by rw [cntX_len], by rw [cntX_len]; exact hc, by unfold maxLen; omega, fun h1 => absurd (by rw [cntX_len] at h1; exact h1) h0, fun i hi => absurd (by rw [cntX_len] at hi; omega) h0⟩
set_option maxHeartbeats 1600000 in
theorem heldX_any (b n m : Nat) (v : Value) (w : World) (h : OwnX w b (cntX n m) v) (hm2 : m ≤ 1048576) (hn : n ≤ 1125899906842624) :
    Calls Tryd.prog 13 #[v, .int .i64 n] w fun e w' => e = .returned (.int .i64 (n + m * 3 : Nat)) ∧ Below w.heap.size w w' := by
  obtain ⟨a, cap, c, off, hv, hc, hm, ha, hcell⟩ := h.ins
  rw [cntX_len] at hv hc ha
  subst hv
  have HC := (show Hid (∀ i, i < m → w.cell? ⟨c, off + i * 3, none⟩ = some (.int .i64 (n + i * 3 : Nat)) ∧ w.cell? ⟨c, off + i * 3 + 1, none⟩ = some (.int .i64 (n + i * 3 + 1 : Nat)) ∧ w.cell? ⟨c, off + i * 3 + 2, none⟩ = some (.int .i64 (n + i * 3 + 2 : Nat))) from fun i hi => by
    have := hcell i (by rw [cntX_len]; exact hi)
    rw [cntX_get] at this
    exact this)
  clear hcell h
  have HA := (show Hid _ from ha); clear ha
  unfold maxLen at hm
  go_enter Tryd.func13, Tryd.ntmps13
  go_wp2_with fail
  go_loopw [1, 5] (fun u i wr => ∃ (j : Nat), j ≤ m ∧ i = .int .i64 j ∧ u = .int .i64 (n + j * 3 : Nat) ∧ w = wr) (fun _ i _ => m - (intOf i).toNat)
  case atStart => exact ⟨0, Nat.zero_le _, rfl, by simp, rfl⟩
  case round =>
    obtain ⟨j, hj, rfl, rfl, rfl⟩ := hrel
    by_cases hlt : j < m
    · obtain ⟨rfl, hcb⟩ := HA.out (by omega)
      clear hcb
      obtain ⟨c0, c1, c2⟩ := HC.out j hlt
      generalize hq : n + j * 3 = q at *
      rw [show ((q + 1 : Nat) : Int) = (q : Int) + 1 from by omega] at c1
      rw [show ((q + 2 : Nat) : Int) = (q : Int) + 1 + 1 from by omega] at c2
      have hne0 : ((q : Int) != (q : Int)) = false := by simp
      have hne1 : ((q : Int) + 1 != (q : Int) + 1) = false := by simp
      have hne2 : ((q : Int) + 1 + 1 != (q : Int) + 1 + 1) = false := by simp
      have hqb : q ≤ 2251799813685248 := by omega
      have kw1 : IntKind.i64.wrap ((q : Int) + 1) = (q : Int) + 1 := by simp [IntKind.wrap, IntKind.bits, IntKind.signed]; omega
      have kw2 : IntKind.i64.wrap ((q : Int) + 1 + 1) = (q : Int) + 1 + 1 := by simp [IntKind.wrap, IntKind.bits, IntKind.signed]; omega
      have kw3 : IntKind.i64.wrap ((q : Int) + 1 + 1 + 1) = (q : Int) + 1 + 1 + 1 := by simp [IntKind.wrap, IntKind.bits, IntKind.signed]; omega
      have HQ := (show Hid (n + j * 3 = q) from hq); clear hq
      go_wp2_with fail
      exact ⟨⟨j + 1, by omega, by go_num, by have h9 := HQ.out; rw [show ((n + (j + 1) * 3 : Nat) : Int) = (q : Int) + 1 + 1 + 1 from by omega], trivial⟩, by simp [intOf]; omega⟩
    · obtain rfl : j = m := by omega
      go_wp2_with fail
      go_ret
      exact ⟨rfl, Below.refl _ _⟩
/-- A row that grew is such a row. -/
theorem own_X {W : World} {B : Nat} {v : Value} {l : List DIns} (h : W.ownsRow B 38 3 v l.length (xv l)) : ∃ b, OwnX W b l v ∧ (0 < l.length → B ≤ b) := by
  rcases h.2 with ⟨rfl, h0⟩ | ⟨g, cap, cur, rfl, hB, hg, hc, hcm, hs, ht⟩
  · exact ⟨0, ⟨none, 0, fun _ => .bool false, by rw [h0], by omega, by unfold maxLen; omega, fun h => by omega, fun i hi => by omega⟩, fun h => by omega⟩
  · refine ⟨g, ⟨_, cap, fun i => cur.getD i .nilFunc, rfl, hc, hcm, fun _ => ⟨rfl, cur, hg, hs, fun i hi => by simp [hs, hi]⟩, fun i hi => ?_⟩, fun _ => hB⟩
    have hx := xv_get hi
    rw [← ht] at hx
    have hcl : ∀ k, k < 3 → some (cur.getD (i * 3 + k) .nilFunc) = [Value.int .i64 l[i].op, .int .i64 l[i].n, .int .i64 l[i].to_][k]? := fun k hk => by
      rw [← hx k hk, List.getElem?_take_of_lt (by omega)]
      have : i * 3 + k < cur.size := by omega
      simp [this]
    exact ⟨Option.some.inj (hcl 0 (by omega)), Option.some.inj (hcl 1 (by omega)), Option.some.inj (hcl 2 (by omega))⟩
end Go.Proofs.YtanbdfeoijflaaaDoor
