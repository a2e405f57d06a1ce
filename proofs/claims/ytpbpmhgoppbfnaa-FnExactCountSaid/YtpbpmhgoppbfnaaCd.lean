import Derived.Test.YtpbpmhgoppbfnaaCc
import Derived.RangeFuncWrites
import Derived.RangeFuncNested
import Derived.RangeFuncBound
import Derived.RangeFuncCalls
import Derived.RangeFuncLeaves
import Derived.Shelf.Abstract
import Derived.Shelf.RegionOpen
import Derived.WalkKit
import Derived.OwnWalkIn
import Derived.TacticsInMore
import Derived.LoopNIn
import Derived.LoopIn
/-! The program: the shares of the first of symbols, told one by one. -/
namespace Go.Proofs.Ytpbpmhgoppbfnaa
open Go.RowKit Go.Deep Go.Shelf
set_option linter.unusedVariables false
set_option maxRecDepth 100000
set_option linter.unusedSimpArgs false
attribute [local go_sem] Oper.semAt_some

/-- The rest of a row. -/
theorem Ints.tail {w : World} {S : Nat → Prop} {y : Int} {l : List Int} {ad : Addr} {n cap : Nat} (h : Ints w S (y :: l) (.slice (some ad) n cap)) : Ints w S l (.slice (some (ad.add 1)) (n - 1) (cap - 1)) := by
  obtain ⟨a, c, b, off, hv, hc, hm, ha, hcell⟩ := h
  obtain ⟨e1, e2⟩ := ha (by simp)
  simp only [Value.slice.injEq] at hv
  obtain ⟨rfl, rfl, rfl⟩ := hv
  have e3 : ad = ⟨b, off, none⟩ := by injection e1
  subst e3
  clear e1 ha
  simp only [List.length_cons] at hc ⊢
  refine ⟨some ⟨b, off + 1, none⟩, cap - 1, b, off + 1, by simp [Addr.add], by omega, by omega, fun _ => ⟨rfl, e2⟩, fun i hi => ?_⟩
  have := hcell (i + 1) (by simp; omega)
  rw [show off + 1 + i = off + (i + 1) by omega]
  simpa using this
theorem Ints.cut {w : World} {S : Nat → Prop} {y : Int} {l : List Int} {b off n cap : Nat} (h : Ints w S (y :: l) (.slice (some ⟨b, off, none⟩) n cap)) : Ints w S l (.slice (if cap = 1 then some ⟨b, off, none⟩ else some ⟨b, off + 1, none⟩) (n - 1) (cap - 1)) := by
  by_cases hc : cap = 1
  · obtain ⟨a, c, b', o', hv, h1, h2, h3, h4⟩ := h
    simp only [Value.slice.injEq] at hv
    obtain ⟨rfl, rfl, rfl⟩ := hv
    simp only [List.length_cons] at h1
    have hl : l = [] := List.eq_nil_of_length_eq_zero (by omega)
    subst hl
    rw [if_pos hc]
    exact ⟨_, _, 0, 0, rfl, Nat.zero_le _, by omega, fun h => absurd h (Nat.not_lt_zero _), fun i hi => absurd hi (Nat.not_lt_zero _)⟩
  · rw [if_neg hc]
    exact h.tail

theorem shares98 (g : Nat) (av : Option Addr) (nv cv : Nat) (n : Int) (w : World) :
    Calls Try.prog 98 #[.pointer (some ⟨g, 0, none⟩), .slice av nv cv, .int .i64 n] w fun e w' => e = .returned (.func (.func 103) #[] #[.pointer (some ⟨w.heap.size, 0, none⟩), .pointer (some ⟨w.heap.size + 1, 0, none⟩), .pointer (some ⟨w.heap.size + 1 + 1, 0, none⟩)]) ∧ w' = ((w.alloc (.cells #[.pointer (some ⟨g, 0, none⟩)] 65)).alloc (.cells #[.slice av nv cv] 28)).alloc (.cells #[.int .i64 n] 3) := by
  go_enter Try.func98, Try.ntmps98
  go_wp2_with fail
  go_ret
  exact ⟨rfl, rfl⟩
/-- The shares, in their order. -/
def shl (lo ot : Int) (n : Nat) : List Nat := if lo = -1 ∨ ot = -1 then [] else List.range' lo.toNat (n + 1 - (lo.toNat + ot.toNat))
theorem range_snoc (a k : Nat) : List.range' a (k + 1) = List.range' a k ++ [a + k] := by
  rw [List.range'_concat]
  simp
set_option maxHeartbeats 3200000 in
theorem shares_stops {S : Nat → Prop} (Q : Nat → Prop) (g b b3 b4 b5 : Nat) (v0 v1 vo v3 vr : Value) (L : List Int) (y : Int) (r : List Int) (n : Nat) (w : World)
    (hS : St w g b v0 v1 vo v3 L) (hr : Ints w S (y :: r) vr) (hin : ∀ i (hi : i < (y :: r).length), 0 ≤ (y :: r)[i] ∧ (y :: r)[i] < L.length) (hlo : ∀ x, -1 ≤ Lf L x) (hto : ∀ x, Lf L x ≤ 1000) (hlen : r.length ≤ 100) (hLl : L.length ≤ 1000) (hn : n ≤ 1000)
    (e3 : w.cell? ⟨b3, 0, none⟩ = some (.pointer (some ⟨g, 0, none⟩))) (e4 : w.cell? ⟨b4, 0, none⟩ = some vr) (e5 : w.cell? ⟨b5, 0, none⟩ = some (.int .i64 n))
    (hQ : ∀ s, Lf L y.toNat ≠ -1 → lof (Lf L) (nats r) ≠ -1 → (Lf L y.toNat).toNat ≤ s → s + (lof (Lf L) (nats r)).toNat ≤ n → Q s) (m : Nat) (hm : 1 ≤ m) :
    SeqStopsK Fence.wide m Try.prog 103 #[.pointer (some ⟨b3, 0, none⟩), .pointer (some ⟨b4, 0, none⟩), .pointer (some ⟨b5, 0, none⟩)] (fun (s : {s : Nat // Q s}) => #[Value.int .i64 (s.1 : Nat)]) (fun A B => A.cell? ⟨b5, 0, none⟩ = some (.int .i64 n) → B.cell? ⟨b5, 0, none⟩ = some (.int .i64 n)) (fun xs => xs.map (·.1) = shl (Lf L y.toNat) (lof (Lf L) (nats r)) n) (fun _ => True) (n + 1) w := fun l J Jx W hW hJ hJx hY h0 => by
  have HJ0 := (show Hid _ from h0)
  have HY := (show Hid _ from hY)
  have HQ := (show Hid _ from hQ)
  obtain ⟨ar, cr, rfl, hrm⟩ := hr.form
  have hr' := hr.still hW
  have hS' := hS.still hW
  obtain ⟨a', c', b', o', hv, hc', hm', ha', hcl'⟩ := hr'
  simp only [Value.slice.injEq] at hv
  obtain ⟨rfl, _, rfl⟩ := hv
  obtain ⟨rfl, _⟩ := ha' (by simp)
  have hy0 := hcl' 0 (by simp)
  simp only [List.getElem_cons_zero, Nat.add_zero] at hy0
  have hiny := hin 0 (by simp)
  simp only [List.getElem_cons_zero] at hiny
  obtain ⟨yn, rfl⟩ : ∃ yn : Nat, y = yn := ⟨y.toNat, by omega⟩
  have hyl : yn < L.length := by omega
  have q0 := hS'.cell yn hyl
  have q4 : W.cell? ⟨g, 4, none⟩ = some (.slice (some ⟨b, 0, none⟩) L.length L.length) := hS'.box.cell 4 (by simp)
  have f3 := (hW.cell (lt_of_cell e3)).trans e3
  have f4 := (hW.cell (lt_of_cell e4)).trans e4
  have f5 := (hW.cell (lt_of_cell e5)).trans e5
  have hcut := Ints.cut (hr.still hW)
  have HLS := (show Hid _ from fun (W1 : World) (hb1 : Below W.heap.size W W1) => leastOf_any W1 g b v0 v1 vo v3 L r _ (hS'.still hb1) (hcut.still hb1) (fun i hi => by have := hin (i + 1) (by simp; omega); simpa using this) hlo hto (by omega) (by omega))
  have hLy : Lf L yn = L[yn] := Lf_lt hyl
  have hlow := hlo yn
  have htop := hto yn
  have hlr := lof_range hlo (nats r)
  simp only [List.length_cons] at hc' hrm
  unfold maxLen at hrm hm'
  simp only [Int.toNat_natCast] at HQ ⊢
  rw [← hLy] at q0
  generalize lof (Lf L) (nats r) = ot at *
  generalize Lf L yn = lo at *
  clear e3 e4 e5 hr hS hcl' ha' hcut hQ hY h0 hin hlo hto hS' hiny hLy
  refine callsIn_of_wp Try.func103 rfl trivial ?_ rfl
  simp only [Try.ntmps103, List.size_toArray, List.length_cons, List.length_nil, Nat.reduceAdd, Nat.reduceSub, Array.replicate_succ, Array.replicate_zero, List.push_toArray, List.append_toArray, List.nil_append, List.cons_append]
  refine wpIn_wide.2 ?_
  go_wp2_with fail
  go_cut [5, 6] from 8 to 20 (fun u v wx => u = .int .i64 lo ∧ v = .int .i64 ot ∧ Hid (∃ q, wx = W.drewN q))
  case first =>
    go_quiet ((go_at_call 69; refine Calls.quiet_of_same (HLS.out _ (bel_drewN _ _ _))))
    all_goals go_wp2_with fail
    all_goals go_meet
    all_goals exact ⟨rfl, rfl, _, rfl⟩
  case rest =>
    obtain ⟨rfl, rfl, HX⟩ := hcut
    have HJC : Hid (J [] wc ∧ wc.cell? ⟨b5, 0, none⟩ = some (.int .i64 n)) := by
      obtain ⟨q, rfl⟩ := HX.out
      exact ⟨hJ [] W _ none HJ0.out ⟨rfl, rfl, rfl, Nat.le_refl _, fun _ _ _ => rfl⟩ (fun r e => by cases e), f5⟩
    clear HX f3 f4 q0 q4 hy0 HLS HJ0
    by_cases hl1 : lo = -1
    · subst hl1
      go_wp2_with fail
      refine bodyPost_ret (results_none rfl _ _ _) rfl ?_
      exact ⟨⟨_, rfl⟩, .inl ⟨[], by simp [shl], HJC.out.1⟩⟩
    by_cases ho1 : ot = -1
    · subst ho1
      have hlb : (lo == -1) = false := by simp [hl1]
      go_wp2_with fail
      refine bodyPost_ret (results_none rfl _ _ _) rfl ?_
      exact ⟨⟨_, rfl⟩, .inl ⟨[], by simp [shl], HJC.out.1⟩⟩
    have hlb : (lo == -1) = false := by simp [hl1]
    have hob : (ot == -1) = false := by simp [ho1]
    obtain ⟨a, rfl⟩ : ∃ a : Nat, lo = a := ⟨lo.toNat, by omega⟩
    obtain ⟨o, rfl⟩ : ∃ o : Nat, ot = o := ⟨ot.toNat, by omega⟩
    go_wp2_with fail
    refine (wpIn_wide (n := m)).1 ?_
    gi_loopw [7] (fun p wr => ∃ (s : Nat) (pre : List {s : Nat // Q s}), p = .int .i64 s ∧ a ≤ s ∧ s ≤ a + n + 1 ∧ Hid (pre.map (·.1) = List.range' a (s - a) ∧ (s = a ∨ s + o ≤ n + 1) ∧ J pre wr ∧ wr.cell? ⟨b5, 0, none⟩ = some (.int .i64 n))) (fun p _ => 2 * n + 3002 - (intOf p).toNat)
    case atStart => exact ⟨a, [], rfl, Nat.le_refl _, by omega, by simp, .inl rfl, HJC.out⟩
    case round =>
      obtain ⟨s, pre, rfl, has, hsn, HK⟩ := hrel
      have g5 := HK.out.2.2.2
      by_cases hle : s + o ≤ n
      · have hq := HQ.out s (by omega) (by omega) (by omega) (by omega)
        have hpl : pre.length = s - a := by
          have := congrArg List.length HK.out.1
          simpa using this
        obtain ⟨fn, tmps, assign, body, hy, hR⟩ := HY.out pre ⟨s, hq⟩ wr HK.out.2.2.1 (by omega)
        dsimp only at hy
        have HRR := (show Hid _ from hR); clear hR
        have hcond : (s : Int) ≤ (n : Int) - (o : Int) := by omega
        clear hle
        gi_wp2
        refine RoundIn.mono HRR.out ?_
        rintro e W3 (⟨rfl, hJ3, hk3⟩ | ⟨rfl, hJx3⟩)
        · have g6 := hk3 g5
          have HN : Hid ((pre ++ [(⟨s, hq⟩ : {s : Nat // Q s})]).map (·.1) = List.range' a (s + 1 - a) ∧ (s + 1 = a ∨ s + 1 + o ≤ n + 1) ∧ J (pre ++ [(⟨s, hq⟩ : {s : Nat // Q s})]) W3 ∧ W3.cell? ⟨b5, 0, none⟩ = some (.int .i64 n)) := by
            refine ⟨?_, .inr (by omega), hJ3, g6⟩
            rw [List.map_append, HK.out.1, show s + 1 - a = (s - a) + 1 by omega, range_snoc]
            simp
            omega
          clear hy HRR g5
          gi_wp2
          exact ⟨⟨s + 1, _, by go_num, by omega, by omega, HN⟩, by simp [intOf]; omega⟩
        · gi_wp2
          refine bodyPost_ret (results_none rfl _ _ _) rfl ?_
          exact ⟨⟨_, rfl⟩, .inr ⟨_, trivial, hJx3⟩⟩
      · have hcond : ¬ ((s : Int) ≤ (n : Int) - (o : Int)) := by omega
        have HE : Hid (pre.map (·.1) = shl (a : Int) (o : Int) n) := by
          show pre.map (·.1) = shl (a : Int) (o : Int) n
          rw [HK.out.1]
          unfold shl
          rw [if_neg (by omega)]
          simp only [Int.toNat_natCast]
          have := HK.out.2.1
          congr 1
          omega
        gi_wp2
        go_end0
        exact ⟨⟨_, rfl⟩, .inl ⟨pre, HE.out, HK.out.2.2.1⟩⟩
end Go.Proofs.Ytpbpmhgoppbfnaa
