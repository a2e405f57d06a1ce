import Derived.Test.YtilahbfcobhjeaaRh
/-! Programs that are made tighter: slices.Backward of a program. -/
namespace Go.Proofs.Ytilahbfcobhjeaa
open Go.RowKit Go.Deep Go.Shelf
set_option linter.unusedVariables false
set_option maxRecDepth 100000
set_option linter.unusedSimpArgs false
attribute [local go_sem] Oper.semAt_some

/-- What is told: a place and its instruction. -/
def bkE (L : List DIns) (i : Nat) : Array Value := #[.int .i64 (i : Int), .agg #[.int .i64 (insAt L i).op, .int .i64 (insAt L i).n, .int .i64 (insAt L i).to_]]
/-- The first so many that are told, from the last on. -/
def bkL (n j : Nat) : List Nat := (List.range j).map (fun i => n - 1 - i)
theorem bkL_len (n j : Nat) : (bkL n j).length = j := by simp [bkL]
theorem bkL_succ (n j : Nat) : bkL n (j + 1) = bkL n j ++ [n - 1 - j] := by simp [bkL, List.range_succ]
/-- It is its turn. -/
def BkX (n : Nat) (pre : List Nat) (x : Nat) (W : World) : Prop := pre.length < n ∧ x = n - 1 - pre.length ∧ pre = bkL n pre.length
set_option maxHeartbeats 6400000 in
theorem back123 {l B0 b off cap bp : Nat} (L : List DIns) (T : World → Nat → Prop) (J : List Nat → World → Prop) (hTl : ∀ s W q, J s W → T W q → q ≠ b ∧ q ≠ bp) (hbl : b ≠ l) (hpl : bp ≠ l)
    (hY : ∀ m pre x W1, J pre W1 → BkX L.length pre x W1 → YieldAt Fence.wide m Try.prog l (bkE L x) W1 fun e W' => e = .returned (.bool true) ∧ J (pre ++ [x]) W' ∧ Fy T l W1 W') (m : Nat) (W : World)
    (hcell : ∀ i (hi : i < L.length), W.cell? ⟨b, off + i * 3, none⟩ = some (.int .i64 L[i].op) ∧ W.cell? ⟨b, off + i * 3 + 1, none⟩ = some (.int .i64 L[i].n) ∧ W.cell? ⟨b, off + i * 3 + 2, none⟩ = some (.int .i64 L[i].to_))
    (hbox : Box W bp 25 [.slice (some ⟨b, off, none⟩) L.length cap]) (hJ : J [] W) (hl : L.length ≤ 50000) (h1 : 1 ≤ L.length) (hc : L.length ≤ cap) (hcm : cap ≤ maxLen) :
    CallsIn Fence.wide m Try.prog 123 #[.func (.yield l) #[] #[], .pointer (some ⟨bp, 0, none⟩)] W fun e W' => (∃ u, e = .returned u) ∧ ∃ xs, xs = bkL L.length L.length ∧ J xs W' := by
  have c0 : W.cell? ⟨bp, 0, none⟩ = some (.slice (some ⟨b, off, none⟩) L.length cap) := hbox.cell 0 (by simp)
  have HC := (show Hid _ from hcell)
  have HBX := (show Hid (W.cell? ⟨bp, 0, none⟩ = some (.slice (some ⟨b, off, none⟩) L.length cap)) from c0)
  have HY := (show Hid _ from hY)
  have HTL := (show Hid _ from hTl)
  have HJ := (show Hid _ from hJ)
  unfold maxLen at hcm
  have kw : IntKind.i64.wrap ((L.length : Int) - 1) = (L.length : Int) - 1 := by rw [IntKind.wrap_i64]; omega
  clear hcell hbox hY hTl hJ
  refine callsIn_of_wp Try.func123 rfl trivial ?_ rfl
  simp only [Try.ntmps123, List.size_toArray, List.length_cons, List.length_nil, Nat.reduceAdd, Nat.reduceSub, Array.replicate_succ, Array.replicate_zero, List.push_toArray, List.append_toArray, List.nil_append, List.cons_append]
  refine wpIn_wide.2 ?_
  go_wp2_with fail
  go_loopw [3] (fun i wr => ∃ j : Nat, i = .int .i64 ((j : Int) - 1) ∧ j ≤ L.length ∧ Hid (J (bkL L.length (L.length - j)) wr ∧ wr.heap[b]? = W.heap[b]? ∧ wr.heap[bp]? = W.heap[bp]? ∧ W.heap.size ≤ wr.heap.size)) (fun i _ => (intOf i + 1).toNat)
  case atStart => exact ⟨L.length, rfl, Nat.le_refl _, by rw [Nat.sub_self]; exact HJ.out, rfl, rfl, Nat.le_refl _⟩
  case round =>
    obtain ⟨j, rfl, hj, HQ⟩ := hrel
    cases j
    case zero =>
      have kz : ((0 : Nat) : Int) - 1 = -1 := by omega
      rw [kz]
      have HE := (show Hid (J (bkL L.length L.length) wr) from HQ.out.1)
      clear HQ
      go_wp2_with fail
      go_end0
      exact ⟨⟨_, rfl⟩, _, rfl, HE.out⟩
    case succ i =>
      have ki : ((i + 1 : Nat) : Int) - 1 = (i : Int) := by omega
      rw [ki]
      have hil : i < L.length := by omega
      obtain ⟨q1, q2, q3, q4⟩ := HQ.out
      obtain ⟨x0, x1, x2⟩ := HC.out i hil
      have y0 := (World.cell?_of_block (w := W) q2).trans x0
      have y1 := (World.cell?_of_block (w := W) q2).trans x1
      have y2 := (World.cell?_of_block (w := W) q2).trans x2
      have yb := (World.cell?_of_block (w := W) q3).trans HBX.out
      have hbw : b < wr.heap.size := lt_of_cell y0
      have hpw : bp < wr.heap.size := lt_of_cell yb
      have hbx : BkX L.length (bkL L.length (L.length - (i + 1))) i wr := by
        unfold BkX
        rw [bkL_len]
        exact ⟨by omega, by omega, rfl⟩
      obtain ⟨fn, tmps, assign, body, hy, hR⟩ := HY.out (m - 1) _ i wr q1 hbx
      unfold bkE at hy
      rw [insAt_at hil] at hy
      have HRR := (show Hid _ from hR)
      have HQQ := (show Hid _ from HQ.out)
      have HT0 := (show Hid (¬ T wr b ∧ ¬ T wr bp) from ⟨fun h => (HTL.out _ _ _ q1 h).1 rfl, fun h => (HTL.out _ _ _ q1 h).2 rfl⟩)
      have kwi : IntKind.i64.wrap ((i : Int) - 1) = (i : Int) - 1 := by rw [IntKind.wrap_i64]; omega
      clear hR hbx q1 q2 q3 q4 HQ
      refine (wpIn_wide (n := m)).1 ?_
      gi_wp2
      refine ⟨fun h => absurd h (by simp [Fence.wide]), RoundIn.mono HRR.out ?_⟩
      rintro e W2 ⟨rfl, hJ2, hfy⟩
      have HN := (show Hid (J (bkL L.length (L.length - i)) W2 ∧ W2.heap[b]? = W.heap[b]? ∧ W2.heap[bp]? = W.heap[bp]? ∧ W.heap.size ≤ W2.heap.size) from by
        have e1 : L.length - i = (L.length - (i + 1)) + 1 := by omega
        have e2 : L.length - 1 - (L.length - (i + 1)) = i := by omega
        rw [e1, bkL_succ, e2]
        exact ⟨hJ2, (hfy.block b hbw hbl HT0.out.1).trans HQQ.out.2.1, (hfy.block bp hpw hpl HT0.out.2).trans HQQ.out.2.2.1, Nat.le_trans HQQ.out.2.2.2 hfy.size⟩)
      clear hy HRR hJ2 hfy HQQ
      gi_wp2
      exact ⟨⟨i, rfl, by omega, HN.out⟩, by simp [intOf]⟩
end Go.Proofs.Ytilahbfcobhjeaa
