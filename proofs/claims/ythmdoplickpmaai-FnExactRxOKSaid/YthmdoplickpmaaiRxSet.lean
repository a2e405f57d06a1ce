import Derived.Test.YthmdoplickpmaaiRxOne2
namespace Go.Proofs.Ythmdoplickpmaai
open Go.RowKit Go.Deep Go.Lib
set_option linter.unusedVariables false
set_option maxRecDepth 100000
set_option linter.unusedSimpArgs false

/-- A set of bytes in memory. -/
def BSet (w : World) (b : Nat) : Prop := ∃ f, w.rowIs b 129 4 f ∧ ∀ i, i < 4 → ∃ n : Int, f i = .int .u64 n
theorem BSet.lt {w : World} {b : Nat} (h : BSet w b) : b < w.heap.size := by obtain ⟨f, h, _⟩ := h; exact h.lt
theorem BSet.keep {w w' : World} {b : Nat} (h : BSet w b) (hk : w'.heap[b]? = w.heap[b]?) : BSet w' b := by obtain ⟨f, h, e⟩ := h; exact ⟨f, h.of_block hk, e⟩
theorem BSet.still {w w' : World} {b : Nat} (h : BSet w b) (hb : Below w.heap.size w w') : BSet w' b := h.keep (hb.block b h.lt)
theorem BSet.cell {w : World} {b : Nat} (h : BSet w b) (i : Nat) (hi : i < 4) : (∃ n : Int, w.cell? ⟨b, i, none⟩ = some (.int .u64 n)) ∧ w.frozen? ⟨b, i, none⟩ = false := by
  obtain ⟨f, h, e⟩ := h
  obtain ⟨n, hn⟩ := e i hi
  exact ⟨⟨n, by rw [h.cell hi, hn]⟩, h.frozen i⟩
theorem BSet.set {w : World} {b : Nat} (h : BSet w b) (i : Nat) (n : Int) : BSet (w.setCell ⟨b, i, none⟩ (.int .u64 n)) b := by
  obtain ⟨f, h, e⟩ := h
  refine ⟨_, h.set i _, fun j hj => ?_⟩
  by_cases hij : j = i
  · exact ⟨n, if_pos hij⟩
  · obtain ⟨m, hm⟩ := e j hj
    exact ⟨m, by rw [if_neg hij]; exact hm⟩

set_option maxHeartbeats 1600000 in
theorem addAll_any {b : Nat} (x y : UInt8) (w : World) (h : BSet w b) :
    Calls Try.prog 90 #[.pointer (some ⟨b, 0, none⟩), .int .u8 x.toNat, .int .u8 y.toNat] w fun e w' => e = .returned (.tuple #[]) ∧ Out b (b + 1) w w' ∧ BSet w' b := by
  have hx := x.toNat_lt
  have hy := y.toNat_lt
  generalize x.toNat = x at *
  generalize y.toNat = y at *
  have HS := (show Hid _ from h); clear h
  go_enter Try.func90, Try.ntmps90
  go_wp2_with fail
  go_loopw [6] (fun i wr => ∃ j : Nat, i = .int .i64 j ∧ j ≤ 256 ∧ Hid (Out b (b + 1) w wr ∧ BSet wr b)) (fun i _ => 256 - (intOf i).toNat)
  case atStart => exact ⟨x, rfl, by omega, Out.refl _ _ _, HS.out⟩
  case round =>
    obtain ⟨j, rfl, hj, HR⟩ := hrel
    by_cases hjy : j ≤ y
    · have hjy' : (j : Int) ≤ y := by omega
      have hj4 : j / 64 < 4 := by omega
      obtain ⟨⟨n, c0⟩, f0⟩ := BSet.cell HR.out.2 (j / 64) hj4
      have hq : (j : Int) / 64 = ((j / 64 : Nat) : Int) := by omega
      have hqd : (j : Int).tdiv 64 = ((j / 64 : Nat) : Int) := by rw [Int.tdiv_eq_ediv_of_nonneg (by omega)]; omega
      have hrm : (j : Int).tmod 64 = ((j % 64 : Nat) : Int) := by rw [Int.tmod_eq_emod_of_nonneg (by omega)]; omega
      have hm64 : j % 64 < 64 := by omega
      generalize j / 64 = d at *
      generalize j % 64 = m at *
      go_wp2_with fail
      go_region
      all_goals
        generalize bits BinOp.or IntKind.u64 n (IntKind.u64.wrap (2 ^ m)) = z
        have H2 := (show Hid _ from (⟨Out.drew' (Out.trans HR.out.1 (Out.set (o := d) wr (.int .u64 z) (Nat.le_refl b) (Nat.lt_succ_self b))), (BSet.set HR.out.2 d z).keep rfl⟩ : Out b (b + 1) w (wr.setCell ⟨b, d, none⟩ (.int .u64 z)).drew ∧ BSet (wr.setCell ⟨b, d, none⟩ (.int .u64 z)).drew b))
        go_wp2_with fail
        exact ⟨⟨j + 1, by go_num, by omega, H2.out.1, H2.out.2⟩, by simp [intOf]; omega⟩
    · have hjy' : (y : Int) < j := by omega
      go_wp2_with fail
      go_end0
      exact ⟨rfl, HR.out.1, HR.out.2⟩

theorem BSet.past {w : World} {b g o : Nat} {x : Value} (h : BSet w b) (hg : b ≠ g) : BSet (w.setCell ⟨g, o, none⟩ x) b := h.keep (blk_setCell_other _ _ _ _ (by exact hg))
theorem BSet.new (w : World) (a b c d : Int) : BSet (w.alloc (.cells #[.int .u64 a, .int .u64 b, .int .u64 c, .int .u64 d] 129)) w.heap.size :=
  ⟨fun i => if i = 0 then .int .u64 a else if i = 1 then .int .u64 b else if i = 2 then .int .u64 c else .int .u64 d, ⟨_, blk_alloc_new _ _, rfl, fun i hi => by
    have : i = 0 ∨ i = 1 ∨ i = 2 ∨ i = 3 := by omega
    rcases this with rfl | rfl | rfl | rfl <;> rfl⟩, fun i hi => by
    have : i = 0 ∨ i = 1 ∨ i = 2 ∨ i = 3 := by omega
    rcases this with rfl | rfl | rfl | rfl <;> exact ⟨_, rfl⟩⟩

set_option maxHeartbeats 1600000 in
theorem others_any {b : Nat} (w : World) (h : BSet w b) :
    Calls Try.prog 91 #[.pointer (some ⟨b, 0, none⟩)] w fun e w' => ∃ n0 n1 n2 n3 : Int, e = .returned (.agg #[.int .u64 n0, .int .u64 n1, .int .u64 n2, .int .u64 n3]) ∧ Below w.heap.size w w' := by
  have HS := (show Hid _ from h); clear h
  go_enter Try.func91, Try.ntmps91
  go_wp2_with fail
  have hbl := BSet.lt HS.out
  go_loopw [7] (fun i wr => ∃ j : Nat, i = .int .i64 j ∧ j ≤ 4 ∧ Hid (Out (w.heap.size + 1) (w.heap.size + 2) ((w.alloc (.cells #[.int .u64 0, .int .u64 0, .int .u64 0, .int .u64 0] 129)).alloc (.cells #[.int .u64 0, .int .u64 0, .int .u64 0, .int .u64 0] 129)) wr ∧ BSet wr w.heap.size ∧ BSet wr (w.heap.size + 1) ∧ BSet wr b)) (fun i _ => 4 - (intOf i).toNat)
  case atStart =>
    have h1 := (BSet.new w 0 0 0 0).still (bel_alloc _ (.cells #[.int .u64 0, .int .u64 0, .int .u64 0, .int .u64 0] 129))
    have h2 := BSet.new (w.alloc (.cells #[.int .u64 0, .int .u64 0, .int .u64 0, .int .u64 0] 129)) 0 0 0 0
    simp only [World.size_alloc] at h2
    exact ⟨0, rfl, Nat.zero_le _, Out.refl _ _ _, h1, h2, BSet.still (BSet.still HS.out (bel_alloc _ _)) (bel_alloc _ _)⟩
  case round =>
    obtain ⟨j, rfl, hj, HR⟩ := hrel
    by_cases hj4 : j < 4
    · have hj4' : (j : Int) < 4 := by omega
      obtain ⟨⟨n, c0⟩, f0⟩ := BSet.cell HR.out.2.2.2 j hj4
      obtain ⟨⟨n1, c1⟩, f1⟩ := BSet.cell HR.out.2.2.1 j hj4
      go_wp2_with fail
      go_region
      all_goals
        go_wp2_with fail
        generalize bits BinOp.xor IntKind.u64 (if IntKind.u64.signed = true then -1 else IntKind.u64.max) n = z at *
        refine ⟨⟨j + 1, rfl, by omega, Out.drew' (Out.trans HR.out.1 (Out.set (o := j) wr (.int .u64 z) (Nat.le_refl _) (Nat.lt_succ_self _))), BSet.keep (BSet.past HR.out.2.1 (by omega)) rfl, BSet.keep (BSet.set HR.out.2.2.1 j z) rfl, BSet.keep (BSet.past HR.out.2.2.2 (by omega)) rfl⟩, by simp [intOf]; omega⟩
    · obtain rfl : j = 4 := by omega
      obtain ⟨⟨n0, c0⟩, _⟩ := BSet.cell HR.out.2.2.1 0 (by omega)
      obtain ⟨⟨n1, c1⟩, _⟩ := BSet.cell HR.out.2.2.1 1 (by omega)
      obtain ⟨⟨n2, c2⟩, _⟩ := BSet.cell HR.out.2.2.1 2 (by omega)
      obtain ⟨⟨n3, c3⟩, _⟩ := BSet.cell HR.out.2.2.1 3 (by omega)
      obtain ⟨⟨m0, d0⟩, e0⟩ := BSet.cell HR.out.2.1 0 (by omega)
      obtain ⟨⟨m1, d1⟩, e1⟩ := BSet.cell HR.out.2.1 1 (by omega)
      obtain ⟨⟨m2, d2⟩, e2⟩ := BSet.cell HR.out.2.1 2 (by omega)
      obtain ⟨⟨m3, d3⟩, e3⟩ := BSet.cell HR.out.2.1 3 (by omega)
      go_wp2_with fail
      refine bodyPost_ret (v := .agg #[.int .u64 n0, .int .u64 n1, .int .u64 n2, .int .u64 n3]) (by simp [results, Try.results91, go_sem, d0, d1, d2, d3]) rfl ⟨n0, n1, n2, n3, rfl, ?_⟩
      have ho := HR.out.1
      have hb2 : Below w.heap.size w wr := ((bel_alloc w (.cells #[.int .u64 0, .int .u64 0, .int .u64 0, .int .u64 0] 129)).alloc (by simp) (.cells #[.int .u64 0, .int .u64 0, .int .u64 0, .int .u64 0] 129)).trans ⟨ho.1, ho.2.1, ho.2.2.1, ho.2.2.2.1, fun k hk => ho.2.2.2.2 k (by simp; omega) (.inl (by omega))⟩
      exact (((hb2.setCell (by show w.heap.size ≤ w.heap.size; omega) _).setCell (by show w.heap.size ≤ w.heap.size; omega) _).setCell (by show w.heap.size ≤ w.heap.size; omega) _).setCell (by show w.heap.size ≤ w.heap.size; omega) _
end Go.Proofs.Ythmdoplickpmaai
