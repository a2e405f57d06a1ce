import Derived.Test.YtofobmdljelmgaaRy
/-! A Dag that is given: its copy. -/
namespace Go.Proofs.Ytofobmdljelmgaa
open Go.RowKit Go.Deep
set_option linter.unusedVariables false
set_option maxRecDepth 100000
set_option linter.unusedSimpArgs false

theorem run_makeNodes (n : Nat) (hn : n ≤ 1048576) (w : World) :
    (Instr.makeSlice 24 (.int .i64 (n : Int)) (.int .i64 (n : Int))).run Try.prog w = .ok (.slice (some ⟨w.heap.size, 0, none⟩) n n) (w.alloc (.cells (madeCells #[.string ByteArray.empty, .string ByteArray.empty, .bool false, .slice none 0 0] (n * 4)) 34)) := by
  obtain ⟨i, hi, hz, hs, hb⟩ := info_parts info34
  have hr := run_make (P := Try.prog) w 24 34 i _ Try.underlying24 hi hz .i64 .i64 n n (by omega) (Int.le_refl _) (by rw [hb]; omega) (by omega)
  simp only [Int.toNat_natCast, hs] at hr
  exact hr
/-- The first j nodes stand in the row g, their Kids in rows behind it. -/
def MadeR (ns : List Rd) (g j : Nat) (wr : World) : Prop :=
  ∃ (f : Nat → Value) (kb : Nat → Nat), wr.rowIs g 34 (ns.length * 4) f ∧
    (∀ i (_ : i < j) (hi : i < ns.length), f (i * 4) = .string ns[i].nm ∧ f (i * 4 + 1) = .string ns[i].tx ∧ f (i * 4 + 2) = .bool ns[i].lf ∧ f (i * 4 + 3) = .slice (some ⟨kb i, 0, none⟩) ns[i].ks.length ns[i].ks.length) ∧
    (∀ i (_ : i < j) (hi : i < ns.length), IRow wr (kb i) ns[i].ks) ∧
    (∀ i, i < j → g < kb i ∧ kb i < wr.heap.size) ∧ ∀ i i', i < i' → i' < j → kb i < kb i'
theorem IRow.keep {w w' : World} {b : Nat} {l : List Int} (h : IRow w b l) (hb : w'.heap[b]? = w.heap[b]?) : IRow w' b l := World.rowIs.of_block h hb
theorem madeR_step {ns : List Rd} {g j p : Nat} {wr w1 : World} (hj : j < ns.length) (hM : MadeR ns g j wr) (hb1 : Below wr.heap.size wr w1) (hp : wr.heap.size ≤ p ∧ p < w1.heap.size) (hl : IRow w1 p ns[j].ks) :
    MadeR ns g (j + 1) ((((w1.setCell ⟨g, j * 4, none⟩ (.string ns[j].nm)).setCell ⟨g, j * 4 + 1, none⟩ (.string ns[j].tx)).setCell ⟨g, j * 4 + 2, none⟩ (.bool ns[j].lf)).setCell ⟨g, j * 4 + 3, none⟩ (.slice (some ⟨p, 0, none⟩) ns[j].ks.length ns[j].ks.length)) := by
  obtain ⟨f, kb, hrow, hcs, hls, hr, hd⟩ := hM
  have hg := hrow.lt
  have hrow1 := hrow.of_block (hb1.block _ hrow.lt)
  have hs := hb1.size
  have hk : ∀ (x y z v : Value) q, q ≠ g → ((((w1.setCell ⟨g, j * 4, none⟩ x).setCell ⟨g, j * 4 + 1, none⟩ y).setCell ⟨g, j * 4 + 2, none⟩ z).setCell ⟨g, j * 4 + 3, none⟩ v).heap[q]? = w1.heap[q]? := fun x y z v q hq => by
    rw [blk_setCell_other _ _ _ _ (by exact hq), blk_setCell_other _ _ _ _ (by exact hq), blk_setCell_other _ _ _ _ (by exact hq), blk_setCell_other _ _ _ _ (by exact hq)]
  refine ⟨_, fun i => if i = j then p else kb i, (((hrow1.set _ _).set _ _).set _ _).set _ _, fun i hi hk2 => ?_, fun i hi hk2 => ?_, fun i hi => ?_, fun i i' hii hi' => ?_⟩
  · by_cases e : i = j
    · subst e; simp
    · obtain ⟨q0, q1, q2, q3⟩ := hcs i (by omega) hk2
      refine ⟨?_, ?_, ?_, ?_⟩
      · rw [if_neg (by omega), if_neg (by omega), if_neg (by omega), if_neg (by omega)]; exact q0
      · rw [if_neg (by omega), if_neg (by omega), if_neg (by omega), if_neg (by omega)]; exact q1
      · rw [if_neg (by omega), if_neg (by omega), if_neg (by omega), if_neg (by omega)]; exact q2
      · rw [if_neg (by omega), if_neg (by omega), if_neg (by omega), if_neg (by omega)]; simp only [if_neg e]; exact q3
  · by_cases e : i = j
    · subst e
      simp only [if_true]
      exact hl.keep (hk _ _ _ _ _ (by omega))
    · simp only [if_neg e]
      have := hr i (by omega)
      exact ((hls i (by omega) hk2).keep (hb1.block _ this.2)).keep (hk _ _ _ _ _ (by omega))
  · by_cases e : i = j
    · subst e; simp; omega
    · simp only [if_neg e]; have := hr i (by omega); simp; omega
  · by_cases e : i' = j
    · subst e
      simp only [if_true]
      rw [if_neg (by omega)]
      have := hr i (by omega)
      omega
    · dsimp only; rw [if_neg e, if_neg (by omega)]; exact hd i i' hii (by omega)
theorem madeR_own {ns : List Rd} {g : Nat} {w : World} (h : MadeR ns g ns.length w) (hk : ns.length ≤ 1048576) (hks : ∀ i (hi : i < ns.length), ns[i].ks.length ≤ maxLen) : ∃ K, RN g w (.slice (some ⟨g, 0, none⟩) ns.length ns.length) ns K := by
  obtain ⟨f, kb, hrow, hcs, hls, hr, hd⟩ := h
  refine ⟨fun q => ∃ i, i < ns.length ∧ q = kb i, fun i => f (i * 4 + 3), kb, ?_, fun i hi => ?_, fun i hi _ => ⟨i, hi, rfl⟩, fun i j hi hj _ _ e => ?_, fun q ⟨i, hi, e⟩ => by have := hr i hi; omega, fun q ⟨i, hi, e⟩ e2 => ?_⟩
  · obtain ⟨cs, h1, h2, h3⟩ := hrow
    refine ⟨rc_len _ _ _, .inr ⟨g, ns.length, cs, rfl, Nat.le_refl _, h1, Nat.le_refl _, by unfold maxLen; omega, h2, ?_⟩⟩
    apply List.ext_getElem?
    intro t
    rw [List.getElem?_take]
    by_cases ht : t < ns.length * 4
    · rw [if_pos ht, Array.getElem?_toList, h3 t ht]
      have hi : t / 4 < ns.length := by omega
      obtain ⟨q0, q1, q2, q3⟩ := rc_get ns (fun i => f (i * 4 + 3)) ns.length (t / 4) hi
      obtain ⟨p0, p1, p2, p3⟩ := hcs (t / 4) hi hi
      have hdm : t = t / 4 * 4 + t % 4 := by omega
      rw [rdn_eq hi] at q0 q1 q2
      have h4 : t % 4 = 0 ∨ t % 4 = 1 ∨ t % 4 = 2 ∨ t % 4 = 3 := by omega
      rcases h4 with e | e | e | e
      · rw [hdm, e, Nat.add_zero, q0, p0]
      · rw [hdm, e, q1, p1]
      · rw [hdm, e, q2, p2]
      · rw [hdm, e, q3]
    · rw [if_neg ht, List.getElem?_eq_none (by rw [rc_len]; omega)]
  · have e := (hcs i hi hi).2.2.2
    rw [rdn_eq hi]
    show OwnI w (kb i) ns[i].ks (f (i * 4 + 3))
    rw [e]
    exact IRow.own (hls i hi hi) (hks i hi)
  · rcases Nat.lt_trichotomy i j with h | h | h
    · have := hd i j h hj; omega
    · exact h
    · have := hd j i h hi; omega
  · have := hr i hi
    have e3 : g = q := by simpa [Value.ownBlock] using e2
    omega
end Go.Proofs.Ytofobmdljelmgaa
