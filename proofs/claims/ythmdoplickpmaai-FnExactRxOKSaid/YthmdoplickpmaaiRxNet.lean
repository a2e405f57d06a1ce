import Derived.Test.YthmdoplickpmaaiRxSet2
import Derived.Deep.AppendLies
namespace Go.Proofs.Ythmdoplickpmaai
open Go.RowKit Go.Deep Go.Lib
set_option linter.unusedVariables false
set_option maxRecDepth 100000
set_option linter.unusedSimpArgs false

theorem info131 : (Try.prog.info? 131).map (fun i => (i.zero, i.size, i.bytes)) = some (some (.agg #[.int .u64 0, .int .u64 0, .int .u64 0, .int .u64 0, .nilFunc]), 5, 40) := by kernel_rfl

/-- The net: its box q, its atoms in block g, n of them. -/
def Net (w : World) (L q n g : Nat) : Prop := ∃ f cap xs, w.rowIs q 101 33 f ∧ f 32 = .slice (some ⟨g, 0, none⟩) n cap ∧ w.ownsRow L 131 5 (.slice (some ⟨g, 0, none⟩) n cap) n xs ∧ g ≠ q ∧ 0 < n ∧ L ≤ q
theorem own_keep {w w' : World} {L n cap g : Nat} {T : TypeId} {z : Nat} {xs : List Value} (h : w.ownsRow L T z (.slice (some ⟨g, 0, none⟩) n cap) n xs) (hn : 0 < n) (hg : w'.heap[g]? = w.heap[g]?) : w'.ownsRow L T z (.slice (some ⟨g, 0, none⟩) n cap) n xs := by
  obtain ⟨h1, h2⟩ := h
  refine ⟨h1, ?_⟩
  rcases h2 with ⟨_, h0⟩ | ⟨g', cap', cur, e, hb, hc, hr⟩
  · omega
  · cases e
    exact .inr ⟨g, cap, cur, rfl, hb, hg.trans hc, hr⟩
theorem Net.keep {w w' : World} {L q n g : Nat} (h : Net w L q n g) (hq : w'.heap[q]? = w.heap[q]?) (hg : w'.heap[g]? = w.heap[g]?) : Net w' L q n g := by
  obtain ⟨f, cap, xs, h1, h2, h3, h4, h5, h6⟩ := h
  exact ⟨f, cap, xs, h1.of_block hq, h2, own_keep h3 h5 hg, h4, h5, h6⟩
theorem Net.lt {w : World} {L q n g : Nat} (h : Net w L q n g) : q < w.heap.size ∧ g < w.heap.size ∧ L ≤ q ∧ L ≤ g ∧ g ≠ q ∧ 0 < n := by
  obtain ⟨f, cap, xs, h1, h2, h3, h4, h5, h6⟩ := h
  obtain ⟨_, h⟩ := h3
  rcases h with ⟨_, h0⟩ | ⟨g', cap', cur, e, hb, hc, hr⟩
  · omega
  · cases e
    exact ⟨h1.lt, (Array.getElem?_eq_some_iff.1 hc).1, h6, hb, h4, h5⟩
theorem Net.still {w w' : World} {L q n g : Nat} (h : Net w L q n g) (hb : Below w.heap.size w w') : Net w' L q n g := h.keep (hb.block q h.lt.1) (hb.block g h.lt.2.1)
theorem Net.row {w : World} {L q n g : Nat} (h : Net w L q n g) : (∀ i, i < n * 5 → ∃ x, w.cell? ⟨g, i, none⟩ = some x) ∧ ∀ i, w.frozen? ⟨g, i, none⟩ = false := by
  obtain ⟨f, cap, xs, h1, h2, h3, h4, h5, h6⟩ := h
  obtain ⟨_, h⟩ := h3
  rcases h with ⟨_, h0⟩ | ⟨g', cap', cur, e, hb, hc, hnc, hcm, hcs, ht⟩
  · omega
  · cases e
    refine ⟨fun i hi => ?_, fun i => by simp [World.frozen?, hc]⟩
    have hlt : i < cur.size := by rw [hcs]; omega
    exact ⟨cur[i], by simp [World.cell?, hc, hlt]⟩
theorem Net.setRow {w : World} {L q n g : Nat} (h : Net w L q n g) (i : Nat) (x : Value) : Net (w.setCell ⟨g, i, none⟩ x) L q n g := by
  obtain ⟨f, cap, xs, h1, h2, h3, h4, h5, h6⟩ := h
  obtain ⟨hl, h⟩ := h3
  rcases h with ⟨_, h0⟩ | ⟨g', cap', cur, e, hb, hc, hnc, hcm, hcs, ht⟩
  · omega
  · cases e
    refine ⟨f, cap, (cur.setIfInBounds i x).toList.take (n * 5), h1.setOther (by show q ≠ g; omega) x, h2, ⟨?_, .inr ⟨g, cap, cur.setIfInBounds i x, rfl, hb, ?_, hnc, hcm, by simpa using hcs, rfl⟩⟩, h4, h5, h6⟩
    · rw [List.length_take]
      simp [hcs]
      omega
    · simp [World.setCell, Array.getElem?_modify, hc]
theorem Out2.below {L p b : Nat} {w w' : World} (h : Out2 p b w w') (hp : L ≤ p) (hb : L ≤ b) (hw : L ≤ w.heap.size) : Below L w w' := ⟨h.1, h.2.1, h.2.2.1, h.2.2.2.1, fun k hk => h.2.2.2.2 k (by omega) (by omega) (by omega)⟩

set_option maxHeartbeats 800000 in
theorem newPlace_any {L q n g : Nat} (w : World) (h : Net w L q n g) (hn : n ≤ 1000000) :
    Calls Try.prog 74 #[.pointer (some ⟨q, 0, none⟩)] w fun e w' => e = .returned (.int .i64 n) ∧ ∃ g', Net w' L q (n + 1) g' ∧ (g' = g ∨ w.heap.size ≤ g') ∧ Out2 q g w w' := by
  have hlt := h.lt
  obtain ⟨f, cap, xs, h1, h2, h3, h4, h5, h6⟩ := h
  have c0 : w.cell? ⟨q, 32, none⟩ = some (.slice (some ⟨g, 0, none⟩) n cap) := by rw [h1.cell (by omega), h2]
  have hO := own_keep (w' := w.alloc (.cells #[.int .u64 0, .int .u64 0, .int .u64 0, .int .u64 0, .nilFunc] 131)) h3 h5 (blk_alloc_lt _ _ _ hlt.2.1)
  have HO := (show Hid _ from hO); clear hO
  have HF := (show Hid _ from (⟨h1, h3⟩ : _ ∧ _)); clear h1 h3
  have hq1 : q < w.heap.size := hlt.1
  have hg1 : g < w.heap.size := hlt.2.1
  have hLg : L ≤ g := hlt.2.2.2.1
  clear hlt h2
  obtain ⟨i131, hi131, hzz⟩ := Option.map_eq_some_iff.1 info131
  simp only [Prod.mk.injEq] at hzz
  obtain ⟨hz0, hz1, hz2⟩ := hzz
  go_enter Try.func74, Try.ntmps74
  go_wp2_with (at_builtin; refine wpList_append_lies _ rfl (.tmp 7) (.tmp 9) 96 rfl L 131 i131 _ 5 40 Try.underlying96 hi131 hz0 hz1 hz2 rfl (by decide) _ n xs rfl HO.out ⟨w.heap.size, 0, none⟩ 1 1 [.int .u64 0, .int .u64 0, .int .u64 0, .int .u64 0, .nilFunc] rfl rfl ?c1 ?c2 (by decide) ?c3 (by omega) (by simp; omega) _ rfl ?nx)
  case c1 => exact World.news_of_block (cs := #[.int .u64 0, .int .u64 0, .int .u64 0, .int .u64 0, .nilFunc]) (blk_alloc_new _ _)
  case c2 => intro u hu; simp at hu; rcases hu with rfl | rfl <;> rfl
  case c3 => unfold maxLen; omega
  case nx =>
    intro g3 cap3 w3 hown3 hgr3 hat3 hlt3
    have hs3 := hgr3.size
    simp only [World.size_alloc] at hs3
    have hat' : g3 = g ∨ g3 = w.heap.size + 1 := by
      rcases hat3 with e | e
      · simp [Value.ownBlock] at e; exact .inl e.symm
      · exact .inr (by simpa using e)
    have hr3 : w3.rowIs q 101 33 f := (HF.out.1.alloc _).of_block (hgr3.block q (by simp; omega) (by simp [Value.ownBlock]; omega))
    have hr4 := hr3.set 32 (.slice (some ⟨g3, 0, none⟩) (n + 1) cap3)
    have c3 : w3.cell? ⟨q, 32, none⟩ = some (f 32) := hr3.cell (by omega)
    have y3 := hr3.frozen 32
    have hN : Net (w3.setCell ⟨q, 32, none⟩ (.slice (some ⟨g3, 0, none⟩) (n + 1) cap3)) L q (n + 1) g3 := ⟨_, cap3, _, hr4, if_pos rfl, own_keep hown3 (by omega) (blk_setCell_other _ _ _ _ (by show g3 ≠ q; omega)), by omega, by omega, h6⟩
    have hO2 : Out2 q g w (w3.setCell ⟨q, 32, none⟩ (.slice (some ⟨g3, 0, none⟩) (n + 1) cap3)) := ⟨hgr3.os, hgr3.tape, hgr3.output, by simp; omega, fun k hk k1 k2 => (blk_setCell_other _ _ _ _ (by exact k1)).trans ((hgr3.block k (by simp; omega) (by simp [Value.ownBlock]; omega)).trans (blk_alloc_lt _ _ _ hk))⟩
    have HN := (show Hid _ from (⟨hN, hO2⟩ : _ ∧ _)); clear hN hO2 hr3 hr4 hown3 hgr3 hat3
    have HA := (show Hid _ from hat'); clear hat'
    go_wp2_with fail
    go_ret
    exact ⟨by go_num, g3, HN.out.1, by have := HA.out; omega, HN.out.2⟩
end Go.Proofs.Ythmdoplickpmaai
