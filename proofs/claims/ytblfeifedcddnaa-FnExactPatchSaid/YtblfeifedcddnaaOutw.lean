import Derived.Deep.RegionLaw
import Derived.Test.YtblfeifedcddnaaCopy
import Derived.Test.YtblfeifedcddnaaForm
namespace Go.Proofs.Ytblfeifedcddnaa
open Go.RowKit Go.Deep Go.Lib
set_option linter.unusedVariables false
set_option maxRecDepth 100000
set_option linter.unusedSimpArgs false

/-- A box of four cells that may be written. -/
def Box4 (w : World) (b : Nat) (c0 c1 c2 c3 : Value) : Prop := ∃ f, w.rowIs b 51 4 f ∧ f 0 = c0 ∧ f 1 = c1 ∧ f 2 = c2 ∧ f 3 = c3
theorem Box4.lt {w : World} {b : Nat} {c0 c1 c2 c3 : Value} (h : Box4 w b c0 c1 c2 c3) : b < w.heap.size := by
  obtain ⟨f, h, _⟩ := h; exact h.lt
theorem Box4.new (w : World) (c0 c1 c2 c3 : Value) : Box4 (w.alloc (.cells #[c0, c1, c2, c3] 51)) w.heap.size c0 c1 c2 c3 :=
  ⟨fun i => (#[c0, c1, c2, c3][i]?).getD (.bool false), ⟨#[c0, c1, c2, c3], blk_alloc_new _ _, rfl, fun i hi => by simp [hi]⟩, rfl, rfl, rfl, rfl⟩
theorem Box4.keep {w w' : World} {b : Nat} {c0 c1 c2 c3 : Value} (h : Box4 w b c0 c1 c2 c3) (hb : w'.heap[b]? = w.heap[b]?) : Box4 w' b c0 c1 c2 c3 := by
  obtain ⟨f, h, r⟩ := h; exact ⟨f, h.of_block hb, r⟩
theorem Box4.still {w w' : World} {b : Nat} {c0 c1 c2 c3 : Value} (h : Box4 w b c0 c1 c2 c3) (hb : Below w.heap.size w w') : Box4 w' b c0 c1 c2 c3 := h.keep (hb.block b h.lt)
theorem Box4.cells {w : World} {b : Nat} {c0 c1 c2 c3 : Value} (h : Box4 w b c0 c1 c2 c3) : Four w b c0 c1 c2 c3 := by
  obtain ⟨f, h, rfl, rfl, rfl, rfl⟩ := h
  exact ⟨h.cell (by decide), h.cell (by decide), h.cell (by decide), h.cell (by decide)⟩
theorem Box4.frozen {w : World} {b : Nat} {c0 c1 c2 c3 : Value} (h : Box4 w b c0 c1 c2 c3) (i : Nat) : w.frozen? ⟨b, i, none⟩ = false := by
  obtain ⟨f, h, _⟩ := h; exact h.frozen i
theorem Box4.set3 {w : World} {b : Nat} {c0 c1 c2 c3 : Value} (h : Box4 w b c0 c1 c2 c3) (u : Value) : Box4 (w.setCell ⟨b, 3, none⟩ u) b c0 c1 c2 u := by
  obtain ⟨f, h, rfl, rfl, rfl, rfl⟩ := h
  exact ⟨_, h.set 3 u, rfl, rfl, rfl, rfl⟩

theorem as_leaf (X : Value) (w : World) : (Instr.typeAssert (.iface 199 X) 174 199 true).run Try.prog w = .ok (.tuple #[X, .bool true]) w := by kernel_rfl
theorem as_node0 (X : Value) (w : World) : (Instr.typeAssert (.iface 202 X) 174 199 true).run Try.prog w = .ok (.tuple #[.agg #[.string ByteArray.empty, .string ByteArray.empty], .bool false]) w := by kernel_rfl
theorem as_node1 (X : Value) (w : World) : (Instr.typeAssert (.iface 202 X) 174 202 true).run Try.prog w = .ok (.tuple #[X, .bool true]) w := by kernel_rfl

set_option maxHeartbeats 1600000 in
theorem outw_any {S : Nat → Prop} (t : Tr) : ∀ (u : Value) (w : World), Form w S t u → t.wt ≤ 1048576 → t.right = true →
    Calls Try.prog 111 #[u] w fun e w' => ∃ v', e = .returned (t.val v') ∧ Below w.heap.size w w' ∧ Own w' w.heap.size w'.heap.size t v' := by
  refine Tr.ind (P := fun t => ∀ (u : Value) (w : World), Form w S t u → t.wt ≤ 1048576 → t.right = true →
    Calls Try.prog 111 #[u] w fun e w' => ∃ v', e = .returned (t.val v') ∧ Below w.heap.size w w' ∧ Own w' w.heap.size w'.heap.size t v') ?_ t
  intro n x l k ih u w hform hwt hrt
  rw [Tr.wt_mk] at hwt
  rcases hform.out with ⟨rfl, hn, hx, rfl⟩ | ⟨rfl, hn, cap, b, fv, rfl, hc, hm, hS, hb, hcell, hk⟩
  · dsimp only at *
    have h1 := as_leaf
    go_enter Try.func111, Try.ntmps111
    go_wp2_with fail
    have hk0 : k = [] := by
      rw [Tr.right_mk] at hrt
      simp [Tr.alone] at hrt
      exact hrt.1.2.1
    subst hk0
    refine bodyPost_ret (v := .agg #[.string n, .string x, .bool true, .slice none 0 0]) (by simp [results, Try.results111, go_sem]) rfl ⟨_, rfl, ?_, ?_⟩
    · exact (bel_alloc _ _).alloc (by simp) _
    · exact Own.shut ⟨none, 0, 0, fun _ => .bool false, fun _ => 0, fun _ => 0, rfl, hn, hx, Nat.le_refl _, Nat.zero_le _, fun h => absurd h (Nat.not_lt_zero _), fun i hi => absurd hi (Nat.not_lt_zero _), fun i hi => absurd hi (Nat.not_lt_zero _), fun i hi => absurd hi (Nat.not_lt_zero _), fun i j hi hj => absurd hj (Nat.not_lt_zero _)⟩
  · dsimp only at *
    have h1 := as_node0
    have h2 := as_node1
    have hx0 : x = ByteArray.empty := by
      rw [Tr.right_mk] at hrt
      simp [Tr.alone] at hrt
      exact hrt.1.2
    have hrk : ∀ i (hi : i < k.length), k[i].right = true := by
      rw [Tr.right_mk] at hrt
      simp [Tr.rightL] at hrt
      exact fun i hi => hrt.2 _ (List.getElem_mem hi)
    subst hx0
    clear hrt
    have HI := (show Hid _ from ih); clear ih
    have HC := (show Hid _ from hcell); clear hcell
    have HK := (show Hid _ from hk); clear hk
    have HR := (show Hid _ from hrk); clear hrk
    have HX := (show Hid _ from (⟨hn, hm, hform⟩ : _ ∧ _ ∧ _)); clear hform
    unfold maxLen at hm
    obtain ⟨i29, hi29, hzz⟩ := Option.map_eq_some_iff.1 info51
    simp only [Prod.mk.injEq] at hzz
    obtain ⟨hz0, hz1, hz2⟩ := hzz
    go_enter Try.func111, Try.ntmps111
    go_wp2_with fail
    go_loopw [26] (fun i wr => ∃ (j : Nat) (a' : Option Addr) (m' c' : Nat), j ≤ k.length ∧ i = .int .i64 j ∧ Below (w.heap.size + 2) ((w.alloc (.cells #[.string ByteArray.empty, .string ByteArray.empty, .bool false, .slice none 0 0] 51)).alloc (.cells #[.string n, .slice (some ⟨b, 0, none⟩) k.length cap] 202)) wr ∧ Hid (Box4 wr (w.heap.size + 2) (.string n) (.string ByteArray.empty) (.bool false) (.slice a' m' c')) ∧ Hid (Grw k (w.heap.size + 3) j (.slice a' m' c') wr)) (fun i _ => k.length - (intOf i).toNat)
    case atStart =>
      refine ⟨0, none, 0, 0, Nat.zero_le _, rfl, (bel_alloc _ _).mono (by simp), ?_, fun _ => .bool false, fun _ => 0, fun _ => 0, World.ownsRow_nil _ _ _ _, fun i hi => absurd hi (Nat.not_lt_zero _), fun i hi => absurd hi (Nat.not_lt_zero _), fun i i' _ hi => absurd hi (Nat.not_lt_zero _)⟩
      have := Box4.new ((w.alloc (.cells #[.string ByteArray.empty, .string ByteArray.empty, .bool false, .slice none 0 0] 51)).alloc (.cells #[.string n, .slice (some ⟨b, 0, none⟩) k.length cap] 202)) (.string n) (.string ByteArray.empty) (.bool false) (.slice none 0 0)
      simp only [World.size_alloc] at this
      exact this
    case round =>
      obtain ⟨j, a', m', c', hj, rfl, hbw, HB, HG⟩ := hrel
      have hbw' : Below w.heap.size w wr := ((bel_alloc _ _).alloc (by simp) _).trans (hbw.mono (by omega))
      have hwz : w.heap.size + 3 ≤ wr.heap.size := by have := HB.out.lt; omega
      by_cases hlt : j < k.length
      · have c0 := HC.out j hlt
        rw [← hbw'.cell (lt_of_cell c0)] at c0
        have hdr := (Below.refl wr.heap.size wr).drew
        obtain ⟨T, X, hfj⟩ := (HK.out j hlt).iface
        have hcl := HI.out j hlt (fv j) wr.drew (((HK.out j hlt).still hbw').still hdr) (by have := Tr.wt_mem k j hlt; omega) (HR.out j hlt)
        rw [hfj] at c0 hcl
        have HCL := (show Hid _ from hcl); clear hcl hfj
        obtain ⟨fs, ls, hs, hown, hls, hr, hd⟩ := HG.out
        have HF := (show Hid _ from (⟨hown, hls, hr, hd⟩ : _ ∧ _ ∧ _ ∧ _)); clear hown hls hr hd
        have T3 := HB.out.cells.2.2.2
        have f3 := HB.out.frozen 3
        go_wp2_with fail
        go_region_law (first
          | (refine step_append_lies _ rfl (.tmp 31) (.tmp 34) 30 rfl (w.heap.size + 3) 51 i29 _ 4 64 Try.underlying30 hi29 hz0 hz1 hz2 rfl (by decide) _ j (kc k fs j) (by simp [Act.eval, Act.put]) HO2.out ⟨w1.heap.size, 0, none⟩ 1 1 [.string k[j].name, .string k[j].text, .bool k[j].leaf, .slice a2 l2 p2] (by simp [Act.eval, Act.put]) rfl (cell_four_box _ _ _ _ _ _) (by intro u hu; simp at hu; rcases hu with rfl | rfl | rfl | rfl <;> rfl) (by decide) (by unfold maxLen; omega) (by omega) (by simp; omega) _ rfl ?_; intro g3 cap3 w3 hown3 hgr3 hat3 hlt3; have B3 := (B1.still (bel_alloc _ _)).keep (hgr3.block _ (by simp; omega) (fun e => by have := (World.ownsRow.lt HF.out.1 _ e.symm).1; omega)); have V3 := B3.cells.2.2.2; have g3f := B3.frozen 3)
          | (go_simp; go_at_call 111; refine Calls.mono HCL.out ?_; rintro e w1 ⟨v1, rfl, hb1, hl1⟩; obtain ⟨a2, l2, p2, rfl⟩ := hl1.form; have hbA := hdr.trans (hb1.mono (Nat.le_refl _)); have hs1 : wr.heap.size ≤ w1.heap.size := hbA.size; have B1 := HB.out.still hbA; have U3 := B1.cells.2.2.2; have U4 := (B1.still (bel_alloc w1 (.cells #[.string k[j].name, .string k[j].text, .bool k[j].leaf, .slice a2 l2 p2] 51))).cells.2.2.2; have HO2 := (show Hid _ from own_still (own_still HF.out.1 hbA) (bel_alloc w1 (.cells #[.string k[j].name, .string k[j].text, .bool k[j].leaf, .slice a2 l2 p2] 51)))))
        all_goals
          obtain ⟨hown, hls, hr, hd⟩ := HF.out
          have hG3 : Grw k (w.heap.size + 3) (j + 1) (.slice (some ⟨g3, 0, none⟩) (j + 1) cap3) w3 := by
            rw [← nth_eq hlt] at hown3 hl1
            exact Grw.step hown hls hr hd hwz (bel_trans hbA (bel_alloc _ _)) (hl1.still (bel_alloc _ _)) (Nat.le_refl _) (by simp) hown3 hgr3 hat3
          have hb3 := ((hbw.trans ((bel_trans hbA (bel_alloc w1 (.cells #[.string k[j].name, .string k[j].text, .bool k[j].leaf, .slice a2 l2 p2] 51))).mono (by omega))).grown hgr3 (by simp; omega) (fun q hq => by
            have := (World.ownsRow.lt hown q hq).1
            omega)).setCell (p := ⟨w.heap.size + 2, 3, none⟩) (Nat.le_refl _) (.slice (some ⟨g3, 0, none⟩) (j + 1) cap3)
          have H3 := (show Hid _ from hG3.past (g := w.heap.size + 2) (o := 3) (x := .slice (some ⟨g3, 0, none⟩) (j + 1) cap3) (by omega))
          have H4 := (show Hid _ from B3.set3 (.slice (some ⟨g3, 0, none⟩) (j + 1) cap3))
          clear hG3 B3 hown3 hgr3 hat3 hl1 hown hls hr hd V3 U3 U4 B1 T3 f3 g3f
          go_wp2_with fail
          exact ⟨⟨j + 1, _, _, _, by omega, by go_num, hb3, H4, H3⟩, by simp [intOf]; omega⟩
      · have : j = k.length := by omega
        subst this
        have hfin := Grw.done (n := n) (x := ByteArray.empty) (le := false) HG.out hn (Nat.zero_le _)
        have HF := (show Hid _ from hfin); clear hfin
        have hcc : ∀ o, wr.cell? ⟨w.heap.size, o, none⟩ = ((w.alloc (.cells #[.string ByteArray.empty, .string ByteArray.empty, .bool false, .slice none 0 0] 51)).alloc (.cells #[.string n, .slice (some ⟨b, 0, none⟩) k.length cap] 202)).cell? ⟨w.heap.size, o, none⟩ := fun o => hbw.cell (p := ⟨w.heap.size, o, none⟩) (by show w.heap.size < _; omega)
        have hff : ∀ o, wr.frozen? ⟨w.heap.size, o, none⟩ = ((w.alloc (.cells #[.string ByteArray.empty, .string ByteArray.empty, .bool false, .slice none 0 0] 51)).alloc (.cells #[.string n, .slice (some ⟨b, 0, none⟩) k.length cap] 202)).frozen? ⟨w.heap.size, o, none⟩ := fun o => hbw.frozen (p := ⟨w.heap.size, o, none⟩) (by show w.heap.size < _; omega)
        have Z0 : wr.cell? ⟨w.heap.size, 0, none⟩ = some (.string ByteArray.empty) := by rw [hcc]; simp [go_sem]
        have Z1 : wr.cell? ⟨w.heap.size, 1, none⟩ = some (.string ByteArray.empty) := by rw [hcc]; simp [go_sem]
        have Z2 : wr.cell? ⟨w.heap.size, 2, none⟩ = some (.bool false) := by rw [hcc]; simp [go_sem]
        have Z3 : wr.cell? ⟨w.heap.size, 3, none⟩ = some (.slice none 0 0) := by rw [hcc]; simp [go_sem]
        have y0 : wr.frozen? ⟨w.heap.size, 0, none⟩ = false := by rw [hff]; simp [go_sem]
        have y1 : wr.frozen? ⟨w.heap.size, 1, none⟩ = false := by rw [hff]; simp [go_sem]
        have y2 : wr.frozen? ⟨w.heap.size, 2, none⟩ = false := by rw [hff]; simp [go_sem]
        have y3 : wr.frozen? ⟨w.heap.size, 3, none⟩ = false := by rw [hff]; simp [go_sem]
        obtain ⟨T0, T1, T2, T3⟩ := HB.out.cells
        clear hcc hff
        go_wp2_with fail
        refine bodyPost_ret (v := .agg #[.string n, .string ByteArray.empty, .bool false, .slice a' m' c']) (by simp [results, Try.results111, go_sem, Z0, Z1, Z2, Z3]) rfl ⟨_, rfl, ?_, ?_⟩
        · exact (((hbw'.setCell (by simp) _).setCell (by simp) _).setCell (by simp) _).setCell (by simp) _
        · have hfin : Own wr (w.heap.size + 3) wr.heap.size _ _ := HF.out
          exact ((((hfin.past (.inl (by omega))).past (.inl (by omega))).past (.inl (by omega))).past (.inl (by omega))).keep (by omega) (by simp) (fun _ _ _ _ => rfl)
end Go.Proofs.Ytblfeifedcddnaa
