import Derived.Test.YtledclkmeikgdaaXNm
import Derived.Deep.OwnRows
import Derived.WalkLawsBesides
namespace Go.Proofs.Ytledclkmeikgdaa.T
open Go.RowKit Go.Deep
set_option linter.unusedVariables false
set_option linter.unusedSimpArgs false

set_option maxHeartbeats 400000 in
theorem alone_any {S : Nat → Prop} (t : Tr) (v : Value) (w : World) (hlies : Lies w S t v) :
    Calls Try.prog 125 #[t.val v] w fun e w' => e = .returned (.bool (Tr.alone t.name t.text t.leaf t.kids.length)) ∧ Below w.heap.size w w' := by
  obtain ⟨a, cap, b, off, sv, rfl, hn, hx, hc, hm, ha, hcell, hk⟩ := hlies.out
  obtain ⟨n, x, l, k⟩ := t
  dsimp only at hn hx hc ha hcell hk ⊢
  clear hcell hk ha hlies
  have hname := iName n hn
  have HN := (show Hid _ from hname); clear hname
  unfold maxLen at hm hx hn
  simp only [Tr.val]
  cases hnm : nmB n
  · have H1 := (show Hid _ from hnm); clear hnm
    go_enter Try.func125, Try.ntmps125
    go_wp2_with fail
    refine Calls.mono (HN.out _) ?_
    rintro e w1 ⟨rfl, rfl⟩
    rw [H1.out]
    go_wp2_with fail
    go_ret
    exact ⟨ret_bool (by simp [Tr.alone, H1.out]), bel_alloc _ _⟩
  · have H1 := (show Hid _ from hnm); clear hnm
    cases l
    · go_enter Try.func125, Try.ntmps125
      go_wp2_with fail
      refine Calls.mono (HN.out _) ?_
      rintro e w1 ⟨rfl, rfl⟩
      rw [H1.out]
      go_wp2_with fail
      go_ret
      exact ⟨ret_bool (by simp [Tr.alone, H1.out, isEmpty_iff]), bel_alloc _ _⟩
    · by_cases h0 : 0 < k.length
      · have h0' : ((k.length : Int) == 0) = false := by rw [beq_eq_false_iff_ne]; omega
        go_enter Try.func125, Try.ntmps125
        go_wp2_with fail
        refine Calls.mono (HN.out _) ?_
        rintro e w1 ⟨rfl, rfl⟩
        rw [H1.out]
        go_wp2_with fail
        go_ret
        exact ⟨ret_bool (by simp only [Tr.alone, H1.out]; rw [decide_eq_false (p := k.length = 0) (by omega)]; simp), bel_alloc _ _⟩
      · have h0' : ((k.length : Int) == 0) = true := by rw [beq_iff_eq]; omega
        go_enter Try.func125, Try.ntmps125
        go_wp2_with fail
        refine Calls.mono (HN.out _) ?_
        rintro e w1 ⟨rfl, rfl⟩
        rw [H1.out]
        go_wp2_with fail
        go_ret
        exact ⟨ret_bool (by simp only [Tr.alone, H1.out]; rw [decide_eq_true (p := k.length = 0) (by omega)]; simp; omega), bel_alloc _ _⟩

/-- All but the block p is as it was. -/
def But (p : Nat) (w w' : World) : Prop := w'.os = w.os ∧ w'.tape = w.tape ∧ w'.output = w.output ∧ w.heap.size ≤ w'.heap.size ∧ ∀ k, k < w.heap.size → k ≠ p → w'.heap[k]? = w.heap[k]?

theorem But.refl (p : Nat) (w : World) : But p w w := ⟨rfl, rfl, rfl, Nat.le_refl _, fun _ _ _ => rfl⟩
theorem But.trans {p : Nat} {a b c : World} (h : But p a b) (k : But p b c) : But p a c :=
  ⟨k.1.trans h.1, k.2.1.trans h.2.1, k.2.2.1.trans h.2.2.1, Nat.le_trans h.2.2.2.1 k.2.2.2.1, fun i hi hp => (k.2.2.2.2 i (Nat.lt_of_lt_of_le hi h.2.2.2.1) hp).trans (h.2.2.2.2 i hi hp)⟩
theorem But.of_below {p : Nat} {a b : World} (h : Below a.heap.size a b) : But p a b := ⟨h.os, h.tape, h.output, h.size, fun k hk _ => h.block k hk⟩
theorem But.alloc (p : Nat) (w : World) (o : Obj) : But p w (w.alloc o) := But.of_below (bel_alloc w o)
theorem But.set (p o : Nat) (w : World) (u : Value) : But p w (w.setCell ⟨p, o, none⟩ u) := ⟨rfl, rfl, rfl, by simp [World.setCell], fun k _ hp => blk_setCell_other _ _ _ _ hp⟩
theorem But.setNew {p o g : Nat} {w w' : World} (h : But p w w') (hg : w.heap.size ≤ g) (u : Value) : But p w (w'.setCell ⟨g, o, none⟩ u) :=
  ⟨h.1, h.2.1, h.2.2.1, by have := h.2.2.2.1; simp [World.setCell]; exact this, fun k hk hp => (blk_setCell_other _ _ _ _ (by show k ≠ g; omega)).trans (h.2.2.2.2 k hk hp)⟩

theorem Lies.but {w w' : World} {S : Nat → Prop} {p : Nat} {t : Tr} {v : Value} (h : Lies w S t v) (hS : ∀ b, S b → b ≠ p) (hb : But p w w') : Lies w' S t v :=
  (h.lt.keep (fun b hb' => hb.2.2.2.2 b hb'.2 (hS b hb'.1))).mono (fun _ h => h.1)

theorem But.cell {p : Nat} {w w' : World} (h : But p w w') {a : Addr} {v : Value} (hp : a.block ≠ p) (hc : w.cell? a = some v) : w'.cell? a = some v :=
  (World.cell?_of_block (w := w) (h.2.2.2.2 a.block (lt_of_cell hc) hp)).trans hc

/-- The walk's two numbers. -/
def At2 (w : World) (p : Nat) (n d : Int) : Prop := ∃ f, w.rowIs p 152 2 f ∧ f 0 = .int .i64 n ∧ f 1 = .int .i64 d

theorem At2.cells {w : World} {p : Nat} {n d : Int} (h : At2 w p n d) : w.cell? ⟨p, 0, none⟩ = some (.int .i64 n) ∧ w.cell? ⟨p, 1, none⟩ = some (.int .i64 d) ∧ w.frozen? ⟨p, 0, none⟩ = false ∧ w.frozen? ⟨p, 1, none⟩ = false ∧ p < w.heap.size := by
  obtain ⟨f, hf, h0, h1⟩ := h
  exact ⟨by rw [← h0]; exact hf.cell (by omega), by rw [← h1]; exact hf.cell (by omega), hf.frozen 0, hf.frozen 1, hf.lt⟩
theorem At2.block {w w' : World} {p : Nat} {n d : Int} (h : At2 w p n d) (e : w'.heap[p]? = w.heap[p]?) : At2 w' p n d := by
  obtain ⟨f, hf, h0, h1⟩ := h
  exact ⟨f, hf.of_block e, h0, h1⟩
theorem At2.below {w w' : World} {p : Nat} {n d : Int} (h : At2 w p n d) (hb : Below w.heap.size w w') : At2 w' p n d := h.block (hb.block p h.cells.2.2.2.2)
theorem At2.set {w : World} {p : Nat} {n d : Int} (h : At2 w p n d) (n' d' : Int) : At2 ((w.setCell ⟨p, 0, none⟩ (.int .i64 n')).setCell ⟨p, 1, none⟩ (.int .i64 d')) p n' d' := by
  obtain ⟨f, hf, h0, h1⟩ := h
  exact ⟨_, (hf.set 0 _).set 1 _, by simp, by simp⟩

theorem At2.congr {w : World} {p : Nat} {n d n' d' : Int} (h : At2 w p n d) (e : n = n') (e' : d = d') : At2 w p n' d' := by rw [← e, ← e']; exact h
theorem At2.alloc {w : World} {p : Nat} {n d : Int} (h : At2 w p n d) (o : Obj) : At2 (w.alloc o) p n d := h.below (bel_alloc _ _)

/-- What the walk goes on with: else it ends by a panic. -/
def Good (n q : Int) (t : Tr) : Prop := n + t.cnt ≤ 1000 ∧ q - 1 + t.deep ≤ 60 ∧ t.right = true

/-- What the walk panics with. -/
abbrev theFault : PanicEntry := { v := .iface 149 (.agg #[.int .i64 1, .int .i64 0]), recovered := false }

set_option maxHeartbeats 800000 in
theorem through_any {S : Nat → Prop} (t : Tr) : ∀ (v : Value) (w : World) (p : Nat) (n d q : Int), Lies w S t v → (∀ b, S b → b ≠ p) → At2 w p n d → 0 ≤ n → n ≤ 1000 → 0 ≤ d → d ≤ 1000 → 1 ≤ q → q ≤ 61 →
    Calls Try.prog 120 #[.pointer (some ⟨p, 0, none⟩), t.val v, .int .i64 q] w fun e w' => But p w w' ∧
      ((Good n q t ∧ e = .returned (.tuple #[]) ∧ At2 w' p (n + t.cnt) (max d (q - 1 + t.deep))) ∨ (¬ Good n q t ∧ e = .panicked [theFault])) := by
  refine Tr.ind (P := fun t => ∀ (v : Value) (w : World) (p : Nat) (n d q : Int), Lies w S t v → (∀ b, S b → b ≠ p) → At2 w p n d → 0 ≤ n → n ≤ 1000 → 0 ≤ d → d ≤ 1000 → 1 ≤ q → q ≤ 61 →
    Calls Try.prog 120 #[.pointer (some ⟨p, 0, none⟩), t.val v, .int .i64 q] w fun e w' => But p w w' ∧
      ((Good n q t ∧ e = .returned (.tuple #[]) ∧ At2 w' p (n + t.cnt) (max d (q - 1 + t.deep))) ∨ (¬ Good n q t ∧ e = .panicked [theFault]))) ?_ t
  intro nm x l k ih v w p n d q hlies hS hat h0 h1 h2 h3 h4 h5
  have hal := fun (w' : World) (hw : But p w w') => alone_any _ v w' (hlies.but hS hw)
  obtain ⟨a, cap, b, off, sv, rfl, hn, hx, hc, hm, ha, hcell, hk⟩ := hlies.out
  dsimp only at hn hx hc ha hcell hk hal ⊢
  unfold maxLen at hm
  obtain ⟨e0, e1, z0, z1, hp⟩ := hat.cells
  have HI := (show Hid _ from ih); clear ih
  have HC := (show Hid _ from hcell); clear hcell
  have HK := (show Hid _ from hk); clear hk
  have HA := (show Hid _ from ha); clear ha
  have HL := (show Hid _ from hal); clear hal
  have HT := (show Hid _ from hat); clear hat
  have HS := (show Hid _ from hS); clear hS
  simp only [Tr.val]
  have hgood : Good n q ⟨nm, x, l, k⟩ → n + 1 + Tr.cntL k ≤ 1000 ∧ q + Tr.deepL k ≤ 60 ∧ Tr.alone nm x l k.length = true ∧ Tr.rightL k = true := by
    rintro ⟨g1, g2, g3⟩
    rw [Tr.cnt_mk] at g1
    rw [Tr.deep_mk] at g2
    rw [Tr.right_mk] at g3
    simp at g3
    exact ⟨by omega, by omega, g3.1, g3.2⟩
  have HG := (show Hid _ from hgood); clear hgood
  by_cases hdq : d < q
  all_goals
    by_cases hn1 : 1000 < n + 1
    · go_enter Try.func120, Try.ntmps120
      go_wp2_with fail
      exact ⟨rfl, ((But.set _ _ _ _).trans (But.set _ _ _ _)).trans (But.alloc _ _ _), .inr ⟨fun hg => by have := HG.out hg; omega, rfl⟩⟩
    · by_cases hq1 : 60 < q
      · go_enter Try.func120, Try.ntmps120
        go_wp2_with fail
        exact ⟨rfl, ((But.set _ _ _ _).trans (But.set _ _ _ _)).trans (But.alloc _ _ _), .inr ⟨fun hg => by have := HG.out hg; omega, rfl⟩⟩
      · go_enter Try.func120, Try.ntmps120
        go_wp2_with fail
        refine Calls.mono (HL.out _ (((But.set _ _ _ _).trans (But.set _ _ _ _)).trans (But.alloc _ _ _))) ?_
        rintro e w1 ⟨rfl, hb1⟩
        have hbut1 : But p w w1 := (((But.set _ _ _ _).trans (But.set _ _ _ _)).trans (But.alloc _ _ _)).trans (But.of_below hb1)
        obtain ⟨hcc, hff⟩ := bcell hb1
        cases hal : Tr.alone nm x l k.length
        · have HF := (show Hid _ from hal); clear hal
          go_wp2_with fail
          exact ⟨rfl, hbut1, .inr ⟨fun hg => by have := (HG.out hg).2.2.1; rw [HF.out] at this; exact absurd this (by simp), rfl⟩⟩
        · have HF := (show Hid _ from hal); clear hal
          have hat1 : At2 w1 p (n + 1) (max d q) := by
            refine At2.below ?_ hb1
            refine At2.alloc ?_ _
            first
              | exact At2.congr (At2.set HT.out (n + 1) q) rfl (by omega)
              | exact At2.congr (At2.set HT.out (n + 1) d) rfl (by omega)
          have HT1 := (show Hid _ from hat1); clear hat1
          go_wp2_with fail
          go_loopw [43] (fun i wr => ∃ j : Nat, j ≤ k.length ∧ i = .int .i64 j ∧ But p w wr ∧ Hid (At2 wr p (n + 1 + Tr.cntL (k.take j)) (max (max d q) (q + Tr.deepL (k.take j)))) ∧ Hid (Tr.rightL (k.take j) = true) ∧ n + 1 + Tr.cntL (k.take j) ≤ 1000 ∧ q + Tr.deepL (k.take j) ≤ 60) (fun i _ => k.length - (intOf i).toNat)
          case atStart =>
            refine ⟨0, Nat.zero_le _, rfl, hbut1, ?_, rfl, by simp [Tr.cntL]; try omega, by simp [Tr.deepL]; try omega⟩
            exact At2.congr HT1.out (by simp [Tr.cntL]) (by simp [Tr.deepL]; try omega)
          case round =>
            obtain ⟨j, hj, rfl, hbw, HR, HRT, hj1, hj2⟩ := hrel
            by_cases hlt : j < k.length
            · obtain ⟨rfl, hSb⟩ := HA.out (by omega)
              have hbp : b ≠ p := HS.out b hSb
              obtain ⟨c0, c1, c2, c3⟩ := HC.out j hlt
              replace c0 := hbw.cell (by exact hbp) c0
              replace c1 := hbw.cell (by exact hbp) c1
              replace c2 := hbw.cell (by exact hbp) c2
              replace c3 := hbw.cell (by exact hbp) c3
              obtain ⟨a1, l1, p1, hsv⟩ := (HK.out j hlt).form
              have hcl := HI.out j hlt (sv j) 
              rw [hsv] at c3 hcl
              have hlk := (HK.out j hlt).but HS.out hbw
              rw [hsv] at hlk
              have HCL := (show Hid _ from hcl); clear hcl
              have HLK := (show Hid _ from hlk); clear hlk
              have g1 := Tr.cntL_take_succ k j hlt
              have g2 := Tr.deepL_take_succ k j hlt
              have g3 := Tr.rightL_take_succ k j hlt
              have g4 := Tr.cntL_take_le k (j + 1)
              have g5 := Tr.deepL_take_le k (j + 1)
              have HGG := (show Hid _ from (⟨g1, g2, g3, g4, g5⟩ : _ ∧ _ ∧ _ ∧ _ ∧ _)); clear g1 g2 g3 g4 g5 hsv
              go_wp2_with fail
              refine Calls.mono (HCL.out _ p _ _ (q + 1) (Lies.still HLK.out (bel_alloc _ _)) HS.out (At2.alloc HR.out _) (by omega) (by omega) (by omega) (by omega) (by omega) (by omega)) ?_
              rintro e w2 ⟨hbut2, h⟩
              have hb3 : But p w w2 := (hbw.trans (But.alloc _ _ _)).trans hbut2
              obtain ⟨g1, g2, g3, g4, g5⟩ := HGG.out
              rcases h with ⟨⟨y1, y2, y3⟩, rfl, hat2⟩ | ⟨hg, rfl⟩
              · have hat3 : At2 w2 p (n + 1 + Tr.cntL (k.take (j + 1))) (max (max d q) (q + Tr.deepL (k.take (j + 1)))) := At2.congr hat2 (by rw [g1]; omega) (by rw [g2]; omega)
                have hr3 : Tr.rightL (k.take (j + 1)) = true := by rw [g3, HRT.out, y3]; rfl
                have HAT := (show Hid _ from hat3); clear hat3 hat2
                have HR3 := (show Hid _ from hr3); clear hr3
                have y4 : n + 1 + Tr.cntL (k.take (j + 1)) ≤ 1000 := by omega
                have y5 : q + Tr.deepL (k.take (j + 1)) ≤ 60 := by omega
                clear g1 g2 g3 g4 g5 y3
                go_wp2_with fail
                exact ⟨⟨j + 1, by omega, by go_num, hb3, HAT, HR3, y4, y5⟩, by simp [intOf]; omega⟩
              · have hng : ¬ Good n q ⟨nm, x, l, k⟩ := fun hg' => by
                  obtain ⟨m1, m2, m3, m4⟩ := HG.out hg'
                  have m5 := Tr.rightL_take k (j + 1) m4
                  rw [g3] at m5
                  simp at m5
                  exact hg ⟨by omega, by omega, m5.2⟩
                have HNG := (show Hid _ from hng); clear hng hg g1 g2 g3 g4 g5
                go_wp2_with fail
                exact ⟨rfl, hb3, .inr ⟨HNG.out, rfl⟩⟩
            · have HD : Hid (j = k.length) := by show j = k.length; omega
              go_wp2_with fail
              go_end0
              obtain rfl := HD.out
              have h1 := HR.out
              have h2 := HRT.out
              rw [List.take_length] at h1 h2 hj1 hj2
              refine ⟨hbw, .inl ⟨⟨?_, ?_, ?_⟩, rfl, At2.congr h1 ?_ ?_⟩⟩
              · rw [Tr.cnt_mk]; omega
              · rw [Tr.deep_mk]; omega
              · rw [Tr.right_mk, HF.out, h2]; rfl
              · rw [Tr.cnt_mk]; omega
              · rw [Tr.deep_mk]; omega
end Go.Proofs.Ytledclkmeikgdaa.T
