import Derived.Test.YteomgkcgjkbppaaFa
import Derived.Test.YteomgkcgjkbppaaCopy
/-! A row of Kids that lead into trees which lie elsewhere, while it grows. -/
namespace Go.Proofs.Yteomgkcgjkbppaa
open Go.RowKit Go.Deep Go.Lib
set_option linter.unusedVariables false
set_option maxRecDepth 100000
set_option linter.unusedSimpArgs false

/-- The first j of k stand in a row that grows; what they lead to lies below C, or at or behind B, and not in the row itself. -/
def FGr (k : List Tr) (C B j : Nat) (v : Value) (wr : World) : Prop :=
  ∃ fs : Nat → Value, wr.ownsRow B 31 4 v j (kc k fs j) ∧ ∀ i, i < j → Lies wr (fun q => v.ownBlock ≠ some q ∧ (q < C ∨ B ≤ q)) (nth k i) (fs i)
theorem FGr.step {k : List Tr} {C B j g cap : Nat} {v u : Value} {wr w2 w3 : World} {fs : Nat → Value} (hown : wr.ownsRow B 31 4 v j (kc k fs j)) (hls : ∀ i, i < j → Lies wr (fun q => v.ownBlock ≠ some q ∧ (q < C ∨ B ≤ q)) (nth k i) (fs i))
    (hC : C ≤ B) (hB : B ≤ wr.heap.size) (hb : Below wr.heap.size wr w2) (hu : Lies w2 (fun q => q < C ∨ wr.heap.size ≤ q) (nth k j) u)
    (hown3 : w3.ownsRow B 31 4 (.slice (some ⟨g, 0, none⟩) (j + 1) cap) (j + 1) (kc k fs j ++ [.string (nth k j).name, .string (nth k j).text, .bool (nth k j).leaf, u]))
    (hgr : w2.grownBy w3 v.ownBlock) (hat : v.ownBlock = some g ∨ g = w2.heap.size) : FGr k C B (j + 1) (.slice (some ⟨g, 0, none⟩) (j + 1) cap) w3 := by
  have hs := hb.size
  have hs3 := hgr.size
  have hvl := hown.lt
  have key : ∀ q, q < w2.heap.size → v.ownBlock ≠ some q → (Value.slice (some ⟨g, 0, none⟩) (j + 1) cap).ownBlock ≠ some q := by
    intro q hq hne e
    simp [Value.ownBlock] at e
    subst e
    rcases hat with h | h
    · exact hne h
    · omega
  refine ⟨fun i => if i = j then u else fs i, ?_, fun i hi => ?_⟩
  · rw [kc, kc_congr k (fs := fun i => if i = j then u else fs i) (gs := fs) j (fun i hi => if_neg (by omega))]
    simp only [if_true]
    exact hown3
  · by_cases e : i = j
    · subst e
      simp only [if_true]
      refine Lies.carry (w := w2) (S := fun q => q < C ∨ wr.heap.size ≤ q) (fun q h1 h2 => ?_) (fun q o h1 h2 => ?_) (fun _ _ _ h => lt_of_cell h) hu
      · refine ⟨key q h2 (fun e => ?_), ?_⟩
        · have := hvl q e; omega
        · omega
      · refine World.cell?_of_block (w := w2) (hgr.block q h2 (fun e => ?_))
        have := hvl q e.symm; omega
    · simp only [if_neg e]
      have h1 := ((hls i (by omega)).still hb).lt
      have h0 := (hls i (by omega)).lt
      refine Lies.carry (w := w2) (S := fun q => v.ownBlock ≠ some q ∧ (q < C ∨ B ≤ q)) (fun q h1 h2 => ⟨key q h2 h1.1, h1.2⟩) (fun q o h1 h2 => World.cell?_of_block (w := w2) (hgr.block q h2 (fun e => h1.1 e.symm))) (fun _ _ _ h => lt_of_cell h) ((hls i (by omega)).still hb)
theorem FGr.still {k : List Tr} {C B j : Nat} {v : Value} {w w' : World} (h : FGr k C B j v w) (hb : Below w.heap.size w w') : FGr k C B j v w' := by
  obtain ⟨fs, h1, h2⟩ := h
  exact ⟨fs, own_still h1 hb, fun i hi => (h2 i hi).still hb⟩
theorem FGr.done {k : List Tr} {C B : Nat} {v : Value} {w : World} {n x : ByteArray} {le : Bool} (h : FGr k C B k.length v w) (hn : n.size ≤ maxLen) (hx : x.size ≤ maxLen) : Lies w (fun q => q < C ∨ B ≤ q) ⟨n, x, le, k⟩ v := by
  obtain ⟨fs, hown, hls⟩ := h
  rcases hown.2 with ⟨rfl, h0⟩ | ⟨g, cap, cur, rfl, hBg, hg, hnc, hcm, hcs, htake⟩
  · obtain rfl : k = [] := List.eq_nil_of_length_eq_zero h0
    exact Lies.shut ⟨none, 0, 0, 0, fs, rfl, hn, hx, Nat.le_refl _, Nat.zero_le _, fun h => absurd h (Nat.not_lt_zero _), fun i hi => absurd hi (Nat.not_lt_zero _), fun i hi => absurd hi (Nat.not_lt_zero _)⟩
  · refine Lies.shut ⟨some ⟨g, 0, none⟩, cap, g, 0, fs, rfl, hn, hx, hnc, hcm, fun _ => ⟨rfl, .inr hBg⟩, fun i hi => ?_, fun i hi => ?_⟩
    · dsimp only at hi ⊢
      obtain ⟨h0, h1, h2, h3⟩ := kc_get k fs k.length i hi
      rw [nth_eq hi] at h0 h1 h2
      rw [Nat.zero_add]
      exact ⟨by rw [World.ownsRow.cellAt hown _ (by omega), h0], by rw [World.ownsRow.cellAt hown _ (by omega), h1], by rw [World.ownsRow.cellAt hown _ (by omega), h2], by rw [World.ownsRow.cellAt hown _ (by omega), h3]⟩
    · dsimp only at hi ⊢
      rw [← nth_eq hi]
      exact (hls i hi).mono (fun q h => h.2)
theorem FGr.nil (k : List Tr) (C : Nat) {B : Nat} {v : Value} {w : World} (h : w.ownsRow B 31 4 v 0 []) : FGr k C B 0 v w :=
  ⟨fun _ => .bool false, h, fun i hi => absurd hi (Nat.not_lt_zero _)⟩
/-- What l11Find answers: the first of the name. -/
def FdI (bl : List (ByteArray × Tr)) (s : ByteArray) (i : Int) : Prop := (i = -1 ∧ ∀ k (hk : k < bl.length), ¬ bl[k].1 = s) ∨ ∃ (k : Nat) (hk : k < bl.length), i = k ∧ bl[k].1 = s ∧ ∀ j (hj : j < bl.length), j < k → ¬ bl[j].1 = s
set_option maxHeartbeats 800000 in
theorem first48 (bl : List (ByteArray × Tr)) (s : ByteArray) (v : Value) (w : World) (h : BLi w bl v) :
    Calls Try.prog 48 #[v, .string s] w fun e w' => ∃ i : Int, e = .returned (.int .i64 i) ∧ FdI bl s i ∧ w' = w := by
  obtain ⟨b, cap, sv, rfl, ho, hs, hl⟩ := h
  have hm : bl.length ≤ 2 ^ 63 - 1 := by
    rcases ho.2 with ⟨e, e0⟩ | ⟨g, cp, cur, r1, r2, r3, r4, r5, r6⟩
    · rw [e0]; exact Nat.zero_le _
    · unfold maxLen at r5; omega
  have HC := (show Hid (∀ i (hi : i < bl.length), w.cell? ⟨b, i * 5, none⟩ = some (.string bl[i].1)) from fun i hi => by
    rw [World.ownsRow.cellAt ho _ (by omega), (bcs_get bl sv bl.length i hi).1, nb_eq hi])
  clear ho hs hl
  go_enter Try.func48, Try.ntmps48
  go_wp2_with fail
  go_loop [5] (fun i => ∃ j : Nat, i = .int .i64 j ∧ j ≤ bl.length ∧ Hid (∀ i (hi : i < bl.length), i < j → ¬ bl[i].1 = s)) (fun i => bl.length - (intOf i).toNat)
  case atStart => exact ⟨0, rfl, Nat.zero_le _, fun i _ h0 => absurd h0 (Nat.not_lt_zero _)⟩
  case round =>
    obtain ⟨j, rfl, hj, HJ⟩ := hrel
    by_cases hlt : j < bl.length
    · have c1 := HC.out j hlt
      have q1 : (j : Int) < (bl.length : Int) := by omega
      by_cases he : bl[j].1 = s
      · have HH := (show Hid (FdI bl s (j : Int)) from .inr ⟨j, hlt, rfl, he, HJ.out⟩)
        rw [he] at c1
        clear he HJ
        go_wp2_with fail
        go_ret
        exact ⟨(j : Int), rfl, HH.out, rfl⟩
      · have hd := ne_bytes he
        have HN := (show Hid (∀ i (hi : i < bl.length), i < j + 1 → ¬ bl[i].1 = s) from fun i hi hij => by
          by_cases e : i = j
          · subst e; exact he
          · exact HJ.out i hi (by omega))
        generalize bl[j].1 = y at *
        clear he HJ
        go_wp2_with fail
        go_round
        case rel => exact ⟨j + 1, by go_num, by omega, HN⟩
        case measure => simp [intOf]; omega
    · have HH := (show Hid (FdI bl s (-1)) from .inl ⟨rfl, fun i hi => HJ.out i hi (by omega)⟩)
      clear HJ
      go_wp2_with fail
      go_ret
      exact ⟨-1, rfl, HH.out, rfl⟩
theorem FdI.look {bl : List (ByteArray × Tr)} {s : ByteArray} {i : Int} (h : FdI bl s i) : (i = -1 ∧ look bl s = none) ∨ ∃ (k : Nat) (hk : k < bl.length), i = k ∧ look bl s = some bl[k].2 := by
  rcases h with ⟨h1, h2⟩ | ⟨k, hk, h1, h2, h3⟩
  · exact .inl ⟨h1, look_none h2⟩
  · exact .inr ⟨k, hk, h1, look_at hk h3 h2⟩
end Go.Proofs.Yteomgkcgjkbppaa

/-! The specification: l11Fill. -/
namespace Go.Proofs.Yteomgkcgjkbppaa
open Go.RowKit Go.Deep Go.Lib
set_option linter.unusedVariables false
set_option maxRecDepth 100000
set_option linter.unusedSimpArgs false

/-- What filling leaves. -/
def FlA (C : Nat) (T : Tr) (w : World) (e : Ending) (w' : World) : Prop :=
  ∃ u, e = .returned (T.val u) ∧ Below w.heap.size w w' ∧ Lies w' (fun q => q < C ∨ w.heap.size ≤ q) T u
theorem nth_map (bl : List (ByteArray × Tr)) {k : List Tr} {j : Nat} (h : j < k.length) : nth (k.map (flT bl)) j = flT bl k[j] := by
  rw [nth_eq (by simpa using h), List.getElem_map]
set_option maxHeartbeats 1600000 in
theorem fill50 (W0 : World) (bl : List (ByteArray × Tr)) (bv : Value) (hB : BLi W0 bl bv) (p : Tr) : ∀ (v : Value) (w : World), Lies W0 (fun _ => True) p v → Below W0.heap.size W0 w → hvT bl p = true → p.cnt ≤ 1000 →
    Calls Try.prog 50 #[p.val v, bv] w (FlA W0.heap.size (flT bl p) w) := by
  refine Tr.ind (P := fun p => ∀ (v : Value) (w : World), Lies W0 (fun _ => True) p v → Below W0.heap.size W0 w → hvT bl p = true → p.cnt ≤ 1000 → Calls Try.prog 50 #[p.val v, bv] w (FlA W0.heap.size (flT bl p) w)) ?_ p
  intro n x lf k ih v w hl hbel hhv hcnt
  rw [Tr.cnt_mk] at hcnt
  rw [hvT_mk] at hhv
  rw [flT_mk]
  obtain ⟨a, cap, b, off, sv, rfl, hn, hx, hc, hm, ha, hcell, hk⟩ := hl.out
  dsimp only at hn hx hc hm ha hcell hk
  have HX := (show Hid (n.size ≤ maxLen ∧ x.size ≤ maxLen) from ⟨hn, hx⟩)
  have hkl : k.length ≤ 1000 := by
    have := Tr.len_le_cntL k
    omega
  have hCw := hbel.size
  have hb2 : Below w.heap.size w ((w.alloc (.cells #[.string n, .string x, .bool lf, .slice a k.length cap] 31)).alloc (.cells #[.string ByteArray.empty, .string ByteArray.empty, .bool false, .slice none 0 0] 31)) := (bel_alloc _ _).alloc (by simp) _
  have HV := (show Hid _ from var70 ⟨n, x, lf, k⟩ (.slice a k.length cap) ((w.alloc (.cells #[.string n, .string x, .bool lf, .slice a k.length cap] 31)).alloc (.cells #[.string ByteArray.empty, .string ByteArray.empty, .bool false, .slice none 0 0] 31)) rfl)
  have HX1 := (show Hid (Box ((w.alloc (.cells #[.string n, .string x, .bool lf, .slice a k.length cap] 31)).alloc (.cells #[.string ByteArray.empty, .string ByteArray.empty, .bool false, .slice none 0 0] 31)) w.heap.size 31 [.string n, .string x, .bool lf, .slice a k.length cap]) from (Box.new w 31 _).still (bel_alloc _ _))
  have HX2 := (show Hid (Box ((w.alloc (.cells #[.string n, .string x, .bool lf, .slice a k.length cap] 31)).alloc (.cells #[.string ByteArray.empty, .string ByteArray.empty, .bool false, .slice none 0 0] 31)) (w.heap.size + 1) 31 [.string ByteArray.empty, .string ByteArray.empty, .bool false, .slice none 0 0]) from (by
    have h := Box.new (w.alloc (.cells #[.string n, .string x, .bool lf, .slice a k.length cap] 31)) 31 [.string ByteArray.empty, .string ByteArray.empty, .bool false, .slice none 0 0]
    rw [show (w.alloc (.cells #[.string n, .string x, .bool lf, .slice a k.length cap] 31)).heap.size = w.heap.size + 1 from by simp] at h
    exact h))
  have hz2 : ((w.alloc (.cells #[.string n, .string x, .bool lf, .slice a k.length cap] 31)).alloc (.cells #[.string ByteArray.empty, .string ByteArray.empty, .bool false, .slice none 0 0] 31)).heap.size = w.heap.size + 2 := by simp
  have HZ2 := (show Hid _ from hz2); clear hz2
  have HB2 := (show Hid _ from hb2)
  have HBL := (show Hid (Below W0.heap.size W0 w) from hbel)
  have HI := (show Hid _ from ih); clear ih
  have HC := (show Hid _ from hcell); clear hcell
  have HK := (show Hid _ from hk); clear hk
  have HA := (show Hid (0 < k.length → a = some ⟨b, off, none⟩) from fun h => (ha h).1); clear ha hl hbel hb2
  have hBf := hB
  obtain ⟨bb, bcap, bsv, rfl, hbo, hbs, hbls⟩ := hB
  simp only [Tr.val] at HV ⊢
  unfold maxLen at hm
  cases hvr : vrB n lf
  · rw [hvr, if_neg (by simp)] at hhv
    rw [hvr] at HV
    rw [if_neg (by simp)]
    have HHV := (show Hid (∀ i (hi : i < k.length), hvT bl k[i] = true) from fun i hi => List.all_eq_true.1 hhv _ (List.getElem_mem hi))
    have HCN := (show Hid (∀ i (hi : i < k.length), k[i].cnt ≤ 1000) from fun i hi => by
      have := Tr.cnt_mem k i hi
      omega)
    clear hvr hhv hcnt hbo hbs hbls
    obtain ⟨i29, hi29, hzz⟩ := Option.map_eq_some_iff.1 info31
    simp only [Prod.mk.injEq] at hzz
    obtain ⟨hz0, hz1, hz2⟩ := hzz
    go_enter Try.func50, Try.ntmps50
    go_wp2_with fail
    refine Calls.mono HV.out ?_
    rintro e w1 ⟨rfl, hb1⟩
    have HR1 := (show Hid (Below (w.heap.size + 2) ((w.alloc (.cells #[.string n, .string x, .bool lf, .slice a k.length cap] 31)).alloc (.cells #[.string ByteArray.empty, .string ByteArray.empty, .bool false, .slice none 0 0] 31)) w1) from (by have := hb1; rw [HZ2.out] at this; exact this))
    clear hb1 HV
    go_wp2_with fail
    go_loopw [5, 6] (fun u i wr => ∃ (j : Nat), j ≤ k.length ∧ i = .int .i64 j ∧ (∃ a' m' c', u = .slice a' m' c') ∧ Hid (Below (w.heap.size + 2) ((w.alloc (.cells #[.string n, .string x, .bool lf, .slice a k.length cap] 31)).alloc (.cells #[.string ByteArray.empty, .string ByteArray.empty, .bool false, .slice none 0 0] 31)) wr) ∧ Hid (FGr (k.map (flT bl)) W0.heap.size (w.heap.size + 2) j u wr)) (fun _ i _ => k.length - (intOf i).toNat)
    case atStart =>
      refine ⟨0, Nat.zero_le _, rfl, ⟨_, _, _, rfl⟩, ?_, ?_⟩
      · exact HR1.out.alloc (by have := HR1.out.size; rw [HZ2.out] at this; exact this) _
      · exact FGr.nil _ _ (World.ownsRow_made w1 #[] 0 (by have := HR1.out.size; rw [HZ2.out] at this; exact this) (Nat.zero_le _) rfl)
    case round =>
      obtain ⟨j, hj, rfl, ⟨a', m', c', rfl⟩, HR, HG⟩ := hrel
      clear HR1
      have hwz : w.heap.size + 2 ≤ wr.heap.size := by have := HR.out.size; rw [HZ2.out] at this; exact this
      have hbw : Below W0.heap.size W0 wr := HBL.out.trans ((HB2.out.mono hCw).trans (HR.out.mono (by omega)))
      have bx1 := HX1.out.keep (HR.out.block w.heap.size (by omega))
      have A3 : wr.cell? ⟨w.heap.size, 3, none⟩ = some (.slice a k.length cap) := bx1.cell 3 (by simp)
      by_cases hlt : j < k.length
      · obtain rfl := HA.out (by omega)
        obtain ⟨c0, c1, c2, c3⟩ := HC.out j hlt
        rw [← hbw.cell (lt_of_cell c0)] at c0
        rw [← hbw.cell (lt_of_cell c1)] at c1
        rw [← hbw.cell (lt_of_cell c2)] at c2
        rw [← hbw.cell (lt_of_cell c3)] at c3
        obtain ⟨a1, l1, p1, hsv⟩ := (HK.out j hlt).form
        have hcl := HI.out j hlt (sv j) wr (HK.out j hlt) hbw (HHV.out j hlt) (HCN.out j hlt)
        rw [hsv] at c3 hcl
        simp only [Tr.val] at hcl
        unfold FlA at hcl
        have HCL := (show Hid _ from hcl); clear hcl hsv
        have HNT := (show Hid (nth (k.map (flT bl)) j = flT bl k[j]) from nth_map bl hlt)
        generalize flT bl k[j] = T at *
        generalize k[j].name = kn at *
        generalize k[j].text = kx at *
        generalize k[j].leaf = kl at *
        have q1 : (j : Int) < (k.length : Int) := by omega
        clear bx1
        go_wp2_with fail
        refine Calls.mono HCL.out ?_
        rintro e w1 ⟨u1, rfl, hb1, hl1⟩
        obtain ⟨a2, l2, p2, rfl⟩ := hl1.form
        obtain ⟨fs, hown, hls⟩ := HG.out
        have hown2 := own_still (own_still hown hb1) (bel_alloc w1 (.cells #[.string T.name, .string T.text, .bool T.leaf, .slice a2 l2 p2] 31))
        have HO2 := (show Hid _ from hown2)
        have HF := (show Hid _ from (⟨hl1, hown, hls, hb1⟩ : _ ∧ _ ∧ _ ∧ _))
        have hs1 := hb1.size
        clear hl1 hown hls hown2 c0 c1 c2 c3 A3 hb1 HCL
        go_wp2_with (at_builtin; refine wpList_append_lies _ rfl (.tmp 25) (.tmp 33) 29 rfl (w.heap.size + 2) 31 i29 _ 4 64 Try.underlying29 hi29 hz0 hz1 hz2 rfl (by decide) _ j (kc (k.map (flT bl)) fs j) rfl HO2.out ⟨w1.heap.size, 0, none⟩ 1 1 [.string T.name, .string T.text, .bool T.leaf, .slice a2 l2 p2] rfl rfl ?c1 ?c2 (by decide) ?c3 (by omega) (by simp; omega) _ rfl ?nx)
        case c1 => exact cell_four_box _ _ _ _ _ _
        case c2 => intro u hu; simp at hu; rcases hu with rfl | rfl | rfl | rfl <;> rfl
        case c3 => unfold maxLen; omega
        case nx =>
          intro g3 cap3 w3 hown3 hgr3 hat3 hlt3
          obtain ⟨hl1, hown, hls, hb1⟩ := HF.out
          have hG3 : FGr (k.map (flT bl)) W0.heap.size (w.heap.size + 2) (j + 1) (.slice (some ⟨g3, 0, none⟩) (j + 1) cap3) w3 := by
            rw [← HNT.out] at hown3 hl1
            exact FGr.step hown hls (by omega) hwz (bel_trans hb1 (bel_alloc _ _)) (hl1.still (bel_alloc _ _)) hown3 hgr3 (by rw [World.size_alloc]; exact hat3)
          have hb3 := (HR.out.trans ((bel_trans hb1 (bel_alloc w1 (.cells #[.string T.name, .string T.text, .bool T.leaf, .slice a2 l2 p2] 31))).mono (by omega))).grown hgr3 (by simp; omega) (fun q hq => by
            have := (World.ownsRow.lt hown q hq).1
            omega)
          have HG3 := (show Hid _ from hG3)
          have HR3 := (show Hid _ from hb3)
          clear hG3 hown3 hgr3 hat3 hl1 hown hls hb1 hb3 HF HO2 HG HR
          go_wp2_with fail
          exact ⟨⟨j + 1, by omega, by go_num, ⟨_, _, _, rfl⟩, HR3, HG3⟩, by simp [intOf]; omega⟩
      · have hje : j = k.length := by omega
        have hfin : Lies wr (fun q => q < W0.heap.size ∨ w.heap.size + 2 ≤ q) ⟨n, x, lf, k.map (flT bl)⟩ (.slice a' m' c') := by
          refine FGr.done (n := n) (x := x) (le := lf) ?_ HX.out.1 HX.out.2
          rw [List.length_map, ← hje]
          exact HG.out
        have bx2 := HX2.out.keep (HR.out.block (w.heap.size + 1) (by omega))
        have A0 : wr.cell? ⟨w.heap.size, 0, none⟩ = some (.string n) := bx1.cell 0 (by simp)
        have A1 : wr.cell? ⟨w.heap.size, 1, none⟩ = some (.string x) := bx1.cell 1 (by simp)
        have A2 : wr.cell? ⟨w.heap.size, 2, none⟩ = some (.bool lf) := bx1.cell 2 (by simp)
        have f3 : wr.frozen? ⟨w.heap.size, 3, none⟩ = false := bx1.frozen 3
        have Z0 : wr.cell? ⟨w.heap.size + 1, 0, none⟩ = some (.string ByteArray.empty) := bx2.cell 0 (by simp)
        have Z1 : wr.cell? ⟨w.heap.size + 1, 1, none⟩ = some (.string ByteArray.empty) := bx2.cell 1 (by simp)
        have Z2 : wr.cell? ⟨w.heap.size + 1, 2, none⟩ = some (.bool false) := bx2.cell 2 (by simp)
        have Z3 : wr.cell? ⟨w.heap.size + 1, 3, none⟩ = some (.slice none 0 0) := bx2.cell 3 (by simp)
        have y0 : wr.frozen? ⟨w.heap.size + 1, 0, none⟩ = false := bx2.frozen 0
        have y1 : wr.frozen? ⟨w.heap.size + 1, 1, none⟩ = false := bx2.frozen 1
        have y2 : wr.frozen? ⟨w.heap.size + 1, 2, none⟩ = false := bx2.frozen 2
        have y3 : wr.frozen? ⟨w.heap.size + 1, 3, none⟩ = false := bx2.frozen 3
        have HBW := (show Hid (Below w.heap.size w wr) from HB2.out.trans (HR.out.mono (by omega)))
        have HF := (show Hid (Lies wr (fun q => q < W0.heap.size ∨ w.heap.size + 2 ≤ q) ⟨n, x, lf, k.map (flT bl)⟩ (.slice a' m' c')) from hfin)
        have q1 : ¬ ((j : Int) < (k.length : Int)) := by omega
        clear hfin bx1 bx2 HG HR hje
        go_wp2_with fail
        refine bodyPost_ret (v := .agg #[.string n, .string x, .bool lf, .slice a' m' c']) (by simp [results, Try.results50, go_sem, Z0, Z1, Z2, Z3]) rfl ⟨_, rfl, ?_, ?_⟩
        · exact ((((HBW.out.setCell (by simp) _).setCell (by simp) _).setCell (by simp) _).setCell (by simp) _).setCell (by simp) _
        · refine Lies.mono (S := fun q => q < W0.heap.size ∨ w.heap.size + 2 ≤ q) (fun q hq => by omega) (Lies.keep (w := wr) (fun q hq => ?_) HF.out)
          have e1 : q ≠ w.heap.size := by omega
          have e2 : q ≠ w.heap.size + 1 := by omega
          exact (blk_setCell_other _ _ _ _ e2).trans ((blk_setCell_other _ _ _ _ e2).trans ((blk_setCell_other _ _ _ _ e2).trans ((blk_setCell_other _ _ _ _ e2).trans (blk_setCell_other _ _ _ _ e1))))
  · rw [hvr, if_pos rfl] at hhv
    rw [hvr] at HV
    rw [if_pos rfl]
    obtain ⟨T, hT⟩ := Option.isSome_iff_exists.1 hhv
    rw [hT]
    dsimp only [Option.getD]
    have HLK := (show Hid (look bl x = some T) from hT)
    clear hT hhv
    have HFD := (show Hid (∀ wq : World, Below W0.heap.size W0 wq → Calls Try.prog 48 #[.slice (some ⟨bb, 0, none⟩) bl.length bcap, .string x] wq fun e w' => ∃ i : Int, e = .returned (.int .i64 i) ∧ FdI bl x i ∧ w' = wq) from fun wq hb => first48 bl x _ wq (hBf.still hb))
    have HOW := (show Hid (∀ i (hi : i < bl.length), W0.cell? ⟨bb, i * 5 + 1, none⟩ = some (.string bl[i].2.name) ∧ W0.cell? ⟨bb, i * 5 + 2, none⟩ = some (.string bl[i].2.text) ∧ W0.cell? ⟨bb, i * 5 + 3, none⟩ = some (.bool bl[i].2.leaf) ∧ W0.cell? ⟨bb, i * 5 + 4, none⟩ = some (bsv i)) from fun i hi => by
      obtain ⟨g0, g1, g2, g3, g4⟩ := bcs_get bl bsv bl.length i hi
      rw [nb_eq hi] at g0 g1 g2 g3
      exact ⟨by rw [World.ownsRow.cellAt hbo _ (by omega), g1], by rw [World.ownsRow.cellAt hbo _ (by omega), g2], by rw [World.ownsRow.cellAt hbo _ (by omega), g3], by rw [World.ownsRow.cellAt hbo _ (by omega), g4]⟩)
    have hbm : bl.length ≤ 2 ^ 63 - 1 := by
      rcases hbo.2 with ⟨e, e0⟩ | ⟨g, cp, cur, r1, r2, r3, r4, r5, r6⟩
      · rw [e0]; exact Nat.zero_le _
      · unfold maxLen at r5; omega
    have HBS := (show Hid _ from (⟨hbs, hbls⟩ : _ ∧ _))
    clear hvr hBf hbo hbs hbls HI HK HC HA
    go_enter Try.func50, Try.ntmps50
    go_wp2_with fail
    refine Calls.mono HV.out ?_
    rintro e w1 ⟨rfl, hb1⟩
    have bx1 := HX1.out.still hb1
    have bx2 := HX2.out.still hb1
    have HW1 := (show Hid (Below w.heap.size w w1) from bel_trans HB2.out hb1)
    have A1 : w1.cell? ⟨w.heap.size, 1, none⟩ = some (.string x) := bx1.cell 1 (by simp)
    have Z0 : w1.cell? ⟨w.heap.size + 1, 0, none⟩ = some (.string ByteArray.empty) := bx2.cell 0 (by simp)
    have Z1 : w1.cell? ⟨w.heap.size + 1, 1, none⟩ = some (.string ByteArray.empty) := bx2.cell 1 (by simp)
    have Z2 : w1.cell? ⟨w.heap.size + 1, 2, none⟩ = some (.bool false) := bx2.cell 2 (by simp)
    have Z3 : w1.cell? ⟨w.heap.size + 1, 3, none⟩ = some (.slice none 0 0) := bx2.cell 3 (by simp)
    have y0 : w1.frozen? ⟨w.heap.size + 1, 0, none⟩ = false := bx2.frozen 0
    have y1 : w1.frozen? ⟨w.heap.size + 1, 1, none⟩ = false := bx2.frozen 1
    have y2 : w1.frozen? ⟨w.heap.size + 1, 2, none⟩ = false := bx2.frozen 2
    have y3 : w1.frozen? ⟨w.heap.size + 1, 3, none⟩ = false := bx2.frozen 3
    have HC1 := (show Hid _ from HFD.out w1 (HBL.out.trans (HW1.out.mono hCw)))
    clear hb1 HV bx1 bx2 HFD
    go_wp2_with fail
    refine Calls.mono HC1.out ?_
    rintro e w2 ⟨i, rfl, hfd, rfl⟩
    obtain ⟨kk, hkk, rfl, hlk⟩ : ∃ (kk : Nat) (hk : kk < bl.length), i = kk ∧ bl[kk].2 = T := by
      rcases hfd.look with ⟨_, h⟩ | ⟨kk, hk, e1, e2⟩
      · rw [HLK.out] at h; cases h
      · rw [HLK.out] at e2
        injection e2 with e2
        exact ⟨kk, hk, e1, e2.symm⟩
    have hbw : Below W0.heap.size W0 w2 := HBL.out.trans (HW1.out.mono hCw)
    obtain ⟨c1, c2, c3, c4⟩ := HOW.out kk hkk
    rw [hlk] at c1 c2 c3
    rw [← hbw.cell (lt_of_cell c1)] at c1
    rw [← hbw.cell (lt_of_cell c2)] at c2
    rw [← hbw.cell (lt_of_cell c3)] at c3
    rw [← hbw.cell (lt_of_cell c4)] at c4
    obtain ⟨a4, l4, p4, e4⟩ := HBS.out.1 kk
    have hly := HBS.out.2 kk hkk
    rw [e4] at c4 hly
    rw [hlk] at hly
    have HLY := (show Hid (Lies w2 (fun q => q < W0.heap.size) T (.slice a4 l4 p4)) from (hly.lt.keep (fun q hq => hbw.block q hq.2)).mono (fun q hq => hq.2))
    have i1 : (0 : Int) ≤ (kk : Int) := by omega
    have i2 : (kk : Int) < (bl.length : Int) := by omega
    clear hfd hlk hly e4 HC1 HOW HBS hbw HLK
    go_wp2_with fail
    refine bodyPost_ret (v := .agg #[.string T.name, .string T.text, .bool T.leaf, .slice a4 l4 p4]) (by simp [results, Try.results50, go_sem, Z0, Z1, Z2, Z3]) rfl ⟨_, rfl, ?_, ?_⟩
    · exact (((HW1.out.setCell (by simp) _).setCell (by simp) _).setCell (by simp) _).setCell (by simp) _
    · refine Lies.mono (S := fun q => q < W0.heap.size) (fun q hq => .inl hq) (Lies.keep (w := w2) (fun q hq => ?_) HLY.out)
      have e2 : q ≠ w.heap.size + 1 := by omega
      exact (blk_setCell_other _ _ _ _ e2).trans ((blk_setCell_other _ _ _ _ e2).trans ((blk_setCell_other _ _ _ _ e2).trans (blk_setCell_other _ _ _ _ e2)))
end Go.Proofs.Yteomgkcgjkbppaa
