import Derived.Test.YtokncahlcphhnaaLf
/-! Layouts that are right: the specification's LayoutOK. -/
namespace Go.Proofs.Ytokncahlcphhnaa
open Go.RowKit Go.Deep
set_option linter.unusedVariables false
set_option maxRecDepth 100000
set_option linter.unusedSimpArgs false

theorem madeRowI (n : Nat) (w : World) : (w.alloc (.cells (madeCells #[.int .i64 0] n) 3)).rowIs w.heap.size 3 n (fun _ => .int .i64 0) :=
  ⟨madeCells #[.int .i64 0] n, blk_alloc_new _ _, by simp [madeCells], fun i hi => by simp [madeCells, hi, Nat.mod_one]⟩
/-- The row that counts what was met. -/
def UB (w : World) (B n : Nat) (M : List Int) : Prop := w.rowIs B 3 n (fun i => .int .i64 ((M.count (i : Int) : Nat) : Int))
theorem UB.new (w : World) (n : Nat) : UB (w.alloc (.cells (madeCells #[.int .i64 0] n) 3)) w.heap.size n [] := row_congr (madeRowI n w) (fun i hi => by simp)
theorem UB.still {w w' : World} {B n : Nat} {M : List Int} (h : UB w B n M) (hb : Below w.heap.size w w') : UB w' B n M := World.rowIs.of_block h (hb.block B (World.rowIs.lt h))
theorem UB.put {w : World} {B n k c : Nat} {M : List Int} (h : UB w B n M) (hc : c = M.count (k : Int)) : UB (w.setCell ⟨B, k, none⟩ (.int .i64 ((c : Int) + 1))) B n (M ++ [(k : Int)]) := by
  refine row_congr (World.rowIs.set h k _) (fun i hi => ?_)
  by_cases e : i = k
  · subst e; rw [if_pos rfl, List.count_append, ← hc]; simp
  · have h2 : ¬ (k : Int) = i := by omega
    rw [if_neg e, List.count_append]; simp [h2, List.count_cons]
theorem kal_len {l : List DLNode} (h : ∀ x ∈ l, x.kids.length ≤ 1048576) : (kal l).length ≤ l.length * 1048576 := by
  induction l with
  | nil => simp [kal]
  | cons x r ih =>
    have h1 := h x (List.mem_cons_self ..)
    have h2 := ih (fun y hy => h y (List.mem_cons_of_mem _ hy))
    have e : kal (x :: r) = x.kids ++ kal r := by simp [kal]
    rw [e, List.length_append, List.length_cons]
    omega
theorem mt_len {l : List DLNode} (hs : LNodeR.Sm l) (hl : l.length ≤ 300) {j q : Nat} (hj : j < l.length) : (mt l j q).length ≤ 315621376 := by
  unfold mt
  have h1 : (kal (l.take j)).length ≤ (l.take j).length * 1048576 := kal_len (fun x hx => by
    obtain ⟨i, hi, rfl⟩ := List.mem_iff_getElem.1 (List.mem_of_mem_take hx)
    exact (hs.2 i hi).kids)
  have h2 := (hs.2 j hj).kids
  unfold Ints.Sm at h2
  rw [getZ hj, List.length_append, List.length_take]
  rw [List.length_take] at h1
  have h3 : min j l.length ≤ 300 := by omega
  have h4 : min j l.length * 1048576 ≤ 300 * 1048576 := Nat.mul_le_mul_right _ h3
  omega
theorem ndB_eq (t : DLNode) : ndB t = (if t.kind = 1 then decide (t.s.size ≤ 200) && (!in10 t.s && (decide (t.n = 0) && decide (t.kids.length = 0)))
  else if t.kind = 2 ∨ t.kind = 3 ∨ t.kind = 4 then decide (t.s.size = 0) && (decide (t.n = 0) && decide (t.kids.length = 0))
  else if t.kind = 5 then decide (t.s.size = 0) && (decide (0 ≤ t.n) && (decide (t.n ≤ 20) && decide (t.kids.length = 1)))
  else if t.kind = 6 then decide (t.s.size = 0) && (decide (t.n = 0) && decide (t.kids.length = 1))
  else if t.kind = 7 then decide (t.s.size = 0) && decide (t.n = 0)
  else false) := rfl
set_option maxHeartbeats 12800000 in
theorem sLo7 {S : Nat → Prop} (l : List DLNode) (v : Value) (w : World) (h : LNodeR w S l v) (hsm : LNodeR.Sm l) :
    Calls Try.prog 7 #[v] w fun e w' => e = .returned (.bool (loB l)) ∧ Below w.heap.size w w' := by
  have HG := (show Hid _ from groups19 l v w h)
  obtain ⟨a, cap, b, off, s3, rfl, hc, hm, ha, hcell, r3⟩ := h
  have HC := (show Hid _ from hcell); clear hcell
  have HA := (show Hid _ from ha); clear ha
  have HR3 := (show Hid _ from r3); clear r3
  have HSM := (show Hid (LNodeR.Sm l) from hsm); clear hsm
  unfold maxLen at hm
  have HNO := (show Hid (¬ LoP l → loB l = false) from lo_no)
  have HYES := (show Hid (LoP l → loB l = true) from (lo_iff l).2)
  have HBT := (show Hid _ from fun (x a b : Int) (w' : World) => bet18 x a b w')
  generalize loB l = R at *
  by_cases h12 : ¬ (1 ≤ l.length ∧ l.length ≤ 300)
  · have HF := (show Hid (R = false) from HNO.out (fun h => h12 ⟨h.n1, h.n2⟩))
    have HB0 := (show Hid _ from HBT.out (l.length : Int) 1 300 w)
    rw [show btG (l.length : Int) 1 300 = false from by
      unfold btG
      by_cases h : (1 : Int) ≤ l.length
      · rw [decide_eq_false (p := (l.length : Int) ≤ 300) (by omega)]; simp
      · rw [decide_eq_false h]; rfl] at HB0
    clear h12 HNO HYES
    go_enter Try.func7, Try.ntmps7
    go_wp2_with fail
    refine Calls.mono HB0.out ?_
    rintro e w1 ⟨rfl, rfl⟩
    go_wp2_with fail
    go_ret
    exact ⟨ret_bool HF.out.symm, Below.refl _ _⟩
  have h1 : 1 ≤ l.length := by omega
  have h2 : l.length ≤ 300 := by omega
  clear h12
  have HB0 := (show Hid _ from HBT.out (l.length : Int) 1 300 w)
  rw [show btG (l.length : Int) 1 300 = true from by unfold btG; rw [decide_eq_true (by omega), decide_eq_true (by omega)]; rfl] at HB0
  by_cases h3 : 12 < (gpl l l.length).length
  · have HF := (show Hid (R = false) from HNO.out (fun h => by have := h.g; omega))
    clear HNO HYES
    generalize (gpl l l.length).length = G at *
    have h3' : (12 : Int) < (G : Int) := by omega
    clear h3
    go_enter Try.func7, Try.ntmps7
    go_wp2_with fail
    refine Calls.mono HB0.out ?_
    rintro e w1 ⟨rfl, rfl⟩
    go_wp2_with fail
    refine Calls.mono HG.out ?_
    rintro e w1 ⟨rfl, rfl⟩
    go_wp2_with fail
    go_ret
    exact ⟨ret_bool HF.out.symm, Below.refl _ _⟩
  have HG3 := (show Hid ((gpl l l.length).length ≤ 12) from by show _ ≤ _; omega)
  have h3' : ¬ (12 : Int) < ((gpl l l.length).length : Int) := by omega
  clear h3
  generalize (gpl l l.length).length = G at HG h3'
  have hmk := run_makeInts l.length (by omega)
  have HS0 := (show Hid (Sf l 0 0 ∧ ∀ i (hi : i < l.length), i < 0 → ndB l[i] = true) from ⟨Sf.zero l, fun i hi h => absurd h (Nat.not_lt_zero _)⟩)
  have HT0 := (show Hid (Below w.heap.size w (w.alloc (.cells (madeCells #[.int .i64 0] l.length) 3)) ∧ UB (w.alloc (.cells (madeCells #[.int .i64 0] l.length) 3)) w.heap.size l.length (mt l 0 0)) from
    ⟨bel_alloc _ _, by rw [mt_zero]; simpa [kal] using UB.new w l.length⟩)
  clear hm
  go_enter Try.func7, Try.ntmps7
  go_wp2_with fail
  refine Calls.mono HB0.out ?_
  rintro e w1 ⟨rfl, hw1⟩
  obtain rfl := hw1.symm
  go_wp2_with fail
  refine Calls.mono HG.out ?_
  rintro e w1 ⟨rfl, hw1⟩
  obtain rfl := hw1.symm
  clear HG HB0
  go_wp2_with fail
  go_loopw [4] (fun i wr => ∃ j : Nat, i = .int .i64 j ∧ j ≤ l.length ∧ Hid (Sf l j 0 ∧ ∀ i (hi : i < l.length), i < j → ndB l[i] = true) ∧ Hid (Below w.heap.size w wr ∧ UB wr w.heap.size l.length (mt l j 0))) (fun i _ => l.length - (intOf i).toNat)
  case atStart => exact ⟨0, rfl, Nat.zero_le _, HS0, HT0⟩
  case round =>
    obtain ⟨w0, rfl⟩ : ∃ w0, w0 = wr := ⟨_, rfl⟩
    obtain ⟨j, rfl, hj, HSF, HTB⟩ := hrel
    clear HS0 HT0 hmk
    by_cases hjl : j < l.length
    · obtain ⟨rfl, _⟩ := HA.out (by omega)
      obtain ⟨c0, c1, c2, c3, z1⟩ := HC.out j hjl
      have hbel := HTB.out.1
      rw [← hbel.cell (lt_of_cell c0)] at c0
      rw [← hbel.cell (lt_of_cell c1)] at c1
      rw [← hbel.cell (lt_of_cell c2)] at c2
      rw [← hbel.cell (lt_of_cell c3)] at c3
      obtain ⟨ak, ck, bk, ok, ek, hck, hmk, hak, hkc⟩ := HR3.out j hjl
      rw [ek] at c3
      clear ek
      have HAK := (show Hid _ from hak); clear hak
      have HKC := (show Hid _ from hkc); clear hkc
      unfold maxLen at hmk
      have HIN : Hid (l[j].s.size ≤ 1000 → ∀ w', Calls Try.prog 20 #[.string l[j].s, .int .u8 10] w' fun e w'' => e = .returned (.bool (in10 l[j].s)) ∧ w'' = w') := fun hs w' => in20 l[j].s 10 hs w'
      have HNF := (show Hid (ndB l[j] = false → R = false) from fun h => HNO.out (node_no hjl h))
      have HND := (show Hid _ from ndB_eq l[j])
      have hE := isEmpty_iff l[j].s
      unfold maxLen at z1
      have HNX := (show Hid (ndB l[j] = true → ∀ i (hi : i < l.length), i < j + 1 → ndB l[i] = true) from fun h i hi hij => by
        by_cases e : i = j
        · subst e; exact h
        · exact HSF.out.2 i hi (by omega))
      generalize ndB l[j] = D at *
      have hbw : Below w.heap.size w (w0.alloc (.cells #[.int .i64 l[j].kind, .string l[j].s, .int .i64 l[j].n, .slice ak l[j].kids.length ck] 44)) := hbel.alloc hbel.size _
      have hub : UB (w0.alloc (.cells #[.int .i64 l[j].kind, .string l[j].s, .int .i64 l[j].n, .slice ak l[j].kids.length ck] 44)) w.heap.size l.length (mt l j 0) := HTB.out.2.still (bel_alloc _ _)
      have hbx := Box.new w0 44 [.int .i64 l[j].kind, .string l[j].s, .int .i64 l[j].n, .slice ak l[j].kids.length ck]
      have HTI := (show Hid (_ ∧ _ ∧ _) from ⟨hbw, hub, hbx⟩)
      clear hbw hub hbx
      have HSL := (show Hid (Sf l j l[j].kids.length → Sf l (j + 1) 0) from fun h => Sf.line hjl h)
      have HTL := (show Hid (∀ w' : World, UB w' w.heap.size l.length (mt l j l[j].kids.length) → UB w' w.heap.size l.length (mt l (j + 1) 0)) from fun w' h => by rw [mt_zero, ← mt_end hjl]; exact h)
      have HSJ := (show Hid (Sf l j 0) from HSF.out.1)
      have HPB := (show Hid (w.heap.size < w0.heap.size) from World.rowIs.lt HTB.out.2)
      have hmm : (l[j].kids.length : Int) ≤ 9223372036854775807 := by omega
      have HFN := (show Hid _ from HNO.out)
      clear hbel HTB HSF HNO HYES
      generalize l[j].kind = kd at *
      generalize l[j].s = y1 at *
      generalize l[j].n = y2 at *
      by_cases hkd : ¬ (kd = 1 ∨ kd = 2 ∨ kd = 3 ∨ kd = 4 ∨ kd = 5 ∨ kd = 6 ∨ kd = 7)
      · have e1 : ¬ kd = 1 := by omega
        have e2 : ¬ kd = 2 := by omega
        have e3 : ¬ kd = 3 := by omega
        have e4 : ¬ kd = 4 := by omega
        have e5 : ¬ kd = 5 := by omega
        have e6 : ¬ kd = 6 := by omega
        have e7 : ¬ kd = 7 := by omega
        have HF := (show Hid (R = false) from HNF.out (by rw [HND.out]; simp [e1, e2, e3, e4, e5, e6, e7]))
        clear hkd HNF HND HNX HIN
        have HBW := (show Hid _ from HTI.out.1)
        go_wp2_with fail
        go_ret
        exact ⟨ret_bool HF.out.symm, HBW.out⟩
      have hkd' : kd = 1 ∨ kd = 2 ∨ kd = 3 ∨ kd = 4 ∨ kd = 5 ∨ kd = 6 ∨ kd = 7 := by omega
      clear hkd
      rcases hkd' with rfl | rfl | rfl | rfl | rfl | rfl | rfl
      · by_cases cm : ¬ (l[j].kids.length : Int) = 0
        · have cm2 : ¬ l[j].kids.length = 0 := by omega
          have HF := (show Hid (R = false) from HNF.out (by rw [HND.out]; simp [cm2]))
          clear HNF HND HNX
          have HBW := (show Hid _ from HTI.out.1)
          go_wp2_with fail
          go_ret
          exact ⟨ret_bool HF.out.symm, HBW.out⟩
        have cm1 : (l[j].kids.length : Int) = 0 := by omega
        have cm2 : l[j].kids.length = 0 := by omega
        clear cm
        have CM := (show Hid _ from cm2)
        have cmb : ((l[j].kids.length : Int) != 0) = false := by rw [cm1]; rfl
        by_cases cn : ¬ y2 = 0
        · have HF := (show Hid (R = false) from HNF.out (by rw [HND.out]; simp [cn]))
          clear HNF HND HNX cm1 cm2
          have HBW := (show Hid _ from HTI.out.1)
          go_wp2_with fail
          go_ret
          exact ⟨ret_bool HF.out.symm, HBW.out⟩
        obtain rfl : y2 = 0 := by omega
        clear cn
        by_cases cz : 200 < y1.size
        · have cz2 : ¬ y1.size ≤ 200 := by omega
          have HF := (show Hid (R = false) from HNF.out (by rw [HND.out]; simp [cz2]))
          clear HNF HND HNX cm1 cm2
          have HBW := (show Hid _ from HTI.out.1)
          go_wp2_with fail
          go_ret
          exact ⟨ret_bool HF.out.symm, HBW.out⟩
        have HIN1 := (show Hid _ from HIN.out (by omega))
        generalize in10 y1 = I at *
        cases I
        case true =>
            have HF := (show Hid (R = false) from HNF.out (by rw [HND.out]; simp))
            clear HNF HND HNX cm1 cm2 HIN
            have HBW := (show Hid _ from HTI.out.1)
            go_wp2_with fail
            refine Calls.mono (HIN1.out _) ?_
            rintro e w1 ⟨rfl, rfl⟩
            go_wp2_with fail
            go_ret
            exact ⟨ret_bool HF.out.symm, HBW.out⟩
        have HB1 := (show Hid _ from fun (w' : World) => HBT.out 0 0 20 w')
        rw [show btG 0 0 20 = true from rfl] at HB1
        have cz2 : y1.size ≤ 200 := by omega
        have HDT := (show Hid (D = true) from by show D = true; rw [HND.out]; simp [cm2, cz2])
        clear cm1 cm2
        clear HNF HND HIN
        have HDX := (show Hid _ from HNX.out HDT.out)
        clear HNX
        go_wp2_with fail
        refine Calls.mono (HIN1.out _) ?_
        rintro e w1 ⟨rfl, rfl⟩
        go_wp2_with fail
        refine Calls.mono (HB1.out _) ?_
        rintro e w1 ⟨rfl, rfl⟩
        clear HIN1 HB1 hE z1
        go_wp2_with fail
        go_loopw [7] (fun i wx => ∃ q : Nat, i = .int .i64 q ∧ q ≤ l[j].kids.length ∧ Hid (Sf l j q) ∧ Hid (Below w.heap.size w wx ∧ UB wx w.heap.size l.length (mt l j q) ∧ Box wx w0.heap.size 44 [.int .i64 1, .string y1, .int .i64 0, .slice ak l[j].kids.length ck])) (fun i _ => l[j].kids.length - (intOf i).toNat)
        case atStart => exact ⟨0, rfl, Nat.zero_le _, HSJ, HTI⟩
        case round =>
          obtain ⟨q, rfl, hq, HSQ, HTQ⟩ := hrel
          clear HTI HSJ c0 c1 c2 c3
          by_cases hql : q < l[j].kids.length
          · exact absurd hql (by rw [CM.out]; omega)
          · obtain rfl : q = l[j].kids.length := by omega
            have hnb : ¬ ((l[j].kids.length : Nat) : Int) < 0 := by rw [CM.out]; omega
            have HS2 := (show Hid (Sf l (j + 1) 0 ∧ ∀ i (hi : i < l.length), i < j + 1 → ndB l[i] = true) from ⟨HSL.out HSQ.out, HDX.out⟩)
            have HT2 := (show Hid (Below w.heap.size w wr ∧ UB wr w.heap.size l.length (mt l (j + 1) 0)) from ⟨HTQ.out.1, HTL.out _ HTQ.out.2.1⟩)
            clear HSQ HTQ HSL HTL
            go_wp2_with fail
            exact ⟨⟨j + 1, by go_num, by omega, HS2, HT2⟩, by simp [intOf]; omega⟩
      · by_cases cm : ¬ (l[j].kids.length : Int) = 0
        · have cm2 : ¬ l[j].kids.length = 0 := by omega
          have HF := (show Hid (R = false) from HNF.out (by rw [HND.out]; simp [cm2]))
          clear HNF HND HNX
          have HBW := (show Hid _ from HTI.out.1)
          go_wp2_with fail
          go_ret
          exact ⟨ret_bool HF.out.symm, HBW.out⟩
        have cm1 : (l[j].kids.length : Int) = 0 := by omega
        have cm2 : l[j].kids.length = 0 := by omega
        clear cm
        have CM := (show Hid _ from cm2)
        have cmb : ((l[j].kids.length : Int) != 0) = false := by rw [cm1]; rfl
        by_cases cs : ¬ y1.size = 0
        · rw [decide_eq_false cs] at hE
          have HF := (show Hid (R = false) from HNF.out (by rw [HND.out]; simp [cs]))
          clear HNF HND HNX cm1 cm2
          have HBW := (show Hid _ from HTI.out.1)
          go_wp2_with fail
          go_ret
          exact ⟨ret_bool HF.out.symm, HBW.out⟩
        have cs0 : y1.size = 0 := by omega
        rw [decide_eq_true cs0] at hE
        clear cs
        by_cases cn : ¬ y2 = 0
        · have HF := (show Hid (R = false) from HNF.out (by rw [HND.out]; simp [cn]))
          clear HNF HND HNX cm1 cm2
          have HBW := (show Hid _ from HTI.out.1)
          go_wp2_with fail
          go_ret
          exact ⟨ret_bool HF.out.symm, HBW.out⟩
        obtain rfl : y2 = 0 := by omega
        clear cn
        have HIN1 := (show Hid _ from HIN.out (by omega))
        have hi0 : in10 y1 = false := by
          unfold in10
          have : y1.data.toList = [] := List.length_eq_zero_iff.1 cs0
          rw [this]; rfl
        rw [hi0] at HIN1
        clear hi0
        have HB1 := (show Hid _ from fun (w' : World) => HBT.out 0 0 20 w')
        rw [show btG 0 0 20 = true from rfl] at HB1
        have HDT := (show Hid (D = true) from by show D = true; rw [HND.out]; simp [cm2, cs0])
        clear cm1 cm2
        clear HNF HND HIN
        have HDX := (show Hid _ from HNX.out HDT.out)
        clear HNX
        go_wp2_with fail
        refine Calls.mono (HIN1.out _) ?_
        rintro e w1 ⟨rfl, rfl⟩
        go_wp2_with fail
        refine Calls.mono (HB1.out _) ?_
        rintro e w1 ⟨rfl, rfl⟩
        clear HIN1 HB1 hE z1
        go_wp2_with fail
        go_loopw [7] (fun i wx => ∃ q : Nat, i = .int .i64 q ∧ q ≤ l[j].kids.length ∧ Hid (Sf l j q) ∧ Hid (Below w.heap.size w wx ∧ UB wx w.heap.size l.length (mt l j q) ∧ Box wx w0.heap.size 44 [.int .i64 2, .string y1, .int .i64 0, .slice ak l[j].kids.length ck])) (fun i _ => l[j].kids.length - (intOf i).toNat)
        case atStart => exact ⟨0, rfl, Nat.zero_le _, HSJ, HTI⟩
        case round =>
          obtain ⟨q, rfl, hq, HSQ, HTQ⟩ := hrel
          clear HTI HSJ c0 c1 c2 c3
          by_cases hql : q < l[j].kids.length
          · exact absurd hql (by rw [CM.out]; omega)
          · obtain rfl : q = l[j].kids.length := by omega
            have hnb : ¬ ((l[j].kids.length : Nat) : Int) < 0 := by rw [CM.out]; omega
            have HS2 := (show Hid (Sf l (j + 1) 0 ∧ ∀ i (hi : i < l.length), i < j + 1 → ndB l[i] = true) from ⟨HSL.out HSQ.out, HDX.out⟩)
            have HT2 := (show Hid (Below w.heap.size w wr ∧ UB wr w.heap.size l.length (mt l (j + 1) 0)) from ⟨HTQ.out.1, HTL.out _ HTQ.out.2.1⟩)
            clear HSQ HTQ HSL HTL
            go_wp2_with fail
            exact ⟨⟨j + 1, by go_num, by omega, HS2, HT2⟩, by simp [intOf]; omega⟩
      · by_cases cm : ¬ (l[j].kids.length : Int) = 0
        · have cm2 : ¬ l[j].kids.length = 0 := by omega
          have HF := (show Hid (R = false) from HNF.out (by rw [HND.out]; simp [cm2]))
          clear HNF HND HNX
          have HBW := (show Hid _ from HTI.out.1)
          go_wp2_with fail
          go_ret
          exact ⟨ret_bool HF.out.symm, HBW.out⟩
        have cm1 : (l[j].kids.length : Int) = 0 := by omega
        have cm2 : l[j].kids.length = 0 := by omega
        clear cm
        have CM := (show Hid _ from cm2)
        have cmb : ((l[j].kids.length : Int) != 0) = false := by rw [cm1]; rfl
        by_cases cs : ¬ y1.size = 0
        · rw [decide_eq_false cs] at hE
          have HF := (show Hid (R = false) from HNF.out (by rw [HND.out]; simp [cs]))
          clear HNF HND HNX cm1 cm2
          have HBW := (show Hid _ from HTI.out.1)
          go_wp2_with fail
          go_ret
          exact ⟨ret_bool HF.out.symm, HBW.out⟩
        have cs0 : y1.size = 0 := by omega
        rw [decide_eq_true cs0] at hE
        clear cs
        by_cases cn : ¬ y2 = 0
        · have HF := (show Hid (R = false) from HNF.out (by rw [HND.out]; simp [cn]))
          clear HNF HND HNX cm1 cm2
          have HBW := (show Hid _ from HTI.out.1)
          go_wp2_with fail
          go_ret
          exact ⟨ret_bool HF.out.symm, HBW.out⟩
        obtain rfl : y2 = 0 := by omega
        clear cn
        have HIN1 := (show Hid _ from HIN.out (by omega))
        have hi0 : in10 y1 = false := by
          unfold in10
          have : y1.data.toList = [] := List.length_eq_zero_iff.1 cs0
          rw [this]; rfl
        rw [hi0] at HIN1
        clear hi0
        have HB1 := (show Hid _ from fun (w' : World) => HBT.out 0 0 20 w')
        rw [show btG 0 0 20 = true from rfl] at HB1
        have HDT := (show Hid (D = true) from by show D = true; rw [HND.out]; simp [cm2, cs0])
        clear cm1 cm2
        clear HNF HND HIN
        have HDX := (show Hid _ from HNX.out HDT.out)
        clear HNX
        go_wp2_with fail
        refine Calls.mono (HIN1.out _) ?_
        rintro e w1 ⟨rfl, rfl⟩
        go_wp2_with fail
        refine Calls.mono (HB1.out _) ?_
        rintro e w1 ⟨rfl, rfl⟩
        clear HIN1 HB1 hE z1
        go_wp2_with fail
        go_loopw [7] (fun i wx => ∃ q : Nat, i = .int .i64 q ∧ q ≤ l[j].kids.length ∧ Hid (Sf l j q) ∧ Hid (Below w.heap.size w wx ∧ UB wx w.heap.size l.length (mt l j q) ∧ Box wx w0.heap.size 44 [.int .i64 3, .string y1, .int .i64 0, .slice ak l[j].kids.length ck])) (fun i _ => l[j].kids.length - (intOf i).toNat)
        case atStart => exact ⟨0, rfl, Nat.zero_le _, HSJ, HTI⟩
        case round =>
          obtain ⟨q, rfl, hq, HSQ, HTQ⟩ := hrel
          clear HTI HSJ c0 c1 c2 c3
          by_cases hql : q < l[j].kids.length
          · exact absurd hql (by rw [CM.out]; omega)
          · obtain rfl : q = l[j].kids.length := by omega
            have hnb : ¬ ((l[j].kids.length : Nat) : Int) < 0 := by rw [CM.out]; omega
            have HS2 := (show Hid (Sf l (j + 1) 0 ∧ ∀ i (hi : i < l.length), i < j + 1 → ndB l[i] = true) from ⟨HSL.out HSQ.out, HDX.out⟩)
            have HT2 := (show Hid (Below w.heap.size w wr ∧ UB wr w.heap.size l.length (mt l (j + 1) 0)) from ⟨HTQ.out.1, HTL.out _ HTQ.out.2.1⟩)
            clear HSQ HTQ HSL HTL
            go_wp2_with fail
            exact ⟨⟨j + 1, by go_num, by omega, HS2, HT2⟩, by simp [intOf]; omega⟩
      · by_cases cm : ¬ (l[j].kids.length : Int) = 0
        · have cm2 : ¬ l[j].kids.length = 0 := by omega
          have HF := (show Hid (R = false) from HNF.out (by rw [HND.out]; simp [cm2]))
          clear HNF HND HNX
          have HBW := (show Hid _ from HTI.out.1)
          go_wp2_with fail
          go_ret
          exact ⟨ret_bool HF.out.symm, HBW.out⟩
        have cm1 : (l[j].kids.length : Int) = 0 := by omega
        have cm2 : l[j].kids.length = 0 := by omega
        clear cm
        have CM := (show Hid _ from cm2)
        have cmb : ((l[j].kids.length : Int) != 0) = false := by rw [cm1]; rfl
        by_cases cs : ¬ y1.size = 0
        · rw [decide_eq_false cs] at hE
          have HF := (show Hid (R = false) from HNF.out (by rw [HND.out]; simp [cs]))
          clear HNF HND HNX cm1 cm2
          have HBW := (show Hid _ from HTI.out.1)
          go_wp2_with fail
          go_ret
          exact ⟨ret_bool HF.out.symm, HBW.out⟩
        have cs0 : y1.size = 0 := by omega
        rw [decide_eq_true cs0] at hE
        clear cs
        by_cases cn : ¬ y2 = 0
        · have HF := (show Hid (R = false) from HNF.out (by rw [HND.out]; simp [cn]))
          clear HNF HND HNX cm1 cm2
          have HBW := (show Hid _ from HTI.out.1)
          go_wp2_with fail
          go_ret
          exact ⟨ret_bool HF.out.symm, HBW.out⟩
        obtain rfl : y2 = 0 := by omega
        clear cn
        have HIN1 := (show Hid _ from HIN.out (by omega))
        have hi0 : in10 y1 = false := by
          unfold in10
          have : y1.data.toList = [] := List.length_eq_zero_iff.1 cs0
          rw [this]; rfl
        rw [hi0] at HIN1
        clear hi0
        have HB1 := (show Hid _ from fun (w' : World) => HBT.out 0 0 20 w')
        rw [show btG 0 0 20 = true from rfl] at HB1
        have HDT := (show Hid (D = true) from by show D = true; rw [HND.out]; simp [cm2, cs0])
        clear cm1 cm2
        clear HNF HND HIN
        have HDX := (show Hid _ from HNX.out HDT.out)
        clear HNX
        go_wp2_with fail
        refine Calls.mono (HIN1.out _) ?_
        rintro e w1 ⟨rfl, rfl⟩
        go_wp2_with fail
        refine Calls.mono (HB1.out _) ?_
        rintro e w1 ⟨rfl, rfl⟩
        clear HIN1 HB1 hE z1
        go_wp2_with fail
        go_loopw [7] (fun i wx => ∃ q : Nat, i = .int .i64 q ∧ q ≤ l[j].kids.length ∧ Hid (Sf l j q) ∧ Hid (Below w.heap.size w wx ∧ UB wx w.heap.size l.length (mt l j q) ∧ Box wx w0.heap.size 44 [.int .i64 4, .string y1, .int .i64 0, .slice ak l[j].kids.length ck])) (fun i _ => l[j].kids.length - (intOf i).toNat)
        case atStart => exact ⟨0, rfl, Nat.zero_le _, HSJ, HTI⟩
        case round =>
          obtain ⟨q, rfl, hq, HSQ, HTQ⟩ := hrel
          clear HTI HSJ c0 c1 c2 c3
          by_cases hql : q < l[j].kids.length
          · exact absurd hql (by rw [CM.out]; omega)
          · obtain rfl : q = l[j].kids.length := by omega
            have hnb : ¬ ((l[j].kids.length : Nat) : Int) < 0 := by rw [CM.out]; omega
            have HS2 := (show Hid (Sf l (j + 1) 0 ∧ ∀ i (hi : i < l.length), i < j + 1 → ndB l[i] = true) from ⟨HSL.out HSQ.out, HDX.out⟩)
            have HT2 := (show Hid (Below w.heap.size w wr ∧ UB wr w.heap.size l.length (mt l (j + 1) 0)) from ⟨HTQ.out.1, HTL.out _ HTQ.out.2.1⟩)
            clear HSQ HTQ HSL HTL
            go_wp2_with fail
            exact ⟨⟨j + 1, by go_num, by omega, HS2, HT2⟩, by simp [intOf]; omega⟩
      · by_cases cm : ¬ (l[j].kids.length : Int) = 1
        · have cm2 : ¬ l[j].kids.length = 1 := by omega
          have HF := (show Hid (R = false) from HNF.out (by rw [HND.out]; simp [cm2]))
          clear HNF HND HNX
          have HBW := (show Hid _ from HTI.out.1)
          go_wp2_with fail
          go_ret
          exact ⟨ret_bool HF.out.symm, HBW.out⟩
        have cm1 : (l[j].kids.length : Int) = 1 := by omega
        have cm2 : l[j].kids.length = 1 := by omega
        clear cm
        have CM := (show Hid _ from cm2)
        have cmb : ((l[j].kids.length : Int) != 1) = false := by rw [cm1]; rfl
        by_cases cs : ¬ y1.size = 0
        · rw [decide_eq_false cs] at hE
          have HF := (show Hid (R = false) from HNF.out (by rw [HND.out]; simp [cs]))
          clear HNF HND HNX cm1 cm2
          have HBW := (show Hid _ from HTI.out.1)
          go_wp2_with fail
          go_ret
          exact ⟨ret_bool HF.out.symm, HBW.out⟩
        have cs0 : y1.size = 0 := by omega
        rw [decide_eq_true cs0] at hE
        clear cs
        have HIN1 := (show Hid _ from HIN.out (by omega))
        have hi0 : in10 y1 = false := by
          unfold in10
          have : y1.data.toList = [] := List.length_eq_zero_iff.1 cs0
          rw [this]; rfl
        rw [hi0] at HIN1
        clear hi0
        have HB1 := (show Hid _ from fun (w' : World) => HBT.out y2 0 20 w')
        by_cases cb : ¬ (0 ≤ y2 ∧ y2 ≤ 20)
        · rw [show btG y2 0 20 = false from by
            unfold btG
            by_cases h : (0 : Int) ≤ y2
            · rw [decide_eq_false (p := y2 ≤ 20) (by omega)]; simp
            · rw [decide_eq_false h]; rfl] at HB1
          have HF := (show Hid (R = false) from HNF.out (by rw [HND.out]; simp <;> (intros; omega)))
          clear HNF HND HNX cm1 cm2 HIN cb
          have HBW := (show Hid _ from HTI.out.1)
          go_wp2_with fail
          refine Calls.mono (HIN1.out _) ?_
          rintro e w1 ⟨rfl, rfl⟩
          go_wp2_with fail
          refine Calls.mono (HB1.out _) ?_
          rintro e w1 ⟨rfl, rfl⟩
          go_wp2_with fail
          go_ret
          exact ⟨ret_bool HF.out.symm, HBW.out⟩
        rw [show btG y2 0 20 = true from by unfold btG; rw [decide_eq_true (by omega), decide_eq_true (by omega)]; rfl] at HB1
        have cb1 : 0 ≤ y2 := by omega
        have cb2 : y2 ≤ 20 := by omega
        clear cb
        have HDT := (show Hid (D = true) from by show D = true; rw [HND.out]; simp [cm2, cs0, cb1, cb2])
        clear cm1 cm2
        clear HNF HND HIN
        have HDX := (show Hid _ from HNX.out HDT.out)
        clear HNX
        go_wp2_with fail
        refine Calls.mono (HIN1.out _) ?_
        rintro e w1 ⟨rfl, rfl⟩
        go_wp2_with fail
        refine Calls.mono (HB1.out _) ?_
        rintro e w1 ⟨rfl, rfl⟩
        clear HIN1 HB1 hE z1
        go_wp2_with fail
        go_loopw [7] (fun i wx => ∃ q : Nat, i = .int .i64 q ∧ q ≤ l[j].kids.length ∧ Hid (Sf l j q) ∧ Hid (Below w.heap.size w wx ∧ UB wx w.heap.size l.length (mt l j q) ∧ Box wx w0.heap.size 44 [.int .i64 5, .string y1, .int .i64 y2, .slice ak l[j].kids.length ck])) (fun i _ => l[j].kids.length - (intOf i).toNat)
        case atStart => exact ⟨0, rfl, Nat.zero_le _, HSJ, HTI⟩
        case round =>
          obtain ⟨q, rfl, hq, HSQ, HTQ⟩ := hrel
          clear HTI HSJ c0 c1 c2 c3
          by_cases hql : q < l[j].kids.length
          · have hqb : (q : Int) < 1 := by rw [CM.out] at hql; omega
            obtain ⟨rfl, _⟩ := HAK.out (by omega)
            have k0 := HKC.out q hql
            rw [← HTQ.out.1.cell (lt_of_cell k0)] at k0
            have x3 := HTQ.out.2.2.cell 3 (by simp)
            simp only [List.getD_cons_succ, List.getD_cons_zero] at x3
            have HRN := (show Hid (btG l[j].kids[q] 0 ((j : Int) - 1) = false → R = false) from fun h => HFN.out (range_no hjl hql (fun h5 => by
              unfold btG at h; rw [decide_eq_true h5.1, decide_eq_true (by omega)] at h; cases h)))
            have HMX := (show Hid (mt l j (q + 1) = mt l j q ++ [l[j].kids[q]]) from mt_next hjl hql)
            have HNX := (show Hid (0 ≤ l[j].kids[q] → l[j].kids[q] < (j : Int) → Sf l j (q + 1)) from fun h1 h2 => HSQ.out.next hjl hql h1 h2)
            have HBK := (show Hid _ from fun (w' : World) => HBT.out l[j].kids[q] 0 ((j : Int) - 1) w')
            have kw : IntKind.i64.wrap ((j : Int) - 1) = (j : Int) - 1 := by simp [IntKind.wrap, IntKind.bits, IntKind.signed]; omega
            generalize l[j].kids[q] = k at *
            have HKB := (show Hid (btG k 0 ((j : Int) - 1) = true → 0 ≤ k ∧ k < (j : Int)) from fun h => by
              unfold btG at h; simp at h; omega)
            have HBX := (show Hid _ from HTQ.out.1)
            generalize btG k 0 ((j : Int) - 1) = BK at *
            cases BK
            · have HF := (show Hid (R = false) from HRN.out rfl)
              clear HRN HNX HMX HKB
              go_wp2_with fail
              refine Calls.mono (HBK.out _) ?_
              rintro e w2 ⟨rfl, rfl⟩
              go_wp2_with fail
              go_ret
              exact ⟨ret_bool HF.out.symm, HBX.out⟩
            · obtain ⟨hk0, hk1⟩ := HKB.out rfl
              have HSN := (show Hid _ from HNX.out hk0 hk1)
              clear HNX HRN HKB
              obtain ⟨kn, rfl⟩ : ∃ kn : Nat, k = (kn : Int) := ⟨k.toNat, by omega⟩
              have hkl : kn < l.length := by omega
              obtain ⟨cn, hcn⟩ : ∃ cn, (mt l j q).count (kn : Int) = cn := ⟨_, rfl⟩
              have t0 : wr.cell? ⟨w.heap.size, kn, none⟩ = some (.int .i64 (((mt l j q).count (kn : Int) : Nat) : Int)) := World.rowIs.cell HTQ.out.2.1 hkl
              have t1 : wr.frozen? ⟨w.heap.size, kn, none⟩ = false := World.rowIs.frozen HTQ.out.2.1 kn
              have hcl : cn ≤ 315621376 := by
                rw [← hcn]
                exact Nat.le_trans List.count_le_length (mt_len HSM.out (by omega) hjl)
              rw [hcn] at t0
              have HTN := (show Hid (Below w.heap.size w (wr.setCell ⟨w.heap.size, kn, none⟩ (.int .i64 ((cn : Int) + 1))) ∧ UB (wr.setCell ⟨w.heap.size, kn, none⟩ (.int .i64 ((cn : Int) + 1))) w.heap.size l.length (mt l j (q + 1)) ∧ Box (wr.setCell ⟨w.heap.size, kn, none⟩ (.int .i64 ((cn : Int) + 1))) w0.heap.size 44 [.int .i64 5, .string y1, .int .i64 y2, .slice (some ⟨bk, ok, none⟩) l[j].kids.length ck]) from
                ⟨HTQ.out.1.setCell (Nat.le_refl _) _, by rw [HMX.out]; exact HTQ.out.2.1.put hcn.symm, HTQ.out.2.2.past (by have := HPB.out; omega)⟩)
              clear hcn HMX HTQ HSQ
              go_wp2_with fail
              refine Calls.mono (HBK.out _) ?_
              rintro e w2 ⟨rfl, rfl⟩
              go_wp2_with fail
              exact ⟨⟨q + 1, by go_num, by omega, HSN, HTN⟩, by simp [intOf]; omega⟩
          · obtain rfl : q = l[j].kids.length := by omega
            have hnb : ¬ ((l[j].kids.length : Nat) : Int) < 1 := by rw [CM.out]; omega
            have HS2 := (show Hid (Sf l (j + 1) 0 ∧ ∀ i (hi : i < l.length), i < j + 1 → ndB l[i] = true) from ⟨HSL.out HSQ.out, HDX.out⟩)
            have HT2 := (show Hid (Below w.heap.size w wr ∧ UB wr w.heap.size l.length (mt l (j + 1) 0)) from ⟨HTQ.out.1, HTL.out _ HTQ.out.2.1⟩)
            clear HSQ HTQ HSL HTL
            go_wp2_with fail
            exact ⟨⟨j + 1, by go_num, by omega, HS2, HT2⟩, by simp [intOf]; omega⟩
      · by_cases cm : ¬ (l[j].kids.length : Int) = 1
        · have cm2 : ¬ l[j].kids.length = 1 := by omega
          have HF := (show Hid (R = false) from HNF.out (by rw [HND.out]; simp [cm2]))
          clear HNF HND HNX
          have HBW := (show Hid _ from HTI.out.1)
          go_wp2_with fail
          go_ret
          exact ⟨ret_bool HF.out.symm, HBW.out⟩
        have cm1 : (l[j].kids.length : Int) = 1 := by omega
        have cm2 : l[j].kids.length = 1 := by omega
        clear cm
        have CM := (show Hid _ from cm2)
        have cmb : ((l[j].kids.length : Int) != 1) = false := by rw [cm1]; rfl
        by_cases cs : ¬ y1.size = 0
        · rw [decide_eq_false cs] at hE
          have HF := (show Hid (R = false) from HNF.out (by rw [HND.out]; simp [cs]))
          clear HNF HND HNX cm1 cm2
          have HBW := (show Hid _ from HTI.out.1)
          go_wp2_with fail
          go_ret
          exact ⟨ret_bool HF.out.symm, HBW.out⟩
        have cs0 : y1.size = 0 := by omega
        rw [decide_eq_true cs0] at hE
        clear cs
        by_cases cn : ¬ y2 = 0
        · have HF := (show Hid (R = false) from HNF.out (by rw [HND.out]; simp [cn]))
          clear HNF HND HNX cm1 cm2
          have HBW := (show Hid _ from HTI.out.1)
          go_wp2_with fail
          go_ret
          exact ⟨ret_bool HF.out.symm, HBW.out⟩
        obtain rfl : y2 = 0 := by omega
        clear cn
        have HIN1 := (show Hid _ from HIN.out (by omega))
        have hi0 : in10 y1 = false := by
          unfold in10
          have : y1.data.toList = [] := List.length_eq_zero_iff.1 cs0
          rw [this]; rfl
        rw [hi0] at HIN1
        clear hi0
        have HB1 := (show Hid _ from fun (w' : World) => HBT.out 0 0 20 w')
        rw [show btG 0 0 20 = true from rfl] at HB1
        have HDT := (show Hid (D = true) from by show D = true; rw [HND.out]; simp [cm2, cs0])
        clear cm1 cm2
        clear HNF HND HIN
        have HDX := (show Hid _ from HNX.out HDT.out)
        clear HNX
        go_wp2_with fail
        refine Calls.mono (HIN1.out _) ?_
        rintro e w1 ⟨rfl, rfl⟩
        go_wp2_with fail
        refine Calls.mono (HB1.out _) ?_
        rintro e w1 ⟨rfl, rfl⟩
        clear HIN1 HB1 hE z1
        go_wp2_with fail
        go_loopw [7] (fun i wx => ∃ q : Nat, i = .int .i64 q ∧ q ≤ l[j].kids.length ∧ Hid (Sf l j q) ∧ Hid (Below w.heap.size w wx ∧ UB wx w.heap.size l.length (mt l j q) ∧ Box wx w0.heap.size 44 [.int .i64 6, .string y1, .int .i64 0, .slice ak l[j].kids.length ck])) (fun i _ => l[j].kids.length - (intOf i).toNat)
        case atStart => exact ⟨0, rfl, Nat.zero_le _, HSJ, HTI⟩
        case round =>
          obtain ⟨q, rfl, hq, HSQ, HTQ⟩ := hrel
          clear HTI HSJ c0 c1 c2 c3
          by_cases hql : q < l[j].kids.length
          · have hqb : (q : Int) < 1 := by rw [CM.out] at hql; omega
            obtain ⟨rfl, _⟩ := HAK.out (by omega)
            have k0 := HKC.out q hql
            rw [← HTQ.out.1.cell (lt_of_cell k0)] at k0
            have x3 := HTQ.out.2.2.cell 3 (by simp)
            simp only [List.getD_cons_succ, List.getD_cons_zero] at x3
            have HRN := (show Hid (btG l[j].kids[q] 0 ((j : Int) - 1) = false → R = false) from fun h => HFN.out (range_no hjl hql (fun h5 => by
              unfold btG at h; rw [decide_eq_true h5.1, decide_eq_true (by omega)] at h; cases h)))
            have HMX := (show Hid (mt l j (q + 1) = mt l j q ++ [l[j].kids[q]]) from mt_next hjl hql)
            have HNX := (show Hid (0 ≤ l[j].kids[q] → l[j].kids[q] < (j : Int) → Sf l j (q + 1)) from fun h1 h2 => HSQ.out.next hjl hql h1 h2)
            have HBK := (show Hid _ from fun (w' : World) => HBT.out l[j].kids[q] 0 ((j : Int) - 1) w')
            have kw : IntKind.i64.wrap ((j : Int) - 1) = (j : Int) - 1 := by simp [IntKind.wrap, IntKind.bits, IntKind.signed]; omega
            generalize l[j].kids[q] = k at *
            have HKB := (show Hid (btG k 0 ((j : Int) - 1) = true → 0 ≤ k ∧ k < (j : Int)) from fun h => by
              unfold btG at h; simp at h; omega)
            have HBX := (show Hid _ from HTQ.out.1)
            generalize btG k 0 ((j : Int) - 1) = BK at *
            cases BK
            · have HF := (show Hid (R = false) from HRN.out rfl)
              clear HRN HNX HMX HKB
              go_wp2_with fail
              refine Calls.mono (HBK.out _) ?_
              rintro e w2 ⟨rfl, rfl⟩
              go_wp2_with fail
              go_ret
              exact ⟨ret_bool HF.out.symm, HBX.out⟩
            · obtain ⟨hk0, hk1⟩ := HKB.out rfl
              have HSN := (show Hid _ from HNX.out hk0 hk1)
              clear HNX HRN HKB
              obtain ⟨kn, rfl⟩ : ∃ kn : Nat, k = (kn : Int) := ⟨k.toNat, by omega⟩
              have hkl : kn < l.length := by omega
              obtain ⟨cn, hcn⟩ : ∃ cn, (mt l j q).count (kn : Int) = cn := ⟨_, rfl⟩
              have t0 : wr.cell? ⟨w.heap.size, kn, none⟩ = some (.int .i64 (((mt l j q).count (kn : Int) : Nat) : Int)) := World.rowIs.cell HTQ.out.2.1 hkl
              have t1 : wr.frozen? ⟨w.heap.size, kn, none⟩ = false := World.rowIs.frozen HTQ.out.2.1 kn
              have hcl : cn ≤ 315621376 := by
                rw [← hcn]
                exact Nat.le_trans List.count_le_length (mt_len HSM.out (by omega) hjl)
              rw [hcn] at t0
              have HTN := (show Hid (Below w.heap.size w (wr.setCell ⟨w.heap.size, kn, none⟩ (.int .i64 ((cn : Int) + 1))) ∧ UB (wr.setCell ⟨w.heap.size, kn, none⟩ (.int .i64 ((cn : Int) + 1))) w.heap.size l.length (mt l j (q + 1)) ∧ Box (wr.setCell ⟨w.heap.size, kn, none⟩ (.int .i64 ((cn : Int) + 1))) w0.heap.size 44 [.int .i64 6, .string y1, .int .i64 0, .slice (some ⟨bk, ok, none⟩) l[j].kids.length ck]) from
                ⟨HTQ.out.1.setCell (Nat.le_refl _) _, by rw [HMX.out]; exact HTQ.out.2.1.put hcn.symm, HTQ.out.2.2.past (by have := HPB.out; omega)⟩)
              clear hcn HMX HTQ HSQ
              go_wp2_with fail
              refine Calls.mono (HBK.out _) ?_
              rintro e w2 ⟨rfl, rfl⟩
              go_wp2_with fail
              exact ⟨⟨q + 1, by go_num, by omega, HSN, HTN⟩, by simp [intOf]; omega⟩
          · obtain rfl : q = l[j].kids.length := by omega
            have hnb : ¬ ((l[j].kids.length : Nat) : Int) < 1 := by rw [CM.out]; omega
            have HS2 := (show Hid (Sf l (j + 1) 0 ∧ ∀ i (hi : i < l.length), i < j + 1 → ndB l[i] = true) from ⟨HSL.out HSQ.out, HDX.out⟩)
            have HT2 := (show Hid (Below w.heap.size w wr ∧ UB wr w.heap.size l.length (mt l (j + 1) 0)) from ⟨HTQ.out.1, HTL.out _ HTQ.out.2.1⟩)
            clear HSQ HTQ HSL HTL
            go_wp2_with fail
            exact ⟨⟨j + 1, by go_num, by omega, HS2, HT2⟩, by simp [intOf]; omega⟩
      · have cmb : ((l[j].kids.length : Int) != (l[j].kids.length : Int)) = false := by simp
        by_cases cs : ¬ y1.size = 0
        · rw [decide_eq_false cs] at hE
          have HF := (show Hid (R = false) from HNF.out (by rw [HND.out]; simp [cs]))
          clear HNF HND HNX
          have HBW := (show Hid _ from HTI.out.1)
          go_wp2_with fail
          go_ret
          exact ⟨ret_bool HF.out.symm, HBW.out⟩
        have cs0 : y1.size = 0 := by omega
        rw [decide_eq_true cs0] at hE
        clear cs
        by_cases cn : ¬ y2 = 0
        · have HF := (show Hid (R = false) from HNF.out (by rw [HND.out]; simp [cn]))
          clear HNF HND HNX
          have HBW := (show Hid _ from HTI.out.1)
          go_wp2_with fail
          go_ret
          exact ⟨ret_bool HF.out.symm, HBW.out⟩
        obtain rfl : y2 = 0 := by omega
        clear cn
        have HIN1 := (show Hid _ from HIN.out (by omega))
        have hi0 : in10 y1 = false := by
          unfold in10
          have : y1.data.toList = [] := List.length_eq_zero_iff.1 cs0
          rw [this]; rfl
        rw [hi0] at HIN1
        clear hi0
        have HB1 := (show Hid _ from fun (w' : World) => HBT.out 0 0 20 w')
        rw [show btG 0 0 20 = true from rfl] at HB1
        have HDT := (show Hid (D = true) from by show D = true; rw [HND.out]; simp [cs0])
        clear HNF HND HIN
        have HDX := (show Hid _ from HNX.out HDT.out)
        clear HNX
        go_wp2_with fail
        refine Calls.mono (HIN1.out _) ?_
        rintro e w1 ⟨rfl, rfl⟩
        go_wp2_with fail
        refine Calls.mono (HB1.out _) ?_
        rintro e w1 ⟨rfl, rfl⟩
        clear HIN1 HB1 hE z1
        go_wp2_with fail
        go_loopw [7] (fun i wx => ∃ q : Nat, i = .int .i64 q ∧ q ≤ l[j].kids.length ∧ Hid (Sf l j q) ∧ Hid (Below w.heap.size w wx ∧ UB wx w.heap.size l.length (mt l j q) ∧ Box wx w0.heap.size 44 [.int .i64 7, .string y1, .int .i64 0, .slice ak l[j].kids.length ck])) (fun i _ => l[j].kids.length - (intOf i).toNat)
        case atStart => exact ⟨0, rfl, Nat.zero_le _, HSJ, HTI⟩
        case round =>
          obtain ⟨q, rfl, hq, HSQ, HTQ⟩ := hrel
          clear HTI HSJ c0 c1 c2 c3
          by_cases hql : q < l[j].kids.length
          · obtain ⟨rfl, _⟩ := HAK.out (by omega)
            have k0 := HKC.out q hql
            rw [← HTQ.out.1.cell (lt_of_cell k0)] at k0
            have x3 := HTQ.out.2.2.cell 3 (by simp)
            simp only [List.getD_cons_succ, List.getD_cons_zero] at x3
            have HRN := (show Hid (btG l[j].kids[q] 0 ((j : Int) - 1) = false → R = false) from fun h => HFN.out (range_no hjl hql (fun h5 => by
              unfold btG at h; rw [decide_eq_true h5.1, decide_eq_true (by omega)] at h; cases h)))
            have HMX := (show Hid (mt l j (q + 1) = mt l j q ++ [l[j].kids[q]]) from mt_next hjl hql)
            have HNX := (show Hid (0 ≤ l[j].kids[q] → l[j].kids[q] < (j : Int) → Sf l j (q + 1)) from fun h1 h2 => HSQ.out.next hjl hql h1 h2)
            have HBK := (show Hid _ from fun (w' : World) => HBT.out l[j].kids[q] 0 ((j : Int) - 1) w')
            have kw : IntKind.i64.wrap ((j : Int) - 1) = (j : Int) - 1 := by simp [IntKind.wrap, IntKind.bits, IntKind.signed]; omega
            generalize l[j].kids[q] = k at *
            have HKB := (show Hid (btG k 0 ((j : Int) - 1) = true → 0 ≤ k ∧ k < (j : Int)) from fun h => by
              unfold btG at h; simp at h; omega)
            have HBX := (show Hid _ from HTQ.out.1)
            generalize btG k 0 ((j : Int) - 1) = BK at *
            cases BK
            · have HF := (show Hid (R = false) from HRN.out rfl)
              clear HRN HNX HMX HKB
              go_wp2_with fail
              refine Calls.mono (HBK.out _) ?_
              rintro e w2 ⟨rfl, rfl⟩
              go_wp2_with fail
              go_ret
              exact ⟨ret_bool HF.out.symm, HBX.out⟩
            · obtain ⟨hk0, hk1⟩ := HKB.out rfl
              have HSN := (show Hid _ from HNX.out hk0 hk1)
              clear HNX HRN HKB
              obtain ⟨kn, rfl⟩ : ∃ kn : Nat, k = (kn : Int) := ⟨k.toNat, by omega⟩
              have hkl : kn < l.length := by omega
              obtain ⟨cn, hcn⟩ : ∃ cn, (mt l j q).count (kn : Int) = cn := ⟨_, rfl⟩
              have t0 : wr.cell? ⟨w.heap.size, kn, none⟩ = some (.int .i64 (((mt l j q).count (kn : Int) : Nat) : Int)) := World.rowIs.cell HTQ.out.2.1 hkl
              have t1 : wr.frozen? ⟨w.heap.size, kn, none⟩ = false := World.rowIs.frozen HTQ.out.2.1 kn
              have hcl : cn ≤ 315621376 := by
                rw [← hcn]
                exact Nat.le_trans List.count_le_length (mt_len HSM.out (by omega) hjl)
              rw [hcn] at t0
              have HTN := (show Hid (Below w.heap.size w (wr.setCell ⟨w.heap.size, kn, none⟩ (.int .i64 ((cn : Int) + 1))) ∧ UB (wr.setCell ⟨w.heap.size, kn, none⟩ (.int .i64 ((cn : Int) + 1))) w.heap.size l.length (mt l j (q + 1)) ∧ Box (wr.setCell ⟨w.heap.size, kn, none⟩ (.int .i64 ((cn : Int) + 1))) w0.heap.size 44 [.int .i64 7, .string y1, .int .i64 0, .slice (some ⟨bk, ok, none⟩) l[j].kids.length ck]) from
                ⟨HTQ.out.1.setCell (Nat.le_refl _) _, by rw [HMX.out]; exact HTQ.out.2.1.put hcn.symm, HTQ.out.2.2.past (by have := HPB.out; omega)⟩)
              clear hcn HMX HTQ HSQ
              go_wp2_with fail
              refine Calls.mono (HBK.out _) ?_
              rintro e w2 ⟨rfl, rfl⟩
              go_wp2_with fail
              exact ⟨⟨q + 1, by go_num, by omega, HSN, HTN⟩, by simp [intOf]; omega⟩
          · obtain rfl : q = l[j].kids.length := by omega
            have hnb : ¬ ((l[j].kids.length : Nat) : Int) < ((l[j].kids.length : Nat) : Int) := by omega
            have HS2 := (show Hid (Sf l (j + 1) 0 ∧ ∀ i (hi : i < l.length), i < j + 1 → ndB l[i] = true) from ⟨HSL.out HSQ.out, HDX.out⟩)
            have HT2 := (show Hid (Below w.heap.size w wr ∧ UB wr w.heap.size l.length (mt l (j + 1) 0)) from ⟨HTQ.out.1, HTL.out _ HTQ.out.2.1⟩)
            clear HSQ HTQ HSL HTL
            go_wp2_with fail
            exact ⟨⟨j + 1, by go_num, by omega, HS2, HT2⟩, by simp [intOf]; omega⟩
    · obtain rfl : j = l.length := by omega
      have HK := (show Hid (mt l l.length 0 = kal l) from by show _ = _; rw [mt_zero, List.take_length])
      have HUB := (show Hid (UB w0 w.heap.size l.length (kal l)) from by rw [← HK.out]; exact HTB.out.2)
      have HBW := (show Hid _ from HTB.out.1)
      have HEND := (show Hid ((∀ i : Nat, i + 1 < l.length → (kal l).count (i : Int) = 1) → R = true) from fun h => HYES.out (lo_end h1 h2 HG3.out (fun i hi => HSF.out.2 i hi hi) HSF.out.1 h))
      have HONE := (show Hid (∀ i : Nat, i + 1 < l.length → ¬ (kal l).count (i : Int) = 1 → R = false) from fun i hi h => HNO.out (fun hp => h (hp.on i hi)))
      clear HTB HSF HK HNO HYES HC HA HR3
      have kw : IntKind.i64.wrap ((l.length : Int) - 1) = (l.length : Int) - 1 := by simp [IntKind.wrap, IntKind.bits, IntKind.signed]; omega
      go_wp2_with fail
      go_loopw [8] (fun i wx => ∃ q : Nat, i = .int .i64 q ∧ q + 1 ≤ l.length ∧ Hid (∀ i : Nat, i < q → (kal l).count (i : Int) = 1) ∧ wx = w0) (fun i _ => l.length - (intOf i).toNat)
      case atStart => exact ⟨0, rfl, by omega, fun i hi => absurd hi (Nat.not_lt_zero _), rfl⟩
      case round =>
        obtain ⟨q, rfl, hq, HQ, rfl⟩ := hrel
        by_cases hql : q + 1 < l.length
        · have t0 : wr.cell? ⟨w.heap.size, q, none⟩ = some (.int .i64 (((kal l).count (q : Int) : Nat) : Int)) := World.rowIs.cell HUB.out (by omega)
          have HQ1 := (show Hid ((kal l).count (q : Int) = 1 → ∀ i : Nat, i < q + 1 → (kal l).count (i : Int) = 1) from fun h i hi => by
            by_cases e : i = q
            · subst e; exact h
            · exact HQ.out i (by omega))
          have HQ2 := (show Hid (¬ (kal l).count (q : Int) = 1 → R = false) from HONE.out q hql)
          generalize (kal l).count (q : Int) = cn at *
          have hql' : (q : Int) < (l.length : Int) - 1 := by omega
          by_cases hcn : cn = 1
          · have HQ3 := (show Hid _ from HQ1.out hcn)
            subst hcn
            go_wp2_with fail
            exact ⟨⟨q + 1, by go_num, by omega, HQ3, trivial⟩, by simp [intOf]; omega⟩
          · have HF := (show Hid (R = false) from HQ2.out hcn)
            have hcn' : ¬ (cn : Int) = 1 := by omega
            clear hcn
            go_wp2_with fail
            go_ret
            exact ⟨ret_bool HF.out.symm, HBW.out⟩
        · have HF := (show Hid (R = true) from HEND.out (fun i hi => HQ.out i (by omega)))
          have hql' : ¬ (q : Int) < (l.length : Int) - 1 := by omega
          go_wp2_with fail
          go_ret
          exact ⟨ret_bool HF.out.symm, HBW.out⟩
end Go.Proofs.Ytokncahlcphhnaa
