import Derived.Test.YtledclkmeikgdaaXYa
import Derived.Test.YtledclkmeikgdaaSu
import Derived.Test.YtledclkmeikgdaaSl
import Derived.Test.YtledclkmeikgdaaXRoom
/-! Pure: what is gathered of a term stands at the places that are told, and it is all of the term's Ids. -/
namespace Go.Proofs.Ytledclkmeikgdaa
open Go.Proofs.Ytledclkmeikgdaa.T (Tr)
set_option linter.unusedVariables false
set_option maxRecDepth 100000
set_option linter.unusedSimpArgs false

/-- How many Ids a tree has. -/
def idN : Tr → Nat := Tr.fold fun n x l ks => (if (l && n.toList == T.cId) = true then 1 else 0) + ks.sum
theorem idN_mk (n x : ByteArray) (l : Bool) (k : List Tr) : idN ⟨n, x, l, k⟩ = (if (l && n.toList == T.cId) = true then 1 else 0) + (k.map idN).sum := by
  unfold idN; rw [T.Tr.fold_mk]
abbrev natI (l : List Nat) : List Int := l.map (fun (n : Nat) => (n : Int))
theorem walk_push (p : List Nat) : ∀ (t0 t : Tr) (i : Nat) (hi : i < t.kids.length), T.walkAt (natI p) t0 = some t → T.walkAt (natI (p ++ [i])) t0 = some t.kids[i] := by
  induction p with
  | nil =>
    intro t0 t i hi h
    have e : t0 = t := by simpa [natI, T.walkAt] using h
    subst e
    show (T.kidAt t0 (i : Int)).bind (T.walkAt []) = _
    rw [T.kidAt_yes hi]
    rfl
  | cons a p ih =>
    intro t0 t i hi h
    have h1 : (T.kidAt t0 (a : Int)).bind (T.walkAt (natI p)) = some t := h
    show (T.kidAt t0 (a : Int)).bind (T.walkAt (natI (p ++ [i]))) = _
    cases e : T.kidAt t0 (a : Int) with
    | none => rw [e] at h1; cases h1
    | some u =>
      rw [e] at h1
      exact ih u t i hi h1
/-- At this path stands an Id of this name. -/
def IdAt (t0 : Tr) (x : ByteArray) (p : List Nat) : Prop := ∃ u, T.walkAt (natI p) t0 = some u ∧ (u.name.toList == T.cId) = true ∧ u.text = x
structure Good (t0 : Tr) (s : Sw) : Prop where
  d : s.ds.length = s.dp.length
  r : s.rs.length = s.rp.length
  dd : ∀ i (hi : i < s.ds.length) (hj : i < s.dp.length), IdAt t0 s.ds[i].name s.dp[i]
  rr : ∀ i (hi : i < s.rs.length) (hj : i < s.rp.length), IdAt t0 s.rs[i].name s.rp[i]
theorem Good.start (t0 : Tr) (n : Nat) : Good t0 (sw0 n) := ⟨rfl, rfl, fun i hi => absurd hi (Nat.not_lt_zero _), fun i hi => absurd hi (Nat.not_lt_zero _)⟩
theorem Good.ref {t0 : Tr} {s : Sw} (h : Good t0 s) (sc : Nat) {x : ByteArray} {p : List Nat} (hx : IdAt t0 x p) : Good t0 (s.ref sc x p) := by
  have h1 := h.r
  refine ⟨h.d, by simp [Sw.ref, h.r], h.dd, fun i hi hj => ?_⟩
  simp only [Sw.ref, List.length_append, List.length_singleton] at hi hj ⊢
  by_cases e : i < s.rs.length
  · rw [List.getElem_append_left e, List.getElem_append_left (by omega)]
    exact h.rr i e (by omega)
  · obtain rfl : i = s.rs.length := by omega
    rw [List.getElem_append_right (Nat.le_refl _), List.getElem_append_right (by omega)]
    simpa using hx
theorem Good.dcl {t0 : Tr} {s : Sw} (h : Good t0 s) (sc : Nat) {x : ByteArray} {p : List Nat} (hx : IdAt t0 x (p ++ [0])) : Good t0 (s.dcl x sc p) := by
  have h1 := h.d
  refine ⟨by simp [Sw.dcl, h.d], h.r, fun i hi hj => ?_, h.rr⟩
  simp only [Sw.dcl, List.length_append, List.length_singleton] at hi hj ⊢
  by_cases e : i < s.ds.length
  · rw [List.getElem_append_left e, List.getElem_append_left (by omega)]
    exact h.dd i e (by omega)
  · obtain rfl : i = s.ds.length := by omega
    rw [List.getElem_append_right (Nat.le_refl _), List.getElem_append_right (by omega)]
    simpa using hx
/-- A term that is no leaf: its Kids are terms, and where it declares, the first of them is an Id. -/
theorem tm_nodeW {n x : ByteArray} {k : List Tr} (ht : T.tm ⟨n, x, false, k⟩ = true) : (∀ i (hi : i < k.length), T.tm k[i] = true) ∧ (T.dclB n = true → ∃ h : 0 < k.length, T.idT k[0] = true) := by
  rw [T.tm_mk] at ht
  simp only [Bool.false_eq_true, if_false] at ht
  cases hkd : T.kdN n with
  | none => rw [hkd] at ht; cases ht
  | some md =>
    obtain ⟨m, d⟩ := md
    rw [hkd] at ht
    simp only [Bool.and_eq_true, decide_eq_true_eq] at ht
    obtain ⟨h1, h2, h3⟩ := ht
    obtain ⟨g1, g2, g3⟩ := T.kd_dcl hkd
    refine ⟨fun i hi => List.all_eq_true.1 h2 _ (List.getElem_mem hi), fun hd => ?_⟩
    have h0 : 0 < k.length := by omega
    refine ⟨h0, ?_⟩
    rw [← g1, hd] at h3
    cases k with
    | nil => simp at h0
    | cons u k => simpa [T.id0] using h3
theorem sw_good (t0 t : Tr) : T.tm t = true → ∀ (sc : Nat) (p : List Nat) (s : Sw), T.walkAt (natI p) t0 = some t → Good t0 s → Good t0 (sw t sc p s) := by
  induction t using T.Tr.ind with
  | h n x l k ih =>
    intro ht sc p s hw hg
    cases l with
    | true =>
      rw [sw_mk]
      rw [if_pos rfl]
      split
      · rename_i hn
        exact hg.ref sc ⟨_, hw, hn, rfl⟩
      · exact hg
    | false =>
      obtain ⟨hk, hd⟩ := tm_nodeW ht
      have hJ : ∀ (d : Bool) (inn : Nat) (s : Sw) (j : Nat), j ≤ k.length → Good t0 s → Good t0 (swJ d sc inn p k j s) := by
        intro d inn s j
        induction j with
        | zero => intro _ h; exact h
        | succ j ihj =>
          intro hj hs
          by_cases hd : d = true ∧ j = 0
          · obtain ⟨rfl, rfl⟩ := hd
            rw [swJ_one]
            exact hs
          · rw [swJ_succ (by omega) hd]
            exact ih j (by omega) (hk j (by omega)) _ _ _ (walk_push p t0 _ j (by exact hj) hw) (ihj (by omega) hs)
      rw [sw_mk, if_neg (by simp)]
      split
      · rename_i hdc
        obtain ⟨h0, hid⟩ := hd hdc
        rw [← swJ_all]
        refine hJ true _ _ _ (Nat.le_refl _) (hg.dcl sc ⟨k[0], walk_push p t0 _ 0 h0 hw, ?_, ?_⟩)
        · unfold T.idT at hid
          rw [Bool.and_eq_true] at hid
          exact hid.2
        · unfold nm0
          cases k with
          | nil => simp at h0
          | cons u k => rfl
      · rw [← swJ_all]
        exact hJ false _ _ _ (Nat.le_refl _) hg
def nSw (s : Sw) : Nat := s.ds.length + s.rs.length
theorem sum_take (k : List Tr) (j : Nat) (hj : j < k.length) : ((k.take (j + 1)).map idN).sum = ((k.take j).map idN).sum + idN k[j] := by
  rw [List.take_succ_eq_append_getElem hj, List.map_append, List.sum_append]
  simp
theorem leaf_none {n x : ByteArray} {k : List Tr} (hr : Tr.right ⟨n, x, true, k⟩ = true) : k = [] := by
  rw [T.Tr.right_mk] at hr
  simp [T.Tr.alone] at hr
  exact hr.1.2.1
theorem sw_num (t : Tr) : T.tm t = true → t.right = true → ∀ (sc : Nat) (p : List Nat) (s : Sw), nSw (sw t sc p s) = nSw s + idN t := by
  induction t using T.Tr.ind with
  | h n x l k ih =>
    intro ht hr sc p s
    cases l with
    | true =>
      obtain rfl := leaf_none hr
      rw [sw_mk, if_pos rfl, idN_mk]
      split
      · rename_i hn
        simp [nSw, Sw.ref, hn]
        omega
      · rename_i hn
        simp [hn]
    | false =>
      obtain ⟨hk, hd⟩ := tm_nodeW ht
      rw [T.Tr.right_mk, Bool.and_eq_true] at hr
      have hkr : ∀ i (hi : i < k.length), k[i].right = true := fun i hi => List.all_eq_true.1 hr.2 _ (List.getElem_mem hi)
      have hJ0 : ∀ (inn : Nat) (s : Sw) (j : Nat), j ≤ k.length → nSw (swJ false sc inn p k j s) = nSw s + ((k.take j).map idN).sum := by
        intro inn s j
        induction j with
        | zero => intro _; simp [swJ_zero]
        | succ j ihj =>
          intro hj
          rw [swJ_succ (by omega) (by simp), ih j (by omega) (hk j (by omega)) (hkr j (by omega)), ihj (by omega), sum_take k j (by omega)]
          omega
      rw [sw_mk, if_neg (by simp), idN_mk]
      simp only [Bool.false_and, Bool.false_eq_true, if_false, Nat.zero_add]
      split
      · rename_i hdc
        obtain ⟨h0, hid⟩ := hd hdc
        have hi1 : idN k[0] = 1 := by
          have hr0 := hkr 0 h0
          generalize k[0] = u at *
          obtain ⟨n0, x0, l0, k0⟩ := u
          have hid2 : (l0 && n0.toList == T.cId) = true := hid
          have hl0 : l0 = true := by rw [Bool.and_eq_true] at hid2; exact hid2.1
          subst hl0
          obtain rfl := leaf_none hr0
          rw [idN_mk, if_pos hid2]
          rfl
        have hJ1 : ∀ (inn : Nat) (s : Sw) (j : Nat), 1 ≤ j → j ≤ k.length → nSw (swJ true sc inn p k j s) + 1 = nSw s + ((k.take j).map idN).sum := by
          intro inn s j
          induction j with
          | zero => intro h _; omega
          | succ j ihj =>
            intro _ hj
            by_cases hj0 : j = 0
            · subst hj0
              rw [swJ_one, sum_take k 0 h0, hi1]
              simp
            · rw [swJ_succ (by omega) (fun h => hj0 h.2), ih j (by omega) (hk j (by omega)) (hkr j (by omega)), sum_take k j (by omega)]
              have := ihj (by omega) (by omega)
              omega
        rw [← swJ_all]
        have h2 := hJ1 s.n (s.dcl (nm0 k) sc p) k.length (by omega) (Nat.le_refl _)
        rw [List.take_length] at h2
        have h3 : nSw (s.dcl (nm0 k) sc p) = nSw s + 1 := by simp [nSw, Sw.dcl]; omega
        omega
      · rw [← swJ_all]
        have h2 := hJ0 0 s k.length (Nat.le_refl _)
        rw [List.take_length] at h2
        exact h2
end Go.Proofs.Ytledclkmeikgdaa

/-! The law's count of Ids; a code that is too long. -/
namespace Go.Proofs.Ytledclkmeikgdaa
open Go.RowKit Go.Deep
open Go.Proofs.Ytledclkmeikgdaa.T (Tr Lies)
set_option linter.unusedVariables false
set_option maxRecDepth 100000
set_option linter.unusedSimpArgs false

theorem big6 (a : Option Addr) (n cap : Nat) (w : World) (hn : n ≤ 2 ^ 63 - 1) : Calls Try.prog 6 #[.slice a n cap] w fun e w' => e = .returned (.bool (decide (1048576 < n))) ∧ w' = w := by
  by_cases h : 1048576 < n
  · have h' : (1048576 : Int) < n := by omega
    go_enter Try.func6, Try.ntmps6
    go_wp2_with fail
    go_ret
    exact ⟨by simp [h], rfl⟩
  · have h' : (n : Int) ≤ 1048576 := by omega
    go_enter Try.func6, Try.ntmps6
    go_wp2_with fail
    go_ret
    exact ⟨by simp [h]; omega, rfl⟩
theorem sum_take_le (k : List Tr) (j : Nat) : ((k.take j).map idN).sum ≤ (k.map idN).sum := by
  have h : (k.map idN).sum = ((k.take j).map idN).sum + ((k.drop j).map idN).sum := by
    rw [← List.sum_append, ← List.map_append, List.take_append_drop]
  omega
theorem idN_cnt (t : Tr) : idN t ≤ t.cnt := by
  induction t using T.Tr.ind with
  | h n x l k ih =>
    rw [idN_mk, T.Tr.cnt_mk]
    have hk : ∀ j, j ≤ k.length → ((k.take j).map idN).sum ≤ T.Tr.cntL (k.take j) := by
      intro j
      induction j with
      | zero => intro _; simp
      | succ j ihj =>
        intro hj
        rw [sum_take k j (by omega), T.Tr.cntL_take_succ k j (by omega)]
        have := ihj (by omega)
        have := ih j (by omega)
        omega
    have := hk k.length (Nat.le_refl _)
    rw [List.take_length] at this
    split <;> omega
set_option maxHeartbeats 1600000 in
theorem ids16 {S : Nat → Prop} (t : Tr) : ∀ (v : Value) (w : World), Lies w S t v → idN t ≤ 1048576 →
    Calls Try.prog 16 #[t.val v] w fun e w' => e = .returned (.int .i64 (idN t : Nat)) ∧ Below w.heap.size w w' := by
  refine T.Tr.ind (P := fun t => ∀ (v : Value) (w : World), Lies w S t v → idN t ≤ 1048576 →
    Calls Try.prog 16 #[t.val v] w fun e w' => e = .returned (.int .i64 (idN t : Nat)) ∧ Below w.heap.size w w') ?_ t
  intro n x l k ih v w hlies hbd
  obtain ⟨a, cap, b, off, sv, rfl, hn, hx, hc, hm, ha, hcell, hk⟩ := hlies.out
  dsimp only at hn hx hc ha hcell hk ⊢
  rw [idN_mk] at hbd ⊢
  unfold maxLen at hm
  have HI := (show Hid _ from ih); clear ih
  have HC := (show Hid _ from hcell); clear hcell
  have HK := (show Hid _ from hk); clear hk
  have HA := (show Hid _ from ha); clear ha
  simp only [T.Tr.val]
  obtain ⟨c0, hc0⟩ : ∃ c0, c0 = if (l && n.toList == T.cId) = true then 1 else 0 := ⟨_, rfl⟩
  rw [← hc0] at hbd ⊢
  have hcb : c0 ≤ 1 := by rw [hc0]; split <;> omega
  have HL := (show Hid _ from hc0); clear hc0
  obtain ⟨nb, hb⟩ : ∃ nb, (n.toList == T.cId) = nb := ⟨_, rfl⟩
  rw [hb] at HL
  have hb' : (n.toList == [73, 100]) = nb := hb
  clear hb
  cases l <;> cases nb
  · obtain rfl : c0 = 0 := by simpa using HL.out
    clear HL
    go_enter Try.func16, Try.ntmps16
    go_wp2_with fail
    go_loopw [3, 4] (fun u i wr => ∃ (j q : Nat), j ≤ k.length ∧ i = .int .i64 j ∧ u = .int .i64 (q : Nat) ∧ q ≤ 1048577 ∧ Hid (q = 0 + ((k.take j).map idN).sum) ∧ Below (w.heap.size + 1) (w.alloc (.cells #[.string n, .string x, .bool false, .slice a k.length cap] 40)) wr) (fun _ i _ => k.length - (intOf i).toNat)
    case atStart => exact ⟨0, 0, Nat.zero_le _, rfl, rfl, by omega, by show 0 = 0 + _; simp, Below.refl _ _⟩
    case round =>
      obtain ⟨j, q, hj, rfl, rfl, hq, HR, hbel⟩ := hrel
      have hbw : Below w.heap.size w wr := (T.bel_alloc _ _).trans (hbel.mono (by omega))
      have cK : wr.cell? ⟨w.heap.size, 3, none⟩ = some (.slice a k.length cap) := by rw [hbel.cell (by show w.heap.size < _; omega)]; simp [go_sem]
      by_cases hlt : j < k.length
      · obtain ⟨rfl, _⟩ := HA.out (by omega)
        obtain ⟨c0, c1, c2, c3⟩ := HC.out j hlt
        rw [← hbw.cell (T.lt_of_cell c0)] at c0
        rw [← hbw.cell (T.lt_of_cell c1)] at c1
        rw [← hbw.cell (T.lt_of_cell c2)] at c2
        rw [← hbw.cell (T.lt_of_cell c3)] at c3
        have hs1 := sum_take k j hlt
        have hs2 := sum_take_le k (j + 1)
        have hq2 := HR.out
        have hkb : idN k[j] ≤ 1048576 := by omega
        have hq3 : q + idN k[j] ≤ 1048577 := by omega
        have HQ := (show Hid (q + idN k[j] = 0 + ((k.take (j + 1)).map idN).sum) from by show q + idN k[j] = _; omega)
        have HCL := (show Hid _ from HI.out j hlt _ wr ((HK.out j hlt).still hbw) hkb)
        clear hs1 hs2 hq2
        generalize idN k[j] = d at *
        have hq4 : (q : Int) + (d : Int) ≤ 1048577 := by omega
        go_wp2_with fail
        refine Calls.mono HCL.out ?_
        rintro e w1 ⟨rfl, hb1⟩
        go_wp2_with fail
        refine ⟨⟨j + 1, q + d, by omega, by go_num, by go_num, hq3, HQ.out, hbel.trans (hb1.mono ?_)⟩, by simp [intOf]; omega⟩
        have := hbel.size; simp at this; omega
      · obtain rfl : j = k.length := by omega
        have hq2 := HR.out
        rw [List.take_length] at hq2
        go_wp2_with fail
        go_ret
        exact ⟨T.ret_int (by omega), hbw⟩
  · obtain rfl : c0 = 0 := by simpa using HL.out
    clear HL
    go_enter Try.func16, Try.ntmps16
    go_wp2_with fail
    go_loopw [3, 4] (fun u i wr => ∃ (j q : Nat), j ≤ k.length ∧ i = .int .i64 j ∧ u = .int .i64 (q : Nat) ∧ q ≤ 1048577 ∧ Hid (q = 0 + ((k.take j).map idN).sum) ∧ Below (w.heap.size + 1) (w.alloc (.cells #[.string n, .string x, .bool false, .slice a k.length cap] 40)) wr) (fun _ i _ => k.length - (intOf i).toNat)
    case atStart => exact ⟨0, 0, Nat.zero_le _, rfl, rfl, by omega, by show 0 = 0 + _; simp, Below.refl _ _⟩
    case round =>
      obtain ⟨j, q, hj, rfl, rfl, hq, HR, hbel⟩ := hrel
      have hbw : Below w.heap.size w wr := (T.bel_alloc _ _).trans (hbel.mono (by omega))
      have cK : wr.cell? ⟨w.heap.size, 3, none⟩ = some (.slice a k.length cap) := by rw [hbel.cell (by show w.heap.size < _; omega)]; simp [go_sem]
      by_cases hlt : j < k.length
      · obtain ⟨rfl, _⟩ := HA.out (by omega)
        obtain ⟨c0, c1, c2, c3⟩ := HC.out j hlt
        rw [← hbw.cell (T.lt_of_cell c0)] at c0
        rw [← hbw.cell (T.lt_of_cell c1)] at c1
        rw [← hbw.cell (T.lt_of_cell c2)] at c2
        rw [← hbw.cell (T.lt_of_cell c3)] at c3
        have hs1 := sum_take k j hlt
        have hs2 := sum_take_le k (j + 1)
        have hq2 := HR.out
        have hkb : idN k[j] ≤ 1048576 := by omega
        have hq3 : q + idN k[j] ≤ 1048577 := by omega
        have HQ := (show Hid (q + idN k[j] = 0 + ((k.take (j + 1)).map idN).sum) from by show q + idN k[j] = _; omega)
        have HCL := (show Hid _ from HI.out j hlt _ wr ((HK.out j hlt).still hbw) hkb)
        clear hs1 hs2 hq2
        generalize idN k[j] = d at *
        have hq4 : (q : Int) + (d : Int) ≤ 1048577 := by omega
        go_wp2_with fail
        refine Calls.mono HCL.out ?_
        rintro e w1 ⟨rfl, hb1⟩
        go_wp2_with fail
        refine ⟨⟨j + 1, q + d, by omega, by go_num, by go_num, hq3, HQ.out, hbel.trans (hb1.mono ?_)⟩, by simp [intOf]; omega⟩
        have := hbel.size; simp at this; omega
      · obtain rfl : j = k.length := by omega
        have hq2 := HR.out
        rw [List.take_length] at hq2
        go_wp2_with fail
        go_ret
        exact ⟨T.ret_int (by omega), hbw⟩
  · obtain rfl : c0 = 0 := by simpa using HL.out
    clear HL
    go_enter Try.func16, Try.ntmps16
    go_wp2_with fail
    go_loopw [3, 4] (fun u i wr => ∃ (j q : Nat), j ≤ k.length ∧ i = .int .i64 j ∧ u = .int .i64 (q : Nat) ∧ q ≤ 1048577 ∧ Hid (q = 0 + ((k.take j).map idN).sum) ∧ Below (w.heap.size + 1) (w.alloc (.cells #[.string n, .string x, .bool true, .slice a k.length cap] 40)) wr) (fun _ i _ => k.length - (intOf i).toNat)
    case atStart => exact ⟨0, 0, Nat.zero_le _, rfl, rfl, by omega, by show 0 = 0 + _; simp, Below.refl _ _⟩
    case round =>
      obtain ⟨j, q, hj, rfl, rfl, hq, HR, hbel⟩ := hrel
      have hbw : Below w.heap.size w wr := (T.bel_alloc _ _).trans (hbel.mono (by omega))
      have cK : wr.cell? ⟨w.heap.size, 3, none⟩ = some (.slice a k.length cap) := by rw [hbel.cell (by show w.heap.size < _; omega)]; simp [go_sem]
      by_cases hlt : j < k.length
      · obtain ⟨rfl, _⟩ := HA.out (by omega)
        obtain ⟨c0, c1, c2, c3⟩ := HC.out j hlt
        rw [← hbw.cell (T.lt_of_cell c0)] at c0
        rw [← hbw.cell (T.lt_of_cell c1)] at c1
        rw [← hbw.cell (T.lt_of_cell c2)] at c2
        rw [← hbw.cell (T.lt_of_cell c3)] at c3
        have hs1 := sum_take k j hlt
        have hs2 := sum_take_le k (j + 1)
        have hq2 := HR.out
        have hkb : idN k[j] ≤ 1048576 := by omega
        have hq3 : q + idN k[j] ≤ 1048577 := by omega
        have HQ := (show Hid (q + idN k[j] = 0 + ((k.take (j + 1)).map idN).sum) from by show q + idN k[j] = _; omega)
        have HCL := (show Hid _ from HI.out j hlt _ wr ((HK.out j hlt).still hbw) hkb)
        clear hs1 hs2 hq2
        generalize idN k[j] = d at *
        have hq4 : (q : Int) + (d : Int) ≤ 1048577 := by omega
        go_wp2_with fail
        refine Calls.mono HCL.out ?_
        rintro e w1 ⟨rfl, hb1⟩
        go_wp2_with fail
        refine ⟨⟨j + 1, q + d, by omega, by go_num, by go_num, hq3, HQ.out, hbel.trans (hb1.mono ?_)⟩, by simp [intOf]; omega⟩
        have := hbel.size; simp at this; omega
      · obtain rfl : j = k.length := by omega
        have hq2 := HR.out
        rw [List.take_length] at hq2
        go_wp2_with fail
        go_ret
        exact ⟨T.ret_int (by omega), hbw⟩
  · obtain rfl : c0 = 1 := by simpa using HL.out
    clear HL
    go_enter Try.func16, Try.ntmps16
    go_wp2_with fail
    go_loopw [3, 4] (fun u i wr => ∃ (j q : Nat), j ≤ k.length ∧ i = .int .i64 j ∧ u = .int .i64 (q : Nat) ∧ q ≤ 1048577 ∧ Hid (q = 1 + ((k.take j).map idN).sum) ∧ Below (w.heap.size + 1) (w.alloc (.cells #[.string n, .string x, .bool true, .slice a k.length cap] 40)) wr) (fun _ i _ => k.length - (intOf i).toNat)
    case atStart => exact ⟨0, 1, Nat.zero_le _, rfl, rfl, by omega, by show 1 = 1 + _; simp, Below.refl _ _⟩
    case round =>
      obtain ⟨j, q, hj, rfl, rfl, hq, HR, hbel⟩ := hrel
      have hbw : Below w.heap.size w wr := (T.bel_alloc _ _).trans (hbel.mono (by omega))
      have cK : wr.cell? ⟨w.heap.size, 3, none⟩ = some (.slice a k.length cap) := by rw [hbel.cell (by show w.heap.size < _; omega)]; simp [go_sem]
      by_cases hlt : j < k.length
      · obtain ⟨rfl, _⟩ := HA.out (by omega)
        obtain ⟨c0, c1, c2, c3⟩ := HC.out j hlt
        rw [← hbw.cell (T.lt_of_cell c0)] at c0
        rw [← hbw.cell (T.lt_of_cell c1)] at c1
        rw [← hbw.cell (T.lt_of_cell c2)] at c2
        rw [← hbw.cell (T.lt_of_cell c3)] at c3
        have hs1 := sum_take k j hlt
        have hs2 := sum_take_le k (j + 1)
        have hq2 := HR.out
        have hkb : idN k[j] ≤ 1048576 := by omega
        have hq3 : q + idN k[j] ≤ 1048577 := by omega
        have HQ := (show Hid (q + idN k[j] = 1 + ((k.take (j + 1)).map idN).sum) from by show q + idN k[j] = _; omega)
        have HCL := (show Hid _ from HI.out j hlt _ wr ((HK.out j hlt).still hbw) hkb)
        clear hs1 hs2 hq2
        generalize idN k[j] = d at *
        have hq4 : (q : Int) + (d : Int) ≤ 1048577 := by omega
        go_wp2_with fail
        refine Calls.mono HCL.out ?_
        rintro e w1 ⟨rfl, hb1⟩
        go_wp2_with fail
        refine ⟨⟨j + 1, q + d, by omega, by go_num, by go_num, hq3, HQ.out, hbel.trans (hb1.mono ?_)⟩, by simp [intOf]; omega⟩
        have := hbel.size; simp at this; omega
      · obtain rfl : j = k.length := by omega
        have hq2 := HR.out
        rw [List.take_length] at hq2
        go_wp2_with fail
        go_ret
        exact ⟨T.ret_int (by omega), hbw⟩
end Go.Proofs.Ytledclkmeikgdaa
