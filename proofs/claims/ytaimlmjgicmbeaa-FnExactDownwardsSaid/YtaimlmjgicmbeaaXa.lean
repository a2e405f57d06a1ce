import Derived.Test.YtaimlmjgicmbeaaWy
import Derived.Test.YtaimlmjgicmbeaaYh
/-! The specification: Downwards, its small functions and its memory. -/
namespace Go.Proofs.Ytaimlmjgicmbeaa
open Go.RowKit Go.Deep
set_option linter.unusedVariables false
set_option maxRecDepth 100000
set_option linter.unusedSimpArgs false

set_option maxHeartbeats 1600000 in
/-- l05SameInts. -/
theorem same36 {S S' : Nat → Prop} (l m : List Int) (v v' : Value) (w : World) (h : Ints w S l v) (h' : Ints w S' m v') :
    Calls Try.prog 36 #[v, v'] w fun e w' => e = .returned (.bool (decide (l = m))) ∧ Below w.heap.size w w' := by
  obtain ⟨a, cap, b, off, rfl, hc, hm, ha, hcell⟩ := h
  obtain ⟨a', cap', b', off', rfl, hc', hm', ha', hcell'⟩ := h'
  have HC := (show Hid _ from hcell); clear hcell
  have HA := (show Hid _ from ha); clear ha
  have HC' := (show Hid _ from hcell'); clear hcell'
  have HA' := (show Hid _ from ha'); clear ha'
  unfold maxLen at hm hm'
  obtain ⟨R, hR⟩ : ∃ R, decide (l = m) = R := ⟨_, rfl⟩
  rw [hR]
  have HR := (show Hid (decide (l = m) = R) from hR)
  clear hR
  by_cases hn : m.length = l.length
  · have HN := (show Hid (m.length = l.length) from hn)
    rw [hn] at hc' ⊢
    clear hn
    go_enter Try.func36, Try.ntmps36
    go_wp2_with fail
    go_loopw [5] (fun i wr => ∃ j : Nat, j ≤ l.length ∧ i = .int .i64 j ∧ Below w.heap.size w wr ∧ Hid (∀ i (hi : i < l.length) (hi' : i < m.length), i < j → l[i] = m[i])) (fun i _ => l.length - (intOf i).toNat)
    case atStart => exact ⟨0, Nat.zero_le _, rfl, Below.refl _ _, fun i _ _ h => absurd h (Nat.not_lt_zero _)⟩
    case round =>
      obtain ⟨j, hj, rfl, hbel, HJ⟩ := hrel
      by_cases hlt : j < l.length
      · have hlt' : j < m.length := by have := HN.out; omega
        obtain ⟨rfl, _⟩ := HA.out (by omega)
        obtain ⟨rfl, _⟩ := HA'.out (by omega)
        have c0 := HC.out j hlt
        rw [← hbel.cell (lt_of_cell c0)] at c0
        have c1 := HC'.out j hlt'
        rw [← hbel.cell (lt_of_cell c1)] at c1
        have hbd := hbel.drew
        by_cases he : l[j] = m[j]
        · have HNX : Hid (∀ i (hi : i < l.length) (hi' : i < m.length), i < j + 1 → l[i] = m[i]) := fun i hi hi' hij => by
            by_cases e : i = j
            · subst e; exact he
            · exact HJ.out i hi hi' (by omega)
          rw [← he] at c1
          clear he
          generalize l[j] = X at *
          go_wp2_with fail
          go_region
          all_goals
            go_wp2_with fail
            exact ⟨⟨j + 1, by omega, by go_num, hbd, HNX⟩, by simp [intOf]; omega⟩
        · have hb1 : (l[j] != m[j]) = true := by simp [he]
          have HF : Hid (R = false) := by
            show R = false
            rw [← HR.out, decide_eq_false_iff_not]
            intro e
            subst e
            exact he rfl
          clear he
          generalize l[j] = X at *
          generalize m[j] = Y at *
          go_wp2_with fail
          go_region
          all_goals
            go_wp2_with fail
            go_ret
            exact ⟨by rw [HF.out]; rfl, hbd⟩
      · have HF : Hid (R = true) := by
          show R = true
          rw [← HR.out, decide_eq_true_iff]
          apply List.ext_getElem HN.out.symm
          intro i h1 h2
          exact HJ.out i h1 h2 (by omega)
        go_wp2_with fail
        go_ret
        exact ⟨by rw [HF.out]; rfl, hbel⟩
  · have HF : Hid (R = false) := by
      show R = false
      rw [← HR.out, decide_eq_false_iff_not]
      intro e
      subst e
      exact hn rfl
    have hb1 : ((l.length : Int) != (m.length : Int)) = true := by simp; omega
    clear hn HC HC' HA HA'
    generalize l.length = X at *
    generalize m.length = Y at *
    go_enter Try.func36, Try.ntmps36
    go_wp2_with fail
    go_ret
    exact ⟨by rw [HF.out]; rfl, Below.refl _ _⟩
/-- Rows that own what they lie in, behind a slice. -/
def ORows (w : World) (B : Nat) (ls : List (List Int)) (v : Value) : Prop :=
  ∃ (cap b off : Nat) (sv : Nat → Value), v = .slice (some ⟨b, off, none⟩) ls.length cap ∧ ls.length ≤ cap ∧ cap ≤ maxLen ∧
    (∀ i (hi : i < ls.length), w.cell? ⟨b, off + i, none⟩ = some (sv i)) ∧ ∀ i (hi : i < ls.length), ∃ c, OwnI w c ls[i] (sv i) ∧ B ≤ c
theorem ORows.still {w w' : World} {B : Nat} {ls : List (List Int)} {v : Value} (h : ORows w B ls v) (hb : Below w.heap.size w w') : ORows w' B ls v := by
  obtain ⟨cap, b, off, sv, hv, hc, hm, hcell, hr⟩ := h
  exact ⟨cap, b, off, sv, hv, hc, hm, fun i hi => (hb.cell (lt_of_cell (hcell i hi))).trans (hcell i hi), fun i hi => by
    obtain ⟨c, h1, h2⟩ := hr i hi
    exact ⟨c, h1.still hb, h2⟩⟩
theorem ORows.form {w : World} {B : Nat} {l : List (List Int)} {v : Value} (h : ORows w B l v) : ∃ b off cap, v = .slice (some ⟨b, off, none⟩) l.length cap ∧ l.length ≤ cap ∧ cap ≤ maxLen := by
  obtain ⟨cap, b, off, sv, hv, hc, hm, _⟩ := h
  exact ⟨_, _, _, hv, hc, hm⟩
/-- One told from below, the last of the parts at the end. -/
theorem prn_app (G : Int → Option (Int × List Int)) : ∀ (u v : List Int) (P : List (List Int)), prn G (u ++ v) P = (prn G u P).bind (prn G v)
  | [], v, P => rfl
  | p :: u, v, P => by
    simp only [List.cons_append, prn]
    cases pst G P p with
    | none => rfl
    | some Q => simp only [Option.bind_some]; exact prn_app G u v Q
theorem prn_step {G : Int → Option (Int × List Int)} {U : List Int} {i : Nat} (hi : i < U.length) : prn G (U.take (i + 1)) [] = (prn G (U.take i) []).bind (fun P => pst G P U[i]) := by
  rw [List.take_succ_eq_append_getElem hi, prn_app]
  congr 1
  funext P
  simp only [prn]
  cases pst G P U[i] <;> rfl
theorem prn_none {G : Int → Option (Int × List Int)} {U : List Int} {i : Nat} (hi : i ≤ U.length) (h : prn G (U.take i) [] = none) : prn G U [] = none := by
  rw [← List.take_append_drop i U, prn_app, h]
  rfl
theorem sum_len (P : List (List Int)) : (P.map List.length).sum = P.flatten.length := by
  rw [List.length_flatten]
/-- Each part has something in it, and all together have as many as were told. -/
theorem prn_inv {G : Int → Option (Int × List Int)} : ∀ (u : List Int) (P Q : List (List Int)), prn G u P = some Q → (∀ l ∈ P, 0 < l.length) → (∀ l ∈ Q, 0 < l.length) ∧ Q.flatten.length = P.flatten.length + u.length
  | [], P, Q, h, hp => by
    simp only [prn, Option.some.injEq] at h
    subst h
    exact ⟨hp, rfl⟩
  | p :: u, P, Q, h, hp => by
    simp only [prn, pst] at h
    cases hg : G p with
    | none => simp [hg] at h
    | some x =>
      simp only [hg, Option.bind_some] at h
      by_cases hl : x.2.length ≤ P.length
      · rw [if_pos hl] at h
        simp only [Option.bind_some] at h
        obtain ⟨h1, h2⟩ := prn_inv u _ Q h (fun l hl' => by
          rcases List.mem_cons.1 hl' with rfl | hm
          · simp
          · exact hp l (List.mem_of_mem_drop hm))
        refine ⟨h1, ?_⟩
        have e1 : P.flatten.length = (P.take x.2.length).flatten.length + (P.drop x.2.length).flatten.length := by
          rw [← List.length_append, ← List.flatten_append, List.take_append_drop]
        have e2 : ((P.take x.2.length).reverse.flatten).length = (P.take x.2.length).flatten.length := by
          rw [← sum_len, ← sum_len, List.map_reverse, List.sum_reverse]
        rw [h2, List.flatten_cons, List.length_append, List.length_cons, List.length_cons, e2, e1]
        omega
      · rw [if_neg hl] at h
        cases h
/-- One more told from below, the parts in their order: the first n of the last are put together. -/
def qst (Q : List (List Int)) (n : Nat) (p : Int) : List (List Int) := Q.take (Q.length - n) ++ [p :: (Q.drop (Q.length - n)).flatten]
theorem qst_yes {G : Int → Option (Int × List Int)} {U : List Int} {i : Nat} {Q : List (List Int)} {x : Int × List Int} (hi : i < U.length) (h : prn G (U.take i) [] = some Q.reverse) (hg : G U[i] = some x) (hn : x.2.length ≤ Q.length) :
    prn G (U.take (i + 1)) [] = some (qst Q x.2.length U[i]).reverse := by
  rw [prn_step hi, h, Option.bind_some]
  unfold pst qst
  rw [hg, Option.bind_some, if_pos (by rw [List.length_reverse]; exact hn), List.reverse_append, List.reverse_singleton, List.singleton_append, List.take_reverse, List.reverse_reverse, List.drop_reverse]
theorem qst_no {G : Int → Option (Int × List Int)} {U : List Int} {i : Nat} {Q : List (List Int)} (hi : i < U.length) (h : prn G (U.take i) [] = some Q.reverse) (hg : ∀ x, G U[i] = some x → Q.length < x.2.length) : prn G U [] = none := by
  refine prn_none (i := i + 1) hi ?_
  rw [prn_step hi, h, Option.bind_some]
  unfold pst
  cases e : G U[i] with
  | none => rfl
  | some x =>
    have := hg x e
    rw [Option.bind_some, if_neg (by rw [List.length_reverse]; omega)]
/-- The parts: each has something, and there are no more than were told. -/
theorem parts_inv {G : Int → Option (Int × List Int)} {U : List Int} {i : Nat} {Q : List (List Int)} (hi : i ≤ U.length) (h : prn G (U.take i) [] = some Q.reverse) : (∀ l ∈ Q, 0 < l.length) ∧ Q.flatten.length = i ∧ Q.length ≤ i := by
  obtain ⟨h1, h2⟩ := prn_inv _ _ _ h (fun l hl => absurd hl (by simp))
  have h1' : ∀ l ∈ Q, 0 < l.length := fun l hl => h1 l (List.mem_reverse.2 hl)
  have e : Q.reverse.flatten.length = Q.flatten.length := by rw [← sum_len, ← sum_len, List.map_reverse, List.sum_reverse]
  have h3 : Q.flatten.length = i := by
    rw [e, List.length_take, Nat.min_eq_left hi] at h2
    simpa using h2
  refine ⟨h1', h3, ?_⟩
  rw [← h3]
  clear h h1 h2 e h3
  induction Q with
  | nil => simp
  | cons l Q ih =>
    have := ih (fun l hl => h1' l (List.mem_cons_of_mem _ hl))
    have h0 := h1' l (List.mem_cons_self ..)
    simp only [List.length_cons, List.flatten_cons, List.length_append]
    omega
theorem info27z : (Try.prog.info? 27).map (fun i => (i.zero, i.size, i.bytes)) = some (some (.slice none 0 0), 1, 24) := by kernel_rfl
end Go.Proofs.Ytaimlmjgicmbeaa

/-! The specification: Downwards. -/
namespace Go.Proofs.Ytaimlmjgicmbeaa
open Go.RowKit Go.Deep
set_option linter.unusedVariables false
set_option maxRecDepth 100000
set_option linter.unusedSimpArgs false

theorem dwS_cd {d : Bn} {non : Int} {U : List Int} (h : cdR d non U.length ≠ 0) : dwS d non U = ([], cdR d non U.length) := by
  unfold dwS
  rw [if_pos h]
theorem dwS_none {d : Bn} {non : Int} {U : List Int} (h : cdR d non U.length = 0) (hn : prn (Gd d) U [] = none) : dwS d non U = ([], 2) := by
  unfold dwS
  rw [if_neg (by omega), hn]
theorem dwS_many {d : Bn} {non : Int} {U : List Int} {Q : List (List Int)} (h : cdR d non U.length = 0) (hn : prn (Gd d) U [] = some Q.reverse) (hq : Q.length ≠ 1) : dwS d non U = ([], 2) := by
  unfold dwS
  rw [if_neg (by omega), hn]
  split
  · rename_i l e
    injection e with e
    have := congrArg List.length e
    simp at this
    omega
  · rfl
theorem dwS_one {d : Bn} {non : Int} {U l : List Int} (h : cdR d non U.length = 0) (hn : prn (Gd d) U [] = some [l]) : dwS d non U = if upR d non l = (U, 0) then (l, 0) else ([], 2) := by
  unfold dwS
  rw [if_neg (by omega), hn]
theorem below_drN (w : World) (n : Nat) : Below w.heap.size w (w.drewN n) := ⟨rfl, rfl, rfl, Nat.le_refl _, fun _ _ => rfl⟩
theorem ORows.cells {w : World} {B : Nat} {Q : List (List Int)} {b off cap : Nat} (h : ORows w B Q (.slice (some ⟨b, off, none⟩) Q.length cap)) :
    ∃ sv : Nat → Value, Q.length ≤ cap ∧ cap ≤ maxLen ∧ (∀ i, i < Q.length → w.cell? ⟨b, off + i, none⟩ = some (sv i)) ∧ ∀ i (hi : i < Q.length), ∃ c, OwnI w c Q[i] (sv i) ∧ B ≤ c := by
  obtain ⟨cap', b', off', sv, hv, hc, hm, hcell, hr⟩ := h
  injection hv with h1 h2 h3
  injection h1 with h1
  injection h1 with h1 h4
  subst h1 h3 h4
  exact ⟨sv, hc, hm, hcell, hr⟩
theorem qst_lt {Q : List (List Int)} {n i : Nat} {p : Int} (h : i < Q.length - n) (h' : i < (qst Q n p).length) : (qst Q n p)[i] = Q[i]'(by omega) := by
  apply Option.some.inj
  rw [← List.getElem?_eq_getElem, ← List.getElem?_eq_getElem]
  unfold qst
  rw [List.getElem?_append_left (by rw [List.length_take]; omega), List.getElem?_take, if_pos h]
theorem qst_last {Q : List (List Int)} {n i : Nat} {p : Int} (h : i = Q.length - n) (h' : i < (qst Q n p).length) : (qst Q n p)[i] = p :: (Q.drop (Q.length - n)).flatten := by
  subst h
  apply Option.some.inj
  rw [← List.getElem?_eq_getElem]
  unfold qst
  rw [List.getElem?_append_right (by rw [List.length_take]; omega), List.length_take, Nat.min_eq_left (by omega), Nat.sub_self]
  rfl
/-- The parts behind one more that was told. -/
theorem ORows.qst {w : World} {B A : Nat} {Q : List (List Int)} {n gd g cp : Nat} {p : Int} {sv : Nat → Value} {dv : Value} (hr : ∀ i (hi : i < Q.length), ∃ c, OwnI w c Q[i] (sv i) ∧ B ≤ c) (hd : OwnI w gd (p :: (Q.drop (Q.length - n)).flatten) dv) (hgd : B ≤ gd)
    (ho : w.ownsRow A 27 1 (.slice (some ⟨g, 0, none⟩) (Q.length - n + 1) cp) (Q.length - n + 1) ((List.range (Q.length - n)).map sv ++ [dv])) :
    ORows w B (Ytaimlmjgicmbeaa.qst Q n p) (.slice (some ⟨g, 0, none⟩) (Ytaimlmjgicmbeaa.qst Q n p).length cp) := by
  have hL : (Ytaimlmjgicmbeaa.qst Q n p).length = Q.length - n + 1 := by unfold Ytaimlmjgicmbeaa.qst; simp
  rcases ho.2 with ⟨e, _⟩ | ⟨g', cap', cur, e, hB, hg, hnc, hcm, hcs, htk⟩
  · cases e
  · injection e with e1 e2 e3
    injection e1 with e1
    injection e1 with e1
    subst e1 e3
    refine ⟨cp, g, 0, fun i => if i < Q.length - n then sv i else dv, rfl, by rw [hL]; exact hnc, hcm, fun i hi => ?_, fun i hi => ?_⟩
    · rw [hL] at hi
      have h1 := World.ownsRow.cells ho (g := g) rfl i (if i < Q.length - n then sv i else dv) (by
        by_cases h : i < Q.length - n
        · rw [if_pos h, List.getElem?_append_left (by simpa using h)]
          simp [h]
        · obtain rfl : i = Q.length - n := by omega
          rw [if_neg h, List.getElem?_append_right (by simp)]
          simp)
      rw [addX] at h1
      exact h1
    · rw [hL] at hi
      by_cases h : i < Q.length - n
      · simp only [if_pos h]
        obtain ⟨c, h1, h2⟩ := hr i (by omega)
        refine ⟨c, ?_, h2⟩
        rw [qst_lt h]
        exact h1
      · simp only [if_neg h]
        refine ⟨gd, ?_, hgd⟩
        rw [qst_last (by omega)]
        exact hd
theorem fl_take {Q : List (List Int)} {m j : Nat} (h : m + j < Q.length) : ((Q.drop m).take (j + 1)).flatten = ((Q.drop m).take j).flatten ++ Q[m + j] := by
  rw [List.take_succ_eq_append_getElem (by rw [List.length_drop]; omega), List.flatten_append]
  simp
theorem fl_le {Q : List (List Int)} {m j : Nat} : ((Q.drop m).take j).flatten.length ≤ Q.flatten.length := by
  have e : Q.flatten = (Q.take m).flatten ++ (((Q.drop m).take j).flatten ++ ((Q.drop m).drop j).flatten) := by
    rw [← List.flatten_append, List.take_append_drop, ← List.flatten_append, List.take_append_drop]
  rw [e, List.length_append, List.length_append]
  omega
theorem Gd_at {d : Bn} {k : Nat} {R : List Int} (hk : k < d.prods.length) (hw : wiB (k : Int) 0 ((d.prods.length : Int) - 1) = true) (hR : d.prods[k].right = R) : ∃ x, Gd d (k : Int) = some x ∧ x.2.length = cn d.terms.length R := by
  unfold Gd
  rw [if_pos hw]
  refine ⟨_, rfl, ?_⟩
  have e : pdAt d (k : Int) = d.prods[k] := by
    unfold pdAt
    simp [List.getD_eq_getElem?_getD, hk]
  simp only [e, hR]
  unfold cn
  rw [List.countP_eq_length_filter]
/-- What stands while it is told: the box, the rules, what is told, the parts so far. -/
structure DwI (w1 wr : World) (q B : Nat) (v0 v1 v3 : Value) (own : Int) (Q : List (List Int)) (v : Value) : Prop where
  bel : Below w1.heap.size w1 wr
  row : ORows wr B Q v
set_option maxHeartbeats 6400000 in
theorem sDw {S : Nat → Prop} (d : Bn) (U : List Int) (v0 v1 v3 vd : Value) (non : Int) (w : World) (h : BLies w S d v0 v1 v3) (hd : Ints w S U vd) (hS : ∀ b, S b → b < w.heap.size) :
    Calls Try.prog 15 #[.agg #[v0, v1, .int .i64 d.own, v3], .int .i64 non, vd] w fun e w' => YAns (dwS d non U) w e w' := by
  obtain ⟨r, hr⟩ : ∃ r, dwS d non U = r := ⟨_, rfl⟩
  rw [hr]
  have HGR := (show Hid (dwS d non U = r) from hr)
  clear hr
  have hb0 := bel_alloc w (.cells #[v0, v1, .int .i64 d.own, v3] 34)
  obtain ⟨ad, cd, rfl, hdm⟩ := hd.form
  have HCD := (show Hid _ from codes_s d v0 v1 v3 non ad U.length cd _ (h.still hb0) hdm)
  have hx := Box.new w 34 [v0, v1, .int .i64 d.own, v3]
  have HLB := (show Hid (BLies w S d v0 v1 v3) from h)
  have HDU := (show Hid (Ints w S U (.slice ad U.length cd)) from hd)
  obtain ⟨a0, c0, a1, c1, a3, c3, rfl, rfl, rfl⟩ := h.form
  have HX := (show Hid (Box _ _ _ _) from hx)
  have HB0 := (show Hid _ from hb0)
  have HSS := (show Hid (∀ b, S b → b < w.heap.size) from hS)
  have x0 := hx.cell 0 (by simp)
  have x1 := hx.cell 1 (by simp)
  have x2 := hx.cell 2 (by simp)
  have x3 := hx.cell 3 (by simp)
  simp only [List.getD_cons_zero, List.getD_cons_succ] at x0 x1 x2 x3
  clear hx h hd hS hb0
  go_enter Try.func15, Try.ntmps15
  go_wp2_with fail
  refine Calls.mono HCD.out ?_
  rintro e w1 ⟨rfl, hb1⟩
  have HB1 := (show Hid (Below w.heap.size w w1) from bel_trans HB0.out hb1)
  have HX1 := (show Hid _ from Box.still HX.out hb1)
  clear x0 x1 x2 x3 hb1 HCD HX HB0
  by_cases hcd : cdR d non U.length = 0
  · obtain ⟨g1, g2, g3, g4, jk⟩ := goodR_rd hcd
    clear jk
    have HCD := (show Hid (cdR d non U.length = 0) from hcd)
    have HOK := (show Hid (bnB d = true) from g1)
    have HL1 := (show Hid (BLies w1 S d _ _ _) from HLB.out.still HB1.out)
    have HD1 := (show Hid (Ints w1 S U (.slice ad U.length cd)) from Ints.still HDU.out HB1.out)
    rw [hcd]
    clear hcd g1 HLB HDU
    go_wp2_with fail
    have HT0 : Hid (ORows (w1.alloc (.cells #[] 27)) w.heap.size [] (.slice (some ⟨w1.heap.size, 0, none⟩) 0 0)) := ⟨0, w1.heap.size, 0, fun _ => .nilFunc, rfl, Nat.le_refl _, by unfold maxLen; omega, fun i hi => absurd hi (Nat.not_lt_zero _), fun i hi => absurd hi (Nat.not_lt_zero _)⟩
    go_loopw [9, 10] (fun u9 u10 wr => ∃ (i b off cap : Nat) (Q : List (List Int)), u9 = .slice (some ⟨b, off, none⟩) Q.length cap ∧ u10 = .int .i64 i ∧ i ≤ U.length ∧ Hid (prn (Gd d) (U.take i) [] = some Q.reverse ∧ Below w1.heap.size w1 wr ∧ ORows wr w.heap.size Q (.slice (some ⟨b, off, none⟩) Q.length cap))) (fun _ u10 _ => U.length - (intOf u10).toNat)
    case atStart => exact ⟨0, w1.heap.size, 0, 0, [], rfl, rfl, Nat.zero_le _, rfl, bel_alloc _ _, HT0.out⟩
    case round =>
      obtain ⟨i, pb, po, pc, Q, rfl, rfl, hi, HJ⟩ := hrel
      have HBW := (show Hid (Below w1.heap.size w1 wr) from HJ.out.2.1)
      have hbx := Box.still HX1.out HBW.out
      have x0 := hbx.cell 0 (by simp)
      have x1 := hbx.cell 1 (by simp)
      have x2 := hbx.cell 2 (by simp)
      have x3 := hbx.cell 3 (by simp)
      simp only [List.getD_cons_zero, List.getD_cons_succ] at x0 x1 x2 x3
      obtain ⟨hq1, hq2, hq3⟩ := parts_inv hi HJ.out.1
      obtain ⟨bn1, bn2, bn3, bn4, bn5, bn6⟩ := szB_of HOK.out
      by_cases hlt : i < U.length
      · obtain ⟨adx, cdx, bd, od, ed, hdc, hdm', hda, hdcell⟩ := Ints.still HD1.out HBW.out
        obtain ⟨rfl, _⟩ := hda (by omega)
        injection ed with ed1 ed2 ed3
        subst ed1
        have t0 := hdcell i hlt
        have HBT := (show Hid _ from between_any U[i] 0 ((d.prods.length : Int) - 1))
        have kw : IntKind.i64.wrap ((d.prods.length : Int) - 1) = (d.prods.length : Int) - 1 := by rw [IntKind.wrap_i64]; omega
        clear hda hdcell hdc hdm' ed2 ed3 hbx hq1 hq2
        obtain ⟨X, hX⟩ : ∃ X, U[i] = X := ⟨_, rfl⟩
        rw [hX] at t0 HBT
        obtain ⟨bw, hbw⟩ : ∃ bw, wiB X 0 ((d.prods.length : Int) - 1) = bw := ⟨_, rfl⟩
        rw [hbw] at HBT
        have HBB := (show Hid (Below w.heap.size w wr) from bel_trans HB1.out HBW.out)
        cases bw
        · have HR5 := (show Hid (r = ([], 2)) from (show r = ([], 2) from HGR.out.symm.trans (dwS_none HCD.out (qst_no hlt HJ.out.1 (fun x hx => by
            rw [hX] at hx
            unfold Gd at hx
            rw [hbw, if_neg (by simp)] at hx
            cases hx)))))
          go_wp2_with fail
          go_quiet ((go_at_call 34; refine Calls.quiet_of_same (HBT.out _)))
          go_wp2_with fail
          refine bodyPost_ret (v := .tuple #[.slice (some ⟨wr.heap.size, 0, none⟩) 0 0, .int .i64 2]) (by simp [results, Try.results15, go_sem]) rfl ?_
          rw [HR5.out]
          exact YAns.nil (bel_trans HBB.out (bel_trans (below_drN wr _) (bel_alloc _ _)))
        · go_wp2_with fail
          go_quiet ((go_at_call 34; refine Calls.quiet_of_same (HBT.out _)))
          obtain ⟨k, rfl, hk⟩ : ∃ k : Nat, X = (k : Int) ∧ k < d.prods.length := by
            have := hbw
            simp only [wiB, decide_eq_true_eq] at this
            exact ⟨X.toNat, by omega, by omega⟩
          obtain ⟨a3', c3', bp, op, e3, hcp, hpc⟩ := prod_cellsY (HL1.out.still HBW.out)
          injection e3 with e31 e32 e33
          obtain ⟨e4, _, ai, ci, bi, oi, q1, hci, hri⟩ := hpc k hk
          obtain ⟨p1, p2, p12, p3, p4, p5⟩ := pd_of HOK.out hk
          subst e31
          subst e33
          subst e4
          clear hpc e32
          go_wp2_with fail
          go_quiet (fail)
          go_wp2_with fail
          have HCX := (show Hid (∀ w2, Below wr.heap.size wr w2 → (w2.cell? ⟨w.heap.size, 0, none⟩ = some (.slice a0 d.terms.length c0) ∧ w2.cell? ⟨w.heap.size, 1, none⟩ = some (.slice a1 d.nons.length c1) ∧ w2.cell? ⟨w.heap.size, 2, none⟩ = some (.int .i64 d.own) ∧ w2.cell? ⟨w.heap.size, 3, none⟩ = some (.slice (some ⟨bp, op, none⟩) d.prods.length c3)) ∧ ∀ j (hj : j < d.prods[k].right.length), ai = some ⟨bi, oi, none⟩ ∧ w2.cell? ⟨bi, oi + j, none⟩ = some (.int .i64 d.prods[k].right[j])) from fun w2 hb => ⟨⟨(hb.cell (lt_of_cell x0)).trans x0, (hb.cell (lt_of_cell x1)).trans x1, (hb.cell (lt_of_cell x2)).trans x2, (hb.cell (lt_of_cell x3)).trans x3⟩, fun j hj => ⟨(hri j hj).1, (hb.cell (lt_of_cell (hri j hj).2.2)).trans (hri j hj).2.2⟩⟩)
          have HP3 := (show Hid (∀ i (hi : i < d.prods[k].right.length), 0 ≤ d.prods[k].right[i] ∧ d.prods[k].right[i] ≤ 160) from p3)
          have HBD := (show Hid (∀ n m, Below wr.heap.size wr ((wr.drewN n).drewN m)) from fun n m => bel_trans (below_drN wr n) (below_drN _ m))
          have HCS := (show Hid _ from fun (T j : Nat) (hj : j < d.prods[k].right.length) => cn_take T d.prods[k].right j hj)
          clear x0 x1 x2 x3 q1 hri p1 p2 p3 p4 p5 HBT
          obtain ⟨R, hR⟩ : ∃ R, d.prods[k].right = R := ⟨_, rfl⟩
          rw [hR] at hci p12
          simp only [hR] at HCX HP3 HCS
          rw [hR]
          rename World => wo
          go_loopw [12, 13] (fun u12 u13 wr => ∃ j : Nat, u12 = .int .i64 (cn d.terms.length (R.take j) : Nat) ∧ u13 = .int .i64 j ∧ j ≤ R.length ∧ Hid (Below wo.heap.size wo wr)) (fun _ u13 _ => R.length - (intOf u13).toNat)
          case atStart => exact ⟨0, rfl, rfl, Nat.zero_le _, HBD.out _ _⟩
          case round =>
            obtain ⟨j, rfl, rfl, hj, HB2⟩ := hrel
            have hcl := cn_le d.terms.length (R.take j)
            have hcl2 : (R.take j).length ≤ 12 := by rw [List.length_take]; omega
            by_cases hjl : j < R.length
            · obtain ⟨⟨x0, x1, x2, x3⟩, hrc⟩ := HCX.out wr HB2.out
              obtain ⟨rfl, r0⟩ := hrc j hjl
              obtain ⟨n0, n1⟩ := HP3.out j hjl
              have HCJ := (show Hid _ from HCS.out d.terms.length j hjl)
              have HBX := (show Hid (∀ w', Below wr.heap.size wr w' → (w'.cell? ⟨w.heap.size, 0, none⟩ = some (.slice a0 d.terms.length c0) ∧ w'.cell? ⟨w.heap.size, 1, none⟩ = some (.slice a1 d.nons.length c1) ∧ w'.cell? ⟨w.heap.size, 2, none⟩ = some (.int .i64 d.own) ∧ w'.cell? ⟨w.heap.size, 3, none⟩ = some (.slice (some ⟨bp, op, none⟩) d.prods.length c3)) ∧ w'.cell? ⟨bi, oi + j, none⟩ = some (.int .i64 R[j])) from fun w' hb => ⟨(HCX.out w' (bel_trans HB2.out hb)).1, ((HCX.out w' (bel_trans HB2.out hb)).2 j hjl).2⟩)
              generalize R[j] = Y at *
              have hbd := (Below.refl wr.heap.size wr).drew
              have HNN := (show Hid (Calls Try.prog 35 #[.agg #[.slice a0 d.terms.length c0, .slice a1 d.nons.length c1, .int .i64 d.own, .slice (some ⟨bp, op, none⟩) d.prods.length c3], .int .i64 Y] wr.drew fun e w' => e = .returned (.int .i64 (Y - d.terms.length)) ∧ w' = wr.drew.alloc (.cells #[.slice a0 d.terms.length c0, .slice a1 d.nons.length c1, .int .i64 d.own, .slice (some ⟨bp, op, none⟩) d.prods.length c3] 34)) from non_s a0 d.terms.length c0 (.slice a1 d.nons.length c1) (.int .i64 d.own) (.slice (some ⟨bp, op, none⟩) d.prods.length c3) Y wr.drew n0 (by omega) (by omega))
              have hS0 := HBX.out _ hbd
              clear hrc
              go_wp2_with fail
              go_region_held3 (fun wq => (wq.cell? ⟨w.heap.size, 0, none⟩ = some (.slice a0 d.terms.length c0) ∧ wq.cell? ⟨w.heap.size, 1, none⟩ = some (.slice a1 d.nons.length c1) ∧ wq.cell? ⟨w.heap.size, 2, none⟩ = some (.int .i64 d.own) ∧ wq.cell? ⟨w.heap.size, 3, none⟩ = some (.slice (some ⟨bp, op, none⟩) d.prods.length c3)) ∧ wq.cell? ⟨bi, oi + j, none⟩ = some (.int .i64 Y)) (first | with_reducible exact hS0 | with_reducible exact hS1) ((go_at_call 35; go_loud (refine Calls.mono HNN.out ?_); go_loud (rintro e w3 ⟨rfl, hw3⟩); go_loud (have hb3 : Below wr.heap.size wr w3 := (by rw [hw3]; exact bel_trans hbd (bel_alloc _ _))); go_loud (have hS1 := HBX.out _ hb3); clear hw3))
              have HN3 := (show Hid _ from bel_trans HB2.out hb3)
              have hkw : IntKind.i64.wrap ((cn d.terms.length (R.take j) : Nat) + 1) = (cn d.terms.length (R.take j) : Nat) + 1 := by rw [IntKind.wrap_i64]; omega
              clear hS0 hS1 hb3 hbd HBX HNN x0 x1 x2 x3 r0
              by_cases hs : Y < (d.terms.length : Int)
              · have hcj : cn d.terms.length (R.take (j + 1)) = cn d.terms.length (R.take j) := by have := HCJ.out; rw [if_pos hs] at this; omega
                have hge : decide ((0 : Int) ≤ Y - (d.terms.length : Int)) = false := by simp; omega
                have HCE := (show Hid (cn d.terms.length (R.take (j + 1)) = cn d.terms.length (R.take j)) from hcj)
                clear hcj
                go_wp2_with fail
                exact ⟨⟨j + 1, by rw [HCE.out], by go_num, by omega, HN3.out⟩, by simp [intOf]; omega⟩
              · have hcj : cn d.terms.length (R.take (j + 1)) = cn d.terms.length (R.take j) + 1 := by have := HCJ.out; rw [if_neg hs] at this; omega
                have hge : decide ((0 : Int) ≤ Y - (d.terms.length : Int)) = true := by simp; omega
                have HCE := (show Hid (cn d.terms.length (R.take (j + 1)) = cn d.terms.length (R.take j) + 1) from hcj)
                clear hcj
                go_wp2_with fail
                exact ⟨⟨j + 1, by rw [HCE.out]; go_num, by go_num, by omega, HN3.out⟩, by simp [intOf]; omega⟩
            · obtain rfl : j = R.length := by omega
              rw [List.take_length]
              rw [List.take_length] at hcl
              have HGX := (show Hid (∃ x, Gd d (k : Int) = some x ∧ x.2.length = cn d.terms.length R) from Gd_at hk hbw hR)
              have HBO := (show Hid (Below w.heap.size w wr) from bel_trans HBB.out HB2.out)
              have t1 := (HB2.out.cell (lt_of_cell t0)).trans t0
              obtain ⟨sv, hqc, hqm, hqcell, hqr⟩ := ORows.cells (ORows.still HJ.out.2.2 HB2.out)
              have HQC := (show Hid (∀ i, i < Q.length → wr.cell? ⟨pb, po + i, none⟩ = some (sv i)) from hqcell)
              have HQR := (show Hid (∀ i (hi : i < Q.length), ∃ c, OwnI wr c Q[i] (sv i) ∧ w.heap.size ≤ c) from hqr)
              have HPI := (show Hid ((∀ l ∈ Q, 0 < l.length) ∧ Q.flatten.length = i) from ⟨(parts_inv hi HJ.out.1).1, (parts_inv hi HJ.out.1).2.1⟩)
              obtain ⟨N, hN⟩ : ∃ N, cn d.terms.length R = N := ⟨_, rfl⟩
              rw [hN] at HGX hcl ⊢
              clear hqcell hqr HCX HP3 HBD HCS hN hci
              by_cases hnq : Q.length < N
              · have HR5 := (show Hid (r = ([], 2)) from (show r = ([], 2) from HGR.out.symm.trans (dwS_none HCD.out (qst_no hlt HJ.out.1 (fun x hx => by
                  rw [hX] at hx
                  obtain ⟨y, hy, hl⟩ := HGX.out
                  rw [hy] at hx
                  injection hx with hx
                  rw [← hx, hl]
                  exact hnq)))))
                go_wp2_with fail
                refine bodyPost_ret (v := .tuple #[.slice (some ⟨wr.heap.size, 0, none⟩) 0 0, .int .i64 2]) (by simp [results, Try.results15, go_sem]) rfl ?_
                rw [HR5.out]
                exact YAns.nil (bel_trans HBO.out (bel_alloc _ _))
              · obtain ⟨m, hm⟩ : ∃ m, Q.length - N = m := ⟨_, rfl⟩
                have hmw : IntKind.i64.wrap ((Q.length : Int) - (N : Int)) = (m : Int) := by rw [IntKind.wrap_i64]; omega
                have HMQ := (show Hid (Q.length = m + N) from (show _ = _ by omega))
                obtain ⟨i3, hi3, hzz⟩ := Option.map_eq_some_iff.1 info3y
                simp only [Prod.mk.injEq] at hzz
                obtain ⟨hz0, hz1, hz2⟩ := hzz
                obtain ⟨i27, hi27, hyy⟩ := Option.map_eq_some_iff.1 info27z
                simp only [Prod.mk.injEq] at hyy
                obtain ⟨hy0, hy1, hy2⟩ := hyy
                have HO0 : Hid ((wr.alloc (.cells #[.int .i64 (k : Int)] 3)).ownsRow wr.heap.size 3 1 (.slice (some ⟨wr.heap.size, 0, none⟩) 1 1) 1 (iv [(k : Int)])) := World.ownsRow_lit (base := wr.heap.size) (e := 3) (size := 1) wr #[.int .i64 (k : Int)] 1 (Nat.le_refl _) (by unfold maxLen; omega) rfl
                go_wp2_with fail
                rename World => wq
                go_loopw [14, 15] (fun u14 u15 wr => ∃ j g c L : Nat, u14 = .slice (some ⟨g, 0, none⟩) L c ∧ u15 = .int .i64 (m + j : Nat) ∧ j ≤ N ∧ L ≤ 4001 ∧ Hid (L = ((k : Int) :: ((Q.drop m).take j).flatten).length ∧ Below wq.heap.size wq wr ∧ wr.ownsRow wq.heap.size 3 1 (.slice (some ⟨g, 0, none⟩) L c) L (iv ((k : Int) :: ((Q.drop m).take j).flatten)))) (fun _ u15 _ => m + N - (intOf u15).toNat)
                case atStart => exact ⟨0, wq.heap.size, 1, 1, rfl, rfl, Nat.zero_le _, by omega, rfl, bel_alloc _ _, HO0.out⟩
                case round =>
                  obtain ⟨j, g, c, L, rfl, rfl, hj, hL, HK⟩ := hrel
                  by_cases hjn : j < N
                  · have hmj : m + j < Q.length := by have := HMQ.out; omega
                    have y0 := (HK.out.2.1.cell (lt_of_cell (HQC.out _ hmj))).trans (HQC.out _ hmj)
                    obtain ⟨gc, hox, _⟩ := HQR.out (m + j) hmj
                    have hox2 := hox.still HK.out.2.1
                    have hpos := HPI.out.1 _ (List.getElem_mem hmj)
                    obtain ⟨xa, xc, hxv, hxl, hxm, hxa⟩ := hox2.addr
                    obtain rfl := hxa hpos
                    rw [hxv] at y0
                    have HFT := (show Hid (((Q.drop m).take (j + 1)).flatten = ((Q.drop m).take j).flatten ++ Q[m + j]) from fl_take hmj)
                    have hle := fl_le (Q := Q) (m := m) (j := j + 1)
                    rw [HFT.out, List.length_append, HPI.out.2] at hle
                    have HNW : Hid (∀ z u, (iv Q[m + j])[z]? = some u → wr.cell? ((⟨gc, 0, none⟩ : Addr).add z) = some u) := fun z u hu => by
                      have hz : z < Q[m + j].length := by
                        have := (List.getElem?_eq_some_iff.1 hu).1
                        simpa using this
                      rw [addX, Nat.zero_add]
                      simp [hz] at hu
                      rw [← hu]
                      exact hox2.cell hz
                    have HON : Hid (∀ u ∈ iv Q[m + j], u.oneCell' = true) := fun u hu => by
                      obtain ⟨x, _, rfl⟩ := List.mem_map.1 hu
                      rfl
                    obtain ⟨PX, hPX⟩ : ∃ PX, Q[m + j] = PX := ⟨_, rfl⟩
                    rw [hPX] at HFT HNW HON hle hpos y0
                    obtain ⟨M, hM⟩ : ∃ M, PX.length = M := ⟨_, rfl⟩
                    have HPM := (show Hid (PX.length = M) from hM)
                    rw [hM] at hle hpos y0
                    have hLe := HK.out.1
                    rw [List.length_cons] at hLe
                    have hLM : L + M ≤ 4001 := by omega
                    have HKB := (show Hid (Below wq.heap.size wq wr) from HK.out.2.1)
                    have hsz := HKB.out.size
                    clear hox hox2 hxv hxl hxm hxa hPX hM hle hLe
                    go_wp2_with (at_builtin; refine wpList_append_lies _ rfl (.tmp 87) (.tmp 91) 27 rfl wq.heap.size 3 i3 _ 1 8 Try.underlying27 hi3 hz0 hz1 hz2 rfl (by decide) (.slice (some ⟨g, 0, none⟩) L c) L _ rfl HK.out.2.2 ⟨gc, 0, none⟩ M xc (iv PX) rfl (by simp [HPM.out]) HNW.out HON.out hpos (by unfold maxLen; omega) (by omega) hsz _ rfl ?_; intro g8 cap8 w8 hown8 hgr8 hat8 hlt8)
                    have HF := (show Hid (Below wq.heap.size wq w8 ∧ w8.ownsRow wq.heap.size 3 1 (.slice (some ⟨g8, 0, none⟩) (L + M) cap8) (L + M) (iv ((k : Int) :: ((Q.drop m).take (j + 1)).flatten)) ∧ L + M = ((k : Int) :: ((Q.drop m).take (j + 1)).flatten).length) from by
                      have ho := HK.out.2.2
                      refine ⟨grown_belX HKB.out hgr8 (fun b hb => ?_), ?_, ?_⟩
                      · have hb' : g = b := by simpa [Value.ownBlock] using hb
                        rw [← hb']
                        rcases ho.2 with ⟨e, _⟩ | ⟨g', cp', cur, e, hB, _⟩
                        · cases e
                        · injection e with e1
                          injection e1 with e1
                          injection e1 with e1
                          omega
                      · rw [HFT.out]
                        simpa [iv] using hown8
                      · rw [HFT.out, List.length_cons, List.length_append, HPM.out, HK.out.1, List.length_cons]
                        omega)
                    clear hown8 hgr8 hat8 hlt8
                    go_wp2_with fail
                    exact ⟨⟨j + 1, g8, cap8, L + M, rfl, by go_num, by omega, hLM, HF.out.2.2, HF.out.1, HF.out.2.1⟩, by simp [intOf]; omega⟩
                  · obtain rfl : j = N := by omega
                    have hnm : ¬ m + j < Q.length := by have := HMQ.out; omega
                    have HL0 := (show Hid (L = ((k : Int) :: ((Q.drop m).take j).flatten).length) from HK.out.1)
                    have HKB := (show Hid (Below wq.heap.size wq wr) from HK.out.2.1)
                    have HRW := (show Hid (wr.ownsRow wq.heap.size 3 1 (.slice (some ⟨g, 0, none⟩) L c) L (iv ((k : Int) :: ((Q.drop m).take j).flatten))) from HK.out.2.2)
                    have hmle : m ≤ Q.length := by have := HMQ.out; omega
                    have hQ4 : Q.length ≤ 4000 := by omega
                    have hba := bel_alloc wr (.cells #[] 27)
                    have HO2 : Hid ((wr.alloc (.cells #[] 27)).ownsRow wr.heap.size 27 1 (.slice (some ⟨wr.heap.size, 0, none⟩) 0 0) 0 []) := World.ownsRow_lit (base := wr.heap.size) (e := 27) (size := 1) wr #[] 0 (Nat.le_refl _) (Nat.zero_le _) rfl
                    have HNW2 : Hid (∀ z u, ((List.range m).map sv)[z]? = some u → (wr.alloc (.cells #[] 27)).cell? ((⟨pb, po, none⟩ : Addr).add z) = some u) := fun z u hu => by
                      have hz : z < m := by
                        have := (List.getElem?_eq_some_iff.1 hu).1
                        simpa using this
                      rw [addX]
                      simp [hz] at hu
                      rw [← hu]
                      have q0 := HQC.out z (by omega)
                      exact ((bel_trans HKB.out hba).cell (lt_of_cell q0)).trans q0
                    have HON2 : Hid (∀ u ∈ (List.range m).map sv, u.oneCell' = true) := fun u hu => by
                      obtain ⟨x, hx, rfl⟩ := List.mem_map.1 hu
                      have hx' : x < m := by simpa using hx
                      obtain ⟨c', h1, _⟩ := HQR.out x (by omega)
                      obtain ⟨a', c'', e, _⟩ := h1.addr
                      rw [e]
                      rfl
                    have HBA := (show Hid (Below wr.heap.size wr (wr.alloc (.cells #[] 27))) from hba)
                    clear HK hba
                    go_wp2_with (at_builtin; refine wpList_append_own_at _ rfl (.tmp 93) (.tmp 99) 63 rfl wr.heap.size 27 i27 _ 1 24 Try.underlying63 hi27 hy0 hy1 hy2 rfl (by decide) (.slice (some ⟨wr.heap.size, 0, none⟩) 0 0) 0 [] rfl HO2.out ⟨pb, po, none⟩ m pc ((List.range m).map sv) rfl (by simp) HNW2.out HON2.out ?c3 (by omega) ?c4 ?nx)
                    case c3 => unfold maxLen; omega
                    case c4 => simp
                    case nx =>
                      intro v8 w8 hown8 hgr8 hnil8 hat8
                      obtain ⟨g8, c8, rfl⟩ : ∃ g8 c8, v8 = .slice (some ⟨g8, 0, none⟩) m c8 := by
                        rcases hown8.2 with ⟨e, _⟩ | ⟨g', cp', cur, e, _⟩
                        · exact absurd e (by simpa using hnil8)
                        · exact ⟨g', cp', e⟩
                      have HB8 := (show Hid (Below wr.heap.size wr w8) from grown_belX HBA.out hgr8 (fun b hb => by
                        have hb' : wr.heap.size = b := by simpa [Value.ownBlock] using hb
                        omega))
                      have hb9 := bel_alloc w8 (.cells #[.slice (some ⟨g, 0, none⟩) L c] 27)
                      have HO9 := (show Hid ((w8.alloc (.cells #[.slice (some ⟨g, 0, none⟩) L c] 27)).ownsRow wr.heap.size 27 1 (.slice (some ⟨g8, 0, none⟩) m c8) m ((List.range m).map sv)) from own_keep1 hown8 (fun q hq => hb9.block q (World.ownsRow.lt hown8 q hq).2))
                      have HB9 := (show Hid (Below wr.heap.size wr (w8.alloc (.cells #[.slice (some ⟨g, 0, none⟩) L c] 27))) from bel_trans HB8.out hb9)
                      have HNB := (show Hid _ from World.news_of_block (blk_alloc_new w8 (.cells #[.slice (some ⟨g, 0, none⟩) L c] 27)))
                      have hs9 := HB9.out.size
                      have hg8 := (World.ownsRow.lt hown8 g8 rfl).1
                      clear hown8 hgr8 hnil8 hat8 hb9
                      go_wp2_with (at_builtin; refine wpList_append_lies _ rfl (.tmp 100) (.tmp 102) 63 rfl wr.heap.size 27 i27 _ 1 24 Try.underlying63 hi27 hy0 hy1 hy2 rfl (by decide) (.slice (some ⟨g8, 0, none⟩) m c8) m _ rfl HO9.out ⟨w8.heap.size, 0, none⟩ 1 1 [.slice (some ⟨g, 0, none⟩) L c] rfl rfl HNB.out (by intro u hu; simp at hu; subst hu; rfl) (by decide) (by unfold maxLen; omega) (by omega) hs9 _ rfl ?_; intro g10 cap10 w10 hown10 hgr10 hat10 hlt10)
                      have HF := (show Hid (prn (Gd d) (U.take (i + 1)) [] = some (qst Q j (k : Int)).reverse ∧ Below w1.heap.size w1 w10 ∧ ORows w10 w.heap.size (qst Q j (k : Int)) (.slice (some ⟨g10, 0, none⟩) (qst Q j (k : Int)).length cap10) ∧ (qst Q j (k : Int)).length = m + 1) from by
                        have hb10 : Below wr.heap.size wr w10 := grown_belX HB9.out hgr10 (fun b hb => by
                          have hb' : g8 = b := by simpa [Value.ownBlock] using hb
                          omega)
                        have hbq : Below wq.heap.size wq w10 := bel_trans HKB.out hb10
                        obtain ⟨x, hx1, hx2⟩ := HGX.out
                        have hmm : Q.length - j = m := by have := HMQ.out; omega
                        have hdl : (Q.drop m).take j = Q.drop m := List.take_of_length_le (by rw [List.length_drop]; have := HMQ.out; omega)
                        have hrow := HRW.out
                        rw [HL0.out, hdl] at hrow
                        obtain ⟨gd, hgd, hgk⟩ := own_ints hrow
                        have hLL := HL0.out
                        rw [hdl] at hLL
                        rw [← hLL] at hgd hgk
                        have hwq := HBO.out.size
                        have hgk2 := (hgk (by rw [hLL, List.length_cons]; omega)).1
                        refine ⟨?_, bel_trans (bel_trans HBW.out HB2.out) hbq, ?_, ?_⟩
                        · have h1 := qst_yes hlt HJ.out.1 (by rw [hX]; exact hx1) (by rw [hx2]; have := HMQ.out; omega)
                          rw [hx2, hX] at h1
                          exact h1
                        · refine ORows.qst (gd := gd) (fun z hz => ?_) (by rw [hmm]; exact hgd.still hb10) (by omega) (by rw [hmm]; exact hown10)
                          obtain ⟨c', h1, h2⟩ := HQR.out z hz
                          exact ⟨c', h1.still hbq, h2⟩
                        · unfold qst
                          rw [List.length_append, List.length_take, hmm, Nat.min_eq_left hmle]
                          rfl)
                      clear hown10 hgr10 hat10 hlt10
                      go_wp2_with fail
                      exact ⟨⟨i + 1, g10, 0, cap10, qst Q j (k : Int), by rw [HF.out.2.2.2], by go_num, by omega, HF.out.1, HF.out.2.1, HF.out.2.2.1⟩, by simp [intOf]; omega⟩
      · obtain rfl : i = U.length := by omega
        have hpr := HJ.out.1
        rw [List.take_length] at hpr
        have HPR := (show Hid (prn (Gd d) U [] = some Q.reverse) from hpr)
        have HBB := (show Hid (Below w.heap.size w wr) from bel_trans HB1.out HBW.out)
        clear hpr hq1 hq2 hbx
        by_cases hq : Q.length = 1
        · obtain ⟨l, rfl⟩ : ∃ l, Q = [l] := by
            match Q, hq with
            | [l], _ => exact ⟨l, rfl⟩
          obtain ⟨sv, _, _, hqcell, hqr⟩ := ORows.cells HJ.out.2.2
          have p0 := hqcell 0 (by simp)
          obtain ⟨c0b, hol, hcb⟩ := hqr 0 (by simp)
          rw [List.getElem_cons_zero] at hol
          obtain ⟨la, lc, hlv, _⟩ := hol.form
          rw [hlv] at p0 hol
          rw [Nat.add_zero] at p0
          have hwz := HBB.out.size
          have HUP := (show Hid (∀ w', Below wr.heap.size wr w' → Calls Try.prog 6 #[.agg #[.slice a0 d.terms.length c0, .slice a1 d.nons.length c1, .int .i64 d.own, .slice a3 d.prods.length c3], .int .i64 non, .slice la l.length lc] w' fun e w'' => YAns (upR d non l) w' e w'') from fun w' hb => sUp (S := fun c => c < w'.heap.size) d l _ _ _ _ non w' (((HL1.out.still HBW.out).still hb).monoX (fun c hc => by have := HSS.out c hc; have := hb.size; omega)) ((hol.ints.top.mono (fun c hc => hc.2)).still hb |>.mono (fun c hc => by have := hb.size; have hc' : c < wr.heap.size := hc; omega)) (fun c hc => hc))
          have HOL := (show Hid (OwnI wr c0b l (.slice la l.length lc) ∧ w.heap.size ≤ c0b) from ⟨hol, hcb⟩)
          have HCX := (show Hid (∀ w', Below wr.heap.size wr w' → (w'.cell? ⟨w.heap.size, 0, none⟩ = some (.slice a0 d.terms.length c0) ∧ w'.cell? ⟨w.heap.size, 1, none⟩ = some (.slice a1 d.nons.length c1) ∧ w'.cell? ⟨w.heap.size, 2, none⟩ = some (.int .i64 d.own) ∧ w'.cell? ⟨w.heap.size, 3, none⟩ = some (.slice a3 d.prods.length c3)) ∧ w'.cell? ⟨pb, po, none⟩ = some (.slice la l.length lc)) from fun w' hb => ⟨⟨(hb.cell (lt_of_cell x0)).trans x0, (hb.cell (lt_of_cell x1)).trans x1, (hb.cell (lt_of_cell x2)).trans x2, (hb.cell (lt_of_cell x3)).trans x3⟩, (hb.cell (lt_of_cell p0)).trans p0⟩)
          have HD2 := (show Hid (Ints wr S U (.slice ad U.length cd)) from Ints.still HD1.out HBW.out)
          have HW := (show Hid (r = if upR d non l = (U, 0) then (l, 0) else ([], 2)) from (show r = _ from HGR.out.symm.trans (dwS_one HCD.out (by rw [HPR.out]; rfl))))
          have hbd := (Below.refl wr.heap.size wr).drew
          have hS0 := HCX.out _ hbd
          have HU2 := (show Hid (Calls Try.prog 6 #[.agg #[.slice a0 d.terms.length c0, .slice a1 d.nons.length c1, .int .i64 d.own, .slice a3 d.prods.length c3], .int .i64 non, .slice la l.length lc] wr.drew fun e w'' => YAns (upR d non l) wr.drew e w'') from HUP.out _ hbd)
          clear hqcell hqr hol hcb hlv hq HUP
          rw [show ([l] : List (List Int)).length = 1 from rfl]
          generalize upR d non l = UR at *
          go_wp2_with fail
          go_region_held3 (fun wq => (wq.cell? ⟨w.heap.size, 0, none⟩ = some (.slice a0 d.terms.length c0) ∧ wq.cell? ⟨w.heap.size, 1, none⟩ = some (.slice a1 d.nons.length c1) ∧ wq.cell? ⟨w.heap.size, 2, none⟩ = some (.int .i64 d.own) ∧ wq.cell? ⟨w.heap.size, 3, none⟩ = some (.slice a3 d.prods.length c3)) ∧ wq.cell? ⟨pb, po, none⟩ = some (.slice la l.length lc)) (first | with_reducible exact hS0 | with_reducible exact hS1) ((go_at_call 6; refine Calls.mono HU2.out ?_; rintro e w3 ⟨uv, ub, rfl, hb3, hou, hku⟩; have hB3 := bel_trans hbd hb3; have hS1 := HCX.out _ hB3; have HOU := (show Hid (OwnI w3 ub UR.1 uv) from hou); clear hou hku))
          have HB3 := (show Hid (Below wr.heap.size wr w3) from hB3)
          obtain ⟨⟨p1, p2, p3, p4⟩, p5⟩ := hS1
          clear hS0 hB3 hb3 hbd HU2 x0 x1 x2 x3 p0
          by_cases hc : UR.2 = 0
          · have HW2 := (show Hid (r = if UR.1 = U then (l, 0) else ([], 2)) from (show r = _ from HW.out.trans (by
              by_cases h : UR.1 = U
              · rw [if_pos h, if_pos (by rw [← h, ← hc])]
              · rw [if_neg h, if_neg (fun e => h (by rw [e]))])))
            rw [hc]
            have HSM := (show Hid (Calls Try.prog 36 #[uv, .slice ad U.length cd] w3 fun e w' => e = .returned (.bool (decide (UR.1 = U))) ∧ Below w3.heap.size w3 w') from same36 UR.1 U uv _ w3 (OwnI.ints HOU.out) (Ints.still HD2.out HB3.out))
            clear hc HW
            by_cases he : UR.1 = U
            · have HR5 := (show Hid (r = (l, 0)) from (show r = _ from HW2.out.trans (if_pos he)))
              rw [decide_eq_true he] at HSM
              clear he HW2
              generalize UR.1 = UP at *
              go_wp2_with fail
              refine Calls.mono HSM.out ?_
              rintro e w4 ⟨rfl, hB4⟩
              have p6 := (hB4.cell (lt_of_cell p5)).trans p5
              have HE := (show Hid (Below w.heap.size w w4 ∧ OwnI w4 c0b l (.slice la l.length lc)) from ⟨bel_trans HBB.out (bel_trans HB3.out hB4), HOL.out.1.still (bel_trans HB3.out hB4)⟩)
              clear hB4
              go_wp2_with fail
              refine bodyPost_ret (v := .tuple #[.slice la l.length lc, .int .i64 0]) (by simp [results, Try.results15, go_sem]) rfl ?_
              rw [HR5.out]
              exact ⟨_, c0b, rfl, HE.out.1, HE.out.2, fun _ => HOL.out.2⟩
            · have HR5 := (show Hid (r = ([], 2)) from (show r = _ from HW2.out.trans (if_neg he)))
              rw [decide_eq_false he] at HSM
              clear he HW2
              generalize UR.1 = UP at *
              go_wp2_with fail
              refine Calls.mono HSM.out ?_
              rintro e w4 ⟨rfl, hB4⟩
              have HE := (show Hid (Below w.heap.size w w4) from bel_trans HBB.out (bel_trans HB3.out hB4))
              clear hB4
              go_wp2_with fail
              refine bodyPost_ret (v := .tuple #[.slice (some ⟨w4.heap.size, 0, none⟩) 0 0, .int .i64 2]) (by simp [results, Try.results15, go_sem]) rfl ?_
              rw [HR5.out]
              exact YAns.nil (bel_trans HE.out (bel_alloc _ _))
          · have HR5 := (show Hid (r = ([], 2)) from (show r = _ from HW.out.trans (if_neg (fun e => hc (by rw [e])))))
            have hne : (UR.2 != 0) = true := by simp [hc]
            clear hc HW
            generalize UR.2 = UC at *
            have HE := (show Hid (Below w.heap.size w w3) from bel_trans HBB.out HB3.out)
            go_wp2_with fail
            refine bodyPost_ret (v := .tuple #[.slice (some ⟨w3.heap.size, 0, none⟩) 0 0, .int .i64 2]) (by simp [results, Try.results15, go_sem]) rfl ?_
            rw [HR5.out]
            exact YAns.nil (bel_trans HE.out (bel_alloc _ _))
        · have HR5 := (show Hid (r = ([], 2)) from (show r = ([], 2) from HGR.out.symm.trans (dwS_many HCD.out HPR.out hq)))
          have hne : ((Q.length : Int) != 1) = true := by simp; omega
          clear hq
          go_wp2_with fail
          refine bodyPost_ret (v := .tuple #[.slice (some ⟨wr.heap.size, 0, none⟩) 0 0, .int .i64 2]) (by simp [results, Try.results15, go_sem]) rfl ?_
          rw [HR5.out]
          exact YAns.nil (bel_trans HBB.out (bel_alloc _ _))
  · have HR5 := (show Hid _ from HGR.out.symm.trans (dwS_cd hcd))
    have i0 : (cdR d non U.length != 0) = true := by simp [hcd]
    have HB2 := (show Hid _ from bel_trans HB1.out (bel_alloc w1 (.cells #[] 3)))
    clear HGR
    generalize cdR d non U.length = C at *
    go_wp2_with fail
    refine bodyPost_ret (v := .tuple #[.slice (some ⟨w1.heap.size, 0, none⟩) 0 0, .int .i64 C]) (by simp [results, Try.results15, go_sem]) rfl ?_
    rw [HR5.out]
    exact YAns.nil HB2.out
end Go.Proofs.Ytaimlmjgicmbeaa
