import Derived.Test.YtjpjjfgdgieapaaDoorSe
import Derived.BigQuiet
import Derived.Test.YtjpjjfgdgieapaaDoorTo
import Derived.Test.YtjpjjfgdgieapaaDoorBok
/-! The program: the Least of symbols, and a shorter one. -/
namespace Go.Proofs.YtjpjjfgdgieapaaDoor
open Go.RowKit Go.Deep
set_option linter.unusedVariables false
set_option maxRecDepth 100000
set_option linter.unusedSimpArgs false

/-- All blocks but one are as they were. -/
structure Bt (g : Nat) (w w' : World) : Prop where
  os : w'.os = w.os
  tape : w'.tape = w.tape
  output : w'.output = w.output
  size : w.heap.size ≤ w'.heap.size
  block : ∀ k, k < w.heap.size → k ≠ g → w'.heap[k]? = w.heap[k]?
theorem Bt.refl (g : Nat) (w : World) : Bt g w w := ⟨rfl, rfl, rfl, Nat.le_refl _, fun _ _ _ => rfl⟩
theorem Bt.trans {g : Nat} {a b c : World} (h : Bt g a b) (k : Bt g b c) : Bt g a c :=
  ⟨k.os.trans h.os, k.tape.trans h.tape, k.output.trans h.output, Nat.le_trans h.size k.size, fun q hq hr => (k.block q (Nat.lt_of_lt_of_le hq h.size) hr).trans (h.block q hq hr)⟩
theorem Bt.of_below {g : Nat} {a b : World} (h : Below a.heap.size a b) : Bt g a b := ⟨h.os, h.tape, h.output, h.size, fun k hk _ => h.block k hk⟩
theorem Bt.set {g o : Nat} (w : World) (u : Value) : Bt g w (w.setCell ⟨g, o, none⟩ u) := ⟨rfl, rfl, rfl, by simp [World.setCell], fun k _ hr => blk_setCell_other _ _ _ _ (by exact hr)⟩
theorem Bt.below {g : Nat} {a b : World} {B : Nat} (h : Bt g a b) (hg : B ≤ g) (hB : B ≤ a.heap.size) : Below B a b := ⟨h.os, h.tape, h.output, h.size, fun k hk => h.block k (by omega) (by omega)⟩
theorem Bt.drew {g : Nat} {a b : World} (h : Bt g a b) : Bt g a b.drew := ⟨h.os, h.tape, h.output, h.size, h.block⟩

/-- Plain rules under study: their cells, and the Least of each symbol in a row of its own. -/
structure St (w : World) (g b : Nat) (v0 v1 vo v3 : Value) (L : List Int) : Prop where
  box : Box w g 97 [v0, v1, vo, v3, .slice (some ⟨b, 0, none⟩) L.length L.length]
  row : IRow w b L
  ne : g ≠ b
theorem St.still {w w' : World} {g b : Nat} {v0 v1 vo v3 : Value} {L : List Int} (h : St w g b v0 v1 vo v3 L) (hb : Below w.heap.size w w') : St w' g b v0 v1 vo v3 L :=
  ⟨h.box.still hb, World.rowIs.of_block h.row (hb.block b (World.rowIs.lt h.row)), h.ne⟩
theorem St.cell {w : World} {g b : Nat} {v0 v1 vo v3 : Value} {L : List Int} (h : St w g b v0 v1 vo v3 L) (x : Nat) (hx : x < L.length) : w.cell? ⟨b, x, none⟩ = some (.int .i64 L[x]) := by
  have := World.rowIs.cell h.row hx
  simpa [List.getD_eq_getElem?_getD, hx] using this
theorem St.set {w : World} {g b : Nat} {v0 v1 vo v3 : Value} {L : List Int} (h : St w g b v0 v1 vo v3 L) (x : Nat) (hx : x < L.length) (u : Int) : St (w.setCell ⟨b, x, none⟩ (.int .i64 u)) g b v0 v1 vo v3 (L.set x u) := by
  refine ⟨?_, ?_, h.ne⟩
  · rw [List.length_set]
    exact h.box.keep (blk_setCell_other _ _ _ _ (by exact h.ne))
  · obtain ⟨c, h1, h2, h3⟩ := World.rowIs.set h.row x (.int .i64 u)
    refine ⟨c, h1, by simpa using h2, fun j hj => ?_⟩
    rw [List.length_set] at hj
    rw [h3 j hj]
    by_cases e : j = x
    · subst e; simp [List.getD_eq_getElem?_getD, hx]
    · have e2 : (L.set x u)[j]? = L[j]? := List.getElem?_set_ne (fun h : x = j => e h.symm)
      simp [List.getD_eq_getElem?_getD, e, e2]
/-- The Least of a symbol. -/
def Lf (L : List Int) : Nat → Int := fun x => L.getD x (-1)
theorem Lf_lt {L : List Int} {x : Nat} (h : x < L.length) : Lf L x = L[x] := by simp [Lf, List.getD_eq_getElem?_getD, h]
theorem Lf_set {L : List Int} {x : Nat} (h : x < L.length) (u : Int) : Lf (L.set x u) = upd (Lf L) x u := by
  funext y
  unfold Lf upd
  by_cases e : y = x
  · subst e; simp [List.getD_eq_getElem?_getD, h]
  · have e2 : (L.set x u)[y]? = L[y]? := List.getElem?_set_ne (fun h : x = y => e h.symm)
    simp [List.getD_eq_getElem?_getD, e, e2]
def nats (r : List Int) : List Nat := r.map Int.toNat
theorem nats_drop (r : List Int) (j : Nat) (h : j < r.length) : (nats r).drop j = r[j].toNat :: (nats r).drop (j + 1) := by
  have h' : j < (nats r).length := by simpa [nats] using h
  rw [List.drop_eq_getElem_cons h']
  simp [nats]
theorem lsum_none {L : Nat → Int} {x : Nat} {r : List Nat} (h : L x = -1) : lsum L (x :: r) = none := by rw [lsum, if_pos h]
theorem lsum_some {L : Nat → Int} {x : Nat} {r : List Nat} (h : ¬ L x = -1) : lsum L (x :: r) = (lsum L r).map (L x + ·) := by rw [lsum, if_neg h]

set_option maxHeartbeats 1600000 in
theorem leastOf_any {S : Nat → Prop} (w : World) (g b : Nat) (v0 v1 vo v3 : Value) (L r : List Int) (v : Value) (h : St w g b v0 v1 vo v3 L) (hr : Ints w S r v) (hin : ∀ i (hi : i < r.length), 0 ≤ r[i] ∧ r[i] < L.length) (hlo : ∀ x, -1 ≤ Lf L x) (hto : ∀ x, Lf L x ≤ 1000) (hlen : r.length ≤ 1048576) (hLl : L.length ≤ 1048576) :
    Calls Tryd.prog 85 #[.pointer (some ⟨g, 0, none⟩), v] w fun e w' => e = .returned (.int .i64 (lof (Lf L) (nats r))) ∧ w' = w := by
  obtain ⟨a, cap, bb, off, rfl, hc, hm, ha, hcell⟩ := hr
  have HC := (show Hid _ from hcell); clear hcell
  have HA := (show Hid _ from ha); clear ha
  have HI := (show Hid _ from hin); clear hin
  have HLO := (show Hid _ from hlo); clear hlo
  have HTO := (show Hid _ from hto); clear hto
  have HS := (show Hid _ from h)
  have T4 : w.cell? ⟨g, 4, none⟩ = some (.slice (some ⟨b, 0, none⟩) L.length L.length) := h.box.cell 4 (by simp)
  clear h
  unfold maxLen at hm
  generalize hR : lof (Lf L) (nats r) = R
  have HR := (show Hid _ from hR); clear hR
  go_enter Tryd.func85, Tryd.ntmps85
  go_wp2_with fail
  go_loopw [5, 10] (fun u i wr => ∃ (s j : Nat), u = .int .i64 s ∧ i = .int .i64 j ∧ j ≤ r.length ∧ s ≤ 1000 * j ∧ wr = w ∧ Hid (lsum (Lf L) (nats r) = (lsum (Lf L) ((nats r).drop j)).map ((s : Int) + ·))) (fun _ i _ => r.length - (intOf i).toNat)
  case atStart =>
    refine ⟨0, 0, rfl, rfl, Nat.zero_le _, Nat.zero_le _, rfl, ?_⟩
    show lsum (Lf L) (nats r) = _
    rw [List.drop_zero]
    cases lsum (Lf L) (nats r) with
    | none => rfl
    | some t => simp
  case round =>
    obtain ⟨s, j, rfl, rfl, hj, hs, rfl, HJ⟩ := hrel
    by_cases hlt : j < r.length
    · have hlt' := hlt
      obtain ⟨rfl, _⟩ := HA.out (by omega)
      have c0 := HC.out j hlt'
      obtain ⟨i1, i2⟩ := HI.out j hlt'
      have hJ := HJ.out
      rw [nats_drop r j hlt'] at hJ
      obtain ⟨x, hx⟩ : ∃ x : Nat, r[j] = x := ⟨r[j].toNat, by omega⟩
      rw [hx] at i1 i2 c0 hJ
      rw [Int.toNat_natCast] at hJ
      have hxl : x < L.length := by omega
      have d0 := HS.out.cell x hxl
      have hlx := HLO.out x
      have htx := HTO.out x
      have hlf := Lf_lt hxl
      rw [hlf] at hlx htx
      by_cases e : L[x] = -1
      · have HN : Hid (R = -1) := by
          show R = -1
          rw [← HR.out]
          unfold lof
          rw [hJ, lsum_none (by rw [hlf]; exact e)]
          rfl
        rw [e] at d0
        clear hJ hlf hlx htx HJ e
        go_wp2_with fail
        go_ret
        exact ⟨by rw [HN.out]; rfl, rfl⟩
      · rw [lsum_some (by rw [hlf]; exact e), hlf] at hJ
        obtain ⟨q, hq⟩ : ∃ q : Nat, L[x] = q := ⟨L[x].toNat, by omega⟩
        rw [hq] at d0 hJ hlx htx
        have HN : Hid (lsum (Lf L) (nats r) = (lsum (Lf L) ((nats r).drop (j + 1))).map (((s + q : Nat) : Int) + ·)) := by
          show lsum (Lf L) (nats r) = _
          rw [hJ]
          cases lsum (Lf L) ((nats r).drop (j + 1)) with
          | none => rfl
          | some t => simp [Int.add_assoc]
        have hq0 : ((q : Int) == -1) = false := by simp
        clear hJ hlf HJ e hq
        go_wp2_with fail
        exact ⟨⟨s + q, j + 1, by go_num, by go_num, by omega, by omega, by trivial, HN⟩, by simp [intOf]; omega⟩
    · have HN : Hid (R = min (s : Int) 1000) := by
        show R = _
        rw [← HR.out]
        unfold lof
        rw [HJ.out, List.drop_eq_nil_of_le (by simp [nats]; omega)]
        simp [lsum]
      go_wp2_with fail
      all_goals go_ret
      all_goals refine ⟨?_, rfl⟩
      all_goals rw [HN.out]
      all_goals show Ending.returned (Value.int .i64 _) = Ending.returned (Value.int .i64 _)
      all_goals congr 2
      all_goals omega
end Go.Proofs.YtjpjjfgdgieapaaDoor

/-! The program: isShorter, isTerm. -/
namespace Go.Proofs.YtjpjjfgdgieapaaDoor
open Go.RowKit Go.Deep
set_option linter.unusedVariables false
set_option maxRecDepth 100000
set_option linter.unusedSimpArgs false

/-- A Prod in numbers. -/
def pN (p : Pd) : Nat × List Nat := (p.left.toNat, nats p.right)
theorem lnew_bad {L : Nat → Int} {p : Nat × List Nat} (h : lof L p.2 = -1) : lnew L p = false := by unfold lnew; rw [h]; simp
theorem lnew_old {L : Nat → Int} {p : Nat × List Nat} (h : ¬ lof L p.2 = -1) (h1 : ¬ L p.1 = -1) (h2 : L p.1 ≤ lof L p.2) : lnew L p = false := by unfold lnew; simp [h, h1, h2]
theorem lnew_yes {L : Nat → Int} {p : Nat × List Nat} (h : ¬ lof L p.2 = -1) (h1 : L p.1 = -1 ∨ ¬ L p.1 ≤ lof L p.2) : lnew L p = true := by
  unfold lnew
  rcases h1 with h1 | h1
  · simp [h, h1]
  · have : ¬ L p.1 = -1 ∨ True := .inr trivial
    simp only [Bool.not_eq_true', Bool.or_eq_false_iff, beq_eq_false_iff_ne, ne_eq, h, not_false_eq_true, true_and, Bool.and_eq_false_iff, decide_eq_false_iff_not]
    exact .inr h1
theorem bel_drewN (B : Nat) (w : World) (n : Nat) : Below B w (w.drewN n) := ⟨rfl, rfl, rfl, Nat.le_refl _, fun _ _ => rfl⟩
theorem lof_range {L : Nat → Int} (hlo : ∀ x, -1 ≤ L x) (r : List Nat) : -1 ≤ lof L r ∧ lof L r ≤ 1000 := by
  have key : ∀ r s, lsum L r = some s → 0 ≤ s := by
    intro r
    induction r with
    | nil => intro s h; simp only [lsum, Option.some.injEq] at h; omega
    | cons x r ih =>
      intro s h
      rw [lsum] at h
      by_cases e : L x = -1
      · rw [if_pos e] at h; cases h
      · rw [if_neg e] at h
        obtain ⟨t, ht, rfl⟩ := Option.map_eq_some_iff.1 h
        have := ih t ht
        have := hlo x
        omega
  unfold lof
  cases hs : lsum L r with
  | none => simp
  | some s => have := key r s hs; simp only; omega

set_option maxHeartbeats 3200000 in
theorem shorter_any {S : Nat → Prop} (w : World) (g b : Nat) (v0 v1 vo v3 : Value) (L : List Int) (p : Pd) (v : Value) (h : St w g b v0 v1 vo v3 L) (hr : Ints w S p.right v) (hin : ∀ i (hi : i < p.right.length), 0 ≤ p.right[i] ∧ p.right[i] < L.length) (hl0 : 0 ≤ p.left) (hl1 : p.left < L.length) (hlo : ∀ x, -1 ≤ Lf L x) (hto : ∀ x, Lf L x ≤ 1000) (hlen : p.right.length ≤ 1048576) (hLl : L.length ≤ 1048576) :
    Calls Tryd.prog 63 #[.pointer (some ⟨g, 0, none⟩), .agg #[.int .i64 p.left, v, .string p.label, .int .i64 p.lev, .int .i64 p.asc]] w fun e w' => e = .returned (.bool (lnew (Lf L) (pN p))) ∧ St w' g b v0 v1 vo v3 (if lnew (Lf L) (pN p) then L.set p.left.toNat (lof (Lf L) (nats p.right)) else L) ∧ Bt b w w' := by
  obtain ⟨x, hx⟩ : ∃ x : Nat, p.left = x := ⟨p.left.toNat, by omega⟩
  have hpN : pN p = (x, nats p.right) := by unfold pN; rw [hx]; rfl
  have hxl : x < L.length := by omega
  obtain ⟨ai, ci, ei, _⟩ := hr.form
  have hri := hr
  rw [ei] at hri
  subst ei
  have hb0 := bel_alloc w (.cells #[.int .i64 x, .slice ai p.right.length ci, .string p.label, .int .i64 p.lev, .int .i64 p.asc] 82)
  have HS := (show Hid _ from h.still hb0)
  have HV := (show Hid _ from leastOf_any _ g b v0 v1 vo v3 L p.right _ (h.still hb0) (hri.still hb0) hin hlo hto hlen hLl)
  have HB := (show Hid _ from Bt.of_below (g := b) hb0)
  have d0 := HS.out.cell x hxl
  have T4 : (w.alloc (.cells #[.int .i64 x, .slice ai p.right.length ci, .string p.label, .int .i64 p.lev, .int .i64 p.asc] 82)).cell? ⟨g, 4, none⟩ = some (.slice (some ⟨b, 0, none⟩) L.length L.length) := HS.out.box.cell 4 (by simp)
  have f0 : (w.alloc (.cells #[.int .i64 x, .slice ai p.right.length ci, .string p.label, .int .i64 p.lev, .int .i64 p.asc] 82)).frozen? ⟨b, x, none⟩ = false := World.rowIs.frozen HS.out.row x
  obtain ⟨hR1, hR2⟩ := lof_range hlo (nats p.right)
  have hlx := hlo x
  have hf := Lf_lt hxl
  rw [hf] at hlx
  rw [hx, hpN]
  have hq0 : (Int.toNat (x : Int)) = x := Int.toNat_natCast x
  rw [hq0]
  clear h hri hr hin hlo hto hb0 hpN hq0
  generalize hRR : lof (Lf L) (nats p.right) = R at *
  by_cases e1 : R = -1
  · have HN := (show Hid _ from lnew_bad (L := Lf L) (p := (x, nats p.right)) (by rw [hRR]; exact e1))
    rw [HN.out]
    have HF := (show Hid _ from HS.out)
    subst e1
    clear hRR hf
    go_enter Tryd.func63, Tryd.ntmps63
    go_wp2_with fail
    refine Calls.mono HV.out ?_
    rintro e w1 ⟨rfl, rfl⟩
    go_wp2_with fail
    go_quiet (fail)
    go_wp2_with fail
    go_ret
    exact ⟨rfl, HF.out.still (bel_drewN _ _ _), HB.out.trans (Bt.of_below (bel_drewN _ _ _))⟩
  have e1' : (R == -1) = false := by simp [e1]
  by_cases e2 : ¬ L[x] = -1 ∧ L[x] ≤ R
  · have HN := (show Hid _ from lnew_old (L := Lf L) (p := (x, nats p.right)) (by rw [hRR]; exact e1) (by rw [hf]; exact e2.1) (by rw [hf, hRR]; exact e2.2))
    rw [HN.out]
    have HF := (show Hid _ from HS.out)
    have k1 : (L[x] != -1) = true := by simp [e2.1]
    have k2 : decide (L[x] ≤ R) = true := by simp [e2.2]
    clear hRR hf
    generalize L[x] = Lx at *
    go_enter Tryd.func63, Tryd.ntmps63
    go_wp2_with fail
    refine Calls.mono HV.out ?_
    rintro e w1 ⟨rfl, rfl⟩
    go_wp2_with fail
    go_quiet (fail)
    go_wp2_with fail
    go_ret
    exact ⟨rfl, HF.out.still (bel_drewN _ _ _), HB.out.trans (Bt.of_below (bel_drewN _ _ _))⟩
  · have HN := (show Hid _ from lnew_yes (L := Lf L) (p := (x, nats p.right)) (by rw [hRR]; exact e1) (by rw [hf, hRR]; by_cases h : L[x] = -1; exact .inl h; exact .inr (fun k => e2 ⟨h, k⟩)))
    rw [HN.out]
    have HF := (show Hid _ from HS.out)
    clear hRR hf
    by_cases e3 : L[x] = -1
    · have k1 : (L[x] != -1) = false := by simp [e3]
      rw [e3] at d0
      clear e2
      go_enter Tryd.func63, Tryd.ntmps63
      go_wp2_with fail
      refine Calls.mono HV.out ?_
      rintro e w1 ⟨rfl, rfl⟩
      go_wp2_with fail
      go_quiet (fail)
      go_wp2_with fail
      go_region
      all_goals
        go_wp2_with fail
        go_ret
        refine ⟨rfl, ?_, ?_⟩
        · exact (HF.out.still (bel_drewN _ _ (nq + 1))).set x hxl R
        · exact (HB.out.trans (Bt.of_below (bel_drewN _ _ (nq + 1)))).trans (Bt.set _ _)
    · have k1 : (L[x] != -1) = true := by simp [e3]
      have k2 : decide (L[x] ≤ R) = false := by simp; omega
      clear e2
      generalize L[x] = Lx at *
      go_enter Tryd.func63, Tryd.ntmps63
      go_wp2_with fail
      refine Calls.mono HV.out ?_
      rintro e w1 ⟨rfl, rfl⟩
      go_wp2_with fail
      go_quiet (fail)
      go_wp2_with fail
      go_region
      all_goals
        go_wp2_with fail
        go_ret
        refine ⟨rfl, ?_, ?_⟩
        · exact (HF.out.still (bel_drewN _ _ (nq + 1))).set x hxl R
        · exact (HB.out.trans (Bt.of_below (bel_drewN _ _ (nq + 1)))).trans (Bt.set _ _)
theorem isTerm_any {S : Nat → Prop} (w : World) (g b : Nat) (d : Bn) (a0 : Option Addr) (c0 : Nat) (v1 vo v3 : Value) (L : List Int) (x : Nat) (h : St w g b (.slice a0 d.terms.length c0) v1 vo v3 L) :
    Calls Tryd.prog 61 #[.pointer (some ⟨g, 0, none⟩), .int .i64 x] w fun e w' => e = .returned (.bool (decide (x < d.terms.length))) ∧ w' = w := by
  have T0 : w.cell? ⟨g, 0, none⟩ = some (.slice a0 d.terms.length c0) := h.box.cell 0 (by simp)
  clear h
  go_enter Tryd.func61, Tryd.ntmps61
  go_wp2_with fail
  go_ret
  exact ⟨ret_bool (by simp), rfl⟩
end Go.Proofs.YtjpjjfgdgieapaaDoor

/-! The program: the study of plain rules. -/
namespace Go.Proofs.YtjpjjfgdgieapaaDoor
open Go.RowKit Go.Deep
set_option linter.unusedVariables false
set_option maxRecDepth 100000
set_option linter.unusedSimpArgs false

/-- What is known of right plain rules. -/
structure Bok (d : Bn) : Prop where
  nt : d.terms.length ≤ 60
  nn : 1 ≤ d.nons.length ∧ d.nons.length ≤ 100
  np : d.prods.length ≤ 120
  left : ∀ i (hi : i < d.prods.length), (d.terms.length : Int) ≤ d.prods[i].left ∧ d.prods[i].left < ((d.terms.length + d.nons.length : Nat) : Int)
  len : ∀ i (hi : i < d.prods.length), d.prods[i].right.length ≤ 12
  right : ∀ i (hi : i < d.prods.length) j (hj : j < d.prods[i].right.length), 0 ≤ d.prods[i].right[j] ∧ d.prods[i].right[j] < ((d.terms.length + d.nons.length : Nat) : Int)
theorem bnB_ok {d : Bn} (h : bnB d = true) : Bok d := by
  unfold bnB szB at h
  simp only [Bool.and_eq_true, decide_eq_true_eq, List.all_eq_true] at h
  obtain ⟨h1, _, _, h4⟩ := h
  have hp : ∀ i (hi : i < d.prods.length), pdB d.terms.length d.nons.length d.prods[i] = true := fun i hi => h4 _ (List.getElem_mem hi)
  refine ⟨h1.1, ⟨h1.2.1, h1.2.2.1⟩, h1.2.2.2.2.2, fun i hi => ?_, fun i hi => ?_, fun i hi j hj => ?_⟩
  · have := hp i hi
    unfold pdB wiB at this
    simp only [Bool.and_eq_true, decide_eq_true_eq] at this
    have := this.1
    omega
  · have := hp i hi
    unfold pdB wiB at this
    simp only [Bool.and_eq_true, decide_eq_true_eq] at this
    exact this.2.1
  · have := hp i hi
    unfold pdB wiB at this
    simp only [Bool.and_eq_true, decide_eq_true_eq, List.all_eq_true] at this
    have := this.2.2.1 _ (List.getElem_mem hj)
    omega
def bps (d : Bn) : List (Nat × List Nat) := d.prods.map pN
/-- At first: one byte for each terminal; nothing for others. -/
def ini (nt N j : Nat) : List Int := (List.range N).map fun i => if i < j then (if i < nt then 1 else -1) else 0
theorem ini_len (nt N j : Nat) : (ini nt N j).length = N := by simp [ini]
theorem ini_get {nt N j i : Nat} (h : i < N) : (ini nt N j)[i]'(by rw [ini_len]; exact h) = if i < j then (if i < nt then 1 else -1) else 0 := by simp [ini]
theorem ini_next {nt N j : Nat} (h : j < N) : (ini nt N j).set j (if j < nt then 1 else -1) = ini nt N (j + 1) := by
  apply List.ext_getElem
  · simp [ini_len]
  · intro i h1 h2
    rw [ini_len] at h2
    rw [List.getElem_set]
    by_cases e : j = i
    · subst e; rw [if_pos rfl, ini_get h, if_pos (Nat.lt_succ_self _)]
    · rw [if_neg e, ini_get h2, ini_get h2]
      have : (i < j) ↔ (i < j + 1) := by omega
      simp [this]
theorem ini_snd (nt : Nat) (ps : List (Nat × List Nat)) (N : Nat) (hN : nt ≤ N) : Snd nt ps (Lf (ini nt N N)) := by
  have key : ∀ x, Lf (ini nt N N) x = if x < nt then 1 else -1 := by
    intro x
    by_cases hx : x < N
    · rw [Lf_lt (by rw [ini_len]; exact hx), ini_get hx, if_pos hx]
    · have : ¬ x < nt := by omega
      rw [if_neg this]
      simp [Lf, List.getD_eq_getElem?_getD, ini_len, Nat.le_of_not_lt hx]
  refine ⟨fun x => ?_, fun x => ?_, fun x hx => ?_, fun x hx => ?_⟩
  · rw [key]; split <;> omega
  · rw [key]; split <;> omega
  · rw [key, if_pos hx]
  · rw [key] at hx ⊢
    by_cases h : x < nt
    · rw [if_pos h]; exact Lens.term h Lens.nil
    · rw [if_neg h] at hx; omega
/-- How much shorter they may become. -/
def wgt (v : Int) : Nat := if v = -1 then 1001 else v.toNat
def wts (L : List Int) : Nat := (L.map wgt).sum
theorem wts_set {L : List Int} {x : Nat} (h : x < L.length) {u : Int} (hu : wgt u < wgt L[x]) : wts (L.set x u) < wts L := by
  induction L generalizing x with
  | nil => exact absurd h (Nat.not_lt_zero _)
  | cons y r ih =>
    cases x with
    | zero =>
      simp only [List.getElem_cons_zero] at hu
      simp only [wts, List.set_cons_zero, List.map_cons, List.sum_cons]
      omega
    | succ x =>
      simp only [List.getElem_cons_succ] at hu
      have := ih (by simpa using h) hu
      unfold wts at this ⊢
      simp only [List.set_cons_succ, List.map_cons, List.sum_cons]
      omega
theorem IRow.uniq {w : World} {b : Nat} {L M : List Int} (h : IRow w b L) (k : IRow w b M) (hl : L.length = M.length) : L = M := by
  apply List.ext_getElem hl
  intro i h1 h2
  have e1 := World.rowIs.cell h h1
  have e2 := World.rowIs.cell k h2
  rw [e1] at e2
  simp [List.getD_eq_getElem?_getD, h1, h2] at e2
  exact e2
theorem lnew_less {L : List Int} {p : Nat × List Nat} (hx : p.1 < L.length) (hlo : ∀ x, -1 ≤ Lf L x) (h : lnew (Lf L) p = true) : wgt (lof (Lf L) p.2) < wgt L[p.1] := by
  obtain ⟨h1, h2⟩ := lof_range hlo p.2
  have hf := Lf_lt hx
  unfold lnew at h
  rw [hf] at h
  simp only [Bool.not_eq_true', Bool.or_eq_false_iff, beq_eq_false_iff_ne, ne_eq, Bool.and_eq_false_iff, bne_eq_false_iff_eq, decide_eq_false_iff_not] at h
  unfold wgt
  rw [if_neg h.1]
  have h3 := hlo p.1
  rw [hf] at h3
  rcases h.2 with e | e
  · rw [if_pos e]; omega
  · by_cases e' : L[p.1] = -1
    · rw [if_pos e']; omega
    · rw [if_neg e']; omega
end Go.Proofs.YtjpjjfgdgieapaaDoor
