import Derived.Test.YtjpjjfgdgieapaaDoorAl
import Derived.Maps.AppendAt
/-! Rows that the call owns, and no two of which share a block; marks in them. -/
namespace Go.Proofs.YtjpjjfgdgieapaaDoor
open Go.RowKit Go.Deep
set_option linter.unusedVariables false
set_option maxRecDepth 100000
set_option linter.unusedSimpArgs false

/-- A row that is owned: type and cells of an element, the value, how many, the cells. -/
structure Ent where
  t : TypeId
  k : Nat
  v : Value
  n : Nat
  cs : List Value
def Ent.ok (w : World) (B : Nat) (e : Ent) : Prop := w.ownsRow B e.t e.k e.v e.n e.cs
def Apt (e e' : Ent) : Prop := ∀ k, e.v.ownBlock = some k → e'.v.ownBlock ≠ some k
theorem Apt.symm {e e' : Ent} (h : Apt e e') : Apt e' e := fun k h1 h2 => h k h2 h1
/-- All these are owned, and no two share a block. -/
structure Own (w : World) (B : Nat) (es : List Ent) : Prop where
  ok : ∀ e ∈ es, e.ok w B
  ne : es.Pairwise Apt
theorem Own.nil (w : World) (B : Nat) : Own w B [] := ⟨fun _ h => absurd h (by simp), List.Pairwise.nil⟩
theorem Own.still {w w' : World} {B : Nat} {es : List Ent} (h : Own w B es) (hb : Below w.heap.size w w') : Own w' B es := ⟨fun e he => al_still (h.ok e he) hb, h.ne⟩
theorem Own.perm {w : World} {B : Nat} {es fs : List Ent} (h : Own w B es) (hp : es.Perm fs) : Own w B fs :=
  ⟨fun e he => h.ok e (hp.mem_iff.2 he), (hp.pairwise_iff (fun hh => Apt.symm hh)).1 h.ne⟩
theorem Own.sub {w : World} {B : Nat} {es fs : List Ent} (h : Own w B es) (hs : fs.Sublist es) : Own w B fs :=
  ⟨fun e he => h.ok e (hs.subset he), h.ne.sublist hs⟩
theorem Own.tail {w : World} {B : Nat} {e : Ent} {es : List Ent} (h : Own w B (e :: es)) : Own w B es := h.sub (List.sublist_cons_self _ _)
/-- The first is put anew, in its own block or in a new one. -/
theorem Own.grow {w w' : World} {B : Nat} {e e' : Ent} {es : List Ent} (h : Own w B (e :: es)) (hg : w.grownBy w' e.v.ownBlock) (ho : e'.ok w' B) (hat : ∀ k, e'.v.ownBlock = some k → e.v.ownBlock = some k ∨ w.heap.size ≤ k) : Own w' B (e' :: es) := by
  obtain ⟨h1, h2⟩ := List.pairwise_cons.1 h.ne
  refine ⟨fun x hx => ?_, List.pairwise_cons.2 ⟨fun x hx k hk hk' => ?_, h2⟩⟩
  · rcases List.mem_cons.1 hx with rfl | hx
    · exact ho
    · refine (h.ok x (List.mem_cons_of_mem _ hx)).kept hg ?_
      cases e2 : x.v.ownBlock with
      | none => exact .inl rfl
      | some k => exact .inr (fun e3 => h1 x hx k e3.symm e2)
  · rcases hat k hk with h3 | h3
    · exact h1 x hx k h3 hk'
    · have := ((h.ok x (List.mem_cons_of_mem _ hx)).lt k hk').2
      omega
/-- One more, in a new block. -/
theorem Own.add {w w' : World} {B : Nat} {e' : Ent} {es : List Ent} (h : Own w B es) (hb : Below w.heap.size w w') (ho : e'.ok w' B) (hat : ∀ k, e'.v.ownBlock = some k → w.heap.size ≤ k) : Own w' B (e' :: es) := by
  refine ⟨fun x hx => ?_, List.pairwise_cons.2 ⟨fun x hx k hk hk' => ?_, h.ne⟩⟩
  · rcases List.mem_cons.1 hx with rfl | hx
    · exact ho
    · exact al_still (h.ok x hx) hb
  · have := ((h.ok x hx).lt k hk').2
    have := hat k hk
    omega
theorem grown_belB {B : Nat} {w0 w w' : World} {o : Option Nat} (h : Below B w0 w) (hg : w.grownBy w' o) (ho : ∀ k, o = some k → B ≤ k) (hB : B ≤ w.heap.size) : Below B w0 w' := h.grown hg hB ho
/-- Numbers as cells. -/
def encI (l : List Int) : List Value := l.map (Value.int .i64)
theorem encI_len (l : List Int) : (encI l).length = l.length * 1 := by simp [encI]
/-- A cell of an owned row. -/
theorem own_cell {w : World} {B t k n : Nat} {v : Value} {cs : List Value} (h : w.ownsRow B t k v n cs) : ∃ (a : Option Addr) (cap g : Nat), v = .slice a n cap ∧ n ≤ cap ∧ cap ≤ maxLen ∧ (0 < n → a = some ⟨g, 0, none⟩ ∧ B ≤ g) ∧ ∀ i u, cs[i]? = some u → w.cell? ⟨g, i, none⟩ = some u := by
  rcases h.2 with ⟨rfl, h0⟩ | ⟨g, cap, cur, rfl, hB, hg, hnc, hcm, hcs, htk⟩
  · subst h0
    refine ⟨none, 0, 0, rfl, Nat.le_refl _, Nat.zero_le _, fun h => absurd h (Nat.not_lt_zero _), fun i u hu => ?_⟩
    have : cs = [] := List.eq_nil_of_length_eq_zero (by have := h.1; omega)
    subst this
    simp at hu
  · refine ⟨_, cap, g, rfl, hnc, hcm, fun _ => ⟨rfl, hB⟩, fun i u hu => ?_⟩
    rw [cell_of_row w g i cur t (0, 0) hg]
    rw [← htk, List.getElem?_take] at hu
    split at hu
    · simpa using hu
    · simp at hu
theorem own_intsE {w : World} {B : Nat} {v : Value} {l : List Int} (h : w.ownsRow B 3 1 v l.length (encI l)) : Ints w (fun b => B ≤ b) l v := by
  obtain ⟨a, cap, g, rfl, h1, h2, h3, h4⟩ := own_cell h
  refine ⟨a, cap, g, 0, rfl, h1, h2, h3, fun i hi => ?_⟩
  rw [Nat.zero_add]
  exact h4 i _ (by simp [encI, hi])
def entI (p : Value × List Int) : Ent := ⟨3, 1, p.1, p.2.length, encI p.2⟩
theorem own_irows {w : World} {B : Nat} {u : Value} {rv : List (Value × List Int)} (h : w.ownsRow B 29 1 u rv.length (rv.map (·.1))) (hr : ∀ p ∈ rv, (entI p).ok w B) : IRows w (fun b => B ≤ b) (rv.map (·.2)) u := by
  obtain ⟨a, cap, g, rfl, h1, h2, h3, h4⟩ := own_cell h
  refine ⟨a, cap, g, 0, fun i => ((rv.map (·.1))[i]?).getD .nilFunc, by simp, by simpa using h1, h2, by simpa using h3, fun i hi => ?_, fun i hi => ?_⟩
  · have hi' : i < rv.length := by simpa using hi
    rw [Nat.zero_add]
    exact h4 i _ (by simp [hi'])
  · have hi' : i < rv.length := by simpa using hi
    have := own_intsE (hr rv[i] (List.getElem_mem hi'))
    simpa [hi', entI] using this
/-- Numbers from k on, as cells. -/
def cntc (k m : Nat) : List Value := (List.range m).map fun i => Value.int .i64 ((k + i : Nat) : Int)
theorem cntc_len (k m : Nat) : (cntc k m).length = m := by simp [cntc]
theorem cntc_get (k m i : Nat) (h : i < m) : (cntc k m)[i]? = some (.int .i64 ((k + i : Nat) : Int)) := by simp [cntc, h]
theorem own_row {w : World} {B t k n : Nat} {v : Value} {cs : List Value} (h : w.ownsRow B t k v n cs) (h0 : 0 < n) : ∃ g cap f, v = .slice (some ⟨g, 0, none⟩) n cap ∧ B ≤ g ∧ n ≤ cap ∧ cap ≤ maxLen ∧ w.rowIs g t (cap * k) f := by
  rcases h.2 with ⟨_, h1⟩ | ⟨g, cap, cur, hv, hB, hg, hnc, hcm, hcs, htk⟩
  · omega
  · exact ⟨g, cap, fun i => (cur[i]?).getD .nilFunc, hv, hB, hnc, hcm, cur, hg, hcs, fun i hi => by
      have e : cur[i]? = some cur[i] := Array.getElem?_eq_getElem (by omega)
      simp only [e, Option.getD_some]⟩
theorem row_own {w : World} {B t k n g cap : Nat} {f : Nat → Value} {cs : List Value} (h : w.rowIs g t (cap * k) f) (hB : B ≤ g) (hnc : n ≤ cap) (hcm : cap ≤ maxLen) (hl : cs.length = n * k) (hf : ∀ i, i < n * k → cs[i]? = some (f i)) : w.ownsRow B t k (.slice (some ⟨g, 0, none⟩) n cap) n cs := by
  obtain ⟨c, h1, h2, h3⟩ := h
  have hle : n * k ≤ cap * k := Nat.mul_le_mul_right k hnc
  refine ⟨hl, .inr ⟨g, cap, c, rfl, hB, h1, hnc, hcm, h2, ?_⟩⟩
  apply List.ext_getElem?
  intro i
  rw [List.getElem?_take]
  split
  · rename_i hi
    rw [hf i hi, ← h3 i (by omega)]
    simp
  · rw [List.getElem?_eq_none (by omega)]
theorem own_zero {w : World} {B t k : Nat} {v : Value} {cs cs' : List Value} (h : w.ownsRow B t k v 0 cs) (hl : cs'.length = 0) : w.ownsRow B t k v 0 cs' := by
  have e1 : cs = [] := List.eq_nil_of_length_eq_zero (by have := h.1; omega)
  have e2 : cs' = [] := List.eq_nil_of_length_eq_zero hl
  rw [e2, ← e1]
  exact h
theorem grown_set (w : World) (g o : Nat) (u : Value) : w.grownBy (w.setCell ⟨g, o, none⟩ u) (some g) := ⟨rfl, rfl, rfl, by simp [World.setCell], fun k _ hne => blk_setCell_other _ _ _ _ (by show k ≠ g; intro e; exact hne (by rw [e]))⟩
theorem grown_refl (w : World) (o : Option Nat) : w.grownBy w o := ⟨rfl, rfl, rfl, Nat.le_refl _, fun _ _ _ => rfl⟩
/-- Marked rows. -/
def mkE : Nat → List Ent → List Ent
  | _, [] => []
  | k, e :: es => ⟨e.t, e.k, e.v, e.n, cntc k e.cs.length⟩ :: mkE (k + e.cs.length) es
def tot : List Ent → Nat
  | [] => 0
  | e :: es => e.cs.length + tot es
theorem tot_append : ∀ (es fs : List Ent), tot (es ++ fs) = tot es + tot fs
  | [], fs => by simp [tot]
  | e :: es, fs => by simp [tot, tot_append es fs]; omega
theorem mkE_append : ∀ (k : Nat) (es fs : List Ent), mkE k (es ++ fs) = mkE k es ++ mkE (k + tot es) fs
  | k, [], fs => by simp [mkE, tot]
  | k, e :: es, fs => by simp [mkE, tot, mkE_append (k + e.cs.length) es fs]; rw [Nat.add_assoc]
theorem tot_le {es : List Ent} {m : Nat} (h : ∀ e ∈ es, e.cs.length ≤ m) : tot es ≤ es.length * m := by
  induction es with
  | nil => simp [tot]
  | cons e es ih =>
    have h1 := h e (List.mem_cons_self ..)
    have h2 := ih (fun x hx => h x (List.mem_cons_of_mem _ hx))
    simp only [tot, List.length_cons]
    rw [Nat.succ_mul]
    omega
set_option maxHeartbeats 1600000 in
theorem markI_any (B n k : Nat) (v : Value) (cs : List Value) (w : World) (h : w.ownsRow B 3 1 v n cs) (hn : n ≤ 1048576) (hk : k ≤ 1125899906842624) :
    Calls Tryd.prog 38 #[v, .int .i64 k] w fun e w' => e = .returned (.int .i64 (k + n : Nat)) ∧ w.grownBy w' v.ownBlock ∧ w'.ownsRow B 3 1 v n (cntc k (n)) := by
  by_cases h0 : 0 < n
  case neg =>
    have hn0 : n = 0 := by omega
    obtain ⟨a, cap, g, rfl, _⟩ := own_cell h
    have hz : w.ownsRow B 3 1 (.slice a n cap) n (cntc k (n)) := by
      subst hn0
      exact own_zero h (by rw [cntc_len]; try omega)
    have HZ := (show Hid _ from hz)
    have hd : decide ((0 : Int) < (n : Int)) = false := by simp; omega
    have HN0 := (show Hid _ from hn0)
    clear h hz hn0
    go_enter Tryd.func38, Tryd.ntmps38
    go_wp2_with fail
    go_loopw [1, 5] (fun u i wr => u = .int .i64 k ∧ i = .int .i64 0 ∧ wr = w) (fun _ _ _ => 0)
    case atStart => exact ⟨rfl, rfl, rfl⟩
    case round =>
      obtain ⟨rfl, rfl, rfl⟩ := hrel
      go_wp2_with fail
      go_ret
      exact ⟨by rw [HN0.out]; rfl, grown_refl _ _, HZ.out⟩
  obtain ⟨g, cap, f0, rfl, hB, hnc, hcm, hr0⟩ := own_row h h0
  have HR0 := (show Hid _ from hr0)
  have HCM := (show Hid _ from hcm)
  unfold maxLen at hcm
  clear h hr0
  go_enter Tryd.func38, Tryd.ntmps38
  go_wp2_with fail
  go_loopw [1, 5] (fun u i wr => ∃ (j : Nat), j ≤ n ∧ i = .int .i64 j ∧ u = .int .i64 (k + j : Nat) ∧ w.grownBy wr (some g) ∧ ∃ f, wr.rowIs g 3 (cap * 1) f ∧ ∀ i, i < j → f i = .int .i64 ((k + i : Nat) : Int)) (fun _ i _ => n - (intOf i).toNat)
  case atStart => exact ⟨0, Nat.zero_le _, rfl, rfl, grown_refl _ _, _, HR0.out, fun i hi => absurd hi (by omega)⟩
  case round =>
    obtain ⟨j, hj, rfl, rfl, hg, f, hrow, hf⟩ := hrel
    by_cases hlt : j < n
    · have hlt' := hlt
      have e0 := hrow.cell (i := j) (by omega)
      have z0 := hrow.frozen j
      have HR := (show Hid _ from (⟨hrow, hf⟩ : _ ∧ _)); clear hrow hf
      go_wp2_with fail
      refine ⟨⟨j + 1, by omega, by go_num, by go_num, hg.trans (grown_set _ _ _ _), _, World.rowIs.set HR.out.1 j _, fun i hi => ?_⟩, by simp [intOf]; omega⟩
      by_cases e : i = j
      · subst e; simp
      · rw [if_neg e]; exact HR.out.2 i (by omega)
    · obtain rfl : j = n := by omega
      have HX := (show Hid _ from (⟨hg, row_own (B := B) (n := j) (cs := cntc k (j)) hrow hB hnc HCM.out (by rw [cntc_len]; try omega) (fun i hi => by rw [cntc_get k _ i (by omega), hf i (by omega)])⟩ : _ ∧ _))
      clear hrow hf hg
      go_wp2_with fail
      go_ret
      exact ⟨rfl, HX.out.1, HX.out.2⟩
set_option maxHeartbeats 1600000 in
theorem heldI_any (B n k : Nat) (v : Value) (w : World) (h : w.ownsRow B 3 1 v n (cntc k (n))) (hn : n ≤ 1048576) (hk : k ≤ 1125899906842624) :
    Calls Tryd.prog 41 #[v, .int .i64 k] w fun e w' => e = .returned (.int .i64 (k + n : Nat)) ∧ w' = w := by
  obtain ⟨a, cap, g, rfl, hnc, hcm, ha, hcell⟩ := own_cell h
  have HC := (show Hid (∀ i, i < n → w.cell? ⟨g, i, none⟩ = some (.int .i64 ((k + i : Nat) : Int))) from fun i hi => hcell i _ (cntc_get k _ i hi))
  have HA := (show Hid _ from ha)
  unfold maxLen at hcm
  clear h hcell ha
  go_enter Tryd.func41, Tryd.ntmps41
  go_wp2_with fail
  go_loopw [1, 5] (fun u i wr => ∃ (j : Nat), j ≤ n ∧ i = .int .i64 j ∧ u = .int .i64 (k + j : Nat) ∧ wr = w) (fun _ i _ => n - (intOf i).toNat)
  case atStart => exact ⟨0, Nat.zero_le _, rfl, rfl, rfl⟩
  case round =>
    obtain ⟨j, hj, rfl, rfl, rfl⟩ := hrel
    by_cases hlt : j < n
    · have hlt' := hlt
      obtain ⟨rfl, hcb⟩ := HA.out (by omega)
      clear hcb
      have c0 := HC.out j (by omega)
      have hne : (((k + j : Nat) : Int) != ((k + j : Nat) : Int)) = false := by simp
      go_wp2_with fail
      exact ⟨⟨j + 1, by omega, by go_num, by go_num, trivial⟩, by simp [intOf]; omega⟩
    · obtain rfl : j = n := by omega
      go_wp2_with fail
      go_ret
      exact ⟨rfl, rfl⟩
set_option maxHeartbeats 3200000 in
theorem markRI_any (B k : Nat) (u : Value) (rv : List (Value × List Int)) (fs : List Ent) (w : World) (h : Own w B (⟨29, 1, u, rv.length, rv.map (·.1)⟩ :: (rv.map entI ++ fs))) (hl : rv.length ≤ 1048576) (hs : ∀ p ∈ rv, p.2.length ≤ 1048576) (hB : B ≤ w.heap.size) (hk : k + rv.length * 2097152 ≤ 1125899906842624) :
    Calls Tryd.prog 39 #[u, .int .i64 k] w fun e w' => e = .returned (.int .i64 (k + tot (rv.map entI) : Nat)) ∧ Below B w w' ∧ Own w' B (⟨29, 1, u, rv.length, rv.map (·.1)⟩ :: (mkE k (rv.map entI) ++ fs)) := by
  have h00 : w.ownsRow B 29 1 u rv.length (rv.map (·.1)) := h.ok _ (List.mem_cons_self ..)
  obtain ⟨a, cap, g, rfl, hnc, hcm, ha, hcell⟩ := own_cell h00
  clear h00
  have HA := (show Hid _ from ha); clear ha hcell
  have HS := (show Hid _ from hs); clear hs
  have HO := (show Hid _ from h); clear h
  unfold maxLen at hcm
  go_enter Tryd.func39, Tryd.ntmps39
  go_wp2_with fail
  go_loopw [1, 5] (fun x i wr => ∃ (j m : Nat), j ≤ rv.length ∧ i = .int .i64 j ∧ x = .int .i64 m ∧ m ≤ 1125899906842624 ∧ Hid (m = k + tot ((rv.take j).map entI) ∧ m ≤ k + j * 2097152 ∧ Below B w wr ∧ Own wr B (⟨29, 1, .slice a rv.length cap, rv.length, rv.map (·.1)⟩ :: ((mkE k ((rv.take j).map entI) ++ (rv.drop j).map entI) ++ fs)))) (fun _ i _ => rv.length - (intOf i).toNat)
  case atStart => exact ⟨0, k, Nat.zero_le _, rfl, rfl, by omega, by simp [tot], by omega, Below.refl _ _, by simpa [mkE] using HO.out⟩
  case round =>
    obtain ⟨j, m, hj, rfl, rfl, hm, HJ⟩ := hrel
    by_cases hlt : j < rv.length
    · have hlt' := hlt
      obtain ⟨rfl, _⟩ := HA.out (by omega)
      obtain ⟨_, _, g1, e9, _, _, hg1, hc1⟩ := own_cell (HJ.out.2.2.2.ok _ (List.mem_cons_self ..))
      simp only at e9 hg1 hc1
      obtain ⟨e8, _⟩ := hg1 (by omega)
      injection e9 with e91 e92 e93
      rw [e8] at e91
      injection e91 with e91
      injection e91 with e91
      subst e91
      have k0 := hc1 j rv[j].1 (by rw [List.getElem?_map, List.getElem?_eq_getElem hlt']; rfl)
      have hd : rv.drop j = rv[j] :: rv.drop (j + 1) := List.drop_eq_getElem_cons hlt'
      have hown : (entI rv[j]).ok wr B := HJ.out.2.2.2.ok _ (List.mem_cons_of_mem _ (List.mem_append.2 (.inl (List.mem_append.2 (.inr (by rw [hd, List.map_cons]; exact List.mem_cons_self ..))))))
      have hsj := HS.out rv[j] (List.getElem_mem hlt')
      have hcl := markI_any B rv[j].2.length m rv[j].1 _ wr hown hsj hm
      obtain ⟨a2, cap2, _, e2, _⟩ := own_cell hown
      have e2' : rv[j].1 = .slice a2 rv[j].2.length cap2 := e2
      rw [e2'] at k0 hcl
      have HCL := (show Hid _ from hcl)
      have HE := (show Hid _ from e2')
      clear hcl e2 e2' hown hc1 e8 hg1 e92 e93
      go_wp2_with fail
      refine Calls.mono HCL.out ?_
      rintro e w1 ⟨rfl, hg, ho⟩
      have hfin : m + rv[j].2.length = k + tot ((rv.take (j + 1)).map entI) ∧ m + rv[j].2.length ≤ k + (j + 1) * 2097152 ∧ Below B w w1 ∧ Own w1 B (⟨29, 1, .slice (some ⟨g, 0, none⟩) rv.length cap, rv.length, rv.map (·.1)⟩ :: ((mkE k ((rv.take (j + 1)).map entI) ++ (rv.drop (j + 1)).map entI) ++ fs)) := by
        have htk : (rv.take (j + 1)).map entI = (rv.take j).map entI ++ [entI rv[j]] := by rw [List.take_add_one, List.getElem?_eq_getElem hlt', List.map_append]; rfl
        have hcs : (entI rv[j]).cs.length = rv[j].2.length := by show (encI rv[j].2).length = _; rw [encI_len]; try omega
        obtain ⟨q1, q2, q3, q4⟩ := HJ.out
        refine ⟨by rw [htk, tot_append, q1]; simp only [tot]; rw [hcs]; omega, by omega, ?_, ?_⟩
        · refine grown_belB q3 hg (fun b hb => ?_) (Nat.le_trans hB q3.size)
          rw [← HE.out] at hb
          exact (World.ownsRow.lt (q4.ok (entI rv[j]) (List.mem_cons_of_mem _ (List.mem_append.2 (.inl (List.mem_append.2 (.inr (by rw [hd, List.map_cons]; exact List.mem_cons_self ..))))))) b hb).1
        · rw [hd, List.map_cons] at q4
          have p1 : (⟨29, 1, .slice (some ⟨g, 0, none⟩) rv.length cap, rv.length, rv.map (·.1)⟩ :: ((mkE k ((rv.take j).map entI) ++ entI rv[j] :: (rv.drop (j + 1)).map entI) ++ fs)).Perm (entI rv[j] :: (⟨29, 1, .slice (some ⟨g, 0, none⟩) rv.length cap, rv.length, rv.map (·.1)⟩ :: ((mkE k ((rv.take j).map entI) ++ (rv.drop (j + 1)).map entI) ++ fs))) := by
            refine List.Perm.trans (List.Perm.cons _ ?_) (List.Perm.swap _ _ _)
            rw [List.append_assoc, List.append_assoc, List.cons_append]
            exact List.perm_middle
          have r1 := q4.perm p1
          have r2 := r1.grow (e' := ⟨3, 1, rv[j].1, rv[j].2.length, cntc m (entI rv[j]).cs.length⟩) (by show wr.grownBy w1 rv[j].1.ownBlock; rw [HE.out]; exact hg) (by show w1.ownsRow B 3 1 rv[j].1 rv[j].2.length _; rw [HE.out, hcs]; exact ho) (fun b hb => .inl hb)
          rw [htk, mkE_append, ← q1]
          refine r2.perm ?_
          refine List.Perm.trans (List.Perm.swap _ _ _) (List.Perm.cons _ ?_)
          simp only [mkE, List.append_assoc, List.cons_append, List.nil_append]
          exact List.perm_middle.symm
      have hm2 : m + rv[j].2.length ≤ 1125899906842624 := by omega
      obtain ⟨M, hM⟩ : ∃ M, m + rv[j].2.length = M := ⟨_, rfl⟩
      rw [hM] at hfin hm2 ⊢
      have HF := (show Hid _ from hfin)
      clear hfin hg ho k0 HCL hM
      go_wp2_with fail
      exact ⟨⟨j + 1, M, by omega, by go_num, rfl, hm2, HF.out⟩, by simp [intOf]; omega⟩
    · obtain rfl : j = rv.length := by omega
      have HF : Hid (m = k + tot (rv.map entI) ∧ Below B w wr ∧ Own wr B (⟨29, 1, .slice a rv.length cap, rv.length, rv.map (·.1)⟩ :: (mkE k (rv.map entI) ++ fs))) := by
        obtain ⟨q1, q2, q3, q4⟩ := HJ.out
        rw [List.take_length] at q1 q4
        rw [List.drop_length] at q4
        exact ⟨q1, q3, by simpa using q4⟩
      clear HJ
      go_wp2_with fail
      go_ret
      exact ⟨by rw [← HF.out.1]; rfl, HF.out.2⟩
set_option maxHeartbeats 3200000 in
theorem heldRI_any (B k : Nat) (u : Value) (rv : List (Value × List Int)) (w : World) (h : w.ownsRow B 29 1 u rv.length (rv.map (·.1))) (hr : ∀ e ∈ mkE k (rv.map entI), e.ok w B) (hl : rv.length ≤ 1048576) (hs : ∀ p ∈ rv, p.2.length ≤ 1048576) (hk : k + rv.length * 2097152 ≤ 1125899906842624) :
    Calls Tryd.prog 42 #[u, .int .i64 k] w fun e w' => e = .returned (.int .i64 (k + tot (rv.map entI) : Nat)) ∧ w' = w := by
  obtain ⟨a, cap, g, rfl, hnc, hcm, ha, hcell⟩ := own_cell h
  have HC := (show Hid _ from hcell)
  have HA := (show Hid _ from ha)
  have HR := (show Hid _ from hr)
  have HS := (show Hid _ from hs)
  unfold maxLen at hcm
  clear h hcell ha hr hs
  go_enter Tryd.func42, Tryd.ntmps42
  go_wp2_with fail
  go_loopw [1, 5] (fun x i wr => ∃ (j m : Nat), j ≤ rv.length ∧ i = .int .i64 j ∧ x = .int .i64 m ∧ m ≤ 1125899906842624 ∧ Hid (m = k + tot ((rv.take j).map entI) ∧ m ≤ k + j * 2097152) ∧ wr = w) (fun _ i _ => rv.length - (intOf i).toNat)
  case atStart => exact ⟨0, k, Nat.zero_le _, rfl, rfl, by omega, ⟨by simp [tot], by omega⟩, rfl⟩
  case round =>
    obtain ⟨j, m, hj, rfl, rfl, hm, HJ, rfl⟩ := hrel
    by_cases hlt : j < rv.length
    · have hlt' := hlt
      obtain ⟨rfl, hcb⟩ := HA.out (by omega)
      clear hcb
      have k0 := HC.out j rv[j].1 (by rw [List.getElem?_map, List.getElem?_eq_getElem hlt']; rfl)
      have hcs : (entI rv[j]).cs.length = rv[j].2.length := by show (encI rv[j].2).length = _; rw [encI_len]; try omega
      have hsp : rv.map entI = (rv.take j).map entI ++ entI rv[j] :: (rv.drop (j + 1)).map entI := by
        rw [← List.map_cons, ← List.drop_eq_getElem_cons hlt', ← List.map_append, List.take_append_drop]
      have hok := HR.out ⟨3, 1, rv[j].1, rv[j].2.length, cntc m (rv[j].2.length)⟩ (by
        rw [hsp, mkE_append, List.mem_append]
        right
        rw [mkE, hcs, ← HJ.out.1]
        exact List.mem_cons_self ..)
      have hok' : wr.ownsRow B 3 1 rv[j].1 rv[j].2.length (cntc m (rv[j].2.length)) := hok
      have hsj := HS.out rv[j] (List.getElem_mem hlt')
      have hcl := heldI_any B rv[j].2.length m rv[j].1 wr hok' hsj hm
      obtain ⟨a2, cap2, _, e2, _⟩ := own_cell hok'
      rw [e2] at k0 hcl
      have HCL := (show Hid _ from hcl)
      have htk : (rv.take (j + 1)).map entI = (rv.take j).map entI ++ [entI rv[j]] := by rw [List.take_add_one, List.getElem?_eq_getElem hlt', List.map_append]; rfl
      have HF : Hid (m + rv[j].2.length = k + tot ((rv.take (j + 1)).map entI) ∧ m + rv[j].2.length ≤ k + (j + 1) * 2097152) := by
        obtain ⟨q1, q2⟩ := HJ.out
        exact ⟨by rw [htk, tot_append, q1]; simp only [tot]; rw [hcs]; omega, by omega⟩
      have hm2 : m + rv[j].2.length ≤ 1125899906842624 := by have := HF.out; omega
      have hm3 : ¬ (((m + rv[j].2.length : Nat) : Int) < 0) := by omega
      clear hcl e2 hok hok' hcs hsp htk
      go_wp2_with fail
      refine Calls.mono HCL.out ?_
      rintro e w1 ⟨rfl, rfl⟩
      obtain ⟨M, hM⟩ : ∃ M, m + rv[j].2.length = M := ⟨_, rfl⟩
      rw [hM] at HF hm2 hm3 ⊢
      clear k0 HCL hM
      go_wp2_with fail
      exact ⟨⟨j + 1, M, by omega, by go_num, rfl, hm2, HF, trivial⟩, by simp [intOf]; omega⟩
    · obtain rfl : j = rv.length := by omega
      have HF : Hid (m = k + tot (rv.map entI)) := by
        have q1 := HJ.out.1
        rw [List.take_length] at q1
        exact q1
      clear HJ
      go_wp2_with fail
      go_ret
      exact ⟨by rw [← HF.out]; rfl, rfl⟩
end Go.Proofs.YtjpjjfgdgieapaaDoor
