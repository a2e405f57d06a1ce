import Derived.Test.YtjpjjfgdgieapaaDoorEq
import Derived.Lib.Strings
import Derived.Test.YtjpjjfgdgieapaaDoorToO2
/-! What is marked: all but a range is as it was; a mark's text. -/
namespace Go.Proofs.YtjpjjfgdgieapaaDoor
open Go.RowKit Go.Deep Go.Lib
set_option linter.unusedVariables false
set_option maxRecDepth 100000
set_option linter.unusedSimpArgs false

/-- All blocks that were there, but those of the range, are as they were. -/
def Out (lo hi : Nat) (w w' : World) : Prop := w'.os = w.os ∧ w'.tape = w.tape ∧ w'.output = w.output ∧ w.heap.size ≤ w'.heap.size ∧ ∀ k, k < w.heap.size → (k < lo ∨ hi ≤ k) → w'.heap[k]? = w.heap[k]?
theorem Out.refl (lo hi : Nat) (w : World) : Out lo hi w w := ⟨rfl, rfl, rfl, Nat.le_refl _, fun _ _ _ => rfl⟩
theorem Out.trans {lo hi : Nat} {a b c : World} (h : Out lo hi a b) (g : Out lo hi b c) : Out lo hi a c :=
  ⟨g.1.trans h.1, g.2.1.trans h.2.1, g.2.2.1.trans h.2.2.1, Nat.le_trans h.2.2.2.1 g.2.2.2.1, fun k hk hr => (g.2.2.2.2 k (Nat.lt_of_lt_of_le hk h.2.2.2.1) hr).trans (h.2.2.2.2 k hk hr)⟩
theorem Out.of_below {lo hi : Nat} {a b : World} (h : Below a.heap.size a b) : Out lo hi a b := ⟨h.os, h.tape, h.output, h.size, fun k hk _ => h.block k hk⟩
theorem Out.set {lo hi p o : Nat} (w : World) (u : Value) (h1 : lo ≤ p) (h2 : p < hi) : Out lo hi w (w.setCell ⟨p, o, none⟩ u) :=
  ⟨rfl, rfl, rfl, by simp [World.setCell], fun k _ hr => blk_setCell_other _ _ _ _ (by show k ≠ p; omega)⟩
theorem Out.mono {lo hi lo' hi' : Nat} {w w' : World} (h : Out lo hi w w') (h1 : lo' ≤ lo) (h2 : hi ≤ hi') : Out lo' hi' w w' :=
  ⟨h.1, h.2.1, h.2.2.1, h.2.2.2.1, fun k hk hr => h.2.2.2.2 k hk (by omega)⟩

/-- Bytes as values. -/
def bs (l : List UInt8) : ByteArray := ⟨l.toArray⟩
def bc (l : List UInt8) : List Value := l.map fun b => Value.int .u8 b.toNat
theorem bc_length (l : List UInt8) : (bc l).length = l.length := by simp [bc]
theorem bs_append (x y : List UInt8) : bs x ++ bs y = bs (x ++ y) := ByteArray.mk_append_mk x y
theorem bs_size (l : List UInt8) : (bs l).size = l.length := by show l.toArray.size = _; simp
theorem push_all (l : List UInt8) : ∀ s : ByteArray, (l.map fun b => ((b.toNat : Nat) : Int)).foldl (fun r n => r.push (UInt8.ofNat n.toNat)) s = s ++ bs l := by
  induction l with
  | nil => intro s; apply ByteArray.ext; simp [bs]
  | cons c r ih =>
    intro s
    simp only [List.map_cons, List.foldl_cons]
    rw [ih]
    have e : s.push (UInt8.ofNat ((c.toNat : Int)).toNat) = s ++ bs [c] := by
      simp only [Int.toNat_natCast, UInt8.ofNat_toNat]
      apply ByteArray.ext
      simp [bs]
    rw [e, ByteArray.append_assoc, bs_append]
    rfl

theorem conv_own {B : Nat} {w : World} {v : Value} {l : List UInt8} (h : w.ownsRow B 5 1 v l.length (bc l)) : (convert 125 9 v).run Tryd.prog w = .ok (.string (bs l)) w := by
  obtain ⟨hl, h⟩ := h
  rcases h with ⟨rfl, h0⟩ | ⟨g, cap, cur, rfl, _, hg, hc, _, hsz, htk⟩
  · have hl0 : l = [] := List.length_eq_zero_iff.1 h0
    subst hl0
    rw [run_convert_bytes_string w 125 9 5 none 0 0 Tryd.underlying125 Tryd.underlying5 Tryd.underlying9]
    simp [Conv.bytesToString, bs, Sem.run_pure]
    rfl
  · rw [run_convert_bytes_string w 125 9 5 _ _ _ Tryd.underlying125 Tryd.underlying5 Tryd.underlying9]
    have hload : (loadCells ⟨g, 0, none⟩ l.length).run Tryd.prog w = .ok ((l.map fun b => ((b.toNat : Nat) : Int)).map (Value.int .u8)).toArray w := by
      have e : ((l.map fun b => ((b.toNat : Nat) : Int)).map (Value.int .u8)) = bc l := by simp [bc, Function.comp_def]
      rw [e]
      have := run_loadCells_list (P := Tryd.prog) w ⟨g, 0, none⟩ (bc l) (fun j u hu => by
        rw [WideShapes.add_plain, Nat.zero_add, cell_of_row w g j cur 5 (0, 0) hg]
        rw [← htk] at hu
        rw [List.getElem?_take] at hu
        split at hu
        · simpa using hu
        · simp at hu)
      rw [bc_length] at this
      exact this
    rw [run_bytesToString w ⟨g, 0, none⟩ l.length cap _ hload, push_all]
    simp [bs]

/-- A digit, as a byte. -/
def dg (q : Nat) : UInt8 := UInt8.ofNat (48 + q % 10)
theorem dg_nat (q : Nat) : (dg q).toNat = 48 + q % 10 := by
  unfold dg
  rw [UInt8.toNat_ofNat']
  omega
/-- The digits of a number ahead of a text, with fuel. -/
def dgF : Nat → Nat → List UInt8 → List UInt8
  | 0, _, l => l
  | f + 1, q, l => if q = 0 then l else dgF f (q / 10) (dg q :: l)
theorem dgF_step {f q : Nat} {l : List UInt8} (hq : 0 < q) : dgF (f + 1) q l = dgF f (q / 10) (dg q :: l) := by
  show (if q = 0 then l else _) = _
  rw [if_neg (by omega)]
theorem dgF_zero (f : Nat) (l : List UInt8) : dgF f 0 l = l := by
  cases f <;> rfl
theorem dgF_fuel : ∀ (f g q : Nat) (l : List UInt8), q ≤ f → q ≤ g → dgF f q l = dgF g q l := by
  intro f
  induction f with
  | zero =>
    intro g q l hf hg
    obtain rfl : q = 0 := by omega
    rw [dgF_zero, dgF_zero]
  | succ f ih =>
    intro g q l hf hg
    by_cases hq : q = 0
    · subst hq; rw [dgF_zero, dgF_zero]
    · cases g with
      | zero => omega
      | succ g => rw [dgF_step (by omega), dgF_step (by omega)]; exact ih g _ _ (by omega) (by omega)
/-- What a thing is marked with. -/
def mt (k : Nat) : ByteArray := bs (109 :: dgF k k [])

theorem conv_one (q : Nat) (w : World) : (convert 125 9 (.slice (some ⟨w.heap.size, 0, none⟩) 1 1)).run Tryd.prog (w.alloc (.cells #[.int .u8 (48 + (q : Int) % 10)] 5)) = .ok (.string (bs [dg q])) (w.alloc (.cells #[.int .u8 (48 + (q : Int) % 10)] 5)) := by
  have h := World.ownsRow_lit (base := w.heap.size) (e := 5) (size := 1) w #[.int .u8 (48 + (q : Int) % 10)] 1 (Nat.le_refl _) (by unfold maxLen; omega) rfl
  refine conv_own (B := w.heap.size) (l := [dg q]) ?_
  have e : bc [dg q] = [.int .u8 (48 + (q : Int) % 10)] := by
    simp only [bc, List.map_cons, List.map_nil, dg_nat]
    congr 2
    all_goals omega
  rw [e]
  exact h

theorem val_int {a b : Int} (h : a = b) : Value.int .i64 a = .int .i64 b := by rw [h]
theorem dgF_len : ∀ (f q : Nat) (l : List UInt8), q ≤ 1125899906842624 → ∀ m, q < 10 ^ m → (dgF f q l).length ≤ l.length + m := by
  intro f
  induction f with
  | zero => intro q l _ m _; show l.length ≤ _; omega
  | succ f ih =>
    intro q l hq m hm
    by_cases h : q = 0
    · subst h; rw [dgF_zero]; omega
    · rw [dgF_step (by omega)]
      cases m with
      | zero => simp at hm; omega
      | succ m =>
        have h1 := ih (q / 10) (dg q :: l) (by omega) m (by rw [Nat.pow_succ] at hm; omega)
        simp only [List.length_cons] at h1
        omega
theorem mt_size {k : Nat} (hk : k ≤ 1125899906842624) : (mt k).size ≤ 20 := by
  unfold mt
  rw [bs_size]
  have := dgF_len k k [] hk 16 (by omega)
  simp only [List.length_cons, List.length_nil] at this ⊢
  omega
theorem pow_step {p q k : Nat} (h : p * q ≤ k) : p * 2 * (q / 10) ≤ k := by
  have h1 : 2 * (q / 10) ≤ q := by omega
  have h2 : p * (2 * (q / 10)) ≤ p * q := Nat.mul_le_mul_left p h1
  rw [Nat.mul_assoc]
  omega
theorem pow_len {n q k : Nat} (h : 2 ^ n * q ≤ k) (hq : 0 < q) (hk : k ≤ 1125899906842624) : n ≤ 50 := by
  have h1 : 2 ^ n * 1 ≤ 2 ^ n * q := Nat.mul_le_mul_left _ hq
  have h2 : 2 ^ n ≤ 2 ^ 50 := by
    have : (2 : Nat) ^ 50 = 1125899906842624 := by decide
    omega
  exact (Nat.pow_le_pow_iff_right (by omega)).1 h2
set_option maxHeartbeats 800000 in
theorem markText_nat (k : Nat) (h0 : 0 < k) (hk : k ≤ 1125899906842624) (w : World) :
    Calls Tryd.prog 75 #[.int .i64 k] w fun e w' => e = .returned (.string (mt k)) ∧ Below w.heap.size w w' := by
  go_enter Tryd.func75, Tryd.ntmps75
  go_wp2_with fail
  go_loopw [0, 3] (fun u o wr => ∃ (q : Nat) (l : List UInt8), u = .int .i64 q ∧ o = .string (bs l) ∧ l.length ≤ 51 ∧ q ≤ k ∧ Hid (2 ^ l.length * q ≤ k ∧ dgF q q l = dgF k k []) ∧ Below w.heap.size w wr) (fun u _ _ => (intOf u).toNat)
  case atStart => exact ⟨k, [], rfl, rfl, by simp, Nat.le_refl _, ⟨by simp, rfl⟩, Below.refl _ _⟩
  case round =>
    obtain ⟨q, l, rfl, rfl, hl, hqk, HD, hbw⟩ := hrel
    by_cases hq : 0 < q
    · have hcv := conv_one q wr
      have hl50 : l.length ≤ 50 := pow_len HD.out.1 hq hk
      have hs1 : (bs [dg q]).size = 1 := bs_size _
      have hs2 : (bs l).size ≤ 51 := by rw [bs_size]; omega
      have eA : bs [dg q] ++ bs l = bs (dg q :: l) := by rw [bs_append]; rfl
      have hb2 : Below w.heap.size w (wr.alloc (.cells #[.int .u8 (48 + (q : Int) % 10)] 5)) := bel_trans hbw (bel_alloc _ _)
      have hd : dgF (q / 10) (q / 10) (dg q :: l) = dgF q q l := by
        obtain ⟨p, rfl⟩ : ∃ p, q = p + 1 := ⟨q - 1, by omega⟩
        rw [dgF_step (by omega)]
        exact dgF_fuel _ _ _ _ (by omega) (by omega)
      have hp : 2 ^ (dg q :: l).length * (q / 10) ≤ k := by
        rw [List.length_cons, Nat.pow_succ]
        exact pow_step HD.out.1
      have HE := (show Hid _ from (⟨eA, hd, hp⟩ : _ ∧ _ ∧ _)); clear eA hd hp
      have hdv : (q : Int) / 10 = ((q / 10 : Nat) : Int) := by omega
      have HV := (show Hid _ from hdv); clear hdv
      generalize hS : bs l = sL at *
      generalize hT : bs [dg q] = sD at *
      have HST := (show Hid _ from (⟨hS, hT⟩ : _ ∧ _)); clear hS hT
      have hs1' : sD.size ≤ 1 := by omega
      clear hs1
      go_wp2_with fail
      refine ⟨⟨q / 10, dg q :: l, val_int HV.out, ?_, by simp; omega, by omega, ⟨HE.out.2.2, ?_⟩, hb2⟩, ?_⟩
      · rw [← HE.out.1]
      · exact HE.out.2.1.trans HD.out.2
      · rw [HV.out]; simp [intOf]; omega
    · have hs2 : (bs l).size ≤ 51 := by rw [bs_size]; omega
      have e1 : mt k = bs [109] ++ bs l := by
        unfold mt
        rw [← HD.out.2, show q = 0 by omega, dgF_zero, bs_append]
        rfl
      have HE := (show Hid _ from e1); clear e1
      go_wp2_with fail
      go_ret
      exact ⟨by rw [HE.out]; rfl, hbw⟩
/-- The same, of a number as it stands in the walk. -/
theorem markText_any (k : Int) (w : World) (h0 : 0 < k) (hk : k ≤ 1125899906842624) :
    Calls Tryd.prog 75 #[.int .i64 k] w fun e w' => ∃ s, e = .returned (.string s) ∧ s = mt k.toNat ∧ Below w.heap.size w w' := by
  obtain ⟨n, rfl⟩ := Int.eq_ofNat_of_zero_le (Int.le_of_lt h0)
  refine (markText_nat n (by omega) (by omega) w).mono ?_
  rintro e w' ⟨rfl, hb⟩
  exact ⟨_, rfl, by simp, hb⟩
end Go.Proofs.YtjpjjfgdgieapaaDoor

/-! Marks: numbers, texts, Terms, Prods, plain rules. -/
namespace Go.Proofs.YtjpjjfgdgieapaaDoor
open Go.RowKit Go.Deep
set_option linter.unusedVariables false
set_option maxRecDepth 100000
set_option linter.unusedSimpArgs false

/-- Numbers in the row b, which may be longer. -/
def OwnI (w : World) (b : Nat) (l : List Int) (v : Value) : Prop :=
  ∃ (a : Option Addr) (cap : Nat) (f : Nat → Value), v = .slice a l.length cap ∧ l.length ≤ cap ∧ cap ≤ maxLen ∧ (0 < l.length → a = some ⟨b, 0, none⟩ ∧ w.rowIs b 3 cap f) ∧ ∀ i (hi : i < l.length), f i = .int .i64 l[i]
theorem OwnI.keep {w w' : World} {b : Nat} {l : List Int} {v : Value} (h : OwnI w b l v) (hb : b < w.heap.size → w'.heap[b]? = w.heap[b]?) : OwnI w' b l v := by
  obtain ⟨a, cap, f, hv, hc, hm, ha, hf⟩ := h
  exact ⟨a, cap, f, hv, hc, hm, fun h0 => ⟨(ha h0).1, World.rowIs.of_block (ha h0).2 (hb (World.rowIs.lt (ha h0).2))⟩, hf⟩
theorem OwnI.still {w w' : World} {b : Nat} {l : List Int} {v : Value} (h : OwnI w b l v) (hb : Below w.heap.size w w') : OwnI w' b l v := h.keep (fun hlt => hb.block b hlt)
theorem OwnI.out {w w' : World} {b lo hi : Nat} {l : List Int} {v : Value} (h : OwnI w b l v) (ho : Out lo hi w w') (hb : b < lo ∨ hi ≤ b) : OwnI w' b l v := h.keep (fun hlt => ho.2.2.2.2 b hlt hb)
theorem OwnI.form {w : World} {b : Nat} {l : List Int} {v : Value} (h : OwnI w b l v) : ∃ a cap, v = .slice a l.length cap ∧ l.length ≤ maxLen := by
  obtain ⟨a, cap, f, hv, hc, hm, _⟩ := h
  exact ⟨_, _, hv, by omega⟩
theorem OwnI.ints {w : World} {b : Nat} {l : List Int} {v : Value} (h : OwnI w b l v) : Ints w (fun c => c = b) l v := by
  obtain ⟨a, cap, f, hv, hc, hm, ha, hf⟩ := h
  refine ⟨a, cap, b, 0, hv, hc, hm, fun h0 => ⟨(ha h0).1, rfl⟩, fun i hi => ?_⟩
  rw [Nat.zero_add, (ha (by omega)).2.cell (by omega), hf i hi]
theorem IRow.own {w : World} {b : Nat} {l : List Int} (h : IRow w b l) (hl : l.length ≤ maxLen) : OwnI w b l (.slice (some ⟨b, 0, none⟩) l.length l.length) :=
  ⟨_, _, _, rfl, Nat.le_refl _, hl, fun _ => ⟨rfl, h⟩, fun i hi => by simp [List.getD_eq_getElem?_getD, hi]⟩
/-- Numbers from n on. -/
def cntM (n m : Nat) : List Int := (List.range m).map fun i => ((n + i : Nat) : Int)
theorem cntM_len (n m : Nat) : (cntM n m).length = m := by simp [cntM]
theorem cntM_get (n m i : Nat) (h : i < (cntM n m).length) : (cntM n m)[i] = ((n + i : Nat) : Int) := by simp [cntM]

set_option maxHeartbeats 800000 in
theorem markInts_any (l : List Int) (b n : Nat) (v : Value) (w : World) (h : OwnI w b l v) (hn : n + l.length ≤ 1125899906842624) :
    Calls Tryd.prog 38 #[v, .int .i64 n] w fun e w' => e = .returned (.int .i64 (n + l.length : Nat)) ∧ Out b (b + 1) w w' ∧ OwnI w' b (cntM n l.length) v := by
  obtain ⟨a, cap, f0, rfl, hc, hm, ha, hf⟩ := h
  have HA := (show Hid _ from ha); clear ha
  clear hf
  unfold maxLen at hm
  go_enter Tryd.func38, Tryd.ntmps38
  go_wp2_with fail
  go_loopw [1, 5] (fun u i wr => ∃ (j : Nat), j ≤ l.length ∧ i = .int .i64 j ∧ u = .int .i64 (n + j : Nat) ∧ Out b (b + 1) w wr ∧ Hid (0 < l.length → ∃ f, wr.rowIs b 3 cap f ∧ ∀ i, i < j → f i = .int .i64 (n + i : Nat))) (fun _ i _ => l.length - (intOf i).toNat)
  case atStart => exact ⟨0, Nat.zero_le _, rfl, rfl, Out.refl _ _ _, fun h0 => ⟨_, (HA.out h0).2, fun i hi => absurd hi (Nat.not_lt_zero _)⟩⟩
  case round =>
    obtain ⟨j, hj, rfl, rfl, hout, HM⟩ := hrel
    by_cases hlt : j < l.length
    · obtain ⟨rfl, _⟩ := HA.out (by omega)
      obtain ⟨f, hrow, hf⟩ := HM.out (by omega)
      have e0 := hrow.cell (i := j) (by omega)
      have z0 := hrow.frozen j
      have HR := (show Hid _ from (⟨hrow, hf⟩ : _ ∧ _)); clear hrow hf
      go_wp2_with fail
      refine ⟨⟨j + 1, by omega, by go_num, by go_num, hout.trans (Out.set _ _ (Nat.le_refl _) (by omega)), fun _ => ⟨_, World.rowIs.set HR.out.1 j _, fun i hi => ?_⟩⟩, by simp [intOf]; omega⟩
      by_cases e : i = j
      · subst e; simp
      · rw [if_neg e]; exact HR.out.2 i (by omega)
    · obtain rfl : j = l.length := by omega
      go_wp2_with fail
      go_ret
      refine ⟨rfl, hout, ?_⟩
      by_cases h0 : 0 < l.length
      · obtain ⟨f, hrow, hf⟩ := HM.out h0
        refine ⟨a, cap, f, by rw [cntM_len], by rw [cntM_len]; exact hc, by unfold maxLen; omega, fun _ => ⟨(HA.out h0).1, hrow⟩, fun i hi => ?_⟩
        rw [cntM_get, hf i (by rw [cntM_len] at hi; exact hi)]
      · refine ⟨a, cap, fun _ => .bool false, by rw [cntM_len], by rw [cntM_len]; exact hc, by unfold maxLen; omega, fun h1 => absurd (by rw [cntM_len] at h1; exact h1) h0, fun i hi => absurd (by rw [cntM_len] at hi; omega) h0⟩
set_option maxHeartbeats 800000 in
theorem heldInts_any (b n m : Nat) (v : Value) (w : World) (h : OwnI w b (cntM n m) v) (hn : n + m ≤ 1125899906842624) :
    Calls Tryd.prog 41 #[v, .int .i64 n] w fun e w' => e = .returned (.int .i64 (n + m : Nat)) ∧ Below w.heap.size w w' := by
  obtain ⟨a, cap, c, off, hv, hc, hm, ha, hcell⟩ := h.ints
  rw [cntM_len] at hv hc ha
  subst hv
  have HC := (show Hid (∀ i, i < m → w.cell? ⟨c, off + i, none⟩ = some (.int .i64 (n + i : Nat))) from fun i hi => by
    have := hcell i (by rw [cntM_len]; exact hi)
    rw [cntM_get] at this
    exact this)
  clear hcell h
  have HA := (show Hid _ from ha); clear ha
  unfold maxLen at hm
  go_enter Tryd.func41, Tryd.ntmps41
  go_wp2_with fail
  go_loopw [1, 5] (fun u i wr => ∃ (j : Nat), j ≤ m ∧ i = .int .i64 j ∧ u = .int .i64 (n + j : Nat) ∧ wr = w) (fun _ i _ => m - (intOf i).toNat)
  case atStart => exact ⟨0, Nat.zero_le _, rfl, rfl, rfl⟩
  case round =>
    obtain ⟨j, hj, rfl, rfl, rfl⟩ := hrel
    by_cases hlt : j < m
    · obtain ⟨rfl, hcb⟩ := HA.out (by omega)
      clear hcb
      have c0 := HC.out j hlt
      have hne : (((n + j : Nat) : Int) != ((n + j : Nat) : Int)) = false := by simp
      go_wp2_with fail
      exact ⟨⟨j + 1, by omega, by go_num, by go_num, trivial⟩, by simp [intOf]; omega⟩
    · obtain rfl : j = m := by omega
      go_wp2_with fail
      go_ret
      exact ⟨rfl, Below.refl _ _⟩
set_option maxHeartbeats 800000 in
theorem markStrs_any (l b n : Nat) (w : World) (h : ∃ f, w.rowIs b 9 l f) (hl : l ≤ 1048576) (h0 : 0 < n) (hn : n + l ≤ 1125899906842624) :
    Calls Tryd.prog 35 #[.slice (some ⟨b, 0, none⟩) l l, .int .i64 n] w fun e w' => e = .returned (.int .i64 (n + l : Nat)) ∧ Out b (b + 1) w w' := by
  have HR0 := (show Hid _ from h); clear h
  go_enter Tryd.func35, Tryd.ntmps35
  go_wp2_with fail
  go_loopw [1, 5] (fun u i wr => ∃ (j : Nat), j ≤ l ∧ i = .int .i64 j ∧ u = .int .i64 (n + j : Nat) ∧ Out b (b + 1) w wr ∧ Hid (∃ f, wr.rowIs b 9 l f)) (fun _ i _ => l - (intOf i).toNat)
  case atStart => exact ⟨0, Nat.zero_le _, rfl, by simp, Out.refl _ _ _, HR0⟩
  case round =>
    obtain ⟨j, hj, rfl, rfl, hout, HM⟩ := hrel
    by_cases hlt : j < l
    · obtain ⟨f, hrow⟩ := HM.out
      clear HM
      have HR := (show Hid _ from hrow); clear hrow
      have HT := (show Hid _ from fun (k : Int) (w : World) (h0 : 0 < k) (hk : k ≤ 1125899906842624) => markText_any k w h0 hk)
      go_wp2_with fail
      refine Calls.mono (HT.out _ _ (by omega) (by omega)) ?_
      rintro e x0 ⟨s0, rfl, _, hb0⟩
      have HR0 := (show Hid _ from World.rowIs.of_block HR.out (hb0.block b (World.rowIs.lt HR.out)))
      have HO0 := (show Hid _ from Out.trans hout (Out.of_below hb0)); clear hb0
      have e0 := World.rowIs.cell HR0.out (i := j) (by omega)
      have z0 := World.rowIs.frozen HR0.out j
      go_wp2_with fail
      exact ⟨⟨j + 1, by omega, by go_num, by go_num, (Out.trans HO0.out (Out.set _ _ (Nat.le_refl _) (by omega))), _, (World.rowIs.set HR0.out j _)⟩, by simp [intOf]; omega⟩
    · obtain rfl : j = l := by omega
      go_wp2_with fail
      go_ret
      exact ⟨rfl, hout⟩
set_option maxHeartbeats 800000 in
theorem markTms_any (l b n : Nat) (w : World) (h : ∃ f, w.rowIs b 80 (l * 3) f) (hl : l ≤ 1048576) (h0 : 0 < n) (hn : n + l * 3 ≤ 1125899906842624) :
    Calls Tryd.prog 34 #[.slice (some ⟨b, 0, none⟩) l l, .int .i64 n] w fun e w' => e = .returned (.int .i64 (n + l * 3 : Nat)) ∧ Out b (b + 1) w w' := by
  have HR0 := (show Hid _ from h); clear h
  go_enter Tryd.func34, Tryd.ntmps34
  go_wp2_with fail
  go_loopw [1, 5] (fun u i wr => ∃ (j : Nat), j ≤ l ∧ i = .int .i64 j ∧ u = .int .i64 (n + j * 3 : Nat) ∧ Out b (b + 1) w wr ∧ Hid (∃ f, wr.rowIs b 80 (l * 3) f)) (fun _ i _ => l - (intOf i).toNat)
  case atStart => exact ⟨0, Nat.zero_le _, rfl, by simp, Out.refl _ _ _, HR0⟩
  case round =>
    obtain ⟨j, hj, rfl, rfl, hout, HM⟩ := hrel
    by_cases hlt : j < l
    · obtain ⟨f, hrow⟩ := HM.out
      clear HM
      have HR := (show Hid _ from hrow); clear hrow
      have HT := (show Hid _ from fun (k : Int) (w : World) (h0 : 0 < k) (hk : k ≤ 1125899906842624) => markText_any k w h0 hk)
      go_wp2_with fail
      refine Calls.mono (HT.out _ _ (by omega) (by omega)) ?_
      rintro e x0 ⟨s0, rfl, _, hb0⟩
      have HR0 := (show Hid _ from World.rowIs.of_block HR.out (hb0.block b (World.rowIs.lt HR.out)))
      have HO0 := (show Hid _ from Out.trans hout (Out.of_below hb0)); clear hb0
      have e0 := World.rowIs.cell HR0.out (i := j * 3) (by omega)
      have z0 := World.rowIs.frozen HR0.out (j * 3)
      have e1 := World.rowIs.cell HR0.out (i := j * 3 + 1) (by omega)
      have z1 := World.rowIs.frozen HR0.out (j * 3 + 1)
      have e2 := World.rowIs.cell HR0.out (i := j * 3 + 2) (by omega)
      have z2 := World.rowIs.frozen HR0.out (j * 3 + 2)
      go_wp2_with fail
      exact ⟨⟨j + 1, by omega, by go_num, by go_num, (Out.trans (Out.trans (Out.trans HO0.out (Out.set _ _ (Nat.le_refl _) (by omega))) (Out.set _ _ (Nat.le_refl _) (by omega))) (Out.set _ _ (Nat.le_refl _) (by omega))), _, (World.rowIs.set (World.rowIs.set (World.rowIs.set HR0.out (j * 3) _) (j * 3 + 1) _) (j * 3 + 2) _)⟩, by simp [intOf]; omega⟩
    · obtain rfl : j = l := by omega
      go_wp2_with fail
      go_ret
      exact ⟨rfl, hout⟩
end Go.Proofs.YtjpjjfgdgieapaaDoor
