import Derived.Test.YtanbdfeoijflaaaDoorMp
import Derived.Laws.Strings2
/-! Reading a program: a line, by the specification: what it comes to. -/
namespace Go.Proofs.YtanbdfeoijflaaaDoor
open Go.RowKit Go.Deep
set_option linter.unusedVariables false
set_option maxRecDepth 100000
set_option linter.unusedSimpArgs false

theorem bs_ext (s : List UInt8) (a b : Nat) : (bs s).extract a b = bs ((s.drop a).take (b - a)) := by
  apply ByteArray.ext
  simp [bs, ByteArray.data_extract, List.extract_eq_take_drop]
theorem slice_str (s : List UInt8) (a b : Nat) (h1 : a ≤ b) (h2 : b ≤ s.length) (w : World) : (Instr.slice 9 (.string (bs s)) (some (.int .i64 (a : Nat))) (some (.int .i64 (b : Nat))) none).run Tryd.prog w = .ok (.string (bs ((s.drop a).take (b - a)))) w := by
  have hsz := bs_size s
  rw [run_slice_string (P := Tryd.prog) (w := w) 9 (bs s) .i64 .i64 (a : Nat) (b : Nat) Tryd.underlying9 (by omega) (by omega) (by rw [hsz]; omega)]
  simp only [Int.toNat_natCast]
  rw [bs_ext]
theorem dig48 (b : UInt8) (w : World) : Calls Tryd.prog 48 #[.int .u8 (b.toNat : Nat)] w fun e w' => e = .returned (.bool (digB (b.toNat : Int))) ∧ w' = w := by
  obtain ⟨c, hc⟩ : ∃ c, b.toNat = c := ⟨_, rfl⟩
  rw [hc]
  by_cases h1 : 48 ≤ c <;> by_cases h2 : c ≤ 57 <;> first | (exfalso; omega) | skip
  all_goals
    go_enter Tryd.func48, Tryd.ntmps48
    go_wp2_with fail
    go_ret
    exact ⟨ret_bool (by simp [digB]; try omega), rfl⟩
/-- The words so far, and what is not yet a word. -/
structure WSo (s : List UInt8) (ws : List (List UInt8)) (fr i : Nat) : Prop where
  le : fr ≤ i
  sp : i ≤ s.length → spl 32 s = ws ++ spl 32 (s.drop fr)
  no : (32 : UInt8) ∉ (s.drop fr).take (i - fr)
  nx : i ≤ s.length + 1
  all : i = s.length + 1 → ws = spl 32 s
  len : ws.length ≤ i
theorem WSo.start (s : List UInt8) : WSo s [] 0 0 := ⟨Nat.le_refl _, fun _ => by simp, by simp, by omega, fun h => by omega, Nat.le_refl _⟩
theorem WSo.skip {s : List UInt8} {ws : List (List UInt8)} {fr i : Nat} (h : WSo s ws fr i) (hi : i < s.length) (hb : ¬ s[i] = 32) : WSo s ws fr (i + 1) := by
  have hl := h.le
  refine ⟨by omega, fun h2 => h.sp (by omega), ?_, by omega, fun e => by omega, by have := h.len; omega⟩
  have e : (s.drop fr).take (i + 1 - fr) = (s.drop fr).take (i - fr) ++ [s[i]] := by
    rw [show i + 1 - fr = (i - fr) + 1 by omega, List.take_succ_eq_append_getElem (by simp; omega)]
    congr 2
    rw [List.getElem_drop]
    congr 1
    omega
  rw [e]
  intro hm
  rcases List.mem_append.1 hm with hm | hm
  · exact h.no hm
  · exact hb (List.mem_singleton.1 hm).symm
theorem WSo.cut {s : List UInt8} {ws : List (List UInt8)} {fr i : Nat} (h : WSo s ws fr i) (hi : i < s.length) (hb : s[i] = 32) : WSo s (ws ++ [(s.drop fr).take (i - fr)]) (i + 1) (i + 1) := by
  have hl := h.le
  refine ⟨Nat.le_refl _, fun _ => ?_, by simp, by omega, fun e => by omega, by have := h.len; simp; omega⟩
  rw [h.sp (by omega)]
  have e : s.drop fr = (s.drop fr).take (i - fr) ++ 32 :: s.drop (i + 1) := by
    have e1 := (List.take_append_drop (i - fr) (s.drop fr)).symm
    rw [List.drop_drop, show fr + (i - fr) = i by omega, List.drop_eq_getElem_cons hi, hb] at e1
    exact e1
  have e2 : spl 32 (s.drop fr) = (s.drop fr).take (i - fr) :: spl 32 (s.drop (i + 1)) := by
    have := spl_at 32 (s.drop (i + 1)) ((s.drop fr).take (i - fr)) h.no
    rw [← e] at this
    exact this
  rw [e2]
  simp
theorem WSo.last {s : List UInt8} {ws : List (List UInt8)} {fr : Nat} (h : WSo s ws fr s.length) : WSo s (ws ++ [(s.drop fr).take (s.length - fr)]) (s.length + 1) (s.length + 1) := by
  have e : (s.drop fr).take (s.length - fr) = s.drop fr := List.take_of_length_le (by simp)
  refine ⟨Nat.le_refl _, fun e => by omega, by simp, by omega, fun _ => ?_, by have := h.len; simp; omega⟩
  have hn := h.no
  rw [e] at hn ⊢
  rw [h.sp (Nat.le_refl _), spl_no 32 _ hn]
/-- A word that is digits. -/
def dgW (x : List UInt8) : Prop := (1 ≤ x.length ∧ x.length ≤ 6) ∧ ∀ b ∈ x, digB (b.toNat : Int) = true
theorem rdl_words {s : List UInt8} (h : ¬ rdl s = none) : (spl 32 s).length ≤ 3 ∧ ∀ i (hi : i < (spl 32 s).length), 1 ≤ i → dgW (spl 32 s)[i] := by
  obtain ⟨x, hx⟩ := Option.ne_none_iff_exists'.1 h
  obtain ⟨k, m, q, rfl, hn, hs⟩ := rdl_some hx
  have e := spl_lnT k m q
  rw [hs] at e
  have hl := nmL_len k
  rw [e]
  refine ⟨by simp; omega, fun i hi h1 => ?_⟩
  obtain ⟨j, rfl⟩ : ∃ j, i = j + 1 := ⟨i - 1, by omega⟩
  simp only [List.getElem_cons_succ, List.getElem_map]
  refine numB_dig (dec_numB ?_)
  unfold nmV
  split
  · exact hn.m6
  · exact hn.q6
theorem rdl_long {s : List UInt8} (h : 3 < (spl 32 s).length) : rdl s = none := by
  apply Decidable.byContradiction
  intro hn
  have := (rdl_words hn).1
  omega
theorem rdl_bad {s : List UInt8} {i : Nat} (hi : i < (spl 32 s).length) (h1 : 1 ≤ i) (h : ¬ dgW (spl 32 s)[i]) : rdl s = none := by
  apply Decidable.byContradiction
  intro hn
  exact h ((rdl_words hn).2 i hi h1)
theorem vl_bound {x : List UInt8} (h : dgW x) : vlN x ≤ 999999 := by
  have hv := dec_vl x 0 h.2
  have hlt := Lib.decFrom_lt x 0 _ hv
  have h2 : 10 ^ x.length ≤ 10 ^ 6 := Nat.pow_le_pow_right (by decide) h.1.2
  have h3 : vlN x < (0 + 1) * 10 ^ x.length := hlt
  omega
/-- The instruction that an Op and numbers make. -/
def oN (ns : List Nat) (k : Nat) : Bool := decide (0 < ns.length) && (hnB (k : Int) || decide ((k : Int) = 10))
def oT (ns : List Nat) (k : Nat) : Bool := decide ((if oN ns k = true then 1 else 0) < ns.length) && htB (k : Int)
def opX (ns : List Nat) (k : Nat) : DIns := ⟨(k : Nat), ((if oN ns k = true then ns.getD 0 0 else 0 : Nat) : Int), ((if oT ns k = true then ns.getD (if oN ns k = true then 1 else 0) 0 else 0 : Nat) : Int)⟩
theorem opX_n (ns : List Nat) (k : Nat) (h : ∀ x ∈ ns, x ≤ 999999) (h1 : 1 ≤ k) (h2 : k ≤ 10) : LnN k (if oN ns k = true then ns.getD 0 0 else 0) (if oT ns k = true then ns.getD (if oN ns k = true then 1 else 0) 0 else 0) := by
  have hg : ∀ i, ns.getD i 0 ≤ 999999 := fun i => by
    by_cases hi : i < ns.length
    · rw [List.getD_eq_getElem?_getD, List.getElem?_eq_getElem hi]
      exact h _ (List.getElem_mem hi)
    · rw [List.getD_eq_getElem?_getD, List.getElem?_eq_none (by omega)]
      exact Nat.zero_le _
  refine ⟨h1, h2, ?_, ?_, fun hn => ?_, fun hn => ?_⟩
  · split
    · exact hg _
    · exact Nat.zero_le _
  · split
    · exact hg _
    · exact Nat.zero_le _
  · rw [if_neg]
    intro e
    unfold oN at e
    simp only [Bool.and_eq_true] at e
    apply hn
    unfold nmL
    rw [if_pos e.2]
    simp
  · rw [if_neg]
    intro e
    unfold oT at e
    simp only [Bool.and_eq_true] at e
    apply hn
    unfold nmL
    rw [if_pos e.2]
    simp
theorem rdl_op {s : List UInt8} {ns : List Nat} {k : Nat} (h : ∀ x ∈ ns, x ≤ 999999) (h1 : 1 ≤ k) (h2 : k ≤ 10) (hs : lnT (opX ns k) = s) : rdl s = some (opX ns k) := by
  rw [← hs]
  exact rdl_of (opX_n ns k h h1 h2)
theorem opX_of (k m q : Nat) (hn : LnN k m q) : opX ((nmL k).map fun o => nmV m q o) k = ⟨(k : Nat), (m : Nat), (q : Nat)⟩ := by
  have h0 := hn.m0
  have h1 := hn.q0
  unfold opX oT oN
  unfold nmL at h0 h1 ⊢
  generalize (hnB (k : Int) || decide ((k : Int) = 10)) = A at *
  generalize htB (k : Int) = N at *
  cases A <;> cases N <;> simp [nmV] at h0 h1 ⊢
  all_goals omega
theorem rdl_end {s : List UInt8} {ns : List Nat} (hns : (spl 32 s).tail.map vlN = ns) (h : ∀ k, 1 ≤ k → k ≤ 10 → lnT (opX ns k) ≠ s) : rdl s = none := by
  apply Decidable.byContradiction
  intro hne
  obtain ⟨x, hx⟩ := Option.ne_none_iff_exists'.1 hne
  obtain ⟨k, m, q, rfl, hn, hs⟩ := rdl_some hx
  have e := spl_lnT k m q
  rw [hs] at e
  rw [e] at hns
  have e2 : ns = (nmL k).map fun o => nmV m q o := by
    rw [← hns]
    simp only [List.tail_cons, List.map_map]
    apply List.map_congr_left
    intro o _
    exact (dec_facts _).2.2.2
  refine h k hn.k1 hn.k2 ?_
  rw [e2, opX_of k m q hn]
  exact hs
end Go.Proofs.YtanbdfeoijflaaaDoor
