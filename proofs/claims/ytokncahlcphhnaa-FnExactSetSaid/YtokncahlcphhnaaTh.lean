import Derived.Test.YtokncahlcphhnaaTg
/-! A layout as text: the program's index of a group, and a line. -/
namespace Go.Proofs.Ytokncahlcphhnaa
open Go.RowKit Go.Deep
set_option linter.unusedVariables false
set_option maxRecDepth 100000
set_option linter.unusedSimpArgs false

theorem gpl_pre (l : List DLNode) (i : Nat) : ∀ d, ∃ r, gpl l (i + d) = gpl l i ++ r := by
  intro d
  induction d with
  | zero => exact ⟨[], by simp⟩
  | succ d ih =>
    obtain ⟨r, hr⟩ := ih
    by_cases h : (l.getD (i + d) zN).kind = 6
    · exact ⟨r ++ [((i + d : Nat) : Int)], by rw [← Nat.add_assoc, gpl_yes h, hr, List.append_assoc]⟩
    · exact ⟨r, by rw [← Nat.add_assoc, gpl_no h, hr]⟩
theorem gpl_mem {l : List DLNode} {i : Nat} {x : Int} (h : x ∈ gpl l i) : x < (i : Int) := by
  unfold gpl at h
  obtain ⟨j, hj, rfl⟩ := List.mem_map.1 h
  have := List.mem_range.1 (List.mem_filter.1 hj).1
  omega
/-- Where a group stands among the groups. -/
theorem gpl_at {l : List DLNode} {i : Nat} (hi : i < l.length) (hk : l[i].kind = 6) : ∃ (h : (gpl l i).length < (gpl l l.length).length), (gpl l l.length)[(gpl l i).length] = (i : Int) ∧ ∀ j (hj : j < (gpl l i).length), (gpl l l.length)[j]'(by omega) ≠ (i : Int) := by
  obtain ⟨r, hr⟩ := gpl_pre l (i + 1) (l.length - (i + 1))
  rw [show i + 1 + (l.length - (i + 1)) = l.length by omega, gpl_yes (by rw [getZ hi]; exact hk)] at hr
  refine ⟨gpl_lt hi hk, ?_, fun j hj => ?_⟩
  · simp [hr]
  · have e : (gpl l l.length)[j]'(by have := gpl_lt hi hk; omega) = (gpl l i)[j] := by
      simp only [hr]
      rw [List.getElem_append_left (by simp; omega), List.getElem_append_left hj]
    rw [e]
    have := gpl_mem (List.getElem_mem hj)
    omega
set_option maxHeartbeats 800000 in
theorem index75 {S : Nat → Prop} (ks : List Int) (v : Value) (x : Int) (m : Nat) (w : World) (h : Ints w S ks v) (hm : m < ks.length) (hx : ks[m] = x) (hne : ∀ j (hj : j < m), ks[j]'(by omega) ≠ x) :
    Calls Try.prog 75 #[v, .int .i64 x] w fun e w' => e = .returned (.int .i64 m) ∧ w' = w := by
  obtain ⟨a, cap, b, off, rfl, hc, hcm, ha, hcell⟩ := h
  have HC := (show Hid _ from hcell); clear hcell
  have HX := (show Hid _ from hx); clear hx
  have HNE := (show Hid _ from hne); clear hne
  obtain ⟨rfl, _⟩ := ha (by omega)
  unfold maxLen at hcm
  go_enter Try.func75, Try.ntmps75
  go_wp2_with fail
  go_loopw [8] (fun i wr => ∃ j : Nat, i = .int .i64 j ∧ j ≤ m ∧ wr = w) (fun i _ => m - (intOf i).toNat)
  case atStart => exact ⟨0, rfl, Nat.zero_le _, rfl⟩
  case round =>
    obtain ⟨j, rfl, hj, rfl⟩ := hrel
    have c0 := HC.out j (by omega)
    by_cases hjm : j = m
    · subst hjm
      rw [HX.out] at c0
      have hbx : (x == x) = true := by simp
      go_wp2_with fail
      go_ret
      exact ⟨rfl, rfl⟩
    · have hn := HNE.out j (by omega)
      generalize ks[j]'(by omega) = y at *
      have hb : (x == y) = false := by rw [beq_eq_false_iff_ne]; exact fun e => hn e.symm
      clear hn
      go_wp2_with fail
      exact ⟨⟨j + 1, by go_num, by omega, trivial⟩, by simp [intOf]; omega⟩
theorem meth_feed (v : Value) (w : World) : (method 262 76 v "loop.example/g00037/impl.feed").run Try.prog w = .ok (103, v) w := by kernel_rfl
theorem meth_put (v : Value) (w : World) : (method 262 76 v "loop.example/g00037/impl.put").run Try.prog w = .ok (104, v) w := by kernel_rfl
/-- The setter's box. -/
def SBx (w : World) (q p : Nat) (nv gv bv : Value) : Prop := Box w q 99 [nv, gv, bv, .iface 76 (.pointer (some ⟨p, 0, none⟩))]
set_option maxHeartbeats 1600000 in
theorem line74 (q p ind : Nat) (kd : Int) (flat : Bool) (nv gv bv : Value) (xs : List UInt8) (g : Option Nat) (a : Option Addr) (c : Nat) (w : World) (h : St w p 74 [] xs g a c) (hq : SBx w q p nv gv bv) (hind : ind ≤ 100000) (hl : xs.length + ind ≤ 900000000) :
    Calls Try.prog 74 #[.pointer (some ⟨q, 0, none⟩), .int .i64 kd, .int .i64 ind, .bool flat] w (Wr p 74 [] xs (lnT kd ind flat) g w) := by
  have q3 : w.cell? ⟨q, 3, none⟩ = some (.iface 76 (.pointer (some ⟨p, 0, none⟩))) := hq.cell 3 (by simp)
  have HF := (show Hid _ from feed103 p ind xs g a c w h hind hl)
  have HP := (show Hid _ from put104 p { data := #[32] } xs g a c w h (by show xs.length + 1 ≤ _; omega))
  have HR := (show Hid (St w p 74 [] (xs ++ []) g a c) from by rw [List.append_nil]; exact h)
  have hmf := meth_feed
  have hmp := meth_put
  clear h hq
  cases flat
  · have HT := (show Hid (lnT kd ind false = fdT ind) from rfl)
    generalize lnT kd ind false = T at *
    go_enter Try.func74, Try.ntmps74
    go_wp2_with fail
    go_at_call 103
    refine Calls.mono HF.out ?_
    rintro e w1 ⟨rfl, g1, a1, c1, hst, hmv⟩
    have HS := (show Hid (_ ∧ _) from ⟨hst, hmv⟩); clear hst hmv
    go_wp2_with fail
    refine bodyPost_end (v := .tuple #[]) (by simp [results, Try.results74]) rfl ?_
    exact ⟨rfl, _, _, _, by rw [HT.out]; exact HS.out.1, HS.out.2⟩
  · by_cases hk : kd = 2
    · subst hk
      go_enter Try.func74, Try.ntmps74
      go_wp2_with fail
      go_at_call 104
      refine Calls.mono HP.out ?_
      rintro e w1 ⟨rfl, g1, a1, c1, hst, hmv⟩
      have HS := (show Hid (_ ∧ _) from ⟨hst, hmv⟩); clear hst hmv
      go_wp2_with fail
      refine bodyPost_end (v := .tuple #[]) (by simp [results, Try.results74]) rfl ?_
      exact ⟨rfl, _, _, _, HS.out.1, HS.out.2⟩
    · have HT := (show Hid (lnT kd ind true = []) from by show _ = _; unfold lnT; rw [if_pos rfl, if_neg hk])
      generalize lnT kd ind true = T at *
      go_enter Try.func74, Try.ntmps74
      go_wp2_with fail
      refine bodyPost_end (v := .tuple #[]) (by simp [results, Try.results74]) rfl ?_
      exact ⟨rfl, _, _, _, by rw [HT.out]; exact HR.out, Mv.refl _ _ _⟩
end Go.Proofs.Ytokncahlcphhnaa
