import Derived.Test.YtboffildchoelaaPt
import Derived.Test.YtboffildchoelaaBxs
import Derived.Test.YtboffildchoelaaRight
import Derived.Deep.RegionHeld3
/-! The specification: l11Var, l03At, l11Vars, l11Pattern. -/
namespace Go.Proofs.Ytboffildchoelaa
open Go.RowKit Go.Deep Go.Lib
set_option linter.unusedVariables false
set_option maxRecDepth 100000
set_option linter.unusedSimpArgs false

theorem ne_bytes {a b : ByteArray} (h : ¬ a = b) : (a.toList == b.toList) = false := by
  rw [beq_eq_false_iff_ne]
  intro e
  rw [ByteArray.toList_eq, ByteArray.toList_eq] at e
  exact h (ByteArray.ext (Array.toList_inj.mp e))
theorem eqS_var (n : ByteArray) : (n.toList == [86, 97, 114]) = eqS n varN := by
  have hv : varN.toList = [86, 97, 114] := by rw [ByteArray.toList_eq]; rfl
  by_cases e : n = varN
  · subst e
    rw [eqS_refl, hv]
    rfl
  · rw [eqS_no e, ← hv]
    exact ne_bytes e
/-- Texts that lie behind a slice. -/
def SRow (w : World) (l : List ByteArray) (v : Value) : Prop :=
  ∃ (a : Option Addr) (cap b off : Nat), v = .slice a l.length cap ∧ l.length ≤ cap ∧ cap ≤ maxLen ∧ (0 < l.length → a = some ⟨b, off, none⟩) ∧ ∀ i (hi : i < l.length), w.cell? ⟨b, off + i, none⟩ = some (.string l[i])
abbrev strs (l : List ByteArray) : List Value := l.map Value.string
theorem own_srow {w : World} {B : Nat} {v : Value} {l : List ByteArray} (h : w.ownsRow B 9 1 v l.length (strs l)) : SRow w l v := by
  rcases h.2 with ⟨rfl, h0⟩ | ⟨g, cap, cur, rfl, hBg, hg, hnc, hcm, hcs, htk⟩
  · exact ⟨none, 0, 0, 0, by rw [h0], by omega, Nat.zero_le _, fun h => by omega, fun i hi => by omega⟩
  · refine ⟨some ⟨g, 0, none⟩, cap, g, 0, rfl, hnc, hcm, fun _ => rfl, fun i hi => ?_⟩
    rw [Nat.zero_add, World.ownsRow.cellAt h _ (by omega)]
    simp [hi]
theorem hasS_take {l : List ByteArray} {s : ByteArray} {j : Nat} (h : ∀ i (hi : i < l.length), i < j → ¬ l[i] = s) (hj : l.length ≤ j) : hasS l s = false := by
  unfold hasS
  rw [List.any_eq_false]
  intro x hx
  obtain ⟨i, hi, rfl⟩ := List.mem_iff_getElem.1 hx
  rw [eqS_no (h i hi (by omega))]
  simp
set_option maxHeartbeats 800000 in
theorem at80 (l : List ByteArray) (s : ByteArray) (v : Value) (w : World) (h : SRow w l v) :
    Calls Try.prog 30 #[v, .string s] w fun e w' => ∃ i : Int, e = .returned (.int .i64 i) ∧ decide (i < 0) = !(hasS l s) ∧ w' = w := by
  obtain ⟨a, cap, b, off, rfl, hc, hm, ha, hcell⟩ := h
  have HC := (show Hid _ from hcell); clear hcell
  have HA := (show Hid _ from ha); clear ha
  unfold maxLen at hm
  go_enter Try.func30, Try.ntmps30
  go_wp2_with fail
  go_loop [5] (fun i => ∃ j : Nat, i = .int .i64 j ∧ j ≤ l.length ∧ Hid (∀ i (hi : i < l.length), i < j → ¬ l[i] = s)) (fun i => l.length - (intOf i).toNat)
  case atStart => exact ⟨0, rfl, Nat.zero_le _, fun i _ h0 => absurd h0 (Nat.not_lt_zero _)⟩
  case round =>
    obtain ⟨j, rfl, hj, HJ⟩ := hrel
    by_cases hlt : j < l.length
    · obtain rfl := HA.out (by omega)
      have c1 := HC.out j hlt
      have q1 : (j : Int) < (l.length : Int) := by omega
      by_cases he : l[j] = s
      · have HH := (show Hid (hasS l s = true) from (by
          show hasS l s = true
          unfold hasS
          rw [List.any_eq_true]
          exact ⟨l[j], List.getElem_mem hlt, by rw [he]; exact eqS_refl s⟩))
        rw [he] at c1
        clear he
        go_wp2_with fail
        go_ret
        exact ⟨(j : Int), rfl, by rw [HH.out]; simp, rfl⟩
      · have hd := ne_bytes he
        have HN := (show Hid (∀ i (hi : i < l.length), i < j + 1 → ¬ l[i] = s) from fun i hi hij => by
          by_cases e : i = j
          · subst e; exact he
          · exact HJ.out i hi (by omega))
        generalize l[j] = y at *
        clear he HJ
        go_wp2_with fail
        go_round
        case rel => exact ⟨j + 1, by go_num, by omega, HN⟩
        case measure => simp [intOf]; omega
    · have HH := (show Hid (hasS l s = false) from hasS_take HJ.out (by omega))
      clear HJ
      go_wp2_with fail
      go_ret
      exact ⟨-1, rfl, by rw [HH.out]; rfl, rfl⟩
/-- What l11Vars leaves. -/
def VsA (t : Tr) (l : List ByteArray) (B : Nat) (lv : Value) (w : World) (e : Ending) (w' : World) : Prop :=
  ∃ (la : Option Addr) (lc : Nat), e = .returned (.tuple #[.slice la (vsT t l).1.length lc, .bool (vsT t l).2]) ∧ GW w w' lv (.slice la (vsT t l).1.length lc) ∧ w'.ownsRow B 9 1 (.slice la (vsT t l).1.length lc) (vsT t l).1.length (strs (vsT t l).1)
theorem info9s : (Try.prog.info? 9).map (fun i => (i.zero, i.size, i.bytes)) = some (some (.string ByteArray.empty), 1, 16) := by kernel_rfl
/-- What stands while the variables of the Kids are gathered. -/
structure LvI (w : World) (B : Nat) (n x : ByteArray) (lf : Bool) (kv u0 : Value) (lj : List ByteArray) (u : Value) (wr : World) : Prop where
  gw : GW w wr u0 u
  row : wr.ownsRow B 9 1 u lj.length (strs lj)
  bx : Box wr w.heap.size 42 [.string n, .string x, .bool lf, kv]
  ne : u.ownBlock ≠ some w.heap.size
theorem LvI.below {w : World} {B : Nat} {n x : ByteArray} {lf : Bool} {kv u0 : Value} {lj l : List ByteArray} {u : Value} {wr : World} (h : LvI w B n x lf kv u0 lj u wr) (hB : B ≤ w.heap.size) (ho : w.ownsRow B 9 1 u0 l.length (strs l)) : Below B w wr := h.gw.below hB (fun g hg => (World.ownsRow.lt ho g hg).1)
theorem LvI.next {w : World} {B : Nat} {n x : ByteArray} {lf : Bool} {kv u0 : Value} {lj lj' : List ByteArray} {u u' : Value} {wr w2 : World} (h : LvI w B n x lf kv u0 lj u wr) (hg : GW wr w2 u u') (ho : w2.ownsRow B 9 1 u' lj'.length (strs lj')) : LvI w B n x lf kv u0 lj' u' w2 := by
  have hl := h.bx.lt
  refine ⟨h.gw.trans hg, ho, h.bx.keep (hg.g.block _ hl (fun e => h.ne e.symm)), fun e => ?_⟩
  rcases hg.at' with e1 | ⟨q, e1, hq⟩
  · rw [e1] at e; exact h.ne e
  · rw [e1] at e
    injection e with e
    omega
theorem Tr.cntL_drop (k : List Tr) (j : Nat) (h : j < k.length) : Tr.cntL (k.drop j) = k[j].cnt + Tr.cntL (k.drop (j + 1)) := by
  rw [List.drop_eq_getElem_cons h]
  unfold Tr.cntL
  rw [List.map_cons, List.sum_cons]
theorem ok_cnt {t : Tr} (h : t.ok = true) : t.cnt ≤ 1000 := by
  unfold Tr.ok at h
  simp only [Bool.and_eq_true, decide_eq_true_eq] at h
  omega
end Go.Proofs.Ytboffildchoelaa
