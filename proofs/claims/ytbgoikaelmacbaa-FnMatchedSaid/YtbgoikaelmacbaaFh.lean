import Derived.Test.YtbgoikaelmacbaaChecked
import Derived.Test.YtbgoikaelmacbaaBase
import Derived.Outline
import Derived.Test.YtbgoikaelmacbaaGrow
import Derived.Test.YtbgoikaelmacbaaEq
import Derived.Test.YtbgoikaelmacbaaBg
import Derived.Test.YtbgoikaelmacbaaPq
namespace Go.Proofs.Ytbgoikaelmacbaa
set_option linter.unusedVariables false
set_option linter.unusedSimpArgs false
open Go.RowKit

/-- What is left of 'left' behind so much: -1 where it is not enough. -/
def szR (n : Nat) (left : Int) : Int := if (n : Int) ≤ left then left - n else -1

theorem szR_yes {n : Nat} {left : Int} (h : (n : Int) ≤ left) : szR n left = left - n := if_pos h
theorem szR_no {n : Nat} {left : Int} (h : left < n) : szR n left = -1 := if_neg (by omega)

end Go.Proofs.Ytbgoikaelmacbaa

/-! Rows of trees; whether all are right. -/
namespace Go.Proofs.Ytbgoikaelmacbaa
open Go.RowKit Go.Deep
set_option linter.unusedVariables false
set_option maxRecDepth 100000
set_option linter.unusedSimpArgs false

/-- Trees that lie behind a slice, all in blocks of S. -/
def Trs (w : World) (S : Nat → Prop) (k : List Tr) (v : Value) : Prop :=
  ∃ (a : Option Addr) (cap b off : Nat) (sv : Nat → Value), v = .slice a k.length cap ∧ k.length ≤ cap ∧ cap ≤ maxLen ∧ (0 < k.length → a = some ⟨b, off, none⟩ ∧ S b) ∧
    (∀ i (hi : i < k.length), w.cell? ⟨b, off + i * 4, none⟩ = some (.string k[i].name) ∧ w.cell? ⟨b, off + i * 4 + 1, none⟩ = some (.string k[i].text) ∧ w.cell? ⟨b, off + i * 4 + 2, none⟩ = some (.bool k[i].leaf) ∧ w.cell? ⟨b, off + i * 4 + 3, none⟩ = some (sv i)) ∧
    ∀ i (hi : i < k.length), Lies w S k[i] (sv i)
theorem Trs.still {w w' : World} {S : Nat → Prop} {k : List Tr} {v : Value} (h : Trs w S k v) (hb : Below w.heap.size w w') : Trs w' S k v := by
  obtain ⟨a, cap, b, off, sv, hv, hc, hm, ha, hcell, hr⟩ := h
  refine ⟨a, cap, b, off, sv, hv, hc, hm, ha, fun i hi => ?_, fun i hi => (hr i hi).still hb⟩
  obtain ⟨c0, c1, c2, c3⟩ := hcell i hi
  exact ⟨(hb.cell (lt_of_cell c0)).trans c0, (hb.cell (lt_of_cell c1)).trans c1, (hb.cell (lt_of_cell c2)).trans c2, (hb.cell (lt_of_cell c3)).trans c3⟩
theorem Trs.form {w : World} {S : Nat → Prop} {k : List Tr} {v : Value} (h : Trs w S k v) : ∃ a cap, v = .slice a k.length cap ∧ k.length ≤ maxLen := by
  obtain ⟨a, cap, b, off, sv, hv, hc, hm, _⟩ := h
  exact ⟨_, _, hv, by omega⟩
/-- They may be shared. -/
def tksB (k : List Tr) : Bool := decide (k.length ≤ 20) && k.all Tr.ok
set_option maxHeartbeats 1600000 in
theorem allOK34 {S : Nat → Prop} (k : List Tr) (v : Value) (w : World) (h : Trs w S k v) :
    Calls Try.prog 56 #[v, .func (.func 25) #[] #[]] w fun e w' => e = .returned (.bool (k.all Tr.ok)) ∧ Below w.heap.size w w' := by
  obtain ⟨a, cap, b, off, sv, rfl, hc, hm, ha, hcell, hr⟩ := h
  have HC := (show Hid _ from hcell); clear hcell
  have HA := (show Hid _ from ha); clear ha
  have HR := (show Hid _ from hr); clear hr
  unfold maxLen at hm
  generalize hRes : k.all Tr.ok = R
  have HRes := (show Hid _ from hRes); clear hRes
  go_enter Try.func56, Try.ntmps56
  go_wp2_with fail
  go_loopw [9] (fun i wr => ∃ j : Nat, i = .int .i64 j ∧ j ≤ k.length ∧ Hid (∀ i (hi : i < k.length), i < j → k[i].ok = true) ∧ Below w.heap.size w wr) (fun i _ => k.length - (intOf i).toNat)
  case atStart => exact ⟨0, rfl, Nat.zero_le _, fun i hi h0 => absurd h0 (Nat.not_lt_zero _), Below.refl _ _⟩
  case round =>
    obtain ⟨j, rfl, hj, HJ, hbel⟩ := hrel
    by_cases hjl : j < k.length
    · obtain ⟨rfl, _⟩ := HA.out (by omega)
      obtain ⟨c0, c1, c2, c3⟩ := HC.out j hjl
      rw [← hbel.cell (lt_of_cell c0)] at c0
      rw [← hbel.cell (lt_of_cell c1)] at c1
      rw [← hbel.cell (lt_of_cell c2)] at c2
      rw [← hbel.cell (lt_of_cell c3)] at c3
      have hl := HR.out j hjl
      have hcl := fun (w' : World) (hb : Below w.heap.size w w') => iOK_any k[j] (sv j) w' (hl.still hb)
      obtain ⟨a3, l3, p3, e3⟩ := hl.form
      simp only [Tr.val] at hcl
      rw [e3] at c3 hcl
      clear e3 hl
      have HCL := (show Hid _ from hcl); clear hcl
      generalize hB : k[j].ok = B at HCL
      have HB := (show Hid _ from hB); clear hB
      have HNX := (show Hid (B = true → ∀ i (hi : i < k.length), i < j + 1 → k[i].ok = true) from fun h i hi hij => by
        by_cases e : i = j
        · subst e; exact HB.out.trans h
        · exact HJ.out i hi (by omega))
      have HFX := (show Hid (B = false → R = false) from fun h => by
        rw [← HRes.out, List.all_eq_false]
        exact ⟨k[j], List.getElem_mem hjl, by rw [HB.out, h]; simp⟩)
      generalize k[j].name = nm at *
      generalize k[j].text = tx at *
      generalize k[j].leaf = lf at *
      cases B
      · have HF := (show Hid (R = false) from HFX.out rfl)
        go_wp2_with fail
        go_at_call 25
        refine Calls.mono (HCL.out _ (hbel.alloc hbel.size _)) ?_
        rintro e w1 ⟨rfl, hb1⟩
        have HE := (show Hid _ from bel_trans (hbel.alloc hbel.size _) hb1); clear hb1 c0 c1 c2 c3 hbel
        go_wp2_with fail
        go_ret
        exact ⟨by rw [HF.out]; rfl, HE.out⟩
      · have HN := (show Hid _ from HNX.out rfl)
        go_wp2_with fail
        go_at_call 25
        refine Calls.mono (HCL.out _ (hbel.alloc hbel.size _)) ?_
        rintro e w1 ⟨rfl, hb1⟩
        have HE := (show Hid _ from bel_trans (hbel.alloc hbel.size _) hb1); clear hb1 c0 c1 c2 c3 hbel
        go_wp2_with fail
        exact ⟨⟨j + 1, by go_num, by omega, HN, HE.out⟩, by simp [intOf]; omega⟩
    · have HF := (show Hid (R = true) from by
        show R = true
        rw [← HRes.out, List.all_eq_true]
        intro x hx
        obtain ⟨i, hi, rfl⟩ := List.mem_iff_getElem.1 hx
        exact HJ.out i hi (by omega))
      go_wp2_with fail
      go_ret
      exact ⟨by rw [HF.out]; rfl, hbel⟩
end Go.Proofs.Ytbgoikaelmacbaa

/-! The law: binds that came in are measured and copied. -/
namespace Go.Proofs.Ytbgoikaelmacbaa
open Go.RowKit Go.Deep Go.Lib
set_option linter.unusedVariables false
set_option maxRecDepth 100000
set_option linter.unusedSimpArgs false

/-- How much binds hold. -/
def bwL (bl : List (ByteArray × Tr)) : Nat := (bl.map fun b => b.1.size + b.2.wt).sum
def bwt (bl : List (ByteArray × Tr)) : Nat := bl.length + bwL bl
theorem bwL_append (a b : List (ByteArray × Tr)) : bwL (a ++ b) = bwL a + bwL b := by simp [bwL]
theorem bwL_take_succ (bl : List (ByteArray × Tr)) (i : Nat) (h : i < bl.length) : bwL (bl.take (i + 1)) = bwL (bl.take i) + (bl[i].1.size + bl[i].2.wt) := by
  rw [List.take_succ_eq_append_getElem h, bwL_append]; simp [bwL]
theorem bwL_take_le (bl : List (ByteArray × Tr)) (i : Nat) : bwL (bl.take i) ≤ bwL bl := by
  have h := bwL_append (bl.take i) (bl.drop i)
  rw [List.take_append_drop] at h; omega
theorem bwL_mem (bl : List (ByteArray × Tr)) (i : Nat) (h : i < bl.length) : bl[i].1.size + bl[i].2.wt ≤ bwL bl := by
  have h1 := bwL_take_succ bl i h
  have h2 := bwL_take_le bl (i + 1)
  omega
/-- What the loop of toBindS has made of the first j binds. -/
def MadeB (bl : List (ByteArray × Tr)) (g : Nat) (j : Nat) (wr : World) : Prop :=
  ∃ (f : Nat → Value) (l h : Nat → Nat), wr.rowIs g 47 (bl.length * 5) f ∧
    (∀ i (_ : i < j) (hi : i < bl.length), f (i * 5) = .string bl[i].1 ∧ f (i * 5 + 1) = .string bl[i].2.name ∧ f (i * 5 + 2) = .string bl[i].2.text ∧ f (i * 5 + 3) = .bool bl[i].2.leaf) ∧
    (∀ i (_ : i < j) (hi : i < bl.length), Own wr (l i) (h i) bl[i].2 (f (i * 5 + 4))) ∧ (∀ i, i < j → g < l i ∧ h i ≤ wr.heap.size) ∧ ∀ i i', i < i' → i' < j → h i ≤ l i'
theorem madeB_step {bl : List (ByteArray × Tr)} {g j : Nat} {wr w1 : World} (hj : j < bl.length) (hM : MadeB bl g j wr) (hg : g < wr.heap.size) (hb1 : Below wr.heap.size wr w1) {v : Value} (hl : Own w1 wr.heap.size w1.heap.size bl[j].2 v) :
    MadeB bl g (j + 1) (((((w1.setCell ⟨g, j * 5, none⟩ (.string bl[j].1)).setCell ⟨g, j * 5 + 1, none⟩ (.string bl[j].2.name)).setCell ⟨g, j * 5 + 2, none⟩ (.string bl[j].2.text)).setCell ⟨g, j * 5 + 3, none⟩ (.bool bl[j].2.leaf)).setCell ⟨g, j * 5 + 4, none⟩ v) := by
  obtain ⟨f, l, h, hrow, hcs, hls, hr, hd⟩ := hM
  have hrow1 := hrow.of_block (hb1.block _ hrow.lt)
  have hs := hb1.size
  refine ⟨_, fun i => if i = j then wr.heap.size else l i, fun i => if i = j then w1.heap.size else h i, ((((hrow1.set _ _).set _ _).set _ _).set _ _).set _ _, fun i hi hk => ?_, fun i hi hk => ?_, fun i hi => ?_, fun i i' hii hi' => ?_⟩
  · by_cases e : i = j
    · subst e; simp
    · obtain ⟨q0, q1, q2, q3⟩ := hcs i (by omega) hk
      refine ⟨?_, ?_, ?_, ?_⟩
      · rw [if_neg (by omega), if_neg (by omega), if_neg (by omega), if_neg (by omega), if_neg (by omega)]; exact q0
      · rw [if_neg (by omega), if_neg (by omega), if_neg (by omega), if_neg (by omega), if_neg (by omega)]; exact q1
      · rw [if_neg (by omega), if_neg (by omega), if_neg (by omega), if_neg (by omega), if_neg (by omega)]; exact q2
      · rw [if_neg (by omega), if_neg (by omega), if_neg (by omega), if_neg (by omega), if_neg (by omega)]; exact q3
  · by_cases e : i = j
    · subst e
      simp only [if_true]
      exact ((((hl.past (.inl hg)).past (.inl hg)).past (.inl hg)).past (.inl hg)).past (.inl hg)
    · rw [if_neg (by omega), if_neg (by omega), if_neg (by omega), if_neg (by omega), if_neg (by omega)]
      simp only [if_neg e]
      have hlt := (hr i (by omega)).1
      exact ((((((hls i (by omega) hk).still hb1).past (.inl hlt)).past (.inl hlt)).past (.inl hlt)).past (.inl hlt)).past (.inl hlt)
  · by_cases e : i = j
    · subst e; simp; exact hg
    · simp only [if_neg e]; have := hr i (by omega); simp; omega
  · by_cases e : i' = j
    · subst e
      simp only [if_true]
      rw [if_neg (by omega)]
      exact (hr i (by omega)).2
    · dsimp only; rw [if_neg e, if_neg (by omega)]; exact hd i i' hii (by omega)
theorem madeB_bgr {bl : List (ByteArray × Tr)} {g : Nat} {w : World} (h : MadeB bl g bl.length w) (hk : bl.length ≤ maxLen) : BGr bl g bl.length (.slice (some ⟨g, 0, none⟩) bl.length bl.length) w := by
  obtain ⟨f, l, h, ⟨c, hc1, hc2, hc3⟩, hcs, hls, hr, hd⟩ := h
  refine ⟨fun i => f (i * 5 + 4), l, h, ⟨bcs_len _ _ _, .inr ⟨g, bl.length, c, rfl, Nat.le_refl _, hc1, Nat.le_refl _, hk, hc2, ?_⟩⟩, fun i hi => by rw [nb_eq hi]; exact hls i hi hi, fun i hi => ⟨Nat.le_of_lt (hr i hi).1, (hr i hi).2, fun q hq => ?_⟩, hd⟩
  · rw [List.take_of_length_le (by simp [hc2])]
    apply List.ext_getElem?
    intro q
    rw [Array.getElem?_toList]
    by_cases hq : q < bl.length * 5
    · rw [hc3 q hq]
      have hi : q / 5 < bl.length := by omega
      obtain ⟨g0, g1, g2, g3, g4⟩ := bcs_get bl (fun i => f (i * 5 + 4)) bl.length (q / 5) hi
      obtain ⟨q0, q1, q2, q3⟩ := hcs (q / 5) hi hi
      rw [nb_eq hi] at g0 g1 g2 g3
      have hm : q % 5 = 0 ∨ q % 5 = 1 ∨ q % 5 = 2 ∨ q % 5 = 3 ∨ q % 5 = 4 := by omega
      rcases hm with e | e | e | e | e
      · have e2 : q = q / 5 * 5 := by omega
        rw [← e2] at g0 q0
        rw [g0, q0]
      · have e2 : q = q / 5 * 5 + 1 := by omega
        rw [← e2] at g1 q1
        rw [g1, q1]
      · have e2 : q = q / 5 * 5 + 2 := by omega
        rw [← e2] at g2 q2
        rw [g2, q2]
      · have e2 : q = q / 5 * 5 + 3 := by omega
        rw [← e2] at g3 q3
        rw [g3, q3]
      · have e2 : q = q / 5 * 5 + 4 := by omega
        rw [← e2] at g4
        rw [g4]
    · rw [List.getElem?_eq_none (by rw [bcs_len]; omega)]
      simp
      omega
  · simp [Value.ownBlock] at hq
    subst hq
    exact .inl (hr i hi).1
/-- 'make([]Bind, n)'. -/
theorem run_makeBinds (n : Nat) (hn : n ≤ 1048576) (w : World) :
    (Instr.makeSlice 29 (.int .i64 (n : Int)) (.int .i64 (n : Int))).run Try.prog w = .ok (.slice (some ⟨w.heap.size, 0, none⟩) n n) (w.alloc (.cells (madeCells #[.string ByteArray.empty, .string ByteArray.empty, .string ByteArray.empty, .bool false, .slice none 0 0] (n * 5)) 47)) := by
  obtain ⟨i, hi, hz, hs, hb⟩ := info_parts info62s
  have hr := run_make (P := Try.prog) w 29 47 i _ Try.underlying29 hi hz .i64 .i64 n n (by omega) (Int.le_refl _) (by rw [hb]; omega) (by omega)
  simp only [Int.toNat_natCast, hs] at hr
  exact hr
end Go.Proofs.Ytbgoikaelmacbaa
