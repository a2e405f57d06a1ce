import Derived.Test.YtblfeifedcddnaaRt
import Derived.Test.YtblfeifedcddnaaPu
import Derived.BigQuiet
/-! Nodes in memory; whether two are the same (the specification). -/
namespace Go.Proofs.Ytblfeifedcddnaa
open Go.RowKit Go.Deep
set_option linter.unusedVariables false
set_option maxRecDepth 100000
set_option linter.unusedSimpArgs false

theorem ne_bytes {a b : ByteArray} (h : ¬ a = b) : (a.toList == b.toList) = false := by
  rw [beq_eq_false_iff_ne]
  intro e
  rw [ByteArray.toList_eq, ByteArray.toList_eq] at e
  exact h (ByteArray.ext (Array.toList_inj.mp e))
set_option maxHeartbeats 1600000 in
theorem sameInts47 {S S' : Nat → Prop} (l l' : List Int) (v v' : Value) (w : World) (h : Ints w S l v) (h' : Ints w S' l' v') :
    Calls Try.prog 60 #[v, v'] w fun e w' => e = .returned (.bool (decide (l = l'))) ∧ Below w.heap.size w w' := by
  obtain ⟨a, cap, b, off, rfl, hc, hm, ha, hcell⟩ := h
  obtain ⟨a', cap', b', off', rfl, hc', hm', ha', hcell'⟩ := h'
  have HC := (show Hid _ from hcell); clear hcell
  have HC' := (show Hid _ from hcell'); clear hcell'
  have HA := (show Hid _ from ha); clear ha
  have HA' := (show Hid _ from ha'); clear ha'
  unfold maxLen at hm hm'
  by_cases hlen : l.length = l'.length
  case neg =>
    have hd : ((l.length : Int) != (l'.length : Int)) = true := by simp; omega
    have HF := (show Hid (decide (l = l') = false) from decide_eq_false (fun e => hlen (by rw [e])))
    clear hlen
    go_enter Try.func60, Try.ntmps60
    go_wp2_with fail
    go_ret
    exact ⟨by rw [HF.out]; rfl, Below.refl _ _⟩
  have hd : ((l.length : Int) != (l'.length : Int)) = false := by simp; omega
  have hle : l.length ≤ l'.length := by omega
  have hge : l'.length ≤ l.length := by omega
  clear hlen
  generalize hRes : decide (l = l') = R
  have HRes := (show Hid _ from hRes); clear hRes
  go_enter Try.func60, Try.ntmps60
  go_wp2_with fail
  go_loopw [5] (fun i wr => ∃ j : Nat, i = .int .i64 j ∧ j ≤ l.length ∧ Hid (∀ i (hi : i < l.length) (hi' : i < l'.length), i < j → l[i] = l'[i]) ∧ Hid (Below w.heap.size w wr)) (fun i _ => l.length - (intOf i).toNat)
  case atStart => exact ⟨0, rfl, Nat.zero_le _, fun i _ _ h0 => absurd h0 (Nat.not_lt_zero _), Below.refl _ _⟩
  case round =>
    obtain ⟨j, rfl, hj, HJ, HB⟩ := hrel
    by_cases hlt : j < l.length
    · have hlt' : j < l'.length := by omega
      obtain ⟨rfl, _⟩ := HA.out (by omega)
      obtain ⟨rfl, _⟩ := HA'.out (by omega)
      have c1 := HC.out j hlt
      have c2 := HC'.out j hlt'
      rw [← HB.out.cell (lt_of_cell c1)] at c1
      rw [← HB.out.cell (lt_of_cell c2)] at c2
      have HNX := (show Hid (l[j] = l'[j] → ∀ i (hi : i < l.length) (hi' : i < l'.length), i < j + 1 → l[i] = l'[i]) from fun h i hi hi' hij => by
        by_cases e : i = j
        · subst e; exact h
        · exact HJ.out i hi hi' (by omega))
      have HFX := (show Hid (l[j] ≠ l'[j] → R = false) from fun h => by
        rw [← HRes.out]
        refine decide_eq_false (fun e => h ?_)
        subst e
        rfl)
      generalize l[j] = y at *
      generalize l'[j] = y' at *
      have q1 : (0 : Int) ≤ (j : Int) := by omega
      have q2 : (j : Int) < (l.length : Int) := by omega
      have q3 : (j : Int) < (l'.length : Int) := by omega
      by_cases he : y = y'
      · have hb : (y != y') = false := by simp [he]
        have HN := (show Hid _ from HNX.out he)
        clear he
        go_wp2_with fail
        go_quiet (fail)
        go_wp2_with fail
        exact ⟨⟨j + 1, by go_num, by omega, HN, ⟨HB.out.os, HB.out.tape, HB.out.output, HB.out.size, HB.out.block⟩⟩, by simp [intOf]; omega⟩
      · have hb : (y != y') = true := by simp [he]
        have HF := (show Hid _ from HFX.out he)
        clear he
        go_wp2_with fail
        go_quiet (fail)
        go_wp2_with fail
        go_ret
        exact ⟨by rw [HF.out]; rfl, ⟨HB.out.os, HB.out.tape, HB.out.output, HB.out.size, HB.out.block⟩⟩
    · have HF := (show Hid (R = true) from by
        show R = true
        rw [← HRes.out]
        refine decide_eq_true (List.ext_getElem (by omega) (fun i h1 h2 => HJ.out i h1 h2 (by omega)))) 
      go_wp2_with fail
      go_ret
      exact ⟨by rw [HF.out]; rfl, HB.out⟩
/-- Numbers, as the program holds them. -/
def ins (l : List Nat) : List Int := l.map fun (n : Nat) => (n : Int)
theorem ins_inj {a b : List Nat} : ins a = ins b ↔ a = b := by
  unfold ins
  constructor
  · intro h
    exact (List.map_inj_right (f := fun (n : Nat) => (n : Int)) (fun x y e => Int.ofNat.inj e)).1 h
  · rintro rfl; rfl
/-- A node as a value, its Kids behind v. -/
def Nd.val (n : Nd) (v : Value) : Value := .agg #[.string n.nm, .string n.tx, .bool n.lf, v]
set_option maxHeartbeats 1600000 in
theorem sameNode48 {S S' : Nat → Prop} (x y : Nd) (v v' : Value) (w : World) (h : Ints w S (ins x.ks) v) (h' : Ints w S' (ins y.ks) v') :
    Calls Try.prog 61 #[x.val v, y.val v'] w fun e w' => e = .returned (.bool (ndB x y)) ∧ Below w.heap.size w w' := by
  have hb2 : Below w.heap.size w ((w.alloc (.cells #[.string x.nm, .string x.tx, .bool x.lf, v] 93)).alloc (.cells #[.string y.nm, .string y.tx, .bool y.lf, v'] 93)) := (bel_alloc _ _).alloc (by simp) _
  have HB2 := (show Hid _ from hb2)
  have HS := (show Hid _ from sameInts47 (ins x.ks) (ins y.ks) v v' _ (h.still hb2) (h'.still hb2))
  have HE := (show Hid (ndB x y = (decide (x.nm = y.nm) && (decide (x.tx = y.tx) && (decide (x.lf = y.lf) && decide (ins x.ks = ins y.ks))))) from by
    show ndB x y = _
    have e1 : ∀ a b : ByteArray, decide (a.data = b.data) = decide (a = b) := fun a b => by
      obtain ⟨a⟩ := a
      obtain ⟨b⟩ := b
      simp
    unfold ndB
    rw [e1, e1]
    simp [ins_inj])
  obtain ⟨a1, l1, p1, rfl⟩ := h.form
  obtain ⟨a2, l2, p2, rfl⟩ := h'.form
  clear h h' hb2
  unfold Nd.val
  generalize ndB x y = R at *
  generalize decide (ins x.ks = ins y.ks) = K at *
  obtain ⟨xn, xt, xl, xk⟩ := x
  obtain ⟨yn, yt, yl, yk⟩ := y
  dsimp only at *
  by_cases e1 : xn = yn
  · subst e1
    by_cases e2 : xt = yt
    · subst e2
      by_cases e3 : xl = yl
      · subst e3
        have HF := (show Hid (R = K) from (by show R = K; rw [HE.out]; simp))
        go_enter Try.func61, Try.ntmps61
        go_wp2_with fail
        refine Calls.mono HS.out ?_
        rintro e w1 ⟨rfl, hb1⟩
        have HN := (show Hid _ from HB2.out.trans (hb1.mono HB2.out.size)); clear hb1
        go_wp2_with fail
        go_ret
        exact ⟨by rw [HF.out]; rfl, HN.out⟩
      · have HF := (show Hid (R = false) from (by show R = false; rw [HE.out]; simp [e3]))
        have hd : (xl == yl) = false := by simpa using e3
        go_enter Try.func61, Try.ntmps61
        go_wp2_with fail
        go_ret
        exact ⟨by rw [HF.out]; rfl, HB2.out⟩
    · have HF := (show Hid (R = false) from (by show R = false; rw [HE.out]; simp [e2]))
      have hd2 := ne_bytes e2
      go_enter Try.func61, Try.ntmps61
      go_wp2_with fail
      go_ret
      exact ⟨by rw [HF.out]; rfl, HB2.out⟩
  · have HF := (show Hid (R = false) from (by show R = false; rw [HE.out]; simp [e1]))
    have hd2 := ne_bytes e1
    go_enter Try.func61, Try.ntmps61
    go_wp2_with fail
    go_ret
    exact ⟨by rw [HF.out]; rfl, HB2.out⟩
end Go.Proofs.Ytblfeifedcddnaa
