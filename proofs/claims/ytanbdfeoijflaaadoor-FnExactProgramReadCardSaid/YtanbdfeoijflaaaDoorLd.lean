import Derived.Test.YtanbdfeoijflaaaDoorLc
import Derived.Maps.AppendAt
import Derived.Lib.AppendStr
/-! A program as text: the specification's ProgramShow. -/
namespace Go.Proofs.YtanbdfeoijflaaaDoor
open Go.RowKit Go.Deep Go.Lib
set_option linter.unusedVariables false
set_option maxRecDepth 100000
set_option linter.unusedSimpArgs false

/-- What is answered. -/
def shR (l : List DIns) : ByteArray × Int := if pgB l = false then (⟨#[]⟩, 1) else if 400000 < (shL l).length then (⟨#[]⟩, 3) else (bs (shL l), 0)
theorem btB_iff {x a b : Int} (h : btB x a b = true) : a ≤ x ∧ x ≤ b := by
  unfold btB at h
  simpa using h
theorem pg_ln {l : List DIns} (h : pgB l = true) : l.length ≤ 50000 ∧ ∀ i (hi : i < l.length), LnOK l[i] := by
  unfold pgB at h
  simp only [Bool.and_eq_true, List.all_eq_true] at h
  have h1 := btB_iff h.1
  refine ⟨by omega, fun i hi => ?_⟩
  have h2 := h.2.1 l[i] (List.getElem_mem hi)
  unfold inB at h2
  simp only [Bool.and_eq_true] at h2
  obtain ⟨h3, h4, h5⟩ := h2
  have h6 := btB_iff h3
  have h7 := btB_iff h4
  have h8 : mxT l[i].op l.length ≤ 50000 := by unfold mxT; split <;> omega
  refine ⟨h6, ?_, by omega⟩
  unfold nnB at h5
  split at h5
  · simp only [Bool.or_eq_true, decide_eq_true_eq] at h5
    omega
  · split at h5
    · have := btB_iff h5; omega
    · simp only [decide_eq_true_eq] at h5; omega
theorem shL_succ {l : List DIns} {j : Nat} (hj : j < l.length) : shL (l.take (j + 1)) = (shL (l.take j) ++ lnT l[j]) ++ [10] := by
  unfold shL
  rw [List.take_succ_eq_append_getElem hj, List.flatMap_append]
  simp [lnL]
theorem shL_len {l : List DIns} (h : ∀ i (hi : i < l.length), LnOK l[i]) : ∀ j, j ≤ l.length → (shL (l.take j)).length ≤ 60 * j := by
  intro j
  induction j with
  | zero => intro _; simp [shL]
  | succ j ih =>
    intro hj
    have h1 := ih (by omega)
    have h2 := ln_len (h j (by omega))
    rw [shL_succ (by omega)]
    unfold lnL at h2
    simp only [List.length_append, List.length_singleton] at h2 ⊢
    omega
theorem info5b : (Tryd.prog.info? 5).map (fun i => (i.zero, i.size, i.bytes)) = some (some (.int .u8 0), 1, 1) := by kernel_rfl
theorem own_ne {w : World} {B e z n : Nat} {v : Value} {xs : List Value} (h : w.ownsRow B e z v n xs) : ∃ a cap, v = .slice a n cap := by
  rcases h.2 with ⟨rfl, h0⟩ | ⟨g, cp, cur, r1, r2⟩
  · exact ⟨none, 0, by rw [h0]⟩
  · exact ⟨_, _, r1⟩
/-- Bytes of a text behind a row; one byte behind it. -/
theorem append_txt {w : World} {B : Nat} {v : Value} {xs : List UInt8} (hown : w.ownsRow B 5 1 v xs.length (byteCells xs)) (ys : List UInt8) (ty : TypeId) (h63 : xs.length + ys.length ≤ 140737488355328) (hbase : B ≤ w.heap.size) :
    ∃ a c w', (Builtin.append_ #[35, 9] ty #[v, .string (bs ys)]).run Tryd.prog w = .ok (.slice a (xs ++ ys).length c) w' ∧ w'.ownsRow B 5 1 (.slice a (xs ++ ys).length c) (xs ++ ys).length (byteCells (xs ++ ys)) ∧ w.grownBy w' v.ownBlock := by
  obtain ⟨i5, hi5, hzz⟩ := Option.map_eq_some_iff.1 info5b
  simp only [Prod.mk.injEq] at hzz
  obtain ⟨hz0, hz1, hz2⟩ := hzz
  have hsz : (bs ys).size = ys.length := bs_size ys
  obtain ⟨v', w', hr, h2, h3, h4⟩ := run_append_own_string (P := Tryd.prog) w B 35 9 ty 5 i5 Tryd.underlying35 Tryd.underlying9 hi5 hz0 hz1 hz2 v xs.length (byteCells xs) hown (bs ys) (by unfold maxLen; omega) (by omega) hbase
  have e1 : xs.length + (bs ys).size = (xs ++ ys).length := by rw [hsz, List.length_append]
  have e2 : byteCells xs ++ strCells (bs ys) = byteCells (xs ++ ys) := by simp [byteCells, strCells, bs]
  rw [e1, e2] at h2
  obtain ⟨a, c, rfl⟩ := own_ne h2
  exact ⟨a, c, w', hr, h2, h3⟩
theorem append_byte {w : World} {B g : Nat} {v : Value} {xs : List UInt8} (b : UInt8) (hown : w.ownsRow B 5 1 v xs.length (byteCells xs)) (ty : TypeId) (hu : w.cell? ⟨g, 0, none⟩ = some (.int .u8 b.toNat)) (h63 : xs.length + 1 ≤ 140737488355328) (hbase : B ≤ w.heap.size) :
    ∃ a c w', (Builtin.append_ #[35, 35] ty #[v, .slice (some ⟨g, 0, none⟩) 1 1]).run Tryd.prog w = .ok (.slice a (xs ++ [b]).length c) w' ∧ w'.ownsRow B 5 1 (.slice a (xs ++ [b]).length c) (xs ++ [b]).length (byteCells (xs ++ [b])) ∧ w.grownBy w' v.ownBlock := by
  obtain ⟨i5, hi5, hzz⟩ := Option.map_eq_some_iff.1 info5b
  simp only [Prod.mk.injEq] at hzz
  obtain ⟨hz0, hz1, hz2⟩ := hzz
  have hnews : ∀ j y, [Value.int .u8 b.toNat][j]? = some y → w.cell? ((⟨g, 0, none⟩ : Addr).add j) = some y := fun j y hj => by
    cases j with
    | zero =>
      simp at hj
      subst hj
      exact hu
    | succ j => simp at hj
  obtain ⟨v', w', hr, h2, h3, h4, h5⟩ := run_append_own_at (P := Tryd.prog) w B 35 ty 5 i5 (.int .u8 0) 1 1 Tryd.underlying35 hi5 hz0 hz1 hz2 rfl (by decide) v xs.length (byteCells xs) hown ⟨g, 0, none⟩ 1 1 [.int .u8 b.toNat] rfl hnews (fun y hy => by simp at hy; subst hy; rfl) (by unfold maxLen; omega) (by omega) hbase
  have e1 : xs.length + 1 = (xs ++ [b]).length := by rw [List.length_append]; rfl
  have e2 : byteCells xs ++ [.int .u8 b.toNat] = byteCells (xs ++ [b]) := by simp [byteCells]
  rw [e1, e2] at h2
  obtain ⟨a, c, rfl⟩ := own_ne h2
  exact ⟨a, c, w', hr, h2, h3⟩
theorem wpList_append_run {P : Program} (w : World) {ops : Array Oper} {rest : List Oper} {o : Oper} {a : Act} {Q : Exit → Act → World → Prop} (hgd : o.guard = none) (s x : Operand) (t u : TypeId)
    (ho : o.op = .call { callee := .builtin .append, args := #[s, x], argTypes := #[t, u] }) {v xv v' : Value} {w' : World} (hs : a.eval s = v) (hx : a.eval x = xv) (hr : (Builtin.append_ #[t, u] o.type #[v, xv]).run P w = .ok v' w')
    (h : wpList P ops Q rest (a.put o.dst v') w') : wpList P ops Q (o :: rest) a w :=
  wpList_plain hgd fun _ hK => by
    unfold Oper.wp execOp
    simp only [ho, resolve, invoke, builtin, Sem.run_bind, Sem.run_pure, Result.andThen_ok, List.map_toArray, List.map_cons, List.map_nil, hs, hx, hr]
    exact hK _ _ h
/-- A text that grows: in a row of its own; below it all is as it was. -/
structure TxA (B : Nat) (w0 W : World) (v : Value) (xs : List UInt8) : Prop where
  own : W.ownsRow B 5 1 v xs.length (byteCells xs)
  bel : Below B w0 W
  bz : B ≤ W.heap.size
theorem TxA.grown {B : Nat} {w0 W W1 W2 : World} {v v' : Value} {xs ys : List UInt8} (h : TxA B w0 W v xs) (hb : Below W.heap.size W W1) (hg : W1.grownBy W2 v.ownBlock) (ho : W2.ownsRow B 5 1 v' ys.length (byteCells ys)) : TxA B w0 W2 v' ys := by
  have hl := World.ownsRow.lt h.own
  have hb1 : Below B w0 W1 := h.bel.trans (hb.mono h.bz)
  exact ⟨ho, hb1.grown hg (by have := hb.size; have := h.bz; omega) (fun k hk => (hl k hk).1), by have := hb.size; have := hg.size; have := h.bz; omega⟩
theorem TxA.still {B : Nat} {w0 W W1 : World} {v : Value} {xs : List UInt8} (h : TxA B w0 W v xs) (hb : Below W.heap.size W W1) : TxA B w0 W1 v xs :=
  ⟨own_keep1 h.own (fun k e => hb.block k (World.ownsRow.lt h.own k e).2), h.bel.trans (hb.mono h.bz), by have := hb.size; have := h.bz; omega⟩
set_option maxHeartbeats 6400000 in
/-- The specification's ProgramShow. -/
theorem sShow6 {S : Nat → Prop} (l : List DIns) (v : Value) (w : World) (h : InsR w S l v) :
    Calls Tryd.prog 6 #[v] w fun e w' => e = .returned (.tuple #[.string (shR l).1, .int .i64 (shR l).2]) ∧ Below w.heap.size w w' := by
  have HP := (show Hid (Calls Tryd.prog 14 #[v] w fun e w' => e = .returned (.bool (pgB l)) ∧ Below w.heap.size w w') from sPg9 l v w h)
  have hform := h.form
  obtain ⟨a, cap, rfl, hlen⟩ := hform
  have HI := (show Hid (∀ w', Below w.heap.size w w' → InsR w' S l (.slice a l.length cap)) from fun w' hb => h.still hb)
  clear h
  unfold maxLen at hlen
  cases hpg : pgB l
  · have e : shR l = (⟨#[]⟩, 1) := by unfold shR; rw [if_pos hpg]
    rw [e]
    rw [hpg] at HP
    clear e hpg
    go_enter Tryd.func6, Tryd.ntmps6
    go_wp2_with fail
    refine Calls.mono HP.out ?_
    rintro e w1 ⟨rfl, hb1⟩
    go_wp2_with fail
    refine bodyPost_ret (v := .tuple #[.string ⟨#[]⟩, .int .i64 1]) (by simp [results, Tryd.results6, go_sem]) rfl ?_
    exact ⟨rfl, hb1⟩
  · obtain ⟨hl5, hln⟩ := pg_ln hpg
    have HLN := (show Hid _ from hln)
    have HLL := (show Hid (∀ j, j ≤ l.length → (shL (l.take j)).length ≤ 60 * j) from shL_len hln)
    have HSH := (show Hid (shR l = if 400000 < (shL l).length then (⟨#[]⟩, 3) else (bs (shL l), 0)) from by show _ = _; unfold shR; rw [if_neg (by rw [hpg]; simp)])
    rw [hpg] at HP
    clear hpg hln
    generalize shR l = R at *
    go_enter Tryd.func6, Tryd.ntmps6
    go_wp2_with fail
    refine Calls.mono HP.out ?_
    rintro e w1 ⟨rfl, hb1⟩
    have H0 := (show Hid (TxA w.heap.size w (w1.alloc (.cells #[] 5)) (.slice (some ⟨w1.heap.size, 0, none⟩) 0 0) []) from ⟨World.ownsRow_lit (base := w.heap.size) (e := 5) (size := 1) w1 #[] 0 hb1.size (Nat.zero_le _) rfl, hb1.trans ((bel_alloc w1 _).mono hb1.size), by have := hb1.size; simp; omega⟩)
    clear hb1 HP
    go_wp2_with fail
    go_loopw [4, 5] (fun u i wr => ∃ (j : Nat) (ta : Option Addr) (tc : Nat), j ≤ l.length ∧ i = .int .i64 (j : Nat) ∧ u = .slice ta (shL (l.take j)).length tc ∧ Hid (TxA w.heap.size w wr (.slice ta (shL (l.take j)).length tc) (shL (l.take j)))) (fun _ i _ => l.length - (intOf i).toNat)
    case atStart => exact ⟨0, _, _, Nat.zero_le _, rfl, rfl, H0.out⟩
    case round =>
      obtain ⟨j, ta, tc, hj, rfl, rfl, HT⟩ := hrel
      by_cases hlt : j < l.length
      · obtain ⟨a', cap', b, off, he, hc, hm, ha, hcell⟩ := HI.out wr HT.out.bel
        injection he with he1 _ he3
        subst he1 he3
        obtain ⟨rfl, _⟩ := ha (by omega)
        obtain ⟨c0, c1, c2⟩ := hcell j hlt
        have HL := (show Hid _ from line15 l[j] (HLN.out j hlt) wr)
        have hl1 := HLL.out j hj
        have hl2 := HLL.out (j + 1) (by omega)
        rw [shL_succ hlt] at hl2
        have hX3 := shL_succ hlt
        obtain ⟨X2, hX2⟩ : ∃ X2, shL (l.take j) ++ lnT l[j] = X2 := ⟨_, rfl⟩
        rw [hX2] at hl2 hX3
        have HST := (show Hid (∀ w3, Below wr.heap.size wr w3 → ∃ ta2 tc2 w4, (Builtin.append_ #[35, 9] 35 #[.slice ta (shL (l.take j)).length tc, .string (bs (lnT l[j]))]).run Tryd.prog w3 = .ok (.slice ta2 X2.length tc2) w4 ∧ TxA w.heap.size w w4 (.slice ta2 X2.length tc2) X2) from fun w3 hb3 => by
          have h3 := HT.out.still hb3
          simp only [List.length_append, List.length_singleton] at hl2
          have hz := congrArg List.length hX2
          rw [List.length_append] at hz
          obtain ⟨ta2, tc2, w4, hr, hown, hgr⟩ := append_txt h3.own (lnT l[j]) 35 (by omega) h3.bz
          rw [hX2] at hr hown
          exact ⟨ta2, tc2, w4, hr, h3.grown (Below.refl _ _) hgr hown⟩)
        obtain ⟨X3, hX3e⟩ : ∃ X3, X2 ++ [10] = X3 := ⟨_, rfl⟩
        rw [hX3e] at hX3 hl2
        have HSU := (show Hid (∀ w4 ta2 tc2, TxA w.heap.size w w4 (.slice ta2 X2.length tc2) X2 → ∃ ta3 tc3 w5, (Builtin.append_ #[35, 35] 35 #[.slice ta2 X2.length tc2, .slice (some ⟨w4.heap.size, 0, none⟩) 1 1]).run Tryd.prog (w4.alloc (.cells #[.int .u8 10] 5)) = .ok (.slice ta3 X3.length tc3) w5 ∧ TxA w.heap.size w w5 (.slice ta3 X3.length tc3) X3) from fun w4 ta2 tc2 h4 => by
          have h5 := h4.still (bel_alloc w4 (.cells #[.int .u8 10] 5))
          have hz := congrArg List.length hX3e
          rw [List.length_append] at hz
          simp only [List.length_singleton] at hz
          obtain ⟨ta3, tc3, w5, hr, hown, hgr⟩ := append_byte (g := w4.heap.size) 10 h5.own 35 (by simp [go_sem]) (by omega) h5.bz
          rw [hX3e] at hr hown
          exact ⟨ta3, tc3, w5, hr, h5.grown (Below.refl _ _) hgr hown⟩)
        have HX3 := (show Hid (shL (l.take (j + 1)) = X3) from hX3)
        clear hX2 hX3 hX3e hcell ha hc hm HI HLN HLL hl1 hl2 HT HSH
        generalize shL (l.take j) = X1 at *
        generalize lnT l[j] = LT at *
        generalize bs LT = sL at *
        generalize X1.length = n1 at *
        generalize l[j].op = x0 at *
        generalize l[j].n = x1 at *
        generalize l[j].to_ = x2 at *
        go_wp2_with fail
        refine Calls.mono HL.out ?_
        rintro e w3 ⟨rfl, hb3⟩
        obtain ⟨ta2, tc2, w4, hr4, h4⟩ := HST.out w3 hb3
        obtain ⟨ta3, tc3, w5, hr5, h5⟩ := HSU.out w4 ta2 tc2 h4
        have HR4 := (show Hid _ from hr4)
        have HR5 := (show Hid _ from hr5)
        have HE := (show Hid (TxA w.heap.size w w5 (.slice ta3 X3.length tc3) X3) from h5)
        clear hr4 hr5 h4 h5 hb3 HST HSU c0 c1 c2 HL
        generalize X2.length = n2 at *
        go_wp2_with (first
          | (at_builtin; refine wpList_append_run _ rfl (.tmp 16) (.tmp 21) 35 9 rfl rfl rfl HR4.out ?_)
          | (at_builtin; refine wpList_append_run _ rfl (.tmp 23) (.tmp 24) 35 35 rfl rfl rfl HR5.out ?_))
        refine ⟨⟨j + 1, ta3, tc3, by omega, by go_num, by rw [HX3.out], ?_⟩, by simp [intOf]; omega⟩
        rw [HX3.out]
        exact HE.out
      · obtain rfl : j = l.length := by omega
        rw [List.take_length] at HT ⊢
        have hcv := conv_own HT.out.own
        have HE := (show Hid (Below w.heap.size w wr) from HT.out.bel)
        have HS := (show Hid _ from HSH.out)
        clear HT HLL HLN HI HSH H0
        by_cases hbig : 400000 < (shL l).length
        · rw [if_pos hbig] at HS
          have hd : decide ((400000 : Int) < ((shL l).length : Int)) = true := by simp; omega
          generalize (shL l).length = n at *
          go_wp2_with fail
          refine bodyPost_ret (v := .tuple #[.string ⟨#[]⟩, .int .i64 3]) (by simp [results, Tryd.results6, go_sem]) rfl ?_
          exact ⟨by rw [HS.out], HE.out⟩
        · rw [if_neg hbig] at HS
          have hd : decide ((400000 : Int) < ((shL l).length : Int)) = false := by simp; omega
          generalize bs (shL l) = sX at *
          generalize (shL l).length = n at *
          go_wp2_with fail
          refine bodyPost_ret (v := .tuple #[.string sX, .int .i64 0]) (by simp [results, Tryd.results6, go_sem]) rfl ?_
          exact ⟨by rw [HS.out], HE.out⟩
end Go.Proofs.YtanbdfeoijflaaaDoor
