import Derived.Test.YtanbdfeoijflaaaDoorLf
import Derived.Deep.RegionHeldLaw
/-! A program as text: the program's line. -/
namespace Go.Proofs.YtanbdfeoijflaaaDoor
open Go.RowKit Go.Deep Go.Lib
set_option linter.unusedVariables false
set_option maxRecDepth 100000
set_option linter.unusedSimpArgs false

/-- The numbers of an instruction, as text. -/
def nmV (m q o : Nat) : Nat := if o = 1 then m else q
def nmX (m q : Nat) (ls : List Nat) : List UInt8 := ls.flatMap fun o => 32 :: decDigits (nmV m q o)
theorem lnT_nm (k m q : Nat) : lnT ⟨k, m, q⟩ = (rwS k).data.toList ++ nmX m q (nmL k) := by
  unfold lnT nmL nmX
  simp only [Int.toNat_natCast]
  generalize (hnB (k : Int) || decide ((k : Int) = 10)) = A
  generalize htB (k : Int) = N
  cases A <;> cases N <;> simp [nmV]
theorem nmX_succ {m q : Nat} {ls : List Nat} {j : Nat} (hj : j < ls.length) : nmX m q (ls.take (j + 1)) = (nmX m q (ls.take j) ++ [32]) ++ decDigits (nmV m q ls[j]) := by
  unfold nmX
  rw [List.take_succ_eq_append_getElem hj, List.flatMap_append]
  simp
theorem nmL_mem {k j : Nat} (hj : j < (nmL k).length) : (nmL k)[j] = 1 ∨ (nmL k)[j] = 2 := by
  have h := List.getElem_mem hj
  generalize (nmL k)[j] = o at *
  unfold nmL at h
  revert h
  generalize (hnB (k : Int) || decide ((k : Int) = 10)) = A
  generalize htB (k : Int) = N
  cases A <;> cases N <;> simp
  all_goals (intro h; omega)
theorem nmL_len (k : Nat) : (nmL k).length ≤ 2 := by
  unfold nmL
  generalize (hnB (k : Int) || decide ((k : Int) = 10)) = A
  generalize htB (k : Int) = N
  cases A <;> cases N <;> simp
/-- What the call's own boxes hold, wherever only bytes were added. -/
structure Bx (W' : World) (g : Nat) (s : ByteArray) (v1 v2 v3 v4 : Value) (k m q : Nat) : Prop where
  e44 : W'.heap[g]? = some (.cells #[.string s, v1, v2, v3, v4] 44 (0, 0))
  e38 : W'.heap[g + 1]? = some (.cells #[.int .i64 (k : Nat), .int .i64 (m : Nat), .int .i64 (q : Nat)] 38 (0, 0))
theorem Bx.new (w : World) (s : ByteArray) (v1 v2 v3 v4 : Value) (k m q : Nat) : Bx ((w.alloc (.cells #[.string s, v1, v2, v3, v4] 44)).alloc (.cells #[.int .i64 (k : Nat), .int .i64 (m : Nat), .int .i64 (q : Nat)] 38)) w.heap.size s v1 v2 v3 v4 k m q := by
  constructor
  · rw [(bel_alloc (w.alloc (.cells #[.string s, v1, v2, v3, v4] 44)) _).block w.heap.size (by simp)]
    exact heap_alloc_last _ _
  · have := heap_alloc_last (w.alloc (.cells #[.string s, v1, v2, v3, v4] 44)) (.cells #[.int .i64 (k : Nat), .int .i64 (m : Nat), .int .i64 (q : Nat)] 38)
    simpa using this
theorem Bx.kept {W W' : World} {g : Nat} {s : ByteArray} {v1 v2 v3 v4 : Value} {k m q : Nat} (h : Bx W g s v1 v2 v3 v4 k m q) (hk : OthersKept 5 none W W') : Bx W' g s v1 v2 v3 v4 k m q :=
  ⟨hk _ _ h.e44 (by simp) (fun c fz h => by injection h with _ h1 _; cases h1), hk _ _ h.e38 (by simp) (fun c fz h => by injection h with _ h1 _; cases h1)⟩
theorem Bx.cells {W : World} {g : Nat} {s : ByteArray} {v1 v2 v3 v4 : Value} {k m q : Nat} (h : Bx W g s v1 v2 v3 v4 k m q) : W.cell? ⟨g, 0, none⟩ = some (.string s) ∧ W.cell? ⟨g, 1, none⟩ = some v1 ∧ W.cell? ⟨g, 2, none⟩ = some v2 ∧ W.cell? ⟨g, 3, none⟩ = some v3 ∧ W.cell? ⟨g, 4, none⟩ = some v4 :=
  ⟨cell_of_row W g 0 _ 44 (0, 0) h.e44, cell_of_row W g 1 _ 44 (0, 0) h.e44, cell_of_row W g 2 _ 44 (0, 0) h.e44, cell_of_row W g 3 _ 44 (0, 0) h.e44, cell_of_row W g 4 _ 44 (0, 0) h.e44⟩
theorem Bx.num {W : World} {g : Nat} {s : ByteArray} {v1 v2 v3 v4 : Value} {k m q o : Nat} (h : Bx W g s v1 v2 v3 v4 k m q) (ho : o = 1 ∨ o = 2) : W.cell? ⟨g + 1, o, none⟩ = some (.int .i64 (nmV m q o : Nat)) := by
  rcases ho with rfl | rfl
  · exact cell_of_row W (g + 1) 1 _ 38 (0, 0) h.e38
  · exact cell_of_row W (g + 1) 2 _ 38 (0, 0) h.e38
theorem step_append_run {P : Program} {ops : Array Oper} {o : Oper} {a : Act} {w : World} {K : Act → World → Prop} {Q : Exit → Act → World → Prop} {E : Prop} (hg : o.guard = none) (s x : Operand) (t u : TypeId) (hop : o.op = Op.call { callee := Callee.builtin Builtin.append, args := #[s, x], argTypes := #[t, u] })
    {v xv v' : Value} {w' : World} (hs : a.eval s = v) (hx : a.eval x = xv) (hr : (Builtin.append_ #[t, u] o.type #[v, xv]).run P w = .ok v' w') (hK : K (a.put o.dst v') w') : if Region.wanted o (yielded ops a.tmps) = true then Oper.wp P o a w K Q else E := by
  have hw : Region.wanted o (yielded ops a.tmps) = true := by simp [Region.wanted, hg]
  rw [if_pos hw]
  unfold Oper.wp
  simp [execOp, hop, resolve, invoke, builtin, hs, hx, hr, Result.andThen]
  exact hK
theorem TxA.drew {B : Nat} {w0 W : World} {v : Value} {xs : List UInt8} (h : TxA B w0 W v xs) : TxA B w0 W.drew v xs := ⟨h.own, h.bel.drew, h.bz⟩
set_option maxHeartbeats 6400000 in
/-- The program's line. -/
theorem show19 (k m q : Nat) (h : LnOK ⟨k, m, q⟩) (mk : Bool) (d : Value) {B : Nat} {w0 w : World} {v : Value} {xs : List UInt8} (hT : TxA B w0 w v xs) (hx : xs.length ≤ 1000000000) (ht : Lib.TabBelow Tryd.prog B w0 "internal/strconv.uint64pow10" .u64 Lib.pow10Tab) :
    Calls Tryd.prog 19 #[.agg #[.string (rwS k), rwN k, .bool (htB k), .bool mk, d], .agg #[.int .i64 (k : Nat), .int .i64 (m : Nat), .int .i64 (q : Nat)], v] w fun e w' => ∃ a c, e = .returned (.slice a (xs ++ lnL ⟨k, m, q⟩).length c) ∧ TxA B w0 w' (.slice a (xs ++ lnL ⟨k, m, q⟩).length c) (xs ++ lnL ⟨k, m, q⟩) := by
  obtain ⟨⟨o1, o2⟩, ⟨n1, n2⟩, ⟨t1, t2⟩⟩ := h
  dsimp only at o1 o2 n1 n2 t1 t2
  have hwl : (rwS k).data.toList.length ≤ 6 := rws_len k
  obtain ⟨LS, hLS⟩ : ∃ LS, nmL k = LS := ⟨_, rfl⟩
  have hls2 : LS.length ≤ 2 := by rw [← hLS]; exact nmL_len k
  have HMM := (show Hid (∀ j (hj : j < LS.length), LS[j] = 1 ∨ LS[j] = 2) from by subst hLS; exact fun j hj => nmL_mem hj)
  have HN46 := (show Hid (∀ w', Calls Tryd.prog 46 #[.agg #[.string (rwS k), rwN k, .bool (htB k), .bool mk, d], .pointer (some ⟨w.heap.size + 1, 0, none⟩)] w' fun e w'' => ∃ v, e = .returned v ∧ Below w'.heap.size w' w'' ∧ PtL w'' (w.heap.size + 1) LS v) from fun w' => by rw [← hLS]; exact numbers46 k (w.heap.size + 1) (rwS k) mk d w')
  have hT2 : TxA B w0 ((w.alloc (.cells #[.string (rwS k), rwN k, .bool (htB k), .bool mk, d] 44)).alloc (.cells #[.int .i64 (k : Nat), .int .i64 (m : Nat), .int .i64 (q : Nat)] 38)) v xs := (hT.still (bel_alloc _ _)).still (bel_alloc _ _)
  have hB2 := Bx.new w (rwS k) (rwN k) (.bool (htB k)) (.bool mk) d k m q
  obtain ⟨X1, hX1⟩ : ∃ X1, xs ++ (rwS k).data.toList = X1 := ⟨_, rfl⟩
  have hl1 : X1.length ≤ xs.length + 6 := by rw [← hX1, List.length_append]; omega
  obtain ⟨a1, c1, w3, hr3, hT3, hk3⟩ := hT2.word (rwS k).data.toList X1 hX1 (by omega)
  have hr3 : (Builtin.append_ #[35, 9] 35 #[v, .string (rwS k)]).run Tryd.prog ((w.alloc (.cells #[.string (rwS k), rwN k, .bool (htB k), .bool mk, d] 44)).alloc (.cells #[.int .i64 (k : Nat), .int .i64 (m : Nat), .int .i64 (q : Nat)] 38)) = .ok (.slice a1 X1.length c1) w3 := hr3
  have hB3 := hB2.kept hk3
  obtain ⟨XE, hXE⟩ : ∃ XE, xs ++ lnL ⟨k, m, q⟩ = XE := ⟨_, rfl⟩
  have hXF : (X1 ++ nmX m q (LS.take LS.length)) ++ [10] = XE := by
    rw [List.take_length, ← hXE, ← hX1, ← hLS]
    unfold lnL
    rw [lnT_nm]
    simp
  rw [hXE]
  have HXF := (show Hid _ from hXF)
  have HR3 := (show Hid _ from hr3)
  have HT3 := (show Hid _ from hT3)
  have HB3 := (show Hid _ from hB3)
  have HTB := (show Hid _ from ht)
  obtain ⟨e0, e1, e2, e3, e4⟩ := hB3.cells
  clear hX1 hXE hXF hr3 hT3 hB3 hB2 hT2 hT hk3 ht hLS hwl
  generalize htB (k : Int) = vA at *
  generalize rwN k = vB at *
  generalize rwS k = sW at *
  obtain ⟨n1', hn1'⟩ : ∃ n1', X1.length = n1' := ⟨_, rfl⟩
  rw [hn1'] at HR3 HT3
  go_enter Tryd.func19, Tryd.ntmps19
  go_wp2_with (first | (at_builtin; refine wpList_append_run _ rfl (.tmp 9) (.tmp 11) 35 9 rfl rfl rfl HR3.out ?_))
  refine Calls.mono (HN46.out _) ?_
  rintro e w4 ⟨v4, rfl, hb4, hp4⟩
  have hT4 := HT3.out.still hb4
  have hB4 : Bx w4 w.heap.size sW vB (.bool vA) (.bool mk) d k m q := HB3.out.kept ((OthersKept.refl 5 none w3).below hb4)
  obtain ⟨a4, g4, c4, rfl, hc4, hm4, ha4, hcell4⟩ := id hp4
  have HT4 := (show Hid _ from hT4)
  have HB4 := (show Hid _ from hB4)
  have HP4 := (show Hid (∀ W', OthersKept 5 none w4 W' → ∀ j (hj : j < LS.length), a4 = some ⟨g4, 0, none⟩ ∧ W'.cell? ⟨g4, j, none⟩ = some (.pointer (some ⟨w.heap.size + 1, LS[j], none⟩))) from fun W' hk j hj => by
    obtain ⟨e, cur, fz, hg⟩ := ha4 (by omega)
    have h5 := hk _ _ hg (by simp) (fun c fz h => by injection h with _ h1 _; cases h1)
    exact ⟨e, (World.cell?_of_block (a := ⟨g4, j, none⟩) (h5.trans hg.symm)).trans (hcell4 j hj)⟩)
  clear e0 e1 e2 e3 e4 hT4 hB4 hp4 ha4 hcell4 hb4 HR3 HT3 HB3
  unfold maxLen at hm4
  go_wp2_with fail
  go_loopw [2, 16] (fun u i wr => ∃ (j : Nat) (ta : Option Addr) (tc : Nat), j ≤ LS.length ∧ i = .int .i64 (j : Nat) ∧ u = .slice ta (X1 ++ nmX m q (LS.take j)).length tc ∧ Hid ((X1 ++ nmX m q (LS.take j)).length ≤ xs.length + 6 + 30 * j ∧ TxA B w0 wr (.slice ta (X1 ++ nmX m q (LS.take j)).length tc) (X1 ++ nmX m q (LS.take j)) ∧ OthersKept 5 none w4 wr)) (fun _ i _ => LS.length - (RowKit.intOf i).toNat)
  case atStart =>
    refine ⟨0, a1, c1, Nat.zero_le _, rfl, ?_, ?_⟩
    · simp [nmX, hn1']
    · have e : X1 ++ nmX m q (LS.take 0) = X1 := by simp [nmX]
      show _ ∧ _
      rw [e, hn1']
      exact ⟨by omega, HT4.out, OthersKept.refl 5 none w4⟩
  case round =>
    obtain ⟨j, ta, tc, hj, rfl, rfl, HT⟩ := hrel
    obtain ⟨hlen, hTx, hkx⟩ := HT.out
    clear HT
    by_cases hlt : j < LS.length
    · obtain ⟨rfl, cp⟩ := HP4.out wr hkx j hlt
      have cn := (HB4.out.kept hkx).num (HMM.out j hlt)
      have hvl : nmV m q LS[j] ≤ 1000000000 := by unfold nmV; split <;> omega
      have hdl := dec_len hvl
      have hX3 : X1 ++ nmX m q (LS.take (j + 1)) = ((X1 ++ nmX m q (LS.take j)) ++ [32]) ++ decDigits (nmV m q LS[j]) := by rw [nmX_succ hlt]; simp
      generalize X1 ++ nmX m q (LS.take j) = Y1 at *
      obtain ⟨Y2, hY2⟩ : ∃ Y2, Y1 ++ [32] = Y2 := ⟨_, rfl⟩
      have hy2 : Y2.length = Y1.length + 1 := by rw [← hY2]; simp
      rw [hY2] at hX3
      obtain ⟨a5, c5, w5, hr5, hT5, hk5⟩ := hTx.drew.word [32] Y2 hY2 (by simp; omega)
      have hr5 : (Builtin.append_ #[35, 9] 35 #[.slice ta Y1.length tc, .string ⟨#[32]⟩]).run Tryd.prog wr.drew = .ok (.slice a5 Y2.length c5) w5 := hr5
      have cn5 := (HB4.out.kept (hkx.drew.trans hk5)).num (HMM.out j hlt)
      obtain ⟨Y3, hY3⟩ : ∃ Y3, Y2 ++ decDigits (nmV m q LS[j]) = Y3 := ⟨_, rfl⟩
      have hy3 : Y3.length ≤ Y1.length + 30 := by rw [← hY3, List.length_append]; omega
      rw [hY3] at hX3
      have HCL := (show Hid _ from hT5.num (nmV m q LS[j]) Y3 hY3 hvl (by omega) HTB.out)
      have HR5 := (show Hid _ from hr5)
      have HK5 := (show Hid (OthersKept 5 none w4 w5) from hkx.drew.trans hk5)
      have HX3 := (show Hid _ from hX3)
      have HY := (show Hid (Y3.length ≤ xs.length + 6 + 30 * (j + 1)) from (by omega : Y3.length ≤ xs.length + 6 + 30 * (j + 1)))
      have HNU := (show Hid (∀ w', OthersKept 5 none w4 w' → w'.cell? ⟨w.heap.size + 1, LS[j], none⟩ = some (.int .i64 (nmV m q LS[j] : Nat))) from fun w' hk => (HB4.out.kept hk).num (HMM.out j hlt))
      clear hX3 hY3 hy3 hY2 hT5 hr5 hTx hk5 hlen cn hdl hvl HXF HN46 HT4 HMM HTB
      generalize nmV m q LS[j] = vN at *
      generalize LS[j] = oN at *
      clear hy2
      generalize Y1.length = y1 at *
      generalize Y2.length = y2 at *
      have HN := (show Hid (∀ w', OthersKept 5 none w4 w' → w'.cell? ⟨w.heap.size + 1, oN, none⟩ = some (.int .i64 (vN : Nat))) from fun w' hk => HNU.out w' hk)
      have cn0 := HN.out _ hkx
      clear hkx HNU
      go_wp2_with fail
      go_region_held_law (fun w' : World => w'.cell? ⟨w.heap.size + 1, oN, none⟩ = some (.int .i64 (vN : Nat))) (first | assumption | (simp [go_sem]; assumption))
        (first
          | (refine step_append_run rfl (.tmp 20) (.const (.string ⟨#[32]⟩)) 35 9 rfl rfl rfl HR5.out ?_)
          | (go_at_call 47; refine Calls.mono HCL.out ?_; rintro e w6 ⟨a6, c6, rfl, hT6, hk6⟩; have cn6 := HN.out _ (OthersKept.trans HK5.out hk6)))
      have HE := (show Hid _ from hT6)
      have HK6 := (show Hid (OthersKept 5 none w4 w6) from OthersKept.trans HK5.out hk6)
      clear hT6 hk6
      go_wp2_with fail
      refine ⟨⟨j + 1, a6, c6, by omega, by go_num, by rw [HX3.out], ?_⟩, by simp [RowKit.intOf]; omega⟩
      show _ ∧ _
      rw [HX3.out]
      exact ⟨HY.out, HE.out, HK6.out⟩
    · obtain rfl : j = LS.length := by omega
      obtain ⟨a5, c5, w5, hr5, hT5, hk5⟩ := hTx.word [10] XE HXF.out (by rw [show ([10] : List UInt8).length = 1 from rfl]; omega)
      have hr5 : (Builtin.append_ #[35, 9] 35 #[.slice ta (X1 ++ nmX m q (LS.take LS.length)).length tc, .string ⟨#[10]⟩]).run Tryd.prog wr = .ok (.slice a5 XE.length c5) w5 := hr5
      have HR5 := (show Hid _ from hr5)
      have HE := (show Hid _ from hT5)
      clear hr5 hT5 hTx hkx hk5 HXF HTB HMM HN46 HB4 HT4
      generalize (X1 ++ nmX m q (LS.take LS.length)).length = y1 at *
      go_wp2_with (first | (at_builtin; refine wpList_append_run _ rfl (.tmp 27) (.const (.string ⟨#[10]⟩)) 35 9 rfl rfl rfl HR5.out ?_))
      go_ret
      exact ⟨a5, c5, rfl, HE.out⟩
end Go.Proofs.YtanbdfeoijflaaaDoor
