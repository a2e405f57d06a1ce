import Derived.Test.YtanbdfeoijflaaaDoorLg
/-! A program as text: the program. -/
namespace Go.Proofs.YtanbdfeoijflaaaDoor
open Go.RowKit Go.Deep Go.Lib
set_option linter.unusedVariables false
set_option maxRecDepth 100000
set_option linter.unusedSimpArgs false

theorem shL_next {l : List DIns} {j : Nat} (hj : j < l.length) : shL (l.take (j + 1)) = shL (l.take j) ++ lnL l[j] := by
  rw [shL_succ hj]
  unfold lnL
  simp
set_option maxHeartbeats 6400000 in
/-- The program's ProgramShow. -/
theorem iShow8 {S : Nat → Prop} (l : List DIns) (v : Value) (w : World) (h : InsR w S l v) (ht : Lib.TabBelow Tryd.prog w.heap.size w "internal/strconv.uint64pow10" .u64 Lib.pow10Tab) :
    Calls Tryd.prog 8 #[v] w fun e w' => e = .returned (.tuple #[.string (shR l).1, .int .i64 (shR l).2]) ∧ Below w.heap.size w w' := by
  have HP := (show Hid (Calls Tryd.prog 17 #[v] w fun e w' => e = .returned (.bool (pgB l)) ∧ Below w.heap.size w w') from iPg11 l v w h)
  have hform := h.form
  obtain ⟨a, cap, rfl, hlen⟩ := hform
  have HI := (show Hid (∀ w', Below w.heap.size w w' → InsR w' S l (.slice a l.length cap)) from fun w' hb => h.still hb)
  clear h
  unfold maxLen at hlen
  cases hpg : pgB l
  · have e : shR l = (⟨#[]⟩, 1) := by unfold shR; rw [if_pos hpg]
    rw [e]
    rw [hpg] at HP
    clear e hpg ht
    go_enter Tryd.func8, Tryd.ntmps8
    go_wp2_with fail
    refine Calls.mono HP.out ?_
    rintro e w1 ⟨rfl, hb1⟩
    go_wp2_with fail
    refine bodyPost_ret (v := .tuple #[.string ⟨#[]⟩, .int .i64 1]) (by simp [results, Tryd.results8, go_sem]) rfl ?_
    exact ⟨rfl, hb1⟩
  · obtain ⟨hl5, hln⟩ := pg_ln hpg
    have HLN := (show Hid _ from hln)
    have HLL := (show Hid (∀ j, j ≤ l.length → (shL (l.take j)).length ≤ 60 * j) from shL_len hln)
    have HSH := (show Hid (shR l = if 400000 < (shL l).length then (⟨#[]⟩, 3) else (bs (shL l), 0)) from by show _ = _; unfold shR; rw [if_neg (by rw [hpg]; simp)])
    have HTB := (show Hid _ from ht)
    rw [hpg] at HP
    clear hpg hln ht
    generalize shR l = R at *
    have hz := zr65
    go_enter Tryd.func8, Tryd.ntmps8
    go_wp2_with fail
    refine Calls.mono HP.out ?_
    rintro e w1 ⟨rfl, hb1⟩
    have hr := rows36 w1
    have HR := (show Hid _ from hr)
    have H1 := (show Hid (Below w.heap.size w ((w1.alloc (.cells tbA 46)).alloc (.cells tbA 46))) from bel_trans hb1 (bel2 w1 (.cells tbA 46) (.cells tbA 46)))
    have HTL := (show Hid (TbL ((w1.alloc (.cells tbA 46)).alloc (.cells tbA 46)) (w1.heap.size + 1)) from by show TbL _ _; have := TbL.new (w1.alloc (.cells tbA 46)); simpa using this)
    have hst := sto65g (w1.alloc (.cells tbA 46)) (w1.heap.size + 1) (by simp)
    clear hb1 HP hr
    go_wp2_with fail
    refine Calls.mono HR.out ?_
    rintro e w2 ⟨rfl, rfl⟩
    go_wp2_with fail
    clear hst hz HR
    obtain ⟨W4, hW4⟩ : ∃ W4, (w1.alloc (.cells tbA 46)).alloc (.cells tbA 46) = W4 := ⟨_, rfl⟩
    rw [hW4] at H1 HTL ⊢
    clear hW4
    generalize w1.heap.size + 1 = g at *
    have HTX := (show Hid (Lib.TabBelow Tryd.prog W4.heap.size W4 "internal/strconv.uint64pow10" .u64 Lib.pow10Tab) from fun w' hb => HTB.out w' (H1.out.trans (hb.mono H1.out.size)))
    have H0 := (show Hid (TxA W4.heap.size W4 W4 (.slice none 0 0) []) from ⟨⟨rfl, .inl ⟨rfl, rfl⟩⟩, Below.refl _ _, Nat.le_refl _⟩)
    go_loopw [5, 14] (fun u i wr => ∃ (j : Nat) (ta : Option Addr) (tc : Nat), j ≤ l.length ∧ i = .int .i64 (j : Nat) ∧ u = .slice ta (shL (l.take j)).length tc ∧ Hid (TxA W4.heap.size W4 wr (.slice ta (shL (l.take j)).length tc) (shL (l.take j)))) (fun _ i _ => l.length - (RowKit.intOf i).toNat)
    case atStart => exact ⟨0, _, _, Nat.zero_le _, rfl, rfl, H0.out⟩
    case round =>
      obtain ⟨j, ta, tc, hj, rfl, rfl, HT⟩ := hrel
      by_cases hlt : j < l.length
      · have hbl : Below w.heap.size w wr := H1.out.trans (HT.out.bel.mono H1.out.size)
        obtain ⟨a', cap', b, off, he, hc, hm, ha, hcell⟩ := HI.out wr hbl
        injection he with he1 _ he3
        subst he1 he3
        obtain ⟨rfl, _⟩ := ha (by omega)
        obtain ⟨c0, c1, c2⟩ := hcell j hlt
        have hlnj := HLN.out j hlt
        have hl1 := HLL.out j hj
        have hX3 := shL_next hlt
        obtain ⟨k, hk⟩ : ∃ k : Nat, l[j].op = (k : Int) := ⟨l[j].op.toNat, by have := hlnj.op; omega⟩
        obtain ⟨m, hm1⟩ : ∃ m : Nat, l[j].n = (m : Int) := ⟨l[j].n.toNat, by have := hlnj.n; omega⟩
        obtain ⟨q, hq⟩ : ∃ q : Nat, l[j].to_ = (q : Int) := ⟨l[j].to_.toNat, by have := hlnj.to_; omega⟩
        have hx : l[j] = ⟨(k : Int), (m : Int), (q : Int)⟩ := by rw [← hk, ← hm1, ← hq]
        rw [hk] at c0
        rw [hm1] at c1
        rw [hq] at c2
        rw [hx] at hlnj hX3
        have hk10 : k ≤ 10 := by have := hlnj.op.2; dsimp only at this; omega
        have HSW := (show Hid (∀ (mk : Bool) (d : Value) (w5 : World), Below wr.heap.size wr w5 → Calls Tryd.prog 19 #[.agg #[.string (rwS k), rwN k, .bool (htB k), .bool mk, d], .agg #[.int .i64 (k : Nat), .int .i64 (m : Nat), .int .i64 (q : Nat)], .slice ta (shL (l.take j)).length tc] w5 fun e w' => ∃ a c, e = .returned (.slice a (shL (l.take (j + 1))).length c) ∧ TxA W4.heap.size W4 w' (.slice a (shL (l.take (j + 1))).length c) (shL (l.take (j + 1)))) from fun mk d w5 hb => by
          rw [hX3]
          exact show19 k m q hlnj mk d (HT.out.still hb) (by omega) HTX.out)
        obtain ⟨r0, r1, r2, r3, r4⟩ := (HTL.out.still (HT.out.bel.trans ((bel_alloc wr (.cells #[.int .i64 (k : Nat), .int .i64 (m : Nat), .int .i64 (q : Nat)] 38)).mono HT.out.bz))).row k hk10
        have HB5 := (show Hid (Below wr.heap.size wr (wr.alloc (.cells #[.int .i64 (k : Nat), .int .i64 (m : Nat), .int .i64 (q : Nat)] 38)).drew) from (bel_alloc _ _).drew)
        obtain ⟨sX, hsX⟩ : ∃ sX, rwS k = sX := ⟨_, rfl⟩
        obtain ⟨vN, hvN⟩ : ∃ vN, rwN k = vN := ⟨_, rfl⟩
        obtain ⟨vD, hvD⟩ : ∃ vD, rwD k = vD := ⟨_, rfl⟩
        obtain ⟨vT, hvT⟩ : ∃ vT, htB (k : Int) = vT := ⟨_, rfl⟩
        obtain ⟨vM, hvM⟩ : ∃ vM, (!gsB (k : Int)) = vM := ⟨_, rfl⟩
        rw [hsX] at r0 HSW
        rw [hvN] at r1 HSW
        rw [hvT] at r2 HSW
        rw [hvM] at r3
        rw [hvD] at r4
        obtain ⟨n1, hn1⟩ : ∃ n1, (shL (l.take j)).length = n1 := ⟨_, rfl⟩
        rw [hn1] at HSW ⊢
        clear hx hX3 hlnj hcell ha hc hm HI HLN HLL hl1 HT HSH hk hm1 hq hbl HTB HTX H0 HTL hsX hvN hvD hvT hvM hn1
        have hk11 : (k : Int) < 11 := by omega
        go_wp2_with fail
        go_region_with (go_at_call 19; refine Calls.mono (HSW.out _ _ _ HB5.out) ?_; rintro e w6 ⟨a6, c6, rfl, hT6⟩)
        all_goals (
         have HE := (show Hid _ from hT6)
         clear hT6 c0 c1 c2 r0 r1 r2 r3 r4 HSW
         go_wp2_with fail
         exact ⟨⟨j + 1, a6, c6, by omega, by go_num, rfl, HE.out⟩, by simp [RowKit.intOf]; omega⟩)
      · obtain rfl : j = l.length := by omega
        rw [List.take_length] at HT ⊢
        have hcv := conv_own HT.out.own
        have HE := (show Hid (Below w.heap.size w wr) from H1.out.trans (HT.out.bel.mono H1.out.size))
        have HS := (show Hid _ from HSH.out)
        clear HT HLL HLN HI HSH H0 HTX HTB HTL
        by_cases hbig : 400000 < (shL l).length
        · rw [if_pos hbig] at HS
          have hd : decide ((400000 : Int) < ((shL l).length : Int)) = true := by simp; omega
          generalize (shL l).length = n at *
          go_wp2_with fail
          refine bodyPost_ret (v := .tuple #[.string ⟨#[]⟩, .int .i64 3]) (by simp [results, Tryd.results8, go_sem]) rfl ?_
          exact ⟨by rw [HS.out], HE.out⟩
        · rw [if_neg hbig] at HS
          have hd : decide ((400000 : Int) < ((shL l).length : Int)) = false := by simp; omega
          generalize bs (shL l) = sX at *
          generalize (shL l).length = n at *
          go_wp2_with fail
          refine bodyPost_ret (v := .tuple #[.string sX, .int .i64 0]) (by simp [results, Tryd.results8, go_sem]) rfl ?_
          exact ⟨by rw [HS.out], HE.out⟩
end Go.Proofs.YtanbdfeoijflaaaDoor
