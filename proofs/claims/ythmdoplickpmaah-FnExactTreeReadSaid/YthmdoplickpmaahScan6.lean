import Derived.Test.YthmdoplickpmaahFrm
namespace Go.Proofs.Ythmdoplickpmaah
open Go.RowKit Go.Deep Go.Lib
set_option linter.unusedVariables false
set_option maxRecDepth 100000
set_option linter.unusedSimpArgs false

theorem pText_end {s : ByteArray} {f j : Nat} {x : List UInt8} (h : seesB s j 34 = true) (hf : s.size - j + 1 ≤ f) : pText s f j x = .ok (bs x, j + 1) := by
  obtain ⟨g, rfl⟩ : ∃ g, f = g + 1 := ⟨f - 1, by omega⟩
  rw [pText, if_pos h]
  rfl
theorem pText_bad {s : ByteArray} {f j q : Nat} {x : List UInt8} (h : seesB s j 34 = false) (hf : s.size - j + 1 ≤ f) (hb : pByte s j = .error q) : pText s f j x = .error q := by
  obtain ⟨g, rfl⟩ : ∃ g, f = g + 1 := ⟨f - 1, by omega⟩
  rw [pText, if_neg (by rw [h]; simp), hb]
theorem pText_go {s : ByteArray} {f j : Nat} {x : List UInt8} {a : UInt8 × Nat} (h : seesB s j 34 = false) (hf : s.size - j + 1 ≤ f) (hb : pByte s j = .ok a) : pText s f j x = pText s (f - 1) a.2 (x ++ [a.1]) := by
  obtain ⟨g, rfl⟩ : ∃ g, f = g + 1 := ⟨f - 1, by omega⟩
  rw [pText, if_neg (by rw [h]; simp), hb]
  rfl

/-- A leaf of a name and what its text is read as. -/
def mkLeaf (nm : ByteArray) (T : Except Nat (ByteArray × Nat)) : Except Nat (Tr × Nat) := match T with
  | .error j => .error j
  | .ok q => .ok (⟨nm, q.1, true, []⟩, q.2)
set_option maxHeartbeats 3200000 in
theorem leaf_any {p k : Nat} {s : ByteArray} (w : World) (h : Scn w p s k) :
    Calls Try.prog 60 #[.pointer (some ⟨p, 0, none⟩)] w fun e w' => Out p (p + 1) w w' ∧ TGot (pLeaf s k) w.heap.size p s e w' := by
  have hs := h.2.1
  have hp := h.lt
  have hk := h.1
  have hfit := pName_fits hk
  have hext : ∀ a, pName s k = .ok a → a.1.size ≤ 1048576 := fun a ha => by
    unfold pName at ha
    split at ha
    · cases ha
      simp
      have := (nmEnd_le 24 k hk).2.1
      omega
    · cases ha
  have HN := (show Hid _ from name_any w h)
  have hpl : pLeaf s k = (match pName s k with
    | .error j => .error j
    | .ok r => if seesB s r.2 34 then mkLeaf r.1 (pText s (s.size + 1 - r.2) (r.2 + 1) []) else .error r.2) := rfl
  rw [hpl]
  clear h hpl
  generalize pName s k = rn at *
  cases rn with
  | error j =>
    dsimp only
    clear hext hfit
    go_enter Try.func60, Try.ntmps60
    go_wp2_with fail
    refine Calls.mono HN.out ?_
    rintro e w1 ⟨ho1, hg1⟩
    obtain rfl : e = .panicked [flt j] := hg1
    have HO := (show Hid _ from ho1); clear ho1
    go_wp2_with fail
    exact ⟨rfl, HO.out, rfl⟩
  | ok a =>
    obtain ⟨nm, k1⟩ := a
    have hnm := hext _ rfl
    obtain ⟨hk1, hk1s⟩ := hfit
    dsimp only at hnm hk1 hk1s ⊢
    clear hext
    have HP := (show Hid _ from fun w1 (h1 : Scn w1 p s k1) => pass_any 34 w1 h1)
    cases hq : seesB s k1 34
    · rw [hq] at HP
      simp only [Bool.false_eq_true, if_false]
      clear hq
      go_enter Try.func60, Try.ntmps60
      go_wp2_with fail
      refine Calls.mono HN.out ?_
      rintro e w1 ⟨ho1, rfl, hs1⟩
      have H1 := (show Hid _ from HP.out w1 hs1)
      have HO := (show Hid _ from ho1); clear ho1 hs1
      go_wp2_with fail
      refine Calls.mono H1.out ?_
      rintro e w2 ⟨ho2, ⟨hf, _⟩ | ⟨_, rfl⟩⟩
      · exact absurd hf (by simp)
      have HO2 := (show Hid _ from Out.trans HO.out ho2); clear ho2
      go_wp2_with fail
      exact ⟨rfl, HO2.out, rfl⟩
    rw [hq] at HP
    simp only [if_true]
    have hlt1 := seesB_lt hq
    clear hq
    have hT : ∃ T, pText s (s.size + 1 - k1) (k1 + 1) [] = T := ⟨_, rfl⟩
    obtain ⟨T, hT⟩ := hT
    rw [hT]
    have HT := (show Hid _ from hT); clear hT
    obtain ⟨i5, hi5, hz0, hz1, hz2⟩ := info_parts info5
    go_enter Try.func60, Try.ntmps60
    go_wp2_with fail
    refine Calls.mono HN.out ?_
    rintro e w1 ⟨ho1, rfl, hs1⟩
    have H1 := (show Hid _ from HP.out w1 hs1)
    have HO := (show Hid _ from ho1); clear ho1 hs1
    go_wp2_with fail
    refine Calls.mono H1.out ?_
    rintro e w2 ⟨ho2, ⟨_, rfl, hs2⟩ | ⟨hf, _⟩⟩
    case inr => exact absurd hf (by simp)
    have HO2 := (show Hid _ from (⟨Out.trans HO.out ho2, hs2⟩ : _ ∧ _)); clear ho2 hs2
    go_wp2_with fail
    go_loopw [4] (fun u wr => ∃ (j f : Nat) (x : List UInt8) (a' : Option Addr) (c' : Nat), u = .slice a' x.length c' ∧ j ≤ s.size ∧ x.length ≤ j ∧ s.size - j + 1 ≤ f ∧ Hid (Out p (p + 1) w wr ∧ Scn wr p s j ∧ wr.ownsRow w.heap.size 5 1 (.slice a' x.length c') x.length (bc x) ∧ pText s f j x = T)) (fun _ wr => s.size - (intOf ((wr.cell? ⟨p, 1, none⟩).getD (.bool false))).toNat)
    case atStart => exact ⟨k1 + 1, s.size + 1 - k1, [], none, 0, rfl, hlt1, Nat.zero_le _, by omega, HO2.out.1, HO2.out.2, World.ownsRow_nil _ _ _ _, HT.out⟩
    case round =>
      obtain ⟨j, f, x, a', c', rfl, hj, hxj, hf, HR⟩ := hrel
      have HSE := (show Hid _ from sees_any 34 wr HR.out.2.1)
      cases hsq : seesB s j 34
      · rw [hsq] at HSE
        have hfb := pByte_fits hj
        have HB := (show Hid _ from fun w3 (h3 : Scn w3 p s j) => shown_any w3 h3)
        have hbad := fun q (h : pByte s j = .error q) => (pText_bad (x := x) hsq hf h).symm.trans HR.out.2.2.2
        have hgo := fun a (h : pByte s j = .ok a) => (pText_go (x := x) hsq hf h).symm.trans HR.out.2.2.2
        clear hsq
        generalize pByte s j = rb at *
        go_wp2_with fail
        refine Calls.mono HSE.out ?_
        rintro e w3 ⟨rfl, ho3, hs3⟩
        have H4 := (show Hid _ from HB.out w3 hs3)
        have HO3 := (show Hid _ from (Out.trans HR.out.1 ho3)); 
        have HOW3 := (show Hid _ from own_past HR.out.2.2.1 ho3 hp); clear ho3 hs3
        go_wp2_with fail
        refine Calls.mono H4.out ?_
        rintro e w4 ⟨ho4, hg4⟩
        cases rb with
        | error q =>
          obtain rfl : e = .panicked [flt q] := hg4
          have HO4 := (show Hid _ from Out.trans HO3.out ho4); clear ho4
          have HTQ := (show Hid _ from hbad q rfl); clear hbad hgo
          go_wp2_with fail
          refine ⟨rfl, HO4.out, ?_⟩
          rw [← HTQ.out]
          rfl
        | ok a =>
          obtain ⟨rfl, hs4⟩ := hg4
          obtain ⟨c, j4⟩ := a
          obtain ⟨hj4, hj4s⟩ := hfb
          dsimp only at hj4 hj4s hs4 ⊢
          have hTQ := hgo _ rfl
          dsimp only at hTQ
          have HTQ := (show Hid _ from hTQ); clear hbad hgo hTQ
          have hown4 := own_past HOW3.out ho4 hp
          have HO4 := (show Hid _ from (⟨Out.trans HO3.out ho4, hs4⟩ : _ ∧ _)); clear ho4 hs4
          have HOW4 := (show Hid _ from own_still hown4 (bel_alloc w4 (.cells #[.int .u8 c.toNat] 5))); clear hown4
          have hB4 : w.heap.size ≤ w4.heap.size := HO4.out.1.2.2.2.1
          go_wp2_with (at_builtin; refine wpList_append_own _ rfl (.tmp 16) (.tmp 19) 53 rfl w.heap.size 5 i5 (.int .u8 0) 1 1 Try.underlying53 hi5 hz0 hz1 hz2 rfl (by decide) _ x.length (bc x) rfl HOW4.out ⟨w4.heap.size, 0, none⟩ 1 1 [.int .u8 c.toNat] rfl rfl (cells_box _ _ _) (by intro u hu; simp at hu; subst hu; rfl) ?c1 ?c2 ?c3 ?nx)
          case c1 => unfold maxLen; omega
          case c2 => omega
          case c3 => first | omega | (simp; omega)
          case nx =>
            intro v' w' hown' hgr _
            obtain ⟨a1, c1, rfl⟩ := own_slice hown'
            have hown5 : w'.ownsRow w.heap.size 5 1 (.slice a1 (x ++ [c]).length c1) (x ++ [c]).length (bc (x ++ [c])) := by
              rw [bc_append, List.length_append]
              exact hown'
            have hlt4 := World.ownsRow.lt HOW4.out
            have hblk : ∀ q, q < w.heap.size → w'.heap[q]? = w4.heap[q]? := fun q hq => (hgr.block q (by simp; omega) (fun e => by have := (hlt4 q e.symm).1; omega)).trans ((bel_alloc w4 _).block q (by omega))
            have hsz4 : w4.heap.size ≤ w'.heap.size := by have := hgr.size; simp at this; omega
            have ho5 : Out p (p + 1) w w' := ⟨hgr.os.trans HO4.out.1.1, hgr.tape.trans HO4.out.1.2.1, hgr.output.trans HO4.out.1.2.2.1, by omega, fun q hq hn => (hblk q hq).trans (HO4.out.1.2.2.2.2 q hq hn)⟩
            have hs5 := Scn.keep (w' := w') HO4.out.2 (hblk p hp)
            have H5 := (show Hid _ from (⟨ho5, hs5, hown5, HTQ.out⟩ : _ ∧ _ ∧ _ ∧ _)); clear ho5 hs5 hown5 hown' hgr hblk hlt4
            go_wp2_with fail
            refine ⟨⟨j4, f - 1, x ++ [c], a1, c1, by rw [List.length_append]; rfl, hj4s, by simp; omega, by omega, H5.out⟩, ?_⟩
            have m1 := (Scn.cells H5.out.2.1).2.1
            have m2 := (Scn.cells HR.out.2.1).2.1
            rw [m1, m2]
            simp [intOf]
            omega
      · rw [hsq] at HSE
        have hlt := seesB_lt hsq
        have HTQ := (show Hid _ from (pText_end (x := x) hsq hf).symm.trans HR.out.2.2.2)
        have HPQ := (show Hid _ from fun w1 (h1 : Scn w1 p s j) => pass_any 34 w1 h1)
        rw [hsq] at HPQ
        clear hsq
        go_wp2_with fail
        refine Calls.mono HSE.out ?_
        rintro e w3 ⟨rfl, ho3, hs3⟩
        have H4 := (show Hid _ from HPQ.out w3 hs3)
        have HO3 := (show Hid _ from (Out.trans HR.out.1 ho3)); 
        have HOW3 := (show Hid _ from own_past HR.out.2.2.1 ho3 hp); clear ho3 hs3
        go_wp2_with fail
        refine Calls.mono H4.out ?_
        rintro e w4 ⟨ho4, ⟨_, rfl, hs4⟩ | ⟨hf, _⟩⟩
        case inr => exact absurd hf (by simp)
        have hcv := conv_own (own_past HOW3.out ho4 hp)
        have HO4 := (show Hid _ from (⟨Out.trans HO3.out ho4, hs4⟩ : _ ∧ _)); clear ho4 hs4
        go_wp2_with fail
        go_ret
        rw [← HTQ.out]
        have hn1 : nm.size ≤ maxLen := by unfold maxLen; omega
        have hn2 : (bs x).size ≤ maxLen := by rw [bs_size]; unfold maxLen; omega
        exact ⟨HO4.out.1, _, rfl, Frm.shut (.inl ⟨rfl, rfl, hn1, hn2, rfl⟩), HO4.out.2⟩
end Go.Proofs.Ythmdoplickpmaah
