import Derived.Test.YthmdoplickpmaaaDraw3
import Derived.Test.YthmdoplickpmaaaAt2
namespace Go.Proofs.Ythmdoplickpmaaa
open Go.RowKit Go.Deep Go.Lib
set_option linter.unusedVariables false
set_option maxRecDepth 100000
set_option linter.unusedSimpArgs false

/-- A path drawn through a tree. -/
def cPath (cs : List UInt8) : Nat → Tr → Nat × Nat → List Int × (Nat × Nat)
  | 0, _, s => ([], s)
  | f + 1, t, s => if t.kids.length = 0 then ([], s) else if (cPick cs 4 s).1 = 0 then ([], (cPick cs 4 s).2) else
      (((cPick cs t.kids.length (cPick cs 4 s).2).1 : Int) :: (cPath cs f (nth t.kids (cPick cs t.kids.length (cPick cs 4 s).2).1) (cPick cs t.kids.length (cPick cs 4 s).2).2).1, (cPath cs f (nth t.kids (cPick cs t.kids.length (cPick cs 4 s).2).1) (cPick cs t.kids.length (cPick cs 4 s).2).2).2)
theorem cPath_len (cs : List UInt8) : ∀ f t s, (cPath cs f t s).1.length ≤ f
  | 0, t, s => Nat.le_refl _
  | f + 1, t, s => by
    unfold cPath
    split
    · simp
    · split
      · simp
      · have := cPath_len cs f (nth t.kids (cPick cs t.kids.length (cPick cs 4 s).2).1) (cPick cs t.kids.length (cPick cs 4 s).2).2
        simp
        omega
def cTail (cs : List UInt8) (r : List Int × (Nat × Nat)) : List Int × (Nat × Nat) :=
  if (cPick cs 8 r.2).1 = 0 then (r.1 ++ [((cPick cs 3 (cPick cs 8 r.2).2).1 : Int) - 1], (cPick cs 3 (cPick cs 8 r.2).2).2) else (r.1, (cPick cs 8 r.2).2)
theorem cTail_len (cs : List UInt8) (r : List Int × (Nat × Nat)) : (cTail cs r).1.length ≤ r.1.length + 1 := by
  unfold cTail
  split
  · simp
  · simp
def ints (l : List Int) : List Value := l.map (Value.int .i64)
theorem ints_of_row {w : World} {B : Nat} {l : List Int} {v : Value} (h : w.ownsRow B 3 1 v l.length (ints l)) : Ints w (fun q => B ≤ q) l v := by
  rcases h.2 with ⟨rfl, h0⟩ | ⟨g, cap, cur, rfl, hB, hg, hnc, hcm, hcs, htk⟩
  · obtain rfl : l = [] := List.eq_nil_of_length_eq_zero h0
    exact ⟨none, 0, 0, 0, rfl, Nat.le_refl _, Nat.zero_le _, fun h => absurd h (Nat.not_lt_zero _), fun i hi => absurd hi (Nat.not_lt_zero _)⟩
  · refine ⟨some ⟨g, 0, none⟩, cap, g, 0, rfl, hnc, hcm, fun _ => ⟨rfl, hB⟩, fun i hi => ?_⟩
    rw [World.ownsRow.cellAt h _ (by omega)]
    simp [ints, hi]
theorem row_keep {w w' : World} {B : Nat} {e : TypeId} {size : Nat} {v : Value} {n : Nat} {xs : List Value} (h : w.ownsRow B e size v n xs) (hk : ∀ q, B ≤ q → q < w.heap.size → w'.heap[q]? = w.heap[q]?) : w'.ownsRow B e size v n xs := by
  refine ⟨h.1, ?_⟩
  rcases h.2 with e | ⟨g, cap', cur, e, hB, hg, rest⟩
  · exact .inl e
  · exact .inr ⟨g, cap', cur, e, hB, (hk g hB (Array.getElem?_eq_some_iff.1 hg).1).trans hg, rest⟩
theorem info3 : (Try.prog.info? 3).map (fun i => (i.zero, i.size, i.bytes)) = some (some (.int .i64 0), 1, 8) := by kernel_rfl
theorem kid_wt (t : Tr) (i : Nat) (h : i < t.kids.length) : (nth t.kids i).wt < t.wt := by
  rw [nth_eq h, wt_kids t]
  have := Tr.wt_mem t.kids i h
  omega

/-- What l01DrawPath's loop finds. -/
def Path (cs : List UInt8) (a : Option Addr) (cap b off c : Nat) (w : World) (l : List Int) (t : Tr) (v pv : Value) (s : Nat × Nat) (wr : World) : Prop :=
  Out c (c + 1) w wr ∧ Cur wr cs a cap b off c s ∧ Box4 wr w.heap.size (.string t.name) (.string t.text) (.bool t.leaf) v ∧ Lies wr (fun q => c < q ∧ q < w.heap.size) t v ∧ wr.ownsRow (w.heap.size + 1) 3 1 pv l.length (ints l)

theorem cPath_fuel (cs : List UInt8) : ∀ (f g : Nat) (t : Tr) (s : Nat × Nat), t.wt < f → t.wt < g → cPath cs f t s = cPath cs g t s
  | 0, g, t, s, hf, hg => absurd hf (Nat.not_lt_zero _)
  | f + 1, 0, t, s, hf, hg => absurd hg (Nat.not_lt_zero _)
  | f + 1, g + 1, t, s, hf, hg => by
    unfold cPath
    split
    · rfl
    · rename_i h0
      split
      · rfl
      · have hk := cPick_lt cs t.kids.length (cPick cs 4 s).2 (by omega)
        have hw := kid_wt t _ hk
        rw [cPath_fuel cs f g (nth t.kids (cPick cs t.kids.length (cPick cs 4 s).2).1) (cPick cs t.kids.length (cPick cs 4 s).2).2 (by omega) (by omega)]
def lenV : Value → Nat
  | .slice _ n _ => n
  | _ => 0
theorem cell_one (w : World) (u : Value) (T : TypeId) : ∀ j x, [u][j]? = some x → (w.alloc (.cells #[u] T)).cell? ((⟨w.heap.size, 0, none⟩ : Addr).add j) = some x := cell_one_box w u T

set_option maxHeartbeats 3200000 in
theorem path_any {cs : List UInt8} {a : Option Addr} {cap b off c : Nat} (t : Tr) (v : Value) (s : Nat × Nat) (w : World) (hc : Cur w cs a cap b off c s) (hl : Lies w (fun q => c < q ∧ q < w.heap.size) t v) (hwt : t.wt ≤ 1000000) :
    Calls Try.prog 29 #[.pointer (some ⟨c, 0, none⟩), t.val v] w fun e w' => ∃ pa pm pc, e = .returned (.slice pa pm pc) ∧ Out c (c + 1) w w' ∧ Cur w' cs a cap b off c (cTail cs (cPath cs (t.wt + 1) t s)).2 ∧ Ints w' (fun q => w.heap.size + 1 ≤ q) (cTail cs (cPath cs (t.wt + 1) t s)).1 (.slice pa pm pc) := by
  have hlt := hc.lt
  obtain ⟨xa, xm, xc, rfl⟩ := hl.form
  obtain ⟨i3, hi3, hzz⟩ := Option.map_eq_some_iff.1 info3
  simp only [Prod.mk.injEq] at hzz
  obtain ⟨hz0, hz1, hz2⟩ := hzz
  have hplen := cPath_len cs (t.wt + 1) t s
  have hb0 := bel_alloc w (.cells #[.string t.name, .string t.text, .bool t.leaf, .slice xa xm xc] 28)
  have hb1 := bel_alloc (w.alloc (.cells #[.string t.name, .string t.text, .bool t.leaf, .slice xa xm xc] 28)) (.cells #[] 3)
  have hrow := World.ownsRow_made (base := w.heap.size + 1) (e := 3) (size := 1) (w.alloc (.cells #[.string t.name, .string t.text, .bool t.leaf, .slice xa xm xc] 28)) #[] 0 (by simp) (Nat.zero_le _) rfl
  simp only [World.size_alloc] at hrow
  have HP : Hid (Path cs a cap b off c w [] t (.slice xa xm xc) (.slice (some ⟨w.heap.size + 1, 0, none⟩) 0 0) s ((w.alloc (.cells #[.string t.name, .string t.text, .bool t.leaf, .slice xa xm xc] 28)).alloc (.cells #[] 3))) :=
    (⟨(Out.of_below hb0).below hb1, (hc.still hb0).still hb1, (Box4.new w _ _ _ _).still hb1, (hl.still hb0).still hb1, hrow⟩)
  clear hb0 hb1 hrow hc hl
  simp only [Tr.val]
  generalize hL : cPath cs (t.wt + 1) t s = L at *
  have HL := (show Hid _ from hL); clear hL
  go_enter Try.func29, Try.ntmps29
  go_wp2_with fail
  have hLl : L.1.length ≤ 1000001 := by omega
  go_loopw [5] (fun u wr => ∃ (l : List Int) (tc : Tr) (ya : Option Addr) (ym yc : Nat) (pa : Option Addr) (pc : Nat) (st : Nat × Nat), u = .slice pa l.length pc ∧ tc.wt ≤ t.wt ∧ l.length ≤ L.1.length ∧ w.heap.size + 2 ≤ wr.heap.size ∧ Hid (Path cs a cap b off c w l tc (.slice ya ym yc) (.slice pa l.length pc) st wr ∧ (l ++ (cPath cs (tc.wt + 1) tc st).1, (cPath cs (tc.wt + 1) tc st).2) = L)) (fun u _ => L.1.length - lenV u)
  case atStart => exact ⟨[], t, _, _, _, _, _, s, rfl, Nat.le_refl _, Nat.zero_le _, by simp, HP.out, by rw [HL.out]; rfl⟩
  case round =>
    obtain ⟨l, tc, ya, ym, yc, pa, pc, st, rfl, htw, hll, hwz, HR⟩ := hrel
    obtain ⟨A0, A1, A2, A3⟩ := Box4.cells HR.out.1.2.2.1
    obtain ⟨ta, tcap, tb, toff, sv, hv, hn, hx, hc', hm, ha, hcell, hk⟩ := HR.out.1.2.2.2.1.out
    cases hv
    have HE := (show Hid _ from (⟨ha, hcell, hk⟩ : _ ∧ _ ∧ _)); clear ha hcell hk
    unfold maxLen at hm
    by_cases hk0 : tc.kids.length = 0
    · have hLL : (l, st) = L := by
        rw [← HR.out.2]
        unfold cPath
        rw [if_pos hk0]
        simp
      have HLL := (show Hid _ from hLL); clear hLL
      have HQ := (show Hid _ from (⟨HR.out.1.1, HR.out.1.2.1, HR.out.1.2.2.2.2⟩ : _ ∧ _ ∧ _))
      rw [hk0] at A3
      clear HE HR hc' hm hk0
      generalize hwX : wr = wX at *
      clear hwX
      have hcl := pick_any 8 wX HQ.out.2.1 (by decide)
      have hct : cTail cs L = if (cPick cs 8 st).1 = 0 then (l ++ [((cPick cs 3 (cPick cs 8 st).2).1 : Int) - 1], (cPick cs 3 (cPick cs 8 st).2).2) else (l, (cPick cs 8 st).2) := by rw [← HLL.out]; rfl
      have HCT := (show Hid _ from hct); clear hct
      have HCL := (show Hid _ from hcl); clear hcl
      generalize cPick cs 8 st = q8 at *
      obtain ⟨p8, st8⟩ := q8
      dsimp only at HCT
      by_cases h80 : p8 = 0
      · subst h80
        have hp3 : ∀ w', Cur w' cs a cap b off c st8 → _ := fun w' h => pick_any 3 w' h (by decide)
        have HP3 := (show Hid _ from hp3); clear hp3
        have hl3 := cPick_lt cs 3 st8 (by decide)
        generalize cPick cs 3 st8 = q3 at *
        obtain ⟨p3, st9⟩ := q3
        dsimp only at HCT hl3
        have hct2 : cTail cs L = (l ++ [(p3 : Int) - 1], st9) := by rw [HCT.out]; rfl
        have HCT2 := (show Hid _ from hct2); clear hct2
        go_wp2_with fail
        refine Calls.mono HCL.out ?_
        rintro e wY ⟨rfl, hoY, hqY, hcY⟩
        clear hqY
        have hsY := hoY.2.2.2.1
        dsimp only at hcY ⊢
        have HY := (show Hid _ from (⟨HQ.out.1.trans hoY, hcY, row_keep HQ.out.2.2 (fun q hq hq2 => hoY.2.2.2.2 q hq2 (.inr (by omega)))⟩ : _ ∧ _ ∧ _)); clear hoY hcY
        go_wp2_with fail
        refine Calls.mono (HP3.out wY HY.out.2.1) ?_
        rintro e wZ ⟨rfl, hoZ, hqZ, hcZ⟩
        clear hqZ
        have hsZ := hoZ.2.2.2.1
        dsimp only at hcZ ⊢
        have hbZ := bel_alloc wZ (.cells #[.int .i64 ((p3 : Int) - 1)] 3)
        have hrZ := row_keep HY.out.2.2 (fun q hq hq2 => hoZ.2.2.2.2 q hq2 (.inr (by omega)))
        have HO := (show Hid _ from own_still hrZ hbZ)
        have HZ := (show Hid _ from (⟨HY.out.1.trans hoZ, hcZ, hrZ⟩ : Out c (c + 1) w wZ ∧ _ ∧ _)); clear hoZ hcZ hrZ hbZ
        go_wp2_with (at_builtin; refine wpList_append_lies _ rfl (.tmp 34) (.tmp 38) 33 rfl (w.heap.size + 1) 3 i3 _ 1 8 Try.underlying33 hi3 hz0 hz1 hz2 rfl (by decide) _ l.length (ints l) rfl HO.out ⟨wZ.heap.size, 0, none⟩ 1 1 [.int .i64 ((p3 : Int) - 1)] rfl rfl ?c1 ?c2 (by decide) ?c3 (by omega) ?c5 _ rfl ?nx)
        case c1 => exact cell_one _ _ _
        case c2 => intro u hu; simp at hu; subst hu; rfl
        case c3 => unfold maxLen; omega
        case c5 => simp; omega
        case nx =>
          intro g4 cap4 w4 hown4 hgr4 hat4 hlt4
          have hvl := World.ownsRow.lt HO.out
          have hs4 : wZ.heap.size + 1 ≤ w4.heap.size := by have := hgr4.size; simp at this; omega
          have hblk : ∀ q, q < w.heap.size + 1 → w4.heap[q]? = wZ.heap[q]? := fun q hq => (hgr4.block q (by simp; omega) (fun e => by have := hvl q e.symm; omega)).trans ((bel_alloc wZ _).block q (by omega))
          have ho4 : Out c (c + 1) w w4 := ⟨hgr4.os.trans HZ.out.1.1, hgr4.tape.trans HZ.out.1.2.1, hgr4.output.trans HZ.out.1.2.2.1, by have := HZ.out.1.2.2.2.1; omega, fun k hk hn => (hblk k (by omega)).trans (HZ.out.1.2.2.2.2 k hk hn)⟩
          have hc4 := Cur.keep HZ.out.2.1 (fun k hk => hblk k (by omega))
          have hI : Ints w4 (fun q => w.heap.size + 1 ≤ q) (l ++ [(p3 : Int) - 1]) (.slice (some ⟨g4, 0, none⟩) (l.length + 1) cap4) := ints_of_row (by
            have e1 : ints (l ++ [(p3 : Int) - 1]) = ints l ++ [.int .i64 ((p3 : Int) - 1)] := by simp [ints]
            rw [e1, List.length_append]
            exact hown4)
          have H4 := (show Hid _ from (⟨ho4, hc4, hI⟩ : _ ∧ _ ∧ _)); clear ho4 hc4 hI hown4 hgr4 hat4 hblk hvl
          go_wp2_with fail
          go_ret
          rw [HCT2.out]
          exact ⟨_, _, _, rfl, H4.out⟩
      · have hct2 : cTail cs L = (l, st8) := by rw [HCT.out, if_neg h80]
        have HCT2 := (show Hid _ from hct2); clear hct2
        have h8b : ((p8 : Int) == 0) = false := by simp; omega
        go_wp2_with fail
        refine Calls.mono HCL.out ?_
        rintro e wY ⟨rfl, hoY, hqY, hcY⟩
        clear hqY
        dsimp only at hcY ⊢
        have HY := (show Hid _ from (⟨HQ.out.1.trans hoY, hcY, ints_of_row (row_keep HQ.out.2.2 (fun q hq hq2 => hoY.2.2.2.2 q hq2 (.inr (by omega))))⟩ : _ ∧ _ ∧ _)); clear hoY hcY
        go_wp2_with fail
        go_ret
        rw [HCT2.out]
        exact ⟨_, _, _, rfl, HY.out⟩
    · have hkp : (0 : Int) < tc.kids.length := by omega
      have hcl := pick_any 4 wr HR.out.1.2.1 (by decide)
      have hwk := wt_sizes tc
      have hkm : tc.kids.length ≤ 1048576 := by omega
      have hLL := HR.out.2
      unfold cPath at hLL
      rw [if_neg hk0] at hLL
      have hpl : ∀ st4 w1, Cur w1 cs a cap b off c st4 → _ := fun st4 w1 h => pick_any tc.kids.length w1 h hkm
      have HPL := (show Hid _ from hpl); clear hpl
      have HCL := (show Hid _ from hcl); clear hcl
      generalize cPick cs 4 st = q4 at *
      obtain ⟨p4, st4⟩ := q4
      dsimp only at hLL
      have HPL4 := (show Hid _ from HPL.out st4); clear HPL
      by_cases h40 : p4 = 0
      · subst h40
        rw [if_pos rfl] at hLL
        simp only [List.append_nil] at hLL
        have HLL := (show Hid _ from hLL); clear hLL
        go_wp2_with fail
        refine Calls.mono HCL.out ?_
        rintro e wX ⟨rfl, hoX, hqX, hcX⟩
        clear hqX
        have hsX := hoX.2.2.2.1
        dsimp only at hcX ⊢
        have HQ := (show Hid _ from (⟨HR.out.1.1.trans hoX, hcX, row_keep HR.out.1.2.2.2.2 (fun q hq hq2 => hoX.2.2.2.2 q hq2 (.inr (by omega)))⟩ : Out c (c + 1) w wX ∧ _ ∧ _)); clear hoX hcX A0 A1 A2 A3 HCL HR HE
        generalize hstx : st4 = st' at *
        clear hstx
        have hwz : w.heap.size + 2 ≤ wX.heap.size := by omega
        have hcl := pick_any 8 wX HQ.out.2.1 (by decide)
        have hct : cTail cs L = if (cPick cs 8 st').1 = 0 then (l ++ [((cPick cs 3 (cPick cs 8 st').2).1 : Int) - 1], (cPick cs 3 (cPick cs 8 st').2).2) else (l, (cPick cs 8 st').2) := by rw [← HLL.out]; rfl
        have HCT := (show Hid _ from hct); clear hct
        have HCL := (show Hid _ from hcl); clear hcl
        generalize cPick cs 8 st' = q8 at *
        obtain ⟨p8, st8⟩ := q8
        dsimp only at HCT
        by_cases h80 : p8 = 0
        · subst h80
          have hp3 : ∀ w', Cur w' cs a cap b off c st8 → _ := fun w' h => pick_any 3 w' h (by decide)
          have HP3 := (show Hid _ from hp3); clear hp3
          have hl3 := cPick_lt cs 3 st8 (by decide)
          generalize cPick cs 3 st8 = q3 at *
          obtain ⟨p3, st9⟩ := q3
          dsimp only at HCT hl3
          have hct2 : cTail cs L = (l ++ [(p3 : Int) - 1], st9) := by rw [HCT.out]; rfl
          have HCT2 := (show Hid _ from hct2); clear hct2
          go_wp2_with fail
          refine Calls.mono HCL.out ?_
          rintro e wY ⟨rfl, hoY, hqY, hcY⟩
          clear hqY
          have hsY := hoY.2.2.2.1
          dsimp only at hcY ⊢
          have HY := (show Hid _ from (⟨HQ.out.1.trans hoY, hcY, row_keep HQ.out.2.2 (fun q hq hq2 => hoY.2.2.2.2 q hq2 (.inr (by omega)))⟩ : _ ∧ _ ∧ _)); clear hoY hcY
          go_wp2_with fail
          refine Calls.mono (HP3.out wY HY.out.2.1) ?_
          rintro e wZ ⟨rfl, hoZ, hqZ, hcZ⟩
          clear hqZ
          have hsZ := hoZ.2.2.2.1
          dsimp only at hcZ ⊢
          have hbZ := bel_alloc wZ (.cells #[.int .i64 ((p3 : Int) - 1)] 3)
          have hrZ := row_keep HY.out.2.2 (fun q hq hq2 => hoZ.2.2.2.2 q hq2 (.inr (by omega)))
          have HO := (show Hid _ from own_still hrZ hbZ)
          have HZ := (show Hid _ from (⟨HY.out.1.trans hoZ, hcZ, hrZ⟩ : Out c (c + 1) w wZ ∧ _ ∧ _)); clear hoZ hcZ hrZ hbZ
          go_wp2_with (at_builtin; refine wpList_append_lies _ rfl (.tmp 34) (.tmp 38) 33 rfl (w.heap.size + 1) 3 i3 _ 1 8 Try.underlying33 hi3 hz0 hz1 hz2 rfl (by decide) _ l.length (ints l) rfl HO.out ⟨wZ.heap.size, 0, none⟩ 1 1 [.int .i64 ((p3 : Int) - 1)] rfl rfl ?c1 ?c2 (by decide) ?c3 (by omega) ?c5 _ rfl ?nx)
          case c1 => exact cell_one _ _ _
          case c2 => intro u hu; simp at hu; subst hu; rfl
          case c3 => unfold maxLen; omega
          case c5 => simp; omega
          case nx =>
            intro g4 cap4 w4 hown4 hgr4 hat4 hlt4
            have hvl := World.ownsRow.lt HO.out
            have hs4 : wZ.heap.size + 1 ≤ w4.heap.size := by have := hgr4.size; simp at this; omega
            have hblk : ∀ q, q < w.heap.size + 1 → w4.heap[q]? = wZ.heap[q]? := fun q hq => (hgr4.block q (by simp; omega) (fun e => by have := hvl q e.symm; omega)).trans ((bel_alloc wZ _).block q (by omega))
            have ho4 : Out c (c + 1) w w4 := ⟨hgr4.os.trans HZ.out.1.1, hgr4.tape.trans HZ.out.1.2.1, hgr4.output.trans HZ.out.1.2.2.1, by have := HZ.out.1.2.2.2.1; omega, fun k hk hn => (hblk k (by omega)).trans (HZ.out.1.2.2.2.2 k hk hn)⟩
            have hc4 := Cur.keep HZ.out.2.1 (fun k hk => hblk k (by omega))
            have hI : Ints w4 (fun q => w.heap.size + 1 ≤ q) (l ++ [(p3 : Int) - 1]) (.slice (some ⟨g4, 0, none⟩) (l.length + 1) cap4) := ints_of_row (by
              have e1 : ints (l ++ [(p3 : Int) - 1]) = ints l ++ [.int .i64 ((p3 : Int) - 1)] := by simp [ints]
              rw [e1, List.length_append]
              exact hown4)
            have H4 := (show Hid _ from (⟨ho4, hc4, hI⟩ : _ ∧ _ ∧ _)); clear ho4 hc4 hI hown4 hgr4 hat4 hblk hvl
            go_wp2_with fail
            go_ret
            rw [HCT2.out]
            exact ⟨_, _, _, rfl, H4.out⟩
        · have hct2 : cTail cs L = (l, st8) := by rw [HCT.out, if_neg h80]
          have HCT2 := (show Hid _ from hct2); clear hct2
          have h8b : ((p8 : Int) == 0) = false := by simp; omega
          go_wp2_with fail
          refine Calls.mono HCL.out ?_
          rintro e wY ⟨rfl, hoY, hqY, hcY⟩
          clear hqY
          dsimp only at hcY ⊢
          have HY := (show Hid _ from (⟨HQ.out.1.trans hoY, hcY, ints_of_row (row_keep HQ.out.2.2 (fun q hq hq2 => hoY.2.2.2.2 q hq2 (.inr (by omega))))⟩ : _ ∧ _ ∧ _)); clear hoY hcY
          go_wp2_with fail
          go_ret
          rw [HCT2.out]
          exact ⟨_, _, _, rfl, HY.out⟩
      · rw [if_neg h40] at hLL
        have h4p : (0 : Int) < p4 := by omega
        have hkl := cPick_lt cs tc.kids.length st4 (by omega)
        generalize cPick cs tc.kids.length st4 = qk at *
        obtain ⟨k, st5⟩ := qk
        dsimp only at hkl hLL
        have hkw := kid_wt tc k hkl
        have hfu := cPath_fuel cs tc.wt ((nth tc.kids k).wt + 1) (nth tc.kids k) st5 hkw (by omega)
        rw [hfu] at hLL
        have hLL2 : ((l ++ [(k : Int)]) ++ (cPath cs ((nth tc.kids k).wt + 1) (nth tc.kids k) st5).1, (cPath cs ((nth tc.kids k).wt + 1) (nth tc.kids k) st5).2) = L := by rw [← hLL]; simp
        have hlL : l.length + 1 ≤ L.1.length := by rw [← hLL2]; simp
        have HLL := (show Hid _ from hLL2); clear hLL hLL2 hfu
        obtain ⟨rfl, hSb⟩ := HE.out.1 (by omega)
        obtain ⟨e0, e1, e2, e3⟩ := HE.out.2.1 k hkl
        have hkf := HE.out.2.2 k hkl
        obtain ⟨z1, z2, z3, hz⟩ := hkf.form
        rw [hz] at e3 hkf
        rw [← nth_eq hkl] at e0 e1 e2 hkf
        generalize nth tc.kids k = kd at *
        have hki : (k : Int) < tc.kids.length := by omega
        go_wp2_with fail
        refine Calls.mono HCL.out ?_
        rintro e w1 ⟨rfl, ho1, hq1, hc1⟩
        clear hq1
        have hs1 := ho1.2.2.2.1
        dsimp only at hc1 ⊢
        have B1 := Box4.out HR.out.1.2.2.1 ho1 hlt
        clear A0 A1 A2 A3
        obtain ⟨A0, A1, A2, A3⟩ := B1.cells
        have H1 := (show Hid _ from (⟨HR.out.1.1.trans ho1, B1, row_keep HR.out.1.2.2.2.2 (fun q hq hq2 => ho1.2.2.2.2 q hq2 (.inr (by omega)))⟩ : Out c (c + 1) w w1 ∧ _ ∧ _))
        have HO1 := (show Hid _ from ho1); clear ho1 B1
        have hcl2 := HPL4.out w1 hc1
        have HCL2 := (show Hid _ from hcl2); clear hcl2 hc1
        go_wp2_with fail
        refine Calls.mono HCL2.out ?_
        rintro e w2 ⟨rfl, ho2, hq2, hc2⟩
        clear hq2
        have hs2 := ho2.2.2.2.1
        dsimp only at hc2 ⊢
        have B2 := Box4.out H1.out.2.1 ho2 hlt
        have hb2 := bel_alloc w2 (.cells #[.int .i64 (k : Int)] 3)
        have hr2 := row_keep H1.out.2.2 (fun q hq hq2 => ho2.2.2.2.2 q hq2 (.inr (by omega)))
        have HO := (show Hid _ from own_still hr2 hb2)
        have ho12 := Out.trans HO1.out ho2
        have H2 := (show Hid _ from (⟨H1.out.1.trans ho2, B2, hc2, ho12⟩ : Out c (c + 1) w w2 ∧ _ ∧ _ ∧ _)); clear ho2 hr2 hb2 B2 hc2 ho12
        clear A0 A1 A2 A3
        have hn6 : l.length + 1 ≤ 1000001 := by omega
        go_wp2_with (at_builtin; refine wpList_append_lies _ rfl (.tmp 22) (.tmp 24) 33 rfl (w.heap.size + 1) 3 i3 _ 1 8 Try.underlying33 hi3 hz0 hz1 hz2 rfl (by decide) _ l.length (ints l) rfl HO.out ⟨w2.heap.size, 0, none⟩ 1 1 [.int .i64 (k : Int)] rfl rfl ?c1 ?c2 (by decide) ?c3 (by omega) ?c5 _ rfl ?nx)
        case c1 => exact cell_one _ _ _
        case c2 => intro u hu; simp at hu; subst hu; rfl
        case c3 => unfold maxLen; omega
        case c5 => simp; omega
        case nx =>
          intro g4 cap4 w4 hown4 hgr4 hat4 hlt4
          have hvl := World.ownsRow.lt HO.out
          have hs4 : w2.heap.size + 1 ≤ w4.heap.size := by have := hgr4.size; simp at this; omega
          have hblk : ∀ q, q < w.heap.size + 1 → w4.heap[q]? = w2.heap[q]? := fun q hq => (hgr4.block q (by simp; omega) (fun e => by have := hvl q e.symm; omega)).trans ((bel_alloc w2 _).block q (by omega))
          have hmv : ∀ q, c < q → q < w.heap.size → w4.heap[q]? = wr.heap[q]? := fun q h1 h2 => (hblk q (by omega)).trans (H2.out.2.2.2.2.2.2.2 q (by omega) (.inr (by omega)))
          have mv : ∀ {o : Nat} {v : Value}, wr.cell? ⟨tb, o, none⟩ = some v → w4.cell? ⟨tb, o, none⟩ = some v := fun h => (World.cell?_of_block (w := wr) (hmv tb hSb.1 hSb.2)).trans h
          have f0 := mv e0
          have f1 := mv e1
          have f2 := mv e2
          have f3 := mv e3
          have B4 := Box4.keep H2.out.2.1 (hblk w.heap.size (by omega))
          obtain ⟨A0, A1, A2, A3⟩ := B4.cells
          have y0 := B4.frozen 0
          have y1 := B4.frozen 1
          have y2 := B4.frozen 2
          have y3 := B4.frozen 3
          have ho4 : Out c (c + 1) w w4 := ⟨hgr4.os.trans H2.out.1.1, hgr4.tape.trans H2.out.1.2.1, hgr4.output.trans H2.out.1.2.2.1, by have := H2.out.1.2.2.2.1; omega, fun k hk hn => (hblk k (by omega)).trans (H2.out.1.2.2.2.2 k hk hn)⟩
          have hc4 := Cur.keep H2.out.2.2.1 (fun k hk => hblk k (by omega))
          have hl4 : Lies w4 (fun q => c < q ∧ q < w.heap.size) kd (.slice z1 z2 z3) := hkf.keep (fun q hq => hmv q hq.1 hq.2)
          have hr4 : w4.ownsRow (w.heap.size + 1) 3 1 (.slice (some ⟨g4, 0, none⟩) (l ++ [(k : Int)]).length cap4) (l ++ [(k : Int)]).length (ints (l ++ [(k : Int)])) := by
            have e1 : ints (l ++ [(k : Int)]) = ints l ++ [.int .i64 (k : Int)] := by simp [ints]
            rw [e1, List.length_append]
            exact hown4
          have HN : Hid (Path cs a cap b off c w (l ++ [(k : Int)]) kd (.slice z1 z2 z3) (.slice (some ⟨g4, 0, none⟩) (l ++ [(k : Int)]).length cap4) st5 ((((w4.setCell ⟨w.heap.size, 0, none⟩ (.string kd.name)).setCell ⟨w.heap.size, 1, none⟩ (.string kd.text)).setCell ⟨w.heap.size, 2, none⟩ (.bool kd.leaf)).setCell ⟨w.heap.size, 3, none⟩ (.slice z1 z2 z3))) :=
            (⟨(((ho4.put (Nat.le_refl _)).put (Nat.le_refl _)).put (Nat.le_refl _)).put (Nat.le_refl _), (((hc4.set hlt).set hlt).set hlt).set hlt, Box4.set4 B4 _ _ _ _, (((hl4.set (by omega)).set (by omega)).set (by omega)).set (by omega), row_keep hr4 (fun q hq _ => by
              rw [blk_setCell_other _ _ _ _ (by show q ≠ w.heap.size; omega), blk_setCell_other _ _ _ _ (by show q ≠ w.heap.size; omega), blk_setCell_other _ _ _ _ (by show q ≠ w.heap.size; omega), blk_setCell_other _ _ _ _ (by show q ≠ w.heap.size; omega)])⟩)
          have hsz : ((((w4.setCell ⟨w.heap.size, 0, none⟩ (.string kd.name)).setCell ⟨w.heap.size, 1, none⟩ (.string kd.text)).setCell ⟨w.heap.size, 2, none⟩ (.bool kd.leaf)).setCell ⟨w.heap.size, 3, none⟩ (.slice z1 z2 z3)).heap.size = w4.heap.size := by simp [World.setCell]
          have HSZ := (show Hid _ from hsz); clear hsz
          clear ho4 hc4 hl4 hr4 B4 hown4 hgr4 hat4 hblk hmv hvl e0 e1 e2 e3 hkf
          clear mv
          go_wp2_with fail
          refine ⟨⟨l ++ [(k : Int)], kd, z1, z2, z3, some ⟨g4, 0, none⟩, cap4, st5, by simp, by omega, by simp; omega, by rw [HSZ.out]; omega, HN.out, HLL.out⟩, ?_⟩
          simp [lenV]
          omega
end Go.Proofs.Ythmdoplickpmaaa
