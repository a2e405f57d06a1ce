import Derived.Test.YteomgkcgjkbppaaPt
import Derived.Test.YteomgkcgjkbppaaBxs
import Derived.Test.YteomgkcgjkbppaaRight
import Derived.Deep.RegionHeld3
/-! The specification: l11Var, l03At, l11Vars, l11Pattern. -/
namespace Go.Proofs.Yteomgkcgjkbppaa
open Go.RowKit Go.Deep Go.Lib
set_option linter.unusedVariables false
set_option maxRecDepth 100000
set_option linter.unusedSimpArgs false

theorem ne_bytes {a b : ByteArray} (h : ¬ a = b) : (a.toList == b.toList) = false := by
  rw [beq_eq_false_iff_ne]
  intro e
  rw [ByteArray.toList_eq, ByteArray.toList_eq] at e
  exact h (ByteArray.ext (Array.toList_inj.mp e))
theorem eqS_var (n : ByteArray) : (n.toList == [86, 97, 114]) = eqS n varN := by
  have hv : varN.toList = [86, 97, 114] := by rw [ByteArray.toList_eq]; rfl
  by_cases e : n = varN
  · subst e
    rw [eqS_refl, hv]
    rfl
  · rw [eqS_no e, ← hv]
    exact ne_bytes e
theorem var70 (t : Tr) (v : Value) (w : World) (hv : v.oneCell' = true) :
    Calls Try.prog 70 #[t.val v] w fun e w' => e = .returned (.bool (vrB t.name t.leaf)) ∧ Below w.heap.size w w' := by
  obtain ⟨n, x, l, k⟩ := t
  simp only [Tr.val]
  have hb := bel_alloc w (.cells #[.string n, .string x, .bool l, v] 31)
  have HB := (show Hid _ from hb); clear hb
  unfold vrB
  cases l with
  | false =>
    go_enter Try.func70, Try.ntmps70
    go_wp2_with fail
    go_ret
    exact ⟨rfl, HB.out⟩
  | true =>
    have HE := (show Hid ((n.toList == [86, 97, 114]) = eqS n varN) from eqS_var n)
    go_enter Try.func70, Try.ntmps70
    go_wp2_with fail
    go_ret
    exact ⟨by rw [← HE.out]; rfl, HB.out⟩
/-- Texts that lie behind a slice. -/
def SRow (w : World) (l : List ByteArray) (v : Value) : Prop :=
  ∃ (a : Option Addr) (cap b off : Nat), v = .slice a l.length cap ∧ l.length ≤ cap ∧ cap ≤ maxLen ∧ (0 < l.length → a = some ⟨b, off, none⟩) ∧ ∀ i (hi : i < l.length), w.cell? ⟨b, off + i, none⟩ = some (.string l[i])
abbrev strs (l : List ByteArray) : List Value := l.map Value.string
theorem own_srow {w : World} {B : Nat} {v : Value} {l : List ByteArray} (h : w.ownsRow B 9 1 v l.length (strs l)) : SRow w l v := by
  rcases h.2 with ⟨rfl, h0⟩ | ⟨g, cap, cur, rfl, hBg, hg, hnc, hcm, hcs, htk⟩
  · exact ⟨none, 0, 0, 0, by rw [h0], by omega, Nat.zero_le _, fun h => by omega, fun i hi => by omega⟩
  · refine ⟨some ⟨g, 0, none⟩, cap, g, 0, rfl, hnc, hcm, fun _ => rfl, fun i hi => ?_⟩
    rw [Nat.zero_add, World.ownsRow.cellAt h _ (by omega)]
    simp [hi]
theorem hasS_take {l : List ByteArray} {s : ByteArray} {j : Nat} (h : ∀ i (hi : i < l.length), i < j → ¬ l[i] = s) (hj : l.length ≤ j) : hasS l s = false := by
  unfold hasS
  rw [List.any_eq_false]
  intro x hx
  obtain ⟨i, hi, rfl⟩ := List.mem_iff_getElem.1 hx
  rw [eqS_no (h i hi (by omega))]
  simp
set_option maxHeartbeats 800000 in
theorem at80 (l : List ByteArray) (s : ByteArray) (v : Value) (w : World) (h : SRow w l v) :
    Calls Try.prog 80 #[v, .string s] w fun e w' => ∃ i : Int, e = .returned (.int .i64 i) ∧ decide (i < 0) = !(hasS l s) ∧ w' = w := by
  obtain ⟨a, cap, b, off, rfl, hc, hm, ha, hcell⟩ := h
  have HC := (show Hid _ from hcell); clear hcell
  have HA := (show Hid _ from ha); clear ha
  unfold maxLen at hm
  go_enter Try.func80, Try.ntmps80
  go_wp2_with fail
  go_loop [5] (fun i => ∃ j : Nat, i = .int .i64 j ∧ j ≤ l.length ∧ Hid (∀ i (hi : i < l.length), i < j → ¬ l[i] = s)) (fun i => l.length - (intOf i).toNat)
  case atStart => exact ⟨0, rfl, Nat.zero_le _, fun i _ h0 => absurd h0 (Nat.not_lt_zero _)⟩
  case round =>
    obtain ⟨j, rfl, hj, HJ⟩ := hrel
    by_cases hlt : j < l.length
    · obtain rfl := HA.out (by omega)
      have c1 := HC.out j hlt
      have q1 : (j : Int) < (l.length : Int) := by omega
      by_cases he : l[j] = s
      · have HH := (show Hid (hasS l s = true) from (by
          show hasS l s = true
          unfold hasS
          rw [List.any_eq_true]
          exact ⟨l[j], List.getElem_mem hlt, by rw [he]; exact eqS_refl s⟩))
        rw [he] at c1
        clear he
        go_wp2_with fail
        go_ret
        exact ⟨(j : Int), rfl, by rw [HH.out]; simp, rfl⟩
      · have hd := ne_bytes he
        have HN := (show Hid (∀ i (hi : i < l.length), i < j + 1 → ¬ l[i] = s) from fun i hi hij => by
          by_cases e : i = j
          · subst e; exact he
          · exact HJ.out i hi (by omega))
        generalize l[j] = y at *
        clear he HJ
        go_wp2_with fail
        go_round
        case rel => exact ⟨j + 1, by go_num, by omega, HN⟩
        case measure => simp [intOf]; omega
    · have HH := (show Hid (hasS l s = false) from hasS_take HJ.out (by omega))
      clear HJ
      go_wp2_with fail
      go_ret
      exact ⟨-1, rfl, by rw [HH.out]; rfl, rfl⟩
/-- What l11Vars leaves. -/
def VsA (t : Tr) (l : List ByteArray) (B : Nat) (lv : Value) (w : World) (e : Ending) (w' : World) : Prop :=
  ∃ (la : Option Addr) (lc : Nat), e = .returned (.tuple #[.slice la (vsT t l).1.length lc, .bool (vsT t l).2]) ∧ GW w w' lv (.slice la (vsT t l).1.length lc) ∧ w'.ownsRow B 9 1 (.slice la (vsT t l).1.length lc) (vsT t l).1.length (strs (vsT t l).1)
theorem info9s : (Try.prog.info? 9).map (fun i => (i.zero, i.size, i.bytes)) = some (some (.string ByteArray.empty), 1, 16) := by kernel_rfl
/-- What stands while the variables of the Kids are gathered. -/
structure LvI (w : World) (B : Nat) (n x : ByteArray) (lf : Bool) (kv u0 : Value) (lj : List ByteArray) (u : Value) (wr : World) : Prop where
  gw : GW w wr u0 u
  row : wr.ownsRow B 9 1 u lj.length (strs lj)
  bx : Box wr w.heap.size 31 [.string n, .string x, .bool lf, kv]
  ne : u.ownBlock ≠ some w.heap.size
theorem LvI.below {w : World} {B : Nat} {n x : ByteArray} {lf : Bool} {kv u0 : Value} {lj l : List ByteArray} {u : Value} {wr : World} (h : LvI w B n x lf kv u0 lj u wr) (hB : B ≤ w.heap.size) (ho : w.ownsRow B 9 1 u0 l.length (strs l)) : Below B w wr := h.gw.below hB (fun g hg => (World.ownsRow.lt ho g hg).1)
theorem LvI.next {w : World} {B : Nat} {n x : ByteArray} {lf : Bool} {kv u0 : Value} {lj lj' : List ByteArray} {u u' : Value} {wr w2 : World} (h : LvI w B n x lf kv u0 lj u wr) (hg : GW wr w2 u u') (ho : w2.ownsRow B 9 1 u' lj'.length (strs lj')) : LvI w B n x lf kv u0 lj' u' w2 := by
  have hl := h.bx.lt
  refine ⟨h.gw.trans hg, ho, h.bx.keep (hg.g.block _ hl (fun e => h.ne e.symm)), fun e => ?_⟩
  rcases hg.at' with e1 | ⟨q, e1, hq⟩
  · rw [e1] at e; exact h.ne e
  · rw [e1] at e
    injection e with e
    omega
theorem Tr.cntL_drop (k : List Tr) (j : Nat) (h : j < k.length) : Tr.cntL (k.drop j) = k[j].cnt + Tr.cntL (k.drop (j + 1)) := by
  rw [List.drop_eq_getElem_cons h]
  unfold Tr.cntL
  rw [List.map_cons, List.sum_cons]
set_option maxHeartbeats 3200000 in
theorem vars49 {S : Nat → Prop} {B : Nat} (hS : ∀ q, S q → q < B) (t : Tr) : ∀ (v lv : Value) (l : List ByteArray) (w : World), Lies w S t v → w.ownsRow B 9 1 lv l.length (strs l) → B ≤ w.heap.size → l.length + t.cnt ≤ 1000000 →
    Calls Try.prog 49 #[t.val v, lv] w (VsA t l B lv w) := by
  refine Tr.ind (P := fun t => ∀ (v lv : Value) (l : List ByteArray) (w : World), Lies w S t v → w.ownsRow B 9 1 lv l.length (strs l) → B ≤ w.heap.size → l.length + t.cnt ≤ 1000000 → Calls Try.prog 49 #[t.val v, lv] w (VsA t l B lv w)) ?_ t
  intro n x lf k ih v lv l w hl ho hB hn
  have HI := (show Hid _ from ih); clear ih
  have HS := (show Hid _ from hS)
  obtain ⟨a, cap, b, off, sv, rfl, hnz, hxz, hc, hm, ha, hcell, hk⟩ := hl.out
  dsimp only at hnz hxz hc hm ha hcell hk
  have HA := (show Hid _ from ha); clear ha
  have HC := (show Hid _ from hcell); clear hcell
  have HK := (show Hid _ from hk); clear hk hl
  unfold maxLen at hm
  rw [Tr.cnt_mk] at hn
  obtain ⟨la, lc, rfl, _⟩ := own_ne ho
  simp only [Tr.val]
  have hba := bel_alloc w (.cells #[.string n, .string x, .bool lf, .slice a k.length cap] 31)
  have HV := (show Hid _ from var70 ⟨n, x, lf, k⟩ (.slice a k.length cap) (w.alloc (.cells #[.string n, .string x, .bool lf, .slice a k.length cap] 31)) rfl)
  simp only [Tr.val] at HV
  have HBX := (show Hid (Box (w.alloc (.cells #[.string n, .string x, .bool lf, .slice a k.length cap] 31)) w.heap.size 31 [.string n, .string x, .bool lf, .slice a k.length cap]) from Box.new w 31 _)
  have HOW := (show Hid _ from ho)
  have HBA := (show Hid _ from hba)
  have HBB := (show Hid (B ≤ w.heap.size) from hB)
  clear ho hba hB
  have HR := (show Hid (∀ (R : List ByteArray × Bool), vsT ⟨n, x, lf, k⟩ l = R → ∀ (la' : Option Addr) (lc' : Nat) (w' : World), GW w w' (.slice la l.length lc) (.slice la' R.1.length lc') → w'.ownsRow B 9 1 (.slice la' R.1.length lc') R.1.length (strs R.1) → VsA ⟨n, x, lf, k⟩ l B (.slice la l.length lc) w (.returned (.tuple #[.slice la' R.1.length lc', .bool R.2])) w') from fun R hR la' lc' w' g1 g2 => by
    subst hR
    exact ⟨la', lc', rfl, g1, g2⟩)
  have HVT := (show Hid _ from vsT_mk n x lf k l)
  cases hvr : vrB n lf
  · rw [hvr, if_neg (by simp)] at HVT
    rw [hvr] at HV
    clear hvr hnz hxz
    go_enter Try.func49, Try.ntmps49
    go_wp2_with fail
    refine Calls.mono HV.out ?_
    rintro e w1 ⟨rfl, hb1⟩
    have HI1 := (show Hid (LvI w B n x lf (.slice a k.length cap) (.slice la l.length lc) l (.slice la l.length lc) w1) from (by
      have hb2 := bel_trans HBA.out hb1
      refine ⟨GW.of_below hb2, own_keep1 HOW.out (fun q hq => hb2.block q (World.ownsRow.lt HOW.out q hq).2), HBX.out.still hb1, fun e => ?_⟩
      have := (World.ownsRow.lt HOW.out _ e).2
      omega))
    clear hb1 HV HBX HBA
    go_wp2_with fail
    go_loopw [1, 6, 7] (fun u o i wr => ∃ (j : Nat) (lj : List ByteArray) (ok : Bool) (ja : Option Addr) (jc : Nat), u = .slice ja lj.length jc ∧ o = .bool ok ∧ i = .int .i64 j ∧ j ≤ k.length ∧ Hid ((ok = true → vsK ((k.drop j).map vsT) lj = vsK (k.map vsT) l) ∧ (ok = false → vsK (k.map vsT) l = (lj, false))) ∧ Hid (ok = true → lj.length + Tr.cntL (k.drop j) ≤ 1000000) ∧ Hid (LvI w B n x lf (.slice a k.length cap) (.slice la l.length lc) lj (.slice ja lj.length jc) wr)) (fun _ _ i _ => k.length - (intOf i).toNat)
    case atStart => exact ⟨0, l, true, la, lc, rfl, rfl, rfl, Nat.zero_le _, ⟨fun _ => by rw [List.drop_zero], fun h => by cases h⟩, (fun _ => by rw [List.drop_zero]; omega), HI1.out⟩
    case round =>
      obtain ⟨j, lj, ok, ja, jc, rfl, rfl, rfl, hj, HE, HN, HT⟩ := hrel
      clear HI1
      have T3 : wr.cell? ⟨w.heap.size, 3, none⟩ = some (.slice a k.length cap) := HT.out.bx.cell 3 (by simp)
      by_cases hgo : j < k.length ∧ ok = true
      · obtain ⟨hlt, rfl⟩ := hgo
        have hbel := HT.out.below HBB.out HOW.out
        obtain ⟨rfl, hSb⟩ := HA.out (by omega)
        obtain ⟨c0, c1, c2, c3⟩ := HC.out j hlt
        have hbB := HS.out b hSb
        rw [← hbel.cell (by exact hbB)] at c0 c1 c2 c3
        obtain ⟨p1, p2, p3, ep⟩ := (HK.out j hlt).form
        have hst := vsK_step hlt lj
        have hcs := Tr.cntL_drop k j hlt
        have hn1 := HN.out rfl
        have hvl := vsT_len k[j] lj
        have HCL := (show Hid (Calls Try.prog 49 #[k[j].val (sv j), .slice ja lj.length jc] wr (VsA k[j] lj B (.slice ja lj.length jc) wr)) from HI.out j hlt (sv j) _ lj wr ((HK.out j hlt).keep (fun q hq => hbel.block q (HS.out q hq))) HT.out.row (by have := HBB.out; have := HT.out.gw.g.size; omega) (by omega))
        rw [ep] at c3 HCL
        simp only [Tr.val] at HCL
        have HNX := (show Hid (((vsT k[j] lj).2 = true → vsK ((k.drop (j + 1)).map vsT) (vsT k[j] lj).1 = vsK (k.map vsT) l) ∧ ((vsT k[j] lj).2 = false → vsK (k.map vsT) l = ((vsT k[j] lj).1, false))) from (by
          have h0 := HE.out.1 rfl
          rw [hst] at h0
          refine ⟨fun h => ?_, fun h => ?_⟩
          · rw [if_pos h] at h0; exact h0
          · rw [if_neg (by simp [h])] at h0; exact h0.symm))
        have HN2 := (show Hid ((vsT k[j] lj).2 = true → (vsT k[j] lj).1.length + Tr.cntL (k.drop (j + 1)) ≤ 1000000) from fun _ => by omega)
        unfold VsA at HCL
        clear hst hcs hn1 hvl ep hbel HE HN
        generalize vsT k[j] lj = R at *
        obtain ⟨lj', ok'⟩ := R
        dsimp only at HCL HNX HN2
        generalize k[j].name = kn at *
        generalize k[j].text = kx at *
        generalize k[j].leaf = kl at *
        have q1 : (j : Int) < (k.length : Int) := by omega
        go_wp2_with fail
        refine Calls.mono HCL.out ?_
        rintro e w2 ⟨za, zc, rfl, hg2, ho2⟩
        have HT2 := (show Hid (LvI w B n x lf (.slice (some ⟨b, off, none⟩) k.length cap) (.slice la l.length lc) lj' (.slice za lj'.length zc) w2) from HT.out.next hg2 ho2)
        clear hg2 ho2 HCL HT T3 c0 c1 c2 c3
        go_wp2_with fail
        exact ⟨⟨j + 1, lj', ok', za, zc, rfl, rfl, by go_num, by omega, HNX, HN2, HT2⟩, by simp [intOf]; omega⟩
      · have HFIN := (show Hid (VsA ⟨n, x, lf, k⟩ l B (.slice la l.length lc) w (.returned (.tuple #[.slice ja lj.length jc, .bool ok])) wr) from (by
          have e : vsK (k.map vsT) l = (lj, ok) := by
            cases ok with
            | false => exact HE.out.2 rfl
            | true =>
              have hje : j = k.length := by
                rcases Nat.lt_or_ge j k.length with h | h
                · exact absurd ⟨h, rfl⟩ hgo
                · omega
              have := HE.out.1 rfl
              rw [hje, List.drop_length] at this
              rw [← this]
              rfl
          exact HR.out (lj, ok) (HVT.out.trans e) ja jc wr HT.out.gw HT.out.row))
        clear HE HN HT HI HK HC HA HR HVT HOW
        cases ok with
        | false =>
          rcases Nat.lt_or_ge j k.length with h | h
          · have q1 : (j : Int) < (k.length : Int) := by omega
            go_wp2_with fail
            go_ret2
            exact HFIN.out
          · have q1 : ¬ ((j : Int) < (k.length : Int)) := by omega
            go_wp2_with fail
            go_ret2
            exact HFIN.out
        | true =>
          have q1 : ¬ ((j : Int) < (k.length : Int)) := by
            intro h
            exact hgo ⟨by omega, rfl⟩
          clear hgo
          go_wp2_with fail
          go_ret2
          exact HFIN.out
  · rw [hvr, if_pos rfl] at HVT
    rw [hvr] at HV
    clear hvr HI HK HC HA
    obtain ⟨i9, hi9, hz0, hz1, hz2⟩ := info_parts info9s
    go_enter Try.func49, Try.ntmps49
    go_wp2_with fail
    refine Calls.mono HV.out ?_
    rintro e w1 ⟨rfl, hb1⟩
    have hb2 := bel_trans HBA.out hb1
    have hbx1 := HBX.out.still hb1
    have T1 : w1.cell? ⟨w.heap.size, 1, none⟩ = some (.string x) := hbx1.cell 1 (by simp)
    have ho1 := own_keep1 HOW.out (fun q hq => hb2.block q (World.ownsRow.lt HOW.out q hq).2)
    have HAT := (show Hid _ from at80 l x _ w1 (own_srow ho1))
    have H1 := (show Hid (GW w w1 (.slice la l.length lc) (.slice la l.length lc) ∧ w1.ownsRow B 9 1 (.slice la l.length lc) l.length (strs l) ∧ Box w1 w.heap.size 31 [.string n, .string x, .bool lf, .slice a k.length cap]) from ⟨GW.of_below hb2, ho1, hbx1⟩)
    clear hb1 HV HBX HBA hb2 ho1 hbx1
    go_wp2_with fail
    refine Calls.mono HAT.out ?_
    rintro e w1' ⟨i, rfl, hi0, rfl⟩
    have HNM := (show Hid (∀ wq : World, Calls Try.prog 47 #[.string x] wq fun e w' => e = .returned (.bool (nmB x)) ∧ w' = wq) from fun wq => sName x hxz wq)
    cases hh : hasS l x
    · rw [hh] at hi0
      have had : adS l x = l ++ [x] := by unfold adS; rw [hh]; rfl
      have HO := (show Hid _ from own_still H1.out.2.1 (bel_alloc w1' (.cells #[.string x] 9)))
      have HZ := (show Hid (B ≤ (w1'.alloc (.cells #[.string x] 9)).heap.size) from (by have := H1.out.1.g.size; have := HBB.out; show _ ≤ _; simp; omega))
      have hll : l.length ≤ 1000000 := by omega
      have HUP := (show Hid (∀ (g7 cap7 : Nat) (w7 : World), w7.ownsRow B 9 1 (.slice (some ⟨g7, 0, none⟩) (l.length + 1) cap7) (l.length + 1) (strs l ++ [.string x]) → (w1'.alloc (.cells #[.string x] 9)).grownBy w7 (Value.slice la l.length lc).ownBlock → ((Value.slice la l.length lc).ownBlock = some g7 ∨ g7 = w1'.heap.size + 1) → VsA ⟨n, x, lf, k⟩ l B (.slice la l.length lc) w (.returned (.tuple #[.slice (some ⟨g7, 0, none⟩) (l.length + 1) cap7, .bool (nmB x)])) w7 ∧ w7.cell? ⟨w.heap.size, 1, none⟩ = some (.string x)) from fun g7 cap7 w7 e1 e2 e3 => by
        have hlen : (l ++ [x]).length = l.length + 1 := by simp
        have hg : GW w w7 (.slice la l.length lc) (.slice (some ⟨g7, 0, none⟩) (l.length + 1) cap7) := (H1.out.1.trans (GW.of_below (bel_alloc w1' (.cells #[.string x] 9)))).trans (GW.step (H := w1'.heap.size + 1) e2 e3 (by simp))
        refine ⟨?_, ?_⟩
        · have := HR.out (l ++ [x], nmB x) (by rw [HVT.out, had]) (some ⟨g7, 0, none⟩) cap7 w7
          rw [hlen] at this
          exact this hg (by simpa using e1)
        · have hbx := (H1.out.2.2.still (bel_alloc w1' (.cells #[.string x] 9))).keep (e2.block _ (by have := H1.out.2.2.lt; simp; omega) (fun e => by have := (World.ownsRow.lt HOW.out _ e.symm).2; omega))
          exact hbx.cell 1 (by simp))
      have hdi : decide (i < 0) = true := hi0
      have hi1 : i < 0 := by simpa using hdi
      clear H1 HR HVT had hh hi0 HAT
      go_wp2_with (at_builtin; refine wpList_append_lies _ rfl (.tmp 15) (.tmp 18) 79 rfl B 9 i9 _ 1 16 Try.underlying79 hi9 hz0 hz1 hz2 rfl (by decide) _ l.length (strs l) rfl HO.out ⟨w1'.heap.size, 0, none⟩ 1 1 [.string x] rfl rfl ?c1 ?c2 (by decide) ?c3 (by omega) ?c5 _ rfl ?nx)
      case c1 => exact World.news_of_block (cs := #[.string x]) (blk_alloc_new _ _)
      case c2 => intro u hu; simp at hu; subst hu; rfl
      case c3 => unfold maxLen; omega
      case c5 => exact HZ.out
      case nx =>
        intro g4 cap4 w5 hown4 hgr4 hat4 hlt4
        obtain ⟨hA, X1⟩ := HUP.out g4 cap4 w5 hown4 hgr4 (by simpa using hat4)
        have HE := (show Hid _ from hA)
        clear hown4 hgr4 hat4 hlt4 HUP HO HZ hA T1
        go_wp2_with fail
        refine Calls.mono (HNM.out _) ?_
        rintro e w6 ⟨rfl, rfl⟩
        go_wp2_with fail
        go_ret2
        exact HE.out
    · rw [hh] at hi0
      have had : adS l x = l := by unfold adS; rw [hh]; rfl
      have hi1 : ¬ i < 0 := by
        have hdi : decide (i < 0) = false := hi0
        simpa using hdi
      have HE := (show Hid _ from HR.out (l, nmB x) (by rw [HVT.out, had]) la lc w1' H1.out.1 H1.out.2.1)
      clear H1 HR HVT had hh hi0 HAT
      go_wp2_with fail
      refine Calls.mono (HNM.out _) ?_
      rintro e w6 ⟨rfl, rfl⟩
      go_wp2_with fail
      go_ret2
      exact HE.out
theorem ok_cnt {t : Tr} (h : t.ok = true) : t.cnt ≤ 1000 := by
  unfold Tr.ok at h
  simp only [Bool.and_eq_true, decide_eq_true_eq] at h
  omega
set_option maxHeartbeats 1600000 in
theorem pat32 {S : Nat → Prop} (t : Tr) (v : Value) (w : World) (h : Lies w S t v) :
    Calls Try.prog 32 #[t.val v] w fun e w' => e = .returned (.bool (patB t)) ∧ Below w.heap.size w w' := by
  have hl0 : Lies w (fun q => q < w.heap.size) t v := (h.lt).mono (fun q hq => hq.2)
  have hb0 := bel_alloc w (.cells #[.string t.name, .string t.text, .bool t.leaf, v] 31)
  have HBX := (show Hid (Box (w.alloc (.cells #[.string t.name, .string t.text, .bool t.leaf, v] 31)) w.heap.size 31 [.string t.name, .string t.text, .bool t.leaf, v]) from Box.new w 31 _)
  have HOK := (show Hid (Calls Try.prog 33 #[t.val v] (w.alloc (.cells #[.string t.name, .string t.text, .bool t.leaf, v] 31)) fun e w' => e = .returned (.bool t.ok) ∧ Below (w.alloc (.cells #[.string t.name, .string t.text, .bool t.leaf, v] 31)).heap.size (w.alloc (.cells #[.string t.name, .string t.text, .bool t.leaf, v] 31)) w') from sOK_any t v _ (hl0.still hb0))
  have HB0 := (show Hid _ from hb0)
  have HVS := (show Hid (∀ w1 : World, Below w.heap.size w w1 → t.cnt ≤ 1000 → Calls Try.prog 49 #[t.val v, .slice (some ⟨w1.heap.size, 0, none⟩) 0 0] (w1.alloc (.cells #[] 9)) (VsA t [] w.heap.size (.slice (some ⟨w1.heap.size, 0, none⟩) 0 0) (w1.alloc (.cells #[] 9)))) from fun w1 hb hc => by
    have hb2 := bel_trans hb (bel_alloc w1 (.cells #[] 9))
    refine vars49 (S := fun q => q < w.heap.size) (B := w.heap.size) (fun q hq => hq) t v _ [] _ (hl0.still hb2) ?_ hb2.size (by simp; omega)
    exact World.ownsRow_made w1 #[] 0 hb.size (Nat.zero_le _) rfl)
  have HPB := (show Hid (patB t = (t.ok && (vsT t []).2)) from (by show patB t = _; unfold patB; rw [vsT_ok]))
  obtain ⟨a1, l1, p1, rfl⟩ := h.form
  clear h hl0 hb0
  cases hok : t.ok
  · rw [hok] at HOK HPB
    have HPF := (show Hid (patB t = false) from HPB.out)
    clear HVS HPB
    obtain ⟨n, x, lf, k⟩ := t
    simp only [Tr.val] at HOK ⊢
    dsimp only at HBX HB0
    go_enter Try.func32, Try.ntmps32
    go_wp2_with fail
    refine Calls.mono HOK.out ?_
    rintro e w1 ⟨rfl, hb1⟩
    have HE := (show Hid _ from bel_trans HB0.out hb1)
    clear hb1
    go_wp2_with fail
    go_ret
    exact ⟨by rw [HPF.out]; rfl, HE.out⟩
  · rw [hok] at HOK HPB
    have hc := ok_cnt hok
    have HPT := (show Hid (patB t = (vsT t []).2) from (by show patB t = _; rw [HPB.out]; rfl))
    have HV2 := (show Hid (∀ w1 : World, Below w.heap.size w w1 → Calls Try.prog 49 #[t.val (.slice a1 l1 p1), .slice (some ⟨w1.heap.size, 0, none⟩) 0 0] (w1.alloc (.cells #[] 9)) fun e w' => ∃ (la : Option Addr) (lm lc : Nat), e = .returned (.tuple #[.slice la lm lc, .bool (patB t)]) ∧ Below w.heap.size w w') from fun w1 hb => Calls.mono (HVS.out w1 hb hc) (by
      rintro e w' ⟨la, lc, e1, e2, e3⟩
      refine ⟨la, _, lc, by rw [HPT.out]; exact e1, ?_⟩
      have hb2 := bel_trans hb (bel_alloc w1 (.cells #[] 9))
      exact hb2.trans (e2.below (B := w.heap.size) hb2.size (fun g hg => by
        have : w1.heap.size = g := by simpa [Value.ownBlock] using hg
        have := hb.size
        omega))))
    clear HVS HPB HPT hc hok
    generalize patB t = P at *
    obtain ⟨n, x, lf, k⟩ := t
    simp only [Tr.val] at HOK HV2 ⊢
    dsimp only at HBX HB0
    go_enter Try.func32, Try.ntmps32
    go_wp2_with fail
    refine Calls.mono HOK.out ?_
    rintro e w1 ⟨rfl, hb1⟩
    have hbx1 := HBX.out.still hb1
    have x0 : w1.cell? ⟨w.heap.size, 0, none⟩ = some (.string n) := hbx1.cell 0 (by simp)
    have x1 : w1.cell? ⟨w.heap.size, 1, none⟩ = some (.string x) := hbx1.cell 1 (by simp)
    have x2 : w1.cell? ⟨w.heap.size, 2, none⟩ = some (.bool lf) := hbx1.cell 2 (by simp)
    have x3 : w1.cell? ⟨w.heap.size, 3, none⟩ = some (.slice a1 l1 p1) := hbx1.cell 3 (by simp)
    have HB1 := (show Hid _ from bel_trans HB0.out hb1)
    clear hb1 hbx1 HOK HBX HB0
    go_wp2_with fail
    refine Calls.mono (HV2.out w1 HB1.out) ?_
    rintro e w2 ⟨la, lm, lc, rfl, hb2⟩
    have HE := (show Hid _ from hb2)
    clear hb2 x0 x1 x2 x3 HV2
    go_wp2_with fail
    go_ret
    exact ⟨rfl, HE.out⟩
end Go.Proofs.Yteomgkcgjkbppaa
