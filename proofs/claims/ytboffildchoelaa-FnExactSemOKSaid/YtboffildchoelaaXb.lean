import Derived.Test.YtboffildchoelaaXa
import Derived.Test.YtboffildchoelaaPs
/-! The specification: l16Var, l16Holes, l16Vars, l16Pattern. -/
namespace Go.Proofs.Ytboffildchoelaa
open Go.RowKit Go.Deep Go.Lib
set_option linter.unusedVariables false
set_option maxRecDepth 100000
set_option linter.unusedSimpArgs false

theorem eqS_val (n : ByteArray) : (n.toList == [86, 97, 108]) = eqS n valN := by
  have hv : valN.toList = [86, 97, 108] := by rw [ByteArray.toList_eq]; rfl
  by_cases e : n = valN
  · subst e
    rw [eqS_refl, hv]
    rfl
  · rw [eqS_no e, ← hv]
    exact ne_bytes e
theorem eqS_hol (n : ByteArray) : (n.toList == [72, 111, 108, 101]) = eqS n holN := by
  have hv : holN.toList = [72, 111, 108, 101] := by rw [ByteArray.toList_eq]; rfl
  by_cases e : n = holN
  · subst e
    rw [eqS_refl, hv]
    rfl
  · rw [eqS_no e, ← hv]
    exact ne_bytes e
set_option maxHeartbeats 800000 in
theorem var15 (t : Tr) (v : Value) (w : World) (hv : v.oneCell' = true) :
    Calls Try.prog 15 #[t.val v] w fun e w' => e = .returned (.bool (v6B t.name t.leaf)) ∧ Below w.heap.size w w' := by
  obtain ⟨n, x, l, k⟩ := t
  simp only [Tr.val]
  have hb := bel_alloc w (.cells #[.string n, .string x, .bool l, v] 42)
  have HB := (show Hid _ from hb); clear hb
  unfold v6B
  cases l with
  | false =>
    go_enter Try.func15, Try.ntmps15
    go_wp2_with fail
    go_ret
    exact ⟨rfl, HB.out⟩
  | true =>
    rw [← eqS_var n, ← eqS_val n]
    cases h1 : (n.toList == [86, 97, 114])
    · cases h2 : (n.toList == [86, 97, 108])
      all_goals
        go_enter Try.func15, Try.ntmps15
        go_wp2_with fail
        go_ret
        exact ⟨rfl, HB.out⟩
    · go_enter Try.func15, Try.ntmps15
      go_wp2_with fail
      go_ret
      exact ⟨rfl, HB.out⟩
set_option maxHeartbeats 1600000 in
theorem holes32 {S : Nat → Prop} (t : Tr) : ∀ (v : Value) (w : World), Lies w S t v → t.cnt ≤ 1000000 →
    Calls Try.prog 32 #[t.val v] w fun e w' => e = .returned (.int .i64 (hN t)) ∧ Below w.heap.size w w' := by
  refine Tr.ind (P := fun t => ∀ (v : Value) (w : World), Lies w S t v → t.cnt ≤ 1000000 → Calls Try.prog 32 #[t.val v] w fun e w' => e = .returned (.int .i64 (hN t)) ∧ Below w.heap.size w w') ?_ t
  intro n x lf k ih v w hl hn
  have HI := (show Hid _ from ih); clear ih
  obtain ⟨a, cap, b, off, sv, rfl, hnz, hxz, hc, hm, ha, hcell, hk⟩ := hl.out
  dsimp only at hnz hxz hc hm ha hcell hk
  have HA := (show Hid _ from ha); clear ha
  have HC := (show Hid _ from hcell); clear hcell
  have HK := (show Hid _ from hk); clear hk hl
  unfold maxLen at hm
  rw [Tr.cnt_mk] at hn
  simp only [Tr.val]
  have hb0 := bel_alloc w (.cells #[.string n, .string x, .bool lf, .slice a k.length cap] 42)
  have HBX := (show Hid (Box (w.alloc (.cells #[.string n, .string x, .bool lf, .slice a k.length cap] 42)) w.heap.size 42 [.string n, .string x, .bool lf, .slice a k.length cap]) from Box.new w 42 _)
  have HB0 := (show Hid _ from hb0); clear hb0
  cases lf with
  | false =>
    have HHO := (show Hid (hoB n false = false) from rfl)
    go_enter Try.func32, Try.ntmps32
    go_wp2_with fail
    go_loopw [3, 4] (fun u i wr => ∃ j : Nat, i = .int .i64 j ∧ u = .int .i64 ((0 + hNL (k.take j) : Nat) : Int) ∧ j ≤ k.length ∧ Hid (Below w.heap.size w wr ∧ Box wr w.heap.size 42 [.string n, .string x, .bool false, .slice a k.length cap])) (fun _ i _ => k.length - (intOf i).toNat)
    case atStart => exact ⟨0, rfl, rfl, Nat.zero_le _, HB0.out, HBX.out⟩
    case round =>
      obtain ⟨j, rfl, rfl, hj, HT⟩ := hrel
      have T3 : wr.cell? ⟨w.heap.size, 3, none⟩ = some (.slice a k.length cap) := HT.out.2.cell 3 (by simp)
      by_cases hlt : j < k.length
      · have q1 : (j : Int) < (k.length : Int) := by omega
        have hbel := HT.out.1
        obtain ⟨rfl, hSb⟩ := HA.out (by omega)
        obtain ⟨c0, c1, c2, c3⟩ := HC.out j hlt
        rw [← hbel.cell (lt_of_cell c0)] at c0
        rw [← hbel.cell (lt_of_cell c1)] at c1
        rw [← hbel.cell (lt_of_cell c2)] at c2
        rw [← hbel.cell (lt_of_cell c3)] at c3
        obtain ⟨p1, p2, p3, ep⟩ := (HK.out j hlt).form
        have hcd := Tr.cntL_drop k j hlt
        have hcd2 := Tr.cntL_append (k.take j) (k.drop j)
        rw [List.take_append_drop] at hcd2
        have h1 := hNL_take_le k j
        have h2 := hN_le k[j]
        have hts := hNL_take k j hlt
        have HCL := (show Hid (Calls Try.prog 32 #[k[j].val (sv j)] wr fun e w' => e = .returned (.int .i64 (hN k[j])) ∧ Below wr.heap.size wr w') from HI.out j hlt (sv j) wr ((HK.out j hlt).still hbel) (by omega))
        rw [ep] at c3 HCL
        simp only [Tr.val] at HCL
        clear ep hbel
        generalize hN k[j] = H at *
        generalize hNL (k.take j) = G at *
        generalize k[j].name = kn at *
        generalize k[j].text = kx at *
        generalize k[j].leaf = kl at *
        go_wp2_with fail
        refine Calls.mono HCL.out ?_
        rintro e w2 ⟨rfl, hb2⟩
        have HT2 := (show Hid (Below w.heap.size w w2 ∧ Box w2 w.heap.size 42 [.string n, .string x, .bool false, .slice (some ⟨b, off, none⟩) k.length cap]) from ⟨bel_trans HT.out.1 hb2, HT.out.2.still hb2⟩)
        clear hb2 HCL HT T3 c0 c1 c2 c3
        go_wp2_with fail
        exact ⟨⟨j + 1, by go_num, by rw [hts]; go_num, by omega, HT2⟩, by simp [intOf]; omega⟩
      · have q1 : ¬ ((j : Int) < (k.length : Int)) := by omega
        have hje : j = k.length := by omega
        subst hje
        rw [List.take_length]
        go_wp2_with fail
        go_ret
        exact ⟨by rw [hN_mk, HHO.out]; simp, HT.out.1⟩

  | true =>
    have HHO := (show Hid (hoB n true = eqS n holN) from by show hoB n true = _; unfold hoB; rfl)
    rw [← eqS_hol n] at HHO
    cases h1 : (n.toList == [72, 111, 108, 101])
    · rw [h1] at HHO
      go_enter Try.func32, Try.ntmps32
      go_wp2_with fail
      go_loopw [3, 4] (fun u i wr => ∃ j : Nat, i = .int .i64 j ∧ u = .int .i64 ((0 + hNL (k.take j) : Nat) : Int) ∧ j ≤ k.length ∧ Hid (Below w.heap.size w wr ∧ Box wr w.heap.size 42 [.string n, .string x, .bool true, .slice a k.length cap])) (fun _ i _ => k.length - (intOf i).toNat)
      case atStart => exact ⟨0, rfl, rfl, Nat.zero_le _, HB0.out, HBX.out⟩
      case round =>
        obtain ⟨j, rfl, rfl, hj, HT⟩ := hrel
        have T3 : wr.cell? ⟨w.heap.size, 3, none⟩ = some (.slice a k.length cap) := HT.out.2.cell 3 (by simp)
        by_cases hlt : j < k.length
        · have q1 : (j : Int) < (k.length : Int) := by omega
          have hbel := HT.out.1
          obtain ⟨rfl, hSb⟩ := HA.out (by omega)
          obtain ⟨c0, c1, c2, c3⟩ := HC.out j hlt
          rw [← hbel.cell (lt_of_cell c0)] at c0
          rw [← hbel.cell (lt_of_cell c1)] at c1
          rw [← hbel.cell (lt_of_cell c2)] at c2
          rw [← hbel.cell (lt_of_cell c3)] at c3
          obtain ⟨p1, p2, p3, ep⟩ := (HK.out j hlt).form
          have hcd := Tr.cntL_drop k j hlt
          have hcd2 := Tr.cntL_append (k.take j) (k.drop j)
          rw [List.take_append_drop] at hcd2
          have h1 := hNL_take_le k j
          have h2 := hN_le k[j]
          have hts := hNL_take k j hlt
          have HCL := (show Hid (Calls Try.prog 32 #[k[j].val (sv j)] wr fun e w' => e = .returned (.int .i64 (hN k[j])) ∧ Below wr.heap.size wr w') from HI.out j hlt (sv j) wr ((HK.out j hlt).still hbel) (by omega))
          rw [ep] at c3 HCL
          simp only [Tr.val] at HCL
          clear ep hbel
          generalize hN k[j] = H at *
          generalize hNL (k.take j) = G at *
          generalize k[j].name = kn at *
          generalize k[j].text = kx at *
          generalize k[j].leaf = kl at *
          go_wp2_with fail
          refine Calls.mono HCL.out ?_
          rintro e w2 ⟨rfl, hb2⟩
          have HT2 := (show Hid (Below w.heap.size w w2 ∧ Box w2 w.heap.size 42 [.string n, .string x, .bool true, .slice (some ⟨b, off, none⟩) k.length cap]) from ⟨bel_trans HT.out.1 hb2, HT.out.2.still hb2⟩)
          clear hb2 HCL HT T3 c0 c1 c2 c3
          go_wp2_with fail
          exact ⟨⟨j + 1, by go_num, by rw [hts]; go_num, by omega, HT2⟩, by simp [intOf]; omega⟩
        · have q1 : ¬ ((j : Int) < (k.length : Int)) := by omega
          have hje : j = k.length := by omega
          subst hje
          rw [List.take_length]
          go_wp2_with fail
          go_ret
          exact ⟨by rw [hN_mk, HHO.out]; simp, HT.out.1⟩

    · rw [h1] at HHO
      go_enter Try.func32, Try.ntmps32
      go_wp2_with fail
      go_loopw [3, 4] (fun u i wr => ∃ j : Nat, i = .int .i64 j ∧ u = .int .i64 ((1 + hNL (k.take j) : Nat) : Int) ∧ j ≤ k.length ∧ Hid (Below w.heap.size w wr ∧ Box wr w.heap.size 42 [.string n, .string x, .bool true, .slice a k.length cap])) (fun _ i _ => k.length - (intOf i).toNat)
      case atStart => exact ⟨0, rfl, rfl, Nat.zero_le _, HB0.out, HBX.out⟩
      case round =>
        obtain ⟨j, rfl, rfl, hj, HT⟩ := hrel
        have T3 : wr.cell? ⟨w.heap.size, 3, none⟩ = some (.slice a k.length cap) := HT.out.2.cell 3 (by simp)
        by_cases hlt : j < k.length
        · have q1 : (j : Int) < (k.length : Int) := by omega
          have hbel := HT.out.1
          obtain ⟨rfl, hSb⟩ := HA.out (by omega)
          obtain ⟨c0, c1, c2, c3⟩ := HC.out j hlt
          rw [← hbel.cell (lt_of_cell c0)] at c0
          rw [← hbel.cell (lt_of_cell c1)] at c1
          rw [← hbel.cell (lt_of_cell c2)] at c2
          rw [← hbel.cell (lt_of_cell c3)] at c3
          obtain ⟨p1, p2, p3, ep⟩ := (HK.out j hlt).form
          have hcd := Tr.cntL_drop k j hlt
          have hcd2 := Tr.cntL_append (k.take j) (k.drop j)
          rw [List.take_append_drop] at hcd2
          have h1 := hNL_take_le k j
          have h2 := hN_le k[j]
          have hts := hNL_take k j hlt
          have HCL := (show Hid (Calls Try.prog 32 #[k[j].val (sv j)] wr fun e w' => e = .returned (.int .i64 (hN k[j])) ∧ Below wr.heap.size wr w') from HI.out j hlt (sv j) wr ((HK.out j hlt).still hbel) (by omega))
          rw [ep] at c3 HCL
          simp only [Tr.val] at HCL
          clear ep hbel
          generalize hN k[j] = H at *
          generalize hNL (k.take j) = G at *
          generalize k[j].name = kn at *
          generalize k[j].text = kx at *
          generalize k[j].leaf = kl at *
          go_wp2_with fail
          refine Calls.mono HCL.out ?_
          rintro e w2 ⟨rfl, hb2⟩
          have HT2 := (show Hid (Below w.heap.size w w2 ∧ Box w2 w.heap.size 42 [.string n, .string x, .bool true, .slice (some ⟨b, off, none⟩) k.length cap]) from ⟨bel_trans HT.out.1 hb2, HT.out.2.still hb2⟩)
          clear hb2 HCL HT T3 c0 c1 c2 c3
          go_wp2_with fail
          exact ⟨⟨j + 1, by go_num, by rw [hts]; go_num, by omega, HT2⟩, by simp [intOf]; omega⟩
        · have q1 : ¬ ((j : Int) < (k.length : Int)) := by omega
          have hje : j = k.length := by omega
          subst hje
          rw [List.take_length]
          go_wp2_with fail
          go_ret
          exact ⟨by rw [hN_mk, HHO.out]; simp, HT.out.1⟩

/-- What l16Vars leaves. -/
def WsA (t : Tr) (l : List ByteArray) (B : Nat) (lv : Value) (w : World) (e : Ending) (w' : World) : Prop :=
  ∃ (la : Option Addr) (lc : Nat), e = .returned (.tuple #[.slice la (ws t l).1.length lc, .bool (ws t l).2]) ∧ GW w w' lv (.slice la (ws t l).1.length lc) ∧ w'.ownsRow B 9 1 (.slice la (ws t l).1.length lc) (ws t l).1.length (strs (ws t l).1)
/-- What stands while the variables of the Kids are gathered. -/
structure LwI (w : World) (B : Nat) (n x : ByteArray) (lf : Bool) (kv u0 : Value) (lj : List ByteArray) (u : Value) (wr : World) : Prop where
  gw : GW w wr u0 u
  row : wr.ownsRow B 9 1 u lj.length (strs lj)
  bx : Box wr w.heap.size 42 [.string n, .string x, .bool lf, kv]
  ne : u.ownBlock ≠ some w.heap.size
theorem LwI.below {w : World} {B : Nat} {n x : ByteArray} {lf : Bool} {kv u0 : Value} {lj l : List ByteArray} {u : Value} {wr : World} (h : LwI w B n x lf kv u0 lj u wr) (hB : B ≤ w.heap.size) (ho : w.ownsRow B 9 1 u0 l.length (strs l)) : Below B w wr := h.gw.below hB (fun g hg => (World.ownsRow.lt ho g hg).1)
theorem LwI.next {w : World} {B : Nat} {n x : ByteArray} {lf : Bool} {kv u0 : Value} {lj lj' : List ByteArray} {u u' : Value} {wr w2 : World} (h : LwI w B n x lf kv u0 lj u wr) (hg : GW wr w2 u u') (ho : w2.ownsRow B 9 1 u' lj'.length (strs lj')) : LwI w B n x lf kv u0 lj' u' w2 := by
  have hl := h.bx.lt
  refine ⟨h.gw.trans hg, ho, h.bx.keep (hg.g.block _ hl (fun e => h.ne e.symm)), fun e => ?_⟩
  rcases hg.at' with e1 | ⟨q, e1, hq⟩
  · rw [e1] at e; exact h.ne e
  · rw [e1] at e
    injection e with e
    omega
set_option maxHeartbeats 3200000 in
theorem vars29 {S : Nat → Prop} {B : Nat} (hS : ∀ q, S q → q < B) (t : Tr) : ∀ (v lv : Value) (l : List ByteArray) (w : World), Lies w S t v → w.ownsRow B 9 1 lv l.length (strs l) → B ≤ w.heap.size → l.length + t.cnt ≤ 1000000 →
    Calls Try.prog 29 #[t.val v, lv] w (WsA t l B lv w) := by
  refine Tr.ind (P := fun t => ∀ (v lv : Value) (l : List ByteArray) (w : World), Lies w S t v → w.ownsRow B 9 1 lv l.length (strs l) → B ≤ w.heap.size → l.length + t.cnt ≤ 1000000 → Calls Try.prog 29 #[t.val v, lv] w (WsA t l B lv w)) ?_ t
  intro n x lf k ih v lv l w hl ho hB hn
  have HI := (show Hid _ from ih); clear ih
  have HS := (show Hid _ from hS)
  obtain ⟨a, cap, b, off, sv, rfl, hnz, hxz, hc, hm, ha, hcell, hk⟩ := hl.out
  dsimp only at hnz hxz hc hm ha hcell hk
  have HA := (show Hid _ from ha); clear ha
  have HC := (show Hid _ from hcell); clear hcell
  have HK := (show Hid _ from hk); clear hk hl
  unfold maxLen at hm
  rw [Tr.cnt_mk] at hn
  obtain ⟨la, lc, rfl, _⟩ := own_ne ho
  simp only [Tr.val]
  have hba := bel_alloc w (.cells #[.string n, .string x, .bool lf, .slice a k.length cap] 42)
  have HV := (show Hid _ from var15 ⟨n, x, lf, k⟩ (.slice a k.length cap) (w.alloc (.cells #[.string n, .string x, .bool lf, .slice a k.length cap] 42)) rfl)
  simp only [Tr.val] at HV
  have HBX := (show Hid (Box (w.alloc (.cells #[.string n, .string x, .bool lf, .slice a k.length cap] 42)) w.heap.size 42 [.string n, .string x, .bool lf, .slice a k.length cap]) from Box.new w 42 _)
  have HOW := (show Hid _ from ho)
  have HBA := (show Hid _ from hba)
  have HBB := (show Hid (B ≤ w.heap.size) from hB)
  clear ho hba hB
  have HR := (show Hid (∀ (R : List ByteArray × Bool), ws ⟨n, x, lf, k⟩ l = R → ∀ (la' : Option Addr) (lc' : Nat) (w' : World), GW w w' (.slice la l.length lc) (.slice la' R.1.length lc') → w'.ownsRow B 9 1 (.slice la' R.1.length lc') R.1.length (strs R.1) → WsA ⟨n, x, lf, k⟩ l B (.slice la l.length lc) w (.returned (.tuple #[.slice la' R.1.length lc', .bool R.2])) w') from fun R hR la' lc' w' g1 g2 => by
    subst hR
    exact ⟨la', lc', rfl, g1, g2⟩)
  have HVT := (show Hid _ from ws_mk n x lf k l)
  cases hvr : v6B n lf
  · rw [hvr, if_neg (by simp)] at HVT
    rw [hvr] at HV
    have HVE := (show Hid (ws ⟨n, x, lf, k⟩ l = if hoK n x lf = true then vsK (k.map ws) l else (l, false)) from HVT.out)
    clear HVT
    have hST : Hid (((true : Bool) = true → vsK ((k.drop 0).map ws) l = vsK (k.map ws) l) ∧ ((true : Bool) = false → vsK (k.map ws) l = (l, false))) := ⟨fun _ => by rw [List.drop_zero], fun h => by cases h⟩
    cases lf with
    | false =>
      have HVT := (show Hid (ws ⟨n, x, false, k⟩ l = vsK (k.map ws) l) from HVE.out)
      have HST := hST
      clear HVE hST
      clear hvr hnz
      go_enter Try.func29, Try.ntmps29
      go_wp2_with fail
      refine Calls.mono HV.out ?_
      rintro e w1 ⟨rfl, hb1⟩
      have HI1 := (show Hid (LwI w B n x false (.slice a k.length cap) (.slice la l.length lc) l (.slice la l.length lc) w1) from (by
        have hb2 := bel_trans HBA.out hb1
        refine ⟨GW.of_below hb2, own_keep1 HOW.out (fun q hq => hb2.block q (World.ownsRow.lt HOW.out q hq).2), HBX.out.still hb1, fun e => ?_⟩
        have := (World.ownsRow.lt HOW.out _ e).2
        omega))
      have X0 : w1.cell? ⟨w.heap.size, 0, none⟩ = some (.string n) := HI1.out.bx.cell 0 (by simp)
      have X1 : w1.cell? ⟨w.heap.size, 1, none⟩ = some (.string x) := HI1.out.bx.cell 1 (by simp)
      have X2 : w1.cell? ⟨w.heap.size, 2, none⟩ = some (.bool false) := HI1.out.bx.cell 2 (by simp)
      clear hb1 HV HBX HBA
      go_wp2_with fail
      go_loopw [1, 6, 7] (fun u o i wr => ∃ (j : Nat) (lj : List ByteArray) (ok : Bool) (ja : Option Addr) (jc : Nat), u = .slice ja lj.length jc ∧ o = .bool ok ∧ i = .int .i64 j ∧ j ≤ k.length ∧ Hid ((ok = true → vsK ((k.drop j).map ws) lj = (vsK (k.map ws) l)) ∧ (ok = false → (vsK (k.map ws) l) = (lj, false))) ∧ Hid (ok = true → lj.length + Tr.cntL (k.drop j) ≤ 1000000) ∧ Hid (LwI w B n x false (.slice a k.length cap) (.slice la l.length lc) lj (.slice ja lj.length jc) wr)) (fun _ _ i _ => k.length - (intOf i).toNat)
      case atStart => exact ⟨0, l, true, la, lc, rfl, rfl, rfl, Nat.zero_le _, ⟨fun _ => (by rw [List.drop_zero]), fun h => (by cases h)⟩, (fun _ => by rw [List.drop_zero]; omega), HI1.out⟩
      case round =>
        obtain ⟨j, lj, ok, ja, jc, rfl, rfl, rfl, hj, HE, HN, HT⟩ := hrel
        clear HI1 X0 X1 X2
        have T3 : wr.cell? ⟨w.heap.size, 3, none⟩ = some (.slice a k.length cap) := HT.out.bx.cell 3 (by simp)
        by_cases hgo : j < k.length ∧ ok = true
        · obtain ⟨hlt, rfl⟩ := hgo
          have hbel := HT.out.below HBB.out HOW.out
          obtain ⟨rfl, hSb⟩ := HA.out (by omega)
          obtain ⟨c0, c1, c2, c3⟩ := HC.out j hlt
          have hbB := HS.out b hSb
          rw [← hbel.cell (by exact hbB)] at c0 c1 c2 c3
          obtain ⟨p1, p2, p3, ep⟩ := (HK.out j hlt).form
          have hst := wsK_step hlt lj
          have hcs := Tr.cntL_drop k j hlt
          have hn1 := HN.out rfl
          have hvl := ws_len k[j] lj
          have HCL := (show Hid (Calls Try.prog 29 #[k[j].val (sv j), .slice ja lj.length jc] wr (WsA k[j] lj B (.slice ja lj.length jc) wr)) from HI.out j hlt (sv j) _ lj wr ((HK.out j hlt).keep (fun q hq => hbel.block q (HS.out q hq))) HT.out.row (by have := HBB.out; have := HT.out.gw.g.size; omega) (by omega))
          rw [ep] at c3 HCL
          simp only [Tr.val] at HCL
          have HNX := (show Hid (((ws k[j] lj).2 = true → vsK ((k.drop (j + 1)).map ws) (ws k[j] lj).1 = (vsK (k.map ws) l)) ∧ ((ws k[j] lj).2 = false → (vsK (k.map ws) l) = ((ws k[j] lj).1, false))) from (by
            have h0 := HE.out.1 rfl
            rw [hst] at h0
            refine ⟨fun h => ?_, fun h => ?_⟩
            · rw [if_pos h] at h0; exact h0
            · rw [if_neg (by simp [h])] at h0; exact h0.symm))
          have HN2 := (show Hid ((ws k[j] lj).2 = true → (ws k[j] lj).1.length + Tr.cntL (k.drop (j + 1)) ≤ 1000000) from fun _ => by omega)
          unfold WsA at HCL
          clear hst hcs hn1 hvl ep hbel HE HN
          generalize ws k[j] lj = R at *
          obtain ⟨lj', ok'⟩ := R
          dsimp only at HCL HNX HN2
          generalize k[j].name = kn at *
          generalize k[j].text = kx at *
          generalize k[j].leaf = kl at *
          have q1 : (j : Int) < (k.length : Int) := by omega
          go_wp2_with fail
          refine Calls.mono HCL.out ?_
          rintro e w2 ⟨za, zc, rfl, hg2, ho2⟩
          have HT2 := (show Hid (LwI w B n x false (.slice (some ⟨b, off, none⟩) k.length cap) (.slice la l.length lc) lj' (.slice za lj'.length zc) w2) from HT.out.next hg2 ho2)
          clear hg2 ho2 HCL HT T3 c0 c1 c2 c3
          go_wp2_with fail
          exact ⟨⟨j + 1, lj', ok', za, zc, rfl, rfl, by go_num, by omega, HNX, HN2, HT2⟩, by simp [intOf]; omega⟩
        · have HFIN := (show Hid (WsA ⟨n, x, false, k⟩ l B (.slice la l.length lc) w (.returned (.tuple #[.slice ja lj.length jc, .bool ok])) wr) from (by
            have e : (vsK (k.map ws) l) = (lj, ok) := by
              cases ok with
              | false => exact HE.out.2 rfl
              | true =>
                have hje : j = k.length := by
                  rcases Nat.lt_or_ge j k.length with h | h
                  · exact absurd ⟨h, rfl⟩ hgo
                  · omega
                have := HE.out.1 rfl
                rw [hje, List.drop_length] at this
                rw [← this]
                rfl
            exact HR.out (lj, ok) (HVT.out.trans e) ja jc wr HT.out.gw HT.out.row))
          clear HE HN HT HI HK HC HA HR HVT HOW
          cases ok with
          | false =>
            rcases Nat.lt_or_ge j k.length with h | h
            · have q1 : (j : Int) < (k.length : Int) := by omega
              go_wp2_with fail
              go_ret2
              exact HFIN.out
            · have q1 : ¬ ((j : Int) < (k.length : Int)) := by omega
              go_wp2_with fail
              go_ret2
              exact HFIN.out
          | true =>
            have q1 : ¬ ((j : Int) < (k.length : Int)) := by
              intro h
              exact hgo ⟨by omega, rfl⟩
            clear hgo
            go_wp2_with fail
            go_ret2
            exact HFIN.out
    | true =>
      unfold hoK hoB at HVE
      rw [Bool.true_and, ← eqS_hol n] at HVE
      cases h1 : (n.toList == [72, 111, 108, 101])
      · rw [h1] at HVE
        have HVT := (show Hid (ws ⟨n, x, true, k⟩ l = vsK (k.map ws) l) from HVE.out)
        have HST := hST
        clear HVE hST
        clear hvr hnz
        go_enter Try.func29, Try.ntmps29
        go_wp2_with fail
        refine Calls.mono HV.out ?_
        rintro e w1 ⟨rfl, hb1⟩
        have HI1 := (show Hid (LwI w B n x true (.slice a k.length cap) (.slice la l.length lc) l (.slice la l.length lc) w1) from (by
          have hb2 := bel_trans HBA.out hb1
          refine ⟨GW.of_below hb2, own_keep1 HOW.out (fun q hq => hb2.block q (World.ownsRow.lt HOW.out q hq).2), HBX.out.still hb1, fun e => ?_⟩
          have := (World.ownsRow.lt HOW.out _ e).2
          omega))
        have X0 : w1.cell? ⟨w.heap.size, 0, none⟩ = some (.string n) := HI1.out.bx.cell 0 (by simp)
        have X1 : w1.cell? ⟨w.heap.size, 1, none⟩ = some (.string x) := HI1.out.bx.cell 1 (by simp)
        have X2 : w1.cell? ⟨w.heap.size, 2, none⟩ = some (.bool true) := HI1.out.bx.cell 2 (by simp)
        clear hb1 HV HBX HBA
        go_wp2_with fail
        go_loopw [1, 6, 7] (fun u o i wr => ∃ (j : Nat) (lj : List ByteArray) (ok : Bool) (ja : Option Addr) (jc : Nat), u = .slice ja lj.length jc ∧ o = .bool ok ∧ i = .int .i64 j ∧ j ≤ k.length ∧ Hid ((ok = true → vsK ((k.drop j).map ws) lj = (vsK (k.map ws) l)) ∧ (ok = false → (vsK (k.map ws) l) = (lj, false))) ∧ Hid (ok = true → lj.length + Tr.cntL (k.drop j) ≤ 1000000) ∧ Hid (LwI w B n x true (.slice a k.length cap) (.slice la l.length lc) lj (.slice ja lj.length jc) wr)) (fun _ _ i _ => k.length - (intOf i).toNat)
        case atStart => exact ⟨0, l, true, la, lc, rfl, rfl, rfl, Nat.zero_le _, ⟨fun _ => (by rw [List.drop_zero]), fun h => (by cases h)⟩, (fun _ => by rw [List.drop_zero]; omega), HI1.out⟩
        case round =>
          obtain ⟨j, lj, ok, ja, jc, rfl, rfl, rfl, hj, HE, HN, HT⟩ := hrel
          clear HI1 X0 X1 X2
          have T3 : wr.cell? ⟨w.heap.size, 3, none⟩ = some (.slice a k.length cap) := HT.out.bx.cell 3 (by simp)
          by_cases hgo : j < k.length ∧ ok = true
          · obtain ⟨hlt, rfl⟩ := hgo
            have hbel := HT.out.below HBB.out HOW.out
            obtain ⟨rfl, hSb⟩ := HA.out (by omega)
            obtain ⟨c0, c1, c2, c3⟩ := HC.out j hlt
            have hbB := HS.out b hSb
            rw [← hbel.cell (by exact hbB)] at c0 c1 c2 c3
            obtain ⟨p1, p2, p3, ep⟩ := (HK.out j hlt).form
            have hst := wsK_step hlt lj
            have hcs := Tr.cntL_drop k j hlt
            have hn1 := HN.out rfl
            have hvl := ws_len k[j] lj
            have HCL := (show Hid (Calls Try.prog 29 #[k[j].val (sv j), .slice ja lj.length jc] wr (WsA k[j] lj B (.slice ja lj.length jc) wr)) from HI.out j hlt (sv j) _ lj wr ((HK.out j hlt).keep (fun q hq => hbel.block q (HS.out q hq))) HT.out.row (by have := HBB.out; have := HT.out.gw.g.size; omega) (by omega))
            rw [ep] at c3 HCL
            simp only [Tr.val] at HCL
            have HNX := (show Hid (((ws k[j] lj).2 = true → vsK ((k.drop (j + 1)).map ws) (ws k[j] lj).1 = (vsK (k.map ws) l)) ∧ ((ws k[j] lj).2 = false → (vsK (k.map ws) l) = ((ws k[j] lj).1, false))) from (by
              have h0 := HE.out.1 rfl
              rw [hst] at h0
              refine ⟨fun h => ?_, fun h => ?_⟩
              · rw [if_pos h] at h0; exact h0
              · rw [if_neg (by simp [h])] at h0; exact h0.symm))
            have HN2 := (show Hid ((ws k[j] lj).2 = true → (ws k[j] lj).1.length + Tr.cntL (k.drop (j + 1)) ≤ 1000000) from fun _ => by omega)
            unfold WsA at HCL
            clear hst hcs hn1 hvl ep hbel HE HN
            generalize ws k[j] lj = R at *
            obtain ⟨lj', ok'⟩ := R
            dsimp only at HCL HNX HN2
            generalize k[j].name = kn at *
            generalize k[j].text = kx at *
            generalize k[j].leaf = kl at *
            have q1 : (j : Int) < (k.length : Int) := by omega
            go_wp2_with fail
            refine Calls.mono HCL.out ?_
            rintro e w2 ⟨za, zc, rfl, hg2, ho2⟩
            have HT2 := (show Hid (LwI w B n x true (.slice (some ⟨b, off, none⟩) k.length cap) (.slice la l.length lc) lj' (.slice za lj'.length zc) w2) from HT.out.next hg2 ho2)
            clear hg2 ho2 HCL HT T3 c0 c1 c2 c3
            go_wp2_with fail
            exact ⟨⟨j + 1, lj', ok', za, zc, rfl, rfl, by go_num, by omega, HNX, HN2, HT2⟩, by simp [intOf]; omega⟩
          · have HFIN := (show Hid (WsA ⟨n, x, true, k⟩ l B (.slice la l.length lc) w (.returned (.tuple #[.slice ja lj.length jc, .bool ok])) wr) from (by
              have e : (vsK (k.map ws) l) = (lj, ok) := by
                cases ok with
                | false => exact HE.out.2 rfl
                | true =>
                  have hje : j = k.length := by
                    rcases Nat.lt_or_ge j k.length with h | h
                    · exact absurd ⟨h, rfl⟩ hgo
                    · omega
                  have := HE.out.1 rfl
                  rw [hje, List.drop_length] at this
                  rw [← this]
                  rfl
              exact HR.out (lj, ok) (HVT.out.trans e) ja jc wr HT.out.gw HT.out.row))
            clear HE HN HT HI HK HC HA HR HVT HOW
            cases ok with
            | false =>
              rcases Nat.lt_or_ge j k.length with h | h
              · have q1 : (j : Int) < (k.length : Int) := by omega
                go_wp2_with fail
                go_ret2
                exact HFIN.out
              · have q1 : ¬ ((j : Int) < (k.length : Int)) := by omega
                go_wp2_with fail
                go_ret2
                exact HFIN.out
            | true =>
              have q1 : ¬ ((j : Int) < (k.length : Int)) := by
                intro h
                exact hgo ⟨by omega, rfl⟩
              clear hgo
              go_wp2_with fail
              go_ret2
              exact HFIN.out
      · rw [h1] at HVE
        unfold emB at HVE
        rw [← isEmpty_iff] at HVE
        cases h2 : x.toList.isEmpty
        · rw [h2] at HVE
          have HVT := (show Hid (ws ⟨n, x, true, k⟩ l = (l, false)) from HVE.out)
          have HST : Hid (((false : Bool) = true → vsK ((k.drop 0).map ws) l = (l, false)) ∧ ((false : Bool) = false → (l, false) = (l, false))) := ⟨fun h => (by cases h), fun _ => rfl⟩
          clear HVE hST
          clear hvr hnz
          go_enter Try.func29, Try.ntmps29
          go_wp2_with fail
          refine Calls.mono HV.out ?_
          rintro e w1 ⟨rfl, hb1⟩
          have HI1 := (show Hid (LwI w B n x true (.slice a k.length cap) (.slice la l.length lc) l (.slice la l.length lc) w1) from (by
            have hb2 := bel_trans HBA.out hb1
            refine ⟨GW.of_below hb2, own_keep1 HOW.out (fun q hq => hb2.block q (World.ownsRow.lt HOW.out q hq).2), HBX.out.still hb1, fun e => ?_⟩
            have := (World.ownsRow.lt HOW.out _ e).2
            omega))
          have X0 : w1.cell? ⟨w.heap.size, 0, none⟩ = some (.string n) := HI1.out.bx.cell 0 (by simp)
          have X1 : w1.cell? ⟨w.heap.size, 1, none⟩ = some (.string x) := HI1.out.bx.cell 1 (by simp)
          have X2 : w1.cell? ⟨w.heap.size, 2, none⟩ = some (.bool true) := HI1.out.bx.cell 2 (by simp)
          clear hb1 HV HBX HBA
          go_wp2_with fail
          go_loopw [1, 6, 7] (fun u o i wr => ∃ (j : Nat) (lj : List ByteArray) (ok : Bool) (ja : Option Addr) (jc : Nat), u = .slice ja lj.length jc ∧ o = .bool ok ∧ i = .int .i64 j ∧ j ≤ k.length ∧ Hid ((ok = true → vsK ((k.drop j).map ws) lj = ((l, false) : List ByteArray × Bool)) ∧ (ok = false → ((l, false) : List ByteArray × Bool) = (lj, false))) ∧ Hid (ok = true → lj.length + Tr.cntL (k.drop j) ≤ 1000000) ∧ Hid (LwI w B n x true (.slice a k.length cap) (.slice la l.length lc) lj (.slice ja lj.length jc) wr)) (fun _ _ i _ => k.length - (intOf i).toNat)
          case atStart => exact ⟨0, l, false, la, lc, rfl, rfl, rfl, Nat.zero_le _, ⟨fun h => (by cases h), fun _ => rfl⟩, (fun _ => by rw [List.drop_zero]; omega), HI1.out⟩
          case round =>
            obtain ⟨j, lj, ok, ja, jc, rfl, rfl, rfl, hj, HE, HN, HT⟩ := hrel
            clear HI1 X0 X1 X2
            have T3 : wr.cell? ⟨w.heap.size, 3, none⟩ = some (.slice a k.length cap) := HT.out.bx.cell 3 (by simp)
            by_cases hgo : j < k.length ∧ ok = true
            · obtain ⟨hlt, rfl⟩ := hgo
              have hbel := HT.out.below HBB.out HOW.out
              obtain ⟨rfl, hSb⟩ := HA.out (by omega)
              obtain ⟨c0, c1, c2, c3⟩ := HC.out j hlt
              have hbB := HS.out b hSb
              rw [← hbel.cell (by exact hbB)] at c0 c1 c2 c3
              obtain ⟨p1, p2, p3, ep⟩ := (HK.out j hlt).form
              have hst := wsK_step hlt lj
              have hcs := Tr.cntL_drop k j hlt
              have hn1 := HN.out rfl
              have hvl := ws_len k[j] lj
              have HCL := (show Hid (Calls Try.prog 29 #[k[j].val (sv j), .slice ja lj.length jc] wr (WsA k[j] lj B (.slice ja lj.length jc) wr)) from HI.out j hlt (sv j) _ lj wr ((HK.out j hlt).keep (fun q hq => hbel.block q (HS.out q hq))) HT.out.row (by have := HBB.out; have := HT.out.gw.g.size; omega) (by omega))
              rw [ep] at c3 HCL
              simp only [Tr.val] at HCL
              have HNX := (show Hid (((ws k[j] lj).2 = true → vsK ((k.drop (j + 1)).map ws) (ws k[j] lj).1 = ((l, false) : List ByteArray × Bool)) ∧ ((ws k[j] lj).2 = false → ((l, false) : List ByteArray × Bool) = ((ws k[j] lj).1, false))) from (by
                have h0 := HE.out.1 rfl
                rw [hst] at h0
                refine ⟨fun h => ?_, fun h => ?_⟩
                · rw [if_pos h] at h0; exact h0
                · rw [if_neg (by simp [h])] at h0; exact h0.symm))
              have HN2 := (show Hid ((ws k[j] lj).2 = true → (ws k[j] lj).1.length + Tr.cntL (k.drop (j + 1)) ≤ 1000000) from fun _ => by omega)
              unfold WsA at HCL
              clear hst hcs hn1 hvl ep hbel HE HN
              generalize ws k[j] lj = R at *
              obtain ⟨lj', ok'⟩ := R
              dsimp only at HCL HNX HN2
              generalize k[j].name = kn at *
              generalize k[j].text = kx at *
              generalize k[j].leaf = kl at *
              have q1 : (j : Int) < (k.length : Int) := by omega
              go_wp2_with fail
              refine Calls.mono HCL.out ?_
              rintro e w2 ⟨za, zc, rfl, hg2, ho2⟩
              have HT2 := (show Hid (LwI w B n x true (.slice (some ⟨b, off, none⟩) k.length cap) (.slice la l.length lc) lj' (.slice za lj'.length zc) w2) from HT.out.next hg2 ho2)
              clear hg2 ho2 HCL HT T3 c0 c1 c2 c3
              go_wp2_with fail
              exact ⟨⟨j + 1, lj', ok', za, zc, rfl, rfl, by go_num, by omega, HNX, HN2, HT2⟩, by simp [intOf]; omega⟩
            · have HFIN := (show Hid (WsA ⟨n, x, true, k⟩ l B (.slice la l.length lc) w (.returned (.tuple #[.slice ja lj.length jc, .bool ok])) wr) from (by
                have e : ((l, false) : List ByteArray × Bool) = (lj, ok) := by
                  cases ok with
                  | false => exact HE.out.2 rfl
                  | true =>
                    have hje : j = k.length := by
                      rcases Nat.lt_or_ge j k.length with h | h
                      · exact absurd ⟨h, rfl⟩ hgo
                      · omega
                    have := HE.out.1 rfl
                    rw [hje, List.drop_length] at this
                    rw [← this]
                    rfl
                exact HR.out (lj, ok) (HVT.out.trans e) ja jc wr HT.out.gw HT.out.row))
              clear HE HN HT HI HK HC HA HR HVT HOW
              cases ok with
              | false =>
                rcases Nat.lt_or_ge j k.length with h | h
                · have q1 : (j : Int) < (k.length : Int) := by omega
                  go_wp2_with fail
                  go_ret2
                  exact HFIN.out
                · have q1 : ¬ ((j : Int) < (k.length : Int)) := by omega
                  go_wp2_with fail
                  go_ret2
                  exact HFIN.out
              | true =>
                have q1 : ¬ ((j : Int) < (k.length : Int)) := by
                  intro h
                  exact hgo ⟨by omega, rfl⟩
                clear hgo
                go_wp2_with fail
                go_ret2
                exact HFIN.out
        · rw [h2] at HVE
          have HVT := (show Hid (ws ⟨n, x, true, k⟩ l = vsK (k.map ws) l) from HVE.out)
          have HST := hST
          clear HVE hST
          clear hvr hnz
          go_enter Try.func29, Try.ntmps29
          go_wp2_with fail
          refine Calls.mono HV.out ?_
          rintro e w1 ⟨rfl, hb1⟩
          have HI1 := (show Hid (LwI w B n x true (.slice a k.length cap) (.slice la l.length lc) l (.slice la l.length lc) w1) from (by
            have hb2 := bel_trans HBA.out hb1
            refine ⟨GW.of_below hb2, own_keep1 HOW.out (fun q hq => hb2.block q (World.ownsRow.lt HOW.out q hq).2), HBX.out.still hb1, fun e => ?_⟩
            have := (World.ownsRow.lt HOW.out _ e).2
            omega))
          have X0 : w1.cell? ⟨w.heap.size, 0, none⟩ = some (.string n) := HI1.out.bx.cell 0 (by simp)
          have X1 : w1.cell? ⟨w.heap.size, 1, none⟩ = some (.string x) := HI1.out.bx.cell 1 (by simp)
          have X2 : w1.cell? ⟨w.heap.size, 2, none⟩ = some (.bool true) := HI1.out.bx.cell 2 (by simp)
          clear hb1 HV HBX HBA
          go_wp2_with fail
          go_loopw [1, 6, 7] (fun u o i wr => ∃ (j : Nat) (lj : List ByteArray) (ok : Bool) (ja : Option Addr) (jc : Nat), u = .slice ja lj.length jc ∧ o = .bool ok ∧ i = .int .i64 j ∧ j ≤ k.length ∧ Hid ((ok = true → vsK ((k.drop j).map ws) lj = (vsK (k.map ws) l)) ∧ (ok = false → (vsK (k.map ws) l) = (lj, false))) ∧ Hid (ok = true → lj.length + Tr.cntL (k.drop j) ≤ 1000000) ∧ Hid (LwI w B n x true (.slice a k.length cap) (.slice la l.length lc) lj (.slice ja lj.length jc) wr)) (fun _ _ i _ => k.length - (intOf i).toNat)
          case atStart => exact ⟨0, l, true, la, lc, rfl, rfl, rfl, Nat.zero_le _, ⟨fun _ => (by rw [List.drop_zero]), fun h => (by cases h)⟩, (fun _ => by rw [List.drop_zero]; omega), HI1.out⟩
          case round =>
            obtain ⟨j, lj, ok, ja, jc, rfl, rfl, rfl, hj, HE, HN, HT⟩ := hrel
            clear HI1 X0 X1 X2
            have T3 : wr.cell? ⟨w.heap.size, 3, none⟩ = some (.slice a k.length cap) := HT.out.bx.cell 3 (by simp)
            by_cases hgo : j < k.length ∧ ok = true
            · obtain ⟨hlt, rfl⟩ := hgo
              have hbel := HT.out.below HBB.out HOW.out
              obtain ⟨rfl, hSb⟩ := HA.out (by omega)
              obtain ⟨c0, c1, c2, c3⟩ := HC.out j hlt
              have hbB := HS.out b hSb
              rw [← hbel.cell (by exact hbB)] at c0 c1 c2 c3
              obtain ⟨p1, p2, p3, ep⟩ := (HK.out j hlt).form
              have hst := wsK_step hlt lj
              have hcs := Tr.cntL_drop k j hlt
              have hn1 := HN.out rfl
              have hvl := ws_len k[j] lj
              have HCL := (show Hid (Calls Try.prog 29 #[k[j].val (sv j), .slice ja lj.length jc] wr (WsA k[j] lj B (.slice ja lj.length jc) wr)) from HI.out j hlt (sv j) _ lj wr ((HK.out j hlt).keep (fun q hq => hbel.block q (HS.out q hq))) HT.out.row (by have := HBB.out; have := HT.out.gw.g.size; omega) (by omega))
              rw [ep] at c3 HCL
              simp only [Tr.val] at HCL
              have HNX := (show Hid (((ws k[j] lj).2 = true → vsK ((k.drop (j + 1)).map ws) (ws k[j] lj).1 = (vsK (k.map ws) l)) ∧ ((ws k[j] lj).2 = false → (vsK (k.map ws) l) = ((ws k[j] lj).1, false))) from (by
                have h0 := HE.out.1 rfl
                rw [hst] at h0
                refine ⟨fun h => ?_, fun h => ?_⟩
                · rw [if_pos h] at h0; exact h0
                · rw [if_neg (by simp [h])] at h0; exact h0.symm))
              have HN2 := (show Hid ((ws k[j] lj).2 = true → (ws k[j] lj).1.length + Tr.cntL (k.drop (j + 1)) ≤ 1000000) from fun _ => by omega)
              unfold WsA at HCL
              clear hst hcs hn1 hvl ep hbel HE HN
              generalize ws k[j] lj = R at *
              obtain ⟨lj', ok'⟩ := R
              dsimp only at HCL HNX HN2
              generalize k[j].name = kn at *
              generalize k[j].text = kx at *
              generalize k[j].leaf = kl at *
              have q1 : (j : Int) < (k.length : Int) := by omega
              go_wp2_with fail
              refine Calls.mono HCL.out ?_
              rintro e w2 ⟨za, zc, rfl, hg2, ho2⟩
              have HT2 := (show Hid (LwI w B n x true (.slice (some ⟨b, off, none⟩) k.length cap) (.slice la l.length lc) lj' (.slice za lj'.length zc) w2) from HT.out.next hg2 ho2)
              clear hg2 ho2 HCL HT T3 c0 c1 c2 c3
              go_wp2_with fail
              exact ⟨⟨j + 1, lj', ok', za, zc, rfl, rfl, by go_num, by omega, HNX, HN2, HT2⟩, by simp [intOf]; omega⟩
            · have HFIN := (show Hid (WsA ⟨n, x, true, k⟩ l B (.slice la l.length lc) w (.returned (.tuple #[.slice ja lj.length jc, .bool ok])) wr) from (by
                have e : (vsK (k.map ws) l) = (lj, ok) := by
                  cases ok with
                  | false => exact HE.out.2 rfl
                  | true =>
                    have hje : j = k.length := by
                      rcases Nat.lt_or_ge j k.length with h | h
                      · exact absurd ⟨h, rfl⟩ hgo
                      · omega
                    have := HE.out.1 rfl
                    rw [hje, List.drop_length] at this
                    rw [← this]
                    rfl
                exact HR.out (lj, ok) (HVT.out.trans e) ja jc wr HT.out.gw HT.out.row))
              clear HE HN HT HI HK HC HA HR HVT HOW
              cases ok with
              | false =>
                rcases Nat.lt_or_ge j k.length with h | h
                · have q1 : (j : Int) < (k.length : Int) := by omega
                  go_wp2_with fail
                  go_ret2
                  exact HFIN.out
                · have q1 : ¬ ((j : Int) < (k.length : Int)) := by omega
                  go_wp2_with fail
                  go_ret2
                  exact HFIN.out
              | true =>
                have q1 : ¬ ((j : Int) < (k.length : Int)) := by
                  intro h
                  exact hgo ⟨by omega, rfl⟩
                clear hgo
                go_wp2_with fail
                go_ret2
                exact HFIN.out
  · rw [hvr, if_pos rfl] at HVT
    rw [hvr] at HV
    clear hvr HI HK HC HA
    obtain ⟨i9, hi9, hz0, hz1, hz2⟩ := info_parts info9s
    go_enter Try.func29, Try.ntmps29
    go_wp2_with fail
    refine Calls.mono HV.out ?_
    rintro e w1 ⟨rfl, hb1⟩
    have hb2 := bel_trans HBA.out hb1
    have hbx1 := HBX.out.still hb1
    have T1 : w1.cell? ⟨w.heap.size, 1, none⟩ = some (.string x) := hbx1.cell 1 (by simp)
    have ho1 := own_keep1 HOW.out (fun q hq => hb2.block q (World.ownsRow.lt HOW.out q hq).2)
    have HAT := (show Hid _ from at80 l x _ w1 (own_srow ho1))
    have H1 := (show Hid (GW w w1 (.slice la l.length lc) (.slice la l.length lc) ∧ w1.ownsRow B 9 1 (.slice la l.length lc) l.length (strs l) ∧ Box w1 w.heap.size 42 [.string n, .string x, .bool lf, .slice a k.length cap]) from ⟨GW.of_below hb2, ho1, hbx1⟩)
    clear hb1 HV HBX HBA hb2 ho1 hbx1
    go_wp2_with fail
    refine Calls.mono HAT.out ?_
    rintro e w1' ⟨i, rfl, hi0, rfl⟩
    have HNM := (show Hid (∀ wq : World, Calls Try.prog 16 #[.string x] wq fun e w' => e = .returned (.bool (nmB x)) ∧ w' = wq) from fun wq => sName x hxz wq)
    cases hh : hasS l x
    · rw [hh] at hi0
      have had : adS l x = l ++ [x] := by unfold adS; rw [hh]; rfl
      have HO := (show Hid _ from own_still H1.out.2.1 (bel_alloc w1' (.cells #[.string x] 9)))
      have HZ := (show Hid (B ≤ (w1'.alloc (.cells #[.string x] 9)).heap.size) from (by have := H1.out.1.g.size; have := HBB.out; show _ ≤ _; simp; omega))
      have hll : l.length ≤ 1000000 := by omega
      have HUP := (show Hid (∀ (g7 cap7 : Nat) (w7 : World), w7.ownsRow B 9 1 (.slice (some ⟨g7, 0, none⟩) (l.length + 1) cap7) (l.length + 1) (strs l ++ [.string x]) → (w1'.alloc (.cells #[.string x] 9)).grownBy w7 (Value.slice la l.length lc).ownBlock → ((Value.slice la l.length lc).ownBlock = some g7 ∨ g7 = w1'.heap.size + 1) → WsA ⟨n, x, lf, k⟩ l B (.slice la l.length lc) w (.returned (.tuple #[.slice (some ⟨g7, 0, none⟩) (l.length + 1) cap7, .bool (nmB x)])) w7 ∧ w7.cell? ⟨w.heap.size, 1, none⟩ = some (.string x)) from fun g7 cap7 w7 e1 e2 e3 => by
        have hlen : (l ++ [x]).length = l.length + 1 := by simp
        have hg : GW w w7 (.slice la l.length lc) (.slice (some ⟨g7, 0, none⟩) (l.length + 1) cap7) := (H1.out.1.trans (GW.of_below (bel_alloc w1' (.cells #[.string x] 9)))).trans (GW.step (H := w1'.heap.size + 1) e2 e3 (by simp))
        refine ⟨?_, ?_⟩
        · have := HR.out (l ++ [x], nmB x) (by rw [HVT.out, had]) (some ⟨g7, 0, none⟩) cap7 w7
          rw [hlen] at this
          exact this hg (by simpa using e1)
        · have hbx := (H1.out.2.2.still (bel_alloc w1' (.cells #[.string x] 9))).keep (e2.block _ (by have := H1.out.2.2.lt; simp; omega) (fun e => by have := (World.ownsRow.lt HOW.out _ e.symm).2; omega))
          exact hbx.cell 1 (by simp))
      have hdi : decide (i < 0) = true := hi0
      have hi1 : i < 0 := by simpa using hdi
      clear H1 HR HVT had hh hi0 HAT
      go_wp2_with (at_builtin; refine wpList_append_lies _ rfl (.tmp 15) (.tmp 18) 69 rfl B 9 i9 _ 1 16 Try.underlying69 hi9 hz0 hz1 hz2 rfl (by decide) _ l.length (strs l) rfl HO.out ⟨w1'.heap.size, 0, none⟩ 1 1 [.string x] rfl rfl ?c1 ?c2 (by decide) ?c3 (by omega) ?c5 _ rfl ?nx)
      case c1 => exact World.news_of_block (cs := #[.string x]) (blk_alloc_new _ _)
      case c2 => intro u hu; simp at hu; subst hu; rfl
      case c3 => unfold maxLen; omega
      case c5 => exact HZ.out
      case nx =>
        intro g4 cap4 w5 hown4 hgr4 hat4 hlt4
        obtain ⟨hA, X1⟩ := HUP.out g4 cap4 w5 hown4 hgr4 (by simpa using hat4)
        have HE := (show Hid _ from hA)
        clear hown4 hgr4 hat4 hlt4 HUP HO HZ hA T1
        go_wp2_with fail
        refine Calls.mono (HNM.out _) ?_
        rintro e w6 ⟨rfl, rfl⟩
        go_wp2_with fail
        go_ret2
        exact HE.out
    · rw [hh] at hi0
      have had : adS l x = l := by unfold adS; rw [hh]; rfl
      have hi1 : ¬ i < 0 := by
        have hdi : decide (i < 0) = false := hi0
        simpa using hdi
      have HE := (show Hid _ from HR.out (l, nmB x) (by rw [HVT.out, had]) la lc w1' H1.out.1 H1.out.2.1)
      clear H1 HR HVT had hh hi0 HAT
      go_wp2_with fail
      refine Calls.mono (HNM.out _) ?_
      rintro e w6 ⟨rfl, rfl⟩
      go_wp2_with fail
      go_ret2
      exact HE.out
theorem ok_few {t : Tr} (h : t.ok = true) : t.cnt ≤ 1000 := by
  unfold Tr.ok at h
  simp only [Bool.and_eq_true, decide_eq_true_eq] at h
  omega
set_option maxHeartbeats 1600000 in
theorem pat14 {S : Nat → Prop} (t : Tr) (hc : Nat) (v : Value) (w : World) (h : Lies w S t v) (hc1 : hc ≤ 1) :
    Calls Try.prog 14 #[t.val v, .int .i64 hc] w fun e w' => e = .returned (.bool (p6B t hc)) ∧ Below w.heap.size w w' := by
  have hl0 : Lies w (fun q => q < w.heap.size) t v := (h.lt).mono (fun q hq => hq.2)
  have hb0 := bel_alloc w (.cells #[.string t.name, .string t.text, .bool t.leaf, v] 42)
  have HBX := (show Hid (Box (w.alloc (.cells #[.string t.name, .string t.text, .bool t.leaf, v] 42)) w.heap.size 42 [.string t.name, .string t.text, .bool t.leaf, v]) from Box.new w 42 _)
  have HOK := (show Hid (Calls Try.prog 31 #[t.val v] (w.alloc (.cells #[.string t.name, .string t.text, .bool t.leaf, v] 42)) fun e w' => e = .returned (.bool t.ok) ∧ Below (w.alloc (.cells #[.string t.name, .string t.text, .bool t.leaf, v] 42)).heap.size (w.alloc (.cells #[.string t.name, .string t.text, .bool t.leaf, v] 42)) w') from sOK_any t v _ (hl0.still hb0))
  have HB0 := (show Hid _ from hb0)
  have HHO := (show Hid (∀ w1 : World, Below w.heap.size w w1 → t.cnt ≤ 1000 → Calls Try.prog 32 #[t.val v] w1 fun e w' => e = .returned (.int .i64 (hN t)) ∧ Below w1.heap.size w1 w') from fun w1 hb hcn => holes32 t v w1 (hl0.still hb) (by omega))
  have HVS := (show Hid (∀ w1 : World, Below w.heap.size w w1 → t.cnt ≤ 1000 → Calls Try.prog 29 #[t.val v, .slice (some ⟨w1.heap.size, 0, none⟩) 0 0] (w1.alloc (.cells #[] 9)) (WsA t [] w.heap.size (.slice (some ⟨w1.heap.size, 0, none⟩) 0 0) (w1.alloc (.cells #[] 9)))) from fun w1 hb hcn => by
    have hb2 := bel_trans hb (bel_alloc w1 (.cells #[] 9))
    refine vars29 (S := fun q => q < w.heap.size) (B := w.heap.size) (fun q hq => hq) t v _ [] _ (hl0.still hb2) ?_ hb2.size (by simp; omega)
    exact World.ownsRow_made w1 #[] 0 hb.size (Nat.zero_le _) rfl)
  have HPB := (show Hid (p6B t hc = (t.ok && (decide (hN t = hc) && (ws t []).2))) from (by show p6B t hc = _; unfold p6B; rw [ws_ok]))
  have hhN := hN_le t
  obtain ⟨a1, l1, p1, rfl⟩ := h.form
  clear h hl0 hb0
  cases hok : t.ok
  · rw [hok] at HOK HPB
    have HPF := (show Hid (p6B t hc = false) from HPB.out)
    clear HVS HPB HHO
    obtain ⟨n, x, lf, k⟩ := t
    simp only [Tr.val] at HOK ⊢
    dsimp only at HBX HB0
    go_enter Try.func14, Try.ntmps14
    go_wp2_with fail
    refine Calls.mono HOK.out ?_
    rintro e w1 ⟨rfl, hb1⟩
    have HE := (show Hid _ from bel_trans HB0.out hb1)
    clear hb1
    go_wp2_with fail
    go_ret
    exact ⟨by rw [HPF.out]; rfl, HE.out⟩
  · rw [hok] at HOK HPB
    have hcn := ok_few hok
    by_cases hho : hN t = hc
    · rw [decide_eq_true hho] at HPB
      have HPT := (show Hid (p6B t hc = (ws t []).2) from (by show p6B t hc = _; rw [HPB.out]; rfl))
      have HV2 := (show Hid (∀ w1 : World, Below w.heap.size w w1 → Calls Try.prog 29 #[t.val (.slice a1 l1 p1), .slice (some ⟨w1.heap.size, 0, none⟩) 0 0] (w1.alloc (.cells #[] 9)) fun e w' => ∃ (la : Option Addr) (lm lc : Nat), e = .returned (.tuple #[.slice la lm lc, .bool (p6B t hc)]) ∧ Below w.heap.size w w') from fun w1 hb => Calls.mono (HVS.out w1 hb hcn) (by
        rintro e w' ⟨la, lc, e1, e2, e3⟩
        refine ⟨la, _, lc, by rw [HPT.out]; exact e1, ?_⟩
        have hb2 := bel_trans hb (bel_alloc w1 (.cells #[] 9))
        exact hb2.trans (e2.below (B := w.heap.size) hb2.size (fun g hg => by
          have : w1.heap.size = g := by simpa [Value.ownBlock] using hg
          have := hb.size
          omega))))
      have HH2 := (show Hid (∀ w1 : World, Below w.heap.size w w1 → Calls Try.prog 32 #[t.val (.slice a1 l1 p1)] w1 fun e w' => e = .returned (.int .i64 hc) ∧ Below w1.heap.size w1 w') from fun w1 hb => by have := HHO.out w1 hb hcn; rw [hho] at this; exact this)
      clear HVS HPB HPT hok HHO hho hhN
      generalize p6B t hc = P at *
      obtain ⟨n, x, lf, k⟩ := t
      simp only [Tr.val] at HOK HV2 HH2 ⊢
      dsimp only at HBX HB0
      go_enter Try.func14, Try.ntmps14
      go_wp2_with fail
      refine Calls.mono HOK.out ?_
      rintro e w1 ⟨rfl, hb1⟩
      have hbx1 := HBX.out.still hb1
      have x0 : w1.cell? ⟨w.heap.size, 0, none⟩ = some (.string n) := hbx1.cell 0 (by simp)
      have x1 : w1.cell? ⟨w.heap.size, 1, none⟩ = some (.string x) := hbx1.cell 1 (by simp)
      have x2 : w1.cell? ⟨w.heap.size, 2, none⟩ = some (.bool lf) := hbx1.cell 2 (by simp)
      have x3 : w1.cell? ⟨w.heap.size, 3, none⟩ = some (.slice a1 l1 p1) := hbx1.cell 3 (by simp)
      have HB1 := (show Hid _ from bel_trans HB0.out hb1)
      have HX1 := (show Hid _ from hbx1)
      have HCH := (show Hid _ from HH2.out w1 HB1.out)
      clear hb1 hbx1 HOK HBX HB0 HH2
      go_wp2_with fail
      refine Calls.mono HCH.out ?_
      rintro e w3 ⟨rfl, hb3⟩
      have hbx3 := HX1.out.still hb3
      have y0 : w3.cell? ⟨w.heap.size, 0, none⟩ = some (.string n) := hbx3.cell 0 (by simp)
      have y1 : w3.cell? ⟨w.heap.size, 1, none⟩ = some (.string x) := hbx3.cell 1 (by simp)
      have y2 : w3.cell? ⟨w.heap.size, 2, none⟩ = some (.bool lf) := hbx3.cell 2 (by simp)
      have y3 : w3.cell? ⟨w.heap.size, 3, none⟩ = some (.slice a1 l1 p1) := hbx3.cell 3 (by simp)
      have HB3 := (show Hid _ from bel_trans HB1.out hb3)
      have HCV := (show Hid _ from HV2.out w3 HB3.out)
      clear hb3 hbx3 HX1 HB1 HCH HV2 x0 x1 x2 x3
      go_wp2_with fail
      refine Calls.mono HCV.out ?_
      rintro e w2 ⟨la, lm, lc, rfl, hb2⟩
      have HE := (show Hid _ from hb2)
      clear hb2 y0 y1 y2 y3 HCV
      go_wp2_with fail
      go_ret
      exact ⟨rfl, HE.out⟩
    · rw [decide_eq_false hho] at HPB
      have HPF := (show Hid (p6B t hc = false) from HPB.out)
      have hne : ((hN t : Int) != (hc : Int)) = true := by simp; omega
      have HH2 := (show Hid (∀ w1 : World, Below w.heap.size w w1 → Calls Try.prog 32 #[t.val (.slice a1 l1 p1)] w1 fun e w' => e = .returned (.int .i64 (hN t)) ∧ Below w1.heap.size w1 w') from fun w1 hb => HHO.out w1 hb hcn)
      have hne2 : ((hN t : Int) == (hc : Int)) = false := by simp; omega
      clear HVS HPB hok HHO hho
      generalize hN t = HT at *
      generalize p6B t hc = P at *
      obtain ⟨n, x, lf, k⟩ := t
      simp only [Tr.val] at HOK HH2 ⊢
      dsimp only at HBX HB0
      go_enter Try.func14, Try.ntmps14
      go_wp2_with fail
      refine Calls.mono HOK.out ?_
      rintro e w1 ⟨rfl, hb1⟩
      have hbx1 := HBX.out.still hb1
      have x0 : w1.cell? ⟨w.heap.size, 0, none⟩ = some (.string n) := hbx1.cell 0 (by simp)
      have x1 : w1.cell? ⟨w.heap.size, 1, none⟩ = some (.string x) := hbx1.cell 1 (by simp)
      have x2 : w1.cell? ⟨w.heap.size, 2, none⟩ = some (.bool lf) := hbx1.cell 2 (by simp)
      have x3 : w1.cell? ⟨w.heap.size, 3, none⟩ = some (.slice a1 l1 p1) := hbx1.cell 3 (by simp)
      have HB1 := (show Hid _ from bel_trans HB0.out hb1)
      have HCH := (show Hid _ from HH2.out w1 HB1.out)
      clear hb1 hbx1 HOK HBX HB0 HH2
      go_wp2_with fail
      refine Calls.mono HCH.out ?_
      rintro e w3 ⟨rfl, hb3⟩
      have HE := (show Hid _ from bel_trans HB1.out hb3)
      clear hb3 HB1 HCH x0 x1 x2 x3
      go_wp2_with fail
      go_ret
      exact ⟨by rw [HPF.out]; rfl, HE.out⟩
end Go.Proofs.Ytboffildchoelaa
