import Derived.Test.YteomgkcgjkbppaaRg
import Derived.Test.YteomgkcgjkbppaaAo
import Derived.Test.YteomgkcgjkbppaaPw
import Derived.Deep.RegionHeld3
/-! The program: tellTrees. -/
namespace Go.Proofs.Yteomgkcgjkbppaa
open Go.RowKit Go.Deep Go.Shelf
set_option linter.unusedVariables false
set_option maxRecDepth 100000
set_option linter.unusedSimpArgs false
attribute [local go_sem] Oper.semAt_some

/-- What is told: a tree, how it lies, and a path. -/
abbrev Yl := { x : Tr × Value × Value // (∃ a b c, x.2.1 = .slice a b c) ∧ (∃ a b c, x.2.2 = .slice a b c) ∧ x.1.text.size ≤ maxLen }
def ylE (x : Yl) : Array Value := #[x.1.2.2, x.1.1.val x.1.2.1]
/-- What tellTrees keeps. -/
def KpT (l : Nat) (pv : Value) (W W' : World) : Prop := W.heap.size ≤ W'.heap.size ∧ ∀ q, q < W.heap.size → q ≠ l → pv.ownBlock ≠ some q → W'.heap[q]? = W.heap[q]?
/-- What tellTrees leaves. -/
def TlA (l B0 : Nat) (J Jx : List Yl → World → Prop) (t : Tr) (pv : Value) (k : Nat) (xs : List Value) (pre : List Yl) (W : World) (e : Ending) (W' : World) : Prop :=
  (e = .returned (.bool true) ∧ ∃ ys : List Yl, ys.map (fun y => y.1.1) = sub t ∧ J (pre ++ ys) W' ∧ KpT l pv W W' ∧ W'.ownsRow B0 3 1 pv k xs) ∨
  (e = .returned (.bool false) ∧ ∃ ys : List Yl, (∃ zs, ys.map (fun y => y.1.1) ++ zs = sub t) ∧ Jx (pre ++ ys) W')
set_option maxHeartbeats 3200000 in
theorem tell84 {l B0 n0 : Nat} (hl0 : l < B0) (hn0 : n0 ≤ l) (J Jx : List Yl → World → Prop) (hJb : Bears B0 J)
    (hY : ∀ m pre x W1, J pre W1 → YieldAt Fence.wide m Try.prog l (ylE x) W1 fun e W' => (e = .returned (.bool true) ∧ J (pre ++ [x]) W' ∧ But l W1 W') ∨ (e = .returned (.bool false) ∧ Jx (pre ++ [x]) W')) (t : Tr) :
    ∀ (m : Nat) (v pv : Value) (k : Nat) (xs : List Value) (pre : List Yl) (W : World), Lies W (fun q => q < n0) t v → J pre W → B0 ≤ W.heap.size → W.ownsRow B0 3 1 pv k xs → k + t.cnt ≤ 1000000 →
      CallsIn Fence.wide m Try.prog 84 #[t.val v, pv, .func (.yield l) #[] #[]] W (TlA l B0 J Jx t pv k xs pre W) := by
  refine Tr.ind (P := fun t => ∀ (m : Nat) (v pv : Value) (k : Nat) (xs : List Value) (pre : List Yl) (W : World), Lies W (fun q => q < n0) t v → J pre W → B0 ≤ W.heap.size → W.ownsRow B0 3 1 pv k xs → k + t.cnt ≤ 1000000 → CallsIn Fence.wide m Try.prog 84 #[t.val v, pv, .func (.yield l) #[] #[]] W (TlA l B0 J Jx t pv k xs pre W)) ?_ t
  intro n x lf kids ih m v pv k xs pre W hl hJ hB ho hk
  obtain ⟨a, cap, b, off, sv, rfl, hnz, hxz, hc, hm, ha, hcell, hkk⟩ := hl.out
  dsimp only at hnz hxz hc hm ha hcell hkk
  obtain ⟨pa, pc, rfl, _⟩ := own_ne ho
  have HI := (show Hid _ from ih); clear ih
  have HA := (show Hid _ from ha); clear ha
  have HC := (show Hid _ from hcell); clear hcell
  have HK := (show Hid _ from hkk); clear hkk
  have HO := (show Hid (W.ownsRow B0 3 1 (.slice pa k pc) k xs) from ho)
  unfold maxLen at hm
  have hJ1 : J pre (W.alloc (.cells #[.string n, .string x, .bool lf, .slice a kids.length cap] 31)) := hJb _ _ _ none hJ (World.grownBy_alloc W _ none) (fun r e => by cases e)
  obtain ⟨fn, tmps, assign, body, hy, hR⟩ := hY (m - 1) pre ⟨(⟨n, x, lf, kids⟩, .slice a kids.length cap, .slice pa k pc), ⟨_, _, _, rfl⟩, ⟨_, _, _, rfl⟩, hxz⟩ _ hJ1
  simp only [ylE, Tr.val] at hy
  have HRR := (show Hid _ from hR); clear hR hJ1 hl ho
  have HX := (show Hid (Box (W.alloc (.cells #[.string n, .string x, .bool lf, .slice a kids.length cap] 31)) W.heap.size 31 [.string n, .string x, .bool lf, .slice a kids.length cap]) from Box.new W 31 _)
  simp only [Tr.val]
  refine callsIn_of_wp Try.func84 rfl trivial ?_ rfl
  simp only [Try.ntmps84, List.size_toArray, List.length_cons, List.length_nil, Nat.reduceAdd, Nat.reduceSub, Array.replicate_succ, Array.replicate_zero, List.push_toArray, List.append_toArray, List.nil_append, List.cons_append]
  gi_wp2
  refine ⟨fun h => absurd h (by simp [Fence.wide]), RoundIn.mono HRR.out ?_⟩
  rintro e W2 (⟨rfl, hJ2, hbt⟩ | ⟨rfl, hx2⟩)
  · have bx := HX.out.keep (hbt.2.2.2.2 _ HX.out.lt (by omega))
    have T3 : W2.cell? ⟨W.heap.size, 3, none⟩ = some (.slice a kids.length cap) := bx.cell 3 (by simp)
    clear hy HRR HX bx
    gi_wp2
    have hsz1 : (W.alloc (.cells #[.string n, .string x, .bool lf, .slice a kids.length cap] 31)).heap.size = W.heap.size + 1 := by simp
    have hk2 : KpT l (.slice pa k pc) W W2 := ⟨by have := hbt.2.2.2.1; omega, fun q h1 h2 _ => (hbt.2.2.2.2 q (by omega) h2).trans ((bel_alloc W _).block q h1)⟩
    have ho2 : W2.ownsRow B0 3 1 (.slice pa k pc) k xs := own_keep1 HO.out (fun q hq => hk2.2 q (World.ownsRow.lt HO.out q hq).2 (by have := (World.ownsRow.lt HO.out q hq).1; omega) |> fun f => (hbt.2.2.2.2 q (by have := (World.ownsRow.lt HO.out q hq).2; omega) (by have := (World.ownsRow.lt HO.out q hq).1; omega)).trans ((bel_alloc W _).block q (World.ownsRow.lt HO.out q hq).2))
    have H2 := (show Hid (J (pre ++ [⟨(⟨n, x, lf, kids⟩, .slice a kids.length cap, .slice pa k pc), ⟨_, _, _, rfl⟩, ⟨_, _, _, rfl⟩, hxz⟩]) W2 ∧ KpT l (.slice pa k pc) W W2 ∧ W2.ownsRow B0 3 1 (.slice pa k pc) k xs) from ⟨hJ2, hk2, ho2⟩)
    clear hJ2 hk2 ho2 hbt hsz1 T3
    generalize hx0 : (⟨(⟨n, x, lf, kids⟩, .slice a kids.length cap, .slice pa k pc), ⟨_, _, _, rfl⟩, ⟨_, _, _, rfl⟩, hxz⟩ : Yl) = x0 at *
    have HX0 := (show Hid (x0.1.1 = ⟨n, x, lf, kids⟩) from by subst hx0; rfl)
    clear hx0
    have hcnt := hk
    rw [Tr.cnt_mk] at hcnt
    obtain ⟨i3, hi3, hz0, hz1, hz2⟩ := info_parts info3i
    refine wpIn_wide.2 ?_
    go_loopw [17] (fun i wr => ∃ (j : Nat) (ys : List Yl), i = .int .i64 j ∧ j ≤ kids.length ∧ Hid (ys.map (fun y => y.1.1) = ((kids.take j).map sub).flatten ∧ J (pre ++ (x0 :: ys)) wr ∧ KpT l (.slice pa k pc) W wr ∧ wr.ownsRow B0 3 1 (.slice pa k pc) k xs)) (fun i _ => kids.length - (intOf i).toNat)
    case atStart => exact ⟨0, [], rfl, Nat.zero_le _, rfl, H2.out.1, H2.out.2⟩
    case round =>
      obtain ⟨j, ys, rfl, hj, HJ⟩ := hrel
      clear H2
      by_cases hlt : j < kids.length
      · obtain ⟨rfl, hbn⟩ := HA.out (by omega)
        obtain ⟨d0, d1, d2, d3⟩ := HC.out j hlt
        obtain ⟨s1, s2, s3, hsv⟩ := (HK.out j hlt).form
        have hlow : ∀ q, q < n0 → wr.heap[q]? = W.heap[q]? := fun q hq => HJ.out.2.2.1.2 q (by omega) (by omega) (fun e => by have := (World.ownsRow.lt HO.out q e).1; omega)
        have mv : ∀ {o : Nat} {v : Value}, W.cell? ⟨b, o, none⟩ = some v → wr.cell? ⟨b, o, none⟩ = some v := fun h => (World.cell?_of_block (hlow b hbn)).trans h
        replace d0 := mv d0
        replace d1 := mv d1
        replace d2 := mv d2
        rw [hsv] at d3
        replace d3 := mv d3
        have hlk := (HK.out j hlt).keep hlow
        have hJw := HJ.out.2.1
        have hKw := HJ.out.2.2.1
        have hOw := HJ.out.2.2.2
        have hBw : B0 ≤ wr.heap.size := Nat.le_trans hB hKw.1
        have bA : Below wr.heap.size wr (wr.alloc (.cells #[.string kids[j].name, .string kids[j].text, .bool kids[j].leaf, .slice s1 s2 s3] 31)) := bel_alloc _ _
        have bD : Below wr.heap.size wr (wr.alloc (.cells #[.string kids[j].name, .string kids[j].text, .bool kids[j].leaf, .slice s1 s2 s3] 31)).drew := bA.drew
        have bB : Below wr.heap.size wr ((wr.alloc (.cells #[.string kids[j].name, .string kids[j].text, .bool kids[j].leaf, .slice s1 s2 s3] 31)).drew.alloc (.cells #[.int .i64 j] 3)) := bD.alloc bD.size _
        have xA : Box (wr.alloc (.cells #[.string kids[j].name, .string kids[j].text, .bool kids[j].leaf, .slice s1 s2 s3] 31)) wr.heap.size 31 [.string kids[j].name, .string kids[j].text, .bool kids[j].leaf, .slice s1 s2 s3] := Box.new wr 31 _
        have xD := xA.still (Below.refl _ _).drew
        have sD : (wr.alloc (.cells #[.string kids[j].name, .string kids[j].text, .bool kids[j].leaf, .slice s1 s2 s3] 31)).drew.heap.size = wr.heap.size + 1 := by show (wr.alloc (.cells #[.string kids[j].name, .string kids[j].text, .bool kids[j].leaf, .slice s1 s2 s3] 31)).heap.size = _; simp
        have xB := xD.still (bel_alloc (wr.alloc (.cells #[.string kids[j].name, .string kids[j].text, .bool kids[j].leaf, .slice s1 s2 s3] 31)).drew (.cells #[.int .i64 j] 3))
        have p0 : (wr.alloc (.cells #[.string kids[j].name, .string kids[j].text, .bool kids[j].leaf, .slice s1 s2 s3] 31)).drew.cell? ⟨wr.heap.size, 0, none⟩ = some (.string kids[j].name) := xD.cell 0 (by simp)
        have p1 : (wr.alloc (.cells #[.string kids[j].name, .string kids[j].text, .bool kids[j].leaf, .slice s1 s2 s3] 31)).drew.cell? ⟨wr.heap.size, 1, none⟩ = some (.string kids[j].text) := xD.cell 1 (by simp)
        have p2 : (wr.alloc (.cells #[.string kids[j].name, .string kids[j].text, .bool kids[j].leaf, .slice s1 s2 s3] 31)).drew.cell? ⟨wr.heap.size, 2, none⟩ = some (.bool kids[j].leaf) := xD.cell 2 (by simp)
        have p3 : (wr.alloc (.cells #[.string kids[j].name, .string kids[j].text, .bool kids[j].leaf, .slice s1 s2 s3] 31)).drew.cell? ⟨wr.heap.size, 3, none⟩ = some (.slice s1 s2 s3) := xD.cell 3 (by simp)
        have HO5 := (show Hid (((wr.alloc (.cells #[.string kids[j].name, .string kids[j].text, .bool kids[j].leaf, .slice s1 s2 s3] 31)).drew.alloc (.cells #[.int .i64 j] 3)).ownsRow B0 3 1 (.slice pa k pc) k xs) from own_still hOw bB)
        have HU5 := (show Hid (((wr.alloc (.cells #[.string kids[j].name, .string kids[j].text, .bool kids[j].leaf, .slice s1 s2 s3] 31)).drew.alloc (.cells #[.int .i64 j] 3)).cell? ⟨wr.heap.size + 1, 0, none⟩ = some (.int .i64 j)) from (by
          have h := (Box.new (wr.alloc (.cells #[.string kids[j].name, .string kids[j].text, .bool kids[j].leaf, .slice s1 s2 s3] 31)).drew 3 [.int .i64 j]).cell 0 (by simp)
          rw [sD] at h
          exact h))
        have HZ5 := (show Hid (B0 ≤ ((wr.alloc (.cells #[.string kids[j].name, .string kids[j].text, .bool kids[j].leaf, .slice s1 s2 s3] 31)).drew.alloc (.cells #[.int .i64 j] 3)).heap.size) from Nat.le_trans hBw bB.size)
        have HUP := (show Hid (∀ (v7 : Value) (w7 : World), OneMore B0 (.slice pa k pc) v7 k xs (.int .i64 j) ((wr.alloc (.cells #[.string kids[j].name, .string kids[j].text, .bool kids[j].leaf, .slice s1 s2 s3] 31)).drew.alloc (.cells #[.int .i64 j] 3)) w7 → (w7.cell? ⟨wr.heap.size, 0, none⟩ = some (.string kids[j].name) ∧ w7.cell? ⟨wr.heap.size, 1, none⟩ = some (.string kids[j].text) ∧ w7.cell? ⟨wr.heap.size, 2, none⟩ = some (.bool kids[j].leaf) ∧ w7.cell? ⟨wr.heap.size, 3, none⟩ = some (.slice s1 s2 s3)) ∧ Hid (Calls Try.prog 84 #[.agg #[.string kids[j].name, .string kids[j].text, .bool kids[j].leaf, .slice s1 s2 s3], v7, .func (.yield l) #[] #[]] w7 fun e W8 => (e = .returned (.bool true) ∧ Hid (∃ ys2 : List Yl, Hid (ys2.map (fun y => y.1.1) = ((kids.take (j + 1)).map sub).flatten ∧ J (pre ++ (x0 :: ys2)) W8 ∧ KpT l (.slice pa k pc) W W8 ∧ W8.ownsRow B0 3 1 (.slice pa k pc) k xs))) ∨ (e = .returned (.bool false) ∧ Hid (TlA l B0 J Jx ⟨n, x, lf, kids⟩ (.slice pa k pc) k xs pre W (.returned (.bool false)) W8)))) from fun v7 w7 hom => by
          obtain ⟨o7, ⟨g7, c7, rfl⟩, gr7, alt⟩ := hom
          have nl : ∀ q, (Value.slice pa k pc).ownBlock = some q → B0 ≤ q ∧ q < wr.heap.size := fun q hq => World.ownsRow.lt hOw q hq
          have x7 := xB.keep (gr7.block _ xB.lt (fun e => by have := (nl _ e.symm).2; omega))
          refine ⟨⟨x7.cell 0 (by simp), x7.cell 1 (by simp), x7.cell 2 (by simp), x7.cell 3 (by simp)⟩, ?_⟩
          have j7 : J (pre ++ (x0 :: ys)) w7 := hJb _ _ _ _ (hJb _ _ _ none hJw (grown_of_below bB none) (fun r e => by cases e)) gr7 (fun r e => (nl r e).1)
          have l7 : Lies w7 (fun q => q < n0) kids[j] (.slice s1 s2 s3) := by
            rw [← hsv]
            exact (hlk.still bB).keep (fun q hq => gr7.block q (by have := bB.size; omega) (fun e => by have := (nl q e.symm).1; omega))
          have z7 : B0 ≤ w7.heap.size := Nat.le_trans hBw (Nat.le_trans bB.size gr7.size)
          have c7' : k + 1 + kids[j].cnt ≤ 1000000 := by
            have := Tr.cntL_take_succ kids j hlt
            have := Tr.cntL_take_le kids (j + 1)
            omega
          have hcall := (callsIn_wide (n := m)).1 (HI.out j hlt m (.slice s1 s2 s3) (.slice (some ⟨g7, 0, none⟩) (k + 1) c7) (k + 1) (xs ++ [.int .i64 j]) (pre ++ (x0 :: ys)) w7 l7 j7 z7 o7 c7')
          simp only [Tr.val] at hcall
          refine Calls.mono hcall ?_
          rintro e W8 (⟨rfl, ys', e1, e2, e3, e4⟩ | ⟨rfl, ys', ⟨zs, e1⟩, e2⟩)
          · refine .inl ⟨rfl, ys ++ ys', ?_, ?_, ?_, ?_⟩
            · rw [List.map_append, HJ.out.1, e1, List.take_succ_eq_append_getElem hlt, List.map_append, List.flatten_append]
              simp
            · simpa [List.append_assoc] using e2
            · refine ⟨Nat.le_trans hKw.1 (Nat.le_trans bB.size (Nat.le_trans gr7.size e3.1)), fun q h1 h2 h3 => ?_⟩
              have hqw : q < wr.heap.size := Nat.lt_of_lt_of_le h1 hKw.1
              rw [e3.2 q (by have := bB.size; have := gr7.size; omega) h2 (fun e => by
                rcases alt with ⟨ea, _⟩ | ⟨ea, _⟩
                · exact h3 (ea ▸ e)
                · rw [ea] at e
                  injection e with e
                  have := bB.size
                  omega), gr7.block q (by have := bB.size; omega) (fun e => h3 e.symm), bB.block q hqw, hKw.2 q h1 h2 h3]
            · rcases alt with ⟨ea, eb⟩ | ⟨ea, eb⟩
              · exact eb W8 e4
              · refine own_keep1 (own_still hOw bB) (fun q hq => ?_)
                have hqn := nl q hq
                have := bB.size
                rw [e3.2 q (by have := gr7.size; omega) (by omega) (fun e => by
                  rw [ea] at e
                  injection e with e
                  omega), eb.block q (by omega) (fun e => by cases e)]
          · refine .inr ⟨rfl, .inr ⟨rfl, x0 :: (ys ++ ys'), ⟨zs ++ ((kids.drop (j + 1)).map sub).flatten, ?_⟩, ?_⟩⟩
            · rw [List.map_cons, HX0.out, sub_mk, List.map_append, HJ.out.1, List.cons_append]
              congr 1
              conv => rhs; rw [← List.take_append_drop j kids, List.drop_eq_getElem_cons hlt]
              rw [List.map_append, List.flatten_append, List.map_cons, List.flatten_cons, ← e1]
              simp [List.append_assoc]
            · simpa [List.append_assoc] using e2)
        have i1 : (0 : Int) ≤ (j : Int) := by omega
        have i2 : (j : Int) < (kids.length : Int) := by omega
        clear HJ hlow hlk hJw hKw hOw bA bD bB xA xD xB HX0 HI HK HC HA HO
        generalize kids[j].name = y0 at *
        generalize kids[j].text = y1 at *
        generalize kids[j].leaf = y2 at *
        go_wp2_with fail
        refine wp_region_held_drew (S := (fun _ => True)) (by kernel_rfl) trivial (fun hHeld => ?_)
        refine wpAnyH_take (i := 1) (oi := { dst := some 23, op := Go.Op.move (Go.Operand.tmp 1), type := 86, pos := "l11_rewriting.go:148", after := #[], guard := none }) (v := ?v1) rfl (by kernel_rfl) (by kernel_rfl) (by kernel_rfl) (fun _ _ _ h => h) (Or.inl ⟨by rfl, ?h1⟩) hHeld ?r1
        case h1 => (intro w hSw; (try dsimp only at hSw); go_simp; try with_reducible rfl)
        try simp only [Act.put, List.setIfInBounds_toArray, List.set_cons_zero, List.set_cons_succ]
        refine wpAnyH_take (i := 2) (oi := { dst := some 24, op := Go.Op.move (Go.Operand.tmp 7), type := 3, pos := "l11_rewriting.go:148", after := #[], guard := none }) (v := ?v2) rfl (by kernel_rfl) (by kernel_rfl) (by kernel_rfl) (fun _ _ _ h => h) (Or.inl ⟨by rfl, ?h2⟩) hHeld ?r2
        case h2 => (intro w hSw; (try dsimp only at hSw); go_simp; try with_reducible rfl)
        try simp only [Act.put, List.setIfInBounds_toArray, List.set_cons_zero, List.set_cons_succ]
        refine wpAnyH_take (i := 5) (oi := { dst := some 27, op := Go.Op.move (Go.Operand.tmp 2), type := 125, pos := "l11_rewriting.go:148", after := #[], guard := none }) (v := ?v3) rfl (by kernel_rfl) (by kernel_rfl) (by kernel_rfl) (fun _ _ _ h => h) (Or.inl ⟨by rfl, ?h3⟩) hHeld ?r3
        case h3 => (intro w hSw; (try dsimp only at hSw); go_simp; try with_reducible rfl)
        try simp only [Act.put, List.setIfInBounds_toArray, List.set_cons_zero, List.set_cons_succ]
        refine wpAnyH_ready (rs := [0, 3]) (by kernel_rfl) (by simp) ?_
        refine (AllReadyH.cons (o := { dst := some 22, op := Go.Op.load 31 (Go.Operand.tmp 8), type := 31, pos := "l11_rewriting.go:148", after := #[], guard := none }) rfl (fun K hK => ?_) (AllReadyH.cons (o := { dst := some 25, op := Go.Op.buildSlice 86 1 #[(0, Go.Operand.tmp 24)], type := 86, pos := "l11_rewriting.go:148", after := #[{ on := 2, ground := Go.Ground.data }], guard := none }) rfl (fun K hK => ?_) AllReadyH.nil))
        · go_simp
          clear hHeld
          refine hK.out _ _ trivial (fun hHeld => ?_)
          clear hK K
          try simp only [Act.put, List.setIfInBounds_toArray, List.set_cons_zero, List.set_cons_succ]
          refine wpAnyH_ready (rs := [3]) (by kernel_rfl) (by simp) ?_
          refine (AllReadyH.cons (o := { dst := some 25, op := Go.Op.buildSlice 86 1 #[(0, Go.Operand.tmp 24)], type := 86, pos := "l11_rewriting.go:148", after := #[{ on := 2, ground := Go.Ground.data }], guard := none }) rfl (fun K hK => ?_) AllReadyH.nil)
          go_simp
          clear hHeld
          refine hK.out _ _ trivial (fun hHeld => ?_)
          clear hK K
          try simp only [Act.put, List.setIfInBounds_toArray, List.set_cons_zero, List.set_cons_succ]
          refine wpAnyH_ready (rs := [4]) (by kernel_rfl) (by simp) ?_
          refine (AllReadyH.cons (o := { dst := some 26, op := Go.Op.call { callee := Go.Callee.builtin Go.Builtin.append, args := #[Go.Operand.tmp 23, Go.Operand.tmp 25], argTypes := #[86, 86] }, type := 86, pos := "l11_rewriting.go:148", after := #[{ on := 1, ground := Go.Ground.data }, { on := 3, ground := Go.Ground.data }], guard := none }) rfl (fun K hK => ?_) AllReadyH.nil)
          (refine step_append_one _ rfl (.tmp 23) (.tmp 25) 86 rfl B0 i3 _ 8 Try.underlying86 hi3 hz0 hz1 hz2 rfl _ k xs (by simp [Act.eval, Act.put]) HO5.out ⟨wr.heap.size + 1, 0, none⟩ 1 (.int .i64 j) (by simp [Act.eval, Act.put]) HU5.out rfl (by unfold maxLen; omega) (by omega) HZ5.out ?_; intro v7 w7 hom; obtain ⟨hc7, HCL⟩ := HUP.out v7 w7 hom; obtain ⟨k0, k1, k2, k3⟩ := hc7; clear hom HUP HO5 HU5 HZ5)
          clear hHeld
          refine hK.out _ _ trivial (fun hHeld => ?_)
          clear hK K
          try simp only [Act.put, List.setIfInBounds_toArray, List.set_cons_zero, List.set_cons_succ]
          refine wpAnyH_ready (rs := [6]) (by kernel_rfl) (by simp) ?_
          refine (AllReadyH.cons (o := { dst := some 28, op := Go.Op.call { callee := Go.Callee.value (Go.Operand.func 84), args := #[Go.Operand.tmp 22, Go.Operand.tmp 26, Go.Operand.tmp 27], argTypes := #[31, 86, 125] }, type := 4, pos := "l11_rewriting.go:148", after := #[{ on := 0, ground := Go.Ground.data }, { on := 4, ground := Go.Ground.data }, { on := 5, ground := Go.Ground.data }, { on := 4, ground := Go.Ground.chain }], guard := none }) rfl (fun K hK => ?_) AllReadyH.nil)
          go_simp
          refine Calls.mono HCL.out ?_
          rintro e W8 (⟨rfl, HT8⟩ | ⟨rfl, HF8⟩)
          · dsimp only
            clear hHeld
            refine hK.out _ _ trivial (fun hHeld => ?_)
            clear hK K
            try simp only [Act.put, List.setIfInBounds_toArray, List.set_cons_zero, List.set_cons_succ]
            refine wpAnyH_take (i := 7) (oi := { dst := some 29, op := Go.Op.unOp Go.UnOp.not 4 (Go.Operand.tmp 28), type := 4, pos := "l11_rewriting.go:148", after := #[{ on := 6, ground := Go.Ground.data }], guard := none }) (v := ?v4) rfl (by kernel_rfl) (by kernel_rfl) (by kernel_rfl) (fun _ _ _ h => h) (Or.inl ⟨by rfl, ?h4⟩) hHeld ?r4
            case h4 => (intro w hSw; (try dsimp only at hSw); go_simp; try with_reducible rfl)
            try simp only [Act.put, List.setIfInBounds_toArray, List.set_cons_zero, List.set_cons_succ]
            refine wpAnyH_done (by kernel_rfl) ?_ _
            go_wp2_with fail
            obtain ⟨ys2, HN⟩ := HT8.out
            exact ⟨⟨j + 1, ys2, by go_num, by omega, HN⟩, by simp [intOf]; omega⟩
          · dsimp only
            clear hHeld
            refine hK.out _ _ trivial (fun hHeld => ?_)
            clear hK K
            try simp only [Act.put, List.setIfInBounds_toArray, List.set_cons_zero, List.set_cons_succ]
            refine wpAnyH_take (i := 7) (oi := { dst := some 29, op := Go.Op.unOp Go.UnOp.not 4 (Go.Operand.tmp 28), type := 4, pos := "l11_rewriting.go:148", after := #[{ on := 6, ground := Go.Ground.data }], guard := none }) (v := ?v5) rfl (by kernel_rfl) (by kernel_rfl) (by kernel_rfl) (fun _ _ _ h => h) (Or.inl ⟨by rfl, ?h5⟩) hHeld ?r5
            case h5 => (intro w hSw; (try dsimp only at hSw); go_simp; try with_reducible rfl)
            try simp only [Act.put, List.setIfInBounds_toArray, List.set_cons_zero, List.set_cons_succ]
            refine wpAnyH_done (by kernel_rfl) ?_ _
            go_wp2_with fail
            go_ret
            exact HF8.out
        · go_simp
          clear hHeld
          refine hK.out _ _ trivial (fun hHeld => ?_)
          clear hK K
          try simp only [Act.put, List.setIfInBounds_toArray, List.set_cons_zero, List.set_cons_succ]
          refine wpAnyH_ready (rs := [0, 4]) (by kernel_rfl) (by simp) ?_
          refine (AllReadyH.cons (o := { dst := some 22, op := Go.Op.load 31 (Go.Operand.tmp 8), type := 31, pos := "l11_rewriting.go:148", after := #[], guard := none }) rfl (fun K hK => ?_) (AllReadyH.cons (o := { dst := some 26, op := Go.Op.call { callee := Go.Callee.builtin Go.Builtin.append, args := #[Go.Operand.tmp 23, Go.Operand.tmp 25], argTypes := #[86, 86] }, type := 86, pos := "l11_rewriting.go:148", after := #[{ on := 1, ground := Go.Ground.data }, { on := 3, ground := Go.Ground.data }], guard := none }) rfl (fun K hK => ?_) AllReadyH.nil))
          · go_simp
            clear hHeld
            refine hK.out _ _ trivial (fun hHeld => ?_)
            clear hK K
            try simp only [Act.put, List.setIfInBounds_toArray, List.set_cons_zero, List.set_cons_succ]
            refine wpAnyH_ready (rs := [4]) (by kernel_rfl) (by simp) ?_
            refine (AllReadyH.cons (o := { dst := some 26, op := Go.Op.call { callee := Go.Callee.builtin Go.Builtin.append, args := #[Go.Operand.tmp 23, Go.Operand.tmp 25], argTypes := #[86, 86] }, type := 86, pos := "l11_rewriting.go:148", after := #[{ on := 1, ground := Go.Ground.data }, { on := 3, ground := Go.Ground.data }], guard := none }) rfl (fun K hK => ?_) AllReadyH.nil)
            (refine step_append_one _ rfl (.tmp 23) (.tmp 25) 86 rfl B0 i3 _ 8 Try.underlying86 hi3 hz0 hz1 hz2 rfl _ k xs (by simp [Act.eval, Act.put]) HO5.out ⟨wr.heap.size + 1, 0, none⟩ 1 (.int .i64 j) (by simp [Act.eval, Act.put]) HU5.out rfl (by unfold maxLen; omega) (by omega) HZ5.out ?_; intro v7 w7 hom; obtain ⟨hc7, HCL⟩ := HUP.out v7 w7 hom; obtain ⟨k0, k1, k2, k3⟩ := hc7; clear hom HUP HO5 HU5 HZ5)
            clear hHeld
            refine hK.out _ _ trivial (fun hHeld => ?_)
            clear hK K
            try simp only [Act.put, List.setIfInBounds_toArray, List.set_cons_zero, List.set_cons_succ]
            refine wpAnyH_ready (rs := [6]) (by kernel_rfl) (by simp) ?_
            refine (AllReadyH.cons (o := { dst := some 28, op := Go.Op.call { callee := Go.Callee.value (Go.Operand.func 84), args := #[Go.Operand.tmp 22, Go.Operand.tmp 26, Go.Operand.tmp 27], argTypes := #[31, 86, 125] }, type := 4, pos := "l11_rewriting.go:148", after := #[{ on := 0, ground := Go.Ground.data }, { on := 4, ground := Go.Ground.data }, { on := 5, ground := Go.Ground.data }, { on := 4, ground := Go.Ground.chain }], guard := none }) rfl (fun K hK => ?_) AllReadyH.nil)
            go_simp
            refine Calls.mono HCL.out ?_
            rintro e W8 (⟨rfl, HT8⟩ | ⟨rfl, HF8⟩)
            · dsimp only
              clear hHeld
              refine hK.out _ _ trivial (fun hHeld => ?_)
              clear hK K
              try simp only [Act.put, List.setIfInBounds_toArray, List.set_cons_zero, List.set_cons_succ]
              refine wpAnyH_take (i := 7) (oi := { dst := some 29, op := Go.Op.unOp Go.UnOp.not 4 (Go.Operand.tmp 28), type := 4, pos := "l11_rewriting.go:148", after := #[{ on := 6, ground := Go.Ground.data }], guard := none }) (v := ?v6) rfl (by kernel_rfl) (by kernel_rfl) (by kernel_rfl) (fun _ _ _ h => h) (Or.inl ⟨by rfl, ?h6⟩) hHeld ?r6
              case h6 => (intro w hSw; (try dsimp only at hSw); go_simp; try with_reducible rfl)
              try simp only [Act.put, List.setIfInBounds_toArray, List.set_cons_zero, List.set_cons_succ]
              refine wpAnyH_done (by kernel_rfl) ?_ _
              go_wp2_with fail
              obtain ⟨ys2, HN⟩ := HT8.out
              exact ⟨⟨j + 1, ys2, by go_num, by omega, HN⟩, by simp [intOf]; omega⟩
            · dsimp only
              clear hHeld
              refine hK.out _ _ trivial (fun hHeld => ?_)
              clear hK K
              try simp only [Act.put, List.setIfInBounds_toArray, List.set_cons_zero, List.set_cons_succ]
              refine wpAnyH_take (i := 7) (oi := { dst := some 29, op := Go.Op.unOp Go.UnOp.not 4 (Go.Operand.tmp 28), type := 4, pos := "l11_rewriting.go:148", after := #[{ on := 6, ground := Go.Ground.data }], guard := none }) (v := ?v7) rfl (by kernel_rfl) (by kernel_rfl) (by kernel_rfl) (fun _ _ _ h => h) (Or.inl ⟨by rfl, ?h7⟩) hHeld ?r7
              case h7 => (intro w hSw; (try dsimp only at hSw); go_simp; try with_reducible rfl)
              try simp only [Act.put, List.setIfInBounds_toArray, List.set_cons_zero, List.set_cons_succ]
              refine wpAnyH_done (by kernel_rfl) ?_ _
              go_wp2_with fail
              go_ret
              exact HF8.out
          · -- the row first
            (refine step_append_one _ rfl (.tmp 23) (.tmp 25) 86 rfl B0 i3 _ 8 Try.underlying86 hi3 hz0 hz1 hz2 rfl _ k xs (by simp [Act.eval, Act.put]) HO5.out ⟨wr.heap.size + 1, 0, none⟩ 1 (.int .i64 j) (by simp [Act.eval, Act.put]) HU5.out rfl (by unfold maxLen; omega) (by omega) HZ5.out ?_; intro v7 w7 hom; obtain ⟨hc7, HCL⟩ := HUP.out v7 w7 hom; obtain ⟨k0, k1, k2, k3⟩ := hc7; clear hom HUP HO5 HU5 HZ5)
            clear hHeld
            refine hK.out _ _ trivial (fun hHeld => ?_)
            clear hK K
            try simp only [Act.put, List.setIfInBounds_toArray, List.set_cons_zero, List.set_cons_succ]
            refine wpAnyH_ready (rs := [0]) (by kernel_rfl) (by simp) ?_
            refine (AllReadyH.cons (o := { dst := some 22, op := Go.Op.load 31 (Go.Operand.tmp 8), type := 31, pos := "l11_rewriting.go:148", after := #[], guard := none }) rfl (fun K hK => ?_) AllReadyH.nil)
            go_simp
            clear hHeld
            refine hK.out _ _ trivial (fun hHeld => ?_)
            clear hK K
            try simp only [Act.put, List.setIfInBounds_toArray, List.set_cons_zero, List.set_cons_succ]
            refine wpAnyH_ready (rs := [6]) (by kernel_rfl) (by simp) ?_
            refine (AllReadyH.cons (o := { dst := some 28, op := Go.Op.call { callee := Go.Callee.value (Go.Operand.func 84), args := #[Go.Operand.tmp 22, Go.Operand.tmp 26, Go.Operand.tmp 27], argTypes := #[31, 86, 125] }, type := 4, pos := "l11_rewriting.go:148", after := #[{ on := 0, ground := Go.Ground.data }, { on := 4, ground := Go.Ground.data }, { on := 5, ground := Go.Ground.data }, { on := 4, ground := Go.Ground.chain }], guard := none }) rfl (fun K hK => ?_) AllReadyH.nil)
            go_simp
            refine Calls.mono HCL.out ?_
            rintro e W8 (⟨rfl, HT8⟩ | ⟨rfl, HF8⟩)
            · dsimp only
              clear hHeld
              refine hK.out _ _ trivial (fun hHeld => ?_)
              clear hK K
              try simp only [Act.put, List.setIfInBounds_toArray, List.set_cons_zero, List.set_cons_succ]
              refine wpAnyH_take (i := 7) (oi := { dst := some 29, op := Go.Op.unOp Go.UnOp.not 4 (Go.Operand.tmp 28), type := 4, pos := "l11_rewriting.go:148", after := #[{ on := 6, ground := Go.Ground.data }], guard := none }) (v := ?v8) rfl (by kernel_rfl) (by kernel_rfl) (by kernel_rfl) (fun _ _ _ h => h) (Or.inl ⟨by rfl, ?h8⟩) hHeld ?r8
              case h8 => (intro w hSw; (try dsimp only at hSw); go_simp; try with_reducible rfl)
              try simp only [Act.put, List.setIfInBounds_toArray, List.set_cons_zero, List.set_cons_succ]
              refine wpAnyH_done (by kernel_rfl) ?_ _
              go_wp2_with fail
              obtain ⟨ys2, HN⟩ := HT8.out
              exact ⟨⟨j + 1, ys2, by go_num, by omega, HN⟩, by simp [intOf]; omega⟩
            · dsimp only
              clear hHeld
              refine hK.out _ _ trivial (fun hHeld => ?_)
              clear hK K
              try simp only [Act.put, List.setIfInBounds_toArray, List.set_cons_zero, List.set_cons_succ]
              refine wpAnyH_take (i := 7) (oi := { dst := some 29, op := Go.Op.unOp Go.UnOp.not 4 (Go.Operand.tmp 28), type := 4, pos := "l11_rewriting.go:148", after := #[{ on := 6, ground := Go.Ground.data }], guard := none }) (v := ?v9) rfl (by kernel_rfl) (by kernel_rfl) (by kernel_rfl) (fun _ _ _ h => h) (Or.inl ⟨by rfl, ?h9⟩) hHeld ?r9
              case h9 => (intro w hSw; (try dsimp only at hSw); go_simp; try with_reducible rfl)
              try simp only [Act.put, List.setIfInBounds_toArray, List.set_cons_zero, List.set_cons_succ]
              refine wpAnyH_done (by kernel_rfl) ?_ _
              go_wp2_with fail
              go_ret
              exact HF8.out
      · have hje : j = kids.length := by omega
        subst hje
        have HE := (show Hid (TlA l B0 J Jx ⟨n, x, lf, kids⟩ (.slice pa k pc) k xs pre W (.returned (.bool true)) wr) from .inl ⟨rfl, x0 :: ys, by rw [List.map_cons, HX0.out, sub_mk, HJ.out.1, List.take_length], HJ.out.2.1, HJ.out.2.2.1, HJ.out.2.2.2⟩)
        clear HJ HI HK HC HA HO
        go_wp2_with fail
        gi_wp2
        go_ret
        exact HE.out
  · have HX2 := (show Hid (TlA l B0 J Jx ⟨n, x, lf, kids⟩ (.slice pa k pc) k xs pre W (.returned (.bool false)) W2) from .inr ⟨rfl, _, ⟨_, by rw [sub_mk]; rfl⟩, hx2⟩)
    clear hy HRR HX hx2
    gi_wp2
    go_ret
    exact HX2.out
end Go.Proofs.Yteomgkcgjkbppaa
