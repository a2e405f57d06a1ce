import Derived.Test.YtbgoikaelmacbaaRg
import Derived.Test.YtbgoikaelmacbaaAo
import Derived.Test.YtbgoikaelmacbaaPw
import Derived.Deep.RegionHeld3
import Derived.Test.YtbgoikaelmacbaaFt
import Derived.Test.YtbgoikaelmacbaaSize
/-! The program: tellTrees. -/
namespace Go.Proofs.Ytbgoikaelmacbaa
open Go.RowKit Go.Deep Go.Shelf
set_option linter.unusedVariables false
set_option maxRecDepth 100000
set_option linter.unusedSimpArgs false
attribute [local go_sem] Oper.semAt_some

/-- What is told: a tree, how it lies, and a path. -/
abbrev Yl := { x : Tr × Value × Value // (∃ a b c, x.2.1 = .slice a b c) ∧ (∃ a b c, x.2.2 = .slice a b c) ∧ x.1.text.size ≤ maxLen }
def ylE (x : Yl) : Array Value := #[x.1.2.2, x.1.1.val x.1.2.1]
/-- What tellTrees keeps. -/
def KpT (l : Nat) (pv : Value) (W W' : World) : Prop := W.heap.size ≤ W'.heap.size ∧ ∀ q, q < W.heap.size → q ≠ l → pv.ownBlock ≠ some q → W'.heap[q]? = W.heap[q]?
/-- What tellTrees leaves. -/
def TlA (l B0 : Nat) (J Jx : List Yl → World → Prop) (t : Tr) (pv : Value) (k : Nat) (xs : List Value) (pre : List Yl) (W : World) (e : Ending) (W' : World) : Prop :=
  (e = .returned (.bool true) ∧ ∃ ys : List Yl, ys.map (fun y => y.1.1) = sub t ∧ J (pre ++ ys) W' ∧ KpT l pv W W' ∧ W'.ownsRow B0 3 1 pv k xs) ∨
  (e = .returned (.bool false) ∧ ∃ ys : List Yl, (∃ zs, ys.map (fun y => y.1.1) ++ zs = sub t) ∧ Jx (pre ++ ys) W')
set_option maxHeartbeats 3200000 in
theorem tell84 {l B0 n0 : Nat} (hl0 : l < B0) (hn0 : n0 ≤ l) (J Jx : List Yl → World → Prop) (hJb : Bears B0 J)
    (hY : ∀ m pre x W1, J pre W1 → YieldAt Fence.wide m Try.prog l (ylE x) W1 fun e W' => (e = .returned (.bool true) ∧ J (pre ++ [x]) W' ∧ But l W1 W') ∨ (e = .returned (.bool false) ∧ Jx (pre ++ [x]) W')) (t : Tr) :
    ∀ (m : Nat) (v pv : Value) (k : Nat) (xs : List Value) (pre : List Yl) (W : World), Lies W (fun q => q < n0) t v → J pre W → B0 ≤ W.heap.size → W.ownsRow B0 3 1 pv k xs → k + t.cnt ≤ 1000000 →
      CallsIn Fence.wide m Try.prog 58 #[t.val v, pv, .func (.yield l) #[] #[]] W (TlA l B0 J Jx t pv k xs pre W) := by
  refine Tr.ind (P := fun t => ∀ (m : Nat) (v pv : Value) (k : Nat) (xs : List Value) (pre : List Yl) (W : World), Lies W (fun q => q < n0) t v → J pre W → B0 ≤ W.heap.size → W.ownsRow B0 3 1 pv k xs → k + t.cnt ≤ 1000000 → CallsIn Fence.wide m Try.prog 58 #[t.val v, pv, .func (.yield l) #[] #[]] W (TlA l B0 J Jx t pv k xs pre W)) ?_ t
  intro n x lf kids ih m v pv k xs pre W hl hJ hB ho hk
  obtain ⟨a, cap, b, off, sv, rfl, hnz, hxz, hc, hm, ha, hcell, hkk⟩ := hl.out
  dsimp only at hnz hxz hc hm ha hcell hkk
  obtain ⟨pa, pc, rfl, _⟩ := own_ne ho
  have HI := (show Hid _ from ih); clear ih
  have HA := (show Hid _ from ha); clear ha
  have HC := (show Hid _ from hcell); clear hcell
  have HK := (show Hid _ from hkk); clear hkk
  have HO := (show Hid (W.ownsRow B0 3 1 (.slice pa k pc) k xs) from ho)
  unfold maxLen at hm
  have hJ1 : J pre (W.alloc (.cells #[.string n, .string x, .bool lf, .slice a kids.length cap] 26)) := hJb _ _ _ none hJ (World.grownBy_alloc W _ none) (fun r e => by cases e)
  obtain ⟨fn, tmps, assign, body, hy, hR⟩ := hY (m - 1) pre ⟨(⟨n, x, lf, kids⟩, .slice a kids.length cap, .slice pa k pc), ⟨_, _, _, rfl⟩, ⟨_, _, _, rfl⟩, hxz⟩ _ hJ1
  simp only [ylE, Tr.val] at hy
  have HRR := (show Hid _ from hR); clear hR hJ1 hl ho
  have HX := (show Hid (Box (W.alloc (.cells #[.string n, .string x, .bool lf, .slice a kids.length cap] 26)) W.heap.size 26 [.string n, .string x, .bool lf, .slice a kids.length cap]) from Box.new W 26 _)
  simp only [Tr.val]
  refine callsIn_of_wp Try.func58 rfl trivial ?_ rfl
  simp only [Try.ntmps58, List.size_toArray, List.length_cons, List.length_nil, Nat.reduceAdd, Nat.reduceSub, Array.replicate_succ, Array.replicate_zero, List.push_toArray, List.append_toArray, List.nil_append, List.cons_append]
  gi_wp2
  refine ⟨fun h => absurd h (by simp [Fence.wide]), RoundIn.mono HRR.out ?_⟩
  rintro e W2 (⟨rfl, hJ2, hbt⟩ | ⟨rfl, hx2⟩)
  · have bx := HX.out.keep (hbt.2.2.2.2 _ HX.out.lt (by omega))
    have T3 : W2.cell? ⟨W.heap.size, 3, none⟩ = some (.slice a kids.length cap) := bx.cell 3 (by simp)
    clear hy HRR HX bx
    gi_wp2
    have hsz1 : (W.alloc (.cells #[.string n, .string x, .bool lf, .slice a kids.length cap] 26)).heap.size = W.heap.size + 1 := by simp
    have hk2 : KpT l (.slice pa k pc) W W2 := ⟨by have := hbt.2.2.2.1; omega, fun q h1 h2 _ => (hbt.2.2.2.2 q (by omega) h2).trans ((bel_alloc W _).block q h1)⟩
    have ho2 : W2.ownsRow B0 3 1 (.slice pa k pc) k xs := own_keep1 HO.out (fun q hq => hk2.2 q (World.ownsRow.lt HO.out q hq).2 (by have := (World.ownsRow.lt HO.out q hq).1; omega) |> fun f => (hbt.2.2.2.2 q (by have := (World.ownsRow.lt HO.out q hq).2; omega) (by have := (World.ownsRow.lt HO.out q hq).1; omega)).trans ((bel_alloc W _).block q (World.ownsRow.lt HO.out q hq).2))
    have H2 := (show Hid (J (pre ++ [⟨(⟨n, x, lf, kids⟩, .slice a kids.length cap, .slice pa k pc), ⟨_, _, _, rfl⟩, ⟨_, _, _, rfl⟩, hxz⟩]) W2 ∧ KpT l (.slice pa k pc) W W2 ∧ W2.ownsRow B0 3 1 (.slice pa k pc) k xs) from ⟨hJ2, hk2, ho2⟩)
    clear hJ2 hk2 ho2 hbt hsz1 T3
    generalize hx0 : (⟨(⟨n, x, lf, kids⟩, .slice a kids.length cap, .slice pa k pc), ⟨_, _, _, rfl⟩, ⟨_, _, _, rfl⟩, hxz⟩ : Yl) = x0 at *
    have HX0 := (show Hid (x0.1.1 = ⟨n, x, lf, kids⟩) from by subst hx0; rfl)
    clear hx0
    have hcnt := hk
    rw [Tr.cnt_mk] at hcnt
    obtain ⟨i3, hi3, hz0, hz1, hz2⟩ := info_parts info3i
    refine wpIn_wide.2 ?_
    go_loopw [17] (fun i wr => ∃ (j : Nat) (ys : List Yl), i = .int .i64 j ∧ j ≤ kids.length ∧ Hid (ys.map (fun y => y.1.1) = ((kids.take j).map sub).flatten ∧ J (pre ++ (x0 :: ys)) wr ∧ KpT l (.slice pa k pc) W wr ∧ wr.ownsRow B0 3 1 (.slice pa k pc) k xs)) (fun i _ => kids.length - (intOf i).toNat)
    case atStart => exact ⟨0, [], rfl, Nat.zero_le _, rfl, H2.out.1, H2.out.2⟩
    case round =>
      obtain ⟨j, ys, rfl, hj, HJ⟩ := hrel
      clear H2
      by_cases hlt : j < kids.length
      · obtain ⟨rfl, hbn⟩ := HA.out (by omega)
        obtain ⟨d0, d1, d2, d3⟩ := HC.out j hlt
        obtain ⟨s1, s2, s3, hsv⟩ := (HK.out j hlt).form
        have hlow : ∀ q, q < n0 → wr.heap[q]? = W.heap[q]? := fun q hq => HJ.out.2.2.1.2 q (by omega) (by omega) (fun e => by have := (World.ownsRow.lt HO.out q e).1; omega)
        have mv : ∀ {o : Nat} {v : Value}, W.cell? ⟨b, o, none⟩ = some v → wr.cell? ⟨b, o, none⟩ = some v := fun h => (World.cell?_of_block (hlow b hbn)).trans h
        replace d0 := mv d0
        replace d1 := mv d1
        replace d2 := mv d2
        rw [hsv] at d3
        replace d3 := mv d3
        have hlk := (HK.out j hlt).keep hlow
        have hJw := HJ.out.2.1
        have hKw := HJ.out.2.2.1
        have hOw := HJ.out.2.2.2
        have hBw : B0 ≤ wr.heap.size := Nat.le_trans hB hKw.1
        have bA : Below wr.heap.size wr (wr.alloc (.cells #[.string kids[j].name, .string kids[j].text, .bool kids[j].leaf, .slice s1 s2 s3] 26)) := bel_alloc _ _
        have bD : Below wr.heap.size wr (wr.alloc (.cells #[.string kids[j].name, .string kids[j].text, .bool kids[j].leaf, .slice s1 s2 s3] 26)).drew := bA.drew
        have bB : Below wr.heap.size wr ((wr.alloc (.cells #[.string kids[j].name, .string kids[j].text, .bool kids[j].leaf, .slice s1 s2 s3] 26)).drew.alloc (.cells #[.int .i64 j] 3)) := bD.alloc bD.size _
        have xA : Box (wr.alloc (.cells #[.string kids[j].name, .string kids[j].text, .bool kids[j].leaf, .slice s1 s2 s3] 26)) wr.heap.size 26 [.string kids[j].name, .string kids[j].text, .bool kids[j].leaf, .slice s1 s2 s3] := Box.new wr 26 _
        have xD := xA.still (Below.refl _ _).drew
        have sD : (wr.alloc (.cells #[.string kids[j].name, .string kids[j].text, .bool kids[j].leaf, .slice s1 s2 s3] 26)).drew.heap.size = wr.heap.size + 1 := by show (wr.alloc (.cells #[.string kids[j].name, .string kids[j].text, .bool kids[j].leaf, .slice s1 s2 s3] 26)).heap.size = _; simp
        have xB := xD.still (bel_alloc (wr.alloc (.cells #[.string kids[j].name, .string kids[j].text, .bool kids[j].leaf, .slice s1 s2 s3] 26)).drew (.cells #[.int .i64 j] 3))
        have p0 : (wr.alloc (.cells #[.string kids[j].name, .string kids[j].text, .bool kids[j].leaf, .slice s1 s2 s3] 26)).drew.cell? ⟨wr.heap.size, 0, none⟩ = some (.string kids[j].name) := xD.cell 0 (by simp)
        have p1 : (wr.alloc (.cells #[.string kids[j].name, .string kids[j].text, .bool kids[j].leaf, .slice s1 s2 s3] 26)).drew.cell? ⟨wr.heap.size, 1, none⟩ = some (.string kids[j].text) := xD.cell 1 (by simp)
        have p2 : (wr.alloc (.cells #[.string kids[j].name, .string kids[j].text, .bool kids[j].leaf, .slice s1 s2 s3] 26)).drew.cell? ⟨wr.heap.size, 2, none⟩ = some (.bool kids[j].leaf) := xD.cell 2 (by simp)
        have p3 : (wr.alloc (.cells #[.string kids[j].name, .string kids[j].text, .bool kids[j].leaf, .slice s1 s2 s3] 26)).drew.cell? ⟨wr.heap.size, 3, none⟩ = some (.slice s1 s2 s3) := xD.cell 3 (by simp)
        have HO5 := (show Hid (((wr.alloc (.cells #[.string kids[j].name, .string kids[j].text, .bool kids[j].leaf, .slice s1 s2 s3] 26)).drew.alloc (.cells #[.int .i64 j] 3)).ownsRow B0 3 1 (.slice pa k pc) k xs) from own_still hOw bB)
        have HU5 := (show Hid (((wr.alloc (.cells #[.string kids[j].name, .string kids[j].text, .bool kids[j].leaf, .slice s1 s2 s3] 26)).drew.alloc (.cells #[.int .i64 j] 3)).cell? ⟨wr.heap.size + 1, 0, none⟩ = some (.int .i64 j)) from (by
          have h := (Box.new (wr.alloc (.cells #[.string kids[j].name, .string kids[j].text, .bool kids[j].leaf, .slice s1 s2 s3] 26)).drew 3 [.int .i64 j]).cell 0 (by simp)
          rw [sD] at h
          exact h))
        have HZ5 := (show Hid (B0 ≤ ((wr.alloc (.cells #[.string kids[j].name, .string kids[j].text, .bool kids[j].leaf, .slice s1 s2 s3] 26)).drew.alloc (.cells #[.int .i64 j] 3)).heap.size) from Nat.le_trans hBw bB.size)
        have HUP := (show Hid (∀ (v7 : Value) (w7 : World), OneMore B0 (.slice pa k pc) v7 k xs (.int .i64 j) ((wr.alloc (.cells #[.string kids[j].name, .string kids[j].text, .bool kids[j].leaf, .slice s1 s2 s3] 26)).drew.alloc (.cells #[.int .i64 j] 3)) w7 → (w7.cell? ⟨wr.heap.size, 0, none⟩ = some (.string kids[j].name) ∧ w7.cell? ⟨wr.heap.size, 1, none⟩ = some (.string kids[j].text) ∧ w7.cell? ⟨wr.heap.size, 2, none⟩ = some (.bool kids[j].leaf) ∧ w7.cell? ⟨wr.heap.size, 3, none⟩ = some (.slice s1 s2 s3)) ∧ Hid (Calls Try.prog 58 #[.agg #[.string kids[j].name, .string kids[j].text, .bool kids[j].leaf, .slice s1 s2 s3], v7, .func (.yield l) #[] #[]] w7 fun e W8 => (e = .returned (.bool true) ∧ Hid (∃ ys2 : List Yl, Hid (ys2.map (fun y => y.1.1) = ((kids.take (j + 1)).map sub).flatten ∧ J (pre ++ (x0 :: ys2)) W8 ∧ KpT l (.slice pa k pc) W W8 ∧ W8.ownsRow B0 3 1 (.slice pa k pc) k xs))) ∨ (e = .returned (.bool false) ∧ Hid (TlA l B0 J Jx ⟨n, x, lf, kids⟩ (.slice pa k pc) k xs pre W (.returned (.bool false)) W8)))) from fun v7 w7 hom => by
          obtain ⟨o7, ⟨g7, c7, rfl⟩, gr7, alt⟩ := hom
          have nl : ∀ q, (Value.slice pa k pc).ownBlock = some q → B0 ≤ q ∧ q < wr.heap.size := fun q hq => World.ownsRow.lt hOw q hq
          have x7 := xB.keep (gr7.block _ xB.lt (fun e => by have := (nl _ e.symm).2; omega))
          refine ⟨⟨x7.cell 0 (by simp), x7.cell 1 (by simp), x7.cell 2 (by simp), x7.cell 3 (by simp)⟩, ?_⟩
          have j7 : J (pre ++ (x0 :: ys)) w7 := hJb _ _ _ _ (hJb _ _ _ none hJw (grown_of_below bB none) (fun r e => by cases e)) gr7 (fun r e => (nl r e).1)
          have l7 : Lies w7 (fun q => q < n0) kids[j] (.slice s1 s2 s3) := by
            rw [← hsv]
            exact (hlk.still bB).keep (fun q hq => gr7.block q (by have := bB.size; omega) (fun e => by have := (nl q e.symm).1; omega))
          have z7 : B0 ≤ w7.heap.size := Nat.le_trans hBw (Nat.le_trans bB.size gr7.size)
          have c7' : k + 1 + kids[j].cnt ≤ 1000000 := by
            have := Tr.cntL_take_succ kids j hlt
            have := Tr.cntL_take_le kids (j + 1)
            omega
          have hcall := (callsIn_wide (n := m)).1 (HI.out j hlt m (.slice s1 s2 s3) (.slice (some ⟨g7, 0, none⟩) (k + 1) c7) (k + 1) (xs ++ [.int .i64 j]) (pre ++ (x0 :: ys)) w7 l7 j7 z7 o7 c7')
          simp only [Tr.val] at hcall
          refine Calls.mono hcall ?_
          rintro e W8 (⟨rfl, ys', e1, e2, e3, e4⟩ | ⟨rfl, ys', ⟨zs, e1⟩, e2⟩)
          · refine .inl ⟨rfl, ys ++ ys', ?_, ?_, ?_, ?_⟩
            · rw [List.map_append, HJ.out.1, e1, List.take_succ_eq_append_getElem hlt, List.map_append, List.flatten_append]
              simp
            · simpa [List.append_assoc] using e2
            · refine ⟨Nat.le_trans hKw.1 (Nat.le_trans bB.size (Nat.le_trans gr7.size e3.1)), fun q h1 h2 h3 => ?_⟩
              have hqw : q < wr.heap.size := Nat.lt_of_lt_of_le h1 hKw.1
              rw [e3.2 q (by have := bB.size; have := gr7.size; omega) h2 (fun e => by
                rcases alt with ⟨ea, _⟩ | ⟨ea, _⟩
                · exact h3 (ea ▸ e)
                · rw [ea] at e
                  injection e with e
                  have := bB.size
                  omega), gr7.block q (by have := bB.size; omega) (fun e => h3 e.symm), bB.block q hqw, hKw.2 q h1 h2 h3]
            · rcases alt with ⟨ea, eb⟩ | ⟨ea, eb⟩
              · exact eb W8 e4
              · refine own_keep1 (own_still hOw bB) (fun q hq => ?_)
                have hqn := nl q hq
                have := bB.size
                rw [e3.2 q (by have := gr7.size; omega) (by omega) (fun e => by
                  rw [ea] at e
                  injection e with e
                  omega), eb.block q (by omega) (fun e => by cases e)]
          · refine .inr ⟨rfl, .inr ⟨rfl, x0 :: (ys ++ ys'), ⟨zs ++ ((kids.drop (j + 1)).map sub).flatten, ?_⟩, ?_⟩⟩
            · rw [List.map_cons, HX0.out, sub_mk, List.map_append, HJ.out.1, List.cons_append]
              congr 1
              conv => rhs; rw [← List.take_append_drop j kids, List.drop_eq_getElem_cons hlt]
              rw [List.map_append, List.flatten_append, List.map_cons, List.flatten_cons, ← e1]
              simp [List.append_assoc]
            · simpa [List.append_assoc] using e2)
        have i1 : (0 : Int) ≤ (j : Int) := by omega
        have i2 : (j : Int) < (kids.length : Int) := by omega
        clear HJ hlow hlk hJw hKw hOw bA bD bB xA xD xB HX0 HI HK HC HA HO
        generalize kids[j].name = y0 at *
        generalize kids[j].text = y1 at *
        generalize kids[j].leaf = y2 at *
        go_wp2_with fail
        refine wp_region_held_drew (S := (fun _ => True)) (by kernel_rfl) trivial (fun hHeld => ?_)
        refine wpAnyH_take (i := 1) (oi := { dst := some 23, op := Go.Op.move (Go.Operand.tmp 1), type := 40, pos := "l11_rewriting.go:148", after := #[], guard := none }) (v := ?v1) rfl (by kernel_rfl) (by kernel_rfl) (by kernel_rfl) (fun _ _ _ h => h) (Or.inl ⟨by rfl, ?h1⟩) hHeld ?r1
        case h1 => (intro w hSw; (try dsimp only at hSw); go_simp; try with_reducible rfl)
        try simp only [Act.put, List.setIfInBounds_toArray, List.set_cons_zero, List.set_cons_succ]
        refine wpAnyH_take (i := 2) (oi := { dst := some 24, op := Go.Op.move (Go.Operand.tmp 7), type := 3, pos := "l11_rewriting.go:148", after := #[], guard := none }) (v := ?v2) rfl (by kernel_rfl) (by kernel_rfl) (by kernel_rfl) (fun _ _ _ h => h) (Or.inl ⟨by rfl, ?h2⟩) hHeld ?r2
        case h2 => (intro w hSw; (try dsimp only at hSw); go_simp; try with_reducible rfl)
        try simp only [Act.put, List.setIfInBounds_toArray, List.set_cons_zero, List.set_cons_succ]
        refine wpAnyH_take (i := 5) (oi := { dst := some 27, op := Go.Op.move (Go.Operand.tmp 2), type := 88, pos := "l11_rewriting.go:148", after := #[], guard := none }) (v := ?v3) rfl (by kernel_rfl) (by kernel_rfl) (by kernel_rfl) (fun _ _ _ h => h) (Or.inl ⟨by rfl, ?h3⟩) hHeld ?r3
        case h3 => (intro w hSw; (try dsimp only at hSw); go_simp; try with_reducible rfl)
        try simp only [Act.put, List.setIfInBounds_toArray, List.set_cons_zero, List.set_cons_succ]
        refine wpAnyH_ready (rs := [0, 3]) (by kernel_rfl) (by simp) ?_
        refine (AllReadyH.cons (o := { dst := some 22, op := Go.Op.load 26 (Go.Operand.tmp 8), type := 26, pos := "l11_rewriting.go:148", after := #[], guard := none }) rfl (fun K hK => ?_) (AllReadyH.cons (o := { dst := some 25, op := Go.Op.buildSlice 40 1 #[(0, Go.Operand.tmp 24)], type := 40, pos := "l11_rewriting.go:148", after := #[{ on := 2, ground := Go.Ground.data }], guard := none }) rfl (fun K hK => ?_) AllReadyH.nil))
        · go_simp
          clear hHeld
          refine hK.out _ _ trivial (fun hHeld => ?_)
          clear hK K
          try simp only [Act.put, List.setIfInBounds_toArray, List.set_cons_zero, List.set_cons_succ]
          refine wpAnyH_ready (rs := [3]) (by kernel_rfl) (by simp) ?_
          refine (AllReadyH.cons (o := { dst := some 25, op := Go.Op.buildSlice 40 1 #[(0, Go.Operand.tmp 24)], type := 40, pos := "l11_rewriting.go:148", after := #[{ on := 2, ground := Go.Ground.data }], guard := none }) rfl (fun K hK => ?_) AllReadyH.nil)
          go_simp
          clear hHeld
          refine hK.out _ _ trivial (fun hHeld => ?_)
          clear hK K
          try simp only [Act.put, List.setIfInBounds_toArray, List.set_cons_zero, List.set_cons_succ]
          refine wpAnyH_ready (rs := [4]) (by kernel_rfl) (by simp) ?_
          refine (AllReadyH.cons (o := { dst := some 26, op := Go.Op.call { callee := Go.Callee.builtin Go.Builtin.append, args := #[Go.Operand.tmp 23, Go.Operand.tmp 25], argTypes := #[40, 40] }, type := 40, pos := "l11_rewriting.go:148", after := #[{ on := 1, ground := Go.Ground.data }, { on := 3, ground := Go.Ground.data }], guard := none }) rfl (fun K hK => ?_) AllReadyH.nil)
          (refine step_append_one _ rfl (.tmp 23) (.tmp 25) 40 rfl B0 i3 _ 8 Try.underlying40 hi3 hz0 hz1 hz2 rfl _ k xs (by simp [Act.eval, Act.put]) HO5.out ⟨wr.heap.size + 1, 0, none⟩ 1 (.int .i64 j) (by simp [Act.eval, Act.put]) HU5.out rfl (by unfold maxLen; omega) (by omega) HZ5.out ?_; intro v7 w7 hom; obtain ⟨hc7, HCL⟩ := HUP.out v7 w7 hom; obtain ⟨k0, k1, k2, k3⟩ := hc7; clear hom HUP HO5 HU5 HZ5)
          clear hHeld
          refine hK.out _ _ trivial (fun hHeld => ?_)
          clear hK K
          try simp only [Act.put, List.setIfInBounds_toArray, List.set_cons_zero, List.set_cons_succ]
          refine wpAnyH_ready (rs := [6]) (by kernel_rfl) (by simp) ?_
          refine (AllReadyH.cons (o := { dst := some 28, op := Go.Op.call { callee := Go.Callee.value (Go.Operand.func 58), args := #[Go.Operand.tmp 22, Go.Operand.tmp 26, Go.Operand.tmp 27], argTypes := #[26, 40, 88] }, type := 4, pos := "l11_rewriting.go:148", after := #[{ on := 0, ground := Go.Ground.data }, { on := 4, ground := Go.Ground.data }, { on := 5, ground := Go.Ground.data }, { on := 4, ground := Go.Ground.chain }], guard := none }) rfl (fun K hK => ?_) AllReadyH.nil)
          go_simp
          refine Calls.mono HCL.out ?_
          rintro e W8 (⟨rfl, HT8⟩ | ⟨rfl, HF8⟩)
          · dsimp only
            clear hHeld
            refine hK.out _ _ trivial (fun hHeld => ?_)
            clear hK K
            try simp only [Act.put, List.setIfInBounds_toArray, List.set_cons_zero, List.set_cons_succ]
            refine wpAnyH_take (i := 7) (oi := { dst := some 29, op := Go.Op.unOp Go.UnOp.not 4 (Go.Operand.tmp 28), type := 4, pos := "l11_rewriting.go:148", after := #[{ on := 6, ground := Go.Ground.data }], guard := none }) (v := ?v4) rfl (by kernel_rfl) (by kernel_rfl) (by kernel_rfl) (fun _ _ _ h => h) (Or.inl ⟨by rfl, ?h4⟩) hHeld ?r4
            case h4 => (intro w hSw; (try dsimp only at hSw); go_simp; try with_reducible rfl)
            try simp only [Act.put, List.setIfInBounds_toArray, List.set_cons_zero, List.set_cons_succ]
            refine wpAnyH_done (by kernel_rfl) ?_ _
            go_wp2_with fail
            obtain ⟨ys2, HN⟩ := HT8.out
            exact ⟨⟨j + 1, ys2, by go_num, by omega, HN⟩, by simp [intOf]; omega⟩
          · dsimp only
            clear hHeld
            refine hK.out _ _ trivial (fun hHeld => ?_)
            clear hK K
            try simp only [Act.put, List.setIfInBounds_toArray, List.set_cons_zero, List.set_cons_succ]
            refine wpAnyH_take (i := 7) (oi := { dst := some 29, op := Go.Op.unOp Go.UnOp.not 4 (Go.Operand.tmp 28), type := 4, pos := "l11_rewriting.go:148", after := #[{ on := 6, ground := Go.Ground.data }], guard := none }) (v := ?v5) rfl (by kernel_rfl) (by kernel_rfl) (by kernel_rfl) (fun _ _ _ h => h) (Or.inl ⟨by rfl, ?h5⟩) hHeld ?r5
            case h5 => (intro w hSw; (try dsimp only at hSw); go_simp; try with_reducible rfl)
            try simp only [Act.put, List.setIfInBounds_toArray, List.set_cons_zero, List.set_cons_succ]
            refine wpAnyH_done (by kernel_rfl) ?_ _
            go_wp2_with fail
            go_ret
            exact HF8.out
        · go_simp
          clear hHeld
          refine hK.out _ _ trivial (fun hHeld => ?_)
          clear hK K
          try simp only [Act.put, List.setIfInBounds_toArray, List.set_cons_zero, List.set_cons_succ]
          refine wpAnyH_ready (rs := [0, 4]) (by kernel_rfl) (by simp) ?_
          refine (AllReadyH.cons (o := { dst := some 22, op := Go.Op.load 26 (Go.Operand.tmp 8), type := 26, pos := "l11_rewriting.go:148", after := #[], guard := none }) rfl (fun K hK => ?_) (AllReadyH.cons (o := { dst := some 26, op := Go.Op.call { callee := Go.Callee.builtin Go.Builtin.append, args := #[Go.Operand.tmp 23, Go.Operand.tmp 25], argTypes := #[40, 40] }, type := 40, pos := "l11_rewriting.go:148", after := #[{ on := 1, ground := Go.Ground.data }, { on := 3, ground := Go.Ground.data }], guard := none }) rfl (fun K hK => ?_) AllReadyH.nil))
          · go_simp
            clear hHeld
            refine hK.out _ _ trivial (fun hHeld => ?_)
            clear hK K
            try simp only [Act.put, List.setIfInBounds_toArray, List.set_cons_zero, List.set_cons_succ]
            refine wpAnyH_ready (rs := [4]) (by kernel_rfl) (by simp) ?_
            refine (AllReadyH.cons (o := { dst := some 26, op := Go.Op.call { callee := Go.Callee.builtin Go.Builtin.append, args := #[Go.Operand.tmp 23, Go.Operand.tmp 25], argTypes := #[40, 40] }, type := 40, pos := "l11_rewriting.go:148", after := #[{ on := 1, ground := Go.Ground.data }, { on := 3, ground := Go.Ground.data }], guard := none }) rfl (fun K hK => ?_) AllReadyH.nil)
            (refine step_append_one _ rfl (.tmp 23) (.tmp 25) 40 rfl B0 i3 _ 8 Try.underlying40 hi3 hz0 hz1 hz2 rfl _ k xs (by simp [Act.eval, Act.put]) HO5.out ⟨wr.heap.size + 1, 0, none⟩ 1 (.int .i64 j) (by simp [Act.eval, Act.put]) HU5.out rfl (by unfold maxLen; omega) (by omega) HZ5.out ?_; intro v7 w7 hom; obtain ⟨hc7, HCL⟩ := HUP.out v7 w7 hom; obtain ⟨k0, k1, k2, k3⟩ := hc7; clear hom HUP HO5 HU5 HZ5)
            clear hHeld
            refine hK.out _ _ trivial (fun hHeld => ?_)
            clear hK K
            try simp only [Act.put, List.setIfInBounds_toArray, List.set_cons_zero, List.set_cons_succ]
            refine wpAnyH_ready (rs := [6]) (by kernel_rfl) (by simp) ?_
            refine (AllReadyH.cons (o := { dst := some 28, op := Go.Op.call { callee := Go.Callee.value (Go.Operand.func 58), args := #[Go.Operand.tmp 22, Go.Operand.tmp 26, Go.Operand.tmp 27], argTypes := #[26, 40, 88] }, type := 4, pos := "l11_rewriting.go:148", after := #[{ on := 0, ground := Go.Ground.data }, { on := 4, ground := Go.Ground.data }, { on := 5, ground := Go.Ground.data }, { on := 4, ground := Go.Ground.chain }], guard := none }) rfl (fun K hK => ?_) AllReadyH.nil)
            go_simp
            refine Calls.mono HCL.out ?_
            rintro e W8 (⟨rfl, HT8⟩ | ⟨rfl, HF8⟩)
            · dsimp only
              clear hHeld
              refine hK.out _ _ trivial (fun hHeld => ?_)
              clear hK K
              try simp only [Act.put, List.setIfInBounds_toArray, List.set_cons_zero, List.set_cons_succ]
              refine wpAnyH_take (i := 7) (oi := { dst := some 29, op := Go.Op.unOp Go.UnOp.not 4 (Go.Operand.tmp 28), type := 4, pos := "l11_rewriting.go:148", after := #[{ on := 6, ground := Go.Ground.data }], guard := none }) (v := ?v6) rfl (by kernel_rfl) (by kernel_rfl) (by kernel_rfl) (fun _ _ _ h => h) (Or.inl ⟨by rfl, ?h6⟩) hHeld ?r6
              case h6 => (intro w hSw; (try dsimp only at hSw); go_simp; try with_reducible rfl)
              try simp only [Act.put, List.setIfInBounds_toArray, List.set_cons_zero, List.set_cons_succ]
              refine wpAnyH_done (by kernel_rfl) ?_ _
              go_wp2_with fail
              obtain ⟨ys2, HN⟩ := HT8.out
              exact ⟨⟨j + 1, ys2, by go_num, by omega, HN⟩, by simp [intOf]; omega⟩
            · dsimp only
              clear hHeld
              refine hK.out _ _ trivial (fun hHeld => ?_)
              clear hK K
              try simp only [Act.put, List.setIfInBounds_toArray, List.set_cons_zero, List.set_cons_succ]
              refine wpAnyH_take (i := 7) (oi := { dst := some 29, op := Go.Op.unOp Go.UnOp.not 4 (Go.Operand.tmp 28), type := 4, pos := "l11_rewriting.go:148", after := #[{ on := 6, ground := Go.Ground.data }], guard := none }) (v := ?v7) rfl (by kernel_rfl) (by kernel_rfl) (by kernel_rfl) (fun _ _ _ h => h) (Or.inl ⟨by rfl, ?h7⟩) hHeld ?r7
              case h7 => (intro w hSw; (try dsimp only at hSw); go_simp; try with_reducible rfl)
              try simp only [Act.put, List.setIfInBounds_toArray, List.set_cons_zero, List.set_cons_succ]
              refine wpAnyH_done (by kernel_rfl) ?_ _
              go_wp2_with fail
              go_ret
              exact HF8.out
          · -- the row first
            (refine step_append_one _ rfl (.tmp 23) (.tmp 25) 40 rfl B0 i3 _ 8 Try.underlying40 hi3 hz0 hz1 hz2 rfl _ k xs (by simp [Act.eval, Act.put]) HO5.out ⟨wr.heap.size + 1, 0, none⟩ 1 (.int .i64 j) (by simp [Act.eval, Act.put]) HU5.out rfl (by unfold maxLen; omega) (by omega) HZ5.out ?_; intro v7 w7 hom; obtain ⟨hc7, HCL⟩ := HUP.out v7 w7 hom; obtain ⟨k0, k1, k2, k3⟩ := hc7; clear hom HUP HO5 HU5 HZ5)
            clear hHeld
            refine hK.out _ _ trivial (fun hHeld => ?_)
            clear hK K
            try simp only [Act.put, List.setIfInBounds_toArray, List.set_cons_zero, List.set_cons_succ]
            refine wpAnyH_ready (rs := [0]) (by kernel_rfl) (by simp) ?_
            refine (AllReadyH.cons (o := { dst := some 22, op := Go.Op.load 26 (Go.Operand.tmp 8), type := 26, pos := "l11_rewriting.go:148", after := #[], guard := none }) rfl (fun K hK => ?_) AllReadyH.nil)
            go_simp
            clear hHeld
            refine hK.out _ _ trivial (fun hHeld => ?_)
            clear hK K
            try simp only [Act.put, List.setIfInBounds_toArray, List.set_cons_zero, List.set_cons_succ]
            refine wpAnyH_ready (rs := [6]) (by kernel_rfl) (by simp) ?_
            refine (AllReadyH.cons (o := { dst := some 28, op := Go.Op.call { callee := Go.Callee.value (Go.Operand.func 58), args := #[Go.Operand.tmp 22, Go.Operand.tmp 26, Go.Operand.tmp 27], argTypes := #[26, 40, 88] }, type := 4, pos := "l11_rewriting.go:148", after := #[{ on := 0, ground := Go.Ground.data }, { on := 4, ground := Go.Ground.data }, { on := 5, ground := Go.Ground.data }, { on := 4, ground := Go.Ground.chain }], guard := none }) rfl (fun K hK => ?_) AllReadyH.nil)
            go_simp
            refine Calls.mono HCL.out ?_
            rintro e W8 (⟨rfl, HT8⟩ | ⟨rfl, HF8⟩)
            · dsimp only
              clear hHeld
              refine hK.out _ _ trivial (fun hHeld => ?_)
              clear hK K
              try simp only [Act.put, List.setIfInBounds_toArray, List.set_cons_zero, List.set_cons_succ]
              refine wpAnyH_take (i := 7) (oi := { dst := some 29, op := Go.Op.unOp Go.UnOp.not 4 (Go.Operand.tmp 28), type := 4, pos := "l11_rewriting.go:148", after := #[{ on := 6, ground := Go.Ground.data }], guard := none }) (v := ?v8) rfl (by kernel_rfl) (by kernel_rfl) (by kernel_rfl) (fun _ _ _ h => h) (Or.inl ⟨by rfl, ?h8⟩) hHeld ?r8
              case h8 => (intro w hSw; (try dsimp only at hSw); go_simp; try with_reducible rfl)
              try simp only [Act.put, List.setIfInBounds_toArray, List.set_cons_zero, List.set_cons_succ]
              refine wpAnyH_done (by kernel_rfl) ?_ _
              go_wp2_with fail
              obtain ⟨ys2, HN⟩ := HT8.out
              exact ⟨⟨j + 1, ys2, by go_num, by omega, HN⟩, by simp [intOf]; omega⟩
            · dsimp only
              clear hHeld
              refine hK.out _ _ trivial (fun hHeld => ?_)
              clear hK K
              try simp only [Act.put, List.setIfInBounds_toArray, List.set_cons_zero, List.set_cons_succ]
              refine wpAnyH_take (i := 7) (oi := { dst := some 29, op := Go.Op.unOp Go.UnOp.not 4 (Go.Operand.tmp 28), type := 4, pos := "l11_rewriting.go:148", after := #[{ on := 6, ground := Go.Ground.data }], guard := none }) (v := ?v9) rfl (by kernel_rfl) (by kernel_rfl) (by kernel_rfl) (fun _ _ _ h => h) (Or.inl ⟨by rfl, ?h9⟩) hHeld ?r9
              case h9 => (intro w hSw; (try dsimp only at hSw); go_simp; try with_reducible rfl)
              try simp only [Act.put, List.setIfInBounds_toArray, List.set_cons_zero, List.set_cons_succ]
              refine wpAnyH_done (by kernel_rfl) ?_ _
              go_wp2_with fail
              go_ret
              exact HF8.out
      · have hje : j = kids.length := by omega
        subst hje
        have HE := (show Hid (TlA l B0 J Jx ⟨n, x, lf, kids⟩ (.slice pa k pc) k xs pre W (.returned (.bool true)) wr) from .inl ⟨rfl, x0 :: ys, by rw [List.map_cons, HX0.out, sub_mk, HJ.out.1, List.take_length], HJ.out.2.1, HJ.out.2.2.1, HJ.out.2.2.2⟩)
        clear HJ HI HK HC HA HO
        go_wp2_with fail
        gi_wp2
        go_ret
        exact HE.out
  · have HX2 := (show Hid (TlA l B0 J Jx ⟨n, x, lf, kids⟩ (.slice pa k pc) k xs pre W (.returned (.bool false)) W2) from .inr ⟨rfl, _, ⟨_, by rw [sub_mk]; rfl⟩, hx2⟩)
    clear hy HRR HX hx2
    gi_wp2
    go_ret
    exact HX2.out
end Go.Proofs.Ytbgoikaelmacbaa

/-! The program: isTreePattern. -/
namespace Go.Proofs.Ytbgoikaelmacbaa
open Go.RowKit Go.Deep Go.Shelf
set_option linter.unusedVariables false
set_option maxRecDepth 100000
set_option linter.unusedSimpArgs false
attribute [local go_sem] Oper.semAt_some

theorem all83 {l B0 n0 : Nat} (hl0 : l < B0) (hn0 : n0 ≤ l) (J Jx : List Yl → World → Prop) (hJb : Bears B0 J)
    (hY : ∀ m pre x W1, J pre W1 → YieldAt Fence.wide m Try.prog l (ylE x) W1 fun e W' => (e = .returned (.bool true) ∧ J (pre ++ [x]) W' ∧ But l W1 W') ∨ (e = .returned (.bool false) ∧ Jx (pre ++ [x]) W')) (p : Tr) (m : Nat) (v : Value) (bp : Nat) (W : World)
    (hl : Lies W (fun q => q < n0) p v) (hb : Box W bp 26 [.string p.name, .string p.text, .bool p.leaf, v]) (hJ : J [] W) (hB : B0 ≤ W.heap.size) (hk : p.cnt ≤ 1000000) :
    CallsIn Fence.wide m Try.prog 57 #[.func (.yield l) #[] #[], .pointer (some ⟨bp, 0, none⟩)] W fun e W' => (∃ u, e = .returned u) ∧ ((∃ ys : List Yl, ys.map (fun y => y.1.1) = sub p ∧ J ys W') ∨ (∃ ys : List Yl, (∃ zs, ys.map (fun y => y.1.1) ++ zs = sub p) ∧ Jx ys W')) := by
  have HCL := (show Hid _ from (callsIn_wide (n := m)).1 (tell84 hl0 hn0 J Jx hJb hY p m v (.slice none 0 0) 0 [] [] W hl hJ hB (own_nil _ _ _ _) (by omega)))
  obtain ⟨a, c, d, rfl⟩ := hl.form
  have c0 : W.cell? ⟨bp, 0, none⟩ = some (.string p.name) := hb.cell 0 (by simp)
  have c1 : W.cell? ⟨bp, 1, none⟩ = some (.string p.text) := hb.cell 1 (by simp)
  have c2 : W.cell? ⟨bp, 2, none⟩ = some (.bool p.leaf) := hb.cell 2 (by simp)
  have c3 : W.cell? ⟨bp, 3, none⟩ = some (.slice a c d) := hb.cell 3 (by simp)
  simp only [Tr.val] at HCL
  generalize p.name = n0 at *
  generalize p.text = x0 at *
  generalize p.leaf = l0 at *
  clear hb hl hJ hY
  refine callsIn_of_wp Try.func57 rfl trivial ?_ rfl
  simp only [Try.ntmps57, List.size_toArray, List.length_cons, List.length_nil, Nat.reduceAdd, Nat.reduceSub, Array.replicate_succ, Array.replicate_zero, List.push_toArray, List.append_toArray, List.nil_append, List.cons_append]
  refine wpIn_wide.2 ?_
  go_wp2_with fail
  refine Calls.mono HCL.out ?_
  rintro e W' (⟨rfl, ys, e1, e2, e3, e4⟩ | ⟨rfl, ys, e1, e2⟩)
  · have HE := (show Hid (J ys W') from (by first | (show J ys W'; simpa using e2) | (show Jx ys W'; simpa using e2)))
    clear e2 e3 e4 HCL
    go_wp2_with fail
    go_end0
    exact ⟨⟨_, rfl⟩, .inl ⟨ys, e1, HE.out⟩⟩
  · have HE := (show Hid (Jx ys W') from (by first | (show J ys W'; simpa using e2) | (show Jx ys W'; simpa using e2)))
    clear e2 HCL
    go_wp2_with fail
    go_end0
    exact ⟨⟨_, rfl⟩, .inr ⟨ys, e1, HE.out⟩⟩
theorem tin56 (n x : ByteArray) (lf : Bool) (a : Option Addr) (c d : Nat) (w : World) :
    Calls Try.prog 32 #[.agg #[.string n, .string x, .bool lf, .slice a c d]] w fun e w' => e = .returned (.func (.func 57) #[] #[.pointer (some ⟨w.heap.size, 0, none⟩)]) ∧ w' = w.alloc (.cells #[.string n, .string x, .bool lf, .slice a c d] 26) := by
  go_enter Try.func32, Try.ntmps32
  go_wp2_with fail
  go_ret
  exact ⟨rfl, rfl⟩
theorem yield_any {m m' : Nat} {P : Program} {l : Nat} {args : Array Value} {W : World} {R : Ending → World → Prop} (h : YieldAt Fence.wide m P l args W R) : YieldAt Fence.wide m' P l args W R := by
  obtain ⟨fn, tmps, assign, body, hy, hR⟩ := h
  exact ⟨fn, tmps, assign, body, hy, hR.1, fun c cs _ => hR.2 c cs (fun d h => by simp [Fence.wide] at h)⟩
set_option maxHeartbeats 3200000 in
theorem ipat37 {S : Nat → Prop} (p : Tr) (v : Value) (w : World) (h : Lies w S p v) :
    Calls Try.prog 24 #[p.val v] w fun e w' => e = .returned (.bool (patB p)) ∧ Below w.heap.size w w' := by
  have hl0 : Lies w (fun q => q < w.heap.size) p v := (h.lt).mono (fun q hq => hq.2)
  obtain ⟨a, c, d, rfl⟩ := h.form
  have hb2 : Below w.heap.size w ((w.alloc (.cells #[.string p.name, .string p.text, .bool p.leaf, .slice a c d] 26)).alloc (.cells #[.bool false] 4)) := (bel_alloc _ _).alloc (by simp) _
  have HOK := (show Hid _ from iOK_any p (.slice a c d) _ (hl0.still hb2))
  have HX1 := (show Hid (Box ((w.alloc (.cells #[.string p.name, .string p.text, .bool p.leaf, .slice a c d] 26)).alloc (.cells #[.bool false] 4)) w.heap.size 26 [.string p.name, .string p.text, .bool p.leaf, .slice a c d]) from (Box.new w 26 _).still (bel_alloc _ _))
  have HX2 := (show Hid (Box ((w.alloc (.cells #[.string p.name, .string p.text, .bool p.leaf, .slice a c d] 26)).alloc (.cells #[.bool false] 4)) (w.heap.size + 1) 4 [.bool false]) from (by
    have h := Box.new (w.alloc (.cells #[.string p.name, .string p.text, .bool p.leaf, .slice a c d] 26)) 4 [.bool false]
    rw [show (w.alloc (.cells #[.string p.name, .string p.text, .bool p.leaf, .slice a c d] 26)).heap.size = w.heap.size + 1 from by simp] at h
    exact h))
  have HB2 := (show Hid _ from hb2)
  simp only [Tr.val] at HOK ⊢
  refine (callsIn_wide (n := 5)).1 ?_
  refine callsIn_of_wp_marks Try.func24 rfl trivial ?_ rfl
  simp only [Try.ntmps24, List.size_toArray, List.length_cons, List.length_nil, Nat.reduceAdd, Nat.reduceSub, Array.replicate_succ, Array.replicate_zero, List.push_toArray, List.append_toArray, List.nil_append, List.cons_append]
  refine wpIn_wide.2 ?_
  go_wp2_with fail
  refine Calls.mono HOK.out ?_
  rintro e w1 ⟨rfl, hb1⟩
  have x1 := HX1.out.still hb1
  have x2 := HX2.out.still hb1
  have c0 : w1.cell? ⟨w.heap.size, 0, none⟩ = some (.string p.name) := x1.cell 0 (by simp)
  have c1 : w1.cell? ⟨w.heap.size, 1, none⟩ = some (.string p.text) := x1.cell 1 (by simp)
  have c2 : w1.cell? ⟨w.heap.size, 2, none⟩ = some (.bool p.leaf) := x1.cell 2 (by simp)
  have c3 : w1.cell? ⟨w.heap.size, 3, none⟩ = some (.slice a c d) := x1.cell 3 (by simp)
  have d0 : w1.cell? ⟨w.heap.size + 1, 0, none⟩ = some (.bool false) := x2.cell 0 (by simp)
  have d1 : w1.frozen? ⟨w.heap.size + 1, 0, none⟩ = false := x2.frozen 0
  have HB1 := (show Hid (Below w.heap.size w w1) from bel_trans HB2.out hb1)
  have HS1 := (show Hid (w.heap.size + 2 ≤ w1.heap.size) from (by show w.heap.size + 2 ≤ w1.heap.size; have := hb1.size; simp at this; omega))
  cases hok : p.ok
  · have HP := (show Hid (patB p = false) from (by show patB p = false; unfold patB; rw [hok]; rfl))
    go_wp2_with fail
    refine ⟨.bool false, by simp [results, Try.results24, go_sem, d0], by rw [HP.out], ?_⟩
    exact HB1.out.setCell (by simp) _
  · have HP := (show Hid (patB p = (sub p).all asks) from (by
      show patB p = _
      unfold patB
      rw [hok, nmV_sub p (by
        unfold Tr.ok at hok
        simp only [Bool.and_eq_true, decide_eq_true_eq] at hok
        first
          | exact hok.1.1
          | exact hok.2
          | exact hok.1
          | exact hok.1.2)]
      rfl))
    have hct := ok_cnt hok
    have HLW := (show Hid (Lies w1 (fun q => q < w.heap.size) p (.slice a c d)) from hl0.still HB1.out)
    have HX2' := (show Hid (Box w1 (w.heap.size + 1) 4 [.bool false]) from x2)
    clear x1 x2 HX1 HX2 HOK hok hb1 hl0 h HB2 hb2
    go_wp2_with fail
    refine Calls.mono (tin56 _ _ _ _ _ _ _) ?_
    rintro e w2 ⟨rfl, hw2⟩
    have HBV := (show Hid (Below w1.heap.size w1 w2) from (by rw [hw2]; exact bel_alloc _ _))
    have HZV := (show Hid (w2.heap.size = w1.heap.size + 1) from (by show w2.heap.size = w1.heap.size + 1; rw [hw2]; simp))
    have HXV := (show Hid (Box w2 w1.heap.size 26 [.string p.name, .string p.text, .bool p.leaf, .slice a c d]) from (by rw [hw2]; exact Box.new _ _ _))
    clear hw2 c0 c1 c2 c3 d0 d1
    go_wp2_with fail
    refine (wpIn_wide (n := 5)).1 ?_
    refine wpIn_rangeC (α := Yl) rfl (by omega) (gf := 57) (lb := #[.pointer (some ⟨w1.heap.size, 0, none⟩)]) rfl trivial (enters_of Try.func57 (by kernel_rfl) rfl) (encs := ylE) (fun _ => rfl)
      (fun pre W => Below w2.heap.size w2 W ∧ (pre.all fun y => asks y.1.1) = true)
      (fun pre W => (∃ y ∈ pre, asks y.1.1 = false) ∧ But (w.heap.size + 1) w2 W ∧ Box W (w.heap.size + 1) 4 [.bool false]) ?hI ?hIx ?h0 (S := fun ys => ys.map (fun y => y.1.1) = sub p) (Sp := fun ys => ∃ zs, ys.map (fun y => y.1.1) ++ zs = sub p) ?hseq ?hround ?hdone ?hstop
    case hI =>
      intro s A B row hs hg hr
      exact ⟨⟨hg.os.trans hs.1.os, hg.tape.trans hs.1.tape, hg.output.trans hs.1.output, Nat.le_trans hs.1.size hg.size, fun q hq => (hg.block q (by have := hs.1.size; omega) (fun e => by have := hr q e.symm; omega)).trans (hs.1.block q hq)⟩, hs.2⟩
    case hIx =>
      intro s A B row hs hg hr
      have hz := HZV.out
      have h1 := HS1.out
      refine ⟨hs.1, ⟨hg.os.trans hs.2.1.1, hg.tape.trans hs.2.1.2.1, hg.output.trans hs.2.1.2.2.1, Nat.le_trans hs.2.1.2.2.2.1 hg.size, fun q hq hne => (hg.block q (by have := hs.2.1.2.2.2.1; omega) (fun e => by have := hr q e.symm; omega)).trans (hs.2.1.2.2.2.2 q hq hne)⟩, hs.2.2.keep (hg.block _ hs.2.2.lt (fun e => by have := hr _ e.symm; omega))⟩
    case h0 => exact ⟨Below.refl _ _, rfl⟩
    case hseq =>
      intro J Jx W hbW hsz hJb hJxb hY hJ0
      have hz := HZV.out
      have := HS1.out
      exact all83 (l := w2.heap.size + 1) (B0 := w2.heap.size + 2) (n0 := w2.heap.size) (by omega) (by omega) J Jx hJb (fun m pre x W1 hj => yield_any (hY pre x W1 hj)) p _ _ w1.heap.size W ((((HLW.out.still HBV.out).still hbW)).mono (fun q hq => by have : q < w.heap.size := hq; show q < w2.heap.size; omega)) (HXV.out.still hbW) hJ0 hsz (by omega)
    case hround =>
      intro pre x W hi hsz
      obtain ⟨hbW, hall⟩ := hi
      obtain ⟨t1, t2, t3, e1⟩ := x.2.1
      obtain ⟨u1, u2, u3, e2⟩ := x.2.2.1
      have htx := x.2.2.2
      simp only [ylE, Tr.val, e1, e2]
      gi_wp2
      refine ⟨bel_alloc _ _, fun o => ?_⟩
      have hz := HZV.out
      have hs1 := HS1.out
      obtain ⟨Wb, hWb⟩ : ∃ Wb : World, (W.alloc (.cells #[.string x.1.1.name, .string x.1.1.text, .bool x.1.1.leaf, .slice t1 t2 t3] 26)).putObj (w2.heap.size + 1) o = Wb := ⟨_, rfl⟩
      rw [hWb]
      have xb : Box Wb W.heap.size 26 [.string x.1.1.name, .string x.1.1.text, .bool x.1.1.leaf, .slice t1 t2 t3] := by
        rw [← hWb]
        exact (Box.new W 26 _).keep (World.putObj_heap_other (by omega))
      have hbb : Below w2.heap.size w2 Wb := by
        rw [← hWb]
        exact (bel_trans hbW (bel_alloc _ _)).grown (grownBy_putObj' _ _ _) (by simp; omega) (fun k e => by cases e; omega)
      have y2 : Box Wb (w.heap.size + 1) 4 [.bool false] := (HX2'.out.still HBV.out).still hbb
      have HV := (show Hid _ from var72 x.1.1 (.slice t1 t2 t3) Wb rfl)
      simp only [Tr.val] at HV
      have HN := (show Hid (∀ wq : World, Calls Try.prog 52 #[.string x.1.1.text] wq fun e w' => e = .returned (.bool (nmB x.1.1.text)) ∧ w' = wq) from fun wq => iName x.1.1.text htx wq)
      have HASK := (show Hid (asks x.1.1 = (!(vrB x.1.1.name x.1.1.leaf) || nmB x.1.1.text)) from rfl)
      have HG := (show Hid (∀ w3 : World, Below Wb.heap.size Wb w3 → asks x.1.1 = true → Below Wb.heap.size Wb w3 ∧ (Below w2.heap.size w2 w3 ∧ ((pre ++ [x]).all fun y => asks y.1.1) = true)) from fun w3 hb ha => ⟨hb, bel_trans hbb hb, by rw [List.all_append, hall]; simp [ha]⟩)
      have HF := (show Hid (∀ w3 : World, Below Wb.heap.size Wb w3 → asks x.1.1 = false → (Wb.heap.size ≤ (w3.setCell ⟨w.heap.size + 1, 0, none⟩ (.bool false)).heap.size ∧ ∀ q, w2.heap.size ≤ q → q < Wb.heap.size → (w3.setCell ⟨w.heap.size + 1, 0, none⟩ (.bool false)).heap[q]? = Wb.heap[q]?) ∧ ((∃ y ∈ pre ++ [x], asks y.1.1 = false) ∧ But (w.heap.size + 1) w2 (w3.setCell ⟨w.heap.size + 1, 0, none⟩ (.bool false)) ∧ Box (w3.setCell ⟨w.heap.size + 1, 0, none⟩ (.bool false)) (w.heap.size + 1) 4 [.bool false])) from fun w3 hb ha => by
        have hb3 := bel_trans hbb hb
        refine ⟨⟨by simp; exact hb.size, fun q h1 h2 => (blk_setCell_other _ _ _ _ (by show q ≠ w.heap.size + 1; omega)).trans (hb.block q h2)⟩, ⟨x, by simp, ha⟩, ⟨hb3.os, hb3.tape, hb3.output, by simp; exact hb3.size, fun q h1 h2 => (blk_setCell_other _ _ _ _ (by exact h2)).trans (hb3.block q h1)⟩, (y2.still hb).set 0 (.bool false)⟩)
      have HXX := (show Hid (∀ w3 : World, Below Wb.heap.size Wb w3 → w3.cell? ⟨W.heap.size, 1, none⟩ = some (.string x.1.1.text) ∧ w3.cell? ⟨w.heap.size + 1, 0, none⟩ = some (.bool false) ∧ w3.frozen? ⟨w.heap.size + 1, 0, none⟩ = false) from fun w3 hb => ⟨(xb.still hb).cell 1 (by simp), (y2.still hb).cell 0 (by simp), (y2.still hb).frozen 0⟩)
      have c0 : Wb.cell? ⟨W.heap.size, 0, none⟩ = some (.string x.1.1.name) := xb.cell 0 (by simp)
      have c1 : Wb.cell? ⟨W.heap.size, 1, none⟩ = some (.string x.1.1.text) := xb.cell 1 (by simp)
      have c2 : Wb.cell? ⟨W.heap.size, 2, none⟩ = some (.bool x.1.1.leaf) := xb.cell 2 (by simp)
      have c3 : Wb.cell? ⟨W.heap.size, 3, none⟩ = some (.slice t1 t2 t3) := xb.cell 3 (by simp)
      clear xb y2 hbb hWb
      cases hvr : vrB x.1.1.name x.1.1.leaf
      · rw [hvr] at HV HASK
        gi_wp2_with (refine ⟨trivial, ?_⟩; gi_at_call 51; refine (CallsIn.inRound _ (callsIn_wide.2 HV.out)).mono ?_; rintro e w3 ⟨rfl, hb3⟩)
        refine ⟨trivial, ?_⟩
        gi_wp2
        exact HG.out w3 hb3 (by rw [HASK.out]; rfl)
      · rw [hvr] at HV HASK
        cases hnm : nmB x.1.1.text
        · rw [hnm] at HN HASK
          gi_wp2_with (first
            | (refine ⟨trivial, ?_⟩; gi_at_call 51; refine (CallsIn.inRound _ (callsIn_wide.2 HV.out)).mono ?_; rintro e w3 ⟨rfl, hb3⟩; obtain ⟨f1, f2, f3⟩ := HXX.out w3 hb3)
            | (refine ⟨trivial, ?_⟩; gi_at_call 52; refine (CallsIn.inRound _ (callsIn_wide.2 (HN.out _))).mono ?_; rintro e w4 ⟨rfl, rfl⟩))
          exact HF.out _ hb3 (by rw [HASK.out]; rfl)
        · rw [hnm] at HN HASK
          gi_wp2_with (first
            | (refine ⟨trivial, ?_⟩; gi_at_call 51; refine (CallsIn.inRound _ (callsIn_wide.2 HV.out)).mono ?_; rintro e w3 ⟨rfl, hb3⟩; obtain ⟨f1, f2, f3⟩ := HXX.out w3 hb3)
            | (refine ⟨trivial, ?_⟩; gi_at_call 52; refine (CallsIn.inRound _ (callsIn_wide.2 (HN.out _))).mono ?_; rintro e w4 ⟨rfl, rfl⟩))
          exact HG.out _ hb3 (by rw [HASK.out]; rfl)
    case hdone =>
      rintro ys W hS ⟨hbW, hall⟩ hD
      have hz := HZV.out
      have hs1 := HS1.out
      have bx : Box W (w.heap.size + 1) 4 [.bool false] := (HX2'.out.still HBV.out).still hbW
      have d0 : W.cell? ⟨w.heap.size + 1, 0, none⟩ = some (.bool false) := bx.cell 0 (by simp)
      have d1 : W.frozen? ⟨w.heap.size + 1, 0, none⟩ = false := bx.frozen 0
      have HE := (show Hid (patB p = true) from (by
        show patB p = true
        rw [HP.out, ← hS, List.all_map]
        exact hall))
      have hD2 : (W.setCell ⟨w.heap.size + 1, 0, none⟩ (.bool true)).heap[w2.heap.size]? = some (.deferred (some [])) := (blk_setCell_other _ _ _ _ (by show w2.heap.size ≠ w.heap.size + 1; omega)).trans hD
      have bx2 := bx.set 0 (.bool true)
      have HFIN := (show Hid (Below w.heap.size w ((W.setCell ⟨w.heap.size + 1, 0, none⟩ (.bool true)).putObj w2.heap.size (.deferred none)) ∧ ((W.setCell ⟨w.heap.size + 1, 0, none⟩ (.bool true)).putObj w2.heap.size (.deferred none)).cell? ⟨w.heap.size + 1, 0, none⟩ = some (.bool true)) from (by
        have hb := bel_trans (bel_trans HB1.out HBV.out) hbW
        refine ⟨(hb.setCell (p := ⟨w.heap.size + 1, 0, none⟩) (by simp) _).grown (grownBy_putObj' _ _ _) (by have := hb.size; simp; omega) (fun k e => by cases e; omega), ?_⟩
        exact (bx2.keep (World.putObj_heap_other (by omega))).cell 0 (by simp)))
      clear bx bx2 hbW hall hS
      go_wp2_with fail
      refine ⟨by simp, .inl ⟨_, _, rfl, run_takeDeferred hD2, ?_⟩⟩
      exact ⟨.bool true, by simp [results, Try.results24, go_sem, HFIN.out.2], by rw [HE.out], HFIN.out.1⟩
    case hstop =>
      rintro ys W ⟨zs, hS⟩ ⟨⟨y, hy1, hy2⟩, hbt, hbx⟩ hD
      have hz := HZV.out
      have hs1 := HS1.out
      have HE := (show Hid (patB p = false) from (by
        show patB p = false
        rw [HP.out, ← hS, List.all_append, List.all_map]
        have : (ys.all (asks ∘ fun y => y.1.1)) = false := List.all_eq_false.2 ⟨y, hy1, by simp [hy2]⟩
        rw [this]
        rfl))
      have HFIN := (show Hid (Below w.heap.size w (W.putObj w2.heap.size (.deferred none)) ∧ (W.putObj w2.heap.size (.deferred none)).cell? ⟨w.heap.size + 1, 0, none⟩ = some (.bool false)) from (by
        have hb := bel_trans HB1.out HBV.out
        have hb2 : Below w.heap.size w W := ⟨hbt.1.trans hb.os, hbt.2.1.trans hb.tape, hbt.2.2.1.trans hb.output, Nat.le_trans hb.size hbt.2.2.2.1, fun q hq => (hbt.2.2.2.2 q (by omega) (by omega)).trans (hb.block q hq)⟩
        refine ⟨hb2.grown (grownBy_putObj' _ _ _) hb2.size (fun k e => by cases e; omega), ?_⟩
        exact (hbx.keep (World.putObj_heap_other (by omega))).cell 0 (by simp)))
      clear hbt hbx hS hy1 hy2
      refine wpIn_wide.2 ?_
      go_wp2_with fail
      refine ⟨by simp, .inl ⟨_, _, rfl, run_takeDeferred hD, ?_⟩⟩
      exact ⟨.bool false, by simp [results, Try.results24, go_sem, HFIN.out.2], by rw [HE.out], HFIN.out.1⟩
end Go.Proofs.Ytbgoikaelmacbaa
