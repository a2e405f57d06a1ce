import Derived.Test.YthmdoplickpmaaiShow
namespace Go.Proofs.Ythmdoplickpmaai
open Go.RowKit Go.Deep Go.Lib
set_option linter.unusedVariables false
set_option maxRecDepth 100000
set_option linter.unusedSimpArgs false

/-- A text in quotes. -/
def quo (l : List UInt8) : List UInt8 := 34 :: (l.flatMap shB ++ [34])
theorem flat_take (l : List UInt8) (j : Nat) (h : j < l.length) : (l.take (j + 1)).flatMap shB = (l.take j).flatMap shB ++ shB l[j] := by
  rw [List.take_succ_eq_append_getElem h, List.flatMap_append]
  simp only [List.flatMap_cons, List.flatMap_nil, List.append_nil]
theorem flat_len (l : List UInt8) : (l.flatMap shB).length ≤ 4 * l.length := by
  induction l with
  | nil => simp
  | cons c r ih =>
    have := (shB_len c).2
    rw [List.flatMap_cons, List.length_append, List.length_cons]
    omega
theorem quo_len (l : List UInt8) : (quo l).length ≤ 4 * l.length + 2 := by
  unfold quo
  have := flat_len l
  rw [List.length_cons, List.length_append, List.length_singleton]
  omega

/-- Where a call that appends stands: so much is written; its box of two cells is there. -/
def St (B : Nat) (w : World) (n : Nat) (xs : List Value) (g : Nat) (c0 c1 : Value) (T : TypeId) (l : List UInt8) (o : Value) (wr : World) : Prop :=
  wr.ownsRow B 5 1 o (n + l.length) (xs ++ bc l) ∧ Below B w wr ∧ NB w wr ∧ B ≤ wr.heap.size ∧ wr.heap[g]? = some (.cells #[c0, c1] T (0, 0))

theorem St.cells {B n g : Nat} {w wr : World} {xs : List Value} {c0 c1 o : Value} {T : TypeId} {l : List UInt8} (h : St B w n xs g c0 c1 T l o wr) : wr.cell? ⟨g, 0, none⟩ = some c0 ∧ wr.cell? ⟨g, 1, none⟩ = some c1 := by
  have hb := h.2.2.2.2
  exact ⟨by rw [cell_of_row wr g 0 _ _ _ hb]; rfl, by rw [cell_of_row wr g 1 _ _ _ hb]; rfl⟩
/-- One more call, one more append. -/
theorem St.wrote {B n g : Nat} {w wr w' : World} {xs : List Value} {c0 c1 o : Value} {T : TypeId} {l l' : List UInt8} (hT : T ≠ 5) (h : St B w n xs g c0 c1 T l o wr) {e : Ending} (hw : WroteK B wr (n + l.length) (xs ++ bc l) l' e w') :
    ∃ o', e = .returned o' ∧ St B w n xs g c0 c1 T (l ++ l') o' w' := by
  obtain ⟨⟨o', rfl, hown, hb⟩, hN⟩ := hw
  refine ⟨o', rfl, ?_, h.2.1.trans hb, h.2.2.1.trans hN, Nat.le_trans h.2.2.2.1 hb.size, hN.box h.2.2.2.2 hT⟩
  rw [List.length_append, bc_append, ← Nat.add_assoc, ← List.append_assoc]
  exact hown
theorem St.alloc {B n g : Nat} {w wr : World} {xs : List Value} {c0 c1 o : Value} {T : TypeId} {l : List UInt8} (h : St B w n xs g c0 c1 T l o wr) (ob : Obj) : St B w n xs g c0 c1 T l o (wr.alloc ob) := by
  have hlt : g < wr.heap.size := by
    obtain ⟨hlt, _⟩ := Array.getElem?_eq_some_iff.1 h.2.2.2.2
    exact hlt
  exact ⟨h.1.alloc ob, h.2.1.trans ((bel_alloc wr ob).mono h.2.2.2.1), h.2.2.1.trans (NB.of_below (bel_alloc wr ob)), by have := h.2.2.2.1; simp; omega, by rw [blk_alloc_lt _ _ _ hlt]; exact h.2.2.2.2⟩
theorem St.grown {B n g : Nat} {w wr w' : World} {xs : List Value} {c0 c1 o o' : Value} {T : TypeId} {l l' : List UInt8} (hT : T ≠ 5) (h : St B w n xs g c0 c1 T l o wr) (hown : w'.ownsRow B 5 1 o' (n + l.length + l'.length) (xs ++ bc l ++ bc l')) (hgr : wr.grownBy w' o.ownBlock) : St B w n xs g c0 c1 T (l ++ l') o' w' := by
  have hN := NB.grown h.1 hgr
  refine ⟨?_, h.2.1.grown hgr h.2.2.2.1 (fun k hk => (h.1.lt k hk).1), h.2.2.1.trans hN, Nat.le_trans h.2.2.2.1 hgr.size, hN.box h.2.2.2.2 hT⟩
  rw [List.length_append, bc_append, ← Nat.add_assoc, ← List.append_assoc]
  exact hown
theorem St.start {B n : Nat} {w : World} {xs : List Value} {o : Value} (hB : B ≤ w.heap.size) (hown : w.ownsRow B 5 1 o n xs) (c0 c1 : Value) (T : TypeId) : St B w n xs w.heap.size c0 c1 T [] o (w.alloc (.cells #[c0, c1] T)) :=
  ⟨by simpa [bc] using hown.alloc _, (bel_alloc _ _).mono hB, NB.of_below (bel_alloc _ _), by simp; omega, blk_alloc_new _ _⟩
theorem St.out {B n g : Nat} {w wr : World} {xs : List Value} {c0 c1 o : Value} {T : TypeId} {l : List UInt8} (h : St B w n xs g c0 c1 T l o wr) : WroteK B w n xs l (.returned o) wr := ⟨⟨o, rfl, h.1, h.2.1⟩, h.2.2.1⟩
theorem St.slice {B n g : Nat} {w wr : World} {xs : List Value} {c0 c1 o : Value} {T : TypeId} {l : List UInt8} (h : St B w n xs g c0 c1 T l o wr) : ∃ a m c, o = .slice a m c := by
  obtain ⟨a, c, h⟩ := own_slice h.1
  exact ⟨a, _, c, h⟩

set_option maxHeartbeats 1600000 in
theorem leafShow (B : Nat) (nm x : ByteArray) (v : Value) (n : Nat) (xs : List Value) (w : World) (hB : B ≤ w.heap.size) (hown : w.ownsRow B 5 1 v n xs) (hn : n + nm.size + 4 * x.size + 2 ≤ 16777216) :
    Calls Try.prog 125 #[.agg #[.string nm, .string x], v] w fun e w' => WroteK B w n xs (nm.data.toList ++ quo x.data.toList) e w' := by
  obtain ⟨i5, hi5, hz0, hz1, hz2⟩ := info_parts info5
  obtain ⟨a0, c0, rfl⟩ := own_slice hown
  have hst := St.start hB hown (.string nm) (.string x) 83
  have HO := (show Hid _ from hown.alloc (.cells #[.string nm, .string x] 83))
  clear hown
  have H0 := (show Hid _ from hst); clear hst
  go_enter Try.func125, Try.ntmps125
  go_wp2_with (at_builtin; refine wpList_append_own_string (w := _) rfl (.tmp 6) (.tmp 8) 65 9 rfl B 5 i5 Try.underlying65 Try.underlying9 hi5 hz0 hz1 hz2 _ n xs rfl HO.out nm rfl ?c1 ?c2 ?c3 ?nx)
  case c1 => unfold maxLen; omega
  case c2 => omega
  case c3 => first | omega | (simp; omega)
  case nx =>
    intro v1 w1 hown1 hgr1 _
    have hst1 : St B w n xs w.heap.size (.string nm) (.string x) 83 nm.data.toList v1 w1 := by
      have := St.grown (l' := nm.data.toList) (by decide) H0.out (by simpa [bc, strCells] using hown1) hgr1
      simpa using this
    obtain ⟨a1, m1, c1, rfl⟩ := hst1.slice
    have H1 := (show Hid _ from hst1); clear hst1 hown1 hgr1
    have hnl : nm.data.toList.length = nm.size := rfl
    have hxl : x.data.toList.length = x.size := rfl
    have HO1 := (show Hid _ from (St.alloc H1.out (.cells #[.int .u8 34] 5)).1)
    go_wp2_with (at_builtin; refine wpList_append_own _ rfl (.tmp 10) (.tmp 11) 65 rfl B 5 i5 (.int .u8 0) 1 1 Try.underlying65 hi5 hz0 hz1 hz2 rfl (by decide) _ _ _ rfl HO1.out ⟨w1.heap.size, 0, none⟩ 1 1 [.int .u8 34] rfl rfl (cells_box _ _ _) (by intro u hu; simp at hu; subst hu; rfl) ?d1 ?d2 ?d3 ?nx)
    case d1 => unfold maxLen; omega
    case d2 => omega
    case d3 => have := H1.out.2.2.2.1; simp; omega
    case nx =>
      intro v2 w2 hown2 hgr2 _
      have hst2 : St B w n xs w.heap.size (.string nm) (.string x) 83 (nm.data.toList ++ [34]) v2 w2 :=
        St.grown (l' := [34]) (by decide) (St.alloc H1.out _) (by simpa [bc] using hown2) hgr2
      obtain ⟨a2, m2, c2, rfl⟩ := hst2.slice
      have H2 := (show Hid _ from hst2); clear hst2 hown2 hgr2
      go_wp2_with fail
      go_loopw [1, 5] (fun o i wr => ∃ j : Nat, j ≤ x.size ∧ i = .int .i64 j ∧ (∃ a m c, o = .slice a m c) ∧ Hid (St B w n xs w.heap.size (.string nm) (.string x) 83 (nm.data.toList ++ 34 :: (x.data.toList.take j).flatMap shB) o wr) ∧ wr.cell? ⟨w.heap.size, 1, none⟩ = some (.string x)) (fun _ i _ => x.size - (intOf i).toNat)
      case atStart =>
        have e0 : nm.data.toList ++ 34 :: (x.data.toList.take 0).flatMap shB = nm.data.toList ++ [34] := by simp
        exact ⟨0, Nat.zero_le _, rfl, ⟨a2, m2, c2, rfl⟩, by rw [e0]; exact H2.out, (St.cells H2.out).2⟩
      case round =>
        obtain ⟨j, hj, rfl, ⟨a3, m3, c3, rfl⟩, HS, cT⟩ := hrel
        have hfl := flat_len (x.data.toList.take j)
        have htl : (x.data.toList.take j).length ≤ j := List.length_take_le _ _
        have hLl : (nm.data.toList ++ 34 :: (x.data.toList.take j).flatMap shB).length ≤ nm.size + 1 + 4 * j := by
          rw [List.length_append, List.length_cons]; omega
        by_cases hlt : j < x.size
        · have hcl := showByte_any B x[j] _ _ _ wr HS.out.2.2.2.1 HS.out.1 (by omega)
          have HCL := (show Hid _ from hcl); clear hcl
          have hft := flat_take x.data.toList j (by rw [hxl]; exact hlt)
          have hxj : x.data.toList[j]'(by rw [hxl]; exact hlt) = x[j] := rfl
          rw [hxj] at hft
          have HF := (show Hid _ from hft); clear hft hxj
          generalize hL : (nm.data.toList ++ 34 :: (x.data.toList.take j).flatMap shB) = L at *
          have HLL := (show Hid _ from hL); clear hL
          go_wp2_with fail
          refine Calls.mono HCL.out ?_
          rintro e w3 hw3
          obtain ⟨o', rfl, hst3⟩ := St.wrote (by decide) HS.out hw3
          have eL : L ++ shB x[j] = nm.data.toList ++ 34 :: (x.data.toList.take (j + 1)).flatMap shB := by rw [← HLL.out, HF.out]; simp
          rw [eL] at hst3
          obtain ⟨a4, m4, c4, rfl⟩ := hst3.slice
          have cT3 := (hst3.cells).2
          have H3 := (show Hid _ from hst3); clear hst3 hw3 eL
          go_wp2_with fail
          exact ⟨⟨j + 1, by omega, by go_num, ⟨a4, m4, c4, rfl⟩, H3, cT3⟩, by simp [intOf]; omega⟩
        · have hje : j = x.size := by omega
          have hst4 := HS.out
          have eL : nm.data.toList ++ 34 :: (x.data.toList.take j).flatMap shB = nm.data.toList ++ 34 :: x.data.toList.flatMap shB := by rw [List.take_of_length_le (by omega)]
          have hq : nm.data.toList ++ quo x.data.toList = (nm.data.toList ++ 34 :: x.data.toList.flatMap shB) ++ [34] := by unfold quo; simp
          rw [eL] at hst4
          rw [eL] at hLl
          have HQ := (show Hid _ from hq); clear hq eL
          have H4 := (show Hid _ from hst4); clear hst4 HS
          have HO4 := (show Hid _ from (St.alloc H4.out (.cells #[.int .u8 34] 5)).1)
          generalize hL : (nm.data.toList ++ 34 :: x.data.toList.flatMap shB) = L at *
          clear hL
          go_wp2_with (at_builtin; refine wpList_append_own _ rfl (.tmp 26) (.tmp 27) 65 rfl B 5 i5 (.int .u8 0) 1 1 Try.underlying65 hi5 hz0 hz1 hz2 rfl (by decide) _ _ _ rfl HO4.out ⟨wr.heap.size, 0, none⟩ 1 1 [.int .u8 34] rfl rfl (cells_box _ _ _) (by intro u hu; simp at hu; subst hu; rfl) ?e1 ?e2 ?e3 ?nx)
          case e1 => unfold maxLen; omega
          case e2 => omega
          case e3 => have := H4.out.2.2.2.1; simp; omega
          case nx =>
            intro v5 w5 hown5 hgr5 _
            have hst5 : St B w n xs w.heap.size (.string nm) (.string x) 83 (L ++ [34]) v5 w5 :=
              St.grown (l' := [34]) (by decide) (St.alloc H4.out _) (by simpa [bc] using hown5) hgr5
            obtain ⟨a5, m5, c5, rfl⟩ := hst5.slice
            have H5 := (show Hid _ from hst5); clear hst5 hown5 hgr5
            go_wp2_with fail
            go_ret
            have := St.out H5.out
            rw [HQ.out]
            exact this
end Go.Proofs.Ythmdoplickpmaai
