import Derived.Test.YtgjnlhidbjpdkajGreatS6
/-! The specification's l03SayRule: a rule, shown. -/
namespace Go.Proofs.YtgjnlhidbjpdkajGreat
open Go.RowKit Go.Deep
set_option linter.unusedVariables false
set_option maxRecDepth 100000
set_option linter.unusedSimpArgs false

/-- A label's words. -/
def labG (lb : ByteArray) : List ByteArray := if lb.size = 0 then [] else [⟨#[35]⟩, lb]
/-- An alternative's words. -/
def altG (say : Int → ByteArray) (a : DGAlt) : List ByteArray := a.items.map say ++ labG a.label
theorem cells_box (w : World) (cs : List Value) (T : TypeId) : ∀ j x, cs[j]? = some x → (w.alloc (.cells cs.toArray T)).cell? ((⟨w.heap.size, 0, none⟩ : Addr).add j) = some x := by
  intro j x h
  rw [WideShapes.add_plain, Nat.zero_add, World.cell?_alloc_at cs.toArray T w.heap.size j rfl]
  simpa using h
theorem own_made2 (w : World) (T : Nat) (a b : Value) : (w.alloc (.cells #[a, b] T)).ownsRow w.heap.size T 1 (.slice (some ⟨w.heap.size, 0, none⟩) 2 2) 2 [a, b] :=
  ⟨rfl, .inr ⟨w.heap.size, 2, #[a, b], rfl, Nat.le_refl _, blk_alloc_new _ _, Nat.le_refl _, by unfold maxLen; omega, rfl, rfl⟩⟩

set_option maxHeartbeats 6400000 in
theorem sayRule_step {S : Nat → Prop} (say : Int → ByteArray) (nm : ByteArray) (a1 a2 a3 a4 : Option Addr) (n1 p1 n2 p2 n3 p3 n4 p4 : Nat) (r : DGRule) (v : Value) (w : World) (hA : GAltR w S r.alts v) (hW : wsz (r.name :: ⟨#[61]⟩ :: bars (altG say) r.alts) ≤ 2199023255552)
    (hsay : ∀ (k : Nat) (hk : k < r.alts.length) (w' : World) (v' : Value), Below w.heap.size w w' → Ints w' S r.alts[k].items v' → Calls Tryz.prog 36 #[.agg #[.string nm, .slice a1 n1 p1, .slice a2 n2 p2, .slice a3 n3 p3, .slice a4 n4 p4], v'] w' fun e w'' => ∃ g c, e = .returned (.slice (some ⟨g, 0, none⟩) r.alts[k].items.length c) ∧ Below w'.heap.size w' w'' ∧ w''.ownsRow w'.heap.size 9 1 (.slice (some ⟨g, 0, none⟩) r.alts[k].items.length c) r.alts[k].items.length (sc (r.alts[k].items.map say))) :
    Calls Tryz.prog 15 #[.agg #[.string nm, .slice a1 n1 p1, .slice a2 n2 p2, .slice a3 n3 p3, .slice a4 n4 p4], .agg #[.string r.name, v]] w fun e w' => e = .returned (.string (jn (r.name :: ⟨#[61]⟩ :: bars (altG say) r.alts) ++ ⟨#[59, 10]⟩)) ∧ Below w.heap.size w w' := by
  obtain ⟨aa, ca, ba, oa, s0, rfl, hc, hm, ha, hcell, hin⟩ := hA
  have HC := (show Hid _ from hcell); clear hcell
  have HI := (show Hid _ from hin); clear hin
  have HS := (show Hid _ from hsay); clear hsay
  unfold maxLen at hm
  obtain ⟨i9, hi9, hzz⟩ := Option.map_eq_some_iff.1 info9s
  simp only [Prod.mk.injEq] at hzz
  obtain ⟨hz0, hz1, hz2⟩ := hzz
  have HB0 := (show Hid _ from Box.new w 36 [.string nm, .slice a1 n1 p1, .slice a2 n2 p2, .slice a3 n3 p3, .slice a4 n4 p4])
  have HB1 := (show Hid _ from Box.new (w.alloc (.cells #[.string nm, .slice a1 n1 p1, .slice a2 n2 p2, .slice a3 n3 p3, .slice a4 n4 p4] 36)) 54 [.string r.name, .slice aa r.alts.length ca])
  rw [World.size_alloc] at HB1
  go_enter Tryz.func15, Tryz.ntmps15
  go_wp2_with fail
  go_loopw [5, 6] (fun u i wr => ∃ (j : Nat) (dn : List ByteArray) (a' : Option Addr) (c' : Nat), u = .slice a' dn.length c' ∧ i = .int .i64 j ∧ j ≤ r.alts.length ∧ Hid (Below w.heap.size w wr ∧ Box wr w.heap.size 36 [.string nm, .slice a1 n1 p1, .slice a2 n2 p2, .slice a3 n3 p3, .slice a4 n4 p4] ∧ Box wr (w.heap.size + 1) 54 [.string r.name, .slice aa r.alts.length ca] ∧ wr.ownsRow (w.heap.size + 2) 9 1 (.slice a' dn.length c') dn.length (sc dn) ∧ dn ++ bark (altG say) r.alts j = r.name :: ⟨#[61]⟩ :: bars (altG say) r.alts)) (fun _ i _ => r.alts.length - (intOf i).toNat)
  case atStart =>
    refine ⟨0, [r.name, ⟨#[61]⟩], _, _, rfl, rfl, Nat.zero_le _, bel3 _ _ _ _, (HB0.out.still (bel_alloc _ _)).still (bel_alloc _ _), HB1.out.still (bel_alloc _ _), ?_, rfl⟩
    have h := own_made2 ((w.alloc (.cells #[.string nm, .slice a1 n1 p1, .slice a2 n2 p2, .slice a3 n3 p3, .slice a4 n4 p4] 36)).alloc (.cells #[.string r.name, .slice aa r.alts.length ca] 54)) 9 (.string r.name) (.string ⟨#[61]⟩)
    simp only [World.size_alloc] at h
    simpa [sc] using h
  case round =>
    obtain ⟨j, d0, a', c', rfl, rfl, hj, HR⟩ := hrel
    have Q1 : wr.cell? ⟨w.heap.size + 1, 1, none⟩ = some (.slice aa r.alts.length ca) := HR.out.2.2.1.cell 1 (by simp)
    by_cases hlt : j < r.alts.length
    · have hlt' := hlt
      obtain ⟨rfl, _⟩ := ha (by omega)
      by_cases h0 : 0 < j
      · have h02 : decide ((0 : Int) < j) = true := by simp; omega
        have hd0 : d0.length + 1 ≤ 4398046511104 := by
          have h1 := len_wsz (r.name :: ⟨#[61]⟩ :: bars (altG say) r.alts)
          rw [← HR.out.2.2.2.2, bark_next hlt' h0, List.length_append, List.length_cons] at h1
          rw [← bark_next hlt' h0, HR.out.2.2.2.2] at h1
          omega
        have HO1 := (show Hid _ from own_still HR.out.2.2.2.1 (bel_alloc wr (.cells #[.string ⟨#[124]⟩] 9)))
        have hwz0 : w.heap.size + 2 ≤ wr.heap.size := HR.out.2.2.1.lt
        go_wp2_with (at_builtin; refine wpList_append_lies _ rfl (.tmp 19) (.tmp 20) 47 rfl (w.heap.size + 2) 9 i9 _ 1 16 Tryz.underlying47 hi9 hz0 hz1 hz2 rfl (by decide) _ d0.length (sc d0) rfl HO1.out ⟨wr.heap.size, 0, none⟩ 1 1 [.string ⟨#[124]⟩] rfl rfl (cell_one_box _ _ _) (by intro u hu; simp at hu; subst hu; rfl) (by decide) ?c1 ?c2 ?c3 _ rfl ?nx)
        case c1 => unfold maxLen; omega
        case c2 => omega
        case c3 => first | omega | (simp; omega)
        case nx =>
          intro g2 cap2 U hown2 hgr2 hat2 hlt2
          have hbU : Below w.heap.size w U := ((bel_trans HR.out.1 (bel_alloc wr (.cells #[.string ⟨#[124]⟩] 9))).grown hgr2 (by have := HR.out.1.size; simp; omega) (fun q hq => by
            have := (World.ownsRow.lt HR.out.2.2.2.1 q hq).1
            omega))
          have hxU : Box U w.heap.size 36 [.string nm, .slice a1 n1 p1, .slice a2 n2 p2, .slice a3 n3 p3, .slice a4 n4 p4] := (Box.still HR.out.2.1 (bel_alloc _ _)).keep (hgr2.block _ (by simp; omega) (fun e => by have := (World.ownsRow.lt HR.out.2.2.2.1 _ e.symm).1; omega))
          have hyU : Box U (w.heap.size + 1) 54 [.string r.name, .slice (some ⟨ba, oa, none⟩) r.alts.length ca] := (Box.still HR.out.2.2.1 (bel_alloc _ _)).keep (hgr2.block _ (by simp; omega) (fun e => by have := (World.ownsRow.lt HR.out.2.2.2.1 _ e.symm).1; omega))
          have hmU : (d0 ++ [ByteArray.mk #[124]]) ++ (altG say r.alts[j] ++ bark (altG say) r.alts (j + 1)) = r.name :: ⟨#[61]⟩ :: bars (altG say) r.alts := by
            rw [← HR.out.2.2.2.2, bark_next hlt' h0, List.append_assoc]; rfl
          have hoU : U.ownsRow (w.heap.size + 2) 9 1 (.slice (some ⟨g2, 0, none⟩) (d0 ++ [ByteArray.mk #[124]]).length cap2) (d0 ++ [ByteArray.mk #[124]]).length (sc (d0 ++ [ByteArray.mk #[124]])) := by
            rw [sc_append, List.length_append]; exact hown2
          have hlU : d0.length + 1 = (d0 ++ [ByteArray.mk #[124]]).length := by simp
          have HU := (show Hid _ from (⟨hbU, hxU, hyU, hoU, hmU⟩ : _ ∧ _ ∧ _ ∧ _ ∧ _))
          clear hbU hxU hyU hoU hmU hown2 hgr2 hat2 HO1 HR hd0 Q1
          rw [hlU]
          clear hlU
          generalize d0 ++ [ByteArray.mk #[124]] = dn at *
          obtain ⟨si, ci', ei, mi⟩ := (HI.out j hlt').form
          obtain ⟨c0, c1, z1⟩ := (HC.out j hlt')
          have l0 := lt_of_cell c1
          have HL := (show Hid _ from (⟨c1, lt_of_cell c1⟩ : _ ∧ _))
          rw [ei] at c0
          rw [← HU.out.1.cell (lt_of_cell c0)] at c0
          have T0 : U.cell? ⟨w.heap.size, 0, none⟩ = some (.string nm) := HU.out.2.1.cell 0 (by simp)
          have T1 : U.cell? ⟨w.heap.size, 1, none⟩ = some (.slice a1 n1 p1) := HU.out.2.1.cell 1 (by simp)
          have T2 : U.cell? ⟨w.heap.size, 2, none⟩ = some (.slice a2 n2 p2) := HU.out.2.1.cell 2 (by simp)
          have T3 : U.cell? ⟨w.heap.size, 3, none⟩ = some (.slice a3 n3 p3) := HU.out.2.1.cell 3 (by simp)
          have T4 : U.cell? ⟨w.heap.size, 4, none⟩ = some (.slice a4 n4 p4) := HU.out.2.1.cell 4 (by simp)
          have R1 : U.cell? ⟨w.heap.size + 1, 1, none⟩ = some (.slice (some ⟨ba, oa, none⟩) r.alts.length ca) := HU.out.2.2.1.cell 1 (by simp)
          have hdr := (Below.refl U.heap.size U).drew
          have hwz : w.heap.size + 2 ≤ U.heap.size := HU.out.2.2.1.lt
          have hcl := HS.out j hlt' U.drew (s0 j) HU.out.1.drew ((HI.out j hlt').still HU.out.1.drew)
          rw [ei] at hcl
          have HCL := (show Hid _ from hcl); clear hcl ei c1
          have hln : dn.length + r.alts[j].items.length + 2 ≤ 4398046511104 := by
            have h1 := len_wsz (r.name :: ⟨#[61]⟩ :: bars (altG say) r.alts)
            have h2 := congrArg List.length HU.out.2.2.2.2
            simp only [List.length_append, altG, List.length_map] at h2
            omega
          have HN0 := (show Hid _ from HU.out.2.2.2.2)
          have hgl : (sc (r.alts[j].items.map say)).length = r.alts[j].items.length * 1 := by simp [sc]
          have hal : (dn ++ r.alts[j].items.map say).length = dn.length + r.alts[j].items.length := by simp
          have hsc : sc (dn ++ r.alts[j].items.map say) = sc dn ++ sc (r.alts[j].items.map say) := sc_append _ _
          have haG : altG say r.alts[j] = r.alts[j].items.map say ++ labG r.alts[j].label := rfl
          rw [haG] at HN0
          clear haG
          have hEm := isEmpty_iff r.alts[j].label
          generalize r.alts[j].items.map say = gm at *
          generalize r.alts[j].items.length = gn at *
          generalize r.alts[j].label = lb at *
          go_wp2_with fail
          go_region_law (first
            | (refine step_append_at _ rfl (.tmp 22) (.tmp 30) 47 rfl (w.heap.size + 2) 9 i9 _ 1 16 Tryz.underlying47 hi9 hz0 hz1 hz2 rfl (by decide) _ dn.length _ (by simp [Act.eval, Act.put]) HO2.out ⟨g1, 0, none⟩ gn c1 (sc gm) (by simp [Act.eval, Act.put]) hgl (own_cells hw1) (sc_one _) (by unfold maxLen; omega) (by omega) (by omega) ?_; intro q3 cap3 w3 hown3 hgr3)
            | (go_simp; go_at_call 36; refine Calls.mono HCL.out ?_; rintro e w1 ⟨g1, c1, rfl, hb1, hw1⟩; have hbA := hdr.trans (hb1.mono (Nat.le_refl _)); have hs1 : U.heap.size ≤ w1.heap.size := hbA.size; have HO2 := (show Hid _ from own_still HU.out.2.2.2.1 hbA)))
          all_goals
            have hb3 : Below w.heap.size w w3 := ((bel_trans HU.out.1 hbA).grown hgr3 (by have := HU.out.1.size; omega) (fun q hq => by
              have := (World.ownsRow.lt HU.out.2.2.2.1 q hq).1
              omega))
            have hx3 : Box w3 w.heap.size 36 [.string nm, .slice a1 n1 p1, .slice a2 n2 p2, .slice a3 n3 p3, .slice a4 n4 p4] := (Box.still HU.out.2.1 hbA).keep (hgr3.block _ (by omega) (fun e => by have := (World.ownsRow.lt HU.out.2.2.2.1 _ e.symm).1; omega))
            have hy3 : Box w3 (w.heap.size + 1) 54 [.string r.name, .slice (some ⟨ba, oa, none⟩) r.alts.length ca] := (Box.still HU.out.2.2.1 hbA).keep (hgr3.block _ (by omega) (fun e => by have := (World.ownsRow.lt HU.out.2.2.2.1 _ e.symm).1; omega))
            rw [← hsc, ← hal] at hown3
            have R3 : w3.cell? ⟨w.heap.size + 1, 1, none⟩ = some (.slice (some ⟨ba, oa, none⟩) r.alts.length ca) := hy3.cell 1 (by simp)
            have hlb := HL.out.1
            rw [← hb3.cell HL.out.2] at hlb
            rw [← List.append_assoc, ← List.append_assoc] at HN0
            rw [← hal]
            have hz3 : w.heap.size + 2 ≤ w3.heap.size := hy3.lt
            have HN := (show Hid _ from (⟨hb3, hx3, hy3, hown3⟩ : _ ∧ _ ∧ _ ∧ _))
            clear hb3 hx3 hy3 hown3 hgr3 T0 T1 T2 T3 T4 c0 HO2 R1 hsc
            have hel : (dn ++ gm).length + 2 ≤ 4398046511104 := by rw [hal]; exact hln
            clear hal
            generalize dn ++ gm = em at *
            by_cases hl0 : lb.size = 0
            · rw [decide_eq_true hl0] at hEm
              have hlab : labG lb = [] := if_pos hl0
              rw [hlab, List.append_nil] at HN0
              have HM := (show Hid _ from (⟨HN.out.1, HN.out.2.1, HN.out.2.2.1, HN.out.2.2.2, HN0.out⟩ : _ ∧ _ ∧ _ ∧ _ ∧ _))
              clear HN HN0
              go_wp2_with fail
              exact ⟨⟨j + 1, _, _, _, by rfl, by go_num, by omega, HM⟩, by simp [intOf]; omega⟩
            · rw [decide_eq_false hl0] at hEm
              have hlab : labG lb = [⟨#[35]⟩, lb] := if_neg hl0
              rw [hlab] at HN0
              have HO3 := (show Hid _ from own_still HN.out.2.2.2 (bel_alloc w3 (.cells #[.string ⟨#[35]⟩, .string lb] 9)))
              go_wp2_with (at_builtin; refine wpList_append_lies _ rfl (.tmp 39) (.tmp 46) 47 rfl (w.heap.size + 2) 9 i9 _ 1 16 Tryz.underlying47 hi9 hz0 hz1 hz2 rfl (by decide) _ em.length (sc em) rfl HO3.out ⟨w3.heap.size, 0, none⟩ 2 2 [.string ⟨#[35]⟩, .string lb] rfl rfl (cells_box _ _ _) (by intro u hu; simp at hu; rcases hu with rfl | rfl <;> rfl) (by decide) ?c1 ?c2 ?c3 _ rfl ?nx)
              case c1 => unfold maxLen; omega
              case c2 => omega
              case c3 => first | omega | (simp; omega)
              case nx =>
                intro g4 cap4 w4 hown4 hgr4 hat4 hlt4
                have hb4 : Below w.heap.size w w4 := ((bel_trans HN.out.1 (bel_alloc w3 (.cells #[.string ⟨#[35]⟩, .string lb] 9))).grown hgr4 (by have := HN.out.1.size; simp; omega) (fun q hq => by
                  have := (World.ownsRow.lt HN.out.2.2.2 q hq).1
                  omega))
                have hx4 : Box w4 w.heap.size 36 [.string nm, .slice a1 n1 p1, .slice a2 n2 p2, .slice a3 n3 p3, .slice a4 n4 p4] := (Box.still HN.out.2.1 (bel_alloc _ _)).keep (hgr4.block _ (by simp; omega) (fun e => by have := (World.ownsRow.lt HN.out.2.2.2 _ e.symm).1; omega))
                have hy4 : Box w4 (w.heap.size + 1) 54 [.string r.name, .slice (some ⟨ba, oa, none⟩) r.alts.length ca] := (Box.still HN.out.2.2.1 (bel_alloc _ _)).keep (hgr4.block _ (by simp; omega) (fun e => by have := (World.ownsRow.lt HN.out.2.2.2 _ e.symm).1; omega))
                have ho4 : w4.ownsRow (w.heap.size + 2) 9 1 (.slice (some ⟨g4, 0, none⟩) (em ++ [ByteArray.mk #[35], lb]).length cap4) (em ++ [ByteArray.mk #[35], lb]).length (sc (em ++ [ByteArray.mk #[35], lb])) := by
                  rw [sc_append, List.length_append]; exact hown4
                have hl4 : em.length + 2 = (em ++ [ByteArray.mk #[35], lb]).length := by simp
                have HM := (show Hid _ from (⟨hb4, hx4, hy4, ho4, HN0.out⟩ : _ ∧ _ ∧ _ ∧ _ ∧ _))
                clear hb4 hx4 hy4 ho4 hown4 hgr4 hat4 HN HN0 HO3
                rw [hl4]
                go_wp2_with fail
                exact ⟨⟨j + 1, _, _, _, by rfl, by go_num, by omega, HM⟩, by simp [intOf]; omega⟩
      · obtain rfl : j = 0 := by omega
        have HU := (show Hid _ from (⟨HR.out.1, HR.out.2.1, HR.out.2.2.1, HR.out.2.2.2.1, by rw [← bark_first hlt']; exact HR.out.2.2.2.2⟩ : Below w.heap.size w wr ∧ Box wr w.heap.size 36 [.string nm, .slice a1 n1 p1, .slice a2 n2 p2, .slice a3 n3 p3, .slice a4 n4 p4] ∧ Box wr (w.heap.size + 1) 54 [.string r.name, .slice (some ⟨ba, oa, none⟩) r.alts.length ca] ∧ wr.ownsRow (w.heap.size + 2) 9 1 (.slice a' d0.length c') d0.length (sc d0) ∧ d0 ++ (altG say r.alts[0] ++ bark (altG say) r.alts (0 + 1)) = r.name :: ⟨#[61]⟩ :: bars (altG say) r.alts))
        clear HR Q1
        obtain ⟨si, ci', ei, mi⟩ := (HI.out 0 hlt').form
        obtain ⟨c0, c1, z1⟩ := (HC.out 0 hlt')
        have l0 := lt_of_cell c1
        have HL := (show Hid _ from (⟨c1, lt_of_cell c1⟩ : _ ∧ _))
        rw [ei, Nat.zero_mul, Nat.add_zero] at c0
        rw [← HU.out.1.cell (lt_of_cell c0)] at c0
        have T0 : wr.cell? ⟨w.heap.size, 0, none⟩ = some (.string nm) := HU.out.2.1.cell 0 (by simp)
        have T1 : wr.cell? ⟨w.heap.size, 1, none⟩ = some (.slice a1 n1 p1) := HU.out.2.1.cell 1 (by simp)
        have T2 : wr.cell? ⟨w.heap.size, 2, none⟩ = some (.slice a2 n2 p2) := HU.out.2.1.cell 2 (by simp)
        have T3 : wr.cell? ⟨w.heap.size, 3, none⟩ = some (.slice a3 n3 p3) := HU.out.2.1.cell 3 (by simp)
        have T4 : wr.cell? ⟨w.heap.size, 4, none⟩ = some (.slice a4 n4 p4) := HU.out.2.1.cell 4 (by simp)
        have R1 : wr.cell? ⟨w.heap.size + 1, 1, none⟩ = some (.slice (some ⟨ba, oa, none⟩) r.alts.length ca) := HU.out.2.2.1.cell 1 (by simp)
        have hdr := (Below.refl wr.heap.size wr).drew
        have hwz : w.heap.size + 2 ≤ wr.heap.size := HU.out.2.2.1.lt
        have hcl := HS.out 0 hlt' wr.drew (s0 0) HU.out.1.drew ((HI.out 0 hlt').still HU.out.1.drew)
        rw [ei] at hcl
        have HCL := (show Hid _ from hcl); clear hcl ei c1
        have hln : d0.length + r.alts[0].items.length + 2 ≤ 4398046511104 := by
          have h1 := len_wsz (r.name :: ⟨#[61]⟩ :: bars (altG say) r.alts)
          have h2 := congrArg List.length HU.out.2.2.2.2
          simp only [List.length_append, altG, List.length_map] at h2
          omega
        have HN0 := (show Hid _ from HU.out.2.2.2.2)
        have hgl : (sc (r.alts[0].items.map say)).length = r.alts[0].items.length * 1 := by simp [sc]
        have hal : (d0 ++ r.alts[0].items.map say).length = d0.length + r.alts[0].items.length := by simp
        have hsc : sc (d0 ++ r.alts[0].items.map say) = sc d0 ++ sc (r.alts[0].items.map say) := sc_append _ _
        have haG : altG say r.alts[0] = r.alts[0].items.map say ++ labG r.alts[0].label := rfl
        rw [haG] at HN0
        clear haG
        have hEm := isEmpty_iff r.alts[0].label
        generalize r.alts[0].items.map say = gm at *
        generalize r.alts[0].items.length = gn at *
        generalize r.alts[0].label = lb at *
        go_wp2_with fail
        go_region_law (first
          | (refine step_append_at _ rfl (.tmp 22) (.tmp 30) 47 rfl (w.heap.size + 2) 9 i9 _ 1 16 Tryz.underlying47 hi9 hz0 hz1 hz2 rfl (by decide) _ d0.length _ (by simp [Act.eval, Act.put]) HO2.out ⟨g1, 0, none⟩ gn c1 (sc gm) (by simp [Act.eval, Act.put]) hgl (own_cells hw1) (sc_one _) (by unfold maxLen; omega) (by omega) (by omega) ?_; intro q3 cap3 w3 hown3 hgr3)
          | (go_simp; go_at_call 36; refine Calls.mono HCL.out ?_; rintro e w1 ⟨g1, c1, rfl, hb1, hw1⟩; have hbA := hdr.trans (hb1.mono (Nat.le_refl _)); have hs1 : wr.heap.size ≤ w1.heap.size := hbA.size; have HO2 := (show Hid _ from own_still HU.out.2.2.2.1 hbA)))
        all_goals
          have hb3 : Below w.heap.size w w3 := ((bel_trans HU.out.1 hbA).grown hgr3 (by have := HU.out.1.size; omega) (fun q hq => by
            have := (World.ownsRow.lt HU.out.2.2.2.1 q hq).1
            omega))
          have hx3 : Box w3 w.heap.size 36 [.string nm, .slice a1 n1 p1, .slice a2 n2 p2, .slice a3 n3 p3, .slice a4 n4 p4] := (Box.still HU.out.2.1 hbA).keep (hgr3.block _ (by omega) (fun e => by have := (World.ownsRow.lt HU.out.2.2.2.1 _ e.symm).1; omega))
          have hy3 : Box w3 (w.heap.size + 1) 54 [.string r.name, .slice (some ⟨ba, oa, none⟩) r.alts.length ca] := (Box.still HU.out.2.2.1 hbA).keep (hgr3.block _ (by omega) (fun e => by have := (World.ownsRow.lt HU.out.2.2.2.1 _ e.symm).1; omega))
          rw [← hsc, ← hal] at hown3
          have R3 : w3.cell? ⟨w.heap.size + 1, 1, none⟩ = some (.slice (some ⟨ba, oa, none⟩) r.alts.length ca) := hy3.cell 1 (by simp)
          have hlb := HL.out.1
          rw [← hb3.cell HL.out.2] at hlb
          rw [← List.append_assoc, ← List.append_assoc] at HN0
          rw [← hal]
          have hz3 : w.heap.size + 2 ≤ w3.heap.size := hy3.lt
          have HN := (show Hid _ from (⟨hb3, hx3, hy3, hown3⟩ : _ ∧ _ ∧ _ ∧ _))
          clear hb3 hx3 hy3 hown3 hgr3 T0 T1 T2 T3 T4 c0 HO2 R1 hsc
          have hel : (d0 ++ gm).length + 2 ≤ 4398046511104 := by rw [hal]; exact hln
          clear hal
          generalize d0 ++ gm = em at *
          by_cases hl0 : lb.size = 0
          · rw [decide_eq_true hl0] at hEm
            have hlab : labG lb = [] := if_pos hl0
            rw [hlab, List.append_nil] at HN0
            have HM := (show Hid _ from (⟨HN.out.1, HN.out.2.1, HN.out.2.2.1, HN.out.2.2.2, HN0.out⟩ : _ ∧ _ ∧ _ ∧ _ ∧ _))
            clear HN HN0
            go_wp2_with fail
            exact ⟨⟨0 + 1, _, _, _, by rfl, by go_num, by omega, HM⟩, by simp [intOf]; omega⟩
          · rw [decide_eq_false hl0] at hEm
            have hlab : labG lb = [⟨#[35]⟩, lb] := if_neg hl0
            rw [hlab] at HN0
            have HO3 := (show Hid _ from own_still HN.out.2.2.2 (bel_alloc w3 (.cells #[.string ⟨#[35]⟩, .string lb] 9)))
            go_wp2_with (at_builtin; refine wpList_append_lies _ rfl (.tmp 39) (.tmp 46) 47 rfl (w.heap.size + 2) 9 i9 _ 1 16 Tryz.underlying47 hi9 hz0 hz1 hz2 rfl (by decide) _ em.length (sc em) rfl HO3.out ⟨w3.heap.size, 0, none⟩ 2 2 [.string ⟨#[35]⟩, .string lb] rfl rfl (cells_box _ _ _) (by intro u hu; simp at hu; rcases hu with rfl | rfl <;> rfl) (by decide) ?c1 ?c2 ?c3 _ rfl ?nx)
            case c1 => unfold maxLen; omega
            case c2 => omega
            case c3 => first | omega | (simp; omega)
            case nx =>
              intro g4 cap4 w4 hown4 hgr4 hat4 hlt4
              have hb4 : Below w.heap.size w w4 := ((bel_trans HN.out.1 (bel_alloc w3 (.cells #[.string ⟨#[35]⟩, .string lb] 9))).grown hgr4 (by have := HN.out.1.size; simp; omega) (fun q hq => by
                have := (World.ownsRow.lt HN.out.2.2.2 q hq).1
                omega))
              have hx4 : Box w4 w.heap.size 36 [.string nm, .slice a1 n1 p1, .slice a2 n2 p2, .slice a3 n3 p3, .slice a4 n4 p4] := (Box.still HN.out.2.1 (bel_alloc _ _)).keep (hgr4.block _ (by simp; omega) (fun e => by have := (World.ownsRow.lt HN.out.2.2.2 _ e.symm).1; omega))
              have hy4 : Box w4 (w.heap.size + 1) 54 [.string r.name, .slice (some ⟨ba, oa, none⟩) r.alts.length ca] := (Box.still HN.out.2.2.1 (bel_alloc _ _)).keep (hgr4.block _ (by simp; omega) (fun e => by have := (World.ownsRow.lt HN.out.2.2.2 _ e.symm).1; omega))
              have ho4 : w4.ownsRow (w.heap.size + 2) 9 1 (.slice (some ⟨g4, 0, none⟩) (em ++ [ByteArray.mk #[35], lb]).length cap4) (em ++ [ByteArray.mk #[35], lb]).length (sc (em ++ [ByteArray.mk #[35], lb])) := by
                rw [sc_append, List.length_append]; exact hown4
              have hl4 : em.length + 2 = (em ++ [ByteArray.mk #[35], lb]).length := by simp
              have HM := (show Hid _ from (⟨hb4, hx4, hy4, ho4, HN0.out⟩ : _ ∧ _ ∧ _ ∧ _ ∧ _))
              clear hb4 hx4 hy4 ho4 hown4 hgr4 hat4 HN HN0 HO3
              rw [hl4]
              go_wp2_with fail
              exact ⟨⟨0 + 1, _, _, _, by rfl, by go_num, by omega, HM⟩, by simp [intOf]; omega⟩
    · have hdn : d0 = r.name :: ⟨#[61]⟩ :: bars (altG say) r.alts := by
        have h1 := HR.out.2.2.2.2
        rw [bark_end (by omega), List.append_nil] at h1
        exact h1
      have hjs : (jn d0).size ≤ 2199023255552 := by rw [hdn]; exact Nat.le_trans (jn_size _) hW
      have hws : wsz d0 ≤ 2199023255552 := by rw [hdn]; exact hW
      have HD := (show Hid _ from hdn); clear hdn
      have HN := (show Hid _ from (⟨HR.out.1, words_any _ _ wr (own_strs HR.out.2.2.2.1 (fun i hi => Nat.le_trans (mem_wsz _ i hi) (by unfold maxLen; omega))) (Nat.le_trans hjs (by unfold maxLen; omega))⟩ : _ ∧ _))
      clear HR
      go_wp2_with fail
      refine Calls.mono HN.out.2 ?_
      rintro e w9 ⟨rfl, rfl⟩
      have q2 : (ByteArray.mk #[59, 10]).size = 2 := rfl
      go_wp2_with fail
      go_ret
      exact ⟨by rw [← HD.out]; rfl, HN.out.1⟩
end Go.Proofs.YtgjnlhidbjpdkajGreat
