import Derived.Test.YtledclkmeikgdaaHa
/-! What all references stand for: the program's resolvedAll; the specification's l12Has. -/
namespace Go.Proofs.Ytledclkmeikgdaa
open Go.RowKit Go.Deep Go.Maps
set_option linter.unusedVariables false
set_option maxRecDepth 100000
set_option linter.unusedSimpArgs false

set_option maxHeartbeats 800000 in
theorem has55 {S : Nat → Prop} (l : List Int) (v : Value) (x : Int) (w : World) (h : Ints w S l v) :
    Calls Try.prog 36 #[v, .int .i64 x] w fun e w' => e = .returned (.bool (hasI l x)) ∧ w' = w := by
  obtain ⟨a, cap, b, off, rfl, hc, hm, ha, hcell⟩ := h
  have HC := (show Hid _ from hcell); clear hcell
  have HA := (show Hid _ from ha); clear ha
  unfold maxLen at hm
  generalize hR : hasI l x = R
  have HR := (show Hid _ from hR); clear hR
  go_enter Try.func36, Try.ntmps36
  go_wp2_with fail
  go_loopw [5] (fun i wr => ∃ j : Nat, i = .int .i64 j ∧ j ≤ l.length ∧ Hid (∀ i (hi : i < l.length), i < j → ¬ l[i] = x) ∧ wr = w) (fun i _ => l.length - (intOf i).toNat)
  case atStart => exact ⟨0, rfl, Nat.zero_le _, fun i hi h0 => absurd h0 (Nat.not_lt_zero _), rfl⟩
  case round =>
    obtain ⟨j, rfl, hj, HJ, rfl⟩ := hrel
    by_cases hjl : j < l.length
    · obtain ⟨rfl, _⟩ := HA.out (by omega)
      have c0 := HC.out j hjl
      by_cases he : l[j] = x
      · have HF := (show Hid (R = true) from by show R = true; rw [← HR.out]; unfold hasI; exact decide_eq_true (he ▸ List.getElem_mem hjl))
        rw [he] at c0
        clear he
        go_wp2_with fail
        go_ret
        exact ⟨ret_bool HF.out.symm, rfl⟩
      · have HN := (show Hid (∀ i (hi : i < l.length), i < j + 1 → ¬ l[i] = x) from fun i hi hij => by
          by_cases e : i = j
          · subst e; exact he
          · exact HJ.out i hi (by omega))
        have hq : (l[j] == x) = false := by simp; exact he
        generalize l[j] = y at *
        clear he
        go_wp2_with fail
        exact ⟨⟨j + 1, by go_num, by omega, HN, trivial⟩, by simp [intOf]; omega⟩
    · have HF := (show Hid (R = false) from by
        show R = false
        rw [← HR.out]
        unfold hasI
        refine decide_eq_false (fun h => ?_)
        obtain ⟨i, hi, e⟩ := List.mem_iff_getElem.1 h
        exact HJ.out i hi (by omega) e)
      go_wp2_with fail
      go_ret
      exact ⟨ret_bool HF.out.symm, rfl⟩
theorem rs_leH (es : List DSEdge) (ds : List DSpot) (nm : ByteArray) : ∀ (f : Nat) (A : Int → Bool), (rs es ds nm f A).length ≤ ds.length
  | 0, _ => Nat.zero_le _
  | f + 1, A => by
    rw [rs]
    split
    · exact dcl_le _ _ _ _
    · split
      · exact dcl_le _ _ _ _
      · exact rs_leH es ds nm f _
theorem info35g : (Try.prog.info? 34).map (fun i => (i.zero, i.size, i.bytes)) = some (some (.slice none 0 0), 1, 24) := by kernel_rfl
theorem ownDiff {w : World} {B B' e e' z z' n n' : Nat} {v v' : Value} {xs xs' : List Value} (h : w.ownsRow B e z v n xs) (h' : w.ownsRow B' e' z' v' n' xs') (he : e ≠ e') (k : Nat) (hk : v.ownBlock = some k) (hk' : v'.ownBlock = some k) : False := by
  rcases h.2 with ⟨rfl, h0⟩ | ⟨g, cap, cur, rfl, _, hg, _⟩
  · simp [Value.ownBlock] at hk
  · rcases h'.2 with ⟨rfl, h0⟩ | ⟨g', cap', cur', rfl, _, hg', _⟩
    · simp [Value.ownBlock] at hk'
    · simp [Value.ownBlock] at hk hk'
      subst hk hk'
      rw [hg] at hg'
      injection hg' with hg'
      injection hg' with _ hg'
      exact he hg'
/-- Rows of numbers, one for each reference. -/
def RRow (w : World) (B : Nat) (ls : List (List Int)) (v : Value) : Prop := ∃ vs : List Value, vs.length = ls.length ∧ w.ownsRow B 34 1 v ls.length vs ∧ ∀ i (hi : i < vs.length) (hi2 : i < ls.length), ∃ (xa : Option Addr) (xc : Nat), vs[i] = .slice xa ls[i].length xc ∧ w.ownsRow B 3 1 (.slice xa ls[i].length xc) ls[i].length (iv ls[i])
def RaA (ls : List (List Int)) (w : World) (e : Ending) (w' : World) : Prop := ∃ (a : Option Addr) (cp : Nat), e = .returned (.slice a ls.length cp) ∧ Below w.heap.size w w' ∧ RRow w' w.heap.size ls (.slice a ls.length cp)
set_option maxHeartbeats 6400000 in
theorem all57 {S : Nat → Prop} (t : DSg) (v1 v2 v3 : Value) (w : World) (h : DSgL w S t v1 v2 v3) (hok : sgB t = true) :
    Calls Try.prog 39 #[.agg #[.int .i64 t.scopes, v1, v2, v3]] w (RaA (t.refs.map (rsv t)) w) := by
  obtain ⟨N, eN, f1, f2, f3, f4, f5, f6, f7, f8⟩ := sg_facts hok
  have hT := h.top
  have HRS := (show Hid (∀ (s r : Nat) (hr : r < t.refs.length) (w2 w' : World) (p m : Nat) (seen : List Int), Below w.heap.size w w2 → FB w.heap.size w2 p m v1 v2 [] → KB m w2 w' → MS w' m seen → p < w2.heap.size → t.refs[r].scope = (s : Int) → s < N → Calls Try.prog 45 #[.pointer (some ⟨p, 0, none⟩), .agg #[.int .i64 ((s : Nat) : Int), .string t.refs[r].name]] w' (RvA m (rsv t t.refs[r]) w')) from fun s r hr w2 w' p m seen hb fb kb ms hp e2 hs => by
    unfold rsv
    rw [eN, e2, Int.toNat_natCast]
    have hm := fb.bm
    exact res52 N t.edges t.decls v1 v2 s _ p m seen w' (((hT.edges.still hb).mono (S' := fun b => b ≠ m) (fun b hb => by have := hb.2; omega)).keep (fun b hb hlt => kb.block b hlt hb)) (((hT.decls.still hb).mono (S' := fun b => b ≠ m) (fun b hb => by have := hb.2; omega)).keep (fun b hb hlt => kb.block b hlt hb)) (kb.cell fb.pm fb.k1) (kb.cell fb.pm fb.k2) (kb.cell fb.pm fb.k4) fb.pm ms f6 f2 f3 f4 hs)
  have HSC := (show Hid (∀ r (hr : r < t.refs.length), ∃ s : Nat, t.refs[r].scope = (s : Int) ∧ s < N) from fun r hr => ⟨t.refs[r].scope.toNat, by have := f8 r hr; omega, by have := f8 r hr; omega⟩)
  have HRL := (show Hid (∀ r : DSpot, (rsv t r).length ≤ 120) from fun r => Nat.le_trans (rs_leH _ _ _ _ _) f4)
  obtain ⟨a1, p1, rfl, _⟩ := h.edges.form
  obtain ⟨a2, p2, rfl, _⟩ := h.decls.form
  obtain ⟨a3, p3, b, off, rfl, hc, hm, ha, hcell⟩ := h.refs
  have HC := (show Hid (∀ i (hi : i < t.refs.length), w.cell? ⟨b, off + i * 2, none⟩ = some (.int .i64 t.refs[i].scope) ∧ w.cell? ⟨b, off + i * 2 + 1, none⟩ = some (.string t.refs[i].name)) from fun i hi => ⟨(hcell i hi).1, (hcell i hi).2.1⟩); clear hcell
  have HA := (show Hid (0 < t.refs.length → a3 = some ⟨b, off, none⟩) from fun h0 => (ha h0).1); clear ha
  clear h hT f6 f7 f8
  unfold maxLen at hm
  obtain ⟨i5, hi5, hzz⟩ := Option.map_eq_some_iff.1 info35g
  simp only [Prod.mk.injEq] at hzz
  obtain ⟨hz0, hz1, hz2⟩ := hzz
  have HB0 := (show Hid (Below w.heap.size w (w.alloc (.cells #[.int .i64 t.scopes, .slice a1 t.edges.length p1, .slice a2 t.decls.length p2, .slice a3 t.refs.length p3] 27))) from bel_alloc _ _)
  have HG0 := (show Hid (G4 w.heap.size t.scopes (.slice a1 t.edges.length p1) (.slice a2 t.decls.length p2) (.slice a3 t.refs.length p3) (w.alloc (.cells #[.int .i64 t.scopes, .slice a1 t.edges.length p1, .slice a2 t.decls.length p2, .slice a3 t.refs.length p3] 27))) from G4.new w t.scopes (.slice a1 t.edges.length p1) (.slice a2 t.decls.length p2) (.slice a3 t.refs.length p3))
  have HC51 := (show Hid _ from new51 t.scopes a1 t.edges.length p1 a2 t.decls.length p2 a3 t.refs.length p3 (w.alloc (.cells #[.int .i64 t.scopes, .slice a1 t.edges.length p1, .slice a2 t.decls.length p2, .slice a3 t.refs.length p3] 27)))
  clear eN hok
  generalize t.scopes = sc at *
  go_enter Try.func39, Try.ntmps39
  go_wp2_with fail
  refine Calls.mono HC51.out ?_
  rintro e w2 ⟨p, m, rfl, hb2, hfb⟩
  have HB2 := (show Hid (Below w.heap.size w w2) from bel_trans HB0.out hb2)
  obtain ⟨k0, k1, k2, k3⟩ := HG0.out.still hb2
  have HFB := (show Hid (FB w.heap.size w2 p m (.slice a1 t.edges.length p1) (.slice a2 t.decls.length p2) [] ∧ p < w2.heap.size) from ⟨⟨hfb.k1, hfb.k2, hfb.k4, hfb.pm, hfb.ms, by have := hfb.bm; simp at this; omega⟩, lt_of_cell hfb.k1⟩)
  clear hb2 hfb HG0 HC51
  go_wp2_with fail
  clear k0 k1 k2 k3
  go_loopw [4, 12] (fun u i wr => ∃ (j : Nat) (ua : Option Addr) (cp : Nat), i = .int .i64 j ∧ j ≤ t.refs.length ∧ u = .slice ua j cp ∧ Hid (KB m w2 wr ∧ (∃ seen, MS wr m seen) ∧ ∃ vs : List Value, vs.length = j ∧ wr.ownsRow w2.heap.size 34 1 (.slice ua j cp) j vs ∧ ∀ i (hi : i < vs.length) (hi2 : i < t.refs.length), ∃ (xa : Option Addr) (xc : Nat), vs[i] = .slice xa (rsv t t.refs[i]).length xc ∧ wr.ownsRow w2.heap.size 3 1 (.slice xa (rsv t t.refs[i]).length xc) (rsv t t.refs[i]).length (iv (rsv t t.refs[i])))) (fun _ i _ => t.refs.length - (intOf i).toNat)
  case atStart => exact ⟨0, none, 0, rfl, Nat.zero_le _, rfl, KB.refl _ _, ⟨_, HFB.out.1.ms⟩, [], rfl, ownNil _ _ _ _, fun i hi => absurd hi (Nat.not_lt_zero _)⟩
  case round =>
    obtain ⟨j, ua, cp, rfl, hj, rfl, HI⟩ := hrel
    by_cases hjl : j < t.refs.length
    · have HEA := (show Hid _ from HA.out (by omega))
      obtain ⟨hkb, ⟨seen, hms⟩, vs, hvl, hown, hin⟩ := HI.out
      obtain ⟨c0, c1⟩ := HC.out j hjl
      obtain ⟨s, es0, hsN⟩ := HSC.out j hjl
      have HML := (show Hid (m < w2.heap.size ∧ w.heap.size ≤ m) from ⟨HFB.out.1.ms.lt, HFB.out.1.bm.1⟩)
      have hbm : b ≠ m := by have := lt_of_cell c0; have := HML.out.2; show b ≠ m; simp at *; omega
      have d0 := hkb.cell hbm ((HB2.out.cell (lt_of_cell c0)).trans c0)
      have d1 := hkb.cell hbm ((HB2.out.cell (lt_of_cell c1)).trans c1)
      rw [es0] at d0
      have HRR := (show Hid _ from fun (w' : World) hk hm => HRS.out s j hjl w2 w' p m seen HB2.out HFB.out.1 hk hm HFB.out.2 es0 hsN)
      have HRQ := (show Hid _ from HRL.out t.refs[j])
      have HFX := (show Hid (∀ i (hi2 : i < t.refs.length), i = j → rsv t t.refs[i] = rsv t t.refs[j]) from fun i hi2 e => by subst e; rfl)
      generalize rsv t t.refs[j] = RV at *
      generalize t.refs[j].name = rn at *
      have hba := bel_alloc wr (.cells #[.int .i64 ((s : Nat) : Int), .string rn] 33)
      have HC52 := (show Hid (Calls Try.prog 45 #[.pointer (some ⟨p, 0, none⟩), .agg #[.int .i64 ((s : Nat) : Int), .string rn]] (wr.alloc (.cells #[.int .i64 ((s : Nat) : Int), .string rn] 33)) (RvA m RV (wr.alloc (.cells #[.int .i64 ((s : Nat) : Int), .string rn] 33)))) from HRR.out (wr.alloc (.cells #[.int .i64 ((s : Nat) : Int), .string rn] 33)) (hkb.bel hba) (hms.bel hba))
      have HKB := (show Hid (KB m w2 (wr.alloc (.cells #[.int .i64 ((s : Nat) : Int), .string rn] 33))) from hkb.bel hba)
      have HOWN := (show Hid (vs.length = j ∧ (wr.alloc (.cells #[.int .i64 ((s : Nat) : Int), .string rn] 33)).ownsRow w2.heap.size 34 1 (.slice ua j cp) j vs ∧ ∀ i (hi : i < vs.length) (hi2 : i < t.refs.length), ∃ (xa : Option Addr) (xc : Nat), vs[i] = .slice xa (rsv t t.refs[i]).length xc ∧ (wr.alloc (.cells #[.int .i64 ((s : Nat) : Int), .string rn] 33)).ownsRow w2.heap.size 3 1 (.slice xa (rsv t t.refs[i]).length xc) (rsv t t.refs[i]).length (iv (rsv t t.refs[i]))) from ⟨hvl, ownBel (C := 0) hown hba, fun i hi hi2 => by
        obtain ⟨xa, xc, e1, e2⟩ := hin i hi hi2
        exact ⟨xa, xc, e1, ownBel (C := 0) e2 hba⟩⟩)
      clear hba hkb hms hvl hown hin c0 c1 es0 hbm HI
      have hea := HEA.out
      rw [hea]
      clear hea
      go_wp2_with fail
      refine Calls.mono HC52.out ?_
      rintro e w5 ⟨xa, xc, rfl, hk5, hs5, ho5⟩
      have HK5 := (show Hid (KB m w2 w5) from HKB.out.trans hk5)
      have hst : ∀ {e z n : Nat} {v : Value} {xs : List Value}, (wr.alloc (.cells #[.int .i64 ((s : Nat) : Int), .string rn] 33)).ownsRow w2.heap.size e z v n xs → w5.ownsRow w2.heap.size e z v n xs := fun h => ownKeep h (fun k hk => hk5.block k (World.ownsRow.lt h k hk).2 (by have := (World.ownsRow.lt h k hk).1; have := HML.out.1; omega))
      have hb6 := bel_alloc w5 (.cells #[.slice xa RV.length xc] 34)
      have HO5 := (show Hid (vs.length = j ∧ (w5.alloc (.cells #[.slice xa RV.length xc] 34)).ownsRow w2.heap.size 34 1 (.slice ua j cp) j vs ∧ (∀ i (hi : i < vs.length) (hi2 : i < t.refs.length), ∃ (ya : Option Addr) (yc : Nat), vs[i] = .slice ya (rsv t t.refs[i]).length yc ∧ (w5.alloc (.cells #[.slice xa RV.length xc] 34)).ownsRow w2.heap.size 3 1 (.slice ya (rsv t t.refs[i]).length yc) (rsv t t.refs[i]).length (iv (rsv t t.refs[i]))) ∧ (w5.alloc (.cells #[.slice xa RV.length xc] 34)).ownsRow w2.heap.size 3 1 (.slice xa RV.length xc) RV.length (iv RV) ∧ KB m w2 (w5.alloc (.cells #[.slice xa RV.length xc] 34)) ∧ ∃ seen, MS (w5.alloc (.cells #[.slice xa RV.length xc] 34)) m seen) from ⟨HOWN.out.1, ownBel (C := 0) (hst HOWN.out.2.1) hb6, fun i hi hi2 => by
        obtain ⟨ya, yc, e1, e2⟩ := HOWN.out.2.2 i hi hi2
        exact ⟨ya, yc, e1, ownBel (C := 0) (hst e2) hb6⟩, ownBel (C := 0) (ownLow ho5 HKB.out.size) hb6, HK5.out.bel hb6, by obtain ⟨sn, hsn⟩ := hs5; exact ⟨sn, hsn.bel hb6⟩⟩)
      clear hk5 hs5 ho5 hst hb6 HOWN HKB HK5 HC52 d0 d1
      go_wp2_with (at_builtin; refine wpList_append_lies _ rfl (.tmp 16) (.tmp 20) 42 rfl w2.heap.size 34 i5 _ 1 24 Try.underlying42 hi5 hz0 hz1 hz2 rfl (by decide) _ j _ rfl HO5.out.2.1 ⟨w5.heap.size, 0, none⟩ 1 1 [.slice xa RV.length xc] rfl rfl ?c1 ?c2 (by decide) ?c3 ?c5 ?c4 _ rfl ?nx)
      case c1 =>
        intro q u hu
        cases q with
        | zero => simp at hu; subst hu; simp [Addr.add, go_sem]
        | succ q => simp at hu
      case c2 => intro u hu; simp at hu; subst hu; rfl
      case c3 => unfold maxLen; omega
      case c5 => omega
      case c4 => exact HO5.out.2.2.2.2.1.size
      case nx =>
        intro g7 cap7 w7 hown7 hgr7 hat7 hlt7
        have HX := (show Hid (KB m w2 w7 ∧ (∃ seen, MS w7 m seen) ∧ ∃ vs : List Value, vs.length = j + 1 ∧ w7.ownsRow w2.heap.size 34 1 (.slice (some ⟨g7, 0, none⟩) (j + 1) cap7) (j + 1) vs ∧ ∀ i (hi : i < vs.length) (hi2 : i < t.refs.length), ∃ (xa : Option Addr) (xc : Nat), vs[i] = .slice xa (rsv t t.refs[i]).length xc ∧ w7.ownsRow w2.heap.size 3 1 (.slice xa (rsv t t.refs[i]).length xc) (rsv t t.refs[i]).length (iv (rsv t t.refs[i]))) from by
          obtain ⟨q1, q2, q3, q4, q5, seen', q6⟩ := HO5.out
          have hOB : ∀ k, (Value.slice ua j cp).ownBlock = some k → w2.heap.size ≤ k := fun k hk => (World.ownsRow.lt q2 k hk).1
          have hkp : ∀ {n : Nat} {v : Value} {xs : List Value}, (w5.alloc (.cells #[.slice xa RV.length xc] 34)).ownsRow w2.heap.size 3 1 v n xs → w7.ownsRow w2.heap.size 3 1 v n xs := fun h => ownKeep h (fun k hk => hgr7.block k (World.ownsRow.lt h k hk).2 (fun e => ownDiff h q2 (by decide) k hk e.symm))
          refine ⟨q5.grown hgr7 (fun k hk => .inl (hOB k hk)), ⟨seen', q6.keep (hgr7.block m q6.lt (fun e => by have := hOB m e.symm; have := HML.out.1; omega))⟩, vs ++ [.slice xa RV.length xc], by rw [List.length_append, q1]; rfl, hown7, fun i hi hi2 => ?_⟩
          by_cases e : i < vs.length
          · obtain ⟨ya, yc, e1, e2⟩ := q3 i e hi2
            exact ⟨ya, yc, by rw [List.getElem_append_left e]; exact e1, hkp e2⟩
          · have ei : i = j := by rw [List.length_append] at hi; simp at hi; omega
            have er := HFX.out i hi2 ei
            refine ⟨xa, xc, ?_, ?_⟩
            · rw [er, List.getElem_append_right (by omega)]; simp
            · rw [er]; exact hkp q4)
        clear hown7 hgr7 hat7 hlt7 HO5
        go_wp2_with fail
        exact ⟨⟨j + 1, _, _, by go_num, by omega, rfl, HX⟩, by simp [intOf]; omega⟩
    · obtain rfl : j = t.refs.length := by omega
      go_wp2_with fail
      go_ret
      obtain ⟨hkb, _, vs, hvl, hown, hin⟩ := HI.out
      have hmb := HFB.out.1.bm.1
      refine ⟨ua, cp, by rw [List.length_map]; rfl, KB.belowOf HB2.out hkb HB2.out.size hmb, vs, by rw [hvl, List.length_map], ?_, fun i hi hi2 => ?_⟩
      · rw [List.length_map]; exact ownLow hown HB2.out.size
      · obtain ⟨xa, xc, e1, e2⟩ := hin i hi (by rw [List.length_map] at hi2; exact hi2)
        refine ⟨xa, xc, ?_, ?_⟩
        · rw [List.getElem_map]; exact e1
        · rw [List.getElem_map]; exact ownLow e2 HB2.out.size
end Go.Proofs.Ytledclkmeikgdaa
