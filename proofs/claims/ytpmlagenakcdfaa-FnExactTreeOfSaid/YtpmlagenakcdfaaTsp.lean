import Derived.Test.YtpmlagenakcdfaaTm
import Derived.Test.YtpmlagenakcdfaaDe0
import Derived.Deep.AppendLies
/-! Terminals of the specification. -/
namespace Go.Proofs.Ytpmlagenakcdfaa
open Go.RowKit Go.Deep
set_option linter.unusedVariables false
set_option maxRecDepth 100000
set_option linter.unusedSimpArgs false

theorem OwnI.keep0 {w w' : World} {b : Nat} {l : List Int} {v : Value} (h : OwnI w b l v) (hb : 0 < l.length → b < w.heap.size → w'.heap[b]? = w.heap[b]?) : OwnI w' b l v := by
  obtain ⟨a, cap, f, hv, hc, hm, ha, hf⟩ := h
  exact ⟨a, cap, f, hv, hc, hm, fun h0 => ⟨(ha h0).1, World.rowIs.of_block (ha h0).2 (hb h0 (World.rowIs.lt (ha h0).2))⟩, hf⟩
/-- Two rows that grow, each in its own block, from B on. -/
structure Rws (w : World) (B : Nat) (ts ps : List Int) (u v : Value) : Prop where
  fst : w.ownsRow B 3 1 u ts.length (iv ts)
  snd : w.ownsRow B 3 1 v ps.length (iv ps)
  ne : ∀ k, u.ownBlock = some k → v.ownBlock ≠ some k
theorem Rws.still {w w' : World} {B : Nat} {ts ps : List Int} {u v : Value} (h : Rws w B ts ps u v) (hb : Below w.heap.size w w') : Rws w' B ts ps u v := ⟨own_still h.fst hb, own_still h.snd hb, h.ne⟩
theorem Rws.grow1 {w w' : World} {B H cap g n : Nat} {ts ps : List Int} {x : Int} {u v : Value} (h : Rws w B ts ps u v) (hH : w.heap.size = H) (ho : w'.ownsRow B 3 1 (.slice (some ⟨g, 0, none⟩) (ts.length + 1) cap) (ts.length + 1) (iv ts ++ [.int .i64 x])) (hg : w.grownBy w' u.ownBlock) (hat : u.ownBlock = some g ∨ g = H) (hn : n = ts.length + 1) :
    Rws w' B (ts ++ [x]) ps (.slice (some ⟨g, 0, none⟩) n cap) v := by
  subst hn
  refine ⟨by simpa using ho, h.snd.kept hg ?_, fun k hk => ?_⟩
  · cases e : v.ownBlock with
    | none => exact .inl rfl
    | some k =>
      right
      intro e2
      exact h.ne k e2.symm e
  · have hk' : g = k := by simpa [Value.ownBlock] using hk
    subst hk'
    intro e
    rcases hat with h1 | h1
    · exact h.ne g h1 e
    · have := (h.snd.lt g e).2
      omega
theorem Rws.grow2 {w w' : World} {B H cap g n : Nat} {ts ps : List Int} {x : Int} {u v : Value} (h : Rws w B ts ps u v) (hH : w.heap.size = H) (ho : w'.ownsRow B 3 1 (.slice (some ⟨g, 0, none⟩) (ps.length + 1) cap) (ps.length + 1) (iv ps ++ [.int .i64 x])) (hg : w.grownBy w' v.ownBlock) (hat : v.ownBlock = some g ∨ g = H) (hn : n = ps.length + 1) :
    Rws w' B ts (ps ++ [x]) u (.slice (some ⟨g, 0, none⟩) n cap) := by
  subst hn
  refine ⟨h.fst.kept hg ?_, by simpa using ho, fun k hk => ?_⟩
  · cases e : u.ownBlock with
    | none => exact .inl rfl
    | some k => exact .inr (fun e2 => h.ne k e e2.symm)
  · intro e
    have hk' : g = k := by simpa [Value.ownBlock] using e
    subst hk'
    rcases hat with h1 | h1
    · exact h.ne g hk h1
    · have := (h.fst.lt g hk).2
      omega
/-- What Terminals leaves. -/
def TmAns (R : List Int × List Int × Int) (w : World) (e : Ending) (w' : World) : Prop :=
  ∃ v0 v1 b0 b1, e = .returned (.tuple #[v0, v1, .int .i64 R.2.2]) ∧ Below w.heap.size w w' ∧ OwnI w' b0 R.1 v0 ∧ OwnI w' b1 R.2.1 v1 ∧ (0 < R.1.length → w.heap.size ≤ b0) ∧ (0 < R.2.1.length → w.heap.size ≤ b1) ∧ (0 < R.1.length → 0 < R.2.1.length → b0 ≠ b1)
theorem Rws.ans {w0 w : World} {B : Nat} {ts ps : List Int} {u v : Value} {C : Int} (h : Rws w B ts ps u v) (hB : w0.heap.size ≤ B) (hb : Below w0.heap.size w0 w) : TmAns (ts, ps, C) w0 (.returned (.tuple #[u, v, .int .i64 C])) w := by
  obtain ⟨b0, h0, k0⟩ := own_ints h.fst
  obtain ⟨b1, h1, k1⟩ := own_ints h.snd
  refine ⟨u, v, b0, b1, rfl, hb, h0, h1, fun h2 => Nat.le_trans hB (k0 h2).1, fun h2 => Nat.le_trans hB (k1 h2).1, fun h2 h3 e => ?_⟩
  exact h.ne b0 (k0 h2).2 (by rw [e]; exact (k1 h3).2)
theorem ans_nil {w0 w : World} {a a' : Option Addr} {C : Int} (hb : Below w0.heap.size w0 w) : TmAns ([], [], C) w0 (.returned (.tuple #[.slice a 0 0, .slice a' 0 0, .int .i64 C])) w :=
  ⟨_, _, 0, 0, rfl, hb, OwnI.nil _ _ _ _ (Nat.zero_le _), OwnI.nil _ _ _ _ (Nat.zero_le _), fun h => absurd h (Nat.not_lt_zero _), fun h => absurd h (Nat.not_lt_zero _), fun h => absurd h (Nat.not_lt_zero _)⟩
theorem grown_cell {w w' : World} {o : Option Nat} {a : Addr} {v : Value} (hg : w.grownBy w' o) (hc : w.cell? a = some v) (hne : ∀ k, o = some k → a.block ≠ k) : w'.cell? a = some v :=
  (World.cell?_of_block (w := w) (hg.block a.block (lt_of_cell hc) (fun e => hne a.block e.symm rfl))).trans hc
/-- Between two rounds. -/
structure SpI (w w1 : World) (d : Bn) (l : List Wd) (vt : Value) (RR : List Int × List Int × Int) (j : Nat) (ts ps : List Int) (u v : Value) (wr : World) : Prop where
  bel : Below w.heap.size w wr
  box : wr.cell? ⟨w1.heap.size, 5, none⟩ = some vt
  big : w1.heap.size < wr.heap.size
  rows : Rws wr (w1.heap.size + 1) ts ps u v
  eq : tmGo (nms d) (l.drop j) j ts ps = RR
  len : ts.length ≤ j ∧ ps.length ≤ j
set_option maxHeartbeats 3200000 in
theorem sTm_any {S S' : Nat → Prop} (d : Bn) (l : List Wd) (v0 v1 v3 vl : Value) (w : World) (h : BLies w S d v0 v1 v3) (hl : Wds w S' l vl) (hs : ∀ i (hi : i < l.length), l[i].name.size ≤ 1048576 ∧ l[i].text.size ≤ 1048576 ∧ l[i].modes.size ≤ 1048576) :
    Calls Try.prog 47 #[.agg #[v0, v1, .int .i64 d.own, v3], vl] w fun e w' => TmAns (tmR d l) w e w' := by
  have hb0 := bel_alloc w (.cells #[v0, v1, .int .i64 d.own, v3] 34)
  have HB := (show Hid _ from sBnf_all d v0 v1 v3 _ (h.still hb0))
  have hq := four_box w v0 v1 (.int .i64 d.own) v3 34
  have HT := (show Hid _ from h.terms)
  have HS := (show Hid _ from hs); clear hs
  obtain ⟨a0, p0, a1, p1, a3, p3, rfl, rfl, rfl⟩ := h.form
  obtain ⟨al, cl, bl, ol, rfl, hcl, hml, hal, hcl2⟩ := hl
  have HL := (show Hid _ from (⟨hal, hcl2⟩ : _ ∧ _)); clear hal hcl2
  unfold maxLen at hml
  have H0 := (show Hid _ from (⟨hb0, hq⟩ : _ ∧ _))
  obtain ⟨q0, q1, q2, q3⟩ := hq
  clear hb0 h
  obtain ⟨i3, hi3, hzz⟩ := Option.map_eq_some_iff.1 info3i
  simp only [Prod.mk.injEq] at hzz
  obtain ⟨hz0, hz1, hz2⟩ := hzz
  generalize hRR : tmR d l = RR
  unfold tmR at hRR
  cases hbn : bnB d
  · rw [hbn] at HB hRR
    have hR2 : RR = ([], [], 1) := by rw [← hRR, if_neg (by simp)]
    subst hR2
    clear hRR hbn
    go_enter Try.func47, Try.ntmps47
    go_wp2_with fail
    refine Calls.mono HB.out ?_
    rintro e w1 ⟨rfl, hb1⟩
    have HB1 := (show Hid _ from bel_trans H0.out.1 hb1); clear hb1 q0 q1 q2 q3
    go_wp2_with fail
    refine bodyPost_ret (v := .tuple #[.slice (some ⟨w1.heap.size, 0, none⟩) 0 0, .slice (some ⟨w1.heap.size + 1, 0, none⟩) 0 0, .int .i64 1]) (by simp [results, Try.results47, go_sem]) rfl (ans_nil (bel_trans HB1.out (bel2 _ _ _)))
  · rw [hbn] at HB hRR
    clear hbn
    by_cases hle : l.length ≤ 1000
    · rw [if_pos ⟨rfl, hle⟩] at hRR
      have HRR := (show Hid _ from hRR); clear hRR
      go_enter Try.func47, Try.ntmps47
      go_wp2_with fail
      refine Calls.mono HB.out ?_
      rintro e w1 ⟨rfl, hb1⟩
      have HB1 := (show Hid _ from bel_trans H0.out.1 hb1)
      clear q0 q1 q2 q3
      obtain ⟨q0, q1, q2, q3⟩ := Four.still H0.out.2 hb1
      clear hb1
      go_wp2_with fail
      clear q0 q1 q2 q3
      go_loopw [8, 9, 10] (fun u v i wr => ∃ (j : Nat) (ts ps : List Int) (a : Option Addr) (c : Nat) (a' : Option Addr) (c' : Nat), u = .slice a ts.length c ∧ v = .slice a' ps.length c' ∧ i = .int .i64 j ∧ j ≤ l.length ∧ Hid (SpI w w1 d l (.slice a0 d.terms.length p0) RR j ts ps u v wr)) (fun _ _ i _ => l.length - (intOf i).toNat)
      case atStart =>
        refine ⟨0, [], [], _, _, _, _, rfl, rfl, rfl, Nat.zero_le _, ⟨?_, ?_, ?_, ⟨?_, ?_, ?_⟩, HRR.out, Nat.le_refl _, Nat.le_refl _⟩⟩
        · exact ((HB1.out.alloc HB1.out.size _).alloc (by have := HB1.out.size; simp; omega) _).alloc (by have := HB1.out.size; simp; omega) _
        · simp [go_sem]
        · simp; omega
        · have h1 := World.ownsRow_made (base := w1.heap.size + 1) (e := 3) (size := 1) (w1.alloc (.cells #[.string ⟨#[]⟩, .slice none 0 0, .slice none 0 0, .slice none 0 0, .slice none 0 0, .slice a0 d.terms.length p0, .slice a1 d.nons.length p1, .int .i64 d.own, .slice a3 d.prods.length p3, .slice none 0 0, .bool false] 139)) #[] 0 (by simp) (Nat.zero_le _) rfl
          simp only [World.size_alloc] at h1
          exact h1.alloc _
        · have h1 := World.ownsRow_made (base := w1.heap.size + 1) (e := 3) (size := 1) ((w1.alloc (.cells #[.string ⟨#[]⟩, .slice none 0 0, .slice none 0 0, .slice none 0 0, .slice none 0 0, .slice a0 d.terms.length p0, .slice a1 d.nons.length p1, .int .i64 d.own, .slice a3 d.prods.length p3, .slice none 0 0, .bool false] 139)).alloc (.cells #[] 3)) #[] 0 (by simp) (Nat.zero_le _) rfl
          simp only [World.size_alloc] at h1
          exact h1
        · intro k hk
          have hk' : w1.heap.size + 1 = k := by simpa [Value.ownBlock] using hk
          subst hk'
          simp [Value.ownBlock]
      case round =>
        obtain ⟨j, ts, ps, a, c, a', c', rfl, rfl, rfl, hj, HI⟩ := hrel
        have hbel := HI.out.bel
        by_cases hjl : j < l.length
        · obtain ⟨rfl, _⟩ := HL.out.1 (by omega)
          obtain ⟨c0, c1, c2, c3, c4, c5, _, _, _⟩ := HL.out.2 j hjl
          rw [← hbel.cell (lt_of_cell c0)] at c0
          rw [← hbel.cell (lt_of_cell c1)] at c1
          rw [← hbel.cell (lt_of_cell c4)] at c4
          clear c2 c3 c5
          have HTM := (show Hid _ from l03Term_any d.terms _ w1.heap.size (tn l[j]) wr (Tms.still HT.out hbel) HI.out.box)
          clear hbel
          cases hsk : l[j].skip
          · rw [hsk] at c4
            have hts := (HS.out j hjl).2.1
            by_cases he : l[j].name = litB
            · have ht : tn l[j] = ⟨#[39]⟩ ++ l[j].text ++ ⟨#[39]⟩ := by unfold tn; rw [if_pos he]; rfl
              rw [he] at c0
              unfold litB at c0
              cases hf : fnd (nms d) (tn l[j]) with
              | none =>
                have HE := (show Hid _ from (tmGo_none (ts := ts) (ps := ps) hjl hsk hf).symm.trans HI.out.eq)
                have hcl := HTM.out
                rw [show d.terms.map (·.name) = nms d from rfl, hf] at hcl
                have HCL := (show Hid _ from hcl); clear hcl HTM hf
                rw [ht] at HCL
                clear he ht
                go_wp2_with fail
                refine Calls.mono HCL.out ?_
                rintro e w2 ⟨rfl, rfl⟩
                simp only [plc]
                clear c0 c1 c4
                go_wp2_with fail
                rw [← HE.out]
                refine bodyPost_ret (v := .tuple #[.slice (some ⟨w2.heap.size, 0, none⟩) 0 0, .slice (some ⟨w2.heap.size + 1, 0, none⟩) 0 0, .int .i64 8]) (by simp [results, Try.results47, go_sem]) rfl (ans_nil (bel_trans HI.out.bel (bel2 _ _ _)))
              | some i =>
                have HE := (show Hid _ from (tmGo_some (ts := ts) (ps := ps) hjl hsk hf).symm.trans HI.out.eq)
                have hcl := HTM.out
                rw [show d.terms.map (·.name) = nms d from rfl, hf] at hcl
                have HCL := (show Hid _ from hcl); clear hcl HTM hf
                have hlen := HI.out.len
                have HX := (show Hid _ from (⟨HI.out.rows.still (bel_alloc wr (.cells #[.int .i64 (i : Int)] 3)), bel_trans HI.out.bel (bel_alloc wr (.cells #[.int .i64 (i : Int)] 3)), HI.out.big⟩ : Rws (wr.alloc (.cells #[.int .i64 (i : Int)] 3)) (w1.heap.size + 1) ts ps (.slice a ts.length c) (.slice a' ps.length c') ∧ _ ∧ _))
                rw [ht] at HCL
                clear he ht
                go_wp2_with fail
                refine Calls.mono HCL.out ?_
                rintro e w2 ⟨rfl, rfl⟩
                simp only [plc]
                clear c0 c1 c4
                go_wp2_with (at_builtin; refine wpList_append_lies _ rfl (.tmp 60) (.tmp 62) 27 rfl (w1.heap.size + 1) 3 i3 _ 1 8 Try.underlying27 hi3 hz0 hz1 hz2 rfl (by decide) _ ts.length _ rfl HX.out.1.fst ⟨w2.heap.size, 0, none⟩ 1 1 [.int .i64 (i : Int)] rfl rfl ?c1 ?c2 (by decide) ?c3 (by omega) ?c4 _ rfl ?nx)
                case c1 => exact cell_one_new _ _ _
                case c2 => intro u hu; simp at hu; subst hu; rfl
                case c3 => unfold maxLen; omega
                case c4 => have := HX.out.2.2; simp; omega
                case nx =>
                  intro g3 cap3 w6 hown6 hgr6 hat6 hlt6
                  have HR6 := (show Hid _ from HX.out.1.grow1 (n := ts.length + 1) (World.size_alloc _ _) hown6 hgr6 hat6 rfl)
                  have hz6 : w1.heap.size < w6.heap.size := by have := HX.out.2.2; have := hgr6.size; simp at this; omega
                  have HB6 := (show Hid _ from grown_below' HX.out.2.1 hgr6 (fun b hb => by have h1 := (HX.out.1.fst.lt b hb).1; have := HB1.out.size; omega) (by have := HX.out.2.1.size; omega))
                  have HC6 := (show Hid _ from grown_cell hgr6 ((bel_alloc w2 _).cell (lt_of_cell HI.out.box) ▸ HI.out.box) (fun k hk => by have h1 := (HX.out.1.fst.lt k hk).1; show w1.heap.size ≠ k; omega))
                  have HX2 := (show Hid _ from (HR6.out.still (bel_alloc w6 (.cells #[.int .i64 (j : Int)] 3))))
                  clear hown6 hgr6 hat6 hlt6
                  go_wp2_with (at_builtin; refine wpList_append_lies _ rfl (.tmp 64) (.tmp 66) 27 rfl (w1.heap.size + 1) 3 i3 _ 1 8 Try.underlying27 hi3 hz0 hz1 hz2 rfl (by decide) _ ps.length _ rfl HX2.out.snd ⟨w6.heap.size, 0, none⟩ 1 1 [.int .i64 (j : Int)] rfl rfl ?c1 ?c2 (by decide) ?c3 (by omega) ?c4 _ rfl ?nx)
                  case c1 => exact cell_one_new _ _ _
                  case c2 => intro u hu; simp at hu; subst hu; rfl
                  case c3 => unfold maxLen; omega
                  case c4 => simp; omega
                  case nx =>
                    intro g4 cap4 w7 hown7 hgr7 hat7 hlt7
                    have HR7 := (show Hid _ from HX2.out.grow2 (n := ps.length + 1) (World.size_alloc _ _) hown7 hgr7 hat7 rfl)
                    have hb6' := bel_trans HB6.out (bel_alloc w6 (.cells #[.int .i64 (j : Int)] 3))
                    have HB7 := (show Hid _ from grown_below' hb6' hgr7 (fun b hb => by have h1 := (HX2.out.snd.lt b hb).1; have := HB1.out.size; omega) hb6'.size)
                    have HC7 := (show Hid _ from grown_cell hgr7 ((bel_alloc w6 _).cell (lt_of_cell HC6.out) ▸ HC6.out) (fun k hk => by have h1 := (HX2.out.snd.lt k hk).1; show w1.heap.size ≠ k; omega))
                    have hz7 : w1.heap.size < w7.heap.size := by have := hgr7.size; simp at this; omega
                    clear hown7 hgr7 hat7 hlt7 hb6'
                    go_wp2_with fail
                    exact ⟨⟨j + 1, ts ++ [(i : Int)], ps ++ [(j : Int)], _, _, _, _, by rw [List.length_append]; rfl, by rw [List.length_append]; rfl, by go_num, by omega, ⟨HB7.out, HC7.out, hz7, HR7.out, HE.out, by simp; omega, by simp; omega⟩⟩, by simp [intOf]; omega⟩
            · have ht : tn l[j] = l[j].name := by unfold tn; rw [if_neg he]
              have hne := ne_bytes he
              rw [litB_list] at hne
              cases hf : fnd (nms d) (tn l[j]) with
              | none =>
                have HE := (show Hid _ from (tmGo_none (ts := ts) (ps := ps) hjl hsk hf).symm.trans HI.out.eq)
                have hcl := HTM.out
                rw [show d.terms.map (·.name) = nms d from rfl, hf] at hcl
                have HCL := (show Hid _ from hcl); clear hcl HTM hf
                rw [ht] at HCL
                clear he ht
                go_wp2_with fail
                refine Calls.mono HCL.out ?_
                rintro e w2 ⟨rfl, rfl⟩
                simp only [plc]
                clear c0 c1 c4
                go_wp2_with fail
                rw [← HE.out]
                refine bodyPost_ret (v := .tuple #[.slice (some ⟨w2.heap.size, 0, none⟩) 0 0, .slice (some ⟨w2.heap.size + 1, 0, none⟩) 0 0, .int .i64 8]) (by simp [results, Try.results47, go_sem]) rfl (ans_nil (bel_trans HI.out.bel (bel2 _ _ _)))
              | some i =>
                have HE := (show Hid _ from (tmGo_some (ts := ts) (ps := ps) hjl hsk hf).symm.trans HI.out.eq)
                have hcl := HTM.out
                rw [show d.terms.map (·.name) = nms d from rfl, hf] at hcl
                have HCL := (show Hid _ from hcl); clear hcl HTM hf
                have hlen := HI.out.len
                have HX := (show Hid _ from (⟨HI.out.rows.still (bel_alloc wr (.cells #[.int .i64 (i : Int)] 3)), bel_trans HI.out.bel (bel_alloc wr (.cells #[.int .i64 (i : Int)] 3)), HI.out.big⟩ : Rws (wr.alloc (.cells #[.int .i64 (i : Int)] 3)) (w1.heap.size + 1) ts ps (.slice a ts.length c) (.slice a' ps.length c') ∧ _ ∧ _))
                rw [ht] at HCL
                clear he ht
                go_wp2_with fail
                refine Calls.mono HCL.out ?_
                rintro e w2 ⟨rfl, rfl⟩
                simp only [plc]
                clear c0 c1 c4
                go_wp2_with (at_builtin; refine wpList_append_lies _ rfl (.tmp 60) (.tmp 62) 27 rfl (w1.heap.size + 1) 3 i3 _ 1 8 Try.underlying27 hi3 hz0 hz1 hz2 rfl (by decide) _ ts.length _ rfl HX.out.1.fst ⟨w2.heap.size, 0, none⟩ 1 1 [.int .i64 (i : Int)] rfl rfl ?c1 ?c2 (by decide) ?c3 (by omega) ?c4 _ rfl ?nx)
                case c1 => exact cell_one_new _ _ _
                case c2 => intro u hu; simp at hu; subst hu; rfl
                case c3 => unfold maxLen; omega
                case c4 => have := HX.out.2.2; simp; omega
                case nx =>
                  intro g3 cap3 w6 hown6 hgr6 hat6 hlt6
                  have HR6 := (show Hid _ from HX.out.1.grow1 (n := ts.length + 1) (World.size_alloc _ _) hown6 hgr6 hat6 rfl)
                  have hz6 : w1.heap.size < w6.heap.size := by have := HX.out.2.2; have := hgr6.size; simp at this; omega
                  have HB6 := (show Hid _ from grown_below' HX.out.2.1 hgr6 (fun b hb => by have h1 := (HX.out.1.fst.lt b hb).1; have := HB1.out.size; omega) (by have := HX.out.2.1.size; omega))
                  have HC6 := (show Hid _ from grown_cell hgr6 ((bel_alloc w2 _).cell (lt_of_cell HI.out.box) ▸ HI.out.box) (fun k hk => by have h1 := (HX.out.1.fst.lt k hk).1; show w1.heap.size ≠ k; omega))
                  have HX2 := (show Hid _ from (HR6.out.still (bel_alloc w6 (.cells #[.int .i64 (j : Int)] 3))))
                  clear hown6 hgr6 hat6 hlt6
                  go_wp2_with (at_builtin; refine wpList_append_lies _ rfl (.tmp 64) (.tmp 66) 27 rfl (w1.heap.size + 1) 3 i3 _ 1 8 Try.underlying27 hi3 hz0 hz1 hz2 rfl (by decide) _ ps.length _ rfl HX2.out.snd ⟨w6.heap.size, 0, none⟩ 1 1 [.int .i64 (j : Int)] rfl rfl ?c1 ?c2 (by decide) ?c3 (by omega) ?c4 _ rfl ?nx)
                  case c1 => exact cell_one_new _ _ _
                  case c2 => intro u hu; simp at hu; subst hu; rfl
                  case c3 => unfold maxLen; omega
                  case c4 => simp; omega
                  case nx =>
                    intro g4 cap4 w7 hown7 hgr7 hat7 hlt7
                    have HR7 := (show Hid _ from HX2.out.grow2 (n := ps.length + 1) (World.size_alloc _ _) hown7 hgr7 hat7 rfl)
                    have hb6' := bel_trans HB6.out (bel_alloc w6 (.cells #[.int .i64 (j : Int)] 3))
                    have HB7 := (show Hid _ from grown_below' hb6' hgr7 (fun b hb => by have h1 := (HX2.out.snd.lt b hb).1; have := HB1.out.size; omega) hb6'.size)
                    have HC7 := (show Hid _ from grown_cell hgr7 ((bel_alloc w6 _).cell (lt_of_cell HC6.out) ▸ HC6.out) (fun k hk => by have h1 := (HX2.out.snd.lt k hk).1; show w1.heap.size ≠ k; omega))
                    have hz7 : w1.heap.size < w7.heap.size := by have := hgr7.size; simp at this; omega
                    clear hown7 hgr7 hat7 hlt7 hb6'
                    go_wp2_with fail
                    exact ⟨⟨j + 1, ts ++ [(i : Int)], ps ++ [(j : Int)], _, _, _, _, by rw [List.length_append]; rfl, by rw [List.length_append]; rfl, by go_num, by omega, ⟨HB7.out, HC7.out, hz7, HR7.out, HE.out, by simp; omega, by simp; omega⟩⟩, by simp [intOf]; omega⟩
          · rw [hsk] at c4
            have HN := (show Hid (SpI w w1 d l (.slice a0 d.terms.length p0) RR (j + 1) ts ps (.slice a ts.length c) (.slice a' ps.length c') wr) from ⟨HI.out.bel, HI.out.box, HI.out.big, HI.out.rows, by rw [← tmGo_skip hjl hsk]; exact HI.out.eq, by have := HI.out.len.1; omega, by have := HI.out.len.2; omega⟩)
            clear hsk
            go_wp2_with fail
            exact ⟨⟨j + 1, ts, ps, a, c, a', c', rfl, rfl, by go_num, by omega, HN⟩, by simp [intOf]; omega⟩
        · have HE := (show Hid _ from (tmGo_end (nm := nms d) (ts := ts) (ps := ps) (by omega : l.length ≤ j)).symm.trans HI.out.eq)
          go_wp2_with fail
          rw [← HE.out]
          exact bodyPost_ret (v := .tuple #[.slice a ts.length c, .slice a' ps.length c', .int .i64 0]) (by simp [results, Try.results47, go_sem]) rfl (HI.out.rows.ans (by have := HB1.out.size; omega) HI.out.bel)
    · rw [if_neg (fun h => hle h.2)] at hRR
      subst hRR
      go_enter Try.func47, Try.ntmps47
      go_wp2_with fail
      refine Calls.mono HB.out ?_
      rintro e w1 ⟨rfl, hb1⟩
      have HB1 := (show Hid _ from bel_trans H0.out.1 hb1); clear hb1 q0 q1 q2 q3
      go_wp2_with fail
      refine bodyPost_ret (v := .tuple #[.slice (some ⟨w1.heap.size, 0, none⟩) 0 0, .slice (some ⟨w1.heap.size + 1, 0, none⟩) 0 0, .int .i64 1]) (by simp [results, Try.results47, go_sem]) rfl (ans_nil (bel_trans HB1.out (bel2 _ _ _)))
end Go.Proofs.Ytpmlagenakcdfaa
