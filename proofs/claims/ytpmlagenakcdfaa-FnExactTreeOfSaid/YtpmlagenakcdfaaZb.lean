import Derived.Test.YtpmlagenakcdfaaZa
import Derived.Deep.CutRange
/-! The program: leaves. -/
namespace Go.Proofs.Ytpmlagenakcdfaa
open Go.RowKit Go.Deep
set_option linter.unusedVariables false
set_option maxRecDepth 100000
set_option linter.unusedSimpArgs false

theorem info48y : (Try.prog.info? 48).map (fun i => (i.zero, i.size, i.bytes)) = some (some (.agg #[.string ByteArray.empty, .string ByteArray.empty, .bool false, .slice none 0 0]), 4, 64) := by kernel_rfl
/-- The length of a slice. -/
def lenOf : Value → Nat
  | .slice _ n _ => n
  | _ => 0
theorem Wds.next {w : World} {S : Nat → Prop} {x : Wd} {r : List Wd} {b off c : Nat} (h : Wds w S (x :: r) (.slice (some ⟨b, off, none⟩) (r.length + 1) c)) (an : Option Addr) (hn : c ≠ 1 → an = some ⟨b, off + 6, none⟩) : Wds w S r (.slice an r.length (c - 1)) := by
  obtain ⟨a, cap, b', off', hv, hc, hm, ha, hcell⟩ := h
  injection hv with e1 e2 e3
  subst e3
  have h0 := ha (by simp)
  rw [h0.1] at e1
  injection e1 with e1
  cases e1
  simp only [List.length_cons] at hc
  refine ⟨an, c - 1, b, off + 6, rfl, by omega, by omega, fun h1 => ⟨hn (by omega), h0.2⟩, fun i hi => ?_⟩
  have h1 := hcell (i + 1) (by simp; omega)
  rw [show off + (i + 1) * 6 = off + 6 + i * 6 by omega] at h1
  simpa using h1
/-- The program's writer of trees. -/
structure TwI (d : Bn) (S S' : Nat → Prop) (R : Nat) (v0 v1 v3 : Value) (w : World) (ws : List Wd) : Prop where
  box : ∃ vw, Box w R 96 [v0, v1, .int .i64 d.own, v3, vw] ∧ Wds w S' ws vw
  lies : BLies w S d v0 v1 v3
  ns : ∀ b, S b → b < R
  ns' : ∀ b, S' b → b < R
theorem TwI.lt {d : Bn} {S S' : Nat → Prop} {R : Nat} {v0 v1 v3 : Value} {w : World} {ws : List Wd} (h : TwI d S S' R v0 v1 v3 w ws) : R < w.heap.size := by
  obtain ⟨⟨vn, h1, _⟩, _⟩ := h
  exact h1.lt
theorem TwI.keep {d : Bn} {S S' : Nat → Prop} {R : Nat} {v0 v1 v3 : Value} {w w' : World} {ws : List Wd} (h : TwI d S S' R v0 v1 v3 w ws) (hb : ∀ b, b ≤ R → w'.heap[b]? = w.heap[b]?) : TwI d S S' R v0 v1 v3 w' ws := by
  obtain ⟨⟨vn, h1, h2⟩, h3, h4, h5⟩ := h
  exact ⟨⟨vn, h1.keep (hb R (Nat.le_refl _)), h2.keep (fun b hs _ => hb b (Nat.le_of_lt (h5 b hs)))⟩, h3.keep' (fun b hs _ => hb b (Nat.le_of_lt (h4 b hs))), h4, h5⟩
theorem TwI.still {d : Bn} {S S' : Nat → Prop} {R : Nat} {v0 v1 v3 : Value} {w w' : World} {ws : List Wd} (h : TwI d S S' R v0 v1 v3 w ws) (hb : Below w.heap.size w w') : TwI d S S' R v0 v1 v3 w' ws := h.keep (fun b hb2 => hb.block b (by have := h.lt; omega))
/-- One word is taken. -/
theorem TwI.next {d : Bn} {S S' : Nat → Prop} {R : Nat} {v0 v1 v3 : Value} {w : World} {x : Wd} {r : List Wd} {b off c : Nat} (hbx : Box w R 96 [v0, v1, .int .i64 d.own, v3, .slice (some ⟨b, off, none⟩) (r.length + 1) c]) (hw : Wds w S' (x :: r) (.slice (some ⟨b, off, none⟩) (r.length + 1) c)) (hl : BLies w S d v0 v1 v3) (hn : ∀ b, S b → b < R) (hn' : ∀ b, S' b → b < R) (an : Option Addr) (ha : c ≠ 1 → an = some ⟨b, off + 6, none⟩) : TwI d S S' R v0 v1 v3 (w.setCell ⟨R, 4, none⟩ (.slice an r.length (c - 1))) r := by
  have hq : ∀ q, q < R → (w.setCell ⟨R, 4, none⟩ (.slice an r.length (c - 1))).heap[q]? = w.heap[q]? := fun q hq => Below.heap_setCell _ _ _ _ (by show q ≠ R; omega)
  exact ⟨⟨_, hbx.set 4 _, (hw.next an ha).keep (fun q hs _ => hq q (hn' q hs))⟩, hl.keep' (fun q hs _ => hq q (hn q hs)), hn, hn'⟩
/-- A row of Kids that grows, past blocks that are none of theirs. -/
def GrF (F : Nat → Prop) (k : List T.Tr) (B : Nat) (v : Value) (w : World) : Prop :=
  ∃ (fs : Nat → Value) (l h : Nat → Nat), w.ownsRow B 48 4 v k.length (T.kc k fs k.length) ∧ (∀ i, i < k.length → T.Own w (l i) (h i) (T.nth k i) (fs i)) ∧
    (∀ i, i < k.length → B ≤ l i ∧ h i ≤ w.heap.size ∧ ∀ g, v.ownBlock = some g → g < l i ∨ h i ≤ g) ∧ (∀ i i', i < i' → i' < k.length → h i ≤ l i') ∧
    ∀ q, F q → q < w.heap.size ∧ v.ownBlock ≠ some q ∧ ∀ i, i < k.length → q < l i ∨ h i ≤ q
theorem GrF.grw {F : Nat → Prop} {k : List T.Tr} {B : Nat} {v : Value} {w : World} (h : GrF F k B v w) : T.Grw k B k.length v w := by
  obtain ⟨fs, l, hh, h1, h2, h3, h4, _⟩ := h
  exact ⟨fs, l, hh, h1, h2, h3, h4⟩
/-- No block. -/
abbrev NF : Nat → Prop := fun _ => False
theorem GrF.of {k : List T.Tr} {B : Nat} {v : Value} {w : World} (h : T.Grw k B k.length v w) : GrF NF k B v w := by
  obtain ⟨fs, l, hh, h1, h2, h3, h4⟩ := h
  exact ⟨fs, l, hh, h1, h2, h3, h4, fun q hq => hq.elim⟩
theorem GrF.carry {F : Nat → Prop} {k : List T.Tr} {B : Nat} {v : Value} {w w' : World} (h : GrF F k B v w) (hs : w.heap.size ≤ w'.heap.size) (hk : ∀ q, B ≤ q → q < w.heap.size → ¬ F q → w'.heap[q]? = w.heap[q]?) (hF : ∀ q, F q → ∀ p, p = q → True) : GrF F k B v w' := by
  classical
  obtain ⟨fs, l, hh, h1, h2, h3, h4, h5⟩ := h
  refine ⟨fs, l, hh, own_keep1 h1 (fun q hq => hk q (World.ownsRow.lt h1 q hq).1 (World.ownsRow.lt h1 q hq).2 (fun hf => (h5 q hf).2.1 hq)), fun i hi => (h2 i hi).keep (Nat.le_refl _) (Nat.le_refl _) (fun q a1 a2 a3 => hk q (by have := (h3 i hi).1; omega) a3 (fun hf => by have := (h5 q hf).2.2 i hi; omega)), fun i hi => ⟨(h3 i hi).1, by have := (h3 i hi).2.1; omega, (h3 i hi).2.2⟩, h4, fun q hq => ⟨by have := (h5 q hq).1; omega, (h5 q hq).2⟩⟩
/-- What stands in a round. -/
structure LvI (F : Nat → Prop) (d : Bn) (S S' : Nat → Prop) (R B : Nat) (v0 v1 v3 : Value) (w wr : World) (ws' : List Wd) (k' : List T.Tr) (u : Value) : Prop where
  kp : Kp B R w wr
  tw : TwI d S S' R v0 v1 v3 wr ws'
  gf : GrF F k' B u wr
  kf : ∀ q, F q → wr.heap[q]? = w.heap[q]?
theorem LvI.gr {F : Nat → Prop} {d : Bn} {S S' : Nat → Prop} {R B : Nat} {v0 v1 v3 : Value} {w wr : World} {ws' : List Wd} {k' : List T.Tr} {u : Value} (h : LvI F d S S' R B v0 v1 v3 w wr ws' k' u) : T.Grw k' B k'.length u wr := h.gf.grw
theorem LvI.step {F : Nat → Prop} {R B : Nat} {w wr w2 w3 : World} {k' : List T.Tr} {u kv : Value} {t : T.Tr} {g cap a c : Nat} {fs : Nat → Value} {l hh : Nat → Nat} (hRB : R < B) (hBw : B ≤ w.heap.size) (hk : Kp B R w wr)
    (hown : wr.ownsRow B 48 4 u k'.length (T.kc (k' ++ [t]) fs k'.length)) (hls : ∀ i, i < k'.length → T.Own wr (l i) (hh i) (T.nth (k' ++ [t]) i) (fs i))
    (hr : ∀ i, i < k'.length → B ≤ l i ∧ hh i ≤ wr.heap.size ∧ ∀ g, u.ownBlock = some g → g < l i ∨ hh i ≤ g) (hd : ∀ i i', i < i' → i' < k'.length → hh i ≤ l i')
    (hf : ∀ q, F q → q < wr.heap.size ∧ u.ownBlock ≠ some q ∧ ∀ i, i < k'.length → q < l i ∨ hh i ≤ q)
    (hk2 : Kp wr.heap.size R wr w2) (hu : T.Own w2 a c t kv) (ha : wr.heap.size ≤ a) (hc : c ≤ w2.heap.size)
    (hown3 : w3.ownsRow B 48 4 (.slice (some ⟨g, 0, none⟩) (k'.length + 1) cap) (k'.length + 1) (T.kc (k' ++ [t]) fs k'.length ++ [.string t.name, .string t.text, .bool t.leaf, kv]))
    (hgr : w2.grownBy w3 u.ownBlock) (hat : u.ownBlock = some g ∨ g = w2.heap.size) :
    Kp B R w w3 ∧ GrF F (k' ++ [t]) B (.slice (some ⟨g, 0, none⟩) (k'.length + 1) cap) w3 ∧ (∀ q, q < B → w3.heap[q]? = w2.heap[q]?) ∧ (∀ q, F q → q ≠ R → w3.heap[q]? = wr.heap[q]?) := by
  have hs1 := hk.size
  have hs2 := hk2.size
  have hs3 := hgr.size
  have hrow : ∀ q, u.ownBlock = some q → B ≤ q ∧ q < wr.heap.size := fun q hq => World.ownsRow.lt hown q hq
  have hlow : ∀ q, q < B → w3.heap[q]? = w2.heap[q]? := fun q hq => hgr.block q (by omega) (fun e => by have := (hrow q e.symm).1; omega)
  have hnt : T.nth (k' ++ [t]) k'.length = t := by simp [T.nth]
  have hlen : (k' ++ [t]).length = k'.length + 1 := by simp
  refine ⟨⟨(hgr.os.trans hk2.os).trans hk.os, (hgr.tape.trans hk2.tape).trans hk.tape, (hgr.output.trans hk2.output).trans hk.output, by omega, fun q h1 h2 => ?_⟩, ?_, hlow, fun q hq hne => ?_⟩
  · rw [hlow q h1, hk2.block q (by omega) h2, hk.block q h1 h2]
  · have hls2 : ∀ i, i < k'.length → T.Own w2 (l i) (hh i) (T.nth (k' ++ [t]) i) (fs i) := fun i hi => (hls i hi).keep (Nat.le_refl _) (Nat.le_refl _) (fun q h1 h2 h3 => hk2.block q h3 (by have := (hr i hi).1; omega))
    refine ⟨fun i => if i = k'.length then kv else fs i, fun i => if i = k'.length then a else l i, fun i => if i = k'.length then c else hh i, ?_, fun i hi => ?_, fun i hi => ?_, fun i i' hii hi' => ?_, fun q hq => ?_⟩
    · rw [hlen, T.kc, T.kc_congr (k' ++ [t]) (fs := fun i => if i = k'.length then kv else fs i) (gs := fs) k'.length (fun i hi => if_neg (by omega)), hnt]
      simp only [if_true]
      exact hown3
    · rw [hlen] at hi
      by_cases e : i = k'.length
      · subst e
        simp only [if_true, hnt]
        exact hu.keep (Nat.le_refl _) (Nat.le_refl _) (fun q h1 h2 h3 => hgr.block q h3 (fun e => by have := (hrow q e.symm).2; omega))
      · simp only [if_neg e]
        have hri := hr i (by omega)
        exact (hls2 i (by omega)).keep (Nat.le_refl _) (Nat.le_refl _) (fun q h1 h2 h3 => hgr.block q h3 (fun e => by have := hri.2.2 q e.symm; omega))
    · rw [hlen] at hi
      refine ⟨?_, ?_, fun q hq => ?_⟩
      · dsimp only
        split
        · omega
        · exact (hr i (by omega)).1
      · dsimp only
        split
        · omega
        · have := (hr i (by omega)).2.1; omega
      · simp [Value.ownBlock] at hq
        subst hq
        dsimp only
        split
        · rcases hat with e | e
          · have := (hrow g e).2; omega
          · omega
        · have hri := hr i (by omega)
          rcases hat with e | e
          · exact hri.2.2 g e
          · omega
    · rw [hlen] at hi'
      dsimp only
      by_cases e : i' = k'.length
      · subst e
        rw [if_pos rfl, if_neg (by omega)]
        have := (hr i (by omega)).2.1
        omega
      · rw [if_neg e, if_neg (by omega)]; exact hd i i' hii (by omega)
    · obtain ⟨q1, q2, q3⟩ := hf q hq
      refine ⟨by omega, fun e => ?_, fun i hi => ?_⟩
      · simp [Value.ownBlock] at e
        subst e
        rcases hat with e | e
        · exact q2 e
        · omega
      · rw [hlen] at hi
        dsimp only
        by_cases e : i = k'.length
        · subst e
          rw [if_pos rfl, if_pos rfl]
          left; omega
        · rw [if_neg e, if_neg e]
          exact q3 i (by omega)
  · obtain ⟨q1, q2, q3⟩ := hf q hq
    rw [hgr.block q (by omega) (fun e => q2 e.symm), hk2.block q q1 hne]
theorem GrF.ext {F : Nat → Prop} {k : List T.Tr} {B : Nat} {v : Value} {w : World} (h : GrF F k B v w) (r : List T.Tr) : ∃ (fs : Nat → Value) (l hh : Nat → Nat), w.ownsRow B 48 4 v k.length (T.kc (k ++ r) fs k.length) ∧ (∀ i, i < k.length → T.Own w (l i) (hh i) (T.nth (k ++ r) i) (fs i)) ∧
    (∀ i, i < k.length → B ≤ l i ∧ hh i ≤ w.heap.size ∧ ∀ g, v.ownBlock = some g → g < l i ∨ hh i ≤ g) ∧ (∀ i i', i < i' → i' < k.length → hh i ≤ l i') ∧ ∀ q, F q → q < w.heap.size ∧ v.ownBlock ≠ some q ∧ ∀ i, i < k.length → q < l i ∨ hh i ≤ q := by
  obtain ⟨fs, l, hh, h1, h2, h3, h4, h5⟩ := h
  exact ⟨fs, l, hh, by rw [T.kc_ext k r fs _ (Nat.le_refl _)]; exact h1, fun i hi => by rw [T.nth_ext k r hi]; exact h2 i hi, h3, h4, h5⟩
set_option maxHeartbeats 6400000 in
theorem leaves_i {F S S' : Nat → Prop} {R B : Nat} (hFR : ∀ q, F q → q ≠ R) {v0 v1 v3 : Value} (d : Bn) (ws : List Wd) (k : List T.Tr) (u : Value) (w : World) (h : TwI d S S' R v0 v1 v3 w ws) (hRB : R < B) (hB : B ≤ w.heap.size) (hg : GrF F k B u w) (hl : k.length + ws.length ≤ 1000000) :
    Calls Try.prog 56 #[.pointer (some ⟨R, 0, none⟩), u] w fun e w' => ∃ u', e = .returned u' ∧ LvI F d S S' R B v0 v1 v3 w w' (lvs ws).2 (k ++ (lvs ws).1) u' := by
  have HI0 := (show Hid (LvI F d S S' R B v0 v1 v3 w w ws k u) from ⟨Kp.refl _ _ _, h, hg, fun _ _ => rfl⟩)
  obtain ⟨i48, hi48, hzz⟩ := Option.map_eq_some_iff.1 info48y
  simp only [Prod.mk.injEq] at hzz
  obtain ⟨hz0, hz1, hz2⟩ := hzz
  have HT := (show Hid (k.length + (lvs ws).1.length ≤ 1000000) from by have := lvs_len ws; show _ ≤ _; omega)
  have HB := (show Hid _ from (⟨hRB, hB⟩ : _ ∧ _))
  clear h hg hRB hB hl
  go_enter Try.func56, Try.ntmps56
  go_wp2_with fail
  go_loopw [1, 5] (fun u' sk wr => ∃ (b : Bool) (ws' : List Wd) (k' : List T.Tr) (au : Option Addr) (cu : Nat), sk = .bool b ∧ u' = .slice au k'.length cu ∧ Hid (LvI F d S S' R B v0 v1 v3 w wr ws' k' (.slice au k'.length cu) ∧ (b = true → k' ++ (lvs ws').1 = k ++ (lvs ws).1 ∧ (lvs ws').2 = (lvs ws).2) ∧ (b = false → k' = k ++ (lvs ws).1 ∧ ws' = (lvs ws).2))) (fun u' _ _ => k.length + (lvs ws).1.length - lenOf u')
  case atStart =>
    obtain ⟨fs, l, hh, ho, _⟩ := HI0.out.gf
    obtain ⟨au, cu, e⟩ := T.own_slice ho
    subst e
    exact ⟨true, ws, k, au, cu, rfl, rfl, HI0.out, fun _ => ⟨rfl, rfl⟩, fun h => by cases h⟩
  case round =>
    obtain ⟨b, ws', k', au, cu, rfl, rfl, HJ⟩ := hrel
    have HLI := (show Hid _ from HJ.out.1)
    obtain ⟨vw, hbx, hws⟩ := HLI.out.tw.box
    cases b
    · have HE := (show Hid _ from HJ.out.2.2 rfl)
      clear hbx hws HJ
      go_wp2_with fail
      go_ret
      exact ⟨_, rfl, by rw [← HE.out.1, ← HE.out.2]; exact HLI.out⟩
    · have HE := (show Hid _ from HJ.out.2.1 rfl)
      clear HJ
      have y4 : wr.cell? ⟨R, 4, none⟩ = some vw := hbx.cell 4 (by simp)
      cases ws' with
      | nil =>
        obtain ⟨a, cap, bw, ow, rfl, hcw, hmw, haw, hcellw⟩ := hws
        have HE2 : Hid (k' = k ++ (lvs ws).1 ∧ [] = (lvs ws).2) := ⟨by have := HE.out.1; simpa [lvs] using this, by have := HE.out.2; simpa [lvs] using this⟩
        clear hbx hcellw haw hcw HE
        go_wp2_with fail
        go_ret
        exact ⟨_, rfl, by rw [← HE2.out.1, ← HE2.out.2]; exact HLI.out⟩
      | cons x r =>
        have HWS := (show Hid _ from hws)
        obtain ⟨a, cap, bw, ow, rfl, hcw, hmw, haw, hcellw⟩ := hws
        obtain ⟨rfl, hSw⟩ := haw (by simp)
        obtain ⟨c0, c1, c2, c3, c4, c5, s0, s1, s2⟩ := hcellw 0 (by simp)
        simp only [List.getElem_cons_zero, Nat.zero_mul, Nat.add_zero] at c0 c1 c2 c3 c4 c5 s0 s1 s2
        have HBX := (show Hid _ from hbx)
        unfold maxLen at hmw
        simp only [List.length_cons] at hcw y4
        obtain ⟨fs, l, hh, ho, hls, hr, hd, hff⟩ := (GrF.ext HLI.out.gf [lf x])
        have hba := bel_trans (bel_alloc wr (.cells #[.string x.name, .string x.text, .int .i64 x.at_, .int .i64 x.reach, .bool x.skip, .string x.modes] 93)) (bel_alloc _ (.cells #[.string x.name, .string x.text, .bool true, .slice none 0 0] 48))
        have HO1 := (show Hid _ from own_keep1 ho (fun q hq => hba.block q (World.ownsRow.lt ho q hq).2))
        have hlen : k'.length + 1 ≤ k.length + (lvs ws).1.length := by
          have h1 := congrArg List.length HE.out.1
          simp only [List.length_append] at h1
          have h2 : 1 ≤ (lvs (x :: r)).1.length := by unfold lvs; split <;> simp
          omega
        have HLEN := (show Hid _ from hlen)
        have HG := (show Hid _ from (⟨ho, hls, hr, hd, hff⟩ : _ ∧ _ ∧ _ ∧ _ ∧ _))
        have HFR := (show Hid _ from hFR)
        have HBA := (show Hid _ from hba)
        have hk1 : k'.length ≤ 1000000 := by have := HT.out; omega
        clear ho hls hr hd hff hba hcellw haw hlen hbx
        obtain ⟨an1, hif⟩ : ∃ an1, (if cap = 1 then (some ⟨bw, ow, none⟩ : Option Addr) else some ⟨bw, ow + 6, none⟩) = an1 := ⟨_, rfl⟩
        go_wp2_with (at_builtin; refine wpList_append_lies _ rfl (.tmp 22) (.tmp 28) 46 rfl B 48 i48 _ 4 64 Try.underlying46 hi48 hz0 hz1 hz2 rfl (by decide) _ k'.length _ rfl HO1.out ⟨wr.heap.size + 1, 0, none⟩ 1 1 [.string x.name, .string x.text, .bool true, .slice none 0 0] rfl rfl ?c1 ?c2 (by decide) ?c3 ?c5 ?c4 _ rfl ?nx)
        case c1 =>
          have hn := T.cell_four_box (wr.alloc (.cells #[.string x.name, .string x.text, .int .i64 x.at_, .int .i64 x.reach, .bool x.skip, .string x.modes] 93)) (.string x.name) (.string x.text) (.bool true) (.slice none 0 0) 48
          simp only [World.size_alloc] at hn
          exact hn
        case c2 => intro y hy; simp at hy; rcases hy with rfl | rfl | rfl | rfl <;> rfl
        case c3 => unfold maxLen; omega
        case c5 => omega
        case c4 => have h1 := HLI.out.kp.size; have h2 := HB.out.2; simp; omega
        case nx =>
          intro g7 cap7 w7 hown7 hgr7 hat7 hlt7
          obtain ⟨hkp7, hg7, hlow, hkf7⟩ := LvI.step (F := F) (kv := .slice none 0 0) HB.out.1 HB.out.2 HLI.out.kp HG.out.1 HG.out.2.1 HG.out.2.2.1 HG.out.2.2.2.1 HG.out.2.2.2.2 (Below.kp HBA.out R) (show T.Own _ wr.heap.size wr.heap.size (lf x) (.slice none 0 0) from T.own_leaf _ _ _ _ _ s0 s1) (Nat.le_refl _) HBA.out.size hown7 hgr7 (by simpa using hat7)
          have hRs : R < wr.heap.size := HLI.out.tw.lt
          have hb7 : Box w7 R 96 [v0, v1, .int .i64 d.own, v3, .slice (some ⟨bw, ow, none⟩) (r.length + 1) cap] := (HBX.out.still HBA.out).keep (hlow R HB.out.1)
          have hw7 : Wds w7 S' (x :: r) (.slice (some ⟨bw, ow, none⟩) (r.length + 1) cap) := Wds.keep (Wds.still HWS.out HBA.out) (fun q hs _ => hlow q (by have := HLI.out.tw.ns' q hs; have := HB.out.1; omega))
          have hl7 := (HLI.out.tw.lies.still HBA.out).keep' (w' := w7) (fun q hs _ => hlow q (by have := HLI.out.tw.ns q hs; have := HB.out.1; omega))
          have y7 : w7.cell? ⟨R, 4, none⟩ = some (.slice (some ⟨bw, ow, none⟩) (r.length + 1) cap) := hb7.cell 4 (by simp)
          have z7 : w7.frozen? ⟨R, 4, none⟩ = false := hb7.frozen 4
          have hbn := (Box.new wr 93 [.string x.name, .string x.text, .int .i64 x.at_, .int .i64 x.reach, .bool x.skip, .string x.modes]).still (bel_alloc _ (.cells #[.string x.name, .string x.text, .bool true, .slice none 0 0] 48))
          have hb8 : Box w7 wr.heap.size 93 [.string x.name, .string x.text, .int .i64 x.at_, .int .i64 x.reach, .bool x.skip, .string x.modes] := hbn.keep (hgr7.block _ (by simp; omega) (fun e => by have := (World.ownsRow.lt HG.out.1 _ e.symm).2; omega))
          have m4 : w7.cell? ⟨wr.heap.size, 4, none⟩ = some (.bool x.skip) := hb8.cell 4 (by simp)
          have hne : ¬ wr.heap.size = R := by omega
          have HTN := (show Hid _ from TwI.next hb7 hw7 hl7 HLI.out.tw.ns HLI.out.tw.ns' an1 (fun h => by rw [← hif, if_neg h]))
          have HNX : Hid (LvI F d S S' R B v0 v1 v3 w (w7.setCell ⟨R, 4, none⟩ (.slice an1 r.length (cap - 1))) r (k' ++ [lf x]) (.slice (some ⟨g7, 0, none⟩) (k'.length + 1) cap7)) := ⟨hkp7.setCell (.inl rfl) _, HTN.out, hg7.carry (by simp [World.setCell]) (fun q hq _ _ => Below.heap_setCell _ _ _ _ (by show q ≠ R; have := HB.out.1; omega)) (fun _ _ _ _ => trivial), fun q hq => (Below.heap_setCell _ _ _ _ (by show q ≠ R; exact HFR.out q hq)).trans ((hkf7 q hq (HFR.out q hq)).trans (HLI.out.kf q hq))⟩
          have HR : Hid ((x.skip = true → (k' ++ [lf x]) ++ (lvs r).1 = k ++ (lvs ws).1 ∧ (lvs r).2 = (lvs ws).2) ∧ (x.skip = false → k' ++ [lf x] = k ++ (lvs ws).1 ∧ r = (lvs ws).2)) := by
            obtain ⟨h1, h2⟩ := HE.out
            refine ⟨fun hs => ?_, fun hs => ?_⟩
            · simp only [lvs, if_pos hs] at h1 h2
              exact ⟨by rw [← h1]; simp, h2⟩
            · simp only [lvs, hs, Bool.false_eq_true, if_false] at h1 h2
              exact ⟨h1, h2⟩
          clear hkp7 hg7 hlow hkf7 hb7 hw7 hl7 hbn hb8 hown7 hgr7 hat7 hlt7 HG HBA HO1 HWS HBX y4 c0 c1 c2 c3 c4 c5
          go_wp2_with fail
          exact ⟨⟨x.skip, r, k' ++ [lf x], some ⟨g7, 0, none⟩, cap7, rfl, by simp, by simpa using HNX.out, HR.out.1, HR.out.2⟩, by have := HLEN.out; simp [lenOf]; omega⟩
end Go.Proofs.Ytpmlagenakcdfaa
