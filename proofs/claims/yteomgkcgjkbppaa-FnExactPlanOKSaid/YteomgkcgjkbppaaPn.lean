import Derived.Test.YteomgkcgjkbppaaPt
import Derived.Test.YteomgkcgjkbppaaPs
/-! Matching: plain mathematics. -/
namespace Go.Proofs.Yteomgkcgjkbppaa
set_option linter.unusedVariables false
set_option maxRecDepth 100000
set_option linter.unusedSimpArgs false

def eqK : List (Tr → Bool) → List Tr → Bool
  | [], [] => true
  | f :: fs, t :: ts => f t && eqK fs ts
  | _, _ => false
/-- Two trees are the same. -/
def eqT : Tr → Tr → Bool := Tr.fold fun n x lf fs => fun t => eqS n t.name && (eqS x t.text && ((lf == t.leaf) && eqK fs t.kids))
theorem eqT_mk (n x : ByteArray) (lf : Bool) (k : List Tr) (t : Tr) : eqT ⟨n, x, lf, k⟩ t = (eqS n t.name && (eqS x t.text && ((lf == t.leaf) && eqK (k.map eqT) t.kids))) := by
  unfold eqT
  rw [Tr.fold_mk]
theorem eqK_iff : ∀ (k m : List Tr), (∀ i (hi : i < k.length) u, eqT k[i] u = true ↔ k[i] = u) → (eqK (k.map eqT) m = true ↔ k = m)
  | [], [], _ => by simp [eqK]
  | [], _ :: _, _ => by simp [eqK]
  | _ :: _, [], _ => by simp [eqK]
  | t :: r, u :: m, h => by
    have h0 := h 0 (by simp) u
    simp only [List.getElem_cons_zero] at h0
    have h1 := eqK_iff r m (fun i hi v => by have := h (i + 1) (by simp; omega) v; simpa using this)
    rw [List.map_cons, eqK, Bool.and_eq_true, h0, h1, List.cons.injEq]
theorem eqT_iff (t : Tr) : ∀ u, eqT t u = true ↔ t = u := by
  refine Tr.ind (P := fun t => ∀ u, eqT t u = true ↔ t = u) ?_ t
  intro n x lf k ih u
  obtain ⟨n', x', lf', k'⟩ := u
  rw [eqT_mk]
  dsimp only
  rw [Bool.and_eq_true, Bool.and_eq_true, Bool.and_eq_true, eqS_iff, eqS_iff, eqK_iff k k' (fun i hi v => ih i hi v), beq_iff_eq, Tr.mk.injEq]
theorem eqT_no {t u : Tr} (h : ¬ t = u) : eqT t u = false := by
  cases e : eqT t u
  · rfl
  · exact absurd ((eqT_iff t u).1 e) h
/-- What a name is bound to. -/
def look : List (ByteArray × Tr) → ByteArray → Option Tr
  | [], _ => none
  | b :: bl, s => if eqS b.1 s = true then some b.2 else look bl s
theorem look_none {bl : List (ByteArray × Tr)} {s : ByteArray} (h : ∀ i (hi : i < bl.length), ¬ bl[i].1 = s) : look bl s = none := by
  induction bl with
  | nil => rfl
  | cons b r ih =>
    have h0 : ¬ b.1 = s := h 0 (by simp)
    rw [look, if_neg (by rw [eqS_no h0]; simp)]
    exact ih (fun i hi => by have := h (i + 1) (by simp; omega); simpa using this)
theorem look_at {bl : List (ByteArray × Tr)} {s : ByteArray} {j : Nat} (hj : j < bl.length) (h : ∀ i (hi : i < bl.length), i < j → ¬ bl[i].1 = s) (he : bl[j].1 = s) : look bl s = some bl[j].2 := by
  induction bl generalizing j with
  | nil => exact absurd hj (Nat.not_lt_zero _)
  | cons b r ih =>
    cases j with
    | zero =>
      simp only [List.getElem_cons_zero] at he ⊢
      rw [look, if_pos (by rw [he]; exact eqS_refl s)]
    | succ j =>
      have h0 : ¬ b.1 = s := h 0 (by simp) (by omega)
      rw [look, if_neg (by rw [eqS_no h0]; simp)]
      simp only [List.getElem_cons_succ] at he ⊢
      exact ih (by simpa using hj) (fun i hi hij => by have := h (i + 1) (by simp; omega) (by omega); simpa using this) he
/-- What a variable's place comes to. -/
def mtV (x : ByteArray) (t : Tr) (bl : List (ByteArray × Tr)) : List (ByteArray × Tr) × Bool :=
  match look bl x with
  | some u => (bl, eqT u t)
  | none => (bl ++ [(x, t)], true)
def mtK : List (Tr → List (ByteArray × Tr) → List (ByteArray × Tr) × Bool) → List Tr → List (ByteArray × Tr) → List (ByteArray × Tr) × Bool
  | f :: fs, t :: ts, bl => if (f t bl).2 = true then mtK fs ts (f t bl).1 else ((f t bl).1, false)
  | _, _, bl => (bl, true)
/-- The head of a pattern is the head of a tree. -/
def hdB (n x : ByteArray) (lf : Bool) (m : Nat) (t : Tr) : Bool := eqS n t.name && ((lf == t.leaf) && (eqS x t.text && decide (m = t.kids.length)))
/-- A tree is a pattern, with what is bound so far. -/
def mtT : Tr → Tr → List (ByteArray × Tr) → List (ByteArray × Tr) × Bool := Tr.fold fun n x lf fs => fun t bl => if vrB n lf = true then mtV x t bl else if hdB n x lf fs.length t = true then mtK fs t.kids bl else (bl, false)
theorem mtT_mk (n x : ByteArray) (lf : Bool) (k : List Tr) (t : Tr) (bl : List (ByteArray × Tr)) : mtT ⟨n, x, lf, k⟩ t bl = if vrB n lf = true then mtV x t bl else if hdB n x lf k.length t = true then mtK (k.map mtT) t.kids bl else (bl, false) := by
  unfold mtT
  rw [Tr.fold_mk, List.length_map]
theorem mtV_len (x : ByteArray) (t : Tr) (bl : List (ByteArray × Tr)) : (mtV x t bl).1.length ≤ bl.length + 1 := by
  unfold mtV
  split <;> simp
theorem mtK_len : ∀ (k ts : List Tr) (bl : List (ByteArray × Tr)), (∀ i (hi : i < k.length) t bl, (mtT k[i] t bl).1.length ≤ bl.length + k[i].cnt) → (mtK (k.map mtT) ts bl).1.length ≤ bl.length + Tr.cntL k
  | [], ts, bl, _ => by simp [mtK]
  | _ :: _, [], bl, _ => by simp [mtK]
  | p :: r, t :: ts, bl, h => by
    have h0 := h 0 (by simp) t bl
    simp only [List.getElem_cons_zero] at h0
    have h1 := mtK_len r ts (mtT p t bl).1 (fun i hi u m => by have := h (i + 1) (by simp; omega) u m; simpa using this)
    have e : Tr.cntL (p :: r) = p.cnt + Tr.cntL r := by simp [Tr.cntL]
    rw [List.map_cons, mtK]
    split
    · omega
    · dsimp only; omega
theorem mtT_len (p : Tr) : ∀ t bl, (mtT p t bl).1.length ≤ bl.length + p.cnt := by
  refine Tr.ind (P := fun p => ∀ t bl, (mtT p t bl).1.length ≤ bl.length + p.cnt) ?_ p
  intro n x lf k ih t bl
  rw [mtT_mk, Tr.cnt_mk]
  split
  · have := mtV_len x t bl
    omega
  · split
    · have := mtK_len k t.kids bl (fun i hi u m => ih i hi u m)
      omega
    · dsimp only; omega
theorem mtK_step {k ts : List Tr} {j : Nat} (h : j < k.length) (h' : j < ts.length) (bl : List (ByteArray × Tr)) : mtK ((k.drop j).map mtT) (ts.drop j) bl = if (mtT k[j] ts[j] bl).2 = true then mtK ((k.drop (j + 1)).map mtT) (ts.drop (j + 1)) (mtT k[j] ts[j] bl).1 else ((mtT k[j] ts[j] bl).1, false) := by
  rw [List.drop_eq_getElem_cons h, List.drop_eq_getElem_cons h', List.map_cons, mtK]
/-- What Match answers. -/
def maR (p t : Tr) : List (ByteArray × Tr) × Bool × Int :=
  if (patB p && t.ok) = true then (if (mtT p t []).2 = true then ((mtT p t []).1, true, 0) else ([], false, 0)) else ([], false, 1)
end Go.Proofs.Yteomgkcgjkbppaa

/-! The specification: l01Same. -/
namespace Go.Proofs.Yteomgkcgjkbppaa
open Go.RowKit Go.Deep Go.Lib
set_option linter.unusedVariables false
set_option maxRecDepth 100000
set_option linter.unusedSimpArgs false

/-- The cells of two trees in two rows, and the two boxes' rows. -/
def Held8 (h : Nat) (s1 s2 : Value) (b1 o1 b2 o2 : Nat) (n1 x1 : ByteArray) (l1 : Bool) (v1 : Value) (n2 x2 : ByteArray) (l2 : Bool) (v2 : Value) (wq : World) : Prop :=
  wq.cell? ⟨h, 3, none⟩ = some s1 ∧ wq.cell? ⟨h + 1, 3, none⟩ = some s2 ∧ (wq.cell? ⟨b1, o1, none⟩ = some (.string n1) ∧ wq.cell? ⟨b1, o1 + 1, none⟩ = some (.string x1) ∧ wq.cell? ⟨b1, o1 + 2, none⟩ = some (.bool l1) ∧ wq.cell? ⟨b1, o1 + 3, none⟩ = some v1) ∧ wq.cell? ⟨b2, o2, none⟩ = some (.string n2) ∧ wq.cell? ⟨b2, o2 + 1, none⟩ = some (.string x2) ∧ wq.cell? ⟨b2, o2 + 2, none⟩ = some (.bool l2) ∧ wq.cell? ⟨b2, o2 + 3, none⟩ = some v2
theorem Held8.still {h : Nat} {s1 s2 : Value} {b1 o1 b2 o2 : Nat} {n1 x1 : ByteArray} {l1 : Bool} {v1 : Value} {n2 x2 : ByteArray} {l2 : Bool} {v2 : Value} {w w' : World} (H : Held8 h s1 s2 b1 o1 b2 o2 n1 x1 l1 v1 n2 x2 l2 v2 w) (hb : Below w.heap.size w w') : Held8 h s1 s2 b1 o1 b2 o2 n1 x1 l1 v1 n2 x2 l2 v2 w' := by
  have e : ∀ {b o : Nat} {v : Value}, w.cell? ⟨b, o, none⟩ = some v → w'.cell? ⟨b, o, none⟩ = some v := fun h => (hb.cell (lt_of_cell h)).trans h
  obtain ⟨h0, h1, ⟨h2, h3, h4, h5⟩, h6, h7, h8, h9⟩ := H
  exact ⟨e h0, e h1, ⟨e h2, e h3, e h4, e h5⟩, e h6, e h7, e h8, e h9⟩
set_option maxHeartbeats 1600000 in
theorem same71 {S S' : Nat → Prop} (t : Tr) : ∀ (u : Tr) (v v' : Value) (w : World), Lies w S t v → Lies w S' u v' →
    Calls Try.prog 71 #[t.val v, u.val v'] w fun e w' => e = .returned (.bool (eqT t u)) ∧ Below w.heap.size w w' := by
  refine Tr.ind (P := fun t => ∀ (u : Tr) (v v' : Value) (w : World), Lies w S t v → Lies w S' u v' → Calls Try.prog 71 #[t.val v, u.val v'] w fun e w' => e = .returned (.bool (eqT t u)) ∧ Below w.heap.size w w') ?_ t
  intro n x l k ih u v v' w h1 h2
  obtain ⟨n', x', l', k'⟩ := u
  have HEQ := (show Hid (eqT ⟨n, x, l, k⟩ ⟨n', x', l', k'⟩ = true ↔ (⟨n, x, l, k⟩ : Tr) = ⟨n', x', l', k'⟩) from eqT_iff _ _)
  have HNO := (show Hid (¬ (n = n' ∧ x = x' ∧ l = l' ∧ k = k') → eqT ⟨n, x, l, k⟩ ⟨n', x', l', k'⟩ = false) from fun h => eqT_no (fun e => h (by simpa [Tr.mk.injEq] using e)))
  obtain ⟨a1, cap1, b1, off1, sv1, rfl, _, _, hc1, hm1, ha1, hcell1, hk1⟩ := h1.out
  obtain ⟨a2, cap2, b2, off2, sv2, rfl, _, _, hc2, hm2, ha2, hcell2, hk2⟩ := h2.out
  dsimp only at hc1 ha1 hcell1 hk1 hc2 ha2 hcell2 hk2 ⊢
  have HI := (show Hid _ from ih); clear ih
  have HC := (show Hid _ from (⟨hcell1, hcell2⟩ : _ ∧ _)); clear hcell1 hcell2
  have HK := (show Hid _ from (⟨hk1, hk2⟩ : _ ∧ _)); clear hk1 hk2
  have HA := (show Hid _ from (⟨ha1, ha2⟩ : _ ∧ _)); clear ha1 ha2
  unfold maxLen at hm1 hm2
  simp only [Tr.val]
  clear h1 h2
  generalize eqT ⟨n, x, l, k⟩ ⟨n', x', l', k'⟩ = R at *
  have hb2 : Below w.heap.size w ((w.alloc (.cells #[.string n, .string x, .bool l, .slice a1 k.length cap1] 31)).alloc (.cells #[.string n', .string x', .bool l', .slice a2 k'.length cap2] 31)) := (bel_alloc _ _).alloc (by simp) _
  have HB2 := (show Hid _ from hb2); clear hb2
  by_cases e1 : n = n'
  case neg =>
    have hd := ne_bytes e1
    have hd' : (n.toList != n'.toList) = true := by rw [bne, hd]; rfl
    have HF := (show Hid (R = false) from HNO.out (fun h => e1 h.1))
    clear e1 HNO HEQ
    go_enter Try.func71, Try.ntmps71
    go_wp2_with fail
    go_ret
    exact ⟨by rw [HF.out]; rfl, HB2.out⟩
  subst e1
  by_cases e2 : x = x'
  case neg =>
    have hd := ne_bytes e2
    have hd' : (x.toList != x'.toList) = true := by rw [bne, hd]; rfl
    have HF := (show Hid (R = false) from HNO.out (fun h => e2 h.2.1))
    clear e2 HNO HEQ
    go_enter Try.func71, Try.ntmps71
    go_wp2_with fail
    go_ret
    exact ⟨by rw [HF.out]; rfl, HB2.out⟩
  subst e2
  by_cases e3 : l = l'
  case neg =>
    have hd : (l == l') = false := by simpa using e3
    have hd' : (l != l') = true := by rw [bne, hd]; rfl
    have HF := (show Hid (R = false) from HNO.out (fun h => e3 h.2.2.1))
    clear e3 HNO HEQ
    go_enter Try.func71, Try.ntmps71
    go_wp2_with fail
    go_ret
    exact ⟨by rw [HF.out]; rfl, HB2.out⟩
  subst e3
  by_cases e4 : k.length = k'.length
  case neg =>
    have hd' : ((k.length : Int) != (k'.length : Int)) = true := by simp; omega
    have HF := (show Hid (R = false) from HNO.out (fun h => e4 (by rw [h.2.2.2])))
    clear e4 HNO HEQ
    go_enter Try.func71, Try.ntmps71
    go_wp2_with fail
    go_ret
    exact ⟨by rw [HF.out]; rfl, HB2.out⟩
  have hd' : ((k.length : Int) != (k'.length : Int)) = false := by simp; omega
  have hle : k.length ≤ k'.length := by omega
  have hge : k'.length ≤ k.length := by omega
  clear e4
  go_enter Try.func71, Try.ntmps71
  go_wp2_with fail
  go_loopw [5] (fun i wr => ∃ (j : Nat), j ≤ k.length ∧ i = .int .i64 j ∧ Hid (∀ i (hi : i < k.length) (hi' : i < k'.length), i < j → k[i] = k'[i]) ∧ Hid (Below ((w.alloc (.cells #[.string n, .string x, .bool l, .slice a1 k.length cap1] 31)).alloc (.cells #[.string n, .string x, .bool l, .slice a2 k'.length cap2] 31)).heap.size ((w.alloc (.cells #[.string n, .string x, .bool l, .slice a1 k.length cap1] 31)).alloc (.cells #[.string n, .string x, .bool l, .slice a2 k'.length cap2] 31)) wr)) (fun i _ => k.length - (intOf i).toNat)
  case atStart => exact ⟨0, Nat.zero_le _, rfl, fun i _ _ h => absurd h (Nat.not_lt_zero _), Below.refl _ _⟩
  case round =>
    obtain ⟨j, hj, rfl, HJ, HW⟩ := hrel
    have hbw' : Below w.heap.size w wr := bel_trans HB2.out HW.out
    obtain ⟨hcc, hff⟩ := bcell HW.out
    have A1 : wr.cell? ⟨w.heap.size, 3, none⟩ = some (.slice a1 k.length cap1) := by rw [hcc _ _ (by simp; omega)]; simp [go_sem]
    have A2 : wr.cell? ⟨w.heap.size + 1, 3, none⟩ = some (.slice a2 k'.length cap2) := by rw [hcc _ _ (by simp)]; simp [go_sem]
    clear hcc hff
    by_cases hlt : j < k.length
    · have hlt' : j < k'.length := by omega
      obtain ⟨rfl, _⟩ := HA.out.1 (by omega)
      obtain ⟨rfl, _⟩ := HA.out.2 (by omega)
      obtain ⟨c0, c1, c2, c3⟩ := HC.out.1 j hlt
      obtain ⟨d0, d1, d2, d3⟩ := HC.out.2 j hlt'
      obtain ⟨p1, p2, p3, hp⟩ := (HK.out.1 j hlt).form
      obtain ⟨q1, q2, q3, hq⟩ := (HK.out.2 j hlt').form
      have mv : ∀ {b o : Nat} {v : Value}, w.cell? ⟨b, o, none⟩ = some v → wr.cell? ⟨b, o, none⟩ = some v := fun h => (hbw'.cell (lt_of_cell h)).trans h
      rw [hp] at c3
      rw [hq] at d3
      have hS : Held8 w.heap.size (.slice (some ⟨b1, off1, none⟩) k.length cap1) (.slice (some ⟨b2, off2, none⟩) k'.length cap2) b1 (off1 + j * 4) b2 (off2 + j * 4) k[j].name k[j].text k[j].leaf (.slice p1 p2 p3) k'[j].name k'[j].text k'[j].leaf (.slice q1 q2 q3) wr := ⟨A1, A2, ⟨mv c0, mv c1, mv c2, mv c3⟩, mv d0, mv d1, mv d2, mv d3⟩
      have hdr := (Below.refl wr.heap.size wr).drew
      have hS0 := hS.still hdr
      have hcl := HI.out j hlt k'[j] (sv1 j) (sv2 j) wr.drew ((HK.out.1 j hlt).still (hbw'.drew)) ((HK.out.2 j hlt').still (hbw'.drew))
      rw [hp, hq] at hcl
      simp only [Tr.val] at hcl
      have HCL := (show Hid _ from hcl); clear hcl c0 c1 c2 c3 d0 d1 d2 d3 hp hq
      have HS := (show Hid _ from hS); clear hS
      have HDR := (show Hid _ from hdr); clear hdr
      have HNX := (show Hid (eqT k[j] k'[j] = true → ∀ i (hi : i < k.length) (hi' : i < k'.length), i < j + 1 → k[i] = k'[i]) from fun h i hi hi' hij => by
        by_cases e : i = j
        · subst e; exact (eqT_iff _ _).1 h
        · exact HJ.out i hi hi' (by omega))
      have HFX := (show Hid (eqT k[j] k'[j] = false → R = false) from fun h => HNO.out (fun e => by
        obtain ⟨_, _, _, e⟩ := e
        subst e
        have := (eqT_iff k[j] k[j]).2 rfl
        rw [h] at this
        cases this))
      generalize eqT k[j] k'[j] = D at *
      generalize k[j].name = m1 at *
      generalize k[j].text = m2 at *
      generalize k[j].leaf = m3 at *
      generalize k'[j].name = r1 at *
      generalize k'[j].text = r2 at *
      generalize k'[j].leaf = r3 at *
      have hjl : (j : Int) < k.length := by omega
      have hjl' : (j : Int) < k'.length := by omega
      clear mv HJ
      unfold Held8 at hS0
      cases D with
      | true =>
        have HN := (show Hid _ from HNX.out rfl)
        clear HNX HFX
        go_wp2_with fail
        go_region_held3 (fun wq => wq.cell? ⟨w.heap.size, 3, none⟩ = some (.slice (some ⟨b1, off1, none⟩) k.length cap1) ∧ wq.cell? ⟨w.heap.size + 1, 3, none⟩ = some (.slice (some ⟨b2, off2, none⟩) k'.length cap2) ∧ (wq.cell? ⟨b1, off1 + j * 4, none⟩ = some (.string m1) ∧ wq.cell? ⟨b1, off1 + j * 4 + 1, none⟩ = some (.string m2) ∧ wq.cell? ⟨b1, off1 + j * 4 + 2, none⟩ = some (.bool m3) ∧ wq.cell? ⟨b1, off1 + j * 4 + 3, none⟩ = some (.slice p1 p2 p3)) ∧ wq.cell? ⟨b2, off2 + j * 4, none⟩ = some (.string r1) ∧ wq.cell? ⟨b2, off2 + j * 4 + 1, none⟩ = some (.string r2) ∧ wq.cell? ⟨b2, off2 + j * 4 + 2, none⟩ = some (.bool r3) ∧ wq.cell? ⟨b2, off2 + j * 4 + 3, none⟩ = some (.slice q1 q2 q3)) (first | with_reducible exact hS0 | with_reducible exact hS1) ((first | (go_at_call 71; refine Calls.mono HCL.out ?_; rintro e w1 ⟨rfl, hb1⟩; have hx1 : Below wr.heap.size wr w1 := HDR.out.trans (hb1.mono (Nat.le_refl _)); have hS1 := Held8.still HS.out hx1; unfold Held8 at hS1)))
        have HW2 := (show Hid _ from bel_trans HW.out hx1)
        clear hS0 hS1 hb1 hx1 A1 A2
        go_wp2_with fail
        exact ⟨⟨j + 1, by omega, by go_num, HN, HW2⟩, by simp [intOf]; omega⟩
      | false =>
        have HF := (show Hid _ from HFX.out rfl)
        clear HNX HFX
        go_wp2_with fail
        go_region_held3 (fun wq => wq.cell? ⟨w.heap.size, 3, none⟩ = some (.slice (some ⟨b1, off1, none⟩) k.length cap1) ∧ wq.cell? ⟨w.heap.size + 1, 3, none⟩ = some (.slice (some ⟨b2, off2, none⟩) k'.length cap2) ∧ (wq.cell? ⟨b1, off1 + j * 4, none⟩ = some (.string m1) ∧ wq.cell? ⟨b1, off1 + j * 4 + 1, none⟩ = some (.string m2) ∧ wq.cell? ⟨b1, off1 + j * 4 + 2, none⟩ = some (.bool m3) ∧ wq.cell? ⟨b1, off1 + j * 4 + 3, none⟩ = some (.slice p1 p2 p3)) ∧ wq.cell? ⟨b2, off2 + j * 4, none⟩ = some (.string r1) ∧ wq.cell? ⟨b2, off2 + j * 4 + 1, none⟩ = some (.string r2) ∧ wq.cell? ⟨b2, off2 + j * 4 + 2, none⟩ = some (.bool r3) ∧ wq.cell? ⟨b2, off2 + j * 4 + 3, none⟩ = some (.slice q1 q2 q3)) (first | with_reducible exact hS0 | with_reducible exact hS1) ((first | (go_at_call 71; refine Calls.mono HCL.out ?_; rintro e w1 ⟨rfl, hb1⟩; have hx1 : Below wr.heap.size wr w1 := HDR.out.trans (hb1.mono (Nat.le_refl _)); have hS1 := Held8.still HS.out hx1; unfold Held8 at hS1)))
        have HW2 := (show Hid _ from bel_trans HB2.out (bel_trans HW.out hx1))
        clear hS0 hS1 hb1 hx1 A1 A2
        go_wp2_with fail
        go_ret
        exact ⟨by rw [HF.out]; rfl, HW2.out⟩
    · have HT := (show Hid (R = true) from HEQ.out.2 (by
        have : k = k' := List.ext_getElem (by omega) (fun i h1 h2 => HJ.out i h1 h2 (by omega))
        rw [this]))
      have HE := (show Hid (Below w.heap.size w wr) from hbw')
      have hge2 : (k.length : Int) ≤ j := by omega
      clear HJ HW HEQ HNO
      go_wp2_with fail
      go_ret
      exact ⟨by rw [HT.out]; rfl, HE.out⟩
end Go.Proofs.Yteomgkcgjkbppaa
