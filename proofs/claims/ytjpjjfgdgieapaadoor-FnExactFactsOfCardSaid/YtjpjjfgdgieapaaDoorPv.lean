import Derived.Test.YtjpjjfgdgieapaaDoorBase
import Derived.Test.YtjpjjfgdgieapaaDoorFa
import Derived.Lib.AppendZeros
/-! Pure: ascending lists. -/
namespace Go.Proofs.YtjpjjfgdgieapaaDoor
open Go.RowKit Go.Deep
set_option linter.unusedVariables false
set_option maxRecDepth 100000
set_option linter.unusedSimpArgs false

def Asc (l : List Int) : Prop := l.Pairwise (· < ·)
def gtx (x : Int) (l : List Int) : Bool := l.any (fun y => decide (x < y))
def ins (x : Int) : List Int → List Int
  | [] => [x]
  | y :: r => if x < y then x :: y :: r else y :: ins x r
def putL (l : List Int) (x : Int) : List Int := if x ∈ l then l else ins x l
/-- What stands in the list that is made, behind s of the old one. -/
def outp (x : Int) (s : List Int) : List Int := if gtx x s then ins x s else s
theorem gtx_app (x : Int) (s : List Int) (y : Int) : gtx x (s ++ [y]) = (gtx x s || decide (x < y)) := by simp [gtx]
theorem ins_le {x : Int} : ∀ {s : List Int}, gtx x s = false → ∀ r, ins x (s ++ r) = s ++ ins x r := by
  intro s
  induction s with
  | nil => intro _ r; rfl
  | cons y s ih =>
    intro h r
    simp only [gtx, List.any_cons, Bool.or_eq_false_iff, decide_eq_false_iff_not] at h
    show (if x < y then x :: y :: (s ++ r) else y :: ins x (s ++ r)) = _
    rw [if_neg h.1, ih (by unfold gtx; exact h.2) r]
    rfl
theorem ins_gt {x : Int} : ∀ {s : List Int}, gtx x s = true → ∀ r, ins x (s ++ r) = ins x s ++ r := by
  intro s
  induction s with
  | nil => intro h; simp [gtx] at h
  | cons y s ih =>
    intro h r
    show (if x < y then x :: y :: (s ++ r) else y :: ins x (s ++ r)) = (if x < y then x :: y :: s else y :: ins x s) ++ r
    by_cases e : x < y
    · rw [if_pos e, if_pos e]; rfl
    · rw [if_neg e, if_neg e, ih (by simpa [gtx, e] using h) r]
      rfl
theorem outp_gt {x : Int} {s : List Int} (y : Int) (h : gtx x s = true) : outp x (s ++ [y]) = outp x s ++ [y] := by
  unfold outp
  rw [gtx_app, h]
  simp only [Bool.true_or, if_true]
  exact ins_gt h [y]
theorem outp_new {x : Int} {s : List Int} {y : Int} (h : gtx x s = false) (hy : x < y) : outp x (s ++ [y]) = (outp x s ++ [x]) ++ [y] := by
  unfold outp
  rw [gtx_app, h]
  simp only [Bool.false_or, hy, decide_true, if_true]
  rw [ins_le h]
  simp [ins, hy]
theorem outp_le {x : Int} {s : List Int} {y : Int} (h : gtx x s = false) (hy : ¬ x < y) : outp x (s ++ [y]) = outp x s ++ [y] := by
  unfold outp
  rw [gtx_app, h]
  simp [hy]
theorem outp_len (x : Int) (s : List Int) : (outp x s).length ≤ s.length + 1 := by
  unfold outp
  split
  · induction s with
    | nil => simp [ins]
    | cons y s ih =>
      unfold ins
      split
      · simp
      · rename_i h1 h2
        simp only [List.length_cons]
        by_cases e : gtx x s = true
        · have := ih e; omega
        · rw [show ins x s = ins x (s ++ []) from by rw [List.append_nil], ins_le (by simpa using e)]
          simp [ins]
  · omega
theorem outp_end {x : Int} {l : List Int} (h : gtx x l = true) : outp x l = ins x l := by unfold outp; rw [h]; rfl
theorem outp_end' {x : Int} {l : List Int} (h : gtx x l = false) : outp x l ++ [x] = ins x l := by
  unfold outp
  rw [h]
  have := ins_le h []
  rw [List.append_nil] at this
  rw [this]
  rfl
theorem ins_mem (x : Int) : ∀ (l : List Int) (y : Int), y ∈ ins x l ↔ y = x ∨ y ∈ l := by
  intro l
  induction l with
  | nil => intro y; simp [ins]
  | cons z l ih =>
    intro y
    unfold ins
    split
    · simp
    · simp only [List.mem_cons, ih]
      constructor
      · rintro (h | h | h)
        · exact .inr (.inl h)
        · exact .inl h
        · exact .inr (.inr h)
      · rintro (h | h | h)
        · exact .inr (.inl h)
        · exact .inl h
        · exact .inr (.inr h)
theorem ins_len (x : Int) : ∀ (l : List Int), (ins x l).length = l.length + 1 := by
  intro l
  induction l with
  | nil => rfl
  | cons z l ih =>
    unfold ins
    split
    · rfl
    · simp [ih]
theorem ins_asc {x : Int} : ∀ {l : List Int}, Asc l → x ∉ l → Asc (ins x l) := by
  intro l
  induction l with
  | nil => intro _ _; simp [Asc, ins]
  | cons z l ih =>
    intro h hx
    unfold Asc at h
    rw [List.pairwise_cons] at h
    unfold ins
    split
    · rename_i hz
      unfold Asc
      rw [List.pairwise_cons, List.pairwise_cons]
      refine ⟨fun y hy => ?_, h⟩
      rcases List.mem_cons.1 hy with rfl | hy
      · exact hz
      · have := h.1 y hy; omega
    · rename_i hz
      unfold Asc
      rw [List.pairwise_cons]
      refine ⟨fun y hy => ?_, ih h.2 (fun h2 => hx (List.mem_cons_of_mem _ h2))⟩
      rcases (ins_mem x l y).1 hy with rfl | hy
      · have : y ≠ z := fun e => hx (by simp [e])
        omega
      · exact h.1 y hy
theorem put_mem (l : List Int) (x y : Int) : y ∈ putL l x ↔ y = x ∨ y ∈ l := by
  unfold putL
  split
  · rename_i h
    constructor
    · exact .inr
    · rintro (rfl | h2)
      · exact h
      · exact h2
  · exact ins_mem x l y
theorem put_asc {l : List Int} {x : Int} (h : Asc l) : Asc (putL l x) := by
  unfold putL
  split
  · exact h
  · rename_i hx; exact ins_asc h hx
theorem put_len (l : List Int) (x : Int) : (putL l x).length ≤ l.length + 1 := by
  unfold putL
  split
  · omega
  · rw [ins_len]; omega
/-- All put, one by one, and whether one was not there. -/
def putAll : List Int → List Int → List Int
  | l, [] => l
  | l, x :: r => putAll (putL l x) r
theorem putAll_snoc : ∀ (r : List Int) (l : List Int) (x : Int), putAll l (r ++ [x]) = putL (putAll l r) x := by
  intro r
  induction r with
  | nil => intro l x; rfl
  | cons y r ih => intro l x; exact ih (putL l y) x
theorem putAll_mem : ∀ (r : List Int) (l : List Int) (y : Int), y ∈ putAll l r ↔ y ∈ l ∨ y ∈ r := by
  intro r
  induction r with
  | nil => intro l y; simp [putAll]
  | cons x r ih =>
    intro l y
    show y ∈ putAll (putL l x) r ↔ _
    rw [ih, put_mem, List.mem_cons]
    constructor
    · rintro ((h | h) | h)
      · exact .inr (.inl h)
      · exact .inl h
      · exact .inr (.inr h)
    · rintro (h | h | h)
      · exact .inl (.inr h)
      · exact .inl (.inl h)
      · exact .inr h
theorem putAll_asc : ∀ (r : List Int) (l : List Int), Asc l → Asc (putAll l r) := by
  intro r
  induction r with
  | nil => intro l h; exact h
  | cons x r ih => intro l h; exact ih _ (put_asc h)
theorem putAll_len : ∀ (r : List Int) (l : List Int), (putAll l r).length ≤ l.length + r.length := by
  intro r
  induction r with
  | nil => intro l; exact Nat.le_refl _
  | cons x r ih =>
    intro l
    have h1 := ih (putL l x)
    have h2 := put_len l x
    show (putAll (putL l x) r).length ≤ _
    simp only [List.length_cons]
    omega
/-- Whether one of them is not in the list. -/
def fresh (l r : List Int) : Bool := r.any (fun x => !decide (x ∈ l))
theorem fresh_snoc (l r : List Int) (x : Int) : (fresh l r || !decide (x ∈ putAll l r)) = fresh l (r ++ [x]) := by
  unfold fresh
  rw [List.any_append]
  by_cases h : x ∈ l
  · have h2 : x ∈ putAll l r := (putAll_mem r l x).2 (.inl h)
    simp [h, h2]
  · by_cases h3 : x ∈ r
    · have h2 : x ∈ putAll l r := (putAll_mem r l x).2 (.inr h3)
      have h4 : (r.any fun x => !decide (x ∈ l)) = true := List.any_eq_true.2 ⟨x, h3, by simp [h]⟩
      simp [h2, h4]
    · have h2 : x ∉ putAll l r := fun h5 => ((putAll_mem r l x).1 h5).elim h h3
      simp [h, h2]
theorem fresh_no {l r : List Int} (h : fresh l r = false) : ∀ x ∈ r, x ∈ l := by
  intro x hx
  unfold fresh at h
  have := List.any_eq_false.1 h x hx
  simpa using this
theorem fresh_yes {l r : List Int} (h : fresh l r = true) : ∃ x ∈ r, x ∉ l := by
  obtain ⟨x, hx, h2⟩ := List.any_eq_true.1 h
  exact ⟨x, hx, by simpa using h2⟩
theorem putAll_same : ∀ (r : List Int) (l : List Int), (∀ x ∈ r, x ∈ l) → putAll l r = l := by
  intro r
  induction r with
  | nil => intro l _; rfl
  | cons x r ih =>
    intro l h
    show putAll (putL l x) r = l
    have e : putL l x = l := by unfold putL; rw [if_pos (h x (by simp))]
    rw [e]
    exact ih l (fun y hy => h y (List.mem_cons_of_mem _ hy))
/-- Ascending lists with the same in them are the same. -/
theorem asc_ext : ∀ (l m : List Int), Asc l → Asc m → (∀ x, x ∈ l ↔ x ∈ m) → l = m := by
  intro l
  induction l with
  | nil =>
    intro m _ _ h
    cases m with
    | nil => rfl
    | cons y m => exact absurd ((h y).2 (by simp)) (by simp)
  | cons x l ih =>
    intro m hl hm h
    cases m with
    | nil => exact absurd ((h x).1 (by simp)) (by simp)
    | cons y m =>
      have hl' := List.pairwise_cons.1 hl
      have hm' := List.pairwise_cons.1 hm
      have hxy : x = y := by
        rcases List.mem_cons.1 ((h x).1 (by simp)) with e | e
        · exact e
        · rcases List.mem_cons.1 ((h y).2 (by simp)) with e2 | e2
          · exact e2.symm
          · have h1 := hm'.1 x e
            have h2 := hl'.1 y e2
            omega
      subst hxy
      rw [ih m hl'.2 hm'.2 (fun z => ?_)]
      constructor
      · intro hz
        rcases List.mem_cons.1 ((h z).1 (List.mem_cons_of_mem _ hz)) with rfl | e
        · have := hl'.1 z hz; omega
        · exact e
      · intro hz
        rcases List.mem_cons.1 ((h z).2 (List.mem_cons_of_mem _ hz)) with rfl | e
        · have := hm'.1 z hz; omega
        · exact e
/-- Ascending numbers from 0 to n are no more than n + 1. -/
theorem asc_len : ∀ (l : List Int) (a n : Int), Asc l → (∀ x ∈ l, a ≤ x ∧ x ≤ n) → l.length ≤ (n + 1 - a).toNat := by
  intro l
  induction l with
  | nil => intro a n _ _; exact Nat.zero_le _
  | cons x l ih =>
    intro a n h hx
    have h' := List.pairwise_cons.1 h
    have h1 := hx x (by simp)
    have := ih (x + 1) n h'.2 (fun y hy => ⟨by have := h'.1 y hy; omega, (hx y (List.mem_cons_of_mem _ hy)).2⟩)
    simp only [List.length_cons]
    omega
/-- What is put makes a list longer where it is new. -/
theorem putAll_grows {l r : List Int} {n : Int} (hl : Asc l) (hx : ∀ x ∈ l, 0 ≤ x ∧ x ≤ n) (h : fresh l r = true) : l.length < (putAll l r).length := by
  have key : ∀ (r : List Int) (l : List Int), l.length ≤ (putAll l r).length := by
    intro r
    induction r with
    | nil => intro l; exact Nat.le_refl _
    | cons x r ih =>
      intro l
      refine Nat.le_trans ?_ (ih (putL l x))
      unfold putL
      split
      · exact Nat.le_refl _
      · rw [ins_len]; omega
  have key2 : ∀ (r : List Int) (l : List Int), fresh l r = true → l.length < (putAll l r).length := by
    intro r
    induction r with
    | nil => intro l h; simp [fresh] at h
    | cons x r ih =>
      intro l h
      show _ < (putAll (putL l x) r).length
      by_cases e : x ∈ l
      · have e2 : putL l x = l := by unfold putL; rw [if_pos e]
        rw [e2]
        exact ih l (by simpa [fresh, e] using h)
      · have e2 : putL l x = ins x l := by unfold putL; rw [if_neg e]
        have := key r (putL l x)
        rw [e2] at this ⊢
        rw [ins_len] at this
        omega
  exact key2 r l h
end Go.Proofs.YtjpjjfgdgieapaaDoor

/-! The specification: l04Put and l04PutAll, walked. -/
namespace Go.Proofs.YtjpjjfgdgieapaaDoor
open Go.RowKit Go.Deep
set_option linter.unusedVariables false
set_option maxRecDepth 100000
set_option linter.unusedSimpArgs false

/-- A row that is made and grows. -/
def Mk1 (B : Nat) (w0 w : World) (v : Value) (l : List Int) : Prop := Below B w0 w ∧ B ≤ w.heap.size ∧ w.ownsRow B 3 1 v l.length (icl l)
theorem Mk1.form {B : Nat} {w0 w : World} {v : Value} {l : List Int} (h : Mk1 B w0 w v l) : ∃ a c, v = .slice a l.length c := by
  rcases h.2.2.2 with ⟨rfl, h0⟩ | ⟨g, cap, cur, rfl, _⟩
  · exact ⟨none, 0, by rw [h0]⟩
  · exact ⟨_, cap, rfl⟩
theorem Mk1.ints {B : Nat} {w0 w : World} {v : Value} {l : List Int} (h : Mk1 B w0 w v l) : Ints w (fun c => B ≤ c) l v := al_ints h.2.2
/-- One more. -/
theorem Mk1.add {w0 w : World} {B : Nat} {a : Option Addr} {c : Nat} {l : List Int} (h : Mk1 B w0 w (.slice a l.length c) l) (x : Int) (hl : l.length ≤ 1048576) :
    ∃ a' c' w', (Builtin.append_ #[29, 29] 29 #[.slice a l.length c, .slice (some ⟨w.heap.size, 0, none⟩) 1 1]).run Tryd.prog (w.alloc (.cells #[.int .i64 x] 3)) = .ok (.slice a' (l ++ [x]).length c') w' ∧ Mk1 B w0 w' (.slice a' (l ++ [x]).length c') (l ++ [x]) ∧ Below w0.heap.size w0 w' = Below w0.heap.size w0 w' := by
  obtain ⟨i3, hi3, hzz⟩ := Option.map_eq_some_iff.1 info3i
  simp only [Prod.mk.injEq] at hzz
  obtain ⟨hz0, hz1, hz2⟩ := hzz
  have hba := bel_alloc w (.cells #[.int .i64 x] 3)
  obtain ⟨g, cap, w', hr, h2, h3, h4, h5⟩ := run_append_lies (P := Tryd.prog) (w.alloc (.cells #[.int .i64 x] 3)) 29 29 B 3 i3 _ 1 8 Tryd.underlying29 hi3 hz0 hz1 hz2 rfl (by decide) _ l.length (icl l) (al_still h.2.2 hba) ⟨w.heap.size, 0, none⟩ 1 1 [.int .i64 x] rfl (al_box _ _ _) (by intro u hu; simp at hu; subst hu; rfl) (by decide) (by unfold maxLen; omega) (by omega) (by have := h.2.1; simp; omega) _ rfl
  have hlen : (l ++ [x]).length = l.length + 1 := by simp
  have hic : icl (l ++ [x]) = icl l ++ [.int .i64 x] := by simp [icl]
  refine ⟨some ⟨g, 0, none⟩, cap, w', by rw [hlen]; exact hr, ⟨?_, ?_, by rw [hlen, hic]; exact h2⟩, rfl⟩
  · have hbB : Below B w (w.alloc (.cells #[.int .i64 x] 3)) := hba.mono h.2.1
    exact (h.1.trans hbB).grown h3 (by have := h.2.1; simp; omega) (fun q hq => (World.ownsRow.lt h.2.2 q hq).1)
  · have hs := h3.size
    have := h.2.1
    simp at hs
    omega
theorem Mk1.add' {w0 w : World} {B : Nat} {a : Option Addr} {c : Nat} {l : List Int} (m N M : Nat) (hm : m = l.length) (hN : w.heap.size = N) (hM : m + 1 = M) (h : Mk1 B w0 w (.slice a m c) l) (x : Int) (hl : l.length ≤ 1048576) :
    ∃ a' c' w', (Builtin.append_ #[29, 29] 29 #[.slice a m c, .slice (some ⟨N, 0, none⟩) 1 1]).run Tryd.prog (w.alloc (.cells #[.int .i64 x] 3)) = .ok (.slice a' M c') w' ∧ Mk1 B w0 w' (.slice a' M c') (l ++ [x]) := by
  subst hm hN hM
  obtain ⟨a', c', w', h1, h2, _⟩ := h.add x hl
  have hlen : (l ++ [x]).length = l.length + 1 := by simp
  rw [hlen] at h1 h2
  exact ⟨a', c', w', h1, h2⟩
theorem Mk1.new (w : World) : Mk1 w.heap.size w (w.alloc (.cells #[] 3)) (.slice (some ⟨w.heap.size, 0, none⟩) 0 0) [] :=
  ⟨bel_alloc _ _, by simp, World.ownsRow_lit (base := w.heap.size) (e := 3) (size := 1) w #[] 0 (Nat.le_refl _) (Nat.zero_le _) rfl⟩
set_option maxHeartbeats 3200000 in
theorem put79 {S : Nat → Prop} (l : List Int) (x : Int) (v : Value) (w : World) (h : Ints w S l v) (hl : l.length ≤ 1048000) :
    Calls Tryd.prog 79 #[v, .int .i64 x] w fun e w' => ∃ v', e = .returned (.tuple #[v', .bool (!decide (x ∈ l))]) ∧ Below w.heap.size w w' ∧ Ints w' (fun c => S c ∨ w.heap.size ≤ c) (putL l x) v' := by
  have HI0 := (show Hid (Ints w S l v) from h)
  obtain ⟨a, cap, bb, off, rfl, hc, hm, ha, hcell⟩ := h
  have HC := (show Hid _ from hcell); clear hcell
  have HA := (show Hid _ from ha); clear ha
  unfold maxLen at hm
  have H0 := (show Hid (Mk1 w.heap.size w (w.alloc (.cells #[] 3)) (.slice (some ⟨w.heap.size, 0, none⟩) 0 0) []) from Mk1.new w)
  go_enter Tryd.func79, Tryd.ntmps79
  go_wp2_with fail
  go_loopw [6, 7, 8] (fun u p i wr => ∃ (O : List Int) (Pb : Bool) (a' : Option Addr) (n' c' j : Nat), u = .slice a' n' c' ∧ p = .bool Pb ∧ i = .int .i64 j ∧ j ≤ l.length ∧ n' ≤ j + 1 ∧ Hid (n' = O.length ∧ Mk1 w.heap.size w wr (.slice a' n' c') O ∧ O = outp x (l.take j) ∧ Pb = gtx x (l.take j) ∧ x ∉ l.take j)) (fun _ _ i _ => l.length - (intOf i).toNat)
  case atStart => exact ⟨[], false, _, 0, _, 0, rfl, rfl, rfl, Nat.zero_le _, by omega, rfl, H0.out, rfl, rfl, by simp⟩
  case round =>
    obtain ⟨O, Pb, a', n', c', j, rfl, rfl, rfl, hj, hn', HJ⟩ := hrel
    clear H0
    by_cases hlt : j < l.length
    · have hlt' := hlt
      obtain ⟨rfl, _⟩ := HA.out (by omega)
      have c0 := HC.out j hlt'
      rw [← HJ.out.2.1.1.cell (lt_of_cell c0)] at c0
      have htk : l.take (j + 1) = l.take j ++ [l[j]] := (List.take_append_getElem hlt').symm
      have HMEM : Hid (l[j] ∈ l) := List.getElem_mem hlt'
      obtain ⟨y, hy⟩ : ∃ y : Int, l[j] = y := ⟨_, rfl⟩
      rw [hy] at c0 htk HMEM
      by_cases e : y = x
      · subst e
        have HR : Hid (∃ v', Ending.returned (.tuple #[.slice (some ⟨bb, off, none⟩) l.length cap, .bool false]) = .returned (.tuple #[v', .bool (!decide (y ∈ l))]) ∧ Below w.heap.size w wr ∧ Ints wr (fun c => S c ∨ w.heap.size ≤ c) (putL l y) v') :=
          ⟨.slice (some ⟨bb, off, none⟩) l.length cap, by rw [decide_eq_true HMEM.out]; rfl, HJ.out.2.1.1, by
            unfold putL
            rw [if_pos HMEM.out]
            exact (HI0.out.still HJ.out.2.1.1).mono (fun c hc => .inl hc)⟩
        clear HJ HMEM htk HI0
        go_wp2_with fail
        refine bodyPost_ret (v := .tuple #[.slice (some ⟨bb, off, none⟩) l.length cap, .bool false]) (by simp [results, Tryd.results79, go_sem]) rfl ?_
        exact HR.out
      · have e' : (y == x) = false := by simp [e]
        have HNM : Hid (x ∉ l.take (j + 1)) := by
          show x ∉ l.take (j + 1)
          rw [htk]
          simp only [List.mem_append, List.mem_singleton, not_or]
          exact ⟨HJ.out.2.2.2.2, fun h => e h.symm⟩
        have hnl : n' ≤ 1048100 := by omega
        have hO : O.length ≤ 1048100 := by rw [← HJ.out.1]; exact hnl
        have hw : w.heap.size ≤ wr.heap.size := HJ.out.2.1.2.1
        by_cases g : x < y ∧ Pb = false
        · obtain ⟨g1, rfl⟩ := g
          have g1' : decide (y > x) = true := by simp [g1]
          have g2' : decide (x < y) = true := by simp [g1]
          obtain ⟨a2, c2, w2, hr2, h2⟩ := HJ.out.2.1.add' n' wr.heap.size (n' + 1) HJ.out.1 rfl rfl x (by omega)
          have c2' : w2.cell? ⟨bb, off + j, none⟩ = some (.int .i64 y) := by
            have := lt_of_cell (HC.out j hlt')
            rw [h2.1.cell this, ← HJ.out.2.1.1.cell this]; exact c0
          obtain ⟨a3, c3, w3, hr3, h3⟩ := h2.add' (n' + 1) w2.heap.size (n' + 1 + 1) (by rw [List.length_append, ← HJ.out.1]; rfl) rfl rfl y (by rw [List.length_append]; simp; omega)
          have HN : Hid (n' + 1 + 1 = ((O ++ [x]) ++ [y]).length ∧ Mk1 w.heap.size w w3 (.slice a3 (n' + 1 + 1) c3) ((O ++ [x]) ++ [y]) ∧ (O ++ [x]) ++ [y] = outp x (l.take (j + 1)) ∧ true = gtx x (l.take (j + 1)) ∧ x ∉ l.take (j + 1)) :=
            ⟨by rw [List.length_append, List.length_append, ← HJ.out.1]; rfl, h3, by rw [htk, outp_new HJ.out.2.2.2.1.symm g1, ← HJ.out.2.2.1], by rw [htk, gtx_app]; simp [g1], HNM.out⟩
          have HB2 : Hid (n' + 1 + 1 ≤ (j + 1) + 1) := by
            show n' + 1 + 1 ≤ (j + 1) + 1
            have h5 : O = l.take j := by rw [HJ.out.2.2.1]; unfold outp; rw [← HJ.out.2.2.2.1]; rfl
            have h6 : O.length ≤ j := by rw [h5]; simp; omega
            have := HJ.out.1
            omega
          have HR2 := (show Hid _ from hr2)
          have HR3 := (show Hid _ from hr3)
          clear hr2 hr3 h2 h3 HJ htk HNM HI0 HC HA HMEM hO
          go_wp2_with (first | (at_builtin; refine Lib.wpList_append_run _ rfl (.tmp 33) (.tmp 35) 29 29 rfl _ _ rfl rfl _ _ HR2.out ?_) | (at_builtin; refine Lib.wpList_append_run _ rfl (.tmp 37) (.tmp 42) 29 29 rfl _ _ rfl rfl _ _ HR3.out ?_))
          exact ⟨⟨_, true, _, _, _, j + 1, rfl, rfl, by go_num, by omega, HB2.out, HN⟩, by simp [intOf]; omega⟩
        · obtain ⟨a2, c2, w2, hr2, h2⟩ := HJ.out.2.1.add' n' wr.heap.size (n' + 1) HJ.out.1 rfl rfl y (by omega)
          have HN : Hid (n' + 1 = (O ++ [y]).length ∧ Mk1 w.heap.size w w2 (.slice a2 (n' + 1) c2) (O ++ [y]) ∧ O ++ [y] = outp x (l.take (j + 1)) ∧ Pb = gtx x (l.take (j + 1)) ∧ x ∉ l.take (j + 1)) := by
            refine ⟨by rw [List.length_append, ← HJ.out.1]; rfl, h2, ?_, ?_, HNM.out⟩
            · rw [htk]
              cases Pb
              · rw [outp_le HJ.out.2.2.2.1.symm (fun h => g ⟨h, rfl⟩), ← HJ.out.2.2.1]
              · rw [outp_gt _ HJ.out.2.2.2.1.symm, ← HJ.out.2.2.1]
            · rw [htk, gtx_app, ← HJ.out.2.2.2.1]
              cases Pb
              · have : ¬ x < y := fun h => g ⟨h, rfl⟩
                simp [this]
              · rfl
          have HR2 := (show Hid _ from hr2)
          clear hr2 h2 HJ htk HNM HI0 HC HA HMEM hO
          by_cases g1 : x < y
          · have g1' : decide (y > x) = true := by simp [g1]
            have g2' : decide (x < y) = true := by simp [g1]
            have hPb : Pb = true := by
              cases Pb
              · exact absurd ⟨g1, rfl⟩ g
              · rfl
            subst hPb
            clear g
            go_wp2_with (at_builtin; refine Lib.wpList_append_run _ rfl (.tmp 37) (.tmp 42) 29 29 rfl _ _ rfl rfl _ _ HR2.out ?_)
            exact ⟨⟨_, true, _, _, _, j + 1, rfl, rfl, by go_num, by omega, by omega, HN⟩, by simp [intOf]; omega⟩
          · have g1' : decide (y > x) = false := by simp; omega
            have g2' : decide (x < y) = false := by simp; omega
            clear g
            go_wp2_with (at_builtin; refine Lib.wpList_append_run _ rfl (.tmp 37) (.tmp 42) 29 29 rfl _ _ rfl rfl _ _ HR2.out ?_)
            exact ⟨⟨_, Pb, _, _, _, j + 1, rfl, rfl, by go_num, by omega, by omega, HN⟩, by simp [intOf]; omega⟩
    · obtain rfl : j = l.length := by omega
      obtain ⟨e1, e2, e3, e4, e5⟩ := HJ.out
      rw [List.take_length] at e3 e4 e5
      have e6 : putL l x = ins x l := by unfold putL; rw [if_neg e5]
      have e7 : decide (x ∈ l) = false := decide_eq_false e5
      cases Pb
      · obtain ⟨a2, c2, w2, hr2, h2⟩ := e2.add' n' wr.heap.size (n' + 1) e1 rfl rfl x (by omega)
        have HR : Hid (∃ v', Ending.returned (.tuple #[.slice a2 (n' + 1) c2, .bool true]) = .returned (.tuple #[v', .bool (!decide (x ∈ l))]) ∧ Below w.heap.size w w2 ∧ Ints w2 (fun c => S c ∨ w.heap.size ≤ c) (putL l x) v') :=
          ⟨_, by rw [e7]; rfl, h2.1, by
            rw [e6, ← outp_end' e4.symm, ← e3]
            have := h2.ints
            exact this.mono (fun c hc => .inr hc)⟩
        have HR2 := (show Hid _ from hr2)
        clear hr2 h2 e1 e2 e3 e4 e5 e6 e7 HJ HI0 HC HA
        go_wp2_with (at_builtin; refine Lib.wpList_append_run _ rfl (.tmp 46) (.tmp 48) 29 29 rfl _ _ rfl rfl _ _ HR2.out ?_)
        refine bodyPost_ret (v := .tuple #[.slice a2 (n' + 1) c2, .bool true]) (by simp [results, Tryd.results79, go_sem]) rfl ?_
        exact HR.out
      · have HR : Hid (∃ v', Ending.returned (.tuple #[.slice a' n' c', .bool true]) = .returned (.tuple #[v', .bool (!decide (x ∈ l))]) ∧ Below w.heap.size w wr ∧ Ints wr (fun c => S c ∨ w.heap.size ≤ c) (putL l x) v') :=
          ⟨_, by rw [e7]; rfl, e2.1, by
            rw [e6, ← outp_end e4.symm, ← e3]
            subst e1
            exact e2.ints.mono (fun c hc => .inr hc)⟩
        clear e1 e2 e3 e4 e5 e6 e7 HJ HI0 HC HA
        go_wp2_with fail
        refine bodyPost_ret (v := .tuple #[.slice a' n' c', .bool true]) (by simp [results, Tryd.results79, go_sem]) rfl ?_
        exact HR.out
end Go.Proofs.YtjpjjfgdgieapaaDoor
