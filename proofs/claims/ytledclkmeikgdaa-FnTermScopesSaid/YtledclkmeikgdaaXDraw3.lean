import Derived.Test.YtledclkmeikgdaaXDraw2
import Derived.Test.YtledclkmeikgdaaXAt
namespace Go.Proofs.Ytledclkmeikgdaa.T
open Go.RowKit Go.Deep Go.Lib
set_option linter.unusedVariables false
set_option maxRecDepth 100000
set_option linter.unusedSimpArgs false

def bdL : List ByteArray := [⟨#[]⟩, ⟨#[49, 97]⟩, ⟨#[97, 32, 98]⟩, ⟨#[97, 98, 99, 100, 101, 102, 103, 104, 105, 106, 107, 108, 109, 110, 111, 112, 113, 114, 115, 116, 117, 118, 119, 120, 121]⟩]
/-- So many bytes 0. -/
def zs (n : Nat) : ByteArray := bs (List.replicate n 0)
theorem zs_size (n : Nat) : (zs n).size = n := by unfold zs; rw [bs_size]; simp
def lf (n x : ByteArray) : Tr := ⟨n, x, true, []⟩
def dashT : Tr := ⟨⟨#[45]⟩, ByteArray.empty, false, []⟩
/-- A loop whose bound is drawn anew in each round. -/
def cLoop (cs : List UInt8) (base sp : Nat) : Nat → Nat → Nat × Nat → Nat × (Nat × Nat)
  | 0, i, s => (i, s)
  | f + 1, i, s => if i < base + (cPick cs sp s).1 then cLoop cs base sp f (i + 1) (cPick cs sp s).2 else (i, (cPick cs sp s).2)
theorem cLoop_le (cs : List UInt8) (base sp : Nat) : ∀ f i s, (cLoop cs base sp f i s).1 ≤ i + f
  | 0, i, s => Nat.le_refl _
  | f + 1, i, s => by
    unfold cLoop
    split
    · have := cLoop_le cs base sp f (i + 1) (cPick cs sp s).2; omega
    · dsimp only; omega
def chainT : Nat → Tr
  | 0 => lf ⟨#[97]⟩ ⟨#[]⟩
  | n + 1 => ⟨⟨#[110]⟩, ByteArray.empty, false, [chainT n]⟩
/-- A drawn tree that may be spoilt in one place, or at a limit. -/
def cSpoil (cs : List UInt8) (t : Tr) (k : Nat) (s : Nat × Nat) : Tr × (Nat × Nat) :=
  if k = 0 then (⟨pickOf bdL (cPick cs 4 s).1, t.text, t.leaf, t.kids⟩, (cPick cs 4 s).2)
  else if k = 1 then (⟨t.name, t.text, !t.leaf, t.kids⟩, s)
  else if k = 2 then (⟨t.name, t.text ++ ⟨#[113]⟩, t.leaf, t.kids⟩, s)
  else if k = 3 then (⟨t.name, t.text, t.leaf, t.kids ++ [dashT]⟩, s)
  else if k = 4 then (chainT ((cLoop cs 60 2 62 1 s).1 - 1), (cLoop cs 60 2 62 1 s).2)
  else if k = 5 then (⟨⟨#[110]⟩, ByteArray.empty, false, List.replicate ((cLoop cs 1000 2 1002 1 s).1 - 1) (lf ⟨#[107]⟩ ⟨#[]⟩)⟩, (cLoop cs 1000 2 1002 1 s).2)
  else if k = 6 then (lf ⟨#[97]⟩ (zs (200 + (cPick cs 2 s).1)), (cPick cs 2 s).2)
  else if k = 7 then (⟨⟨#[110]⟩, ByteArray.empty, false, List.replicate ((cLoop cs 24 3 27 0 s).1) (lf ⟨#[97, 98, 99]⟩ (zs 200))⟩, (cLoop cs 24 3 27 0 s).2)
  else (t, s)
def cAny (cs : List UInt8) (s : Nat × Nat) : Tr × (Nat × Nat) :=
  cSpoil cs (cTree cs (1 + (cSize cs 5 s).1) (cSize cs 5 s).2).1 (cPick cs 24 (cTree cs (1 + (cSize cs 5 s).1) (cSize cs 5 s).2).2).1 (cPick cs 24 (cTree cs (1 + (cSize cs 5 s).1) (cSize cs 5 s).2).2).2
theorem cSize_le (cs : List UInt8) (n : Nat) (s : Nat × Nat) : (cSize cs n s).1 ≤ n := by
  have := cPick_lt cs (min (cs.length / 12 + 2) n + 1) s (by omega)
  unfold cSize
  omega

/-- What a drawing call comes to, where the tree is only read. -/
def DrewL (cs : List UInt8) (a : Option Addr) (cap b off c : Nat) (r : Tr × (Nat × Nat)) (w : World) (e : Ending) (w' : World) : Prop :=
  ∃ xa xm xc, e = .returned (r.1.val (.slice xa xm xc)) ∧ Out c (c + 1) w w' ∧ Cur w' cs a cap b off c r.2 ∧ Lies w' (fun q => w.heap.size ≤ q) r.1 (.slice xa xm xc)
/-- As the last statement of a drawing call finds it. -/
def Sit (cs : List UInt8) (a : Option Addr) (cap b off c : Nat) (w : World) (g : Nat) (r : Tr × (Nat × Nat)) (v : Value) (wE : World) : Prop :=
  Out c (c + 1) w wE ∧ Box4 wE w.heap.size (.string ByteArray.empty) (.string ByteArray.empty) (.bool false) (.slice none 0 0) ∧ Box4 wE g (.string r.1.name) (.string r.1.text) (.bool r.1.leaf) v ∧ Cur wE cs a cap b off c r.2 ∧ Lies wE (fun q => w.heap.size + 1 ≤ q ∧ q ≠ g) r.1 v
theorem wt_sizes (t : Tr) : t.name.size ≤ t.wt ∧ t.text.size ≤ t.wt ∧ t.kids.length ≤ t.wt := by
  cases t with
  | mk n x l k => rw [Tr.wt_mk]; dsimp only; omega
/-- A row of Kids to which more may be appended: all lies below g. -/
def RowL (k : List Tr) (B g : Nat) (v : Value) (w : World) : Prop :=
  ∃ fs : Nat → Value, w.ownsRow B 40 4 v k.length (kc k fs k.length) ∧ (∀ i, i < k.length → Lies w (fun q => (B ≤ q ∧ q < g) ∧ v.ownBlock ≠ some q) (nth k i) (fs i)) ∧ ∀ q, v.ownBlock = some q → q < g
theorem Grw.rowL {k : List Tr} {B : Nat} {v : Value} {w : World} (h : Grw k B k.length v w) : RowL k B w.heap.size v w := by
  obtain ⟨fs, l, h, hown, hls, hr, hd⟩ := h
  refine ⟨fs, hown, fun i hi => (Own.lies (hls i hi)).mono (fun q hq => ?_), fun q hq => (hown.lt q hq).2⟩
  have := hr i hi
  have hq' : l i ≤ q ∧ q < h i := hq
  refine ⟨by omega, fun e => ?_⟩
  have := (hr i hi).2.2 q e
  omega
theorem RowL.keep {k : List Tr} {B g : Nat} {v : Value} {w w' : World} (h : RowL k B g v w) (hk : ∀ q, B ≤ q → q < g → w'.heap[q]? = w.heap[q]?) : RowL k B g v w' := by
  obtain ⟨fs, hown, hls, hg⟩ := h
  refine ⟨fs, ⟨hown.1, ?_⟩, fun i hi => (hls i hi).keep (fun q hq => hk q hq.1.1 hq.1.2), hg⟩
  rcases hown.2 with e | ⟨g', cap, cur, e, hB, hg', rest⟩
  · exact .inl e
  · exact .inr ⟨g', cap, cur, e, hB, (hk g' hB (hg g' (by rw [e]; rfl))).trans hg', rest⟩
theorem lies_push {k : List Tr} {x : Tr} {B g4 cap4 : Nat} {fs : Nat → Value} {u : Value} {w : World} {S : Nat → Prop} {n y : ByteArray} {l : Bool} (hn : n.size ≤ maxLen) (hy : y.size ≤ maxLen)
    (hown : w.ownsRow B 40 4 (.slice (some ⟨g4, 0, none⟩) (k.length + 1) cap4) (k.length + 1) (kc k fs k.length ++ [.string x.name, .string x.text, .bool x.leaf, u])) (hls : ∀ i, i < k.length → Lies w S (nth k i) (fs i)) (hx : Lies w S x u) (hS : S g4) :
    Lies w S ⟨n, y, l, k ++ [x]⟩ (.slice (some ⟨g4, 0, none⟩) (k.length + 1) cap4) := by
  have hlen : (k ++ [x]).length = k.length + 1 := by simp
  have hnc : k.length + 1 ≤ cap4 ∧ cap4 ≤ maxLen := by
    rcases hown.2 with ⟨e, _⟩ | ⟨g, cap, cur, e, _, _, h1, h2, _⟩
    · cases e
    · cases e; exact ⟨h1, h2⟩
  refine Lies.shut ⟨some ⟨g4, 0, none⟩, cap4, g4, 0, fun i => if i < k.length then fs i else u, by simp only [hlen], hn, hy, by simp only [hlen]; exact hnc.1, hnc.2, fun _ => ⟨rfl, hS⟩, fun i hi => ?_, fun i hi => ?_⟩
  · simp only [hlen] at hi
    simp only [Nat.zero_add]
    have hk4 := kc_len k fs k.length
    by_cases h : i < k.length
    · obtain ⟨q0, q1, q2, q3⟩ := kc_get k fs k.length i h
      rw [nth_eq h] at q0 q1 q2
      rw [World.ownsRow.cellAt hown _ (by omega), World.ownsRow.cellAt hown _ (by omega), World.ownsRow.cellAt hown _ (by omega), World.ownsRow.cellAt hown _ (by omega),
        List.getElem?_append_left (by omega), List.getElem?_append_left (by omega), List.getElem?_append_left (by omega), List.getElem?_append_left (by omega), q0, q1, q2, q3, List.getElem_append_left h]
      simp [h]
    · obtain rfl : i = k.length := by omega
      rw [World.ownsRow.cellAt hown _ (by omega), World.ownsRow.cellAt hown _ (by omega), World.ownsRow.cellAt hown _ (by omega), World.ownsRow.cellAt hown _ (by omega),
        List.getElem?_append_right (by omega), List.getElem?_append_right (by omega), List.getElem?_append_right (by omega), List.getElem?_append_right (by omega), hk4]
      simp
  · simp only [hlen] at hi
    by_cases h : i < k.length
    · dsimp only
      rw [if_pos h, List.getElem_append_left h, ← nth_eq h]
      exact hls i h
    · obtain rfl : i = k.length := by omega
      dsimp only
      rw [if_neg h]
      simp
      exact hx
theorem run_makeBytes (n : Nat) (hn : n ≤ 1048576) (w : World) :
    (Instr.makeSlice 22 (.int .i64 (n : Int)) (.int .i64 (n : Int))).run Try.prog w = .ok (.slice (some ⟨w.heap.size, 0, none⟩) n n) (w.alloc (.cells (madeCells #[.int .u8 0] n) 5)) := by
  obtain ⟨i, hi, hz, hs, hb⟩ := info_parts info5
  have hr := run_make (P := Try.prog) w 22 5 i _ Try.underlying22 hi hz .i64 .i64 n n (by omega) (Int.le_refl _) (by rw [hb]; omega) (by omega)
  simp only [Int.toNat_natCast, hs, Nat.mul_one] at hr
  exact hr
theorem conv_zs (n : Nat) (hn : n ≤ 1048576) (w : World) : (convert 22 9 (.slice (some ⟨w.heap.size, 0, none⟩) n n)).run Try.prog (w.alloc (.cells (madeCells #[.int .u8 0] n) 5)) = .ok (.string (zs n)) (w.alloc (.cells (madeCells #[.int .u8 0] n) 5)) := by
  have h := World.ownsRow_lit (base := w.heap.size) (e := 5) (size := 1) w (madeCells #[.int .u8 0] n) n (Nat.le_refl _) (by unfold maxLen; omega) (by rw [size_madeCells, Nat.mul_one])
  have h2 := conv_own (B := w.heap.size) (w := w.alloc (.cells (madeCells #[.int .u8 0] n) 5)) (v := .slice (some ⟨w.heap.size, 0, none⟩) n n) (l := List.replicate n 0) (by
    have e : bc (List.replicate n 0) = (madeCells #[.int .u8 0] n).toList := by rw [toList_madeCells_one]; simp [bc]
    rw [e, List.length_replicate]
    exact h)
  exact h2
theorem kc_ext {k k' : List Tr} (fs : Nat → Value) : ∀ j, (∀ i, i < j → nth k i = nth k' i) → kc k fs j = kc k' fs j
  | 0, _ => rfl
  | j + 1, h => by rw [kc, kc, kc_ext fs j (fun i hi => h i (by omega)), h j (by omega)]
theorem Grw.ext {k k' : List Tr} {B j : Nat} {v : Value} {w : World} (h : Grw k B j v w) (e : ∀ i, i < j → nth k i = nth k' i) : Grw k' B j v w := by
  obtain ⟨fs, l, h, hown, hls, hr, hd⟩ := h
  exact ⟨fs, l, h, by rw [← kc_ext fs j e]; exact hown, fun i hi => by rw [← e i hi]; exact hls i hi, hr, hd⟩
theorem nth_rep (x : Tr) (n i : Nat) (h : i < n) : nth (List.replicate n x) i = x := by simp [nth, h]
theorem own_lf (w : World) (lo hi : Nat) (n x : ByteArray) (hn : n.size ≤ maxLen) (hx : x.size ≤ maxLen) : Own w lo hi (lf n x) (.slice none 0 0) :=
  Own.shut ⟨none, 0, 0, fun _ => .bool false, fun _ => 0, fun _ => 0, rfl, hn, hx, Nat.le_refl _, Nat.zero_le _, fun h => absurd h (Nat.not_lt_zero _), fun i hi => absurd hi (Nat.not_lt_zero _), fun i hi => absurd hi (Nat.not_lt_zero _), fun i hi => absurd hi (Nat.not_lt_zero _), fun i j hi hj => absurd hj (Nat.not_lt_zero _)⟩
theorem lies_nil (w : World) (S : Nat → Prop) (n x : ByteArray) (l : Bool) (hn : n.size ≤ maxLen) (hx : x.size ≤ maxLen) : Lies w S ⟨n, x, l, []⟩ (.slice none 0 0) :=
  Lies.shut ⟨none, 0, 0, 0, fun _ => .bool false, rfl, hn, hx, Nat.le_refl _, Nat.zero_le _, fun h => absurd h (Nat.not_lt_zero _), fun i hi => absurd hi (Nat.not_lt_zero _), fun i hi => absurd hi (Nat.not_lt_zero _)⟩
/-- Another name, text and kind over the same Kids. -/
theorem lies_as {w : World} {S : Nat → Prop} {t : Tr} {v : Value} (h : Lies w S t v) {n x : ByteArray} {l : Bool} (hn : n.size ≤ maxLen) (hx : x.size ≤ maxLen) : Lies w S ⟨n, x, l, t.kids⟩ v := by
  obtain ⟨a, cap, b, off, sv, e, _, _, h3, h4, h5, h6, h7⟩ := h.out
  exact Lies.shut ⟨a, cap, b, off, sv, e, hn, hx, h3, h4, h5, h6, h7⟩
theorem lies_one {w : World} {S : Nat → Prop} {t : Tr} {v : Value} {g : Nat} {n : ByteArray} (h : Lies w S t v) (hn : n.size ≤ maxLen) (hc : Four w g (.string t.name) (.string t.text) (.bool t.leaf) v) (hg : S g) : Lies w S ⟨n, ByteArray.empty, false, [t]⟩ (.slice (some ⟨g, 0, none⟩) 1 1) :=
  Lies.shut ⟨some ⟨g, 0, none⟩, 1, g, 0, fun _ => v, rfl, hn, Nat.zero_le _, Nat.le_refl _, by unfold maxLen; omega, fun _ => ⟨rfl, hg⟩, fun i hi => by
    have hi0 : i = 0 := by simpa using hi
    subst hi0
    exact hc, fun i hi => by
    have hi0 : i = 0 := by simpa using hi
    subst hi0
    exact h⟩
theorem Box4.set0 {w : World} {b : Nat} {c0 c1 c2 c3 : Value} (h : Box4 w b c0 c1 c2 c3) (u : Value) : Box4 (w.setCell ⟨b, 0, none⟩ u) b u c1 c2 c3 := by
  obtain ⟨f, h, rfl, rfl, rfl, rfl⟩ := h
  exact ⟨_, h.set 0 u, if_pos rfl, if_neg (by omega), if_neg (by omega), if_neg (by omega)⟩
theorem Box4.set1 {w : World} {b : Nat} {c0 c1 c2 c3 : Value} (h : Box4 w b c0 c1 c2 c3) (u : Value) : Box4 (w.setCell ⟨b, 1, none⟩ u) b c0 u c2 c3 := by
  obtain ⟨f, h, rfl, rfl, rfl, rfl⟩ := h
  exact ⟨_, h.set 1 u, if_neg (by omega), if_pos rfl, if_neg (by omega), if_neg (by omega)⟩
theorem Box4.set2 {w : World} {b : Nat} {c0 c1 c2 c3 : Value} (h : Box4 w b c0 c1 c2 c3) (u : Value) : Box4 (w.setCell ⟨b, 2, none⟩ u) b c0 c1 u c3 := by
  obtain ⟨f, h, rfl, rfl, rfl, rfl⟩ := h
  exact ⟨_, h.set 2 u, if_neg (by omega), if_neg (by omega), if_pos rfl, if_neg (by omega)⟩
theorem Box4.past {w : World} {b g o : Nat} {c0 c1 c2 c3 x : Value} (h : Box4 w b c0 c1 c2 c3) (hg : b ≠ g) : Box4 (w.setCell ⟨g, o, none⟩ x) b c0 c1 c2 c3 := h.keep (blk_setCell_other _ _ _ _ (by exact hg))
theorem Lies.set {w : World} {S : Nat → Prop} {t : Tr} {v x : Value} {g o : Nat} (h : Lies w S t v) (hg : ¬ S g) : Lies (w.setCell ⟨g, o, none⟩ x) S t v :=
  h.keep (fun q hq => blk_setCell_other _ _ _ _ (by show q ≠ g; intro e; subst e; exact hg hq))
theorem Lies.out' {w w' : World} {S : Nat → Prop} {t : Tr} {v : Value} {c : Nat} (h : Lies w (fun q => S q ∧ q < w.heap.size) t v) (ho : Out c (c + 1) w w') (hc : ∀ q, S q → c < q) : Lies w' (fun q => S q ∧ q < w.heap.size) t v :=
  h.keep (fun q hq => ho.2.2.2.2 q hq.2 (by have := hc q hq.1; omega))

set_option maxHeartbeats 3200000 in
theorem drawAny_any {cs : List UInt8} {a : Option Addr} {cap b off c : Nat} (s : Nat × Nat) (w : World) (hc : Cur w cs a cap b off c s) :
    Calls Try.prog 92 #[.pointer (some ⟨c, 0, none⟩)] w fun e w' => DrewL cs a cap b off c (cAny cs s) w e w' := by
  have hlt := hc.lt
  have hsz := size_any 5 _ (hc.still (bel_alloc w (.cells #[.string ByteArray.empty, .string ByteArray.empty, .bool false, .slice none 0 0] 40))) (by decide)
  have hs5 := cSize_le cs 5 s
  have e : cAny cs s = cSpoil cs (cTree cs (1 + (cSize cs 5 s).1) (cSize cs 5 s).2).1 (cPick cs 24 (cTree cs (1 + (cSize cs 5 s).1) (cSize cs 5 s).2).2).1 (cPick cs 24 (cTree cs (1 + (cSize cs 5 s).1) (cSize cs 5 s).2).2).2 := rfl
  rw [e]
  have HSZ := (show Hid _ from hsz); clear hsz hc e
  generalize cSize cs 5 s = q at *
  obtain ⟨z, s1⟩ := q
  dsimp only at hs5 ⊢
  have hdt : ∀ w1, Cur w1 cs a cap b off c s1 → Calls Try.prog 109 #[.pointer (some ⟨c, 0, none⟩), .int .i64 ((1 + z : Nat) : Int)] w1 fun e w' => Drew cs a cap b off c (cTree cs (1 + z) s1) w1 e w' := fun w1 h => drawTree_any (1 + z) s1 w1 h (by omega)
  rw [show ((1 + z : Nat) : Int) = 1 + (z : Int) from by omega] at hdt
  have HDT := (show Hid _ from hdt); clear hdt
  have hnm := cTree_nm cs (1 + z) s1
  have hwt := cTree_wt cs (1 + z) s1
  generalize cTree cs (1 + z) s1 = q at *
  obtain ⟨t, s2⟩ := q
  dsimp only at hnm ⊢
  have hpk : ∀ w1, Cur w1 cs a cap b off c s2 → _ := fun w1 h => pick_any 24 w1 h (by decide)
  have HPK := (show Hid _ from hpk); clear hpk
  have hk24 := cPick_lt cs 24 s2 (by decide)
  generalize cPick cs 24 s2 = q at *
  obtain ⟨k, s3⟩ := q
  dsimp only at hk24 ⊢
  have R0 := Box4.new w (.string ByteArray.empty) (.string ByteArray.empty) (.bool false) (.slice none 0 0)
  have HR0 := (show Hid _ from R0); clear R0
  go_enter Try.func92, Try.ntmps92
  go_wp2_with fail
  refine Calls.mono HSZ.out ?_
  rintro e w1 ⟨rfl, ho1, hsz1, hc1⟩
  dsimp only at hc1 ⊢
  have hz1 : w.heap.size + 1 ≤ w1.heap.size := by rw [hsz1]; simp
  clear hsz1
  have H1 := (show Hid _ from (⟨(Out.of_below (bel_alloc w _)).trans ho1, Box4.out HR0.out ho1 hlt⟩ : Out c (c + 1) w w1 ∧ _)); clear ho1 HR0
  have hcl := HDT.out w1 hc1
  have HCL := (show Hid _ from hcl); clear hcl hc1
  go_wp2_with fail
  refine Calls.mono HCL.out ?_
  rintro e w2 ⟨xa, xm, xc, rfl, ho2, hc2, hg2⟩
  dsimp only at hc2 hg2 ⊢
  have hz2 := ho2.2.2.2.1
  have hb2 := bel_alloc w2 (.cells #[.string t.name, .string t.text, .bool t.leaf, .slice xa xm xc] 40)
  have H2 := (show Hid _ from (⟨(H1.out.1.trans ho2).below hb2, (Box4.out H1.out.2 ho2 hlt).still hb2, Box4.new w2 (.string t.name) (.string t.text) (.bool t.leaf) (.slice xa xm xc), (Grw.rowL (hg2.low hz1)).keep (fun q _ hq => hb2.block q hq)⟩ : Out c (c + 1) w _ ∧ Box4 _ w.heap.size _ _ _ _ ∧ Box4 _ w2.heap.size _ _ _ _ ∧ RowL _ (w.heap.size + 1) w2.heap.size _ _))
  have hgo := Grw.done (n := t.name) (x := t.text) (le := t.leaf) hg2 hnm.1 hnm.2
  have hgo' : Own w2 w1.heap.size w2.heap.size t (.slice xa xm xc) := by cases t; exact hgo
  have hl2 : Lies w2 (fun q => w.heap.size + 1 ≤ q ∧ q < w2.heap.size) t (.slice xa xm xc) := (Own.lies hgo').mono (fun q hq => ⟨by omega, hq.2⟩)
  have hcl := HPK.out _ (hc2.still hb2)
  have HCL := (show Hid _ from hcl)
  have HL2 := (show Hid _ from hl2.still hb2); clear hcl hc2 hg2 hgo hgo' ho2 hl2 hb2
  go_wp2_with fail
  refine Calls.mono HCL.out ?_
  rintro e w3 ⟨rfl, ho3, hsz3, hc3⟩
  dsimp only at hc3 ⊢
  have hz3 : w2.heap.size + 1 ≤ w3.heap.size := by have := ho3.2.2.2.1; simp at this; omega
  have H3 := (show Hid _ from (⟨H2.out.1.trans ho3, Box4.out H2.out.2.1 ho3 hlt, Box4.out H2.out.2.2.1 ho3 (by omega), hc3, RowL.keep H2.out.2.2.2 (fun q hq hg => ho3.2.2.2.2 q (by simp; omega) (by omega))⟩ : Out c (c + 1) w w3 ∧ _ ∧ _ ∧ _ ∧ _))
  have hl3 : Lies w3 (fun q => w.heap.size + 1 ≤ q ∧ q < w2.heap.size) t (.slice xa xm xc) := Lies.keep (fun q hq => ho3.2.2.2.2 q (by simp; omega) (by omega)) HL2.out
  have HL3 := (show Hid _ from hl3); clear hl3 HL2 ho3 hsz3 hc3 H2 H1
  by_cases h8 : 8 ≤ k
  · have hcs : cSpoil cs t k s3 = (t, s3) := by
      unfold cSpoil
      rw [if_neg (by omega), if_neg (by omega), if_neg (by omega), if_neg (by omega), if_neg (by omega), if_neg (by omega), if_neg (by omega), if_neg (by omega)]
    have HCS := (show Hid _ from hcs); clear hcs
    have k0 : ((k : Int) == 0) = false := by simp; omega
    have k1 : ((k : Int) == 1) = false := by simp; omega
    have k2 : ((k : Int) == 2) = false := by simp; omega
    have k3 : ((k : Int) == 3) = false := by simp; omega
    have k4 : ((k : Int) == 4) = false := by simp; omega
    have k5 : ((k : Int) == 5) = false := by simp; omega
    have k6 : ((k : Int) == 6) = false := by simp; omega
    have k7 : ((k : Int) == 7) = false := by simp; omega
    have HE : Hid (Sit cs a cap b off c w w2.heap.size (t, s3) (.slice xa xm xc) w3) := (⟨H3.out.1, H3.out.2.1, H3.out.2.2.1, H3.out.2.2.2.1, Lies.mono (fun q hq => ⟨hq.1, by have h1 := hq.2; omega⟩) HL3.out⟩)
    obtain ⟨X0, X1, X2, X3⟩ := Box4.cells HE.out.2.2.1
    obtain ⟨Z0, Z1, Z2, Z3⟩ := Box4.cells HE.out.2.1
    have y0 := Box4.frozen HE.out.2.1 0
    have y1 := Box4.frozen HE.out.2.1 1
    have y2 := Box4.frozen HE.out.2.1 2
    have y3 := Box4.frozen HE.out.2.1 3
    go_wp2_with fail
    refine bodyPost_ret (v := .agg #[.string t.name, .string t.text, .bool t.leaf, .slice xa xm xc]) (by simp [results, Try.results92, go_sem, Z0, Z1, Z2, Z3]) rfl ?_
    rw [HCS.out]
    exact ⟨_, _, _, rfl, (((HE.out.1.put (Nat.le_refl _)).put (Nat.le_refl _)).put (Nat.le_refl _)).put (Nat.le_refl _), (((Cur.set HE.out.2.2.2.1 hlt).set hlt).set hlt).set hlt, Lies.mono (fun q hq => by have h1 := hq.1; omega) ((((Lies.set HE.out.2.2.2.2 (fun h => by have h1 := h.1; omega)).set (fun h => by have h1 := h.1; omega)).set (fun h => by have h1 := h.1; omega)).set (fun h => by have h1 := h.1; omega))⟩
  · have hk8 : k = 0 ∨ k = 1 ∨ k = 2 ∨ k = 3 ∨ k = 4 ∨ k = 5 ∨ k = 6 ∨ k = 7 := by omega
    rcases hk8 with rfl | rfl | rfl | rfl | rfl | rfl | rfl | rfl
    · have hcs : cSpoil cs t 0 s3 = (⟨pickOf bdL (cPick cs 4 s3).1, t.text, t.leaf, t.kids⟩, (cPick cs 4 s3).2) := rfl
      have HCS := (show Hid _ from hcs); clear hcs
      have hcl := pick_any 4 _ (Cur.still H3.out.2.2.2.1 (bel_alloc w3 (.cells #[.string ⟨#[]⟩, .string ⟨#[49, 97]⟩, .string ⟨#[97, 32, 98]⟩, .string ⟨#[97, 98, 99, 100, 101, 102, 103, 104, 105, 106, 107, 108, 109, 110, 111, 112, 113, 114, 115, 116, 117, 118, 119, 120, 121]⟩] 9))) (by decide)
      have hl := cPick_lt cs 4 s3 (by decide)
      have HCL := (show Hid _ from hcl); clear hcl
      generalize cPick cs 4 s3 = q at *
      obtain ⟨q, s4⟩ := q
      dsimp only at hl
      have x0 := cell_pick w3 bdL 9 #[.string ⟨#[]⟩, .string ⟨#[49, 97]⟩, .string ⟨#[97, 32, 98]⟩, .string ⟨#[97, 98, 99, 100, 101, 102, 103, 104, 105, 106, 107, 108, 109, 110, 111, 112, 113, 114, 115, 116, 117, 118, 119, 120, 121]⟩] rfl q hl
      have HX := (show Hid _ from x0); clear x0
      have hps : (pickOf bdL q).size ≤ 25 := pickOf_size (by decide) _
      go_wp2_with fail
      refine Calls.mono HCL.out ?_
      rintro e w4 ⟨rfl, ho4, hs4, hc4⟩
      dsimp only at hc4 ⊢
      have x1 := Out.cell ho4 HX.out (.inr (by have := Cur.lt H3.out.2.2.2.1; omega))
      have hb3 := bel_alloc w3 (.cells #[.string ⟨#[]⟩, .string ⟨#[49, 97]⟩, .string ⟨#[97, 32, 98]⟩, .string ⟨#[97, 98, 99, 100, 101, 102, 103, 104, 105, 106, 107, 108, 109, 110, 111, 112, 113, 114, 115, 116, 117, 118, 119, 120, 121]⟩] 9)
      have G4 := Box4.out (Box4.still H3.out.2.2.1 hb3) ho4 (by omega)
      obtain ⟨g0, g1, g2, g3⟩ := G4.cells
      have gy := G4.frozen 0
      have hl4 : Lies w4 (fun q => w.heap.size + 1 ≤ q ∧ q < w2.heap.size) t (.slice xa xm xc) := Lies.keep (fun q hq => ho4.2.2.2.2 q (by simp; omega) (by omega)) (Lies.still HL3.out hb3)
      have HE : Hid (Sit cs a cap b off c w w2.heap.size (⟨pickOf bdL q, t.text, t.leaf, t.kids⟩, s4) (.slice xa xm xc) (w4.setCell ⟨w2.heap.size, 0, none⟩ (.string (pickOf bdL q)))) :=
        (⟨((H3.out.1.below hb3).trans ho4).put (by omega), (Box4.out (Box4.still H3.out.2.1 hb3) ho4 hlt).past (by omega), G4.set0 _, hc4.set (by omega), lies_as (Lies.mono (fun q hq => ⟨hq.1, by have h1 := hq.2; omega⟩) (hl4.set (by omega))) (Nat.le_trans hps (by unfold maxLen; omega)) hnm.2⟩)
      clear ho4 hs4 hc4 G4 hl4
      obtain ⟨X0, X1, X2, X3⟩ := Box4.cells HE.out.2.2.1
      obtain ⟨Z0, Z1, Z2, Z3⟩ := Box4.cells HE.out.2.1
      have y0 := Box4.frozen HE.out.2.1 0
      have y1 := Box4.frozen HE.out.2.1 1
      have y2 := Box4.frozen HE.out.2.1 2
      have y3 := Box4.frozen HE.out.2.1 3
      go_wp2_with fail
      refine bodyPost_ret (v := .agg #[.string (pickOf bdL q), .string t.text, .bool t.leaf, .slice xa xm xc]) (by simp [results, Try.results92, go_sem, Z0, Z1, Z2, Z3]) rfl ?_
      rw [HCS.out]
      exact ⟨_, _, _, rfl, (((HE.out.1.put (Nat.le_refl _)).put (Nat.le_refl _)).put (Nat.le_refl _)).put (Nat.le_refl _), (((Cur.set HE.out.2.2.2.1 hlt).set hlt).set hlt).set hlt, Lies.mono (fun q hq => by have h1 := hq.1; omega) ((((Lies.set HE.out.2.2.2.2 (fun h => by have h1 := h.1; omega)).set (fun h => by have h1 := h.1; omega)).set (fun h => by have h1 := h.1; omega)).set (fun h => by have h1 := h.1; omega))⟩
    · have hcs : cSpoil cs t 1 s3 = (⟨t.name, t.text, !t.leaf, t.kids⟩, s3) := rfl
      have HCS := (show Hid _ from hcs); clear hcs
      obtain ⟨g0, g1, g2, g3⟩ := Box4.cells H3.out.2.2.1
      have gy := Box4.frozen H3.out.2.2.1 2
      have HE : Hid (Sit cs a cap b off c w w2.heap.size (⟨t.name, t.text, !t.leaf, t.kids⟩, s3) (.slice xa xm xc) (w3.setCell ⟨w2.heap.size, 2, none⟩ (.bool !t.leaf))) :=
        (⟨H3.out.1.put (by omega), Box4.past H3.out.2.1 (by omega), Box4.set2 H3.out.2.2.1 _, Cur.set H3.out.2.2.2.1 (by omega), lies_as (Lies.mono (fun q hq => ⟨hq.1, by have h1 := hq.2; omega⟩) (Lies.set HL3.out (by omega))) hnm.1 hnm.2⟩)
      obtain ⟨X0, X1, X2, X3⟩ := Box4.cells HE.out.2.2.1
      obtain ⟨Z0, Z1, Z2, Z3⟩ := Box4.cells HE.out.2.1
      have y0 := Box4.frozen HE.out.2.1 0
      have y1 := Box4.frozen HE.out.2.1 1
      have y2 := Box4.frozen HE.out.2.1 2
      have y3 := Box4.frozen HE.out.2.1 3
      go_wp2_with fail
      refine bodyPost_ret (v := .agg #[.string t.name, .string t.text, .bool !t.leaf, .slice xa xm xc]) (by simp [results, Try.results92, go_sem, Z0, Z1, Z2, Z3]) rfl ?_
      rw [HCS.out]
      exact ⟨_, _, _, rfl, (((HE.out.1.put (Nat.le_refl _)).put (Nat.le_refl _)).put (Nat.le_refl _)).put (Nat.le_refl _), (((Cur.set HE.out.2.2.2.1 hlt).set hlt).set hlt).set hlt, Lies.mono (fun q hq => by have h1 := hq.1; omega) ((((Lies.set HE.out.2.2.2.2 (fun h => by have h1 := h.1; omega)).set (fun h => by have h1 := h.1; omega)).set (fun h => by have h1 := h.1; omega)).set (fun h => by have h1 := h.1; omega))⟩
    · have hcs : cSpoil cs t 2 s3 = (⟨t.name, t.text ++ ⟨#[113]⟩, t.leaf, t.kids⟩, s3) := rfl
      have HCS := (show Hid _ from hcs); clear hcs
      obtain ⟨g0, g1, g2, g3⟩ := Box4.cells H3.out.2.2.1
      have gy := Box4.frozen H3.out.2.2.1 1
      have hts : (t.text ++ ⟨#[113]⟩).size ≤ maxLen := by
        have h1 := hwt
        have h2 := wt_sizes t
        have h3 : 4 ^ (1 + z) ≤ 4 ^ 6 := Nat.pow_le_pow_right (by decide) (by omega)
        rw [ByteArray.size_append]
        show t.text.size + 1 ≤ maxLen
        unfold maxLen
        omega
      have hno : ¬ 9223372036854775807 < t.text.size + 1 := by
        rw [ByteArray.size_append] at hts
        have h2 : t.text.size + 1 ≤ maxLen := hts
        unfold maxLen at h2
        omega
      have HE : Hid (Sit cs a cap b off c w w2.heap.size (⟨t.name, t.text ++ ⟨#[113]⟩, t.leaf, t.kids⟩, s3) (.slice xa xm xc) (w3.setCell ⟨w2.heap.size, 1, none⟩ (.string (t.text ++ ⟨#[113]⟩)))) :=
        (⟨H3.out.1.put (by omega), Box4.past H3.out.2.1 (by omega), Box4.set1 H3.out.2.2.1 _, Cur.set H3.out.2.2.2.1 (by omega), lies_as (Lies.mono (fun q hq => ⟨hq.1, by have h1 := hq.2; omega⟩) (Lies.set HL3.out (by omega))) hnm.1 hts⟩)
      obtain ⟨X0, X1, X2, X3⟩ := Box4.cells HE.out.2.2.1
      obtain ⟨Z0, Z1, Z2, Z3⟩ := Box4.cells HE.out.2.1
      have y0 := Box4.frozen HE.out.2.1 0
      have y1 := Box4.frozen HE.out.2.1 1
      have y2 := Box4.frozen HE.out.2.1 2
      have y3 := Box4.frozen HE.out.2.1 3
      go_wp2_with fail
      refine bodyPost_ret (v := .agg #[.string t.name, .string (t.text ++ ⟨#[113]⟩), .bool t.leaf, .slice xa xm xc]) (by simp [results, Try.results92, go_sem, Z0, Z1, Z2, Z3]) rfl ?_
      rw [HCS.out]
      exact ⟨_, _, _, rfl, (((HE.out.1.put (Nat.le_refl _)).put (Nat.le_refl _)).put (Nat.le_refl _)).put (Nat.le_refl _), (((Cur.set HE.out.2.2.2.1 hlt).set hlt).set hlt).set hlt, Lies.mono (fun q hq => by have h1 := hq.1; omega) ((((Lies.set HE.out.2.2.2.2 (fun h => by have h1 := h.1; omega)).set (fun h => by have h1 := h.1; omega)).set (fun h => by have h1 := h.1; omega)).set (fun h => by have h1 := h.1; omega))⟩
    · have hcs : cSpoil cs t 3 s3 = (⟨t.name, t.text, t.leaf, t.kids ++ [dashT]⟩, s3) := rfl
      have HCS := (show Hid _ from hcs); clear hcs
      obtain ⟨g0, g1, g2, g3⟩ := Box4.cells H3.out.2.2.1
      obtain ⟨fs, hown, hls, hgb⟩ := H3.out.2.2.2.2
      have hb3 := bel_alloc w3 (.cells #[.string ⟨#[45]⟩, .string ByteArray.empty, .bool false, .slice none 0 0] 40)
      have hown2 := own_still hown hb3
      have HO2 := (show Hid _ from hown2); clear hown2
      have HF := (show Hid _ from (⟨hown, hls, hgb⟩ : _ ∧ _ ∧ _)); clear hown hls hgb
      obtain ⟨i28, hi28, hzz⟩ := Option.map_eq_some_iff.1 info40
      simp only [Prod.mk.injEq] at hzz
      obtain ⟨hz0, hzz1, hzz2⟩ := hzz
      have hkl : t.kids.length ≤ 1048576 := by
        have h1 := hwt
        have h2 := wt_sizes t
        have h3 : 4 ^ (1 + z) ≤ 4 ^ 6 := Nat.pow_le_pow_right (by decide) (by omega)
        omega
      generalize hkn : t.kids.length = kn at *
      go_wp2_with (at_builtin; refine wpList_append_lies _ rfl (.tmp 39) (.tmp 41) 38 rfl (w.heap.size + 1) 40 i28 _ 4 64 Try.underlying38 hi28 hz0 hzz1 hzz2 rfl (by decide) _ kn (kc t.kids fs kn) rfl HO2.out ⟨w3.heap.size, 0, none⟩ 1 1 [.string ⟨#[45]⟩, .string ByteArray.empty, .bool false, .slice none 0 0] rfl rfl ?c1 ?c2 (by decide) ?c3 (by omega) ?c5 _ rfl ?nx)
      case c1 => exact cell_four_box _ _ _ _ _ _
      case c2 => intro u hu; simp at hu; rcases hu with rfl | rfl | rfl | rfl <;> rfl
      case c3 => unfold maxLen; omega
      case c5 => simp; omega
      case nx =>
        intro g4 cap4 w4 hown4 hgr4 hat4 hlt4
        obtain ⟨hown, hls, hgb⟩ := HF.out
        have hvl := hown.lt
        have hblk : ∀ q, q < w3.heap.size → (Value.slice xa xm xc).ownBlock ≠ some q → w4.heap[q]? = w3.heap[q]? := fun q hq hn => (hgr4.block q (by simp; omega) (fun e => hn e.symm)).trans (hb3.block q hq)
        have hng : ∀ q, w2.heap.size ≤ q ∨ q < w.heap.size + 1 → (Value.slice xa xm xc).ownBlock ≠ some q := fun q hq e => by have h1 := hgb q e; have h2 := hvl q e; omega
        have hg4 : g4 ≠ w2.heap.size ∧ w.heap.size + 1 ≤ g4 := by
          rcases hat4 with e | e
          · have h1 := hgb g4 e; have h2 := hvl g4 e; omega
          · omega
        have G4 := Box4.keep H3.out.2.2.1 (hblk w2.heap.size (by omega) (hng _ (.inl (Nat.le_refl _))))
        have Z4 := Box4.keep H3.out.2.1 (hblk w.heap.size (by omega) (hng _ (.inr (by omega))))
        have hs4 : w3.heap.size + 1 ≤ w4.heap.size := by have := hgr4.size; simp at this; omega
        have ho4 : Out c (c + 1) w w4 := ⟨hgr4.os.trans H3.out.1.1, hgr4.tape.trans H3.out.1.2.1, hgr4.output.trans H3.out.1.2.2.1, by have := H3.out.1.2.2.2.1; omega, fun k hk hn => (hblk k (by have := H3.out.1.2.2.2.1; omega) (hng k (.inr (by omega)))).trans (H3.out.1.2.2.2.2 k hk hn)⟩
        have hc4 := Cur.keep H3.out.2.2.2.1 (fun k hk => hblk k (by omega) (hng k (.inr (by omega))))
        obtain ⟨g0', g1', g2', g3'⟩ := G4.cells
        have gy := G4.frozen 3
        have hownE : (w4.setCell ⟨w2.heap.size, 3, none⟩ (.slice (some ⟨g4, 0, none⟩) (kn + 1) cap4)).ownsRow (w.heap.size + 1) 40 4 (.slice (some ⟨g4, 0, none⟩) (kn + 1) cap4) (kn + 1) (kc t.kids fs kn ++ [.string dashT.name, .string dashT.text, .bool dashT.leaf, .slice none 0 0]) := by
          refine ⟨hown4.1, ?_⟩
          rcases hown4.2 with ⟨e, _⟩ | ⟨g', cap', cur, e, hB, hg', rest⟩
          · cases e
          · cases e
            exact .inr ⟨g4, cap4, cur, rfl, hB, (blk_setCell_other _ _ _ _ (by exact hg4.1)).trans hg', rest⟩
        have hlE : Lies (w4.setCell ⟨w2.heap.size, 3, none⟩ (.slice (some ⟨g4, 0, none⟩) (kn + 1) cap4)) (fun q => w.heap.size + 1 ≤ q ∧ q ≠ w2.heap.size) ⟨t.name, t.text, t.leaf, t.kids ++ [dashT]⟩ (.slice (some ⟨g4, 0, none⟩) (kn + 1) cap4) := by
          subst hkn
          exact lies_push hnm.1 hnm.2 hownE (fun i hi => ((hls i hi).keep (fun q hq => (blk_setCell_other _ _ _ _ (by show q ≠ w2.heap.size; have := hq.1.2; omega)).trans (hblk q (by have := hq.1.2; omega) hq.2))).mono (fun q hq => ⟨hq.1.1, by have h1 := hq.1.2; omega⟩)) (lies_nil _ _ _ _ _ (by decide) (by decide)) ⟨hg4.2, hg4.1⟩
        have HE : Hid (Sit cs a cap b off c w w2.heap.size (⟨t.name, t.text, t.leaf, t.kids ++ [dashT]⟩, s3) (.slice (some ⟨g4, 0, none⟩) (kn + 1) cap4) (w4.setCell ⟨w2.heap.size, 3, none⟩ (.slice (some ⟨g4, 0, none⟩) (kn + 1) cap4))) :=
          (⟨ho4.put (by omega), Box4.past Z4 (by omega), Box4.set3 G4 _, Cur.set hc4 (by omega), hlE⟩)
        clear hownE hlE ho4 hc4 G4 Z4 hown4 hgr4 hat4 hblk hng hown hls hgb hvl
        obtain ⟨X0, X1, X2, X3⟩ := Box4.cells HE.out.2.2.1
        obtain ⟨Z0, Z1, Z2, Z3⟩ := Box4.cells HE.out.2.1
        have y0 := Box4.frozen HE.out.2.1 0
        have y1 := Box4.frozen HE.out.2.1 1
        have y2 := Box4.frozen HE.out.2.1 2
        have y3 := Box4.frozen HE.out.2.1 3
        go_wp2_with fail
        refine bodyPost_ret (v := .agg #[.string t.name, .string t.text, .bool t.leaf, .slice (some ⟨g4, 0, none⟩) (kn + 1) cap4]) (by simp [results, Try.results92, go_sem, Z0, Z1, Z2, Z3]) rfl ?_
        rw [HCS.out]
        exact ⟨_, _, _, rfl, (((HE.out.1.put (Nat.le_refl _)).put (Nat.le_refl _)).put (Nat.le_refl _)).put (Nat.le_refl _), (((Cur.set HE.out.2.2.2.1 hlt).set hlt).set hlt).set hlt, Lies.mono (fun q hq => by have h1 := hq.1; omega) ((((Lies.set HE.out.2.2.2.2 (fun h => by have h1 := h.1; omega)).set (fun h => by have h1 := h.1; omega)).set (fun h => by have h1 := h.1; omega)).set (fun h => by have h1 := h.1; omega))⟩
    · have hcs : cSpoil cs t 4 s3 = (chainT ((cLoop cs 60 2 62 1 s3).1 - 1), (cLoop cs 60 2 62 1 s3).2) := rfl
      have HCS := (show Hid _ from hcs); clear hcs
      generalize hF : cLoop cs 60 2 62 1 s3 = F at *
      have HF := (show Hid _ from hF); clear hF
      go_wp2_with fail
      refine Calls.mono (leafD_any _ _ w3) ?_
      rintro e w4 ⟨rfl, hb4⟩
      have G4 := Box4.still H3.out.2.2.1 hb4
      obtain ⟨g0, g1, g2, g3⟩ := G4.cells
      have y0 := G4.frozen 0
      have y1 := G4.frozen 1
      have y2 := G4.frozen 2
      have y3 := G4.frozen 3
      have hs4 := hb4.size
      have HE : Hid (Sit cs a cap b off c w w2.heap.size (chainT 0, s3) (.slice none 0 0) ((((w4.setCell ⟨w2.heap.size, 0, none⟩ (.string ⟨#[97]⟩)).setCell ⟨w2.heap.size, 1, none⟩ (.string ⟨#[]⟩)).setCell ⟨w2.heap.size, 2, none⟩ (.bool true)).setCell ⟨w2.heap.size, 3, none⟩ (.slice none 0 0))) :=
        (⟨((((H3.out.1.below hb4).put (by omega)).put (by omega)).put (by omega)).put (by omega), ((((Box4.still H3.out.2.1 hb4).past (by omega)).past (by omega)).past (by omega)).past (by omega), Box4.set4 G4 _ _ _ _, ((((Cur.still H3.out.2.2.2.1 hb4).set (by omega)).set (by omega)).set (by omega)).set (by omega), lies_nil _ _ _ _ _ (by decide) (by decide)⟩)
      clear hb4 G4 h8
      go_wp2_with fail
      clear g0 g1 g2 g3 y0 y1 y2 y3
      generalize hw5 : (((w4.setCell ⟨w2.heap.size, 0, none⟩ (.string ⟨#[97]⟩)).setCell ⟨w2.heap.size, 1, none⟩ (.string ⟨#[]⟩)).setCell ⟨w2.heap.size, 2, none⟩ (.bool true)).setCell ⟨w2.heap.size, 3, none⟩ (.slice none 0 0) = w5 at *
      clear hw5
      go_loopw [4] (fun i wr => ∃ (n : Nat) (st : Nat × Nat) (va : Option Addr) (vm vc : Nat), i = .int .i64 ((n : Int) + 1) ∧ n ≤ 60 ∧ Hid (Sit cs a cap b off c w w2.heap.size (chainT n, st) (.slice va vm vc) wr ∧ cLoop cs 60 2 (62 - n) (n + 1) st = F)) (fun i _ => 62 - (intOf i).toNat)
      case atStart => exact ⟨0, s3, none, 0, 0, rfl, by omega, HE.out, HF.out⟩
      case round =>
        obtain ⟨n, st, va, vm, vc, rfl, hj2, HR⟩ := hrel
        have hcl := pick_any 2 wr HR.out.1.2.2.2.1 (by decide)
        have hp := cPick_lt cs 2 st (by decide)
        have hF : cLoop cs 60 2 (61 - n + 1) (n + 1) st = F := by rw [show 61 - n + 1 = 62 - n by omega]; exact HR.out.2
        rw [cLoop] at hF
        have HCL := (show Hid _ from hcl); clear hcl
        generalize cPick cs 2 st = q at *
        obtain ⟨p, st'⟩ := q
        dsimp only at hp hF
        have hwz : w2.heap.size < wr.heap.size := Box4.lt HR.out.1.2.2.1
        by_cases hjp : n + 1 < 60 + p
        · rw [if_pos hjp] at hF
          have HFF := (show Hid _ from hF); clear hF
          have hjp' : (n : Int) + 1 < 60 + p := by omega
          go_wp2_with fail
          refine Calls.mono HCL.out ?_
          rintro e w6 ⟨rfl, ho6, hq6, hc6⟩
          clear hq6
          dsimp only at hc6 ⊢
          have hs6 := ho6.2.2.2.1
          have hb6 := bel_alloc w6 (.cells #[.string (chainT n).name, .string (chainT n).text, .bool (chainT n).leaf, .slice va vm vc] 40)
          have G6 := Box4.out HR.out.1.2.2.1 ho6 (by omega)
          have hl6 : Lies w6 (fun q => w.heap.size + 1 ≤ q ∧ q ≠ w2.heap.size) (chainT n) (.slice va vm vc) := (Lies.keep (fun q hq => ho6.2.2.2.2 q hq.2 (by have h1 := hq.1.1; omega)) (Lies.lt HR.out.1.2.2.2.2)).mono (fun q hq => hq.1)
          have hl7 : Lies _ (fun q => w.heap.size + 1 ≤ q ∧ q ≠ w2.heap.size) (chainT (n + 1)) (.slice (some ⟨w6.heap.size, 0, none⟩) 1 1) := lies_one (n := ⟨#[110]⟩) (hl6.still hb6) (by decide) (four_box w6 (.string (chainT n).name) (.string (chainT n).text) (.bool (chainT n).leaf) (.slice va vm vc) 40) ⟨by omega, by omega⟩
          obtain ⟨g0, g1, g2, g3⟩ := G6.cells
          have H6 := (show Hid _ from (⟨(HR.out.1.1.trans ho6).below hb6, (Box4.out HR.out.1.2.1 ho6 hlt).still hb6, G6.still hb6, hc6.still hb6, hl7⟩ : Out c (c + 1) w _ ∧ _ ∧ _ ∧ _ ∧ _)); clear ho6 hc6 G6 hl6 hl7 hb6
          go_wp2_with fail
          clear g0 g1 g2 g3
          generalize hw6 : w6.alloc (.cells #[.string (chainT n).name, .string (chainT n).text, .bool (chainT n).leaf, .slice va vm vc] 40) = w6b at *
          clear hw6
          refine Calls.mono (nodeD_any _ _ _ _ w6b) ?_
          rintro e w7 ⟨rfl, hb7⟩
          have G7 := Box4.still H6.out.2.2.1 hb7
          obtain ⟨g0, g1, g2, g3⟩ := G7.cells
          have y0 := G7.frozen 0
          have y1 := G7.frozen 1
          have y2 := G7.frozen 2
          have y3 := G7.frozen 3
          have HE2 : Hid (Sit cs a cap b off c w w2.heap.size (chainT (n + 1), st') (.slice (some ⟨w6.heap.size, 0, none⟩) 1 1) ((((w7.setCell ⟨w2.heap.size, 0, none⟩ (.string ⟨#[110]⟩)).setCell ⟨w2.heap.size, 1, none⟩ (.string ByteArray.empty)).setCell ⟨w2.heap.size, 2, none⟩ (.bool false)).setCell ⟨w2.heap.size, 3, none⟩ (.slice (some ⟨w6.heap.size, 0, none⟩) 1 1))) :=
            (⟨((((H6.out.1.below hb7).put (by omega)).put (by omega)).put (by omega)).put (by omega), ((((Box4.still H6.out.2.1 hb7).past (by omega)).past (by omega)).past (by omega)).past (by omega), Box4.set4 G7 _ _ _ _, ((((Cur.still H6.out.2.2.2.1 hb7).set (by omega)).set (by omega)).set (by omega)).set (by omega), ((((Lies.still H6.out.2.2.2.2 hb7).set (fun h => h.2 rfl)).set (fun h => h.2 rfl)).set (fun h => h.2 rfl)).set (fun h => h.2 rfl)⟩)
          clear hb7 G7
          go_wp2_with fail
          exact ⟨⟨n + 1, st', _, _, _, by go_num, by omega, HE2.out, by rw [show 62 - (n + 1) = 61 - n by omega]; exact HFF.out⟩, by simp [intOf]; omega⟩
        · rw [if_neg hjp] at hF
          have hjp' : 60 + (p : Int) ≤ n + 1 := by omega
          have HFF := (show Hid _ from hF); clear hF
          go_wp2_with fail
          refine Calls.mono HCL.out ?_
          rintro e w6 ⟨rfl, ho6, hq6, hc6⟩
          clear hq6
          dsimp only at hc6 ⊢
          have hl6 : Lies w6 (fun q => w.heap.size + 1 ≤ q ∧ q ≠ w2.heap.size) (chainT n) (.slice va vm vc) := (Lies.keep (fun q hq => ho6.2.2.2.2 q hq.2 (by have h1 := hq.1.1; omega)) (Lies.lt HR.out.1.2.2.2.2)).mono (fun q hq => hq.1)
          have HE : Hid (Sit cs a cap b off c w w2.heap.size (chainT n, st') (.slice va vm vc) w6) := (⟨HR.out.1.1.trans ho6, Box4.out HR.out.1.2.1 ho6 hlt, Box4.out HR.out.1.2.2.1 ho6 (by omega), hc6, hl6⟩)
          have hcs2 : cSpoil cs t 4 s3 = (chainT n, st') := by rw [HCS.out, ← HFF.out]; rfl
          have HCS2 := (show Hid _ from hcs2); clear hcs2 hl6 ho6 hc6
          obtain ⟨X0, X1, X2, X3⟩ := Box4.cells HE.out.2.2.1
          obtain ⟨Z0, Z1, Z2, Z3⟩ := Box4.cells HE.out.2.1
          have y0 := Box4.frozen HE.out.2.1 0
          have y1 := Box4.frozen HE.out.2.1 1
          have y2 := Box4.frozen HE.out.2.1 2
          have y3 := Box4.frozen HE.out.2.1 3
          go_wp2_with fail
          refine bodyPost_ret (v := .agg #[.string (chainT n).name, .string (chainT n).text, .bool (chainT n).leaf, .slice va vm vc]) (by simp [results, Try.results92, go_sem, Z0, Z1, Z2, Z3]) rfl ?_
          rw [HCS2.out]
          exact ⟨_, _, _, rfl, (((HE.out.1.put (Nat.le_refl _)).put (Nat.le_refl _)).put (Nat.le_refl _)).put (Nat.le_refl _), (((Cur.set HE.out.2.2.2.1 hlt).set hlt).set hlt).set hlt, Lies.mono (fun q hq => by have h1 := hq.1; omega) ((((Lies.set HE.out.2.2.2.2 (fun h => by have h1 := h.1; omega)).set (fun h => by have h1 := h.1; omega)).set (fun h => by have h1 := h.1; omega)).set (fun h => by have h1 := h.1; omega))⟩
    · have hcs : cSpoil cs t 5 s3 = (⟨⟨#[110]⟩, ByteArray.empty, false, List.replicate ((cLoop cs 1000 2 1002 1 s3).1 - 1) (lf ⟨#[107]⟩ ⟨#[]⟩)⟩, (cLoop cs 1000 2 1002 1 s3).2) := rfl
      have HCS := (show Hid _ from hcs); clear hcs
      generalize hF : cLoop cs 1000 2 1002 1 s3 = F at *
      have HF := (show Hid _ from hF); clear hF
      obtain ⟨i28, hi28, hzz⟩ := Option.map_eq_some_iff.1 info40
      simp only [Prod.mk.injEq] at hzz
      obtain ⟨hz0, hzz1, hzz2⟩ := hzz
      have hb3 := bel_alloc w3 (.cells #[] 40)
      have H4 := (show Hid _ from (⟨H3.out.1.below hb3, Box4.still H3.out.2.1 hb3, Box4.still H3.out.2.2.1 hb3, Cur.still H3.out.2.2.2.1 hb3, Grw.made w3 w3.heap.size (List.replicate 1007 (lf ⟨#[107]⟩ ⟨#[]⟩)) (Nat.le_refl _)⟩ : Out c (c + 1) w _ ∧ _ ∧ _ ∧ _ ∧ _)); clear hb3 h8
      go_wp2_with fail
      go_loopw [5, 6] (fun u i wr => ∃ (n : Nat) (st : Nat × Nat) (va : Option Addr) (vm vc : Nat), u = .slice va vm vc ∧ i = .int .i64 ((n : Int) + 1) ∧ n ≤ 1000 ∧ w3.heap.size + 1 ≤ wr.heap.size ∧ Hid ((Out c (c + 1) w wr ∧ Box4 wr w.heap.size (.string ByteArray.empty) (.string ByteArray.empty) (.bool false) (.slice none 0 0) ∧ Box4 wr w2.heap.size (.string t.name) (.string t.text) (.bool t.leaf) (.slice xa xm xc) ∧ Cur wr cs a cap b off c st ∧ Grw (List.replicate 1007 (lf ⟨#[107]⟩ ⟨#[]⟩)) w3.heap.size n (.slice va vm vc) wr) ∧ cLoop cs 1000 2 (1002 - n) (n + 1) st = F)) (fun _ i _ => 1004 - (intOf i).toNat)
      case atStart => exact ⟨0, s3, _, _, _, rfl, rfl, by omega, by simp, H4.out, HF.out⟩
      case round =>
        obtain ⟨n, st, va, vm, vc, rfl, rfl, hj2, hwz, HR⟩ := hrel
        have hcl := pick_any 2 wr HR.out.1.2.2.2.1 (by decide)
        have hp := cPick_lt cs 2 st (by decide)
        have hF : cLoop cs 1000 2 (1001 - n + 1) (n + 1) st = F := by rw [show 1001 - n + 1 = 1002 - n by omega]; exact HR.out.2
        rw [cLoop] at hF
        have HCL := (show Hid _ from hcl); clear hcl
        generalize cPick cs 2 st = q at *
        obtain ⟨p, st'⟩ := q
        dsimp only at hp hF
        by_cases hjp : n + 1 < 1000 + p
        · rw [if_pos hjp] at hF
          have HFF := (show Hid _ from hF); clear hF
          have hjp' : ((n : Int) + 1) < 1000 + (p : Int) := by omega
          go_wp2_with fail
          refine Calls.mono HCL.out ?_
          rintro e w4 ⟨rfl, ho4, hq4, hc4⟩
          have hs4 := ho4.2.2.2.1
          clear hq4
          dsimp only at hc4 ⊢
          obtain ⟨fs, ls, hs, hown, hls, hr, hd'⟩ := HR.out.1.2.2.2.2
          have H4 := (show Hid _ from (⟨HR.out.1.1.trans ho4, Box4.out HR.out.1.2.1 ho4 hlt, Box4.out HR.out.1.2.2.1 ho4 (by omega), hc4, fun q (hq : w3.heap.size ≤ q) (hq2 : q < wr.heap.size) => ho4.2.2.2.2 q hq2 (.inr (by omega))⟩ : Out c (c + 1) w w4 ∧ _ ∧ _ ∧ _ ∧ _)); clear ho4 hc4
          go_wp2_with fail
          refine Calls.mono (leafD_any _ _ w4) ?_
          rintro e w5 ⟨rfl, hb5⟩
          have hs5' := hb5.size
          have hb45 : Below w4.heap.size w4 w5 := hb5
          have hb56 := bel_trans hb45 (bel_alloc w5 (.cells #[.string ⟨#[107]⟩, .string ⟨#[]⟩, .bool true, .slice none 0 0] 40))
          have hmv : ∀ q, w3.heap.size ≤ q → q < wr.heap.size → (w5.alloc (.cells #[.string ⟨#[107]⟩, .string ⟨#[]⟩, .bool true, .slice none 0 0] 40)).heap[q]? = wr.heap[q]? := fun q hq hq2 => (hb56.block q (by omega)).trans (H4.out.2.2.2.2 q hq hq2)
          have hls3 : ∀ i, i < n → Own (w5.alloc (.cells #[.string ⟨#[107]⟩, .string ⟨#[]⟩, .bool true, .slice none 0 0] 40)) (ls i) (hs i) (nth (List.replicate 1007 (lf ⟨#[107]⟩ ⟨#[]⟩)) i) (fs i) := fun i hi => (hls i hi).keep (Nat.le_refl _) (Nat.le_refl _) (fun q h1 h2 h3 => hmv q (Nat.le_trans (hr i hi).1 h1) h3)
          have hown2 : (w5.alloc (.cells #[.string ⟨#[107]⟩, .string ⟨#[]⟩, .bool true, .slice none 0 0] 40)).ownsRow w3.heap.size 40 4 (.slice va vm vc) n (kc (List.replicate 1007 (lf ⟨#[107]⟩ ⟨#[]⟩)) fs n) := by
            refine ⟨hown.1, ?_⟩
            rcases hown.2 with e | ⟨g, cap', cur, e, hB, hg, rest⟩
            · exact .inl e
            · exact .inr ⟨g, cap', cur, e, hB, (hmv g hB (Array.getElem?_eq_some_iff.1 hg).1).trans hg, rest⟩
          have HO2 := (show Hid _ from hown2)
          have HF2 := (show Hid _ from (⟨hown, hls3, hr, hd', hb56⟩ : _ ∧ _ ∧ _ ∧ _ ∧ _)); clear hown hls hls3 hr hd' hown2 hb45 hb5 hb56 hmv
          have hn6 : n + 1 ≤ 1048576 := by omega
          go_wp2_with (at_builtin; refine wpList_append_lies _ rfl (.tmp 67) (.tmp 69) 38 rfl w3.heap.size 40 i28 _ 4 64 Try.underlying38 hi28 hz0 hzz1 hzz2 rfl (by decide) _ n (kc (List.replicate 1007 (lf ⟨#[107]⟩ ⟨#[]⟩)) fs n) rfl HO2.out ⟨w5.heap.size, 0, none⟩ 1 1 [.string ⟨#[107]⟩, .string ⟨#[]⟩, .bool true, .slice none 0 0] rfl rfl ?c1 ?c2 (by decide) ?c3 (by omega) ?c5 _ rfl ?nx)
          case c1 => exact cell_four_box _ _ _ _ _ _
          case c2 => intro u hu; simp at hu; rcases hu with rfl | rfl | rfl | rfl <;> rfl
          case c3 => unfold maxLen; omega
          case c5 => simp; omega
          case nx =>
            intro g4 cap4 w6 hown4 hgr4 hat4 hlt4
            obtain ⟨hown, hls3, hr, hd', hb56⟩ := HF2.out
            have hvl := hown.lt
            have hnt := nth_rep (lf ⟨#[107]⟩ ⟨#[]⟩) 1007 n (by omega)
            have hG4 : Grw (List.replicate 1007 (lf ⟨#[107]⟩ ⟨#[]⟩)) w3.heap.size (n + 1) (.slice (some ⟨g4, 0, none⟩) (n + 1) cap4) w6 :=
              Grw.stepO hown hls3 hr hd' (by omega) (by simp; omega) (by rw [hnt]; exact own_lf _ (w5.heap.size + 1) (w5.heap.size + 1) _ _ (by first | decide | (rw [zs_size]; unfold maxLen; omega)) (by first | decide | (rw [zs_size]; unfold maxLen; omega))) (by omega) (by simp) (by rw [hnt]; exact hown4) hgr4 (by rw [World.size_alloc]; exact hat4)
            have hs6 : w5.heap.size + 1 ≤ w6.heap.size := by have := hgr4.size; simp at this; omega
            have hblk : ∀ q, q < w3.heap.size → w6.heap[q]? = w4.heap[q]? := fun q hq => (hgr4.block q (by simp; omega) (fun e => by have := hvl q e.symm; omega)).trans (hb56.block q (by omega))
            have ho6 : Out c (c + 1) w w6 := ⟨hgr4.os.trans (hb56.os.trans H4.out.1.1), hgr4.tape.trans (hb56.tape.trans H4.out.1.2.1), hgr4.output.trans (hb56.output.trans H4.out.1.2.2.1), by have := H4.out.1.2.2.2.1; omega, fun k hk hn => (hblk k (by omega)).trans (H4.out.1.2.2.2.2 k hk hn)⟩
            have hR6 : (Out c (c + 1) w w6 ∧ Box4 w6 w.heap.size (.string ByteArray.empty) (.string ByteArray.empty) (.bool false) (.slice none 0 0) ∧ Box4 w6 w2.heap.size (.string t.name) (.string t.text) (.bool t.leaf) (.slice xa xm xc) ∧ Cur w6 cs a cap b off c st' ∧ Grw (List.replicate 1007 (lf ⟨#[107]⟩ ⟨#[]⟩)) w3.heap.size (n + 1) (.slice (some ⟨g4, 0, none⟩) (n + 1) cap4) w6) :=
              ⟨ho6, Box4.keep H4.out.2.1 (hblk _ (by omega)), Box4.keep H4.out.2.2.1 (hblk _ (by omega)), Cur.keep H4.out.2.2.2.1 (fun k hk => hblk k (by omega)), hG4⟩
            have HR6 := (show Hid _ from hR6); clear hR6 ho6 hG4 hblk hown4 hgr4 hat4 hown hls3 hr hd' hb56 hvl
            go_wp2_with fail
            exact ⟨⟨_, _, _, _, _, _, _, _, _, _, _, _, _, ⟨n + 1, st', _, _, _, rfl, by go_num, by omega, by omega, HR6.out, by rw [show 1002 - (n + 1) = 1001 - n by omega]; exact HFF.out⟩, rfl⟩, by simp [intOf]; omega⟩
        · rw [if_neg hjp] at hF
          have hjp' : 1000 + (p : Int) ≤ ((n : Int) + 1) := by omega
          have HFF := (show Hid _ from hF); clear hF
          go_wp2_with fail
          refine Calls.mono HCL.out ?_
          rintro e w4 ⟨rfl, ho4, hq4, hc4⟩
          clear hq4
          dsimp only at hc4 ⊢
          have hs4 := ho4.2.2.2.1
          have H4 := (show Hid _ from (⟨HR.out.1.1.trans ho4, Box4.out HR.out.1.2.1 ho4 hlt, Box4.out HR.out.1.2.2.1 ho4 (by omega), hc4, Grw.out HR.out.1.2.2.2.2 ho4 (by omega)⟩ : Out c (c + 1) w w4 ∧ _ ∧ _ ∧ _ ∧ _)); clear ho4 hc4
          go_wp2_with fail
          refine Calls.mono (nodeD_any _ _ _ _ w4) ?_
          rintro e w5 ⟨rfl, hb5⟩
          have G5 := Box4.still H4.out.2.2.1 hb5
          obtain ⟨g0, g1, g2, g3⟩ := G5.cells
          have yy0 := G5.frozen 0
          have yy1 := G5.frozen 1
          have yy2 := G5.frozen 2
          have yy3 := G5.frozen 3
          have hgr := (H4.out.2.2.2.2.still hb5).ext (k' := List.replicate n (lf ⟨#[107]⟩ ⟨#[]⟩)) (fun i hi => by rw [nth_rep _ _ _ (by omega), nth_rep _ _ _ hi])
          have hgo := Grw.done (n := ⟨#[110]⟩) (x := ByteArray.empty) (le := false) (k := List.replicate n (lf ⟨#[107]⟩ ⟨#[]⟩)) (by rw [List.length_replicate]; exact hgr) (by decide) (by decide)
          have hl5 : Lies w5 (fun q => w3.heap.size ≤ q) ⟨⟨#[110]⟩, ByteArray.empty, false, List.replicate n (lf ⟨#[107]⟩ ⟨#[]⟩)⟩ (.slice va vm vc) := (Own.lies hgo).mono (fun q hq => hq.1)
          have HE : Hid (Sit cs a cap b off c w w2.heap.size (⟨⟨#[110]⟩, ByteArray.empty, false, List.replicate n (lf ⟨#[107]⟩ ⟨#[]⟩)⟩, st') (.slice va vm vc) ((((w5.setCell ⟨w2.heap.size, 0, none⟩ (.string ⟨#[110]⟩)).setCell ⟨w2.heap.size, 1, none⟩ (.string ByteArray.empty)).setCell ⟨w2.heap.size, 2, none⟩ (.bool false)).setCell ⟨w2.heap.size, 3, none⟩ (.slice va vm vc))) :=
            (⟨((((H4.out.1.below hb5).put (by omega)).put (by omega)).put (by omega)).put (by omega), ((((Box4.still H4.out.2.1 hb5).past (by omega)).past (by omega)).past (by omega)).past (by omega), Box4.set4 G5 _ _ _ _, ((((Cur.still H4.out.2.2.2.1 hb5).set (by omega)).set (by omega)).set (by omega)).set (by omega), Lies.mono (fun q hq => by have h1 : w3.heap.size ≤ q := hq; omega) ((((hl5.set (by omega)).set (by omega)).set (by omega)).set (by omega))⟩)
          have hcs2 : cSpoil cs t 5 s3 = (⟨⟨#[110]⟩, ByteArray.empty, false, List.replicate n (lf ⟨#[107]⟩ ⟨#[]⟩)⟩, st') := by rw [HCS.out, ← HFF.out] <;> rfl
          have HCS2 := (show Hid _ from hcs2); clear hcs2 hl5 hgo hgr hb5 G5
          obtain ⟨X0, X1, X2, X3⟩ := Box4.cells HE.out.2.2.1
          obtain ⟨Z0, Z1, Z2, Z3⟩ := Box4.cells HE.out.2.1
          have y0 := Box4.frozen HE.out.2.1 0
          have y1 := Box4.frozen HE.out.2.1 1
          have y2 := Box4.frozen HE.out.2.1 2
          have y3 := Box4.frozen HE.out.2.1 3
          go_wp2_with fail
          refine bodyPost_ret (v := .agg #[.string ⟨#[110]⟩, .string ByteArray.empty, .bool false, .slice va vm vc]) (by simp [results, Try.results92, go_sem, Z0, Z1, Z2, Z3]) rfl ?_
          rw [HCS2.out]
          exact ⟨_, _, _, rfl, (((HE.out.1.put (Nat.le_refl _)).put (Nat.le_refl _)).put (Nat.le_refl _)).put (Nat.le_refl _), (((Cur.set HE.out.2.2.2.1 hlt).set hlt).set hlt).set hlt, Lies.mono (fun q hq => by have h1 := hq.1; omega) ((((Lies.set HE.out.2.2.2.2 (fun h => by have h1 := h.1; omega)).set (fun h => by have h1 := h.1; omega)).set (fun h => by have h1 := h.1; omega)).set (fun h => by have h1 := h.1; omega))⟩
    · have hcs : cSpoil cs t 6 s3 = (lf ⟨#[97]⟩ (zs (200 + (cPick cs 2 s3).1)), (cPick cs 2 s3).2) := rfl
      have HCS := (show Hid _ from hcs); clear hcs
      have hcl := pick_any 2 w3 H3.out.2.2.2.1 (by decide)
      have hp := cPick_lt cs 2 s3 (by decide)
      have HCL := (show Hid _ from hcl); clear hcl
      generalize cPick cs 2 s3 = q at *
      obtain ⟨p, s4⟩ := q
      dsimp only at hp
      have hmk : ∀ w : World, (Instr.makeSlice 22 (.int .i64 (200 + (p : Int))) (.int .i64 (200 + (p : Int)))).run Try.prog w = .ok (.slice (some ⟨w.heap.size, 0, none⟩) (200 + p) (200 + p)) (w.alloc (.cells (madeCells #[.int .u8 0] (200 + p)) 5)) := fun w => by
        have := run_makeBytes (200 + p) (by omega) w
        rwa [show ((200 + p : Nat) : Int) = 200 + (p : Int) from by omega] at this
      have hcv := fun w : World => conv_zs (200 + p) (by omega) w
      go_wp2_with fail
      refine Calls.mono HCL.out ?_
      rintro e w4 ⟨rfl, ho4, hq4, hc4⟩
      clear hq4
      dsimp only at hc4 ⊢
      have hs4 := ho4.2.2.2.1
      have hcv4 := hcv w4
      have hmk4 := hmk w4
      clear hcv hmk
      generalize hpn : 200 + p = pn at *
      have hb4 := bel_alloc w4 (.cells (madeCells #[.int .u8 0] pn) 5)
      have H4 := (show Hid _ from (⟨(H3.out.1.trans ho4).below hb4, (Box4.out H3.out.2.1 ho4 hlt).still hb4, (Box4.out H3.out.2.2.1 ho4 (by omega)).still hb4, hc4.still hb4⟩ : Out c (c + 1) w _ ∧ _ ∧ _ ∧ _)); clear ho4 hc4 hb4
      go_wp2_with fail
      refine Calls.mono (leafD_any _ _ _) ?_
      rintro e w5 ⟨rfl, hb5⟩
      have G5 := Box4.still H4.out.2.2.1 hb5
      obtain ⟨g0, g1, g2, g3⟩ := G5.cells
      have yy0 := G5.frozen 0
      have yy1 := G5.frozen 1
      have yy2 := G5.frozen 2
      have yy3 := G5.frozen 3
      have HE : Hid (Sit cs a cap b off c w w2.heap.size (⟨⟨#[97]⟩, zs pn, true, []⟩, s4) (.slice none 0 0) ((((w5.setCell ⟨w2.heap.size, 0, none⟩ (.string ⟨#[97]⟩)).setCell ⟨w2.heap.size, 1, none⟩ (.string (zs pn))).setCell ⟨w2.heap.size, 2, none⟩ (.bool true)).setCell ⟨w2.heap.size, 3, none⟩ (.slice none 0 0))) :=
        (⟨((((H4.out.1.below hb5).put (by omega)).put (by omega)).put (by omega)).put (by omega), ((((Box4.still H4.out.2.1 hb5).past (by omega)).past (by omega)).past (by omega)).past (by omega), Box4.set4 G5 _ _ _ _, ((((Cur.still H4.out.2.2.2 hb5).set (by omega)).set (by omega)).set (by omega)).set (by omega), lies_nil _ _ _ _ _ (by decide) (by rw [zs_size]; unfold maxLen; omega)⟩)
      clear hb5 G5
      obtain ⟨X0, X1, X2, X3⟩ := Box4.cells HE.out.2.2.1
      obtain ⟨Z0, Z1, Z2, Z3⟩ := Box4.cells HE.out.2.1
      have y0 := Box4.frozen HE.out.2.1 0
      have y1 := Box4.frozen HE.out.2.1 1
      have y2 := Box4.frozen HE.out.2.1 2
      have y3 := Box4.frozen HE.out.2.1 3
      go_wp2_with fail
      refine bodyPost_ret (v := .agg #[.string ⟨#[97]⟩, .string (zs pn), .bool true, .slice none 0 0]) (by simp [results, Try.results92, go_sem, Z0, Z1, Z2, Z3]) rfl ?_
      rw [HCS.out]
      exact ⟨_, _, _, rfl, (((HE.out.1.put (Nat.le_refl _)).put (Nat.le_refl _)).put (Nat.le_refl _)).put (Nat.le_refl _), (((Cur.set HE.out.2.2.2.1 hlt).set hlt).set hlt).set hlt, Lies.mono (fun q hq => by have h1 := hq.1; omega) ((((Lies.set HE.out.2.2.2.2 (fun h => by have h1 := h.1; omega)).set (fun h => by have h1 := h.1; omega)).set (fun h => by have h1 := h.1; omega)).set (fun h => by have h1 := h.1; omega))⟩
    · have hcs : cSpoil cs t 7 s3 = (⟨⟨#[110]⟩, ByteArray.empty, false, List.replicate ((cLoop cs 24 3 27 0 s3).1) (lf ⟨#[97, 98, 99]⟩ (zs 200))⟩, (cLoop cs 24 3 27 0 s3).2) := rfl
      have HCS := (show Hid _ from hcs); clear hcs
      generalize hF : cLoop cs 24 3 27 0 s3 = F at *
      have HF := (show Hid _ from hF); clear hF
      obtain ⟨i28, hi28, hzz⟩ := Option.map_eq_some_iff.1 info40
      simp only [Prod.mk.injEq] at hzz
      obtain ⟨hz0, hzz1, hzz2⟩ := hzz
      have hb3 := bel_alloc w3 (.cells #[] 40)
      have H4 := (show Hid _ from (⟨H3.out.1.below hb3, Box4.still H3.out.2.1 hb3, Box4.still H3.out.2.2.1 hb3, Cur.still H3.out.2.2.2.1 hb3, Grw.made w3 w3.heap.size (List.replicate 32 (lf ⟨#[97, 98, 99]⟩ (zs 200))) (Nat.le_refl _)⟩ : Out c (c + 1) w _ ∧ _ ∧ _ ∧ _ ∧ _)); clear hb3 h8
      have hmk : ∀ w : World, (Instr.makeSlice 22 (.int .i64 200) (.int .i64 200)).run Try.prog w = .ok (.slice (some ⟨w.heap.size, 0, none⟩) 200 200) (w.alloc (.cells (madeCells #[.int .u8 0] 200) 5)) := fun w => run_makeBytes 200 (by decide) w
      have hcv := fun w : World => conv_zs 200 (by decide) w
      go_wp2_with fail
      go_loopw [7, 8] (fun u i wr => ∃ (n : Nat) (st : Nat × Nat) (va : Option Addr) (vm vc : Nat), u = .slice va vm vc ∧ i = .int .i64 (n : Int) ∧ n ≤ 26 ∧ w3.heap.size + 1 ≤ wr.heap.size ∧ Hid ((Out c (c + 1) w wr ∧ Box4 wr w.heap.size (.string ByteArray.empty) (.string ByteArray.empty) (.bool false) (.slice none 0 0) ∧ Box4 wr w2.heap.size (.string t.name) (.string t.text) (.bool t.leaf) (.slice xa xm xc) ∧ Cur wr cs a cap b off c st ∧ Grw (List.replicate 32 (lf ⟨#[97, 98, 99]⟩ (zs 200))) w3.heap.size n (.slice va vm vc) wr) ∧ cLoop cs 24 3 (27 - n) (n) st = F)) (fun _ i _ => 29 - (intOf i).toNat)
      case atStart => exact ⟨0, s3, _, _, _, rfl, rfl, by omega, by simp, H4.out, HF.out⟩
      case round =>
        obtain ⟨n, st, va, vm, vc, rfl, rfl, hj2, hwz, HR⟩ := hrel
        have hcl := pick_any 3 wr HR.out.1.2.2.2.1 (by decide)
        have hp := cPick_lt cs 3 st (by decide)
        have hF : cLoop cs 24 3 (26 - n + 1) (n) st = F := by rw [show 26 - n + 1 = 27 - n by omega]; exact HR.out.2
        rw [cLoop] at hF
        have HCL := (show Hid _ from hcl); clear hcl
        generalize cPick cs 3 st = q at *
        obtain ⟨p, st'⟩ := q
        dsimp only at hp hF
        by_cases hjp : n < 24 + p
        · rw [if_pos hjp] at hF
          have HFF := (show Hid _ from hF); clear hF
          have hjp' : (n : Int) < 24 + (p : Int) := by omega
          go_wp2_with fail
          refine Calls.mono HCL.out ?_
          rintro e w4 ⟨rfl, ho4, hq4, hc4⟩
          have hs4 := ho4.2.2.2.1
          clear hq4
          dsimp only at hc4 ⊢
          obtain ⟨fs, ls, hs, hown, hls, hr, hd'⟩ := HR.out.1.2.2.2.2
          have H4 := (show Hid _ from (⟨HR.out.1.1.trans ho4, Box4.out HR.out.1.2.1 ho4 hlt, Box4.out HR.out.1.2.2.1 ho4 (by omega), hc4, fun q (hq : w3.heap.size ≤ q) (hq2 : q < wr.heap.size) => ho4.2.2.2.2 q hq2 (.inr (by omega))⟩ : Out c (c + 1) w w4 ∧ _ ∧ _ ∧ _ ∧ _)); clear ho4 hc4
          have hmk4 := hmk w4
          have hcv4 := hcv w4
          go_wp2_with fail
          generalize hw4z : w4.alloc (.cells (madeCells #[.int .u8 0] 200) 5) = w4z at *
          have hb5x : Below w4.heap.size w4 w4z := by rw [← hw4z]; exact bel_alloc _ _
          clear hw4z hmk4 hcv4
          refine Calls.mono (leafD_any _ _ w4z) ?_
          rintro e w5 ⟨rfl, hb5⟩
          have hs5' := hb5.size
          have hs5x := hb5x.size
          have hb45 : Below w4.heap.size w4 w5 := bel_trans hb5x hb5
          have hb56 := bel_trans hb45 (bel_alloc w5 (.cells #[.string ⟨#[97, 98, 99]⟩, .string (zs 200), .bool true, .slice none 0 0] 40))
          have hmv : ∀ q, w3.heap.size ≤ q → q < wr.heap.size → (w5.alloc (.cells #[.string ⟨#[97, 98, 99]⟩, .string (zs 200), .bool true, .slice none 0 0] 40)).heap[q]? = wr.heap[q]? := fun q hq hq2 => (hb56.block q (by omega)).trans (H4.out.2.2.2.2 q hq hq2)
          have hls3 : ∀ i, i < n → Own (w5.alloc (.cells #[.string ⟨#[97, 98, 99]⟩, .string (zs 200), .bool true, .slice none 0 0] 40)) (ls i) (hs i) (nth (List.replicate 32 (lf ⟨#[97, 98, 99]⟩ (zs 200))) i) (fs i) := fun i hi => (hls i hi).keep (Nat.le_refl _) (Nat.le_refl _) (fun q h1 h2 h3 => hmv q (Nat.le_trans (hr i hi).1 h1) h3)
          have hown2 : (w5.alloc (.cells #[.string ⟨#[97, 98, 99]⟩, .string (zs 200), .bool true, .slice none 0 0] 40)).ownsRow w3.heap.size 40 4 (.slice va vm vc) n (kc (List.replicate 32 (lf ⟨#[97, 98, 99]⟩ (zs 200))) fs n) := by
            refine ⟨hown.1, ?_⟩
            rcases hown.2 with e | ⟨g, cap', cur, e, hB, hg, rest⟩
            · exact .inl e
            · exact .inr ⟨g, cap', cur, e, hB, (hmv g hB (Array.getElem?_eq_some_iff.1 hg).1).trans hg, rest⟩
          have HO2 := (show Hid _ from hown2)
          have HF2 := (show Hid _ from (⟨hown, hls3, hr, hd', hb56⟩ : _ ∧ _ ∧ _ ∧ _ ∧ _)); clear hown hls hls3 hr hd' hown2 hb45 hb5 hb56 hmv
          have hn6 : n + 1 ≤ 1048576 := by omega
          go_wp2_with (at_builtin; refine wpList_append_lies _ rfl (.tmp 91) (.tmp 95) 38 rfl w3.heap.size 40 i28 _ 4 64 Try.underlying38 hi28 hz0 hzz1 hzz2 rfl (by decide) _ n (kc (List.replicate 32 (lf ⟨#[97, 98, 99]⟩ (zs 200))) fs n) rfl HO2.out ⟨w5.heap.size, 0, none⟩ 1 1 [.string ⟨#[97, 98, 99]⟩, .string (zs 200), .bool true, .slice none 0 0] rfl rfl ?c1 ?c2 (by decide) ?c3 (by omega) ?c5 _ rfl ?nx)
          case c1 => exact cell_four_box _ _ _ _ _ _
          case c2 => intro u hu; simp at hu; rcases hu with rfl | rfl | rfl | rfl <;> rfl
          case c3 => unfold maxLen; omega
          case c5 => simp; omega
          case nx =>
            intro g4 cap4 w6 hown4 hgr4 hat4 hlt4
            obtain ⟨hown, hls3, hr, hd', hb56⟩ := HF2.out
            have hvl := hown.lt
            have hnt := nth_rep (lf ⟨#[97, 98, 99]⟩ (zs 200)) 32 n (by omega)
            have hG4 : Grw (List.replicate 32 (lf ⟨#[97, 98, 99]⟩ (zs 200))) w3.heap.size (n + 1) (.slice (some ⟨g4, 0, none⟩) (n + 1) cap4) w6 :=
              Grw.stepO hown hls3 hr hd' (by omega) (by simp; omega) (by rw [hnt]; exact own_lf _ (w5.heap.size + 1) (w5.heap.size + 1) _ _ (by first | decide | (rw [zs_size]; unfold maxLen; omega)) (by first | decide | (rw [zs_size]; unfold maxLen; omega))) (by omega) (by simp) (by rw [hnt]; exact hown4) hgr4 (by rw [World.size_alloc]; exact hat4)
            have hs6 : w5.heap.size + 1 ≤ w6.heap.size := by have := hgr4.size; simp at this; omega
            have hblk : ∀ q, q < w3.heap.size → w6.heap[q]? = w4.heap[q]? := fun q hq => (hgr4.block q (by simp; omega) (fun e => by have := hvl q e.symm; omega)).trans (hb56.block q (by omega))
            have ho6 : Out c (c + 1) w w6 := ⟨hgr4.os.trans (hb56.os.trans H4.out.1.1), hgr4.tape.trans (hb56.tape.trans H4.out.1.2.1), hgr4.output.trans (hb56.output.trans H4.out.1.2.2.1), by have := H4.out.1.2.2.2.1; omega, fun k hk hn => (hblk k (by omega)).trans (H4.out.1.2.2.2.2 k hk hn)⟩
            have hR6 : (Out c (c + 1) w w6 ∧ Box4 w6 w.heap.size (.string ByteArray.empty) (.string ByteArray.empty) (.bool false) (.slice none 0 0) ∧ Box4 w6 w2.heap.size (.string t.name) (.string t.text) (.bool t.leaf) (.slice xa xm xc) ∧ Cur w6 cs a cap b off c st' ∧ Grw (List.replicate 32 (lf ⟨#[97, 98, 99]⟩ (zs 200))) w3.heap.size (n + 1) (.slice (some ⟨g4, 0, none⟩) (n + 1) cap4) w6) :=
              ⟨ho6, Box4.keep H4.out.2.1 (hblk _ (by omega)), Box4.keep H4.out.2.2.1 (hblk _ (by omega)), Cur.keep H4.out.2.2.2.1 (fun k hk => hblk k (by omega)), hG4⟩
            have HR6 := (show Hid _ from hR6); clear hR6 ho6 hG4 hblk hown4 hgr4 hat4 hown hls3 hr hd' hb56 hvl
            go_wp2_with fail
            exact ⟨⟨_, _, _, _, _, _, _, _, _, _, _, _, _, _, _, ⟨n + 1, st', _, _, _, rfl, by go_num, by omega, by omega, HR6.out, by rw [show 27 - (n + 1) = 26 - n by omega]; exact HFF.out⟩, rfl⟩, by simp [intOf]; omega⟩
        · rw [if_neg hjp] at hF
          have hjp' : 24 + (p : Int) ≤ (n : Int) := by omega
          have HFF := (show Hid _ from hF); clear hF
          go_wp2_with fail
          refine Calls.mono HCL.out ?_
          rintro e w4 ⟨rfl, ho4, hq4, hc4⟩
          clear hq4
          dsimp only at hc4 ⊢
          have hs4 := ho4.2.2.2.1
          have H4 := (show Hid _ from (⟨HR.out.1.1.trans ho4, Box4.out HR.out.1.2.1 ho4 hlt, Box4.out HR.out.1.2.2.1 ho4 (by omega), hc4, Grw.out HR.out.1.2.2.2.2 ho4 (by omega)⟩ : Out c (c + 1) w w4 ∧ _ ∧ _ ∧ _ ∧ _)); clear ho4 hc4
          go_wp2_with fail
          refine Calls.mono (nodeD_any _ _ _ _ w4) ?_
          rintro e w5 ⟨rfl, hb5⟩
          have G5 := Box4.still H4.out.2.2.1 hb5
          obtain ⟨g0, g1, g2, g3⟩ := G5.cells
          have yy0 := G5.frozen 0
          have yy1 := G5.frozen 1
          have yy2 := G5.frozen 2
          have yy3 := G5.frozen 3
          have hgr := (H4.out.2.2.2.2.still hb5).ext (k' := List.replicate n (lf ⟨#[97, 98, 99]⟩ (zs 200))) (fun i hi => by rw [nth_rep _ _ _ (by omega), nth_rep _ _ _ hi])
          have hgo := Grw.done (n := ⟨#[110]⟩) (x := ByteArray.empty) (le := false) (k := List.replicate n (lf ⟨#[97, 98, 99]⟩ (zs 200))) (by rw [List.length_replicate]; exact hgr) (by decide) (by decide)
          have hl5 : Lies w5 (fun q => w3.heap.size ≤ q) ⟨⟨#[110]⟩, ByteArray.empty, false, List.replicate n (lf ⟨#[97, 98, 99]⟩ (zs 200))⟩ (.slice va vm vc) := (Own.lies hgo).mono (fun q hq => hq.1)
          have HE : Hid (Sit cs a cap b off c w w2.heap.size (⟨⟨#[110]⟩, ByteArray.empty, false, List.replicate n (lf ⟨#[97, 98, 99]⟩ (zs 200))⟩, st') (.slice va vm vc) ((((w5.setCell ⟨w2.heap.size, 0, none⟩ (.string ⟨#[110]⟩)).setCell ⟨w2.heap.size, 1, none⟩ (.string ByteArray.empty)).setCell ⟨w2.heap.size, 2, none⟩ (.bool false)).setCell ⟨w2.heap.size, 3, none⟩ (.slice va vm vc))) :=
            (⟨((((H4.out.1.below hb5).put (by omega)).put (by omega)).put (by omega)).put (by omega), ((((Box4.still H4.out.2.1 hb5).past (by omega)).past (by omega)).past (by omega)).past (by omega), Box4.set4 G5 _ _ _ _, ((((Cur.still H4.out.2.2.2.1 hb5).set (by omega)).set (by omega)).set (by omega)).set (by omega), Lies.mono (fun q hq => by have h1 : w3.heap.size ≤ q := hq; omega) ((((hl5.set (by omega)).set (by omega)).set (by omega)).set (by omega))⟩)
          have hcs2 : cSpoil cs t 7 s3 = (⟨⟨#[110]⟩, ByteArray.empty, false, List.replicate n (lf ⟨#[97, 98, 99]⟩ (zs 200))⟩, st') := by rw [HCS.out, ← HFF.out] <;> rfl
          have HCS2 := (show Hid _ from hcs2); clear hcs2 hl5 hgo hgr hb5 G5
          obtain ⟨X0, X1, X2, X3⟩ := Box4.cells HE.out.2.2.1
          obtain ⟨Z0, Z1, Z2, Z3⟩ := Box4.cells HE.out.2.1
          have y0 := Box4.frozen HE.out.2.1 0
          have y1 := Box4.frozen HE.out.2.1 1
          have y2 := Box4.frozen HE.out.2.1 2
          have y3 := Box4.frozen HE.out.2.1 3
          go_wp2_with fail
          refine bodyPost_ret (v := .agg #[.string ⟨#[110]⟩, .string ByteArray.empty, .bool false, .slice va vm vc]) (by simp [results, Try.results92, go_sem, Z0, Z1, Z2, Z3]) rfl ?_
          rw [HCS2.out]
          exact ⟨_, _, _, rfl, (((HE.out.1.put (Nat.le_refl _)).put (Nat.le_refl _)).put (Nat.le_refl _)).put (Nat.le_refl _), (((Cur.set HE.out.2.2.2.1 hlt).set hlt).set hlt).set hlt, Lies.mono (fun q hq => by have h1 := hq.1; omega) ((((Lies.set HE.out.2.2.2.2 (fun h => by have h1 := h.1; omega)).set (fun h => by have h1 := h.1; omega)).set (fun h => by have h1 := h.1; omega)).set (fun h => by have h1 := h.1; omega))⟩
end Go.Proofs.Ytledclkmeikgdaa.T
