import Derived.Test.YtofobmdljelmgaaSi
import Derived.Test.YtofobmdljelmgaaUl
import Derived.Test.YtofobmdljelmgaaDraw3
import Derived.Test.YtofobmdljelmgaaSame
/-! FnShared: what is drawn, and what a tree shares with itself. Plain mathematics. -/
namespace Go.Proofs.Ytofobmdljelmgaa
open Go.RowKit Go.Deep Go.Lib
set_option linter.unusedVariables false
set_option maxRecDepth 100000
set_option linter.unusedSimpArgs false

theorem vlN_f {f g : Nat → Nat} {ns : List Nd} : ∀ j, (∀ i, i < j → f i = g i) → vlN f ns j = vlN g ns j
  | 0, _ => rfl
  | j + 1, h => by rw [vlN, vlN, vlN_f j (fun i hi => h i (by omega)), h j (by omega)]
/-- A right tree shares all of itself with itself. -/
theorem swN_self {t : Tr} (h : t.ok = true) : swN t t = t.cnt ∧ swC t t = 0 := by
  have hk : okB t t = true := by unfold okB; rw [h]; rfl
  have hd := (putT_keep t [] (by simp)).2.1
  have hT := isT_put t []
  have hst := isT_stay t hd hT
  have hg := putT_gd t [] (by simp) gd_nil
  have hlt := isT_lt' hT
  refine ⟨?_, by unfold swC; rw [hk]; rfl⟩
  unfold swN
  rw [hk, if_pos rfl]
  have e1 : n2 t t = (putT t []).1 := by unfold n2; rw [hst]
  have e2 : q2 t t = (putT t []).2 := by unfold q2; rw [hst]
  rw [e1, e2, ← vv_cnt t hg hT]
  unfold vv
  rw [vlN_f (f := kf (m2 t)) (g := fun _ => 1) _ (fun i hi => by unfold kf m2; rw [if_pos (by omega)])]
/-- No node stands twice. -/
theorem putTs_nodup (T : List Tr) : (putTs T []).1.Nodup := (putTs_keep T (ns := []) (by simp)).2.1
theorem nodes_differ {T : List Tr} {i k : Nat} (hk : k < i) (hi : i < (putTs T []).1.length) : ¬ ((putTs T []).1[i].nm = (putTs T []).1[k].nm ∧ (putTs T []).1[i].tx = (putTs T []).1[k].tx ∧ (putTs T []).1[i].lf = (putTs T []).1[k].lf ∧ (putTs T []).1[i].ks = (putTs T []).1[k].ks) := by
  intro h
  have h3 := List.pairwise_iff_getElem.1 (putTs_nodup T) k i (by omega) hi hk
  apply h3
  obtain ⟨e1, e2, e3, e4⟩ := h
  generalize (putTs T []).1[i] = a at *
  generalize (putTs T []).1[k] = b at *
  obtain ⟨a1, a2, a3, a4⟩ := a
  obtain ⟨b1, b2, b3, b4⟩ := b
  dsimp only at e1 e2 e3 e4
  rw [e1, e2, e3, e4]
/-- What Unshare answers for what Share keeps. -/
theorem unR_share {T T' : List Tr} {c : Int} (h : tksB T = true) (hR : UnR ((putTs T []).1.map rd) (ins (putTs T []).2) (T', c)) : T' = T ∧ c = 0 := by
  have hok : UnOK ((putTs T []).1.map rd) (ins (putTs T []).2) T := ⟨h, rfl, rfl⟩
  have := UnR.uniq hR (show UnR _ _ (T, 0) from .inl ⟨hok, rfl⟩)
  simp only [Prod.mk.injEq] at this
  exact this
/-- (Add t u) -/
def addT (t u : Tr) : Tr := ⟨⟨#[65, 100, 100]⟩, ByteArray.empty, false, [t, u]⟩
def cOne (cs : List UInt8) (k : List Tr) (s : Nat × Nat) : List Tr × (Nat × Nat) :=
  if (cPick cs 2 (cTree cs 3 s).2).1 = 0 then ((k ++ [(cTree cs 3 s).1]) ++ [addT (cTree cs 3 s).1 (cTree cs 1 (cPick cs 2 (cTree cs 3 s).2).2).1], (cTree cs 1 (cPick cs 2 (cTree cs 3 s).2).2).2)
  else (k ++ [(cTree cs 3 s).1], (cPick cs 2 (cTree cs 3 s).2).2)
def cMany (cs : List UInt8) : Nat → List Tr × (Nat × Nat) → List Tr × (Nat × Nat)
  | 0, x => x
  | i + 1, x => cMany cs i (cOne cs x.1 x.2)
def cRow (cs : List UInt8) (s : Nat × Nat) : List Tr × (Nat × Nat) := cMany cs (cPick cs 4 s).1 ([], (cPick cs 4 s).2)
def abT : Tr := lf ⟨#[97]⟩ ⟨#[98]⟩
def cPad (cs : List UInt8) : Nat → List Tr → Nat × Nat → List Tr
  | 0, k, _ => k
  | f + 1, k, s => if k.length < 20 + (cPick cs 2 s).1 then cPad cs f (k ++ [abT]) (cPick cs 2 s).2 else k
def cShare (cs : List UInt8) : List Tr :=
  if (cPick cs 12 (cRow cs (0, 17 + cs.length)).2).1 = 0 then (cRow cs (0, 17 + cs.length)).1 ++ [(cAny cs (cPick cs 12 (cRow cs (0, 17 + cs.length)).2).2).1]
  else if (cPick cs 12 (cRow cs (0, 17 + cs.length)).2).1 = 1 then cPad cs 22 (cRow cs (0, 17 + cs.length)).1 (cPick cs 12 (cRow cs (0, 17 + cs.length)).2).2
  else (cRow cs (0, 17 + cs.length)).1
theorem cOne_len (cs : List UInt8) (k : List Tr) (s : Nat × Nat) : (cOne cs k s).1.length ≤ k.length + 2 := by
  unfold cOne
  split <;> simp
theorem cMany_len (cs : List UInt8) : ∀ i x, (cMany cs i x).1.length ≤ x.1.length + 2 * i
  | 0, x => by simp [cMany]
  | i + 1, x => by
    rw [cMany]
    have h1 := cMany_len cs i (cOne cs x.1 x.2)
    have h2 := cOne_len cs x.1 x.2
    omega
theorem cRow_len (cs : List UInt8) (s : Nat × Nat) : (cRow cs s).1.length ≤ 6 := by
  unfold cRow
  have h1 := cMany_len cs (cPick cs 4 s).1 ([], (cPick cs 4 s).2)
  have h2 := cPick_lt cs 4 s (by omega)
  simp only [List.length_nil] at h1
  omega
end Go.Proofs.Ytofobmdljelmgaa

/-! Rows of trees that are only read, to which more may be appended. -/
namespace Go.Proofs.Ytofobmdljelmgaa
open Go.RowKit Go.Deep Go.Lib
set_option linter.unusedVariables false
set_option maxRecDepth 100000
set_option linter.unusedSimpArgs false

def Rwl (k : List Tr) (B : Nat) (v : Value) (w : World) : Prop :=
  ∃ fs : Nat → Value, w.ownsRow B 39 4 v k.length (kc k fs k.length) ∧ ∀ i, i < k.length → Lies w (fun q => B ≤ q ∧ v.ownBlock ≠ some q) (nth k i) (fs i)
theorem Rwl.made (w : World) : Rwl [] w.heap.size (.slice (some ⟨w.heap.size, 0, none⟩) 0 0) (w.alloc (.cells #[] 39)) :=
  ⟨fun _ => .bool false, World.ownsRow_made w #[] 0 (Nat.le_refl _) (Nat.zero_le _) rfl, fun i hi => absurd hi (Nat.not_lt_zero _)⟩
theorem Rwl.carry {k : List Tr} {B : Nat} {v : Value} {w w' : World} (h : Rwl k B v w) (hk : ∀ q, B ≤ q → q < w.heap.size → w'.heap[q]? = w.heap[q]?) : Rwl k B v w' := by
  obtain ⟨fs, hown, hls⟩ := h
  refine ⟨fs, own_keep1 hown (fun q hq => hk q (World.ownsRow.lt hown q hq).1 (World.ownsRow.lt hown q hq).2), fun i hi => ?_⟩
  exact (hls i hi).carry (fun _ hb _ => hb) (fun b _ hb hl => World.cell?_of_block (w := w) (hk b hb.1 hl)) (fun _ _ _ h => lt_of_cell h)
theorem Rwl.still {k : List Tr} {B : Nat} {v : Value} {w w' : World} (h : Rwl k B v w) (hb : Below w.heap.size w w') : Rwl k B v w' := h.carry (fun q _ hq => hb.block q hq)
theorem Rwl.out {k : List Tr} {B c : Nat} {v : Value} {w w' : World} (h : Rwl k B v w) (ho : Out c (c + 1) w w') (hc : c < B) : Rwl k B v w' := h.carry (fun q hq hl => ho.2.2.2.2 q hl (by omega))
theorem Rwl.form {k : List Tr} {B : Nat} {v : Value} {w : World} (h : Rwl k B v w) : ∃ a cap, v = .slice a k.length cap := by
  obtain ⟨fs, hown, _⟩ := h
  obtain ⟨a, cap, e, _⟩ := own_ne hown
  exact ⟨a, cap, e⟩
theorem Rwl.push {k : List Tr} {t : Tr} {B g cap : Nat} {v u : Value} {w2 w3 : World} {fs : Nat → Value} (hown : w2.ownsRow B 39 4 v k.length (kc k fs k.length)) (hls : ∀ i, i < k.length → Lies w2 (fun q => B ≤ q ∧ v.ownBlock ≠ some q) (nth k i) (fs i))
    (hx : Lies w2 (fun q => B ≤ q ∧ v.ownBlock ≠ some q) t u) (hown3 : w3.ownsRow B 39 4 (.slice (some ⟨g, 0, none⟩) (k.length + 1) cap) (k.length + 1) (kc k fs k.length ++ [.string t.name, .string t.text, .bool t.leaf, u]))
    (hgr : w2.grownBy w3 v.ownBlock) (hat : v.ownBlock = some g ∨ g = w2.heap.size) : Rwl (k ++ [t]) B (.slice (some ⟨g, 0, none⟩) (k.length + 1) cap) w3 ∧ Lies w3 (fun q => B ≤ q ∧ (Value.slice (some ⟨g, 0, none⟩) (k.length + 1) cap).ownBlock ≠ some q) t u := by
  have hcar : ∀ {t : Tr} {u : Value}, Lies w2 (fun q => B ≤ q ∧ v.ownBlock ≠ some q) t u → Lies w3 (fun q => B ≤ q ∧ (Value.slice (some ⟨g, 0, none⟩) (k.length + 1) cap).ownBlock ≠ some q) t u := fun h =>
    h.carry (fun q hq hl => ⟨hq.1, fun e => by
      have e' : g = q := by simpa [Value.ownBlock] using e
      subst e'
      rcases hat with e | e
      · exact hq.2 e
      · omega⟩) (fun q _ hq hl => World.cell?_of_block (w := w2) (hgr.block q hl (fun e => hq.2 e.symm))) (fun _ _ _ h => lt_of_cell h)
  refine ⟨⟨fun i => if i = k.length then u else fs i, ?_, fun i hi => ?_⟩, hcar hx⟩
  · rw [List.length_append, List.length_singleton, kc, kc_congr (k ++ [t]) (fs := fun i => if i = k.length then u else fs i) (gs := fs) k.length (fun i hi => if_neg (by omega)), kc_app k t fs _ (Nat.le_refl _), nth_last]
    simp only [if_true]
    exact hown3
  · rw [List.length_append, List.length_singleton] at hi
    by_cases e : i = k.length
    · subst e
      rw [nth_last]
      simp only [if_true]
      exact hcar hx
    · have hi2 : i < k.length := by omega
      rw [nth_app hi2]
      dsimp only
      rw [if_neg e]
      exact hcar (hls i hi2)
theorem Rwl.trs {k : List Tr} {B : Nat} {v : Value} {w : World} (h : Rwl k B v w) : Trs w (fun q => q < w.heap.size) k v := by
  obtain ⟨fs, hown, hls⟩ := h
  rcases hown.2 with ⟨rfl, h0⟩ | ⟨g, cap, cur, rfl, hBg, hg, hnc, hcm, hcs, htk⟩
  · exact ⟨none, 0, 0, 0, fs, by rw [h0], by omega, Nat.zero_le _, fun h => by omega, fun i hi => by omega, fun i hi => by omega⟩
  · have hlt : g < w.heap.size := (Array.getElem?_eq_some_iff.1 hg).1
    refine ⟨some ⟨g, 0, none⟩, cap, g, 0, fs, rfl, hnc, hcm, fun _ => ⟨rfl, hlt⟩, fun i hi => ?_, fun i hi => ?_⟩
    · obtain ⟨q0, q1, q2, q3⟩ := kc_get k fs k.length i hi
      rw [nth_eq hi] at q0 q1 q2
      simp only [Nat.zero_add]
      exact ⟨by rw [World.ownsRow.cellAt hown _ (by omega)]; exact q0, by rw [World.ownsRow.cellAt hown _ (by omega)]; exact q1, by rw [World.ownsRow.cellAt hown _ (by omega)]; exact q2, by rw [World.ownsRow.cellAt hown _ (by omega)]; exact q3⟩
    · rw [← nth_eq hi]
      exact ((hls i hi).lt).mono (fun q hq => hq.2)
/-- (Add t u), its Kids in a new block. -/
theorem lies_add {w : World} {S : Nat → Prop} {t x : Tr} {u y : Value} (ht : Lies w S t u) (hx : Lies w S x y) (hS : S w.heap.size) :
    Lies (w.alloc (.cells #[.string t.name, .string t.text, .bool t.leaf, u, .string x.name, .string x.text, .bool x.leaf, y] 39)) S (addT t x) (.slice (some ⟨w.heap.size, 0, none⟩) 2 2) := by
  have hbx := Box.new w 39 [.string t.name, .string t.text, .bool t.leaf, u, .string x.name, .string x.text, .bool x.leaf, y]
  have hba := bel_alloc w (.cells #[.string t.name, .string t.text, .bool t.leaf, u, .string x.name, .string x.text, .bool x.leaf, y] 39)
  refine Lies.shut ⟨some ⟨w.heap.size, 0, none⟩, 2, w.heap.size, 0, fun i => if i = 0 then u else y, rfl, by show (3 : Nat) ≤ _; decide, by show (0 : Nat) ≤ _; exact Nat.zero_le _, by show (2 : Nat) ≤ 2; exact Nat.le_refl _, by decide, fun _ => ⟨rfl, hS⟩, fun i hi => ?_, fun i hi => ?_⟩
  · match i, hi with
    | 0, _ => exact ⟨hbx.cell 0 (by simp), hbx.cell 1 (by simp), hbx.cell 2 (by simp), hbx.cell 3 (by simp)⟩
    | 1, _ => exact ⟨hbx.cell 4 (by simp), hbx.cell 5 (by simp), hbx.cell 6 (by simp), hbx.cell 7 (by simp)⟩
  · match i, hi with
    | 0, _ => exact ht.still hba
    | 1, _ => exact hx.still hba
end Go.Proofs.Ytofobmdljelmgaa
