import Derived.Test.YtblfeifedcddnaaMark
/-! Changes of a tree as data, and how one lies in memory. -/
namespace Go.Proofs.Ytblfeifedcddnaa
set_option linter.unusedVariables false
set_option linter.unusedSimpArgs false
set_option maxRecDepth 100000
open Go.RowKit Go.Deep

/-- A change, as data. -/
structure De where
  kind : Int
  tree : Tr
  kids : List De

namespace De
/-- What is worked out of a change from its Kids' own. -/
def fold {α : Type} (f : Int → Tr → List De → List α → α) : De → α
  | ⟨c, t, k⟩ => f c t k (k.attach.map fun d => have := List.sizeOf_lt_of_mem d.2; fold f d.1)
theorem fold_mk {α : Type} (f : Int → Tr → List De → List α → α) (c : Int) (t : Tr) (k : List De) : fold f ⟨c, t, k⟩ = f c t k (k.map (fold f)) := by
  rw [fold]; simp
theorem ind {P : De → Prop} (h : ∀ c t k, (∀ i (hi : i < k.length), P k[i]) → P (.mk c t k)) : ∀ d, P d := fun d =>
  De.rec (motive_1 := P) (motive_2 := fun k => ∀ i (hi : i < k.length), P k[i]) (fun c t k ih => h c t k ih) (fun i hi => absurd hi (Nat.not_lt_zero _))
    (fun a r ha hr i hi => by cases i with | zero => exact ha | succ i => exact hr i (by simpa using hi)) d
/-- How much a change holds: what the laws' own bound counts. -/
def wt : De → Nat := fold fun _ t _ ks => t.wt + (ks.length + ks.sum)
def wtL (k : List De) : Nat := (k.map wt).sum
theorem wt_mk (c : Int) (t : Tr) (k : List De) : wt ⟨c, t, k⟩ = t.wt + (k.length + wtL k) := by
  unfold wtL wt; rw [fold_mk]; simp
theorem wtL_append (a b : List De) : wtL (a ++ b) = wtL a + wtL b := by simp [wtL]
theorem wtL_take_succ (k : List De) (i : Nat) (h : i < k.length) : wtL (k.take (i + 1)) = wtL (k.take i) + wt k[i] := by
  rw [List.take_succ_eq_append_getElem h, wtL_append]; simp [wtL]
theorem wtL_take_le (k : List De) (i : Nat) : wtL (k.take i) ≤ wtL k := by
  have h := wtL_append (k.take i) (k.drop i)
  rw [List.take_append_drop] at h; omega
theorem wt_mem (k : List De) (i : Nat) (h : i < k.length) : wt k[i] ≤ wtL k := by
  have h1 := wtL_take_succ k i h
  have h2 := wtL_take_le k (i + 1)
  omega
/-- How many marks it gets, those of its own Tree's head and of its Kind aside. -/
def dm : De → Nat := fold fun _ t _ ks => 3 * Tr.cntL t.kids + (4 * ks.length + ks.sum)
def dmL (k : List De) : Nat := (k.map fun d => 4 + dm d).sum
theorem dmL_eq (k : List De) : dmL k = 4 * k.length + (k.map dm).sum := by
  unfold dmL
  induction k with
  | nil => rfl
  | cons d r ih => simp only [List.map_cons, List.sum_cons, List.length_cons] at ih ⊢; omega
theorem dm_mk (c : Int) (t : Tr) (k : List De) : dm ⟨c, t, k⟩ = 3 * Tr.cntL t.kids + dmL k := by
  rw [dmL_eq]; unfold dm; rw [fold_mk]; simp
theorem dmL_append (a b : List De) : dmL (a ++ b) = dmL a + dmL b := by simp [dmL]
theorem dmL_take_succ (k : List De) (i : Nat) (h : i < k.length) : dmL (k.take (i + 1)) = dmL (k.take i) + (4 + dm k[i]) := by
  rw [List.take_succ_eq_append_getElem h, dmL_append]; simp [dmL]
theorem dmL_take_le (k : List De) (i : Nat) : dmL (k.take i) ≤ dmL k := by
  have h := dmL_append (k.take i) (k.drop i)
  rw [List.take_append_drop] at h; omega
theorem dmL_le (k : List De) (h : ∀ i (hi : i < k.length), dm k[i] ≤ 4 * wt k[i]) : dmL k ≤ 4 * (k.length + wtL k) := by
  induction k with
  | nil => simp [dmL]
  | cons d r ih =>
    have h0 := h 0 (by simp)
    have h1 := ih (fun i hi => h (i + 1) (by simp; omega))
    simp [dmL, wtL] at h0 h1 ⊢; omega
theorem dm_le (d : De) : dm d ≤ 4 * wt d := by
  refine ind (P := fun d => dm d ≤ 4 * wt d) ?_ d
  intro c t k ih
  rw [dm_mk, wt_mk]
  have h1 := dmL_le k ih
  have h2 := Tr.cnt_le_wt t
  have h3 : t.cnt = 1 + Tr.cntL t.kids := by cases t; rw [Tr.cnt_mk]
  omega
/-- The change as a Go value. -/
abbrev val (d : De) (tv kv : Value) : Value := .agg #[.int .i64 d.kind, .string d.tree.name, .string d.tree.text, .bool d.tree.leaf, tv, kv]
end De

/-- One storey. -/
def DLiesBy (L : De → Value → Value → Prop) (w : World) (S : Nat → Prop) (d : De) (tv kv : Value) : Prop :=
  Lies w S d.tree tv ∧ ∃ (a : Option Addr) (cap b off : Nat) (ts ks : Nat → Value), kv = .slice a d.kids.length cap ∧ d.kids.length ≤ cap ∧ cap ≤ maxLen ∧ (0 < d.kids.length → a = some ⟨b, off, none⟩ ∧ S b) ∧
    (∀ i (hi : i < d.kids.length), w.cell? ⟨b, off + i * 6, none⟩ = some (.int .i64 d.kids[i].kind) ∧ w.cell? ⟨b, off + i * 6 + 1, none⟩ = some (.string d.kids[i].tree.name) ∧ w.cell? ⟨b, off + i * 6 + 2, none⟩ = some (.string d.kids[i].tree.text) ∧
        w.cell? ⟨b, off + i * 6 + 3, none⟩ = some (.bool d.kids[i].tree.leaf) ∧ w.cell? ⟨b, off + i * 6 + 4, none⟩ = some (ts i) ∧ w.cell? ⟨b, off + i * 6 + 5, none⟩ = some (ks i)) ∧
    ∀ i (hi : i < d.kids.length), L d.kids[i] (ts i) (ks i)
def DLiesN (w : World) (S : Nat → Prop) : Nat → De → Value → Value → Prop
  | 0 => fun _ _ _ => False
  | n + 1 => DLiesBy (DLiesN w S n) w S
/-- THE CHANGE d LIES IN w, its Tree's Kids behind the slice tv, its Kids behind the slice kv, in blocks of S. -/
def DLies (w : World) (S : Nat → Prop) (d : De) (tv kv : Value) : Prop := ∃ n, DLiesN w S n d tv kv
theorem DLiesBy.imp {L L' : De → Value → Value → Prop} {w : World} {S : Nat → Prop} {d : De} {tv kv : Value} (hL : ∀ i (hi : i < d.kids.length) u v, L d.kids[i] u v → L' d.kids[i] u v) (h : DLiesBy L w S d tv kv) : DLiesBy L' w S d tv kv := by
  obtain ⟨ht, a, cap, b, off, ts, ks, hv, hc, hm, ha, hcell, hk⟩ := h
  exact ⟨ht, a, cap, b, off, ts, ks, hv, hc, hm, ha, hcell, fun i hi => hL i hi _ _ (hk i hi)⟩
theorem DLiesN.succ {w : World} {S : Nat → Prop} : ∀ (n : Nat) {d : De} {tv kv : Value}, DLiesN w S n d tv kv → DLiesN w S (n + 1) d tv kv
  | 0, _, _, _, h => False.elim h
  | n + 1, _, _, _, h => DLiesBy.imp (fun _ _ _ _ hk => DLiesN.succ n hk) h
theorem DLiesN.up {w : World} {S : Nat → Prop} {n n' : Nat} (hn : n ≤ n') {d : De} {tv kv : Value} (h : DLiesN w S n d tv kv) : DLiesN w S n' d tv kv := by
  induction hn with
  | refl => exact h
  | step _ ih => exact DLiesN.succ _ ih
theorem DLies.out {w : World} {S : Nat → Prop} {d : De} {tv kv : Value} (h : DLies w S d tv kv) : DLiesBy (DLies w S) w S d tv kv := by
  obtain ⟨n, h⟩ := h
  cases n with
  | zero => exact False.elim h
  | succ n => exact DLiesBy.imp (fun _ _ _ _ hk => ⟨n, hk⟩) h
theorem DLies.shut {w : World} {S : Nat → Prop} {d : De} {tv kv : Value} (h : DLiesBy (DLies w S) w S d tv kv) : DLies w S d tv kv := by
  obtain ⟨ht, a, cap, b, off, ts, ks, hv, hc, hm, ha, hcell, hk⟩ := h
  obtain ⟨n, hn⟩ := Go.Deep.fuel_lt (n := d.kids.length) (q := fun i m => ∀ hi : i < d.kids.length, DLiesN w S m d.kids[i] (ts i) (ks i))
    (fun i a b hab h hi => (h hi).up hab) (fun i hi => by obtain ⟨m, hm⟩ := hk i hi; exact ⟨m, fun _ => hm⟩)
  exact ⟨n + 1, ht, a, cap, b, off, ts, ks, hv, hc, hm, ha, hcell, fun i hi => hn i hi hi⟩
theorem DLies.tree {w : World} {S : Nat → Prop} {d : De} {tv kv : Value} (h : DLies w S d tv kv) : Lies w S d.tree tv := h.out.1
theorem DLies.form {w : World} {S : Nat → Prop} {d : De} {tv kv : Value} (h : DLies w S d tv kv) : (∃ a len cap, tv = .slice a len cap) ∧ ∃ a cap, kv = .slice a d.kids.length cap := by
  obtain ⟨ht, a, cap, b, off, ts, ks, hv, _⟩ := h.out
  exact ⟨ht.form, _, _, hv⟩
/-- What lies so, lies so in another world, in other blocks. -/
theorem DLies.carry {w w' : World} {S S' : Nat → Prop} (hS : ∀ b, S b → b < w.heap.size → S' b) (hcl : ∀ b o, S b → b < w.heap.size → w'.cell? ⟨b, o, none⟩ = w.cell? ⟨b, o, none⟩)
    {d : De} : ∀ {tv kv : Value}, DLies w S d tv kv → DLies w' S' d tv kv := by
  refine De.ind (P := fun d => ∀ {tv kv : Value}, DLies w S d tv kv → DLies w' S' d tv kv) ?_ d
  intro c t k ih tv kv h
  obtain ⟨ht, a, cap, b, off, ts, ks, hv, hc, hm, ha, hcell, hk⟩ := h.out
  refine DLies.shut ⟨ht.carry hS hcl (fun _ _ _ h => lt_of_cell h), a, cap, b, off, ts, ks, hv, hc, hm, fun h0 => ?_, fun i hi => ?_, fun i hi => ih i hi (hk i hi)⟩
  · exact ⟨(ha h0).1, hS _ (ha h0).2 (lt_of_cell (hcell 0 h0).1)⟩
  · have hb := fun o => hcl b o (ha (by omega)).2 (lt_of_cell (hcell i hi).1)
    rw [hb, hb, hb, hb, hb, hb]
    exact hcell i hi
theorem DLies.mono {w : World} {S S' : Nat → Prop} (hS : ∀ b, S b → S' b) {d : De} {tv kv : Value} (h : DLies w S d tv kv) : DLies w S' d tv kv :=
  h.carry (fun b hb _ => hS b hb) (fun _ _ _ _ => rfl)
theorem DLies.lt {w : World} {S : Nat → Prop} {d : De} {tv kv : Value} (h : DLies w S d tv kv) : DLies w (fun b => S b ∧ b < w.heap.size) d tv kv :=
  h.carry (fun _ hb hl => ⟨hb, hl⟩) (fun _ _ _ _ => rfl)
theorem DLies.keep {w w' : World} {S : Nat → Prop} (hS : ∀ b, S b → w'.heap[b]? = w.heap[b]?) {d : De} {tv kv : Value} (h : DLies w S d tv kv) : DLies w' S d tv kv :=
  h.carry (fun _ hb _ => hb) (fun b _ hb _ => World.cell?_of_block (w := w) (hS b hb))
theorem DLies.still {w w' : World} {S : Nat → Prop} {d : De} {tv kv : Value} (h : DLies w S d tv kv) (hb : Below w.heap.size w w') : DLies w' S d tv kv :=
  (h.lt.keep (fun b hb' => hb.block b hb'.2)).mono (fun _ h => h.1)
theorem DLies.any {w : World} {S : Nat → Prop} {d : De} {tv kv : Value} (h : DLies w S d tv kv) : DLies w (fun _ => True) d tv kv := h.mono (fun _ _ => trivial)

/-- A change that owns what it lies in. -/
def DOwnBy (L : Nat → Nat → De → Value → Value → Prop) (w : World) (lo hi : Nat) (d : De) (tv kv : Value) : Prop :=
  ∃ (lt ht : Nat), Own w lt ht d.tree tv ∧ lo ≤ lt ∧ ht ≤ hi ∧ ∃ (a : Option Addr) (cap b : Nat) (f : Nat → Value) (l h : Nat → Nat), kv = .slice a d.kids.length cap ∧ d.kids.length ≤ cap ∧ cap ≤ maxLen ∧
    (0 < d.kids.length → a = some ⟨b, 0, none⟩ ∧ lo ≤ b ∧ b < hi ∧ (b < lt ∨ ht ≤ b) ∧ w.rowIs b 57 (cap * 6) f) ∧
    (∀ i (hi : i < d.kids.length), f (i * 6) = .int .i64 d.kids[i].kind ∧ f (i * 6 + 1) = .string d.kids[i].tree.name ∧ f (i * 6 + 2) = .string d.kids[i].tree.text ∧ f (i * 6 + 3) = .bool d.kids[i].tree.leaf) ∧
    (∀ i (hi : i < d.kids.length), L (l i) (h i) d.kids[i] (f (i * 6 + 4)) (f (i * 6 + 5))) ∧
    (∀ i, i < d.kids.length → lo ≤ l i ∧ h i ≤ hi ∧ (b < l i ∨ h i ≤ b) ∧ (h i ≤ lt ∨ ht ≤ l i)) ∧
    ∀ i j, i < j → j < d.kids.length → h i ≤ l j ∨ h j ≤ l i
def DOwnN (w : World) : Nat → Nat → Nat → De → Value → Value → Prop
  | 0 => fun _ _ _ _ _ => False
  | n + 1 => fun lo hi d tv kv => DOwnBy (DOwnN w n) w lo hi d tv kv
def DOwn (w : World) (lo hi : Nat) (d : De) (tv kv : Value) : Prop := ∃ n, DOwnN w n lo hi d tv kv
theorem DOwnBy.imp {L L' : Nat → Nat → De → Value → Value → Prop} {w : World} {lo hi : Nat} {d : De} {tv kv : Value} (hL : ∀ i (hi : i < d.kids.length) x y u v, L x y d.kids[i] u v → L' x y d.kids[i] u v) (hh : DOwnBy L w lo hi d tv kv) : DOwnBy L' w lo hi d tv kv := by
  obtain ⟨lt, ht, ho, h1, h2, a, cap, b, f, l, h, hv, hc, hm, ha, hf, hk, hr, hd⟩ := hh
  exact ⟨lt, ht, ho, h1, h2, a, cap, b, f, l, h, hv, hc, hm, ha, hf, fun i hi => hL i hi _ _ _ _ (hk i hi), hr, hd⟩
theorem DOwnN.succ {w : World} : ∀ (n : Nat) {lo hi : Nat} {d : De} {tv kv : Value}, DOwnN w n lo hi d tv kv → DOwnN w (n + 1) lo hi d tv kv
  | 0, _, _, _, _, _, h => False.elim h
  | n + 1, _, _, _, _, _, h => DOwnBy.imp (fun _ _ _ _ _ _ hk => DOwnN.succ n hk) h
theorem DOwnN.up {w : World} {n n' : Nat} (hn : n ≤ n') {lo hi : Nat} {d : De} {tv kv : Value} (h : DOwnN w n lo hi d tv kv) : DOwnN w n' lo hi d tv kv := by
  induction hn with
  | refl => exact h
  | step _ ih => exact DOwnN.succ _ ih
theorem DOwn.out {w : World} {lo hi : Nat} {d : De} {tv kv : Value} (h : DOwn w lo hi d tv kv) : DOwnBy (DOwn w) w lo hi d tv kv := by
  obtain ⟨n, h⟩ := h
  cases n with
  | zero => exact False.elim h
  | succ n => exact DOwnBy.imp (fun _ _ _ _ _ _ hk => ⟨n, hk⟩) h
theorem DOwn.shut {w : World} {lo hi : Nat} {d : De} {tv kv : Value} (hh : DOwnBy (DOwn w) w lo hi d tv kv) : DOwn w lo hi d tv kv := by
  obtain ⟨lt, ht, ho, h1, h2, a, cap, b, f, l, h, hv, hc, hm, ha, hf, hk, hr, hd⟩ := hh
  obtain ⟨n, hn⟩ := fuel_lt (n := d.kids.length) (q := fun i m => ∀ hi : i < d.kids.length, DOwnN w m (l i) (h i) d.kids[i] (f (i * 6 + 4)) (f (i * 6 + 5)))
    (fun i a b hab h hi => (h hi).up hab) (fun i hi => by obtain ⟨m, hm⟩ := hk i hi; exact ⟨m, fun _ => hm⟩)
  exact ⟨n + 1, lt, ht, ho, h1, h2, a, cap, b, f, l, h, hv, hc, hm, ha, hf, fun i hi => hn i hi hi, hr, hd⟩
theorem DOwn.keep {w w' : World} {d : De} : ∀ {lo hi : Nat} {tv kv : Value}, DOwn w lo hi d tv kv → ∀ {lo' hi' : Nat}, lo' ≤ lo → hi ≤ hi' → (∀ k, lo ≤ k → k < hi → k < w.heap.size → w'.heap[k]? = w.heap[k]?) → DOwn w' lo' hi' d tv kv := by
  refine De.ind (P := fun d => ∀ {lo hi : Nat} {tv kv : Value}, DOwn w lo hi d tv kv → ∀ {lo' hi' : Nat}, lo' ≤ lo → hi ≤ hi' → (∀ k, lo ≤ k → k < hi → k < w.heap.size → w'.heap[k]? = w.heap[k]?) → DOwn w' lo' hi' d tv kv) ?_ d
  intro c t k ih lo hi tv kv hh lo' hi' h1 h2 hk'
  obtain ⟨lt, ht, ho, g1, g2, a, cap, b, f, l, h, hv, hc, hm, ha, hf, hk, hr, hd⟩ := hh.out
  refine DOwn.shut ⟨lt, ht, ho.keep (Nat.le_refl _) (Nat.le_refl _) (fun k q1 q2 q3 => hk' k (by omega) (by omega) q3), by omega, by omega, a, cap, b, f, l, h, hv, hc, hm, fun h0 => ?_, hf, fun i hi => ?_, fun i hi => ?_, hd⟩
  · obtain ⟨q1, q2, q3, q5, q4⟩ := ha h0
    exact ⟨q1, by omega, by omega, q5, q4.of_block (hk' b q2 q3 q4.lt)⟩
  · have := hr i hi
    exact ih i hi (hk i hi) (Nat.le_refl _) (Nat.le_refl _) (fun k a b c => hk' k (by omega) (by omega) c)
  · have := hr i hi
    omega
theorem DOwn.lies {w : World} {d : De} : ∀ {lo hi : Nat} {tv kv : Value}, DOwn w lo hi d tv kv → DLies w (fun b => lo ≤ b ∧ b < hi) d tv kv := by
  refine De.ind (P := fun d => ∀ {lo hi : Nat} {tv kv : Value}, DOwn w lo hi d tv kv → DLies w (fun b => lo ≤ b ∧ b < hi) d tv kv) ?_ d
  intro c t k ih lo hi tv kv hh
  obtain ⟨lt, ht, ho, g1, g2, a, cap, b, f, l, h, hv, hc, hm, ha, hf, hk, hr, hd⟩ := hh.out
  refine DLies.shut ⟨ho.lies.mono (fun b hb => by omega), a, cap, b, 0, fun i => f (i * 6 + 4), fun i => f (i * 6 + 5), hv, hc, hm, fun h0 => ⟨(ha h0).1, (ha h0).2.1, (ha h0).2.2.1⟩, fun i hi => ?_, fun i hi => ?_⟩
  · dsimp only at hi ⊢ hc
    obtain ⟨_, _, _, _, q4⟩ := ha (by show 0 < k.length; omega)
    obtain ⟨p0, p1, p2, p3⟩ := hf i hi
    simp only [Nat.zero_add]
    exact ⟨by rw [q4.cell (by omega), p0], by rw [q4.cell (by omega), p1], by rw [q4.cell (by omega), p2], by rw [q4.cell (by omega), p3], q4.cell (by omega), q4.cell (by omega)⟩
  · have := hr i hi
    exact (ih i hi (hk i hi)).mono (fun b hb => by omega)
theorem DOwn.still {w w' : World} {d : De} {tv kv : Value} {lo hi : Nat} (h : DOwn w lo hi d tv kv) (hb : Below w.heap.size w w') : DOwn w' lo hi d tv kv :=
  h.keep (Nat.le_refl _) (Nat.le_refl _) (fun k _ _ hk => hb.block k hk)
theorem DOwn.past {w : World} {d : De} {tv kv u : Value} {lo hi g o : Nat} (h : DOwn w lo hi d tv kv) (hg : g < lo ∨ hi ≤ g) : DOwn (w.setCell ⟨g, o, none⟩ u) lo hi d tv kv :=
  h.keep (Nat.le_refl _) (Nat.le_refl _) (fun k h1 h2 _ => blk_setCell_other _ _ _ _ (by show k ≠ g; omega))
theorem DOwn.outs {w w' : World} {d : De} {tv kv : Value} {lo hi a c : Nat} (h : DOwn w lo hi d tv kv) (ho : Out a c w w') (hr : hi ≤ a ∨ c ≤ lo) : DOwn w' lo hi d tv kv :=
  h.keep (Nat.le_refl _) (Nat.le_refl _) (fun k k1 k2 k3 => ho.2.2.2.2 k k3 (by omega))
end Go.Proofs.Ytblfeifedcddnaa
