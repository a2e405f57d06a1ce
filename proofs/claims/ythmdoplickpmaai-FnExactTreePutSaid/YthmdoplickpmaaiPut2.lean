import Derived.Test.YthmdoplickpmaaiPut
namespace Go.Proofs.Ythmdoplickpmaai
open Go.RowKit Go.Deep Go.Lib
set_option linter.unusedVariables false
set_option maxRecDepth 100000
set_option linter.unusedSimpArgs false

theorem kc_cells {w : World} {b off : Nat} {k : List Tr} {sv : Nat → Value}
    (hcell : ∀ i (hi : i < k.length), w.cell? ⟨b, off + i * 4, none⟩ = some (.string k[i].name) ∧ w.cell? ⟨b, off + i * 4 + 1, none⟩ = some (.string k[i].text) ∧
        w.cell? ⟨b, off + i * 4 + 2, none⟩ = some (.bool k[i].leaf) ∧ w.cell? ⟨b, off + i * 4 + 3, none⟩ = some (sv i)) :
    ∀ j u, (kc k sv k.length)[j]? = some u → w.cell? ⟨b, off + j, none⟩ = some u := by
  intro j u h
  have hj : j < k.length * 4 := by
    have := (List.getElem?_eq_some_iff.1 h).1
    rwa [kc_len] at this
  have hi : j / 4 < k.length := by omega
  obtain ⟨q0, q1, q2, q3⟩ := kc_get k sv k.length (j / 4) hi
  obtain ⟨c0, c1, c2, c3⟩ := hcell (j / 4) hi
  rw [nth_eq hi] at q0 q1 q2
  have hc : j = j / 4 * 4 ∨ j = j / 4 * 4 + 1 ∨ j = j / 4 * 4 + 2 ∨ j = j / 4 * 4 + 3 := by omega
  rcases hc with e | e | e | e
  · rw [← e] at q0 c0; rw [q0] at h; cases h; exact c0
  · rw [← e] at q1; rw [q1] at h; cases h; rw [show off + j = off + j / 4 * 4 + 1 by omega]; exact c1
  · rw [← e] at q2; rw [q2] at h; cases h; rw [show off + j = off + j / 4 * 4 + 2 by omega]; exact c2
  · rw [← e] at q3; rw [q3] at h; cases h; rw [show off + j = off + j / 4 * 4 + 3 by omega]; exact c3
theorem kc_one (k : List Tr) (sv : Nat → Value) : ∀ j, (∀ i, i < j → ∃ a m c, sv i = .slice a m c) → ∀ u ∈ kc k sv j, u.oneCell' = true
  | 0, _, u, h => by simp [kc] at h
  | j + 1, hs, u, h => by
    rw [kc, List.mem_append] at h
    rcases h with h | h
    · exact kc_one k sv j (fun i hi => hs i (by omega)) u h
    · obtain ⟨a, m, c, e⟩ := hs j (by omega)
      simp at h
      rcases h with rfl | rfl | rfl | rfl
      · rfl
      · rfl
      · rfl
      · rw [e]; rfl

theorem path_rest (pb poff n cap : Nat) (hc : n + 1 ≤ cap) : ∃ pa : Option Addr, (0 < n → pa = some ⟨pb, poff + 1, none⟩) ∧ ∀ w : World, (Instr.slice 25 (.slice (some ⟨pb, poff, none⟩) (n + 1) cap) (some (.int .i64 1)) none none).run Try.prog w = .ok (.slice pa n (cap - 1)) w := by
  have hr := fun w : World => run_slice_l (P := Try.prog) w 25 (some ⟨pb, poff, none⟩) (n + 1) cap (by exact Try.underlying25) .i64 1 (by decide) (by omega)
  by_cases h1 : cap = 1
  · refine ⟨some ⟨pb, poff, none⟩, fun h => by omega, fun w => ?_⟩
    rw [hr w]
    subst h1
    simp [go_sem]
  · refine ⟨some ⟨pb, poff + 1, none⟩, fun _ => rfl, fun w => ?_⟩
    rw [hr w]
    simp [go_sem, h1]

/-- A row with one of its trees written anew. -/
def set4 (w : World) (g o : Nat) (t : Tr) (v : Value) : World := (((w.setCell ⟨g, o, none⟩ (.string t.name)).setCell ⟨g, o + 1, none⟩ (.string t.text)).setCell ⟨g, o + 2, none⟩ (.bool t.leaf)).setCell ⟨g, o + 3, none⟩ v
theorem set4_other (w : World) (g o : Nat) (t : Tr) (v : Value) (q : Nat) (h : q ≠ g) : (set4 w g o t v).heap[q]? = w.heap[q]? := by
  unfold set4
  rw [blk_setCell_other _ _ _ _ (by exact h), blk_setCell_other _ _ _ _ (by exact h), blk_setCell_other _ _ _ _ (by exact h), blk_setCell_other _ _ _ _ (by exact h)]
theorem set4_row {w : World} {g n i : Nat} {f : Nat → Value} (hrow : w.rowIs g 29 n f) (t : Tr) (v : Value) :
    ∃ f', (set4 w g (i * 4) t v).rowIs g 29 n f' ∧ f' (i * 4) = .string t.name ∧ f' (i * 4 + 1) = .string t.text ∧ f' (i * 4 + 2) = .bool t.leaf ∧ f' (i * 4 + 3) = v ∧ ∀ j, j < i * 4 ∨ i * 4 + 4 ≤ j → f' j = f j := by
  refine ⟨_, (((hrow.set (i * 4) (.string t.name)).set (i * 4 + 1) (.string t.text)).set (i * 4 + 2) (.bool t.leaf)).set (i * 4 + 3) v, ?_, ?_, ?_, ?_, fun j hj => ?_⟩
  · rw [if_neg (by omega), if_neg (by omega), if_neg (by omega), if_pos rfl]
  · rw [if_neg (by omega), if_neg (by omega), if_pos rfl]
  · rw [if_neg (by omega), if_pos rfl]
  · rw [if_pos rfl]
  · rw [if_neg (by omega), if_neg (by omega), if_neg (by omega), if_neg (by omega)]
theorem row_of_owns {w : World} {B g n cap : Nat} {xs : List Value} (h : w.ownsRow B 29 4 (.slice (some ⟨g, 0, none⟩) n cap) n xs) : n ≤ cap ∧ cap ≤ maxLen ∧ ∃ f, w.rowIs g 29 (cap * 4) f ∧ ∀ i, i < n * 4 → some (f i) = xs[i]? := by
  rcases h.2 with ⟨e, _⟩ | ⟨g', cap', cur, e, _, hg, hnc, hcm, hcs, htake⟩
  · cases e
  · cases e
    refine ⟨hnc, hcm, fun i => (cur[i]?).getD (.bool false), ⟨cur, hg, hcs, fun i hi => by simp [hcs, hi]⟩, fun i hi => ?_⟩
    rw [← htake, List.getElem?_take, if_pos hi]
    have : i < cur.size := by rw [hcs]; omega
    simp [this]
/-- A tree whose row was copied, with one Kid written anew. -/
theorem put_lies {t s' : Tr} {ii g cap B : Nat} {sv : Nat → Value} {v6 : Value} {w w6 w8 : World} {f : Nat → Value} {S S6 S8 : Nat → Prop} (hii : ii < t.kids.length) (hn : t.name.size ≤ maxLen) (hx : t.text.size ≤ maxLen) (hnc : t.kids.length ≤ cap) (hcm : cap ≤ maxLen)
    (hrow : w6.rowIs g 29 (cap * 4) f) (hf : ∀ i, i < t.kids.length * 4 → some (f i) = (kc t.kids sv t.kids.length)[i]?)
    (h8 : w8.heap[g]? = (set4 w6 g (ii * 4) s' v6).heap[g]?) (hS8 : S8 g)
    (hk : ∀ i (hi : i < t.kids.length), Lies w8 S8 t.kids[i] (sv i)) (hs : Lies w8 S8 s' v6) :
    Lies w8 S8 (setKid t ii s') (.slice (some ⟨g, 0, none⟩) t.kids.length cap) := by
  obtain ⟨f', hrow', e0, e1, e2, e3, hoth⟩ := set4_row (i := ii) hrow s' v6
  have hrow8 := hrow'.of_block h8
  have hlen : (t.kids.set ii s').length = t.kids.length := List.length_set
  refine Lies.shut ⟨some ⟨g, 0, none⟩, cap, g, 0, fun i => if i = ii then v6 else sv i, by simp only [setKid, hlen], hn, hx, by simp only [setKid, hlen]; exact hnc, hcm, fun _ => ⟨rfl, hS8⟩, fun i hi => ?_, fun i hi => ?_⟩
  · simp only [setKid] at hi ⊢
    rw [hlen] at hi
    simp only [Nat.zero_add]
    rw [hrow8.cell (by omega), hrow8.cell (by omega), hrow8.cell (by omega), hrow8.cell (by omega)]
    by_cases e : i = ii
    · subst e
      simp [e0, e1, e2, e3]
    · obtain ⟨k0, k1, k2, k3⟩ := kc_get t.kids sv t.kids.length i hi
      rw [nth_eq hi] at k0 k1 k2
      rw [← hf _ (by omega)] at k0 k1 k2 k3
      rw [hoth _ (by omega), hoth _ (by omega), hoth _ (by omega), hoth _ (by omega), k0, k1, k2, k3]
      simp [List.getElem_set, Ne.symm e, e]
  · simp only [setKid] at hi ⊢
    rw [hlen] at hi
    by_cases e : i = ii
    · subst e
      simp
      exact hs
    · rw [if_neg e]
      have : (t.kids.set ii s')[i]'(by rw [hlen]; exact hi) = t.kids[i] := by simp [List.getElem_set, Ne.symm e]
      rw [this]
      exact hk i hi

/-- The cells that l01Put's last statement loads. -/
def Held5 (t u : Tr) (w : World) (g3 cap3 ii pb poff : Nat) (ua : Option Addr) (ulen ucap : Nat) (w' : World) : Prop :=
  w'.cell? ⟨w.heap.size, 3, none⟩ = some (.slice (some ⟨g3, 0, none⟩) t.kids.length cap3) ∧ w'.cell? ⟨pb, poff, none⟩ = some (.int .i64 ii) ∧ w'.cell? ⟨w.heap.size + 1, 0, none⟩ = some (.string u.name) ∧ w'.cell? ⟨w.heap.size + 1, 1, none⟩ = some (.string u.text) ∧ w'.cell? ⟨w.heap.size + 1, 2, none⟩ = some (.bool u.leaf) ∧ w'.cell? ⟨w.heap.size + 1, 3, none⟩ = some (.slice ua ulen ucap)

theorem Held5.past {t u s : Tr} {w w6 : World} {g3 cap3 ii pb poff o : Nat} {ua : Option Addr} {ulen ucap : Nat} {v : Value} (h : Held5 t u w g3 cap3 ii pb poff ua ulen ucap w6) (hg : w.heap.size + 3 ≤ g3) (hp : pb < w.heap.size) : Held5 t u w g3 cap3 ii pb poff ua ulen ucap (set4 w6 g3 o s v) := by
  obtain ⟨h0, h1, h2, h3, h4, h5⟩ := h
  have e0 := fun o => World.cell?_of_block (a := ⟨w.heap.size, o, none⟩) (w := w6) (set4_other w6 g3 o s v w.heap.size (by omega))
  have e1 : ∀ q c, q < w.heap.size + 3 → (set4 w6 g3 o s v).cell? ⟨q, c, none⟩ = w6.cell? ⟨q, c, none⟩ := fun q c hq => World.cell?_of_block (w := w6) (set4_other w6 g3 o s v q (by omega))
  unfold Held5
  rw [e1 _ _ (by omega), e1 _ _ (by omega), e1 _ _ (by omega), e1 _ _ (by omega), e1 _ _ (by omega), e1 _ _ (by omega)]
  exact ⟨h0, h1, h2, h3, h4, h5⟩

end Go.Proofs.Ythmdoplickpmaai
