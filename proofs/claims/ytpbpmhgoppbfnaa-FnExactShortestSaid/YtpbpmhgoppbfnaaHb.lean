import Derived.Test.YtpbpmhgoppbfnaaSv
import Derived.Test.YtpbpmhgoppbfnaaHa
import Derived.BigQuiet
/-! Words in a row of texts, and what a Prod adds: pure, and in memory. -/
namespace Go.Proofs.Ytpbpmhgoppbfnaa
open Go.RowKit Go.Deep
set_option linter.unusedVariables false
set_option maxRecDepth 100000
set_option linter.unusedSimpArgs false

/-- The text of a word. -/
def bw (u : List Nat) : ByteArray := ⟨(u.map UInt8.ofNat).toArray⟩
theorem bw_list (u : List Nat) : (bw u).toList = u.map UInt8.ofNat := by rw [ByteArray.toList_eq]; simp [bw]
theorem bw_size (u : List Nat) : (bw u).size = u.length := by simp [bw, ByteArray.size]
theorem bw_ext {a b : ByteArray} (h : a.data.toList = b.data.toList) : a = b := by
  cases a; cases b
  simp only at h
  congr 1
  exact Array.toList_inj.1 h
theorem bw_append (u v : List Nat) : bw u ++ bw v = bw (u ++ v) := bw_ext (by simp [bw])
theorem bw_nil : bw [] = ⟨#[]⟩ := rfl
theorem ofNat_inj {a b : Nat} (ha : a < 256) (hb : b < 256) (h : UInt8.ofNat a = UInt8.ofNat b) : a = b := by
  have := congrArg UInt8.toNat h
  simp at this
  omega
theorem map_inj : ∀ (u v : List Nat), sml u → sml v → u.map UInt8.ofNat = v.map UInt8.ofNat → u = v := by
  intro u
  induction u with
  | nil => intro v _ _ h; cases v with
    | nil => rfl
    | cons b y => simp at h
  | cons a x ih =>
    intro v hu hv h
    cases v with
    | nil => simp at h
    | cons b y =>
      simp only [List.map_cons, List.cons.injEq] at h
      have e := ofNat_inj (hu a List.mem_cons_self) (hv b List.mem_cons_self) h.1
      rw [e, ih y (fun z hz => hu z (List.mem_cons_of_mem _ hz)) (fun z hz => hv z (List.mem_cons_of_mem _ hz)) h.2]
theorem bw_inj {u v : List Nat} (hu : sml u) (hv : sml v) (h : bw u = bw v) : u = v := by
  apply map_inj u v hu hv
  rw [← bw_list, ← bw_list, h]
theorem less_rk : ∀ (u v : List Nat), u.length = v.length → sml u → sml v → Op.bytesLess (u.map UInt8.ofNat) (v.map UInt8.ofNat) = decide (rk u < rk v) := by
  intro u
  induction u with
  | nil => intro v hl _ _; cases v with
    | nil => simp [Op.bytesLess, rk]
    | cons b y => simp at hl
  | cons a x ih =>
    intro v hl hu hv
    cases v with
    | nil => simp at hl
    | cons b y =>
      have hl' : x.length = y.length := by simpa using hl
      have hx : sml x := fun z hz => hu z (List.mem_cons_of_mem _ hz)
      have hy : sml y := fun z hz => hv z (List.mem_cons_of_mem _ hz)
      have ha := hu a List.mem_cons_self
      have hb := hv b List.mem_cons_self
      rw [List.map_cons, List.map_cons, Op.bytesLess, ih y hl' hx hy]
      rcases Nat.lt_trichotomy a b with e | e | e
      · have h1 := rk_cons_lt hl' hx e
        have h2 : UInt8.ofNat a < UInt8.ofNat b := by rw [UInt8.lt_iff_toNat_lt]; simp; omega
        simp [h1, h2]
      · subst e
        have h1 : ¬ UInt8.ofNat a < UInt8.ofNat a := by rw [UInt8.lt_iff_toNat_lt]; omega
        simp [rk, hl', h1]
      · have h1 := rk_cons_lt hl'.symm hy e
        have h2 : ¬ UInt8.ofNat a < UInt8.ofNat b := by rw [UInt8.lt_iff_toNat_lt]; simp; omega
        have h3 : ¬ UInt8.ofNat a = UInt8.ofNat b := fun h => by have := ofNat_inj ha hb h; omega
        have h4 : ¬ rk (a :: x) < rk (b :: y) := by omega
        simp [h2, h3, h4]
theorem bw_le {u v : List Nat} (hl : u.length = v.length) (hu : sml u) (hv : sml v) : (Op.bytesLess (bw u).toList (bw v).toList || (bw u).toList == (bw v).toList) = decide (rk u ≤ rk v) := by
  rw [bw_list, bw_list, less_rk u v hl hu hv]
  by_cases e : rk u = rk v
  · have := rk_inj u v hl hu hv e
    subst this
    simp
  · have h1 : ¬ u.map UInt8.ofNat = v.map UInt8.ofNat := fun h => e (by rw [map_inj u v hu hv h])
    by_cases h2 : rk u < rk v
    · have h3 : rk u ≤ rk v := by omega
      simp [h2, h3]
    · have h3 : ¬ rk u ≤ rk v := by omega
      simp [h2, h3, h1]

/-- Words in a row of their own. -/
def SRow (w : World) (b : Nat) (l : List (List Nat)) : Prop := w.rowIs b 9 l.length (fun i => .string (bw (l.getD i [])))
def wsF (l : List (List Nat)) : Nat → List Nat := fun x => l.getD x []
theorem SRow.cell {w : World} {b : Nat} {l : List (List Nat)} (h : SRow w b l) {i : Nat} (hi : i < l.length) : w.cell? ⟨b, i, none⟩ = some (.string (bw (wsF l i))) := World.rowIs.cell h hi
theorem SRow.still {w w' : World} {b : Nat} {l : List (List Nat)} (h : SRow w b l) (hb : Below w.heap.size w w') : SRow w' b l := World.rowIs.of_block h (hb.block b (World.rowIs.lt h))
theorem SRow.set {w : World} {b : Nat} {l : List (List Nat)} (h : SRow w b l) {x : Nat} (hx : x < l.length) (u : List Nat) : SRow (w.setCell ⟨b, x, none⟩ (.string (bw u))) b (l.set x u) := by
  obtain ⟨c, h1, h2, h3⟩ := World.rowIs.set h x (.string (bw u))
  refine ⟨c, h1, by simpa using h2, fun j hj => ?_⟩
  rw [List.length_set] at hj
  rw [h3 j hj]
  by_cases e : j = x
  · subst e; simp [List.getD_eq_getElem?_getD, hx]
  · have e2 : (l.set x u)[j]? = l[j]? := List.getElem?_set_ne (fun h : x = j => e h.symm)
    simp [List.getD_eq_getElem?_getD, e, e2]
theorem wsF_set {l : List (List Nat)} {x : Nat} (hx : x < l.length) (u : List Nat) (y : Nat) : wsF (l.set x u) y = if y = x then u else wsF l y := by
  unfold wsF
  by_cases e : y = x
  · subst e; simp [List.getD_eq_getElem?_getD, hx]
  · have e2 : (l.set x u)[y]? = l[y]? := List.getElem?_set_ne (fun h : x = y => e h.symm)
    simp [List.getD_eq_getElem?_getD, e, e2]
theorem SRow.uniq {w : World} {b : Nat} {L M : List (List Nat)} (h : SRow w b L) (k : SRow w b M) (hl : L.length = M.length) (h1 : ∀ x, sml (wsF L x)) (h2 : ∀ x, sml (wsF M x)) : L = M := by
  apply List.ext_getElem hl
  intro i g1 g2
  have e1 := h.cell g1
  rw [k.cell g2] at e1
  simp only [Option.some.injEq, Value.string.injEq] at e1
  have e2 := bw_inj (h2 i) (h1 i) e1
  unfold wsF at e2
  simp [List.getD_eq_getElem?_getD, g1, g2] at e2
  exact e2.symm

/-- A Prod makes a word that is news. -/
def newS (L : Nat → Int) (l : List (List Nat)) (p : Nat × List Nat) : Bool :=
  decide (lof L p.2 = L p.1) && decide (((cat (wsF l) p.2).length : Int) = L p.1) && !(decide (((wsF l p.1).length : Int) = L p.1) && decide (rk (wsF l p.1) ≤ rk (cat (wsF l) p.2)))
def nxtS (L : Nat → Int) (l : List (List Nat)) (p : Nat × List Nat) : List (List Nat) := if newS L l p then l.set p.1 (cat (wsF l) p.2) else l
theorem newS_1 {L : Nat → Int} {l : List (List Nat)} {p : Nat × List Nat} (h : ¬ lof L p.2 = L p.1) : newS L l p = false := by unfold newS; simp [h]
theorem newS_2 {L : Nat → Int} {l : List (List Nat)} {p : Nat × List Nat} (h : ¬ ((cat (wsF l) p.2).length : Int) = L p.1) : newS L l p = false := by unfold newS; simp [h]
theorem newS_3 {L : Nat → Int} {l : List (List Nat)} {p : Nat × List Nat} (h : ((wsF l p.1).length : Int) = L p.1) (h2 : rk (wsF l p.1) ≤ rk (cat (wsF l) p.2)) : newS L l p = false := by unfold newS; simp [h, h2]
theorem newS_4 {L : Nat → Int} {l : List (List Nat)} {p : Nat × List Nat} (h0 : lof L p.2 = L p.1) (h1 : ((cat (wsF l) p.2).length : Int) = L p.1) (h : ¬ ((wsF l p.1).length : Int) = L p.1 ∨ ¬ rk (wsF l p.1) ≤ rk (cat (wsF l) p.2)) : newS L l p = true := by
  unfold newS
  rcases h with h | h
  · rw [decide_eq_true h0, decide_eq_true h1, decide_eq_false h]; rfl
  · rw [decide_eq_true h0, decide_eq_true h1, decide_eq_false h, Bool.and_false]; rfl
theorem newS_yes {L : Nat → Int} {l : List (List Nat)} {p : Nat × List Nat} (h : newS L l p = true) : lof L p.2 = L p.1 ∧ ((cat (wsF l) p.2).length : Int) = L p.1 ∧ (¬ ((wsF l p.1).length : Int) = L p.1 ∨ ¬ rk (wsF l p.1) ≤ rk (cat (wsF l) p.2)) := by
  by_cases h0 : lof L p.2 = L p.1
  · by_cases h1 : ((cat (wsF l) p.2).length : Int) = L p.1
    · refine ⟨h0, h1, ?_⟩
      by_cases h2 : ((wsF l p.1).length : Int) = L p.1
      · by_cases h3 : rk (wsF l p.1) ≤ rk (cat (wsF l) p.2)
        · rw [newS_3 h2 h3] at h; cases h
        · exact .inr h3
      · exact .inl h2
    · rw [newS_2 h1] at h; cases h
  · rw [newS_1 h0] at h; cases h
/-- What is known of the words. -/
structure PW (nt : Nat) (ps : List (Nat × List Nat)) (L : Nat → Int) (l : List (List Nat)) : Prop where
  lim : ∀ x, (wsF l x).length ≤ 1000
  sm : ∀ x, sml (wsF l x)
  tm : ∀ x, x < nt → wsF l x = [x]
  fit : ∀ x, 0 ≤ L x → L x ≤ 200 → wsF l x = [] ∨ ((wsF l x).length : Int) = L x
  made : ∀ x, 0 ≤ L x → L x ≤ 200 → ((wsF l x).length : Int) = L x → Wo nt ps [x] (wsF l x)
theorem cat_sml {W : Nat → List Nat} (h : ∀ x, sml (W x)) : ∀ r, sml (cat W r) := by
  intro r
  induction r with
  | nil => intro a ha; simp [cat] at ha
  | cons x r ih =>
    intro a ha
    rw [cat] at ha
    rcases List.mem_append.1 ha with ha | ha
    · exact h x a ha
    · exact ih a ha
theorem PW.step {nt : Nat} {ps : List (Nat × List Nat)} {L : Nat → Int} (hS : Snd nt ps L) {l : List (List Nat)} (h : PW nt ps L l) {p : Nat × List Nat} (hp : p ∈ ps) (hl : nt ≤ p.1) (hx : p.1 < l.length) (hn : newS L l p = true) : PW nt ps L (l.set p.1 (cat (wsF l) p.2)) := by
  obtain ⟨h0, h1, h2⟩ := newS_yes hn
  have key : ∀ y, wsF (l.set p.1 (cat (wsF l) p.2)) y = if y = p.1 then cat (wsF l) p.2 else wsF l y := fun y => wsF_set hx _ y
  have htop := hS.top p.1
  refine ⟨fun x => ?_, fun x => ?_, fun x hx' => ?_, fun x g0 g1 => ?_, fun x g0 g1 g2 => ?_⟩
  · rw [key]; split
    · omega
    · exact h.lim x
  · rw [key]; split
    · exact cat_sml h.sm _
    · exact h.sm x
  · rw [key, if_neg (by omega)]; exact h.tm x hx'
  · rw [key]
    by_cases e : x = p.1
    · rw [if_pos e]; subst e; exact .inr h1
    · rw [if_neg e]; exact h.fit x g0 g1
  · rw [key] at g2 ⊢
    by_cases e : x = p.1
    · rw [if_pos e]
      subst e
      unfold lof at h0
      cases hs : lsum L p.2 with
      | none => rw [hs] at h0; simp only at h0; omega
      | some s =>
        rw [hs] at h0
        simp only at h0
        obtain ⟨k1, k2⟩ := lsum_each hS.low _ _ hs
        have hle : ∀ y ∈ p.2, ((wsF l y).length : Int) ≤ L y := by
          intro y hy
          have h3 := k2 y hy
          rcases h.fit y h3.1 (by omega) with e | e
          · rw [e]; exact h3.1
          · omega
        have hfull := (cat_full _ _ hs hle).2 (by omega)
        have hw : Wo nt ps p.2 (cat (wsF l) p.2) := Wo.cat _ (fun y hy => h.made y (k2 y hy).1 (by have := (k2 y hy).2; omega) (hfull y hy))
        have := Wo.non hp hw Wo.nil
        rw [List.append_nil] at this
        exact this
    · rw [if_neg e] at g2 ⊢; exact h.made x g0 g1 g2
/-- When nothing is news they are the first of the shortest ones. -/
theorem PW.best {nt : Nat} {ps : List (Nat × List Nat)} {L : Nat → Int} (hS : Snd nt ps L) (hq : ∀ p ∈ ps, lnew L p = false) {l : List (List Nat)} (h : PW nt ps L l) (hn : ∀ p ∈ ps, newS L l p = false) (x : Nat) (h0 : 0 ≤ L x) (h1 : L x ≤ 200) : Bst nt ps L x (wsF l x) := by
  refine (bst_of hS hq (fun x => decide (((wsF l x).length : Int) = L x)) (wsF l) (fun x g0 g1 g2 => ?_) (fun x hx => ?_) (fun p hp g0 g1 g2 g3 => ?_) x h0 h1).2
  · have g2 := of_decide_eq_true g2
    exact ⟨h.made x g0 g1 g2, g2⟩
  · refine ⟨decide_eq_true ?_, h.tm x hx⟩
    rw [h.tm x hx, hS.tm x hx]; rfl
  · have hnp := hn p hp
    have hcl : ((cat (wsF l) p.2).length : Int) = L p.1 := by
      unfold lof at g2
      cases hs : lsum L p.2 with
      | none => rw [hs] at g2; simp only at g2; omega
      | some s =>
        rw [hs] at g2
        simp only at g2
        have := cat_len (W := wsF l) _ _ hs (fun y hy => of_decide_eq_true (g3 y hy))
        omega
    by_cases h2 : ((wsF l p.1).length : Int) = L p.1
    · by_cases h3 : rk (wsF l p.1) ≤ rk (cat (wsF l) p.2)
      · exact ⟨decide_eq_true h2, h3⟩
      · rw [newS_4 g2 hcl (.inr h3)] at hnp; cases hnp
    · rw [newS_4 g2 hcl (.inl h2)] at hnp; cases hnp
/-- More than any rank. -/
def expo : Nat := 1000
def big : Nat := 256 ^ expo
theorem rk_big {u : List Nat} (h : sml u) (hl : u.length ≤ 1000) : rk u < big := by
  have h1 := rk_lt u h
  have h2 : 256 ^ u.length ≤ big := Nat.pow_le_pow_right (n := 256) (by omega) (show u.length ≤ expo from hl)
  omega
/-- How much better they may become. -/
def msv (L : Nat → Int) (l : List (List Nat)) (x : Nat) : Nat := if ((wsF l x).length : Int) = L x then rk (wsF l x) else big
def msS (L : Nat → Int) (N : Nat) (l : List (List Nat)) : Nat := ((List.range N).map (msv L l)).sum
theorem msS_less {L : Nat → Int} {l : List (List Nat)} {p : Nat × List Nat} (htop : L p.1 ≤ 1000) (hsm : ∀ x, sml (wsF l x)) (hx : p.1 < l.length) (hn : newS L l p = true) : msS L l.length (l.set p.1 (cat (wsF l) p.2)) < msS L l.length l := by
  obtain ⟨h0, h1, h2⟩ := newS_yes hn
  have hc : rk (cat (wsF l) p.2) < big := rk_big (cat_sml hsm _) (by omega)
  have key : ∀ y, wsF (l.set p.1 (cat (wsF l) p.2)) y = if y = p.1 then cat (wsF l) p.2 else wsF l y := fun y => wsF_set hx _ y
  have hlt : msv L (l.set p.1 (cat (wsF l) p.2)) p.1 < msv L l p.1 := by
    unfold msv
    rw [key, if_pos rfl, if_pos h1]
    split
    · rename_i e
      rcases h2 with e2 | e2
      · exact absurd e e2
      · omega
    · exact hc
  refine sum_lt _ (fun i _ => ?_) p.1 (List.mem_range.2 hx) hlt
  by_cases e : i = p.1
  · subst e; exact Nat.le_of_lt hlt
  · unfold msv; rw [key, if_neg e]; exact Nat.le_refl _
end Go.Proofs.Ytpbpmhgoppbfnaa
