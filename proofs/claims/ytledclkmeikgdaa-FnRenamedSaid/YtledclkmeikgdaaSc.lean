import Derived.Test.YtledclkmeikgdaaSb
/-! What is gathered, as it lies: a box and five rows; what a step leaves. -/
namespace Go.Proofs.Ytledclkmeikgdaa
open Go.RowKit Go.Deep Go.Lib
set_option linter.unusedVariables false
set_option maxRecDepth 100000
set_option linter.unusedSimpArgs false

/-- Spots and edges as cells. -/
def spL (l : List DSpot) : List Value := l.flatMap fun s => [.int .i64 s.scope, .string s.name]
def edL (l : List DSEdge) : List Value := l.flatMap fun s => [.int .i64 s.from_, .int .i64 s.to_, .int .i64 s.kind]
theorem spL_app (l : List DSpot) (x : DSpot) : spL (l ++ [x]) = spL l ++ [.int .i64 x.scope, .string x.name] := by simp [spL]
theorem edL_app (l : List DSEdge) (x : DSEdge) : edL (l ++ [x]) = edL l ++ [.int .i64 x.from_, .int .i64 x.to_, .int .i64 x.kind] := by simp [edL]
theorem own_box {w : World} {B e z n q ty b : Nat} {v : Value} {xs cs : List Value} (h : w.ownsRow B e z v n xs) (hb : Box w q ty cs) (hne : e ≠ ty) (hv : v.ownBlock = some b) : b ≠ q := by
  rintro rfl
  rcases h.2 with ⟨rfl, _⟩ | ⟨g, cp, cur, rfl, _, hg, _⟩
  · cases hv
  · simp [Value.ownBlock] at hv
    subst hv
    obtain ⟨cs', h1, _⟩ := hb.ex
    rw [hg] at h1
    injection h1 with h1
    injection h1 with _ h1
    exact hne h1
/-- The values in its box, and the paths' slices. -/
structure CV where
  v1 : Value
  v2 : Value
  v3 : Value
  v4 : Value
  v5 : Value
  D : Nat → Value
  R : Nat → Value
/-- It lies. -/
structure Co (w : World) (A q ty : Nat) (s : Sw) (c : CV) : Prop where
  bx : Box w q ty [.int .i64 s.n, c.v1, c.v2, c.v3, c.v4, c.v5]
  e : w.ownsRow A 74 3 c.v1 s.es.length (edL s.es)
  d : w.ownsRow A 33 2 c.v2 s.ds.length (spL s.ds)
  r : w.ownsRow A 33 2 c.v3 s.rs.length (spL s.rs)
  dp : RRv w A s.dp c.v4 c.D
  rp : RRv w A s.rp c.v5 c.R
  dr : ∀ b, c.v2.ownBlock = some b → c.v3.ownBlock ≠ some b
  pp : ∀ b, c.v4.ownBlock = some b → c.v5.ownBlock ≠ some b
  px : ∀ i j, i < s.dp.length → j < s.rp.length → ∀ b, (c.D i).ownBlock = some b → (c.R j).ownBlock ≠ some b
  hq : A ≤ q
  ty : ty ≠ 74 ∧ ty ≠ 33 ∧ ty ≠ 34 ∧ ty ≠ 3
/-- Its blocks. -/
def CV.B (c : CV) (q : Nat) (s : Sw) (b : Nat) : Prop :=
  b = q ∨ c.v1.ownBlock = some b ∨ c.v2.ownBlock = some b ∨ c.v3.ownBlock = some b ∨ c.v4.ownBlock = some b ∨ c.v5.ownBlock = some b ∨ (∃ i, i < s.dp.length ∧ (c.D i).ownBlock = some b) ∨ ∃ i, i < s.rp.length ∧ (c.R i).ownBlock = some b
theorem Co.lt {w : World} {A q ty : Nat} {s : Sw} {c : CV} (h : Co w A q ty s c) : ∀ b, c.B q s b → A ≤ b ∧ b < w.heap.size := by
  rintro b (e | e | e | e | e | e | ⟨i, hi, e⟩ | ⟨i, hi, e⟩)
  · rw [e]; exact ⟨h.hq, h.bx.lt⟩
  · exact World.ownsRow.lt h.e b e
  · exact World.ownsRow.lt h.d b e
  · exact World.ownsRow.lt h.r b e
  · exact World.ownsRow.lt h.dp.out b e
  · exact World.ownsRow.lt h.rp.out b e
  · exact World.ownsRow.lt (h.dp.row i hi) b e
  · exact World.ownsRow.lt (h.rp.row i hi) b e
theorem Co.keep {w w' : World} {A q ty : Nat} {s : Sw} {c : CV} (h : Co w A q ty s c) (hb : ∀ b, c.B q s b → w'.heap[b]? = w.heap[b]?) : Co w' A q ty s c :=
  ⟨h.bx.keep (hb q (.inl rfl)), own_keep1 h.e (fun b e => hb b (.inr (.inl e))), own_keep1 h.d (fun b e => hb b (.inr (.inr (.inl e)))), own_keep1 h.r (fun b e => hb b (.inr (.inr (.inr (.inl e))))), h.dp.keep (fun b e => hb b (.inr (.inr (.inr (.inr (.inl e)))))) (fun i hi b e => hb b (.inr (.inr (.inr (.inr (.inr (.inr (.inl ⟨i, hi, e⟩)))))))), h.rp.keep (fun b e => hb b (.inr (.inr (.inr (.inr (.inr (.inl e))))))) (fun i hi b e => hb b (.inr (.inr (.inr (.inr (.inr (.inr (.inr ⟨i, hi, e⟩)))))))), h.dr, h.pp, h.px, h.hq, h.ty⟩
theorem Co.still {w w' : World} {A q ty : Nat} {s : Sw} {c : CV} (h : Co w A q ty s c) (hb : Below w.heap.size w w') : Co w' A q ty s c := h.keep (fun b hq => hb.block b (h.lt b hq).2)
/-- What a step leaves: T: what else it may write; N: what else it may take in. -/
structure St (A q ty : Nat) (w : World) (s : Sw) (c : CV) (w' : World) (s' : Sw) (c' : CV) (T N : Nat → Prop) : Prop where
  co : Co w' A q ty s' c'
  fm : Fm (fun b => c.B q s b ∨ T b) w w'
  nb : ∀ b, c'.B q s' b → c.B q s b ∨ N b ∨ w.heap.size ≤ b
theorem St.below {w w' : World} {A q ty : Nat} {s : Sw} {c : CV} {T N : Nat → Prop} (h : Co w A q ty s c) (hb : Below w.heap.size w w') : St A q ty w s c w' s c T N := ⟨h.still hb, Fm.of_below hb, fun b hb => .inl hb⟩
theorem St.trans {w w1 w2 : World} {A q ty : Nat} {s s1 s2 : Sw} {c c1 c2 : CV} {T T' T'' N N' N'' : Nat → Prop} (h : St A q ty w s c w1 s1 c1 T N) (k : St A q ty w1 s1 c1 w2 s2 c2 T' N')
    (hT : ∀ b, b < w.heap.size → T b → T'' b) (hT' : ∀ b, b < w.heap.size → T' b → c.B q s b ∨ T'' b) (hN : ∀ b, b < w.heap.size → ¬ N b) (hN' : ∀ b, b < w.heap.size → N' b → N'' b) : St A q ty w s c w2 s2 c2 T'' N'' := by
  have hs := h.fm.size
  refine ⟨k.co, ⟨k.fm.os.trans h.fm.os, k.fm.tape.trans h.fm.tape, k.fm.output.trans h.fm.output, Nat.le_trans h.fm.size k.fm.size, fun b hb hn => ?_⟩, fun b hb => ?_⟩
  · refine (k.fm.block b (by omega) (fun e => ?_)).trans (h.fm.block b hb (fun e => hn (e.imp id (hT b hb))))
    rcases e with e | e
    · rcases h.nb b e with e | e | e
      · exact hn (.inl e)
      · exact hN b hb e
      · omega
    · exact hn (hT' b hb e)
  · by_cases hl : b < w.heap.size
    · rcases k.nb b hb with e | e | e
      · rcases h.nb b e with e | e | e
        · exact .inl e
        · exact absurd e (hN b hl)
        · exact .inr (.inr e)
      · exact .inr (.inl (hN' b hl e))
      · exact .inr (.inr (by omega))
    · exact .inr (.inr (by omega))

theorem Co.pushE {w w1 w2 : World} {A q ty g cp : Nat} {s : Sw} {c : CV} (h : Co w A q ty s c) (x : DSEdge) (hb : Below w.heap.size w w1) (ho : w2.ownsRow A 74 3 (.slice (some ⟨g, 0, none⟩) (s.es.length + 1) cp) (s.es.length + 1) (edL s.es ++ [.int .i64 x.from_, .int .i64 x.to_, .int .i64 x.kind]))
    (hg : w1.grownBy w2 c.v1.ownBlock) (hat : c.v1.ownBlock = some g ∨ w.heap.size ≤ g) :
    St A q ty w s c (w2.setCell ⟨q, 1, none⟩ (.slice (some ⟨g, 0, none⟩) (s.es.length + 1) cp)) { s with es := s.es ++ [x] } { c with v1 := .slice (some ⟨g, 0, none⟩) (s.es.length + 1) cp } (fun _ => False) (fun _ => False) := by
  have hs1 := hb.size
  have hs2 := hg.size
  have hk : ∀ b, b < w.heap.size → c.v1.ownBlock ≠ some b → b ≠ q → (w2.setCell ⟨q, 1, none⟩ (.slice (some ⟨g, 0, none⟩) (s.es.length + 1) cp)).heap[b]? = w.heap[b]? := fun b h1 h2 h3 => (blk_setCell_other _ _ _ _ (by show b ≠ q; exact h3)).trans ((hg.block b (by omega) (fun e => h2 e.symm)).trans (hb.block b h1))
  have hvq : c.v1.ownBlock ≠ some q := fun e => own_box h.e h.bx (fun e => h.ty.1 e.symm) e rfl
  have hql := h.bx.lt
  have hbx2 : Box w2 q ty [.int .i64 s.n, c.v1, c.v2, c.v3, c.v4, c.v5] := h.bx.keep ((hg.block q (by omega) (fun e => hvq e.symm)).trans (hb.block q hql))
  have hgq : g ≠ q := fun e => own_box ho hbx2 (fun e => h.ty.1 e.symm) (b := g) rfl e
  have hL : (s.es ++ [x]).length = s.es.length + 1 := by simp
  have he : (w2.setCell ⟨q, 1, none⟩ (.slice (some ⟨g, 0, none⟩) (s.es.length + 1) cp)).ownsRow A 74 3 (.slice (some ⟨g, 0, none⟩) (s.es.length + 1) cp) (s.es ++ [x]).length (edL (s.es ++ [x])) := by
    rw [hL, edL_app]
    exact own_keep1 ho (fun b hb => blk_setCell_other _ _ _ _ (by
      have hb : g = b := by simpa [Value.ownBlock] using hb
      show b ≠ q
      omega))
  have hd : (w2.setCell ⟨q, 1, none⟩ (.slice (some ⟨g, 0, none⟩) (s.es.length + 1) cp)).ownsRow A 33 2 c.v2 s.ds.length (spL s.ds) := own_keep1 h.d (fun b hb => hk b (World.ownsRow.lt h.d b hb).2 (fun e2 => own_apart h.d h.e (by decide) e2 hb) (own_box h.d h.bx (fun e => h.ty.2.1 e.symm) hb))
  have hr : (w2.setCell ⟨q, 1, none⟩ (.slice (some ⟨g, 0, none⟩) (s.es.length + 1) cp)).ownsRow A 33 2 c.v3 s.rs.length (spL s.rs) := own_keep1 h.r (fun b hb => hk b (World.ownsRow.lt h.r b hb).2 (fun e2 => own_apart h.r h.e (by decide) e2 hb) (own_box h.r h.bx (fun e => h.ty.2.1 e.symm) hb))
  have hdp : RRv (w2.setCell ⟨q, 1, none⟩ (.slice (some ⟨g, 0, none⟩) (s.es.length + 1) cp)) A s.dp c.v4 c.D := h.dp.keep (fun b hb => hk b (World.ownsRow.lt h.dp.out b hb).2 (fun e2 => own_apart h.dp.out h.e (by decide) e2 hb) (own_box h.dp.out h.bx (fun e => h.ty.2.2.1 e.symm) hb)) (fun i hi b hb => hk b (World.ownsRow.lt (h.dp.row i hi) b hb).2 (fun e2 => own_apart (h.dp.row i hi) h.e (by decide) e2 hb) (own_box (h.dp.row i hi) h.bx (fun e => h.ty.2.2.2 e.symm) hb))
  have hrp : RRv (w2.setCell ⟨q, 1, none⟩ (.slice (some ⟨g, 0, none⟩) (s.es.length + 1) cp)) A s.rp c.v5 c.R := h.rp.keep (fun b hb => hk b (World.ownsRow.lt h.rp.out b hb).2 (fun e2 => own_apart h.rp.out h.e (by decide) e2 hb) (own_box h.rp.out h.bx (fun e => h.ty.2.2.1 e.symm) hb)) (fun i hi b hb => hk b (World.ownsRow.lt (h.rp.row i hi) b hb).2 (fun e2 => own_apart (h.rp.row i hi) h.e (by decide) e2 hb) (own_box (h.rp.row i hi) h.bx (fun e => h.ty.2.2.2 e.symm) hb))
  have hdr := h.dr
  refine ⟨⟨by simpa using hbx2.set 1 (.slice (some ⟨g, 0, none⟩) (s.es.length + 1) cp), he, hd, hr, hdp, hrp, hdr, h.pp, h.px, h.hq, h.ty⟩, ⟨hg.os.trans hb.os, hg.tape.trans hb.tape, hg.output.trans hb.output, by simp; omega, fun b h1 h2 => hk b h1 (fun e => h2 (.inl (.inr (.inl e)))) (fun e => h2 (.inl (.inl e)))⟩, fun b hb => ?_⟩
  rcases hb with e | e | e | e | e | e | e | e
  · exact .inl (.inl e)
  · have e : g = b := by simpa [Value.ownBlock] using e
    subst e
    exact hat.elim (fun e => .inl (.inr (.inl e))) (fun e => .inr (.inr e))
  · exact .inl (.inr (.inr (.inl e)))
  · exact .inl (.inr (.inr (.inr (.inl e))))
  · exact .inl (.inr (.inr (.inr (.inr (.inl e)))))
  · exact .inl (.inr (.inr (.inr (.inr (.inr (.inl e))))))
  · exact .inl (.inr (.inr (.inr (.inr (.inr (.inr (.inl e)))))))
  · exact .inl (.inr (.inr (.inr (.inr (.inr (.inr (.inr e)))))))

theorem Co.pushD {w w1 w2 : World} {A q ty g cp : Nat} {s : Sw} {c : CV} (h : Co w A q ty s c) (x : DSpot) (hb : Below w.heap.size w w1) (ho : w2.ownsRow A 33 2 (.slice (some ⟨g, 0, none⟩) (s.ds.length + 1) cp) (s.ds.length + 1) (spL s.ds ++ [.int .i64 x.scope, .string x.name]))
    (hg : w1.grownBy w2 c.v2.ownBlock) (hat : c.v2.ownBlock = some g ∨ w.heap.size ≤ g) :
    St A q ty w s c (w2.setCell ⟨q, 2, none⟩ (.slice (some ⟨g, 0, none⟩) (s.ds.length + 1) cp)) { s with ds := s.ds ++ [x] } { c with v2 := .slice (some ⟨g, 0, none⟩) (s.ds.length + 1) cp } (fun _ => False) (fun _ => False) := by
  have hs1 := hb.size
  have hs2 := hg.size
  have hk : ∀ b, b < w.heap.size → c.v2.ownBlock ≠ some b → b ≠ q → (w2.setCell ⟨q, 2, none⟩ (.slice (some ⟨g, 0, none⟩) (s.ds.length + 1) cp)).heap[b]? = w.heap[b]? := fun b h1 h2 h3 => (blk_setCell_other _ _ _ _ (by show b ≠ q; exact h3)).trans ((hg.block b (by omega) (fun e => h2 e.symm)).trans (hb.block b h1))
  have hvq : c.v2.ownBlock ≠ some q := fun e => own_box h.d h.bx (fun e => h.ty.2.1 e.symm) e rfl
  have hql := h.bx.lt
  have hbx2 : Box w2 q ty [.int .i64 s.n, c.v1, c.v2, c.v3, c.v4, c.v5] := h.bx.keep ((hg.block q (by omega) (fun e => hvq e.symm)).trans (hb.block q hql))
  have hgq : g ≠ q := fun e => own_box ho hbx2 (fun e => h.ty.2.1 e.symm) (b := g) rfl e
  have hL : (s.ds ++ [x]).length = s.ds.length + 1 := by simp
  have he : (w2.setCell ⟨q, 2, none⟩ (.slice (some ⟨g, 0, none⟩) (s.ds.length + 1) cp)).ownsRow A 74 3 c.v1 s.es.length (edL s.es) := own_keep1 h.e (fun b hb => hk b (World.ownsRow.lt h.e b hb).2 (fun e2 => own_apart h.e h.d (by decide) e2 hb) (own_box h.e h.bx (fun e => h.ty.1 e.symm) hb))
  have hd : (w2.setCell ⟨q, 2, none⟩ (.slice (some ⟨g, 0, none⟩) (s.ds.length + 1) cp)).ownsRow A 33 2 (.slice (some ⟨g, 0, none⟩) (s.ds.length + 1) cp) (s.ds ++ [x]).length (spL (s.ds ++ [x])) := by
    rw [hL, spL_app]
    exact own_keep1 ho (fun b hb => blk_setCell_other _ _ _ _ (by
      have hb : g = b := by simpa [Value.ownBlock] using hb
      show b ≠ q
      omega))
  have hr : (w2.setCell ⟨q, 2, none⟩ (.slice (some ⟨g, 0, none⟩) (s.ds.length + 1) cp)).ownsRow A 33 2 c.v3 s.rs.length (spL s.rs) := own_keep1 h.r (fun b hb => hk b (World.ownsRow.lt h.r b hb).2 (fun e2 => h.dr b e2 hb) (own_box h.r h.bx (fun e => h.ty.2.1 e.symm) hb))
  have hdp : RRv (w2.setCell ⟨q, 2, none⟩ (.slice (some ⟨g, 0, none⟩) (s.ds.length + 1) cp)) A s.dp c.v4 c.D := h.dp.keep (fun b hb => hk b (World.ownsRow.lt h.dp.out b hb).2 (fun e2 => own_apart h.dp.out h.d (by decide) e2 hb) (own_box h.dp.out h.bx (fun e => h.ty.2.2.1 e.symm) hb)) (fun i hi b hb => hk b (World.ownsRow.lt (h.dp.row i hi) b hb).2 (fun e2 => own_apart (h.dp.row i hi) h.d (by decide) e2 hb) (own_box (h.dp.row i hi) h.bx (fun e => h.ty.2.2.2 e.symm) hb))
  have hrp : RRv (w2.setCell ⟨q, 2, none⟩ (.slice (some ⟨g, 0, none⟩) (s.ds.length + 1) cp)) A s.rp c.v5 c.R := h.rp.keep (fun b hb => hk b (World.ownsRow.lt h.rp.out b hb).2 (fun e2 => own_apart h.rp.out h.d (by decide) e2 hb) (own_box h.rp.out h.bx (fun e => h.ty.2.2.1 e.symm) hb)) (fun i hi b hb => hk b (World.ownsRow.lt (h.rp.row i hi) b hb).2 (fun e2 => own_apart (h.rp.row i hi) h.d (by decide) e2 hb) (own_box (h.rp.row i hi) h.bx (fun e => h.ty.2.2.2 e.symm) hb))
  have hdr : ∀ b, (Value.slice (some ⟨g, 0, none⟩) (s.ds.length + 1) cp).ownBlock = some b → c.v3.ownBlock ≠ some b := fun b hb e2 => by
    have hb : g = b := by simpa [Value.ownBlock] using hb
    subst hb
    have := (World.ownsRow.lt h.r g e2).2
    exact hat.elim (fun e => h.dr g e e2) (fun e => by omega)
  refine ⟨⟨by simpa using hbx2.set 2 (.slice (some ⟨g, 0, none⟩) (s.ds.length + 1) cp), he, hd, hr, hdp, hrp, hdr, h.pp, h.px, h.hq, h.ty⟩, ⟨hg.os.trans hb.os, hg.tape.trans hb.tape, hg.output.trans hb.output, by simp; omega, fun b h1 h2 => hk b h1 (fun e => h2 (.inl (.inr (.inr (.inl e))))) (fun e => h2 (.inl (.inl e)))⟩, fun b hb => ?_⟩
  rcases hb with e | e | e | e | e | e | e | e
  · exact .inl (.inl e)
  · exact .inl (.inr (.inl e))
  · have e : g = b := by simpa [Value.ownBlock] using e
    subst e
    exact hat.elim (fun e => .inl (.inr (.inr (.inl e)))) (fun e => .inr (.inr e))
  · exact .inl (.inr (.inr (.inr (.inl e))))
  · exact .inl (.inr (.inr (.inr (.inr (.inl e)))))
  · exact .inl (.inr (.inr (.inr (.inr (.inr (.inl e))))))
  · exact .inl (.inr (.inr (.inr (.inr (.inr (.inr (.inl e)))))))
  · exact .inl (.inr (.inr (.inr (.inr (.inr (.inr (.inr e)))))))

theorem Co.pushR {w w1 w2 : World} {A q ty g cp : Nat} {s : Sw} {c : CV} (h : Co w A q ty s c) (x : DSpot) (hb : Below w.heap.size w w1) (ho : w2.ownsRow A 33 2 (.slice (some ⟨g, 0, none⟩) (s.rs.length + 1) cp) (s.rs.length + 1) (spL s.rs ++ [.int .i64 x.scope, .string x.name]))
    (hg : w1.grownBy w2 c.v3.ownBlock) (hat : c.v3.ownBlock = some g ∨ w.heap.size ≤ g) :
    St A q ty w s c (w2.setCell ⟨q, 3, none⟩ (.slice (some ⟨g, 0, none⟩) (s.rs.length + 1) cp)) { s with rs := s.rs ++ [x] } { c with v3 := .slice (some ⟨g, 0, none⟩) (s.rs.length + 1) cp } (fun _ => False) (fun _ => False) := by
  have hs1 := hb.size
  have hs2 := hg.size
  have hk : ∀ b, b < w.heap.size → c.v3.ownBlock ≠ some b → b ≠ q → (w2.setCell ⟨q, 3, none⟩ (.slice (some ⟨g, 0, none⟩) (s.rs.length + 1) cp)).heap[b]? = w.heap[b]? := fun b h1 h2 h3 => (blk_setCell_other _ _ _ _ (by show b ≠ q; exact h3)).trans ((hg.block b (by omega) (fun e => h2 e.symm)).trans (hb.block b h1))
  have hvq : c.v3.ownBlock ≠ some q := fun e => own_box h.r h.bx (fun e => h.ty.2.1 e.symm) e rfl
  have hql := h.bx.lt
  have hbx2 : Box w2 q ty [.int .i64 s.n, c.v1, c.v2, c.v3, c.v4, c.v5] := h.bx.keep ((hg.block q (by omega) (fun e => hvq e.symm)).trans (hb.block q hql))
  have hgq : g ≠ q := fun e => own_box ho hbx2 (fun e => h.ty.2.1 e.symm) (b := g) rfl e
  have hL : (s.rs ++ [x]).length = s.rs.length + 1 := by simp
  have he : (w2.setCell ⟨q, 3, none⟩ (.slice (some ⟨g, 0, none⟩) (s.rs.length + 1) cp)).ownsRow A 74 3 c.v1 s.es.length (edL s.es) := own_keep1 h.e (fun b hb => hk b (World.ownsRow.lt h.e b hb).2 (fun e2 => own_apart h.e h.r (by decide) e2 hb) (own_box h.e h.bx (fun e => h.ty.1 e.symm) hb))
  have hd : (w2.setCell ⟨q, 3, none⟩ (.slice (some ⟨g, 0, none⟩) (s.rs.length + 1) cp)).ownsRow A 33 2 c.v2 s.ds.length (spL s.ds) := own_keep1 h.d (fun b hb => hk b (World.ownsRow.lt h.d b hb).2 (fun e2 => h.dr b hb e2) (own_box h.d h.bx (fun e => h.ty.2.1 e.symm) hb))
  have hr : (w2.setCell ⟨q, 3, none⟩ (.slice (some ⟨g, 0, none⟩) (s.rs.length + 1) cp)).ownsRow A 33 2 (.slice (some ⟨g, 0, none⟩) (s.rs.length + 1) cp) (s.rs ++ [x]).length (spL (s.rs ++ [x])) := by
    rw [hL, spL_app]
    exact own_keep1 ho (fun b hb => blk_setCell_other _ _ _ _ (by
      have hb : g = b := by simpa [Value.ownBlock] using hb
      show b ≠ q
      omega))
  have hdp : RRv (w2.setCell ⟨q, 3, none⟩ (.slice (some ⟨g, 0, none⟩) (s.rs.length + 1) cp)) A s.dp c.v4 c.D := h.dp.keep (fun b hb => hk b (World.ownsRow.lt h.dp.out b hb).2 (fun e2 => own_apart h.dp.out h.r (by decide) e2 hb) (own_box h.dp.out h.bx (fun e => h.ty.2.2.1 e.symm) hb)) (fun i hi b hb => hk b (World.ownsRow.lt (h.dp.row i hi) b hb).2 (fun e2 => own_apart (h.dp.row i hi) h.r (by decide) e2 hb) (own_box (h.dp.row i hi) h.bx (fun e => h.ty.2.2.2 e.symm) hb))
  have hrp : RRv (w2.setCell ⟨q, 3, none⟩ (.slice (some ⟨g, 0, none⟩) (s.rs.length + 1) cp)) A s.rp c.v5 c.R := h.rp.keep (fun b hb => hk b (World.ownsRow.lt h.rp.out b hb).2 (fun e2 => own_apart h.rp.out h.r (by decide) e2 hb) (own_box h.rp.out h.bx (fun e => h.ty.2.2.1 e.symm) hb)) (fun i hi b hb => hk b (World.ownsRow.lt (h.rp.row i hi) b hb).2 (fun e2 => own_apart (h.rp.row i hi) h.r (by decide) e2 hb) (own_box (h.rp.row i hi) h.bx (fun e => h.ty.2.2.2 e.symm) hb))
  have hdr : ∀ b, c.v2.ownBlock = some b → (Value.slice (some ⟨g, 0, none⟩) (s.rs.length + 1) cp).ownBlock ≠ some b := fun b e2 hb => by
    have hb : g = b := by simpa [Value.ownBlock] using hb
    subst hb
    have := (World.ownsRow.lt h.d g e2).2
    exact hat.elim (fun e => h.dr g e2 e) (fun e => by omega)
  refine ⟨⟨by simpa using hbx2.set 3 (.slice (some ⟨g, 0, none⟩) (s.rs.length + 1) cp), he, hd, hr, hdp, hrp, hdr, h.pp, h.px, h.hq, h.ty⟩, ⟨hg.os.trans hb.os, hg.tape.trans hb.tape, hg.output.trans hb.output, by simp; omega, fun b h1 h2 => hk b h1 (fun e => h2 (.inl (.inr (.inr (.inr (.inl e)))))) (fun e => h2 (.inl (.inl e)))⟩, fun b hb => ?_⟩
  rcases hb with e | e | e | e | e | e | e | e
  · exact .inl (.inl e)
  · exact .inl (.inr (.inl e))
  · exact .inl (.inr (.inr (.inl e)))
  · have e : g = b := by simpa [Value.ownBlock] using e
    subst e
    exact hat.elim (fun e => .inl (.inr (.inr (.inr (.inl e))))) (fun e => .inr (.inr e))
  · exact .inl (.inr (.inr (.inr (.inr (.inl e)))))
  · exact .inl (.inr (.inr (.inr (.inr (.inr (.inl e))))))
  · exact .inl (.inr (.inr (.inr (.inr (.inr (.inr (.inl e)))))))
  · exact .inl (.inr (.inr (.inr (.inr (.inr (.inr (.inr e)))))))
end Go.Proofs.Ytledclkmeikgdaa
